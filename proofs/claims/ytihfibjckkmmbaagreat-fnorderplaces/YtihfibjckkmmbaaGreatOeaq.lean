/- A program that is being read: its threads in rows of the call's own, no two of them in one. No condition. Structs and arrays of many cells, made, stored and read as one. No condition. Rows that a call builds, of elements of several cells. No condition. -/
import Derived.BigQuiet
import Derived.Deep.AppendLies
import Derived.Deep.MidRow
import Derived.Deep.QuietTactic
import Derived.Deep.RegionHeld3
import Derived.Deep.RegionWith
import Derived.Deep.WholeRow
import Derived.Laws.OwnMore
import Derived.Sort.Grow
import Derived.WalkKit
import Derived.WalkLawsBesides
import Derived.WalkSpells
import Derived.Test.YtihfibjckkmmbaaGreatRows
import Derived.Test.YtihfibjckkmmbaaGreatOeao
namespace Go.Proofs.YtihfibjckkmmbaaGreat
open Go.RowKit
structure Rdg (w:World) (B:Nat) (v:Value) (ll:List (List M.D)) (vs:List Value):Prop where
 b:Build w B v ll vs
 ap:∀ i j (hi:i < vs.length) (hj:j < vs.length),i≠j→∀ k,vs[i].ownBlock=some k→vs[j].ownBlock≠some k
theorem Rdg.below {w w':World} {B:Nat} {v:Value} {ll:List (List M.D)} {vs:List Value} (h:Rdg w B v ll vs) (hb:Below w.heap.size w w'):Rdg w' B v ll vs :=
 ⟨⟨ownsRow_below h.b.outer hb,h.b.len,fun i h1 h2=>ownsRow_below (h.b.inner i h1 h2) hb⟩,h.ap⟩
theorem Rdg.far {w:World} {B:Nat} {v:Value} {ll:List (List M.D)} {vs:List Value} (h:Rdg w B v ll vs) {b i:Nat} (hb:b < B) (u:Value):Rdg (w.setCell ⟨b,i,none⟩ u) B v ll vs:=⟨h.b.far hb u,h.ap⟩
theorem Rdg.nil (w:World) (B:Nat):Rdg w B (.slice none 0 0) [] []:=⟨Build.nil w B,fun _ _ h=>absurd h (Nat.not_lt_zero _)⟩
theorem Rdg.mono {w:World} {B B':Nat} {v:Value} {ll:List (List M.D)} {vs:List Value} (h:Rdg w B v ll vs) (hB:B'≤B):Rdg w B' v ll vs:=⟨h.b.mono hB,h.ap⟩
theorem Rdg.snocT {w w':World} {B:Nat} {v v' x:Value} {ll:List (List M.D)} {vs:List Value} {l:List M.D} (h:Rdg w B v ll vs) (hx:w.ownsRow B 56 3 x l.length (flat l)) (hap:∀ i (hi:i < vs.length) k,vs[i].ownBlock=some k→x.ownBlock≠some k)
  (ho:w'.ownsRow B 53 1 v' (ll.length+1) (vs++[x])) (hg:w.grownBy w' v.ownBlock):Rdg w' B v' (ll++[l]) (vs++[x]):=by
 refine ⟨h.b.snoc hx ho hg,fun i j hi hj hne k hk=>?_⟩
 by_cases h1:i < vs.length
 ·rw [List.getElem_append_left h1] at hk
  by_cases h2:j < vs.length
  ·rw [List.getElem_append_left h2]
   exact h.ap i j h1 h2 hne k hk
  ·rw [List.getElem_append_right (by omega)]
   have:j - vs.length=0:=by simp at hj;omega
   simp only [this,List.getElem_cons_zero]
   exact hap i h1 k hk
 ·rw [List.getElem_append_right (by omega)] at hk
  have:i - vs.length=0:=by simp at hi;omega
  simp only [this,List.getElem_cons_zero] at hk
  have h2:j < vs.length:=by simp at hi hj;omega
  rw [List.getElem_append_left h2]
  exact fun e=>hap j h2 k e hk
end Go.Proofs.YtihfibjckkmmbaaGreat
namespace Go.Proofs.YtihfibjckkmmbaaGreat
open Go.RowKit
theorem takeD {P:Program} {md:Region.Mode} {ops:Array Oper} {Q:Exit→Act→World→Prop} {S:World→Prop} (i:Nat) {oi:Oper} (d:Option Tmp) (v:Value) {fuel:Nat} {listed:Array Bool} {a:Act} {w:World} (hS:S w) (hi:ops[i]?=some oi) (hd:oi.dst=d)
  (hs:Region.noSelect ops=true) (hf:Region.free md ops listed i=true) (hr:(Region.ready md ops listed).contains i=true)
  (hQ:∀ c a w,Q (.panic c) (a.put d v) w→Q (.panic c) a w) (hy:YieldsIf P ops S oi v a)
  (h:wpAnyH P md ops Q S fuel (listed.setIfInBounds i true) (a.put d v) w):wpAnyH P md ops Q S (fuel+1) listed a w:=by
 subst hd
 exact wpAnyH_take hi hs hf hr hQ hy hS h
theorem wpList_alloc_row {P:Program} {w:World} {ops:Array Oper} {rest:List Oper} {op:Oper} {a:Act} {Q:Exit→Act→World→Prop} (hgd:op.guard=none) (ty:TypeId) (ho:op.op=.alloc ty)
  (z:Array Value) (hz:∀ w,(zeroValue ty).run P w=.ok (.agg z) w)
  (h:wpList P ops Q rest (a.put op.dst (.pointer (some ⟨w.heap.size,0,none⟩))) (w.alloc (.cells z ty))):wpList P ops Q (op::rest) a w:=by
 refine wpList_plain hgd fun _ hK=>?_
 unfold Oper.wp execOp
 simp [ho,Instr.alloc,hz,newVar,Value.cells]
 exact hK _ _ h
theorem wpList_store_new {P:Program} {w:World} {ops:Array Oper} {rest:List Oper} {op:Oper} {a:Act} {Q:Exit→Act→World→Prop} (hgd:op.guard=none) (ty:TypeId) (x y:Operand) (ho:op.op=.store ty x y)
  (c c':Array Value) (hx:a.eval x=.pointer (some ⟨w.heap.size,0,none⟩)) (hy:a.eval y=.agg c') (hi:(P.info? ty).map (·.size)=some c'.size) (hs:c.size=c'.size) (h1:c'.all (·.oneCell')=true)
  (h:wpList P ops Q rest (a.put op.dst undef) (w.alloc (.cells c' ty))):wpList P ops Q (op::rest) a (w.alloc (.cells c ty)):=by
 refine wpList_plain hgd fun _ hK=>?_
 unfold Oper.wp execOp
 simp only [ho,hx,hy,Sem.run_bind,Sem.run_pure,Result.andThen_ok,run_storeAt_new (P:=P) w ty c c' hi hs h1]
 exact hK _ _ h
end Go.Proofs.YtihfibjckkmmbaaGreat
namespace Go.Proofs.YtihfibjckkmmbaaGreat
open Go.RowKit
structure Told (w W:World) (e:TypeId) (size:Nat) (v:Value) (n:Nat) (xs:List Value):Prop where
 own:W.ownsRow w.heap.size e size v n xs
 bel:Below w.heap.size w W
theorem Told.start (w W:World) (e:TypeId) (size:Nat) (hb:Below w.heap.size w W):Told w W e size (.slice none 0 0) 0 []:=⟨World.ownsRow_nil _ _ _ _,hb⟩
theorem Told.snoc {w W W':World} {e:TypeId} {size:Nat} {v:Value} {n:Nat} {xs:List Value} {o:Obj} (h:Told w W e size v n xs) {g cap m:Nat} {ys:List Value}
  (ho:W'.ownsRow w.heap.size e size (.slice (some ⟨g,0,none⟩) m cap) m ys) (hg:(W.alloc o).grownBy W' v.ownBlock):Told w W' e size (.slice (some ⟨g,0,none⟩) m cap) m ys :=
 ⟨ho,below_grown (h.bel.alloc h.bel.size o) hg (fun k hk=>own_ge h.own k hk) (by have:=h.bel.size;simp;omega)⟩
theorem Told.below {w W W':World} {e:TypeId} {size:Nat} {v:Value} {n:Nat} {xs:List Value} (h:Told w W e size v n xs) (hb:Below W.heap.size W W'):Told w W' e size v n xs :=
 ⟨ownsRow_below h.own hb,h.bel.trans (hb.mono h.bel.size)⟩
theorem own_mono {w:World} {base base':Nat} {e:TypeId} {size:Nat} {v:Value} {n:Nat} {xs:List Value} (h:w.ownsRow base e size v n xs) (hb:base'≤base):w.ownsRow base' e size v n xs:=by
 refine ⟨h.1,?_⟩
 rcases h.2 with h2 | ⟨g,cap,cur,hv,hg,r⟩
 ·exact Or.inl h2
 ·exact Or.inr ⟨g,cap,cur,hv,Nat.le_trans hb hg,r⟩
structure RS {α:Type} (f:α→List Value) (k:Nat) (w:World) (va:Option Addr) (g:Nat) (l:List α):Prop where
 addr:0 < l.length→va=some ⟨g,0,none⟩
 row:∀ i (h:i < l.length) j,j < k→w.cell? ⟨g,i * k+j,none⟩=(f l[i])[j]?
theorem RS.below {α:Type} {f:α→List Value} {k:Nat} {w w':World} {va:Option Addr} {g B:Nat} {l:List α} (h:RS f k w va g l) (hf:∀ x,(f x).length=k) (hb:Below B w w') (hB:w.heap.size≤B):RS f k w' va g l :=
 ⟨h.addr,fun i hi j hj=>by
  have h1:=h.row i hi j hj
  have h2:(f l[i])[j]?=some ((f l[i])[j]'(by rw [hf];exact hj)):=List.getElem?_eq_getElem _
  rw [h2] at h1 ⊢
  exact (hb.cell (p:=⟨g,i * k+j,none⟩) (Nat.lt_of_lt_of_le (World.block_lt_of_cell? _ _ h1) hB)).trans h1⟩
theorem flatten_get {α:Type} (f:α→List Value) (k:Nat) (hf:∀ x,(f x).length=k) (l:List α):∀ i (h:i < l.length) j,j < k→((l.map f).flatten)[i * k+j]?=(f l[i])[j]?:=by
 induction l with
 | nil=>intro i h;exact absurd h (Nat.not_lt_zero _)
 | cons x l ih =>
  intro i h j hj
  rw [List.map_cons,List.flatten_cons]
  cases i with
  | zero =>
   rw [Nat.zero_mul,Nat.zero_add,List.getElem?_append_left (by rw [hf];exact hj)];rfl
  | succ i =>
   have e:(i+1) * k+j=(f x).length+(i * k+j):=by rw [hf,Nat.succ_mul];omega
   rw [e,List.getElem?_append_right (by omega),Nat.add_sub_cancel_left]
   exact ih i (by simpa using h) j hj
theorem own_rs {α:Type} {f:α→List Value} {k:Nat} (hf:∀ x,(f x).length=k) {w:World} {base:Nat} {e:TypeId} {v:Value} {l:List α} (h:w.ownsRow base e k v l.length (l.map f).flatten):∃ va g cap,v=.slice va l.length cap∧RS f k w va g l∧(0 < l.length→base≤g)∧l.length≤cap:=by
 rcases h.2 with ⟨hv,hn⟩ | ⟨g,cap,cur,hv,hg,hh,hc,r⟩
 ·have:l=[]:=List.length_eq_zero_iff.1 hn
  subst this
  exact ⟨none,0,0,hv,⟨fun h=>absurd h (Nat.lt_irrefl _),fun i hi=>absurd hi (Nat.not_lt_zero _)⟩,fun h=>absurd h (Nat.lt_irrefl _),Nat.le_refl _⟩
 ·refine ⟨_,g,cap,hv,⟨fun _=>rfl,fun i hi j hj=>?_⟩,fun _=>hg,hc⟩
  have hcs:=h.cells (g:=g) (by rw [hv];rfl)
  have h1:=flatten_get f k hf l i hi j hj
  have h2:(f l[i])[j]?=some ((f l[i])[j]'(by rw [hf];exact hj)):=List.getElem?_eq_getElem _
  rw [h2] at h1 ⊢
  have:=hcs _ _ h1
  rwa [Go.WideShapes.add_plain,Nat.zero_add] at this
end Go.Proofs.YtihfibjckkmmbaaGreat
