/- Rows that a call builds, of elements of several cells. No condition. -/
import Derived.Test.YtdningnhbplfiaaGreatRows
import Derived.Test.YtdningnhbplfiaaGreatQrab
namespace Go.Proofs.YtdningnhbplfiaaGreat
section
open Go.RowKit
structure Told (w W:World) (e:TypeId) (size:Nat) (v:Value) (n:Nat) (xs:List Value):Prop where
 own:W.ownsRow w.heap.size e size v n xs
 bel:Below w.heap.size w W
theorem Told.start (w W:World) (e:TypeId) (size:Nat) (hb:Below w.heap.size w W):Told w W e size (.slice none 0 0) 0 []:=⟨World.ownsRow_nil _ _ _ _,hb⟩
theorem Told.snoc {w W W':World} {e:TypeId} {size:Nat} {v:Value} {n:Nat} {xs:List Value} {o:Obj} (h:Told w W e size v n xs) {g cap m:Nat} {ys:List Value}
  (ho:W'.ownsRow w.heap.size e size (.slice (some ⟨g,0,none⟩) m cap) m ys) (hg:(W.alloc o).grownBy W' v.ownBlock):Told w W' e size (.slice (some ⟨g,0,none⟩) m cap) m ys :=
 ⟨ho,below_grown (h.bel.alloc h.bel.size o) hg (fun k hk=>own_ge h.own k hk) (by have:=h.bel.size;simp;omega)⟩
theorem Told.below {w W W':World} {e:TypeId} {size:Nat} {v:Value} {n:Nat} {xs:List Value} (h:Told w W e size v n xs) (hb:Below W.heap.size W W'):Told w W' e size v n xs :=
 ⟨ownsRow_below h.own hb,h.bel.trans (hb.mono h.bel.size)⟩
theorem own_mono {w:World} {base base':Nat} {e:TypeId} {size:Nat} {v:Value} {n:Nat} {xs:List Value} (h:w.ownsRow base e size v n xs) (hb:base'≤base):w.ownsRow base' e size v n xs:=by
 refine ⟨h.1,?_⟩
 rcases h.2 with h2 | ⟨g,cap,cur,hv,hg,r⟩
 ·exact Or.inl h2
 ·exact Or.inr ⟨g,cap,cur,hv,Nat.le_trans hb hg,r⟩
structure RS {α:Type} (f:α→List Value) (k:Nat) (w:World) (va:Option Addr) (g:Nat) (l:List α):Prop where
 addr:0 < l.length→va=some ⟨g,0,none⟩
 row:∀ i (h:i < l.length) j,j < k→w.cell? ⟨g,i * k+j,none⟩=(f l[i])[j]?
theorem RS.below {α:Type} {f:α→List Value} {k:Nat} {w w':World} {va:Option Addr} {g B:Nat} {l:List α} (h:RS f k w va g l) (hf:∀ x,(f x).length=k) (hb:Below B w w') (hB:w.heap.size≤B):RS f k w' va g l :=
 ⟨h.addr,fun i hi j hj=>by
  have h1:=h.row i hi j hj
  have h2:(f l[i])[j]?=some ((f l[i])[j]'(by rw [hf];exact hj)):=List.getElem?_eq_getElem _
  rw [h2] at h1 ⊢
  exact (hb.cell (p:=⟨g,i * k+j,none⟩) (Nat.lt_of_lt_of_le (World.block_lt_of_cell? _ _ h1) hB)).trans h1⟩
theorem flatten_get {α:Type} (f:α→List Value) (k:Nat) (hf:∀ x,(f x).length=k) (l:List α):∀ i (h:i < l.length) j,j < k→((l.map f).flatten)[i * k+j]?=(f l[i])[j]?:=by
 induction l with
 | nil=>intro i h;exact absurd h (Nat.not_lt_zero _)
 | cons x l ih =>
  intro i h j hj
  rw [List.map_cons,List.flatten_cons]
  cases i with
  | zero =>
   rw [Nat.zero_mul,Nat.zero_add,List.getElem?_append_left (by rw [hf];exact hj)];rfl
  | succ i =>
   have e:(i+1) * k+j=(f x).length+(i * k+j):=by rw [hf,Nat.succ_mul];omega
   rw [e,List.getElem?_append_right (by omega),Nat.add_sub_cancel_left]
   exact ih i (by simpa using h) j hj
theorem own_rs {α:Type} {f:α→List Value} {k:Nat} (hf:∀ x,(f x).length=k) {w:World} {base:Nat} {e:TypeId} {v:Value} {l:List α} (h:w.ownsRow base e k v l.length (l.map f).flatten):∃ va g cap,v=.slice va l.length cap∧RS f k w va g l∧(0 < l.length→base≤g)∧l.length≤cap:=by
 rcases h.2 with ⟨hv,hn⟩ | ⟨g,cap,cur,hv,hg,hh,hc,r⟩
 ·have:l=[]:=List.length_eq_zero_iff.1 hn
  subst this
  exact ⟨none,0,0,hv,⟨fun h=>absurd h (Nat.lt_irrefl _),fun i hi=>absurd hi (Nat.not_lt_zero _)⟩,fun h=>absurd h (Nat.lt_irrefl _),Nat.le_refl _⟩
 ·refine ⟨_,g,cap,hv,⟨fun _=>rfl,fun i hi j hj=>?_⟩,fun _=>hg,hc⟩
  have hcs:=h.cells (g:=g) (by rw [hv];rfl)
  have h1:=flatten_get f k hf l i hi j hj
  have h2:(f l[i])[j]?=some ((f l[i])[j]'(by rw [hf];exact hj)):=List.getElem?_eq_getElem _
  rw [h2] at h1 ⊢
  have:=hcs _ _ h1
  rwa [Go.WideShapes.add_plain,Nat.zero_add] at this
end
end Go.Proofs.YtdningnhbplfiaaGreat
