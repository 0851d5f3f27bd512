/- The library's contracts, laid at this program: the table of numbers, and one fact a field. No condition. Rows that a call builds, of elements of several cells. No condition. -/
import Derived.Test.YtnddmlgnngdaoaaGreatDoorRows
import Derived.Test.YtnddmlgnngdaoaaGreatDoorQsag
namespace Go.Proofs.YtnddmlgnngdaoaaGreatDoor
section
open Go.Shelf Go.Proofs
def Tryz.laysM171_ren:Go.Shelf.Ren:=⟨fun | 171=>23 | 243=>40 | 246=>64 | 283=>95 | 284=>96 | 285=>97 | 286=>98 | 129=>146 | 317=>145 | 318=>147 | 319=>148 | 320=>149 | 337=>184 | 338=>185 | n=>n,fun | 3=>3 | 9=>9 | 2=>2 | 4=>4 | 171=>186 | 0=>0 | 53=>155 | 37=>22 | 5=>5 | 173=>189 | 212=>232 | 51=>134 | 20=>20 | 213=>233 | 46=>191 | 232=>270 | 233=>271 | n=>n,fun | 17=>2 | 18=>4 | 19=>5 | n=>n⟩
theorem Tryz.laysM171:Go.Proofs.LaysM.n171 Tryz.prog Tryz.laysM171_ren:={
 mixed:=by kernel_rfl
 f129:=Tryz.func146.trans (congrArg some (by kernel_rfl))
 f171:=Tryz.func23.trans (congrArg some (by kernel_rfl))
 f243:=Tryz.func40.trans (congrArg some (by kernel_rfl))
 f246:=Tryz.func64.trans (congrArg some (by kernel_rfl))
 f283:=Tryz.func95.trans (congrArg some (by kernel_rfl))
 f284:=Tryz.func96.trans (congrArg some (by kernel_rfl))
 f285:=Tryz.func97.trans (congrArg some (by kernel_rfl))
 f286:=Tryz.func98.trans (congrArg some (by kernel_rfl))
 f317:=Tryz.func145.trans (congrArg some (by kernel_rfl))
 f318:=Tryz.func147.trans (congrArg some (by kernel_rfl))
 f319:=Tryz.func148.trans (congrArg some (by kernel_rfl))
 f320:=Tryz.func149.trans (congrArg some (by kernel_rfl))
 f337:=Tryz.func184.trans (congrArg some (by kernel_rfl))
 f338:=Tryz.func185.trans (congrArg some (by kernel_rfl))
 t0:=Tryz.underlying0
 a0:=Tryz.isAgg0
 z0:=Tryz.sizeOf0
 v0:=Tryz.zeroValue0
 t2:=Tryz.underlying2
 a2:=Tryz.isAgg2
 z2:=Tryz.sizeOf2
 v2:=Tryz.zeroValue2
 t3:=Tryz.underlying3
 a3:=Tryz.isAgg3
 z3:=Tryz.sizeOf3
 v3:=Tryz.zeroValue3
 t4:=Tryz.underlying4
 a4:=Tryz.isAgg4
 z4:=Tryz.sizeOf4
 v4:=Tryz.zeroValue4
 t5:=Tryz.underlying5
 a5:=Tryz.isAgg5
 z5:=Tryz.sizeOf5
 v5:=Tryz.zeroValue5
 t9:=Tryz.underlying9
 a9:=Tryz.isAgg9
 z9:=Tryz.sizeOf9
 v9:=Tryz.zeroValue9
 t20:=Tryz.underlying20
 a20:=Tryz.isAgg20
 z20:=Tryz.sizeOf20
 v20:=Tryz.zeroValue20
 t37:=Tryz.underlying22
 a37:=Tryz.isAgg22
 z37:=Tryz.sizeOf22
 v37:=Tryz.zeroValue22
 t46:=Tryz.underlying191
 a46:=Tryz.isAgg191
 z46:=Tryz.sizeOf191
 v46:=Tryz.zeroValue191
 t51:=Tryz.underlying134
 a51:=Tryz.isAgg134
 z51:=Tryz.sizeOf134
 v51:=Tryz.zeroValue134
 t53:=Tryz.underlying155
 a53:=Tryz.isAgg155
 z53:=Tryz.sizeOf155
 v53:=Tryz.zeroValue155
 t171:=Tryz.underlying186
 a171:=Tryz.isAgg186
 z171:=Tryz.sizeOf186
 v171:=Tryz.zeroValue186
 t173:=Tryz.underlying189
 a173:=Tryz.isAgg189
 z173:=Tryz.sizeOf189
 v173:=Tryz.zeroValue189
 t212:=Tryz.underlying232
 a212:=Tryz.isAgg232
 z212:=Tryz.sizeOf232
 v212:=Tryz.zeroValue232
 t213:=Tryz.underlying233
 a213:=Tryz.isAgg233
 z213:=Tryz.sizeOf233
 t232:=Tryz.underlying270
 a232:=Tryz.isAgg270
 z232:=Tryz.sizeOf270
 v232:=Tryz.zeroValue270
 t233:=Tryz.underlying271
 a233:=Tryz.isAgg271
 z233:=Tryz.sizeOf271
 v233:=Tryz.zeroValue271
 g17:=by kernel_rfl
 g18:=by kernel_rfl
 g19:=by kernel_rfl
 i0:=by kernel_rfl
 i2:=by kernel_rfl
 i3:=by kernel_rfl
 i4:=by kernel_rfl
 i5:=by kernel_rfl
 i9:=by kernel_rfl
 i20:=by kernel_rfl
 i37:=by kernel_rfl
 i46:=by kernel_rfl
 i51:=by kernel_rfl
 i53:=by kernel_rfl
 i171:=by kernel_rfl
 i173:=by kernel_rfl
 i212:=by kernel_rfl
 i232:=by kernel_rfl
 i233:=by kernel_rfl
 m17:=by kernel_rfl
 m18:=by kernel_rfl
 m19:=by kernel_rfl }
open Go.RowKit Go.Sort Go.Lib in
theorem Tryz.strconv_Itoa (n : Int) (h0 : -9223372036854775808 ≤ n) (h1 : n ≤ 9223372036854775807) (w : World) (htab : Lib.TabIs Tryz.prog w "internal/strconv.uint64pow10" .u64 Lib.pow10Tab) :
  Calls Tryz.prog 23 #[.int .i64 n] w fun e w'=>e=.returned (.string ⟨(Lib.itoa n).toArray⟩)∧∃ k os,w'=grow (w.drewN k) os:=Any.strconv_Itoa Tryz.laysM171 n h0 h1 w htab
end
section
open Go.RowKit
structure Told (w W:World) (e:TypeId) (size:Nat) (v:Value) (n:Nat) (xs:List Value):Prop where
 own:W.ownsRow w.heap.size e size v n xs
 bel:Below w.heap.size w W
theorem Told.start (w W:World) (e:TypeId) (size:Nat) (hb:Below w.heap.size w W):Told w W e size (.slice none 0 0) 0 []:=⟨World.ownsRow_nil _ _ _ _,hb⟩
theorem Told.snoc {w W W':World} {e:TypeId} {size:Nat} {v:Value} {n:Nat} {xs:List Value} {o:Obj} (h:Told w W e size v n xs) {g cap m:Nat} {ys:List Value}
  (ho:W'.ownsRow w.heap.size e size (.slice (some ⟨g,0,none⟩) m cap) m ys) (hg:(W.alloc o).grownBy W' v.ownBlock):Told w W' e size (.slice (some ⟨g,0,none⟩) m cap) m ys :=
 ⟨ho,below_grown (h.bel.alloc h.bel.size o) hg (fun k hk=>own_ge h.own k hk) (by have:=h.bel.size;simp;omega)⟩
theorem Told.below {w W W':World} {e:TypeId} {size:Nat} {v:Value} {n:Nat} {xs:List Value} (h:Told w W e size v n xs) (hb:Below W.heap.size W W'):Told w W' e size v n xs :=
 ⟨ownsRow_below h.own hb,h.bel.trans (hb.mono h.bel.size)⟩
theorem own_mono {w:World} {base base':Nat} {e:TypeId} {size:Nat} {v:Value} {n:Nat} {xs:List Value} (h:w.ownsRow base e size v n xs) (hb:base'≤base):w.ownsRow base' e size v n xs:=by
 refine ⟨h.1,?_⟩
 rcases h.2 with h2 | ⟨g,cap,cur,hv,hg,r⟩
 ·exact Or.inl h2
 ·exact Or.inr ⟨g,cap,cur,hv,Nat.le_trans hb hg,r⟩
structure RS {α:Type} (f:α→List Value) (k:Nat) (w:World) (va:Option Addr) (g:Nat) (l:List α):Prop where
 addr:0 < l.length→va=some ⟨g,0,none⟩
 row:∀ i (h:i < l.length) j,j < k→w.cell? ⟨g,i * k+j,none⟩=(f l[i])[j]?
theorem RS.below {α:Type} {f:α→List Value} {k:Nat} {w w':World} {va:Option Addr} {g B:Nat} {l:List α} (h:RS f k w va g l) (hf:∀ x,(f x).length=k) (hb:Below B w w') (hB:w.heap.size≤B):RS f k w' va g l :=
 ⟨h.addr,fun i hi j hj=>by
  have h1:=h.row i hi j hj
  have h2:(f l[i])[j]?=some ((f l[i])[j]'(by rw [hf];exact hj)):=List.getElem?_eq_getElem _
  rw [h2] at h1 ⊢
  exact (hb.cell (p:=⟨g,i * k+j,none⟩) (Nat.lt_of_lt_of_le (World.block_lt_of_cell? _ _ h1) hB)).trans h1⟩
theorem flatten_get {α:Type} (f:α→List Value) (k:Nat) (hf:∀ x,(f x).length=k) (l:List α):∀ i (h:i < l.length) j,j < k→((l.map f).flatten)[i * k+j]?=(f l[i])[j]?:=by
 induction l with
 | nil=>intro i h;exact absurd h (Nat.not_lt_zero _)
 | cons x l ih =>
  intro i h j hj
  rw [List.map_cons,List.flatten_cons]
  cases i with
  | zero =>
   rw [Nat.zero_mul,Nat.zero_add,List.getElem?_append_left (by rw [hf];exact hj)];rfl
  | succ i =>
   have e:(i+1) * k+j=(f x).length+(i * k+j):=by rw [hf,Nat.succ_mul];omega
   rw [e,List.getElem?_append_right (by omega),Nat.add_sub_cancel_left]
   exact ih i (by simpa using h) j hj
theorem own_rs {α:Type} {f:α→List Value} {k:Nat} (hf:∀ x,(f x).length=k) {w:World} {base:Nat} {e:TypeId} {v:Value} {l:List α} (h:w.ownsRow base e k v l.length (l.map f).flatten):∃ va g cap,v=.slice va l.length cap∧RS f k w va g l∧(0 < l.length→base≤g)∧l.length≤cap:=by
 rcases h.2 with ⟨hv,hn⟩ | ⟨g,cap,cur,hv,hg,hh,hc,r⟩
 ·have:l=[]:=List.length_eq_zero_iff.1 hn
  subst this
  exact ⟨none,0,0,hv,⟨fun h=>absurd h (Nat.lt_irrefl _),fun i hi=>absurd hi (Nat.not_lt_zero _)⟩,fun h=>absurd h (Nat.lt_irrefl _),Nat.le_refl _⟩
 ·refine ⟨_,g,cap,hv,⟨fun _=>rfl,fun i hi j hj=>?_⟩,fun _=>hg,hc⟩
  have hcs:=h.cells (g:=g) (by rw [hv];rfl)
  have h1:=flatten_get f k hf l i hi j hj
  have h2:(f l[i])[j]?=some ((f l[i])[j]'(by rw [hf];exact hj)):=List.getElem?_eq_getElem _
  rw [h2] at h1 ⊢
  have:=hcs _ _ h1
  rwa [Go.WideShapes.add_plain,Nat.zero_add] at this
end
end Go.Proofs.YtnddmlgnngdaoaaGreatDoor
