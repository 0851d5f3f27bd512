/- impl.newList of numbers: a row of its own. Of at most 1048576 numbers. A call of a Go function, met by its contract, as one step of a region that draws its order. No condition. impl.OrderHas: what must be ahead of what by itself. Of at most 1048576 threads, steps, numbers and rows. -/
import Derived.Deep.AppendLies
import Derived.Deep.RegionLaw
import Derived.Shelf.Abstract
import Derived.Test.YtphijhpleemjoaaGreatBFab
import Derived.Test.YtphijhpleemjoaaGreatBFaf
import Derived.Test.YtphijhpleemjoaaGreatBFan
import Derived.Test.YtphijhpleemjoaaGreatBFaq
import Derived.Test.YtphijhpleemjoaaGreatBFas
namespace Go.Proofs.YtphijhpleemjoaaGreat
open Go.RowKit
theorem nums_cells {w : World} {b o : Nat} {l : List Int} {sa : Option Addr} (h : IntS w sa b o l) : ∀ (j : Nat) (u : Value), (nums l)[j]? = some u → w.cell? ((⟨b, o, none⟩ : Addr).add j) = some u := by
 intro j u hj
 have hjl : j < l.length := by
  have := (List.getElem?_eq_some_iff.1 hj).1
  simpa [nums] using this
 rw [Go.WideShapes.add_plain, h.row j hjl]
 simpa [nums, hjl] using hj
theorem nums_one (l : List Int) : ∀ u ∈ nums l, u.oneCell' = true := by intro u hu; simp [nums] at hu; obtain ⟨_, _, rfl⟩ := hu; rfl
set_option maxHeartbeats 1000000 in
set_option maxRecDepth 100000 in
theorem newListO_any (a : Option Addr) (b o c : Nat) (l : List Int) (w : World) (hl : l.length ≤ 1048576) (h : IntS w a b o l) :
  Calls Tryz.prog 122 #[.slice a l.length c] w fun e w' => ∃ v, e = .returned v ∧ w'.ownsRow w.heap.size 3 1 v l.length (nums l) ∧ Below w.heap.size w w' := by
 obtain ⟨i0, hi, hz0, hz1, hz2⟩ := info_parts Tryz.infoInt
 rcases Nat.eq_zero_or_pos l.length with h0 | hpos
 ·have hl0 : l = [] := List.length_eq_zero_iff.1 h0
  subst hl0
  rw [List.length_nil]
  go_enter Tryz.func122, Tryz.ntmps122
  go_wp2_with (at_builtin; refine wpList_append_nilT rfl (.const (.slice none 0 0)) (.tmp 3) 32 rfl 3 i0 Tryz.underlying32 hi rfl a c rfl ?_)
  go_wp2_with fail
  go_ret
  exact ⟨_, rfl, World.ownsRow_nil _ _ _ _, Below.refl _ _⟩
 ·obtain ⟨rfl⟩ := h.addr hpos
  go_enter Tryz.func122, Tryz.ntmps122
  go_wp2_with (at_builtin; refine wpList_append_lies _ rfl (.const (.slice none 0 0)) (.tmp 3) 32 rfl w.heap.size 3 i0 _ 1 8 Tryz.underlying32 hi hz0 hz1 hz2 rfl (by decide) _ 0 [] rfl (World.ownsRow_nil _ _ _ _) ⟨b, o, none⟩ l.length c (nums l) rfl (by simp [nums]) (nums_cells h) (nums_one l) hpos (by unfold maxLen; omega) (by omega) (Nat.le_refl _) w.heap.size rfl ?_)
  intro g cap w1 hown hg hat hlt
  have hb : Below w.heap.size w w1 := ⟨hg.os, hg.tape, hg.output, hg.size, fun k hk => hg.block k hk (fun e => by simp [Value.ownBlock] at e)⟩
  have hown' : w1.ownsRow w.heap.size 3 1 (.slice (some ⟨g, 0, none⟩) l.length cap) l.length (nums l) := by simpa using hown
  go_wp2_with fail
  go_ret
  exact ⟨_, by first | rfl | simp, hown', hb⟩
end Go.Proofs.YtphijhpleemjoaaGreat
namespace Go.Proofs.YtphijhpleemjoaaGreat
open Go.RowKit
theorem step_go {P : Program} {ops : Array Oper} {o : Oper} {a : Act} {w : World} {K : Act → World → Prop} {Q : Exit → Act → World → Prop} {E : Prop}
  (hg : o.guard = none) (f : FuncId) (os : Array Operand) (ts : Array TypeId) (hop : o.op = Op.call { callee := Callee.value (Operand.func f), args := os, argTypes := ts })
  (vals : Array Value) (hv : os.map a.eval = vals) (he : ∀ args w, (callFunc f args).run P w = .ok (.enter f args) w) {R : Ending → World → Prop} (hc : Calls P f vals w R)
  (hK : ∀ e w', R e w' → ∃ v, e = .returned v ∧ K (a.put o.dst v) w') :
  if Region.wanted o (yielded ops a.tmps) = true then Oper.wp P o a w K Q else E := by
 have hw : Region.wanted o (yielded ops a.tmps) = true := by simp [Region.wanted, hg]
 rw [if_pos hw]
 subst hv
 have hr : (execOp a.eval o).run P w = .ok (.enter f (os.map a.eval)) w := by
  simp [execOp, hop, resolve, invoke, Act.eval, Deferred.ofValue, he]
 unfold Oper.wp
 rw [hr, Oper.upon_enter]
 refine hc.mono fun e w' h => ?_
 obtain ⟨v, rfl, hk⟩ := hK e w' h
 exact hk
theorem step_go2 {P : Program} {ops : Array Oper} {o : Oper} {a : Act} {w : World} {K : Act → World → Prop} {Q : Exit → Act → World → Prop} {E : Prop}
  (hg : o.guard = none) (f : FuncId) (x y : Operand) (ts : Array TypeId) (hop : o.op = Op.call { callee := Callee.value (Operand.func f), args := #[x, y], argTypes := ts })
  (vx vy : Value) (hx : a.eval x = vx) (hy : a.eval y = vy) (he : ∀ args w, (callFunc f args).run P w = .ok (.enter f args) w) {R : Ending → World → Prop} (hc : Calls P f #[vx, vy] w R)
  (hK : ∀ e w', R e w' → ∃ v, e = .returned v ∧ K (a.put o.dst v) w') :
  if Region.wanted o (yielded ops a.tmps) = true then Oper.wp P o a w K Q else E :=
 step_go hg f #[x, y] ts hop #[vx, vy] (by simp [hx, hy]) he hc hK
theorem step_go3 {P : Program} {ops : Array Oper} {o : Oper} {a : Act} {w : World} {K : Act → World → Prop} {Q : Exit → Act → World → Prop} {E : Prop}
  (hg : o.guard = none) (f : FuncId) (x y z : Operand) (ts : Array TypeId) (hop : o.op = Op.call { callee := Callee.value (Operand.func f), args := #[x, y, z], argTypes := ts })
  (vx vy vz : Value) (hx : a.eval x = vx) (hy : a.eval y = vy) (hz : a.eval z = vz) (he : ∀ args w, (callFunc f args).run P w = .ok (.enter f args) w) {R : Ending → World → Prop} (hc : Calls P f #[vx, vy, vz] w R)
  (hK : ∀ e w', R e w' → ∃ v, e = .returned v ∧ K (a.put o.dst v) w') :
  if Region.wanted o (yielded ops a.tmps) = true then Oper.wp P o a w K Q else E :=
 step_go hg f #[x, y, z] ts hop #[vx, vy, vz] (by simp [hx, hy, hz]) he hc hK
end Go.Proofs.YtphijhpleemjoaaGreat
namespace Go.Proofs.YtphijhpleemjoaaGreat
open Go.RowKit
set_option maxHeartbeats 400000 in
theorem reasons0_any (w : World) : Calls Tryz.prog 141 #[.int .i64 0] w fun e w' => e = .returned (.agg #[.func (.func 179) #[] #[], .func (.func 180) #[] #[], .func (.func 181) #[] #[]]) ∧ Below w.heap.size w w' := by
 go_enter Tryz.func141, Tryz.ntmps141
 go_wp2_with fail
 refine bodyPost_ret (v := .agg #[.func (.func 179) #[] #[], .func (.func 180) #[] #[], .func (.func 181) #[] #[]]) (by simp [results, Tryz.results141, go_sem]) rfl ⟨rfl, ?_⟩
 exact below2 _ _ _
set_option maxHeartbeats 400000 in
theorem reasons1_any (w : World) : Calls Tryz.prog 141 #[.int .i64 1] w fun e w' => e = .returned (.agg #[.func (.func 182) #[] #[], .func (.func 180) #[] #[], .func (.func 181) #[] #[]]) ∧ Below w.heap.size w w' := by
 go_enter Tryz.func141, Tryz.ntmps141
 go_wp2_with fail
 refine bodyPost_ret (v := .agg #[.func (.func 182) #[] #[], .func (.func 180) #[] #[], .func (.func 181) #[] #[]]) (by simp [results, Tryz.results141, go_sem]) rfl ⟨rfl, ?_⟩
 exact below2 _ _ _
set_option maxHeartbeats 400000 in
theorem reasons2_any (w : World) : Calls Tryz.prog 141 #[.int .i64 2] w fun e w' => e = .returned (.agg #[.func (.func 183) #[] #[], .func (.func 184) #[] #[], .func (.func 181) #[] #[]]) ∧ Below w.heap.size w w' := by
 go_enter Tryz.func141, Tryz.ntmps141
 go_wp2_with fail
 refine bodyPost_ret (v := .agg #[.func (.func 183) #[] #[], .func (.func 184) #[] #[], .func (.func 181) #[] #[]]) (by simp [results, Tryz.results141, go_sem]) rfl ⟨rfl, ?_⟩
 exact below2 _ _ _
set_option maxHeartbeats 400000 in
theorem reasons3_any (w : World) : Calls Tryz.prog 141 #[.int .i64 3] w fun e w' => e = .returned (.agg #[.func (.func 185) #[] #[], .func (.func 184) #[] #[], .func (.func 186) #[] #[]]) ∧ Below w.heap.size w w' := by
 go_enter Tryz.func141, Tryz.ntmps141
 go_wp2_with fail
 refine bodyPost_ret (v := .agg #[.func (.func 185) #[] #[], .func (.func 184) #[] #[], .func (.func 186) #[] #[]]) (by simp [results, Tryz.results141, go_sem]) rfl ⟨rfl, ?_⟩
 exact below2 _ _ _
theorem isOrder_any (k : Int) (w : World) : Calls Tryz.prog 42 #[.int .i64 k] w fun e w' => e = .returned (.bool (decide (1 ≤ k) && decide (k ≤ 3))) ∧ w' = w := by
 by_cases h1 : 1 ≤ k
 ·go_enter Tryz.func42, Tryz.ntmps42
  go_wp2_with fail
  go_ret
  exact ⟨ret_bool (by simp [h1]), rfl⟩
 ·have h1' : decide (1 ≤ k) = false := by simpa using h1
  go_enter Tryz.func42, Tryz.ntmps42
  go_wp2_with fail
  go_ret
  exact ⟨ret_bool (by simp), rfl⟩
namespace M
def mustAt (ds : List De) (l : List Int) (rows : List (List Int)) (kind a b : Nat) : Bool := match ds[a]?, ds[b]? with | some x, some y => must ds l rows kind a b x y | _, _ => false
end M
theorem M.from_thr : ∀ (l : List (List M.D)) (a u : Nat), M.progFrom a u l = true → ∀ t ∈ l, M.thread t = true := by
 intro l
 induction l with
 | nil => intro a u _ t ht; cases ht
 | cons x l ih =>
  intro a u h t ht
  rw [M.progFrom] at h
  split at h
  ·rename_i hx
   rcases List.mem_cons.1 ht with rfl | ht
   ·exact hx
   ·exact ih _ _ h t ht
  ·cases h
theorem M.deed_u {ll : List (List M.D)} (h : M.prog ll = true) : ∀ x ∈ M.deeds ll, x.uses = true → 0 ≤ x.d.p ∧ x.d.p < 3 := by
 intro x hx hr
 have := M.deed_do h x hx
 simp only [M.doOk, Bool.and_eq_true, M.placeOk] at this
 have hv := this.1.2
 rw [if_pos (show M.uses x.d.k = true from hr)] at hv
 simpa using hv
structure M.Wok (ll : List (List M.D)) (l : List Int) (rows : List (List Int)) : Prop where
 prog : M.prog ll = true
 fro : M.fromOk (M.deeds ll) l = true
 len : Hid (l.length = (M.deeds ll).length)
 three : Hid (rows.length = 3)
 run : M.run false (M.deeds ll) = some false
 pl : ∀ x ∈ M.deeds ll, x.uses = true → 0 ≤ x.d.p ∧ x.d.p < 3
theorem M.wok_of {ll : List (List M.D)} {l : List Int} {rows : List (List Int)} (h : M.execOk ll l rows = true) : M.Wok ll l rows := by
 simp only [M.execOk, M.wayOk, Bool.and_eq_true] at h
 obtain ⟨hp, hf, ho, _⟩ := h
 have hlen : l.length = (M.deeds ll).length := by
  have := hf
  simp only [M.fromOk, Bool.and_eq_true, decide_eq_true_eq] at this
  exact this.1
 simp only [M.orderOk, Bool.and_eq_true, decide_eq_true_eq] at ho
 exact ⟨hp, hf, hlen, ho.1, M.run_ok (M.from_thr ll 0 0 (by have := hp; simp only [M.prog, Bool.and_eq_true] at this; exact this.2)), M.deed_u hp⟩
structure SlotE (w : World) (b : Nat) (x y z : Value) : Prop where
 blk : w.heap[b]? = some (.cells #[x, y, z] 76 (0, 0))
theorem SlotE.c0 {w : World} {b : Nat} {x y z : Value} (h : SlotE w b x y z) : w.cell? ⟨b, 0, none⟩ = some x := by simp [World.cell?, h.blk]
theorem SlotE.c1 {w : World} {b : Nat} {x y z : Value} (h : SlotE w b x y z) : w.cell? ⟨b, 1, none⟩ = some y := by simp [World.cell?, h.blk]
theorem SlotE.c2 {w : World} {b : Nat} {x y z : Value} (h : SlotE w b x y z) : w.cell? ⟨b, 2, none⟩ = some z := by simp [World.cell?, h.blk]
theorem SlotE.fz {w : World} {b : Nat} {x y z : Value} (h : SlotE w b x y z) (i : Nat) : w.frozen? ⟨b, i, none⟩ = false := by simp [World.frozen?, h.blk]
structure Wb (w W : World) (X : Nat) (va : Option Addr) (g c : Nat) (ds : List M.De) (fa : Option Addr) (fb fo fc : Nat) (l : List Int) (ra : Option Addr) (rb ro rc : Nat) (rows : List (List Int)) : Prop where
 bel : Below w.heap.size w W
 c0 : W.cell? ⟨X, 0, none⟩ = some (.slice va ds.length c)
 c1 : W.cell? ⟨X, 1, none⟩ = some (.slice fa l.length fc)
 c2 : W.cell? ⟨X, 2, none⟩ = some (.slice ra rows.length rc)
 d : DeS W va g ds
 f : IntS W fa fb fo l
 r : IntSS W ra rb ro rows
theorem Wb.first {w w1 w2 : World} {va : Option Addr} {g c : Nat} {ds : List M.De} {fa : Option Addr} {fb fo fc : Nat} {l : List Int} {ra : Option Addr} {rb ro rc : Nat} {rows : List (List Int)} {u1 u2 u3 : Value} (h12 : Below w.heap.size w w1) (hb : Below w1.heap.size w1 w2) (hV : SlotE w2 w1.heap.size u1 u2 u3) (hd : DeS w2 va g ds) (hf1 : IntS w1 fa fb fo l) (hr1 : IntSS w1 ra rb ro rows) (hg : 0 < ds.length → w1.heap.size < g) :
  Wb w (((w2.setCell ⟨w1.heap.size, 0, none⟩ (.slice va ds.length c)).setCell ⟨w1.heap.size, 1, none⟩ (.slice fa l.length fc)).setCell ⟨w1.heap.size, 2, none⟩ (.slice ra rows.length rc)) w1.heap.size va g c ds fa fb fo fc l ra rb ro rc rows := by
 have k1 := heap_setCell_same w2 w1.heap.size 0 _ _ (.slice va ds.length c) hV.blk
 have k2 := heap_setCell_same _ w1.heap.size 1 _ _ (.slice fa l.length fc) k1
 have k3 := heap_setCell_same _ w1.heap.size 2 _ _ (.slice ra rows.length rc) k2
 have hbf := ((hb.setCell (p := ⟨w1.heap.size, 0, none⟩) (Nat.le_refl _) (.slice va ds.length c)).setCell (p := ⟨w1.heap.size, 1, none⟩) (Nat.le_refl _) (.slice fa l.length fc)).setCell (p := ⟨w1.heap.size, 2, none⟩) (Nat.le_refl _) (.slice ra rows.length rc)
 refine ⟨h12.trans (hbf.mono h12.size), by simp [World.cell?, k3], by simp [World.cell?, k3], by simp [World.cell?, k3], ⟨hd.addr, fun i hi j hj => ?_⟩, hf1.below hbf (Nat.le_refl _), hr1.below hbf (Nat.le_refl _)⟩
 have hk : g ≠ w1.heap.size := by have := hg (by omega); omega
 rw [← hd.row i hi j hj]
 refine World.cell?_of_block ?_
 rw [Below.heap_setCell _ _ _ _ hk, Below.heap_setCell _ _ _ _ hk, Below.heap_setCell _ _ _ _ hk]
end Go.Proofs.YtphijhpleemjoaaGreat
