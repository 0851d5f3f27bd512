/- Boxes of one cell kept by what only lays blocks. No condition. And what goes with it: TnBase, TnGo, NlO, DrKi, DrOa. -/
import Derived.Laws.OwnMore
import Derived.Deep.AppendLies
import Derived.Test.YtphijhpleemjoaaGreatBAad
import Derived.Test.YtphijhpleemjoaaGreatBAae
import Derived.Test.YtphijhpleemjoaaGreatBAai
import Derived.Test.YtphijhpleemjoaaGreatBAal
import Derived.Test.YtphijhpleemjoaaGreatBAan
import Derived.Test.YtphijhpleemjoaaGreatBAax
import Derived.Test.YtphijhpleemjoaaGreatBAay
namespace Go.Proofs.YtphijhpleemjoaaGreat
open Go.RowKit
theorem Slot1.bl' {w w' : World} {b : Nat} {x : Value} (h : Slot1 w b x) (hb : Below w.heap.size w w') : Slot1 w' b x :=
 ⟨(hb.cell (p := ⟨b, 0, none⟩) h.lt).trans h.c, (hb.frozen (p := ⟨b, 0, none⟩) h.lt).trans h.fz⟩
end Go.Proofs.YtphijhpleemjoaaGreat
namespace Go.Proofs.YtphijhpleemjoaaGreat
open Go.RowKit
theorem step_goV {P : Program} {ops : Array Oper} {o : Oper} {a : Act} {w : World} {K : Act → World → Prop} {Q : Exit → Act → World → Prop} {E : Prop}
  (hw : Region.wanted o (yielded ops a.tmps) = true) (d : Option Tmp) (hd : o.dst = d) (f : FuncId) (os : Array Operand) (ts : Array TypeId) (hop : o.op = Op.call { callee := Callee.value (Operand.func f), args := os, argTypes := ts })
  (vals : Array Value) (hv : os.map a.eval = vals) (he : ∀ args w, (callFunc f args).run P w = .ok (.enter f args) w) {R : Ending → World → Prop} (hc : Calls P f vals w R)
  (hK : ∀ e w', R e w' → ∃ v, e = .returned v ∧ K (a.put d v) w') :
  if Region.wanted o (yielded ops a.tmps) = true then Oper.wp P o a w K Q else E := by
 subst hd
 rw [if_pos hw]
 subst hv
 have hr : (execOp a.eval o).run P w = .ok (.enter f (os.map a.eval)) w := by
  simp [execOp, hop, resolve, invoke, Act.eval, Deferred.ofValue, he]
 unfold Oper.wp
 rw [hr, Oper.upon_enter]
 refine hc.mono fun e w' h => ?_
 obtain ⟨v, rfl, hk⟩ := hK e w' h
 exact hk
theorem run_append_nilT {P : Program} (w : World) (t ty e : TypeId) (i : TypeInfo) (ht : P.underlying t = some (.slice e)) (hi : P.info? e = some i) (a : Option Addr) (c : Nat) :
  (Builtin.append_ #[t, t] ty #[.slice none 0 0, .slice a 0 c]).run P w = .ok (.slice none 0 0) w := by
 cases a
 ·simp [Builtin.append_, run_underlying ht, sizeOf, typeInfo, hi, Builtin.lenOf, Builtin.firstCells]
 ·simp [Builtin.append_, run_underlying ht, sizeOf, typeInfo, hi, Builtin.lenOf, Builtin.firstCells, loadCells, loadCellsFrom]
theorem wpList_append_nilT {P : Program} {w : World} {ops : Array Oper} {rest : List Oper} {o : Oper} {a : Act} {Q : Exit → Act → World → Prop} (hgd : o.guard = none) (s x : Operand) (t : TypeId)
  (ho : o.op = .call { callee := .builtin .append, args := #[s, x], argTypes := #[t, t] }) (e : TypeId) (i : TypeInfo) (ht : P.underlying t = some (.slice e)) (hi : P.info? e = some i)
  (hs : a.eval s = .slice none 0 0) (b : Option Addr) (c : Nat) (hx : a.eval x = .slice b 0 c)
  (h : wpList P ops Q rest (a.put o.dst (.slice none 0 0)) w) : wpList P ops Q (o :: rest) a w := by
 refine wpList_plain hgd fun K hK => ?_
 have hrun := run_append_nilT (P := P) w t o.type e i ht hi b c
 unfold Oper.wp
 simp [execOp, ho, resolve, invoke, builtin, hs, hx, hrun, Result.andThen]
 exact hK _ _ h
theorem own_slx {w : World} {B : Nat} {e : TypeId} {size : Nat} {v : Value} {n : Nat} {xs : List Value} (h : w.ownsRow B e size v n xs) : ∃ a c, v = .slice a n c := by
 rcases h.2 with ⟨hv, h0⟩ | ⟨g, cap, cur, hv, _⟩
 ·exact ⟨none, 0, by rw [hv, h0]⟩
 ·exact ⟨_, cap, hv⟩
end Go.Proofs.YtphijhpleemjoaaGreat
namespace Go.Proofs.YtphijhpleemjoaaGreat
open Go.RowKit
theorem nums_cells {w : World} {b o : Nat} {l : List Int} {sa : Option Addr} (h : IntS w sa b o l) : ∀ (j : Nat) (u : Value), (nums l)[j]? = some u → w.cell? ((⟨b, o, none⟩ : Addr).add j) = some u := by
 intro j u hj
 have hjl : j < l.length := by
  have := (List.getElem?_eq_some_iff.1 hj).1
  simpa [nums] using this
 rw [Go.WideShapes.add_plain, h.row j hjl]
 simpa [nums, hjl] using hj
theorem nums_one (l : List Int) : ∀ u ∈ nums l, u.oneCell' = true := by intro u hu; simp [nums] at hu; obtain ⟨_, _, rfl⟩ := hu; rfl
set_option maxHeartbeats 1000000 in
set_option maxRecDepth 100000 in
theorem newListO_any (a : Option Addr) (b o c : Nat) (l : List Int) (w : World) (hl : l.length ≤ 1048576) (h : IntS w a b o l) :
  Calls Tryz.prog 122 #[.slice a l.length c] w fun e w' => ∃ v, e = .returned v ∧ w'.ownsRow w.heap.size 3 1 v l.length (nums l) ∧ Below w.heap.size w w' := by
 obtain ⟨i0, hi, hz0, hz1, hz2⟩ := info_parts Tryz.infoInt
 rcases Nat.eq_zero_or_pos l.length with h0 | hpos
 ·have hl0 : l = [] := List.length_eq_zero_iff.1 h0
  subst hl0
  rw [List.length_nil]
  go_enter Tryz.func122, Tryz.ntmps122
  go_wp2_with (at_builtin; refine wpList_append_nilT rfl (.const (.slice none 0 0)) (.tmp 3) 32 rfl 3 i0 Tryz.underlying32 hi rfl a c rfl ?_)
  go_wp2_with fail
  go_ret
  exact ⟨_, rfl, World.ownsRow_nil _ _ _ _, Below.refl _ _⟩
 ·obtain ⟨rfl⟩ := h.addr hpos
  go_enter Tryz.func122, Tryz.ntmps122
  go_wp2_with (at_builtin; refine wpList_append_lies _ rfl (.const (.slice none 0 0)) (.tmp 3) 32 rfl w.heap.size 3 i0 _ 1 8 Tryz.underlying32 hi hz0 hz1 hz2 rfl (by decide) _ 0 [] rfl (World.ownsRow_nil _ _ _ _) ⟨b, o, none⟩ l.length c (nums l) rfl (by simp [nums]) (nums_cells h) (nums_one l) hpos (by unfold maxLen; omega) (by omega) (Nat.le_refl _) w.heap.size rfl ?_)
  intro g cap w1 hown hg hat hlt
  have hb : Below w.heap.size w w1 := ⟨hg.os, hg.tape, hg.output, hg.size, fun k hk => hg.block k hk (fun e => by simp [Value.ownBlock] at e)⟩
  have hown' : w1.ownsRow w.heap.size 3 1 (.slice (some ⟨g, 0, none⟩) l.length cap) l.length (nums l) := by simpa using hown
  go_wp2_with fail
  go_ret
  exact ⟨_, by first | rfl | simp, hown', hb⟩
end Go.Proofs.YtphijhpleemjoaaGreat
namespace Go.Proofs.YtphijhpleemjoaaGreat
open Go.RowKit
set_option maxHeartbeats 1000000 in
set_option maxRecDepth 100000 in
theorem l71Kind_any (B rb p : Nat) (w : World) (hp : p ≤ 900000) (h : Rdr w B rb p) :
  Calls Tryz.prog 41 #[.pointer (some ⟨rb, 0, none⟩)] w fun e w' => ∃ r : Int, e = .returned (.int .i64 r) ∧ -1 ≤ r ∧ r ≤ 4 ∧ Rdr w' B rb (p + 2) ∧ But rb w w' := by
 have hlt := h.lt
 go_enter Tryz.func41, Tryz.ntmps41
 go_wp2_with fail
 refine (pick_rdr B rb p 24 _ (by omega) (by omega) (by omega) h).mono ?_
 rintro e w1 ⟨r1, rfl, r10, r11, hr1, hb1⟩
 by_cases h0 : r1 = 0
 ·subst h0
  have hal := below1 w1 (.cells #[.int .i64 0, .int .i64 4, .int .i64 (-1)] 3)
  have hr2 := hr1.below hal (Nat.le_refl _)
  have hl1 := hb1.size
  go_wp2_with fail
  refine (pick_rdr B rb (p + 1) 3 _ (by omega) (by omega) (by omega) hr2).mono ?_
  rintro e w2 ⟨r2, rfl, r20, r21, hr3, hb2⟩
  have c0 : (w1.alloc (.cells #[.int .i64 0, .int .i64 4, .int .i64 (-1)] 3)).cell? ⟨w1.heap.size, 0, none⟩ = some (.int .i64 0) := by simp
  have c1 : (w1.alloc (.cells #[.int .i64 0, .int .i64 4, .int .i64 (-1)] 3)).cell? ⟨w1.heap.size, 1, none⟩ = some (.int .i64 4) := by simp
  have c2 : (w1.alloc (.cells #[.int .i64 0, .int .i64 4, .int .i64 (-1)] 3)).cell? ⟨w1.heap.size, 2, none⟩ = some (.int .i64 (-1)) := by simp
  have d0 := (hb2.cell (p := ⟨w1.heap.size, 0, none⟩) (by simp) (by show w1.heap.size ≠ rb; omega)).trans c0
  have d1 := (hb2.cell (p := ⟨w1.heap.size, 1, none⟩) (by simp) (by show w1.heap.size ≠ rb; omega)).trans c1
  have d2 := (hb2.cell (p := ⟨w1.heap.size, 2, none⟩) (by simp) (by show w1.heap.size ≠ rb; omega)).trans c2
  have hbw := (hb1.trans (But.of hal)).trans hb2
  clear c0 c1 c2 hal
  have hr : r2 = 0 ∨ r2 = 1 ∨ r2 = 2 := by omega
  rcases hr with rfl | rfl | rfl
  ·go_wp2_with fail
   go_ret
   exact ⟨_, rfl, by omega, by omega, hr3, hbw⟩
  ·go_wp2_with fail
   go_ret
   exact ⟨_, rfl, by omega, by omega, hr3, hbw⟩
  ·go_wp2_with fail
   go_ret
   exact ⟨_, rfl, by omega, by omega, hr3, hbw⟩
 ·have b0 : (r1 == 0) = false := by simp [h0]
  go_wp2_with fail
  refine (pick_rdr B rb (p + 1) 3 _ (by omega) (by omega) (by omega) hr1).mono ?_
  rintro e w2 ⟨r2, rfl, r20, r21, hr3, hb2⟩
  go_wp2_with fail
  go_ret
  exact ⟨_, rfl, by (try rw [IntKind.wrap_i64]); omega, by (try rw [IntKind.wrap_i64]); omega, hr3, hb1.trans hb2⟩
end Go.Proofs.YtphijhpleemjoaaGreat
namespace Go.Proofs.YtphijhpleemjoaaGreat
open Go.RowKit
set_option maxHeartbeats 1000000 in
set_option maxRecDepth 100000 in
theorem DrawOrderAll_any (ca : Option Addr) (cb co L C : Nat) (x : Nat → Int) (w : World) (hL : L ≤ C) (had : 0 < L → ca = some ⟨cb, co, none⟩) (hc : ∀ i, i < L → w.cell? ⟨cb, co + i, none⟩ = some (.int .u8 (x i)) ∧ 0 ≤ x i ∧ x i ≤ 255) (hLb : L ≤ 1048576) :
  Calls Tryz.prog 15 #[.slice ca L C] w fun e w' => ∃ (a : Option Addr) (g c : Nat) (mm : List (List M.D)) (kind : Int), e = .returned (.tuple #[.agg #[.slice a mm.length c], .int .i64 kind]) ∧ DoSN (w.heap.size + 1) w' a g 0 mm ∧ Small mm c ∧ -1 ≤ kind ∧ kind ≤ 4 ∧ Below w.heap.size w w' := by
 go_enter Tryz.func15, Tryz.ntmps15
 go_wp2_with fail
 have hb0 := below1 w (.cells #[.slice none 0 0] 25)
 refine (l6Open_any ca cb co L C x _ hL had (fun i hi => ⟨by rw [hb0.cell (p := ⟨cb, co + i, none⟩) (World.block_lt_of_cell? _ _ (hc i hi).1)]; exact (hc i hi).1, (hc i hi).2⟩) hLb).mono ?_
 rintro e w1 ⟨rfl, hr1, hb1⟩
 simp only [World.size_alloc] at hr1 hb1 ⊢
 have hb1w : Below w.heap.size w w1 := hb0.trans (hb1.mono (by omega))
 have hS1 := (Slot1.new w (.slice none 0 0) 25).but (But.of (rb := w.heap.size + 1) (by simpa only [World.size_alloc] using hb1)) (by omega)
 have hlt1 := hr1.lt
 clear hc had hb0 hb1
 go_wp2_with fail
 refine (l71Any_any _ (w.heap.size + 1) 0 _ (by omega) hr1).mono ?_
 rintro e w2 ⟨a, g, c, mm, rfl, hsn, hsm, p2, hp2, hr2, hb2⟩
 have hS2 := hS1.but hb2 (by omega)
 have hbw : Below w.heap.size w w2 := But.below hb1w hb2 (by omega)
 have hl2 := hr2.lt
 go_wp2_with fail
 refine (l71Kind_any _ (w.heap.size + 1) p2 _ (by omega) hr2).mono ?_
 rintro e w3 ⟨kind, rfl, k0, k1, hr3, hb3⟩
 have hS3 := hS2.but hb3 (by omega)
 have s0 := hS3.c
 have sf := hS3.fz
 have hsl := hS3.lt
 have hsn3 := (hsn.mono (N' := w.heap.size + 1 + 1) (by omega)).but hb3 (by omega)
 have hbw3 : Below w.heap.size w w3 := But.below hbw hb3 (by omega)
 go_wp2_with fail
 have s4 := (hS3.set (.slice a mm.length c)).c
 refine bodyPost_ret (v := .tuple #[.agg #[.slice a mm.length c], .int .i64 kind]) (by simp [results, Tryz.results15, go_sem, s4]) rfl ⟨a, g, c, mm, kind, rfl, (hsn3.far (by omega)).mono (by omega), hsm, k0, k1, hbw3.setCell (Nat.le_refl _) _⟩
end Go.Proofs.YtphijhpleemjoaaGreat
