/- spec.DrawExecAll: a drawn program. Of codes of at most 1048576 bytes. A drawn program in a box of a law. No condition. The law FnExecOk, walked: it answers true, and leaves all as it was. Of whatever code. -/
import Derived.Test.YtelmclbojpbcbaaDrAn
import Derived.Test.YtelmclbojpbcbaaDrOp
import Derived.Test.YtelmclbojpbcbaaBnCw
import Derived.Test.YtelmclbojpbcbaaOkWay
import Derived.Test.YtelmclbojpbcbaaSProg

namespace Go.Proofs.Ytelmclbojpbcbaa
open Go.RowKit

set_option maxHeartbeats 1000000 in
set_option maxRecDepth 100000 in
theorem DrawExecAll_any (ca : Option Addr) (cb co L C : Nat) (x : Nat → Int) (w : World) (hL : L ≤ C) (had : 0 < L → ca = some ⟨cb, co, none⟩) (hc : ∀ i, i < L → w.cell? ⟨cb, co + i, none⟩ = some (.int .u8 (x i)) ∧ 0 ≤ x i ∧ x i ≤ 255) (hLb : L ≤ 1048576) :
    Calls Try.prog 16 #[.slice ca L C] w fun e w' => ∃ (a : Option Addr) (g c : Nat) (mm : List (List M.D)), e = .returned (.agg #[.slice a mm.length c]) ∧ DoSN (w.heap.size + 1) w' a g 0 mm ∧ Small mm c ∧ Below w.heap.size w w' := by
  go_enter Try.func16, Try.ntmps16
  go_wp2_with fail
  have hb0 := below1 w (.cells #[.slice none 0 0] 30)
  refine (l6Open_any ca cb co L C x _ hL had (fun i hi => ⟨by rw [hb0.cell (p := ⟨cb, co + i, none⟩) (World.block_lt_of_cell? _ _ (hc i hi).1)]; exact (hc i hi).1, (hc i hi).2⟩) hLb).mono ?_
  rintro e w1 ⟨rfl, hr1, hb1⟩
  simp only [World.size_alloc] at hr1 hb1 ⊢
  have hb1w : Below w.heap.size w w1 := hb0.trans (hb1.mono (by omega))
  have hS1 := (Slot1.new w (.slice none 0 0) 30).but (But.of (rb := w.heap.size + 1) (by simpa only [World.size_alloc] using hb1)) (by omega)
  have hlt1 := hr1.lt
  clear hc had hb0 hb1
  go_wp2_with fail
  refine (l71Any_any _ (w.heap.size + 1) 0 _ (by omega) hr1).mono ?_
  rintro e w2 ⟨a, g, c, mm, rfl, hsn, hsm, p2, hp2, hr2, hb2⟩
  have hS2 := hS1.but hb2 (by omega)
  have s0 := hS2.c
  have sf := hS2.fz
  have hsl := hS2.lt
  have hbw : Below w.heap.size w w2 := But.below hb1w hb2 (by omega)
  go_wp2_with fail
  have s4 := (hS2.set (.slice a mm.length c)).c
  refine bodyPost_ret (v := .agg #[.slice a mm.length c]) (by simp [results, Try.results16, go_sem, s4]) rfl ⟨a, g, c, mm, rfl, (hsn.far (by omega)).mono (by omega), hsm, hbw.setCell (Nat.le_refl _) _⟩

end Go.Proofs.Ytelmclbojpbcbaa

namespace Go.Proofs.Ytelmclbojpbcbaa
open Go.RowKit

theorem Slot1.bel {w w' : World} {b : Nat} {x : Value} (h : Slot1 w b x) (hb : Below w.heap.size w w') : Slot1 w' b x :=
  ⟨(hb.cell (p := ⟨b, 0, none⟩) h.lt).trans h.c, (hb.frozen (p := ⟨b, 0, none⟩) h.lt).trans h.fz⟩

/-- A program, in its box. -/
structure BoxP (w W : World) (P : Nat) (a : Option Addr) (g c : Nat) (mm : List (List M.D)) : Prop where
  bel : Below w.heap.size w W
  p : Slot1 W P (.slice a mm.length c)
  ss : DoSS W a g 0 mm
theorem BoxP.below {w W W' : World} {P : Nat} {a : Option Addr} {g c : Nat} {mm : List (List M.D)} (h : BoxP w W P a g c mm) (hb : Below W.heap.size W W') : BoxP w W' P a g c mm :=
  ⟨h.bel.trans (hb.mono h.bel.size), h.p.bel hb, h.ss.below hb (Nat.le_refl _)⟩
theorem BoxP.new {w w1 : World} {a : Option Addr} {g c : Nat} {mm : List (List M.D)} (hb1 : Below w.heap.size w w1) (hs : DoSS w1 a g 0 mm) : BoxP w (w1.alloc (.cells #[.slice a mm.length c] 30)) w1.heap.size a g c mm :=
  ⟨hb1.alloc hb1.size _, Slot1.new w1 _ _, hs.below (below1 w1 _) (Nat.le_refl _)⟩
/-- One thread of it alone. -/
theorem DoSS.alone {w : World} {g o i : Nat} {mm : List (List M.D)} (h : DoSS w (some ⟨g, o, none⟩) g o mm) (hi : i < mm.length) : DoSS w (some ⟨g, o + i, none⟩) g (o + i) [mm[i]] := by
  refine ⟨fun _ => rfl, fun j hj => ?_⟩
  have : j = 0 := by simp at hj; omega
  subst this
  exact h.row i hi
theorem Small.le {mm : List (List M.D)} {c : Nat} (h : Small mm c) : ∀ t ∈ mm, t.length ≤ 1048576 := fun t ht => by have := h.steps t ht; omega

end Go.Proofs.Ytelmclbojpbcbaa

namespace Go.Proofs.Ytelmclbojpbcbaa
open Go.RowKit Go.Shelf

theorem M.all_diff {ll : List (List M.D)} {m : Nat} (h : m + 1 < (M.specAll ll).length) : M.eqWy (M.specAll ll)[m] (M.specAll ll)[m + 1] = false := by
  have hn : (M.specAll ll).Nodup := by
    unfold M.specAll
    split
    · exact M.nodup_all _
    · exact List.nodup_nil
  have := List.pairwise_iff_getElem.1 hn m (m + 1) (by omega) h (by omega)
  simpa [M.eqWy] using this

set_option maxHeartbeats 4000000 in
set_option maxRecDepth 100000 in
theorem lawOkX_any (ca : Option Addr) (cb co L C : Nat) (x : Nat → Int) (w : World) (hL : L ≤ C) (had : 0 < L → ca = some ⟨cb, co, none⟩) (hc : ∀ i, i < L → w.cell? ⟨cb, co + i, none⟩ = some (.int .u8 (x i)) ∧ 0 ≤ x i ∧ x i ≤ 255) :
    Calls Try.prog 4 #[.slice ca L C] w fun e w' => e = .returned (.bool true) ∧ Below w.heap.size w w' := by
  by_cases hLb : L ≤ 1048576
  · go_enter Try.func4, Try.ntmps4
    go_wp2_with fail
    refine (DrawExecAll_any ca cb co L C x _ hL had hc hLb).mono ?_
    rintro e w1 ⟨a, g, c, mm, rfl, hsn, hsm, hb1⟩
    have hls := hsm.le
    have hl3 : mm.length ≤ 1048576 := by have := hsm.three; omega
    clear had hc
    have bx0 := BoxP.new (c := c) hb1 hsn.ss
    go_wp2_with fail
    generalize w1.alloc (.cells #[.slice a mm.length c] 30) = W0 at *
    generalize w1.heap.size = P at *
    clear hsn hb1 hsm
    refine (iexecAll_any a g 0 c mm W0 hl3 hls bx0.ss).mono ?_
    rintro e W1 ⟨v1, rfl, hA⟩
    have bx1 := bx0.below hA.bel
    obtain ⟨av, gv, cv, rfl, hlw, hle, hlen⟩ := hA.lw
    have p1 := bx1.p.c
    clear hA bx0
    go_wp2_with fail
    refine (sexecAllW_any a g 0 c mm W1 hl3 hls bx1.ss).mono ?_
    rintro e W2 ⟨v2, rfl, hB⟩
    have bx2 := bx1.below hB.bel
    have hlw2 := hlw.below hB.bel
    obtain ⟨aw, gw, cw, rfl, hww⟩ := hB.lw
    have HOK : ∀ y ∈ M.specAll mm, M.execOk mm y.1 y.2 = true := fun y hy => M.mem_execAll.1 hy
    have HDF : ∀ (m : Nat) (y z : M.Wy), (M.specAll mm)[m]? = some y → (M.specAll mm)[m + 1]? = some z → M.eqWy y z = false := fun m y z h1 h2 => by
      obtain ⟨_, rfl⟩ := List.getElem?_eq_some_iff.1 h1
      obtain ⟨h3, rfl⟩ := List.getElem?_eq_some_iff.1 h2
      exact M.all_diff h3
    have HPS : Hid (decide (0 < (M.specAll mm).length) = M.prog mm) := M.all_pos mm
    have C9 := fun (W : World) (h : BoxP w W P a g c mm) => sprog_any a g 0 c mm W hl3 hls h.ss
    obtain ⟨pr, hpr⟩ : ∃ pr, M.prog mm = pr := ⟨_, rfl⟩
    rw [hpr] at HPS C9
    clear hB bx1 p1 hlw hpr
    generalize M.specAll mm = xs at *
    have E0 : ((xs.length : Int) != xs.length) = false := by simp
    go_wp2_with fail
    go_loopw [6] (fun s6 wr => ∃ n : Nat, s6 = .int .i64 n ∧ n ≤ xs.length ∧ Below W2.heap.size W2 wr) (fun s6 _ => xs.length - (intOf s6).toNat)
    case atStart => exact ⟨0, rfl, Nat.zero_le _, Below.refl _ _⟩
    case round =>
      obtain ⟨n, rfl, hn, hb⟩ := hrel
      have bxr := bx2.below hb
      by_cases hlt : n < xs.length
      · have i1 : (n : Int) < xs.length := by omega
        have i0 : ¬ (n : Int) < 0 := by omega
        obtain rfl := hlw2.addr (by omega)
        obtain rfl := hww.addr (by omega)
        obtain ⟨fa2, fb2, fc2, ra2, rb2, rc2, k1, k2, k3, k4⟩ := (hlw2.below hb).row n hlt
        obtain ⟨fa3, fb3, fc3, ra3, rb3, rc3, j1, j2, j3, j4⟩ := (hww.below hb).row n hlt
        have hy := hle _ (List.getElem_mem hlt)
        have hyk := HOK _ (List.getElem_mem hlt)
        have CC : ∀ W : World, Below wr.heap.size wr W → W.cell? ⟨gv, n * 2, none⟩ = some (.slice fa2 xs[n].1.length fc2) ∧ W.cell? ⟨gv, n * 2 + 1, none⟩ = some (.slice ra2 xs[n].2.length rc2) ∧ W.cell? ⟨gw, n * 2, none⟩ = some (.slice fa3 xs[n].1.length fc3) ∧ W.cell? ⟨gw, n * 2 + 1, none⟩ = some (.slice ra3 xs[n].2.length rc3) ∧ W.cell? ⟨P, 0, none⟩ = some (.slice a mm.length c) := fun W hbW => ⟨(hbW.cell (p := ⟨gv, n * 2, none⟩) (World.block_lt_of_cell? _ _ k1)).trans k1, (hbW.cell (p := ⟨gv, n * 2 + 1, none⟩) (World.block_lt_of_cell? _ _ k2)).trans k2, (hbW.cell (p := ⟨gw, n * 2, none⟩) (World.block_lt_of_cell? _ _ j1)).trans j1, (hbW.cell (p := ⟨gw, n * 2 + 1, none⟩) (World.block_lt_of_cell? _ _ j2)).trans j2, (bxr.below hbW).p.c⟩
        have CL := fun (W : World) (hbW : Below wr.heap.size wr W) => lpExec_any xs[n] xs[n] fa2 fb2 fc2 ra2 rb2 rc2 fa3 fb3 fc3 ra3 rb3 rc3 W hy.a hy.b hy.c (k3.below hbW (Nat.le_refl _)) (k4.below hbW (Nat.le_refl _)) (j3.below hbW (Nat.le_refl _)) (j4.below hbW (Nat.le_refl _))
        have eself : M.eqWy xs[n] xs[n] = true := by simp [M.eqWy]
        rw [eself] at CL
        have CK := fun (W : World) (hbW : Below wr.heap.size wr W) => iexecOk_any a g 0 c mm fa2 fb2 0 fc2 xs[n].1 ra2 rb2 0 rc2 xs[n].2 W hl3 hls hy.a hy.b hy.c (bxr.below hbW).ss (k3.below hbW (Nat.le_refl _)) (k4.below hbW (Nat.le_refl _))
        rw [hyk] at CK
        cases n with
        | zero =>
          clear k1 k2 k3 k4 j1 j2 j3 j4 eself hyk
          generalize xs[0] = y at *
          simp only [Nat.zero_mul, Nat.zero_add, Int.ofNat_zero] at *
          go_wp2_with fail
          refine wp_region_held_drew (S := fun w' => Below wr.heap.size wr w') (by kernel_rfl) (Below.refl _ _).drew (fun hH => ?_)
          refine takeD 0 (some 27) (.slice (some ⟨gv, 0, none⟩) xs.length cv) hH rfl rfl (by kernel_rfl) (by kernel_rfl) (by kernel_rfl) (fun _ _ _ h => h) (Or.inl ⟨by rfl, by intro w' hSw; go_simp⟩) ?_
          simp only [Act.put, List.setIfInBounds_toArray, List.set_cons_zero, List.set_cons_succ]
          refine takeD 1 (some 28) (.int .i64 0) hH rfl rfl (by kernel_rfl) (by kernel_rfl) (by kernel_rfl) (fun _ _ _ h => h) (Or.inl ⟨by rfl, by intro w' hSw; go_simp⟩) ?_
          simp only [Act.put, List.setIfInBounds_toArray, List.set_cons_zero, List.set_cons_succ]
          refine takeD 2 (some 29) (.pointer (some ⟨gv, 0, none⟩)) hH rfl rfl (by kernel_rfl) (by kernel_rfl) (by kernel_rfl) (fun _ _ _ h => h) (Or.inl ⟨by rfl, by intro w' hSw; go_simp⟩) ?_
          simp only [Act.put, List.setIfInBounds_toArray, List.set_cons_zero, List.set_cons_succ]
          refine takeD 3 (some 30) (.agg #[.slice fa2 y.1.length fc2, .slice ra2 y.2.length rc2]) hH rfl rfl (by kernel_rfl) (by kernel_rfl) (by kernel_rfl) (fun _ _ _ h => h) (Or.inl ⟨by rfl, by intro w' hSw; obtain ⟨q0, q1, q2, q3, q4⟩ := CC w' hSw; go_simp⟩) ?_
          simp only [Act.put, List.setIfInBounds_toArray, List.set_cons_zero, List.set_cons_succ]
          refine takeD 4 (some 31) (.slice (some ⟨gw, 0, none⟩) xs.length cw) hH rfl rfl (by kernel_rfl) (by kernel_rfl) (by kernel_rfl) (fun _ _ _ h => h) (Or.inl ⟨by rfl, by intro w' hSw; go_simp⟩) ?_
          simp only [Act.put, List.setIfInBounds_toArray, List.set_cons_zero, List.set_cons_succ]
          refine takeD 5 (some 32) (.int .i64 0) hH rfl rfl (by kernel_rfl) (by kernel_rfl) (by kernel_rfl) (fun _ _ _ h => h) (Or.inl ⟨by rfl, by intro w' hSw; go_simp⟩) ?_
          simp only [Act.put, List.setIfInBounds_toArray, List.set_cons_zero, List.set_cons_succ]
          refine takeD 6 (some 33) (.pointer (some ⟨gw, 0, none⟩)) hH rfl rfl (by kernel_rfl) (by kernel_rfl) (by kernel_rfl) (fun _ _ _ h => h) (Or.inl ⟨by rfl, by intro w' hSw; go_simp⟩) ?_
          simp only [Act.put, List.setIfInBounds_toArray, List.set_cons_zero, List.set_cons_succ]
          refine takeD 7 (some 34) (.agg #[.slice fa3 y.1.length fc3, .slice ra3 y.2.length rc3]) hH rfl rfl (by kernel_rfl) (by kernel_rfl) (by kernel_rfl) (fun _ _ _ h => h) (Or.inl ⟨by rfl, by intro w' hSw; obtain ⟨q0, q1, q2, q3, q4⟩ := CC w' hSw; go_simp⟩) ?_
          simp only [Act.put, List.setIfInBounds_toArray, List.set_cons_zero, List.set_cons_succ]
          refine wpAnyH_ready (rs := [8]) (by kernel_rfl) (by simp) ?_
          refine AllReadyH.cons rfl (fun K' hK => ?_) AllReadyH.nil
          refine step_goV (by rfl) (some 35) rfl 17 #[.tmp 30, .tmp 34] _ rfl #[.agg #[.slice fa2 y.1.length fc2, .slice ra2 y.2.length rc2], .agg #[.slice fa3 y.1.length fc3, .slice ra3 y.2.length rc3]] (by simp [Act.eval]) (enters_of Try.func17 (by kernel_rfl) rfl) (CL _ hH) ?_
          rintro e W5 ⟨rfl, b5⟩
          refine ⟨_, rfl, ?_⟩
          simp only [Act.put, List.setIfInBounds_toArray, List.set_cons_zero, List.set_cons_succ]
          have hH5 : Below wr.heap.size wr W5 := hH.trans (b5.mono hH.size)
          refine hK.out _ _ hH5 (fun _ => ?_)
          clear hK K'
          refine takeD 9 (some 36) (.bool false) hH5 rfl rfl (by kernel_rfl) (by kernel_rfl) (by kernel_rfl) (fun _ _ _ h => h) (Or.inl ⟨by rfl, by intro w' hSw; go_simp⟩) ?_
          simp only [Act.put, List.setIfInBounds_toArray, List.set_cons_zero, List.set_cons_succ]
          refine takeD 10 (some 37) (.bool false) hH5 rfl rfl (by kernel_rfl) (by kernel_rfl) (by kernel_rfl) (fun _ _ _ h => h) (Or.inl ⟨by rfl, by intro w' hSw; go_simp⟩) ?_
          simp only [Act.put, List.setIfInBounds_toArray, List.set_cons_zero, List.set_cons_succ]
          refine takeD 11 (some 38) (.agg #[.slice a mm.length c]) hH5 rfl rfl (by kernel_rfl) (by kernel_rfl) (by kernel_rfl) (fun _ _ _ h => h) (Or.inl ⟨by rfl, by intro w' hSw; obtain ⟨q0, q1, q2, q3, q4⟩ := CC w' hSw; go_simp⟩) ?_
          simp only [Act.put, List.setIfInBounds_toArray, List.set_cons_zero, List.set_cons_succ]
          refine takeD 12 (some 39) (.slice (some ⟨gv, 0, none⟩) xs.length cv) hH5 rfl rfl (by kernel_rfl) (by kernel_rfl) (by kernel_rfl) (fun _ _ _ h => h) (Or.inl ⟨by rfl, by intro w' hSw; go_simp⟩) ?_
          simp only [Act.put, List.setIfInBounds_toArray, List.set_cons_zero, List.set_cons_succ]
          refine takeD 13 (some 40) (.int .i64 0) hH5 rfl rfl (by kernel_rfl) (by kernel_rfl) (by kernel_rfl) (fun _ _ _ h => h) (Or.inl ⟨by rfl, by intro w' hSw; go_simp⟩) ?_
          simp only [Act.put, List.setIfInBounds_toArray, List.set_cons_zero, List.set_cons_succ]
          refine takeD 14 (some 41) (.pointer (some ⟨gv, 0, none⟩)) hH5 rfl rfl (by kernel_rfl) (by kernel_rfl) (by kernel_rfl) (fun _ _ _ h => h) (Or.inl ⟨by rfl, by intro w' hSw; go_simp⟩) ?_
          simp only [Act.put, List.setIfInBounds_toArray, List.set_cons_zero, List.set_cons_succ]
          refine takeD 15 (some 42) (.agg #[.slice fa2 y.1.length fc2, .slice ra2 y.2.length rc2]) hH5 rfl rfl (by kernel_rfl) (by kernel_rfl) (by kernel_rfl) (fun _ _ _ h => h) (Or.inl ⟨by rfl, by intro w' hSw; obtain ⟨q0, q1, q2, q3, q4⟩ := CC w' hSw; go_simp⟩) ?_
          simp only [Act.put, List.setIfInBounds_toArray, List.set_cons_zero, List.set_cons_succ]
          refine wpAnyH_ready (rs := [16]) (by kernel_rfl) (by simp) ?_
          refine AllReadyH.cons rfl (fun K' hK => ?_) AllReadyH.nil
          refine step_goV (by rfl) (some 43) rfl 18 #[.tmp 38, .tmp 42] _ rfl #[.agg #[.slice a mm.length c], .agg #[.slice fa2 y.1.length fc2, .slice ra2 y.2.length rc2]] (by simp [Act.eval]) (enters_of Try.func18 (by kernel_rfl) rfl) (CK _ hH5) ?_
          rintro e W6 ⟨rfl, b6⟩
          refine ⟨_, rfl, ?_⟩
          simp only [Act.put, List.setIfInBounds_toArray, List.set_cons_zero, List.set_cons_succ]
          have hH6 : Below wr.heap.size wr W6 := hH5.trans (b6.mono hH5.size)
          refine hK.out _ _ hH6 (fun _ => ?_)
          clear hK K'
          refine takeD 17 (some 44) (.bool false) hH6 rfl rfl (by kernel_rfl) (by kernel_rfl) (by kernel_rfl) (fun _ _ _ h => h) (Or.inl ⟨by rfl, by intro w' hSw; go_simp⟩) ?_
          simp only [Act.put, List.setIfInBounds_toArray, List.set_cons_zero, List.set_cons_succ]
          refine takeD 18 (some 45) (.bool false) hH6 rfl rfl (by kernel_rfl) (by kernel_rfl) (by kernel_rfl) (fun _ _ _ h => h) (Or.inl ⟨by rfl, by intro w' hSw; go_simp⟩) ?_
          simp only [Act.put, List.setIfInBounds_toArray, List.set_cons_zero, List.set_cons_succ]
          refine takeD 19 (some 46) (.bool false) hH6 rfl rfl (by kernel_rfl) (by kernel_rfl) (by kernel_rfl) (fun _ _ _ h => h) (Or.inl ⟨by rfl, by intro w' hSw; go_simp⟩) ?_
          simp only [Act.put, List.setIfInBounds_toArray, List.set_cons_zero, List.set_cons_succ]
          refine takeD 20 (some 47) (.int .i64 0) hH6 rfl rfl (by kernel_rfl) (by kernel_rfl) (by kernel_rfl) (fun _ _ _ h => h) (Or.inl ⟨by rfl, by intro w' hSw; go_simp⟩) ?_
          simp only [Act.put, List.setIfInBounds_toArray, List.set_cons_zero, List.set_cons_succ]
          refine takeD 21 (some 48) (.bool false) hH6 rfl rfl (by kernel_rfl) (by kernel_rfl) (by kernel_rfl) (fun _ _ _ h => h) (Or.inl ⟨by rfl, by intro w' hSw; go_simp⟩) ?_
          simp only [Act.put, List.setIfInBounds_toArray, List.set_cons_zero, List.set_cons_succ]
          refine takeD 22 (some 49) (.bool false) hH6 rfl rfl (by kernel_rfl) (by kernel_rfl) (by kernel_rfl) (fun _ _ _ h => h) (Or.inl ⟨by rfl, by intro w' hSw; go_simp⟩) ?_
          simp only [Act.put, List.setIfInBounds_toArray, List.set_cons_zero, List.set_cons_succ]
          refine takeD 23 (some 50) undef hH6 rfl rfl (by kernel_rfl) (by kernel_rfl) (by kernel_rfl) (fun _ _ _ h => h) (Or.inr ⟨by rfl, rfl⟩) ?_
          simp only [Act.put, List.setIfInBounds_toArray, List.set_cons_zero, List.set_cons_succ]
          refine takeD 24 (some 51) undef hH6 rfl rfl (by kernel_rfl) (by kernel_rfl) (by kernel_rfl) (fun _ _ _ h => h) (Or.inr ⟨by rfl, rfl⟩) ?_
          simp only [Act.put, List.setIfInBounds_toArray, List.set_cons_zero, List.set_cons_succ]
          refine takeD 25 (some 52) undef hH6 rfl rfl (by kernel_rfl) (by kernel_rfl) (by kernel_rfl) (fun _ _ _ h => h) (Or.inr ⟨by rfl, rfl⟩) ?_
          simp only [Act.put, List.setIfInBounds_toArray, List.set_cons_zero, List.set_cons_succ]
          refine takeD 26 (some 53) undef hH6 rfl rfl (by kernel_rfl) (by kernel_rfl) (by kernel_rfl) (fun _ _ _ h => h) (Or.inr ⟨by rfl, rfl⟩) ?_
          simp only [Act.put, List.setIfInBounds_toArray, List.set_cons_zero, List.set_cons_succ]
          refine takeD 27 (some 54) undef hH6 rfl rfl (by kernel_rfl) (by kernel_rfl) (by kernel_rfl) (fun _ _ _ h => h) (Or.inr ⟨by rfl, rfl⟩) ?_
          simp only [Act.put, List.setIfInBounds_toArray, List.set_cons_zero, List.set_cons_succ]
          refine takeD 28 (some 55) undef hH6 rfl rfl (by kernel_rfl) (by kernel_rfl) (by kernel_rfl) (fun _ _ _ h => h) (Or.inr ⟨by rfl, rfl⟩) ?_
          simp only [Act.put, List.setIfInBounds_toArray, List.set_cons_zero, List.set_cons_succ]
          refine takeD 29 (some 56) undef hH6 rfl rfl (by kernel_rfl) (by kernel_rfl) (by kernel_rfl) (fun _ _ _ h => h) (Or.inr ⟨by rfl, rfl⟩) ?_
          simp only [Act.put, List.setIfInBounds_toArray, List.set_cons_zero, List.set_cons_succ]
          refine takeD 30 (some 57) undef hH6 rfl rfl (by kernel_rfl) (by kernel_rfl) (by kernel_rfl) (fun _ _ _ h => h) (Or.inr ⟨by rfl, rfl⟩) ?_
          simp only [Act.put, List.setIfInBounds_toArray, List.set_cons_zero, List.set_cons_succ]
          refine takeD 31 (some 58) undef hH6 rfl rfl (by kernel_rfl) (by kernel_rfl) (by kernel_rfl) (fun _ _ _ h => h) (Or.inr ⟨by rfl, rfl⟩) ?_
          simp only [Act.put, List.setIfInBounds_toArray, List.set_cons_zero, List.set_cons_succ]
          refine takeD 32 (some 59) undef hH6 rfl rfl (by kernel_rfl) (by kernel_rfl) (by kernel_rfl) (fun _ _ _ h => h) (Or.inr ⟨by rfl, rfl⟩) ?_
          simp only [Act.put, List.setIfInBounds_toArray, List.set_cons_zero, List.set_cons_succ]
          refine takeD 33 (some 60) (.bool false) hH6 rfl rfl (by kernel_rfl) (by kernel_rfl) (by kernel_rfl) (fun _ _ _ h => h) (Or.inl ⟨by rfl, by intro w' hSw; go_simp⟩) ?_
          simp only [Act.put, List.setIfInBounds_toArray, List.set_cons_zero, List.set_cons_succ]
          refine takeD 34 (some 61) (.bool false) hH6 rfl rfl (by kernel_rfl) (by kernel_rfl) (by kernel_rfl) (fun _ _ _ h => h) (Or.inl ⟨by rfl, by intro w' hSw; go_simp⟩) ?_
          simp only [Act.put, List.setIfInBounds_toArray, List.set_cons_zero, List.set_cons_succ]
          refine wpAnyH_done (by kernel_rfl) ?_ _
          clear CC CL CK
          go_wp2_with fail
          exact ⟨⟨1, by go_num, by omega, hb.trans (hH6.mono hb.size)⟩, by simp [intOf]; omega⟩
        | succ m =>
          have hmt : m < xs.length := by omega
          obtain ⟨fa4, fb4, fc4, ra4, rb4, rc4, l1, l2, l3, l4⟩ := (hlw2.below hb).row m hmt
          have hz := hle _ (List.getElem_mem hmt)
          have hdf := HDF m _ _ (List.getElem?_eq_getElem hmt) (List.getElem?_eq_getElem hlt)
          have CP : ∀ W : World, Below wr.heap.size wr W → W.cell? ⟨gv, m * 2, none⟩ = some (.slice fa4 xs[m].1.length fc4) ∧ W.cell? ⟨gv, m * 2 + 1, none⟩ = some (.slice ra4 xs[m].2.length rc4) := fun W hbW => ⟨(hbW.cell (p := ⟨gv, m * 2, none⟩) (World.block_lt_of_cell? _ _ l1)).trans l1, (hbW.cell (p := ⟨gv, m * 2 + 1, none⟩) (World.block_lt_of_cell? _ _ l2)).trans l2⟩
          have CN := fun (W : World) (hbW : Below wr.heap.size wr W) => lpExec_any xs[m] xs[m + 1] fa4 fb4 fc4 ra4 rb4 rc4 fa2 fb2 fc2 ra2 rb2 rc2 W hz.a hz.b hz.c (l3.below hbW (Nat.le_refl _)) (l4.below hbW (Nat.le_refl _)) (k3.below hbW (Nat.le_refl _)) (k4.below hbW (Nat.le_refl _))
          rw [hdf] at CN
          clear k1 k2 k3 k4 j1 j2 j3 j4 l1 l2 l3 l4 eself hyk hdf
          generalize xs[m + 1] = y at *
          generalize xs[m] = z at *
          have i2 : (m : Int) + 1 < xs.length := by omega
          have i3 : ¬ (m : Int) + 1 < 0 := by omega
          have i4 : (0 : Int) < (m : Int) + 1 := by omega
          have i5 : (m : Int) < xs.length := by omega
          have i6 : ¬ (m : Int) < 0 := by omega
          have iw : IntKind.i64.wrap (m : Int) = m := by rw [IntKind.wrap_i64]; omega
          simp only [Int.natCast_succ] at *
          go_wp2_with fail
          refine wp_region_held_drew (S := fun w' => Below wr.heap.size wr w') (by kernel_rfl) (Below.refl _ _).drew (fun hH => ?_)
          refine takeD 0 (some 27) (.slice (some ⟨gv, 0, none⟩) xs.length cv) hH rfl rfl (by kernel_rfl) (by kernel_rfl) (by kernel_rfl) (fun _ _ _ h => h) (Or.inl ⟨by rfl, by intro w' hSw; go_simp⟩) ?_
          simp only [Act.put, List.setIfInBounds_toArray, List.set_cons_zero, List.set_cons_succ]
          refine takeD 1 (some 28) (.int .i64 ((m : Int) + 1)) hH rfl rfl (by kernel_rfl) (by kernel_rfl) (by kernel_rfl) (fun _ _ _ h => h) (Or.inl ⟨by rfl, by intro w' hSw; go_simp⟩) ?_
          simp only [Act.put, List.setIfInBounds_toArray, List.set_cons_zero, List.set_cons_succ]
          refine takeD 2 (some 29) (.pointer (some ⟨gv, ((m + 1) * 2), none⟩)) hH rfl rfl (by kernel_rfl) (by kernel_rfl) (by kernel_rfl) (fun _ _ _ h => h) (Or.inl ⟨by rfl, by intro w' hSw; go_simp⟩) ?_
          simp only [Act.put, List.setIfInBounds_toArray, List.set_cons_zero, List.set_cons_succ]
          refine takeD 3 (some 30) (.agg #[.slice fa2 y.1.length fc2, .slice ra2 y.2.length rc2]) hH rfl rfl (by kernel_rfl) (by kernel_rfl) (by kernel_rfl) (fun _ _ _ h => h) (Or.inl ⟨by rfl, by intro w' hSw; obtain ⟨q0, q1, q2, q3, q4⟩ := CC w' hSw; go_simp⟩) ?_
          simp only [Act.put, List.setIfInBounds_toArray, List.set_cons_zero, List.set_cons_succ]
          refine takeD 4 (some 31) (.slice (some ⟨gw, 0, none⟩) xs.length cw) hH rfl rfl (by kernel_rfl) (by kernel_rfl) (by kernel_rfl) (fun _ _ _ h => h) (Or.inl ⟨by rfl, by intro w' hSw; go_simp⟩) ?_
          simp only [Act.put, List.setIfInBounds_toArray, List.set_cons_zero, List.set_cons_succ]
          refine takeD 5 (some 32) (.int .i64 ((m : Int) + 1)) hH rfl rfl (by kernel_rfl) (by kernel_rfl) (by kernel_rfl) (fun _ _ _ h => h) (Or.inl ⟨by rfl, by intro w' hSw; go_simp⟩) ?_
          simp only [Act.put, List.setIfInBounds_toArray, List.set_cons_zero, List.set_cons_succ]
          refine takeD 6 (some 33) (.pointer (some ⟨gw, ((m + 1) * 2), none⟩)) hH rfl rfl (by kernel_rfl) (by kernel_rfl) (by kernel_rfl) (fun _ _ _ h => h) (Or.inl ⟨by rfl, by intro w' hSw; go_simp⟩) ?_
          simp only [Act.put, List.setIfInBounds_toArray, List.set_cons_zero, List.set_cons_succ]
          refine takeD 7 (some 34) (.agg #[.slice fa3 y.1.length fc3, .slice ra3 y.2.length rc3]) hH rfl rfl (by kernel_rfl) (by kernel_rfl) (by kernel_rfl) (fun _ _ _ h => h) (Or.inl ⟨by rfl, by intro w' hSw; obtain ⟨q0, q1, q2, q3, q4⟩ := CC w' hSw; go_simp⟩) ?_
          simp only [Act.put, List.setIfInBounds_toArray, List.set_cons_zero, List.set_cons_succ]
          refine wpAnyH_ready (rs := [8]) (by kernel_rfl) (by simp) ?_
          refine AllReadyH.cons rfl (fun K' hK => ?_) AllReadyH.nil
          refine step_goV (by rfl) (some 35) rfl 17 #[.tmp 30, .tmp 34] _ rfl #[.agg #[.slice fa2 y.1.length fc2, .slice ra2 y.2.length rc2], .agg #[.slice fa3 y.1.length fc3, .slice ra3 y.2.length rc3]] (by simp [Act.eval]) (enters_of Try.func17 (by kernel_rfl) rfl) (CL _ hH) ?_
          rintro e W5 ⟨rfl, b5⟩
          refine ⟨_, rfl, ?_⟩
          simp only [Act.put, List.setIfInBounds_toArray, List.set_cons_zero, List.set_cons_succ]
          have hH5 : Below wr.heap.size wr W5 := hH.trans (b5.mono hH.size)
          refine hK.out _ _ hH5 (fun _ => ?_)
          clear hK K'
          refine takeD 9 (some 36) (.bool false) hH5 rfl rfl (by kernel_rfl) (by kernel_rfl) (by kernel_rfl) (fun _ _ _ h => h) (Or.inl ⟨by rfl, by intro w' hSw; go_simp⟩) ?_
          simp only [Act.put, List.setIfInBounds_toArray, List.set_cons_zero, List.set_cons_succ]
          refine takeD 10 (some 37) (.bool false) hH5 rfl rfl (by kernel_rfl) (by kernel_rfl) (by kernel_rfl) (fun _ _ _ h => h) (Or.inl ⟨by rfl, by intro w' hSw; go_simp⟩) ?_
          simp only [Act.put, List.setIfInBounds_toArray, List.set_cons_zero, List.set_cons_succ]
          refine takeD 11 (some 38) (.agg #[.slice a mm.length c]) hH5 rfl rfl (by kernel_rfl) (by kernel_rfl) (by kernel_rfl) (fun _ _ _ h => h) (Or.inl ⟨by rfl, by intro w' hSw; obtain ⟨q0, q1, q2, q3, q4⟩ := CC w' hSw; go_simp⟩) ?_
          simp only [Act.put, List.setIfInBounds_toArray, List.set_cons_zero, List.set_cons_succ]
          refine takeD 12 (some 39) (.slice (some ⟨gv, 0, none⟩) xs.length cv) hH5 rfl rfl (by kernel_rfl) (by kernel_rfl) (by kernel_rfl) (fun _ _ _ h => h) (Or.inl ⟨by rfl, by intro w' hSw; go_simp⟩) ?_
          simp only [Act.put, List.setIfInBounds_toArray, List.set_cons_zero, List.set_cons_succ]
          refine takeD 13 (some 40) (.int .i64 ((m : Int) + 1)) hH5 rfl rfl (by kernel_rfl) (by kernel_rfl) (by kernel_rfl) (fun _ _ _ h => h) (Or.inl ⟨by rfl, by intro w' hSw; go_simp⟩) ?_
          simp only [Act.put, List.setIfInBounds_toArray, List.set_cons_zero, List.set_cons_succ]
          refine takeD 14 (some 41) (.pointer (some ⟨gv, ((m + 1) * 2), none⟩)) hH5 rfl rfl (by kernel_rfl) (by kernel_rfl) (by kernel_rfl) (fun _ _ _ h => h) (Or.inl ⟨by rfl, by intro w' hSw; go_simp⟩) ?_
          simp only [Act.put, List.setIfInBounds_toArray, List.set_cons_zero, List.set_cons_succ]
          refine takeD 15 (some 42) (.agg #[.slice fa2 y.1.length fc2, .slice ra2 y.2.length rc2]) hH5 rfl rfl (by kernel_rfl) (by kernel_rfl) (by kernel_rfl) (fun _ _ _ h => h) (Or.inl ⟨by rfl, by intro w' hSw; obtain ⟨q0, q1, q2, q3, q4⟩ := CC w' hSw; go_simp⟩) ?_
          simp only [Act.put, List.setIfInBounds_toArray, List.set_cons_zero, List.set_cons_succ]
          refine wpAnyH_ready (rs := [16]) (by kernel_rfl) (by simp) ?_
          refine AllReadyH.cons rfl (fun K' hK => ?_) AllReadyH.nil
          refine step_goV (by rfl) (some 43) rfl 18 #[.tmp 38, .tmp 42] _ rfl #[.agg #[.slice a mm.length c], .agg #[.slice fa2 y.1.length fc2, .slice ra2 y.2.length rc2]] (by simp [Act.eval]) (enters_of Try.func18 (by kernel_rfl) rfl) (CK _ hH5) ?_
          rintro e W6 ⟨rfl, b6⟩
          refine ⟨_, rfl, ?_⟩
          simp only [Act.put, List.setIfInBounds_toArray, List.set_cons_zero, List.set_cons_succ]
          have hH6 : Below wr.heap.size wr W6 := hH5.trans (b6.mono hH5.size)
          refine hK.out _ _ hH6 (fun _ => ?_)
          clear hK K'
          refine takeD 17 (some 44) (.bool false) hH6 rfl rfl (by kernel_rfl) (by kernel_rfl) (by kernel_rfl) (fun _ _ _ h => h) (Or.inl ⟨by rfl, by intro w' hSw; go_simp⟩) ?_
          simp only [Act.put, List.setIfInBounds_toArray, List.set_cons_zero, List.set_cons_succ]
          refine takeD 18 (some 45) (.bool false) hH6 rfl rfl (by kernel_rfl) (by kernel_rfl) (by kernel_rfl) (fun _ _ _ h => h) (Or.inl ⟨by rfl, by intro w' hSw; go_simp⟩) ?_
          simp only [Act.put, List.setIfInBounds_toArray, List.set_cons_zero, List.set_cons_succ]
          refine takeD 19 (some 46) (.bool false) hH6 rfl rfl (by kernel_rfl) (by kernel_rfl) (by kernel_rfl) (fun _ _ _ h => h) (Or.inl ⟨by rfl, by intro w' hSw; go_simp⟩) ?_
          simp only [Act.put, List.setIfInBounds_toArray, List.set_cons_zero, List.set_cons_succ]
          refine takeD 20 (some 47) (.int .i64 ((m : Int) + 1)) hH6 rfl rfl (by kernel_rfl) (by kernel_rfl) (by kernel_rfl) (fun _ _ _ h => h) (Or.inl ⟨by rfl, by intro w' hSw; go_simp⟩) ?_
          simp only [Act.put, List.setIfInBounds_toArray, List.set_cons_zero, List.set_cons_succ]
          refine takeD 21 (some 48) (.bool true) hH6 rfl rfl (by kernel_rfl) (by kernel_rfl) (by kernel_rfl) (fun _ _ _ h => h) (Or.inl ⟨by rfl, by intro w' hSw; go_simp⟩) ?_
          simp only [Act.put, List.setIfInBounds_toArray, List.set_cons_zero, List.set_cons_succ]
          refine takeD 22 (some 49) (.bool true) hH6 rfl rfl (by kernel_rfl) (by kernel_rfl) (by kernel_rfl) (fun _ _ _ h => h) (Or.inl ⟨by rfl, by intro w' hSw; go_simp⟩) ?_
          simp only [Act.put, List.setIfInBounds_toArray, List.set_cons_zero, List.set_cons_succ]
          refine takeD 23 (some 50) (.slice (some ⟨gv, 0, none⟩) xs.length cv) hH6 rfl rfl (by kernel_rfl) (by kernel_rfl) (by kernel_rfl) (fun _ _ _ h => h) (Or.inl ⟨by rfl, by intro w' hSw; go_simp⟩) ?_
          simp only [Act.put, List.setIfInBounds_toArray, List.set_cons_zero, List.set_cons_succ]
          refine takeD 24 (some 51) (.int .i64 ((m : Int) + 1)) hH6 rfl rfl (by kernel_rfl) (by kernel_rfl) (by kernel_rfl) (fun _ _ _ h => h) (Or.inl ⟨by rfl, by intro w' hSw; go_simp⟩) ?_
          simp only [Act.put, List.setIfInBounds_toArray, List.set_cons_zero, List.set_cons_succ]
          refine takeD 25 (some 52) (.int .i64 m) hH6 rfl rfl (by kernel_rfl) (by kernel_rfl) (by kernel_rfl) (fun _ _ _ h => h) (Or.inl ⟨by rfl, by intro w' hSw; go_simp⟩) ?_
          simp only [Act.put, List.setIfInBounds_toArray, List.set_cons_zero, List.set_cons_succ]
          refine takeD 26 (some 53) (.pointer (some ⟨gv, m * 2, none⟩)) hH6 rfl rfl (by kernel_rfl) (by kernel_rfl) (by kernel_rfl) (fun _ _ _ h => h) (Or.inl ⟨by rfl, by intro w' hSw; go_simp⟩) ?_
          simp only [Act.put, List.setIfInBounds_toArray, List.set_cons_zero, List.set_cons_succ]
          refine takeD 27 (some 54) (.agg #[.slice fa4 z.1.length fc4, .slice ra4 z.2.length rc4]) hH6 rfl rfl (by kernel_rfl) (by kernel_rfl) (by kernel_rfl) (fun _ _ _ h => h) (Or.inl ⟨by rfl, by intro w' hSw; obtain ⟨u0, u1⟩ := CP w' hSw; go_simp⟩) ?_
          simp only [Act.put, List.setIfInBounds_toArray, List.set_cons_zero, List.set_cons_succ]
          refine takeD 28 (some 55) (.slice (some ⟨gv, 0, none⟩) xs.length cv) hH6 rfl rfl (by kernel_rfl) (by kernel_rfl) (by kernel_rfl) (fun _ _ _ h => h) (Or.inl ⟨by rfl, by intro w' hSw; go_simp⟩) ?_
          simp only [Act.put, List.setIfInBounds_toArray, List.set_cons_zero, List.set_cons_succ]
          refine takeD 29 (some 56) (.int .i64 ((m : Int) + 1)) hH6 rfl rfl (by kernel_rfl) (by kernel_rfl) (by kernel_rfl) (fun _ _ _ h => h) (Or.inl ⟨by rfl, by intro w' hSw; go_simp⟩) ?_
          simp only [Act.put, List.setIfInBounds_toArray, List.set_cons_zero, List.set_cons_succ]
          refine takeD 30 (some 57) (.pointer (some ⟨gv, ((m + 1) * 2), none⟩)) hH6 rfl rfl (by kernel_rfl) (by kernel_rfl) (by kernel_rfl) (fun _ _ _ h => h) (Or.inl ⟨by rfl, by intro w' hSw; go_simp⟩) ?_
          simp only [Act.put, List.setIfInBounds_toArray, List.set_cons_zero, List.set_cons_succ]
          refine takeD 31 (some 58) (.agg #[.slice fa2 y.1.length fc2, .slice ra2 y.2.length rc2]) hH6 rfl rfl (by kernel_rfl) (by kernel_rfl) (by kernel_rfl) (fun _ _ _ h => h) (Or.inl ⟨by rfl, by intro w' hSw; obtain ⟨q0, q1, q2, q3, q4⟩ := CC w' hSw; go_simp⟩) ?_
          simp only [Act.put, List.setIfInBounds_toArray, List.set_cons_zero, List.set_cons_succ]
          refine wpAnyH_ready (rs := [32]) (by kernel_rfl) (by simp) ?_
          refine AllReadyH.cons rfl (fun K' hK => ?_) AllReadyH.nil
          refine step_goV (by rfl) (some 59) rfl 17 #[.tmp 54, .tmp 58] _ rfl #[.agg #[.slice fa4 z.1.length fc4, .slice ra4 z.2.length rc4], .agg #[.slice fa2 y.1.length fc2, .slice ra2 y.2.length rc2]] (by simp [Act.eval]) (enters_of Try.func17 (by kernel_rfl) rfl) (CN _ hH6) ?_
          rintro e W7 ⟨rfl, b7⟩
          refine ⟨_, rfl, ?_⟩
          simp only [Act.put, List.setIfInBounds_toArray, List.set_cons_zero, List.set_cons_succ]
          have hH7 : Below wr.heap.size wr W7 := hH6.trans (b7.mono hH6.size)
          refine hK.out _ _ hH7 (fun _ => ?_)
          clear hK K'
          refine takeD 33 (some 60) (.bool false) hH7 rfl rfl (by kernel_rfl) (by kernel_rfl) (by kernel_rfl) (fun _ _ _ h => h) (Or.inl ⟨by rfl, by intro w' hSw; go_simp⟩) ?_
          simp only [Act.put, List.setIfInBounds_toArray, List.set_cons_zero, List.set_cons_succ]
          refine takeD 34 (some 61) (.bool false) hH7 rfl rfl (by kernel_rfl) (by kernel_rfl) (by kernel_rfl) (fun _ _ _ h => h) (Or.inl ⟨by rfl, by intro w' hSw; go_simp⟩) ?_
          simp only [Act.put, List.setIfInBounds_toArray, List.set_cons_zero, List.set_cons_succ]
          refine wpAnyH_done (by kernel_rfl) ?_ _
          clear CC CL CK CP CN
          go_wp2_with fail
          exact ⟨⟨m + 1 + 1, by go_num, by omega, hb.trans (hH7.mono hb.size)⟩, by simp [intOf]; omega⟩
      · have i1 : ¬ (n : Int) < xs.length := by omega
        have p9 := bxr.p.c
        have E9 : decide ((0 : Int) < xs.length) = pr := by rw [← HPS.out]; simp
        go_wp2_with fail
        refine (C9 wr bxr).mono ?_
        rintro e W9 ⟨rfl, b9⟩
        have b9' := bxr.below b9
        have E8 : (decide ((0 : Int) < xs.length) == pr) = true := by rw [E9]; simp
        clear E9
        go_wp2_with fail
        go_ret
        exact ⟨ret_bool (by rw [HPS.out]; simp), b9'.bel⟩
  · go_enter Try.func4, Try.ntmps4
    go_wp2_with fail
    go_ret
    exact ⟨rfl, Below.refl _ _⟩

end Go.Proofs.Ytelmclbojpbcbaa
