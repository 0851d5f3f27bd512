/- The law FnOrderAlone, walked: it answers true, and leaves all as it was. Of whatever code. -/
import Derived.Test.YtphijhpleemjoaaGreatBFai
import Derived.Test.YtphijhpleemjoaaGreatBFan
import Derived.Test.YtphijhpleemjoaaGreatBFbf
import Derived.Test.YtphijhpleemjoaaGreatBFbs
import Derived.Test.YtphijhpleemjoaaGreatBFbv
import Derived.Test.YtphijhpleemjoaaGreatBFbz
namespace Go.Proofs.YtphijhpleemjoaaGreat
open Go.RowKit
theorem M.from_one {ll : List (List M.D)} : ∀ {a u : Nat}, M.progFrom a u ll = true → ∀ t ∈ ll, M.progFrom 0 0 [t] = true := by
 induction ll with
 | nil => intro a u _ t ht; cases ht
 | cons x ll ih =>
  intro a u h t ht
  by_cases hx : M.thread x = true
  ·have h' : M.progFrom (a + x.length) (u + M.cnt M.uses x) ll = true := by simpa [M.progFrom, hx] using h
   rcases List.mem_cons.1 ht with rfl | ht
   ·have key : ∀ (ll : List (List M.D)) (a u : Nat), M.progFrom a u ll = true → a ≤ 14 ∧ u ≤ 6 := by
     intro ll
     induction ll with
     | nil => intro a u h; simpa [M.progFrom] using h
     | cons y ll ih =>
      intro a u h
      by_cases hy : M.thread y = true
      ·have := ih _ _ (by simpa [M.progFrom, hy] using h : M.progFrom (a + y.length) (u + M.cnt M.uses y) ll = true)
       omega
      ·simp [M.progFrom, hy] at h
    have := key _ _ _ h'
    simp only [M.progFrom, hx, if_true, Bool.and_eq_true, decide_eq_true_eq]
    omega
   ·exact ih h' t ht
  ·simp [M.progFrom, hx] at h
theorem M.prog_one {ll : List (List M.D)} (h : M.prog ll = true) {t : List M.D} (ht : t ∈ ll) : M.prog [t] = true := by
 simp only [M.prog, Bool.and_eq_true] at h ⊢
 exact ⟨by simp, M.from_one h.2 t ht⟩
set_option maxHeartbeats 4000000 in
set_option maxRecDepth 100000 in
set_option linter.unusedSimpArgs false in
theorem lawAlone_any (ca : Option Addr) (cb co L C : Nat) (x : Nat → Int) (ma : Option Addr) (ml C2 : Nat) (w : World) (hL : L ≤ C) (had : 0 < L → ca = some ⟨cb, co, none⟩) (hc : ∀ i, i < L → w.cell? ⟨cb, co + i, none⟩ = some (.int .u8 (x i)) ∧ 0 ≤ x i ∧ x i ≤ 255) :
  Calls Tryz.prog 8 #[.slice ca L C, .slice ma ml C2] w fun e w' => e = .returned (.bool true) ∧ Below w.heap.size w w' := by
 by_cases hLb : L ≤ 1048576 ∧ ml ≤ 1048576
 ·obtain ⟨hLa, hLm⟩ := hLb
  go_enter Tryz.func8, Tryz.ntmps8
  go_wp2_with fail
  refine (DrawOrderAll_any ca cb co L C x _ hL had hc hLa).mono ?_
  rintro e w1 ⟨a, g, c, mm, kind, rfl, hsn, hsm, hk0, hk1, hb1⟩
  have hls := hsm.le
  have hl3 : mm.length ≤ 1048576 := by have := hsm.three; omega
  clear had hc
  have bx0 := BoxP.new (c := c) hb1 hsn.ss
  go_wp2_with fail
  generalize w1.alloc (.cells #[.slice a mm.length c] 25) = W0 at *
  generalize w1.heap.size = P at *
  clear hb1
  have hkl := M.orderAll_len mm kind
  have hkk := M.orderAll_le mm kind
  have hpos := hsm.pos
  have hcap := hsm.cap
  obtain ⟨rfl⟩ := hsn.addr hpos
  have CI := fun (W : World) (h : BoxP w W P (some ⟨g, 0, none⟩) g c mm) => iorderAllK (some ⟨g, 0, none⟩) g 0 c mm kind W hl3 hls h.ss
  have CS := fun (W : World) (h : BoxP w W P (some ⟨g, 0, none⟩) g c mm) => sorderAllK (some ⟨g, 0, none⟩) g 0 c mm kind W hl3 hls h.ss
  have CP := fun (W : World) (h : BoxP w W P (some ⟨g, 0, none⟩) g c mm) => sprog_any (some ⟨g, 0, none⟩) g 0 c mm W hl3 hls h.ss
  have HONE : Hid (M.prog mm = true → ∀ t ∈ mm, M.prog [t] = true) := fun h t ht => M.prog_one h ht
  obtain ⟨pr, hpr⟩ : ∃ pr, M.prog mm = pr := ⟨_, rfl⟩
  rw [hpr] at CP
  have HPR : Hid (M.prog mm = pr) := hpr
  generalize M.orderAll mm kind = ks at *
  clear hpr hsn hsm
  have CPC : ∀ W : World, Below W0.heap.size W0 W → W.cell? ⟨P, 0, none⟩ = some (.slice (some ⟨g, 0, none⟩) mm.length c) := fun W hb => (bx0.below hb).p.c
  refine wp_region_held_drew (S := fun w' => Below W0.heap.size W0 w') (by kernel_rfl) (Below.refl _ _).drew (fun hH => ?_)
  refine takeD 0 (some 23) (.agg #[.slice (some ⟨g, 0, none⟩) mm.length c]) hH rfl rfl (by kernel_rfl) (by kernel_rfl) (by kernel_rfl) (fun _ _ _ h => h) (Or.inl ⟨by rfl, by intro w' hSw; have hc0 := CPC w' hSw; go_simp⟩) ?_
  simp only [Act.put, List.setIfInBounds_toArray, List.set_cons_zero, List.set_cons_succ]
  refine takeD 1 (some 24) (.int .i64 kind) hH rfl rfl (by kernel_rfl) (by kernel_rfl) (by kernel_rfl) (fun _ _ _ h => h) (Or.inl ⟨by rfl, by intro w' hSw; go_simp⟩) ?_
  simp only [Act.put, List.setIfInBounds_toArray, List.set_cons_zero, List.set_cons_succ]
  refine takeD 3 (some 26) (.agg #[.slice (some ⟨g, 0, none⟩) mm.length c]) hH rfl rfl (by kernel_rfl) (by kernel_rfl) (by kernel_rfl) (fun _ _ _ h => h) (Or.inl ⟨by rfl, by intro w' hSw; have hc0 := CPC w' hSw; go_simp⟩) ?_
  simp only [Act.put, List.setIfInBounds_toArray, List.set_cons_zero, List.set_cons_succ]
  refine takeD 4 (some 27) (.int .i64 kind) hH rfl rfl (by kernel_rfl) (by kernel_rfl) (by kernel_rfl) (fun _ _ _ h => h) (Or.inl ⟨by rfl, by intro w' hSw; go_simp⟩) ?_
  simp only [Act.put, List.setIfInBounds_toArray, List.set_cons_zero, List.set_cons_succ]
  refine wpAnyH_ready (rs := [2]) (by kernel_rfl) (by simp) ?_
  refine AllReadyH.cons rfl (fun K' hK => ?_) AllReadyH.nil
  refine step_goV (by rfl) (some 25) rfl 16 #[.tmp 23, .tmp 24] _ rfl #[.agg #[.slice (some ⟨g, 0, none⟩) mm.length c], .int .i64 kind] (by simp [Act.eval]) (enters_of Tryz.func16 (by kernel_rfl) rfl) (CI _ (bx0.below hH)) ?_
  rintro e V1 ⟨v1, rfl, hA⟩
  obtain ⟨a1, g1, c1, rfl, hS1⟩ := hA.ex
  refine ⟨_, rfl, hK.out _ _ (hH.trans (hA.bel.mono hH.size)) (fun hH1 => ?_)⟩
  clear hK K'
  simp only [Act.put, List.setIfInBounds_toArray, List.set_cons_zero, List.set_cons_succ]
  refine wpAnyH_ready (rs := [5]) (by kernel_rfl) (by simp) ?_
  refine AllReadyH.cons rfl (fun K' hK => ?_) AllReadyH.nil
  refine step_goV (by rfl) (some 28) rfl 18 #[.tmp 26, .tmp 27] _ rfl #[.agg #[.slice (some ⟨g, 0, none⟩) mm.length c], .int .i64 kind] (by simp [Act.eval]) (enters_of Tryz.func18 (by kernel_rfl) rfl) (CS _ (bx0.below hH1)) ?_
  rintro e V2 ⟨v2, rfl, hB⟩
  obtain ⟨a2, g2, c2, rfl, hS2⟩ := hB.ex
  have hS12 := hS1.below hB.bel (Nat.le_refl _)
  refine ⟨_, rfl, hK.out _ _ (hH1.trans (hB.bel.mono hH1.size)) (fun hH2 => ?_)⟩
  clear hK K'
  simp only [Act.put, List.setIfInBounds_toArray, List.set_cons_zero, List.set_cons_succ]
  refine wpAnyH_ready (rs := [6]) (by kernel_rfl) (by simp) ?_
  refine AllReadyH.cons rfl (fun K' hK => ?_) AllReadyH.nil
  refine step_goV (by rfl) (some 29) rfl 17 #[.tmp 25, .tmp 28] _ rfl #[.slice a1 ks.length c1, .slice a2 ks.length c2] (by simp [Act.eval]) (enters_of Tryz.func17 (by kernel_rfl) rfl) (lpList_same a1 g1 0 c1 a2 g2 0 c2 ks V2 (by omega) hkk hS12 hS2) ?_
  rintro e V3 ⟨rfl, b3⟩
  refine ⟨_, rfl, hK.out _ _ (hH2.trans (b3.mono hH2.size)) (fun hH3 => ?_)⟩
  clear hK K'
  simp only [Act.put, List.setIfInBounds_toArray, List.set_cons_zero, List.set_cons_succ]
  refine takeD 7 (some 30) (.bool false) hH3 rfl rfl (by kernel_rfl) (by kernel_rfl) (by kernel_rfl) (fun _ _ _ h => h) (Or.inl ⟨by rfl, by intro w' hSw; go_simp⟩) ?_
  simp only [Act.put, List.setIfInBounds_toArray, List.set_cons_zero, List.set_cons_succ]
  refine takeD 8 (some 31) (.bool false) hH3 rfl rfl (by kernel_rfl) (by kernel_rfl) (by kernel_rfl) (fun _ _ _ h => h) (Or.inl ⟨by rfl, by intro w' hSw; go_simp⟩) ?_
  simp only [Act.put, List.setIfInBounds_toArray, List.set_cons_zero, List.set_cons_succ]
  refine takeD 9 (some 32) (.agg #[.slice (some ⟨g, 0, none⟩) mm.length c]) hH3 rfl rfl (by kernel_rfl) (by kernel_rfl) (by kernel_rfl) (fun _ _ _ h => h) (Or.inl ⟨by rfl, by intro w' hSw; have hc0 := CPC w' hSw; go_simp⟩) ?_
  simp only [Act.put, List.setIfInBounds_toArray, List.set_cons_zero, List.set_cons_succ]
  refine wpAnyH_ready (rs := [10]) (by kernel_rfl) (by simp) ?_
  refine AllReadyH.cons rfl (fun K' hK => ?_) AllReadyH.nil
  refine step_goV (by rfl) (some 33) rfl 26 #[.tmp 32] _ rfl #[.agg #[.slice (some ⟨g, 0, none⟩) mm.length c]] (by simp [Act.eval]) (enters_of Tryz.func26 (by kernel_rfl) rfl) (CP _ (bx0.below hH3)) ?_
  rintro e V4 ⟨rfl, b4⟩
  refine ⟨_, rfl, hK.out _ _ (hH3.trans (b4.mono hH3.size)) (fun hH4 => ?_)⟩
  clear hK K'
  simp only [Act.put, List.setIfInBounds_toArray, List.set_cons_zero, List.set_cons_succ]
  cases pr
  ·refine takeD 11 (some 34) (.bool true) hH4 rfl rfl (by kernel_rfl) (by kernel_rfl) (by kernel_rfl) (fun _ _ _ h => h) (Or.inl ⟨by rfl, by intro w' hSw; go_simp⟩) ?_
   simp only [Act.put, List.setIfInBounds_toArray, List.set_cons_zero, List.set_cons_succ]
   refine takeD 12 (some 35) (.bool true) hH4 rfl rfl (by kernel_rfl) (by kernel_rfl) (by kernel_rfl) (fun _ _ _ h => h) (Or.inl ⟨by rfl, by intro w' hSw; go_simp⟩) ?_
   simp only [Act.put, List.setIfInBounds_toArray, List.set_cons_zero, List.set_cons_succ]
   refine takeD 13 (some 36) (.bool true) hH4 rfl rfl (by kernel_rfl) (by kernel_rfl) (by kernel_rfl) (fun _ _ _ h => h) (Or.inl ⟨by rfl, by intro w' hSw; go_simp⟩) ?_
   simp only [Act.put, List.setIfInBounds_toArray, List.set_cons_zero, List.set_cons_succ]
   refine takeD 14 (some 37) (undef) hH4 rfl rfl (by kernel_rfl) (by kernel_rfl) (by kernel_rfl) (fun _ _ _ h => h) (Or.inr ⟨by rfl, rfl⟩) ?_
   simp only [Act.put, List.setIfInBounds_toArray, List.set_cons_zero, List.set_cons_succ]
   refine takeD 15 (some 38) (undef) hH4 rfl rfl (by kernel_rfl) (by kernel_rfl) (by kernel_rfl) (fun _ _ _ h => h) (Or.inr ⟨by rfl, rfl⟩) ?_
   simp only [Act.put, List.setIfInBounds_toArray, List.set_cons_zero, List.set_cons_succ]
   refine takeD 16 (some 39) (undef) hH4 rfl rfl (by kernel_rfl) (by kernel_rfl) (by kernel_rfl) (fun _ _ _ h => h) (Or.inr ⟨by rfl, rfl⟩) ?_
   simp only [Act.put, List.setIfInBounds_toArray, List.set_cons_zero, List.set_cons_succ]
   refine takeD 17 (some 40) (undef) hH4 rfl rfl (by kernel_rfl) (by kernel_rfl) (by kernel_rfl) (fun _ _ _ h => h) (Or.inr ⟨by rfl, rfl⟩) ?_
   simp only [Act.put, List.setIfInBounds_toArray, List.set_cons_zero, List.set_cons_succ]
   refine takeD 18 (some 41) (.bool true) hH4 rfl rfl (by kernel_rfl) (by kernel_rfl) (by kernel_rfl) (fun _ _ _ h => h) (Or.inl ⟨by rfl, by intro w' hSw; go_simp⟩) ?_
   simp only [Act.put, List.setIfInBounds_toArray, List.set_cons_zero, List.set_cons_succ]
   refine wpAnyH_done (by kernel_rfl) ?_ _
   have bx4 := bx0.below hH4
   have CPC2 : ∀ W : World, Below V4.heap.size V4 W → W.cell? ⟨P, 0, none⟩ = some (.slice (some ⟨g, 0, none⟩) mm.length c) := fun W hb => (bx4.below hb).p.c
   clear hS1 hS2 hS12 hH hH1 hH2 hH3 CP
   go_wp2_with fail
   refine wp_region_held_drew (S := fun w' => Below V4.heap.size V4 w') (by kernel_rfl) (Below.refl _ _).drew (fun hH => ?_)
   refine takeD 0 (some 42) (.agg #[.slice (some ⟨g, 0, none⟩) mm.length c]) hH rfl rfl (by kernel_rfl) (by kernel_rfl) (by kernel_rfl) (fun _ _ _ h => h) (Or.inl ⟨by rfl, by intro w' hSw; have hc0 := CPC2 w' hSw; go_simp⟩) ?_
   simp only [Act.put, List.setIfInBounds_toArray, List.set_cons_zero, List.set_cons_succ]
   refine takeD 1 (some 43) (.int .i64 kind) hH rfl rfl (by kernel_rfl) (by kernel_rfl) (by kernel_rfl) (fun _ _ _ h => h) (Or.inl ⟨by rfl, by intro w' hSw; go_simp⟩) ?_
   simp only [Act.put, List.setIfInBounds_toArray, List.set_cons_zero, List.set_cons_succ]
   refine takeD 3 (some 45) (.agg #[.slice (some ⟨g, 0, none⟩) mm.length c]) hH rfl rfl (by kernel_rfl) (by kernel_rfl) (by kernel_rfl) (fun _ _ _ h => h) (Or.inl ⟨by rfl, by intro w' hSw; have hc0 := CPC2 w' hSw; go_simp⟩) ?_
   simp only [Act.put, List.setIfInBounds_toArray, List.set_cons_zero, List.set_cons_succ]
   refine takeD 4 (some 46) (.int .i64 kind) hH rfl rfl (by kernel_rfl) (by kernel_rfl) (by kernel_rfl) (fun _ _ _ h => h) (Or.inl ⟨by rfl, by intro w' hSw; go_simp⟩) ?_
   simp only [Act.put, List.setIfInBounds_toArray, List.set_cons_zero, List.set_cons_succ]
   refine wpAnyH_ready (rs := [2]) (by kernel_rfl) (by simp) ?_
   refine AllReadyH.cons rfl (fun K' hK => ?_) AllReadyH.nil
   refine step_goV (by rfl) (some 44) rfl 16 #[.tmp 42, .tmp 43] _ rfl #[.agg #[.slice (some ⟨g, 0, none⟩) mm.length c], .int .i64 kind] (by simp [Act.eval]) (enters_of Tryz.func16 (by kernel_rfl) rfl) (CI _ (bx4.below hH)) ?_
   rintro e U1 ⟨v1, rfl, hA⟩
   obtain ⟨a1, g1, c1, rfl, hS1⟩ := hA.ex
   refine ⟨_, rfl, hK.out _ _ (hH.trans (hA.bel.mono hH.size)) (fun hH1 => ?_)⟩
   clear hK K'
   simp only [Act.put, List.setIfInBounds_toArray, List.set_cons_zero, List.set_cons_succ]
   refine wpAnyH_ready (rs := [5]) (by kernel_rfl) (by simp) ?_
   refine AllReadyH.cons rfl (fun K' hK => ?_) AllReadyH.nil
   refine step_goV (by rfl) (some 47) rfl 18 #[.tmp 45, .tmp 46] _ rfl #[.agg #[.slice (some ⟨g, 0, none⟩) mm.length c], .int .i64 kind] (by simp [Act.eval]) (enters_of Tryz.func18 (by kernel_rfl) rfl) (CS _ (bx4.below hH1)) ?_
   rintro e U2 ⟨v2, rfl, hB⟩
   obtain ⟨a2, g2, c2, rfl, hS2⟩ := hB.ex
   have hS12 := hS1.below hB.bel (Nat.le_refl _)
   refine ⟨_, rfl, hK.out _ _ (hH1.trans (hB.bel.mono hH1.size)) (fun hH2 => ?_)⟩
   clear hK K'
   simp only [Act.put, List.setIfInBounds_toArray, List.set_cons_zero, List.set_cons_succ]
   refine wpAnyH_ready (rs := [6]) (by kernel_rfl) (by simp) ?_
   refine AllReadyH.cons rfl (fun K' hK => ?_) AllReadyH.nil
   refine step_goV (by rfl) (some 48) rfl 17 #[.tmp 44, .tmp 47] _ rfl #[.slice a1 ks.length c1, .slice a2 ks.length c2] (by simp [Act.eval]) (enters_of Tryz.func17 (by kernel_rfl) rfl) (lpList_same a1 g1 0 c1 a2 g2 0 c2 ks U2 (by omega) hkk hS12 hS2) ?_
   rintro e U3 ⟨rfl, b3⟩
   refine ⟨_, rfl, hK.out _ _ (hH2.trans (b3.mono hH2.size)) (fun hH3 => ?_)⟩
   clear hK K'
   simp only [Act.put, List.setIfInBounds_toArray, List.set_cons_zero, List.set_cons_succ]
   refine takeD 7 (some 4) (.bool true) hH3 rfl rfl (by kernel_rfl) (by kernel_rfl) (by kernel_rfl) (fun _ _ _ h => h) (Or.inl ⟨by rfl, by intro w' hSw; go_simp⟩) ?_
   simp only [Act.put, List.setIfInBounds_toArray, List.set_cons_zero, List.set_cons_succ]
   refine wpAnyH_done (by kernel_rfl) ?_ _
   have bx9 := bx4.below hH3
   go_wp2_with fail
   go_ret
   exact ⟨rfl, bx9.bel⟩
  ·have e0 : ((mm.length : Int) == 0) = false := by rw [beq_eq_false_iff_ne]; omega
   refine takeD 11 (some 34) (.bool false) hH4 rfl rfl (by kernel_rfl) (by kernel_rfl) (by kernel_rfl) (fun _ _ _ h => h) (Or.inl ⟨by rfl, by intro w' hSw; go_simp⟩) ?_
   simp only [Act.put, List.setIfInBounds_toArray, List.set_cons_zero, List.set_cons_succ]
   refine takeD 12 (some 35) (.bool false) hH4 rfl rfl (by kernel_rfl) (by kernel_rfl) (by kernel_rfl) (fun _ _ _ h => h) (Or.inl ⟨by rfl, by intro w' hSw; go_simp⟩) ?_
   simp only [Act.put, List.setIfInBounds_toArray, List.set_cons_zero, List.set_cons_succ]
   refine takeD 13 (some 36) (.bool false) hH4 rfl rfl (by kernel_rfl) (by kernel_rfl) (by kernel_rfl) (fun _ _ _ h => h) (Or.inl ⟨by rfl, by intro w' hSw; go_simp⟩) ?_
   simp only [Act.put, List.setIfInBounds_toArray, List.set_cons_zero, List.set_cons_succ]
   refine takeD 14 (some 37) (.pointer (some ⟨P, 0, none⟩)) hH4 rfl rfl (by kernel_rfl) (by kernel_rfl) (by kernel_rfl) (fun _ _ _ h => h) (Or.inl ⟨by rfl, by intro w' hSw; go_simp⟩) ?_
   simp only [Act.put, List.setIfInBounds_toArray, List.set_cons_zero, List.set_cons_succ]
   refine takeD 15 (some 38) (.slice (some ⟨g, 0, none⟩) mm.length c) hH4 rfl rfl (by kernel_rfl) (by kernel_rfl) (by kernel_rfl) (fun _ _ _ h => h) (Or.inl ⟨by rfl, by intro w' hSw; have hc0 := CPC w' hSw; go_simp⟩) ?_
   simp only [Act.put, List.setIfInBounds_toArray, List.set_cons_zero, List.set_cons_succ]
   refine takeD 16 (some 39) (.int .i64 mm.length) hH4 rfl rfl (by kernel_rfl) (by kernel_rfl) (by kernel_rfl) (fun _ _ _ h => h) (Or.inl ⟨by rfl, by intro w' hSw; go_simp⟩) ?_
   simp only [Act.put, List.setIfInBounds_toArray, List.set_cons_zero, List.set_cons_succ]
   refine takeD 17 (some 40) (.bool false) hH4 rfl rfl (by kernel_rfl) (by kernel_rfl) (by kernel_rfl) (fun _ _ _ h => h) (Or.inl ⟨by rfl, by intro w' hSw; go_simp⟩) ?_
   simp only [Act.put, List.setIfInBounds_toArray, List.set_cons_zero, List.set_cons_succ]
   refine takeD 18 (some 41) (.bool false) hH4 rfl rfl (by kernel_rfl) (by kernel_rfl) (by kernel_rfl) (fun _ _ _ h => h) (Or.inl ⟨by rfl, by intro w' hSw; go_simp⟩) ?_
   simp only [Act.put, List.setIfInBounds_toArray, List.set_cons_zero, List.set_cons_succ]
   refine wpAnyH_done (by kernel_rfl) ?_ _
   have bx4 := bx0.below hH4
   clear hS1 hS2 hS12 hH hH1 hH2 hH3 CP CI CS hkk hkl CPC bx0
   obtain ⟨k, hk, hkl⟩ : ∃ k, ml % mm.length = k ∧ k < mm.length := ⟨_, rfl, Nat.mod_lt _ hpos⟩
   have e1 : Int.tmod (ml : Int) (mm.length : Int) = (k : Int) := by rw [Int.tmod_eq_emod_of_nonneg (by omega), ← hk]; exact (Int.natCast_emod _ _).symm
   have e2 : ¬ ((mm.length : Int) = 0) := by omega
   have hpt := HONE.out HPR.out _ (List.getElem_mem hkl)
   have hal := bx4.ss.alone hkl
   rw [Nat.zero_add] at hal
   have htl := hls _ (List.getElem_mem hkl)
   obtain ⟨t, ht⟩ : ∃ t, mm[k] = t := ⟨_, rfl⟩
   rw [ht] at hpt hal htl
   have H1 := M.all_alone hpt (by simp) (k := 1) (by omega)
   have H2 := M.all_alone hpt (by simp) (k := 2) (by omega)
   have H3 := M.all_alone hpt (by simp) (k := 3) (by omega)
   have hk9 := M.orderAll_le [t] 1
   have b5 := below1 V4 (.cells #[.slice (some ⟨g, k, none⟩) 1 (c - k)] 25)
   have hq5 := Slot1.new V4 (.slice (some ⟨g, k, none⟩) 1 (c - k)) 25
   have bx5 := bx4.below b5
   have hs5 := hal.below b5 (Nat.le_refl _)
   have CQ := fun (W : World) (h : DoSS W (some ⟨g, k, none⟩) g k [t]) (kd : Int) => iorderAllK (some ⟨g, k, none⟩) g k (c - k) [t] kd W (by simp) (fun t' ht' => by rw [List.mem_singleton.1 ht']; exact htl) h
   have C1 := fun (W : World) (h : DoSS W (some ⟨g, k, none⟩) g k [t]) => CQ W h 1
   have C2 := fun (W : World) (h : DoSS W (some ⟨g, k, none⟩) g k [t]) => CQ W h 2
   have C3 := fun (W : World) (h : DoSS W (some ⟨g, k, none⟩) g k [t]) => CQ W h 3
   rw [show ((2 : Nat) : Int) = 2 from rfl] at H2
   rw [show ((3 : Nat) : Int) = 3 from rfl] at H3
   rw [show ((1 : Nat) : Int) = 1 from rfl] at H1
   rw [H1] at C1 hk9
   rw [H2] at C2
   rw [H3] at C3
   generalize M.seenOf [t] (M.seqF (M.deeds [t]), M.seqO (M.deeds [t])) = sk at *
   have i1 : (k : Int) < mm.length := by omega
   have i2 : k ≤ c := by omega
   have i3 : k + 1 ≤ c := by omega
   have p4 := bx4.p.c
   have p5 := bx5.p.c
   have hgk : g < V4.heap.size := by
    obtain ⟨_, _, _, _, h6, _⟩ := bx4.ss.row 0 hpos
    exact World.block_lt_of_cell? _ _ h6
   clear CQ H1 H2 H3 hpt htl ht hk hal HONE HPR bx4 e0
   go_wp2_with fail
   generalize V4.alloc (.cells #[.slice (some ⟨g, k, none⟩) 1 (c - k)] 25) = V5 at *
   generalize V4.heap.size = Q at *
   have q5 := hq5.c
   refine (C1 V5 hs5).mono ?_
   rintro e V6 ⟨v6, rfl, hA⟩
   have bx6 := bx5.below hA.bel
   have hs6 := hs5.below hA.bel (Nat.le_refl _)
   have hq6 := hq5.bel hA.bel
   obtain ⟨a6, g6, c6, rfl, hS6⟩ := hA.ex
   have q6 := hq6.c
   clear hA bx5 hs5 hq5 q5 p5
   go_wp2_with fail
   refine (C2 V6 hs6).mono ?_
   rintro e V7 ⟨v7, rfl, hB⟩
   have bx7 := bx6.below hB.bel
   have hs7 := hs6.below hB.bel (Nat.le_refl _)
   have hq7 := hq6.bel hB.bel
   have hS67 := hS6.below hB.bel (Nat.le_refl _)
   obtain ⟨a7, g7, c7, rfl, hS7⟩ := hB.ex
   have q7 := hq7.c
   clear hB bx6 hs6 hq6 q6 hS6
   go_wp2_with fail
   refine (lpList_same a7 g7 0 c7 a6 g6 0 c6 [sk] V7 (by simp) hk9 hS7 hS67).mono ?_
   rintro e V8 ⟨rfl, b8⟩
   have bx8 := bx7.below b8
   have hs8 := hs7.below b8 (Nat.le_refl _)
   have hq8 := hq7.bel b8
   have hS68 := hS67.below b8 (Nat.le_refl _)
   have q8 := hq8.c
   clear b8 bx7 hs7 hq7 q7 hS67 hS7
   go_wp2_with fail
   refine (C3 V8 hs8).mono ?_
   rintro e V9 ⟨v9, rfl, hB⟩
   have bx9 := bx8.below hB.bel
   have hS69 := hS68.below hB.bel (Nat.le_refl _)
   obtain ⟨a9, g9, c9, rfl, hS9⟩ := hB.ex
   clear hB bx8 hs8 hq8 q8 hS68
   go_wp2_with fail
   refine (lpList_same a9 g9 0 c9 a6 g6 0 c6 [sk] V9 (by simp) hk9 hS9 hS69).mono ?_
   rintro e VA ⟨rfl, bA⟩
   have bxA := bx9.below bA
   go_wp2_with fail
   go_ret
   exact ⟨rfl, bxA.bel⟩
 ·go_enter Tryz.func8, Tryz.ntmps8
  rcases (show 1048576 < L ∨ (L ≤ 1048576 ∧ 1048576 < ml) by omega) with h1 | ⟨h1, h2⟩
  ·go_wp2_with fail
   go_ret
   exact ⟨rfl, Below.refl _ _⟩
  ·go_wp2_with fail
   go_ret
   exact ⟨rfl, Below.refl _ _⟩
end Go.Proofs.YtphijhpleemjoaaGreat
