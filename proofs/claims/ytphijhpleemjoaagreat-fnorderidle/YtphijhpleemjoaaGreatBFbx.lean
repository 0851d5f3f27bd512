/- The law FnOrderIdle, walked: it answers true, and leaves all as it was. Of whatever code. -/
import Derived.Test.YtphijhpleemjoaaGreatBFbf
import Derived.Test.YtphijhpleemjoaaGreatBFbs
import Derived.Test.YtphijhpleemjoaaGreatBFbv
import Derived.Test.YtphijhpleemjoaaGreatBFbw
namespace Go.Proofs.YtphijhpleemjoaaGreat
open Go.RowKit
set_option maxHeartbeats 4000000 in
set_option maxRecDepth 100000 in
set_option linter.unusedSimpArgs false in
theorem lawIdle_any (ca : Option Addr) (cb co L C : Nat) (x : Nat → Int) (w : World) (hL : L ≤ C) (had : 0 < L → ca = some ⟨cb, co, none⟩) (hc : ∀ i, i < L → w.cell? ⟨cb, co + i, none⟩ = some (.int .u8 (x i)) ∧ 0 ≤ x i ∧ x i ≤ 255) :
  Calls Tryz.prog 7 #[.slice ca L C] w fun e w' => e = .returned (.bool true) ∧ Below w.heap.size w w' := by
 by_cases hLb : L ≤ 1048576
 ·go_enter Tryz.func7, Tryz.ntmps7
  go_wp2_with fail
  refine (DrawOrderAll_any ca cb co L C x _ hL had hc hLb).mono ?_
  rintro e w1 ⟨a, g, c, mm, kind, rfl, hsn, hsm, hk0, hk1, hb1⟩
  have hls := hsm.le
  have hl3 : mm.length ≤ 1048576 := by have := hsm.three; omega
  clear had hc
  have bx0 := BoxP.new (c := c) hb1 hsn.ss
  obtain ⟨vs, hT0⟩ := hsn.thb
  have hT := hT0.below (below1 w1 (.cells #[.slice a mm.length c] 25))
  clear hT0
  go_wp2_with fail
  generalize w1.alloc (.cells #[.slice a mm.length c] 25) = W0 at *
  generalize w1.heap.size = P at *
  clear hb1
  have hkl := M.orderAll_len mm kind
  have hkk := M.orderAll_le mm kind
  have hpos := hsm.pos
  obtain ⟨rfl⟩ := hsn.addr hpos
  have CI := fun (W : World) (h : BoxP w W P (some ⟨g, 0, none⟩) g c mm) => iorderAllK (some ⟨g, 0, none⟩) g 0 c mm kind W hl3 hls h.ss
  have CS := fun (W : World) (h : BoxP w W P (some ⟨g, 0, none⟩) g c mm) => sorderAllK (some ⟨g, 0, none⟩) g 0 c mm kind W hl3 hls h.ss
  have HID : Hid (M.prog mm = true → mm.length < 3 → M.orderAll (mm ++ [[]]) kind = M.orderAll mm kind) := fun h1 h2 => M.all_idle h1 h2 kind
  obtain ⟨ks, hks⟩ : ∃ ks, M.orderAll mm kind = ks := ⟨_, rfl⟩
  rw [hks] at hkl hkk CI CS HID
  clear hks hsn hsm
  refine (CI W0 bx0).mono ?_
  rintro e W1 ⟨v1, rfl, hA⟩
  have bx1 := bx0.below hA.bel
  have hT1 := hT.below hA.bel
  obtain ⟨av, gv, cv, rfl, hS1⟩ := hA.ex
  have p1 := bx1.p.c
  clear hA bx0 hT
  go_wp2_with fail
  refine (lpIdle_any g c mm vs W1 hpos hl3 hls bx1.ss hT1).mono ?_
  rintro e W2 ⟨qa, qn, qc, rfl, hQ⟩
  have HQ := hQ.yes
  have bx2 := (bx1.below hQ.bel).below (below1 W2 (.cells #[.slice qa qn qc] 25))
  have hS2 := (hS1.below hQ.bel (Nat.le_refl _)).below (below1 W2 (.cells #[.slice qa qn qc] 25)) (Nat.le_refl _)
  have hq2 := Slot1.new W2 (.slice qa qn qc) 25
  have hss2 : (M.prog mm && decide (mm.length < 3)) = true → ∃ a' g' c', Value.slice qa qn qc = .slice a' (mm.length + 1) c' ∧ DoSS (W2.alloc (.cells #[.slice qa qn qc] 25)) a' g' 0 (mm ++ [[]]) := fun h => by
   obtain ⟨a', g', c', e1, e2⟩ := HQ h
   exact ⟨a', g', c', e1, e2.below (below1 W2 _) (Nat.le_refl _)⟩
  clear hQ HQ bx1 hS1 p1 hT1
  obtain ⟨ok, hok⟩ : ∃ ok, (M.prog mm && decide (mm.length < 3)) = ok := ⟨_, rfl⟩
  rw [hok] at hss2 ⊢
  have HOK : Hid ((M.prog mm && decide (mm.length < 3)) = ok) := hok
  clear hok
  have p3 := bx2.p.c
  go_wp2_with fail
  generalize W2.alloc (.cells #[.slice qa qn qc] 25) = W3 at *
  generalize W2.heap.size = Q at *
  refine (CS W3 bx2).mono ?_
  rintro e W4 ⟨v2, rfl, hB⟩
  have bx4 := bx2.below hB.bel
  have hq4 := hq2.bel hB.bel
  have hS4 := hS2.below hB.bel (Nat.le_refl _)
  have hss4 : ok = true → ∃ a' g' c', Value.slice qa qn qc = .slice a' (mm.length + 1) c' ∧ DoSS W4 a' g' 0 (mm ++ [[]]) := fun h => by
   obtain ⟨a', g', c', e1, e2⟩ := hss2 h
   exact ⟨a', g', c', e1, e2.below hB.bel (Nat.le_refl _)⟩
  obtain ⟨aw, gw, cw, rfl, hT⟩ := hB.ex
  clear hB bx2 p3 hS2 hss2 hq2
  go_wp2_with fail
  refine (lpList_same av gv 0 cv aw gw 0 cw ks W4 (by omega) hkk hS4 hT).mono ?_
  rintro e W5 ⟨rfl, b5⟩
  have bx5 := bx4.below b5
  have hS5 := hS4.below b5 (Nat.le_refl _)
  have hq5 := hq4.bel b5
  have p5 := bx5.p.c
  cases ok
  ·clear hT b5 bx4 hS4 hq4 hss4
   go_wp2_with fail
   refine (CS W5 bx5).mono ?_
   rintro e W8 ⟨v8, rfl, hB⟩
   have bx8 := bx5.below hB.bel
   have hS8 := hS5.below hB.bel (Nat.le_refl _)
   obtain ⟨aw, gw, cw, rfl, hT⟩ := hB.ex
   clear hB p5
   go_wp2_with fail
   refine (lpList_same av gv 0 cv aw gw 0 cw ks W8 (by omega) hkk hS8 hT).mono ?_
   rintro e W9 ⟨rfl, b9⟩
   have bx9 := bx8.below b9
   go_wp2_with fail
   go_ret
   exact ⟨rfl, bx9.bel⟩
  ·obtain ⟨a', g', c', eq', hss⟩ := hss4 rfl
   simp only [Value.slice.injEq] at eq'
   obtain ⟨rfl, rfl, rfl⟩ := eq'
   have hss5 := hss.below b5 (Nat.le_refl _)
   have hbt := HOK.out
   simp only [Bool.and_eq_true, decide_eq_true_eq] at hbt
   have hlen : (mm ++ [[]]).length ≤ 1048576 := by rw [List.length_append]; simp; omega
   have hlsq : ∀ t ∈ mm ++ [[]], t.length ≤ 1048576 := fun t ht => by
    rcases List.mem_append.1 ht with ht | ht
    ·exact hls t ht
    ·rw [List.mem_singleton.1 ht]; simp
   have CQ := iorderAllK qa g' 0 qc (mm ++ [[]]) kind W5 hlen hlsq hss5
   rw [HID.out hbt.1 hbt.2, List.length_append] at CQ
   have q5 := hq5.c
   clear hbt hlen hlsq HID HOK hss4 hss hss5 CI CS hT b5 bx4 hS4 hq4 hq5
   go_wp2_with fail
   refine CQ.mono ?_
   rintro e W8 ⟨v8, rfl, hB⟩
   have bx8 := bx5.below hB.bel
   have hS8 := hS5.below hB.bel (Nat.le_refl _)
   obtain ⟨aw, gw, cw, rfl, hT⟩ := hB.ex
   clear hB p5
   go_wp2_with fail
   refine (lpList_same aw gw 0 cw av gv 0 cv ks W8 (by omega) hkk hT hS8).mono ?_
   rintro e W9 ⟨rfl, b9⟩
   have bx9 := bx8.below b9
   go_wp2_with fail
   go_ret
   exact ⟨rfl, bx9.bel⟩
 ·go_enter Tryz.func7, Tryz.ntmps7
  go_wp2_with fail
  go_ret
  exact ⟨rfl, Below.refl _ _⟩
end Go.Proofs.YtphijhpleemjoaaGreat
