/- The law FnProgStrict, walked: it answers true, and leaves all as it was. Of whatever code. -/
import Derived.Test.YthgmolelipjdaaaRdP
import Derived.Test.YthgmolelipjdaaaRsRd
import Derived.Test.YthgmolelipjdaaaDrPd
import Derived.Test.YthgmolelipjdaaaLpPg
namespace Go.Proofs.Ythgmolelipjdaaa
open Go.RowKit

set_option maxHeartbeats 1000000 in
set_option maxRecDepth 100000 in
theorem lawPs_any (ca : Option Addr) (cb co L C : Nat) (x : Nat → Int) (w : World) (hm : HasMax w) (hL : L ≤ C) (had : 0 < L → ca = some ⟨cb, co, none⟩) (hc : ∀ i, i < L → w.cell? ⟨cb, co + i, none⟩ = some (.int .u8 (x i)) ∧ 0 ≤ x i ∧ x i ≤ 255) :
    Calls Try.prog 4 #[.slice ca L C] w fun e w' => e = .returned (.bool true) ∧ Below w.heap.size w w' := by
  by_cases hLb : L ≤ 1048576
  · go_enter Try.func4, Try.ntmps4
    go_wp2_with fail
    refine (DrawProgRead_any ca cb co L C x _ hL had hc hLb).mono ?_
    rintro e w1 ⟨s, rfl, hsl, hb1⟩
    clear had hc
    have C1 := sprogRead_any s w1 hsl
    have C2 := fun W hM => iprogRead_any s W hsl hM
    have H : ((M.back s).isSome = false ∧ (M.back s).getD [] = []) ∨ ((M.back s).isSome = true ∧ M.prog ((M.back s).getD []) = true ∧ M.text ((M.back s).getD []) = s) := by
      cases hbk : M.back s with
      | none => exact .inl ⟨rfl, rfl⟩
      | some ll => exact .inr ⟨rfl, (M.back_ok hbk).1, (M.back_ok hbk).2⟩
    generalize (M.back s).isSome = ok at *
    generalize (M.back s).getD [] = ll at *
    have hl : ll.length ≤ 1048576 ∧ ∀ t ∈ ll, t.length ≤ 1048576 := by
      rcases H with ⟨_, rfl⟩ | ⟨_, hp, _⟩
      · exact ⟨by simp, by simp⟩
      · obtain ⟨h3, hth⟩ := M.prog_thread hp
        exact ⟨by omega, fun t ht => by have := M.thread_le (hth t ht); omega⟩
    obtain ⟨hl1, hl2⟩ := hl
    go_wp2_with fail
    refine C1.mono ?_
    rintro e W1 ⟨v, rfl, vs, hR, b1⟩
    obtain ⟨a2, g2, c2, rfl, hss⟩ := hR.b.ss
    have bw1 : Below w.heap.size w W1 := hb1.trans (b1.mono hb1.size)
    have sA := Slot1.new W1 (.slice a2 ll.length c2) 25
    have bwA := bw1.alloc bw1.size (.cells #[.slice a2 ll.length c2] 25)
    have ssA := hss.below (below1 W1 (.cells #[.slice a2 ll.length c2] 25)) (Nat.le_refl _)
    clear hR C1 b1 hb1 bw1 hss
    go_wp2_with fail
    generalize W1.alloc (.cells #[.slice a2 ll.length c2] 25) = WA at *
    generalize W1.heap.size = PA at *
    refine (C2 _ (hm.below bwA (Nat.le_refl _))).mono ?_
    rintro e W2 ⟨v3, rfl, vs3, hR3, b2⟩
    obtain ⟨a3, g3, c3, rfl, hss3⟩ := hR3.b.ss
    have b2' := b2.trans ((below1 W2 (.cells #[.slice a3 ll.length c3] 25)).mono b2.size)
    have sA2 := sA.bl b2'
    have sB := Slot1.new W2 (.slice a3 ll.length c3) 25
    have bwB := bwA.trans (b2'.mono bwA.size)
    have ssB := ssA.below b2' (Nat.le_refl _)
    have ssB3 := hss3.below (below1 W2 (.cells #[.slice a3 ll.length c3] 25)) (Nat.le_refl _)
    clear hR3 C2 b2 b2' hss3 sA ssA bwA
    have pA := sA2.c
    have pB := sB.c
    go_wp2_with fail
    generalize W2.alloc (.cells #[.slice a3 ll.length c3] 25) = WB at *
    generalize W2.heap.size = PB at *
    refine (lpProg_any a3 g3 0 c3 a2 g2 0 c2 ll ll _ hl1 hl1 hl2 ssB3 ssB).mono ?_
    rintro e W3 ⟨rfl, b3⟩
    rw [M.eqLL_yes rfl]
    have sB3 := sB.bl b3
    have bw3 := bwB.trans (b3.mono bwB.size)
    have ss3 := ssB3.below b3 (Nat.le_refl _)
    clear pA pB sA2 sB ssB ssB3 bwB b3
    have pB := sB3.c
    rcases H with ⟨rfl, rfl⟩ | ⟨rfl, hp, ht⟩
    · go_wp2_with fail
      go_ret
      exact ⟨rfl, bw3⟩
    · have ht' : (M.text ll == s) = true := by simpa using ht
      go_wp2_with fail
      refine (iprog_any a3 g3 0 c3 ll W3 hl1 hl2 ss3).mono ?_
      rintro e W4 ⟨rfl, b4⟩
      rw [hp]
      have sB4 := sB3.bl b4
      have bw4 := bw3.trans (b4.mono bw3.size)
      have ss4 := ss3.below b4 (Nat.le_refl _)
      clear pB sB3 bw3 ss3 b4
      have pB := sB4.c
      go_wp2_with fail
      refine (iprogText_any a3 g3 0 c3 ll W4 hl1 hl2 ss4).mono ?_
      rintro e W5 ⟨rfl, b5⟩
      have bw5 := bw4.trans (b5.mono bw4.size)
      go_wp2_with fail
      go_ret
      exact ⟨rfl, bw5⟩
  · go_enter Try.func4, Try.ntmps4
    go_wp2_with fail
    go_ret
    exact ⟨rfl, Below.refl _ _⟩

end Go.Proofs.Ythgmolelipjdaaa
