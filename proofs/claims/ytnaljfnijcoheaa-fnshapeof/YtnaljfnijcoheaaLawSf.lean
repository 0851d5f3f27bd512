/- The law FnShapeOf, walked: it answers true, and leaves all as it was. Of whatever code. -/
import Derived.Test.YtnaljfnijcoheaaShL
import Derived.Test.YtnaljfnijcoheaaShS
import Derived.Test.YtnaljfnijcoheaaShFact
import Derived.Test.YtnaljfnijcoheaaDrSh
import Derived.Test.YtnaljfnijcoheaaLpPg
import Derived.Test.YtnaljfnijcoheaaIProg
namespace Go.Proofs.Ytnaljfnijcoheaa
open Go.RowKit

set_option maxHeartbeats 2000000 in
set_option maxRecDepth 100000 in
set_option linter.unusedSimpArgs false in
theorem lawSf_any (ca : Option Addr) (cb co L C : Nat) (x : Nat → Int) (w : World) (hL : L ≤ C) (had : 0 < L → ca = some ⟨cb, co, none⟩) (hc : ∀ i, i < L → w.cell? ⟨cb, co + i, none⟩ = some (.int .u8 (x i)) ∧ 0 ≤ x i ∧ x i ≤ 255) :
    Calls Try.prog 7 #[.slice ca L C] w fun e w' => e = .returned (.bool true) ∧ Below w.heap.size w w' := by
  by_cases hLb : L ≤ 1048576
  · go_enter Try.func7, Try.ntmps7
    go_wp2_with fail
    refine (DrawShapeOf_any ca cb co L C x _ hL had hc hLb).mono ?_
    rintro e w1 ⟨s, h, rfl, b1⟩
    clear had hc
    have CS := sshapeOf_any s h w1
    have CI := fun W => ishapeOf_any s h W
    obtain ⟨hs2, hs5⟩ := M.shape_small s h
    have HF : Hid (M.shapeOk s h = true → M.prog ((M.shape s h).getD []) = true ∧ ((M.shape s h).getD []).length = 2) := fun e => M.shape_prog e
    rw [M.shape_some] at CS CI
    generalize (M.shape s h).getD [] = ll at *
    have hl1 : ll.length ≤ 1048576 := by omega
    have hl2 : ∀ t ∈ ll, t.length ≤ 1048576 := fun t ht => by have := hs5 t ht; omega
    clear hs5 hs2
    have LQ := fun A B C D E F W h1 h2 => lpProg_any A B 0 C D E 0 F ll ll W hl1 hl1 hl2 h1 h2
    rw [M.eqLL_yes rfl] at LQ
    go_wp2_with fail
    refine CS.mono ?_
    rintro e w2 ⟨v2, rfl, ⟨vs2, hR2⟩, b2⟩
    obtain ⟨av, gv, cv, rfl, hss2⟩ := hR2.b.ss
    have bA := below1 w2 (.cells #[.slice av ll.length cv] 25)
    have sA := Slot1.new w2 (.slice av ll.length cv) 25
    have ssA := hss2.below bA (Nat.le_refl _)
    have b12 := b2.trans (bA.mono b2.size)
    have bwA := b1.trans (b12.mono b1.size)
    clear hR2 hss2 b2 bA b12 b1 CS
    go_wp2_with fail
    generalize w2.alloc (.cells #[.slice av ll.length cv] 25) = WA at *
    generalize w2.heap.size = A at *
    refine (CI WA).mono ?_
    rintro e w3 ⟨v3, rfl, ⟨vs3, hR3⟩, b3⟩
    obtain ⟨ai, gi, ci, rfl, hss3⟩ := hR3.b.ss
    have bB := below1 w3 (.cells #[.slice ai ll.length ci] 25)
    have sB := Slot1.new w3 (.slice ai ll.length ci) 25
    have ssB := hss3.below bB (Nat.le_refl _)
    have b3' := b3.trans (bB.mono b3.size)
    have sAB := sA.bl' b3'
    have ssAB := ssA.below b3' (Nat.le_refl _)
    have bwB := bwA.trans (b3'.mono bwA.size)
    clear hR3 hss3 b3 bB b3' sA ssA CI bwA
    have x0 := sAB.c
    have x1 := sB.c
    go_wp2_with fail
    generalize w3.alloc (.cells #[.slice ai ll.length ci] 25) = WB at *
    generalize w3.heap.size = B at *
    refine (LQ ai gi ci av gv cv _ ssB ssAB).mono ?_
    rintro e W4 ⟨rfl, b4⟩
    have sB4 := sB.bl' b4
    have ssB4 := ssB.below b4 (Nat.le_refl _)
    have bw4 := bwB.trans (b4.mono bwB.size)
    clear x0 x1 sB ssB sAB ssAB bwB b4 LQ
    have x1 := sB4.c
    cases hok : M.shapeOk s h
    · clear HF
      rcases M.shape_bad hok with q | ⟨q1, q2⟩ | ⟨q1, q2, q3⟩ | ⟨q1, q2, q3, q4⟩
      all_goals
        (try (have q5 : decide (h ≤ 3) = false := (by simp; omega)))
        clear hok
        go_wp2_with fail
        go_ret
        exact ⟨rfl, bw4⟩
    · obtain ⟨hp, hn⟩ := HF.out hok
      have CP := iprog_any ai gi 0 ci ll W4 hl1 hl2 ssB4
      rw [hp, hn] at CP
      simp only [M.shapeOk, Bool.and_eq_true, decide_eq_true_eq] at hok
      obtain ⟨⟨⟨o1, o2⟩, o3⟩, o4⟩ := hok
      clear hp HF
      go_wp2_with fail
      refine CP.mono ?_
      rintro e W5 ⟨rfl, b5⟩
      have sB5 := sB4.bl' b5
      clear x1
      have x1 := sB5.c
      go_wp2_with fail
      go_ret
      exact ⟨rfl, bw4.trans (b5.mono bw4.size)⟩
  · go_enter Try.func7, Try.ntmps7
    go_wp2_with fail
    go_ret
    exact ⟨rfl, Below.refl _ _⟩

end Go.Proofs.Ytnaljfnijcoheaa
