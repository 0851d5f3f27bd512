/- The law FnShapeLoose, walked: it answers true, and leaves all as it was. Of whatever code. -/
import Derived.Test.YtbipmookmhihlaaGreatBnQw
import Derived.Test.YtbipmookmhihlaaGreatBnQg
import Derived.Test.YtbipmookmhihlaaGreatBnQt

namespace Go.Proofs.YtbipmookmhihlaaGreat
open Go.RowKit

set_option maxHeartbeats 4000000 in
set_option maxRecDepth 100000 in
set_option linter.unusedSimpArgs false in
theorem lawSC_any (ca : Option Addr) (cb co L C : Nat) (x : Nat → Int) (w : World) (hL : L ≤ C) (had : 0 < L → ca = some ⟨cb, co, none⟩) (hc : ∀ i, i < L → w.cell? ⟨cb, co + i, none⟩ = some (.int .u8 (x i)) ∧ 0 ≤ x i ∧ x i ≤ 255) :
    Calls Tryz.prog 5 #[.slice ca L C] w fun e w' => e = .returned (.bool true) ∧ Below w.heap.size w w' := by
  by_cases hLb : L ≤ 1048576
  · go_enter Tryz.func5, Tryz.ntmps5
    go_wp2_with fail
    refine (DrawShapeOf_any ca cb co L C x _ hL had hc hLb).mono ?_
    rintro e w1 ⟨s, h, rfl, b1⟩
    clear had hc
    have CS := sshapeOf_any s h w1
    have CI := fun W => ishapeOf_any s h W
    obtain ⟨hs2, hs5⟩ := M.shape_small s h
    rw [M.shape_some] at CS CI
    obtain ⟨ll, hll⟩ : ∃ ll, (M.shape s h).getD [] = ll := ⟨_, rfl⟩
    rw [hll] at CS CI hs2 hs5
    have HLL : Hid ((M.shape s h).getD [] = ll) := hll
    clear hll
    have hl1 : ll.length ≤ 1048576 := by omega
    have hl2 : ∀ t ∈ ll, t.length ≤ 1048576 := fun t ht => by have := hs5 t ht; omega
    clear hs5 hs2
    have LQ := fun A B C D E F W h1 h2 => lpProg_any A B 0 C D E 0 F ll ll W hl1 hl1 hl2 h1 h2
    rw [M.eqLL_yes rfl] at LQ
    go_wp2_with fail
    refine CS.mono ?_
    rintro e w2 ⟨v2, rfl, ⟨vs2, hR2⟩, b2⟩
    obtain ⟨av, gv, cv, rfl, hss2⟩ := hR2.b.ss
    have bA := below1 w2 (.cells #[.slice av ll.length cv] 27)
    have sA := Slot1.new w2 (.slice av ll.length cv) 27
    have ssA := hss2.below bA (Nat.le_refl _)
    have b12 := b2.trans (bA.mono b2.size)
    have bwA := b1.trans (b12.mono b1.size)
    clear hR2 hss2 b2 bA b12 b1 CS
    go_wp2_with fail
    generalize w2.alloc (.cells #[.slice av ll.length cv] 27) = WA at *
    generalize w2.heap.size = A at *
    refine (CI WA).mono ?_
    rintro e w3 ⟨v3, rfl, ⟨vs3, hR3⟩, b3⟩
    obtain ⟨ai, gi, ci, rfl, hss3⟩ := hR3.b.ss
    have bB := below1 w3 (.cells #[.slice ai ll.length ci] 27)
    have sB := Slot1.new w3 (.slice ai ll.length ci) 27
    have ssB := hss3.below bB (Nat.le_refl _)
    have b3' := b3.trans (bB.mono b3.size)
    have sAB := sA.bl' b3'
    have ssAB := ssA.below b3' (Nat.le_refl _)
    have bwB := bwA.trans (b3'.mono bwA.size)
    clear hR3 hss3 b3 bB b3' sA ssA CI bwA
    have x0 := sAB.c
    have x1 := sB.c
    cases hok : M.shapeOk s h
    · go_wp2_with fail
      generalize w3.alloc (.cells #[.slice ai ll.length ci] 27) = WB at *
      generalize w3.heap.size = B at *
      refine (LQ ai gi ci av gv cv _ ssB ssAB).mono ?_
      rintro e W4 ⟨rfl, b4⟩
      have sB4 := sB.bl' b4
      have sA4 := sAB.bl' b4
      have ssB4 := ssB.below b4 (Nat.le_refl _)
      have ssA4 := ssAB.below b4 (Nat.le_refl _)
      have bw4 := bwB.trans (b4.mono bwB.size)
      clear x0 x1 sB ssB sAB ssAB bwB b4
      have x0 := sA4.c
      have x1 := sB4.c
      go_wp2_with fail
      refine (LQ ai gi ci av gv cv _ ssB4 ssA4).mono ?_
      rintro e W5 ⟨rfl, b5⟩
      go_wp2_with fail
      go_ret
      exact ⟨rfl, bw4.trans (b5.mono bw4.size)⟩
    · go_wp2_with fail
      generalize w3.alloc (.cells #[.slice ai ll.length ci] 27) = WB at *
      generalize w3.heap.size = B at *
      refine (LQ ai gi ci av gv cv _ ssB ssAB).mono ?_
      rintro e W4 ⟨rfl, b4⟩
      have sB4 := sB.bl' b4
      have ssB4 := ssB.below b4 (Nat.le_refl _)
      have bw4 := bwB.trans (b4.mono bwB.size)
      clear x0 x1 sB ssB sAB ssAB bwB b4 LQ
      have CO := lpOdd_any s h 3 W4 hok (by omega)
      clear HLL
      obtain ⟨h1, h2⟩ := M.shape_cases hok
      clear hok
      rcases h1 with rfl | rfl | rfl | rfl | rfl | rfl
      all_goals
        rcases h2 with rfl | rfl | rfl | rfl
        all_goals
          simp only [M.oddSeen] at CO
          go_wp2_with fail
          refine CO.mono ?_
          rintro e W5 ⟨rfl, b5⟩
          go_wp2_with fail
          go_ret
          exact ⟨by first | rfl | decide, bw4.trans (b5.mono bw4.size)⟩
  · go_enter Tryz.func5, Tryz.ntmps5
    go_wp2_with fail
    go_ret
    exact ⟨rfl, Below.refl _ _⟩

end Go.Proofs.YtbipmookmhihlaaGreat
