/- The law FnProgBack, walked: it answers true, and leaves all as it was. Of whatever code. -/
import Derived.Test.YthgmolelipjdaaaRdP
import Derived.Test.YthgmolelipjdaaaTxS
import Derived.Test.YthgmolelipjdaaaLpPg
import Derived.Test.YthgmolelipjdaaaBxP
import Derived.Test.YthgmolelipjdaaaDrTx
namespace Go.Proofs.Ythgmolelipjdaaa
open Go.RowKit

set_option maxHeartbeats 1000000 in
set_option maxRecDepth 100000 in
theorem lawPb_any (ca : Option Addr) (cb co L C : Nat) (x : Nat → Int) (w : World) (hm : HasMax w) (hL : L ≤ C) (had : 0 < L → ca = some ⟨cb, co, none⟩) (hc : ∀ i, i < L → w.cell? ⟨cb, co + i, none⟩ = some (.int .u8 (x i)) ∧ 0 ≤ x i ∧ x i ≤ 255) :
    Calls Try.prog 3 #[.slice ca L C] w fun e w' => e = .returned (.bool true) ∧ Below w.heap.size w w' := by
  by_cases hLb : L ≤ 1048576
  · go_enter Try.func3, Try.ntmps3
    go_wp2_with fail
    refine (DrawProgText_any ca cb co L C x _ hL had hc hLb).mono ?_
    rintro e w1 ⟨a, g, c, mm, rfl, hsn, hsm, hb1⟩
    have hle := hsm.le
    have h3 := hsm.three
    obtain ⟨rfl⟩ := hsn.addr hsm.pos
    clear had hc
    go_wp2_with fail
    have bx0 := BoxP.new (c := c) hb1 hsn.ss
    generalize w1.alloc (.cells #[.slice (some ⟨g, 0, none⟩) mm.length c] 25) = W0 at *
    generalize w1.heap.size = P at *
    clear hsn hb1
    have hok : ∀ W (hs : DoSS W (some ⟨g, 0, none⟩) g 0 mm), _ := fun W hs => sprog_any (some ⟨g, 0, none⟩) g 0 c mm W (by omega) hle hs
    have htx : ∀ W (hs : DoSS W (some ⟨g, 0, none⟩) g 0 mm), _ := fun W hs => sprogText_any (some ⟨g, 0, none⟩) g 0 c mm W (by omega) hle hs
    refine (iprogText_any _ g 0 c mm W0 (by omega) hle bx0.ss).mono ?_
    rintro e W1 ⟨rfl, b1⟩
    have bx1 := bx0.below b1
    clear bx0 b1
    have p0 := bx1.p.c
    go_wp2_with fail
    refine (htx W1 bx1.ss).mono ?_
    rintro e W2 ⟨rfl, b2⟩
    have bx2 := bx1.below b2
    clear bx1 b2 p0
    have p0 := bx2.p.c
    go_wp2_with fail
    refine (hok W2 bx2.ss).mono ?_
    rintro e W3 ⟨rfl, b3⟩
    have bx3 := bx2.below b3
    clear bx2 b3 p0
    have p0 := bx3.p.c
    cases hp : M.prog mm
    · go_wp2_with fail
      refine (htx W3 bx3.ss).mono ?_
      rintro e W4 ⟨rfl, b4⟩
      have bx4 := bx3.below b4
      go_wp2_with fail
      go_ret
      exact ⟨rfl, bx4.bel⟩
    · have hbk := M.back_text hp
      have hml : M.text mm = M.sayProg mm := by simp [M.text, hp]
      obtain ⟨_, hth⟩ := M.prog_thread hp
      have hl := M.sayProg_le mm (fun t ht => M.thread_le (hth t ht))
      have C4 := iprogRead_any (M.text mm) W3 (by rw [hml]; omega) (hm.below bx3.bel (Nat.le_refl _))
      rw [hbk] at C4
      simp only [Option.isSome_some, Option.getD_some] at C4
      clear hml hl hth
      go_wp2_with fail
      refine C4.mono ?_
      rintro e W4 ⟨v, rfl, vs, hR, b4⟩
      have bx4 := bx3.below b4
      obtain ⟨a2, g2, c2, rfl, hss⟩ := hR.b.ss
      have bx5 := bx4.below (below1 W4 (.cells #[.slice a2 mm.length c2] 25))
      have hss5 := hss.below (below1 W4 (.cells #[.slice a2 mm.length c2] 25)) (Nat.le_refl _)
      clear bx3 bx4 hss hR C4 p0 b4
      have p0 := bx5.p.c
      have pl := bx5.p.lt
      go_wp2_with fail
      refine (lpProg_any a2 g2 0 c2 (some ⟨g, 0, none⟩) g 0 c mm mm _ (by omega) (by omega) hle hss5 bx5.ss).mono ?_
      rintro e W6 ⟨rfl, b6⟩
      have bx6 := bx5.below b6
      rw [M.eqLL_yes rfl]
      go_wp2_with fail
      go_ret
      exact ⟨rfl, bx6.bel⟩
  · go_enter Try.func3, Try.ntmps3
    go_wp2_with fail
    go_ret
    exact ⟨rfl, Below.refl _ _⟩

end Go.Proofs.Ythgmolelipjdaaa
