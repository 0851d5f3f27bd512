/- The law FnProgOne, walked: it answers true, and leaves all as it was. Of whatever codes. -/
import Derived.Test.YthgmolelipjdaaaTxBack
import Derived.Test.YthgmolelipjdaaaTxS
import Derived.Test.YthgmolelipjdaaaLpPg
import Derived.Test.YthgmolelipjdaaaBxP
import Derived.Test.YthgmolelipjdaaaDrTx
namespace Go.Proofs.Ythgmolelipjdaaa
open Go.RowKit

theorem M.text_inj {mm nn : List (List M.D)} (hp : M.prog mm = true) (hq : M.prog nn = true) (h : M.text mm = M.text nn) : mm = nn :=
  M.sayProg_inj hp hq (by simpa [M.text, hp, hq] using h)

set_option maxHeartbeats 1000000 in
set_option maxRecDepth 100000 in
theorem lawPo_any (ca : Option Addr) (cb co L C : Nat) (x : Nat → Int) (da : Option Addr) (db dO K D : Nat) (y : Nat → Int) (w : World)
    (hL : L ≤ C) (had : 0 < L → ca = some ⟨cb, co, none⟩) (hc : ∀ i, i < L → w.cell? ⟨cb, co + i, none⟩ = some (.int .u8 (x i)) ∧ 0 ≤ x i ∧ x i ≤ 255)
    (hK : K ≤ D) (hbd : 0 < K → da = some ⟨db, dO, none⟩) (hd : ∀ i, i < K → w.cell? ⟨db, dO + i, none⟩ = some (.int .u8 (y i)) ∧ 0 ≤ y i ∧ y i ≤ 255) :
    Calls Try.prog 5 #[.slice ca L C, .slice da K D] w fun e w' => e = .returned (.bool true) ∧ Below w.heap.size w w' := by
  by_cases hLb : L ≤ 1048576
  · by_cases hKb : K ≤ 1048576
    · have n1 : decide ((1048576 : Int) < L) = false := by simp; omega
      have n2 : decide ((1048576 : Int) < K) = false := by simp; omega
      go_enter Try.func5, Try.ntmps5
      go_wp2_with fail
      refine (DrawProgText_any ca cb co L C x _ hL had hc hLb).mono ?_
      rintro e w1 ⟨a, g, c, mm, rfl, hsn, hsm, hb1⟩
      have hle := hsm.le
      have h3 := hsm.three
      obtain ⟨rfl⟩ := hsn.addr hsm.pos
      go_wp2_with fail
      have bx0 := BoxP.new (c := c) hb1 hsn.ss
      generalize w1.alloc (.cells #[.slice (some ⟨g, 0, none⟩) mm.length c] 25) = W0 at *
      generalize w1.heap.size = P at *
      clear hsn hb1 had hc
      refine (DrawProgText_any da db dO K D y _ hK hbd (fun i hi => ⟨by rw [bx0.bel.cell (p := ⟨db, dO + i, none⟩) (World.block_lt_of_cell? _ _ (hd i hi).1)]; exact (hd i hi).1, (hd i hi).2⟩) hKb).mono ?_
      rintro e w2 ⟨a2, g2, c2, nn, rfl, hsn2, hsm2, hb2⟩
      have hle2 := hsm2.le
      have h32 := hsm2.three
      obtain ⟨rfl⟩ := hsn2.addr hsm2.pos
      have bx1 := bx0.below hb2
      have by0 := BoxP.new (c := c2) (bx0.bel.trans (hb2.mono bx0.bel.size)) hsn2.ss
      have bx2 := bx1.below (below1 w2 (.cells #[.slice (some ⟨g2, 0, none⟩) nn.length c2] 25))
      have p0 := bx2.p.c
      go_wp2_with fail
      generalize w2.alloc (.cells #[.slice (some ⟨g2, 0, none⟩) nn.length c2] 25) = W2 at *
      generalize w2.heap.size = Q at *
      clear hsn2 hb2 bx0 bx1 hbd hd p0
      refine (iprogText_any _ g 0 c mm W2 (by omega) hle bx2.ss).mono ?_
      rintro e W3 ⟨rfl, b3⟩
      have bx3 := bx2.below b3
      have by3 := by0.below b3
      have q0 := by3.p.c
      clear bx2 by0 b3
      go_wp2_with fail
      refine (iprogText_any _ g2 0 c2 nn W3 (by omega) hle2 by3.ss).mono ?_
      rintro e W4 ⟨rfl, b4⟩
      have bx4 := bx3.below b4
      have by4 := by3.below b4
      clear bx3 by3 b4 q0
      have p0 := bx4.p.c
      have HI : Hid (M.prog mm = true → M.prog nn = true → (M.text mm = M.text nn ↔ mm = nn)) := fun hp hq => ⟨M.text_inj hp hq, fun h => by rw [h]⟩
      have hok : ∀ W (hs : DoSS W (some ⟨g, 0, none⟩) g 0 mm), _ := fun W hs => sprog_any (some ⟨g, 0, none⟩) g 0 c mm W (by omega) hle hs
      have hok2 : ∀ W (hs : DoSS W (some ⟨g2, 0, none⟩) g2 0 nn), _ := fun W hs => sprog_any (some ⟨g2, 0, none⟩) g2 0 c2 nn W (by omega) hle2 hs
      have htx : ∀ W (hs : DoSS W (some ⟨g, 0, none⟩) g 0 mm), _ := fun W hs => sprogText_any (some ⟨g, 0, none⟩) g 0 c mm W (by omega) hle hs
      have htx2 : ∀ W (hs : DoSS W (some ⟨g2, 0, none⟩) g2 0 nn), _ := fun W hs => sprogText_any (some ⟨g2, 0, none⟩) g2 0 c2 nn W (by omega) hle2 hs
      have hlp : ∀ W (hs : DoSS W (some ⟨g, 0, none⟩) g 0 mm) (hs2 : DoSS W (some ⟨g2, 0, none⟩) g2 0 nn), _ := fun W hs hs2 => lpProg_any (some ⟨g, 0, none⟩) g 0 c (some ⟨g2, 0, none⟩) g2 0 c2 mm nn W (by omega) (by omega) hle hs hs2
      generalize M.text mm = A at *
      generalize M.text nn = B at *
      go_wp2_with fail
      refine (htx W4 bx4.ss).mono ?_
      rintro e W5 ⟨rfl, b5⟩
      have bx5 := bx4.below b5
      have by5 := by4.below b5
      clear bx4 by4 b5 p0
      have q0 := by5.p.c
      go_wp2_with fail
      refine (htx2 W5 by5.ss).mono ?_
      rintro e W6 ⟨rfl, b6⟩
      have bx6 := bx5.below b6
      have by6 := by5.below b6
      clear bx5 by5 b6 q0
      have p0 := bx6.p.c
      have q0 := by6.p.c
      go_wp2_with fail
      refine (hok W6 bx6.ss).mono ?_
      rintro e W7 ⟨rfl, b7⟩
      have bx7 := bx6.below b7
      have by7 := by6.below b7
      clear bx6 by6 b7 p0 q0
      have p0 := bx7.p.c
      have q0 := by7.p.c
      cases hp : M.prog mm
      · go_wp2_with fail
        refine (htx W7 bx7.ss).mono ?_
        rintro e W8 ⟨rfl, b8⟩
        have bx8 := bx7.below b8
        have by8 := by7.below b8
        clear bx7 by7 b8 p0 q0
        have q0 := by8.p.c
        go_wp2_with fail
        refine (htx2 W8 by8.ss).mono ?_
        rintro e W9 ⟨rfl, b9⟩
        have bx9 := bx8.below b9
        go_wp2_with fail
        go_ret
        exact ⟨rfl, bx9.bel⟩
      · go_wp2_with fail
        refine (hok2 W7 by7.ss).mono ?_
        rintro e W8 ⟨rfl, b8⟩
        have bx8 := bx7.below b8
        have by8 := by7.below b8
        clear bx7 by7 b8 p0 q0
        have p0 := bx8.p.c
        have q0 := by8.p.c
        cases hq : M.prog nn
        · go_wp2_with fail
          refine (htx W8 bx8.ss).mono ?_
          rintro e W9 ⟨rfl, b9⟩
          have bx9 := bx8.below b9
          have by9 := by8.below b9
          clear bx8 by8 b9 p0 q0
          have q0 := by9.p.c
          go_wp2_with fail
          refine (htx2 W9 by9.ss).mono ?_
          rintro e W10 ⟨rfl, b10⟩
          have bx10 := bx9.below b10
          go_wp2_with fail
          go_ret
          exact ⟨rfl, bx10.bel⟩
        · have hij := HI.out hp hq
          by_cases hmn : mm = nn
          · have hAB := hij.2 hmn
            have heq : M.eqLL mm nn = true := M.eqLL_yes hmn
            clear hij hmn HI
            subst hAB
            go_wp2_with fail
            refine (hlp W8 bx8.ss by8.ss).mono ?_
            rintro e W9 ⟨rfl, b9⟩
            have bx9 := bx8.below b9
            rw [heq]
            go_wp2_with fail
            go_ret
            exact ⟨rfl, bx9.bel⟩
          · have hAB : (A == B) = false := by rw [beq_eq_false_iff_ne]; exact fun h => hmn (hij.1 h)
            have heq : M.eqLL mm nn = false := M.eqLL_no hmn
            clear hij hmn HI
            go_wp2_with fail
            refine (hlp W8 bx8.ss by8.ss).mono ?_
            rintro e W9 ⟨rfl, b9⟩
            have bx9 := bx8.below b9
            rw [heq]
            go_wp2_with fail
            go_ret
            exact ⟨rfl, bx9.bel⟩
    · have n1 : decide ((1048576 : Int) < L) = false := by simp; omega
      have n2 : decide ((1048576 : Int) < K) = true := by simp; omega
      go_enter Try.func5, Try.ntmps5
      go_wp2_with fail
      go_ret
      exact ⟨rfl, Below.refl _ _⟩
  · have n1 : decide ((1048576 : Int) < L) = true := by simp; omega
    go_enter Try.func5, Try.ntmps5
    go_wp2_with fail
    go_ret
    exact ⟨rfl, Below.refl _ _⟩

end Go.Proofs.Ythgmolelipjdaaa
