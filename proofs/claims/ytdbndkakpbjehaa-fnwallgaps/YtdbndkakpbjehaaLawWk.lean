/- The law FnWallGaps, walked: it answers true, and leaves all as it was. Of whatever code. -/
import Derived.Test.YtdbndkakpbjehaaBxP
import Derived.Test.YtdbndkakpbjehaaWlGap
import Derived.Test.YtdbndkakpbjehaaDrWg
namespace Go.Proofs.Ytdbndkakpbjehaa
open Go.RowKit

set_option maxHeartbeats 1000000 in
set_option maxRecDepth 100000 in
theorem lawWk_any (ca : Option Addr) (cb co L C : Nat) (x : Nat → Int) (w : World) (hL : L ≤ C) (had : 0 < L → ca = some ⟨cb, co, none⟩) (hc : ∀ i, i < L → w.cell? ⟨cb, co + i, none⟩ = some (.int .u8 (x i)) ∧ 0 ≤ x i ∧ x i ≤ 255) :
    Calls Try.prog 3 #[.slice ca L C] w fun e w' => e = .returned (.bool true) ∧ Below w.heap.size w w' := by
  by_cases hLb : L ≤ 1048576
  · go_enter Try.func3, Try.ntmps3
    go_wp2_with fail
    refine (DrawWallGaps_any ca cb co L C x _ hL had hc hLb).mono ?_
    rintro e w1 ⟨a, g, c, mm, rfl, hsn, hsm, hb1⟩
    have hle := hsm.le
    have h3 := hsm.three
    have hcap := hsm.cap
    have hpos := hsm.pos
    obtain ⟨rfl⟩ := hsn.addr hpos
    clear had hc
    go_wp2_with fail
    have bx0 := BoxP.new (c := c) hb1 hsn.ss
    generalize w1.alloc (.cells #[.slice (some ⟨g, 0, none⟩) mm.length c] 25) = W0 at *
    generalize w1.heap.size = P at *
    clear hsn hb1
    have C1 := igaps_any _ g 0 c mm W0 (by omega) hle bx0.ss
    cases hp : M.prog mm
    · rw [M.gaps_no hp] at C1
      refine C1.mono ?_
      rintro e W1 ⟨rfl, b1⟩
      have bx1 := bx0.below b1
      have C2 := sgaps_any _ g 0 c mm W1 (by omega) hle bx1.ss
      rw [M.gaps_no hp] at C2
      have p0 := bx1.p.c
      go_wp2_with fail
      refine C2.mono ?_
      rintro e W2 ⟨rfl, b2⟩
      have bx2 := bx1.below b2
      have C3 := sgaps_any _ g 0 c mm W2 (by omega) hle bx2.ss
      rw [M.gaps_no hp] at C3
      clear p0
      have p0 := bx2.p.c
      go_wp2_with fail
      refine C3.mono ?_
      rintro e W3 ⟨rfl, b3⟩
      have bx3 := bx2.below b3
      go_wp2_with fail
      go_ret
      exact ⟨rfl, bx3.bel⟩
    · obtain ⟨_, h7⟩ := M.prog_le hp
      have hgm := M.gapsN_le h7
      rw [M.gaps_ok hp] at C1
      refine C1.mono ?_
      rintro e W1 ⟨rfl, b1⟩
      have bx1 := bx0.below b1
      have C2 := sgaps_any _ g 0 c mm W1 (by omega) hle bx1.ss
      rw [M.gaps_ok hp] at C2
      have p0 := bx1.p.c
      go_wp2_with fail
      refine C2.mono ?_
      rintro e W2 ⟨rfl, b2⟩
      have bx2 := bx1.below b2
      clear p0 C1 C2
      have n0 : ¬ ((M.gapsN mm : Nat) : Int) < 0 := by omega
      obtain ⟨T, hT⟩ : ∃ T, M.gapsN mm = T := ⟨_, rfl⟩
      rw [hT] at n0 hgm ⊢
      go_wp2_with fail
      go_loopw [5, 6, 7] (fun s5 s6 s7 wr => ∃ m r n : Nat, s5 = .int .i64 m ∧ s6 = .int .i64 r ∧ s7 = .int .i64 n ∧ n ≤ mm.length ∧ m ≤ 7 * n ∧ r ≤ m ∧ T = (m - r) + M.gapsN (mm.drop n) ∧ wr = W2) (fun _ _ s7 _ => mm.length - (intOf s7).toNat)
      case atStart => exact ⟨0, 0, 0, rfl, rfl, rfl, Nat.zero_le _, Nat.zero_le _, Nat.zero_le _, by simpa using hT.symm, rfl⟩
      case round =>
        obtain ⟨m, r, n, rfl, rfl, rfl, hn, hm, hr, hpass, rfl⟩ := hrel
        have HP : Hid (T = (m - r) + M.gapsN (mm.drop n)) := hpass
        have p0 := bx2.p.c
        have pl := bx2.p.lt
        clear hpass bx0 bx1 b1 b2
        by_cases hlt : n < mm.length
        · have HD : Hid (mm.drop n = mm[n] :: mm.drop (n + 1)) := M.drop_at' mm n hlt
          obtain ⟨a', b', o', c', hcr, hd⟩ := bx2.ss.row n hlt
          have hlt7 := h7 _ (List.getElem_mem hlt)
          generalize mm[n] = t at hd hcr HD hlt7
          have i1 : (n : Int) < mm.length := by omega
          have HS : Hid (T = (m - r) + ((t.length - 1) + M.gapsN (mm.drop (n + 1)))) := by show _ = _; rw [HP.out, HD.out, M.gapsN]
          clear HP HD
          rw [Nat.zero_add] at hcr
          by_cases ht : 0 < t.length
          · have ht' : (0 : Int) < t.length := by omega
            go_wp2_with fail
            exact ⟨⟨m + t.length, r + 1, n + 1, by go_num, by go_num, by go_num, by omega, by omega, by omega, by have := HS.out; omega, trivial⟩, by simp [intOf]; omega⟩
          · have ht' : ¬ (0 : Int) < t.length := by omega
            go_wp2_with fail
            exact ⟨⟨m + t.length, r, n + 1, by go_num, by go_num, by go_num, by omega, by omega, by omega, by have := HS.out; omega, trivial⟩, by simp [intOf]; omega⟩
        · have hfin : M.gapsN (mm.drop n) = 0 := by rw [List.drop_eq_nil_of_le (by omega)]; rfl
          have hTe : (T : Int) = (m : Int) - r := by have := HP.out; omega
          have hT' : ((T : Int) == (m : Int) - r) = true := by simp [hTe]
          clear HP
          go_wp2_with fail
          go_ret
          exact ⟨rfl, bx2.bel⟩
  · go_enter Try.func3, Try.ntmps3
    go_wp2_with fail
    go_ret
    exact ⟨rfl, Below.refl _ _⟩

end Go.Proofs.Ytdbndkakpbjehaa
