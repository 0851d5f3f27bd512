/- The law FnProgReads, walked: it answers true, and leaves all as it was. Of whatever code. -/
import Derived.Test.YtfekeknnphoelaaBxP
import Derived.Test.YtfekeknnphoelaaDrawReads
namespace Go.Proofs.Ytfekeknnphoelaa
open Go.RowKit

set_option maxHeartbeats 1000000 in
set_option maxRecDepth 100000 in
theorem lawReads_any (ca : Option Addr) (cb co L C : Nat) (x : Nat → Int) (w : World) (hL : L ≤ C) (had : 0 < L → ca = some ⟨cb, co, none⟩) (hc : ∀ i, i < L → w.cell? ⟨cb, co + i, none⟩ = some (.int .u8 (x i)) ∧ 0 ≤ x i ∧ x i ≤ 255) :
    Calls Try.prog 5 #[.slice ca L C] w fun e w' => e = .returned (.bool true) ∧ Below w.heap.size w w' := by
  by_cases hLb : L ≤ 1048576
  · go_enter Try.func5, Try.ntmps5
    go_wp2_with fail
    refine (DrawProgReads_any ca cb co L C x _ hL had hc hLb).mono ?_
    rintro e w1 ⟨a, g, c, mm, rfl, hsn, hsm, hb1⟩
    have hle := hsm.le
    have h3 := hsm.three
    have hcap := hsm.cap
    have hpos := hsm.pos
    obtain ⟨rfl⟩ := hsn.addr hpos
    clear had hc
    go_wp2_with fail
    have bx0 := BoxP.new (c := c) hb1 hsn.ss
    generalize w1.alloc (.cells #[.slice (some ⟨g, 0, none⟩) mm.length c] 25) = W0 at *
    generalize w1.heap.size = P at *
    clear hsn hb1
    have C1 := ireads_any _ g 0 c mm W0 (by omega) hle bx0.ss
    cases hp : M.prog mm
    · rw [M.nreads_no hp] at C1
      refine C1.mono ?_
      rintro e W1 ⟨rfl, b1⟩
      have bx1 := bx0.below b1
      have C2 := sreads_any _ g 0 c mm W1 (by omega) hle bx1.ss
      rw [M.nreads_no hp] at C2
      have p0 := bx1.p.c
      go_wp2_with fail
      refine C2.mono ?_
      rintro e W2 ⟨rfl, b2⟩
      have bx2 := bx1.below b2
      have C3 := sreads_any _ g 0 c mm W2 (by omega) hle bx2.ss
      rw [M.nreads_no hp] at C3
      clear p0
      have p0 := bx2.p.c
      go_wp2_with fail
      refine C3.mono ?_
      rintro e W3 ⟨rfl, b3⟩
      have bx3 := bx2.below b3
      go_wp2_with fail
      go_ret
      exact ⟨rfl, bx3.bel⟩
    · have h6 := M.nreads_le hp
      have hthr : ∀ i (hi : i < mm.length), M.nreads [mm[i]] = M.cnt M.reads mm[i] := fun i hi => M.nreads_alone hp (List.getElem_mem hi)
      rw [M.nreads_ok hp] at C1
      refine C1.mono ?_
      rintro e W1 ⟨rfl, b1⟩
      have bx1 := bx0.below b1
      have C2 := sreads_any _ g 0 c mm W1 (by omega) hle bx1.ss
      rw [M.nreads_ok hp] at C2
      have p0 := bx1.p.c
      go_wp2_with fail
      refine C2.mono ?_
      rintro e W2 ⟨rfl, b2⟩
      have bx2 := bx1.below b2
      clear p0 C1 C2
      have n0 : ¬ ((M.tot M.reads mm : Nat) : Int) < 0 := by omega
      have h6' : ((M.tot M.reads mm : Nat) : Int) ≤ 6 := by omega
      obtain ⟨T, hT⟩ : ∃ T, M.tot M.reads mm = T := ⟨_, rfl⟩
      rw [hT] at n0 h6 h6' ⊢
      go_wp2_with fail
      go_loopw [5, 6] (fun s5 s6 wr => ∃ m n : Nat, s5 = .int .i64 m ∧ s6 = .int .i64 n ∧ n ≤ mm.length ∧ m ≤ 6 ∧ T = m + M.tot M.reads (mm.drop n) ∧ BoxP w wr P (some ⟨g, 0, none⟩) g c mm) (fun _ s6 _ => mm.length - (intOf s6).toNat)
      case atStart => exact ⟨0, 0, rfl, rfl, Nat.zero_le _, Nat.zero_le _, by simpa using hT.symm, bx2⟩
      case round =>
        obtain ⟨m, n, rfl, rfl, hn, hm, hpass, bx⟩ := hrel
        have HP : Hid (T = m + M.tot M.reads (mm.drop n)) := hpass
        have p0 := bx.p.c
        have pl := bx.p.lt
        clear hpass bx0 bx1 bx2 b1 b2
        by_cases hlt : n < mm.length
        · have HD : Hid (mm.drop n = mm[n] :: mm.drop (n + 1)) := M.drop_at' mm n hlt
          have hal := bx.ss.alone hlt
          rw [Nat.zero_add] at hal
          have hthn := hthr n hlt
          have hlen := hsm.steps _ (List.getElem_mem hlt)
          have hrl : m + M.cnt M.reads mm[n] ≤ 6 := by
            have := HP.out; rw [HD.out] at this; simp only [M.tot] at this; omega
          generalize mm[n] = t at HD hal hthn hrl hlen
          have i1 : (n : Int) < mm.length := by omega
          have i2 : n ≤ c := by omega
          have i3 : n + 1 ≤ c := by omega
          have C4 := ireads_any _ g n (c - n) [t] wr (by simp) (fun t' ht' => by simp at ht'; subst ht'; omega) hal
          rw [hthn] at C4
          go_wp2_with fail
          refine C4.mono ?_
          rintro e W4 ⟨rfl, b4⟩
          have bx4 := bx.below b4
          go_wp2_with fail
          exact ⟨⟨m + M.cnt M.reads t, n + 1, by go_num, by go_num, by omega, hrl, by have := HP.out; rw [HD.out] at this; simp only [M.tot] at this; omega, bx4⟩, by simp [intOf]; omega⟩
        · obtain rfl : T = m := by have := HP.out; rw [List.drop_eq_nil_of_le (by omega)] at this; simpa [M.tot] using this
          go_wp2_with fail
          go_ret
          exact ⟨rfl, bx.bel⟩
  · go_enter Try.func5, Try.ntmps5
    go_wp2_with fail
    go_ret
    exact ⟨rfl, Below.refl _ _⟩

end Go.Proofs.Ytfekeknnphoelaa
