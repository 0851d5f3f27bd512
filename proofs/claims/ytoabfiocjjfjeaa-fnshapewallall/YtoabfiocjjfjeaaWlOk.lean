/- impl.gapsOk and spec.l21Ok: whether gaps are ascending and below a number. Of at most 1048576 gaps, below at most 1000. -/
import Derived.Test.YtoabfiocjjfjeaaWlMath
import Derived.Test.YtoabfiocjjfjeaaLDo
import Derived.BigQuiet
namespace Go.Proofs.Ytoabfiocjjfjeaa
open Go.RowKit

set_option maxHeartbeats 400000 in
theorem gapsOk_any (a : Option Addr) (b o c : Nat) (gs : List Int) (many : Int) (w : World) (hl : gs.length ≤ 1048576) (h : IntS w a b o gs) :
    Calls Try.prog 30 #[.slice a gs.length c, .int .i64 many] w fun e w' => e = .returned (.bool (M.gapsOk gs many)) ∧ w' = w := by
  go_enter Try.func30, Try.ntmps30
  go_wp2_with fail
  go_loopw [5, 10] (fun s5 s10 wr => ∃ n : Nat, s5 = .int .i64 (M.lastOf gs n) ∧ s10 = .int .i64 n ∧ n ≤ gs.length ∧ Hid (M.gapsOk gs many = M.gapsFrom (M.lastOf gs n) many (gs.drop n)) ∧ wr = w) (fun _ s10 _ => gs.length - (intOf s10).toNat)
  case atStart => exact ⟨0, by simp [M.lastOf], rfl, Nat.zero_le _, by show _ = _; simp [M.gapsOk, M.lastOf], rfl⟩
  case round =>
    obtain ⟨n, rfl, rfl, hn, HP, rfl⟩ := hrel
    by_cases hlt : n < gs.length
    · obtain ⟨rfl⟩ := h.addr (by omega)
      have hx := h.row n hlt
      have HS := fun g hg => M.gapsFrom_step (g := g) HP.out hlt hg
      have HL : Hid (M.lastOf gs (n + 1) = gs[n]) := M.lastOf_succ gs n hlt
      obtain ⟨y, hy⟩ : ∃ y, gs[n] = y := ⟨_, rfl⟩
      have HQ : Hid (M.gapsOk gs many = (decide (M.lastOf gs n < y) && decide (y < many) && M.gapsFrom (M.lastOf gs (n + 1)) many (gs.drop (n + 1)))) := HS y hy
      rw [hy] at hx HL
      clear hy HS HP
      have i1 : (n : Int) < gs.length := by omega
      generalize M.lastOf gs n = last at *
      by_cases e1 : last < y
      · have e1' : ¬ y ≤ last := by omega
        by_cases e2 : y < many
        · have e2' : ¬ many ≤ y := by omega
          go_wp2_with fail
          exact ⟨⟨n + 1, by rw [HL.out], by go_num, by omega, by show _ = _; rw [HQ.out]; simp [e1, e2], trivial⟩, by simp [intOf]; omega⟩
        · have e2' : many ≤ y := by omega
          go_wp2_with fail
          go_ret
          exact ⟨ret_bool (by rw [HQ.out, decide_eq_false (show ¬ y < many by omega)]; simp), rfl⟩
      · have e1' : y ≤ last := by omega
        go_wp2_with fail
        go_ret
        exact ⟨ret_bool (by rw [HQ.out, decide_eq_false (show ¬ last < y by omega)]; simp), rfl⟩
    · have HF := M.gapsFrom_fin HP.out (by omega)
      clear HP
      go_wp2_with fail
      go_ret
      exact ⟨ret_bool HF.symm, rfl⟩


/-- How the model asks: by the number behind. -/
theorem M.gaps_in {gs : List Int} {many : Int} {n : Nat} {y : Int} (h : M.gapsOk gs many = (decide (M.lastOf gs n < y) && decide (y < many) && M.gapsFrom (M.lastOf gs (n + 1)) many (gs.drop (n + 1)))) (hy : M.rng 0 (many - 1) y = false) (hl : -1 ≤ M.lastOf gs n) : M.gapsOk gs many = false := by
  rw [h]
  simp only [M.rng, Bool.and_eq_false_iff, decide_eq_false_iff_not] at hy ⊢
  left
  omega

set_option maxHeartbeats 1000000 in
theorem l21Ok_any (a : Option Addr) (b o c : Nat) (gs : List Int) (many : Int) (w : World) (hl : gs.length ≤ 1048576) (hm0 : -1 ≤ many) (hm : many ≤ 1000) (h : IntS w a b o gs) :
    Calls Try.prog 27 #[.slice a gs.length c, .int .i64 many] w fun e w' => e = .returned (.bool (M.gapsOk gs many)) ∧ Below w.heap.size w w' := by
  have hwm : IntKind.i64.wrap (many - 1) = many - 1 := IntWalk.i64_in _ (by omega)
  go_enter Try.func27, Try.ntmps27
  go_wp2_with fail
  go_loopw [5] (fun s5 wr => ∃ n : Nat, s5 = .int .i64 n ∧ n ≤ gs.length ∧ -1 ≤ M.lastOf gs n ∧ Hid (M.gapsOk gs many = M.gapsFrom (M.lastOf gs n) many (gs.drop n)) ∧ Below w.heap.size w wr) (fun s5 _ => gs.length - (intOf s5).toNat)
  case atStart => exact ⟨0, rfl, Nat.zero_le _, by simp [M.lastOf], by show _ = _; simp [M.gapsOk, M.lastOf], Below.refl _ _⟩
  case round =>
    obtain ⟨n, rfl, hn, hlo, HP, hbel⟩ := hrel
    by_cases hlt : n < gs.length
    · have hh := h.below hbel (Nat.le_refl _)
      obtain ⟨rfl⟩ := hh.addr (by omega)
      have hx := hh.row n hlt
      have HS := fun g hg => M.gapsFrom_step (g := g) HP.out hlt hg
      have HL : Hid (M.lastOf gs (n + 1) = gs[n]) := M.lastOf_succ gs n hlt
      obtain ⟨y, hy⟩ : ∃ y, gs[n] = y := ⟨_, rfl⟩
      have HQ : Hid (M.gapsOk gs many = (decide (M.lastOf gs n < y) && decide (y < many) && M.gapsFrom (M.lastOf gs (n + 1)) many (gs.drop (n + 1)))) := HS y hy
      rw [hy] at hx HL
      clear hy HS HP
      have i1 : (n : Int) < gs.length := by omega
      have CI := fun W => l6In_any y 0 (many - 1) W
      have HLo : Hid (-1 ≤ M.lastOf gs n) := hlo
      clear hlo
      cases hr : M.rng 0 (many - 1) y
      · rw [hr] at CI
        have HF := M.gaps_in HQ.out hr HLo.out
        go_wp2_with fail
        refine wp_region_quiet_lit (by kernel_rfl) (by kernel_rfl) ?_
        iterate 9 (quiet_step (first | (go_at_call 40; refine Calls.quiet_of_same (CI _))))
        iterate 14 go_big_quiet_skip
        iterate 1 (quiet_step (fail))
        refine wpQuiet_nil ?_
        rintro _ ⟨nq, rfl⟩
        go_wp2_with fail
        go_ret
        exact ⟨ret_bool HF.symm, hbel.trans ⟨rfl, rfl, rfl, Nat.le_refl _, fun _ _ => rfl⟩⟩
      · rw [hr] at CI
        have hr' : 0 ≤ y ∧ y < many := by simp only [M.rng, Bool.and_eq_true, decide_eq_true_eq] at hr; omega
        clear hr
        have hy1 : y < many := hr'.2
        have hy0 : Hid (0 ≤ y) := hr'.1
        clear hr'
        rcases Nat.eq_zero_or_pos n with h0 | h0
        · subst h0
          have HO : Hid (M.lastOf gs 0 < y) := by show _ < _; have := hy0.out; simp only [M.lastOf, if_true]; omega
          have hx0 : wr.cell? ⟨b, o, none⟩ = some (.int .i64 y) := by simpa using hx
          have i0 : (0 : Int) < gs.length := by omega
          have i00 : 0 < gs.length := by omega
          clear hx i1
          go_wp2_with fail
          refine wp_region_quiet_lit (by kernel_rfl) (by kernel_rfl) ?_
          iterate 12 (quiet_step (first | (go_at_call 40; refine Calls.quiet_of_same (CI _))))
          iterate 10 go_big_quiet_skip
          iterate 2 (quiet_step (fail))
          refine wpQuiet_nil ?_
          rintro _ ⟨nq, rfl⟩
          go_wp2_with fail
          exact ⟨⟨1, by go_num, by omega, by rw [HL.out]; have := hy0.out; omega, by show _ = _; rw [HQ.out, decide_eq_true HO.out, decide_eq_true hy1]; simp, hbel.trans ⟨rfl, rfl, rfl, Nat.le_refl _, fun _ _ => rfl⟩⟩, by simp [intOf]; omega⟩
        · obtain ⟨m, rfl⟩ : ∃ m, n = m + 1 := ⟨n - 1, by omega⟩
          have hz := hh.row m (by omega)
          have HZ : Hid (M.lastOf gs (m + 1) = gs[m]) := M.lastOf_succ gs m (by omega)
          generalize gs[m] = z at *
          have e0 : (((m + 1 : Nat) : Int)) - 1 = m := by omega
          have e1 : IntKind.i64.wrap (m : Int) = m := IntWalk.i64_in _ (by omega)
          have e2 : decide (0 < m + 1) = true := by simp
          have i2 : (m : Int) < gs.length := by omega
          by_cases hzy : z < y
          · have hzy' : ¬ y ≤ z := by omega
            go_wp2_with fail
            go_quiet (first | (go_at_call 40; refine Calls.quiet_of_same (CI _)))
            go_wp2_with fail
            exact ⟨⟨m + 1 + 1, by go_num, by omega, by rw [HL.out]; have := hy0.out; omega, by show _ = _; rw [HQ.out, HZ.out, decide_eq_true hzy, decide_eq_true hy1]; simp, hbel.trans ⟨rfl, rfl, rfl, Nat.le_refl _, fun _ _ => rfl⟩⟩, by simp [intOf]; omega⟩
          · have hzy' : y ≤ z := by omega
            go_wp2_with fail
            go_quiet (first | (go_at_call 40; refine Calls.quiet_of_same (CI _)))
            go_wp2_with fail
            go_ret
            exact ⟨ret_bool (by rw [HQ.out, HZ.out, decide_eq_false (show ¬ z < y by omega)]; simp), hbel.trans ⟨rfl, rfl, rfl, Nat.le_refl _, fun _ _ => rfl⟩⟩
    · have HF := M.gapsFrom_fin HP.out (by omega)
      clear HP
      go_wp2_with fail
      go_ret
      exact ⟨ret_bool HF.symm, hbel⟩

end Go.Proofs.Ytoabfiocjjfjeaa
