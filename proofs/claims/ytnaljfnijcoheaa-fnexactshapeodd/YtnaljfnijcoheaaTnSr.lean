/- spec.l22Row: whether numbers are a row. Of at most 1000, rows of at most 1048576 numbers. -/
import Derived.Test.YtnaljfnijcoheaaTnMath
namespace Go.Proofs.Ytnaljfnijcoheaa
open Go.RowKit

set_option maxHeartbeats 400000 in
set_option maxRecDepth 100000 in
theorem l22Row_any (a : Option Addr) (b o c : Nat) (row : List Int) (m : Nat) (w : World) (hl : row.length ≤ 1048576) (hm : m ≤ 1000) (h : IntS w a b o row) :
    Calls Try.prog 42 #[.slice a row.length c, .int .i64 m] w fun e w' => e = .returned (.bool (M.rowN row m)) ∧ w' = w := by
  by_cases hln : row.length = m
  · have HF : Hid (M.rowN row m = (M.bel m).all (fun v => M.has row v)) := M.rowOf_same (by rw [M.bel_len]; exact hln)
    have hq : ((row.length : Int) != m) = false := by simp; omega
    have HL : Hid (row.length = m) := hln
    clear hln
    go_enter Try.func42, Try.ntmps42
    go_wp2_with fail
    go_loopw [5] (fun s5 wr => ∃ n : Nat, s5 = .int .i64 n ∧ n ≤ m ∧ Hid ((M.bel m).all (fun v => M.has row v) = ((M.bel m).drop n).all (fun v => M.has row v)) ∧ wr = w) (fun s5 _ => m - (intOf s5).toNat)
    case atStart => exact ⟨0, rfl, Nat.zero_le _, by show _ = _; rfl, rfl⟩
    case round =>
      obtain ⟨n, rfl, hn, HA, rfl⟩ := hrel
      by_cases hlt : n < m
      · have hlt2 : n < (M.bel m).length := by rw [M.bel_len]; exact hlt
        have HS : Hid ((M.bel m).all (fun v => M.has row v) = (M.has row (n : Int) && ((M.bel m).drop (n + 1)).all (fun v => M.has row v))) := by
          have := M.rowAll_step HA.out hlt2
          rw [M.bel_get] at this
          exact this
        clear HA hlt2
        have i1 : (n : Int) < m := by omega
        cases hh : M.has row (n : Int)
        · go_wp2_with (go_at_call 76; refine (l12Has_any a b o c row n _ hl h).mono ?_; rw [hh]; rintro e w' ⟨rfl, rfl⟩)
          go_ret
          exact ⟨ret_bool (by rw [HF.out, HS.out, hh]; rfl), rfl⟩
        · go_wp2_with (go_at_call 76; refine (l12Has_any a b o c row n _ hl h).mono ?_; rw [hh]; rintro e w' ⟨rfl, rfl⟩)
          exact ⟨⟨n + 1, by go_num, by omega, by show _ = _; rw [HS.out, hh]; rfl, trivial⟩, by simp [intOf]; omega⟩
      · have i1 : ¬ (n : Int) < m := by omega
        go_wp2_with fail
        go_ret
        exact ⟨ret_bool (by rw [HF.out, HA.out, List.drop_eq_nil_of_le (by rw [M.bel_len]; omega)]; rfl), rfl⟩
  · have hln' : ((row.length : Int) == m) = false := by simp; omega
    go_enter Try.func42, Try.ntmps42
    go_wp2_with fail
    go_ret
    exact ⟨ret_bool (M.rowOf_short (by rw [M.bel_len]; exact hln)).symm, rfl⟩

end Go.Proofs.Ytnaljfnijcoheaa
