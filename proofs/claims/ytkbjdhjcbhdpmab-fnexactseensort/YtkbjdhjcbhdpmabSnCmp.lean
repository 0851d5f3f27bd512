/- How impl and spec compare what was seen: cmp.Compare, slices.Compare, cmp.Or, impl.compareSeen; spec.l2Comp, l2Seen. Of lists of at most 1048576 numbers. -/
import Derived.Test.YtkbjdhjcbhdpmabSnMem
import Derived.Deep.RegionWith
import Derived.Deep.QuietTactic
import Derived.BigQuiet
namespace Go.Proofs.Ytkbjdhjcbhdpmab
open Go.RowKit

theorem ret_i {a b : Int} (h : a = b) : Ending.returned (.int .i64 a) = .returned (.int .i64 b) := by rw [h]

theorem isNaN_any (x : Int) (w : World) :
    Calls Try.prog 52 #[.int .i64 x] w fun e w' => e = .returned (.bool false) ∧ w' = w := by
  go_enter Try.func52, Try.ntmps52
  go_wp2
  go_ret
  exact ⟨rfl, rfl⟩

/-- cmp.Compare: -1, 0 or 1. -/
def cmp3 (x y : Int) : Int := if x < y then -1 else if y < x then 1 else 0

theorem compare_any (x y : Int) (w : World) :
    Calls Try.prog 41 #[.int .i64 x, .int .i64 y] w fun e w' => e = .returned (.int .i64 (cmp3 x y)) ∧ w' = w := by
  by_cases h1 : x < y
  · go_enter Try.func41, Try.ntmps41
    go_wp2_with (go_at_call 52; refine (isNaN_any _ _).mono ?_; rintro e w' ⟨rfl, rfl⟩)
    go_ret
    exact ⟨ret_i (by simp [cmp3, h1]), rfl⟩
  · by_cases h2 : y < x
    · go_enter Try.func41, Try.ntmps41
      go_wp2_with (go_at_call 52; refine (isNaN_any _ _).mono ?_; rintro e w' ⟨rfl, rfl⟩)
      go_ret
      exact ⟨ret_i (by simp [cmp3, h1, h2]), rfl⟩
    · go_enter Try.func41, Try.ntmps41
      go_wp2_with (go_at_call 52; refine (isNaN_any _ _).mono ?_; rintro e w' ⟨rfl, rfl⟩)
      go_ret
      exact ⟨ret_i (by rw [cmp3, if_neg (by omega), if_neg (by omega)]), rfl⟩

set_option maxHeartbeats 400000 in
theorem slcmp_any (a : Option Addr) (b o c : Nat) (l : List Int) (a2 : Option Addr) (b2 o2 c2 : Nat) (m : List Int) (w : World) (hl : l.length ≤ 1048576) (hm : m.length ≤ 1048576) (h : IntS w a b o l) (h2 : IntS w a2 b2 o2 m) :
    Calls Try.prog 35 #[.slice a l.length c, .slice a2 m.length c2] w fun e w' => e = .returned (.int .i64 (M.comp l m)) ∧ w' = w := by
  go_enter Try.func35, Try.ntmps35
  go_wp2_with fail
  go_loopw [11] (fun s11 wr => ∃ n : Nat, s11 = .int .i64 n ∧ n ≤ l.length ∧ n ≤ m.length ∧ M.comp l m = M.comp (l.drop n) (m.drop n) ∧ wr = w) (fun s11 _ => l.length - (intOf s11).toNat)
  case atStart => exact ⟨0, rfl, Nat.zero_le _, Nat.zero_le _, rfl, rfl⟩
  case round =>
    obtain ⟨n, rfl, hn, hnm, hpass, rfl⟩ := hrel
    have HP : Hid (M.comp l m = M.comp (l.drop n) (m.drop n)) := hpass
    clear hpass
    by_cases hlt : n < l.length
    · obtain ⟨rfl⟩ := h.addr (by omega)
      have HD : Hid (l.drop n = l[n] :: l.drop (n + 1)) := M.drop_int l n hlt
      have hc := h.row n hlt
      generalize l[n] = x at HD hc
      by_cases hmt : n < m.length
      · obtain ⟨rfl⟩ := h2.addr (by omega)
        have HD2 : Hid (m.drop n = m[n] :: m.drop (n + 1)) := M.drop_int m n hmt
        have hc2 := h2.row n hmt
        generalize m[n] = y at HD2 hc2
        by_cases h1 : x < y
        · have e3 : cmp3 x y = -1 := by simp [cmp3, h1]
          go_wp2_with (go_at_call 41; refine (compare_any _ _ _).mono ?_; rw [e3]; rintro e w' ⟨rfl, rfl⟩)
          go_ret
          exact ⟨ret_i (M.comp_lt HP.out HD.out HD2.out h1).symm, rfl⟩
        · by_cases h2' : y < x
          · have e3 : cmp3 x y = 1 := by simp [cmp3, h1, h2']
            go_wp2_with (go_at_call 41; refine (compare_any _ _ _).mono ?_; rw [e3]; rintro e w' ⟨rfl, rfl⟩)
            go_ret
            exact ⟨ret_i (M.comp_gt HP.out HD.out HD2.out h2').symm, rfl⟩
          · have e3 : cmp3 x y = 0 := by simp [cmp3, h1, h2']
            go_wp2_with (go_at_call 41; refine (compare_any _ _ _).mono ?_; rw [e3]; rintro e w' ⟨rfl, rfl⟩)
            exact ⟨⟨n + 1, by go_num, by omega, by omega, M.comp_eq HP.out HD.out HD2.out (by omega) (by omega), trivial⟩, by simp [intOf]; omega⟩
      · have hmt' : (m.length : Int) ≤ n := by omega
        go_wp2_with fail
        go_ret
        exact ⟨ret_i (M.comp_snd HP.out hlt (by omega)).symm, rfl⟩
    · by_cases hmt : n < m.length
      · have e1 : (l.length : Int) < m.length := by omega
        go_wp2_with fail
        go_ret
        exact ⟨ret_i (M.comp_fst HP.out (by omega) hmt).symm, rfl⟩
      · have e1 : ¬ (l.length : Int) < m.length := by omega
        go_wp2_with fail
        go_ret
        exact ⟨ret_i (M.comp_fin HP.out (by omega) (by omega)).symm, rfl⟩

set_option maxHeartbeats 400000 in
/-- cmp.Or of two numbers that lie in a block. -/
theorem or_any (b : Nat) (x y : Int) (w : World) (hx : w.cell? ⟨b, 0, none⟩ = some (.int .i64 x)) (hy : w.cell? ⟨b, 1, none⟩ = some (.int .i64 y)) :
    Calls Try.prog 34 #[.slice (some ⟨b, 0, none⟩) 2 2] w fun e w' => e = .returned (.int .i64 (if x = 0 then y else x)) ∧ w' = w := by
  by_cases h0 : x = 0
  · subst h0
    by_cases h1 : y = 0
    · subst h1
      go_enter Try.func34, Try.ntmps34
      go_wp2_with fail
      refine wp_loop_rounds 3 ?_
      rw [rounds_succ]
      go_wp2_with fail
      rw [rounds_succ]
      go_wp2_with fail
      rw [rounds_succ]
      go_wp2_with fail
      go_ret
      exact ⟨ret_i (by simp), rfl⟩
    · have h1' : (y == 0) = false := by simpa using h1
      go_enter Try.func34, Try.ntmps34
      go_wp2_with fail
      refine wp_loop_rounds 3 ?_
      rw [rounds_succ]
      go_wp2_with fail
      rw [rounds_succ]
      go_wp2_with fail
      go_ret
      exact ⟨ret_i (by simp), rfl⟩
  · have h0' : (x == 0) = false := by simpa using h0
    go_enter Try.func34, Try.ntmps34
    go_wp2_with fail
    refine wp_loop_rounds 3 ?_
    rw [rounds_succ]
    go_wp2_with fail
    go_ret
    exact ⟨ret_i (by simp), rfl⟩

end Go.Proofs.Ytkbjdhjcbhdpmab
