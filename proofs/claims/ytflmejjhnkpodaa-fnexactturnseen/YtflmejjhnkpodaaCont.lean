/- Whether a number is among others: slices.Index and slices.Contains over numbers, spec.l12Has. Of at most 1048576 numbers. -/
import Derived.Test.YtflmejjhnkpodaaSnMem
import Derived.Test.YtflmejjhnkpodaaCount
namespace Go.Proofs.Ytflmejjhnkpodaa
open Go.RowKit

namespace M
/-- Where a number stands first. -/
def has (l : List Int) (v : Int) : Bool := l.contains v
theorem has_hit {l : List Int} {v : Int} {n : Nat} (hn : n < l.length) (h : l[n] = v) : has l v = true := by
  simp [has]; rw [← h]; exact List.getElem_mem hn
theorem has_fin {l : List Int} {v : Int} (h : ∀ i (_ : i < l.length), l[i] ≠ v) : has l v = false := by
  simp only [has, List.contains_eq_mem, decide_eq_false_iff_not]
  intro hm
  obtain ⟨i, hi, e⟩ := List.getElem_of_mem hm
  exact h i hi e
end M

set_option maxHeartbeats 400000 in
theorem indexI_any (a : Option Addr) (b o c : Nat) (l : List Int) (v : Int) (w : World) (hl : l.length ≤ 1048576) (h : IntS w a b o l) :
    Calls Try.prog 82 #[.slice a l.length c, .int .i64 v] w fun e w' => ∃ r : Int, e = .returned (.int .i64 r) ∧ decide (0 ≤ r) = M.has l v ∧ w' = w := by
  go_enter Try.func82, Try.ntmps82
  go_wp2_with fail
  go_loopw [8] (fun s8 wr => ∃ n : Nat, s8 = .int .i64 n ∧ n ≤ l.length ∧ Hid (∀ i (_ : i < n) (h : i < l.length), l[i] ≠ v) ∧ wr = w) (fun s8 _ => l.length - (intOf s8).toNat)
  case atStart => exact ⟨0, rfl, Nat.zero_le _, fun i hi => absurd hi (Nat.not_lt_zero _), rfl⟩
  case round =>
    obtain ⟨n, rfl, hn, HA, rfl⟩ := hrel
    by_cases hlt : n < l.length
    · obtain ⟨rfl⟩ := h.addr (by omega)
      have hx := h.row n hlt
      obtain ⟨y, hy⟩ : ∃ y, l[n] = y := ⟨_, rfl⟩
      have HY : Hid (l[n] = y) := hy
      rw [hy] at hx
      clear hy
      have i1 : (n : Int) < l.length := by omega
      by_cases e : v = y
      · subst e
        go_wp2_with fail
        go_ret
        exact ⟨n, rfl, by rw [M.has_hit hlt HY.out]; simp, rfl⟩
      · have e' : (v == y) = false := by simpa using e
        go_wp2_with fail
        exact ⟨⟨n + 1, by go_num, by omega, fun i hi hl => by
          by_cases ei : i = n
          · subst ei; rw [HY.out]; exact fun h => e h.symm
          · exact HA.out i (by omega) hl, trivial⟩, by simp [intOf]; omega⟩
    · go_wp2_with fail
      go_ret
      exact ⟨-1, rfl, by rw [M.has_fin (fun i hi => HA.out i (by omega) hi)]; rfl, rfl⟩

theorem containsI_any (a : Option Addr) (b o c : Nat) (l : List Int) (v : Int) (w : World) (hl : l.length ≤ 1048576) (h : IntS w a b o l) :
    Calls Try.prog 74 #[.slice a l.length c, .int .i64 v] w fun e w' => e = .returned (.bool (M.has l v)) ∧ w' = w := by
  go_enter Try.func74, Try.ntmps74
  go_wp2_with (go_at_call 82; refine (indexI_any a b o c l v _ hl h).mono ?_; rintro e w' ⟨r, rfl, hr, rfl⟩)
  go_ret
  exact ⟨rfl, rfl⟩

set_option maxHeartbeats 400000 in
theorem l12Has_any (a : Option Addr) (b o c : Nat) (l : List Int) (v : Int) (w : World) (hl : l.length ≤ 1048576) (h : IntS w a b o l) :
    Calls Try.prog 50 #[.slice a l.length c, .int .i64 v] w fun e w' => e = .returned (.bool (M.has l v)) ∧ w' = w := by
  go_enter Try.func50, Try.ntmps50
  go_wp2_with fail
  go_loopw [5] (fun s5 wr => ∃ n : Nat, s5 = .int .i64 n ∧ n ≤ l.length ∧ Hid (∀ i (_ : i < n) (h : i < l.length), l[i] ≠ v) ∧ wr = w) (fun s5 _ => l.length - (intOf s5).toNat)
  case atStart => exact ⟨0, rfl, Nat.zero_le _, fun i hi => absurd hi (Nat.not_lt_zero _), rfl⟩
  case round =>
    obtain ⟨n, rfl, hn, HA, rfl⟩ := hrel
    by_cases hlt : n < l.length
    · obtain ⟨rfl⟩ := h.addr (by omega)
      have hx := h.row n hlt
      obtain ⟨y, hy⟩ : ∃ y, l[n] = y := ⟨_, rfl⟩
      have HY : Hid (l[n] = y) := hy
      rw [hy] at hx
      clear hy
      have i1 : (n : Int) < l.length := by omega
      by_cases e : y = v
      · subst e
        go_wp2_with fail
        go_ret
        exact ⟨ret_bool (M.has_hit hlt HY.out).symm, rfl⟩
      · have e' : (y == v) = false := by simpa using e
        go_wp2_with fail
        exact ⟨⟨n + 1, by go_num, by omega, fun i hi hl => by
          by_cases ei : i = n
          · subst ei; rw [HY.out]; exact e
          · exact HA.out i (by omega) hl, trivial⟩, by simp [intOf]; omega⟩
    · go_wp2_with fail
      go_ret
      exact ⟨ret_bool (M.has_fin (fun i hi => HA.out i (by omega) hi)).symm, rfl⟩

end Go.Proofs.Ytflmejjhnkpodaa
