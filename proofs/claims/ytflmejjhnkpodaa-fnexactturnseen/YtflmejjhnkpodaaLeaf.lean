/- The walks of the leaves of chapter 1: what each small test of a step's kind, place and value answers. No condition. -/
import Derived.Test.YtflmejjhnkpodaaBase
import Derived.Test.YtflmejjhnkpodaaMath
import Derived.WalkKit
import Derived.WalkSpells
import Derived.WalkLawsBesides
namespace Go.Proofs.Ytflmejjhnkpodaa
open Go.RowKit

/-- impl: a kind that reads. -/
theorem reads_any (k : Int) (w : World) :
    Calls Try.prog 57 #[.int .i64 k] w fun e w' => e = .returned (.bool (M.reads k)) ∧ w' = w := by
  by_cases h2 : k = 2
  · subst h2
    go_enter Try.func57, Try.ntmps57
    go_wp2
    go_ret
    exact ⟨ret_bool (by simp [M.reads]), rfl⟩
  · have h2' : (k == 2) = false := by simpa using h2
    go_enter Try.func57, Try.ntmps57
    go_wp2
    go_ret
    exact ⟨ret_bool (by simp [M.reads, h2']), rfl⟩

/-- impl: a kind that stores a value of its own. -/
theorem stores_any (k : Int) (w : World) :
    Calls Try.prog 86 #[.int .i64 k] w fun e w' => e = .returned (.bool (M.stores k)) ∧ w' = w := by
  by_cases h1 : k = 1
  · subst h1
    go_enter Try.func86, Try.ntmps86
    go_wp2
    go_ret
    exact ⟨ret_bool (by simp [M.stores]), rfl⟩
  · have h1' : (k == 1) = false := by simpa using h1
    go_enter Try.func86, Try.ntmps86
    go_wp2
    go_ret
    exact ⟨ret_bool (by simp [M.stores, h1']), rfl⟩

theorem writes_any (k : Int) (w : World) :
    Calls Try.prog 78 #[.int .i64 k] w fun e w' => e = .returned (.bool (M.writes k)) ∧ w' = w := by
  cases hs : M.stores k
  all_goals
    go_enter Try.func78, Try.ntmps78
    go_wp2_with (go_at_call 86; refine (stores_any _ _).mono ?_; rintro e w' ⟨rfl, rfl⟩)
    go_ret
    exact ⟨ret_bool (by simp [M.writes, hs]), rfl⟩

theorem uses_any (k : Int) (w : World) :
    Calls Try.prog 60 #[.int .i64 k] w fun e w' => e = .returned (.bool (M.uses k)) ∧ w' = w := by
  cases hs : M.reads k
  all_goals
    go_enter Try.func60, Try.ntmps60
    go_wp2_with (first | (go_at_call 57; refine (reads_any _ _).mono ?_; rintro e w' ⟨rfl, rfl⟩) | (go_at_call 78; refine (writes_any _ _).mono ?_; rintro e w' ⟨rfl, rfl⟩))
    go_ret
    exact ⟨ret_bool (by simp [M.uses, hs]), rfl⟩

theorem placeOk_any (k p : Int) (w : World) :
    Calls Try.prog 84 #[.int .i64 k, .int .i64 p] w fun e w' => e = .returned (.bool (M.placeOk k p)) ∧ w' = w := by
  cases hs : M.uses k
  · go_enter Try.func84, Try.ntmps84
    go_wp2_with (go_at_call 60; refine (uses_any _ _).mono ?_; rintro e w' ⟨rfl, rfl⟩)
    go_ret
    exact ⟨ret_bool (by simp [M.placeOk, hs]), rfl⟩
  · by_cases hp : 0 ≤ p
    · go_enter Try.func84, Try.ntmps84
      go_wp2_with (go_at_call 60; refine (uses_any _ _).mono ?_; rintro e w' ⟨rfl, rfl⟩)
      go_ret
      exact ⟨ret_bool (by simp [M.placeOk, hs, hp]), rfl⟩
    · have hp' : decide (0 ≤ p) = false := by simpa using hp
      go_enter Try.func84, Try.ntmps84
      go_wp2_with (go_at_call 60; refine (uses_any _ _).mono ?_; rintro e w' ⟨rfl, rfl⟩)
      go_ret
      exact ⟨ret_bool (by simp [M.placeOk, hs]; omega), rfl⟩

theorem valOk_any (k v : Int) (w : World) :
    Calls Try.prog 85 #[.int .i64 k, .int .i64 v] w fun e w' => e = .returned (.bool (M.valOk k v)) ∧ w' = w := by
  cases hs : M.stores k
  · go_enter Try.func85, Try.ntmps85
    go_wp2_with (go_at_call 86; refine (stores_any _ _).mono ?_; rintro e w' ⟨rfl, rfl⟩)
    go_ret
    exact ⟨ret_bool (by simp [M.valOk, hs]), rfl⟩
  · by_cases hp : 1 ≤ v
    · go_enter Try.func85, Try.ntmps85
      go_wp2_with (go_at_call 86; refine (stores_any _ _).mono ?_; rintro e w' ⟨rfl, rfl⟩)
      go_ret
      exact ⟨ret_bool (by simp [M.valOk, hs, hp]), rfl⟩
    · have hp' : decide (1 ≤ v) = false := by simpa using hp
      go_enter Try.func85, Try.ntmps85
      go_wp2_with (go_at_call 86; refine (stores_any _ _).mono ?_; rintro e w' ⟨rfl, rfl⟩)
      go_ret
      exact ⟨ret_bool (by simp [M.valOk, hs]; omega), rfl⟩

/-- spec: a number between two others. -/
theorem l6In_any (n a b : Int) (w : World) :
    Calls Try.prog 73 #[.int .i64 n, .int .i64 a, .int .i64 b] w fun e w' => e = .returned (.bool (M.rng a b n)) ∧ w' = w := by
  by_cases hp : a ≤ n
  · go_enter Try.func73, Try.ntmps73
    go_wp2
    go_ret
    exact ⟨ret_bool (by simp [M.rng, hp]), rfl⟩
  · have hp' : decide (a ≤ n) = false := by simpa using hp
    go_enter Try.func73, Try.ntmps73
    go_wp2
    go_ret
    exact ⟨ret_bool (by simp [M.rng, hp']), rfl⟩

/-- spec: a step that reads. -/
theorem l1Reads_any (d : M.D) (w : World) :
    Calls Try.prog 53 #[.agg #[.int .i64 d.k, .int .i64 d.p, .int .i64 d.v]] w fun e w' => e = .returned (.bool (M.reads d.k)) ∧ w' = w.alloc (.cells #[.int .i64 d.k, .int .i64 d.p, .int .i64 d.v] 83) := by
  obtain ⟨k, p, v⟩ := d
  by_cases h2 : k = 2
  · subst h2
    go_enter Try.func53, Try.ntmps53
    go_wp2
    go_ret
    exact ⟨ret_bool (by simp [M.reads]), rfl⟩
  · have h2' : (k == 2) = false := by simpa using h2
    go_enter Try.func53, Try.ntmps53
    go_wp2
    go_ret
    exact ⟨ret_bool (by simp [M.reads, h2']), rfl⟩


theorem l1Writes_any (d : M.D) (w : World) :
    Calls Try.prog 72 #[.agg #[.int .i64 d.k, .int .i64 d.p, .int .i64 d.v]] w fun e w' => e = .returned (.bool (M.writes d.k)) ∧ w' = w.alloc (.cells #[.int .i64 d.k, .int .i64 d.p, .int .i64 d.v] 83) := by
  obtain ⟨k, p, v⟩ := d
  by_cases h1 : k = 1
  · subst h1
    go_enter Try.func72, Try.ntmps72
    go_wp2
    go_ret
    exact ⟨ret_bool (by simp [M.writes, M.stores]), rfl⟩
  · have h1' : (k == 1) = false := by simpa using h1
    by_cases h3 : k = 3
    · subst h3
      go_enter Try.func72, Try.ntmps72
      go_wp2
      go_ret
      exact ⟨ret_bool (by simp [M.writes, M.stores]), rfl⟩
    · have h3' : (k == 3) = false := by simpa using h3
      go_enter Try.func72, Try.ntmps72
      go_wp2
      go_ret
      exact ⟨ret_bool (by simp [M.writes, M.stores, h1', h3']), rfl⟩

end Go.Proofs.Ytflmejjhnkpodaa
