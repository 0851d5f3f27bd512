/- The walks of the leaves of chapter 1: what each small test of a step's kind, place and value answers. No condition. -/
import Derived.Test.YtefmkenljongpaaDoorBase
import Derived.Test.YtefmkenljongpaaDoorMath
import Derived.WalkKit
import Derived.WalkSpells
import Derived.WalkLawsBesides
namespace Go.Proofs.YtefmkenljongpaaDoor
open Go.RowKit

/-- spec: a number between two others. -/
theorem l6In_any (n a b : Int) (w : World) :
    Calls Tryd.prog 47 #[.int .i64 n, .int .i64 a, .int .i64 b] w fun e w' => e = .returned (.bool (M.rng a b n)) ∧ w' = w := by
  by_cases hp : a ≤ n
  · go_enter Tryd.func47, Tryd.ntmps47
    go_wp2
    go_ret
    exact ⟨ret_bool (by simp [M.rng, hp]), rfl⟩
  · have hp' : decide (a ≤ n) = false := by simpa using hp
    go_enter Tryd.func47, Tryd.ntmps47
    go_wp2
    go_ret
    exact ⟨ret_bool (by simp [M.rng, hp']), rfl⟩

/-- spec: a step that reads. -/
theorem l1Reads_any (d : M.D) (w : World) :
    Calls Tryd.prog 36 #[.agg #[.int .i64 d.k, .int .i64 d.p, .int .i64 d.v]] w fun e w' => e = .returned (.bool (M.reads d.k)) ∧ w' = w.alloc (.cells #[.int .i64 d.k, .int .i64 d.p, .int .i64 d.v] 62) := by
  obtain ⟨k, p, v⟩ := d
  by_cases h2 : k = 2
  · subst h2
    go_enter Tryd.func36, Tryd.ntmps36
    go_wp2
    go_ret
    exact ⟨ret_bool (by simp [M.reads]), rfl⟩
  · have h2' : (k == 2) = false := by simpa using h2
    go_enter Tryd.func36, Tryd.ntmps36
    go_wp2
    go_ret
    exact ⟨ret_bool (by simp [M.reads, h2']), rfl⟩


theorem l1Writes_any (d : M.D) (w : World) :
    Calls Tryd.prog 37 #[.agg #[.int .i64 d.k, .int .i64 d.p, .int .i64 d.v]] w fun e w' => e = .returned (.bool (M.writes d.k)) ∧ w' = w.alloc (.cells #[.int .i64 d.k, .int .i64 d.p, .int .i64 d.v] 62) := by
  obtain ⟨k, p, v⟩ := d
  by_cases h1 : k = 1
  · subst h1
    go_enter Tryd.func37, Tryd.ntmps37
    go_wp2
    go_ret
    exact ⟨ret_bool (by simp [M.writes, M.stores]), rfl⟩
  · have h1' : (k == 1) = false := by simpa using h1
    by_cases h3 : k = 3
    · subst h3
      go_enter Tryd.func37, Tryd.ntmps37
      go_wp2
      go_ret
      exact ⟨ret_bool (by simp [M.writes, M.stores]), rfl⟩
    · have h3' : (k == 3) = false := by simpa using h3
      go_enter Tryd.func37, Tryd.ntmps37
      go_wp2
      go_ret
      exact ⟨ret_bool (by simp [M.writes, M.stores, h1', h3']), rfl⟩

end Go.Proofs.YtefmkenljongpaaDoor
