/- impl's shapes: each one's threads, in rows of their own. No condition. -/
import Derived.Test.YtnaljfnijcoheaaShRow
namespace Go.Proofs.Ytnaljfnijcoheaa
open Go.RowKit

set_option maxHeartbeats 400000 in
theorem hstore_any (h pl v k : Int) (w : World) (hk : M.kst h = k) :
    Calls Try.prog 128 #[.int .i64 h, .int .i64 pl, .int .i64 v] w fun e w' => e = .returned (.agg #[.int .i64 k, .int .i64 pl, .int .i64 v]) ∧ Below w.heap.size w w' := by
  subst hk
  by_cases h2 : h = 2
  · rw [M.kst_yes h2]
    subst h2
    go_enter Try.func128, Try.ntmps128
    go_wp2_with fail
    go_returns
    exact ⟨rfl, by go_grown⟩
  · rw [M.kst_no h2]
    have h2' : (h == 2) = false := by simpa using h2
    go_enter Try.func128, Try.ntmps128
    go_wp2_with fail
    go_returns
    exact ⟨rfl, by go_grown⟩

set_option maxHeartbeats 400000 in
theorem hread_any (h pl k : Int) (w : World) (hk : M.kld h = k) :
    Calls Try.prog 125 #[.int .i64 h, .int .i64 pl] w fun e w' => e = .returned (.agg #[.int .i64 k, .int .i64 pl, .int .i64 0]) ∧ Below w.heap.size w w' := by
  subst hk
  by_cases h2 : h = 2
  · rw [M.kld_yes h2]
    subst h2
    go_enter Try.func125, Try.ntmps125
    go_wp2_with fail
    go_returns
    exact ⟨rfl, by go_grown⟩
  · rw [M.kld_no h2]
    have h2' : (h == 2) = false := by simpa using h2
    go_enter Try.func125, Try.ntmps125
    go_wp2_with fail
    go_returns
    exact ⟨rfl, by go_grown⟩

end Go.Proofs.Ytnaljfnijcoheaa
