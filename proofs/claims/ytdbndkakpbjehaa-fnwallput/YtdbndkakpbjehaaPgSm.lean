/- Walls that are put are few. No condition. -/
import Derived.Test.YtdbndkakpbjehaaWlMath
namespace Go.Proofs.Ytdbndkakpbjehaa

theorem M.wallPut_small {ll mm : List (List M.D)} {gs : List Int} (e : (M.wallPut ll gs).getD [] = mm) : mm.length ≤ 3 ∧ ∀ t ∈ mm, t.length ≤ 7 := by
  cases h : M.wallPut ll gs with
  | none => rw [h] at e; subst e; simp
  | some x =>
    rw [h] at e
    obtain rfl : x = mm := e
    exact M.prog_le (M.wallPut_some h).2.2.1

end Go.Proofs.Ytdbndkakpbjehaa
