/- spec's l1Do: whether a step is in form. No condition. -/
import Derived.Test.YtbipmookmhihlaaGreatLeaf
namespace Go.Proofs.YtbipmookmhihlaaGreat
open Go.RowKit

theorem M.reads1 : M.reads 1 = false := by decide
theorem M.reads6 : M.reads 6 = false := by decide
theorem M.writes1 : M.writes 1 = true := by decide
theorem M.writes6 : M.writes 6 = true := by decide
theorem M.rng1 : M.rng 1 9 1 = true := by decide
theorem M.rng6 : M.rng 1 9 6 = true := by decide
theorem M.stores1 : M.stores 1 = true := by decide
theorem M.stores6 : M.stores 6 = true := by decide

end Go.Proofs.YtbipmookmhihlaaGreat
