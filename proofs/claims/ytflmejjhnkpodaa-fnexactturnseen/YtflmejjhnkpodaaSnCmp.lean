/- How impl and spec compare what was seen: cmp.Compare, slices.Compare, cmp.Or, impl.compareSeen; spec.l2Comp, l2Seen. Of lists of at most 1048576 numbers. -/
import Derived.Test.YtflmejjhnkpodaaSnMem
import Derived.Deep.RegionWith
import Derived.Deep.QuietTactic
import Derived.BigQuiet
namespace Go.Proofs.Ytflmejjhnkpodaa
open Go.RowKit

theorem ret_i {a b : Int} (h : a = b) : Ending.returned (.int .i64 a) = .returned (.int .i64 b) := by rw [h]

end Go.Proofs.Ytflmejjhnkpodaa
