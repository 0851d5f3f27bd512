/- spec.l71Reader and l71Waiter: drawn threads of readers and of those who wait. -/
import Derived.Test.YtbipmookmhihlaaGreatDrTh
import Derived.Deep.RegionWith
namespace Go.Proofs.YtbipmookmhihlaaGreat
open Go.RowKit

end Go.Proofs.YtbipmookmhihlaaGreat
