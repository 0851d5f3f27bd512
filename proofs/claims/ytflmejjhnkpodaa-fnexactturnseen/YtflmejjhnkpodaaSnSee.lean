/- impl.compareSeen; spec.l2Comp, l2Seen. Of lists of at most 1048576 numbers. -/
import Derived.Test.YtflmejjhnkpodaaSnCmp
import Derived.Deep.RegionHeld3
namespace Go.Proofs.Ytflmejjhnkpodaa
open Go.RowKit

theorem alloc2 (w : World) (x y : Obj) : Grown w ((w.alloc x).alloc y) := ((Grown.refl w).alloc x).alloc y

end Go.Proofs.Ytflmejjhnkpodaa
