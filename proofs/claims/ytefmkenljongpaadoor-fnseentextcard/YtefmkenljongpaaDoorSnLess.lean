/- impl's and spec's SeenLess. Of lists of at most 1048576 numbers. -/
import Derived.Test.YtefmkenljongpaaDoorSnSee
namespace Go.Proofs.YtefmkenljongpaaDoor
open Go.RowKit

end Go.Proofs.YtefmkenljongpaaDoor
