/- spec's ProgOk. Of programs of at most 1048576 threads, each of at most 1048576 steps. -/
import Derived.Test.YtbipmookmhihlaaGreatIProg
import Derived.Test.YtbipmookmhihlaaGreatSThread
namespace Go.Proofs.YtbipmookmhihlaaGreat
open Go.RowKit

end Go.Proofs.YtbipmookmhihlaaGreat
