/- Small facts for the rows' proofs. No condition. -/
import Derived.Test.YtflmejjhnkpodaaRows
import Derived.Test.YtflmejjhnkpodaaOpen
import Derived.Test.YtflmejjhnkpodaaFront0
import Derived.ProofKit
namespace Go.Proofs.Ytflmejjhnkpodaa
open Go.ChangeShapes Go.WideShapes Go.ChangeAt Go.RowKit Go.Deep

theorem field_one {H : Type} {enc : TypeId × Value → H} {w : World} {base n : Nat} {spare : Nat → Bool} {held : Bool} {u : Value} {y : DataW H × List MemPlace}
    (h : DataW.trod enc Try.prog w base spare held n 39 (((Value.agg #[u]).cells.toList.drop 0).take (Try.prog.cellsOf 39)) = some y) : DataW.trod enc Try.prog w base spare held n 39 [u] = some y := by
  simpa [Value.cells, Try.cells39] using h

end Go.Proofs.Ytflmejjhnkpodaa
