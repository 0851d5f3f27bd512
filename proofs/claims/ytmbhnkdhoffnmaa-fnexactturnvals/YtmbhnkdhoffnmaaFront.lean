/- Small facts for the rows' proofs. No condition. -/
import Derived.Test.YtmbhnkdhoffnmaaRows
import Derived.Test.YtmbhnkdhoffnmaaOpen
import Derived.Test.YtmbhnkdhoffnmaaFront0
import Derived.ProofKit
namespace Go.Proofs.Ytmbhnkdhoffnmaa
open Go.ChangeShapes Go.WideShapes Go.ChangeAt Go.RowKit Go.Deep

theorem field_one {H : Type} {enc : TypeId × Value → H} {w : World} {base n : Nat} {spare : Nat → Bool} {held : Bool} {u : Value} {y : DataW H × List MemPlace}
    (h : DataW.trod enc Try.prog w base spare held n 36 (((Value.agg #[u]).cells.toList.drop 0).take (Try.prog.cellsOf 36)) = some y) : DataW.trod enc Try.prog w base spare held n 36 [u] = some y := by
  simpa [Value.cells, Try.cells36] using h

end Go.Proofs.Ytmbhnkdhoffnmaa
