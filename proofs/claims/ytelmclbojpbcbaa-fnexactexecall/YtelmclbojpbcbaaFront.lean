/- Small facts for the rows' proofs. No condition. -/
import Derived.Test.YtelmclbojpbcbaaRows
import Derived.Test.YtelmclbojpbcbaaOpen
import Derived.Test.YtelmclbojpbcbaaFront0
import Derived.ProofKit
namespace Go.Proofs.Ytelmclbojpbcbaa
open Go.ChangeShapes Go.WideShapes Go.ChangeAt Go.RowKit Go.Deep

theorem field_one {H : Type} {enc : TypeId × Value → H} {w : World} {base n : Nat} {spare : Nat → Bool} {held : Bool} {u : Value} {y : DataW H × List MemPlace}
    (h : DataW.trod enc Try.prog w base spare held n 22 (((Value.agg #[u]).cells.toList.drop 0).take (Try.prog.cellsOf 22)) = some y) : DataW.trod enc Try.prog w base spare held n 22 [u] = some y := by
  simpa [Value.cells, Try.cells22] using h

end Go.Proofs.Ytelmclbojpbcbaa
