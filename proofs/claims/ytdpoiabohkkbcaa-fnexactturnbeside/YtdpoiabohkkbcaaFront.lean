/- Small facts for the rows' proofs. No condition. -/
import Derived.Test.YtdpoiabohkkbcaaRows
import Derived.Test.YtdpoiabohkkbcaaOpen
import Derived.Test.YtdpoiabohkkbcaaFront0
import Derived.ProofKit
namespace Go.Proofs.Ytdpoiabohkkbcaa
open Go.ChangeShapes Go.WideShapes Go.ChangeAt Go.RowKit Go.Deep

theorem field_one {H : Type} {enc : TypeId × Value → H} {w : World} {base n : Nat} {spare : Nat → Bool} {held : Bool} {u : Value} {y : DataW H × List MemPlace}
    (h : DataW.trod enc Try.prog w base spare held n 40 (((Value.agg #[u]).cells.toList.drop 0).take (Try.prog.cellsOf 40)) = some y) : DataW.trod enc Try.prog w base spare held n 40 [u] = some y := by
  simpa [Value.cells, Try.cells40] using h

end Go.Proofs.Ytdpoiabohkkbcaa
