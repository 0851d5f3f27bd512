/- Small facts for the rows' proofs. No condition. -/
import Derived.Test.YtnjfpcgeekpbcabRows
import Derived.Test.YtnjfpcgeekpbcabOpen
import Derived.Test.YtnjfpcgeekpbcabFront0
import Derived.ProofKit
namespace Go.Proofs.Ytnjfpcgeekpbcab
open Go.ChangeShapes Go.WideShapes Go.ChangeAt Go.RowKit Go.Deep

theorem field_one {H : Type} {enc : TypeId × Value → H} {w : World} {base n : Nat} {spare : Nat → Bool} {held : Bool} {u : Value} {y : DataW H × List MemPlace}
    (h : DataW.trod enc Try.prog w base spare held n 34 (((Value.agg #[u]).cells.toList.drop 0).take (Try.prog.cellsOf 34)) = some y) : DataW.trod enc Try.prog w base spare held n 34 [u] = some y := by
  simpa [Value.cells, Try.cells34] using h

end Go.Proofs.Ytnjfpcgeekpbcab
