/- Small facts for the rows' proofs. No condition. -/
import Derived.Test.YtdlpdiioggiehaaGreatRows
import Derived.Test.YtdlpdiioggiehaaGreatOpen
import Derived.Test.YtdlpdiioggiehaaGreatFront0
import Derived.ProofKit
namespace Go.Proofs.YtdlpdiioggiehaaGreat
open Go.ChangeShapes Go.WideShapes Go.ChangeAt Go.RowKit Go.Deep

theorem field_one {H : Type} {enc : TypeId × Value → H} {w : World} {base n : Nat} {spare : Nat → Bool} {held : Bool} {u : Value} {y : DataW H × List MemPlace}
    (h : DataW.trod enc Tryz.prog w base spare held n 22 (((Value.agg #[u]).cells.toList.drop 0).take (Tryz.prog.cellsOf 22)) = some y) : DataW.trod enc Tryz.prog w base spare held n 22 [u] = some y := by
  simpa [Value.cells, Tryz.cells22] using h

end Go.Proofs.YtdlpdiioggiehaaGreat
