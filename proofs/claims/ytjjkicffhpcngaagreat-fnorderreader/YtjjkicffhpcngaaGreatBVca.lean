/- The closed facts of the row of FnOrderReader, each by itself. No condition. -/
import Derived.ProofKit
import Derived.Test.YtjjkicffhpcngaaGreatRows
namespace Go.Proofs.YtjjkicffhpcngaaGreat
open Go.ChangeShapes Go.WideShapes Go.ChangeAt Go.RowKit
theorem fnOrderReader_named : Rows.fnOrderReaderRow.func = "loop.example/fathomline/laws.FnOrderReader" → Tryz.prog.funcNamed Rows.fnOrderReaderRow.func = some 6 := fun _ => by kernel_rfl
theorem fnOrderReader_joined:joinedFacts Tryz.prog 6 Tryz.f6 Rows.fnOrderReaderSpec Rows.fnOrderReaderRow=true:=by kernel_rfl
end Go.Proofs.YtjjkicffhpcngaaGreat
