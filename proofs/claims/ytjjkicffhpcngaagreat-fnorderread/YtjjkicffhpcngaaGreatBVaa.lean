/- The closed facts of the row of FnOrderRead, each by itself. No condition. -/
import Derived.ProofKit
import Derived.Test.YtjjkicffhpcngaaGreatRows
namespace Go.Proofs.YtjjkicffhpcngaaGreat
open Go.ChangeShapes Go.WideShapes Go.ChangeAt Go.RowKit
theorem fnOrderRead_named : Rows.fnOrderReadRow.func = "loop.example/fathomline/laws.FnOrderRead" → Tryz.prog.funcNamed Rows.fnOrderReadRow.func = some 10 := fun _ => by kernel_rfl
theorem fnOrderRead_joined:joinedFacts Tryz.prog 10 Tryz.f10 Rows.fnOrderReadSpec Rows.fnOrderReadRow=true:=by kernel_rfl
end Go.Proofs.YtjjkicffhpcngaaGreat
