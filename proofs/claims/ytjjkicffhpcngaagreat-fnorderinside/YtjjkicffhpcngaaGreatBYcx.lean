/- The closed facts of the row of FnOrderInside, each by itself. No condition. -/
import Derived.ProofKit
import Derived.Test.YtjjkicffhpcngaaGreatRows
namespace Go.Proofs.YtjjkicffhpcngaaGreat
open Go.ChangeShapes Go.WideShapes Go.ChangeAt Go.RowKit
theorem fnOrderInside_named : Rows.fnOrderInsideRow.func = "loop.example/fathomline/laws.FnOrderInside" → Tryz.prog.funcNamed Rows.fnOrderInsideRow.func = some 7 := fun _ => by kernel_rfl
theorem fnOrderInside_joined:joinedFacts Tryz.prog 7 Tryz.f7 Rows.fnOrderInsideSpec Rows.fnOrderInsideRow=true:=by kernel_rfl
end Go.Proofs.YtjjkicffhpcngaaGreat
