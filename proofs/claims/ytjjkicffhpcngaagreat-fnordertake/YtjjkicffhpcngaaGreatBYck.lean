/- The closed facts of the row of FnOrderTake, each by itself. No condition. -/
import Derived.ProofKit
import Derived.Test.YtjjkicffhpcngaaGreatRows
namespace Go.Proofs.YtjjkicffhpcngaaGreat
open Go.ChangeShapes Go.WideShapes Go.ChangeAt Go.RowKit
theorem fnOrderTake_named : Rows.fnOrderTakeRow.func = "loop.example/fathomline/laws.FnOrderTake" → Tryz.prog.funcNamed Rows.fnOrderTakeRow.func = some 13 := fun _ => by kernel_rfl
theorem fnOrderTake_joined:joinedFacts Tryz.prog 13 Tryz.f13 Rows.fnOrderTakeSpec Rows.fnOrderTakeRow=true:=by kernel_rfl
end Go.Proofs.YtjjkicffhpcngaaGreat
