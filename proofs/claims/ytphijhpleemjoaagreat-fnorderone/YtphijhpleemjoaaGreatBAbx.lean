/- The closed facts of the row of FnOrderOne, each by itself. No condition. -/
import Derived.Test.YtphijhpleemjoaaGreatRows
import Derived.ProofKit
namespace Go.Proofs.YtphijhpleemjoaaGreat
open Go.ChangeShapes Go.WideShapes Go.ChangeAt Go.RowKit
theorem fnOrderOne_named : Rows.fnOrderOneRow.func = "loop.example/fathomline/laws.FnOrderOne" → Tryz.prog.funcNamed Rows.fnOrderOneRow.func = some 6 := fun _ => by kernel_rfl
theorem fnOrderOne_joined : joinedFacts Tryz.prog 6 Tryz.f6 Rows.fnOrderOneSpec Rows.fnOrderOneRow = true := by kernel_rfl
end Go.Proofs.YtphijhpleemjoaaGreat
