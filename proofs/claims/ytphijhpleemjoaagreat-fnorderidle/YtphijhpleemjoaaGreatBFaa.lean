/- The closed facts of the row of FnOrderIdle, each by itself. No condition. -/
import Derived.Test.YtphijhpleemjoaaGreatRows
import Derived.ProofKit
namespace Go.Proofs.YtphijhpleemjoaaGreat
open Go.ChangeShapes Go.WideShapes Go.ChangeAt Go.RowKit
theorem fnOrderIdle_named : Rows.fnOrderIdleRow.func = "loop.example/fathomline/laws.FnOrderIdle" → Tryz.prog.funcNamed Rows.fnOrderIdleRow.func = some 7 := fun _ => by kernel_rfl
theorem fnOrderIdle_joined : joinedFacts Tryz.prog 7 Tryz.f7 Rows.fnOrderIdleSpec Rows.fnOrderIdleRow = true := by kernel_rfl
end Go.Proofs.YtphijhpleemjoaaGreat
