/- The closed facts of the row of FnOrderSome, each by itself. No condition. -/
import Derived.Test.YtphijhpleemjoaaGreatRows
import Derived.ProofKit
namespace Go.Proofs.YtphijhpleemjoaaGreat
open Go.ChangeShapes Go.WideShapes Go.ChangeAt Go.RowKit
theorem fnOrderSome_named : Rows.fnOrderSomeRow.func = "loop.example/fathomline/laws.FnOrderSome" → Tryz.prog.funcNamed Rows.fnOrderSomeRow.func = some 5 := fun _ => by kernel_rfl
theorem fnOrderSome_joined : joinedFacts Tryz.prog 5 Tryz.f5 Rows.fnOrderSomeSpec Rows.fnOrderSomeRow = true := by kernel_rfl
end Go.Proofs.YtphijhpleemjoaaGreat
