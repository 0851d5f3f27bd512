/- The closed facts of the row of FnOrderMore, each by itself. No condition. -/
import Derived.Test.YtphijhpleemjoaaGreatRows
import Derived.ProofKit
namespace Go.Proofs.YtphijhpleemjoaaGreat
open Go.ChangeShapes Go.WideShapes Go.ChangeAt Go.RowKit
theorem fnOrderMore_named : Rows.fnOrderMoreRow.func = "loop.example/fathomline/laws.FnOrderMore" → Tryz.prog.funcNamed Rows.fnOrderMoreRow.func = some 3 := fun _ => by kernel_rfl
theorem fnOrderMore_joined : joinedFacts Tryz.prog 3 Tryz.f3 Rows.fnOrderMoreSpec Rows.fnOrderMoreRow = true := by kernel_rfl
end Go.Proofs.YtphijhpleemjoaaGreat
