/- The closed facts of the row of FnOrderFirst, each by itself. No condition. -/
import Derived.Test.YtphijhpleemjoaaGreatRows
import Derived.ProofKit
namespace Go.Proofs.YtphijhpleemjoaaGreat
open Go.ChangeShapes Go.WideShapes Go.ChangeAt Go.RowKit
theorem fnOrderFirst_named : Rows.fnOrderFirstRow.func = "loop.example/fathomline/laws.FnOrderFirst" → Tryz.prog.funcNamed Rows.fnOrderFirstRow.func = some 13 := fun _ => by kernel_rfl
theorem fnOrderFirst_joined : joinedFacts Tryz.prog 13 Tryz.f13 Rows.fnOrderFirstSpec Rows.fnOrderFirstRow = true := by kernel_rfl
end Go.Proofs.YtphijhpleemjoaaGreat
