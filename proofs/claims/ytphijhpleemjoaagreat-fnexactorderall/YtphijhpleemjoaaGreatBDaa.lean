/- The closed facts of the row of FnExactOrderAll, each by itself. No condition. -/
import Derived.Test.YtphijhpleemjoaaGreatRows
import Derived.ProofKit
namespace Go.Proofs.YtphijhpleemjoaaGreat
open Go.ChangeShapes Go.WideShapes Go.ChangeAt Go.RowKit
theorem fnExactOrderAll_named : Rows.fnExactOrderAllRow.func = "loop.example/fathomline/laws.FnExactOrderAll" → Tryz.prog.funcNamed Rows.fnExactOrderAllRow.func = some 14 := fun _ => by kernel_rfl
theorem fnExactOrderAll_joined : joinedFacts Tryz.prog 14 Tryz.f14 Rows.fnExactOrderAllSpec Rows.fnExactOrderAllRow = true := by kernel_rfl
end Go.Proofs.YtphijhpleemjoaaGreat
