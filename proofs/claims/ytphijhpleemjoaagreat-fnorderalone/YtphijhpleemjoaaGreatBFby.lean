/- The closed facts of the row of FnOrderAlone, each by itself. No condition. -/
import Derived.Test.YtphijhpleemjoaaGreatRows
import Derived.ProofKit
namespace Go.Proofs.YtphijhpleemjoaaGreat
open Go.ChangeShapes Go.WideShapes Go.ChangeAt Go.RowKit
theorem fnOrderAlone_named : Rows.fnOrderAloneRow.func = "loop.example/fathomline/laws.FnOrderAlone" → Tryz.prog.funcNamed Rows.fnOrderAloneRow.func = some 8 := fun _ => by kernel_rfl
theorem fnOrderAlone_joined : joinedFacts Tryz.prog 8 Tryz.f8 Rows.fnOrderAloneSpec Rows.fnOrderAloneRow = true := by kernel_rfl
end Go.Proofs.YtphijhpleemjoaaGreat
