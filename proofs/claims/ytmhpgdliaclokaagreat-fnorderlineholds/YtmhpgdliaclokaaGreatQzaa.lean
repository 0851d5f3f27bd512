/- The closed facts of the row of FnOrderLineHolds, each by itself. No condition. -/
import Derived.ProofKit
import Derived.Test.YtmhpgdliaclokaaGreatRows
namespace Go.Proofs.YtmhpgdliaclokaaGreat
section
open Go.ChangeShapes Go.WideShapes Go.ChangeAt Go.RowKit
theorem fnOrderLineHolds_named : Rows.fnOrderLineHoldsRow.func = "loop.example/fathomline/laws.FnOrderLineHolds" → Tryz.prog.funcNamed Rows.fnOrderLineHoldsRow.func = some 4 := fun _ => by kernel_rfl
theorem fnOrderLineHolds_joined:joinedFacts Tryz.prog 4 Tryz.f4 Rows.fnOrderLineHoldsSpec Rows.fnOrderLineHoldsRow=true:=by kernel_rfl
end
end Go.Proofs.YtmhpgdliaclokaaGreat
