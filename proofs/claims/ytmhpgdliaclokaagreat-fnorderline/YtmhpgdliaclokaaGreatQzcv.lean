/- The closed facts of the row of FnOrderLine, each by itself. No condition. -/
import Derived.ProofKit
import Derived.Test.YtmhpgdliaclokaaGreatRows
namespace Go.Proofs.YtmhpgdliaclokaaGreat
section
open Go.ChangeShapes Go.WideShapes Go.ChangeAt Go.RowKit
theorem fnOrderLine_named : Rows.fnOrderLineRow.func = "loop.example/fathomline/laws.FnOrderLine" → Tryz.prog.funcNamed Rows.fnOrderLineRow.func = some 3 := fun _ => by kernel_rfl
theorem fnOrderLine_joined:joinedFacts Tryz.prog 3 Tryz.f3 Rows.fnOrderLineSpec Rows.fnOrderLineRow=true:=by kernel_rfl
end
end Go.Proofs.YtmhpgdliaclokaaGreat
