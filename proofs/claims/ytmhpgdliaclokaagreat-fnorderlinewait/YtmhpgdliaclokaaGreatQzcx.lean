/- The closed facts of the row of FnOrderLineWait, each by itself. No condition. -/
import Derived.ProofKit
import Derived.Test.YtmhpgdliaclokaaGreatRows
namespace Go.Proofs.YtmhpgdliaclokaaGreat
section
open Go.ChangeShapes Go.WideShapes Go.ChangeAt Go.RowKit
theorem fnOrderLineWait_named : Rows.fnOrderLineWaitRow.func = "loop.example/fathomline/laws.FnOrderLineWait" → Tryz.prog.funcNamed Rows.fnOrderLineWaitRow.func = some 5 := fun _ => by kernel_rfl
theorem fnOrderLineWait_joined:joinedFacts Tryz.prog 5 Tryz.f5 Rows.fnOrderLineWaitSpec Rows.fnOrderLineWaitRow=true:=by kernel_rfl
end
end Go.Proofs.YtmhpgdliaclokaaGreat
