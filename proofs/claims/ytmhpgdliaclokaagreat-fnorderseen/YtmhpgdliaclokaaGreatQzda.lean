/- The closed facts of the row of FnOrderSeen, each by itself. No condition. -/
import Derived.ProofKit
import Derived.Test.YtmhpgdliaclokaaGreatRows
namespace Go.Proofs.YtmhpgdliaclokaaGreat
section
open Go.ChangeShapes Go.WideShapes Go.ChangeAt Go.RowKit
theorem fnOrderSeen_named : Rows.fnOrderSeenRow.func = "loop.example/fathomline/laws.FnOrderSeen" → Tryz.prog.funcNamed Rows.fnOrderSeenRow.func = some 7 := fun _ => by kernel_rfl
theorem fnOrderSeen_joined:joinedFacts Tryz.prog 7 Tryz.f7 Rows.fnOrderSeenSpec Rows.fnOrderSeenRow=true:=by kernel_rfl
end
end Go.Proofs.YtmhpgdliaclokaaGreat
