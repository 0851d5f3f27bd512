/- The closed facts of the row of FnWhyOrderTurn, each by itself. No condition. -/
import Derived.ProofKit
import Derived.Test.YtmhpgdliaclokaaGreatRows
namespace Go.Proofs.YtmhpgdliaclokaaGreat
section
open Go.ChangeShapes Go.WideShapes Go.ChangeAt Go.RowKit
theorem fnWhyOrderTurn_named : Rows.fnWhyOrderTurnRow.func = "loop.example/fathomline/laws.FnWhyOrderTurn" → Tryz.prog.funcNamed Rows.fnWhyOrderTurnRow.func = some 8 := fun _ => by kernel_rfl
theorem fnWhyOrderTurn_joined:joinedFacts Tryz.prog 8 Tryz.f8 Rows.fnWhyOrderTurnSpec Rows.fnWhyOrderTurnRow=true:=by kernel_rfl
end
end Go.Proofs.YtmhpgdliaclokaaGreat
