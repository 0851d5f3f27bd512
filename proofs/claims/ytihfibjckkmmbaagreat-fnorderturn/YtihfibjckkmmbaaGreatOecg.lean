/- The closed facts of the row of FnOrderTurn, each by itself. No condition. -/
import Derived.ProofKit
import Derived.Test.YtihfibjckkmmbaaGreatRows
namespace Go.Proofs.YtihfibjckkmmbaaGreat
open Go.ChangeShapes Go.WideShapes Go.ChangeAt Go.RowKit
theorem fnOrderTurn_named : Rows.fnOrderTurnRow.func = "loop.example/fathomline/laws.FnOrderTurn" → Tryz.prog.funcNamed Rows.fnOrderTurnRow.func = some 5 := fun _ => by kernel_rfl
theorem fnOrderTurn_joined:joinedFacts Tryz.prog 5 Tryz.f5 Rows.fnOrderTurnSpec Rows.fnOrderTurnRow=true:=by kernel_rfl
end Go.Proofs.YtihfibjckkmmbaaGreat
