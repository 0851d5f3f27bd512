/- The closed facts of the row of FnOrderVals, each by itself. No condition. -/
import Derived.ProofKit
import Derived.Test.YtihfibjckkmmbaaGreatRows
namespace Go.Proofs.YtihfibjckkmmbaaGreat
open Go.ChangeShapes Go.WideShapes Go.ChangeAt Go.RowKit
theorem fnOrderVals_named : Rows.fnOrderValsRow.func = "loop.example/fathomline/laws.FnOrderVals" → Tryz.prog.funcNamed Rows.fnOrderValsRow.func = some 4 := fun _ => by kernel_rfl
theorem fnOrderVals_joined:joinedFacts Tryz.prog 4 Tryz.f4 Rows.fnOrderValsSpec Rows.fnOrderValsRow=true:=by kernel_rfl
end Go.Proofs.YtihfibjckkmmbaaGreat
