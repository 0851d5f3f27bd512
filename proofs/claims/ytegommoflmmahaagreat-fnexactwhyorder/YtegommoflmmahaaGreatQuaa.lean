/- The closed facts of the row of FnExactWhyOrder, each by itself. No condition. -/
import Derived.ProofKit
import Derived.Test.YtegommoflmmahaaGreatRows
namespace Go.Proofs.YtegommoflmmahaaGreat
section
open Go.ChangeShapes Go.WideShapes Go.ChangeAt Go.RowKit
theorem fnExactWhyOrder_named : Rows.fnExactWhyOrderRow.func = "loop.example/fathomline/laws.FnExactWhyOrder" → Tryz.prog.funcNamed Rows.fnExactWhyOrderRow.func = some 9 := fun _ => by kernel_rfl
theorem fnExactWhyOrder_joined:joinedFacts Tryz.prog 9 Tryz.f9 Rows.fnExactWhyOrderSpec Rows.fnExactWhyOrderRow=true:=by kernel_rfl
end
end Go.Proofs.YtegommoflmmahaaGreat
