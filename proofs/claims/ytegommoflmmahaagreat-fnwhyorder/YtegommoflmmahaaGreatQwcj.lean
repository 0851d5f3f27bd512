/- The closed facts of the row of FnWhyOrder, each by itself. No condition. -/
import Derived.ProofKit
import Derived.Test.YtegommoflmmahaaGreatRows
namespace Go.Proofs.YtegommoflmmahaaGreat
section
open Go.ChangeShapes Go.WideShapes Go.ChangeAt Go.RowKit
theorem fnWhyOrder_named : Rows.fnWhyOrderRow.func = "loop.example/fathomline/laws.FnWhyOrder" → Tryz.prog.funcNamed Rows.fnWhyOrderRow.func = some 6 := fun _ => by kernel_rfl
theorem fnWhyOrder_joined:joinedFacts Tryz.prog 6 Tryz.f6 Rows.fnWhyOrderSpec Rows.fnWhyOrderRow=true:=by kernel_rfl
end
end Go.Proofs.YtegommoflmmahaaGreat
