/- The closed facts of the row of FnWhyExecFirst, each by itself. No condition. -/
import Derived.ProofKit
import Derived.Test.YtegommoflmmahaaGreatRows
namespace Go.Proofs.YtegommoflmmahaaGreat
section
open Go.ChangeShapes Go.WideShapes Go.ChangeAt Go.RowKit
theorem fnWhyExecFirst_named : Rows.fnWhyExecFirstRow.func = "loop.example/fathomline/laws.FnWhyExecFirst" → Tryz.prog.funcNamed Rows.fnWhyExecFirstRow.func = some 5 := fun _ => by kernel_rfl
theorem fnWhyExecFirst_joined:joinedFacts Tryz.prog 5 Tryz.f5 Rows.fnWhyExecFirstSpec Rows.fnWhyExecFirstRow=true:=by kernel_rfl
end
end Go.Proofs.YtegommoflmmahaaGreat
