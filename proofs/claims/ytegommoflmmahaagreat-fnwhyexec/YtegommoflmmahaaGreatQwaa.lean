/- The closed facts of the row of FnWhyExec, each by itself. No condition. -/
import Derived.ProofKit
import Derived.Test.YtegommoflmmahaaGreatRows
namespace Go.Proofs.YtegommoflmmahaaGreat
section
open Go.ChangeShapes Go.WideShapes Go.ChangeAt Go.RowKit
theorem fnWhyExec_named : Rows.fnWhyExecRow.func = "loop.example/fathomline/laws.FnWhyExec" → Tryz.prog.funcNamed Rows.fnWhyExecRow.func = some 3 := fun _ => by kernel_rfl
theorem fnWhyExec_joined:joinedFacts Tryz.prog 3 Tryz.f3 Rows.fnWhyExecSpec Rows.fnWhyExecRow=true:=by kernel_rfl
end
end Go.Proofs.YtegommoflmmahaaGreat
