/- The closed facts of the row of FnExactWhyExec, each by itself. No condition. -/
import Derived.ProofKit
import Derived.Test.YtegommoflmmahaaGreatRows
namespace Go.Proofs.YtegommoflmmahaaGreat
section
open Go.ChangeShapes Go.WideShapes Go.ChangeAt Go.RowKit
theorem fnExactWhyExec_named : Rows.fnExactWhyExecRow.func = "loop.example/fathomline/laws.FnExactWhyExec" → Tryz.prog.funcNamed Rows.fnExactWhyExecRow.func = some 8 := fun _ => by kernel_rfl
theorem fnExactWhyExec_joined:joinedFacts Tryz.prog 8 Tryz.f8 Rows.fnExactWhyExecSpec Rows.fnExactWhyExecRow=true:=by kernel_rfl
end
end Go.Proofs.YtegommoflmmahaaGreat
