/- The closed facts of the row of FnWhyExecIn, each by itself. No condition. -/
import Derived.ProofKit
import Derived.Test.YtegommoflmmahaaGreatRows
namespace Go.Proofs.YtegommoflmmahaaGreat
section
open Go.ChangeShapes Go.WideShapes Go.ChangeAt Go.RowKit
theorem fnWhyExecIn_named : Rows.fnWhyExecInRow.func = "loop.example/fathomline/laws.FnWhyExecIn" → Tryz.prog.funcNamed Rows.fnWhyExecInRow.func = some 4 := fun _ => by kernel_rfl
theorem fnWhyExecIn_joined:joinedFacts Tryz.prog 4 Tryz.f4 Rows.fnWhyExecInSpec Rows.fnWhyExecInRow=true:=by kernel_rfl
end
end Go.Proofs.YtegommoflmmahaaGreat
