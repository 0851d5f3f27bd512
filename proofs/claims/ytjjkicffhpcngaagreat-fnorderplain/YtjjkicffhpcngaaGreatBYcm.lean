/- The closed facts of the row of FnOrderPlain, each by itself. No condition. -/
import Derived.ProofKit
import Derived.Test.YtjjkicffhpcngaaGreatRows
namespace Go.Proofs.YtjjkicffhpcngaaGreat
open Go.ChangeShapes Go.WideShapes Go.ChangeAt Go.RowKit
theorem fnOrderPlain_named : Rows.fnOrderPlainRow.func = "loop.example/fathomline/laws.FnOrderPlain" → Tryz.prog.funcNamed Rows.fnOrderPlainRow.func = some 5 := fun _ => by kernel_rfl
theorem fnOrderPlain_joined:joinedFacts Tryz.prog 5 Tryz.f5 Rows.fnOrderPlainSpec Rows.fnOrderPlainRow=true:=by kernel_rfl
end Go.Proofs.YtjjkicffhpcngaaGreat
