/- The closed facts of the row of FnOrderGive, each by itself. No condition. -/
import Derived.ProofKit
import Derived.Test.YtjjkicffhpcngaaGreatRows
namespace Go.Proofs.YtjjkicffhpcngaaGreat
open Go.ChangeShapes Go.WideShapes Go.ChangeAt Go.RowKit
theorem fnOrderGive_named : Rows.fnOrderGiveRow.func = "loop.example/fathomline/laws.FnOrderGive" → Tryz.prog.funcNamed Rows.fnOrderGiveRow.func = some 12 := fun _ => by kernel_rfl
theorem fnOrderGive_joined:joinedFacts Tryz.prog 12 Tryz.f12 Rows.fnOrderGiveSpec Rows.fnOrderGiveRow=true:=by kernel_rfl
end Go.Proofs.YtjjkicffhpcngaaGreat
