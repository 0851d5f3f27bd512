/- The closed facts of the row of FnOrderWall, each by itself. No condition. -/
import Derived.Test.YtjjkicffhpcngaaGreatRows
import Derived.ProofKit
namespace Go.Proofs.YtjjkicffhpcngaaGreat
open Go.ChangeShapes Go.WideShapes Go.ChangeAt Go.RowKit
theorem fnOrderWall_named : Rows.fnOrderWallRow.func = "loop.example/fathomline/laws.FnOrderWall" → Tryz.prog.funcNamed Rows.fnOrderWallRow.func = some 4 := fun _ => by kernel_rfl
theorem fnOrderWall_joined:joinedFacts Tryz.prog 4 Tryz.f4 Rows.fnOrderWallSpec Rows.fnOrderWallRow=true:=by kernel_rfl
end Go.Proofs.YtjjkicffhpcngaaGreat
