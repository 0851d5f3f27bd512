/- The closed facts of the row of FnOrderWaitWall, each by itself. No condition. -/
import Derived.ProofKit
import Derived.Test.YtjjkicffhpcngaaGreatRows
namespace Go.Proofs.YtjjkicffhpcngaaGreat
open Go.ChangeShapes Go.WideShapes Go.ChangeAt Go.RowKit
theorem fnOrderWaitWall_named : Rows.fnOrderWaitWallRow.func = "loop.example/fathomline/laws.FnOrderWaitWall" → Tryz.prog.funcNamed Rows.fnOrderWaitWallRow.func = some 8 := fun _ => by kernel_rfl
theorem fnOrderWaitWall_joined:joinedFacts Tryz.prog 8 Tryz.f8 Rows.fnOrderWaitWallSpec Rows.fnOrderWaitWallRow=true:=by kernel_rfl
end Go.Proofs.YtjjkicffhpcngaaGreat
