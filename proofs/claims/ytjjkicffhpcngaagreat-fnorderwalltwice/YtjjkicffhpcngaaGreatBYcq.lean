/- The closed facts of the row of FnOrderWallTwice, each by itself. No condition. -/
import Derived.ProofKit
import Derived.Test.YtjjkicffhpcngaaGreatRows
namespace Go.Proofs.YtjjkicffhpcngaaGreat
open Go.ChangeShapes Go.WideShapes Go.ChangeAt Go.RowKit
theorem fnOrderWallTwice_named : Rows.fnOrderWallTwiceRow.func = "loop.example/fathomline/laws.FnOrderWallTwice" → Tryz.prog.funcNamed Rows.fnOrderWallTwiceRow.func = some 9 := fun _ => by kernel_rfl
theorem fnOrderWallTwice_joined:joinedFacts Tryz.prog 9 Tryz.f9 Rows.fnOrderWallTwiceSpec Rows.fnOrderWallTwiceRow=true:=by kernel_rfl
end Go.Proofs.YtjjkicffhpcngaaGreat
