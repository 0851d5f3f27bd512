/- The closed facts of the row of FnWallAll, each by itself. No condition. -/
import Derived.Test.YtjjkicffhpcngaaGreatRows
import Derived.ProofKit
namespace Go.Proofs.YtjjkicffhpcngaaGreat
open Go.ChangeShapes Go.WideShapes Go.ChangeAt Go.RowKit
theorem fnWallAll_named : Rows.fnWallAllRow.func = "loop.example/fathomline/laws.FnWallAll" → Tryz.prog.funcNamed Rows.fnWallAllRow.func = some 3 := fun _ => by kernel_rfl
theorem fnWallAll_joined:joinedFacts Tryz.prog 3 Tryz.f3 Rows.fnWallAllSpec Rows.fnWallAllRow=true:=by kernel_rfl
end Go.Proofs.YtjjkicffhpcngaaGreat
