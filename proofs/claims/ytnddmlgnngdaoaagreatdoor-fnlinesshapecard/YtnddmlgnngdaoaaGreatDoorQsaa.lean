/- The closed facts of the row of FnLinesShape. No condition. -/
import Derived.ProofKit
import Derived.Test.YtnddmlgnngdaoaaGreatDoorRows
namespace Go.Proofs.YtnddmlgnngdaoaaGreatDoor
section
open Go.ChangeShapes Go.WideShapes Go.ChangeAt Go.RowKit
theorem linesShape_joined:joinedFacts Tryz.pinned.checked.prog 3 Tryz.f3 Rows.fnLinesShapeSpec Rows.fnLinesShapeRow=true:=by kernel_rfl
end
end Go.Proofs.YtnddmlgnngdaoaaGreatDoor
