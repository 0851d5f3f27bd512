/- The closed facts of the row of FnWhyLine, each by itself. No condition. -/
import Derived.ProofKit
import Derived.Test.YtmhpgdliaclokaaGreatRows
namespace Go.Proofs.YtmhpgdliaclokaaGreat
section
open Go.ChangeShapes Go.WideShapes Go.ChangeAt Go.RowKit
theorem fnWhyLine_named : Rows.fnWhyLineRow.func = "loop.example/fathomline/laws.FnWhyLine" → Tryz.prog.funcNamed Rows.fnWhyLineRow.func = some 6 := fun _ => by kernel_rfl
theorem fnWhyLine_joined:joinedFacts Tryz.prog 6 Tryz.f6 Rows.fnWhyLineSpec Rows.fnWhyLineRow=true:=by kernel_rfl
end
end Go.Proofs.YtmhpgdliaclokaaGreat
