/- The closed facts of the row of FnOrderBesideIn, each by itself. No condition. -/
import Derived.ProofKit
import Derived.Test.YtihfibjckkmmbaaGreatRows
namespace Go.Proofs.YtihfibjckkmmbaaGreat
open Go.ChangeShapes Go.WideShapes Go.ChangeAt Go.RowKit
theorem fnOrderBesideIn_named : Rows.fnOrderBesideInRow.func = "loop.example/fathomline/laws.FnOrderBesideIn" → Tryz.prog.funcNamed Rows.fnOrderBesideInRow.func = some 7 := fun _ => by kernel_rfl
theorem fnOrderBesideIn_joined:joinedFacts Tryz.prog 7 Tryz.f7 Rows.fnOrderBesideInSpec Rows.fnOrderBesideInRow=true:=by kernel_rfl
end Go.Proofs.YtihfibjckkmmbaaGreat
