/- The closed facts of the row of FnOrderBeside, each by itself. No condition. -/
import Derived.ProofKit
import Derived.Test.YtihfibjckkmmbaaGreatRows
namespace Go.Proofs.YtihfibjckkmmbaaGreat
open Go.ChangeShapes Go.WideShapes Go.ChangeAt Go.RowKit
theorem fnOrderBeside_named : Rows.fnOrderBesideRow.func = "loop.example/fathomline/laws.FnOrderBeside" → Tryz.prog.funcNamed Rows.fnOrderBesideRow.func = some 6 := fun _ => by kernel_rfl
theorem fnOrderBeside_joined:joinedFacts Tryz.prog 6 Tryz.f6 Rows.fnOrderBesideSpec Rows.fnOrderBesideRow=true:=by kernel_rfl
end Go.Proofs.YtihfibjckkmmbaaGreat
