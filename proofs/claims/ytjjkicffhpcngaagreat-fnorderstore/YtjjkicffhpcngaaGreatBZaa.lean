/- The closed facts of the row of FnOrderStore, each by itself. No condition. -/
import Derived.ProofKit
import Derived.Test.YtjjkicffhpcngaaGreatRows
namespace Go.Proofs.YtjjkicffhpcngaaGreat
open Go.ChangeShapes Go.WideShapes Go.ChangeAt Go.RowKit
theorem fnOrderStore_named : Rows.fnOrderStoreRow.func = "loop.example/fathomline/laws.FnOrderStore" → Tryz.prog.funcNamed Rows.fnOrderStoreRow.func = some 11 := fun _ => by kernel_rfl
theorem fnOrderStore_joined:joinedFacts Tryz.prog 11 Tryz.f11 Rows.fnOrderStoreSpec Rows.fnOrderStoreRow=true:=by kernel_rfl
end Go.Proofs.YtjjkicffhpcngaaGreat
