/- The closed facts of the row of FnOrderPlaces, each by itself. No condition. -/
import Derived.ProofKit
import Derived.Test.YtihfibjckkmmbaaGreatRows
namespace Go.Proofs.YtihfibjckkmmbaaGreat
open Go.ChangeShapes Go.WideShapes Go.ChangeAt Go.RowKit
theorem fnOrderPlaces_named : Rows.fnOrderPlacesRow.func = "loop.example/fathomline/laws.FnOrderPlaces" → Tryz.prog.funcNamed Rows.fnOrderPlacesRow.func = some 3 := fun _ => by kernel_rfl
theorem fnOrderPlaces_joined:joinedFacts Tryz.prog 3 Tryz.f3 Rows.fnOrderPlacesSpec Rows.fnOrderPlacesRow=true:=by kernel_rfl
end Go.Proofs.YtihfibjckkmmbaaGreat
