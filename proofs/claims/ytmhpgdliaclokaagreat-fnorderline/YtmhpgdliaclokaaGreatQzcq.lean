/- spec's search for a ring: a row goes on. Of at most 28 events. -/
import Derived.Deep.OwnRows
import Derived.Test.YtmhpgdliaclokaaGreatRows
import Derived.Test.YtmhpgdliaclokaaGreatQzaw
namespace Go.Proofs.YtmhpgdliaclokaaGreat
section
open Go.RowKit
theorem M.has_ints (r:List Nat) (b:Nat):M.has (M.ints r) (b:Int)=r.contains b:=by
 unfold M.has M.ints
 rw [Bool.eq_iff_iff]
 simp [List.contains_eq_mem]
 exact ⟨fun ⟨x,hx,e⟩=>by rw [show b=x from by omega];exact hx,fun hx=>⟨b,hx,rfl⟩⟩
end
end Go.Proofs.YtmhpgdliaclokaaGreat
