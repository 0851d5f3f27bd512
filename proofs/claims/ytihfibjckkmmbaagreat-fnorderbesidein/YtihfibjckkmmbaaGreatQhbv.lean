/- laws.lpWithin, where all of one list is in the other one. Of at most 1048576. -/
import Derived.BigQuiet
import Derived.Deep.Quiet
import Derived.Deep.QuietTactic
import Derived.Deep.RegionHeld3
import Derived.Deep.RegionWith
import Derived.Shelf.Abstract
import Derived.Sort.Grow
import Derived.WalkKit
import Derived.WalkLawsBesides
import Derived.WalkSpells
import Derived.Test.YtihfibjckkmmbaaGreatRows
import Derived.Test.YtihfibjckkmmbaaGreatQhbr
namespace Go.Proofs.YtihfibjckkmmbaaGreat
open Go.RowKit
theorem M.isIn_mem {ks:List Key} {k:Key} (h:k∈ks):M.isIn ks k.1 k.2=true:=by
 unfold M.isIn
 exact List.any_eq_true.2 ⟨k,h,by simp [M.cmpS_self]⟩
end Go.Proofs.YtihfibjckkmmbaaGreat
