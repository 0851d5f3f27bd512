/- Places and values named otherwise: what an order allows is turned with them. Plainly. No condition but what is said. -/
import Derived.Below
import Derived.BigQuiet
import Derived.Deep.AppendLies
import Derived.Deep.MidRow
import Derived.Deep.Quiet
import Derived.Deep.QuietTactic
import Derived.Deep.RegionHeld3
import Derived.Deep.RegionLaw
import Derived.Deep.RegionWith
import Derived.Deep.Slices
import Derived.Deep.WholeRow
import Derived.Handy
import Derived.Laws.AppendOwn
import Derived.Laws.AppendOwnNone
import Derived.Laws.EntriesVeiled
import Derived.Laws.IdiomCopy
import Derived.Laws.OwnMore
import Derived.LoopIn
import Derived.LoopN
import Derived.LoopNIn
import Derived.OwnWalkIn
import Derived.RangeFuncBound
import Derived.RangeFuncLeaves
import Derived.RangeFuncNested
import Derived.Shelf.Abstract
import Derived.Shelf.SlSortCmp.NoneTotal
import Derived.Sort.Grow
import Derived.TacticsInMore
import Derived.WalkKit
import Derived.WalkLawsBesides
import Derived.WalkSpells
import Derived.Deep.OwnRows
import Derived.Test.YtihfibjckkmmbaaGreatRows
import Derived.Test.YtihfibjckkmmbaaGreatQhaz
namespace Go.Proofs.YtihfibjckkmmbaaGreat
namespace M
section
variable {F : D → D} (hF : ∀ d, (F d).k = d.k)
include hF
end
section
variable {F : D → D} {g v : Int → Int} {ll : List (List D)}
theorem seenL_at {ds:List De} {l:List Int} {rows:List (List Int)} (h3:rows.length=3) {p:Int} (h0:0≤p) (hp:p < 3):(seenL ds l rows).getD p.toNat 0=lastOf ds l (rows.getD p.toNat []):=by
 unfold seenL
 rw [List.getD_eq_getElem?_getD,List.getElem?_map,List.getD_eq_getElem?_getD,List.getElem?_eq_getElem (by omega)]
 rfl
end
end M
end Go.Proofs.YtihfibjckkmmbaaGreat
