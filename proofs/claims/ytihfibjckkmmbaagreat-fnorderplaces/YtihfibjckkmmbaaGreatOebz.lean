/- What an order allows of a program whose places, or whose values, are named otherwise, as the laws ask it. Plainly. No condition but what is said. -/
import Derived.Below
import Derived.BigQuiet
import Derived.Deep.AppendLies
import Derived.Deep.MidRow
import Derived.Deep.Quiet
import Derived.Deep.QuietTactic
import Derived.Deep.RegionHeld3
import Derived.Deep.RegionLaw
import Derived.Deep.RegionWith
import Derived.Deep.Slices
import Derived.Deep.WholeRow
import Derived.Handy
import Derived.Laws.AppendOwn
import Derived.Laws.AppendOwnNone
import Derived.Laws.EntriesVeiled
import Derived.Laws.IdiomCopy
import Derived.Laws.OwnMore
import Derived.LoopIn
import Derived.LoopN
import Derived.LoopNIn
import Derived.OwnWalkIn
import Derived.RangeFuncBound
import Derived.RangeFuncLeaves
import Derived.RangeFuncNested
import Derived.Shelf.Abstract
import Derived.Shelf.SlSortCmp.NoneTotal
import Derived.Sort.Grow
import Derived.TacticsInMore
import Derived.WalkKit
import Derived.WalkLawsBesides
import Derived.WalkSpells
import Derived.Deep.OwnRows
import Derived.Test.YtihfibjckkmmbaaGreatRows
import Derived.Test.YtihfibjckkmmbaaGreatOebo
import Derived.Test.YtihfibjckkmmbaaGreatOeby
namespace Go.Proofs.YtihfibjckkmmbaaGreat
namespace M
theorem tg_places {row:List Int} (hr:rowN row 3=true):Tg (placeF row) (fun p=>row.getD p.toNat 0) id:=by
 refine ⟨fun d=>?_,fun d hu=>?_,fun d=>?_,fun p h0 h3=>?_,fun p q hp0 hp3 hq0 hq3 e=>?_,rfl⟩
 ·unfold placeF;split<;>rfl
 ·unfold placeF;rw [if_pos hu]
 ·unfold placeF;split<;>rfl
 ·rcases (show p=0∨p=1∨p=2 by omega) with rfl | rfl | rfl<;>rcases row3 hr with rfl | rfl | rfl | rfl | rfl | rfl<;>decide
 ·rcases (show p=0∨p=1∨p=2 by omega) with rfl | rfl | rfl<;>rcases (show q=0∨q=1∨q=2 by omega) with rfl | rfl | rfl<;>rcases row3 hr with rfl | rfl | rfl | rfl | rfl | rfl<;>first | rfl | (exact absurd e (by decide))
theorem all_places {ll:List (List D)} {row:List Int} (hp:prog ll=true) (hr:rowN row 3=true) (k:Int):sortK ((orderAll ll k).map fun z=>(z.1,lastP row z.2))=orderAll (mapS (placeF row) ll) k :=
 tg_sorted (tg_places hr) hp (places_back hp hr).1 (fun _ _ h=>tgK_places hr h) k
end M
end Go.Proofs.YtihfibjckkmmbaaGreat
