/- One read more at the end: what an order allows of the rest is the same. Plainly. No condition but what is said. -/
import Derived.Below
import Derived.BigQuiet
import Derived.Deep.AppendLies
import Derived.Deep.MidRow
import Derived.Deep.Quiet
import Derived.Deep.QuietTactic
import Derived.Deep.RegionHeld3
import Derived.Deep.RegionLaw
import Derived.Deep.RegionWith
import Derived.Deep.Slices
import Derived.Deep.WholeRow
import Derived.Handy
import Derived.Laws.AppendOwn
import Derived.Laws.AppendOwnNone
import Derived.Laws.EntriesVeiled
import Derived.Laws.IdiomCopy
import Derived.Laws.OwnMore
import Derived.LoopIn
import Derived.LoopN
import Derived.LoopNIn
import Derived.OwnWalkIn
import Derived.RangeFuncBound
import Derived.RangeFuncLeaves
import Derived.RangeFuncNested
import Derived.Shelf.Abstract
import Derived.Shelf.SlSortCmp.NoneTotal
import Derived.Sort.Grow
import Derived.TacticsInMore
import Derived.WalkKit
import Derived.WalkLawsBesides
import Derived.WalkSpells
import Derived.Deep.OwnRows
import Derived.Test.YtihfibjckkmmbaaGreatRows
import Derived.Test.YtihfibjckkmmbaaGreatQhaz
namespace Go.Proofs.YtihfibjckkmmbaaGreat
namespace M
theorem wrs_app (p:Int):∀ (l m:List De) (n:Nat),wrs p n (l++m)=wrs p n l++wrs p (n+l.length) m
 | [],m,n=>by simp [wrs]
 | x::l,m,n=>by
  rw [List.cons_append,wrs,wrs,wrs_app p l m (n+1),List.length_cons,show n+1+l.length=n+(l.length+1) by omega]
  split<;>simp
section
variable {ds : List De} {x : De}
theorem rdAt_app (D:List De) (l:List Int) (ys:List De):∀ (xs:List De) (n:Nat),rdAt D l n (xs++ys)=rdAt D l n xs++rdAt D l (n+xs.length) ys
 | [],n=>by simp [rdAt]
 | z::xs,n=>by
  rw [List.cons_append,rdAt,rdAt,rdAt_app D l ys xs (n+1),List.length_cons,show n+1+xs.length=n+(xs.length+1) by omega]
  split<;>simp
end
section
variable {ll mm : List (List D)} {x : De}
end
end M
end Go.Proofs.YtihfibjckkmmbaaGreat
