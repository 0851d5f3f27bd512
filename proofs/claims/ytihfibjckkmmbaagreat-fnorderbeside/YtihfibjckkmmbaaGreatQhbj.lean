/- A wall more allows no more, by any order; walls everywhere make each order strict. Plainly. No condition but what is said. -/
import Derived.Below
import Derived.BigQuiet
import Derived.Deep.AppendLies
import Derived.Deep.MidRow
import Derived.Deep.Quiet
import Derived.Deep.QuietTactic
import Derived.Deep.RegionHeld3
import Derived.Deep.RegionLaw
import Derived.Deep.RegionWith
import Derived.Deep.Slices
import Derived.Deep.WholeRow
import Derived.Handy
import Derived.Laws.AppendOwn
import Derived.Laws.AppendOwnNone
import Derived.Laws.EntriesVeiled
import Derived.Laws.IdiomCopy
import Derived.Laws.OwnMore
import Derived.LoopIn
import Derived.LoopN
import Derived.LoopNIn
import Derived.OwnWalkIn
import Derived.RangeFuncBound
import Derived.RangeFuncLeaves
import Derived.RangeFuncNested
import Derived.Shelf.Abstract
import Derived.Shelf.SlSortCmp.NoneTotal
import Derived.Sort.Grow
import Derived.TacticsInMore
import Derived.WalkKit
import Derived.WalkLawsBesides
import Derived.WalkSpells
import Derived.Deep.OwnRows
import Derived.Test.YtihfibjckkmmbaaGreatRows
import Derived.Test.YtihfibjckkmmbaaGreatQhav
import Derived.Test.YtihfibjckkmmbaaGreatQhaz
namespace Go.Proofs.YtihfibjckkmmbaaGreat
namespace M
theorem deed_zero {ll:List (List D)} (hp:prog ll=true):∀ x∈deeds ll,x.reads=true∨x.d.k=3→x.d.v=0:=deed_z hp
theorem lro_deeds (ll:List (List D)):∀ x∈deeds ll,x.lr < (deeds ll).length:=fun x hx=>by
 obtain ⟨n,hn,rfl⟩:=List.getElem_of_mem hx
 exact lr_lt2 ll n _ (List.getElem?_eq_getElem hn)
section
variable {ll mm : List (List D)} {pos back : List Nat}
end
end M
end Go.Proofs.YtihfibjckkmmbaaGreat
