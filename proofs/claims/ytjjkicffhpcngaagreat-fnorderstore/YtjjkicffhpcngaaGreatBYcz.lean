/- One read more at the end: what an order allows of the rest is the same. Plainly. No condition but what is said. -/
import Derived.Below
import Derived.BigQuiet
import Derived.Deep.AppendLies
import Derived.Deep.CutRange
import Derived.Deep.MidRow
import Derived.Deep.Quiet
import Derived.Deep.QuietTactic
import Derived.Deep.RegionHeld3
import Derived.Deep.RegionLaw
import Derived.Deep.RegionWith
import Derived.Deep.Slices
import Derived.Deep.WholeRow
import Derived.Handy
import Derived.Laws.AppendOwn
import Derived.Laws.AppendOwnNone
import Derived.Laws.EntriesVeiled
import Derived.Laws.IdiomCopy
import Derived.Laws.OwnMore
import Derived.LoopIn
import Derived.LoopN
import Derived.LoopNIn
import Derived.Maps.OwnIn
import Derived.OwnWalkIn
import Derived.RangeFuncBound
import Derived.RangeFuncLeaves
import Derived.RangeFuncNested
import Derived.Shelf.Abstract
import Derived.Shelf.SlSortCmp.NoneTotal
import Derived.Sort.Grow
import Derived.TacticsInMore
import Derived.WalkKit
import Derived.WalkLawsBesides
import Derived.WalkSpells
import Derived.Deep.OwnRows
import Derived.Test.YtjjkicffhpcngaaGreatRows
import Derived.Test.YtjjkicffhpcngaaGreatBYal
namespace Go.Proofs.YtjjkicffhpcngaaGreat
namespace M
section
variable {ds : List De} {x : De}
end
section
variable {ll mm : List (List D)} {x : De}
end
theorem deT_snoc (t:Nat) (d:D) (hd:d.k≠9):∀ (l:List D) (i:Nat) (lr:Int) (n:Nat),∃ x:De,x.d=d∧deT t i lr n (l++[d])=deT t i lr n l++[x]
 | [],i,lr,n=>by
  refine ⟨⟨t,i,false,d,lrOf lr n d⟩,rfl,?_⟩
  have:(d.k==9)=false:=by simpa using hd
  simp [deT,deD,this]
 | e::l,i,lr,n=>by
  obtain ⟨x,h1,h2⟩:=deT_snoc t d hd l (i+1) (lrOf lr n e) (n+(deD t i lr n e).length)
  exact ⟨x,h1,by rw [List.cons_append,deT,h2,deT,List.append_assoc]⟩
end M
end Go.Proofs.YtjjkicffhpcngaaGreat
