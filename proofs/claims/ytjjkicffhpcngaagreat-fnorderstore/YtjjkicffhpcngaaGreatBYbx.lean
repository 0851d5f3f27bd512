/- What an order allows of small programs: a thread more that does nothing, one place alone, one thread alone, one step of each. Plainly. No condition but what is said. -/
import Derived.Below
import Derived.BigQuiet
import Derived.Deep.AppendLies
import Derived.Deep.CutRange
import Derived.Deep.MidRow
import Derived.Deep.Quiet
import Derived.Deep.QuietTactic
import Derived.Deep.RegionHeld3
import Derived.Deep.RegionLaw
import Derived.Deep.RegionWith
import Derived.Deep.Slices
import Derived.Deep.WholeRow
import Derived.Handy
import Derived.Laws.AppendOwn
import Derived.Laws.AppendOwnNone
import Derived.Laws.EntriesVeiled
import Derived.Laws.IdiomCopy
import Derived.Laws.OwnMore
import Derived.LoopIn
import Derived.LoopN
import Derived.LoopNIn
import Derived.Maps.OwnIn
import Derived.OwnWalkIn
import Derived.RangeFuncBound
import Derived.RangeFuncLeaves
import Derived.RangeFuncNested
import Derived.Shelf.Abstract
import Derived.Shelf.SlSortCmp.NoneTotal
import Derived.Sort.Grow
import Derived.TacticsInMore
import Derived.WalkKit
import Derived.WalkLawsBesides
import Derived.WalkSpells
import Derived.Deep.OwnRows
import Derived.Test.YtjjkicffhpcngaaGreatRows
import Derived.Test.YtjjkicffhpcngaaGreatBYal
namespace Go.Proofs.YtjjkicffhpcngaaGreat
namespace M
theorem deF_append:∀ (ll mm:List (List D)) (t n:Nat),deF t n (ll++mm)=deF t n ll++deF (t+ll.length) (n+(deF t n ll).length) mm
 | [],mm,t,n=>by simp [deF]
 | l::ll,mm,t,n=>by
  simp only [List.cons_append,deF,deF_append ll mm,List.append_assoc,List.length_append,List.length_cons]
  rw [show t+1+ll.length=t+(ll.length+1) by omega,show n+(deT t 0 (-1) n l).length+(deF (t+1) (n+(deT t 0 (-1) n l).length) ll).length=n+((deT t 0 (-1) n l).length+(deF (t+1) (n+(deT t 0 (-1) n l).length) ll).length) by omega]
end M
end Go.Proofs.YtjjkicffhpcngaaGreat
