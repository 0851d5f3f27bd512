/- Two walls are one; one step turned into another one of the program. Plainly. No condition but what is said. -/
import Derived.Below
import Derived.BigQuiet
import Derived.Deep.AppendLies
import Derived.Deep.CutRange
import Derived.Deep.MidRow
import Derived.Deep.Quiet
import Derived.Deep.QuietTactic
import Derived.Deep.RegionHeld3
import Derived.Deep.RegionLaw
import Derived.Deep.RegionWith
import Derived.Deep.Slices
import Derived.Deep.WholeRow
import Derived.Handy
import Derived.Laws.AppendOwn
import Derived.Laws.AppendOwnNone
import Derived.Laws.EntriesVeiled
import Derived.Laws.IdiomCopy
import Derived.Laws.OwnMore
import Derived.LoopIn
import Derived.LoopN
import Derived.LoopNIn
import Derived.Maps.OwnIn
import Derived.OwnWalkIn
import Derived.RangeFuncBound
import Derived.RangeFuncLeaves
import Derived.RangeFuncNested
import Derived.Shelf.Abstract
import Derived.Shelf.SlSortCmp.NoneTotal
import Derived.Sort.Grow
import Derived.TacticsInMore
import Derived.WalkKit
import Derived.WalkLawsBesides
import Derived.WalkSpells
import Derived.Deep.OwnRows
import Derived.Test.YtjjkicffhpcngaaGreatRows
import Derived.Test.YtjjkicffhpcngaaGreatBYcc
import Derived.Test.YtjjkicffhpcngaaGreatBYcf
namespace Go.Proofs.YtjjkicffhpcngaaGreat
namespace M
theorem swR_up {fr to_:Int} (h:(fr=1∧to_=6)∨(fr=2∧to_=5)):∀ (l:List D) (n:Int),UpL l (swR fr to_ n l)
 | [],_=>.nil
 | d::l,n=>by
  rw [swR]
  split
  ·rename_i hk
   refine .cons ?_ (swR_up h l _)
   split
   ·have hk:d.k=fr:=by simpa using hk
    rcases h with ⟨rfl,rfl⟩ | ⟨rfl,rfl⟩
    ·exact .inr (.inl ⟨hk,rfl⟩)
    ·exact .inr (.inr ⟨hk,rfl⟩)
   ·exact .inl rfl
  ·exact .cons (.inl rfl) (swR_up h l _)
theorem swF_up {fr to_:Int} (h:(fr=1∧to_=6)∨(fr=2∧to_=5)):∀ (ll:List (List D)) (n:Int),UpP ll (swF fr to_ n ll)
 | [],_=>.nil
 | l::ll,n=>.cons (swR_up h l n) (swF_up h ll _)
end M
end Go.Proofs.YtjjkicffhpcngaaGreat
