/- What an order allows of a program with walls put in: no more; strictly just as much. Plainly. No condition but what is said. -/
import Derived.Below
import Derived.BigQuiet
import Derived.Deep.AppendLies
import Derived.Deep.MidRow
import Derived.Deep.Quiet
import Derived.Deep.QuietTactic
import Derived.Deep.RegionHeld3
import Derived.Deep.RegionLaw
import Derived.Deep.RegionWith
import Derived.Deep.Slices
import Derived.Deep.WholeRow
import Derived.Handy
import Derived.Laws.AppendOwn
import Derived.Laws.AppendOwnNone
import Derived.Laws.EntriesVeiled
import Derived.Laws.IdiomCopy
import Derived.Laws.OwnMore
import Derived.LoopIn
import Derived.LoopN
import Derived.LoopNIn
import Derived.OwnWalkIn
import Derived.RangeFuncBound
import Derived.RangeFuncLeaves
import Derived.RangeFuncNested
import Derived.Shelf.Abstract
import Derived.Shelf.SlSortCmp.NoneTotal
import Derived.Sort.Grow
import Derived.TacticsInMore
import Derived.WalkKit
import Derived.WalkLawsBesides
import Derived.WalkSpells
import Derived.Deep.OwnRows
import Derived.Test.YtihfibjckkmmbaaGreatRows
import Derived.Test.YtihfibjckkmmbaaGreatQhas
import Derived.Test.YtihfibjckkmmbaaGreatQhax
namespace Go.Proofs.YtihfibjckkmmbaaGreat
namespace M
section
variable {ds es : List De} {pos back : List Nat}
def img (f:Nat→Nat) (c:Ch):Ch:=((f c.1.1,f c.1.2),(f c.2.1,f c.2.2))
theorem mem_choices {ds:List De} {c:Ch}:c∈choices ds↔∃ (w r:Nat) (x y:De),ds[w]?=some x∧x.d.k=9∧x.last=false∧ds[r]?=some y∧y.d.k=7∧c=((outOf ds r,w+1),(w,r)):=by
 simp only [choices,List.mem_flatMap,choicesAt,List.mem_map,List.mem_filter,List.mem_range]
 constructor
 ·rintro ⟨w,⟨hw,hwt⟩,r,⟨hr,hk⟩,rfl⟩
  unfold waitsAt at hwt
  rw [List.getElem?_eq_getElem hw] at hwt
  rw [kAt_eq hr] at hk
  simp only [Bool.and_eq_true,beq_iff_eq,Bool.not_eq_true'] at hwt
  exact ⟨w,r,ds[w],ds[r],List.getElem?_eq_getElem hw,hwt.1,hwt.2,List.getElem?_eq_getElem hr,by simpa using hk,rfl⟩
 ·rintro ⟨w,r,x,y,hx,h9,hf,hy,h7,rfl⟩
  refine ⟨w,⟨lt_of_get hx,?_⟩,r,⟨lt_of_get hy,?_⟩,rfl⟩
  ·unfold waitsAt;rw [hx];simp [h9,hf]
  ·unfold kAt;rw [hy];simp [h7]
end
end M
end Go.Proofs.YtihfibjckkmmbaaGreat
