/- Two threads that stand beside each other change their places: the events. Plainly. No condition but what is said. -/
import Derived.Below
import Derived.BigQuiet
import Derived.Deep.AppendLies
import Derived.Deep.MidRow
import Derived.Deep.Quiet
import Derived.Deep.QuietTactic
import Derived.Deep.RegionHeld3
import Derived.Deep.RegionLaw
import Derived.Deep.RegionWith
import Derived.Deep.Slices
import Derived.Deep.WholeRow
import Derived.Handy
import Derived.Laws.AppendOwn
import Derived.Laws.AppendOwnNone
import Derived.Laws.EntriesVeiled
import Derived.Laws.IdiomCopy
import Derived.Laws.OwnMore
import Derived.LoopIn
import Derived.LoopN
import Derived.LoopNIn
import Derived.OwnWalkIn
import Derived.RangeFuncBound
import Derived.RangeFuncLeaves
import Derived.RangeFuncNested
import Derived.Shelf.Abstract
import Derived.Shelf.SlSortCmp.NoneTotal
import Derived.Sort.Grow
import Derived.TacticsInMore
import Derived.WalkKit
import Derived.WalkLawsBesides
import Derived.WalkSpells
import Derived.Deep.OwnRows
import Derived.Test.YtihfibjckkmmbaaGreatRows
import Derived.Test.YtihfibjckkmmbaaGreatQhal
namespace Go.Proofs.YtihfibjckkmmbaaGreat
namespace M
structure Sf (m m':Nat) (x y:De):Prop where
 d:y.d=x.d
 last:y.last=x.last
 lr:(x.lr=-1∧y.lr=-1)∨∃ j:Nat,x.lr=((m+j:Nat):Int)∧y.lr=((m'+j:Nat):Int)
def SfL (m m':Nat) (xs ys:List De):Prop:=ys.length=xs.length∧∀ (a:Nat) (x:De),xs[a]?=some x→∃ y,ys[a]?=some y∧Sf m m' x y
theorem SfL.app {m m':Nat} {xs ys xs' ys':List De} (h:SfL m m' xs ys) (h':SfL m m' xs' ys'):SfL m m' (xs++xs') (ys++ys'):=by
 refine ⟨by simp [h.1,h'.1],fun a x hx=>?_⟩
 rcases Nat.lt_or_ge a xs.length with hl | hl
 ·rw [List.getElem?_append_left hl] at hx
  obtain ⟨y,hy,hs⟩:=h.2 a x hx
  exact ⟨y,by rw [List.getElem?_append_left (by rw [h.1];exact hl)];exact hy,hs⟩
 ·rw [List.getElem?_append_right hl] at hx
  obtain ⟨y,hy,hs⟩:=h'.2 _ x hx
  exact ⟨y,by rw [List.getElem?_append_right (by rw [h.1];exact hl),h.1];exact hy,hs⟩
def LrF (m m':Nat) (lr lr':Int):Prop:=(lr=-1∧lr'=-1)∨∃ j:Nat,lr=((m+j:Nat):Int)∧lr'=((m'+j:Nat):Int)
theorem LrF.of {m m':Nat} {lr lr':Int} (h:LrF m m' lr lr') (q:Nat) (d:D):LrF m m' (lrOf lr (m+q) d) (lrOf lr' (m'+q) d):=by
 unfold lrOf
 split
 ·exact .inr ⟨q,rfl,rfl⟩
 ·exact h
theorem sf_deD {m m':Nat} (t t' i i':Nat) {lr lr':Int} (h:LrF m m' lr lr') (q:Nat) (d:D):SfL m m' (deD t i lr (m+q) d) (deD t' i' lr' (m'+q) d):=by
 have hl:=h.of q d
 unfold deD
 split
 ·refine ⟨rfl,fun a x hx=>?_⟩
  match a with
  | 0=>obtain rfl:=Option.some.inj hx;exact ⟨_,rfl,rfl,rfl,hl⟩
  | 1=>obtain rfl:=Option.some.inj hx;exact ⟨_,rfl,rfl,rfl,hl⟩
  | a+2=>simp at hx
 ·refine ⟨rfl,fun a x hx=>?_⟩
  match a with
  | 0=>obtain rfl:=Option.some.inj hx;exact ⟨_,rfl,rfl,rfl,hl⟩
  | a+1=>simp at hx
theorem sf_deT {m m':Nat} (t t':Nat):∀ (l:List D) (i i':Nat) (lr lr':Int) (q:Nat),LrF m m' lr lr'→SfL m m' (deT t i lr (m+q) l) (deT t' i' lr' (m'+q) l)
 | [],i,i',lr,lr',q,_=>⟨rfl,fun a x hx=>by simp [deT] at hx⟩
 | d::l,i,i',lr,lr',q,h=>by
  have h1:=sf_deD t t' i i' h q d
  have h2:=sf_deT t t' l (i+1) (i'+1) _ _ (q+(deD t i lr (m+q) d).length) (h.of q d)
  rw [deT,deT]
  refine h1.app ?_
  rw [h1.1]
  simpa only [Nat.add_assoc] using h2
end M
end Go.Proofs.YtihfibjckkmmbaaGreat
