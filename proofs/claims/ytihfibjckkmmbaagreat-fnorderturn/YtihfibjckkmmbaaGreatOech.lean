/- What is seen in a way that is ok may be seen of the program: plainly. No condition. To go in first, and out last, changes nothing where nobody waits, strictly and loosely. Plainly. No condition but what is said. To go in first, and out last: the events, and that what an order allows is the same. Plainly. No condition but what is said. -/
import Derived.Below
import Derived.BigQuiet
import Derived.Deep.AppendLies
import Derived.Deep.MidRow
import Derived.Deep.Quiet
import Derived.Deep.QuietTactic
import Derived.Deep.RegionHeld3
import Derived.Deep.RegionLaw
import Derived.Deep.RegionWith
import Derived.Deep.Slices
import Derived.Deep.WholeRow
import Derived.Handy
import Derived.Laws.AppendOwn
import Derived.Laws.AppendOwnNone
import Derived.Laws.EntriesVeiled
import Derived.Laws.IdiomCopy
import Derived.Laws.OwnMore
import Derived.LoopIn
import Derived.LoopN
import Derived.LoopNIn
import Derived.OwnWalkIn
import Derived.RangeFuncBound
import Derived.RangeFuncLeaves
import Derived.RangeFuncNested
import Derived.Shelf.Abstract
import Derived.Shelf.SlSortCmp.NoneTotal
import Derived.Sort.Grow
import Derived.TacticsInMore
import Derived.WalkKit
import Derived.WalkLawsBesides
import Derived.WalkSpells
import Derived.Deep.OwnRows
import Derived.Test.YtihfibjckkmmbaaGreatRows
import Derived.Test.YtihfibjckkmmbaaGreatOebk
import Derived.Test.YtihfibjckkmmbaaGreatOece
namespace Go.Proofs.YtihfibjckkmmbaaGreat
namespace M
theorem rdN_append (l m:List De):rdN (l++m)=rdN l+rdN m:=by simp [rdN]
theorem rdN_deD (t i:Nat) (lr:Int) (n:Nat) (d:D):rdN (deD t i lr n d)=if reads d.k then 1 else 0:=by
 unfold deD rdN
 by_cases h:d.k==9
 ·have h9:d.k=9:=by simpa using h
  have hu:reads d.k=false:=by rw [h9];decide
  rw [if_pos h];simp [De.reads,hu]
 ·rw [if_neg h]
  cases hu:reads d.k<;>simp [De.reads,hu]
theorem rdN_deT (t:Nat):∀ (l:List D) (i:Nat) (lr:Int) (n:Nat),rdN (deT t i lr n l)=cnt reads l
 | [],_,_,_=>by simp [deT,rdN,cnt]
 | d::l,i,lr,n=>by
  rw [deT,rdN_append,rdN_deD,rdN_deT t l,cnt_cons]
theorem rdN_deF:∀ (ll:List (List D)) (t n:Nat),rdN (deF t n ll)=tot reads ll
 | [],_,_=>by simp [deF,rdN,tot]
 | l::ll,t,n=>by rw [deF,rdN_append,rdN_deT,rdN_deF ll,tot]
theorem rdAt_len (ds:List De) (l:List Int):∀ (xs:List De) (n:Nat),(rdAt ds l n xs).length=rdN xs
 | [],_=>by simp [rdAt,rdN]
 | x::xs,n=>by
  have ih:=rdAt_len ds l xs (n+1)
  unfold rdAt
  cases hx:x.reads
  ·simpa [rdN,hx] using ih
  ·simp [rdN,hx];simpa [rdN] using ih
theorem exec_seenOk {ll:List (List D)} {l:List Int} {rows:List (List Int)} (h:execOk ll l rows=true):seenOk ll (execSeen ll l rows).1 (execSeen ll l rows).2=true:=by
 have W:=way_of h
 have e:execSeen ll l rows=(seenR (deeds ll) l,seenL (deeds ll) l rows):=by simp [execSeen,h]
 have h1:((seenR (deeds ll) l).length:Int)=nreads ll:=by
  rw [nreads_ok W.prog,seenR,rdAt_len,deeds,rdN_deF]
 have h2:(seenL (deeds ll) l rows).length=3:=by rw [seenL,List.length_map,W.three.out]
 have h3:vals (seenR (deeds ll) l)=true:=rdAt_in W _ _ (by simp)
 have h4:vals (seenL (deeds ll) l rows)=true:=last_in W rows (fun _ h=>h)
 rw [e]
 simp only [seenOk,h1,h2,h3,h4,decide_true,Bool.and_true]
end M
end Go.Proofs.YtihfibjckkmmbaaGreat
namespace Go.Proofs.YtihfibjckkmmbaaGreat
namespace M
structure Sh (m m':Nat) (x y:De):Prop where
 d:y.d=x.d
 t:y.t=x.t
 last:y.last=x.last
 lr:(x.lr=-1∧y.lr=-1)∨∃ j:Nat,x.lr=((m+j:Nat):Int)∧y.lr=((m'+j:Nat):Int)
def ShL (m m':Nat) (xs ys:List De):Prop:=ys.length=xs.length∧∀ (a:Nat) (x:De),xs[a]?=some x→∃ y,ys[a]?=some y∧Sh m m' x y
theorem ShL.app {m m':Nat} {xs ys xs' ys':List De} (h:ShL m m' xs ys) (h':ShL m m' xs' ys'):ShL m m' (xs++xs') (ys++ys'):=by
 refine ⟨by simp [h.1,h'.1],fun a x hx=>?_⟩
 rcases Nat.lt_or_ge a xs.length with hl | hl
 ·rw [List.getElem?_append_left hl] at hx
  obtain ⟨y,hy,hs⟩:=h.2 a x hx
  exact ⟨y,by rw [List.getElem?_append_left (by rw [h.1];exact hl)];exact hy,hs⟩
 ·rw [List.getElem?_append_right hl] at hx
  obtain ⟨y,hy,hs⟩:=h'.2 _ x hx
  exact ⟨y,by rw [List.getElem?_append_right (by rw [h.1];exact hl),h.1];exact hy,hs⟩
def LrS (m m':Nat) (lr lr':Int):Prop:=(lr=-1∧lr'=-1)∨∃ j:Nat,lr=((m+j:Nat):Int)∧lr'=((m'+j:Nat):Int)
theorem LrS.of {m m':Nat} {lr lr':Int} (h:LrS m m' lr lr') (q:Nat) (d:D):LrS m m' (lrOf lr (m+q) d) (lrOf lr' (m'+q) d):=by
 unfold lrOf
 split
 ·exact .inr ⟨q,rfl,rfl⟩
 ·exact h
theorem sh_deD {m m':Nat} (t i i':Nat) {lr lr':Int} (h:LrS m m' lr lr') (q:Nat) (d:D):ShL m m' (deD t i lr (m+q) d) (deD t i' lr' (m'+q) d):=by
 have hl:=h.of q d
 unfold deD
 split
 ·refine ⟨rfl,fun a x hx=>?_⟩
  match a with
  | 0=>obtain rfl:=Option.some.inj hx;exact ⟨_,rfl,rfl,rfl,rfl,hl⟩
  | 1=>obtain rfl:=Option.some.inj hx;exact ⟨_,rfl,rfl,rfl,rfl,hl⟩
  | a+2=>simp at hx
 ·refine ⟨rfl,fun a x hx=>?_⟩
  match a with
  | 0=>obtain rfl:=Option.some.inj hx;exact ⟨_,rfl,rfl,rfl,rfl,hl⟩
  | a+1=>simp at hx
theorem sh_deT {m m':Nat} (t:Nat):∀ (l:List D) (i i':Nat) (lr lr':Int) (q:Nat),LrS m m' lr lr'→ShL m m' (deT t i lr (m+q) l) (deT t i' lr' (m'+q) l)
 | [],i,i',lr,lr',q,_=>⟨rfl,fun a x hx=>by simp [deT] at hx⟩
 | d::l,i,i',lr,lr',q,h=>by
  have h1:=sh_deD t i i' h q d
  have h2:=sh_deT t l (i+1) (i'+1) _ _ (q+(deD t i lr (m+q) d).length) (h.of q d)
  rw [deT,deT]
  refine h1.app ?_
  rw [h1.1]
  simpa only [Nat.add_assoc] using h2
theorem sh_deF {m m':Nat}:∀ (ll:List (List D)) (t q:Nat),ShL m m' (deF t (m+q) ll) (deF t (m'+q) ll)
 | [],t,q=>⟨rfl,fun a x hx=>by simp [deF] at hx⟩
 | l::ll,t,q=>by
  have h1:=sh_deT (m:=m) (m':=m') t l 0 0 (-1) (-1) q (.inl ⟨rfl,rfl⟩)
  have h2:=sh_deF (m:=m) (m':=m') ll (t+1) (q+(deT t 0 (-1) (m+q) l).length)
  rw [deF,deF]
  refine h1.app ?_
  rw [h1.1]
  simpa only [Nat.add_assoc] using h2
section
variable {n A T : Nat} {ds es : List De}
end
end M
end Go.Proofs.YtihfibjckkmmbaaGreat
namespace Go.Proofs.YtihfibjckkmmbaaGreat
namespace M
theorem deT_lr_lt {t:Nat}:∀ {l:List D} {i:Nat} {lr:Int} {n a:Nat} {x:De},(deT t i lr n l)[a]?=some x→x.lr=lr∨x.lr < ((n+(deT t i lr n l).length:Nat):Int)
 | [],i,lr,n,a,x,h=>by simp [deT] at h
 | d::l,i,lr,n,a,x,h=>by
  rw [deT] at h ⊢
  have hone:∀ y∈deD t i lr n d,y.lr=lrOf lr n d:=fun y hy=>by
   unfold deD at hy
   split at hy
   ·rcases List.mem_cons.1 hy with rfl | hy
    ·rfl
    ·rw [List.mem_singleton.1 hy]
   ·rw [List.mem_singleton.1 hy]
  have hl:=(deD_len t i lr n d).1
  have hof:lrOf lr n d=lr∨lrOf lr n d < ((n+(deD t i lr n d).length:Nat):Int):=by
   unfold lrOf
   split
   ·right;omega
   ·exact .inl rfl
  rw [List.length_append]
  rcases Nat.lt_or_ge a (deD t i lr n d).length with h1 | h1
  ·rw [List.getElem?_append_left h1] at h
   rw [hone x (mem_of_get h)]
   exact hof.imp id fun h=>by omega
  ·rw [List.getElem?_append_right h1] at h
   rcases deT_lr_lt h with h2 | h2
   ·rw [h2]
    exact hof.imp id fun h=>by omega
   ·right;omega
section
variable {ll mm : List (List D)} {n A T : Nat}
end
end M
end Go.Proofs.YtihfibjckkmmbaaGreat
