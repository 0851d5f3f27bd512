/- To go in first, and out last, changes nothing where nobody waits, strictly and loosely. Plainly. No condition but what is said. To go in first, and out last: the events, and that what an order allows is the same. Plainly. No condition but what is said. -/
import Derived.Below
import Derived.BigQuiet
import Derived.Deep.AppendLies
import Derived.Deep.CutRange
import Derived.Deep.MidRow
import Derived.Deep.Quiet
import Derived.Deep.QuietTactic
import Derived.Deep.RegionHeld3
import Derived.Deep.RegionLaw
import Derived.Deep.RegionWith
import Derived.Deep.Slices
import Derived.Deep.WholeRow
import Derived.Handy
import Derived.Laws.AppendOwn
import Derived.Laws.AppendOwnNone
import Derived.Laws.EntriesVeiled
import Derived.Laws.IdiomCopy
import Derived.Laws.OwnMore
import Derived.LoopIn
import Derived.LoopN
import Derived.LoopNIn
import Derived.Maps.OwnIn
import Derived.OwnWalkIn
import Derived.RangeFuncBound
import Derived.RangeFuncLeaves
import Derived.RangeFuncNested
import Derived.Shelf.Abstract
import Derived.Shelf.SlSortCmp.NoneTotal
import Derived.Sort.Grow
import Derived.TacticsInMore
import Derived.WalkKit
import Derived.WalkLawsBesides
import Derived.WalkSpells
import Derived.Deep.OwnRows
import Derived.Test.YtjjkicffhpcngaaGreatRows
import Derived.Test.YtjjkicffhpcngaaGreatBYbw
import Derived.Test.YtjjkicffhpcngaaGreatBYbx
import Derived.Test.YtjjkicffhpcngaaGreatBYby
import Derived.Test.YtjjkicffhpcngaaGreatBYcu
import Derived.Test.YtjjkicffhpcngaaGreatBYcz
namespace Go.Proofs.YtjjkicffhpcngaaGreat
namespace M
theorem leads_drop {E F:List Lk} {h:Nat→Nat} (hE:∀ u v,(u,v)∈E→(h u,h v)∈F∨(∀ w,(w,u)∉E)∨(∀ w,(v,w)∉E)) {u v:Nat} (hl:Leads E u v):(∃ w,(w,v)∈E)∧((∃ w,(w,u)∈E)→(∃ w,(v,w)∈E)→Leads F (h u) (h v)):=by
 induction hl with
 | one h1 =>
  refine ⟨⟨_,h1⟩,fun ⟨a,ha⟩ ⟨b,hb⟩=>?_⟩
  rcases hE _ _ h1 with h2 | h2 | h2
  ·exact .one h2
  ·exact absurd ha (h2 a)
  ·exact absurd hb (h2 b)
 | more _ h1 ih =>
  refine ⟨⟨_,h1⟩,fun hin ⟨b,hb⟩=>?_⟩
  have h3:=ih.2 hin ⟨_,h1⟩
  rcases hE _ _ h1 with h2 | h2 | h2
  ·exact .more h3 h2
  ·obtain ⟨w,hw⟩:=ih.1
   exact absurd hw (h2 w)
  ·exact absurd hb (h2 b)
theorem leads_first {E:List Lk} {u v:Nat} (hl:Leads E u v):∃ w,(u,w)∈E:=by
 induction hl with
 | one h1=>exact ⟨_,h1⟩
 | more _ _ ih=>exact ih
theorem round_drop {E F:List Lk} {h:Nat→Nat} (hE:∀ u v,(u,v)∈E→(h u,h v)∈F∨(∀ w,(w,u)∉E)∨(∀ w,(v,w)∉E)) (hr:Round E):Round F:=by
 obtain ⟨a,ha⟩:=hr
 have:=leads_drop hE ha
 exact ⟨h a,this.2 this.1 (leads_first ha)⟩
theorem sat_none {L:List Lk}:Sat L []↔¬ Round L:=by
 rw [sat_iff]
 constructor
 ·rintro ⟨S,_,h⟩ hr
  exact h (hr.sub fun l hl=>.one (List.mem_append.2 (.inr hl)))
 ·intro h
  exact ⟨[],fun c hc=>(by cases hc),by simpa using h⟩
theorem idle_own {ds:List De} {l:List Int} {rows:List (List Int)} {k a b:Nat} {x y:De} (hm:must ds l rows k a b x y=true) (hr:(read l a b||over l rows a b x y)=false):own a b x y=true:=by
 rw [Bool.or_eq_false_iff] at hr
 obtain ⟨h1,h2⟩:=hr
 match k with
 | 0=>simp only [must,h1,h2,Bool.or_false,Bool.and_eq_true] at hm;exact hm.1
 | 1=>simpa only [must,h1,h2,Bool.or_false] using hm
 | 2=>simp only [must,h1,h2,Bool.or_false,Bool.and_false,late,Bool.and_eq_true] at hm;exact hm.1
 | k+3=>simp only [must,h1,h2,Bool.or_false,Bool.and_false,loose,Bool.and_eq_true] at hm;exact hm.1
structure Sh (m m':Nat) (x y:De):Prop where
 d:y.d=x.d
 t:y.t=x.t
 last:y.last=x.last
 lr:(x.lr=-1∧y.lr=-1)∨∃ j:Nat,x.lr=((m+j:Nat):Int)∧y.lr=((m'+j:Nat):Int)
def ShL (m m':Nat) (xs ys:List De):Prop:=ys.length=xs.length∧∀ (a:Nat) (x:De),xs[a]?=some x→∃ y,ys[a]?=some y∧Sh m m' x y
theorem ShL.app {m m':Nat} {xs ys xs' ys':List De} (h:ShL m m' xs ys) (h':ShL m m' xs' ys'):ShL m m' (xs++xs') (ys++ys'):=by
 refine ⟨by simp [h.1,h'.1],fun a x hx=>?_⟩
 rcases Nat.lt_or_ge a xs.length with hl | hl
 ·rw [List.getElem?_append_left hl] at hx
  obtain ⟨y,hy,hs⟩:=h.2 a x hx
  exact ⟨y,by rw [List.getElem?_append_left (by rw [h.1];exact hl)];exact hy,hs⟩
 ·rw [List.getElem?_append_right hl] at hx
  obtain ⟨y,hy,hs⟩:=h'.2 _ x hx
  exact ⟨y,by rw [List.getElem?_append_right (by rw [h.1];exact hl),h.1];exact hy,hs⟩
def LrS (m m':Nat) (lr lr':Int):Prop:=(lr=-1∧lr'=-1)∨∃ j:Nat,lr=((m+j:Nat):Int)∧lr'=((m'+j:Nat):Int)
theorem LrS.of {m m':Nat} {lr lr':Int} (h:LrS m m' lr lr') (q:Nat) (d:D):LrS m m' (lrOf lr (m+q) d) (lrOf lr' (m'+q) d):=by
 unfold lrOf
 split
 ·exact .inr ⟨q,rfl,rfl⟩
 ·exact h
theorem sh_deD {m m':Nat} (t i i':Nat) {lr lr':Int} (h:LrS m m' lr lr') (q:Nat) (d:D):ShL m m' (deD t i lr (m+q) d) (deD t i' lr' (m'+q) d):=by
 have hl:=h.of q d
 unfold deD
 split
 ·refine ⟨rfl,fun a x hx=>?_⟩
  match a with
  | 0=>obtain rfl:=Option.some.inj hx;exact ⟨_,rfl,rfl,rfl,rfl,hl⟩
  | 1=>obtain rfl:=Option.some.inj hx;exact ⟨_,rfl,rfl,rfl,rfl,hl⟩
  | a+2=>simp at hx
 ·refine ⟨rfl,fun a x hx=>?_⟩
  match a with
  | 0=>obtain rfl:=Option.some.inj hx;exact ⟨_,rfl,rfl,rfl,rfl,hl⟩
  | a+1=>simp at hx
theorem sh_deT {m m':Nat} (t:Nat):∀ (l:List D) (i i':Nat) (lr lr':Int) (q:Nat),LrS m m' lr lr'→ShL m m' (deT t i lr (m+q) l) (deT t i' lr' (m'+q) l)
 | [],i,i',lr,lr',q,_=>⟨rfl,fun a x hx=>by simp [deT] at hx⟩
 | d::l,i,i',lr,lr',q,h=>by
  have h1:=sh_deD t i i' h q d
  have h2:=sh_deT t l (i+1) (i'+1) _ _ (q+(deD t i lr (m+q) d).length) (h.of q d)
  rw [deT,deT]
  refine h1.app ?_
  rw [h1.1]
  simpa only [Nat.add_assoc] using h2
theorem sh_deF {m m':Nat}:∀ (ll:List (List D)) (t q:Nat),ShL m m' (deF t (m+q) ll) (deF t (m'+q) ll)
 | [],t,q=>⟨rfl,fun a x hx=>by simp [deF] at hx⟩
 | l::ll,t,q=>by
  have h1:=sh_deT (m:=m) (m':=m') t l 0 0 (-1) (-1) q (.inl ⟨rfl,rfl⟩)
  have h2:=sh_deF (m:=m) (m':=m') ll (t+1) (q+(deT t 0 (-1) (m+q) l).length)
  rw [deF,deF]
  refine h1.app ?_
  rw [h1.1]
  simpa only [Nat.add_assoc] using h2
def inF (A T:Nat) (a:Nat):Nat:=if a < A then a else if a < A+T then a+1 else a+2
def inB (A T:Nat) (c:Nat):Nat:=if c < A then c else if c < A+T+1 then c - 1 else c - 2
theorem inF_c (A T a:Nat):(a < A∧inF A T a=a)∨(A≤a∧a < A+T∧inF A T a=a+1)∨(A+T≤a∧A≤a∧inF A T a=a+2):=by
 unfold inF
 by_cases h1:a < A
 ·exact .inl ⟨h1,if_pos h1⟩
 ·rw [if_neg h1]
  by_cases h2:a < A+T
  ·exact .inr (.inl ⟨by omega,h2,if_pos h2⟩)
  ·exact .inr (.inr ⟨by omega,by omega,if_neg h2⟩)
theorem inB_c (A T c:Nat):(c < A∧inB A T c=c)∨(A≤c∧c < A+T+1∧inB A T c=c - 1)∨(A+T+1≤c∧inB A T c=c - 2):=by
 unfold inB
 by_cases h1:c < A
 ·exact .inl ⟨h1,if_pos h1⟩
 ·rw [if_neg h1]
  by_cases h2:c < A+T+1
  ·exact .inr (.inl ⟨by omega,h2,if_pos h2⟩)
  ·exact .inr (.inr ⟨by omega,if_neg h2⟩)
theorem inB_F (A T a:Nat):inB A T (inF A T a)=a:=by
 have:=inF_c A T a
 have:=inB_c A T (inF A T a)
 omega
theorem inF_mono {A T a b:Nat} (h:a < b):inF A T a < inF A T b:=by
 have:=inF_c A T a
 have:=inF_c A T b
 omega
theorem inF_iff {A T a b:Nat}:inF A T a < inF A T b↔a < b:=by
 have:=inF_c A T a
 have:=inF_c A T b
 omega
structure IsE (n A T:Nat) (ds es:List De):Prop where
 len:es.length=ds.length+2
 le:A+T≤ds.length
 at_:∀ (a:Nat) (x:De),ds[a]?=some x→∃ y,es[inF A T a]?=some y∧y.d=x.d∧y.t=x.t∧y.last=x.last∧y.lr=up (inF A T) x.lr
 lo:∀ (a:Nat) (x:De),ds[a]?=some x→a < A→x.t < n
 mid:∀ (a:Nat) (x:De),ds[a]?=some x→A≤a→a < A+T→x.t=n∧x.d.k≠7∧x.d.k≠8
 hi:∀ (a:Nat) (x:De),ds[a]?=some x→A+T≤a→n < x.t
 inn:∃ y,es[A]?=some y∧y.t=n∧y.d.k=7
 outt:∃ y,es[A+T+1]?=some y∧y.t=n∧y.d.k=8
 lro:∀ x∈ds,x.lr < ds.length
section
variable {n A T : Nat} {ds es : List De}
theorem IsE.new (h:IsE n A T ds es) {c:Nat} (hc:c < es.length):(c < es.length∧∃ a,a < ds.length∧inF A T a=c)∨c=A∨c=A+T+1:=by
 have:=h.len
 have:=h.le
 by_cases h1:c < A
 ·exact .inl ⟨hc,c,by omega,by unfold inF;rw [if_pos h1]⟩
 ·by_cases h2:c=A
  ·exact .inr (.inl h2)
  ·by_cases h3:c < A+T+1
   ·exact .inl ⟨hc,c - 1,by omega,by unfold inF;rw [if_neg (by omega),if_pos (by omega)];omega⟩
   ·by_cases h4:c=A+T+1
    ·exact .inr (.inr h4)
    ·exact .inl ⟨hc,c - 2,by omega,by unfold inF;rw [if_neg (by omega),if_neg (by omega)];omega⟩
theorem IsE.emb (h:IsE n A T ds es) (hpr:∀ x∈ds,x.uses=true→0≤x.d.p∧x.d.p < 3):Emb ds es (inF A T) id id:=by
 refine ⟨fun a x hx=>?_,fun a b _ _ e=>?_,fun c y hy hu=>?_,hpr,fun p h0 h3=>⟨h0,h3⟩,fun p q _ _ _ _ e=>e,rfl,h.lro⟩
 ·obtain ⟨y,h2,h3,_,_,h6⟩:=h.at_ a x hx
  refine ⟨y,h2,?_,by rw [h3],by rw [h3],fun _=>by rw [h3];rfl,by rw [h3];rfl,fun _=>h6⟩
  show M.reads y.d.k=M.reads x.d.k
  rw [h3]
 ·have:=inB_F A T a;rw [e,inB_F] at this;exact this.symm
 ·have hu':M.uses y.d.k=true:=hu
  rcases h.new (lt_of_get hy) with ⟨_,h1⟩ | e | e
  ·exact h1
  ·obtain ⟨z,hz,_,hk⟩:=h.inn
   rw [← e,hy] at hz
   obtain rfl:=Option.some.inj hz
   rw [hk] at hu';cases hu'
  ·obtain ⟨z,hz,_,hk⟩:=h.outt
   rw [← e,hy] at hz
   obtain rfl:=Option.some.inj hz
   rw [hk] at hu';cases hu'
theorem IsE.side (h:IsE n A T ds es) {a b:Nat} {x y:De} (ha:ds[a]?=some x) (hb:ds[b]?=some y) (ht:x.t=y.t):(b < A)∨(A≤a∧b < A+T)∨A+T≤a:=by
 rcases Nat.lt_or_ge a A with h1 | h1
 ·have:=h.lo a x ha h1
  left
  apply Classical.byContradiction
  intro hn
  rcases Nat.lt_or_ge b (A+T) with h2 | h2
  ·have:=(h.mid b y hb (by omega) h2).1;omega
  ·have:=h.hi b y hb h2;omega
 ·rcases Nat.lt_or_ge a (A+T) with h2 | h2
  ·have:=(h.mid a x ha h1 h2).1
   right;left
   refine ⟨h1,?_⟩
   apply Classical.byContradiction
   intro hn
   have:=h.hi b y hb (by omega);omega
  ·exact .inr (.inr h2)
theorem IsE.btw (h:IsE n A T ds es) {κ:Int} {a b:Nat} (hs:b < A∨A+T≤a) (hb:b < ds.length):(∀ q (hq:q < ds.length),a≤q→q≤b→ds[q].d.k≠κ)↔(∀ q (hq:q < es.length),inF A T a≤q→q≤inF A T b→es[q].d.k≠κ):=by
 have key:∀ q,a≤q→q≤b→∀ hq:q < ds.length,∃ h2:inF A T q < es.length,es[inF A T q].d=ds[q].d:=fun q _ _ hq=>by
  obtain ⟨y,hy,hd,_⟩:=h.at_ q _ (List.getElem?_eq_getElem hq)
  obtain ⟨h2,rfl⟩:=List.getElem?_eq_some_iff.1 hy
  exact ⟨h2,hd⟩
 have hle:=h.le
 constructor
 ·intro hk q hq h1 h2
  obtain ⟨q0,e,h3,h4⟩:∃ q0,inF A T q0=q∧a≤q0∧q0≤b:=by
   have c1:=inF_c A T a
   have c2:=inF_c A T b
   have c3:=inB_c A T q
   have c4:=inF_c A T (inB A T q)
   refine ⟨inB A T q,?_,?_,?_⟩<;>omega
  subst e
  obtain ⟨h5,h6⟩:=key q0 h3 h4 (by omega)
  rw [h6]
  exact hk q0 (by omega) h3 h4
 ·intro hk q hq h1 h2
  obtain ⟨h5,h6⟩:=key q h1 h2 hq
  rw [← h6]
  refine hk _ h5 ?_ ?_
  ·have c1:=inF_c A T a
   have c2:=inF_c A T q
   omega
  ·have c1:=inF_c A T b
   have c2:=inF_c A T q
   omega
theorem IsE.must (h:IsE n A T ds es) (hpr:∀ x∈ds,x.uses=true→0≤x.d.p∧x.d.p < 3) {x y:Wy} (R:Rel ds (inF A T) id x y) (hx:WO ds x.1 x.2) (hy:WO es y.1 y.2) (k:Nat) {a b:Nat} {u v u' v':De} (ha:ds[a]?=some u) (hb:ds[b]?=some v) (ha':es[inF A T a]?=some u') (hb':es[inF A T b]?=some v'):M.must es y.1 y.2 k (inF A T a) (inF A T b) u' v'=M.must ds x.1 x.2 k a b u v:=by
 have la:=lt_of_get ha
 have lb:=lt_of_get hb
 have E:=h.emb hpr
 obtain ⟨z,h2,d1,t1,_,r1⟩:=h.at_ a u ha
 rw [ha'] at h2
 obtain rfl:=Option.some.inj h2
 obtain ⟨z,h2,d2,t2,_,r2⟩:=h.at_ b v hb
 rw [hb'] at h2
 obtain rfl:=Option.some.inj h2
 have hr:=E.read R hx hy la lb
 have ho:=E.over R hx ha hb ha' hb'
 have hown:own (inF A T a) (inF A T b) u' v'=own a b u v:=by
  unfold own
  rw [t1,t2]
  congr 1
  rw [decide_eq_decide]
  exact inF_iff
 have hone:onePl u' v'=onePl u v:=by
  unfold onePl
  rw [show u'.uses=u.uses from congrArg (fun d:D=>M.uses d.k) d1,show v'.uses=v.uses from congrArg (fun d:D=>M.uses d.k) d2,d1,d2]
 have htwo:two u' v'=two u v:=by unfold two;rw [t1,t2]
 have hcp:copyOf (inF A T a) v'=copyOf a v:=by
  unfold copyOf
  rw [d2,r2]
  congr 1
  rw [Bool.eq_iff_iff,beq_iff_eq,beq_iff_eq]
  have hl:=h.lro v (mem_of_get hb)
  constructor
  ·intro e
   rw [← up_nat] at e
   exact E.up_inj hl (by omega) e
  ·intro e;rw [e,up_nat]
 have hl:loose es (inF A T a) (inF A T b) u' v'=loose ds a b u v:=by
  unfold loose
  rw [hown]
  cases hw:own a b u v
  ·rfl
  ·obtain ⟨hab,ht⟩:=own_iff.1 hw
   have la':=lt_of_get ha'
   have lb':=lt_of_get hb'
   have hin:goesIn es (inF A T a) (inF A T b) u'=goesIn ds a b u:=by
    unfold goesIn
    rw [d1]
    cases h7:(u.d.k==7)
    ·rfl
    ·have h7':u.d.k=7:=by simpa using h7
     have hs:b < A∨A+T≤a:=by
      rcases h.side ha hb ht with h1 | h1 | h1
      ·exact .inl h1
      ·exact absurd h7' (h.mid a u ha h1.1 (by omega)).2.1
      ·exact .inr h1
     rw [Bool.true_and,Bool.true_and,decide_eq_decide,le_outOf (by omega) (by omega),le_outOf (by omega) (by omega)]
     have hs':b - 1 < A∨A+T≤a:=by omega
     have key:=h.btw (κ:=8) (a:=a) (b:=b - 1) hs' (by omega)
     have e1:∀ q,q≤inF A T (b - 1)↔q < inF A T b:=by
      intro q
      have:inF A T b=inF A T (b - 1)+1:=by
       have c1:=inF_c A T b
       have c2:=inF_c A T (b - 1)
       omega
      omega
     constructor
     ·intro hk q hq h1 h2;exact key.2 (fun q hq h1 h2=>hk q hq h1 ((e1 q).1 h2)) q hq h1 (by omega)
     ·intro hk q hq h1 h2;exact key.1 (fun q hq h1 h2=>hk q hq h1 (by omega)) q hq h1 ((e1 q).2 h2)
   have hgo:goesOut es (inF A T a) (inF A T b) v'=goesOut ds a b v:=by
    unfold goesOut
    rw [d2]
    cases h8:(v.d.k==8)
    ·rfl
    ·have h8':v.d.k=8:=by simpa using h8
     have hs:b < A∨A+T≤a:=by
      rcases h.side ha hb ht with h1 | h1 | h1
      ·exact .inl h1
      ·exact absurd h8' (h.mid b v hb (by omega) h1.2).2.2
      ·exact .inr h1
     rw [Bool.true_and,Bool.true_and,decide_eq_decide,inOf_le lb,inOf_le lb']
     have hs':b < A∨A+T≤a+1:=by omega
     have key:=h.btw (κ:=7) (a:=a+1) (b:=b) hs' (by omega)
     have e1:∀ q,inF A T (a+1)≤q↔inF A T a < q:=by
      intro q
      have:inF A T (a+1)=inF A T a+1:=by
       have c1:=inF_c A T a
       have c2:=inF_c A T (a+1)
       omega
      omega
     constructor
     ·intro hk q hq h1 h2;exact key.2 (fun q hq h1 h2=>hk q hq ((e1 q).1 h1) h2) q hq (by omega) h2
     ·intro hk q hq h1 h2;exact key.1 (fun q hq h1 h2=>hk q hq (by omega) h2) q hq ((e1 q).2 h1) h2
   unfold keeps
   rw [hin,hgo,hcp,d1,d2]
 have hla:late (inF A T a) (inF A T b) u' v'=late a b u v:=by unfold late;rw [hown,d1,d2]
 unfold M.must
 rw [hr,ho,hown,hone,htwo,hl,hla]
end
end M
end Go.Proofs.YtjjkicffhpcngaaGreat
namespace Go.Proofs.YtjjkicffhpcngaaGreat
namespace M
theorem run_none:∀ {xs ys:List De} {m m':Nat},ShL m m' xs ys→∀ {i j:Bool},run false xs=some i→run true ys=some j→∀ x∈xs,x.d.k≠7∧x.d.k≠8
 | [],ys,m,m',_,i,j,_,_,x,hx=>by cases hx
 | x::xs,[],m,m',h,i,j,_,_,z,hz=>by have:=h.1;simp at this
 | x::xs,y::ys,m,m',h,i,j,hi,hj,z,hz=>by
  obtain ⟨y',hy,hs⟩:=h.2 0 x rfl
  obtain rfl:y=y':=Option.some.inj hy
  have hd:y.d.k=x.d.k:=by rw [hs.d]
  have hr:ShL m m' xs ys:=⟨by have:=h.1;simpa using this,fun a u hu=>h.2 (a+1) u hu⟩
  simp only [run,hd] at hi hj
  by_cases h7:x.d.k=7
  ·simp [h7] at hj
  ·by_cases h8:x.d.k=8
   ·simp [h8] at hi
   ·have e7:(x.d.k==7)=false:=by simpa using h7
    have e8:(x.d.k==8)=false:=by simpa using h8
    simp only [e7,e8,Bool.false_eq_true,if_false] at hi hj
    rcases List.mem_cons.1 hz with rfl | hz
    ·exact ⟨h7,h8⟩
    ·exact run_none hr hi hj z hz
theorem deT_lr_lt {t:Nat}:∀ {l:List D} {i:Nat} {lr:Int} {n a:Nat} {x:De},(deT t i lr n l)[a]?=some x→x.lr=lr∨x.lr < ((n+(deT t i lr n l).length:Nat):Int)
 | [],i,lr,n,a,x,h=>by simp [deT] at h
 | d::l,i,lr,n,a,x,h=>by
  rw [deT] at h ⊢
  have hone:∀ y∈deD t i lr n d,y.lr=lrOf lr n d:=fun y hy=>by
   unfold deD at hy
   split at hy
   ·rcases List.mem_cons.1 hy with rfl | hy
    ·rfl
    ·rw [List.mem_singleton.1 hy]
   ·rw [List.mem_singleton.1 hy]
  have hl:=(deD_len t i lr n d).1
  have hof:lrOf lr n d=lr∨lrOf lr n d < ((n+(deD t i lr n d).length:Nat):Int):=by
   unfold lrOf
   split
   ·right;omega
   ·exact .inl rfl
  rw [List.length_append]
  rcases Nat.lt_or_ge a (deD t i lr n d).length with h1 | h1
  ·rw [List.getElem?_append_left h1] at h
   rw [hone x (mem_of_get h)]
   exact hof.imp id fun h=>by omega
  ·rw [List.getElem?_append_right h1] at h
   rcases deT_lr_lt h with h2 | h2
   ·rw [h2]
    exact hof.imp id fun h=>by omega
   ·right;omega
def goIn:D:=⟨7,0,0⟩
def goOut:D:=⟨8,0,0⟩
theorem deeds_mid (pr po:List (List D)) (t:List D):deeds (pr++t::po)=deF 0 0 pr++(deT pr.length 0 (-1) (deF 0 0 pr).length t++deF (pr.length+1) ((deF 0 0 pr).length+(deT pr.length 0 (-1) (deF 0 0 pr).length t).length) po):=by
 unfold deeds
 rw [deF_append,deF]
 simp
theorem inside_e (pr po:List (List D)) (t:List D) (hp:prog (pr++t::po)=true) (hq:prog (pr++(goIn::(t++[goOut]))::po)=true):IsE pr.length (deF 0 0 pr).length (deT pr.length 0 (-1) (deF 0 0 pr).length t).length (deeds (pr++t::po)) (deeds (pr++(goIn::(t++[goOut]))::po)):=by
 have hrd:=run_of hp
 have hre:=run_of hq
 have hlo:=lro_deeds (pr++t::po)
 rw [deeds_mid] at hrd hre
 revert hlo
 rw [deeds_mid,deeds_mid]
 intro hlo
 obtain ⟨DA,hDA⟩:∃ DA,deF 0 0 pr=DA:=⟨_,rfl⟩
 have tA:∀ x∈DA,x.t < pr.length:=fun x hx=>by
  rw [← hDA] at hx
  have:=(mem_deF pr 0 0 x hx).2.1;omega
 rw [hDA] at hrd hre hlo ⊢
 obtain ⟨xo,hxo,ho⟩:=deT_snoc pr.length goOut (by decide) t 1 (-1) (DA.length+1)
 have hin:deT pr.length 0 (-1) DA.length (goIn::(t++[goOut]))=⟨pr.length,0,false,goIn,-1⟩::(deT pr.length 1 (-1) (DA.length+1) t++[xo]):=by
  rw [deT,show deD pr.length 0 (-1) DA.length goIn=[⟨pr.length,0,false,goIn,-1⟩] by simp [deD,goIn,lrOf,reads],show lrOf (-1) DA.length goIn=-1 by simp [lrOf,goIn,reads]]
  simp only [List.length_singleton,List.singleton_append]
  rw [ho]
 have hxt:xo.t=pr.length:=(mem_deT pr.length (t++[goOut]) 1 (-1) (DA.length+1) xo (by rw [ho];simp)).2
 rw [hin] at hre ⊢
 have sT:=sh_deT (m:=DA.length) (m':=DA.length+1) pr.length t 0 1 (-1) (-1) 0 (.inl ⟨rfl,rfl⟩)
 simp only [Nat.add_zero] at sT
 have tT:∀ x∈deT pr.length 0 (-1) DA.length t,x.t=pr.length:=fun x hx=>(mem_deT _ _ _ _ _ x hx).2
 obtain ⟨DT,hDT⟩:∃ DT,deT pr.length 0 (-1) DA.length t=DT:=⟨_,rfl⟩
 obtain ⟨ET,hET⟩:∃ ET,deT pr.length 1 (-1) (DA.length+1) t=ET:=⟨_,rfl⟩
 rw [hDT] at hrd hlo sT tT ⊢
 rw [hET] at hre sT ⊢
 have lT:=sT.1
 have eB:deF (pr.length+1) (DA.length+(⟨pr.length,0,false,goIn,-1⟩::(ET++[xo])).length) po=deF (pr.length+1) (DA.length+DT.length+2) po:=by
  congr 1;simp;omega
 rw [eB] at hre ⊢
 have sB:=sh_deF (m:=DA.length+DT.length) (m':=DA.length+DT.length+2) po (pr.length+1) 0
 simp only [Nat.add_zero] at sB
 have tB:∀ x∈deF (pr.length+1) (DA.length+DT.length) po,pr.length < x.t:=fun x hx=>by
  have:=(mem_deF _ _ _ x hx).1;omega
 obtain ⟨DB,hDB⟩:∃ DB,deF (pr.length+1) (DA.length+DT.length) po=DB:=⟨_,rfl⟩
 obtain ⟨EB,hEB⟩:∃ EB,deF (pr.length+1) (DA.length+DT.length+2) po=EB:=⟨_,rfl⟩
 rw [hDB] at hrd hlo sB tB ⊢
 rw [hEB] at hre sB ⊢
 have lB:=sB.1
 have lrA:∀ x∈DA,x.lr < DA.length:=fun x hx=>by
  have:=lro_deeds pr x (by unfold deeds;rw [hDA];exact hx)
  unfold deeds at this;rwa [hDA] at this
 have free:∀ x∈DT,x.d.k≠7∧x.d.k≠8:=by
  rw [run_append] at hrd hre
  cases hA:run false DA with
  | none=>rw [hA] at hrd;cases hrd
  | some j =>
   rw [hA] at hrd hre
   simp only [Option.bind_some] at hrd hre
   have hj:j=false:=by
    cases j
    ·rfl
    ·simp [run,goIn] at hre
   subst hj
   have e:run false (⟨pr.length,0,false,goIn,-1⟩::(ET++[xo])++EB)=run true (ET++([xo]++EB)):=by
    simp [run,goIn]
   rw [e,run_append] at hre
   rw [run_append] at hrd
   cases h1:run false DT with
   | none=>rw [h1] at hrd;cases hrd
   | some i1 =>
    cases h2:run true ET with
    | none=>rw [h2] at hre;cases hre
    | some i2=>exact run_none sT h1 h2
 refine ⟨by simp;omega,by simp,fun a x hx=>?_,fun a x hx ha=>?_,fun a x hx h1 h2=>?_,fun a x hx ha=>?_,?_,?_,hlo⟩
 ·rcases Nat.lt_or_ge a DA.length with h1 | h1
  ·rw [List.getElem?_append_left h1] at hx
   have hc:=inF_c DA.length DT.length a
   have e:inF DA.length DT.length a=a:=by omega
   refine ⟨x,by rw [e,List.getElem?_append_left h1];exact hx,rfl,rfl,rfl,?_⟩
   have:=lrA x (mem_of_get hx)
   rcases Int.lt_or_le x.lr 0 with h0 | h0
   ·rw [up_neg h0]
   ·obtain ⟨j,hj⟩:∃ j:Nat,x.lr=j:=⟨x.lr.toNat,by omega⟩
    have hc2:=inF_c DA.length DT.length j
    rw [hj,up_nat]
    congr 1;omega
  ·rw [List.getElem?_append_right h1] at hx
   rcases Nat.lt_or_ge (a - DA.length) DT.length with h2 | h2
   ·rw [List.getElem?_append_left h2] at hx
    obtain ⟨y,hy,hs⟩:=sT.2 _ x hx
    have hc:=inF_c DA.length DT.length a
    have e:inF DA.length DT.length a=a+1:=by omega
    refine ⟨y,?_,hs.d,hs.t,hs.last,?_⟩
    ·rw [e,List.getElem?_append_right (by omega),show a+1 - DA.length=(a - DA.length)+1 by omega,List.cons_append,List.getElem?_cons_succ,List.append_assoc,List.getElem?_append_left (by omega)]
     exact hy
    ·rcases hs.lr with ⟨e1,e2⟩ | ⟨j,e1,e2⟩
     ·rw [e1,e2,up_neg (by omega)]
     ·have hjl:j < DT.length:=by
       have hh:=deT_lr_lt (t:=pr.length) (l:=t) (i:=0) (lr:=-1) (n:=DA.length) (a:=a - DA.length) (x:=x) (by rw [hDT];exact hx)
       rw [hDT] at hh
       omega
      have hc2:=inF_c DA.length DT.length (DA.length+j)
      rw [e1,e2,up_nat]
      congr 1;omega
   ·rw [List.getElem?_append_right h2] at hx
    obtain ⟨y,hy,hs⟩:=sB.2 _ x hx
    have hc:=inF_c DA.length DT.length a
    have e:inF DA.length DT.length a=a+2:=by omega
    refine ⟨y,?_,hs.d,hs.t,hs.last,?_⟩
    ·rw [e,List.getElem?_append_right (by omega),List.getElem?_append_right (by simp;omega)]
     rw [show a+2 - DA.length - (⟨pr.length,0,false,goIn,-1⟩::(ET++[xo])).length=a - DA.length - DT.length by simp;omega]
     exact hy
    ·rcases hs.lr with ⟨e1,e2⟩ | ⟨j,e1,e2⟩
     ·rw [e1,e2,up_neg (by omega)]
     ·have hc2:=inF_c DA.length DT.length (DA.length+DT.length+j)
      rw [e1,e2,up_nat]
      congr 1;omega
 ·rw [List.getElem?_append_left ha] at hx
  exact tA x (mem_of_get hx)
 ·rw [List.getElem?_append_right h1,List.getElem?_append_left (by omega)] at hx
  exact ⟨tT x (mem_of_get hx),free x (mem_of_get hx)⟩
 ·rw [List.getElem?_append_right (by omega),List.getElem?_append_right (by omega)] at hx
  exact tB x (mem_of_get hx)
 ·exact ⟨⟨pr.length,0,false,goIn,-1⟩,by rw [List.getElem?_append_right (Nat.le_refl _)];simp,rfl,rfl⟩
 ·refine ⟨xo,?_,hxt,by rw [hxo];rfl⟩
  rw [List.getElem?_append_right (by omega),show DA.length+DT.length+1 - DA.length=DT.length+1 by omega,List.cons_append,List.getElem?_cons_succ,List.append_assoc,List.getElem?_append_right (by omega)]
  simp [lT]
section
variable {ll mm : List (List D)} {n A T : Nat}
theorem IsE.link (h:IsE n A T (deeds ll) (deeds mm)) (hp:prog ll=true) {x y:Wy} (R:Rel (deeds ll) (inF A T) id x y) (hx:WO (deeds ll) x.1 x.2) (hy:WO (deeds mm) y.1 y.2) (k:Nat) {a b:Nat} (ha:a < (deeds ll).length) (hb:b < (deeds ll).length):(inF A T a,inF A T b)∈linksOf (netOf (deeds mm) y.1 y.2 k) (deeds mm).length↔(a,b)∈linksOf (netOf (deeds ll) x.1 x.2 k) (deeds ll).length:=by
 have la:=List.getElem?_eq_getElem ha
 have lb:=List.getElem?_eq_getElem hb
 obtain ⟨u,hu,_⟩:=h.at_ _ _ la
 obtain ⟨v,hv,_⟩:=h.at_ _ _ lb
 have:=h.must (deed_u hp) R hx hy k la lb hu hv
 rw [mem_net,mem_net]
 constructor
 ·rintro ⟨u',v',hu',hv',hm⟩
  rw [hu] at hu'
  rw [hv] at hv'
  obtain rfl:=Option.some.inj hu'
  obtain rfl:=Option.some.inj hv'
  exact ⟨_,_,la,lb,this▸hm⟩
 ·rintro ⟨u',v',hu',hv',hm⟩
  rw [la] at hu'
  rw [lb] at hv'
  obtain rfl:=Option.some.inj hu'
  obtain rfl:=Option.some.inj hv'
  exact ⟨u,v,hu,hv,this.symm▸hm⟩
theorem IsE.ends (h:IsE n A T (deeds ll) (deeds mm)) {y:Wy} (hy:WO (deeds mm) y.1 y.2) (k:Nat) {u v:Nat} (hl:(u,v)∈linksOf (netOf (deeds mm) y.1 y.2 k) (deeds mm).length):v≠A∧u≠A+T+1:=by
 obtain ⟨s,t,hs,ht,hm⟩:=mem_net.1 hl
 have hown:(s.uses=false∨t.uses=false)→u < v∧s.t=t.t:=fun hi=>by
  have hno:(read y.1 u v||over y.1 y.2 u v s t)=false:=by
   cases hc:(read y.1 u v||over y.1 y.2 u v s t)
   ·rfl
   ·have:=tell_uses hy hs ht hc
    rcases hi with e | e
    ·rw [e] at this;exact absurd this.2.1 (by simp)
    ·rw [e] at this;exact absurd this.2.2.1 (by simp)
  exact own_iff.1 (idle_own hm hno)
 have hle:=h.le
 constructor
 ·intro e
  subst e
  obtain ⟨z,hz,hzt,hzk⟩:=h.inn
  rw [ht] at hz
  obtain rfl:=Option.some.inj hz
  obtain ⟨h1,h2⟩:=hown (.inr (by show M.uses t.d.k=false;rw [hzk];rfl))
  obtain ⟨u0,h3⟩:=List.getElem?_eq_some_iff.1 hs
  have hc:=inF_c v T u
  have e:inF v T u=u:=by omega
  obtain ⟨w,hw,_,hwt,_⟩:=h.at_ u _ (List.getElem?_eq_getElem (by omega))
  rw [e,hs] at hw
  obtain rfl:=Option.some.inj hw
  have:=h.lo u _ (List.getElem?_eq_getElem (by omega)) h1
  omega
 ·intro e
  subst e
  obtain ⟨z,hz,hzt,hzk⟩:=h.outt
  rw [hs] at hz
  obtain rfl:=Option.some.inj hz
  obtain ⟨h1,h2⟩:=hown (.inl (by show M.uses s.d.k=false;rw [hzk];rfl))
  have hlv:=lt_of_get ht
  have:=h.len
  have hc:=inF_c A T (v - 2)
  have e:inF A T (v - 2)=v:=by omega
  obtain ⟨w,hw,_,hwt,_⟩:=h.at_ (v - 2) _ (List.getElem?_eq_getElem (by omega))
  rw [e,ht] at hw
  obtain rfl:=Option.some.inj hw
  have:=h.hi (v - 2) _ (List.getElem?_eq_getElem (by omega)) (by omega)
  omega
theorem IsE.drop (h:IsE n A T (deeds ll) (deeds mm)) (hp:prog ll=true) {x y:Wy} (R:Rel (deeds ll) (inF A T) id x y) (hx:WO (deeds ll) x.1 x.2) (hy:WO (deeds mm) y.1 y.2) (k u v:Nat) (hl:(u,v)∈linksOf (netOf (deeds mm) y.1 y.2 k) (deeds mm).length):(inB A T u,inB A T v)∈linksOf (netOf (deeds ll) x.1 x.2 k) (deeds ll).length∨(∀ w,(w,u)∉linksOf (netOf (deeds mm) y.1 y.2 k) (deeds mm).length)∨(∀ w,(v,w)∉linksOf (netOf (deeds mm) y.1 y.2 k) (deeds mm).length):=by
 obtain ⟨s,t,hs,ht,hm⟩:=mem_net.1 hl
 have he:=h.ends hy k hl
 rcases h.new (lt_of_get hs) with ⟨_,a,ha,rfl⟩ | e | e
 ·rcases h.new (lt_of_get ht) with ⟨_,b,hb,rfl⟩ | e | e
  ·rw [inB_F,inB_F]
   exact .inl ((h.link hp R hx hy k ha hb).1 hl)
  ·exact absurd e he.1
  ·exact .inr (.inr fun w hw=>(h.ends hy k hw).2 e)
 ·exact .inr (.inl fun w hw=>(h.ends hy k hw).1 e)
 ·exact absurd e he.2
theorem IsE.no_wait (h:IsE n A T (deeds ll) (deeds mm)) (h9:∀ x∈deeds ll,x.d.k≠9):∀ y∈deeds mm,y.d.k≠9:=fun y hy e=>by
 obtain ⟨c,hc,rfl⟩:=List.getElem_of_mem hy
 have hg:=List.getElem?_eq_getElem hc
 rcases h.new hc with ⟨_,a,ha,rfl⟩ | e1 | e1
 ·obtain ⟨w,hw,hd,_⟩:=h.at_ a _ (List.getElem?_eq_getElem ha)
  rw [hg] at hw
  obtain rfl:=Option.some.inj hw
  exact h9 _ (List.getElem_mem ha) (by rw [← hd];exact e)
 ·obtain ⟨z,hz,_,hk⟩:=h.inn
  rw [← e1,hg] at hz
  obtain rfl:=Option.some.inj hz
  omega
 ·obtain ⟨z,hz,_,hk⟩:=h.outt
  rw [← e1,hg] at hz
  obtain rfl:=Option.some.inj hz
  omega
theorem is_all (h:IsE n A T (deeds ll) (deeds mm)) (hp:prog ll=true) (hq:prog mm=true) (h9:∀ x∈deeds ll,x.d.k≠9) (k:Int):orderAll mm k=orderAll ll k:=by
 have c1:=no_choices h9
 have c2:=no_choices (h.no_wait h9)
 refine orderAll_eq fun z=>?_
 rw [mem_orderAll,mem_orderAll]
 constructor
 ·rintro ⟨y,hy,rfl⟩
  obtain ⟨kn,rfl⟩:∃ kn:Nat,k=kn:=⟨k.toNat,by have:=(holds_parts_of hy).1;simp only [Bool.and_eq_true,decide_eq_true_eq] at this;omega⟩
  obtain ⟨hk,he,h0,hs⟩:=holds_iff.1 hy
  have hwo:=(exec_wo.1 he).2
  have E:=h.emb (deed_u hp)
  have R:=E.relDn hwo
  have hx:=E.dn_ok hwo
  rw [c2,sat_none] at hs
  refine ⟨(dnF (deeds ll) (inF A T) y.1,dnO (deeds ll) id (inF A T) y.2),holds_iff.2 ⟨hk,exec_wo.2 ⟨hp,hx⟩,fun hr=>h0 (round_map (f:=inF A T) (fun l hl=>?_) hr),?_⟩,(emb_seen hp hq E (fun a b hab _=>inF_mono hab) R hx hwo).symm⟩
  ·obtain ⟨a,b⟩:=l
   obtain ⟨_,_,ha,hb,_⟩:=mem_net.1 hl
   exact .one ((h.link hp R hx hwo 0 (lt_of_get ha) (lt_of_get hb)).2 hl)
  ·rw [c1,sat_none]
   refine fun hr=>hs (round_map (f:=inF A T) (fun l hl=>?_) hr)
   obtain ⟨a,b⟩:=l
   obtain ⟨_,_,ha,hb,_⟩:=mem_net.1 hl
   exact .one ((h.link hp R hx hwo kn (lt_of_get ha) (lt_of_get hb)).2 hl)
 ·rintro ⟨x,hxh,rfl⟩
  obtain ⟨kn,rfl⟩:∃ kn:Nat,k=kn:=⟨k.toNat,by have:=(holds_parts_of hxh).1;simp only [Bool.and_eq_true,decide_eq_true_eq] at this;omega⟩
  obtain ⟨hk,he,h0,hs⟩:=holds_iff.1 hxh
  have hx:=(exec_wo.1 he).2
  have E:=h.emb (deed_u hp)
  have R:=E.relUp x
  have hy:=E.up_ok (lro_deeds mm) hx
  rw [c1,sat_none] at hs
  refine ⟨(upF (deeds ll) (deeds mm) (inF A T) x.1,upO id (inF A T) x.2),holds_iff.2 ⟨hk,exec_wo.2 ⟨hq,hy⟩,fun hr=>h0 (round_drop (h:=inB A T) (h.drop hp R hx hy 0) hr),?_⟩,emb_seen hp hq E (fun a b hab _=>inF_mono hab) R hx hy⟩
  rw [c2,sat_none]
  exact fun hr=>hs (round_drop (h:=inB A T) (h.drop hp R hx hy kn) hr)
theorem all_inside {pr po:List (List D)} {t:List D} (hp:prog (pr++t::po)=true) (hq:prog (pr++(goIn::(t++[goOut]))::po)=true) (h9:∀ l∈pr++t::po,∀ d∈l,d.k≠9) (k:Int):orderAll (pr++(goIn::(t++[goOut]))::po) k=orderAll (pr++t::po) k:=is_all (inside_e pr po t hp hq) hp hq (fun x hx=>by
 obtain ⟨l,hl,hd⟩:=mem_deeds hx
 exact h9 l hl _ hd) k
end
end M
end Go.Proofs.YtjjkicffhpcngaaGreat
