/- What an order allows of small programs: a thread more that does nothing, one place alone, one thread alone, one step of each. Plainly. No condition but what is said. -/
import Derived.Below
import Derived.BigQuiet
import Derived.Deep.AppendLies
import Derived.Deep.MidRow
import Derived.Deep.Quiet
import Derived.Deep.QuietTactic
import Derived.Deep.RegionHeld3
import Derived.Deep.RegionLaw
import Derived.Deep.RegionWith
import Derived.Deep.Slices
import Derived.Deep.WholeRow
import Derived.Handy
import Derived.Laws.AppendOwn
import Derived.Laws.AppendOwnNone
import Derived.Laws.EntriesVeiled
import Derived.Laws.IdiomCopy
import Derived.Laws.OwnMore
import Derived.LoopIn
import Derived.LoopN
import Derived.LoopNIn
import Derived.OwnWalkIn
import Derived.RangeFuncBound
import Derived.RangeFuncLeaves
import Derived.RangeFuncNested
import Derived.Shelf.Abstract
import Derived.Shelf.SlSortCmp.NoneTotal
import Derived.Sort.Grow
import Derived.TacticsInMore
import Derived.WalkKit
import Derived.WalkLawsBesides
import Derived.WalkSpells
import Derived.Deep.OwnRows
import Derived.Test.YtihfibjckkmmbaaGreatRows
import Derived.Test.YtihfibjckkmmbaaGreatQhaw
import Derived.Test.YtihfibjckkmmbaaGreatQhax
import Derived.Test.YtihfibjckkmmbaaGreatQhbg
namespace Go.Proofs.YtihfibjckkmmbaaGreat
namespace M
theorem holds_iff {ll:List (List D)} {l:List Int} {rows:List (List Int)} {k:Nat}:orderHolds ll l rows k=true↔(1≤k∧k≤3)∧execOk ll l rows=true∧¬ Round (linksOf (netOf (deeds ll) l rows 0) (deeds ll).length)∧Sat (linksOf (netOf (deeds ll) l rows k) (deeds ll).length) (choices (deeds ll)):=by
 unfold orderHolds
 simp only [Bool.and_eq_true,decide_eq_true_eq,Int.toNat_natCast]
 constructor
 ·rintro ⟨hk,he,h0,hw⟩
  rw [waits_ok _ _ _ fun c hc=>(choices_ok (run_of (exec_prog he)) c hc).1] at hw
  exact ⟨by omega,he,(kahn_ok _ _).1 h0,hw⟩
 ·rintro ⟨hk,he,h0,hw⟩
  rw [waits_ok _ _ _ fun c hc=>(choices_ok (run_of (exec_prog he)) c hc).1]
  exact ⟨by omega,he,(kahn_ok _ _).2 h0,hw⟩
theorem exec_wo {ll:List (List D)} {l:List Int} {rows:List (List Int)}:execOk ll l rows=true↔prog ll=true∧WO (deeds ll) l rows:=by
 rw [execOk,Bool.and_eq_true,wo_iff]
theorem mem_net {ll:List (List D)} {l:List Int} {rows:List (List Int)} {k:Nat} {a b:Nat}:(a,b)∈linksOf (netOf (deeds ll) l rows k) (deeds ll).length↔∃ x y,(deeds ll)[a]?=some x∧(deeds ll)[b]?=some y∧must (deeds ll) l rows k a b x y=true:=by
 rw [mem_links]
 constructor
 ·rintro ⟨ha,hb,h⟩
  rw [netOf,mustAt,List.getElem?_eq_getElem ha,List.getElem?_eq_getElem hb] at h
  exact ⟨_,_,List.getElem?_eq_getElem ha,List.getElem?_eq_getElem hb,h⟩
 ·rintro ⟨x,y,hx,hy,h⟩
  refine ⟨lt_of_get hx,lt_of_get hy,?_⟩
  rw [netOf,mustAt,hx,hy]
  exact h
theorem sat_iff {L:List Lk}:∀ {cs:List Ch},Sat L cs↔∃ S:List Lk,(∀ c∈cs,c.1∈S∨c.2∈S)∧¬ Round (S++L):=by
 intro cs
 constructor
 ·rintro ⟨ls,hp,h⟩
  refine ⟨ls,?_,h⟩
  clear h
  induction hp with
  | nil=>intro c hc;cases hc
  | cons hl _ ih =>
   intro c hc
   rcases List.mem_cons.1 hc with rfl | hc
   ·exact hl.imp (fun e=>by rw [← e];exact List.mem_cons_self ..) (fun e=>by rw [← e];exact List.mem_cons_self ..)
   ·exact (ih c hc).imp (List.mem_cons_of_mem _) (List.mem_cons_of_mem _)
 ·rintro ⟨S,hS,h⟩
  have:∃ ls,Picks cs ls∧∀ l∈ls,l∈S:=by
   clear h
   induction cs with
   | nil=>exact ⟨[],.nil,fun l hl=>by cases hl⟩
   | cons c cs ih =>
    obtain ⟨ls,h1,h2⟩:=ih fun c hc=>hS c (List.mem_cons_of_mem _ hc)
    rcases hS c (List.mem_cons_self ..) with h3 | h3
    ·exact ⟨c.1::ls,.cons (.inl rfl) h1,fun l hl=>by
      rcases List.mem_cons.1 hl with rfl | hl
      ·exact h3
      ·exact h2 l hl⟩
    ·exact ⟨c.2::ls,.cons (.inr rfl) h1,fun l hl=>by
      rcases List.mem_cons.1 hl with rfl | hl
      ·exact h3
      ·exact h2 l hl⟩
  obtain ⟨ls,h1,h2⟩:=this
  exact ⟨ls,h1,fun hr=>h (hr.sub fun l hl=>.one (by
   rcases List.mem_append.1 hl with hl | hl
   ·exact List.mem_append.2 (.inl (h2 l hl))
   ·exact List.mem_append.2 (.inr hl)))⟩
theorem leads_map {L L':List Lk} {f:Nat→Nat} (h:∀ l∈L,Leads L' (f l.1) (f l.2)) {a b:Nat} (hl:Leads L a b):Leads L' (f a) (f b):=by
 induction hl with
 | one h1=>exact h _ h1
 | more _ h2 ih=>exact ih.trans (h _ h2)
theorem round_map {L L':List Lk} {f:Nat→Nat} (h:∀ l∈L,Leads L' (f l.1) (f l.2)) (hr:Round L):Round L':=by
 obtain ⟨a,ha⟩:=hr
 exact ⟨f a,leads_map h ha⟩
theorem sat_map {L L':List Lk} {f:Nat→Nat} {cs cs':List Ch} (h:∀ l∈L,Leads L' (f l.1) (f l.2)) (hc:∀ c∈cs,((f c.1.1,f c.1.2),(f c.2.1,f c.2.2))∈cs') (hs:Sat L' cs'):Sat L cs:=by
 obtain ⟨S',h1,h2⟩:=sat_iff.1 hs
 refine sat_iff.2 ⟨(cs.flatMap fun c=>[c.1,c.2]).filter fun l=>decide ((f l.1,f l.2)∈S'),fun c hcc=>?_,fun hr=>h2 (round_map (f:=f) (fun l hl=>?_) hr)⟩
 ·rcases h1 _ (hc c hcc) with h3 | h3
  ·left
   exact List.mem_filter.2 ⟨List.mem_flatMap.2 ⟨c,hcc,by simp⟩,by simpa using h3⟩
  ·right
   exact List.mem_filter.2 ⟨List.mem_flatMap.2 ⟨c,hcc,by simp⟩,by simpa using h3⟩
 ·rcases List.mem_append.1 hl with hl | hl
  ·have:=(List.mem_filter.1 hl).2
   exact .one (List.mem_append.2 (.inl (by simpa using this)))
  ·exact (h l hl).sub fun x hx=>List.mem_append.2 (.inr hx)
theorem deF_append:∀ (ll mm:List (List D)) (t n:Nat),deF t n (ll++mm)=deF t n ll++deF (t+ll.length) (n+(deF t n ll).length) mm
 | [],mm,t,n=>by simp [deF]
 | l::ll,mm,t,n=>by
  simp only [List.cons_append,deF,deF_append ll mm,List.append_assoc,List.length_append,List.length_cons]
  rw [show t+1+ll.length=t+(ll.length+1) by omega,show n+(deT t 0 (-1) n l).length+(deF (t+1) (n+(deT t 0 (-1) n l).length) ll).length=n+((deT t 0 (-1) n l).length+(deF (t+1) (n+(deT t 0 (-1) n l).length) ll).length) by omega]
theorem mem_deT (t:Nat):∀ (l:List D) (i:Nat) (lr:Int) (n:Nat) (x:De),x∈deT t i lr n l→x.d∈l∧x.t=t
 | [],_,_,_,x,h=>by simp [deT] at h
 | d::l,i,lr,n,x,h=>by
  rw [deT] at h
  rcases List.mem_append.1 h with h | h
  ·have h1:=deD_k t i lr n d x h
   refine ⟨by rw [h1];exact List.mem_cons_self ..,?_⟩
   unfold deD at h
   split at h
   ·rcases List.mem_cons.1 h with rfl | h
    ·rfl
    ·rw [List.mem_singleton.1 h]
   ·rw [List.mem_singleton.1 h]
  ·obtain ⟨h1,h2⟩:=mem_deT t l _ _ _ x h
   exact ⟨List.mem_cons_of_mem _ h1,h2⟩
theorem mem_deF:∀ (ll:List (List D)) (t n:Nat) (x:De),x∈deF t n ll→t≤x.t∧x.t < t+ll.length∧∃ l,ll[x.t - t]?=some l∧x.d∈l
 | [],_,_,x,h=>by simp [deF] at h
 | l::ll,t,n,x,h=>by
  rw [deF] at h
  rcases List.mem_append.1 h with h | h
  ·obtain ⟨h1,h2⟩:=mem_deT t l _ _ _ x h
   exact ⟨by omega,by simp;omega,l,by rw [h2];simp,h1⟩
  ·obtain ⟨h1,h2,l',h3,h4⟩:=mem_deF ll _ _ x h
   exact ⟨by omega,by simp;omega,l',by rw [show x.t - t=(x.t - (t+1))+1 by omega];simpa using h3,h4⟩
theorem mem_deeds {ll:List (List D)} {x:De} (h:x∈deeds ll):∃ l∈ll,x.d∈l:=by
 obtain ⟨_,_,l,h3,h4⟩:=mem_deF ll 0 0 x h
 exact ⟨l,mem_of_get h3,h4⟩
theorem own_iff {a b:Nat} {x y:De}:own a b x y=true↔a < b∧x.t=y.t:=by simp [own]
end M
end Go.Proofs.YtihfibjckkmmbaaGreat
