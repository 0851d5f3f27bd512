/- Rings and holding, plainly. No condition. -/
import Derived.Deep.OwnRows
import Derived.Test.YtdningnhbplfiaaGreatRows
import Derived.Test.YtdningnhbplfiaaGreatQnbl
import Derived.Test.YtdningnhbplfiaaGreatQnbn
import Derived.Test.YtdningnhbplfiaaGreatQnbp
namespace Go.Proofs.YtdningnhbplfiaaGreat
section
namespace M
theorem deD_kR (t i:Nat) (lr:Int) (n:Nat) (d:D):∀ x∈deD t i lr n d,x.d=d:=by
 intro x hx
 unfold deD at hx
 split at hx
 ·rcases List.mem_cons.1 hx with rfl | hx
  ·rfl
  ·rw [List.mem_singleton.1 hx]
 ·rw [List.mem_singleton.1 hx]
theorem mem_deTR (t:Nat):∀ (l:List D) (i:Nat) (lr:Int) (n:Nat) (x:De),x∈deT t i lr n l→x.d∈l∧x.t=t
 | [],_,_,_,x,h=>by simp [deT] at h
 | d::l,i,lr,n,x,h=>by
  rw [deT] at h
  rcases List.mem_append.1 h with h | h
  ·have h1:=deD_kR t i lr n d x h
   refine ⟨by rw [h1];exact List.mem_cons_self ..,?_⟩
   unfold deD at h
   split at h
   ·rcases List.mem_cons.1 h with rfl | h
    ·rfl
    ·rw [List.mem_singleton.1 h]
   ·rw [List.mem_singleton.1 h]
  ·obtain ⟨h1,h2⟩:=mem_deTR t l _ _ _ x h
   exact ⟨List.mem_cons_of_mem _ h1,h2⟩
theorem mem_deFR:∀ (ll:List (List D)) (t n:Nat) (x:De),x∈deF t n ll→t≤x.t∧x.t < t+ll.length∧∃ l,ll[x.t - t]?=some l∧x.d∈l
 | [],_,_,x,h=>by simp [deF] at h
 | l::ll,t,n,x,h=>by
  rw [deF] at h
  rcases List.mem_append.1 h with h | h
  ·obtain ⟨h1,h2⟩:=mem_deTR t l _ _ _ x h
   exact ⟨by omega,by simp;omega,l,by rw [h2];simp,h1⟩
  ·obtain ⟨h1,h2,l',h3,h4⟩:=mem_deFR ll _ _ x h
   exact ⟨by omega,by simp;omega,l',by rw [show x.t - t=(x.t - (t+1))+1 by omega];simpa using h3,h4⟩
theorem mem_deedsR {ll:List (List D)} {x:De} (h:x∈deeds ll):∃ l∈ll,x.d∈l:=by
 obtain ⟨_,_,l,h3,h4⟩:=mem_deFR ll 0 0 x h
 exact ⟨l,List.mem_of_getElem? h3,h4⟩
theorem must_self {ll:List (List D)} {l:List Int} {rows:List (List Int)} (h:execOk ll l rows=true) (k a:Nat):mustAt (deeds ll) l rows k a a=false:=by
 by_cases ha:a < (deeds ll).length
 ·rw [must_told h k ha ha]
  have h1:own a a (deeds ll)[a] (deeds ll)[a]=false:=by simp [own]
  have h2:sRead l a a (deeds ll)[a] (deeds ll)[a]=false:=by
   unfold sRead
   cases hw:writes (deeds ll)[a].d.k
   ·rfl
   ·rw [wr_rd hw];rfl
  have h3:sOver l rows a a (deeds ll)[a] (deeds ll)[a]=false:=by simp [sOver]
  unfold stays told
  split<;>simp [late,h1,h2,h3]
 ·unfold mustAt
  rw [List.getElem?_eq_none (by omega)]
theorem ring_two {ll:List (List D)} {l:List Int} {rows:List (List Int)} {k:Int} {r:List Nat} (h:orderRing ll l rows k=some r) :
  2≤r.length∧r.length≤28∧∀ (i:Nat) (hi:i < r.length),orderHas ll l rows k (r[i]:Int) ((r[(i+1) % r.length]'(Nat.mod_lt _ (by omega)):Nat):Int)=true:=by
 unfold orderRing at h
 split at h
 ·rename_i hc
  have hc':=hc
  simp only [Bool.and_eq_true] at hc'
  obtain ⟨hk,hok⟩:=hc'
  have hR:=ringS_ring h
  have hd:=deeds28 (wok_of hok).prog
  have hl:=hR.len
  have hn:=hR.next
  refine ⟨?_,by omega,fun i hi=>?_⟩
  ·rcases Nat.lt_or_ge r.length 2 with h1 | h1
   ·have h0:=hn 0 (by omega)
    have e:r.length=1:=by omega
    have hz:(0+1) % r.length=0:=by rw [e]
    have e2:r[(0+1) % r.length]'(Nat.mod_lt _ (by omega))=r[0]'(by omega):=by simp only [hz]
    rw [e2] at h0
    exact absurd h0 (by show ¬ mustAt _ _ _ _ _ _=true;rw [must_self hok];simp)
   ·exact h1
  ·have hA:=hn i hi
   have q1:=hR.lt _ (List.getElem_mem hi)
   have q2:=hR.lt _ (List.getElem_mem (Nat.mod_lt (i+1) (show 0 < r.length by omega)))
   unfold orderHas inR
   rw [hk.1,hk.2,hok]
   simp only [Bool.true_and,Int.toNat_natCast]
   rw [decide_eq_true (by omega),decide_eq_true (by omega),decide_eq_true (by omega),decide_eq_true (by omega)]
   exact hA
 ·cases h
theorem no_round {ll:List (List D)} {l:List Int} {rows:List (List Int)} {k:Int} (h:orderHolds ll l rows k=true):(orderRing ll l rows k).isSome=false:=by
 unfold orderHolds at h
 simp only [Bool.and_eq_true] at h
 obtain ⟨hk,hok,h0,hw⟩:=h
 have hp:=(wok_of hok).prog
 have hi:=fun c hc=>(choices_ok (run_of hp) c hc).1
 have hR:=sat_round ((waits_ok _ _ _ hi).1 hw)
 unfold orderRing
 rw [hok,decide_eq_true (by simpa using hk.1),decide_eq_true (by simpa using hk.2)]
 rw [Bool.and_self,Bool.and_self,if_pos rfl]
 rw [Bool.eq_false_iff]
 intro hs
 exact hR ((ring_iff _ _).1 hs)
theorem no_ring {ll:List (List D)} {l:List Int} {rows:List (List Int)} {k:Int} (h:execOk ll l rows=false∨k < 1∨3 < k):(orderRing ll l rows k).isSome=false∧orderHolds ll l rows k=false:=by
 unfold orderRing orderHolds
 rcases h with h | h | h
 ·rw [h];simp
 ·rw [decide_eq_false (show ¬ 1≤k by omega)];simp
 ·rw [decide_eq_false (show ¬ k≤3 by omega)];simp
theorem strict_ring {ll:List (List D)} {l:List Int} {rows:List (List Int)} (hok:execOk ll l rows=true) (hw:anyK (fun d=>d.k==9) ll=false):orderHolds ll l rows 1=!(orderRing ll l rows 1).isSome:=by
 have hch:choices (deeds ll)=[]:=by
  unfold choices
  have:(List.range (deeds ll).length).filter (waitsAt (deeds ll))=[]:=by
   rw [List.filter_eq_nil_iff]
   intro r hr
   rw [List.mem_range] at hr
   unfold waitsAt
   rw [List.getElem?_eq_getElem hr]
   obtain ⟨t,ht,hd⟩:=mem_deedsR (List.getElem_mem hr)
   have:=anyK_no hw t ht _ hd
   show ¬ ((deeds ll)[r].d.k==9&&!(deeds ll)[r].last)=true
   rw [this];simp
  rw [this];rfl
 have hsub:holdsA (netOf (deeds ll) l rows 1) (deeds ll).length=true→holdsA (netOf (deeds ll) l rows 0) (deeds ll).length=true:=by
  unfold holdsA
  rw [kahn_ok,kahn_ok]
  intro h hr
  refine h (hr.sub fun x hx=>.one ?_)
  obtain ⟨a,b⟩:=x
  obtain ⟨ha,hb,hA⟩:=mem_links.1 hx
  refine mem_links.2 ⟨ha,hb,?_⟩
  unfold netOf at hA ⊢
  rw [must_told hok _ ha hb,Bool.or_eq_true] at hA ⊢
  exact hA.imp (fun h=>by simp only [stays,Bool.and_eq_true] at h ⊢;exact h.1) (fun h=>h)
 unfold orderHolds orderRing
 rw [hok,hch]
 simp only [waitsA,Bool.true_and,Bool.and_true,show (decide ((1:Int)≤1)&&decide ((1:Int)≤3))=true from rfl,if_true]
 show (holdsA (netOf (deeds ll) l rows 0) (deeds ll).length&&holdsA (netOf (deeds ll) l rows 1) (deeds ll).length)=!(ringS (netOf (deeds ll) l rows 1) (deeds ll).length).isSome
 have hr:=ring_iff (netOf (deeds ll) l rows 1) (deeds ll).length
 have hk:=kahn_ok (netOf (deeds ll) l rows 1) (deeds ll).length
 cases hs:(ringS (netOf (deeds ll) l rows 1) (deeds ll).length).isSome
 ·have h1:holdsA (netOf (deeds ll) l rows 1) (deeds ll).length=true:=by
   unfold holdsA
   rw [hk]
   intro h
   have:=hr.2 h
   rw [hs] at this;cases this
  rw [h1,hsub h1];rfl
 ·have h1:holdsA (netOf (deeds ll) l rows 1) (deeds ll).length=false:=by
   rw [Bool.eq_false_iff]
   unfold holdsA
   rw [Ne,hk]
   exact fun h=>h (hr.1 hs)
  rw [h1,Bool.and_false];rfl
end M
end
end Go.Proofs.YtdningnhbplfiaaGreat
