/- The events of a program laid elsewhere, thread by thread: the ways that hold are carried over both ways. Plainly. No condition but what is said. A reader goes out in the thread in which it goes in; who waits ends in the thread in which it begins. Plainly. No condition but what is said. Two threads that stand beside each other change their places: the events. Plainly. No condition but what is said. -/
import Derived.Deep.OwnRows
import Derived.Test.YtmhpgdliaclokaaGreatRows
import Derived.Test.YtmhpgdliaclokaaGreatQtbk
namespace Go.Proofs.YtmhpgdliaclokaaGreat
section
namespace M
structure ThE (ds es:List De) (f h:Nat→Nat):Prop where
 len:es.length=ds.length
 hf:∀ a,a < ds.length→f a < es.length∧h (f a)=a
 fh:∀ c,c < es.length→h c < ds.length∧f (h c)=c
 at_:∀ (a:Nat) (x:De),ds[a]?=some x→∃ y,es[f a]?=some y∧y.d=x.d∧y.last=x.last∧y.lr=up f x.lr
 th:∀ (a b:Nat) (x y x' y':De),ds[a]?=some x→ds[b]?=some y→es[f a]?=some x'→es[f b]?=some y'→(x'.t=y'.t↔x.t=y.t)
 ord:∀ (a b:Nat) (x y:De),ds[a]?=some x→ds[b]?=some y→x.t=y.t→(f a < f b↔a < b)
 btw:∀ (a b q:Nat) (x y:De),ds[a]?=some x→ds[b]?=some y→x.t=y.t→a≤q→q≤b→f q=f a+(q - a)
 ot:∀ (r:Nat) (x y:De),ds[r]?=some x→x.d.k=7→ds[outOf ds r]?=some y→y.t=x.t
 wt:∀ (w:Nat) (x:De),ds[w]?=some x→x.d.k=9→x.last=false→∃ y,ds[w+1]?=some y∧y.t=x.t
 lro:∀ x∈ds,x.lr < ds.length
section
variable {ds es : List De} {f h : Nat → Nat}
theorem ThE.emb (E:ThE ds es f h) (hpr:∀ x∈ds,x.uses=true→0≤x.d.p∧x.d.p < 3):Emb ds es f id id:=by
 refine ⟨fun a x hx=>?_,fun a b ha hb e=>?_,fun c y hy _=>⟨h c,E.fh c (lt_of_get hy)⟩,hpr,fun p h0 h3=>⟨h0,h3⟩,fun p q _ _ _ _ e=>e,rfl,E.lro⟩
 ·obtain ⟨y,h1,h2,_,h4⟩:=E.at_ a x hx
  refine ⟨y,h1,?_,by rw [h2],by rw [h2],fun _=>by rw [h2];rfl,by rw [h2];rfl,fun _=>h4⟩
  show M.reads _=M.reads _
  rw [h2]
 ·have h1:=(E.hf a ha).2
  rw [e,(E.hf b hb).2] at h1
  exact h1.symm
theorem ThE.get (E:ThE ds es f h) {a:Nat} (ha:a < ds.length):∃ h2:f a < es.length,es[f a].d=ds[a].d:=by
 obtain ⟨y,hy,hd,_⟩:=E.at_ a _ (List.getElem?_eq_getElem ha)
 obtain ⟨h2,rfl⟩:=List.getElem?_eq_some_iff.1 hy
 exact ⟨h2,hd⟩
theorem ThE.must (E:ThE ds es f h) (hpr:∀ x∈ds,x.uses=true→0≤x.d.p∧x.d.p < 3) {x y:Wy} (R:Rel ds f id x y) (hx:WO ds x.1 x.2) (hy:WO es y.1 y.2) (k:Nat) {a b:Nat} {u v u' v':De} (ha:ds[a]?=some u) (hb:ds[b]?=some v) (ha':es[f a]?=some u') (hb':es[f b]?=some v'):M.must es y.1 y.2 k (f a) (f b) u' v'=M.must ds x.1 x.2 k a b u v:=by
 have la:=lt_of_get ha
 have lb:=lt_of_get hb
 have M0:=E.emb hpr
 obtain ⟨z,h2,d1,_,r1⟩:=E.at_ a u ha
 rw [ha'] at h2
 obtain rfl:=Option.some.inj h2
 obtain ⟨z,h2,d2,_,r2⟩:=E.at_ b v hb
 rw [hb'] at h2
 obtain rfl:=Option.some.inj h2
 have hth:=E.th a b u v u' v' ha hb ha' hb'
 have hr:=M0.read R hx hy la lb
 have ho:=M0.over R hx ha hb ha' hb'
 have hown:own (f a) (f b) u' v'=own a b u v:=by
  rw [Bool.eq_iff_iff,own_iff,own_iff]
  constructor
  ·rintro ⟨h1,h2⟩
   have ht:=hth.1 h2
   exact ⟨(E.ord a b u v ha hb ht).1 h1,ht⟩
  ·rintro ⟨h1,h2⟩
   exact ⟨(E.ord a b u v ha hb h2).2 h1,hth.2 h2⟩
 have hone:onePl u' v'=onePl u v:=by
  unfold onePl
  rw [show u'.uses=u.uses from congrArg (fun d:D=>M.uses d.k) d1,show v'.uses=v.uses from congrArg (fun d:D=>M.uses d.k) d2,d1,d2]
 have htwo:two u' v'=two u v:=by
  unfold two
  congr 1
  rw [Bool.eq_iff_iff,beq_iff_eq,beq_iff_eq]
  exact hth
 have hcp:copyOf (f a) v'=copyOf a v:=by
  unfold copyOf
  rw [d2,r2]
  congr 1
  rw [Bool.eq_iff_iff,beq_iff_eq,beq_iff_eq]
  have hl:=E.lro v (mem_of_get hb)
  constructor
  ·intro e
   rw [← up_nat] at e
   exact M0.up_inj hl (by omega) e
  ·intro e;rw [e,up_nat]
 have hl:loose es (f a) (f b) u' v'=loose ds a b u v:=by
  unfold loose
  rw [hown]
  cases hw:own a b u v
  ·rfl
  ·obtain ⟨hab,ht⟩:=own_iff.1 hw
   have la':=lt_of_get ha'
   have lb':=lt_of_get hb'
   have hfb:=E.btw a b b u v ha hb ht (by omega) (Nat.le_refl _)
   have core:∀ (κ:Int) (p q:Nat),a≤p→q≤b→p≤q→((∀ n (hn:n < ds.length),p≤n→n≤q→ds[n].d.k≠κ)↔(∀ n (hn:n < es.length),f a+(p - a)≤n→n≤f a+(q - a)→es[n].d.k≠κ)):=by
    intro κ p q hap hqb hpq
    have ep:=E.btw a b p u v ha hb ht hap (by omega)
    constructor
    ·intro hk n hn h1 h2
     have e:=E.btw a b (a+(n - f a)) u v ha hb ht (by omega) (by omega)
     obtain ⟨h3,h4⟩:=E.get (a:=a+(n - f a)) (by omega)
     have:=hk (a+(n - f a)) (by omega) (by omega) (by omega)
     rw [← h4] at this
     have e':f (a+(n - f a))=n:=by omega
     simpa only [e'] using this
    ·intro hk n hn h1 h2
     have e:=E.btw a b n u v ha hb ht (by omega) (by omega)
     obtain ⟨h3,h4⟩:=E.get hn
     rw [← h4]
     exact hk _ h3 (by omega) (by omega)
   have hin:goesIn es (f a) (f b) u'=goesIn ds a b u:=by
    unfold goesIn
    rw [d1]
    congr 1
    rw [decide_eq_decide,le_outOf (by omega) (by omega),le_outOf (by omega) (by omega)]
    have key:=core 8 a (b - 1) (Nat.le_refl _) (by omega) (by omega)
    constructor
    ·intro hk q hq h1 h2;exact key.2 (fun n hn h3 h4=>hk n hn (by omega) (by omega)) q hq h1 (by omega)
    ·intro hk q hq h1 h2;exact key.1 (fun n hn h3 h4=>hk n hn h3 (by omega)) q hq (by omega) (by omega)
   have hgo:goesOut es (f a) (f b) v'=goesOut ds a b v:=by
    unfold goesOut
    rw [d2]
    congr 1
    rw [decide_eq_decide,inOf_le lb,inOf_le lb']
    have key:=core 7 (a+1) b (by omega) (Nat.le_refl _) (by omega)
    constructor
    ·intro hk q hq h1 h2;exact key.2 (fun n hn h3 h4=>hk n hn (by omega) (by omega)) q hq (by omega) h2
    ·intro hk q hq h1 h2;exact key.1 (fun n hn h3 h4=>hk n hn (by omega) h4) q hq (by omega) (by omega)
   unfold keeps
   rw [hin,hgo,hcp,d1,d2]
 have hla:late (f a) (f b) u' v'=late a b u v:=by unfold late;rw [hown,d1,d2]
 unfold M.must
 rw [hr,ho,hown,hone,htwo,hl,hla]
theorem ThE.out_at (E:ThE ds es f h) (hr:run false ds=some false) {r:Nat} (hk:r < ds.length) (h7:ds[r].d.k=7):outOf es (f r)=f (outOf ds r):=by
 obtain ⟨ho,h8⟩:=M.out_at hr hk h7
 have hx:=List.getElem?_eq_getElem hk
 have hy:=List.getElem?_eq_getElem ho
 have ht:=E.ot r _ _ hx h7 hy
 have hle:r≤outOf ds r:=(le_outOf (by omega) (by omega)).2 fun q _ a b=>by omega
 have hfo:=E.btw r _ _ _ _ hx hy ht.symm hle (Nat.le_refl _)
 have l1:=(E.hf r hk).1
 obtain ⟨l2,d2⟩:=E.get ho
 have hno:=(le_outOf (ds:=ds) (a:=r) (b:=outOf ds r) (by omega) (by omega)).1 (Nat.le_refl _)
 have h1:f (outOf ds r)≤outOf es (f r):=(le_outOf (by omega) (by omega)).2 fun q hq h3 h4=>by
  have e:=E.btw r _ (r+(q - f r)) _ _ hx hy ht.symm (by omega) (by omega)
  obtain ⟨h5,h6⟩:=E.get (a:=r+(q - f r)) (by omega)
  have:=hno (r+(q - f r)) (by omega) (by omega) (by omega)
  rw [← h6] at this
  have e':f (r+(q - f r))=q:=by omega
  simpa only [e'] using this
 apply Nat.le_antisymm _ h1
 apply Classical.byContradiction
 intro hn
 have:=(le_outOf (ds:=es) (a:=f r) (b:=f (outOf ds r)+1) (by omega) (by omega)).1 (by omega) (f (outOf ds r)) l2 (by omega) (by omega)
 exact this (by rw [d2];exact h8)
theorem ThE.choices_dn (E:ThE ds es f h) (hr:run false ds=some false) {c:Ch} (hc:c∈choices es):∃ c0∈choices ds,c=img f c0:=by
 obtain ⟨w,r,x,y,hx,h9,hfl,hy,h7,rfl⟩:=mem_choices.1 hc
 obtain ⟨hw0,ew⟩:=E.fh w (lt_of_get hx)
 obtain ⟨hr0,er⟩:=E.fh r (lt_of_get hy)
 obtain ⟨x',hx',hd,hl,_⟩:=E.at_ (h w) _ (List.getElem?_eq_getElem hw0)
 rw [ew,hx] at hx'
 obtain rfl:=Option.some.inj hx'
 obtain ⟨y',hy',hd2,_⟩:=E.at_ (h r) _ (List.getElem?_eq_getElem hr0)
 rw [er,hy] at hy'
 obtain rfl:=Option.some.inj hy'
 have h9':ds[h w].d.k=9:=by rw [← hd];exact h9
 have hf':ds[h w].last=false:=by rw [← hl];exact hfl
 have h7':ds[h r].d.k=7:=by rw [← hd2];exact h7
 obtain ⟨z,hz,ht⟩:=E.wt (h w) _ (List.getElem?_eq_getElem hw0) h9' hf'
 have e1:=E.btw (h w) (h w+1) (h w+1) _ z (List.getElem?_eq_getElem hw0) hz ht.symm (by omega) (Nat.le_refl _)
 refine ⟨_,mem_choices.2 ⟨h w,h r,_,_,List.getElem?_eq_getElem hw0,h9',hf',List.getElem?_eq_getElem hr0,h7',rfl⟩,?_⟩
 have e2:=E.out_at hr hr0 h7'
 rw [er] at e2
 simp only [img]
 rw [e2,e1,ew,er,show h w+1 - h w=1 by omega]
end
section
variable {ll mm : List (List D)} {f h : Nat → Nat}
theorem ThE.link (E:ThE (deeds ll) (deeds mm) f h) (hp:prog ll=true) {x y:Wy} (R:Rel (deeds ll) f id x y) (hx:WO (deeds ll) x.1 x.2) (hy:WO (deeds mm) y.1 y.2) (k:Nat) {a b:Nat} (ha:a < (deeds ll).length) (hb:b < (deeds ll).length):(f a,f b)∈linksOf (netOf (deeds mm) y.1 y.2 k) (deeds mm).length↔(a,b)∈linksOf (netOf (deeds ll) x.1 x.2 k) (deeds ll).length:=by
 have la:=List.getElem?_eq_getElem ha
 have lb:=List.getElem?_eq_getElem hb
 obtain ⟨u,hu,_⟩:=E.at_ _ _ la
 obtain ⟨v,hv,_⟩:=E.at_ _ _ lb
 have:=E.must (deed_u hp) R hx hy k la lb hu hv
 rw [mem_net,mem_net]
 constructor
 ·rintro ⟨u',v',hu',hv',hm⟩
  rw [hu] at hu'
  rw [hv] at hv'
  obtain rfl:=Option.some.inj hu'
  obtain rfl:=Option.some.inj hv'
  exact ⟨_,_,la,lb,this▸hm⟩
 ·rintro ⟨u',v',hu',hv',hm⟩
  rw [la] at hu'
  rw [lb] at hv'
  obtain rfl:=Option.some.inj hu'
  obtain rfl:=Option.some.inj hv'
  exact ⟨u,v,hu,hv,this.symm▸hm⟩
theorem ThE.up (E:ThE (deeds ll) (deeds mm) f h) (hp:prog ll=true) (hq:prog mm=true) {k:Nat} {x:Wy} (hxh:orderHolds ll x.1 x.2 k=true):∃ y:Wy,orderHolds mm y.1 y.2 k=true∧Rel (deeds ll) f id x y∧WO (deeds ll) x.1 x.2∧WO (deeds mm) y.1 y.2:=by
 obtain ⟨hk,he,h0,hs⟩:=holds_iff.1 hxh
 have hx:=(exec_wo.1 he).2
 have M0:=E.emb (deed_u hp)
 obtain ⟨y,R,hy⟩:∃ y:Wy,Rel (deeds ll) f id x y∧WO (deeds mm) y.1 y.2:=⟨(_,_),M0.relUp x,M0.up_ok (lro_deeds _) hx⟩
 have L:∀ (k:Nat) (l:Lk),l∈linksOf (netOf (deeds mm) y.1 y.2 k) (deeds mm).length→Leads (linksOf (netOf (deeds ll) x.1 x.2 k) (deeds ll).length) (h l.1) (h l.2):=fun k l hl=>by
  obtain ⟨a,b⟩:=l
  obtain ⟨_,_,ha,hb,_⟩:=mem_net.1 hl
  obtain ⟨la,ea⟩:=E.fh a (lt_of_get ha)
  obtain ⟨lb,eb⟩:=E.fh b (lt_of_get hb)
  exact .one ((E.link hp R hx hy k la lb).1 (by rw [ea,eb];exact hl))
 refine ⟨y,holds_iff.2 ⟨hk,exec_wo.2 ⟨hq,hy⟩,fun hr=>h0 (round_map (f:=h) (L 0) hr),sat_map (f:=h) (L k) (fun c hc=>?_) hs⟩,R,hx,hy⟩
 obtain ⟨c0,hc0,rfl⟩:=E.choices_dn (run_of hp) hc
 have hi:=(choices_ok (run_of hp) c0 hc0).1
 have e:((h (img f c0).1.1,h (img f c0).1.2),(h (img f c0).2.1,h (img f c0).2.2))=c0:=by
  simp only [img]
  rw [(E.hf _ hi.1.1).2,(E.hf _ hi.1.2).2,(E.hf _ hi.2.1).2,(E.hf _ hi.2.2).2]
 rw [e]
 exact hc0
end
end M
end
section
namespace M
theorem split_thread:∀ (ll:List (List D)) (t n r:Nat),r < (deF t n ll).length→∃ (A B:List De) (l:List D) (τ m:Nat),l∈ll∧deF t n ll=A++(deT τ 0 (-1) m l++B)∧A.length≤r∧r < A.length+(deT τ 0 (-1) m l).length
 | [],t,n,r,h=>by simp [deF] at h
 | l::ll,t,n,r,h=>by
  rw [deF] at h ⊢
  rcases Nat.lt_or_ge r (deT t 0 (-1) n l).length with h1 | h1
  ·exact ⟨[],_,l,t,n,List.mem_cons_self ..,rfl,Nat.zero_le _,by simpa using h1⟩
  ·rw [List.length_append] at h
   obtain ⟨A,B,l',τ,m,hm,he,h2,h3⟩:=split_thread ll (t+1) (n+(deT t 0 (-1) n l).length) (r - (deT t 0 (-1) n l).length) (by omega)
   refine ⟨deT t 0 (-1) n l++A,B,l',τ,m,List.mem_cons_of_mem _ hm,by rw [he,List.append_assoc],by rw [List.length_append];omega,by rw [List.length_append];omega⟩
theorem out_thread {ll:List (List D)} (hp:prog ll=true) {r:Nat} {x y:De} (hx:(deeds ll)[r]?=some x) (h7:x.d.k=7) (hy:(deeds ll)[outOf (deeds ll) r]?=some y):y.t=x.t:=by
 obtain ⟨A,B,l,τ,m,hm,he,h1,h2⟩:=split_thread ll 0 0 r (lt_of_get hx)
 have hth:=((prog_iff ll).1 hp).2.1 l hm
 simp only [thread,Bool.and_eq_true] at hth
 have hT:=run_T τ l 0 (-1) m false hth.2
 have tT:∀ z∈deT τ 0 (-1) m l,z.t=τ:=fun z hz=>(mem_deT τ _ _ _ _ z hz).2
 generalize deT τ 0 (-1) m l=T at *
 have hd:deeds ll=A++(T++B):=he
 rw [hd] at hx hy
 have hx':T[r - A.length]?=some x:=by
  rw [List.getElem?_append_right h1,List.getElem?_append_left (by omega)] at hx;exact hx
 obtain ⟨hrl,ex⟩:=List.getElem?_eq_some_iff.1 hx'
 obtain ⟨ho,h8⟩:=M.out_at hT hrl (by rw [ex];exact h7)
 have hle:r - A.length≤outOf T (r - A.length):=(le_outOf (by omega) (by omega)).2 fun q _ a b=>by omega
 have hge:outOf (A++(T++B)) r≤A.length+outOf T (r - A.length):=by
  apply Classical.byContradiction
  intro hn
  have hlen:(A++(T++B)).length=A.length+(T.length+B.length):=by simp
  have:=(le_outOf (ds:=A++(T++B)) (a:=r) (b:=A.length+outOf T (r - A.length)+1) (by omega) (by omega)).1 (by omega) (A.length+outOf T (r - A.length)) (by omega) (by omega) (by omega)
  rw [List.getElem_append_right (by omega)] at this
  simp only [Nat.add_sub_cancel_left] at this
  rw [List.getElem_append_left ho] at this
  exact this h8
 have hlo:r≤outOf (A++(T++B)) r:=(le_outOf (by simp;omega) (by simp;omega)).2 fun q _ a b=>by omega
 have hy':T[outOf (A++(T++B)) r - A.length]?=some y:=by
  rw [List.getElem?_append_right (by omega),List.getElem?_append_left (by omega)] at hy;exact hy
 rw [tT y (mem_of_get hy'),tT x (mem_of_get hx')]
theorem wait_deT (t:Nat):∀ (l:List D) (i:Nat) (lr:Int) (n j:Nat) (x:De),(deT t i lr n l)[j]?=some x→x.d.k=9→x.last=false→∃ y,(deT t i lr n l)[j+1]?=some y
 | [],i,lr,n,j,x,h,_,_=>by simp [deT] at h
 | d::l,i,lr,n,j,x,h,h9,hf=>by
  rw [deT] at h ⊢
  rcases Nat.lt_or_ge j (deD t i lr n d).length with h1 | h1
  ·rw [List.getElem?_append_left h1] at h
   by_cases hk:(d.k==9)=true
   ·rw [deD_wait hk] at h h1 ⊢
    match j,h with
    | 0,_=>exact ⟨_,rfl⟩
    | 1,h =>
     obtain rfl:=Option.some.inj h
     cases hf
    | j+2,h=>simp at h
   ·have hk':(d.k==9)=false:=by simpa using hk
    rw [deD_one hk'] at h
    match j,h with
    | 0,h =>
     obtain rfl:=Option.some.inj h
     exact absurd (by simpa using h9) hk
    | j+1,h=>simp at h
  ·rw [List.getElem?_append_right h1] at h
   obtain ⟨y,hy⟩:=wait_deT t l _ _ _ _ x h h9 hf
   refine ⟨y,?_⟩
   rw [List.getElem?_append_right (by omega),show j+1 - (deD t i lr n d).length=j - (deD t i lr n d).length+1 by omega]
   exact hy
theorem wait_thread {ll:List (List D)} {w:Nat} {x:De} (hx:(deeds ll)[w]?=some x) (h9:x.d.k=9) (hf:x.last=false):∃ y,(deeds ll)[w+1]?=some y∧y.t=x.t:=by
 obtain ⟨A,B,l,τ,m,_,he,h1,h2⟩:=split_thread ll 0 0 w (lt_of_get hx)
 have tT:∀ z∈deT τ 0 (-1) m l,z.t=τ:=fun z hz=>(mem_deT τ _ _ _ _ z hz).2
 have hw:=wait_deT τ l 0 (-1) m (w - A.length) x
 generalize deT τ 0 (-1) m l=T at *
 have hd:deeds ll=A++(T++B):=he
 rw [hd] at hx ⊢
 have hx':T[w - A.length]?=some x:=by
  rw [List.getElem?_append_right h1,List.getElem?_append_left (by omega)] at hx;exact hx
 obtain ⟨y,hy⟩:=hw hx' h9 hf
 have hl:=lt_of_get hy
 refine ⟨y,?_,by rw [tT y (mem_of_get hy),tT x (mem_of_get hx')]⟩
 rw [List.getElem?_append_right (by omega),List.getElem?_append_left (by omega),show w+1 - A.length=w - A.length+1 by omega]
 exact hy
end M
end
section
namespace M
structure Sf (m m':Nat) (x y:De):Prop where
 d:y.d=x.d
 last:y.last=x.last
 lr:(x.lr=-1∧y.lr=-1)∨∃ j:Nat,x.lr=((m+j:Nat):Int)∧y.lr=((m'+j:Nat):Int)
def SfL (m m':Nat) (xs ys:List De):Prop:=ys.length=xs.length∧∀ (a:Nat) (x:De),xs[a]?=some x→∃ y,ys[a]?=some y∧Sf m m' x y
theorem SfL.app {m m':Nat} {xs ys xs' ys':List De} (h:SfL m m' xs ys) (h':SfL m m' xs' ys'):SfL m m' (xs++xs') (ys++ys'):=by
 refine ⟨by simp [h.1,h'.1],fun a x hx=>?_⟩
 rcases Nat.lt_or_ge a xs.length with hl | hl
 ·rw [List.getElem?_append_left hl] at hx
  obtain ⟨y,hy,hs⟩:=h.2 a x hx
  exact ⟨y,by rw [List.getElem?_append_left (by rw [h.1];exact hl)];exact hy,hs⟩
 ·rw [List.getElem?_append_right hl] at hx
  obtain ⟨y,hy,hs⟩:=h'.2 _ x hx
  exact ⟨y,by rw [List.getElem?_append_right (by rw [h.1];exact hl),h.1];exact hy,hs⟩
def LrF (m m':Nat) (lr lr':Int):Prop:=(lr=-1∧lr'=-1)∨∃ j:Nat,lr=((m+j:Nat):Int)∧lr'=((m'+j:Nat):Int)
theorem LrF.of {m m':Nat} {lr lr':Int} (h:LrF m m' lr lr') (q:Nat) (d:D):LrF m m' (lrOf lr (m+q) d) (lrOf lr' (m'+q) d):=by
 unfold lrOf
 split
 ·exact .inr ⟨q,rfl,rfl⟩
 ·exact h
theorem sf_deD {m m':Nat} (t t' i i':Nat) {lr lr':Int} (h:LrF m m' lr lr') (q:Nat) (d:D):SfL m m' (deD t i lr (m+q) d) (deD t' i' lr' (m'+q) d):=by
 have hl:=h.of q d
 unfold deD
 split
 ·refine ⟨rfl,fun a x hx=>?_⟩
  match a with
  | 0=>obtain rfl:=Option.some.inj hx;exact ⟨_,rfl,rfl,rfl,hl⟩
  | 1=>obtain rfl:=Option.some.inj hx;exact ⟨_,rfl,rfl,rfl,hl⟩
  | a+2=>simp at hx
 ·refine ⟨rfl,fun a x hx=>?_⟩
  match a with
  | 0=>obtain rfl:=Option.some.inj hx;exact ⟨_,rfl,rfl,rfl,hl⟩
  | a+1=>simp at hx
theorem sf_deT {m m':Nat} (t t':Nat):∀ (l:List D) (i i':Nat) (lr lr':Int) (q:Nat),LrF m m' lr lr'→SfL m m' (deT t i lr (m+q) l) (deT t' i' lr' (m'+q) l)
 | [],i,i',lr,lr',q,_=>⟨rfl,fun a x hx=>by simp [deT] at hx⟩
 | d::l,i,i',lr,lr',q,h=>by
  have h1:=sf_deD t t' i i' h q d
  have h2:=sf_deT t t' l (i+1) (i'+1) _ _ (q+(deD t i lr (m+q) d).length) (h.of q d)
  rw [deT,deT]
  refine h1.app ?_
  rw [h1.1]
  simpa only [Nat.add_assoc] using h2
def swA (A X Y i:Nat):Nat:=if i < A then i else if i < A+X then i+Y else if i < A+X+Y then i - X else i
theorem swA_c (A X Y i:Nat):(i < A∧swA A X Y i=i)∨(A≤i∧i < A+X∧swA A X Y i=i+Y)∨(A+X≤i∧i < A+X+Y∧swA A X Y i=i - X)∨(A+X+Y≤i∧swA A X Y i=i):=by
 unfold swA
 by_cases h1:i < A
 ·exact .inl ⟨h1,if_pos h1⟩
 ·rw [if_neg h1]
  by_cases h2:i < A+X
  ·exact .inr (.inl ⟨by omega,h2,if_pos h2⟩)
  ·rw [if_neg h2]
   by_cases h3:i < A+X+Y
   ·exact .inr (.inr (.inl ⟨by omega,h3,if_pos h3⟩))
   ·exact .inr (.inr (.inr ⟨by omega,if_neg h3⟩))
theorem swA_back (A X Y i:Nat):swA A Y X (swA A X Y i)=i:=by
 have:=swA_c A X Y i
 have:=swA_c A Y X (swA A X Y i)
 omega
theorem swap_e (pr po:List (List D)) (a b:List D) (hp:prog (pr++a::b::po)=true):∃ A X Y:Nat,A=(deF 0 0 pr).length∧X=(deT pr.length 0 (-1) (deF 0 0 pr).length a).length∧Y=(deT (pr.length+1) 0 (-1) ((deF 0 0 pr).length+(deT pr.length 0 (-1) (deF 0 0 pr).length a).length) b).length∧ThE (deeds (pr++a::b::po)) (deeds (pr++b::a::po)) (swA A X Y) (swA A Y X):=by
 have hot:=fun (r:Nat) (x y:De) (h1:(deeds (pr++a::b::po))[r]?=some x) (h2:x.d.k=7) (h3:(deeds (pr++a::b::po))[outOf (deeds (pr++a::b::po)) r]?=some y)=>out_thread hp h1 h2 h3
 have hwt:=fun (w:Nat) (x:De) (h1:(deeds (pr++a::b::po))[w]?=some x) (h2:x.d.k=9) (h3:x.last=false)=>wait_thread h1 h2 h3
 have hlo:=lro_deeds (pr++a::b::po)
 have hds:∀ (u v:List D),deeds (pr++u::v::po)=deF 0 0 pr++(deT pr.length 0 (-1) (deF 0 0 pr).length u++(deT (pr.length+1) 0 (-1) ((deF 0 0 pr).length+(deT pr.length 0 (-1) (deF 0 0 pr).length u).length) v++deF (pr.length+2) ((deF 0 0 pr).length+(deT pr.length 0 (-1) (deF 0 0 pr).length u).length+(deT (pr.length+1) 0 (-1) ((deF 0 0 pr).length+(deT pr.length 0 (-1) (deF 0 0 pr).length u).length) v).length) po)):=fun u v=>by
  unfold deeds
  rw [deF_append,deF,deF]
  simp [Nat.add_assoc]
 revert hot hwt hlo
 rw [hds a b,hds b a]
 intro hot hwt hlo
 have tA:∀ x∈deF 0 0 pr,x.t < pr.length∧x.lr < (deF 0 0 pr).length:=fun x hx=>⟨by have:=(mem_deF pr 0 0 x hx).2.1;omega,lro_deeds pr x hx⟩
 generalize deF 0 0 pr=DA at *
 have sTA:=sf_deT (m:=DA.length) (m':=DA.length+(deT pr.length 0 (-1) DA.length b).length) pr.length (pr.length+1) a 0 0 (-1) (-1) 0 (.inl ⟨rfl,rfl⟩)
 have sTB:=sf_deT (m:=DA.length+(deT pr.length 0 (-1) DA.length a).length) (m':=DA.length) (pr.length+1) pr.length b 0 0 (-1) (-1) 0 (.inl ⟨rfl,rfl⟩)
 simp only [Nat.add_zero] at sTA sTB
 have t1:∀ x∈deT pr.length 0 (-1) DA.length a,x.t=pr.length:=fun x hx=>(mem_deT _ _ _ _ _ x hx).2
 have t2:∀ x∈deT (pr.length+1) 0 (-1) (DA.length+(deT pr.length 0 (-1) DA.length a).length) b,x.t=pr.length+1:=fun x hx=>(mem_deT _ _ _ _ _ x hx).2
 have t3:∀ x∈deT pr.length 0 (-1) DA.length b,x.t=pr.length:=fun x hx=>(mem_deT _ _ _ _ _ x hx).2
 have t4:∀ x∈deT (pr.length+1) 0 (-1) (DA.length+(deT pr.length 0 (-1) DA.length b).length) a,x.t=pr.length+1:=fun x hx=>(mem_deT _ _ _ _ _ x hx).2
 have l1:=fun (j:Nat) (x:De)=>deT_lr_lt (t:=pr.length) (l:=a) (i:=0) (lr:=-1) (n:=DA.length) (a:=j) (x:=x)
 have l2:=fun (j:Nat) (x:De)=>deT_lr_lt (t:=pr.length+1) (l:=b) (i:=0) (lr:=-1) (n:=DA.length+(deT pr.length 0 (-1) DA.length a).length) (a:=j) (x:=x)
 generalize deT pr.length 0 (-1) DA.length a=TA at *
 generalize deT (pr.length+1) 0 (-1) (DA.length+TA.length) b=TB at *
 generalize deT pr.length 0 (-1) DA.length b=UB at *
 generalize deT (pr.length+1) 0 (-1) (DA.length+UB.length) a=UA at *
 have eA:=sTA.1
 have eB:=sTB.1
 have eD:DA.length+UB.length+UA.length=DA.length+TA.length+TB.length:=by omega
 rw [eD]
 have sD:=sh_deF (m:=DA.length+TA.length+TB.length) (m':=DA.length+TA.length+TB.length) po (pr.length+2) 0
 simp only [Nat.add_zero] at sD
 have t5:∀ x∈deF (pr.length+2) (DA.length+TA.length+TB.length) po,pr.length+2≤x.t:=fun x hx=>(mem_deF _ _ _ x hx).1
 generalize deF (pr.length+2) (DA.length+TA.length+TB.length) po=DB at *
 refine ⟨DA.length,TA.length,TB.length,rfl,rfl,rfl,?_⟩
 have upN:∀ (z:Int) (j:Nat),z=(j:Int)→up (swA DA.length TA.length TB.length) z=(swA DA.length TA.length TB.length j:Int):=fun z j e=>by rw [e,up_nat]
 have key:∀ (i:Nat) (x:De),(DA++(TA++(TB++DB)))[i]?=some x→∃ y,(DA++(UB++(UA++DB)))[swA DA.length TA.length TB.length i]?=some y∧y.d=x.d∧y.last=x.last∧y.lr=up (swA DA.length TA.length TB.length) x.lr∧((i < DA.length∧x.t < pr.length∧y.t=x.t)∨(DA.length≤i∧i < DA.length+TA.length∧x.t=pr.length∧y.t=pr.length+1)∨(DA.length+TA.length≤i∧i < DA.length+TA.length+TB.length∧x.t=pr.length+1∧y.t=pr.length)∨(DA.length+TA.length+TB.length≤i∧pr.length+2≤x.t∧y.t=x.t)):=by
  intro i x hx
  have hc:=swA_c DA.length TA.length TB.length i
  rcases Nat.lt_or_ge i DA.length with h1 | h1
  ·rw [List.getElem?_append_left h1] at hx
   have e:swA DA.length TA.length TB.length i=i:=by omega
   have ht:=tA x (mem_of_get hx)
   refine ⟨x,by rw [e,List.getElem?_append_left h1];exact hx,rfl,rfl,?_,.inl ⟨h1,ht.1,rfl⟩⟩
   rcases Int.lt_or_le x.lr 0 with h0 | h0
   ·rw [up_neg h0]
   ·obtain ⟨j,hj⟩:∃ j:Nat,x.lr=j:=⟨x.lr.toNat,by omega⟩
    rw [upN _ j hj]
    have:=swA_c DA.length TA.length TB.length j
    omega
  ·rw [List.getElem?_append_right h1] at hx
   rcases Nat.lt_or_ge (i - DA.length) TA.length with h2 | h2
   ·rw [List.getElem?_append_left h2] at hx
    obtain ⟨y,hy,hs⟩:=sTA.2 _ x hx
    have e:swA DA.length TA.length TB.length i=i+TB.length:=by omega
    refine ⟨y,?_,hs.d,hs.last,?_,.inr (.inl ⟨h1,by omega,t1 x (mem_of_get hx),t4 y (mem_of_get hy)⟩)⟩
    ·rw [e,List.getElem?_append_right (by omega),List.getElem?_append_right (by omega),List.getElem?_append_left (by omega),show i+TB.length - DA.length - UB.length=i - DA.length by omega]
     exact hy
    ·rcases hs.lr with ⟨e1,e2⟩ | ⟨j,e1,e2⟩
     ·rw [e1,e2,up_neg (by omega)]
     ·have hj:=l1 _ x hx
      rw [upN _ _ e1,e2]
      have:=swA_c DA.length TA.length TB.length (DA.length+j)
      omega
   ·rw [List.getElem?_append_right h2] at hx
    rcases Nat.lt_or_ge (i - DA.length - TA.length) TB.length with h3 | h3
    ·rw [List.getElem?_append_left h3] at hx
     obtain ⟨y,hy,hs⟩:=sTB.2 _ x hx
     have e:swA DA.length TA.length TB.length i=i - TA.length:=by omega
     refine ⟨y,?_,hs.d,hs.last,?_,.inr (.inr (.inl ⟨by omega,by omega,t2 x (mem_of_get hx),t3 y (mem_of_get hy)⟩))⟩
     ·rw [e,List.getElem?_append_right (by omega),List.getElem?_append_left (by omega),show i - TA.length - DA.length=i - DA.length - TA.length by omega]
      exact hy
     ·rcases hs.lr with ⟨e1,e2⟩ | ⟨j,e1,e2⟩
      ·rw [e1,e2,up_neg (by omega)]
      ·have hj:=l2 _ x hx
       rw [upN _ _ e1,e2]
       have:=swA_c DA.length TA.length TB.length (DA.length+TA.length+j)
       omega
    ·rw [List.getElem?_append_right h3] at hx
     have e:swA DA.length TA.length TB.length i=i:=by omega
     obtain ⟨y,hy,hs⟩:=sD.2 _ x hx
     rw [hx] at hy
     obtain rfl:=Option.some.inj hy
     refine ⟨x,?_,rfl,rfl,?_,.inr (.inr (.inr ⟨by omega,t5 x (mem_of_get hx),rfl⟩))⟩
     ·rw [e,List.getElem?_append_right (by omega),List.getElem?_append_right (by omega),List.getElem?_append_right (by omega),show i - DA.length - UB.length - UA.length=i - DA.length - TA.length - TB.length by omega]
      exact hx
     ·rcases hs.lr with ⟨e1,_⟩ | ⟨j,e1,_⟩
      ·rw [e1,up_neg (by omega)]
      ·rw [upN _ _ e1,e1]
       have:=swA_c DA.length TA.length TB.length (DA.length+TA.length+TB.length+j)
       omega
 have hlen:(DA++(TA++(TB++DB))).length=DA.length+(TA.length+(TB.length+DB.length)):=by simp
 have hlen2:(DA++(UB++(UA++DB))).length=DA.length+(UB.length+(UA.length+DB.length)):=by simp
 refine ⟨by omega,fun i hi=>⟨?_,swA_back _ _ _ _⟩,fun i hi=>⟨?_,swA_back _ _ _ _⟩,fun i x hx=>?_,fun i j x y x' y' hx hy hx' hy'=>?_,fun i j x y hx hy ht=>?_,fun i j q x y hx hy ht h1 h2=>?_,hot,hwt,hlo⟩
 ·have:=swA_c DA.length TA.length TB.length i;omega
 ·have:=swA_c DA.length TB.length TA.length i;omega
 ·obtain ⟨y,h1,h2,h3,h4,_⟩:=key i x hx
  exact ⟨y,h1,h2,h3,h4⟩
 ·obtain ⟨u,h1,_,_,_,k1⟩:=key i x hx
  obtain ⟨v,h2,_,_,_,k2⟩:=key j y hy
  rw [hx'] at h1
  rw [hy'] at h2
  obtain rfl:=Option.some.inj h1
  obtain rfl:=Option.some.inj h2
  omega
 ·obtain ⟨_,_,_,_,_,k1⟩:=key i x hx
  obtain ⟨_,_,_,_,_,k2⟩:=key j y hy
  have:=swA_c DA.length TA.length TB.length i
  have:=swA_c DA.length TA.length TB.length j
  omega
 ·obtain ⟨_,_,_,_,_,k1⟩:=key i x hx
  obtain ⟨_,_,_,_,_,k2⟩:=key j y hy
  have:=swA_c DA.length TA.length TB.length i
  have:=swA_c DA.length TA.length TB.length q
  omega
end M
end
end Go.Proofs.YtmhpgdliaclokaaGreat
