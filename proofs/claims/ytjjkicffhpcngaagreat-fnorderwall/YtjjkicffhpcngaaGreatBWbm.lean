/- A wall more allows no more, by any order; walls everywhere make each order strict. Plainly. No condition but what is said. spec.WallPut: a program with walls. Of at most 1048576 gaps, threads, and steps of a thread. -/
import Derived.Test.YtjjkicffhpcngaaGreatBWbk
import Derived.Test.YtjjkicffhpcngaaGreatBWbl
namespace Go.Proofs.YtjjkicffhpcngaaGreat
namespace M
theorem deed_zero {ll:List (List D)} (hp:prog ll=true):∀ x∈deeds ll,x.reads=true∨x.d.k=3→x.d.v=0:=deed_z hp
theorem lro_deeds (ll:List (List D)):∀ x∈deeds ll,x.lr < (deeds ll).length:=fun x hx=>by
 obtain ⟨n,hn,rfl⟩:=List.getElem_of_mem hx
 exact lr_lt2 ll n _ (List.getElem?_eq_getElem hn)
theorem rows_three {rows:List (List Int)} (h:rows.length=3):rows=[rows.getD 0 [],rows.getD 1 [],rows.getD 2 []]:=by
 match rows,h with
 | [a,b,c],_=>rfl
theorem emb_seen {ll mm:List (List D)} (hp:prog ll=true) (hq:prog mm=true) {f:Nat→Nat} (E:Emb (deeds ll) (deeds mm) f id id) (hm:∀ a b,a < b→b < (deeds ll).length→f a < f b) {x y:Wy} (R:Rel (deeds ll) f id x y) (hx:WO (deeds ll) x.1 x.2) (hy:WO (deeds mm) y.1 y.2):seenOf mm y=seenOf ll x:=by
 have z1:=deed_zero hp
 have z2:=deed_zero hq
 have h1:=E.seenR hm R hx hy (lro_deeds mm) z1 z2
 rw [List.map_id] at h1
 unfold seenOf
 rw [h1]
 congr 1
 unfold seenL
 have e0:=E.last R hx hy (lro_deeds mm) z1 z2 (p:=0) (by omega) (by omega)
 have e1:=E.last R hx hy (lro_deeds mm) z1 z2 (p:=1) (by omega) (by omega)
 have e2:=E.last R hx hy (lro_deeds mm) z1 z2 (p:=2) (by omega) (by omega)
 rw [rows_three hx.three,rows_three hy.three]
 simp only [List.map_cons,List.map_nil]
 rw [show lastOf (deeds mm) y.1 (y.2.getD 0 [])=lastOf (deeds ll) x.1 (x.2.getD 0 []) from e0,show lastOf (deeds mm) y.1 (y.2.getD 1 [])=lastOf (deeds ll) x.1 (x.2.getD 1 []) from e1,show lastOf (deeds mm) y.1 (y.2.getD 2 [])=lastOf (deeds ll) x.1 (x.2.getD 2 []) from e2]
section
variable {ll mm : List (List D)} {pos back : List Nat}
theorem InsE.link (h:InsE (deeds ll) (deeds mm) pos back) (hp:prog ll=true) {x y:Wy} (R:Rel (deeds ll) (at0 pos) id x y) (hx:WO (deeds ll) x.1 x.2) (hy:WO (deeds mm) y.1 y.2) (k:Nat) {a b:Nat} (ha:a < (deeds ll).length) (hb:b < (deeds ll).length):(at0 pos a,at0 pos b)∈linksOf (netOf (deeds mm) y.1 y.2 k) (deeds mm).length↔(a,b)∈linksOf (netOf (deeds ll) x.1 x.2 k) (deeds ll).length:=by
 have la:=List.getElem?_eq_getElem ha
 have lb:=List.getElem?_eq_getElem hb
 obtain ⟨_,u,hu,_⟩:=h.get la
 obtain ⟨_,v,hv,_⟩:=h.get lb
 have:=h.must (deed_u hp) R hx hy k la lb hu hv
 rw [mem_net,mem_net]
 constructor
 ·rintro ⟨u',v',hu',hv',hm⟩
  rw [hu] at hu'
  rw [hv] at hv'
  obtain rfl:=Option.some.inj hu'
  obtain rfl:=Option.some.inj hv'
  exact ⟨_,_,la,lb,this▸hm⟩
 ·rintro ⟨u',v',hu',hv',hm⟩
  rw [la] at hu'
  rw [lb] at hv'
  obtain rfl:=Option.some.inj hu'
  obtain rfl:=Option.some.inj hv'
  exact ⟨u,v,hu,hv,this.symm▸hm⟩
theorem ins_down (h:InsE (deeds ll) (deeds mm) pos back) (hp:prog ll=true) (hq:prog mm=true) {k:Nat} {y:Wy} (hy:orderHolds mm y.1 y.2 k=true):∃ x:Wy,orderHolds ll x.1 x.2 k=true∧seenOf ll x=seenOf mm y:=by
 obtain ⟨hk,he,h0,hs⟩:=holds_iff.1 hy
 have hwo:=(exec_wo.1 he).2
 have E:=h.emb (deed_u hp)
 have R:=E.relDn hwo
 have hx:=E.dn_ok hwo
 refine ⟨(dnF (deeds ll) (at0 pos) y.1,dnO (deeds ll) id (at0 pos) y.2),holds_iff.2 ⟨hk,exec_wo.2 ⟨hp,hx⟩,fun hr=>h0 (round_map (f:=at0 pos) (fun l hl=>?_) hr),sat_map (f:=at0 pos) (fun l hl=>?_) (fun c hc=>h.choices_up (run_of hp) hc) hs⟩,(emb_seen hp hq E (fun a b hab hb=>h.mono hab hb) R hx hwo).symm⟩
 ·obtain ⟨a,b⟩:=l
  obtain ⟨_,_,ha,hb,_⟩:=mem_net.1 hl
  exact .one ((h.link hp R hx hwo 0 (lt_of_get ha) (lt_of_get hb)).2 hl)
 ·obtain ⟨a,b⟩:=l
  obtain ⟨_,_,ha,hb,_⟩:=mem_net.1 hl
  exact .one ((h.link hp R hx hwo k (lt_of_get ha) (lt_of_get hb)).2 hl)
theorem all_down (h:InsE (deeds ll) (deeds mm) pos back) (hp:prog ll=true) {k:Int}:∀ z∈orderAll mm k,z∈orderAll ll k:=fun z hz=>by
 obtain ⟨y,hy,rfl⟩:=mem_orderAll.1 hz
 have hq:=exec_prog (holds_parts_of hy).2
 obtain ⟨kn,rfl⟩:∃ kn:Nat,k=kn:=⟨k.toNat,by have:=(holds_parts_of hy).1;simp only [Bool.and_eq_true,decide_eq_true_eq] at this;omega⟩
 obtain ⟨x,hx,e⟩:=ins_down h hp hq hy
 exact mem_orderAll.2 ⟨x,hx,e⟩
theorem InsE.homes (h:InsE (deeds ll) (deeds mm) pos back) {a:Nat} (ha:a < (deeds ll).length):at0 back (at0 pos a)=a:=at0_of (h.home a _ (h.pget ha))
theorem InsE.backs (h:InsE (deeds ll) (deeds mm) pos back) {u:Nat} {y:De} (hy:(deeds mm)[u]?=some y):∃ x,(deeds ll)[at0 back u]?=some x∧x.t=y.t∧at0 pos (at0 back u)≤u∧∀ b,b < (deeds ll).length→at0 back u < b→u < at0 pos b:=by
 by_cases hc:u∈pos
 ·obtain ⟨a,ha,rfl⟩:=h.inside hc
  rw [h.homes ha]
  have hx:=List.getElem?_eq_getElem ha
  obtain ⟨_,y',hy',_,ht,_⟩:=h.get hx
  rw [hy] at hy'
  obtain rfl:=Option.some.inj hy'
  exact ⟨_,hx,ht.symm,Nat.le_refl _,fun b hb hab=>h.mono hab hb⟩
 ·obtain ⟨_,a,n,x,h2,h3,h4,h5,h6,h7⟩:=h.out u y hy hc
  rw [at0_of h2]
  exact ⟨x,h5,h6,by rw [at0_of h3];omega,fun b hb hab=>h7 b _ (h.pget hb) hab⟩
theorem ins_up (h:InsE (deeds ll) (deeds mm) pos back) (hp:prog ll=true) (hq:prog mm=true) {x:Wy} (hxh:orderHolds ll x.1 x.2 1=true):∃ y:Wy,orderHolds mm y.1 y.2 1=true∧seenOf mm y=seenOf ll x:=by
 obtain ⟨_,he,h0,hs⟩:=(holds_iff (k:=1)).1 hxh
 have hx:=(exec_wo.1 he).2
 have E:=h.emb (deed_u hp)
 have R:=E.relUp x
 have hy:=E.up_ok (lro_deeds mm) hx
 have core:∀ (k:Nat) {u v:Nat} {s t:De},(deeds mm)[u]?=some s→(deeds mm)[v]?=some t→s.uses=true→t.uses=true→(u,v)∈linksOf (netOf (deeds mm) (upF (deeds ll) (deeds mm) (at0 pos) x.1) (upO id (at0 pos) x.2) k) (deeds mm).length→Leads (linksOf (netOf (deeds ll) x.1 x.2 k) (deeds ll).length) (at0 back u) (at0 back v):=by
  intro k u v s t hu hv us ut hl
  obtain ⟨a,ha,rfl⟩:=E.out u s hu us
  obtain ⟨b,hb,rfl⟩:=E.out v t hv ut
  rw [h.homes ha,h.homes hb]
  exact .one ((h.link hp R hx hy k ha hb).1 hl)
 refine ⟨(upF (deeds ll) (deeds mm) (at0 pos) x.1,upO id (at0 pos) x.2),(holds_iff (k:=1)).2 ⟨by omega,exec_wo.2 ⟨hq,hy⟩,fun hr=>h0 (round_fold (h:=at0 back) (fun l hl=>?_) hr),sat_fold (f:=at0 pos) (h:=at0 back) (fun l hl=>?_) (fun c hc=>h.choices_dn (run_of hp) hc) (fun c hc=>?_) hs⟩,emb_seen hp hq E (fun a b hab hb=>h.mono hab hb) R hx hy⟩
 ·obtain ⟨u,v⟩:=l
  obtain ⟨s,t,hu,hv,hm⟩:=mem_net.1 hl
  left
  simp only [must,Bool.or_eq_true,Bool.and_eq_true] at hm
  rcases hm with hm | hm
  ·have h1:=hm.2
   simp only [onePl,Bool.and_eq_true] at h1
   exact core 0 hu hv h1.1 h1.2.1 hl
  ·have h1:=tell_uses hy hu hv (by rw [Bool.or_eq_true];exact hm)
   exact core 0 hu hv h1.2.1 h1.2.2.1 hl
 ·obtain ⟨u,v⟩:=l
  obtain ⟨s,t,hu,hv,hm⟩:=mem_net.1 hl
  have hm':=hm
  simp only [must] at hm
  rw [Bool.or_eq_true] at hm
  rcases hm with hm | hm
  ·obtain ⟨huv,ht⟩:=own_iff.1 hm
   obtain ⟨xs,hxs,ts,l1,l2⟩:=h.backs hu
   obtain ⟨xt,hxt,tt,m1,m2⟩:=h.backs hv
   have hab:at0 back u≤at0 back v:=by
    apply Classical.byContradiction
    intro hn
    have:=m2 (at0 back u) (lt_of_get hxs) (by omega)
    omega
   rcases Nat.lt_or_ge (at0 back u) (at0 back v) with hlt | hge
   ·left
    exact .one (mem_net.2 ⟨xs,xt,hxs,hxt,by simp only [must];rw [own_iff.2 ⟨hlt,by omega⟩];rfl⟩)
   ·exact .inr ⟨by show at0 back u=at0 back v;omega,huv⟩
  ·left
   have h1:=tell_uses hy hu hv hm
   exact core 1 hu hv h1.2.1 h1.2.2.1 hl
 ·have hi:=(choices_ok (run_of hp) c hc).1
  exact ⟨h.homes hi.1.1,h.homes hi.1.2,h.homes hi.2.1,h.homes hi.2.2⟩
end
def Btw (xs:List De):Prop:=∀ (u v:Nat) (x y:De),xs[u]?=some x→xs[v]?=some y→u < v→x.t=y.t→isWall x.d.k=false→isWall y.d.k=false→∃ (w:Nat) (z:De),u < w∧w < v∧xs[w]?=some z∧isWall z.d.k=true∧z.t=x.t
theorem deD_all {t i n:Nat} {lr:Int} {d:D} {x:De} (h:x∈deD t i lr n d):x.d=d∧x.t=t:=by
 refine ⟨deD_k t i lr n d x h,?_⟩
 unfold deD at h
 split at h
 ·rcases List.mem_cons.1 h with rfl | h
  ·rfl
  ·rw [List.mem_singleton.1 h]
 ·rw [List.mem_singleton.1 h]
theorem btw_step {t i n:Nat} {lr:Int} {d:D} {X:List De} (hB:Btw X) (hT:∀ x∈X,x.t=t) (hW:∀ (v:Nat) (y:De),X[v]?=some y→isWall y.d.k=false→∃ (w:Nat) (z:De),w < v∧X[w]?=some z∧isWall z.d.k=true):Btw (deD t i lr n d++X):=by
 intro u v x y hx hy huv ht hwx hwy
 rcases Nat.lt_or_ge v (deD t i lr n d).length with hv | hv
 ·exfalso
  rw [List.getElem?_append_left (by omega)] at hx
  have hd:=(deD_all (mem_of_get hx)).1
  by_cases h9:(d.k==9)=true
  ·have:d.k=9:=by simpa using h9
   rw [hd,this] at hwx
   simp [isWall] at hwx
  ·rw [deD_one (by simpa using h9)] at hv
   simp at hv
   omega
 ·rw [List.getElem?_append_right hv] at hy
  rcases Nat.lt_or_ge u (deD t i lr n d).length with hu | hu
  ·rw [List.getElem?_append_left hu] at hx
   obtain ⟨w,z,h1,h2,h3⟩:=hW _ y hy hwy
   refine ⟨(deD t i lr n d).length+w,z,by omega,by omega,?_,h3,?_⟩
   ·rw [List.getElem?_append_right (by omega),show (deD t i lr n d).length+w - (deD t i lr n d).length=w by omega];exact h2
   ·rw [hT z (mem_of_get h2),(deD_all (mem_of_get hx)).2]
  ·rw [List.getElem?_append_right hu] at hx
   obtain ⟨w,z,h1,h2,h3,h4,h5⟩:=hB _ _ x y hx hy (by omega) ht hwx hwy
   refine ⟨(deD t i lr n d).length+w,z,by omega,by omega,?_,h4,h5⟩
   rw [List.getElem?_append_right (by omega),show (deD t i lr n d).length+w - (deD t i lr n d).length=w by omega];exact h3
theorem btwR (gs:List Int) (t:Nat):∀ (l:List D) (n i:Nat) (lr:Int) (m:Nat),(∀ q:Nat,n≤q→q < n+l.length→has gs (q:Int)=true)→Btw (deT t i lr m (wallR gs n l))∧∀ (v:Nat) (y:De),(deT t i lr m (wallR gs n l))[v]?=some y→isWall y.d.k=false→∃ (w:Nat) (z:De),w < v∧(deT t i lr m (wallR gs n l))[w]?=some z∧isWall z.d.k=true
 | [],n,i,lr,m,_=>⟨fun u v x y hx=>by simp [wallR,deT] at hx,fun v y hy=>by simp [wallR,deT] at hy⟩
 | d::l,n,i,lr,m,hg=>by
  have hh:pre gs n=[wall]:=pre_yes (hg n (Nat.le_refl _) (by simp))
  have hw:∀ (i m:Nat) (lr:Int),deD t i lr m wall=[⟨t,i,false,wall,lr⟩]:=fun i m lr=>by simp [deD,wall,lrOf,reads]
  rw [wallR,hh,List.singleton_append,deT,hw,deT]
  obtain ⟨hB,hW⟩:=btwR gs t l (n+1) (i+1+1) (lrOf (lrOf lr m wall) (m+[(⟨t,i,false,wall,lr⟩:De)].length) d) (m+[(⟨t,i,false,wall,lr⟩:De)].length+(deD t (i+1) (lrOf lr m wall) (m+[(⟨t,i,false,wall,lr⟩:De)].length) d).length) (fun q h1 h2=>hg q (by omega) (by simp;omega))
  have hS:=btw_step (t:=t) (i:=i+1) (n:=m+[(⟨t,i,false,wall,lr⟩:De)].length) (lr:=lrOf lr m wall) (d:=d) hB (fun x hx=>(mem_deT t _ _ _ _ x hx).2) hW
  constructor
  ·intro u v x y hx hy huv ht hwx hwy
   cases u with
   | zero =>
    simp at hx
    rw [← hx] at hwx
    simp [isWall,wall] at hwx
   | succ u =>
    obtain ⟨v,rfl⟩:∃ v',v=v'+1:=⟨v - 1,by omega⟩
    rw [List.singleton_append,List.getElem?_cons_succ] at hx hy
    obtain ⟨w,z,h1,h2,h3,h4⟩:=hS u v x y hx hy (by omega) ht hwx hwy
    exact ⟨w+1,z,by omega,by omega,by rw [List.singleton_append,List.getElem?_cons_succ];exact h3,h4⟩
  ·intro v y hy hwy
   cases v with
   | zero =>
    simp at hy
    rw [← hy] at hwy
    simp [isWall,wall] at hwy
   | succ v=>exact ⟨0,_,by omega,rfl,by simp [isWall,wall]⟩
theorem btwF (gs:List Int):∀ (ll:List (List D)) (t n m:Nat),(∀ q:Nat,n≤q→q < n+gapsN ll→has gs (q:Int)=true)→Btw (deF t m (walls gs n ll))
 | [],t,n,m,_=>fun u v x y hx=>by simp [walls,deF] at hx
 | l::ll,t,n,m,hg=>by
  have hB:Btw (deT t 0 (-1) m (wallT gs n l)):=by
   cases l with
   | nil=>exact fun u v x y hx=>by simp [wallT,deT] at hx
   | cons d l =>
    rw [wallT,deT]
    obtain ⟨h1,h2⟩:=btwR gs t l n 1 (lrOf (-1) m d) (m+(deD t 0 (-1) m d).length) (fun q h1 h2=>hg q h1 (by simp only [gapsN,List.length_cons];omega))
    exact btw_step h1 (fun x hx=>(mem_deT t _ _ _ _ x hx).2) h2
  have hC:=btwF gs ll (t+1) (n+(l.length - 1)) (m+(deT t 0 (-1) m (wallT gs n l)).length) (fun q h1 h2=>hg q (by omega) (by simp only [gapsN];omega))
  rw [walls,deF]
  intro u v x y hx hy huv ht hwx hwy
  rcases Nat.lt_or_ge v (deT t 0 (-1) m (wallT gs n l)).length with hv | hv
  ·rw [List.getElem?_append_left hv] at hy
   rw [List.getElem?_append_left (by omega)] at hx
   obtain ⟨w,z,h1,h2,h3,h4⟩:=hB u v x y hx hy huv ht hwx hwy
   exact ⟨w,z,h1,h2,by rw [List.getElem?_append_left (by omega)];exact h3,h4⟩
  ·rw [List.getElem?_append_right hv] at hy
   have ty:=(mem_deF _ _ _ y (mem_of_get hy)).1
   rcases Nat.lt_or_ge u (deT t 0 (-1) m (wallT gs n l)).length with hu | hu
   ·rw [List.getElem?_append_left hu] at hx
    have:=(mem_deT t _ _ _ _ x (mem_of_get hx)).2
    omega
   ·rw [List.getElem?_append_right hu] at hx
    obtain ⟨w,z,h1,h2,h3,h4⟩:=hC _ _ x y hx hy (by omega) ht hwx hwy
    refine ⟨(deT t 0 (-1) m (wallT gs n l)).length+w,z,by omega,by omega,?_,h4⟩
    rw [List.getElem?_append_right (by omega),show (deT t 0 (-1) m (wallT gs n l)).length+w - (deT t 0 (-1) m (wallT gs n l)).length=w by omega];exact h3
theorem btw_strict {mm:List (List D)} (hB:Btw (deeds mm)) {y:Wy} (hy:orderHolds mm y.1 y.2 3=true):orderHolds mm y.1 y.2 1=true:=by
 obtain ⟨_,he,h0,hs⟩:=(holds_iff (k:=3)).1 hy
 have hwo:=(exec_wo.1 he).2
 have wallL:∀ {u v:Nat} {x z:De},(deeds mm)[u]?=some x→(deeds mm)[v]?=some z→u < v→x.t=z.t→(isWall x.d.k=true∨isWall z.d.k=true)→(u,v)∈linksOf (netOf (deeds mm) y.1 y.2 3) (deeds mm).length:=fun {u v x z} hx hz huv ht hw=>mem_net.2 ⟨x,z,hx,hz,by
  simp only [must,loose,keeps]
  rw [own_iff.2 ⟨huv,ht⟩]
  rcases hw with h | h<;>simp [h]⟩
 have ownL:∀ {u v:Nat} {x z:De},(deeds mm)[u]?=some x→(deeds mm)[v]?=some z→own u v x z=true→Leads (linksOf (netOf (deeds mm) y.1 y.2 3) (deeds mm).length) u v:=by
  intro u v x z hx hz ho
  obtain ⟨huv,ht⟩:=own_iff.1 ho
  cases hwx:isWall x.d.k
  ·cases hwz:isWall z.d.k
   ·obtain ⟨w,q,h1,h2,h3,h4,h5⟩:=hB u v x z hx hz huv ht hwx hwz
    exact .more (.one (wallL hx h3 h1 h5.symm (.inr h4))) (wallL h3 hz h2 (by omega) (.inl h4))
   ·exact .one (wallL hx hz huv ht (.inr hwz))
  ·exact .one (wallL hx hz huv ht (.inl hwx))
 refine (holds_iff (k:=1)).2 ⟨by omega,he,h0,sat_map (f:=id) (fun l hl=>?_) (fun c hc=>hc) hs⟩
 obtain ⟨u,v⟩:=l
 obtain ⟨x,z,hx,hz,hm⟩:=mem_net.1 hl
 simp only [must] at hm
 rw [Bool.or_eq_true] at hm
 rcases hm with hm | hm
 ·exact ownL hx hz hm
 ·have hu:=tell_uses hwo hx hz hm
  by_cases ht:x.t=z.t
  ·rcases Nat.lt_or_ge u v with huv | huv
   ·exact ownL hx hz (own_iff.2 ⟨huv,ht⟩)
   ·exfalso
    have hlt:v < u:=by have:=hu.1;omega
    refine h0 ⟨u,.more (.one (mem_net.2 ⟨x,z,hx,hz,by simp only [must];rw [hm,Bool.or_true]⟩)) (mem_net.2 ⟨z,x,hz,hx,?_⟩)⟩
    simp only [must,onePl]
    rw [own_iff.2 ⟨hlt,ht.symm⟩,hu.2.1,hu.2.2.1,hu.2.2.2]
    simp
  ·show Leads _ u v
   refine .one (mem_net.2 ⟨x,z,hx,hz,?_⟩)
   have h2:two x z=true:=by simp [two,ht]
   simp only [must]
   rw [h2,Bool.true_and,Bool.true_and,hm,Bool.or_true]
theorem all_walls {ll:List (List D)} {gs:List Int} (hp:prog ll=true) (hq:prog (walls gs 0 ll)=true) (hg:∀ q:Nat,q < gapsN ll→has gs (q:Int)=true) {k:Nat} (hk:1≤k∧k≤3):orderAll (walls gs 0 ll) k=orderAll ll 1:=by
 obtain ⟨pos,back,h⟩:=ins_walls gs ll
 have hB:Btw (deeds (walls gs 0 ll)):=btwF gs ll 0 0 0 fun q _ h2=>hg q (by omega)
 have same:∀ y:Wy,orderHolds (walls gs 0 ll) y.1 y.2 k=true↔orderHolds (walls gs 0 ll) y.1 y.2 1=true:=fun y=>by
  rcases (show k=1∨k=2∨k=3 by omega) with rfl | rfl | rfl
  ·exact Iff.rfl
  ·exact ⟨fun h=>btw_strict hB (holds_loose h),fun h=>holds_late h⟩
  ·exact ⟨fun h=>btw_strict hB h,fun h=>holds_loose (holds_late h)⟩
 refine orderAll_eq fun z=>?_
 rw [mem_orderAll,mem_orderAll]
 constructor
 ·rintro ⟨y,hy,rfl⟩
  obtain ⟨x,hx,e⟩:=ins_down (k:=1) h hp hq ((same y).1 hy)
  exact ⟨x,hx,e⟩
 ·rintro ⟨x,hx,rfl⟩
  obtain ⟨y,hy,e⟩:=ins_up h hp hq hx
  exact ⟨y,(same y).2 hy,e⟩
end M
end Go.Proofs.YtjjkicffhpcngaaGreat
namespace Go.Proofs.YtjjkicffhpcngaaGreat
open Go.RowKit
set_option maxHeartbeats 4000000 in
set_option maxRecDepth 10000 in
theorem swallPut_any (a:Option Addr) (b o c:Nat) (ll:List (List M.D)) (hl:ll.length≤1048576) (hls:∀ t∈ll,t.length≤1048576) (ga:Option Addr) (gb go gc:Nat) (gs:List Int) (hgl:gs.length≤1048576) (w:World) (h:DoSS w a b o ll) (hG:IntS w ga gb go gs) :
  Calls Tryz.prog 40 #[.agg #[.slice a ll.length c],.slice ga gs.length gc] w fun e w'=>∃ v,e=.returned (.tuple #[.agg #[v],.bool (M.wallPut ll gs).isSome])∧∃ vs,Rdg w' w.heap.size v ((M.wallPut ll gs).getD []) vs∧Below w.heap.size w w':=by
 obtain ⟨i0,hi,hz0,hz1,hz2⟩:=info_parts Tryz.info41
 obtain ⟨i1,ji,jz0,jz1,jz2⟩:=info_parts Tryz.info43
 have b2:=below2 w (.cells #[.slice a ll.length c] 25) (.cells #[.slice none 0 0] 25)
 have h2:=h.below b2 (Nat.le_refl _)
 have hG2:=hG.below b2 (Nat.le_refl _)
 have hX:=(Slot1.new w (.slice a ll.length c) 25).bl' (below1 _ (.cells #[.slice none 0 0] 25))
 have hY:=Slot1.new (w.alloc (.cells #[.slice a ll.length c] 25)) (.slice none 0 0) 25
 rw [World.size_alloc] at hY
 go_enter Tryz.func40,Tryz.ntmps40
 cases hp:M.prog ll
 ·have hno:=M.wallPut_bad (gs:=gs) hp
  have CP:=sprog_any a b o c ll _ hl hls h2
  rw [hp] at CP
  go_wp2_with (first | (go_at_call 27;refine CP.mono ?_;rintro e W1 ⟨rfl,b1⟩;have hY1:=hY.bl' b1;have y0:=hY1.c;have yf:=hY1.fz;have ly:=hY1.lt))
  have bw1:=b2.trans (b1.mono b2.size)
  have q1:=(hY1.set (.slice none 0 0)).c
  exact bodyPost_ret (v:=.tuple #[.agg #[.slice none 0 0],.bool false]) (by simp [results,Tryz.results40,go_sem,q1]) rfl ⟨_,by rw [hno];rfl,[],by rw [hno];exact Rdg.nil _ _,bw1.setCell (by show w.heap.size≤w.heap.size+1;omega) _⟩
 ·obtain ⟨h3,h7⟩:=M.prog_le hp
  have hgm:=M.gapsN_le h7
  have CP:=sprog_any a b o c ll _ hl hls h2
  rw [hp] at CP
  have CO:=fun W hW=>l21Ok_any ga gb go gc gs (M.gaps ll) W hgl (by rw [M.gaps_ok hp];omega) (by rw [M.gaps_ok hp];omega) hW
  cases hok:M.gapsOk gs (M.gaps ll)
  ·have hno:=M.wallPut_gaps hok
   rw [hok] at CO
   clear hgm
   go_wp2_with (first | (go_at_call 27;refine CP.mono ?_;rintro e W1 ⟨rfl,b1⟩;have hX1:=hX.bl' b1;have x0:=hX1.c;have h1:=h2.below b1 (Nat.le_refl _);have hG1:=hG2.below b1 (Nat.le_refl _);have hY1:=hY.bl' b1) | (go_at_call 34;refine (sgaps_any a b o c ll _ hl hls h1).mono ?_;rintro e W2 ⟨rfl,b2'⟩;have hG3:=hG1.below b2' (Nat.le_refl _);have hY2:=hY1.bl' b2') | (go_at_call 66;refine (CO _ hG3).mono ?_;rintro e W3 ⟨rfl,b3⟩;have hY3:=hY2.bl' b3;have y0:=hY3.c;have yf:=hY3.fz;have ly:=hY3.lt))
   have bw1:=b2.trans (b1.mono b2.size)
   have bw2:=bw1.trans (b2'.mono bw1.size)
   have bw3:=bw2.trans (b3.mono bw2.size)
   have q1:=(hY3.set (.slice none 0 0)).c
   exact bodyPost_ret (v:=.tuple #[.agg #[.slice none 0 0],.bool false]) (by simp [results,Tryz.results40,go_sem,q1]) rfl ⟨_,by rw [hno];rfl,[],by rw [hno];exact Rdg.nil _ _,bw3.setCell (by show w.heap.size≤w.heap.size+1;omega) _⟩
  ·rw [hok] at CO
   have HQ:Hid (M.gapsOk gs (M.gaps ll)=true):=hok
   have HPq:Hid (M.prog ll=true):=hp
   clear hok hp hgm
   go_wp2_with (first | (go_at_call 27;refine CP.mono ?_;rintro e W1 ⟨rfl,b1⟩;have hX1:=hX.bl' b1;have x0:=hX1.c;have h1:=h2.below b1 (Nat.le_refl _);have hG1:=hG2.below b1 (Nat.le_refl _);have hY1:=hY.bl' b1) | (go_at_call 34;refine (sgaps_any a b o c ll _ hl hls h1).mono ?_;rintro e W2 ⟨rfl,b2'⟩;have hG3:=hG1.below b2' (Nat.le_refl _);have hY2:=hY1.bl' b2') | (go_at_call 66;refine (CO _ hG3).mono ?_;rintro e W3 ⟨rfl,b3⟩;have hY3:=hY2.bl' b3;have y0:=hY3.c;have yf:=hY3.fz;have ly:=hY3.lt))
   have bw1:=b2.trans (b1.mono b2.size)
   have bw2:=bw1.trans (b2'.mono bw1.size)
   have bw3:=bw2.trans (b3.mono bw2.size)
   have bA:=below1 W3 (.cells #[.slice none 0 0] 25)
   have hXA:=((hX1.bl' b2').bl' b3).bl' bA
   have hYA:=hY3.bl' bA
   have hZA:=Slot1.new W3 (.slice none 0 0) 25
   have bwA:=bw3.trans (bA.mono bw3.size)
   have hsA:(W3.alloc (.cells #[.slice none 0 0] 25)).heap.size=W3.heap.size+1:=by simp
   generalize W3.alloc (.cells #[.slice none 0 0] 25)=WA at *
   have hOlt:w.heap.size+1 < W3.heap.size:=ly
   generalize W3.heap.size=O at *
   clear CP CO x0 y0 yf ly b1 b2' b3 bA hX hY h2 hG2 hX1 hY1 h1 hG1 hG3 hY2 hY3 bw1 bw2 bw3 b2
   go_loopw [7,8] (fun s7 s8 wr=>∃ (n:Nat) (v:Value) (vs:List Value),s7=.int .i64 (M.gapsN (ll.take n))∧s8=.int .i64 n∧n≤ll.length∧Rdg wr (O+1) v (M.walls gs 0 (ll.take n)) vs∧Slot1 wr O v∧Slot1 wr w.heap.size (.slice a ll.length c)∧Slot1 wr (w.heap.size+1) (.slice none 0 0)∧Below w.heap.size w wr) (fun _ s8 _=>ll.length - (intOf s8).toNat)
   case atStart=>exact ⟨0,.slice none 0 0,[],by simp [M.gapsN],rfl,Nat.zero_le _,by simpa [M.walls] using Rdg.nil _ _,hZA,hXA,hYA,bwA⟩
   case round =>
    obtain ⟨n,v,vs,rfl,rfl,hn,hR,hP,hX,hY,hbel⟩:=hrel
    clear hZA hXA hYA bwA
    have x0:=hX.c
    by_cases hlt:n < ll.length
    ·obtain ⟨rfl⟩:=h.addr (by omega)
     obtain ⟨a',b',o',c',hc,hd⟩:=(h.below hbel (Nat.le_refl _)).row n hlt
     have hGr:=hG.below hbel (Nat.le_refl _)
     have ht7:=h7 _ (List.getElem_mem hlt)
     have HW:Hid (M.walls gs 0 (ll.take (n+1))=M.walls gs 0 (ll.take n)++[M.wallT gs (M.gapsN (ll.take n)) ll[n]]):=M.walls_take gs ll n hlt
     have HN:Hid (M.gapsN (ll.take (n+1))=M.gapsN (ll.take n)+(ll[n].length - 1)):=M.gapsN_take ll n hlt
     have hgn:=M.gapsN_le (ll:=ll.take n) (fun t ht=>h7 t (List.mem_of_mem_take ht))
     have hgl3:(ll.take n).length≤3:=by simp;omega
     have hwl:(M.walls gs 0 (ll.take n)).length≤3:=by rw [M.walls_len];exact hgl3
     generalize hT:M.gapsN (ll.take n)=T at *
     clear hT
     generalize ll[n]=t at *
     generalize M.walls gs 0 (ll.take n)=mm at *
     have hTb:T≤18:=by omega
     clear hgn hgl3
     have i1':(n:Int) < ll.length:=by omega
     have hcl:b < wr.heap.size:=World.block_lt_of_cell? _ _ hc
     go_wp2_with fail
     go_loopw [7,9,10] (fun s7 s9 s10 wi=>∃ k:Nat,s7=.int .i64 ((T+min k (t.length - 1):Nat):Int)∧s10=.int .i64 k∧k≤t.length∧wi.ownsRow wr.heap.size 43 3 s9 (M.wallS gs T t k).length (flat (M.wallS gs T t k))∧Below wr.heap.size wr wi) (fun _ _ s10 _=>t.length - (intOf s10).toNat)
     case atStart=>exact ⟨0,by simp,rfl,Nat.zero_le _,by rw [M.wallS_zero];exact World.ownsRow_made _ _ 0 (Nat.le_refl _) (Nat.zero_le _) rfl,below1 _ _⟩
     case round =>
      obtain ⟨k,rfl,rfl,hk,hown,hbi⟩:=hrel
      have hXi:=hX.bl' hbi
      have x0i:=hXi.c
      have hci:=(hbi.cell (p:=⟨b,o+n,none⟩) hcl).trans hc
      have hbs:=hbi.size
      by_cases hkt:k < t.length
      ·obtain ⟨rfl⟩:=hd.addr (by omega)
       have x1:=(hd.row k hkt).below hbi (Nat.le_refl _)
       have hGi:=hGr.below hbi (Nat.le_refl _)
       have HX:Hid (M.wallS gs T t (k+1)=M.wallS gs T t k++[t[k]]++(if k+1 < t.length then M.pre gs (T+k) else [])):=M.wallS_step gs T t k hkt
       have hlen:=M.wallS_len gs T t k
       generalize M.wallS gs T t k=l at *
       have hl15:l.length≤15:=by omega
       clear hlen
       generalize t[k]=d at *
       obtain ⟨kk,pp,vv⟩:=d
       obtain ⟨ck,cp,cv⟩:=x1
       have j1:(k:Int) < t.length:=by omega
       have hmk:min k (t.length - 1)=k:=by omega
       have HM:Hid (min k (t.length - 1)=k):=hmk
       obtain ⟨TT,hTT⟩:∃ TT,T+k=TT:=⟨_,rfl⟩
       have HTT:Hid (T+k=TT):=hTT
       have hTk:TT≤100:=by omega
       rw [hTT] at HX
       rw [hmk,hTT]
       clear hmk x0 hTT
       go_wp2_with (at_builtin;refine wpList_append_own _ rfl (.tmp 41) (.tmp 50) 41 rfl _ 43 i1 _ 3 24 Tryz.underlying41 ji jz0 jz1 jz2 rfl (by decide) _ _ _ rfl (hown.alloc _) ⟨wr.heap.size,0,none⟩ 1 1 [.int .i64 kk,.int .i64 pp,.int .i64 vv] rfl rfl (cells_new3 _ _ _ _ _ _ (by simp)) (one3 _ _ _) (by unfold maxLen;omega) (by omega) (by simp;omega) ?_)
       intro v3 w3 hown3 hg3 _
       have hown4:=own_more (m:=l++[⟨kk,pp,vv⟩]) rfl hown3
       have hb3:Below _ _ w3:=below_grown (hbi.trans ((below1 wr _).mono hbi.size)) hg3 (own_ge hown) (by simp;omega)
       have hXi:=hX.bl' hb3
       have hci:=(hb3.cell (p:=⟨b,o+n,none⟩) hcl).trans hc
       have hGi:=hGr.below hb3 (Nat.le_refl _)
       have hl16:(l++[(⟨kk,pp,vv⟩:M.D)]).length≤16:=by simp;omega
       have hbs3:=hb3.size
       generalize l++[(⟨kk,pp,vv⟩:M.D)]=l3 at *
       clear hown3 hg3 hown x0i ck cp cv
       have x0i:=hXi.c
       by_cases hk1:k+1 < t.length
       ·have hk1':(k:Int)+1 < t.length:=by omega
        have HX1:Hid (M.wallS gs T t (k+1)=l3++M.pre gs TT):=by show _=_;have:=HX.out;rwa [if_pos hk1] at this
        have CC:=fun W hW=>l12Has_any ga gb go gc gs (TT:Int) W hgl hW
        have HN1:Hid ((TT:Int)+1=((T+min (k+1) (t.length - 1):Nat):Int)):=by show _=_;have:=HTT.out;omega
        cases hhas:M.has gs (TT:Int)
        ·have HX2:Hid (M.wallS gs T t (k+1)=l3):=by show _=_;rw [HX1.out,M.pre_no hhas];simp
         rw [hhas] at CC
         clear hhas HX1 HX
         go_wp2_with (first | (go_at_call 67;refine (CC _ hGi).mono ?_;rintro e w1 ⟨rfl,rfl⟩))
         exact ⟨⟨k+1,by rw [HN1.out],by go_num,by omega,by rw [HX2.out];exact hown4,hb3⟩,by simp [intOf];omega⟩
        ·have HX2:Hid (M.wallS gs T t (k+1)=l3++[M.wall]):=by show _=_;rw [HX1.out,M.pre_yes hhas]
         rw [hhas] at CC
         clear hhas HX1 HX
         go_wp2_with (first | (go_at_call 67;refine (CC _ hGi).mono ?_;rintro e w1 ⟨rfl,rfl⟩) | (at_builtin;refine wpList_append_own _ rfl (.tmp 64) (.tmp 66) 41 rfl _ 43 i1 _ 3 24 Tryz.underlying41 ji jz0 jz1 jz2 rfl (by decide) _ _ _ rfl (hown4.alloc _) ⟨w1.heap.size,0,none⟩ 1 1 [.int .i64 4,.int .i64 0,.int .i64 0] rfl rfl (cells_new3 _ _ _ _ _ _ (by simp)) (one3 _ _ _) (by unfold maxLen;omega) (by omega) (by simp;omega) ?_))
         intro v5 w5 hown5 hg5 _
         have hown6:=own_more HX2.out hown5
         have hb5:Below _ _ w5:=below_grown (hb3.trans ((below1 w1 _).mono hb3.size)) hg5 (own_ge hown4) (by simp;omega)
         clear hown5 hg5 hown4
         go_wp2_with fail
         exact ⟨⟨k+1,by rw [HN1.out],by go_num,by omega,hown6,hb5⟩,by simp [intOf];omega⟩
       ·have hk1':¬ (k:Int)+1 < t.length:=by omega
        have HX2:Hid (M.wallS gs T t (k+1)=l3):=by show _=_;have:=HX.out;rw [if_neg hk1,List.append_nil] at this;exact this
        have HN1:Hid (TT=T+min (k+1) (t.length - 1)):=by show _=_;have:=HTT.out;omega
        clear HX
        go_wp2_with fail
        exact ⟨⟨k+1,by rw [← HN1.out],by go_num,by omega,by rw [HX2.out];exact hown4,hb3⟩,by simp [intOf];omega⟩
      ·have hkk:k=t.length:=by omega
       have HT:Hid (T+min k (t.length - 1)=M.gapsN (ll.take (n+1))):=by show _=_;rw [HN.out,hkk];congr 1;omega
       obtain ⟨TT,hTT⟩:∃ TT,T+min k (t.length - 1)=TT:=⟨_,rfl⟩
       have hTk:TT≤100:=by omega
       rw [hTT] at HT
       rw [hTT]
       clear hTT
       rw [M.wallS_fin gs T t k (by omega)] at hown
       have k1:¬ (k:Int) < t.length:=by omega
       clear hkk x0
       have hRi:=hR.below hbi
       have hPi:=hP.bl' hbi
       have hYi:=hY.bl' hbi
       have hbw:=hbel.trans (hbi.mono hbel.size)
       have hlap:∀ i (hi:i < vs.length) k,vs[i].ownBlock=some k→u9.ownBlock≠some k:=fun i hi j hj e=>by
        have h1:=(hR.b.inner i (by have:=hR.b.len;omega) hi).lt j hj
        have h2:=own_ge hown j e
        omega
       have hown':=ownsRow_mono hown (show O+1≤_ from by have:=hP.lt;omega)
       obtain ⟨at_,gt,ct,rfl,_⟩:=own_steps hown
       have hlen:=M.wallT_len gs T t
       generalize M.wallT gs T t=tt at *
       obtain ⟨av,gv,cv,rfl,_⟩:=hRi.b.ss
       have p0:=hPi.c
       have pf:=hPi.fz
       have lP:=hPi.lt
       have hout:=hRi.b.outer
       clear hown hR hP hX hY
       go_wp2_with (at_builtin;refine wpList_append_lies _ rfl (.tmp 71) (.tmp 73) 23 rfl (O+1) 41 i0 _ 1 24 Tryz.underlying23 hi hz0 hz1 hz2 rfl (by decide) _ _ vs rfl (hout.alloc _) ⟨wr.heap.size,0,none⟩ 1 1 [.slice at_ tt.length ct] rfl rfl (World.news_of_block (cs:=#[.slice at_ tt.length ct]) (t:=41) (fr:=(0,0)) (heap_alloc_new wr _)) (by simp [Value.oneCell']) (by omega) (by unfold maxLen;omega) (by omega) (by simp;omega) (wr.heap.size+1) (by simp) ?_)
       intro g2 cap2 w3 hown3 hg3 hat hlt3
       have hge:=own_ge hout
       have bA:=below1 wr (.cells #[.slice at_ tt.length ct] 41)
       have hP3:=(hPi.bl' bA).apart hg3 (fun e=>by have:=hge _ e;omega)
       have hX3:=(hXi.bl' bA).apart hg3 (fun e=>by have:=hge _ e;omega)
       have hY3:=(hYi.bl' bA).apart hg3 (fun e=>by have:=hge _ e;omega)
       have hR3:=(hRi.below bA).snocT (ownsRow_below hown' bA) hlap hown3 hg3
       have hb3:Below w.heap.size w w3:=below_grown (hbw.trans (bA.mono hbw.size)) hg3 (fun k hk=>by have:=hge k hk;omega) (by have:=hbw.size;simp;omega)
       rw [← HW.out] at hR3
       clear hown3 hg3 hat hout hown' p0 pf hRi hPi hYi
       have p0:=hP3.c
       have pf:=hP3.fz
       go_wp2_with fail
       have hP4:=hP3.set (.slice (some ⟨g2,0,none⟩) (mm.length+1) cap2)
       exact ⟨⟨n+1,_,_,by rw [HT.out],by go_num,by omega,hR3.far (by omega) _,hP4,hX3.far (by omega) _,hY3.far (by omega) _,hb3.setCell (by show w.heap.size≤O;omega) _⟩,by simp [intOf];omega⟩
    ·have hW:M.walls gs 0 (ll.take n)=M.walls gs 0 ll:=by rw [List.take_of_length_le (by omega)]
     rw [hW] at hR
     obtain ⟨av,gv,cv,rfl,hs3⟩:=hR.b.ss
     have hl3:(M.walls gs 0 ll).length≤1048576:=by rw [M.walls_len];omega
     have hls3:∀ t∈M.walls gs 0 ll,t.length≤1048576:=fun t ht=>by have:=M.walls_le gs ll h7 0 t ht;omega
     have n1:¬ (n:Int) < ll.length:=by omega
     have p0:=hP.c
     have CQ:=sprog_any av gv 0 cv _ wr hl3 hls3 hs3
     cases hpw:M.prog (M.walls gs 0 ll)
     ·have hno:=M.wallPut_over hpw
      rw [hpw] at CQ
      go_wp2_with (first | (go_at_call 27;refine CQ.mono ?_;rintro e W5 ⟨rfl,b5⟩;have hY5:=hY.bl' b5;have y0:=hY5.c;have yf:=hY5.fz;have ly:=hY5.lt))
      have bw5:=hbel.trans (b5.mono hbel.size)
      have q1:=(hY5.set (.slice none 0 0)).c
      exact bodyPost_ret (v:=.tuple #[.agg #[.slice none 0 0],.bool false]) (by simp [results,Tryz.results40,go_sem,q1]) rfl ⟨_,by rw [hno];rfl,[],by rw [hno];exact Rdg.nil _ _,bw5.setCell (by show w.heap.size≤w.heap.size+1;omega) _⟩
     ·have hyes:=M.wallPut_yes HPq.out HQ.out hpw
      rw [hpw] at CQ
      go_wp2_with (first | (go_at_call 27;refine CQ.mono ?_;rintro e W5 ⟨rfl,b5⟩;have hY5:=hY.bl' b5;have y0:=hY5.c;have yf:=hY5.fz;have ly:=hY5.lt;have hP5:=hP.bl' b5;have p5:=hP5.c))
      have bw5:=hbel.trans (b5.mono hbel.size)
      have hR5:=hR.below b5
      have q1:=(hY5.set (.slice av (M.walls gs 0 ll).length cv)).c
      exact bodyPost_ret (v:=.tuple #[.agg #[.slice av (M.walls gs 0 ll).length cv],.bool true]) (by simp [results,Tryz.results40,go_sem,q1]) rfl ⟨_,by rw [hyes];rfl,vs,by rw [hyes];exact (hR5.far (by omega) _).mono (by omega),bw5.setCell (by show w.heap.size≤w.heap.size+1;omega) _⟩
end Go.Proofs.YtjjkicffhpcngaaGreat
