/- spec's machine: a reader goes out. Of a machine of three threads. And what goes with it: SmOut, SmPl, SmStB, SmSta, SmStf. -/
import Derived.Test.YtnddmlgnngdaoaaRows
import Derived.Test.YtnddmlgnngdaoaaQjai
import Derived.Test.YtnddmlgnngdaoaaQjar
import Derived.Test.YtnddmlgnngdaoaaQjas
namespace Go.Proofs.Ytnddmlgnngdaoaa
section
open Go.RowKit
def M.St.outTo (s:M.St) (t m:Nat):M.St:=⟨(List.range s.th.length).map fun j=>if j < m then ((s.put t { s.t t with inn:=false }).t j).free t else (s.put t { s.t t with inn:=false }).t j,s.at_⟩
theorem M.outTo_t (s:M.St) (t m j:Nat) (hj:j < s.th.length):(s.outTo t m).t j=if j < m then ((s.put t { s.t t with inn:=false }).t j).free t else (s.put t { s.t t with inn:=false }).t j:=by
 simp [M.St.t,M.St.outTo,hj]
theorem M.outTo_len (s:M.St) (t m:Nat):(s.outTo t m).th.length=s.th.length:=by simp [M.St.outTo]
theorem M.St.ext_t {s s':M.St} (hl:s.th.length=s'.th.length) (ha:s.at_=s'.at_) (h:∀ j,j < s.th.length→s.t j=s'.t j):s=s':=by
 obtain ⟨l,a⟩:=s
 obtain ⟨l',a'⟩:=s'
 simp only at hl ha
 subst ha
 have:l=l':=by
  apply List.ext_getElem hl
  intro j h1 h2
  have:=h j h1
  rw [M.t_get _ _ h1,M.t_get _ _ h2] at this
  exact this
 rw [this]
theorem M.outTo_zero (s:M.St) (t:Nat):s.outTo t 0=s.put t { s.t t with inn:=false } :=
 M.St.ext_t (by rw [M.outTo_len,M.put_len]) rfl (fun j hj=>by rw [M.outTo_len] at hj;rw [M.outTo_t _ _ _ _ hj,if_neg (by omega)])
theorem M.outTo_all (s:M.St) (t:Nat) (hs:s.th.length=3):s.outTo t 3=s.goOut t :=
 M.St.ext_t (by rw [M.outTo_len];simp [M.St.goOut,M.St.put]) rfl (fun j hj=>by
  rw [M.outTo_len] at hj
  rw [M.outTo_t _ _ _ _ hj,if_pos (by omega),M.goOut_t _ _ _ hs (by omega)])
theorem M.outTo_succ (s:M.St) (t m:Nat) (hm:m < s.th.length):s.outTo t (m+1)=(s.outTo t m).put m (((s.outTo t m).t m).free t) :=
 M.St.ext_t (by rw [M.outTo_len,M.put_len,M.outTo_len]) rfl (fun j hj=>by
  rw [M.outTo_len] at hj
  rw [M.t_put (s.outTo t m) m j _ (by rw [M.outTo_len];exact hm),M.outTo_t s t (m+1) j hj,M.outTo_t s t m m hm,if_neg (Nat.lt_irrefl m),M.outTo_t s t m j hj]
  by_cases e:j=m
  ·subst e;rw [if_pos (Nat.lt_succ_self j),if_pos rfl]
  ·rw [if_neg e]
   by_cases h:j < m
   ·rw [if_pos h,if_pos (by omega)]
   ·rw [if_neg h,if_neg (by omega)])
theorem M.Th.wt_free (n:Nat) (x:M.Th) (t:Nat):(x.free t).wt n=(x.wt n).set t false:=by
 unfold M.Th.wt M.Th.free
 simp only
 split
 ·rw [List.take_set]
 ·rfl
theorem SM.same {w:World} {base X:Nat} {a:Option Addr} {n c:Nat} {vs:Rid→Value} {s s':M.St} (h:SM w base X a n c vs s) (e:∀ r,okN n r→s'.rw_ n (fun _=>n) vs r=s.rw_ n (fun _=>n) vs r):SM w base X a n c vs s' :=
 ⟨h.box,fun r hr=>by rw [e r hr];exact SMN.own h r hr,h.ap,h.bX⟩
theorem SM.cellW {w:World} {base X:Nat} {a:Option Addr} {n c:Nat} {vs:Rid→Value} {s s':M.St} (h:SM w base X a n c vs s) {m i len:Nat} (hm:m < n) {v':Value} {g cap:Nat} (hv:vs (.sub 5 m)=.slice (some ⟨g,0,none⟩) len cap) (hl:((s.t m).wt n).length=len)
  (ho:(s'.rw_ n (fun _=>n) vs (.sub 5 m))=⟨4,1,len,(((s.t m).wt n).map .bool).set i v'⟩)
  (hrest:∀ r,okN n r→r≠.sub 5 m→s'.rw_ n (fun _=>n) vs r=s.rw_ n (fun _=>n) vs r):SM (w.setCell ⟨g,i,none⟩ v') base X a n c vs s':=by
 have hk0:okN n (.sub 5 m):=⟨by omega,hm⟩
 have ho1:=h.waits hm
 rw [hv,hl] at ho1
 obtain ⟨st1,st2⟩:=World.ownsRow.stored ho1 i v'
 have h2:=SMN.put h (r0:=.sub 5 m) (N':=fun _=>n) (us':=vs) (s':=s') hk0 (by rw [hv];exact st2) (v':=.slice (some ⟨g,0,none⟩) len cap) (by rw [ho];exact st1) (Or.inl (by rw [hv])) hrest (fun _=>rfl)
 rw [← hv,setR_self] at h2
 exact h2
set_option maxHeartbeats 1000000 in
theorem sout_any (base X i:Nat) (a:Option Addr) (n c:Nat) (vs:Rid→Value) (s:M.St) (w:World) (h:SM w base X a n c vs s) (hi:i < n) (hn:n≤3) (hs:s.th.length=3) (hnt:∀ j,j < 3→(s.t j).noted.length=3) :
  Calls Try.prog 54 #[.pointer (some ⟨X,0,none⟩),.int .i64 i] w fun e w'=>e=.returned (.tuple #[])∧SME w' base X a n c (s.goOut i)∧Below base w w':=by
 have i1:(i:Int) < n:=by omega
 have hbX:=h.bX
 obtain ⟨g4,c4,hv4,hb4,hf4⟩:=h.top (k:=4) (by omega) (by omega)
 have k4:=h.ck (k:=4) (by omega)
 rw [hv4] at k4
 have ki:=h.innAt hv4 hi
 have hf:=hf4 i
 have hS:=h.cell (k:=4) (i:=i) (s':=s.put i { s.t i with inn:=false }) (v':=.bool false) (Or.inr rfl) hv4 (by
  simp only [M.St.rw_,setL_map hi]
  congr 1
  apply List.map_congr_left
  intro j hj
  rw [M.t_put _ _ _ _ (by omega)]
  by_cases e:j=i
  ·subst e;rw [if_pos rfl,if_pos rfl]
  ·rw [if_neg e,if_neg e]) (fun rr _ hne=>rw_put s i _ (by omega) rr (fun _=>rfl) (fun e=>absurd e hne) (fun _=>rfl) (fun _=>rfl) (fun _=>rfl))
 have hbS:Below base w (w.setCell ⟨g4,i,none⟩ (.bool false)):=(Below.refl _ _).setCell (by show base≤g4;exact hb4) _
 go_enter Try.func54,Try.ntmps54
 go_wp2_with fail
 rw [← M.outTo_zero] at hS
 clear k4 ki hf4 hf h
 generalize w.setCell ⟨g4,i,none⟩ (.bool false)=W at *
 obtain ⟨g5,c5,hv5,hb5,hf5⟩:=hS.top (k:=5) (by omega) (by omega)
 go_loopw [4] (fun s4 wr=>∃ m:Nat,s4=.int .i64 m∧m≤n∧(∃ vs',SM wr base X a n c vs' (s.outTo i m))∧Below base w wr) (fun s4 _=>n - (intOf s4).toNat)
 case atStart=>exact ⟨0,rfl,by omega,⟨vs,hS⟩,hbS⟩
 case round =>
  obtain ⟨m,rfl,hm,⟨vs',hM⟩,hbm⟩:=hrel
  clear hS hbS hv5 hv4
  obtain ⟨g5,c5,hv5,hb5,hf5⟩:=hM.top (k:=5) (by omega) (by omega)
  have k5:=hM.ck (k:=5) (by omega)
  rw [hv5] at k5
  by_cases hlt:m < n
  ·have i2:(m:Int) < n:=by omega
   have kr:=hM.subAt (Or.inr (Or.inr rfl)) hv5 hlt
   have hown:=hM.waits hlt
   obtain ⟨la,lc,hvl,hlc⟩:=own_sl hown
   rw [hvl] at kr hown
   have HW:Hid ((((s.outTo i m).t m).wt n).length=if ((s.outTo i m).t m).waits then n else 0):=by
    show _=_
    unfold M.Th.wt
    split
    ·rw [List.length_take,M.outTo_t _ _ _ _ (by omega),if_neg (Nat.lt_irrefl m),M.t_put _ _ _ _ (by omega)]
     have:=hnt m (by omega)
     split
     ·rename_i e;subst e;show min n (s.t m).noted.length=n;omega
     ·omega
    ·rfl
   have hsucc:=M.outTo_succ s i m (by omega)
   by_cases hw:((s.outTo i m).t m).waits=true
   ·have hln:(((s.outTo i m).t m).wt n).length=n:=by rw [HW.out,if_pos hw]
    rw [hln] at kr hown hlc
    obtain ⟨gl,cl,hvl',hbl,hcl⟩:=own_slp hown (by omega)
    simp only [Value.slice.injEq,true_and] at hvl'
    obtain ⟨rfl,rfl⟩:=hvl'
    have kb:wr.cell? ⟨gl,i,none⟩=some (.bool (((s.outTo i m).t m).wt n)[i]):=own_cellE hown (by simp [hln,hi])
    have kf:wr.frozen? ⟨gl,i,none⟩=false:=World.ownsRow.frozenAt hown i
    have hM2:=hM.cellW (m:=m) (i:=i) (s':=s.outTo i (m+1)) (v':=.bool false) hlt (by rw [hvl,hln]) hln (by
     rw [hsucc]
     show Rw.mk _ _ (M.Th.wt n (M.St.t _ m)).length ((M.Th.wt n (M.St.t _ m)).map .bool)=_
     rw [M.t_put _ _ _ _ (by rw [M.outTo_len];omega),if_pos rfl,M.Th.wt_free,List.length_set,hln,List.map_set]) (fun rr _ hne=>by
     rw [hsucc]
     exact rw_put _ m _ (by rw [M.outTo_len];omega) rr (fun _=>rfl) (fun _=>rfl) (fun _=>rfl) (fun _=>rfl) (fun e=>absurd e hne))
    have hbm2:Below base w (wr.setCell ⟨gl,i,none⟩ (.bool false)):=hbm.setCell (by show base≤gl;exact hbl) _
    have hn0:(0:Int) < n:=by omega
    generalize (((s.outTo i m).t m).wt n)[i]=y at kb
    clear hM hown hvl hsucc HW hw hln hf5
    go_wp2_with fail
    exact ⟨⟨m+1,by go_num,by omega,⟨vs',hM2⟩,hbm2⟩,by simp [intOf];omega⟩
   ·have hln:(((s.outTo i m).t m).wt n).length=0:=by rw [HW.out,if_neg hw]
    rw [hln] at kr
    have hM2:SM wr base X a n c vs' (s.outTo i (m+1)):=hM.same (fun rr _=>by
     rw [hsucc]
     exact rw_put _ m _ (by rw [M.outTo_len];omega) rr (fun _=>rfl) (fun _=>rfl) (fun _=>rfl) (fun _=>rfl) (fun _=>by
      rw [M.Th.wt_free,List.length_eq_zero_iff.1 hln]
      rfl))
    clear hM hown hvl hsucc HW hw hln hf5
    go_wp2_with fail
    exact ⟨⟨m+1,by go_num,by omega,⟨vs',hM2⟩,hbm⟩,by simp [intOf];omega⟩
  ·obtain rfl:m=n:=by omega
   have i2:¬ (m:Int) < m:=by omega
   have hM2:SM wr base X a m c vs' (s.goOut i):=by
    rw [← M.outTo_all s i hs]
    refine hM.same (fun rr hr=>?_)
    have e:∀ j,j < m→(s.outTo i 3).t j=(s.outTo i m).t j:=fun j hj=>by
     rw [M.outTo_t _ _ _ _ (by omega),M.outTo_t _ _ _ _ (by omega),if_pos hj,if_pos (by omega)]
    unfold M.St.rw_
    split
    ·congr 1;apply List.map_congr_left;intro j hj;rw [e j (List.mem_range.1 hj)]
    ·rfl
    ·rfl
    ·congr 1;apply List.map_congr_left;intro j hj;rw [e j (List.mem_range.1 hj)]
    ·rfl
    ·rfl
    ·rw [e _ hr.2]
    ·rw [e _ hr.2]
    ·rw [e _ hr.2]
    ·rfl
   go_wp2_with fail
   exact bodyPost_end (v:=.tuple #[]) (results_none Try.results54 _ _ _) rfl ⟨rfl,⟨_,hM2⟩,hbm⟩
end
section
namespace M
theorem put_put (s:St) (t:Nat) (x y:Th):(s.put t x).put t y=s.put t y:=by simp [St.put,List.set_set]
theorem bump_t (s:St) (t:Nat) (h:t < s.th.length):(s.bump t).t t={ s.t t with next:=(s.t t).next+1 }:=by unfold St.bump;rw [t_put _ _ _ _ h,if_pos rfl]
theorem bump_len (s:St) (t:Nat):(s.bump t).th.length=s.th.length:=by unfold St.bump;rw [put_len]
theorem bump_ne (s:St) (t j:Nat) (h:t < s.th.length) (hne:j≠t):(s.bump t).t j=s.t j:=by unfold St.bump;rw [t_put _ _ _ _ h,if_neg hne]
theorem bump_look (s:St) (t:Nat) (p:Int) (h:t < s.th.length):(s.bump t).look t p=s.look t p:=by
 unfold St.look
 rw [bump_t _ _ h]
 rfl
theorem bump_keep (s:St) (t:Nat) (v:Int) (h:t < s.th.length):(s.bump t).keep t v=(s.keep t v).bump t:=by
 unfold St.keep
 rw [put_bump _ _ _ h,bump_t _ _ h]
 unfold St.bump
 rw [put_put]
theorem bump_later (s:St) (t:Nat) (p v:Int) (h:t < s.th.length):(s.bump t).later t p v=(s.later t p v).bump t:=by
 unfold St.later
 rw [put_bump _ _ _ h,bump_t _ _ h]
 unfold St.bump
 rw [put_put]
theorem bump_write (late:Bool) (s:St) (t:Nat) (p v:Int) (h:t < s.th.length):(s.bump t).write late t p v=(s.write late t p v).bump t:=by
 unfold St.write
 split
 ·exact bump_later s t p v h
 ·rw [bump_later s t p v h,come_bump _ _ (by unfold St.later;rw [put_len];exact h)]
theorem bump_goIn (s:St) (t:Nat) (h:t < s.th.length):(s.bump t).goIn t=(s.goIn t).bump t:=by
 unfold St.goIn
 rw [put_bump _ _ _ h,bump_t _ _ h]
 unfold St.bump
 rw [put_put]
theorem bump_stop (s:St) (t:Nat) (h:t < s.th.length):(s.bump t).stop t=(s.stop t).bump t:=by
 unfold St.stop
 rw [put_bump _ _ _ h,bump_t _ _ h]
 unfold St.bump
 rw [put_put]
theorem bump_goOut (s:St) (t:Nat) (hs:s.th.length=3) (h:t < 3):(s.bump t).goOut t=(s.goOut t).bump t:=by
 have hl:t < s.th.length:=by omega
 refine St.ext_t (by rw [goOut_len,bump_len,bump_len,goOut_len]) rfl (fun j hj=>?_)
 rw [goOut_len,bump_len,hs] at hj
 rw [goOut_t _ _ _ (by rw [bump_len];exact hs) hj,t_put _ _ _ _ (by rw [bump_len];exact hl)]
 by_cases e:j=t
 ·subst e
  rw [if_pos rfl,bump_t _ _ hl,bump_t _ _ (by rw [goOut_len];exact hl),goOut_t _ _ _ hs hj,t_put _ _ _ _ hl,if_pos rfl]
  rfl
 ·rw [if_neg e,bump_ne _ _ _ hl e,bump_ne _ _ _ (by rw [goOut_len];exact hl) e,goOut_t _ _ _ hs hj,t_put _ _ _ _ hl,if_neg e]
theorem bump_inn (s:St) (t:Nat) (h:t < s.th.length):(s.bump t).th.map Th.inn=s.th.map Th.inn:=by
 unfold St.bump St.put
 rw [List.map_set]
 have:Th.inn { s.t t with next:=(s.t t).next+1 }=(s.th.map Th.inn)[t]'(by simpa using h):=by
  rw [List.getElem_map,← t_get s t h]
 rw [this,List.set_getElem_self]
theorem bump_beg (s:St) (t:Nat) (h:t < s.th.length):(s.bump t).beg2 t=s.begin_ t:=by
 unfold St.beg2
 rw [bump_inn _ _ h,bump_t _ _ h]
 unfold St.bump
 rw [put_put]
 rfl
structure Edge (n:Nat) (s:St):Prop where
 inn:∀ t,n≤t→t < 3→(s.t t).inn=false
 noted:∀ t,t < 3→∀ i,n≤i→(s.t t).noted.getD i false=false
theorem Edge.zero (n:Nat):Edge n st0:=by
 have:∀ t,t < 3→st0.t t=th0:=fun t ht=>by
  match t,ht with
  | 0,_=>rfl
  | 1,_=>rfl
  | 2,_=>rfl
 refine ⟨fun t _ ht=>by rw [this t ht];rfl,fun t ht i _=>?_⟩
 rw [this t ht]
 match i with
 | 0=>rfl
 | 1=>rfl
 | 2=>rfl
 | i+3=>rfl
theorem Edge.put {n:Nat} {s:St} {t:Nat} {x:Th} (E:Edge n s) (ht:t < n) (hl:t < s.th.length) (hx:∀ i,n≤i→x.noted.getD i false=false):Edge n (s.put t x) :=
 ⟨fun j h1 h2=>by rw [t_put _ _ _ _ hl,if_neg (by omega)];exact E.inn j h1 h2,fun j hj i hi=>by
  rw [t_put _ _ _ _ hl]
  split
  ·exact hx i hi
  ·exact E.noted j hj i hi⟩
theorem Edge.at_ {n:Nat} {s:St} (E:Edge n s) (a:List Int):Edge n ⟨s.th,a⟩:=⟨E.inn,E.noted⟩
theorem Edge.bump {n:Nat} {s:St} {t:Nat} (E:Edge n s) (ht:t < n) (hl:t < s.th.length) (h3:t < 3):Edge n (s.bump t):=E.put ht hl (E.noted t h3)
theorem Edge.come {n:Nat} {s:St} {t:Nat} (E:Edge n s) (ht:t < n) (hl:t < s.th.length) (h3:t < 3):Edge n (s.come t):=by
 unfold St.come
 split
 ·exact E
 ·rename_i q r _
  exact (E.put (x:={ s.t t with pend:=r }) ht hl (E.noted t h3)).at_ _
theorem Edge.write {n:Nat} {s:St} {t:Nat} (late:Bool) (p v:Int) (E:Edge n s) (ht:t < n) (hl:t < s.th.length) (h3:t < 3):Edge n (s.write late t p v):=by
 have h:Edge n (s.later t p v):=E.put ht hl (E.noted t h3)
 unfold St.write
 split
 ·exact h
 ·exact h.come ht (by unfold St.later;rw [put_len];exact hl) h3
theorem getD_set (l:List Bool) (t i:Nat) (h:l.getD i false=false):(l.set t false).getD i false=false:=by
 rw [List.getD_eq_getElem?_getD] at h ⊢
 rw [List.getElem?_set]
 split
 ·split<;>rfl
 ·exact h
theorem Edge.stepD {n:Nat} {s:St} {t:Nat} {late:Bool} {d:D} (E:Edge n s) (hs:s.th.length=3) (ht:t < n) (h3:t < 3):Edge n (s.stepD late t d):=by
 have hl:t < s.th.length:=by omega
 have wr:∀ p v,Edge n ((s.write late t p v).bump t):=fun p v=>(E.write late p v ht hl h3).bump ht (by rw [write_len];exact hl) h3
 unfold St.stepD
 split
 ·unfold St.keep
  exact (E.put (x:={ s.t t with vals:=(s.t t).vals++[s.look t d.p] }) ht hl (E.noted t h3)).bump ht (by rw [put_len];exact hl) h3
 split
 ·exact wr _ _
 split
 ·exact wr _ _
 split
 ·unfold St.goIn
  exact (E.put (x:={ s.t t with inn:=true }) ht hl (E.noted t h3)).bump ht (by rw [put_len];exact hl) h3
 split
 ·refine Edge.bump ?_ ht (by rw [goOut_len];exact hl) h3
  have E2:Edge n (s.put t { s.t t with inn:=false }):=E.put ht hl (E.noted t h3)
  refine ⟨fun j h1 h2=>?_,fun j hj i hi=>?_⟩
  ·rw [goOut_t _ _ _ hs h2];exact E2.inn j h1 h2
  ·rw [goOut_t _ _ _ hs hj];exact getD_set _ _ _ (E2.noted j hj i hi)
 split
 ·split
  ·unfold St.stop
   exact (E.put (x:={ s.t t with waits:=false }) ht hl (E.noted t h3)).bump ht (by rw [put_len];exact hl) h3
  ·unfold St.begin_
   refine E.put ht hl (fun i hi=>?_)
   show (s.th.map Th.inn).getD i false=false
   rw [List.getD_eq_getElem?_getD,List.getElem?_map]
   rcases Nat.lt_or_ge i s.th.length with h | h
   ·rw [List.getElem?_eq_getElem h]
    have:=E.inn i hi (by omega)
    rw [t_get _ _ h] at this
    exact this
   ·rw [List.getElem?_eq_none h];rfl
 ·exact E.bump ht hl h3
theorem Edge.turn {ll:List (List D)} {s s':St} {late:Bool} {k:Int} (I:Inv ll s) (E:Edge ll.length s) (h3:ll.length≤3) (hs:s.turn? late ll k=some s'):Edge ll.length s':=by
 unfold St.turn? at hs
 split at hs
 ·unfold St.step? at hs
  split at hs
  ·cases hs
  ·split at hs
   ·obtain rfl:=Option.some.inj hs
    exact E.stepD I.th (by omega) (by omega)
   ·cases hs
 ·split at hs
  ·unfold St.land? at hs
   split at hs
   ·cases hs
   ·obtain rfl:=Option.some.inj hs
    exact E.come (by omega) (by rw [I.th];omega) (by omega)
  ·cases hs
theorem all_quiet {l:List Bool} {n:Nat} (h3:l.length=3) (h:∀ i,n≤i→l.getD i false=false):((l.take n).all fun b=>!b)=decide (l=quiet):=by
 match l,h3 with
 | [a,b,c],_ =>
  match n,h with
  | 0,h =>
   obtain rfl:a=false:=h 0 (by omega)
   obtain rfl:b=false:=h 1 (by omega)
   obtain rfl:c=false:=h 2 (by omega)
   rfl
  | 1,h =>
   obtain rfl:b=false:=h 1 (by omega)
   obtain rfl:c=false:=h 2 (by omega)
   cases a<;>rfl
  | 2,h =>
   obtain rfl:c=false:=h 2 (by omega)
   cases a<;>cases b<;>rfl
  | n+3,_ =>
   rw [List.take_of_length_le (by simp)]
   cases a<;>cases b<;>cases c<;>rfl
theorem wait_step {ll:List (List D)} {s:St} {late:Bool} {t:Nat} {d:D} (I:Inv ll s) (E:Edge ll.length s) (h3:t < 3) (hd:s.d? ll t=some d) (h9:d.k=9) (hp:(s.t t).pend=[]):s.step? late ll t=(s.bump t).wait? ll.length t:=by
 have hl:t < s.th.length:=by rw [I.th];exact h3
 have e:=I.each t h3
 have hu:uses d.k=false:=by rw [h9];rfl
 have hD:s.stepD late t d=if (s.t t).waits then (s.stop t).bump t else s.begin_ t:=by
  unfold St.stepD
  rw [h9]
  rfl
 unfold St.step?
 rw [hd]
 show (if canD (s.t t) d=true then some (s.stepD late t d) else none)=_
 have hc:canD (s.t t) d=decide ((s.t t).noted=quiet):=by
  unfold canD
  rw [hu,hp]
  simp
 rw [hc,hD]
 unfold St.wait?
 rw [bump_t _ _ hl]
 show _=if (s.t t).waits=false then _ else if ((({ s.t t with next:=(s.t t).next+1 }:Th).wt ll.length).all fun b=>!b)=true then _ else none
 cases hw:(s.t t).waits
 ·rw [e.rest hw,if_pos rfl,if_pos (by decide),if_neg (by decide),bump_beg _ _ hl]
 ·rw [if_neg (show ¬ (true=false) by decide)]
  simp only [if_true]
  have:(({ s.t t with next:=(s.t t).next+1 }:Th).wt ll.length)=(s.t t).noted.take ll.length:=by
   unfold Th.wt
   simp only [hw,if_true]
  rw [this,all_quiet e.noted (E.noted t h3),bump_stop _ _ hl]
end M
end
section
open Go.RowKit
theorem Try.smInt:(Try.prog.info? 3).map (fun i=>(i.zero,i.size,i.bytes))=some (some (.int .i64 0),1,8):=by kernel_rfl
theorem M.thr_ok {ll:List (List M.D)} (h:M.prog ll=true) {i:Nat} (hi:i < ll.length) {d:M.D} (hd:d∈ll[i]):M.doOk d=true:=by
 have hT:=(M.prog_uses h).2 _ (List.getElem_mem hi)
 simp only [M.thread,Bool.and_eq_true] at hT
 exact (List.all_eq_true.1 hT.1.1.2) d hd
theorem M.kinds {k:Int} (h:M.wordOk k=true):k=1∨k=2∨k=3∨k=4∨k=5∨k=6∨k=7∨k=8∨k=9:=by
 simp only [M.wordOk,Bool.and_eq_true,decide_eq_true_eq] at h
 omega
structure StC (W:World) (H base X:Nat) (a:Option Addr) (n c:Nat) (vs:Rid→Value) (s:M.St) (d:M.D) (w:World):Prop where
 q0:W.cell? ⟨H,0,none⟩=some (.int .i64 d.k)
 q1:W.cell? ⟨H,1,none⟩=some (.int .i64 d.p)
 q2:W.cell? ⟨H,2,none⟩=some (.int .i64 d.v)
 m:SM W base X a n c vs s
 bel:Below base w W
theorem StC.below {W W':World} {H base X:Nat} {a:Option Addr} {n c:Nat} {vs:Rid→Value} {s:M.St} {d:M.D} {w:World} (h:StC W H base X a n c vs s d w) (hb:Below W.heap.size W W'):StC W' H base X a n c vs s d w :=
 ⟨(hb.cell (p:=⟨H,0,none⟩) (World.block_lt_of_cell? _ _ h.q0)).trans h.q0,(hb.cell (p:=⟨H,1,none⟩) (World.block_lt_of_cell? _ _ h.q1)).trans h.q1,(hb.cell (p:=⟨H,2,none⟩) (World.block_lt_of_cell? _ _ h.q2)).trans h.q2,h.m.below hb,h.bel.trans (hb.mono (Nat.le_trans h.m.bX (Nat.le_of_lt h.m.lt)))⟩
theorem StC.bump {W:World} {H base X:Nat} {a:Option Addr} {n c:Nat} {vs:Rid→Value} {s:M.St} {d:M.D} {w:World} (h:StC W H base X a n c vs s d w) {g1 c1 i:Nat} (hv:vs (.top 1)=.slice (some ⟨g1,0,none⟩) n c1) (hi:i < n) (hl:i < s.th.length) (hH:H≠g1):StC (W.setCell ⟨g1,i,none⟩ (.int .i64 (((s.t i).next:Int)+1))) H base X a n c vs (s.bump i) d w:=by
 have hg:=((SM.own h.m (r:=.top 1) ⟨by omega,by omega⟩).lt g1 (by rw [hv];rfl)).1
 refine ⟨?_,?_,?_,?_,h.bel.setCell (by show base≤g1;exact hg) _⟩
 ·rw [World.cell?_setCell_other _ _ _ _ (fun e=>hH (by have:=congrArg Addr.block e;simp at this;omega))];exact h.q0
 ·rw [World.cell?_setCell_other _ _ _ _ (fun e=>hH (by have:=congrArg Addr.block e;simp at this;omega))];exact h.q1
 ·rw [World.cell?_setCell_other _ _ _ _ (fun e=>hH (by have:=congrArg Addr.block e;simp at this;omega))];exact h.q2
 ·refine h.m.cell (k:=1) (Or.inl rfl) hv (rw_next hi fun j _=>?_) (fun rr _ hne=>rw_put s i _ hl rr (fun e=>absurd e hne) (fun _=>rfl) (fun _=>rfl) (fun _=>rfl) (fun _=>rfl))
  by_cases e:j=i
  ·subst e;rw [if_pos rfl,M.bump_t _ _ hl];simp
  ·rw [if_neg e,M.bump_ne _ _ _ hl e]
end
section
open Go.RowKit
set_option maxHeartbeats 4000000 in
set_option maxRecDepth 100000 in
theorem sstep_1 (base X i:Nat) (a:Option Addr) (b o c:Nat) (ll:List (List M.D)) (late:Bool) (vs:Rid→Value) (s:M.St) (d:M.D) (w0 w:World) (h0:DoSS w0 a b o ll) (hw0:w0.heap.size≤base) (hb0:Below base w0 w) (h:SM w base X a ll.length c vs s) (htl:i < ll.length) (h3:ll.length≤3) (hp:M.prog ll=true) (I:M.Inv ll s) (_E:M.Edge ll.length s) (hd:s.d? ll i=some d) (hk:Hid (d.k=1)) :
  Calls Try.prog 31 #[.pointer (some ⟨X,0,none⟩),.int .i64 i,.bool late] w fun e w'=>e=.returned (.bool (s.step? late ll i).isSome)∧SmR w w' base X a ll.length c (s.step? late ll i):=by
 have ht:i < 3:=by omega
 have hsl:i < s.th.length:=by rw [I.th];exact ht
 have F:=I.fit (M.thOk_of hp i) ht hd
 have c0:=h.c0
 have hp1:=h0.below hb0 hw0
 obtain ⟨rfl⟩:=h0.addr (by omega)
 obtain ⟨a',b',o',c',hc,hdd⟩:=hp1.row i htl
 have hg:ll.getD i []=ll[i]:=by simp [htl]
 have HR:Hid (s.step? late ll i=if M.canD (s.t i) d then some (s.stepD late i d) else none):=by
  show _=_
  unfold M.St.step?
  rw [hd]
 have hd':=hd
 rw [M.St.d?,hg] at hd
 have hlt:(s.t i).next < ll[i].length:=by
  rcases Nat.lt_or_ge (s.t i).next ll[i].length with h | h
  ·exact h
  ·rw [List.getElem?_eq_none h] at hd;cases hd
 have hde:ll[i][(s.t i).next]=d:=by rw [List.getElem?_eq_getElem hlt] at hd;exact Option.some.inj hd
 have hok:=M.thr_ok hp htl (List.mem_of_getElem? hd)
 obtain ⟨rfl⟩:=hdd.addr (by omega)
 have hrow:=hdd.row _ hlt
 rw [hde] at hrow
 obtain ⟨ck,cp,cv⟩:=hrow
 have nx7:=F.nx
 have i2:((s.t i).next:Int) < ll[i].length:=by omega
 have i3:(i:Int) < ll.length:=by omega
 have lX:=h.lt
 obtain ⟨g1,c1,hv1,hb1,hf1⟩:=h.top (k:=1) (by omega) (by omega)
 have k1:=h.ck (k:=1) (by omega)
 rw [hv1] at k1
 have kn:=h.nextAt hv1 htl
 have lg1:g1 < w.heap.size:=World.block_lt_of_cell? _ _ kn
 have lb:b < w.heap.size:=World.block_lt_of_cell? _ _ hc
 have lb':b' < w.heap.size:=World.block_lt_of_cell? _ _ ck
 have hbX:=h.bX
 have hoffH:∀ r,okN ll.length r→(vs r).ownBlock≠some w.heap.size:=fun r hr e=>by have:=(SM.own h hr).lt _ e;omega
 clear hd hde hp1 hdd hg h0
 have wl:ll[i].length≤7:=by have:=(M.thOk_of hp i).len;rwa [show ll.getD i []=ll[i] from by simp [htl]] at this
 generalize ll[i]=l at *
 go_enter Try.func31,Try.ntmps31
 go_wp2_with fail
 go_region
 have C:StC (w.alloc (.cells #[.int .i64 d.k,.int .i64 d.p,.int .i64 d.v] 84)).drew w.heap.size base X (some ⟨b,o,none⟩) ll.length c vs s d w :=
  ⟨by simp,by simp,by simp,h.below ((below1 w _).trans ((Below.refl _ _).drew)),((below1 w _).mono (by omega)).trans ((Below.refl _ _).drew)⟩
 clear h c0 hc ck cp cv k1 kn lb lb' hf1 hb1 i2 hlt
 have hHg:w.heap.size≠g1:=by omega
 generalize (w.alloc (.cells #[.int .i64 d.k,.int .i64 d.p,.int .i64 d.v] 84)).drew=W2 at *
 generalize w.heap.size=H at *
 simp only [M.doOk,Bool.and_eq_true] at hok
 obtain ⟨⟨hkw,hpl⟩,hvl⟩:=hok
 have heV:∀ args w,(callFunc 53 args).run Try.prog w=.ok (.enter 53 args) w:=enters_of Try.func53 (by kernel_rfl) rfl
 have heW:∀ args w,(callFunc 52 args).run Try.prog w=.ok (.enter 52 args) w:=enters_of Try.func52 (by kernel_rfl) rfl
 obtain ⟨dk,dp,dv⟩:=d
 replace hk:=hk.out
 simp only at C F HR hkw hpl hvl hk
 subst hk
 have hpr:=fun q (hq:q∈(s.t i).pend)=>F.pr q hq
 have hth:=I.th
 have hat:=I.at_
 have HN:Hid (s.step? late ll i=some ((s.write late i dp dv).bump i)):=by show _=_;rw [HR.out];rfl
 obtain ⟨q0,q1,q2⟩:=And.intro C.q0 (And.intro C.q1 C.q2)
 have lH:H < W2.heap.size:=World.block_lt_of_cell? _ _ q0
 have lX2:X < W2.heap.size:=C.m.lt
 go_wp2_with (first | (go_at_call 50;refine (l1Reads_any ⟨_,_,_⟩ _).mono ?_;rintro e w3 ⟨rfl,rfl⟩) | (go_at_call 51;refine (l1Writes_any ⟨_,_,_⟩ _).mono ?_;rintro e w4 ⟨rfl,rfl⟩))
 have C3:=C.below (W':=((W2.alloc (.cells #[.int .i64 1,.int .i64 dp,.int .i64 dv] 84)).alloc (.cells #[.int .i64 1,.int .i64 dp,.int .i64 dv] 84))) (below2 _ _ _)
 clear C q0 q1 q2 lH lX2
 generalize ((W2.alloc (.cells #[.int .i64 1,.int .i64 dp,.int .i64 dv] 84)).alloc (.cells #[.int .i64 1,.int .i64 dp,.int .i64 dv] 84))=W3 at *
 obtain ⟨k1,kf1,kn⟩:W3.cell? ⟨X,1,none⟩=some (.slice (some ⟨g1,0,none⟩) ll.length c1)∧W3.frozen? ⟨g1,i,none⟩=false∧W3.cell? ⟨g1,i,none⟩=some (.int .i64 (s.t i).next):=by
  obtain ⟨g1',c1',e1,_,f1⟩:=C3.m.top (k:=1) (by omega) (by omega)
  have:=C3.m.ck (k:=1) (by omega)
  rw [hv1] at this e1
  simp only [Value.slice.injEq,Option.some.injEq,Addr.mk.injEq,and_true,true_and] at e1
  obtain ⟨rfl,_⟩:=e1
  exact ⟨this,f1 i,C3.m.nextAt hv1 htl⟩
 have C4:=(C3.bump hv1 htl hsl hHg).below (Below.refl _ _).drew
 have nx7':((s.t i).next:Int)≤7:=by omega
 clear C3
 go_region
 clear k1 kf1 kn
 generalize (W3.setCell ⟨g1,i,none⟩ (.int .i64 (((s.t i).next:Int)+1))).drew=W4 at *
 obtain ⟨q0,q1,q2⟩:=And.intro C4.q0 (And.intro C4.q1 C4.q2)
 have hm4:=C4.m
 have bel4:=C4.bel
 obtain ⟨p0,p3⟩:=F.us rfl
 simp only at p0 p3
 go_wp2_with (go_at_call 52;refine (swrite_any base X i _ _ c vs (s.bump i) dp dv late W4 hm4 htl h3 p0 p3 (by rw [M.bump_t _ _ hsl];exact hpr) (by rw [M.bump_t _ _ hsl];have:=F.wr rfl;show (s.t i).pend.length≤6;omega) hat (by rw [M.bump_len];exact hth)).mono ?_;rintro e w5 ⟨rfl,hm5,hb5⟩)
 go_ret
 exact ⟨by rw [HN.out];rfl,⟨fun s' e=>(by
  rw [HN.out] at e
  obtain rfl:=Option.some.inj e
  exact M.bump_write late s i dp dv hsl▸hm5),bel4.trans hb5⟩⟩
end
section
open Go.RowKit
set_option maxHeartbeats 4000000 in
set_option maxRecDepth 100000 in
theorem sstep_6 (base X i:Nat) (a:Option Addr) (b o c:Nat) (ll:List (List M.D)) (late:Bool) (vs:Rid→Value) (s:M.St) (d:M.D) (w0 w:World) (h0:DoSS w0 a b o ll) (hw0:w0.heap.size≤base) (hb0:Below base w0 w) (h:SM w base X a ll.length c vs s) (htl:i < ll.length) (h3:ll.length≤3) (hp:M.prog ll=true) (I:M.Inv ll s) (_E:M.Edge ll.length s) (hd:s.d? ll i=some d) (hk:Hid (d.k=6)) :
  Calls Try.prog 31 #[.pointer (some ⟨X,0,none⟩),.int .i64 i,.bool late] w fun e w'=>e=.returned (.bool (s.step? late ll i).isSome)∧SmR w w' base X a ll.length c (s.step? late ll i):=by
 have ht:i < 3:=by omega
 have hsl:i < s.th.length:=by rw [I.th];exact ht
 have F:=I.fit (M.thOk_of hp i) ht hd
 have c0:=h.c0
 have hp1:=h0.below hb0 hw0
 obtain ⟨rfl⟩:=h0.addr (by omega)
 obtain ⟨a',b',o',c',hc,hdd⟩:=hp1.row i htl
 have hg:ll.getD i []=ll[i]:=by simp [htl]
 have HR:Hid (s.step? late ll i=if M.canD (s.t i) d then some (s.stepD late i d) else none):=by
  show _=_
  unfold M.St.step?
  rw [hd]
 have hd':=hd
 rw [M.St.d?,hg] at hd
 have hlt:(s.t i).next < ll[i].length:=by
  rcases Nat.lt_or_ge (s.t i).next ll[i].length with h | h
  ·exact h
  ·rw [List.getElem?_eq_none h] at hd;cases hd
 have hde:ll[i][(s.t i).next]=d:=by rw [List.getElem?_eq_getElem hlt] at hd;exact Option.some.inj hd
 have hok:=M.thr_ok hp htl (List.mem_of_getElem? hd)
 obtain ⟨rfl⟩:=hdd.addr (by omega)
 have hrow:=hdd.row _ hlt
 rw [hde] at hrow
 obtain ⟨ck,cp,cv⟩:=hrow
 have nx7:=F.nx
 have i2:((s.t i).next:Int) < ll[i].length:=by omega
 have i3:(i:Int) < ll.length:=by omega
 have lX:=h.lt
 obtain ⟨g1,c1,hv1,hb1,hf1⟩:=h.top (k:=1) (by omega) (by omega)
 have k1:=h.ck (k:=1) (by omega)
 rw [hv1] at k1
 have kn:=h.nextAt hv1 htl
 have lg1:g1 < w.heap.size:=World.block_lt_of_cell? _ _ kn
 have lb:b < w.heap.size:=World.block_lt_of_cell? _ _ hc
 have lb':b' < w.heap.size:=World.block_lt_of_cell? _ _ ck
 have hbX:=h.bX
 have hoffH:∀ r,okN ll.length r→(vs r).ownBlock≠some w.heap.size:=fun r hr e=>by have:=(SM.own h hr).lt _ e;omega
 clear hd hde hp1 hdd hg h0
 have wl:ll[i].length≤7:=by have:=(M.thOk_of hp i).len;rwa [show ll.getD i []=ll[i] from by simp [htl]] at this
 generalize ll[i]=l at *
 go_enter Try.func31,Try.ntmps31
 go_wp2_with fail
 go_region
 have C:StC (w.alloc (.cells #[.int .i64 d.k,.int .i64 d.p,.int .i64 d.v] 84)).drew w.heap.size base X (some ⟨b,o,none⟩) ll.length c vs s d w :=
  ⟨by simp,by simp,by simp,h.below ((below1 w _).trans ((Below.refl _ _).drew)),((below1 w _).mono (by omega)).trans ((Below.refl _ _).drew)⟩
 clear h c0 hc ck cp cv k1 kn lb lb' hf1 hb1 i2 hlt
 have hHg:w.heap.size≠g1:=by omega
 generalize (w.alloc (.cells #[.int .i64 d.k,.int .i64 d.p,.int .i64 d.v] 84)).drew=W2 at *
 generalize w.heap.size=H at *
 simp only [M.doOk,Bool.and_eq_true] at hok
 obtain ⟨⟨hkw,hpl⟩,hvl⟩:=hok
 have heV:∀ args w,(callFunc 53 args).run Try.prog w=.ok (.enter 53 args) w:=enters_of Try.func53 (by kernel_rfl) rfl
 have heW:∀ args w,(callFunc 52 args).run Try.prog w=.ok (.enter 52 args) w:=enters_of Try.func52 (by kernel_rfl) rfl
 obtain ⟨dk,dp,dv⟩:=d
 replace hk:=hk.out
 simp only at C F HR hkw hpl hvl hk
 subst hk
 have hpr:=fun q (hq:q∈(s.t i).pend)=>F.pr q hq
 have hth:=I.th
 have hat:=I.at_
 have HN:Hid (s.step? late ll i=some ((s.write late i dp dv).bump i)):=by show _=_;rw [HR.out];rfl
 obtain ⟨q0,q1,q2⟩:=And.intro C.q0 (And.intro C.q1 C.q2)
 have lH:H < W2.heap.size:=World.block_lt_of_cell? _ _ q0
 have lX2:X < W2.heap.size:=C.m.lt
 go_wp2_with (first | (go_at_call 50;refine (l1Reads_any ⟨_,_,_⟩ _).mono ?_;rintro e w3 ⟨rfl,rfl⟩) | (go_at_call 51;refine (l1Writes_any ⟨_,_,_⟩ _).mono ?_;rintro e w4 ⟨rfl,rfl⟩))
 have C3:=C.below (W':=((W2.alloc (.cells #[.int .i64 6,.int .i64 dp,.int .i64 dv] 84)).alloc (.cells #[.int .i64 6,.int .i64 dp,.int .i64 dv] 84))) (below2 _ _ _)
 clear C q0 q1 q2 lH lX2
 generalize ((W2.alloc (.cells #[.int .i64 6,.int .i64 dp,.int .i64 dv] 84)).alloc (.cells #[.int .i64 6,.int .i64 dp,.int .i64 dv] 84))=W3 at *
 obtain ⟨k1,kf1,kn⟩:W3.cell? ⟨X,1,none⟩=some (.slice (some ⟨g1,0,none⟩) ll.length c1)∧W3.frozen? ⟨g1,i,none⟩=false∧W3.cell? ⟨g1,i,none⟩=some (.int .i64 (s.t i).next):=by
  obtain ⟨g1',c1',e1,_,f1⟩:=C3.m.top (k:=1) (by omega) (by omega)
  have:=C3.m.ck (k:=1) (by omega)
  rw [hv1] at this e1
  simp only [Value.slice.injEq,Option.some.injEq,Addr.mk.injEq,and_true,true_and] at e1
  obtain ⟨rfl,_⟩:=e1
  exact ⟨this,f1 i,C3.m.nextAt hv1 htl⟩
 have C4:=(C3.bump hv1 htl hsl hHg).below (Below.refl _ _).drew
 have nx7':((s.t i).next:Int)≤7:=by omega
 clear C3
 go_region
 clear k1 kf1 kn
 generalize (W3.setCell ⟨g1,i,none⟩ (.int .i64 (((s.t i).next:Int)+1))).drew=W4 at *
 obtain ⟨q0,q1,q2⟩:=And.intro C4.q0 (And.intro C4.q1 C4.q2)
 have hm4:=C4.m
 have bel4:=C4.bel
 obtain ⟨p0,p3⟩:=F.us rfl
 simp only at p0 p3
 go_wp2_with (go_at_call 52;refine (swrite_any base X i _ _ c vs (s.bump i) dp dv late W4 hm4 htl h3 p0 p3 (by rw [M.bump_t _ _ hsl];exact hpr) (by rw [M.bump_t _ _ hsl];have:=F.wr rfl;show (s.t i).pend.length≤6;omega) hat (by rw [M.bump_len];exact hth)).mono ?_;rintro e w5 ⟨rfl,hm5,hb5⟩)
 go_ret
 exact ⟨by rw [HN.out];rfl,⟨fun s' e=>(by
  rw [HN.out] at e
  obtain rfl:=Option.some.inj e
  exact M.bump_write late s i dp dv hsl▸hm5),bel4.trans hb5⟩⟩
end
end Go.Proofs.Ytnddmlgnngdaoaa
