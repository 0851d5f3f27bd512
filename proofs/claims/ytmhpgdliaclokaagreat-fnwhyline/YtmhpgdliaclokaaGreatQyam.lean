/- spec's all ways, plainly: whom each may have read of, the rows of each place, and how many there are. No condition. And what goes with it: XaMath, OsDo, XaMem, XaRow, XaM3, OsWr, XaOrd, XaBnd, XaIn, XaXw, XaRx, XaKp, XaXb, OsSrc, OsVal, OsEnd, XaAll. -/
import Derived.Deep.CutRange
import Derived.Test.YtmhpgdliaclokaaGreatRows
import Derived.Test.YtmhpgdliaclokaaGreatQyal
namespace Go.Proofs.YtmhpgdliaclokaaGreat
section
namespace M
def rowsOf (l:List Int):Nat→List Int→List (List Int)
 | 0,h=>[h]
 | n+1,h=>l.flatMap fun v=>if M.has h v then [] else rowsOf l n (h++[v])
def fromsOf (ds:List De):Nat→List Int→List (List Int)
 | 0,f=>[f]
 | n+1,f=>if ((ds[f.length]?).map De.reads).getD false then fromsOf ds n (f++[-1])++(wrs (((ds[f.length]?).map fun x=>x.d.p).getD 0) 0 ds).flatMap fun v=>fromsOf ds n (f++[v]) else fromsOf ds n (f++[-2])
def addPlace (rows:List (List Int)) (out:List (List (List Int))):List (List (List Int)):=out.flatMap fun o=>rows.map fun r=>o++[r]
def ordersOf (ds:List De):List (List (List Int)):=addPlace (rowsOf (wrs 2 0 ds) (wrs 2 0 ds).length []) (addPlace (rowsOf (wrs 1 0 ds) (wrs 1 0 ds).length []) (addPlace (rowsOf (wrs 0 0 ds) (wrs 0 0 ds).length []) [[]]))
theorem flatMap_le {α β:Type} (f:α→List β) (m:Nat):∀ l:List α,(∀ x∈l,(f x).length≤m)→(l.flatMap f).length≤l.length * m
 | [],_=>by simp
 | x::l,h=>by
  have h1:=h x (by simp)
  have h2:=flatMap_le f m l (fun y hy=>h y (List.mem_cons_of_mem _ hy))
  rw [List.flatMap_cons,List.length_append,List.length_cons,Nat.succ_mul]
  omega
theorem rowsOf_len (l:List Int):∀ (n:Nat) (h:List Int),(rowsOf l n h).length≤l.length ^ n
 | 0,h=>by simp [rowsOf]
 | n+1,h=>by
  have:=flatMap_le (fun v=>if M.has h v then [] else rowsOf l n (h++[v])) (l.length ^ n) l (fun v _=>by
   by_cases hc:M.has h v=true
   ·rw [if_pos hc];exact Nat.zero_le _
   ·rw [if_neg hc];exact rowsOf_len l n _)
  rw [rowsOf,Nat.pow_succ,Nat.mul_comm]
  exact this
theorem rowsOf_each (l:List Int):∀ (n:Nat) (h r:List Int),r∈rowsOf l n h→r.length=h.length+n
 | 0,h,r,hr=>by simp [rowsOf] at hr;simp [hr]
 | n+1,h,r,hr=>by
  rw [rowsOf,List.mem_flatMap] at hr
  obtain ⟨v,_,hv⟩:=hr
  by_cases hc:M.has h v=true
  ·rw [if_pos hc] at hv;cases hv
  ·rw [if_neg hc] at hv
   have:=rowsOf_each l n _ r hv
   simp at this
   omega
theorem rows_step {l:List Int} {n k:Nat} {h:List Int} {rs all:List (List Int)} (e:all=rs++(l.drop k).flatMap fun v=>if M.has h v then [] else rowsOf l n (h++[v])) (hk:k < l.length):all=(rs++if M.has h l[k] then [] else rowsOf l n (h++[l[k]]))++(l.drop (k+1)).flatMap fun v=>if M.has h v then [] else rowsOf l n (h++[v]):=by
 rw [e,← List.getElem_cons_drop hk,List.flatMap_cons,List.append_assoc]
def rdN (ds:List De):Nat:=(ds.filter De.reads).length
theorem wrs_le (p:Int):∀ (n:Nat) (ds:List De),(wrs p n ds).length≤(ds.filter fun x=>M.writes x.d.k).length
 | _,[]=>by simp [wrs]
 | n,x::ds=>by
  have:=wrs_le p (n+1) ds
  by_cases hw:M.writes x.d.k=true
  ·rw [List.filter_cons_of_pos (by simpa using hw)]
   simp only [wrs,De.to]
   by_cases hp:x.d.p==p
   ·simp only [hw,hp,Bool.and_self,if_true];simp;omega
   ·simp only [hw,hp,Bool.and_false,Bool.false_eq_true,if_false];simp;omega
  ·rw [List.filter_cons_of_neg (by simpa using hw)]
   simp only [wrs,De.to,hw,Bool.false_and,Bool.false_eq_true,if_false]
   exact this
theorem fromsOf_len (ds:List De) (m:Nat) (hm:∀ p,(wrs p 0 ds).length+1≤m):∀ (n:Nat) (f:List Int),f.length+n=ds.length→(fromsOf ds n f).length≤m ^ rdN (ds.drop f.length)
 | 0,f,h=>by
  have h1:=hm 0
  simp only [fromsOf,List.length_singleton]
  exact Nat.one_le_pow _ _ (by omega)
 | n+1,f,h=>by
  have hlt:f.length < ds.length:=by omega
  have e:ds.drop f.length=ds[f.length]::ds.drop (f.length+1):=(List.getElem_cons_drop hlt).symm
  have hstep:∀ v:Int,(fromsOf ds n (f++[v])).length≤m ^ rdN (ds.drop (f.length+1)):=fun v=>by
   have:=fromsOf_len ds m hm n (f++[v]) (by simp;omega)
   simpa using this
  have hx:ds[f.length]?=some ds[f.length]:=List.getElem?_eq_getElem hlt
  rw [fromsOf,hx,e]
  simp only [Option.map_some,Option.getD_some]
  cases hr:De.reads ds[f.length]
  ·rw [if_neg (by simp),rdN,List.filter_cons_of_neg (by simp [hr])]
   exact hstep _
  ·rw [if_pos rfl,rdN,List.filter_cons_of_pos hr,List.length_cons,Nat.pow_succ,List.length_append]
   have h1:=hstep (-1)
   have h2:=flatMap_le (fun v=>fromsOf ds n (f++[v])) _ (wrs (ds[f.length]).d.p 0 ds) (fun v _=>hstep v)
   have h3:=hm (ds[f.length]).d.p
   have h4:((wrs (ds[f.length]).d.p 0 ds).length+1) * m ^ rdN (ds.drop (f.length+1))≤m * m ^ rdN (ds.drop (f.length+1)):=Nat.mul_le_mul_right _ h3
   rw [Nat.add_mul,Nat.one_mul] at h4
   rw [Nat.mul_comm (m ^ _) m]
   unfold rdN at *
   omega
theorem froms_no {ds:List De} {n:Nat} {f:List Int} (hlt:f.length < ds.length) {x:De} (hx:ds[f.length]=x) (hr:M.reads x.d.k=false):fromsOf ds (n+1) f=fromsOf ds n (f++[-2]):=by
 rw [fromsOf,List.getElem?_eq_getElem hlt,hx]
 simp [De.reads,hr]
theorem froms_yes {ds:List De} {n:Nat} {f:List Int} (hlt:f.length < ds.length) {x:De} (hx:ds[f.length]=x) (hr:M.reads x.d.k=true):fromsOf ds (n+1) f=fromsOf ds n (f++[-1])++(wrs x.d.p 0 ds).flatMap fun v=>fromsOf ds n (f++[v]):=by
 rw [fromsOf,List.getElem?_eq_getElem hlt,hx]
 simp [De.reads,hr]
theorem flat_step {α β:Type} {F:α→List β} {l:List α} {k:Nat} {rs all:List β} (e:all=rs++(l.drop k).flatMap F) (hk:k < l.length):all=(rs++F l[k])++(l.drop (k+1)).flatMap F:=by
 rw [e,← List.getElem_cons_drop hk,List.flatMap_cons,List.append_assoc]
theorem fromsOf_each (ds:List De):∀ (n:Nat) (f r:List Int),r∈fromsOf ds n f→r.length=f.length+n
 | 0,f,r,hr=>by simp [fromsOf] at hr;simp [hr]
 | n+1,f,r,hr=>by
  rw [fromsOf] at hr
  by_cases hc:((ds[f.length]?).map De.reads).getD false=true
  ·rw [if_pos hc,List.mem_append,List.mem_flatMap] at hr
   rcases hr with hv | ⟨v,_,hv⟩
   all_goals
    have:=fromsOf_each ds n _ r hv
    simp at this
    omega
  ·rw [if_neg hc] at hr
   have:=fromsOf_each ds n _ r hr
   simp at this
   omega
theorem addPlace_len (rows:List (List Int)) (out:List (List (List Int))):(addPlace rows out).length=out.length * rows.length:=by
 unfold addPlace
 induction out with
 | nil=>simp
 | cons o out ih=>rw [List.flatMap_cons,List.length_append,ih,List.length_map,List.length_cons,Nat.succ_mul];omega
end M
end
section
open Go.RowKit
set_option maxHeartbeats 1000000 in
set_option maxRecDepth 100000 in
theorem l12Do_any (a:Option Addr) (b o c:Nat) (ll:List (List M.D)) (t i:Nat) (last:Bool) (d:M.D) (w:World) (ht:t < ll.length) (hi:i < ll[t].length) (hd:ll[t][i]=d) (hl:ll.length≤1048576) (hls:ll[t].length≤1048576) (h:DoSS w a b o ll) :
  Calls Tryz.prog 134 #[.agg #[.slice a ll.length c],.agg #[.int .i64 t,.int .i64 i,.bool last]] w fun e w'=>e=.returned (.agg #[.int .i64 d.k,.int .i64 d.p,.int .i64 d.v])∧Below w.heap.size w w':=by
 obtain ⟨rfl⟩:=h.addr (by omega)
 obtain ⟨a',b',o',c',hc,hr⟩:=h.row t ht
 obtain ⟨rfl⟩:=hr.addr (by omega)
 obtain ⟨ck,cp,cv⟩:=hr.row i hi
 rw [hd] at ck cp cv
 generalize ll[t]=l at *
 have i1:(t:Int) < ll.length:=by omega
 have i2:(i:Int) < l.length:=by omega
 have lb:=World.block_lt_of_cell? _ _ hc
 have lb':=World.block_lt_of_cell? _ _ ck
 simp only at lb lb'
 have hb2:=below2 w (.cells #[.slice (some ⟨b,o,none⟩) ll.length c] 25) (.cells #[.int .i64 t,.int .i64 i,.bool last] 42)
 have hb3:=hb2.trans ((below1 _ (.cells #[.int .i64 0,.int .i64 0,.int .i64 0] 94)).mono hb2.size)
 have hc3:=(hb3.cell (p:=⟨b,o+t,none⟩) lb).trans hc
 have ck3:=(hb3.cell (p:=⟨b',o'+i * 3,none⟩) lb').trans ck
 have cp3:=(hb3.cell (p:=⟨b',o'+i * 3+1,none⟩) lb').trans cp
 have cv3:=(hb3.cell (p:=⟨b',o'+i * 3+2,none⟩) lb').trans cv
 clear hc ck cp cv
 go_enter Tryz.func134,Tryz.ntmps134
 go_wp2_with fail
 go_region
 go_wp2_with fail
 have hb4:=hb2.trans ((below1 _ (.cells #[.int .i64 d.k,.int .i64 d.p,.int .i64 d.v] 94)).mono hb2.size)
 exact bodyPost_ret (v:=.agg #[.int .i64 d.k,.int .i64 d.p,.int .i64 d.v]) (by simp [results,Tryz.results134,go_sem]) rfl ⟨rfl,hb4.drew⟩
def M.OfEv (ll:List (List M.D)) (x:M.De):Prop:=∃ (ht:x.t < ll.length) (hi:x.i < ll[x.t].length),ll[x.t][x.i]=x.d
theorem M.ofEv {ll:List (List M.D)}:∀ x∈M.deeds ll,M.OfEv ll x:=by
 have hT:∀ (ll:List (List M.D)) (t:Nat) (ht:t < ll.length) (l:List M.D) (i:Nat) (lr:Int) (n:Nat),ll[t].drop i=l→∀ x∈M.deT t i lr n l,M.OfEv ll x:=by
  intro ll t ht l
  induction l with
  | nil=>intro i lr n _ x hx;simp [M.deT] at hx
  | cons d l ih =>
   intro i lr n hd x hx
   have hi:i < ll[t].length:=by
    rcases Nat.lt_or_ge i ll[t].length with h | h
    ·exact h
    ·rw [List.drop_eq_nil_of_le h] at hd;cases hd
   rw [← List.getElem_cons_drop hi] at hd
   obtain ⟨hd1,hd2⟩:=List.cons.inj hd
   rw [M.deT] at hx
   rcases List.mem_append.1 hx with hx | hx
   ·have:x.t=t∧x.i=i∧x.d=d:=by
     unfold M.deD at hx
     split at hx
     ·simp only [List.mem_cons,List.not_mem_nil,or_false] at hx
      rcases hx with rfl | rfl<;>exact ⟨rfl,rfl,rfl⟩
     ·simp only [List.mem_cons,List.not_mem_nil,or_false] at hx
      subst hx;exact ⟨rfl,rfl,rfl⟩
    obtain ⟨xt,xi,xl,xd,xr⟩:=x
    obtain ⟨rfl,rfl,rfl⟩:=this
    exact ⟨ht,hi,hd1⟩
   ·exact ih _ _ _ hd2 x hx
 have hF:∀ (ll:List (List M.D)) (l:List (List M.D)) (t n:Nat),ll.drop t=l→∀ x∈M.deF t n l,M.OfEv ll x:=by
  intro ll l
  induction l with
  | nil=>intro t n _ x hx;simp [M.deF] at hx
  | cons d l ih =>
   intro t n hd x hx
   have ht:t < ll.length:=by
    rcases Nat.lt_or_ge t ll.length with h | h
    ·exact h
    ·rw [List.drop_eq_nil_of_le h] at hd;cases hd
   rw [← List.getElem_cons_drop ht] at hd
   obtain ⟨hd1,hd2⟩:=List.cons.inj hd
   rw [M.deF] at hx
   rcases List.mem_append.1 hx with hx | hx
   ·exact hT ll t ht d 0 _ _ (by rw [hd1];rfl) x hx
   ·exact ih _ _ hd2 x hx
 exact hF ll ll 0 0 rfl
abbrev DvS (w:World) (va:Option Addr) (g:Nat) (ds:List M.De):Prop:=RS (fun x:M.De=>x.ev.cells) 3 w va g ds
structure DvAt (w:World) (g o:Nat) (x:M.De):Prop where
 c0:w.cell? ⟨g,o,none⟩=some (.int .i64 x.t)
 c1:w.cell? ⟨g,o+1,none⟩=some (.int .i64 x.i)
 c2:w.cell? ⟨g,o+2,none⟩=some (.bool x.last)
theorem DvS.at {w:World} {va:Option Addr} {g:Nat} {l:List M.De} (h:DvS w va g l) {n:Nat} (hn:n < l.length):DvAt w g (n * 3) l[n] :=
 ⟨h.row n hn 0 (by omega),h.row n hn 1 (by omega),h.row n hn 2 (by omega)⟩
theorem DvS.bel {w w':World} {va:Option Addr} {g B:Nat} {l:List M.De} (h:DvS w va g l) (hb:Below B w w') (hB:w.heap.size≤B):DvS w' va g l:=h.below (fun _=>rfl) hb hB
theorem DvS.of {w:World} {va:Option Addr} {g:Nat} {l:List M.De} (h:RS M.Ev.cells 3 w va g (l.map M.De.ev)):DvS w va g l :=
 ⟨fun hl=>h.addr (by simpa using hl),fun i hi j hj=>by
  have:=h.row i (by simpa using hi) j hj
  rw [this,List.getElem_map]⟩
theorem l12Do_ev (a:Option Addr) (b o c:Nat) (ll:List (List M.D)) (x:M.De) (w:World) (hx:M.OfEv ll x) (hl:ll.length≤1048576) (hls:∀ t∈ll,t.length≤1048576) (h:DoSS w a b o ll) :
  Calls Tryz.prog 134 #[.agg #[.slice a ll.length c],.agg #[.int .i64 x.t,.int .i64 x.i,.bool x.last]] w fun e w'=>e=.returned (.agg #[.int .i64 x.d.k,.int .i64 x.d.p,.int .i64 x.d.v])∧Below w.heap.size w w':=by
 obtain ⟨ht,hi,hd⟩:=hx
 exact l12Do_any a b o c ll x.t x.i x.last x.d w ht hi hd hl (hls _ (List.getElem_mem ht)) h
end
section
open Go.RowKit
theorem Tryz.infoRs:(Tryz.prog.info? 26).map (fun i=>(i.zero,i.size,i.bytes))=some (some (.slice none 0 0),1,24):=by kernel_rfl
theorem grown_refl (w:World) (row:Option Nat):w.grownBy w row:=⟨rfl,rfl,rfl,Nat.le_refl _,fun _ _ _=>rfl⟩
theorem grown_of {w w':World} (h:Below w.heap.size w w') (row:Option Nat):w.grownBy w' row:=⟨h.os,h.tape,h.output,h.size,fun k hk _=>h.block k hk⟩
theorem grown_then {a b c:World} {row row':Option Nat} (h:a.grownBy b row) (k:b.grownBy c row') (hr:∀ j,row'=some j→a.heap.size≤j∨row=some j):a.grownBy c row :=
 ⟨k.os.trans h.os,k.tape.trans h.tape,k.output.trans h.output,Nat.le_trans h.size k.size,fun i hi hne=>(k.block i (Nat.lt_of_lt_of_le hi h.size) (fun e=>by
  rcases hr i e.symm with h1 | h1
  ·omega
  ·exact hne h1.symm)).trans (h.block i hi hne)⟩
theorem grown_below {w w':World} (h:w.grownBy w' none):Below w.heap.size w w':=⟨h.os,h.tape,h.output,h.size,fun k hk=>h.block k hk (by simp)⟩
theorem IntS.grown {w w':World} {row:Option Nat} {a:Option Addr} {b o:Nat} {l:List Int} (h:IntS w a b o l) (hg:w.grownBy w' row) (hne:0 < l.length→some b≠row):IntS w' a b o l :=
 ⟨h.addr,fun i hi=>(hg.cell_far ⟨b,o+i,none⟩ (h.lt (by omega)) (hne (by omega))).trans (h.row i hi)⟩
theorem own_empty {X:World} {base g:Nat} {e:TypeId} (h:X.heap[g]?=some (.cells #[] e (0,0))) (hb:base≤g):X.ownsRow base e 1 (.slice (some ⟨g,0,none⟩) 0 0) 0 [] :=
 ⟨by simp,.inr ⟨g,0,#[],rfl,hb,h,Nat.le_refl _,Nat.zero_le _,by simp,by simp⟩⟩
theorem own_ints {w:World} {base:Nat} {e:TypeId} {v:Value} {l:List Int} (h:w.ownsRow base e 1 v l.length (nums l)):∃ a g c,v=.slice a l.length c∧IntS w a g 0 l∧(a=none→c=0)∧(0 < l.length→base≤g):=by
 rcases h.2 with ⟨hv,hn⟩ | ⟨g,cap,cur,hv,hg,hh,hc,r⟩
 ·have:l=[]:=List.length_eq_zero_iff.1 hn
  subst this
  exact ⟨none,0,0,hv,IntS.nil _ _ _ _,fun _=>rfl,fun h=>absurd h (Nat.lt_irrefl _)⟩
 ·refine ⟨_,g,cap,hv,⟨fun _=>rfl,fun i hi=>?_⟩,fun e=>(by cases e),fun _=>hg⟩
  have:=h.cells (g:=g) (by rw [hv];rfl) i (.int .i64 l[i]) (by simp [nums,hi])
  rwa [Go.WideShapes.add_plain] at this
theorem own_at {w:World} {base g n cap:Nat} {e:TypeId} {l:List Int} {xs:List Value} (h:w.ownsRow base e 1 (.slice (some ⟨g,0,none⟩) n cap) n xs) (hx:xs=nums l):IntS w (some ⟨g,0,none⟩) g 0 l∧base≤g:=by
 refine ⟨⟨fun _=>rfl,fun i hi=>?_⟩,(h.lt g rfl).1⟩
 have:=h.cells (g:=g) rfl i (.int .i64 l[i]) (by rw [hx];simp [nums,hi])
 rwa [Go.WideShapes.add_plain] at this
theorem wp_append_ints {P:Program} {o:Oper} {a:Act} {w:World} {K:Act→World→Prop} {Q:Exit→Act→World→Prop} (s x:Operand) (t:TypeId)
  (ho:o.op=.call { callee:=.builtin .append,args:=#[s,x],argTypes:=#[t,t] }) (base:Nat) (e:TypeId) (i:TypeInfo) (ht:P.underlying t=some (.slice e)) (hi:P.info? e=some i) (hz0:i.zero=some (.int .i64 0)) (hz1:i.size=1) (hz2:i.bytes=8)
  (v:Value) (n:Nat) (xs:List Value) (hs:a.eval s=v) (hown:w.ownsRow base e 1 v n xs) (hbase:base≤w.heap.size) (sa:Option Addr) (b off c:Nat) (l:List Int) (hx:a.eval x=.slice sa l.length c) (hI:IntS w sa b off l) (hl:n+l.length≤1048576) (hc:sa=none→c=0)
  (h:∀ v' w',w'.ownsRow base e 1 v' (n+l.length) (xs++nums l)→w.grownBy w' v.ownBlock→(v'.ownBlock=v.ownBlock∨v'.ownBlock=some w.heap.size)→K (a.put o.dst v') w') :
  Oper.wp P o a w K Q:=by
 cases sa with
 | none =>
  have hl0:l=[]:=by
   rcases Nat.eq_zero_or_pos l.length with h0 | h0
   ·exact List.length_eq_zero_iff.1 h0
   ·cases hI.addr h0
  subst hl0
  obtain ⟨rfl⟩:=hc rfl
  rw [List.length_nil] at hx
  have hrun:=run_append_owned_none (P:=P) (w:=w) base t o.type e i 1 ht hi v n xs hown
  have hk:=h v w (by simpa [nums] using hown) (grown_refl _ _) (.inl rfl)
  unfold Oper.wp
  simp [execOp,ho,resolve,invoke,builtin,hs,hx,hrun,Result.andThen]
  exact hk
 | some ad =>
  have hn:∀ j u,(nums l)[j]?=some u→w.cell? (ad.add j)=some u:=fun j u hj=>by
   have hjl:j < l.length:=by
    have:=(List.getElem?_eq_some_iff.1 hj).1
    simpa [nums] using this
   obtain ⟨rfl⟩:=hI.addr (by omega)
   rw [Go.WideShapes.add_plain,hI.row j hjl]
   simpa [nums,hjl] using hj
  obtain ⟨v',w',hrun,h2,h3,_,h5⟩:=run_append_own_at (P:=P) w base t o.type e i (.int .i64 0) 1 8 ht hi hz0 hz1 hz2 rfl (by decide) v n xs hown ad l.length c (nums l) (by simp [nums]) hn (fun u hu=>by simp [nums] at hu;obtain ⟨_,_,rfl⟩:=hu;rfl) (by unfold maxLen;omega) (by omega) hbase
  have hk:=h v' w' h2 h3 h5
  unfold Oper.wp
  simp [execOp,ho,resolve,invoke,builtin,hs,hx,hrun,Result.andThen]
  exact hk
theorem step_append_ints {P:Program} {ops:Array Oper} {o:Oper} {a:Act} {w:World} {K:Act→World→Prop} {Q:Exit→Act→World→Prop} {E:Prop} (hgd:o.guard=none) (s x:Operand) (t:TypeId)
  (ho:o.op=.call { callee:=.builtin .append,args:=#[s,x],argTypes:=#[t,t] }) (base:Nat) (e:TypeId) (i:TypeInfo) (ht:P.underlying t=some (.slice e)) (hi:P.info? e=some i) (hz0:i.zero=some (.int .i64 0)) (hz1:i.size=1) (hz2:i.bytes=8)
  (v:Value) (n:Nat) (xs:List Value) (hs:a.eval s=v) (hown:w.ownsRow base e 1 v n xs) (hbase:base≤w.heap.size) (sa:Option Addr) (b off c:Nat) (l:List Int) (hx:a.eval x=.slice sa l.length c) (hI:IntS w sa b off l) (hl:n+l.length≤1048576) (hc:sa=none→c=0)
  (h:∀ v' w',w'.ownsRow base e 1 v' (n+l.length) (xs++nums l)→w.grownBy w' v.ownBlock→(v'.ownBlock=v.ownBlock∨v'.ownBlock=some w.heap.size)→K (a.put o.dst v') w') :
  if Region.wanted o (yielded ops a.tmps)=true then Oper.wp P o a w K Q else E:=by
 have hw:Region.wanted o (yielded ops a.tmps)=true:=by simp [Region.wanted,hgd]
 rw [if_pos hw]
 exact wp_append_ints s x t ho base e i ht hi hz0 hz1 hz2 v n xs hs hown hbase sa b off c l hx hI hl hc h
theorem wpList_append_ints {P:Program} {ops:Array Oper} {rest:List Oper} {o:Oper} {a:Act} {w:World} {Q:Exit→Act→World→Prop} (hgd:o.guard=none) (s x:Operand) (t:TypeId)
  (ho:o.op=.call { callee:=.builtin .append,args:=#[s,x],argTypes:=#[t,t] }) (base:Nat) (e:TypeId) (i:TypeInfo) (ht:P.underlying t=some (.slice e)) (hi:P.info? e=some i) (hz0:i.zero=some (.int .i64 0)) (hz1:i.size=1) (hz2:i.bytes=8)
  (v:Value) (n:Nat) (xs:List Value) (hs:a.eval s=v) (hown:w.ownsRow base e 1 v n xs) (hbase:base≤w.heap.size) (sa:Option Addr) (b off c:Nat) (l:List Int) (hx:a.eval x=.slice sa l.length c) (hI:IntS w sa b off l) (hl:n+l.length≤1048576) (hc:sa=none→c=0)
  (h:∀ v' w',w'.ownsRow base e 1 v' (n+l.length) (xs++nums l)→w.grownBy w' v.ownBlock→(v'.ownBlock=v.ownBlock∨v'.ownBlock=some w.heap.size)→wpList P ops Q rest (a.put o.dst v') w') :
  wpList P ops Q (o::rest) a w :=
 wpList_plain hgd fun _ hK=>wp_append_ints s x t ho base e i ht hi hz0 hz1 hz2 v n xs hs hown hbase sa b off c l hx hI hl hc fun v' w' h1 h2 h3=>hK _ _ (h v' w' h1 h2 h3)
structure RR (w:World) (base:Nat) (v:Value) (cs:List Value) (rows:List (List Int)):Prop where
 own:w.ownsRow base 26 1 v rows.length cs
 row:∀ i (h:i < rows.length),∃ a b c,cs[i]?=some (.slice a rows[i].length c)∧IntS w a b 0 rows[i]∧(a=none→c=0)∧(0 < rows[i].length→some b≠v.ownBlock)
theorem RR.nil (w:World) (base:Nat):RR w base (.slice none 0 0) [] []:=⟨World.ownsRow_nil _ _ _ _,fun _ h=>absurd h (Nat.not_lt_zero _)⟩
theorem RR.below {w w':World} {base:Nat} {v:Value} {cs:List Value} {rows:List (List Int)} (h:RR w base v cs rows) (hb:Below w.heap.size w w'):RR w' base v cs rows :=
 ⟨ownsRow_below h.own hb,fun i hi=>by
  obtain ⟨a,b,c,h1,h2,h3,h4⟩:=h.row i hi
  exact ⟨a,b,c,h1,h2.below hb (Nat.le_refl _),h3,h4⟩⟩
theorem RR.snoc {w W w':World} {base:Nat} {v:Value} {cs:List Value} {rows:List (List Int)} (h:RR w base v cs rows) (hb:Below w.heap.size w W) {r:List Int} {a:Option Addr} {b c g cap:Nat} (hr:IntS W a b 0 r) (hac:a=none→c=0) (hrb:0 < r.length→some b≠v.ownBlock)
  (ho:w'.ownsRow base 26 1 (.slice (some ⟨g,0,none⟩) (rows.length+1) cap) (rows.length+1) (cs++[.slice a r.length c])) (hg:W.grownBy w' v.ownBlock) (hat:v.ownBlock=some g∨g=W.heap.size):RR w' base (.slice (some ⟨g,0,none⟩) (rows.length+1) cap) (cs++[.slice a r.length c]) (rows++[r]):=by
 have hcl:cs.length=rows.length:=by have:=h.own.1;omega
 have hW:=h.below hb
 refine ⟨by rw [List.length_append];exact ho,fun i hi=>?_⟩
 rcases Nat.lt_or_ge i rows.length with h1 | h1
 ·obtain ⟨a',b',c',e1,e2,e3,e4⟩:=hW.row i h1
  rw [List.getElem_append_left h1]
  refine ⟨a',b',c',by rw [List.getElem?_append_left (by omega)];exact e1,e2.grown hg e4,e3,fun hp=>?_⟩
  rcases hat with e | e
  ·intro e';exact e4 hp (by rw [e];exact e')
  ·have:=e2.lt hp
   intro e'
   have e'':b'=g:=Option.some.inj e'
   omega
 ·have hie:i=rows.length:=by simp at hi;omega
  subst hie
  have e0:(rows++[r])[rows.length]=r:=by simp
  rw [e0]
  refine ⟨a,b,c,by rw [List.getElem?_append_right (by omega),hcl];simp,hr.grown hg hrb,hac,fun hp=>?_⟩
  rcases hat with e | e
  ·intro e';exact hrb hp (by rw [e];exact e')
  ·have:=hr.lt hp
   intro e'
   have e'':b=g:=Option.some.inj e'
   omega
end
section
open Go.RowKit
theorem bel_al {w X:World} (h:Below w.heap.size w X) (o:Obj):Below w.heap.size w (X.alloc o):=h.alloc h.size o
structure More (w w':World) (base:Nat) (v v':Value) (cs:List Value) (rows:List (List Int)):Prop where
 rr:RR w' base v' cs rows
 grown:w.grownBy w' v.ownBlock
 at_:∀ k,v'.ownBlock=some k→w.heap.size≤k∨v.ownBlock=some k
theorem More.of {w:World} {base:Nat} {v:Value} {cs:List Value} {rows:List (List Int)} (h:RR w base v cs rows):More w w base v v cs rows:=⟨h,grown_refl _ _,fun _ hk=>.inr hk⟩
theorem More.below {w w1 w':World} {base:Nat} {v v':Value} {cs:List Value} {rows:List (List Int)} (h:More w w1 base v v' cs rows) (hb:Below w1.heap.size w1 w'):More w w' base v v' cs rows :=
 ⟨h.rr.below hb,grown_then h.grown (grown_of hb none) (fun _ e=>by cases e),h.at_⟩
theorem More.trans {w w1 w':World} {base:Nat} {v v1 v':Value} {cs cs':List Value} {rows rows':List (List Int)} (h:More w w1 base v v1 cs rows) (k:More w1 w' base v1 v' cs' rows'):More w w' base v v' cs' rows' :=
 ⟨k.rr,grown_then h.grown k.grown h.at_,fun j hj=>by
  rcases k.at_ j hj with e | e
  ·exact .inl (Nat.le_trans h.grown.size e)
  ·exact h.at_ j e⟩
theorem More.apart {w w1:World} {base:Nat} {v v1:Value} {cs:List Value} {rows:List (List Int)} (h:More w w1 base v v1 cs rows) {b:Nat} (hlt:b < w.heap.size) (hne:some b≠v.ownBlock):some b≠v1.ownBlock:=fun e=>by
 rcases h.at_ b e.symm with h1 | h1
 ·omega
 ·exact hne h1.symm
theorem More.ints {w w1:World} {base:Nat} {v v1:Value} {cs:List Value} {rows:List (List Int)} (h:More w w1 base v v1 cs rows) {a:Option Addr} {b o:Nat} {l:List Int} (hl:IntS w a b o l) (hne:0 < l.length→some b≠v.ownBlock):IntS w1 a b o l:=hl.grown h.grown hne
set_option maxHeartbeats 2000000 in
set_option maxRecDepth 100000 in
theorem l12Rows_any (la:Option Addr) (lb lo lc:Nat) (l:List Int) (hl:l.length≤1048575) (base:Nat) :
  ∀ (n:Nat) (ha:Option Addr) (hb ho hc:Nat) (h:List Int) (v:Value) (cs:List Value) (rows:List (List Int)) (w:World),Hid (h.length+n=l.length)→Hid (rows.length+l.length ^ n≤1099511627776)→base≤w.heap.size→IntS w la lb lo l→(0 < l.length→some lb≠v.ownBlock)→IntS w ha hb ho h→(ha=none→hc=0)→(0 < h.length→some hb≠v.ownBlock)→RR w base v cs rows →
  Calls Tryz.prog 166 #[.slice la l.length lc,.slice ha h.length hc,v] w fun e w'=>∃ v' cs',e=.returned v'∧More w w' base v v' cs' (rows++M.rowsOf l n h):=by
 obtain ⟨i0,hi,hz0,hz1,hz2⟩:=info_parts Tryz.infoInt
 obtain ⟨j0,hj,hy0,hy1,hy2⟩:=info_parts Tryz.infoRs
 intro n
 induction n with
 | zero =>
  intro ha hb ho hc h v cs rows w HL HN hbs hI hlb hH hac hhb hR
  have HLe:Hid ((h.length:Int)=l.length):=by show _=_;have:=HL.out;omega
  have hle:((h.length:Int)==(l.length:Int))=true:=by have:=HLe.out;simp [this]
  have hh1:h.length≤1048576:=by have:=HL.out;omega
  have hrl:rows.length+1≤1099511627776:=by have:=HN.out;simpa using this
  have hvlt:∀ k,v.ownBlock=some k→k < w.heap.size:=fun k hk=>(hR.own.lt k hk).2
  have hE:(w.alloc (.cells #[] 3)).ownsRow w.heap.size 3 1 (.slice (some ⟨w.heap.size,0,none⟩) 0 0) 0 []:=own_empty (heap_alloc_new w _) (Nat.le_refl _)
  clear HL HN HLe
  go_enter Tryz.func166,Tryz.ntmps166
  go_wp2_with (at_builtin;refine wpList_append_ints rfl (.tmp 14) (.tmp 15) 26 rfl w.heap.size 3 i0 Tryz.underlying26 hi hz0 hz1 hz2 _ _ _ rfl hE (by simp) ha hb ho hc h rfl (hH.below (below1 _ _) (Nat.le_refl _)) (by omega) hac ?_)
  intro v1 w1 hown1 hg1 hat1
  have b1:Below w.heap.size w w1:=below_grown (below1 w _) hg1 (fun k hk=>by have:w.heap.size=k:=Option.some.inj hk;omega)
  obtain ⟨a1,g1,c1,rfl,hI1,hac1,hge1⟩:=own_ints hown1
  have hR1:=hR.below b1
  have b1s:=b1.size
  clear hown1 hg1 hat1 hE
  have hb1n:=below1 w1 (.cells #[.slice a1 h.length c1] 26)
  go_wp2_with (at_builtin;refine wpList_append_lies _ rfl (.tmp 13) (.tmp 17) 27 rfl base 26 j0 _ 1 24 Tryz.underlying27 hj hy0 hy1 hy2 rfl (by decide) _ _ _ rfl (hR1.own.alloc _) ⟨w1.heap.size,0,none⟩ 1 1 [.slice a1 h.length c1] rfl rfl (World.news_of_block (cs:=#[.slice a1 h.length c1]) (t:=26) (fr:=(0,0)) (heap_alloc_new w1 _)) (by simp [Value.oneCell']) (by omega) (by unfold maxLen;omega) (by omega) (by simp;omega) (w1.heap.size+1) (by simp) ?_)
  intro g2 cap2 w2 hown2 hg2 hat2 hlt2
  have hR2:=hR1.snoc hb1n (hI1.below hb1n (Nat.le_refl _)) hac1 (fun hp e=>by have:=hge1 hp;have:=hvlt g1 e.symm;omega) hown2 hg2 (by simpa using hat2)
  have hG2:w.grownBy w2 v.ownBlock:=grown_then (grown_of (b1.trans (hb1n.mono b1.size)) _) hg2 (fun j hj=>.inr hj)
  clear hown2 hlt2 hg2
  go_wp2_with fail
  go_ret
  exact ⟨_,_,rfl,hR2,hG2,fun k hk=>by
   have hk':g2=k:=Option.some.inj hk
   rcases hat2 with e | e
   ·exact .inr (by rw [e,hk'])
   ·exact .inl (by omega)⟩
 | succ n ih =>
  intro ha hb ho hc h v cs rows w HL HN hbs hI hlb hH hac hhb hR
  have hll:h.length < l.length:=by have:=HL.out;omega
  have hle:((h.length:Int)==(l.length:Int))=false:=by simp;omega
  have HLn:∀ x:Int,Hid ((h++[x]).length+n=l.length):=fun x=>by show _=_;have:=HL.out;simp;omega
  have HN2:Hid (rows.length+l.length * l.length ^ n≤1099511627776):=by show _≤_;have:=HN.out;rwa [Nat.pow_succ,Nat.mul_comm] at this
  clear HL HN
  obtain ⟨rfl⟩:=hI.addr (by omega)
  have lbl:lb < w.heap.size:=hI.lt (by omega)
  have hlb':=hlb (by omega)
  have hhl:0 < h.length→hb < w.heap.size:=fun hp=>hH.lt hp
  have HM:∃ m,Hid (l.length ^ n=m):=⟨_,rfl⟩
  obtain ⟨m,HM⟩:=HM
  have HN3:Hid (rows.length+l.length * m≤1099511627776):=by show _≤_;rw [← HM.out];exact HN2.out
  clear HN2
  go_enter Tryz.func166,Tryz.ntmps166
  go_wp2_with fail
  go_loopw [2,7] (fun s2 s7 wr=>∃ (k:Nat) (cs':List Value) (rs:List (List Int)),s7=.int .i64 k∧k≤l.length∧Hid (M.rowsOf l (n+1) h=rs++(l.drop k).flatMap fun x=>if M.has h x then [] else M.rowsOf l n (h++[x]))∧Hid (rs.length≤k * m)∧More w wr base v s2 cs' (rows++rs)) (fun _ s7 _=>l.length - (intOf s7).toNat)
  case atStart=>exact ⟨0,cs,[],rfl,Nat.zero_le _,by show _=_;rfl,by show _≤_;simp,by rw [List.append_nil];exact More.of hR⟩
  case round =>
   obtain ⟨k,cs',rs,rfl,hk,HE,HC,hM⟩:=hrel
   by_cases hlt:k < l.length
   ·have HE2:=M.rows_step HE.out hlt
    have hIr:=hM.ints hI hlb
    have hHr:=hM.ints hH hhb
    have hx:=hIr.row k hlt
    generalize l[k]=x at *
    have i1:(k:Int) < l.length:=by omega
    cases hhas:M.has h x
    ·have HE3:Hid (M.rowsOf l (n+1) h=(rs++M.rowsOf l n (h++[x]))++(l.drop (k+1)).flatMap fun x=>if M.has h x then [] else M.rowsOf l n (h++[x])):=by show _=_;rw [hhas,if_neg (by simp)] at HE2;exact HE2
     clear HE2 HE
     have HC1:Hid ((rs++M.rowsOf l n (h++[x])).length≤(k+1) * m):=by
      show _≤_
      have h1:=HC.out
      have h2:=M.rowsOf_len l n (h++[x])
      rw [HM.out] at h2
      rw [Nat.succ_mul,List.length_append];omega
     have HC2:Hid ((rows++rs).length+l.length ^ n≤1099511627776):=by
      show _≤_
      have h1:=HC.out
      have h2:=HN3.out
      have h3:(k+1) * m≤l.length * m:=Nat.mul_le_mul_right _ (by omega)
      rw [Nat.succ_mul] at h3
      rw [HM.out,List.length_append];omega
     have hws:=hM.grown.size
     have lblr:lb < wr.heap.size:=by omega
     have hvr:∀ j,u2.ownBlock=some j→j < wr.heap.size:=fun j hj=>(hM.rr.own.lt j hj).2
     go_wp2_with (go_at_call 85;refine (l12Has_any _ _ _ _ h x _ (by omega) hHr).mono ?_;rw [hhas];rintro e w' ⟨rfl,rfl⟩)
     have C:∀ (W:World) (g cap:Nat),Below w'.heap.size w' W→IntS W (some ⟨g,0,none⟩) g 0 (h++[x])→w'.heap.size≤g→Calls Tryz.prog 166 #[.slice (some ⟨lb,lo,none⟩) l.length lc,.slice (some ⟨g,0,none⟩) (h.length+1) cap,u2] W fun e W'=>∃ v' cs'',e=.returned v'∧More W W' base u2 v' cs'' ((rows++rs)++M.rowsOf l n (h++[x])):=by
      intro W g cap hb hI3 hge
      have:=ih (some ⟨g,0,none⟩) g 0 cap (h++[x]) u2 cs' (rows++rs) W (HLn x) HC2 (by have:=hb.size;omega) (hIr.below hb (Nat.le_refl _)) (fun _=>hM.apart lbl hlb') hI3 (fun e=>by cases e) (fun _ e=>by have:=hvr g e.symm;omega) (hM.rr.below hb)
      rw [List.length_append,List.length_singleton] at this
      exact this
     have hap:some lb≠u2.ownBlock:=hM.apart lbl hlb'
     clear ih HLn HC2 hIr
     go_region_held3 (fun z=>z.cell? ⟨lb,lo+k,none⟩=some (.int .i64 x)) (go_keep) (first
      | (refine step_append_ints (by rfl) (.tmp 33) (.tmp 34) 26 (by rfl) w'.heap.size 3 i0 Tryz.underlying26 hi hz0 hz1 hz2 (.slice (some ⟨w'.heap.size,0,none⟩) 0 0) 0 [] (by rfl) (by first | exact own_empty (alloc_new w' _ _ rfl) (by simp) | exact own_empty ((alloc_old _ _ _ (by simp)).trans (alloc_new w' _ _ rfl)) (by simp)) (by (try simp);(try omega)) ha hb ho hc h (by rfl) (hHr.below (B:=w'.heap.size) (by repeat (first | exact Below.refl _ _ | refine bel_al ?_ _ | refine Below.drew ?_)) (Nat.le_refl _)) (by omega) hac ?_;intro v1 w1 hown1 hg1 hat1;(have b1:Below w'.heap.size w' w1:=below_grown (by repeat (first | exact Below.refl _ _ | refine bel_al ?_ _ | refine Below.drew ?_)) hg1 (fun j hj=>by have:=Option.some.inj hj;(try simp at this);omega) (by (try simp);(try omega)));have Y1:=(b1.cell (p:=⟨lb,lo+k,none⟩) lblr).trans hx;(try (have hB1:w1.heap[w'.heap.size+1]?=some (.cells #[.int .i64 x] 3 (0,0)):=(hg1.block (w'.heap.size+1) (by simp) (by simp [Value.ownBlock])).trans (alloc_new (w'.alloc (.cells #[] 3)) _ _ (by simp)))))
      | (refine step_append_ints (by rfl) (.tmp 33) (.tmp 34) 26 (by rfl) w'.heap.size 3 i0 Tryz.underlying26 hi hz0 hz1 hz2 (.slice (some ⟨w'.heap.size+1,0,none⟩) 0 0) 0 [] (by rfl) (own_empty (alloc_new (w'.alloc (.cells #[.int .i64 x] 3)) _ _ (by simp)) (by simp)) (by (try simp);(try omega)) ha hb ho hc h (by rfl) (hHr.below (B:=w'.heap.size) (by repeat (first | exact Below.refl _ _ | refine bel_al ?_ _ | refine Below.drew ?_)) (Nat.le_refl _)) (by omega) hac ?_;intro v1 w1 hown1 hg1 hat1;(have b1:Below w'.heap.size w' w1:=below_grown (by repeat (first | exact Below.refl _ _ | refine bel_al ?_ _ | refine Below.drew ?_)) hg1 (fun j hj=>by have:=Option.some.inj hj;(try simp at this);omega) (by (try simp);(try omega)));have Y1:=(b1.cell (p:=⟨lb,lo+k,none⟩) lblr).trans hx;have hB1:w1.heap[w'.heap.size]?=some (.cells #[.int .i64 x] 3 (0,0)):=(hg1.block w'.heap.size (by simp;try omega) (by simp [Value.ownBlock])).trans ((alloc_old (w'.alloc (.cells #[.int .i64 x] 3)) _ _ (by simp)).trans (alloc_new w' _ _ rfl)))
      | (refine step_append_lies _ (by rfl) (.tmp 35) (.tmp 40) 26 (by rfl) w'.heap.size 3 i0 _ 1 8 Tryz.underlying26 hi hz0 hz1 hz2 rfl (by omega) _ _ _ (by rfl) (by first | exact hown1 | exact hown1.alloc _) _ 1 1 [.int .i64 x] (by rfl) (by rfl) (World.news_of_block (cs:=#[.int .i64 x]) (t:=3) (fr:=(0,0)) (by first | exact hB1 | exact heap_alloc_new _ _)) (by simp [Value.oneCell']) (by omega) (by unfold maxLen;omega) (by omega) (by have:=b1.size;(try simp);omega) _ (by rfl) ?_;intro g2 cap2 w2 hown2 hg2 hat2 hlt2;(have b2:Below w'.heap.size w' w2:=below_grown (by first | exact b1 | exact bel_al b1 _) hg2 (fun j hj=>(hown1.lt j hj).1) (by have:=b1.size;(try simp);omega));have Y2:=(b2.cell (p:=⟨lb,lo+k,none⟩) lblr).trans hx;(obtain ⟨hI3,hge3⟩:=own_at (l:=h++[x]) hown2 (by simp [nums])))
      | (go_at_call 166;refine (C _ _ _ b2 hI3 hge3).mono ?_;rintro e w3 ⟨v3,cs3,rfl,hM3⟩;have Y3:=(hM3.grown.cell_far ⟨lb,lo+k,none⟩ (Nat.lt_of_lt_of_le lblr b2.size) hap).trans Y2;have hM4:=(hM.below b2).trans hM3;clear hM3))
     all_goals
      rw [List.append_assoc] at hM4
      go_wp2_with fail
      exact ⟨⟨k+1,cs3,_,by go_num,by omega,HE3,HC1,hM4⟩,by simp [intOf];omega⟩
    ·have HE3:Hid (M.rowsOf l (n+1) h=rs++(l.drop (k+1)).flatMap fun x=>if M.has h x then [] else M.rowsOf l n (h++[x])):=by show _=_;rw [hhas,if_pos rfl,List.append_nil] at HE2;exact HE2
     clear HE2 HE
     go_wp2_with (go_at_call 85;refine (l12Has_any _ _ _ _ h x _ (by omega) hHr).mono ?_;rw [hhas];rintro e w' ⟨rfl,rfl⟩)
     exact ⟨⟨k+1,cs',rs,by go_num,by omega,HE3,by show _≤_;have:=HC.out;rw [Nat.succ_mul];omega,hM⟩,by simp [intOf];omega⟩
   ·have HE3:Hid (M.rowsOf l (n+1) h=rs):=by show _=_;have:=HE.out;rw [List.drop_eq_nil_of_le (by omega)] at this;simpa using this
    go_wp2_with fail
    go_ret
    exact ⟨_,cs',rfl,by rw [HE3.out];exact hM⟩
end
section
open Go.RowKit
structure CelS (w:World) (a:Option Addr) (b o:Nat) (ys:List Value):Prop where
 addr:0 < ys.length→a=some ⟨b,o,none⟩
 row:∀ j u,ys[j]?=some u→w.cell? ⟨b,o+j,none⟩=some u
 one:∀ u∈ys,u.oneCell'=true
theorem CelS.below {w w':World} {a:Option Addr} {b o:Nat} {ys:List Value} (h:CelS w a b o ys) (hb:Below w.heap.size w w'):CelS w' a b o ys :=
 ⟨h.addr,fun j u hj=>(hb.cell (p:=⟨b,o+j,none⟩) (World.block_lt_of_cell? _ _ (h.row j u hj))).trans (h.row j u hj),h.one⟩
theorem step_append_cells {P:Program} {ops:Array Oper} {o:Oper} {a:Act} {w:World} {K:Act→World→Prop} {Q:Exit→Act→World→Prop} {E:Prop} (hgd:o.guard=none) (s x:Operand) (t:TypeId)
  (ho:o.op=.call { callee:=.builtin .append,args:=#[s,x],argTypes:=#[t,t] }) (base:Nat) (e:TypeId) (i:TypeInfo) (z:Value) (bytes:Nat) (ht:P.underlying t=some (.slice e)) (hi:P.info? e=some i) (hz0:i.zero=some z) (hz1:i.size=1) (hz2:i.bytes=bytes) (hzs:z.cells.size=1)
  (v:Value) (n:Nat) (xs:List Value) (hs:a.eval s=v) (hown:w.ownsRow base e 1 v n xs) (hbase:base≤w.heap.size) (sa:Option Addr) (b off c m:Nat) (ys:List Value) (hx:a.eval x=.slice sa m c) (hm:ys.length=m) (hI:CelS w sa b off ys) (h63:n+m≤maxLen) (hbytes:(n+m) * bytes≤140737488355328) (hc:sa=none→c=0)
  (h:∀ v' w',w'.ownsRow base e 1 v' (n+m) (xs++ys)→w.grownBy w' v.ownBlock→(v'.ownBlock=v.ownBlock∨v'.ownBlock=some w.heap.size)→K (a.put o.dst v') w') :
  if Region.wanted o (yielded ops a.tmps)=true then Oper.wp P o a w K Q else E:=by
 have hw:Region.wanted o (yielded ops a.tmps)=true:=by simp [Region.wanted,hgd]
 rw [if_pos hw]
 subst hm
 cases sa with
 | none =>
  have hl0:ys=[]:=by
   rcases Nat.eq_zero_or_pos ys.length with h0 | h0
   ·exact List.length_eq_zero_iff.1 h0
   ·cases hI.addr h0
  subst hl0
  obtain ⟨rfl⟩:=hc rfl
  rw [List.length_nil] at hx
  have hrun:=run_append_owned_none (P:=P) (w:=w) base t o.type e i 1 ht hi v n xs hown
  have hk:=h v w (by simpa using hown) (grown_refl _ _) (.inl rfl)
  unfold Oper.wp
  simp [execOp,ho,resolve,invoke,builtin,hs,hx,hrun,Result.andThen]
  exact hk
 | some ad =>
  have hn:∀ j u,ys[j]?=some u→w.cell? (ad.add j)=some u:=fun j u hj=>by
   have hjl:j < ys.length:=(List.getElem?_eq_some_iff.1 hj).1
   obtain ⟨rfl⟩:=hI.addr (by omega)
   rw [Go.WideShapes.add_plain]
   exact hI.row j u hj
  obtain ⟨v',w',hrun,h2,h3,_,h5⟩:=run_append_own_at (P:=P) w base t o.type e i z 1 bytes ht hi hz0 hz1 hz2 hzs (by decide) v n xs hown ad ys.length c ys (by simp) hn hI.one h63 hbytes hbase
  have hk:=h v' w' h2 h3 h5
  unfold Oper.wp
  simp [execOp,ho,resolve,invoke,builtin,hs,hx,hrun,Result.andThen]
  exact hk
structure FarSS (w:World) (row:Option Nat) (b:Nat) (cs:List Value) (rows:List (List Int)):Prop where
 len:cs.length=rows.length
 ne:0 < rows.length→some b≠row
 cell:∀ i u,cs[i]?=some u→w.cell? ⟨b,i,none⟩=some u
 row:∀ i (h:i < rows.length),∃ a' b' c',cs[i]?=some (.slice a' rows[i].length c')∧IntS w a' b' 0 rows[i]∧(a'=none→c'=0)∧(0 < rows[i].length→some b'≠row)
theorem FarSS.grown {w w':World} {row:Option Nat} {b:Nat} {cs:List Value} {rows:List (List Int)} (h:FarSS w row b cs rows) (hg:w.grownBy w' row):FarSS w' row b cs rows :=
 ⟨h.len,h.ne,fun i u hu=>(hg.cell_far ⟨b,i,none⟩ (World.block_lt_of_cell? _ _ (h.cell i u hu)) (h.ne (by have:=(List.getElem?_eq_some_iff.1 hu).1;have:=h.len;omega))).trans (h.cell i u hu),fun i hi=>by
  obtain ⟨a',b',c',e1,e2,e3,e4⟩:=h.row i hi
  exact ⟨a',b',c',e1,e2.grown hg e4,e3,e4⟩⟩
theorem FarSS.away {w:World} {row:Option Nat} {b:Nat} {cs:List Value} {rows:List (List Int)} (h:FarSS w row b cs rows) {g:Nat} (hg:w.heap.size≤g):FarSS w (some g) b cs rows :=
 ⟨h.len,fun hp e=>by
  have hi:0 < cs.length:=by have:=h.len;omega
  have:=World.block_lt_of_cell? _ _ (h.cell 0 cs[0] (List.getElem?_eq_getElem hi))
  have e':b=g:=Option.some.inj e
  simp at this
  omega,h.cell,fun i hi=>by
  obtain ⟨a',b',c',e1,e2,e3,_⟩:=h.row i hi
  exact ⟨a',b',c',e1,e2,e3,fun hp e=>by
   have:=e2.lt hp
   have e':b'=g:=Option.some.inj e
   omega⟩⟩
theorem FarSS.below {w w':World} {row:Option Nat} {b:Nat} {cs:List Value} {rows:List (List Int)} (h:FarSS w row b cs rows) (hb:Below w.heap.size w w'):FarSS w' row b cs rows:=h.grown (grown_of hb row)
structure R3 (w:World) (base:Nat) (v:Value) (cs:List Value) (os:List (List (List Int))):Prop where
 own:w.ownsRow base 27 1 v os.length cs
 row:∀ i (h:i < os.length),∃ a b c ds,cs[i]?=some (.slice a os[i].length c)∧(0 < os[i].length→a=some ⟨b,0,none⟩)∧(a=none→c=0)∧FarSS w v.ownBlock b ds os[i]
theorem R3.below {w w':World} {base:Nat} {v:Value} {cs:List Value} {os:List (List (List Int))} (h:R3 w base v cs os) (hb:Below w.heap.size w w'):R3 w' base v cs os :=
 ⟨ownsRow_below h.own hb,fun i hi=>by
  obtain ⟨a,b,c,ds,h1,h2,h3,h4⟩:=h.row i hi
  exact ⟨a,b,c,ds,h1,h2,h3,h4.below hb⟩⟩
theorem R3.snoc {w W w':World} {base:Nat} {v:Value} {cs:List Value} {os:List (List (List Int))} (h:R3 w base v cs os) (hb:Below w.heap.size w W) {r:List (List Int)} {a:Option Addr} {b c g cap:Nat} {ds:List Value} (ha:0 < r.length→a=some ⟨b,0,none⟩) (hac:a=none→c=0) (hr:FarSS W v.ownBlock b ds r)
  (ho:w'.ownsRow base 27 1 (.slice (some ⟨g,0,none⟩) (os.length+1) cap) (os.length+1) (cs++[.slice a r.length c])) (hg:W.grownBy w' v.ownBlock) (hat:v.ownBlock=some g∨g=W.heap.size):R3 w' base (.slice (some ⟨g,0,none⟩) (os.length+1) cap) (cs++[.slice a r.length c]) (os++[r]):=by
 have hcl:cs.length=os.length:=by have:=h.own.1;omega
 have hW:=h.below hb
 have turn:∀ {b':Nat} {ds':List Value} {r':List (List Int)},FarSS W v.ownBlock b' ds' r'→FarSS w' (some g) b' ds' r':=fun hf=>by
  rcases hat with e | e
  ·rw [← e];exact hf.grown hg
  ·have h1:=hf.grown hg
   have h2:=hf.away (g:=g) (by omega)
   exact ⟨h1.len,h2.ne,h1.cell,fun i hi=>by
    obtain ⟨a1,b1,c1,e1,e2,e3,e4⟩:=hf.row i hi
    refine ⟨a1,b1,c1,e1,e2.grown hg e4,e3,fun hp e'=>?_⟩
    have:=e2.lt hp
    have e'':b1=g:=Option.some.inj e'
    omega⟩
 refine ⟨by rw [List.length_append];exact ho,fun i hi=>?_⟩
 rcases Nat.lt_or_ge i os.length with h1 | h1
 ·obtain ⟨a',b',c',ds',e1,e2,e3,e4⟩:=hW.row i h1
  rw [List.getElem_append_left h1]
  exact ⟨a',b',c',ds',by rw [List.getElem?_append_left (by omega)];exact e1,e2,e3,turn e4⟩
 ·have hie:i=os.length:=by simp at hi;omega
  subst hie
  have e0:(os++[r])[os.length]=r:=by simp
  rw [e0]
  exact ⟨a,b,c,ds,by rw [List.getElem?_append_right (by omega),hcl];simp,ha,hac,turn hr⟩
end
section
open Go.RowKit
structure DoIn (w W:World) (X:Nat) (d:M.D):Prop where
 bel:Below w.heap.size w W
 ge:w.heap.size≤X
 c0:W.cell? ⟨X,0,none⟩=some (.int .i64 d.k)
 c1:W.cell? ⟨X,1,none⟩=some (.int .i64 d.p)
 c2:W.cell? ⟨X,2,none⟩=some (.int .i64 d.v)
theorem DoIn.behind {w w1:World} {d:M.D} (hb:Below w.heap.size w w1):DoIn w (w1.alloc (.cells #[.int .i64 d.k,.int .i64 d.p,.int .i64 d.v] 94)) w1.heap.size d :=
 ⟨hb.alloc hb.size _,hb.size,by simp,by simp,by simp⟩
theorem DoIn.ahead {w w1:World} {d:M.D} (hb:Below w.heap.size w w1) (h0:w1.cell? ⟨w.heap.size,0,none⟩=some (.int .i64 0)) (h1:w1.cell? ⟨w.heap.size,1,none⟩=some (.int .i64 0)) (h2:w1.cell? ⟨w.heap.size,2,none⟩=some (.int .i64 0)) :
  DoIn w (((w1.setCell ⟨w.heap.size,0,none⟩ (.int .i64 d.k)).setCell ⟨w.heap.size,1,none⟩ (.int .i64 d.p)).setCell ⟨w.heap.size,2,none⟩ (.int .i64 d.v)) w.heap.size d :=
 ⟨((hb.setCell (Nat.le_refl _) _).setCell (Nat.le_refl _) _).setCell (Nat.le_refl _) _,Nat.le_refl _,by simp [go_sem,h0],by simp [go_sem,h1],by simp [go_sem,h2]⟩
set_option maxHeartbeats 2000000 in
set_option maxRecDepth 100000 in
theorem l12Writes_any (a:Option Addr) (b o c:Nat) (ll:List (List M.D)) (va:Option Addr) (g cc:Nat) (p:Int) (w:World) (hl:ll.length≤1048576) (hls:∀ t∈ll,t.length≤1048576) (hdl:(M.deeds ll).length≤42) (h:DoSS w a b o ll) (hd:DvS w va g (M.deeds ll)) :
  Calls Tryz.prog 165 #[.agg #[.slice a ll.length c],.slice va (M.deeds ll).length cc,.int .i64 p] w fun e w'=>∃ v,e=.returned v∧w'.ownsRow w.heap.size 3 1 v (M.wrs p 0 (M.deeds ll)).length (nums (M.wrs p 0 (M.deeds ll)))∧Below w.heap.size w w':=by
 obtain ⟨i0,hi,hz0,hz1,hz2⟩:=info_parts Tryz.infoInt
 have hof:=M.ofEv (ll:=ll)
 generalize M.deeds ll=ds at *
 have hb0:=below1 w (.cells #[.slice a ll.length c] 25)
 have k0:(w.alloc (.cells #[.slice a ll.length c] 25)).cell? ⟨w.heap.size,0,none⟩=some (.slice a ll.length c):=by simp
 have hT0:Told (w.alloc (.cells #[.slice a ll.length c] 25)) ((w.alloc (.cells #[.slice a ll.length c] 25)).alloc (.cells #[] 3)) 3 1 (.slice (some ⟨w.heap.size+1,0,none⟩) 0 0) 0 []:=by
  have:=World.ownsRow_made (w.alloc (.cells #[.slice a ll.length c] 25)) #[] 0 (base:=(w.alloc (.cells #[.slice a ll.length c] 25)).heap.size) (e:=3) (size:=1) (Nat.le_refl _) (Nat.zero_le _) rfl
  exact ⟨by simpa using this,below1 _ _⟩
 go_enter Tryz.func165,Tryz.ntmps165
 go_wp2_with fail
 generalize (w.alloc (.cells #[.slice a ll.length c] 25)).alloc (.cells #[] 3)=W at *
 generalize w.alloc (.cells #[.slice a ll.length c] 25)=WB at *
 have lt0:w.heap.size < WB.heap.size:=World.block_lt_of_cell? _ _ k0
 replace h:=h.below hb0 (Nat.le_refl _)
 replace hd:=hd.bel hb0 (Nat.le_refl _)
 go_loopw [7,8] (fun s7 s8 wr=>∃ (n:Nat) (acc:List Int) (va':Option Addr) (vc:Nat),s7=.slice va' acc.length vc∧s8=.int .i64 n∧n≤ds.length∧acc.length≤n∧Hid (M.wrs p 0 ds=acc++M.wrs p n (ds.drop n))∧Told WB wr 3 1 (.slice va' acc.length vc) acc.length (nums acc)) (fun _ s8 _=>ds.length - (intOf s8).toNat)
 case atStart=>exact ⟨0,[],some ⟨w.heap.size+1,0,none⟩,0,rfl,rfl,Nat.zero_le _,Nat.le_refl _,by show _=_;rfl,hT0⟩
 case round =>
  obtain ⟨n,acc,va',vc,rfl,rfl,hn,hacc,HW,hT⟩:=hrel
  have kr:=(hT.bel.cell (p:=⟨w.heap.size,0,none⟩) lt0).trans k0
  clear hT0
  by_cases hlt:n < ds.length
  ·obtain ⟨rfl⟩:=hd.addr (by omega)
   have hx:=DvS.at (hd.bel hT.bel (Nat.le_refl _)) hlt
   have HW2:Hid (M.wrs p 0 ds=(if (ds[n]).to p then acc++[(n:Int)] else acc)++M.wrs p (n+1) (ds.drop (n+1))):=M.wrs_step HW.out hlt
   have hox:=hof _ (List.getElem_mem hlt)
   clear HW
   generalize ds[n]=x at *
   obtain ⟨c0,c1,c2⟩:=hx
   have i1:(n:Int) < ds.length:=by omega
   have lg:g < wr.heap.size:=World.block_lt_of_cell? _ _ c0
   have lw:w.heap.size < wr.heap.size:=World.block_lt_of_cell? _ _ kr
   have C:=fun W (hb:Below wr.heap.size wr W)=>l12Do_ev a b o c ll x W hox hl hls ((h.below hT.bel (Nat.le_refl _)).below hb (Nat.le_refl _))
   have hbA:=below1 wr (.cells #[.int .i64 0,.int .i64 0,.int .i64 0] 94)
   have A0:(wr.alloc (.cells #[.int .i64 0,.int .i64 0,.int .i64 0] 94)).cell? ⟨wr.heap.size,0,none⟩=some (.int .i64 0):=by simp
   have A1:(wr.alloc (.cells #[.int .i64 0,.int .i64 0,.int .i64 0] 94)).cell? ⟨wr.heap.size,1,none⟩=some (.int .i64 0):=by simp
   have A2:(wr.alloc (.cells #[.int .i64 0,.int .i64 0,.int .i64 0] 94)).cell? ⟨wr.heap.size,2,none⟩=some (.int .i64 0):=by simp
   have Af:∀ j,(wr.alloc (.cells #[.int .i64 0,.int .i64 0,.int .i64 0] 94)).frozen? ⟨wr.heap.size,j,none⟩=false:=by intro j;simp
   have Asz:wr.heap.size < (wr.alloc (.cells #[.int .i64 0,.int .i64 0,.int .i64 0] 94)).heap.size:=by simp
   have N0:wr.heap.size≠w.heap.size:=Nat.ne_of_gt lw
   have N1:wr.heap.size≠g:=Nat.ne_of_gt lg
   have B0:=(hbA.cell (p:=⟨w.heap.size,0,none⟩) lw).trans kr
   have B1:=(hbA.cell (p:=⟨g,n * 3,none⟩) lg).trans c0
   have B2:=(hbA.cell (p:=⟨g,n * 3+1,none⟩) lg).trans c1
   have B3:=(hbA.cell (p:=⟨g,n * 3+2,none⟩) lg).trans c2
   go_wp2_with fail
   go_region_held3 (fun w'=>w'.cell? ⟨w.heap.size,0,none⟩=some (.slice a ll.length c)∧w'.cell? ⟨g,n * 3,none⟩=some (.int .i64 x.t)∧w'.cell? ⟨g,n * 3+1,none⟩=some (.int .i64 x.i)∧w'.cell? ⟨g,n * 3+2,none⟩=some (.bool x.last)) (go_keep) (first
    | (go_at_call 134;refine (C _ ((Below.refl _ _).drew)).mono ?_;rintro e w1 ⟨rfl,hb1⟩;have Y0:=(hb1.cell (p:=⟨w.heap.size,0,none⟩) lw).trans kr;have Y1:=(hb1.cell (p:=⟨g,n * 3,none⟩) lg).trans c0;have Y2:=(hb1.cell (p:=⟨g,n * 3+1,none⟩) lg).trans c1;have Y3:=(hb1.cell (p:=⟨g,n * 3+2,none⟩) lg).trans c2)
    | (go_at_call 134;refine (C _ ((below1 _ _).drew)).mono ?_;rintro e w1 ⟨rfl,hb1⟩;have Y0:=(hb1.cell (p:=⟨w.heap.size,0,none⟩) (Nat.lt_trans lw Asz)).trans B0;have Y1:=(hb1.cell (p:=⟨g,n * 3,none⟩) (Nat.lt_trans lg Asz)).trans B1;have Y2:=(hb1.cell (p:=⟨g,n * 3+1,none⟩) (Nat.lt_trans lg Asz)).trans B2;have Y3:=(hb1.cell (p:=⟨g,n * 3+2,none⟩) (Nat.lt_trans lg Asz)).trans B3;have Z0:=(hb1.cell (p:=⟨wr.heap.size,0,none⟩) Asz).trans A0;have Z1:=(hb1.cell (p:=⟨wr.heap.size,1,none⟩) Asz).trans A1;have Z2:=(hb1.cell (p:=⟨wr.heap.size,2,none⟩) Asz).trans A2;have Zf:=fun j=>(hb1.frozen (p:=⟨wr.heap.size,j,none⟩) Asz).trans (Af j)))
   ·have F:DoIn wr _ _ x.d:=DoIn.behind (d:=x.d) ((Below.refl wr.heap.size wr).drew.trans hb1)
    generalize w1.alloc (.cells #[.int .i64 x.d.k,.int .i64 x.d.p,.int .i64 x.d.v] 94)=W1 at F ⊢
    generalize w1.heap.size=X at F ⊢
    clear hb1 A0 A1 A2 Af B0 B1 B2 B3 N0 N1 Y0 Y1 Y2 Y3 C hbA
    have hT1:=hT.below F.bel
    obtain ⟨hbF,hgF,d0,d1,d2⟩:=F
    have hTb:=hT1.below (below1 W1 (.cells #[.int .i64 x.d.k,.int .i64 x.d.p,.int .i64 x.d.v] 94))
    have lX:X < W1.heap.size:=World.block_lt_of_cell? _ _ d0
    cases hw:M.writes x.d.k
    ·have HT:Hid (x.to p=false):=by show _=_;simp [M.De.to,hw]
     go_wp2_with (go_at_call 78;refine (l1Writes_any x.d _).mono ?_;rw [hw];rintro e w' ⟨rfl,rfl⟩)
     exact ⟨⟨n+1,acc,va',vc,rfl,by go_num,by omega,by omega,by show _=_;have:=HW2.out;rw [HT.out] at this;exact this,hTb⟩,by simp [intOf];omega⟩
    ·by_cases hp:x.d.p=p
     ·have HT:Hid (x.to p=true):=by show _=_;simp [M.De.to,hw,hp]
      generalize x.d.p=q at *
      subst q
      go_wp2_with (first | (go_at_call 78;refine (l1Writes_any ⟨x.d.k,p,x.d.v⟩ _).mono ?_;rw [hw];rintro e w' ⟨rfl,rfl⟩) | (at_builtin;refine wpList_append_lies _ rfl (.tmp 31) (.tmp 33) 26 rfl WB.heap.size 3 i0 _ 1 8 Tryz.underlying26 hi hz0 hz1 hz2 rfl (by decide) _ _ _ rfl (hTb.own.alloc _) ⟨W1.heap.size+1,0,none⟩ 1 1 [.int .i64 n] rfl rfl (World.news_of_block (cs:=#[.int .i64 (n:Int)]) (t:=3) (fr:=(0,0)) (by have:=heap_alloc_new (W1.alloc (.cells #[.int .i64 x.d.k,.int .i64 p,.int .i64 x.d.v] 94)) (.cells #[.int .i64 (n:Int)] 3);simpa using this)) (by simp [Value.oneCell']) (by omega) (by unfold maxLen;omega) (by omega) (by have:=hTb.bel.size;simp at this ⊢;omega) (W1.heap.size+1+1) (by simp) ?_))
      intro g6 cap6 w6 hown6 hg6 hat6 hlt6
      have hT6:Told WB w6 3 1 (.slice (some ⟨g6,0,none⟩) (acc.length+1) cap6) (acc.length+1) (nums (acc++[(n:Int)])):=by
       have e:nums (acc++[(n:Int)])=nums acc++[.int .i64 n]:=by simp [nums]
       rw [e];exact hTb.snoc hown6 hg6
      clear hown6 hg6 hat6 hlt6
      go_wp2_with fail
      exact ⟨⟨n+1,acc++[(n:Int)],some ⟨g6,0,none⟩,cap6,by simp,by go_num,by omega,by simp;omega,by show _=_;have:=HW2.out;rw [HT.out] at this;exact this,by rw [List.length_append];exact hT6⟩,by simp [intOf];omega⟩
     ·have HT:Hid (x.to p=false):=by show _=_;simp [M.De.to,hp]
      have hp':(x.d.p==p)=false:=by simpa using hp
      go_wp2_with (go_at_call 78;refine (l1Writes_any x.d _).mono ?_;rw [hw];rintro e w' ⟨rfl,rfl⟩)
      exact ⟨⟨n+1,acc,va',vc,rfl,by go_num,by omega,by omega,by show _=_;have:=HW2.out;rw [HT.out] at this;exact this,hTb⟩,by simp [intOf];omega⟩
   ·have F:DoIn wr _ _ x.d:=DoIn.ahead (d:=x.d) (hbA.drew.trans (hb1.mono (Nat.le_of_lt Asz))) Z0 Z1 Z2
    generalize ((w1.setCell ⟨wr.heap.size,0,none⟩ (.int .i64 x.d.k)).setCell ⟨wr.heap.size,1,none⟩ (.int .i64 x.d.p)).setCell ⟨wr.heap.size,2,none⟩ (.int .i64 x.d.v)=W1 at F ⊢
    obtain ⟨X,hX,F⟩:∃ X,X=wr.heap.size∧DoIn wr W1 X x.d:=⟨_,rfl,F⟩
    rw [← hX]
    clear hX
    clear hb1 A0 A1 A2 Af B0 B1 B2 B3 N0 N1 Y0 Y1 Y2 Y3 C hbA
    have hT1:=hT.below F.bel
    obtain ⟨hbF,hgF,d0,d1,d2⟩:=F
    have hTb:=hT1.below (below1 W1 (.cells #[.int .i64 x.d.k,.int .i64 x.d.p,.int .i64 x.d.v] 94))
    have lX:X < W1.heap.size:=World.block_lt_of_cell? _ _ d0
    cases hw:M.writes x.d.k
    ·have HT:Hid (x.to p=false):=by show _=_;simp [M.De.to,hw]
     go_wp2_with (go_at_call 78;refine (l1Writes_any x.d _).mono ?_;rw [hw];rintro e w' ⟨rfl,rfl⟩)
     exact ⟨⟨n+1,acc,va',vc,rfl,by go_num,by omega,by omega,by show _=_;have:=HW2.out;rw [HT.out] at this;exact this,hTb⟩,by simp [intOf];omega⟩
    ·by_cases hp:x.d.p=p
     ·have HT:Hid (x.to p=true):=by show _=_;simp [M.De.to,hw,hp]
      generalize x.d.p=q at *
      subst q
      go_wp2_with (first | (go_at_call 78;refine (l1Writes_any ⟨x.d.k,p,x.d.v⟩ _).mono ?_;rw [hw];rintro e w' ⟨rfl,rfl⟩) | (at_builtin;refine wpList_append_lies _ rfl (.tmp 31) (.tmp 33) 26 rfl WB.heap.size 3 i0 _ 1 8 Tryz.underlying26 hi hz0 hz1 hz2 rfl (by decide) _ _ _ rfl (hTb.own.alloc _) ⟨W1.heap.size+1,0,none⟩ 1 1 [.int .i64 n] rfl rfl (World.news_of_block (cs:=#[.int .i64 (n:Int)]) (t:=3) (fr:=(0,0)) (by have:=heap_alloc_new (W1.alloc (.cells #[.int .i64 x.d.k,.int .i64 p,.int .i64 x.d.v] 94)) (.cells #[.int .i64 (n:Int)] 3);simpa using this)) (by simp [Value.oneCell']) (by omega) (by unfold maxLen;omega) (by omega) (by have:=hTb.bel.size;simp at this ⊢;omega) (W1.heap.size+1+1) (by simp) ?_))
      intro g6 cap6 w6 hown6 hg6 hat6 hlt6
      have hT6:Told WB w6 3 1 (.slice (some ⟨g6,0,none⟩) (acc.length+1) cap6) (acc.length+1) (nums (acc++[(n:Int)])):=by
       have e:nums (acc++[(n:Int)])=nums acc++[.int .i64 n]:=by simp [nums]
       rw [e];exact hTb.snoc hown6 hg6
      clear hown6 hg6 hat6 hlt6
      go_wp2_with fail
      exact ⟨⟨n+1,acc++[(n:Int)],some ⟨g6,0,none⟩,cap6,by simp,by go_num,by omega,by simp;omega,by show _=_;have:=HW2.out;rw [HT.out] at this;exact this,by rw [List.length_append];exact hT6⟩,by simp [intOf];omega⟩
     ·have HT:Hid (x.to p=false):=by show _=_;simp [M.De.to,hp]
      have hp':(x.d.p==p)=false:=by simpa using hp
      go_wp2_with (go_at_call 78;refine (l1Writes_any x.d _).mono ?_;rw [hw];rintro e w' ⟨rfl,rfl⟩)
      exact ⟨⟨n+1,acc,va',vc,rfl,by go_num,by omega,by omega,by show _=_;have:=HW2.out;rw [HT.out] at this;exact this,hTb⟩,by simp [intOf];omega⟩
  ·go_wp2_with fail
   go_ret
   have hf:=M.wrs_fin HW.out (by omega)
   exact ⟨_,rfl,by rw [hf];exact own_mono hT.own hb0.size,hb0.trans (hT.bel.mono hb0.size)⟩
end
section
open Go.RowKit
theorem Tryz.infoR2:(Tryz.prog.info? 27).map (fun i=>(i.zero,i.size,i.bytes))=some (some (.slice none 0 0),1,24):=by kernel_rfl
namespace M
def ordK (ds:List De):Nat→List (List (List Int))
 | 0=>[[]]
 | k+1=>addPlace (rowsOf (wrs k 0 ds) (wrs k 0 ds).length []) (ordK ds k)
theorem ordK_each (ds:List De):∀ (k:Nat) (o:List (List Int)),o∈ordK ds k→o.length=k
 | 0,o,h=>by simp [ordK] at h;simp [h]
 | k+1,o,h=>by
  rw [ordK,addPlace,List.mem_flatMap] at h
  obtain ⟨o',h1,h2⟩:=h
  rw [List.mem_map] at h2
  obtain ⟨r,_,rfl⟩:=h2
  have:=ordK_each ds k o' h1
  simp [this]
theorem ordK_three (ds:List De):ordK ds 3=ordersOf ds:=rfl
theorem add_step {rows:List (List Int)} {os:List (List (List Int))} {i:Nat} {all ns:List (List (List Int))} (e:all=ns++addPlace rows (os.drop i)) (hi:i < os.length):all=ns++((rows.drop 0).map (fun r=>os[i]++[r])++addPlace rows (os.drop (i+1))):=by
 have e2:os.drop i=os[i]::os.drop (i+1):=(List.getElem_cons_drop hi).symm
 rw [e,List.drop_zero]
 unfold addPlace
 rw [e2,List.flatMap_cons]
theorem add_row {rows:List (List Int)} {rest:List (List (List Int))} {o:List (List Int)} {j:Nat} {all ns:List (List (List Int))} (e:all=ns++((rows.drop j).map (fun r=>o++[r])++rest)) (hj:j < rows.length):all=(ns++[o++[rows[j]]])++((rows.drop (j+1)).map (fun r=>o++[r])++rest):=by
 have e2:rows.drop j=rows[j]::rows.drop (j+1):=(List.getElem_cons_drop hj).symm
 rw [e,e2,List.map_cons]
 simp only [List.append_assoc,List.cons_append,List.nil_append]
end M
theorem R3.start {W:World} {base g1 g2:Nat} (h:W.heap[g2]?=some (.cells #[.slice (some ⟨g1,0,none⟩) 0 0] 27 (0,0))) (hb:base≤g2):R3 W base (.slice (some ⟨g2,0,none⟩) 1 1) [.slice (some ⟨g1,0,none⟩) 0 0] [[]] :=
 ⟨⟨rfl,.inr ⟨g2,1,_,rfl,hb,h,Nat.le_refl _,by decide,rfl,rfl⟩⟩,fun i hi=>by
  have hi0:i=0:=by simp at hi;omega
  subst hi0
  exact ⟨_,0,0,[],rfl,fun h=>absurd h (Nat.lt_irrefl _),fun e=>(by cases e),⟨rfl,fun h=>absurd h (Nat.lt_irrefl _),fun i u hu=>(by cases hu),fun i h=>absurd h (Nat.not_lt_zero _)⟩⟩⟩
theorem R3.none {W:World} {base g:Nat} (h:W.heap[g]?=some (.cells #[] 27 (0,0))) (hb:base≤g):R3 W base (.slice (some ⟨g,0,none⟩) 0 0) [] [] :=
 ⟨own_empty h hb,fun _ hi=>absurd hi (Nat.not_lt_zero _)⟩
theorem own_vals {w:World} {base n:Nat} {e:TypeId} {v:Value} {xs:List Value} (h:w.ownsRow base e 1 v n xs):∃ a g c,v=.slice a n c∧(0 < n→a=some ⟨g,0,none⟩)∧∀ j u,xs[j]?=some u→w.cell? ⟨g,j,none⟩=some u:=by
 rcases h.2 with ⟨hv,hn⟩ | ⟨g,cap,cur,hv,hg,hh,hc,r⟩
 ·have hx:xs=[]:=List.length_eq_zero_iff.1 (by rw [h.1,hn])
  subst hx
  exact ⟨none,0,0,by rw [hv,hn],fun h=>absurd h (by omega),fun j u hj=>(by simp at hj)⟩
 ·refine ⟨_,g,cap,hv,fun _=>rfl,fun j u hj=>?_⟩
  have:=h.cells (g:=g) (by rw [hv];rfl) j u hj
  rwa [Go.WideShapes.add_plain,Nat.zero_add] at this
theorem FarSS.build {WB w2:World} {row rw':Option Nat} {ob g2 cap2 base:Nat} {od:List Value} {oi:List (List Int)} {r:List Int} {ra:Option Addr} {rb rc:Nat} (hf:FarSS WB row ob od oi) (hr:IntS WB ra rb 0 r) (hrac:ra=none→rc=0) (hb:Below WB.heap.size WB w2)
  (ho:w2.ownsRow base 26 1 (.slice (some ⟨g2,0,none⟩) (oi.length+1) cap2) (oi.length+1) (od++[.slice ra r.length rc])) (hw:∀ k,rw'=some k→WB.heap.size≤k∧k < g2):FarSS w2 rw' g2 (od++[.slice ra r.length rc]) (oi++[r]):=by
 have hne:∀ b',b' < WB.heap.size→some b'≠rw':=fun b' hb' e=>by have:=(hw b' e.symm).1;omega
 refine ⟨by simp [hf.len],fun _ e=>by have:=(hw g2 e.symm).2;omega,fun i u hu=>?_,fun i hi=>?_⟩
 ·have:=ho.cells (g:=g2) rfl i u hu
  rwa [Go.WideShapes.add_plain,Nat.zero_add] at this
 ·rcases Nat.lt_or_ge i oi.length with h1 | h1
  ·obtain ⟨a',b',c',e1,e2,e3,_⟩:=hf.row i h1
   rw [List.getElem_append_left h1]
   exact ⟨a',b',c',by rw [List.getElem?_append_left (by rw [hf.len];exact h1)];exact e1,e2.below hb (Nat.le_refl _),e3,fun hp=>hne b' (e2.lt hp)⟩
  ·have hie:i=oi.length:=by simp at hi;omega
   subst hie
   have e0:(oi++[r])[oi.length]=r:=by simp
   rw [e0]
   exact ⟨ra,rb,rc,by rw [List.getElem?_append_right (by rw [hf.len];exact Nat.le_refl _),hf.len];simp,hr.below hb (Nat.le_refl _),hrac,fun hp=>hne rb (hr.lt hp)⟩
set_option maxHeartbeats 4000000 in
set_option maxRecDepth 100000 in
theorem l12Orders_any (a:Option Addr) (b o c:Nat) (ll:List (List M.D)) (va:Option Addr) (g cc:Nat) (w:World) (hl:ll.length≤1048576) (hls:∀ t∈ll,t.length≤1048576) (hdl:(M.deeds ll).length≤42) (hw6:∀ p,(M.wrs p 0 (M.deeds ll)).length≤6) (HK:∀ k,k≤3→(M.ordK (M.deeds ll) k).length≤46656) (hDo:DoSS w a b o ll) (hDv:DvS w va g (M.deeds ll)) :
  Calls Tryz.prog 111 #[.agg #[.slice a ll.length c],.slice va (M.deeds ll).length cc] w fun e w'=>∃ v' cs',e=.returned v'∧R3 w' w.heap.size v' cs' (M.ordersOf (M.deeds ll))∧Below w.heap.size w w':=by
 obtain ⟨i0,hi,hz0,hz1,hz2⟩:=info_parts Tryz.infoInt
 obtain ⟨j0,hj,hy0,hy1,hy2⟩:=info_parts Tryz.infoRs
 obtain ⟨q0,hq,hq0,hq1,hq2⟩:=info_parts Tryz.infoR2
 have hb0:=below1 w (.cells #[.slice a ll.length c] 25)
 have kb:(w.alloc (.cells #[.slice a ll.length c] 25)).cell? ⟨w.heap.size,0,none⟩=some (.slice a ll.length c):=by simp
 have CW:∀ (W:World) (p:Int),Below w.heap.size w W→_:=fun W p hb=>l12Writes_any a b o c ll va g cc p W hl hls hdl (hDo.below hb (Nat.le_refl _)) (hDv.bel hb (Nat.le_refl _))
 rw [← M.ordK_three]
 generalize M.deeds ll=ds at *
 have hsz0:(w.alloc (.cells #[.slice a ll.length c] 25)).heap.size=w.heap.size+1:=by simp
 go_enter Tryz.func111,Tryz.ntmps111
 go_wp2_with fail
 generalize w.alloc (.cells #[.slice a ll.length c] 25)=W0 at *
 have hS:R3 ((W0.alloc (.cells #[] 26)).alloc (.cells #[.slice (some ⟨w.heap.size+1,0,none⟩) 0 0] 27)) w.heap.size (.slice (some ⟨w.heap.size+1+1,0,none⟩) 1 1) _ [[]]:=R3.start (alloc_new _ _ _ (by simp [hsz0])) (by omega)
 have hbS:Below w.heap.size w ((W0.alloc (.cells #[] 26)).alloc (.cells #[.slice (some ⟨w.heap.size+1,0,none⟩) 0 0] 27)):=bel_al (bel_al hb0 _) _
 have kS:=((below2 W0 (.cells #[] 26) (.cells #[.slice (some ⟨w.heap.size+1,0,none⟩) 0 0] 27)).cell (p:=⟨w.heap.size,0,none⟩) (by show w.heap.size < W0.heap.size;omega)).trans kb
 generalize (W0.alloc (.cells #[] 26)).alloc (.cells #[.slice (some ⟨w.heap.size+1,0,none⟩) 0 0] 27)=W1 at *
 clear kb hb0 hsz0
 go_loopw [5,6] (fun s5 s6 wr=>∃ (k:Nat) (cs:List Value),s6=.int .i64 k∧k≤3∧R3 wr w.heap.size s5 cs (M.ordK ds k)∧Below w.heap.size w wr∧wr.cell? ⟨w.heap.size,0,none⟩=some (.slice a ll.length c)) (fun _ s6 _=>3 - (intOf s6).toNat)
 case atStart=>exact ⟨0,_,rfl,Nat.zero_le _,hS,hbS,kS⟩
 case round =>
  obtain ⟨k,cs,rfl,hk,hO,hbr,kr0⟩:=hrel
  by_cases hlt:k < 3
  ·have i1:(k:Int) < 3:=by omega
   have HT:=HK (k+1) (by omega)
   have hOl:=HK k hk
   have C1:=CW wr k hbr
   have hwk:=hw6 k
   have eT:Hid (M.ordK ds (k+1)=M.addPlace (M.rowsOf (M.wrs k 0 ds) (M.wrs k 0 ds).length []) (M.ordK ds k)):=by show _=_;rfl
   have hoe:∀ o∈M.ordK ds k,o.length≤3:=fun o ho=>by have:=M.ordK_each ds k o ho;omega
   generalize hall:M.ordK ds (k+1)=all at *
   generalize M.ordK ds k=os at *
   generalize M.wrs k 0 ds=ws at *
   have lwr:w.heap.size < wr.heap.size:=World.block_lt_of_cell? _ _ kr0
   have hpw:Hid (([]:List (List Int)).length+ws.length ^ ws.length≤1099511627776):=by
    show _≤_
    have h1:ws.length ^ ws.length≤6 ^ 6:=Nat.le_trans (Nat.pow_le_pow_left hwk _) (Nat.pow_le_pow_right (by decide) hwk)
    simp only [List.length_nil]
    omega
   clear hS hbS kS CW hw6 HK
   go_wp2_with (first
    | (go_at_call 165;refine C1.mono ?_;rintro e w1 ⟨vw,rfl,hownw,b1⟩;obtain ⟨wa,wg,wc,rfl,hIw,hacw,hgew⟩:=own_ints hownw)
    | (go_at_call 166;refine (l12Rows_any wa wg 0 wc ws (by omega) w1.heap.size ws.length none 0 0 0 [] (.slice none 0 0) [] [] w1 (by show _=_;simp) hpw (Nat.le_refl _) hIw (fun _ e=>by cases e) (IntS.nil _ _ _ _) (fun _=>rfl) (fun h=>absurd h (Nat.lt_irrefl _)) (RR.nil _ _)).mono ?_;rintro e WB ⟨v7,cs7,rfl,hM7⟩))
   have hR7:=hM7.rr
   rw [List.nil_append] at hR7
   have b12:=grown_below (show w1.grownBy WB none from hM7.grown)
   have hO2:=(hO.below b1).below b12
   have bw2:Below w.heap.size w WB:=(hbr.trans (b1.mono hbr.size)).trans (b12.mono (by have:=hbr.size;have:=b1.size;omega))
   have k2:=(b12.cell (p:=⟨w.heap.size,0,none⟩) (Nat.lt_of_lt_of_le lwr b1.size)).trans ((b1.cell (p:=⟨w.heap.size,0,none⟩) lwr).trans kr0)
   clear hM7 hpw hIw hownw hgew hacw C1 hO kr0
   generalize M.rowsOf ws ws.length []=rows at *
   have hN0:R3 (WB.alloc (.cells #[] 27)) WB.heap.size (.slice (some ⟨WB.heap.size,0,none⟩) 0 0) [] []:=R3.none (heap_alloc_new _ _) (Nat.le_refl _)
   have hbN:=below1 WB (.cells #[] 27)
   obtain ⟨va5,go,c5,rfl,hoa,hocell⟩:=own_vals hO2.own
   obtain ⟨va7,gr,c7,rfl,hra,hrcell⟩:=own_vals hR7.own
   go_loopw [8,9] (fun s8 s9 wy=>∃ (i:Nat) (ns:List (List (List Int))) (cn:List Value),s9=.int .i64 i∧i≤os.length∧Hid (all=ns++M.addPlace rows (os.drop i))∧R3 wy WB.heap.size s8 cn ns∧Below WB.heap.size WB wy) (fun _ s9 _=>os.length - (intOf s9).toNat)
   case atStart=>exact ⟨0,[],[],rfl,Nat.zero_le _,by show _=_;rw [eT.out];rfl,hN0,hbN⟩
   case round =>
    obtain ⟨i,ns,cn,rfl,hi',HQ,hR,hby⟩:=hrel
    clear hN0 hbN
    by_cases hlt2:i < os.length
    ·have i2:(i:Int) < os.length:=by omega
     have HQ2:Hid (all=ns++((rows.drop 0).map (fun r=>os[i]++[r])++M.addPlace rows (os.drop (i+1)))):=M.add_step HQ.out hlt2
     have hrl:rows.length≤46656:=by
      have h1:=M.addPlace_len rows os
      rw [← eT.out] at h1
      have h2:1 * rows.length≤os.length * rows.length:=Nat.mul_le_mul_right _ (by omega)
      omega
     have hoi:=hoe _ (List.getElem_mem hlt2)
     obtain ⟨oa,ob,oc,od,e1,hoa1,hac,hof⟩:=hO2.row i hlt2
     have ko0:=hocell i _ e1
     generalize os[i]=oi at *
     have lo0:go < WB.heap.size:=World.block_lt_of_cell? _ _ ko0
     obtain ⟨rfl⟩:=hoa (by omega)
     clear HQ e1
     go_wp2_with fail
     go_loopw [8,10] (fun s8 s10 wz=>∃ (j:Nat) (ns:List (List (List Int))) (cn:List Value),s10=.int .i64 j∧j≤rows.length∧Hid (all=ns++((rows.drop j).map (fun r=>oi++[r])++M.addPlace rows (os.drop (i+1))))∧R3 wz WB.heap.size s8 cn ns∧Below WB.heap.size WB wz) (fun _ s10 _=>rows.length - (intOf s10).toNat)
     case atStart=>exact ⟨0,ns,cn,rfl,Nat.zero_le _,HQ2,hR,hby⟩
     case round =>
      clear hR hby HQ2
      obtain ⟨j,ns,cn,rfl,hj',HQ3,hR,hbz⟩:=hrel
      by_cases hlt3:j < rows.length
      ·have i3:(j:Int) < rows.length:=by omega
       have HQ4:Hid (all=(ns++[oi++[rows[j]]])++((rows.drop (j+1)).map (fun r=>oi++[r])++M.addPlace rows (os.drop (i+1)))):=M.add_row HQ3.out hlt3
       obtain ⟨ra,rb,rc,e2,hrI,hrac,_⟩:=hR7.row j hlt3
       have kr0:=hrcell j _ e2
       generalize rows[j]=r at *
       obtain ⟨rfl⟩:=hra (by omega)
       have lr0:gr < WB.heap.size:=World.block_lt_of_cell? _ _ kr0
       have hns:ns.length+1≤46656:=by have h1:=HT;rw [HQ4.out] at h1;simp only [List.length_append,List.length_singleton] at h1;omega
       have hzs:=hbz.size
       have lo:go < wr.heap.size:=Nat.lt_of_lt_of_le lo0 hzs
       have lr:gr < wr.heap.size:=Nat.lt_of_lt_of_le lr0 hzs
       have ko:=(hbz.cell (p:=⟨go,i,none⟩) lo0).trans ko0
       have kr:=(hbz.cell (p:=⟨gr,j,none⟩) lr0).trans kr0
       have hol:od.length=oi.length:=hof.len
       have hoc:CelS wr oa ob 0 od:=by
        have hf:=hof.below hbz
        refine ⟨fun hp=>hoa1 (by omega),fun q u hu=>by rw [Nat.zero_add];exact hf.cell q u hu,fun u hu=>?_⟩
        obtain ⟨q,hq1',hq2'⟩:=List.mem_iff_getElem.1 hu
        obtain ⟨a',b',c',e3,_⟩:=hf.row q (by omega)
        rw [List.getElem?_eq_getElem hq1',hq2'] at e3
        rw [Option.some.inj e3];rfl
       have hvr:∀ q,u8.ownBlock=some q→WB.heap.size≤q∧q < wr.heap.size:=fun q hq=>hR.own.lt q hq
       clear HQ3 e2
       go_wp2_with fail
       go_region_held3 (fun z=>z.cell? ⟨go,i,none⟩=some (.slice oa oi.length oc)∧z.cell? ⟨gr,j,none⟩=some (.slice ra r.length rc)) (go_keep) (first
        | (refine step_append_cells (by rfl) (.tmp 36) (.tmp 40) 27 (by rfl) wr.heap.size 26 j0 _ 24 Tryz.underlying27 hj hy0 hy1 hy2 rfl (.slice (some ⟨wr.heap.size,0,none⟩) 0 0) 0 [] (by rfl) (by first | exact own_empty (alloc_new wr _ _ rfl) (by simp) | exact own_empty ((alloc_old _ _ _ (by simp)).trans (alloc_new wr _ _ rfl)) (by simp)) (by (try simp);(try omega)) oa ob 0 oc oi.length od (by rfl) hol (hoc.below (by repeat (first | exact Below.refl _ _ | refine bel_al ?_ _ | refine Below.drew ?_))) (by unfold maxLen;omega) (by omega) hac ?_;intro v1 w1 hown1 hg1 hat1;(have b1:Below wr.heap.size wr w1:=below_grown (by repeat (first | exact Below.refl _ _ | refine bel_al ?_ _ | refine Below.drew ?_)) hg1 (fun j hj=>by have:=Option.some.inj hj;(try simp at this);omega) (by (try simp);(try omega)));have Y10:=(b1.cell (p:=⟨go,i,none⟩) lo).trans ko;have Y11:=(b1.cell (p:=⟨gr,j,none⟩) lr).trans kr;(try (have hB1:w1.heap[wr.heap.size+1]?=some (.cells #[.slice ra r.length rc] 26 (0,0)):=(hg1.block (wr.heap.size+1) (by simp) (by simp [Value.ownBlock])).trans (alloc_new (wr.alloc (.cells #[] 26)) _ _ (by simp)))))
        | (refine step_append_cells (by rfl) (.tmp 36) (.tmp 40) 27 (by rfl) wr.heap.size 26 j0 _ 24 Tryz.underlying27 hj hy0 hy1 hy2 rfl (.slice (some ⟨wr.heap.size+1,0,none⟩) 0 0) 0 [] (by rfl) (own_empty (alloc_new (wr.alloc (.cells #[.slice ra r.length rc] 26)) _ _ (by simp)) (by simp)) (by (try simp);(try omega)) oa ob 0 oc oi.length od (by rfl) hol (hoc.below (by repeat (first | exact Below.refl _ _ | refine bel_al ?_ _ | refine Below.drew ?_))) (by unfold maxLen;omega) (by omega) hac ?_;intro v1 w1 hown1 hg1 hat1;(have b1:Below wr.heap.size wr w1:=below_grown (by repeat (first | exact Below.refl _ _ | refine bel_al ?_ _ | refine Below.drew ?_)) hg1 (fun j hj=>by have:=Option.some.inj hj;(try simp at this);omega) (by (try simp);(try omega)));have Y10:=(b1.cell (p:=⟨go,i,none⟩) lo).trans ko;have Y11:=(b1.cell (p:=⟨gr,j,none⟩) lr).trans kr;have hB1:w1.heap[wr.heap.size]?=some (.cells #[.slice ra r.length rc] 26 (0,0)):=(hg1.block wr.heap.size (by simp;try omega) (by simp [Value.ownBlock])).trans ((alloc_old (wr.alloc (.cells #[.slice ra r.length rc] 26)) _ _ (by simp)).trans (alloc_new wr _ _ rfl)))
        | (refine step_append_lies _ (by rfl) (.tmp 41) (.tmp 46) 27 (by rfl) wr.heap.size 26 j0 _ 1 24 Tryz.underlying27 hj hy0 hy1 hy2 rfl (by omega) _ _ _ (by rfl) (by first | exact hown1 | exact hown1.alloc _) _ 1 1 [.slice ra r.length rc] (by rfl) (by rfl) (World.news_of_block (cs:=#[.slice ra r.length rc]) (t:=26) (fr:=(0,0)) (by first | exact hB1 | exact heap_alloc_new _ _)) (by simp [Value.oneCell']) (by omega) (by unfold maxLen;omega) (by omega) (by have:=b1.size;(try simp);omega) _ (by rfl) ?_;intro g2 cap2 w2 hown2 hg2 hat2 hlt2;(have b2:Below wr.heap.size wr w2:=below_grown (by first | exact b1 | exact bel_al b1 _) hg2 (fun j hj=>(hown1.lt j hj).1) (by have:=b1.size;(try simp);omega));have Y20:=(b2.cell (p:=⟨go,i,none⟩) lo).trans ko;have Y21:=(b2.cell (p:=⟨gr,j,none⟩) lr).trans kr;have hge2:=(hown2.lt g2 rfl).1;have hsz2:=b2.size)
        | (refine step_append_lies _ (by rfl) (.tmp 35) (.tmp 48) 160 (by rfl) WB.heap.size 27 q0 _ 1 24 Tryz.underlying160 hq hq0 hq1 hq2 rfl (by omega) _ _ _ (by rfl) ((hR.below b2).own.alloc _) ⟨w2.heap.size,0,none⟩ 1 1 [.slice (some ⟨g2,0,none⟩) (oi.length+1) cap2] (by rfl) (by rfl) (World.news_of_block (cs:=#[.slice (some ⟨g2,0,none⟩) (oi.length+1) cap2]) (t:=27) (fr:=(0,0)) (by exact heap_alloc_new w2 _)) (by simp [Value.oneCell']) (by omega) (by unfold maxLen;omega) (by omega) (by have:=hbz.size;(try simp);omega) (w2.heap.size+1) (by simp) ?_;intro g3 cap3 w3 hown3 hg3 hat3 hlt3;(have b3:Below WB.heap.size WB w3:=below_grown ((hbz.trans (b2.mono hbz.size)).alloc (by have:=hbz.size;omega) _) hg3 (own_ge hR.own) (by have:=hbz.size;(try simp);omega));have Y30:=(b3.cell (p:=⟨go,i,none⟩) lo0).trans ko0;have Y31:=(b3.cell (p:=⟨gr,j,none⟩) lr0).trans kr0))
       all_goals
        rw [Nat.zero_add,List.nil_append] at hown2
        have hFs:=FarSS.build (rw':=u8.ownBlock) hof hrI hrac (hbz.trans (b2.mono hzs)) hown2 (fun q hq=>⟨(hvr q hq).1,by have:=(hvr q hq).2;omega⟩)
        have hown3':w3.ownsRow WB.heap.size 27 1 (.slice (some ⟨g3,0,none⟩) (ns.length+1) cap3) (ns.length+1) (cn++[.slice (some ⟨g2,0,none⟩) (oi++[r]).length cap2]):=by rw [List.length_append];exact hown3
        have hR3:=hR.snoc (W:=w2.alloc _) (b2.alloc (by omega) _) (fun _=>rfl) (fun e=>by cases e) (hFs.below (below1 w2 _)) hown3' hg3 (by simpa using hat3)
        clear hFs hown3' hown3 hg3 hat3 hown2 hg2 hat2
        go_wp2_with fail
        exact ⟨⟨j+1,_,_,by go_num,by omega,HQ4,by rw [List.length_append] at hR3;exact hR3,b3⟩,by simp [intOf];omega⟩
      ·have HQ5:Hid (all=ns++M.addPlace rows (os.drop (i+1))):=by show _=_;have:=HQ3.out;rw [List.drop_eq_nil_of_le (by omega)] at this;simpa using this
       go_wp2_with fail
       exact ⟨⟨i+1,ns,cn,by go_num,by omega,HQ5,hR,hbz⟩,by simp [intOf];omega⟩
    ·have HQ5:Hid (all=ns):=by show _=_;have:=HQ.out;rw [List.drop_eq_nil_of_le (by omega)] at this;simpa [M.addPlace] using this
     have kf:=(hby.cell (p:=⟨w.heap.size,0,none⟩) (Nat.lt_of_lt_of_le lwr (Nat.le_trans b1.size b12.size))).trans k2
     have hRf:R3 _ w.heap.size _ cn (M.ordK ds (k+1)):=⟨by rw [hall,HQ5.out];exact own_mono hR.own bw2.size,by rw [hall,HQ5.out];exact hR.row⟩
     go_wp2_with fail
     exact ⟨⟨k+1,cn,by go_num,by omega,hRf,bw2.trans (hby.mono bw2.size),kf⟩,by simp [intOf];omega⟩
  ·go_wp2_with fail
   go_ret
   have hk3:k=3:=by omega
   subst hk3
   exact ⟨_,cs,rfl,hO,hbr⟩
end
section
namespace M
def useN (ds:List De):Nat:=(ds.filter fun x=>uses x.d.k).length
theorem useN_append (l m:List De):useN (l++m)=useN l+useN m:=by simp [useN]
theorem useN_deD (t i:Nat) (lr:Int) (n:Nat) (d:D):useN (deD t i lr n d)=if uses d.k then 1 else 0:=by
 unfold deD useN
 by_cases h:d.k==9
 ·have h9:d.k=9:=by simpa using h
  have hu:uses d.k=false:=by rw [h9];decide
  rw [if_pos h];simp [hu]
 ·rw [if_neg h]
  cases hu:uses d.k<;>simp [hu]
theorem useN_deT (t:Nat):∀ (l:List D) (i:Nat) (lr:Int) (n:Nat),useN (deT t i lr n l)=cnt uses l
 | [],_,_,_=>by simp [deT,useN,cnt]
 | d::l,i,lr,n=>by
  rw [deT,useN_append,useN_deD,useN_deT t l,cnt_cons]
theorem useN_prog:∀ (ll:List (List D)) (t n a u:Nat),progFrom a u ll=true→u+useN (deF t n ll)≤6
 | [],_,_,a,u,h=>by simp [progFrom] at h;simp [deF,useN];omega
 | l::ll,t,n,a,u,h=>by
  by_cases hb:thread l=true
  ·simp only [progFrom,hb,if_true] at h
   have:=useN_prog ll (t+1) (n+(deT t 0 (-1) n l).length) _ _ h
   rw [deF,useN_append,useN_deT]
   omega
  ·simp [progFrom,hb] at h
theorem use6 {ll:List (List D)} (h:prog ll=true):useN (deeds ll)≤6:=by
 simp only [prog,Bool.and_eq_true,decide_eq_true_eq] at h
 have:=useN_prog ll 0 0 0 0 h.2
 unfold deeds
 omega
theorem filter_mono {α:Type} (p q:α→Bool):∀ l:List α,(∀ x∈l,p x=true→q x=true)→(l.filter p).length≤(l.filter q).length
 | [],_=>by simp
 | x::l,h=>by
  have ih:=filter_mono p q l (fun y hy=>h y (List.mem_cons_of_mem _ hy))
  cases hp:p x
  ·rw [List.filter_cons_of_neg (by simp [hp])]
   cases hq:q x
   ·rw [List.filter_cons_of_neg (by simp [hq])];exact ih
   ·rw [List.filter_cons_of_pos hq,List.length_cons];omega
  ·rw [List.filter_cons_of_pos hp,List.filter_cons_of_pos (h x (by simp) hp),List.length_cons,List.length_cons];omega
theorem rd6 {ds:List De} (h:useN ds≤6):rdN ds≤6:=Nat.le_trans (filter_mono _ _ ds (fun x _ hx=>by simp only [De.reads] at hx;simp [uses,hx])) h
theorem wr6 {ds:List De} (h:useN ds≤6) (p:Int):(wrs p 0 ds).length≤6:=Nat.le_trans (wrs_le p 0 ds) (Nat.le_trans (filter_mono _ _ ds (fun x _ hx=>by simp [uses,hx])) h)
theorem froms6 {ll:List (List D)} (h:prog ll=true):(fromsOf (deeds ll) (deeds ll).length []).length≤117649:=by
 have h6:=use6 h
 have h1:=fromsOf_len (deeds ll) 7 (fun p=>by have:=wr6 h6 p;omega) (deeds ll).length [] (by simp)
 have h2:7 ^ rdN ((deeds ll).drop ([]:List Int).length)≤7 ^ 6:=Nat.pow_le_pow_right (by decide) (by simpa using rd6 h6)
 omega
theorem rows6 {ll:List (List D)} (h:prog ll=true) (p:Int):(rowsOf (wrs p 0 (deeds ll)) (wrs p 0 (deeds ll)).length []).length≤6 ^ (wrs p 0 (deeds ll)).length :=
 Nat.le_trans (rowsOf_len _ _ _) (Nat.pow_le_pow_left (wr6 (use6 h) p) _)
theorem to_one (x:De):(if x.to 0 then 1 else 0)+(if x.to 1 then 1 else 0)+(if x.to 2 then 1 else 0)≤if M.writes x.d.k then 1 else 0:=by
 unfold De.to
 cases M.writes x.d.k
 ·simp
 ·by_cases h0:x.d.p=0
  ·simp [h0]
  ·by_cases h1:x.d.p=1
   ·simp [h1]
   ·by_cases h2:x.d.p=2<;>simp [h0,h1,h2]
theorem wrs_cons (p:Int) (n:Nat) (x:De) (ds:List De):(wrs p n (x::ds)).length=(if x.to p then 1 else 0)+(wrs p (n+1) ds).length:=by
 rw [wrs]
 cases x.to p
 ·simp
 ·simp;omega
theorem wrs_three:∀ (n:Nat) (ds:List De),(wrs 0 n ds).length+(wrs 1 n ds).length+(wrs 2 n ds).length≤(ds.filter fun x=>M.writes x.d.k).length
 | _,[]=>by simp [wrs]
 | n,x::ds=>by
  have ih:=wrs_three (n+1) ds
  have h1:=to_one x
  rw [wrs_cons,wrs_cons,wrs_cons]
  cases hw:M.writes x.d.k
  ·rw [List.filter_cons_of_neg (by simp [hw])]
   simp only [hw,Bool.false_eq_true,if_false] at h1
   omega
  ·rw [List.filter_cons_of_pos (by simp [hw]),List.length_cons]
   simp only [hw,if_true] at h1
   omega
theorem orders6 {ll:List (List D)} (h:prog ll=true):(ordersOf (deeds ll)).length≤46656:=by
 have h6:((deeds ll).filter fun x=>M.writes x.d.k).length≤6:=Nat.le_trans (filter_mono _ _ (deeds ll) (fun x _ hx=>by simp [uses,hx])) (use6 h)
 have h3:=wrs_three 0 (deeds ll)
 have r0:=rows6 h 0
 have r1:=rows6 h 1
 have r2:=rows6 h 2
 unfold ordersOf
 rw [addPlace_len,addPlace_len,addPlace_len,List.length_singleton,Nat.one_mul]
 have e:6 ^ (wrs 0 0 (deeds ll)).length * 6 ^ (wrs 1 0 (deeds ll)).length * 6 ^ (wrs 2 0 (deeds ll)).length≤6 ^ 6:=by
  rw [← Nat.pow_add,← Nat.pow_add]
  exact Nat.pow_le_pow_right (by decide) (by omega)
 exact Nat.le_trans (Nat.mul_le_mul (Nat.mul_le_mul r0 r1) r2) e
end M
end
section
namespace M
theorem wrs_lt (p:Int):∀ (n:Nat) (ds:List De) (v:Int),v∈wrs p n ds→v < (n+ds.length:Nat)
 | _,[],v,h=>by simp [wrs] at h
 | n,x::ds,v,h=>by
  rw [wrs] at h
  by_cases ht:x.to p=true
  ·rw [if_pos ht] at h
   rcases List.mem_cons.1 h with e | h
   ·rw [e,List.length_cons];omega
   ·have:=wrs_lt p (n+1) ds v h
    rw [List.length_cons];omega
  ·rw [if_neg ht] at h
   have:=wrs_lt p (n+1) ds v h
   rw [List.length_cons];omega
theorem snoc_lt {f:List Int} {v m:Int} (hf:∀ u∈f,u < m) (hv:v < m):∀ u∈f++[v],u < m:=fun u hu=>by
 rcases List.mem_append.1 hu with h | h
 ·exact hf u h
 ·rw [List.mem_singleton.1 h];exact hv
theorem froms_lt (ds:List De):∀ (n:Nat) (f r:List Int),(∀ u∈f,u < ds.length)→r∈fromsOf ds n f→∀ u∈r,u < ds.length
 | 0,f,r,hf,hr=>by
  simp [fromsOf] at hr
  rw [hr];exact hf
 | n+1,f,r,hf,hr=>by
  rw [fromsOf] at hr
  by_cases hc:((ds[f.length]?).map De.reads).getD false=true
  ·rw [if_pos hc,List.mem_append,List.mem_flatMap] at hr
   rcases hr with hv | ⟨v,h1,hv⟩
   ·exact froms_lt ds n _ r (snoc_lt hf (by omega)) hv
   ·exact froms_lt ds n _ r (snoc_lt hf (by have:=wrs_lt _ 0 ds v h1;rwa [Nat.zero_add] at this)) hv
  ·rw [if_neg hc] at hr
   exact froms_lt ds n _ r (snoc_lt hf (by omega)) hr
theorem froms_in {ll:List (List D)} {r:List Int} (h:r∈fromsOf (deeds ll) (deeds ll).length []):M.In (deeds ll) r:=by
 have h1:=froms_lt _ _ _ _ (fun u hu=>by cases hu) h
 have h2:=fromsOf_each _ _ _ _ h
 rw [List.length_nil,Nat.zero_add] at h2
 intro n hn
 unfold valFrom
 rw [List.getElem?_eq_getElem hn]
 simp only
 split
 ·rw [List.getD_eq_getElem?_getD,List.getElem?_eq_getElem (by omega),Option.getD_some]
  exact h1 _ (List.getElem_mem _)
 ·split
  ·exact M.lr_lt _ (List.getElem_mem hn)
  ·omega
theorem ordK6 {ll:List (List D)} (h:prog ll=true):∀ k,k≤3→(ordK (deeds ll) k).length≤46656:=by
 have h6:((deeds ll).filter fun x=>M.writes x.d.k).length≤6:=Nat.le_trans (filter_mono _ _ (deeds ll) (fun x _ hx=>by simp [uses,hx])) (use6 h)
 have h3:=wrs_three 0 (deeds ll)
 have r0:=rows6 h 0
 have r1:=rows6 h 1
 have r2:=rows6 h 2
 have e0:(ordK (deeds ll) 1).length≤6 ^ (wrs 0 0 (deeds ll)).length:=by rw [ordK,addPlace_len];simpa [ordK] using r0
 have e1:(ordK (deeds ll) 2).length≤6 ^ ((wrs 0 0 (deeds ll)).length+(wrs 1 0 (deeds ll)).length):=by rw [ordK,addPlace_len,Nat.pow_add];exact Nat.mul_le_mul e0 r1
 have e2:(ordK (deeds ll) 3).length≤6 ^ ((wrs 0 0 (deeds ll)).length+(wrs 1 0 (deeds ll)).length+(wrs 2 0 (deeds ll)).length):=by rw [ordK,addPlace_len,Nat.pow_add _ _ (wrs 2 0 (deeds ll)).length];exact Nat.mul_le_mul e1 r2
 have top:∀ m,m≤6→6 ^ m≤46656:=fun m hm=>Nat.le_trans (Nat.pow_le_pow_right (by decide) hm) (by decide)
 intro k hk
 rcases Nat.lt_or_ge k 1 with h0 | h0
 ·have:k=0:=by omega
  subst this;simp [ordK]
 ·rcases Nat.lt_or_ge k 2 with h0 | h0
  ·have:k=1:=by omega
   subst this;exact Nat.le_trans e0 (top _ (by omega))
  ·rcases Nat.lt_or_ge k 3 with h0 | h0
   ·have:k=2:=by omega
    subst this;exact Nat.le_trans e1 (top _ (by omega))
   ·have:k=3:=by omega
    subst this;exact Nat.le_trans e2 (top _ (by omega))
end M
end
section
open Go.RowKit
def Off1 (v:Value) (row:Option Nat):Prop:=∀ k,v.ownBlock=some k→row≠some k
theorem Off1.kept {w w':World} {base n:Nat} {e:TypeId} {size:Nat} {v:Value} {xs:List Value} {row:Option Nat} (h:w.ownsRow base e size v n xs) (hg:w.grownBy w' row) (ho:Off1 v row):w'.ownsRow base e size v n xs :=
 h.kept hg (by
  cases hv:v.ownBlock with
  | none=>exact .inl rfl
  | some k=>exact .inr (fun e=>ho k hv e.symm))
theorem Off1.new {w:World} {base n:Nat} {e:TypeId} {size:Nat} {v:Value} {xs:List Value} (h:w.ownsRow base e size v n xs) {g:Nat} (hg:w.heap.size≤g):Off1 v (some g):=fun k hk e=>by
 have h1:=(h.lt k hk).2
 have h2:g=k:=Option.some.inj e
 omega
theorem Off1.old {w:World} {v:Value} {row:Option Nat} (hv:∀ k,v.ownBlock=some k→w.heap.size≤k) (hr:∀ k,row=some k→k < w.heap.size):Off1 v row:=fun k hk e=>by
 have h1:=hv k hk
 have h2:=hr k e
 omega
structure Xw (w:World) (base:Nat) (fv ov:Value) (l:List Int) (cs:List Value) (rows:List (List Int)):Prop where
 from_:w.ownsRow base 3 1 fv l.length (nums l)
 ord:w.ownsRow base 26 1 ov rows.length cs
 row:∀ i (h:i < rows.length),∃ u,cs[i]?=some u∧w.ownsRow base 3 1 u rows[i].length (nums rows[i])∧Off1 u ov.ownBlock∧Off1 u fv.ownBlock
 apart:Off1 fv ov.ownBlock
 each:∀ (i j:Nat) (u u':Value),i≠j→cs[i]?=some u→cs[j]?=some u'→Off1 u u'.ownBlock
structure Xoff (fv ov:Value) (cs:List Value) (row:Option Nat):Prop where
 from_:Off1 fv row
 ord:Off1 ov row
 row:∀ u∈cs,Off1 u row
theorem Xw.grown {w w':World} {base:Nat} {fv ov:Value} {l:List Int} {cs:List Value} {rows:List (List Int)} {row:Option Nat} (h:Xw w base fv ov l cs rows) (hg:w.grownBy w' row) (ho:Xoff fv ov cs row):Xw w' base fv ov l cs rows :=
 ⟨ho.from_.kept h.from_ hg,ho.ord.kept h.ord hg,fun i hi=>by
  obtain ⟨u,e1,e2,e3,e4⟩:=h.row i hi
  exact ⟨u,e1,(ho.row u (List.mem_of_getElem? e1)).kept e2 hg,e3,e4⟩,h.apart,h.each⟩
theorem Xoff.none (fv ov:Value) (cs:List Value):Xoff fv ov cs none:=⟨fun _ _ e=>(by cases e),fun _ _ e=>(by cases e),fun _ _ _ _ e=>(by cases e)⟩
theorem Xw.below {w w':World} {base:Nat} {fv ov:Value} {l:List Int} {cs:List Value} {rows:List (List Int)} (h:Xw w base fv ov l cs rows) (hb:Below w.heap.size w w'):Xw w' base fv ov l cs rows:=h.grown (grown_of hb none) (Xoff.none _ _ _)
theorem Xw.new {w:World} {base:Nat} {fv ov:Value} {l:List Int} {cs:List Value} {rows:List (List Int)} (h:Xw w base fv ov l cs rows) {g:Nat} (hg:w.heap.size≤g):Xoff fv ov cs (some g) :=
 ⟨Off1.new h.from_ hg,Off1.new h.ord hg,fun u hu=>by
  obtain ⟨i,hi,e⟩:=List.mem_iff_getElem.1 hu
  have hl:cs.length=rows.length:=by have:=h.ord.1;omega
  obtain ⟨u',e1,e2,_⟩:=h.row i (by omega)
  rw [List.getElem?_eq_getElem hi,e] at e1
  rw [Option.some.inj e1]
  exact Off1.new e2 hg⟩
theorem Xw.start {w:World} {base:Nat} {fv:Value} {l:List Int} (h:w.ownsRow base 3 1 fv l.length (nums l)):Xw w base fv (.slice none 0 0) l [] [] :=
 ⟨h,World.ownsRow_nil _ _ _ _,fun _ hi=>absurd hi (Nat.not_lt_zero _),fun _ _ e=>(by cases e),fun _ _ _ _ _ e=>(by simp at e)⟩
theorem Xw.snoc {w W w':World} {base:Nat} {fv ov u:Value} {l r:List Int} {cs:List Value} {rows:List (List Int)} {g cap:Nat} (h:Xw w base fv ov l cs rows) (hb:Below w.heap.size w W) (hu:W.ownsRow base 3 1 u r.length (nums r)) (hnew:∀ k,u.ownBlock=some k→w.heap.size≤k)
  (ho:w'.ownsRow base 26 1 (.slice (some ⟨g,0,none⟩) (rows.length+1) cap) (rows.length+1) (cs++[u])) (hg:W.grownBy w' ov.ownBlock) (hat:ov.ownBlock=some g∨g=W.heap.size):Xw w' base fv (.slice (some ⟨g,0,none⟩) (rows.length+1) cap) l (cs++[u]) (rows++[r]):=by
 have hl:cs.length=rows.length:=by have:=h.ord.1;omega
 have hW:=h.below hb
 have hol:∀ k,ov.ownBlock=some k→k < w.heap.size:=fun k hk=>(h.ord.lt k hk).2
 have huo:Off1 u ov.ownBlock:=Off1.old hnew hol
 have huf:Off1 u fv.ownBlock:=Off1.old hnew (fun k hk=>(h.from_.lt k hk).2)
 have turn:∀ {v:Value} {e:TypeId} {n:Nat} {xs:List Value},W.ownsRow base e 1 v n xs→Off1 v ov.ownBlock→Off1 v (some g):=fun hv ho=>by
  rcases hat with e | e
  ·rw [← e];exact ho
  ·exact Off1.new hv (by omega)
 have hold:∀ (i:Nat) (u':Value),cs[i]?=some u'→∀ k,u'.ownBlock=some k→k < w.heap.size:=fun i u' hi k hk=>by
  have hil:=(List.getElem?_eq_some_iff.1 hi).1
  obtain ⟨u2,e1,e2,_⟩:=h.row i (by omega)
  rw [hi] at e1
  rw [← Option.some.inj e1] at e2
  exact (e2.lt k hk).2
 refine ⟨h.apart.kept hW.from_ hg,by rw [List.length_append];exact ho,fun i hi=>?_,turn hW.from_ h.apart,fun i j u1 u2 hij h1 h2=>?_⟩
 ·rcases Nat.lt_or_ge i rows.length with h1 | h1
  ·obtain ⟨u',e1,e2,e3,e4⟩:=hW.row i h1
   rw [List.getElem_append_left h1]
   exact ⟨u',by rw [List.getElem?_append_left (by omega)];exact e1,e3.kept e2 hg,turn e2 e3,e4⟩
  ·have hie:i=rows.length:=by simp at hi;omega
   subst hie
   have e0:(rows++[r])[rows.length]=r:=by simp
   rw [e0]
   exact ⟨u,by rw [List.getElem?_append_right (by omega),hl];simp,huo.kept hu hg,turn hu huo,huf⟩
 ·have c1:=(List.getElem?_eq_some_iff.1 h1).1
  have c2:=(List.getElem?_eq_some_iff.1 h2).1
  simp only [List.length_append,List.length_singleton] at c1 c2
  rcases Nat.lt_or_ge i cs.length with i1 | i1
  ·rw [List.getElem?_append_left i1] at h1
   rcases Nat.lt_or_ge j cs.length with j1 | j1
   ·rw [List.getElem?_append_left j1] at h2
    exact h.each i j u1 u2 hij h1 h2
   ·have hj:j=cs.length:=by omega
    subst hj
    have e2:u=u2:=by simpa using h2
    subst e2
    intro k hk e
    have a1:=hold i u1 h1 k hk
    have a2:=hnew k e
    omega
  ·have hi:i=cs.length:=by omega
   subst hi
   have e1:u=u1:=by simpa using h1
   subst e1
   rw [List.getElem?_append_left (by omega)] at h2
   exact Off1.old hnew (hold j u2 h2)
end
section
open Go.RowKit
structure RX (w:World) (base:Nat) (v:Value) (cs:List Value) (n:Nat):Prop where
 own:w.ownsRow base 29 2 v n cs
 row:∀ i,i < n→∃ fv ov l rc rows,cs[i * 2]?=some fv∧cs[i * 2+1]?=some ov∧Xw w base fv ov l rc rows∧l.length≤42∧rows.length=3∧(∀ r∈rows,r.length≤6)∧Xoff fv ov rc v.ownBlock
theorem Xoff.turn {W:World} {base g:Nat} {fv ov:Value} {l:List Int} {rc:List Value} {rows:List (List Int)} {row:Option Nat} (hx:Xw W base fv ov l rc rows) (ho:Xoff fv ov rc row) (hat:row=some g∨g=W.heap.size):Xoff fv ov rc (some g):=by
 rcases hat with e | e
 ·rw [← e];exact ho
 ·exact hx.new (by omega)
end
section
open Go.RowKit
def Keeps (w w':World):Prop:=∀ p u,w.cell? p=some u→w'.cell? p=some u
theorem Keeps.trans {a b c:World} (h:Keeps a b) (k:Keeps b c):Keeps a c:=fun p u hu=>k p u (h p u hu)
theorem Keeps.of {w w':World} (hb:Below w.heap.size w w'):Keeps w w':=fun p _ h=>(hb.cell (p:=p) (World.block_lt_of_cell? _ _ h)).trans h
theorem Keeps.grown {w w':World} {g:Nat} {t:TypeId} {f:Nat × Nat} (h0:w.heap[g]?=some (.cells #[] t f)) (hg:w.grownBy w' (some g)):Keeps w w':=fun p u h=>(hg.cell_far p (World.block_lt_of_cell? _ _ h) (fun e=>by
 have e':p.block=g:=Option.some.inj e
 unfold World.cell? at h
 rw [e',h0] at h
 simp at h)).trans h
theorem IntS.keeps {w w':World} {a:Option Addr} {b o:Nat} {l:List Int} (h:IntS w a b o l) (k:Keeps w w'):IntS w' a b o l:=⟨h.addr,fun i hi=>k _ _ (h.row i hi)⟩
theorem DoS.keeps {w w':World} {a:Option Addr} {b o:Nat} {l:List M.D} (h:DoS w a b o l) (k:Keeps w w'):DoS w' a b o l:=⟨h.addr,fun i hi=>⟨k _ _ (h.row i hi).k,k _ _ (h.row i hi).p,k _ _ (h.row i hi).v⟩⟩
theorem DoSS.keeps {w w':World} {a:Option Addr} {b o:Nat} {l:List (List M.D)} (h:DoSS w a b o l) (k:Keeps w w'):DoSS w' a b o l:=⟨h.addr,fun i hi=>by
 obtain ⟨a',b',o',c',e1,e2⟩:=h.row i hi
 exact ⟨a',b',o',c',k _ _ e1,e2.keeps k⟩⟩
theorem DvS.keeps {w w':World} {va:Option Addr} {g:Nat} {l:List M.De} (h:DvS w va g l) (k:Keeps w w'):DvS w' va g l:=⟨h.addr,fun i hi j hj=>by
 have h1:=h.row i hi j hj
 have hl:(l[i].ev.cells).length=3:=rfl
 rw [List.getElem?_eq_getElem (by omega)] at h1 ⊢
 exact k _ _ h1⟩
end
section
open Go.RowKit
theorem grown_set (w:World) (X i:Nat) (u:Value):w.grownBy (w.setCell ⟨X,i,none⟩ u) (some X) :=
 ⟨rfl,rfl,rfl,by simp [World.setCell],fun k _ hne=>Below.heap_setCell _ _ _ _ (fun e=>hne (by rw [e]))⟩
theorem Xw.mono {w:World} {base base':Nat} {fv ov:Value} {l:List Int} {cs:List Value} {rows:List (List Int)} (h:Xw w base fv ov l cs rows) (hb:base'≤base):Xw w base' fv ov l cs rows :=
 ⟨own_mono h.from_ hb,own_mono h.ord hb,fun i hi=>by
  obtain ⟨u,e1,e2,e3⟩:=h.row i hi
  exact ⟨u,e1,own_mono e2 hb,e3⟩,h.apart,h.each⟩
theorem Xw.off {w:World} {base:Nat} {fv ov:Value} {l:List Int} {cs:List Value} {rows:List (List Int)} {row:Option Nat} (h:Xw w base fv ov l cs rows) (hr:∀ k,row=some k→k < base):Xoff fv ov cs row:=by
 have o:∀ {v:Value} {e:TypeId} {n:Nat} {xs:List Value},w.ownsRow base e 1 v n xs→Off1 v row:=fun hv k hk e=>by
  have:=(hv.lt k hk).1
  have:=hr k e
  omega
 refine ⟨o h.from_,o h.ord,fun u hu=>?_⟩
 obtain ⟨i,hi,e⟩:=List.mem_iff_getElem.1 hu
 have hl:cs.length=rows.length:=by have:=h.ord.1;omega
 obtain ⟨u',e1,e2,_⟩:=h.row i (by omega)
 rw [List.getElem?_eq_getElem hi,e] at e1
 rw [Option.some.inj e1]
 exact o e2
structure Xb (B:Nat) (wy w:World) (X:Nat) (fv ov:Value) (l:List Int) (cs:List Value) (rows:List (List Int)):Prop where
 bel:Below B wy w
 ge:B≤X
 c0:w.cell? ⟨X,0,none⟩=some fv
 c1:w.cell? ⟨X,1,none⟩=some ov
 fz:∀ j,w.frozen? ⟨X,j,none⟩=false
 xw:Xw w B fv ov l cs rows
 off:Xoff fv ov cs (some X)
theorem Xb.lt {B:Nat} {wy w:World} {X:Nat} {fv ov:Value} {l:List Int} {cs:List Value} {rows:List (List Int)} (h:Xb B wy w X fv ov l cs rows):X < w.heap.size:=World.block_lt_of_cell? _ _ h.c0
theorem Xb.below {B:Nat} {wy w w':World} {X:Nat} {fv ov:Value} {l:List Int} {cs:List Value} {rows:List (List Int)} (h:Xb B wy w X fv ov l cs rows) (hb:Below w.heap.size w w'):Xb B wy w' X fv ov l cs rows :=
 ⟨h.bel.trans (hb.mono (Nat.le_trans h.ge (Nat.le_of_lt h.lt))),h.ge,(hb.cell (p:=⟨X,0,none⟩) h.lt).trans h.c0,(hb.cell (p:=⟨X,1,none⟩) h.lt).trans h.c1,fun j=>(hb.frozen (p:=⟨X,j,none⟩) h.lt).trans (h.fz j),h.xw.below hb,h.off⟩
theorem Xb.start {wy w1:World} {fv:Value} {l:List Int} (hb:Below wy.heap.size wy w1) (hown:w1.ownsRow wy.heap.size 3 1 fv l.length (nums l)):Xb wy.heap.size wy (w1.alloc (.cells #[fv,.slice none 0 0] 29)) w1.heap.size fv (.slice none 0 0) l [] [] :=
 ⟨hb.alloc hb.size _,hb.size,by simp,by simp,fun j=>by simp,(Xw.start hown).below (below1 _ _),(Xw.start hown).new (Nat.le_refl _)⟩
theorem Xb.snoc {B:Nat} {wy w W w':World} {X:Nat} {fv ov u:Value} {l r:List Int} {cs:List Value} {rows:List (List Int)} {g cap:Nat} (h:Xb B wy w X fv ov l cs rows) (hb:Below w.heap.size w W) (hu:W.ownsRow w.heap.size 3 1 u r.length (nums r))
  (ho:w'.ownsRow B 26 1 (.slice (some ⟨g,0,none⟩) (rows.length+1) cap) (rows.length+1) (cs++[u])) (hg:W.grownBy w' ov.ownBlock) (hat:ov.ownBlock=some g∨g=W.heap.size) :
  Xb B wy (w'.setCell ⟨X,1,none⟩ (.slice (some ⟨g,0,none⟩) (rows.length+1) cap)) X fv (.slice (some ⟨g,0,none⟩) (rows.length+1) cap) l (cs++[u]) (rows++[r]):=by
 have hlt:=h.lt
 have hBw:B≤w.heap.size:=Nat.le_trans h.ge (Nat.le_of_lt hlt)
 have hx:=h.xw.snoc hb (own_mono hu hBw) (own_ge hu) ho hg hat
 have hne:some X≠ov.ownBlock:=fun e=>h.off.ord X e.symm rfl
 have hltW:X < W.heap.size:=Nat.lt_of_lt_of_le hlt hb.size
 have hoff:Xoff fv (.slice (some ⟨g,0,none⟩) (rows.length+1) cap) (cs++[u]) (some X):=by
  refine ⟨h.off.from_,fun k hk e=>?_,fun v hv=>?_⟩
  ·have hk':g=k:=Option.some.inj hk
   have he:X=k:=Option.some.inj e
   rcases hat with e1 | e1
   ·exact hne (by rw [e1,hk',he])
   ·omega
  ·rcases List.mem_append.1 hv with h1 | h1
   ·exact h.off.row v h1
   ·rw [List.mem_singleton.1 h1]
    intro k hk e
    have:=own_ge hu k hk
    have he:X=k:=Option.some.inj e
    omega
 have k0:=(hg.cell_far ⟨X,0,none⟩ hltW hne).trans ((hb.cell (p:=⟨X,0,none⟩) hlt).trans h.c0)
 have k1:=(hg.cell_far ⟨X,1,none⟩ hltW hne).trans ((hb.cell (p:=⟨X,1,none⟩) hlt).trans h.c1)
 have kf:∀ j,w'.frozen? ⟨X,j,none⟩=false:=fun j=>(World.frozen?_of_block (w:=W) (a:=⟨X,j,none⟩) (hg.block X hltW hne)).trans ((hb.frozen (p:=⟨X,j,none⟩) hlt).trans (h.fz j))
 refine ⟨(below_grown (h.bel.trans (hb.mono hBw)) hg (own_ge h.xw.ord) (Nat.le_trans hBw hb.size)).setCell h.ge _,h.ge,?_,World.cell?_setCell_same _ _ _ k1,fun j=>by rw [World.frozen?_setCell];exact kf j,hx.grown (grown_set _ _ _ _) hoff,hoff⟩
 rw [World.cell?_setCell_other _ _ _ _ (fun e=>by have:=congrArg Addr.off e;simp at this)]
 exact k0
end
section
open Go.RowKit
def M.src (ds:List M.De) (t:Nat):Nat→Int
 | 0=>-1
 | k+1=>match ds[k]? with
  | some y=>if y.t==t&&y.reads then (k:Int) else M.src ds t k
  | none=>M.src ds t k
theorem M.src_step {ds:List M.De} {t k:Nat} (h:k < ds.length):M.src ds t (k+1)=if ds[k].t==t&&ds[k].reads then (k:Int) else M.src ds t k:=by
 rw [M.src,List.getElem?_eq_getElem h]
theorem M.src_pre (l m:List M.De) (t:Nat):∀ k,k≤l.length→M.src (l++m) t k=M.src l t k:=by
 intro k
 induction k with
 | zero=>intro _;rfl
 | succ k ih =>
  intro hk
  rw [M.src_step (by simp;omega),M.src_step (by omega),ih (by omega),List.getElem_append_left (by omega)]
theorem M.src_none (l:List M.De) (t:Nat) (h:∀ x∈l,x.t≠t):∀ k,k≤l.length→M.src l t k=-1:=by
 intro k
 induction k with
 | zero=>intro _;rfl
 | succ k ih =>
  intro hk
  rw [M.src_step (by omega),ih (by omega),if_neg]
  have:=h _ (List.getElem_mem (show k < l.length by omega))
  simp [this]
theorem M.src_snoc (l:List M.De) (x:M.De):M.src (l++[x]) x.t (l.length+1)=if x.reads then (l.length:Int) else M.src l x.t l.length:=by
 rw [M.src_step (by simp),M.src_pre _ _ _ _ (Nat.le_refl _)]
 simp
def M.Src (l:List M.De):Prop:=∀ n (h:n < l.length),l[n].reads=false→M.src l l[n].t n=l[n].lr
theorem M.Src.snoc {l:List M.De} {x:M.De} (h:M.Src l) (hx:x.reads=false→M.src l x.t l.length=x.lr):M.Src (l++[x]):=by
 intro n hn hr
 rw [M.src_pre _ _ _ _ (by simp at hn;omega)]
 rcases Nat.lt_or_ge n l.length with h1 | h1
 ·rw [List.getElem_append_left h1] at hr ⊢
  exact h n h1 hr
 ·have:n=l.length:=by simp at hn;omega
  subst this
  simp only [List.getElem_append_right (Nat.le_refl _),Nat.sub_self,List.getElem_cons_zero] at hr ⊢
  exact hx hr
theorem M.src_T (t:Nat) (l:List M.D):∀ (i:Nat) (lr:Int) (pre:List M.De),M.Src pre→M.src pre t pre.length=lr→(∀ x∈pre,x.t≤t)→M.Src (pre++M.deT t i lr pre.length l)∧∀ x∈pre++M.deT t i lr pre.length l,x.t≤t:=by
 induction l with
 | nil=>intro i lr pre h _ ht;simp only [M.deT,List.append_nil];exact ⟨h,ht⟩
 | cons d l ih =>
  intro i lr pre h hs ht
  have one:∀ (pre:List M.De) (x:M.De),x.t=t→(∀ y∈pre,y.t≤t)→∀ y∈pre++[x],y.t≤t:=by
   intro pre x hx hp y hy
   rcases List.mem_append.1 hy with hy | hy
   ·exact hp y hy
   ·rw [List.mem_singleton.1 hy,hx];exact Nat.le_refl _
  rw [M.deT]
  cases h9:(d.k==9)
  ·rw [M.deD_one h9]
   have h1:M.Src (pre++[⟨t,i,false,d,M.lrOf lr pre.length d⟩]):=h.snoc fun hr=>by
    have hr:M.reads d.k=false:=hr
    show M.src pre t pre.length=M.lrOf lr pre.length d
    rw [hs,M.lrOf,hr];rfl
   have h2:=ih (i+1) (M.lrOf lr pre.length d) _ h1 (by
    have:=M.src_snoc pre ⟨t,i,false,d,M.lrOf lr pre.length d⟩
    rw [List.length_append]
    refine this.trans ?_
    show (if M.reads d.k=true then (pre.length:Int) else M.src pre t pre.length)=_
    rw [hs];rfl) (one _ _ rfl ht)
   rw [List.length_append] at h2
   rw [← List.append_assoc]
   exact h2
  ·have hr:M.reads d.k=false:=by
    have:d.k=9:=by simpa using h9
    rw [this];decide
   have hlr:M.lrOf lr pre.length d=lr:=by rw [M.lrOf,hr];rfl
   rw [M.deD_wait h9]
   have h1:M.Src (pre++[⟨t,i,false,d,M.lrOf lr pre.length d⟩]):=h.snoc fun _=>by rw [hlr];exact hs
   have s1:M.src (pre++[⟨t,i,false,d,M.lrOf lr pre.length d⟩]) t (pre++[(⟨t,i,false,d,M.lrOf lr pre.length d⟩:M.De)]).length=lr:=by
    have:=M.src_snoc pre ⟨t,i,false,d,M.lrOf lr pre.length d⟩
    rw [List.length_append]
    refine this.trans ?_
    show (if M.reads d.k=true then (pre.length:Int) else M.src pre t pre.length)=_
    rw [hr];exact hs
   have h2:M.Src ((pre++[⟨t,i,false,d,M.lrOf lr pre.length d⟩])++[⟨t,i,true,d,M.lrOf lr pre.length d⟩]):=h1.snoc fun _=>by rw [hlr] at s1 ⊢;exact s1
   have s2:M.src ((pre++[⟨t,i,false,d,M.lrOf lr pre.length d⟩])++[⟨t,i,true,d,M.lrOf lr pre.length d⟩]) t ((pre++[(⟨t,i,false,d,M.lrOf lr pre.length d⟩:M.De)])++[(⟨t,i,true,d,M.lrOf lr pre.length d⟩:M.De)]).length=M.lrOf lr pre.length d:=by
    have:=M.src_snoc (pre++[⟨t,i,false,d,M.lrOf lr pre.length d⟩]) ⟨t,i,true,d,M.lrOf lr pre.length d⟩
    rw [List.length_append]
    refine this.trans ?_
    show (if M.reads d.k=true then _ else M.src (pre++[⟨t,i,false,d,M.lrOf lr pre.length d⟩]) t (pre++[(⟨t,i,false,d,M.lrOf lr pre.length d⟩:M.De)]).length)=_
    rw [hr,hlr];rw [hlr] at s1;exact s1
   have h3:=ih (i+1) (M.lrOf lr pre.length d) _ h2 s2 (one _ _ rfl (one _ _ rfl ht))
   rw [List.length_append,List.length_append] at h3
   rw [List.append_assoc,List.append_assoc] at h3
   rw [List.append_assoc]
   exact h3
theorem M.src_F (ll:List (List M.D)):∀ (t:Nat) (pre:List M.De),M.Src pre→(∀ x∈pre,x.t < t)→M.Src (pre++M.deF t pre.length ll):=by
 induction ll with
 | nil=>intro t pre h _;simp only [M.deF,List.append_nil];exact h
 | cons l ll ih =>
  intro t pre h ht
  obtain ⟨h1,h2⟩:=M.src_T t l 0 (-1) pre h (M.src_none _ _ (fun x hx e=>by have:=ht x hx;omega) _ (Nat.le_refl _)) (fun x hx=>Nat.le_of_lt (ht x hx))
  have:=ih (t+1) _ h1 (fun x hx=>Nat.lt_succ_of_le (h2 x hx))
  rw [M.deF,← List.append_assoc]
  rw [List.length_append] at this
  exact this
theorem M.src_ok (ll:List (List M.D)):M.Src (M.deeds ll):=by
 have:=M.src_F ll 0 [] (fun n h=>absurd h (Nat.not_lt_zero _)) (fun x hx=>by cases hx)
 exact this
theorem l1Reads_bel (d:M.D) (w:World):Calls Tryz.prog 76 #[.agg #[.int .i64 d.k,.int .i64 d.p,.int .i64 d.v]] w fun e w'=>e=.returned (.bool (M.reads d.k))∧Below w.heap.size w w' :=
 (l1Reads_any d w).mono fun e w' ⟨he,hw⟩=>⟨he,by rw [hw];exact below1 _ _⟩
set_option maxHeartbeats 1000000 in
set_option maxRecDepth 100000 in
theorem l12Source_any (a:Option Addr) (b o c:Nat) (ll:List (List M.D)) (va:Option Addr) (g cc:Nat) (n tn:Nat) (w:World) (hn:n < (M.deeds ll).length) (htn:(M.deeds ll)[n].t=tn) (hl:ll.length≤1048576) (hls:∀ t∈ll,t.length≤1048576) (hdl:(M.deeds ll).length≤42) (h:DoSS w a b o ll) (hd:DvS w va g (M.deeds ll)) :
  Calls Tryz.prog 182 #[.agg #[.slice a ll.length c],.slice va (M.deeds ll).length cc,.int .i64 n] w fun e w'=>e=.returned (.int .i64 (M.src (M.deeds ll) tn n))∧Below w.heap.size w w':=by
 have hof:=M.ofEv (ll:=ll)
 generalize M.deeds ll=ds at *
 have hb0:=below1 w (.cells #[.slice a ll.length c] 25)
 have k0:(w.alloc (.cells #[.slice a ll.length c] 25)).cell? ⟨w.heap.size,0,none⟩=some (.slice a ll.length c):=by simp
 go_enter Tryz.func182,Tryz.ntmps182
 go_wp2_with fail
 generalize w.alloc (.cells #[.slice a ll.length c] 25)=WB at *
 have lt0:w.heap.size < WB.heap.size:=World.block_lt_of_cell? _ _ k0
 replace h:=h.below hb0 (Nat.le_refl _)
 replace hd:=hd.bel hb0 (Nat.le_refl _)
 obtain ⟨rfl⟩:=hd.addr (by omega)
 obtain ⟨cn,_,_⟩:=hd.at hn
 rw [htn] at cn
 clear htn
 have in1:(n:Int) < ds.length:=by omega
 go_loopw [7] (fun s7 wr=>∃ m:Nat,s7=.int .i64 ((m:Int) - 1)∧m≤n∧Hid (M.src ds tn n=M.src ds tn m)∧Below WB.heap.size WB wr) (fun s7 _=>(intOf s7+1).toNat)
 case atStart=>exact ⟨n,by go_num,Nat.le_refl _,by show _=_;rfl,Below.refl _ _⟩
 case round =>
  obtain ⟨m,rfl,hm,HS,hb⟩:=hrel
  have hbw:=hb0.trans (hb.mono hb0.size)
  cases m with
  | zero =>
   go_wp2_with fail
   go_ret
   exact ⟨by rw [HS.out];rfl,hbw⟩
  | succ m =>
   have e1:(((m+1:Nat):Int) - 1)=m:=by omega
   rw [e1]
   have hlt:m < ds.length:=by omega
   have HS2:Hid (M.src ds tn n=if ds[m].t==tn&&ds[m].reads then (m:Int) else M.src ds tn m):=by show _=_;rw [HS.out];exact M.src_step hlt
   have hox:=hof _ (List.getElem_mem hlt)
   obtain ⟨c0,c1,c2⟩:=(hd.bel hb (Nat.le_refl _)).at hlt
   have cn':=(hb.cell (p:=⟨g,n * 3,none⟩) (World.block_lt_of_cell? _ _ cn)).trans cn
   have kr:=(hb.cell (p:=⟨w.heap.size,0,none⟩) lt0).trans k0
   clear HS e1
   generalize ds[m]=x at *
   have i1:(m:Int) < ds.length:=by omega
   have K0:=BelowOf.cell kr
   have KN:=BelowOf.cell cn'
   have Y0:=BelowOf.cell c0
   have Y1:=BelowOf.cell c1
   have Y2:=BelowOf.cell c2
   have C1:=fun q:BelowOf wr=>l12Do_ev a b o c ll x q.x hox hl hls ((h.below hb (Nat.le_refl _)).below q.h (Nat.le_refl _))
   have C2:=fun q:BelowOf wr=>l1Reads_bel x.d q.x
   haveI:Inhabited (BelowOf wr):=⟨belOf wr⟩
   have hx:Hid (x.reads=M.reads x.d.k):=by show _=_;rfl
   have hxr:x.reads=M.reads x.d.k:=rfl
   rw [hxr] at HS2
   clear hx hxr
   generalize x.t=xt at *
   go_wp2_with fail
   by_cases ht:xt=tn
   ·subst xt
    cases hr:M.reads x.d.k
    ·have HS3:Hid (M.src ds tn n=M.src ds tn m):=by show _=_;rw [HS2.out,hr];simp
     rw [hr] at C2
     refine wp_region_quiet_bel (by kernel_rfl) (by kernel_rfl) ?_
     repeat (quiet_step (first | (go_at_call 134;exact Calls.bel_of (C1 _)) | (go_at_call 76;exact Calls.bel_of (C2 _))))
     refine wpQuiet_nil ?_
     rintro _ ⟨⟨wq,hwq⟩,rfl⟩
     go_wp2_with fail
     exact ⟨⟨m,by go_num,by omega,HS3,hb.trans (hwq.mono hb.size)⟩,by simp [intOf]⟩
    ·have HS3:Hid (M.src ds tn n=m):=by show _=_;rw [HS2.out,hr];simp
     rw [hr] at C2
     refine wp_region_quiet_bel (by kernel_rfl) (by kernel_rfl) ?_
     repeat (quiet_step (first | (go_at_call 134;exact Calls.bel_of (C1 _)) | (go_at_call 76;exact Calls.bel_of (C2 _))))
     refine wpQuiet_nil ?_
     rintro _ ⟨⟨wq,hwq⟩,rfl⟩
     go_wp2_with fail
     go_ret
     exact ⟨by rw [HS3.out];rfl,hbw.trans (hwq.mono hbw.size)⟩
   ·have HS3:Hid (M.src ds tn n=M.src ds tn m):=by show _=_;rw [HS2.out];simp [ht]
    have ht':((xt:Int)==tn)=false:=by simp;omega
    refine wp_region_quiet_bel (by kernel_rfl) (by kernel_rfl) ?_
    iterate 12 (quiet_step (fail))
    iterate 7 go_big_quiet_skip
    iterate 1 (quiet_step (fail))
    refine wpQuiet_nil ?_
    rintro _ ⟨⟨wq,hwq⟩,rfl⟩
    go_wp2_with fail
    exact ⟨⟨m,by go_num,by omega,HS3,hb.trans (hwq.mono hb.size)⟩,by simp [intOf]⟩
end
section
open Go.RowKit
def M.val (ds:List M.De) (l:List Int):Nat→Int→Int
 | 0,i=>if i < 0 then 0 else -1
 | m+1,i=>if i < 0 then 0 else match ds[i.toNat]? with
  | none=>0
  | some x=>if x.reads then M.val ds l m (l.getD i.toNat 0) else if x.d.k==3 then M.val ds l m x.lr else x.d.v
theorem M.val_neg (ds:List M.De) (l:List Int) (m:Nat) {i:Int} (h:i < 0):M.val ds l m i=0:=by
 cases m<;>simp [M.val,h]
theorem M.val_at (ds:List M.De) (l:List Int) (m n:Nat) (h:n < ds.length) (h2:n < l.length):M.val ds l (m+1) n=if ds[n].reads then M.val ds l m l[n] else if ds[n].d.k==3 then M.val ds l m ds[n].lr else ds[n].d.v:=by
 rw [M.val,if_neg (by omega),Int.toNat_natCast,List.getElem?_eq_getElem h,List.getD_eq_getElem?_getD,List.getElem?_eq_getElem h2]
 rfl
theorem M.val_orig {ds:List M.De} {l:List Int} (hin:M.In ds l) (hv:∀ x∈ds,0≤x.d.v) (hll:l.length=ds.length):∀ (m n:Nat),n < ds.length→(decide (0≤M.val ds l m n)=(M.orig ds l m n).isSome):=by
 intro m
 induction m with
 | zero=>intro n _;rw [M.val,if_neg (by omega)];rfl
 | succ m ih =>
  intro n hn
  have hi:=hin n hn
  rw [M.val_at ds l m n hn (by omega),M.orig]
  have hvf:M.valFrom ds l n=if ds[n].reads then l[n] else if ds[n].d.k==3 then ds[n].lr else -1:=by
   simp [M.valFrom,hn,show n < l.length by omega]
  have step:∀ f:Int,f < ds.length→decide (0≤M.val ds l m f)=(if f < 0 then some n else M.orig ds l m f.toNat).isSome:=by
   intro f hf
   by_cases h0:f < 0
   ·rw [M.val_neg _ _ _ h0,if_pos h0];rfl
   ·rw [if_neg h0]
    obtain ⟨k,rfl⟩:∃ k:Nat,f=k:=⟨f.toNat,by omega⟩
    rw [Int.toNat_natCast]
    exact ih k (by omega)
  rw [hvf] at hi ⊢
  by_cases hr:ds[n].reads=true
  ·rw [if_pos hr] at hi ⊢
   rw [if_pos hr]
   exact step _ hi
  ·rw [if_neg hr] at hi ⊢
   rw [if_neg hr]
   by_cases h3:(ds[n].d.k==3)=true
   ·rw [if_pos h3] at hi ⊢
    rw [if_pos h3]
    exact step _ hi
   ·rw [if_neg h3,if_neg h3,if_pos (by omega)]
    simp [hv _ (List.getElem_mem hn)]
set_option maxHeartbeats 2000000 in
set_option maxRecDepth 100000 in
theorem l12Val_any (a:Option Addr) (b o c:Nat) (ll:List (List M.D)) (va:Option Addr) (g cc:Nat) (fa:Option Addr) (fb fo fc:Nat) (l:List Int) (ra:Value) (hl:ll.length≤1048576) (hls:∀ t∈ll,t.length≤1048576) (hdl:(M.deeds ll).length≤42) (HLL:Hid (l.length=(M.deeds ll).length)) (hin:M.In (M.deeds ll) l) :
  ∀ (m:Nat) (i:Int) (w:World),m≤1048576→i < (M.deeds ll).length→DoSS w a b o ll→DvS w va g (M.deeds ll)→IntS w fa fb fo l →
  Calls Tryz.prog 167 #[.agg #[.slice a ll.length c],.slice va (M.deeds ll).length cc,.agg #[.slice fa l.length fc,ra],.int .i64 i,.int .i64 m] w fun e w'=>e=.returned (.int .i64 (M.val (M.deeds ll) l m i))∧Below w.heap.size w w':=by
 intro m
 induction m with
 | zero =>
  intro i w _ hi h hd hf
  have hb2:=below2 w (.cells #[.slice a ll.length c] 25) (.cells #[.slice fa l.length fc,ra] 29)
  by_cases h0:i < 0
  ·go_enter Tryz.func167,Tryz.ntmps167
   go_wp2_with fail
   go_ret
   exact ⟨by rw [M.val_neg _ _ _ h0];rfl,hb2⟩
  ·have h0':decide (i < 0)=false:=by simpa using h0
   go_enter Tryz.func167,Tryz.ntmps167
   go_wp2_with fail
   go_ret
   exact ⟨by rw [M.val,if_neg (by omega)];rfl,hb2⟩
 | succ m ih =>
  intro i w hm hi h hd hf
  have hb2:=below2 w (.cells #[.slice a ll.length c] 25) (.cells #[.slice fa l.length fc,ra] 29)
  by_cases h0:i < 0
  ·go_enter Tryz.func167,Tryz.ntmps167
   go_wp2_with fail
   go_ret
   exact ⟨by rw [M.val_neg _ _ _ h0];rfl,hb2⟩
  ·obtain ⟨n,rfl⟩:∃ n:Nat,i=n:=⟨i.toNat,by omega⟩
   have hn:n < (M.deeds ll).length:=by omega
   have hnl:n < l.length:=by rw [HLL.out];exact hn
   have HV:Hid (M.val (M.deeds ll) l (m+1) n=if (M.deeds ll)[n].reads then M.val (M.deeds ll) l m l[n] else if (M.deeds ll)[n].d.k==3 then M.val (M.deeds ll) l m (M.deeds ll)[n].lr else (M.deeds ll)[n].d.v):=M.val_at _ _ _ _ hn hnl
   have hox:=M.ofEv _ (List.getElem_mem hn)
   have hfr:=hin n hn
   have hvf:M.valFrom (M.deeds ll) l n=if (M.deeds ll)[n].reads then l[n] else if (M.deeds ll)[n].d.k==3 then (M.deeds ll)[n].lr else -1:=by
    simp [M.valFrom,hn,hnl]
   rw [hvf] at hfr
   have HFR:Hid ((if (M.deeds ll)[n].reads then l[n] else if (M.deeds ll)[n].d.k==3 then (M.deeds ll)[n].lr else -1) < ((M.deeds ll).length:Int)):=hfr
   have HSR:Hid ((M.deeds ll)[n].reads=false→M.src (M.deeds ll) (M.deeds ll)[n].t n=(M.deeds ll)[n].lr):=M.src_ok ll n hn
   clear hvf hfr
   obtain ⟨rfl⟩:=hd.addr (by omega)
   obtain ⟨rfl⟩:=hf.addr (by omega)
   obtain ⟨f,hfe⟩:∃ f,l[n]=f:=⟨_,rfl⟩
   have hfc:=hf.row n hnl
   rw [hfe] at hfc HV HFR
   clear hfe
   obtain ⟨x,hxe⟩:∃ x,(M.deeds ll)[n]=x:=⟨_,rfl⟩
   have HXT:Hid ((M.deeds ll)[n].t=x.t):=by show _=_;rw [hxe]
   obtain ⟨c0,c1,c2⟩:=hd.at hn
   rw [hxe] at HV HFR HSR hox c0 c1 c2
   clear hxe
   have i1:(n:Int) < (M.deeds ll).length:=by omega
   have i2:(n:Int) < l.length:=by omega
   have kp:((w.alloc (.cells #[.slice a ll.length c] 25)).alloc (.cells #[.slice (some ⟨fb,fo,none⟩) l.length fc,ra] 29)).cell? ⟨w.heap.size,0,none⟩=some (.slice a ll.length c):=by simp
   have k0:((w.alloc (.cells #[.slice a ll.length c] 25)).alloc (.cells #[.slice (some ⟨fb,fo,none⟩) l.length fc,ra] 29)).cell? ⟨w.heap.size+1,0,none⟩=some (.slice (some ⟨fb,fo,none⟩) l.length fc):=by simp
   have k1:((w.alloc (.cells #[.slice a ll.length c] 25)).alloc (.cells #[.slice (some ⟨fb,fo,none⟩) l.length fc,ra] 29)).cell? ⟨w.heap.size+1,1,none⟩=some ra:=by simp
   have c0:=(hb2.cell (p:=⟨g,n * 3,none⟩) (World.block_lt_of_cell? _ _ c0)).trans c0
   have c1:=(hb2.cell (p:=⟨g,n * 3+1,none⟩) (World.block_lt_of_cell? _ _ c1)).trans c1
   have c2:=(hb2.cell (p:=⟨g,n * 3+2,none⟩) (World.block_lt_of_cell? _ _ c2)).trans c2
   have hfc:=(hb2.cell (p:=⟨fb,fo+n,none⟩) (World.block_lt_of_cell? _ _ hfc)).trans hfc
   replace h:=h.below hb2 (Nat.le_refl _)
   replace hd:=hd.bel hb2 (Nat.le_refl _)
   replace hf:=hf.below hb2 (Nat.le_refl _)
   go_enter Tryz.func167,Tryz.ntmps167
   go_wp2_with fail
   generalize (w.alloc (.cells #[.slice a ll.length c] 25)).alloc (.cells #[.slice (some ⟨fb,fo,none⟩) l.length fc,ra] 29)=wr at *
   have lg:g < wr.heap.size:=World.block_lt_of_cell? _ _ c0
   have lf:fb < wr.heap.size:=World.block_lt_of_cell? _ _ hfc
   have lw1:w.heap.size+1 < wr.heap.size:=World.block_lt_of_cell? _ _ k0
   have lw:w.heap.size < wr.heap.size:=World.block_lt_of_cell? _ _ kp
   have C:=fun W (hb:Below wr.heap.size wr W)=>l12Do_ev a b o c ll x W hox hl hls (h.below hb (Nat.le_refl _))
   have hbA:=below1 wr (.cells #[.int .i64 0,.int .i64 0,.int .i64 0] 94)
   have A0:(wr.alloc (.cells #[.int .i64 0,.int .i64 0,.int .i64 0] 94)).cell? ⟨wr.heap.size,0,none⟩=some (.int .i64 0):=by simp
   have A1:(wr.alloc (.cells #[.int .i64 0,.int .i64 0,.int .i64 0] 94)).cell? ⟨wr.heap.size,1,none⟩=some (.int .i64 0):=by simp
   have A2:(wr.alloc (.cells #[.int .i64 0,.int .i64 0,.int .i64 0] 94)).cell? ⟨wr.heap.size,2,none⟩=some (.int .i64 0):=by simp
   have Af:∀ j,(wr.alloc (.cells #[.int .i64 0,.int .i64 0,.int .i64 0] 94)).frozen? ⟨wr.heap.size,j,none⟩=false:=by intro j;simp
   have Asz:wr.heap.size < (wr.alloc (.cells #[.int .i64 0,.int .i64 0,.int .i64 0] 94)).heap.size:=by simp
   have N0:wr.heap.size≠w.heap.size:=Nat.ne_of_gt lw
   have N1:wr.heap.size≠g:=Nat.ne_of_gt lg
   have B0:=(hbA.cell (p:=⟨w.heap.size,0,none⟩) lw).trans kp
   have B1:=(hbA.cell (p:=⟨g,n * 3,none⟩) lg).trans c0
   have B2:=(hbA.cell (p:=⟨g,n * 3+1,none⟩) lg).trans c1
   have B3:=(hbA.cell (p:=⟨g,n * 3+2,none⟩) lg).trans c2
   go_region_held3 (fun w'=>w'.cell? ⟨w.heap.size,0,none⟩=some (.slice a ll.length c)∧w'.cell? ⟨g,n * 3,none⟩=some (.int .i64 x.t)∧w'.cell? ⟨g,n * 3+1,none⟩=some (.int .i64 x.i)∧w'.cell? ⟨g,n * 3+2,none⟩=some (.bool x.last)) (go_keep) (first
    | (go_at_call 134;refine (C _ ((Below.refl _ _).drew)).mono ?_;rintro e w1 ⟨rfl,hb1⟩;have Y0:=(hb1.cell (p:=⟨w.heap.size,0,none⟩) lw).trans kp;have Y1:=(hb1.cell (p:=⟨g,n * 3,none⟩) lg).trans c0;have Y2:=(hb1.cell (p:=⟨g,n * 3+1,none⟩) lg).trans c1;have Y3:=(hb1.cell (p:=⟨g,n * 3+2,none⟩) lg).trans c2)
    | (go_at_call 134;refine (C _ ((below1 _ _).drew)).mono ?_;rintro e w1 ⟨rfl,hb1⟩;have Y0:=(hb1.cell (p:=⟨w.heap.size,0,none⟩) (Nat.lt_trans lw Asz)).trans B0;have Y1:=(hb1.cell (p:=⟨g,n * 3,none⟩) (Nat.lt_trans lg Asz)).trans B1;have Y2:=(hb1.cell (p:=⟨g,n * 3+1,none⟩) (Nat.lt_trans lg Asz)).trans B2;have Y3:=(hb1.cell (p:=⟨g,n * 3+2,none⟩) (Nat.lt_trans lg Asz)).trans B3;have Z0:=(hb1.cell (p:=⟨wr.heap.size,0,none⟩) Asz).trans A0;have Z1:=(hb1.cell (p:=⟨wr.heap.size,1,none⟩) Asz).trans A1;have Z2:=(hb1.cell (p:=⟨wr.heap.size,2,none⟩) Asz).trans A2;have Zf:=fun j=>(hb1.frozen (p:=⟨wr.heap.size,j,none⟩) Asz).trans (Af j)))
   ·have F:DoIn wr _ _ x.d:=DoIn.behind (d:=x.d) ((Below.refl wr.heap.size wr).drew.trans hb1)
    generalize w1.alloc (.cells #[.int .i64 x.d.k,.int .i64 x.d.p,.int .i64 x.d.v] 94)=W1 at F ⊢
    generalize w1.heap.size=X at F ⊢
    clear hb1 A0 A1 A2 Af B0 B1 B2 B3 N0 N1 Y0 Y1 Y2 Y3 C hbA
    obtain ⟨hbF,hgF,d0,d1,d2⟩:=F
    have lX:X < W1.heap.size:=World.block_lt_of_cell? _ _ d0
    have hbG:=hbF.trans ((below1 W1 (.cells #[.int .i64 x.d.k,.int .i64 x.d.p,.int .i64 x.d.v] 94)).mono hbF.size)
    have D0:=((below1 W1 (.cells #[.int .i64 x.d.k,.int .i64 x.d.p,.int .i64 x.d.v] 94)).cell (p:=⟨X,0,none⟩) lX).trans d0
    have D2:=((below1 W1 (.cells #[.int .i64 x.d.k,.int .i64 x.d.p,.int .i64 x.d.v] 94)).cell (p:=⟨X,2,none⟩) lX).trans d2
    have hbZ:=hb2.trans (hbG.mono hb2.size)
    cases hr:M.reads x.d.k
    ·have HV2:Hid (M.val (M.deeds ll) l (m+1) n=if x.d.k==3 then M.val (M.deeds ll) l m x.lr else x.d.v):=by show _=_;rw [HV.out,show x.reads=false from hr];rfl
     cases h3:(x.d.k==3)
     ·go_wp2_with (go_at_call 76;refine (l1Reads_any x.d _).mono ?_;rw [hr];rintro e w' ⟨rfl,rfl⟩)
      go_ret
      exact ⟨by rw [HV2.out,h3];rfl,hbZ⟩
     ·have HL:Hid (x.lr < ((M.deeds ll).length:Int)):=by
       have:=HFR.out
       rw [show x.reads=false from hr,h3] at this
       exact this
      have HS:Hid (M.src (M.deeds ll) x.t n=x.lr):=HSR.out hr
      go_wp2_with (go_at_call 76;refine (l1Reads_any x.d _).mono ?_;rw [hr];rintro e w' ⟨rfl,rfl⟩)
      replace h:=h.below hbG (Nat.le_refl _)
      replace hd:=hd.bel hbG (Nat.le_refl _)
      replace hf:=hf.below hbG (Nat.le_refl _)
      replace kp:=(hbG.cell (p:=⟨w.heap.size,0,none⟩) lw).trans kp
      replace k0:=(hbG.cell (p:=⟨w.heap.size+1,0,none⟩) lw1).trans k0
      replace k1:=(hbG.cell (p:=⟨w.heap.size+1,1,none⟩) lw1).trans k1
      generalize W1.alloc (.cells #[.int .i64 x.d.k,.int .i64 x.d.p,.int .i64 x.d.v] 94)=W2 at *
      have KP:=BelowOf.cell kp
      have K0:=BelowOf.cell k0
      have K1:=BelowOf.cell k1
      have C1:=fun q:BelowOf W2=>l12Source_any a b o c ll (some ⟨g,0,none⟩) g cc n x.t q.x hn HXT.out hl hls hdl (h.below q.h (Nat.le_refl _)) (hd.bel q.h (Nat.le_refl _))
      have C2:=fun q:BelowOf W2=>ih x.lr q.x (by omega) HL.out (h.below q.h (Nat.le_refl _)) (hd.bel q.h (Nat.le_refl _)) (hf.below q.h (Nat.le_refl _))
      rw [HS.out] at C1
      haveI:Inhabited (BelowOf W2):=⟨belOf W2⟩
      clear ih
      have em:IntKind.i64.wrap (m:Int)=m:=by rw [IntKind.wrap_i64];omega
      refine wp_region_quiet_bel (by kernel_rfl) (by kernel_rfl) ?_
      repeat (quiet_step (first | (go_at_call 182;exact Calls.bel_of (C1 _)) | (go_at_call 167;exact Calls.bel_of (C2 _))))
      refine wpQuiet_nil ?_
      rintro _ ⟨⟨wq,hwq⟩,rfl⟩
      go_wp2_with fail
      go_ret
      exact ⟨by rw [HV2.out,h3];rfl,hbZ.trans (hwq.mono hbZ.size)⟩
    ·have HV2:Hid (M.val (M.deeds ll) l (m+1) n=M.val (M.deeds ll) l m f):=by show _=_;rw [HV.out,show x.reads=true from hr];rfl
     have HL:Hid (f < ((M.deeds ll).length:Int)):=by
      have:=HFR.out
      rw [show x.reads=true from hr] at this
      exact this
     go_wp2_with (go_at_call 76;refine (l1Reads_any x.d _).mono ?_;rw [hr];rintro e w' ⟨rfl,rfl⟩)
     replace h:=h.below hbG (Nat.le_refl _)
     replace hd:=hd.bel hbG (Nat.le_refl _)
     replace hf:=hf.below hbG (Nat.le_refl _)
     replace kp:=(hbG.cell (p:=⟨w.heap.size,0,none⟩) lw).trans kp
     replace k0:=(hbG.cell (p:=⟨w.heap.size+1,0,none⟩) lw1).trans k0
     replace k1:=(hbG.cell (p:=⟨w.heap.size+1,1,none⟩) lw1).trans k1
     replace hfc:=(hbG.cell (p:=⟨fb,fo+n,none⟩) lf).trans hfc
     generalize W1.alloc (.cells #[.int .i64 x.d.k,.int .i64 x.d.p,.int .i64 x.d.v] 94)=W2 at *
     have KP:=BelowOf.cell kp
     have K0:=BelowOf.cell k0
     have K1:=BelowOf.cell k1
     have KF:=BelowOf.cell hfc
     have C2:=fun q:BelowOf W2=>ih f q.x (by omega) HL.out (h.below q.h (Nat.le_refl _)) (hd.bel q.h (Nat.le_refl _)) (hf.below q.h (Nat.le_refl _))
     haveI:Inhabited (BelowOf W2):=⟨belOf W2⟩
     clear ih
     have em:IntKind.i64.wrap (m:Int)=m:=by rw [IntKind.wrap_i64];omega
     refine wp_region_quiet_bel (by kernel_rfl) (by kernel_rfl) ?_
     repeat (quiet_step (first | (go_at_call 167;exact Calls.bel_of (C2 _))))
     refine wpQuiet_nil ?_
     rintro _ ⟨⟨wq,hwq⟩,rfl⟩
     go_wp2_with fail
     go_ret
     exact ⟨by rw [HV2.out];rfl,hbZ.trans (hwq.mono hbZ.size)⟩
   ·have F:DoIn wr _ _ x.d:=DoIn.ahead (d:=x.d) (hbA.drew.trans (hb1.mono (Nat.le_of_lt Asz))) Z0 Z1 Z2
    generalize ((w1.setCell ⟨wr.heap.size,0,none⟩ (.int .i64 x.d.k)).setCell ⟨wr.heap.size,1,none⟩ (.int .i64 x.d.p)).setCell ⟨wr.heap.size,2,none⟩ (.int .i64 x.d.v)=W1 at F ⊢
    obtain ⟨X,hX,F⟩:∃ X,X=wr.heap.size∧DoIn wr W1 X x.d:=⟨_,rfl,F⟩
    rw [← hX]
    clear hX
    clear hb1 A0 A1 A2 Af B0 B1 B2 B3 N0 N1 Y0 Y1 Y2 Y3 C hbA
    obtain ⟨hbF,hgF,d0,d1,d2⟩:=F
    have lX:X < W1.heap.size:=World.block_lt_of_cell? _ _ d0
    have hbG:=hbF.trans ((below1 W1 (.cells #[.int .i64 x.d.k,.int .i64 x.d.p,.int .i64 x.d.v] 94)).mono hbF.size)
    have D0:=((below1 W1 (.cells #[.int .i64 x.d.k,.int .i64 x.d.p,.int .i64 x.d.v] 94)).cell (p:=⟨X,0,none⟩) lX).trans d0
    have D2:=((below1 W1 (.cells #[.int .i64 x.d.k,.int .i64 x.d.p,.int .i64 x.d.v] 94)).cell (p:=⟨X,2,none⟩) lX).trans d2
    have hbZ:=hb2.trans (hbG.mono hb2.size)
    cases hr:M.reads x.d.k
    ·have HV2:Hid (M.val (M.deeds ll) l (m+1) n=if x.d.k==3 then M.val (M.deeds ll) l m x.lr else x.d.v):=by show _=_;rw [HV.out,show x.reads=false from hr];rfl
     cases h3:(x.d.k==3)
     ·go_wp2_with (go_at_call 76;refine (l1Reads_any x.d _).mono ?_;rw [hr];rintro e w' ⟨rfl,rfl⟩)
      go_ret
      exact ⟨by rw [HV2.out,h3];rfl,hbZ⟩
     ·have HL:Hid (x.lr < ((M.deeds ll).length:Int)):=by
       have:=HFR.out
       rw [show x.reads=false from hr,h3] at this
       exact this
      have HS:Hid (M.src (M.deeds ll) x.t n=x.lr):=HSR.out hr
      go_wp2_with (go_at_call 76;refine (l1Reads_any x.d _).mono ?_;rw [hr];rintro e w' ⟨rfl,rfl⟩)
      replace h:=h.below hbG (Nat.le_refl _)
      replace hd:=hd.bel hbG (Nat.le_refl _)
      replace hf:=hf.below hbG (Nat.le_refl _)
      replace kp:=(hbG.cell (p:=⟨w.heap.size,0,none⟩) lw).trans kp
      replace k0:=(hbG.cell (p:=⟨w.heap.size+1,0,none⟩) lw1).trans k0
      replace k1:=(hbG.cell (p:=⟨w.heap.size+1,1,none⟩) lw1).trans k1
      generalize W1.alloc (.cells #[.int .i64 x.d.k,.int .i64 x.d.p,.int .i64 x.d.v] 94)=W2 at *
      have KP:=BelowOf.cell kp
      have K0:=BelowOf.cell k0
      have K1:=BelowOf.cell k1
      have C1:=fun q:BelowOf W2=>l12Source_any a b o c ll (some ⟨g,0,none⟩) g cc n x.t q.x hn HXT.out hl hls hdl (h.below q.h (Nat.le_refl _)) (hd.bel q.h (Nat.le_refl _))
      have C2:=fun q:BelowOf W2=>ih x.lr q.x (by omega) HL.out (h.below q.h (Nat.le_refl _)) (hd.bel q.h (Nat.le_refl _)) (hf.below q.h (Nat.le_refl _))
      rw [HS.out] at C1
      haveI:Inhabited (BelowOf W2):=⟨belOf W2⟩
      clear ih
      have em:IntKind.i64.wrap (m:Int)=m:=by rw [IntKind.wrap_i64];omega
      refine wp_region_quiet_bel (by kernel_rfl) (by kernel_rfl) ?_
      repeat (quiet_step (first | (go_at_call 182;exact Calls.bel_of (C1 _)) | (go_at_call 167;exact Calls.bel_of (C2 _))))
      refine wpQuiet_nil ?_
      rintro _ ⟨⟨wq,hwq⟩,rfl⟩
      go_wp2_with fail
      go_ret
      exact ⟨by rw [HV2.out,h3];rfl,hbZ.trans (hwq.mono hbZ.size)⟩
    ·have HV2:Hid (M.val (M.deeds ll) l (m+1) n=M.val (M.deeds ll) l m f):=by show _=_;rw [HV.out,show x.reads=true from hr];rfl
     have HL:Hid (f < ((M.deeds ll).length:Int)):=by
      have:=HFR.out
      rw [show x.reads=true from hr] at this
      exact this
     go_wp2_with (go_at_call 76;refine (l1Reads_any x.d _).mono ?_;rw [hr];rintro e w' ⟨rfl,rfl⟩)
     replace h:=h.below hbG (Nat.le_refl _)
     replace hd:=hd.bel hbG (Nat.le_refl _)
     replace hf:=hf.below hbG (Nat.le_refl _)
     replace kp:=(hbG.cell (p:=⟨w.heap.size,0,none⟩) lw).trans kp
     replace k0:=(hbG.cell (p:=⟨w.heap.size+1,0,none⟩) lw1).trans k0
     replace k1:=(hbG.cell (p:=⟨w.heap.size+1,1,none⟩) lw1).trans k1
     replace hfc:=(hbG.cell (p:=⟨fb,fo+n,none⟩) lf).trans hfc
     generalize W1.alloc (.cells #[.int .i64 x.d.k,.int .i64 x.d.p,.int .i64 x.d.v] 94)=W2 at *
     have KP:=BelowOf.cell kp
     have K0:=BelowOf.cell k0
     have K1:=BelowOf.cell k1
     have KF:=BelowOf.cell hfc
     have C2:=fun q:BelowOf W2=>ih f q.x (by omega) HL.out (h.below q.h (Nat.le_refl _)) (hd.bel q.h (Nat.le_refl _)) (hf.below q.h (Nat.le_refl _))
     haveI:Inhabited (BelowOf W2):=⟨belOf W2⟩
     clear ih
     have em:IntKind.i64.wrap (m:Int)=m:=by rw [IntKind.wrap_i64];omega
     refine wp_region_quiet_bel (by kernel_rfl) (by kernel_rfl) ?_
     repeat (quiet_step (first | (go_at_call 167;exact Calls.bel_of (C2 _))))
     refine wpQuiet_nil ?_
     rintro _ ⟨⟨wq,hwq⟩,rfl⟩
     go_wp2_with fail
     go_ret
     exact ⟨by rw [HV2.out];rfl,hbZ.trans (hwq.mono hbZ.size)⟩
end
section
open Go.RowKit
def M.vEnds (ds:List M.De) (l:List Int):Nat→List M.De→Bool
 | _,[]=>true
 | n,_::xs=>decide (0≤M.val ds l (2 * ds.length+2) n)&&M.vEnds ds l (n+1) xs
theorem M.vEnds_step {ds:List M.De} {l:List Int} {n:Nat} (h:M.vEnds ds l 0 ds=M.vEnds ds l n (ds.drop n)) (hn:n < ds.length):M.vEnds ds l 0 ds=(decide (0≤M.val ds l (2 * ds.length+2) n)&&M.vEnds ds l (n+1) (ds.drop (n+1))):=by
 rw [h,← List.getElem_cons_drop hn,M.vEnds]
set_option maxHeartbeats 1000000 in
set_option maxRecDepth 100000 in
theorem l12Ends_any (a:Option Addr) (b o c:Nat) (ll:List (List M.D)) (va:Option Addr) (g cc:Nat) (fa:Option Addr) (fb fo fc:Nat) (l:List Int) (ra:Value) (w:World) (hl:ll.length≤1048576) (hls:∀ t∈ll,t.length≤1048576) (hdl:(M.deeds ll).length≤42) (HLL:Hid (l.length=(M.deeds ll).length)) (hin:M.In (M.deeds ll) l) (h:DoSS w a b o ll) (hd:DvS w va g (M.deeds ll)) (hf:IntS w fa fb fo l) :
  Calls Tryz.prog 112 #[.agg #[.slice a ll.length c],.slice va (M.deeds ll).length cc,.agg #[.slice fa l.length fc,ra]] w fun e w'=>e=.returned (.bool (M.vEnds (M.deeds ll) l 0 (M.deeds ll)))∧Below w.heap.size w w':=by
 have hb2:=below2 w (.cells #[.slice a ll.length c] 25) (.cells #[.slice fa l.length fc,ra] 29)
 have kp:((w.alloc (.cells #[.slice a ll.length c] 25)).alloc (.cells #[.slice fa l.length fc,ra] 29)).cell? ⟨w.heap.size,0,none⟩=some (.slice a ll.length c):=by simp
 have k0:((w.alloc (.cells #[.slice a ll.length c] 25)).alloc (.cells #[.slice fa l.length fc,ra] 29)).cell? ⟨w.heap.size+1,0,none⟩=some (.slice fa l.length fc):=by simp
 have k1:((w.alloc (.cells #[.slice a ll.length c] 25)).alloc (.cells #[.slice fa l.length fc,ra] 29)).cell? ⟨w.heap.size+1,1,none⟩=some ra:=by simp
 have C:=l12Val_any a b o c ll va g cc fa fb fo fc l ra hl hls hdl HLL hin (2 * (M.deeds ll).length+2)
 rw [show ((2 * (M.deeds ll).length+2:Nat):Int)=2 * ((M.deeds ll).length:Int)+2 from by omega] at C
 generalize M.deeds ll=ds at *
 replace h:=h.below hb2 (Nat.le_refl _)
 replace hd:=hd.bel hb2 (Nat.le_refl _)
 replace hf:=hf.below hb2 (Nat.le_refl _)
 go_enter Tryz.func112,Tryz.ntmps112
 go_wp2_with fail
 generalize (w.alloc (.cells #[.slice a ll.length c] 25)).alloc (.cells #[.slice fa l.length fc,ra] 29)=WB at *
 have lw1:w.heap.size+1 < WB.heap.size:=World.block_lt_of_cell? _ _ k0
 have lw:w.heap.size < WB.heap.size:=World.block_lt_of_cell? _ _ kp
 go_loopw [7] (fun s7 wr=>∃ n:Nat,s7=.int .i64 n∧n≤ds.length∧Hid (M.vEnds ds l 0 ds=M.vEnds ds l n (ds.drop n))∧Below WB.heap.size WB wr) (fun s7 _=>ds.length - (intOf s7).toNat)
 case atStart=>exact ⟨0,rfl,Nat.zero_le _,by show _=_;rfl,Below.refl _ _⟩
 case round =>
  obtain ⟨n,rfl,hn,HA,hb⟩:=hrel
  have hbw:=hb2.trans (hb.mono hb2.size)
  have kp':=(hb.cell (p:=⟨w.heap.size,0,none⟩) lw).trans kp
  have k0':=(hb.cell (p:=⟨w.heap.size+1,0,none⟩) lw1).trans k0
  have k1':=(hb.cell (p:=⟨w.heap.size+1,1,none⟩) lw1).trans k1
  by_cases hlt:n < ds.length
  ·have HS:Hid (M.vEnds ds l 0 ds=(decide (0≤M.val ds l (2 * ds.length+2) n)&&M.vEnds ds l (n+1) (ds.drop (n+1)))):=M.vEnds_step HA.out hlt
   have C1:=C n wr (by omega) (by omega) (h.below hb (Nat.le_refl _)) (hd.bel hb (Nat.le_refl _)) (hf.below hb (Nat.le_refl _))
   clear HA C
   generalize M.val ds l (2 * ds.length+2) n=r at *
   have i1:(n:Int) < ds.length:=by omega
   by_cases hr:r < 0
   ·have HT:Hid (M.vEnds ds l 0 ds=false):=by show _=_;rw [HS.out,decide_eq_false (by omega)];rfl
    go_wp2_with (go_at_call 167;refine C1.mono ?_;rintro e w1 ⟨rfl,hb1⟩)
    go_ret
    exact ⟨ret_bool HT.out.symm,hbw.trans (hb1.mono hbw.size)⟩
   ·have HT:Hid (M.vEnds ds l 0 ds=M.vEnds ds l (n+1) (ds.drop (n+1))):=by show _=_;rw [HS.out,decide_eq_true (by omega)];rfl
    have hr':decide (r < 0)=false:=by simpa using hr
    go_wp2_with (go_at_call 167;refine C1.mono ?_;rintro e w1 ⟨rfl,hb1⟩)
    exact ⟨⟨n+1,by go_num,by omega,HT,hb.trans (hb1.mono hb.size)⟩,by simp [intOf];omega⟩
  ·go_wp2_with fail
   go_ret
   exact ⟨ret_bool (by rw [HA.out,List.drop_eq_nil_of_le (by omega)];rfl),hbw⟩
end
section
open Go.RowKit
theorem Tryz.infoExec:(Tryz.prog.info? 29).map (fun i=>(i.zero,i.size,i.bytes))=some (some (.agg #[.slice none 0 0,.slice none 0 0]),2,48):=by kernel_rfl
namespace M
theorem addPlace_in {rows:List (List Int)} {os:List (List (List Int))} {o:List (List Int)} (h:o∈addPlace rows os):∃ o'∈os,∃ r∈rows,o=o'++[r]:=by
 rw [addPlace,List.mem_flatMap] at h
 obtain ⟨o',h1,h2⟩:=h
 rw [List.mem_map] at h2
 obtain ⟨r,h3,h4⟩:=h2
 exact ⟨o',h1,r,h3,h4.symm⟩
theorem ordK_len6 {ds:List De} (h6:∀ p,(wrs p 0 ds).length≤6):∀ (k:Nat),∀ os∈ordK ds k,∀ r∈os,r.length≤6
 | 0,os,h,r,hr=>by simp [ordK] at h;rw [h] at hr;cases hr
 | k+1,os,h,r,hr=>by
  obtain ⟨o',h1,r',h2,rfl⟩:=addPlace_in h
  rcases List.mem_append.1 hr with h3 | h3
  ·exact ordK_len6 h6 k o' h1 r h3
  ·rw [List.mem_singleton.1 h3]
   have:=rowsOf_each _ _ _ _ h2
   have:=h6 k
   simp at *
   omega
end M
end
end Go.Proofs.YtmhpgdliaclokaaGreat
