/- What is seen in a way that is ok may be seen of the program: plainly. No condition. And what goes with it: ExSo, WyMath, WyO, WyOs, WyAn, OmMath, InMath, InMath2. -/
import Derived.Deep.OwnRows
import Derived.Test.YtmhpgdliaclokaaGreatRows
import Derived.Test.YtmhpgdliaclokaaGreatQtbj
namespace Go.Proofs.YtmhpgdliaclokaaGreat
section
namespace M
theorem rdN_append (l m:List De):rdN (l++m)=rdN l+rdN m:=by simp [rdN]
theorem rdN_deD (t i:Nat) (lr:Int) (n:Nat) (d:D):rdN (deD t i lr n d)=if reads d.k then 1 else 0:=by
 unfold deD rdN
 by_cases h:d.k==9
 ·have h9:d.k=9:=by simpa using h
  have hu:reads d.k=false:=by rw [h9];decide
  rw [if_pos h];simp [De.reads,hu]
 ·rw [if_neg h]
  cases hu:reads d.k<;>simp [De.reads,hu]
theorem rdN_deT (t:Nat):∀ (l:List D) (i:Nat) (lr:Int) (n:Nat),rdN (deT t i lr n l)=cnt reads l
 | [],_,_,_=>by simp [deT,rdN,cnt]
 | d::l,i,lr,n=>by
  rw [deT,rdN_append,rdN_deD,rdN_deT t l,cnt_cons]
theorem rdN_deF:∀ (ll:List (List D)) (t n:Nat),rdN (deF t n ll)=tot reads ll
 | [],_,_=>by simp [deF,rdN,tot]
 | l::ll,t,n=>by rw [deF,rdN_append,rdN_deT,rdN_deF ll,tot]
theorem rdAt_len (ds:List De) (l:List Int):∀ (xs:List De) (n:Nat),(rdAt ds l n xs).length=rdN xs
 | [],_=>by simp [rdAt,rdN]
 | x::xs,n=>by
  have ih:=rdAt_len ds l xs (n+1)
  unfold rdAt
  cases hx:x.reads
  ·simpa [rdN,hx] using ih
  ·simp [rdN,hx];simpa [rdN] using ih
theorem deed_v3 {ll:List (List D)} (h:prog ll=true):∀ x∈deeds ll,0≤x.d.v∧x.d.v≤3:=by
 intro x hx
 have:=deed_do h x hx
 simp only [doOk,Bool.and_eq_true,valOk] at this
 have hv:=this.2
 split at hv
 ·simp at hv;omega
 ·simp at hv;omega
theorem vl_in {ll:List (List D)} {l:List Int} {rows:List (List Int)} (h:Way ll l rows) (n:Nat) (hn:n < (deeds ll).length):0≤vl (deeds ll) l n∧vl (deeds ll) l n≤3:=by
 obtain ⟨q,hq,_,e⟩:=vl_of h.inn h.len.out h.zero h.fin n hn
 rw [e]
 exact deed_v3 h.prog _ (List.getElem_mem hq)
theorem rdAt_in {ll:List (List D)} {l:List Int} {rows:List (List Int)} (h:Way ll l rows):∀ (xs:List De) (n:Nat),n+xs.length≤(deeds ll).length→vals (rdAt (deeds ll) l n xs)=true
 | [],_,_=>by simp [rdAt,vals]
 | x::xs,n,hn=>by
  simp only [List.length_cons] at hn
  have ih:=rdAt_in h xs (n+1) (by omega)
  have hv:=vl_in h n (by omega)
  unfold rdAt
  split
  ·simp only [vals,List.all_cons,Bool.and_eq_true,decide_eq_true_eq] at ih ⊢
   exact ⟨hv,ih⟩
  ·exact ih
theorem last_in {ll:List (List D)} {l:List Int} {rows:List (List Int)} (h:Way ll l rows):∀ (rs:List (List Int)),(∀ r∈rs,r∈rows)→vals (seenL (deeds ll) l rs)=true
 | [],_=>by simp [seenL,vals]
 | r::rs,hr=>by
  have ih:=last_in h rs (fun x hx=>hr x (List.mem_cons_of_mem _ hx))
  have hv:0≤lastOf (deeds ll) l r∧lastOf (deeds ll) l r≤3:=by
   rcases Nat.eq_zero_or_pos r.length with h0 | h0
   ·rw [List.length_eq_zero_iff.1 h0,last_nil];omega
   ·rw [last_some _ _ h0]
    obtain ⟨m0,m1⟩:=h.mem r (hr r (List.mem_cons_self ..)) _ (List.getElem_mem (show r.length - 1 < r.length by omega))
    obtain ⟨q,hq⟩:=Int.eq_ofNat_of_zero_le m0
    rw [hq] at m1 ⊢
    exact vl_in h q (by omega)
  simp only [seenL,List.map_cons,vals,List.all_cons,Bool.and_eq_true,decide_eq_true_eq] at ih ⊢
  exact ⟨hv,ih⟩
theorem exec_seenOk {ll:List (List D)} {l:List Int} {rows:List (List Int)} (h:execOk ll l rows=true):seenOk ll (execSeen ll l rows).1 (execSeen ll l rows).2=true:=by
 have W:=way_of h
 have e:execSeen ll l rows=(seenR (deeds ll) l,seenL (deeds ll) l rows):=by simp [execSeen,h]
 have h1:((seenR (deeds ll) l).length:Int)=nreads ll:=by
  rw [nreads_ok W.prog,seenR,rdAt_len,deeds,rdN_deF]
 have h2:(seenL (deeds ll) l rows).length=3:=by rw [seenL,List.length_map,W.three.out]
 have h3:vals (seenR (deeds ll) l)=true:=rdAt_in W _ _ (by simp)
 have h4:vals (seenL (deeds ll) l rows)=true:=last_in W rows (fun _ h=>h)
 rw [e]
 simp only [seenOk,h1,h2,h3,h4,decide_true,Bool.and_true]
end M
end
section
namespace M
theorem all_seenOkW {ll:List (List D)} {kind:Int}:∀ k∈orderAll ll kind,seenOk ll k.1 k.2=true:=fun k hk=>by
 obtain ⟨x,hx,rfl⟩:=mem_orderAll.1 hk
 have h:=(holds_parts_of hx).2
 have e:=exec_seenOk h
 have e2:execSeen ll x.1 x.2=seenOf ll x:=by simp [execSeen,h,seenOf]
 rw [e2] at e
 exact e
theorem whyGood_mem {ll:List (List D)} {t1 t2:List Int} {k:Int} {x:Wy} (h:whyGood ll t1 t2 k x=true):orderHolds ll x.1 x.2 k=true∧seenOf ll x=(t1,t2)∧(t1,t2)∈orderAll ll k:=by
 unfold whyGood at h
 simp only [Bool.and_eq_true,beq_iff_eq] at h
 obtain ⟨h1,h2⟩:=h
 obtain ⟨e1,e2⟩:=cmpS_zero h1
 have e:seenOf ll x=(t1,t2):=by unfold seenOf;rw [e1,e2]
 exact ⟨h2,e,mem_orderAll.2 ⟨x,h2,e⟩⟩
theorem whyExec_some {ll:List (List D)} {t1 t2:List Int} {k:Int} {x:Wy} (h:whyExec ll t1 t2 k=some x):x∈ways (deeds ll)∧whyGood ll t1 t2 k x=true:=by
 unfold whyExec at h
 split at h
 ·exact ⟨List.mem_of_find?_eq_some h,List.find?_some h⟩
 ·cases h
theorem whyExec_none {ll:List (List D)} {t1 t2:List Int} {k:Int} (h:whyExec ll t1 t2 k=none):(t1,t2)∉orderAll ll k:=fun hm=>by
 obtain ⟨x,hx,e⟩:=mem_orderAll.1 hm
 have hp:=holds_parts_of hx
 have hs:=all_seenOkW _ hm
 unfold whyExec at h
 rw [hp.1,hs] at h
 have h1:=List.find?_eq_none.1 h x (mem_ways hp.2)
 apply h1
 unfold whyGood
 rw [hx]
 have e1:seenR (deeds ll) x.1=t1:=congrArg Prod.fst e
 have e2:seenL (deeds ll) x.1 x.2=t2:=congrArg Prod.snd e
 rw [e1,e2,cmpS_self]
 rfl
theorem whyExec_iff (ll:List (List D)) (t1 t2:List Int) (k:Int):(whyExec ll t1 t2 k).isSome=true↔(t1,t2)∈orderAll ll k:=by
 cases h:whyExec ll t1 t2 k with
 | none=>simp;exact whyExec_none h
 | some x=>simp;exact (whyGood_mem (whyExec_some h).2).2.2
theorem isIn_iff (ks:List Key) (t1 t2:List Int):isIn ks t1 t2=true↔(t1,t2)∈ks:=by
 unfold isIn
 rw [List.any_eq_true]
 constructor
 ·rintro ⟨k,hk,h⟩
  simp only [beq_iff_eq] at h
  obtain ⟨rfl,rfl⟩:=cmpS_zero h
  exact hk
 ·intro h
  exact ⟨_,h,by simp [cmpS_self]⟩
theorem whyExec_isIn (ll:List (List D)) (t1 t2:List Int) (k:Int):(whyExec ll t1 t2 k).isSome=isIn (orderAll ll k) t1 t2:=by
 rw [Bool.eq_iff_iff,whyExec_iff,isIn_iff]
end M
end
section
open Go.RowKit Go.Shelf
namespace M
def firstOf (f:Int→Bool):Int:=if f 1 then 1 else if f 2 then 2 else if f 3 then 3 else 0
theorem firstOf_hit {f:Int→Bool} {n:Nat} (h1:1≤n) (h3:n≤3) (hno:∀ j:Nat,1≤j→j < n→f j=false) (h:f n=true):firstOf f=n:=by
 have hn:n=1∨n=2∨n=3:=by omega
 unfold firstOf
 rcases hn with rfl | rfl | rfl
 ·rw [show f 1=true from h];rfl
 ·rw [show f 1=false from hno 1 (by omega) (by omega),show f 2=true from h];rfl
 ·rw [show f 1=false from hno 1 (by omega) (by omega),show f 2=false from hno 2 (by omega) (by omega),show f 3=true from h];rfl
theorem firstOf_none {f:Int→Bool} (hno:∀ j:Nat,1≤j→j < 4→f j=false):firstOf f=0:=by
 unfold firstOf
 rw [show f 1=false from hno 1 (by omega) (by omega),show f 2=false from hno 2 (by omega) (by omega),show f 3=false from hno 3 (by omega) (by omega)];rfl
def whyOrder (ll:List (List D)) (t1 t2:List Int):Int:=firstOf fun k=>(whyExec ll t1 t2 k).isSome
end M
set_option maxHeartbeats 4000000 in
set_option maxRecDepth 100000 in
set_option linter.unusedSimpArgs false in
theorem iwhyOrder_any (a:Option Addr) (b o c:Nat) (ll:List (List M.D)) (t:Sn) (w:World) (hl:ll.length≤1048576) (hls:∀ t∈ll,t.length≤1048576) (ht:t.Le 1048576) (h:DoSS w a b o ll) (hta:t.At w) :
  Calls Tryz.prog 27 #[.agg #[.slice a ll.length c],.agg #[.slice t.a1 t.l1.length t.c1,.slice t.a2 t.l2.length t.c2]] w fun e w'=>e=.returned (.int .i64 (M.whyOrder ll t.l1 t.l2))∧Below w.heap.size w w':=by
 have b1:=below2 w (.cells #[.slice a ll.length c] 25) (.cells #[.slice t.a1 t.l1.length t.c1,.slice t.a2 t.l2.length t.c2] 45)
 have k1:((w.alloc (.cells #[.slice a ll.length c] 25)).alloc (.cells #[.slice t.a1 t.l1.length t.c1,.slice t.a2 t.l2.length t.c2] 45)).cell? ⟨w.heap.size,0,none⟩=some (.slice a ll.length c):=by simp
 have k2:((w.alloc (.cells #[.slice a ll.length c] 25)).alloc (.cells #[.slice t.a1 t.l1.length t.c1,.slice t.a2 t.l2.length t.c2] 45)).cell? ⟨w.heap.size+1,0,none⟩=some (.slice t.a1 t.l1.length t.c1):=by simp
 have k3:((w.alloc (.cells #[.slice a ll.length c] 25)).alloc (.cells #[.slice t.a1 t.l1.length t.c1,.slice t.a2 t.l2.length t.c2] 45)).cell? ⟨w.heap.size+1,1,none⟩=some (.slice t.a2 t.l2.length t.c2):=by simp
 have hp1:=h.below b1 (Nat.le_refl _)
 have ht1:=hta.below b1 (Nat.le_refl _)
 obtain ⟨res,hres⟩:∃ res,M.whyOrder ll t.l1 t.l2=res:=⟨_,rfl⟩
 rw [hres]
 have HRES:Hid (M.firstOf (fun k=>(M.whyExec ll t.l1 t.l2 k).isSome)=res):=hres
 clear hres
 go_enter Tryz.func27,Tryz.ntmps27
 go_wp2_with fail
 generalize (w.alloc (.cells #[.slice a ll.length c] 25)).alloc (.cells #[.slice t.a1 t.l1.length t.c1,.slice t.a2 t.l2.length t.c2] 45)=W0 at *
 go_loopw [5] (fun s5 wr=>∃ n:Nat,s5=.int .i64 n∧1≤n∧n≤4∧Hid (∀ j:Nat,1≤j→j < n→(M.whyExec ll t.l1 t.l2 j).isSome=false)∧Below W0.heap.size W0 wr) (fun s5 _=>4 - (intOf s5).toNat)
 case atStart=>exact ⟨1,rfl,by omega,by omega,fun j h1 h2=>by omega,Below.refl _ _⟩
 case round =>
  obtain ⟨n,rfl,hn1,hn4,HN,hb⟩:=hrel
  have p1:=cellC hb k1
  have p2:=cellC hb k2
  have p3:=cellC hb k3
  go_wp2_with fail
  refine (isOrder_any (n:Int) wr).mono ?_
  by_cases h3:n≤3
  ·have e3:(decide (1≤(n:Int))&&decide ((n:Int)≤3))=true:=by simp;omega
   rw [e3]
   rintro e w1 ⟨rfl,rfl⟩
   go_wp2_with fail
   refine (iwhyExec_any a b o c ll t n _ hl hls ht (hp1.below hb (Nat.le_refl _)) (ht1.below hb (Nat.le_refl _))).mono ?_
   rintro e w2 ⟨v,rfl,hA⟩
   have b2:=hA.bel
   cases hx:M.whyExec ll t.l1 t.l2 n with
   | none =>
    obtain rfl:=hA.no hx
    have HN2:Hid (∀ j:Nat,1≤j→j < n+1→(M.whyExec ll t.l1 t.l2 j).isSome=false):=fun j h1 h2=>by
     by_cases hj:j=n
     ·subst hj;rw [hx];rfl
     ·exact HN.out j h1 (by omega)
    clear hA hx HN p1 p2 p3
    go_wp2_with fail
    have hbF:=hb.trans ((b2.trans ((below1 w2 (.cells #[.slice none 0 0,.slice none 0 0] 29)).mono b2.size)).mono hb.size)
    exact ⟨⟨n+1,by go_num,by omega,by omega,HN2,hbF⟩,by simp [intOf];omega⟩
   | some x =>
    obtain ⟨fv,ov,cs,rfl,hxw⟩:=hA.yes x hx
    obtain ⟨fa,fc,rfl⟩:=own_slx hxw.from_
    obtain ⟨ra,rc,rfl⟩:=own_slx hxw.ord
    have HR:Hid ((n:Int)=res):=by show _=_;rw [← HRES.out];exact (M.firstOf_hit hn1 h3 HN.out (by show (M.whyExec ll t.l1 t.l2 n).isSome=true;rw [hx];rfl)).symm
    clear hA hx HN p1 p2 p3 hxw
    go_wp2_with fail
    go_ret
    exact ⟨by rw [← HR.out];rfl,b1.trans ((hb.trans ((b2.trans ((below1 w2 _).mono b2.size)).mono hb.size)).mono b1.size)⟩
  ·have e3:(decide (1≤(n:Int))&&decide ((n:Int)≤3))=false:=by simp;omega
   rw [e3]
   rintro e w1 ⟨rfl,rfl⟩
   have hn:n=4:=by omega
   subst hn
   have HR:Hid (0=res):=by show _=_;rw [← HRES.out];exact (M.firstOf_none HN.out).symm
   clear HN
   go_wp2_with fail
   go_ret
   exact ⟨by rw [← HR.out];rfl,b1.trans (hb.mono b1.size)⟩
end
section
open Go.RowKit Go.Shelf
namespace M
def swhyOrder (ll:List (List D)) (t1 t2:List Int):Int:=firstOf fun k=>isIn (orderAll ll k) t1 t2
theorem swhyOrder_same (ll:List (List D)) (t1 t2:List Int):swhyOrder ll t1 t2=whyOrder ll t1 t2:=by
 unfold swhyOrder whyOrder
 congr 1
 funext k
 exact (whyExec_isIn ll t1 t2 k).symm
end M
set_option maxHeartbeats 4000000 in
set_option maxRecDepth 100000 in
set_option linter.unusedSimpArgs false in
theorem swhyOrder_any (a:Option Addr) (b o c:Nat) (ll:List (List M.D)) (t:Sn) (w:World) (hl:ll.length≤1048576) (hls:∀ t∈ll,t.length≤1048576) (ht:t.Le 1048576) (h:DoSS w a b o ll) (hta:t.At w) :
  Calls Tryz.prog 28 #[.agg #[.slice a ll.length c],.agg #[.slice t.a1 t.l1.length t.c1,.slice t.a2 t.l2.length t.c2]] w fun e w'=>e=.returned (.int .i64 (M.swhyOrder ll t.l1 t.l2))∧Below w.heap.size w w':=by
 have b1:=below2 w (.cells #[.slice a ll.length c] 25) (.cells #[.slice t.a1 t.l1.length t.c1,.slice t.a2 t.l2.length t.c2] 45)
 have k1:((w.alloc (.cells #[.slice a ll.length c] 25)).alloc (.cells #[.slice t.a1 t.l1.length t.c1,.slice t.a2 t.l2.length t.c2] 45)).cell? ⟨w.heap.size,0,none⟩=some (.slice a ll.length c):=by simp
 have k2:((w.alloc (.cells #[.slice a ll.length c] 25)).alloc (.cells #[.slice t.a1 t.l1.length t.c1,.slice t.a2 t.l2.length t.c2] 45)).cell? ⟨w.heap.size+1,0,none⟩=some (.slice t.a1 t.l1.length t.c1):=by simp
 have k3:((w.alloc (.cells #[.slice a ll.length c] 25)).alloc (.cells #[.slice t.a1 t.l1.length t.c1,.slice t.a2 t.l2.length t.c2] 45)).cell? ⟨w.heap.size+1,1,none⟩=some (.slice t.a2 t.l2.length t.c2):=by simp
 have hp1:=h.below b1 (Nat.le_refl _)
 have ht1:=hta.below b1 (Nat.le_refl _)
 obtain ⟨res,hres⟩:∃ res,M.swhyOrder ll t.l1 t.l2=res:=⟨_,rfl⟩
 rw [hres]
 have HRES:Hid (M.firstOf (fun k=>M.isIn (M.orderAll ll k) t.l1 t.l2)=res):=hres
 clear hres
 go_enter Tryz.func28,Tryz.ntmps28
 go_wp2_with fail
 generalize (w.alloc (.cells #[.slice a ll.length c] 25)).alloc (.cells #[.slice t.a1 t.l1.length t.c1,.slice t.a2 t.l2.length t.c2] 45)=W0 at *
 go_loopw [5] (fun s5 wr=>∃ n:Nat,s5=.int .i64 n∧1≤n∧n≤4∧Hid (∀ j:Nat,1≤j→j < n→M.isIn (M.orderAll ll j) t.l1 t.l2=false)∧Below W0.heap.size W0 wr) (fun s5 _=>4 - (intOf s5).toNat)
 case atStart=>exact ⟨1,rfl,by omega,by omega,fun j h1 h2=>by omega,Below.refl _ _⟩
 case round =>
  obtain ⟨n,rfl,hn1,hn4,HN,hb⟩:=hrel
  by_cases h3:n≤3
  ·have i3:(n:Int)≤3:=by omega
   have f1:∀ w',Below wr.heap.size wr w'→w'.cell? ⟨w.heap.size,0,none⟩=some (.slice a ll.length c):=fun w' h=>cellC (hb.trans (h.mono hb.size)) k1
   have f2:∀ w',Below wr.heap.size wr w'→w'.cell? ⟨w.heap.size+1,0,none⟩=some (.slice t.a1 t.l1.length t.c1):=fun w' h=>cellC (hb.trans (h.mono hb.size)) k2
   have f3:∀ w',Below wr.heap.size wr w'→w'.cell? ⟨w.heap.size+1,1,none⟩=some (.slice t.a2 t.l2.length t.c2):=fun w' h=>cellC (hb.trans (h.mono hb.size)) k3
   have CO:=fun w' (h:Below wr.heap.size wr w')=>sorderAllK a b o c ll n w' hl hls (hp1.below (hb.trans (h.mono hb.size)) (Nat.le_refl _))
   have hkl:=M.orderAll_len ll n
   have hkk:=M.orderAll_le ll n
   obtain ⟨ks,hks⟩:∃ ks,M.orderAll ll n=ks:=⟨_,rfl⟩
   have HKS:Hid (M.orderAll ll n=ks):=hks
   rw [hks] at CO hkl hkk
   clear hks
   have CN:=fun (a1:Option Addr) (g1 c1:Nat) (w':World) (h:Below wr.heap.size wr w') (hS:KS w' a1 g1 0 ks)=>sseenIn_any a1 g1 0 c1 ks t w' (by omega) hkk ht hS (ht1.below (hb.trans (h.mono hb.size)) (Nat.le_refl _))
   obtain ⟨q,hq⟩:∃ q,M.isIn ks t.l1 t.l2=q:=⟨_,rfl⟩
   rw [hq] at CN
   have HQ:Hid (M.isIn (M.orderAll ll n) t.l1 t.l2=q):=by show _=_;rw [HKS.out,hq]
   clear hq
   go_wp2_with fail
   refine wp_region_held_drew (S:=fun w'=>Below wr.heap.size wr w') (by kernel_rfl) (Below.refl _ _).drew (fun hH=>?_)
   refine tk 0 10 (.agg #[.slice a ll.length c]) hH rfl rfl (by intro w' hSw;have hc0:=f1 w' hSw;go_simp) ?_
   simp only [Act.put,zqa,zqb,zqc]
   refine tk 1 11 (.int .i64 n) hH rfl rfl (by intro w' hSw;go_simp) ?_
   simp only [Act.put,zqa,zqb,zqc]
   refine tk 3 13 (.agg #[.slice t.a1 t.l1.length t.c1,.slice t.a2 t.l2.length t.c2]) hH rfl rfl (by intro w' hSw;have hc0:=f2 w' hSw;have hc1:=f3 w' hSw;go_simp) ?_
   simp only [Act.put,zqa,zqb,zqc]
   refine ry 2 rfl (fun K' hK=>?_)
   refine sg 12 rfl 67 #[.tmp 10,.tmp 11] rfl #[.agg #[.slice a ll.length c],.int .i64 n] (enters_of Tryz.func67 (by kernel_rfl) rfl) (CO _ hH) ?_
   rintro e Va ⟨v1,rfl,hA⟩
   obtain ⟨a1,g1,c1,rfl,hS1⟩:=hA.ex
   refine ⟨_,rfl,hK.out _ _ (hH.trans (hA.bel.mono hH.size)) (fun hH1=>?_)⟩
   clear hK K'
   simp only [Act.put,zqa,zqb,zqc]
   refine ry 4 rfl (fun K' hK=>?_)
   refine sg 14 rfl 66 #[.tmp 12,.tmp 13] rfl #[.slice a1 ks.length c1,.agg #[.slice t.a1 t.l1.length t.c1,.slice t.a2 t.l2.length t.c2]] (enters_of Tryz.func66 (by kernel_rfl) rfl) (CN a1 g1 c1 _ hH1 hS1) ?_
   rintro e Vb ⟨rfl,bB⟩
   refine ⟨_,rfl,hK.out _ _ (hH1.trans (bB.mono hH1.size)) (fun hH2=>?_)⟩
   clear hK K'
   simp only [Act.put,zqa,zqb,zqc]
   refine wpAnyH_done (by kernel_rfl) ?_ _
   cases q
   ·have HN2:Hid (∀ j:Nat,1≤j→j < n+1→M.isIn (M.orderAll ll j) t.l1 t.l2=false):=fun j h1 h2=>by
     by_cases hj:j=n
     ·subst hj;exact HQ.out
     ·exact HN.out j h1 (by omega)
    have hbF:=hb.trans (hH2.mono hb.size)
    clear HQ HN f1 f2 f3 hA hS1
    go_wp2_with fail
    exact ⟨⟨n+1,by go_num,by omega,by omega,HN2,hbF⟩,by simp [intOf];omega⟩
   ·have HR:Hid ((n:Int)=res):=by show _=_;rw [← HRES.out];exact (M.firstOf_hit hn1 h3 HN.out HQ.out).symm
    have hbF:=b1.trans ((hb.trans (hH2.mono hb.size)).mono b1.size)
    clear HQ HN f1 f2 f3 hA hS1
    go_wp2_with fail
    go_ret
    exact ⟨by rw [← HR.out];rfl,hbF⟩
  ·have hn:n=4:=by omega
   subst hn
   have HR:Hid (0=res):=by show _=_;rw [← HRES.out];exact (M.firstOf_none HN.out).symm
   clear HN
   go_wp2_with fail
   go_ret
   exact ⟨by rw [← HR.out];rfl,b1.trans (hb.mono b1.size)⟩
end
section
open Go.RowKit
namespace M
end M
structure BxY (w W:World) (P S:Nat) (a:Option Addr) (g c:Nat) (mm:List (List M.D)) (s:Sn):Prop where
 bel:Below w.heap.size w W
 p:Slot1 W P (.slice a mm.length c)
 sb:Slot2 W S (.slice s.a1 s.l1.length s.c1) (.slice s.a2 s.l2.length s.c2)
 ss:DoSS W a g 0 mm
 sa:s.At W
theorem BxY.below {w W W':World} {P S:Nat} {a:Option Addr} {g c:Nat} {mm:List (List M.D)} {s:Sn} (h:BxY w W P S a g c mm s) (hb:Below W.heap.size W W'):BxY w W' P S a g c mm s :=
 ⟨h.bel.trans (hb.mono h.bel.size),h.p.bel hb,h.sb.bel hb,h.ss.below hb (Nat.le_refl _),h.sa.below hb (Nat.le_refl _)⟩
theorem BxY.new {w w1:World} {a:Option Addr} {g c:Nat} {mm:List (List M.D)} {s:Sn} (hD:WyDrawn w w1 a g c mm s) :
  BxY w ((w1.alloc (.cells #[.slice a mm.length c] 25)).alloc (.cells #[.slice s.a1 s.l1.length s.c1,.slice s.a2 s.l2.length s.c2] 45)) w1.heap.size (w1.heap.size+1) a g c mm s:=by
 have b2:=below2 w1 (.cells #[.slice a mm.length c] 25) (.cells #[.slice s.a1 s.l1.length s.c1,.slice s.a2 s.l2.length s.c2] 45)
 exact ⟨hD.bel.trans (b2.mono hD.bel.size),(Slot1.new w1 (.slice a mm.length c) 25).bel (below1 _ _),⟨by
  have:=heap_alloc_new (w1.alloc (.cells #[.slice a mm.length c] 25)) (.cells #[.slice s.a1 s.l1.length s.c1,.slice s.a2 s.l2.length s.c2] 45)
  rwa [World.size_alloc] at this⟩,hD.sn.ss.below b2 (Nat.le_refl _),hD.at_.below b2 (Nat.le_refl _)⟩
end
section
namespace M
theorem holds_iff {ll:List (List D)} {l:List Int} {rows:List (List Int)} {k:Nat}:orderHolds ll l rows k=true↔(1≤k∧k≤3)∧execOk ll l rows=true∧¬ Round (linksOf (netOf (deeds ll) l rows 0) (deeds ll).length)∧Sat (linksOf (netOf (deeds ll) l rows k) (deeds ll).length) (choices (deeds ll)):=by
 unfold orderHolds
 simp only [Bool.and_eq_true,decide_eq_true_eq,Int.toNat_natCast]
 constructor
 ·rintro ⟨hk,he,h0,hw⟩
  rw [waits_ok _ _ _ fun c hc=>(choices_ok (run_of (exec_prog he)) c hc).1] at hw
  exact ⟨by omega,he,(kahn_ok _ _).1 h0,hw⟩
 ·rintro ⟨hk,he,h0,hw⟩
  rw [waits_ok _ _ _ fun c hc=>(choices_ok (run_of (exec_prog he)) c hc).1]
  exact ⟨by omega,he,(kahn_ok _ _).2 h0,hw⟩
theorem exec_wo {ll:List (List D)} {l:List Int} {rows:List (List Int)}:execOk ll l rows=true↔prog ll=true∧WO (deeds ll) l rows:=by
 rw [execOk,Bool.and_eq_true,wo_iff]
theorem mem_net {ll:List (List D)} {l:List Int} {rows:List (List Int)} {k:Nat} {a b:Nat}:(a,b)∈linksOf (netOf (deeds ll) l rows k) (deeds ll).length↔∃ x y,(deeds ll)[a]?=some x∧(deeds ll)[b]?=some y∧must (deeds ll) l rows k a b x y=true:=by
 rw [mem_links]
 constructor
 ·rintro ⟨ha,hb,h⟩
  rw [netOf,mustAt,List.getElem?_eq_getElem ha,List.getElem?_eq_getElem hb] at h
  exact ⟨_,_,List.getElem?_eq_getElem ha,List.getElem?_eq_getElem hb,h⟩
 ·rintro ⟨x,y,hx,hy,h⟩
  refine ⟨lt_of_get hx,lt_of_get hy,?_⟩
  rw [netOf,mustAt,hx,hy]
  exact h
theorem sat_iff {L:List Lk}:∀ {cs:List Ch},Sat L cs↔∃ S:List Lk,(∀ c∈cs,c.1∈S∨c.2∈S)∧¬ Round (S++L):=by
 intro cs
 constructor
 ·rintro ⟨ls,hp,h⟩
  refine ⟨ls,?_,h⟩
  clear h
  induction hp with
  | nil=>intro c hc;cases hc
  | cons hl _ ih =>
   intro c hc
   rcases List.mem_cons.1 hc with rfl | hc
   ·exact hl.imp (fun e=>by rw [← e];exact List.mem_cons_self ..) (fun e=>by rw [← e];exact List.mem_cons_self ..)
   ·exact (ih c hc).imp (List.mem_cons_of_mem _) (List.mem_cons_of_mem _)
 ·rintro ⟨S,hS,h⟩
  have:∃ ls,Picks cs ls∧∀ l∈ls,l∈S:=by
   clear h
   induction cs with
   | nil=>exact ⟨[],.nil,fun l hl=>by cases hl⟩
   | cons c cs ih =>
    obtain ⟨ls,h1,h2⟩:=ih fun c hc=>hS c (List.mem_cons_of_mem _ hc)
    rcases hS c (List.mem_cons_self ..) with h3 | h3
    ·exact ⟨c.1::ls,.cons (.inl rfl) h1,fun l hl=>by
      rcases List.mem_cons.1 hl with rfl | hl
      ·exact h3
      ·exact h2 l hl⟩
    ·exact ⟨c.2::ls,.cons (.inr rfl) h1,fun l hl=>by
      rcases List.mem_cons.1 hl with rfl | hl
      ·exact h3
      ·exact h2 l hl⟩
  obtain ⟨ls,h1,h2⟩:=this
  exact ⟨ls,h1,fun hr=>h (hr.sub fun l hl=>.one (by
   rcases List.mem_append.1 hl with hl | hl
   ·exact List.mem_append.2 (.inl (h2 l hl))
   ·exact List.mem_append.2 (.inr hl)))⟩
theorem leads_map {L L':List Lk} {f:Nat→Nat} (h:∀ l∈L,Leads L' (f l.1) (f l.2)) {a b:Nat} (hl:Leads L a b):Leads L' (f a) (f b):=by
 induction hl with
 | one h1=>exact h _ h1
 | more _ h2 ih=>exact ih.trans (h _ h2)
theorem round_map {L L':List Lk} {f:Nat→Nat} (h:∀ l∈L,Leads L' (f l.1) (f l.2)) (hr:Round L):Round L':=by
 obtain ⟨a,ha⟩:=hr
 exact ⟨f a,leads_map h ha⟩
theorem sat_map {L L':List Lk} {f:Nat→Nat} {cs cs':List Ch} (h:∀ l∈L,Leads L' (f l.1) (f l.2)) (hc:∀ c∈cs,((f c.1.1,f c.1.2),(f c.2.1,f c.2.2))∈cs') (hs:Sat L' cs'):Sat L cs:=by
 obtain ⟨S',h1,h2⟩:=sat_iff.1 hs
 refine sat_iff.2 ⟨(cs.flatMap fun c=>[c.1,c.2]).filter fun l=>decide ((f l.1,f l.2)∈S'),fun c hcc=>?_,fun hr=>h2 (round_map (f:=f) (fun l hl=>?_) hr)⟩
 ·rcases h1 _ (hc c hcc) with h3 | h3
  ·left
   exact List.mem_filter.2 ⟨List.mem_flatMap.2 ⟨c,hcc,by simp⟩,by simpa using h3⟩
  ·right
   exact List.mem_filter.2 ⟨List.mem_flatMap.2 ⟨c,hcc,by simp⟩,by simpa using h3⟩
 ·rcases List.mem_append.1 hl with hl | hl
  ·have:=(List.mem_filter.1 hl).2
   exact .one (List.mem_append.2 (.inl (by simpa using this)))
  ·exact (h l hl).sub fun x hx=>List.mem_append.2 (.inr hx)
theorem deF_append:∀ (ll mm:List (List D)) (t n:Nat),deF t n (ll++mm)=deF t n ll++deF (t+ll.length) (n+(deF t n ll).length) mm
 | [],mm,t,n=>by simp [deF]
 | l::ll,mm,t,n=>by
  simp only [List.cons_append,deF,deF_append ll mm,List.append_assoc,List.length_append,List.length_cons]
  rw [show t+1+ll.length=t+(ll.length+1) by omega,show n+(deT t 0 (-1) n l).length+(deF (t+1) (n+(deT t 0 (-1) n l).length) ll).length=n+((deT t 0 (-1) n l).length+(deF (t+1) (n+(deT t 0 (-1) n l).length) ll).length) by omega]
theorem mem_deT (t:Nat):∀ (l:List D) (i:Nat) (lr:Int) (n:Nat) (x:De),x∈deT t i lr n l→x.d∈l∧x.t=t
 | [],_,_,_,x,h=>by simp [deT] at h
 | d::l,i,lr,n,x,h=>by
  rw [deT] at h
  rcases List.mem_append.1 h with h | h
  ·have h1:=deD_k t i lr n d x h
   refine ⟨by rw [h1];exact List.mem_cons_self ..,?_⟩
   unfold deD at h
   split at h
   ·rcases List.mem_cons.1 h with rfl | h
    ·rfl
    ·rw [List.mem_singleton.1 h]
   ·rw [List.mem_singleton.1 h]
  ·obtain ⟨h1,h2⟩:=mem_deT t l _ _ _ x h
   exact ⟨List.mem_cons_of_mem _ h1,h2⟩
theorem mem_deF:∀ (ll:List (List D)) (t n:Nat) (x:De),x∈deF t n ll→t≤x.t∧x.t < t+ll.length∧∃ l,ll[x.t - t]?=some l∧x.d∈l
 | [],_,_,x,h=>by simp [deF] at h
 | l::ll,t,n,x,h=>by
  rw [deF] at h
  rcases List.mem_append.1 h with h | h
  ·obtain ⟨h1,h2⟩:=mem_deT t l _ _ _ x h
   exact ⟨by omega,by simp;omega,l,by rw [h2];simp,h1⟩
  ·obtain ⟨h1,h2,l',h3,h4⟩:=mem_deF ll _ _ x h
   exact ⟨by omega,by simp;omega,l',by rw [show x.t - t=(x.t - (t+1))+1 by omega];simpa using h3,h4⟩
theorem own_iff {a b:Nat} {x y:De}:own a b x y=true↔a < b∧x.t=y.t:=by simp [own]
end M
end
section
namespace M
structure Sh (m m':Nat) (x y:De):Prop where
 d:y.d=x.d
 t:y.t=x.t
 last:y.last=x.last
 lr:(x.lr=-1∧y.lr=-1)∨∃ j:Nat,x.lr=((m+j:Nat):Int)∧y.lr=((m'+j:Nat):Int)
def ShL (m m':Nat) (xs ys:List De):Prop:=ys.length=xs.length∧∀ (a:Nat) (x:De),xs[a]?=some x→∃ y,ys[a]?=some y∧Sh m m' x y
theorem ShL.app {m m':Nat} {xs ys xs' ys':List De} (h:ShL m m' xs ys) (h':ShL m m' xs' ys'):ShL m m' (xs++xs') (ys++ys'):=by
 refine ⟨by simp [h.1,h'.1],fun a x hx=>?_⟩
 rcases Nat.lt_or_ge a xs.length with hl | hl
 ·rw [List.getElem?_append_left hl] at hx
  obtain ⟨y,hy,hs⟩:=h.2 a x hx
  exact ⟨y,by rw [List.getElem?_append_left (by rw [h.1];exact hl)];exact hy,hs⟩
 ·rw [List.getElem?_append_right hl] at hx
  obtain ⟨y,hy,hs⟩:=h'.2 _ x hx
  exact ⟨y,by rw [List.getElem?_append_right (by rw [h.1];exact hl),h.1];exact hy,hs⟩
def LrS (m m':Nat) (lr lr':Int):Prop:=(lr=-1∧lr'=-1)∨∃ j:Nat,lr=((m+j:Nat):Int)∧lr'=((m'+j:Nat):Int)
theorem LrS.of {m m':Nat} {lr lr':Int} (h:LrS m m' lr lr') (q:Nat) (d:D):LrS m m' (lrOf lr (m+q) d) (lrOf lr' (m'+q) d):=by
 unfold lrOf
 split
 ·exact .inr ⟨q,rfl,rfl⟩
 ·exact h
theorem sh_deD {m m':Nat} (t i i':Nat) {lr lr':Int} (h:LrS m m' lr lr') (q:Nat) (d:D):ShL m m' (deD t i lr (m+q) d) (deD t i' lr' (m'+q) d):=by
 have hl:=h.of q d
 unfold deD
 split
 ·refine ⟨rfl,fun a x hx=>?_⟩
  match a with
  | 0=>obtain rfl:=Option.some.inj hx;exact ⟨_,rfl,rfl,rfl,rfl,hl⟩
  | 1=>obtain rfl:=Option.some.inj hx;exact ⟨_,rfl,rfl,rfl,rfl,hl⟩
  | a+2=>simp at hx
 ·refine ⟨rfl,fun a x hx=>?_⟩
  match a with
  | 0=>obtain rfl:=Option.some.inj hx;exact ⟨_,rfl,rfl,rfl,rfl,hl⟩
  | a+1=>simp at hx
theorem sh_deT {m m':Nat} (t:Nat):∀ (l:List D) (i i':Nat) (lr lr':Int) (q:Nat),LrS m m' lr lr'→ShL m m' (deT t i lr (m+q) l) (deT t i' lr' (m'+q) l)
 | [],i,i',lr,lr',q,_=>⟨rfl,fun a x hx=>by simp [deT] at hx⟩
 | d::l,i,i',lr,lr',q,h=>by
  have h1:=sh_deD t i i' h q d
  have h2:=sh_deT t l (i+1) (i'+1) _ _ (q+(deD t i lr (m+q) d).length) (h.of q d)
  rw [deT,deT]
  refine h1.app ?_
  rw [h1.1]
  simpa only [Nat.add_assoc] using h2
theorem sh_deF {m m':Nat}:∀ (ll:List (List D)) (t q:Nat),ShL m m' (deF t (m+q) ll) (deF t (m'+q) ll)
 | [],t,q=>⟨rfl,fun a x hx=>by simp [deF] at hx⟩
 | l::ll,t,q=>by
  have h1:=sh_deT (m:=m) (m':=m') t l 0 0 (-1) (-1) q (.inl ⟨rfl,rfl⟩)
  have h2:=sh_deF (m:=m) (m':=m') ll (t+1) (q+(deT t 0 (-1) (m+q) l).length)
  rw [deF,deF]
  refine h1.app ?_
  rw [h1.1]
  simpa only [Nat.add_assoc] using h2
section
variable {n A T : Nat} {ds es : List De}
end
end M
end
section
namespace M
theorem deT_lr_lt {t:Nat}:∀ {l:List D} {i:Nat} {lr:Int} {n a:Nat} {x:De},(deT t i lr n l)[a]?=some x→x.lr=lr∨x.lr < ((n+(deT t i lr n l).length:Nat):Int)
 | [],i,lr,n,a,x,h=>by simp [deT] at h
 | d::l,i,lr,n,a,x,h=>by
  rw [deT] at h ⊢
  have hone:∀ y∈deD t i lr n d,y.lr=lrOf lr n d:=fun y hy=>by
   unfold deD at hy
   split at hy
   ·rcases List.mem_cons.1 hy with rfl | hy
    ·rfl
    ·rw [List.mem_singleton.1 hy]
   ·rw [List.mem_singleton.1 hy]
  have hl:=(deD_len t i lr n d).1
  have hof:lrOf lr n d=lr∨lrOf lr n d < ((n+(deD t i lr n d).length:Nat):Int):=by
   unfold lrOf
   split
   ·right;omega
   ·exact .inl rfl
  rw [List.length_append]
  rcases Nat.lt_or_ge a (deD t i lr n d).length with h1 | h1
  ·rw [List.getElem?_append_left h1] at h
   rw [hone x (mem_of_get h)]
   exact hof.imp id fun h=>by omega
  ·rw [List.getElem?_append_right h1] at h
   rcases deT_lr_lt h with h2 | h2
   ·rw [h2]
    exact hof.imp id fun h=>by omega
   ·right;omega
section
variable {ll mm : List (List D)} {n A T : Nat}
end
end M
end
end Go.Proofs.YtmhpgdliaclokaaGreat
