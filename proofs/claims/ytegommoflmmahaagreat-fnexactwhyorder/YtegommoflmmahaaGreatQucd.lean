/- What spec and impl tell of why, plainly: they are the same; who is told, and when. No condition. impl.WhyOrder: the strictest order by which something may be seen. Of at most 1048576 threads and steps, of as many numbers. spec.WhyOrder: the strictest order by which something may be seen. Of at most 1048576 threads and steps, of as many numbers. -/
import Derived.Deep.OwnRows
import Derived.Test.YtegommoflmmahaaGreatRows
import Derived.Test.YtegommoflmmahaaGreatQubx
namespace Go.Proofs.YtegommoflmmahaaGreat
section
namespace M
theorem whyExec_none {ll:List (List D)} {t1 t2:List Int} {k:Int} (h:whyExec ll t1 t2 k=none):(t1,t2)∉orderAll ll k:=fun hm=>by
 obtain ⟨x,hx,e⟩:=mem_orderAll.1 hm
 have hp:=holds_parts_of hx
 have hs:=all_seenOkW _ hm
 unfold whyExec at h
 rw [hp.1,hs] at h
 have h1:=List.find?_eq_none.1 h x (mem_ways hp.2)
 apply h1
 unfold whyGood
 rw [hx]
 have e1:seenR (deeds ll) x.1=t1:=congrArg Prod.fst e
 have e2:seenL (deeds ll) x.1 x.2=t2:=congrArg Prod.snd e
 rw [e1,e2,cmpS_self]
 rfl
theorem whyExec_iff (ll:List (List D)) (t1 t2:List Int) (k:Int):(whyExec ll t1 t2 k).isSome=true↔(t1,t2)∈orderAll ll k:=by
 cases h:whyExec ll t1 t2 k with
 | none=>simp;exact whyExec_none h
 | some x=>simp;exact (whyGood_mem (whyExec_some h).2).2.2
theorem isIn_iff (ks:List Key) (t1 t2:List Int):isIn ks t1 t2=true↔(t1,t2)∈ks:=by
 unfold isIn
 rw [List.any_eq_true]
 constructor
 ·rintro ⟨k,hk,h⟩
  simp only [beq_iff_eq] at h
  obtain ⟨rfl,rfl⟩:=cmpS_zero h
  exact hk
 ·intro h
  exact ⟨_,h,by simp [cmpS_self]⟩
theorem whyExec_isIn (ll:List (List D)) (t1 t2:List Int) (k:Int):(whyExec ll t1 t2 k).isSome=isIn (orderAll ll k) t1 t2:=by
 rw [Bool.eq_iff_iff,whyExec_iff,isIn_iff]
end M
end
section
open Go.RowKit Go.Shelf
namespace M
def firstOf (f:Int→Bool):Int:=if f 1 then 1 else if f 2 then 2 else if f 3 then 3 else 0
theorem firstOf_hit {f:Int→Bool} {n:Nat} (h1:1≤n) (h3:n≤3) (hno:∀ j:Nat,1≤j→j < n→f j=false) (h:f n=true):firstOf f=n:=by
 have hn:n=1∨n=2∨n=3:=by omega
 unfold firstOf
 rcases hn with rfl | rfl | rfl
 ·rw [show f 1=true from h];rfl
 ·rw [show f 1=false from hno 1 (by omega) (by omega),show f 2=true from h];rfl
 ·rw [show f 1=false from hno 1 (by omega) (by omega),show f 2=false from hno 2 (by omega) (by omega),show f 3=true from h];rfl
theorem firstOf_none {f:Int→Bool} (hno:∀ j:Nat,1≤j→j < 4→f j=false):firstOf f=0:=by
 unfold firstOf
 rw [show f 1=false from hno 1 (by omega) (by omega),show f 2=false from hno 2 (by omega) (by omega),show f 3=false from hno 3 (by omega) (by omega)];rfl
def whyOrder (ll:List (List D)) (t1 t2:List Int):Int:=firstOf fun k=>(whyExec ll t1 t2 k).isSome
end M
set_option maxHeartbeats 4000000 in
set_option maxRecDepth 100000 in
set_option linter.unusedSimpArgs false in
theorem iwhyOrder_any (a:Option Addr) (b o c:Nat) (ll:List (List M.D)) (t:Sn) (w:World) (hl:ll.length≤1048576) (hls:∀ t∈ll,t.length≤1048576) (ht:t.Le 1048576) (h:DoSS w a b o ll) (hta:t.At w) :
  Calls Tryz.prog 21 #[.agg #[.slice a ll.length c],.agg #[.slice t.a1 t.l1.length t.c1,.slice t.a2 t.l2.length t.c2]] w fun e w'=>e=.returned (.int .i64 (M.whyOrder ll t.l1 t.l2))∧Below w.heap.size w w':=by
 have b1:=below2 w (.cells #[.slice a ll.length c] 25) (.cells #[.slice t.a1 t.l1.length t.c1,.slice t.a2 t.l2.length t.c2] 28)
 have k1:((w.alloc (.cells #[.slice a ll.length c] 25)).alloc (.cells #[.slice t.a1 t.l1.length t.c1,.slice t.a2 t.l2.length t.c2] 28)).cell? ⟨w.heap.size,0,none⟩=some (.slice a ll.length c):=by simp
 have k2:((w.alloc (.cells #[.slice a ll.length c] 25)).alloc (.cells #[.slice t.a1 t.l1.length t.c1,.slice t.a2 t.l2.length t.c2] 28)).cell? ⟨w.heap.size+1,0,none⟩=some (.slice t.a1 t.l1.length t.c1):=by simp
 have k3:((w.alloc (.cells #[.slice a ll.length c] 25)).alloc (.cells #[.slice t.a1 t.l1.length t.c1,.slice t.a2 t.l2.length t.c2] 28)).cell? ⟨w.heap.size+1,1,none⟩=some (.slice t.a2 t.l2.length t.c2):=by simp
 have hp1:=h.below b1 (Nat.le_refl _)
 have ht1:=hta.below b1 (Nat.le_refl _)
 obtain ⟨res,hres⟩:∃ res,M.whyOrder ll t.l1 t.l2=res:=⟨_,rfl⟩
 rw [hres]
 have HRES:Hid (M.firstOf (fun k=>(M.whyExec ll t.l1 t.l2 k).isSome)=res):=hres
 clear hres
 go_enter Tryz.func21,Tryz.ntmps21
 go_wp2_with fail
 generalize (w.alloc (.cells #[.slice a ll.length c] 25)).alloc (.cells #[.slice t.a1 t.l1.length t.c1,.slice t.a2 t.l2.length t.c2] 28)=W0 at *
 go_loopw [5] (fun s5 wr=>∃ n:Nat,s5=.int .i64 n∧1≤n∧n≤4∧Hid (∀ j:Nat,1≤j→j < n→(M.whyExec ll t.l1 t.l2 j).isSome=false)∧Below W0.heap.size W0 wr) (fun s5 _=>4 - (intOf s5).toNat)
 case atStart=>exact ⟨1,rfl,by omega,by omega,fun j h1 h2=>by omega,Below.refl _ _⟩
 case round =>
  obtain ⟨n,rfl,hn1,hn4,HN,hb⟩:=hrel
  have p1:=cellC hb k1
  have p2:=cellC hb k2
  have p3:=cellC hb k3
  go_wp2_with fail
  refine (isOrder_any (n:Int) wr).mono ?_
  by_cases h3:n≤3
  ·have e3:(decide (1≤(n:Int))&&decide ((n:Int)≤3))=true:=by simp;omega
   rw [e3]
   rintro e w1 ⟨rfl,rfl⟩
   go_wp2_with fail
   refine (iwhyExec_any a b o c ll t n _ hl hls ht (hp1.below hb (Nat.le_refl _)) (ht1.below hb (Nat.le_refl _))).mono ?_
   rintro e w2 ⟨v,rfl,hA⟩
   have b2:=hA.bel
   cases hx:M.whyExec ll t.l1 t.l2 n with
   | none =>
    obtain rfl:=hA.no hx
    have HN2:Hid (∀ j:Nat,1≤j→j < n+1→(M.whyExec ll t.l1 t.l2 j).isSome=false):=fun j h1 h2=>by
     by_cases hj:j=n
     ·subst hj;rw [hx];rfl
     ·exact HN.out j h1 (by omega)
    clear hA hx HN p1 p2 p3
    go_wp2_with fail
    have hbF:=hb.trans ((b2.trans ((below1 w2 (.cells #[.slice none 0 0,.slice none 0 0] 33)).mono b2.size)).mono hb.size)
    exact ⟨⟨n+1,by go_num,by omega,by omega,HN2,hbF⟩,by simp [intOf];omega⟩
   | some x =>
    obtain ⟨fv,ov,cs,rfl,hxw⟩:=hA.yes x hx
    obtain ⟨fa,fc,rfl⟩:=own_slx hxw.from_
    obtain ⟨ra,rc,rfl⟩:=own_slx hxw.ord
    have HR:Hid ((n:Int)=res):=by show _=_;rw [← HRES.out];exact (M.firstOf_hit hn1 h3 HN.out (by show (M.whyExec ll t.l1 t.l2 n).isSome=true;rw [hx];rfl)).symm
    clear hA hx HN p1 p2 p3 hxw
    go_wp2_with fail
    go_ret
    exact ⟨by rw [← HR.out];rfl,b1.trans ((hb.trans ((b2.trans ((below1 w2 _).mono b2.size)).mono hb.size)).mono b1.size)⟩
  ·have e3:(decide (1≤(n:Int))&&decide ((n:Int)≤3))=false:=by simp;omega
   rw [e3]
   rintro e w1 ⟨rfl,rfl⟩
   have hn:n=4:=by omega
   subst hn
   have HR:Hid (0=res):=by show _=_;rw [← HRES.out];exact (M.firstOf_none HN.out).symm
   clear HN
   go_wp2_with fail
   go_ret
   exact ⟨by rw [← HR.out];rfl,b1.trans (hb.mono b1.size)⟩
end
section
open Go.RowKit Go.Shelf
namespace M
def swhyOrder (ll:List (List D)) (t1 t2:List Int):Int:=firstOf fun k=>isIn (orderAll ll k) t1 t2
theorem swhyOrder_same (ll:List (List D)) (t1 t2:List Int):swhyOrder ll t1 t2=whyOrder ll t1 t2:=by
 unfold swhyOrder whyOrder
 congr 1
 funext k
 exact (whyExec_isIn ll t1 t2 k).symm
end M
set_option maxHeartbeats 4000000 in
set_option maxRecDepth 100000 in
set_option linter.unusedSimpArgs false in
theorem swhyOrder_any (a:Option Addr) (b o c:Nat) (ll:List (List M.D)) (t:Sn) (w:World) (hl:ll.length≤1048576) (hls:∀ t∈ll,t.length≤1048576) (ht:t.Le 1048576) (h:DoSS w a b o ll) (hta:t.At w) :
  Calls Tryz.prog 22 #[.agg #[.slice a ll.length c],.agg #[.slice t.a1 t.l1.length t.c1,.slice t.a2 t.l2.length t.c2]] w fun e w'=>e=.returned (.int .i64 (M.swhyOrder ll t.l1 t.l2))∧Below w.heap.size w w':=by
 have b1:=below2 w (.cells #[.slice a ll.length c] 25) (.cells #[.slice t.a1 t.l1.length t.c1,.slice t.a2 t.l2.length t.c2] 28)
 have k1:((w.alloc (.cells #[.slice a ll.length c] 25)).alloc (.cells #[.slice t.a1 t.l1.length t.c1,.slice t.a2 t.l2.length t.c2] 28)).cell? ⟨w.heap.size,0,none⟩=some (.slice a ll.length c):=by simp
 have k2:((w.alloc (.cells #[.slice a ll.length c] 25)).alloc (.cells #[.slice t.a1 t.l1.length t.c1,.slice t.a2 t.l2.length t.c2] 28)).cell? ⟨w.heap.size+1,0,none⟩=some (.slice t.a1 t.l1.length t.c1):=by simp
 have k3:((w.alloc (.cells #[.slice a ll.length c] 25)).alloc (.cells #[.slice t.a1 t.l1.length t.c1,.slice t.a2 t.l2.length t.c2] 28)).cell? ⟨w.heap.size+1,1,none⟩=some (.slice t.a2 t.l2.length t.c2):=by simp
 have hp1:=h.below b1 (Nat.le_refl _)
 have ht1:=hta.below b1 (Nat.le_refl _)
 obtain ⟨res,hres⟩:∃ res,M.swhyOrder ll t.l1 t.l2=res:=⟨_,rfl⟩
 rw [hres]
 have HRES:Hid (M.firstOf (fun k=>M.isIn (M.orderAll ll k) t.l1 t.l2)=res):=hres
 clear hres
 go_enter Tryz.func22,Tryz.ntmps22
 go_wp2_with fail
 generalize (w.alloc (.cells #[.slice a ll.length c] 25)).alloc (.cells #[.slice t.a1 t.l1.length t.c1,.slice t.a2 t.l2.length t.c2] 28)=W0 at *
 go_loopw [5] (fun s5 wr=>∃ n:Nat,s5=.int .i64 n∧1≤n∧n≤4∧Hid (∀ j:Nat,1≤j→j < n→M.isIn (M.orderAll ll j) t.l1 t.l2=false)∧Below W0.heap.size W0 wr) (fun s5 _=>4 - (intOf s5).toNat)
 case atStart=>exact ⟨1,rfl,by omega,by omega,fun j h1 h2=>by omega,Below.refl _ _⟩
 case round =>
  obtain ⟨n,rfl,hn1,hn4,HN,hb⟩:=hrel
  by_cases h3:n≤3
  ·have i3:(n:Int)≤3:=by omega
   have f1:∀ w',Below wr.heap.size wr w'→w'.cell? ⟨w.heap.size,0,none⟩=some (.slice a ll.length c):=fun w' h=>cellC (hb.trans (h.mono hb.size)) k1
   have f2:∀ w',Below wr.heap.size wr w'→w'.cell? ⟨w.heap.size+1,0,none⟩=some (.slice t.a1 t.l1.length t.c1):=fun w' h=>cellC (hb.trans (h.mono hb.size)) k2
   have f3:∀ w',Below wr.heap.size wr w'→w'.cell? ⟨w.heap.size+1,1,none⟩=some (.slice t.a2 t.l2.length t.c2):=fun w' h=>cellC (hb.trans (h.mono hb.size)) k3
   have CO:=fun w' (h:Below wr.heap.size wr w')=>sorderAllK a b o c ll n w' hl hls (hp1.below (hb.trans (h.mono hb.size)) (Nat.le_refl _))
   have hkl:=M.orderAll_len ll n
   have hkk:=M.orderAll_le ll n
   obtain ⟨ks,hks⟩:∃ ks,M.orderAll ll n=ks:=⟨_,rfl⟩
   have HKS:Hid (M.orderAll ll n=ks):=hks
   rw [hks] at CO hkl hkk
   clear hks
   have CN:=fun (a1:Option Addr) (g1 c1:Nat) (w':World) (h:Below wr.heap.size wr w') (hS:KS w' a1 g1 0 ks)=>sseenIn_any a1 g1 0 c1 ks t w' (by omega) hkk ht hS (ht1.below (hb.trans (h.mono hb.size)) (Nat.le_refl _))
   obtain ⟨q,hq⟩:∃ q,M.isIn ks t.l1 t.l2=q:=⟨_,rfl⟩
   rw [hq] at CN
   have HQ:Hid (M.isIn (M.orderAll ll n) t.l1 t.l2=q):=by show _=_;rw [HKS.out,hq]
   clear hq
   go_wp2_with fail
   refine wp_region_held_drew (S:=fun w'=>Below wr.heap.size wr w') (by kernel_rfl) (Below.refl _ _).drew (fun hH=>?_)
   refine tk 0 10 (.agg #[.slice a ll.length c]) hH rfl rfl (by intro w' hSw;have hc0:=f1 w' hSw;go_simp) ?_
   simp only [Act.put,q1,q2,q3]
   refine tk 1 11 (.int .i64 n) hH rfl rfl (by intro w' hSw;go_simp) ?_
   simp only [Act.put,q1,q2,q3]
   refine tk 3 13 (.agg #[.slice t.a1 t.l1.length t.c1,.slice t.a2 t.l2.length t.c2]) hH rfl rfl (by intro w' hSw;have hc0:=f2 w' hSw;have hc1:=f3 w' hSw;go_simp) ?_
   simp only [Act.put,q1,q2,q3]
   refine ry 2 rfl (fun K' hK=>?_)
   refine sg 12 rfl 58 #[.tmp 10,.tmp 11] rfl #[.agg #[.slice a ll.length c],.int .i64 n] (enters_of Tryz.func58 (by kernel_rfl) rfl) (CO _ hH) ?_
   rintro e Va ⟨v1,rfl,hA⟩
   obtain ⟨a1,g1,c1,rfl,hS1⟩:=hA.ex
   refine ⟨_,rfl,hK.out _ _ (hH.trans (hA.bel.mono hH.size)) (fun hH1=>?_)⟩
   clear hK K'
   simp only [Act.put,q1,q2,q3]
   refine ry 4 rfl (fun K' hK=>?_)
   refine sg 14 rfl 57 #[.tmp 12,.tmp 13] rfl #[.slice a1 ks.length c1,.agg #[.slice t.a1 t.l1.length t.c1,.slice t.a2 t.l2.length t.c2]] (enters_of Tryz.func57 (by kernel_rfl) rfl) (CN a1 g1 c1 _ hH1 hS1) ?_
   rintro e Vb ⟨rfl,bB⟩
   refine ⟨_,rfl,hK.out _ _ (hH1.trans (bB.mono hH1.size)) (fun hH2=>?_)⟩
   clear hK K'
   simp only [Act.put,q1,q2,q3]
   refine wpAnyH_done (by kernel_rfl) ?_ _
   cases q
   ·have HN2:Hid (∀ j:Nat,1≤j→j < n+1→M.isIn (M.orderAll ll j) t.l1 t.l2=false):=fun j h1 h2=>by
     by_cases hj:j=n
     ·subst hj;exact HQ.out
     ·exact HN.out j h1 (by omega)
    have hbF:=hb.trans (hH2.mono hb.size)
    clear HQ HN f1 f2 f3 hA hS1
    go_wp2_with fail
    exact ⟨⟨n+1,by go_num,by omega,by omega,HN2,hbF⟩,by simp [intOf];omega⟩
   ·have HR:Hid ((n:Int)=res):=by show _=_;rw [← HRES.out];exact (M.firstOf_hit hn1 h3 HN.out HQ.out).symm
    have hbF:=b1.trans ((hb.trans (hH2.mono hb.size)).mono b1.size)
    clear HQ HN f1 f2 f3 hA hS1
    go_wp2_with fail
    go_ret
    exact ⟨by rw [← HR.out];rfl,hbF⟩
  ·have hn:n=4:=by omega
   subst hn
   have HR:Hid (0=res):=by show _=_;rw [← HRES.out];exact (M.firstOf_none HN.out).symm
   clear HN
   go_wp2_with fail
   go_ret
   exact ⟨by rw [← HR.out];rfl,b1.trans (hb.mono b1.size)⟩
end
end Go.Proofs.YtegommoflmmahaaGreat
