/- spec's machine: a step of the kind 9. Of a program that is one, at a machine that has come to what it may. -/
import Derived.Test.YtnddmlgnngdaoaaRows
import Derived.Test.YtnddmlgnngdaoaaQjat
namespace Go.Proofs.Ytnddmlgnngdaoaa
section
open Go.RowKit
set_option maxHeartbeats 4000000 in
set_option maxRecDepth 100000 in
theorem sstep_9 (base X i:Nat) (a:Option Addr) (b o c:Nat) (ll:List (List M.D)) (late:Bool) (vs:Rid→Value) (s:M.St) (d:M.D) (w0 w:World) (h0:DoSS w0 a b o ll) (hw0:w0.heap.size≤base) (hb0:Below base w0 w) (h:SM w base X a ll.length c vs s) (htl:i < ll.length) (h3:ll.length≤3) (hp:M.prog ll=true) (I:M.Inv ll s) (E:M.Edge ll.length s) (hd:s.d? ll i=some d) (hk:Hid (d.k=9)) :
  Calls Try.prog 31 #[.pointer (some ⟨X,0,none⟩),.int .i64 i,.bool late] w fun e w'=>e=.returned (.bool (s.step? late ll i).isSome)∧SmR w w' base X a ll.length c (s.step? late ll i):=by
 have ht:i < 3:=by omega
 have hsl:i < s.th.length:=by rw [I.th];exact ht
 have F:=I.fit (M.thOk_of hp i) ht hd
 have c0:=h.c0
 have hp1:=h0.below hb0 hw0
 obtain ⟨rfl⟩:=h0.addr (by omega)
 obtain ⟨a',b',o',c',hc,hdd⟩:=hp1.row i htl
 have hg:ll.getD i []=ll[i]:=by simp [htl]
 have HR:Hid (s.step? late ll i=if M.canD (s.t i) d then some (s.stepD late i d) else none):=by
  show _=_
  unfold M.St.step?
  rw [hd]
 have hd':=hd
 rw [M.St.d?,hg] at hd
 have hlt:(s.t i).next < ll[i].length:=by
  rcases Nat.lt_or_ge (s.t i).next ll[i].length with h | h
  ·exact h
  ·rw [List.getElem?_eq_none h] at hd;cases hd
 have hde:ll[i][(s.t i).next]=d:=by rw [List.getElem?_eq_getElem hlt] at hd;exact Option.some.inj hd
 have hok:=M.thr_ok hp htl (List.mem_of_getElem? hd)
 obtain ⟨rfl⟩:=hdd.addr (by omega)
 have hrow:=hdd.row _ hlt
 rw [hde] at hrow
 obtain ⟨ck,cp,cv⟩:=hrow
 have nx7:=F.nx
 have i2:((s.t i).next:Int) < ll[i].length:=by omega
 have i3:(i:Int) < ll.length:=by omega
 have lX:=h.lt
 obtain ⟨g1,c1,hv1,hb1,hf1⟩:=h.top (k:=1) (by omega) (by omega)
 have k1:=h.ck (k:=1) (by omega)
 rw [hv1] at k1
 have kn:=h.nextAt hv1 htl
 have lg1:g1 < w.heap.size:=World.block_lt_of_cell? _ _ kn
 have lb:b < w.heap.size:=World.block_lt_of_cell? _ _ hc
 have lb':b' < w.heap.size:=World.block_lt_of_cell? _ _ ck
 have hbX:=h.bX
 have hoffH:∀ r,okN ll.length r→(vs r).ownBlock≠some w.heap.size:=fun r hr e=>by have:=(SM.own h hr).lt _ e;omega
 clear hd hde hp1 hdd hg h0
 have wl:ll[i].length≤7:=by have:=(M.thOk_of hp i).len;rwa [show ll.getD i []=ll[i] from by simp [htl]] at this
 generalize ll[i]=l at *
 go_enter Try.func31,Try.ntmps31
 go_wp2_with fail
 go_region
 have C:StC (w.alloc (.cells #[.int .i64 d.k,.int .i64 d.p,.int .i64 d.v] 84)).drew w.heap.size base X (some ⟨b,o,none⟩) ll.length c vs s d w :=
  ⟨by simp,by simp,by simp,h.below ((below1 w _).trans ((Below.refl _ _).drew)),((below1 w _).mono (by omega)).trans ((Below.refl _ _).drew)⟩
 clear h c0 hc ck cp cv k1 kn lb lb' hf1 hb1 i2 hlt
 have hHg:w.heap.size≠g1:=by omega
 generalize (w.alloc (.cells #[.int .i64 d.k,.int .i64 d.p,.int .i64 d.v] 84)).drew=W2 at *
 generalize w.heap.size=H at *
 simp only [M.doOk,Bool.and_eq_true] at hok
 obtain ⟨⟨hkw,hpl⟩,hvl⟩:=hok
 have heV:∀ args w,(callFunc 53 args).run Try.prog w=.ok (.enter 53 args) w:=enters_of Try.func53 (by kernel_rfl) rfl
 have heW:∀ args w,(callFunc 52 args).run Try.prog w=.ok (.enter 52 args) w:=enters_of Try.func52 (by kernel_rfl) rfl
 obtain ⟨dk,dp,dv⟩:=d
 replace hk:=hk.out
 simp only at C F HR hkw hpl hvl hk
 subst hk
 have hpr:=fun q (hq:q∈(s.t i).pend)=>F.pr q hq
 have hth:=I.th
 have hat:=I.at_
 obtain ⟨g2,c2,hv2,hb2,hf2⟩:=C.m.top (k:=2) (by omega) (by omega)
 have k2:=C.m.ck (k:=2) (by omega)
 rw [hv2] at k2
 have kr:=C.m.subAt (Or.inl rfl) hv2 htl
 obtain ⟨la,lc,hvl2,hlc⟩:=own_sl (C.m.late htl)
 rw [hvl2] at kr
 have lg2:g2 < W2.heap.size:=World.block_lt_of_cell? _ _ kr
 cases hpd:(s.t i).pend with
 | cons q r =>
  have HN:Hid (s.step? late ll i=none):=by show _=_;rw [HR.out,M.canD,hpd];rfl
  rw [hpd,List.length_cons] at kr
  have hpos:(0:Int) < (r.length:Int)+1:=by omega
  obtain ⟨q0,q1,q2⟩:=And.intro C.q0 (And.intro C.q1 C.q2)
  have lH:H < W2.heap.size:=World.block_lt_of_cell? _ _ q0
  have lX2:X < W2.heap.size:=C.m.lt
  go_wp2_with (first | (go_at_call 50;refine (l1Reads_any ⟨_,_,_⟩ _).mono ?_;rintro e w3 ⟨rfl,rfl⟩) | (go_at_call 51;refine (l1Writes_any ⟨_,_,_⟩ _).mono ?_;rintro e w4 ⟨rfl,rfl⟩))
  go_ret
  exact ⟨by rw [HN.out];rfl,⟨fun s' e=>(by rw [HN.out] at e;cases e),C.bel.trans ((below2 _ _ _).mono (by omega))⟩⟩
 | nil =>
  rw [hpd,List.length_nil] at kr
  obtain ⟨q0,q1,q2⟩:=And.intro C.q0 (And.intro C.q1 C.q2)
  have lH:H < W2.heap.size:=World.block_lt_of_cell? _ _ q0
  have lX2:X < W2.heap.size:=C.m.lt
  go_wp2_with (first | (go_at_call 50;refine (l1Reads_any ⟨_,_,_⟩ _).mono ?_;rintro e w3 ⟨rfl,rfl⟩) | (go_at_call 51;refine (l1Writes_any ⟨_,_,_⟩ _).mono ?_;rintro e w4 ⟨rfl,rfl⟩))
  clear k2 kr hf2
  have HN:Hid (s.step? late ll i=(s.bump i).wait? ll.length i):=M.wait_step I E ht hd' rfl hpd
  have C3:=C.below (W':=((W2.alloc (.cells #[.int .i64 9,.int .i64 dp,.int .i64 dv] 84)).alloc (.cells #[.int .i64 9,.int .i64 dp,.int .i64 dv] 84))) (below2 _ _ _)
  clear C q0 q1 q2 lH lX2
  generalize ((W2.alloc (.cells #[.int .i64 9,.int .i64 dp,.int .i64 dv] 84)).alloc (.cells #[.int .i64 9,.int .i64 dp,.int .i64 dv] 84))=W3 at *
  obtain ⟨k1,kf1,kn⟩:W3.cell? ⟨X,1,none⟩=some (.slice (some ⟨g1,0,none⟩) ll.length c1)∧W3.frozen? ⟨g1,i,none⟩=false∧W3.cell? ⟨g1,i,none⟩=some (.int .i64 (s.t i).next):=by
   obtain ⟨g1',c1',e1,_,f1⟩:=C3.m.top (k:=1) (by omega) (by omega)
   have:=C3.m.ck (k:=1) (by omega)
   rw [hv1] at this e1
   simp only [Value.slice.injEq,Option.some.injEq,Addr.mk.injEq,and_true,true_and] at e1
   obtain ⟨rfl,_⟩:=e1
   exact ⟨this,f1 i,C3.m.nextAt hv1 htl⟩
  have C4:=(C3.bump hv1 htl hsl hHg).below (Below.refl _ _).drew
  have nx7':((s.t i).next:Int)≤7:=by omega
  clear C3
  go_region
  clear k1 kf1 kn
  generalize (W3.setCell ⟨g1,i,none⟩ (.int .i64 (((s.t i).next:Int)+1))).drew=W4 at *
  obtain ⟨q0,q1,q2⟩:=And.intro C4.q0 (And.intro C4.q1 C4.q2)
  have hm4:=C4.m
  have bel4:=C4.bel
  have hbt:=M.bump_t s i hsl
  go_wp2_with (go_at_call 55;refine (swait_any base X i _ _ c vs (s.bump i) W4 hm4 htl h3 (by rw [M.bump_len];exact hth) (by rw [hbt];exact (I.each i ht).noted) (by rw [hbt];show 0 < (s.t i).next+1;omega) (by rw [hbt];show (s.t i).next+1≤1048576;omega)).mono ?_;rintro e w5 ⟨rfl,hm5⟩)
  go_ret
  exact ⟨by rw [HN.out];rfl,by rw [HN.out];exact ⟨hm5.st,bel4.trans hm5.bel⟩⟩
end
end Go.Proofs.Ytnddmlgnngdaoaa
