/- spec's machine: a step of the kind 9. Of a program that is one, at a machine that has come to what it may. And what goes with it: SmSti, SmStep, SmTurn, SmNew, SmBeg, SmSeen, SmRun. -/
import Derived.Deep.OwnRows
import Derived.Test.YtnddmlgnngdaoaaRows
import Derived.Test.YtnddmlgnngdaoaaQvao
import Derived.Test.YtnddmlgnngdaoaaQvar
namespace Go.Proofs.Ytnddmlgnngdaoaa
section
open Go.RowKit
set_option maxHeartbeats 4000000 in
set_option maxRecDepth 100000 in
theorem sstep_9 (base X i:Nat) (a:Option Addr) (b o c:Nat) (ll:List (List M.D)) (late:Bool) (vs:Rid→Value) (s:M.St) (d:M.D) (w0 w:World) (h0:DoSS w0 a b o ll) (hw0:w0.heap.size≤base) (hb0:Below base w0 w) (h:SM w base X a ll.length c vs s) (htl:i < ll.length) (h3:ll.length≤3) (hp:M.prog ll=true) (I:M.Inv ll s) (E:M.Edge ll.length s) (hd:s.d? ll i=some d) (hk:Hid (d.k=9)) :
  Calls Try.prog 31 #[.pointer (some ⟨X,0,none⟩),.int .i64 i,.bool late] w fun e w'=>e=.returned (.bool (s.step? late ll i).isSome)∧SmR w w' base X a ll.length c (s.step? late ll i):=by
 have ht:i < 3:=by omega
 have hsl:i < s.th.length:=by rw [I.th];exact ht
 have F:=I.fit (M.thOk_of hp i) ht hd
 have c0:=h.c0
 have hp1:=h0.below hb0 hw0
 obtain ⟨rfl⟩:=h0.addr (by omega)
 obtain ⟨a',b',o',c',hc,hdd⟩:=hp1.row i htl
 have hg:ll.getD i []=ll[i]:=by simp [htl]
 have HR:Hid (s.step? late ll i=if M.canD (s.t i) d then some (s.stepD late i d) else none):=by
  show _=_
  unfold M.St.step?
  rw [hd]
 have hd':=hd
 rw [M.St.d?,hg] at hd
 have hlt:(s.t i).next < ll[i].length:=by
  rcases Nat.lt_or_ge (s.t i).next ll[i].length with h | h
  ·exact h
  ·rw [List.getElem?_eq_none h] at hd;cases hd
 have hde:ll[i][(s.t i).next]=d:=by rw [List.getElem?_eq_getElem hlt] at hd;exact Option.some.inj hd
 have hok:=M.thr_ok hp htl (List.mem_of_getElem? hd)
 obtain ⟨rfl⟩:=hdd.addr (by omega)
 have hrow:=hdd.row _ hlt
 rw [hde] at hrow
 obtain ⟨ck,cp,cv⟩:=hrow
 have nx7:=F.nx
 have i2:((s.t i).next:Int) < ll[i].length:=by omega
 have i3:(i:Int) < ll.length:=by omega
 have lX:=h.lt
 obtain ⟨g1,c1,hv1,hb1,hf1⟩:=h.top (k:=1) (by omega) (by omega)
 have k1:=h.ck (k:=1) (by omega)
 rw [hv1] at k1
 have kn:=h.nextAt hv1 htl
 have lg1:g1 < w.heap.size:=World.block_lt_of_cell? _ _ kn
 have lb:b < w.heap.size:=World.block_lt_of_cell? _ _ hc
 have lb':b' < w.heap.size:=World.block_lt_of_cell? _ _ ck
 have hbX:=h.bX
 have hoffH:∀ r,okN ll.length r→(vs r).ownBlock≠some w.heap.size:=fun r hr e=>by have:=(SM.own h hr).lt _ e;omega
 clear hd hde hp1 hdd hg h0
 have wl:ll[i].length≤7:=by have:=(M.thOk_of hp i).len;rwa [show ll.getD i []=ll[i] from by simp [htl]] at this
 generalize ll[i]=l at *
 go_enter Try.func31,Try.ntmps31
 go_wp2_with fail
 go_region
 have C:StC (w.alloc (.cells #[.int .i64 d.k,.int .i64 d.p,.int .i64 d.v] 84)).drew w.heap.size base X (some ⟨b,o,none⟩) ll.length c vs s d w :=
  ⟨by simp,by simp,by simp,h.below ((below1 w _).trans ((Below.refl _ _).drew)),((below1 w _).mono (by omega)).trans ((Below.refl _ _).drew)⟩
 clear h c0 hc ck cp cv k1 kn lb lb' hf1 hb1 i2 hlt
 have hHg:w.heap.size≠g1:=by omega
 generalize (w.alloc (.cells #[.int .i64 d.k,.int .i64 d.p,.int .i64 d.v] 84)).drew=W2 at *
 generalize w.heap.size=H at *
 simp only [M.doOk,Bool.and_eq_true] at hok
 obtain ⟨⟨hkw,hpl⟩,hvl⟩:=hok
 have heV:∀ args w,(callFunc 53 args).run Try.prog w=.ok (.enter 53 args) w:=enters_of Try.func53 (by kernel_rfl) rfl
 have heW:∀ args w,(callFunc 52 args).run Try.prog w=.ok (.enter 52 args) w:=enters_of Try.func52 (by kernel_rfl) rfl
 obtain ⟨dk,dp,dv⟩:=d
 replace hk:=hk.out
 simp only at C F HR hkw hpl hvl hk
 subst hk
 have hpr:=fun q (hq:q∈(s.t i).pend)=>F.pr q hq
 have hth:=I.th
 have hat:=I.at_
 obtain ⟨g2,c2,hv2,hb2,hf2⟩:=C.m.top (k:=2) (by omega) (by omega)
 have k2:=C.m.ck (k:=2) (by omega)
 rw [hv2] at k2
 have kr:=C.m.subAt (Or.inl rfl) hv2 htl
 obtain ⟨la,lc,hvl2,hlc⟩:=own_sl (C.m.late htl)
 rw [hvl2] at kr
 have lg2:g2 < W2.heap.size:=World.block_lt_of_cell? _ _ kr
 cases hpd:(s.t i).pend with
 | cons q r =>
  have HN:Hid (s.step? late ll i=none):=by show _=_;rw [HR.out,M.canD,hpd];rfl
  rw [hpd,List.length_cons] at kr
  have hpos:(0:Int) < (r.length:Int)+1:=by omega
  obtain ⟨q0,q1,q2⟩:=And.intro C.q0 (And.intro C.q1 C.q2)
  have lH:H < W2.heap.size:=World.block_lt_of_cell? _ _ q0
  have lX2:X < W2.heap.size:=C.m.lt
  go_wp2_with (first | (go_at_call 50;refine (l1Reads_any ⟨_,_,_⟩ _).mono ?_;rintro e w3 ⟨rfl,rfl⟩) | (go_at_call 51;refine (l1Writes_any ⟨_,_,_⟩ _).mono ?_;rintro e w4 ⟨rfl,rfl⟩))
  go_ret
  exact ⟨by rw [HN.out];rfl,⟨fun s' e=>(by rw [HN.out] at e;cases e),C.bel.trans ((below2 _ _ _).mono (by omega))⟩⟩
 | nil =>
  rw [hpd,List.length_nil] at kr
  obtain ⟨q0,q1,q2⟩:=And.intro C.q0 (And.intro C.q1 C.q2)
  have lH:H < W2.heap.size:=World.block_lt_of_cell? _ _ q0
  have lX2:X < W2.heap.size:=C.m.lt
  go_wp2_with (first | (go_at_call 50;refine (l1Reads_any ⟨_,_,_⟩ _).mono ?_;rintro e w3 ⟨rfl,rfl⟩) | (go_at_call 51;refine (l1Writes_any ⟨_,_,_⟩ _).mono ?_;rintro e w4 ⟨rfl,rfl⟩))
  clear k2 kr hf2
  have HN:Hid (s.step? late ll i=(s.bump i).wait? ll.length i):=M.wait_step I E ht hd' rfl hpd
  have C3:=C.below (W':=((W2.alloc (.cells #[.int .i64 9,.int .i64 dp,.int .i64 dv] 84)).alloc (.cells #[.int .i64 9,.int .i64 dp,.int .i64 dv] 84))) (below2 _ _ _)
  clear C q0 q1 q2 lH lX2
  generalize ((W2.alloc (.cells #[.int .i64 9,.int .i64 dp,.int .i64 dv] 84)).alloc (.cells #[.int .i64 9,.int .i64 dp,.int .i64 dv] 84))=W3 at *
  obtain ⟨k1,kf1,kn⟩:W3.cell? ⟨X,1,none⟩=some (.slice (some ⟨g1,0,none⟩) ll.length c1)∧W3.frozen? ⟨g1,i,none⟩=false∧W3.cell? ⟨g1,i,none⟩=some (.int .i64 (s.t i).next):=by
   obtain ⟨g1',c1',e1,_,f1⟩:=C3.m.top (k:=1) (by omega) (by omega)
   have:=C3.m.ck (k:=1) (by omega)
   rw [hv1] at this e1
   simp only [Value.slice.injEq,Option.some.injEq,Addr.mk.injEq,and_true,true_and] at e1
   obtain ⟨rfl,_⟩:=e1
   exact ⟨this,f1 i,C3.m.nextAt hv1 htl⟩
  have C4:=(C3.bump hv1 htl hsl hHg).below (Below.refl _ _).drew
  have nx7':((s.t i).next:Int)≤7:=by omega
  clear C3
  go_region
  clear k1 kf1 kn
  generalize (W3.setCell ⟨g1,i,none⟩ (.int .i64 (((s.t i).next:Int)+1))).drew=W4 at *
  obtain ⟨q0,q1,q2⟩:=And.intro C4.q0 (And.intro C4.q1 C4.q2)
  have hm4:=C4.m
  have bel4:=C4.bel
  have hbt:=M.bump_t s i hsl
  go_wp2_with (go_at_call 55;refine (swait_any base X i _ _ c vs (s.bump i) W4 hm4 htl h3 (by rw [M.bump_len];exact hth) (by rw [hbt];exact (I.each i ht).noted) (by rw [hbt];show 0 < (s.t i).next+1;omega) (by rw [hbt];show (s.t i).next+1≤1048576;omega)).mono ?_;rintro e w5 ⟨rfl,hm5⟩)
  go_ret
  exact ⟨by rw [HN.out];rfl,by rw [HN.out];exact ⟨hm5.st,bel4.trans hm5.bel⟩⟩
end
section
open Go.RowKit
theorem sstep_any (base X i:Nat) (a:Option Addr) (b o c:Nat) (ll:List (List M.D)) (late:Bool) (vs:Rid→Value) (s:M.St) (d:M.D) (w0 w:World) (h0:DoSS w0 a b o ll) (hw0:w0.heap.size≤base) (hb0:Below base w0 w) (h:SM w base X a ll.length c vs s) (htl:i < ll.length) (h3:ll.length≤3) (hp:M.prog ll=true) (I:M.Inv ll s) (E:M.Edge ll.length s) (hd:s.d? ll i=some d) :
  Calls Try.prog 31 #[.pointer (some ⟨X,0,none⟩),.int .i64 i,.bool late] w fun e w'=>e=.returned (.bool (s.step? late ll i).isSome)∧SmR w w' base X a ll.length c (s.step? late ll i):=by
 have hok:=M.thr_ok hp htl (d:=d) (by
  have hg:ll.getD i []=ll[i]:=by simp [htl]
  have hd':=hd
  rw [M.St.d?,hg] at hd'
  exact List.mem_of_getElem? hd')
 simp only [M.doOk,Bool.and_eq_true] at hok
 rcases M.kinds hok.1.1 with hk | hk | hk | hk | hk | hk | hk | hk | hk
 ·exact sstep_1 base X i a b o c ll late vs s d w0 w h0 hw0 hb0 h htl h3 hp I E hd hk
 ·exact sstep_2 base X i a b o c ll late vs s d w0 w h0 hw0 hb0 h htl h3 hp I E hd hk
 ·exact sstep_3 base X i a b o c ll late vs s d w0 w h0 hw0 hb0 h htl h3 hp I E hd hk
 ·exact sstep_4 base X i a b o c ll late vs s d w0 w h0 hw0 hb0 h htl h3 hp I E hd hk
 ·exact sstep_5 base X i a b o c ll late vs s d w0 w h0 hw0 hb0 h htl h3 hp I E hd hk
 ·exact sstep_6 base X i a b o c ll late vs s d w0 w h0 hw0 hb0 h htl h3 hp I E hd hk
 ·exact sstep_7 base X i a b o c ll late vs s d w0 w h0 hw0 hb0 h htl h3 hp I E hd hk
 ·exact sstep_8 base X i a b o c ll late vs s d w0 w h0 hw0 hb0 h htl h3 hp I E hd hk
 ·exact sstep_9 base X i a b o c ll late vs s d w0 w h0 hw0 hb0 h htl h3 hp I E hd hk
end
section
open Go.RowKit
theorem step_goTG {P:Program} {ops:Array Oper} {o:Oper} {a:Act} {w:World} {K:Act→World→Prop} {Q:Exit→Act→World→Prop} {E:Prop}
  (hw:Region.wanted o (yielded ops a.tmps)=true) (d:Option Tmp) (hd:o.dst=d) (f:FuncId) (x y z:Operand) (ts:Array TypeId) (hop:o.op=Op.call { callee:=Callee.value (Operand.func f),args:=#[x,y,z],argTypes:=ts })
  (vx vy vz:Value) (hx:a.eval x=vx) (hy:a.eval y=vy) (hz:a.eval z=vz) (he:∀ args w,(callFunc f args).run P w=.ok (.enter f args) w) {R:Ending→World→Prop} (hc:Calls P f #[vx,vy,vz] w R)
  (hK:∀ e w',R e w'→∃ v,e=.returned v∧K (a.put d v) w') :
  if Region.wanted o (yielded ops a.tmps)=true then Oper.wp P o a w K Q else E :=
 step_goV hw d hd f #[x,y,z] ts hop #[vx,vy,vz] (by simp [hx,hy,hz]) he hc hK
theorem M.step_none {ll:List (List M.D)} {s:M.St} {i:Nat} (late:Bool) (h:s.d? ll i=none):s.step? late ll i=none:=by
 unfold M.St.step?
 rw [h]
set_option maxHeartbeats 4000000 in
set_option maxRecDepth 100000 in
theorem sturn_any (base X:Nat) (a:Option Addr) (b o c:Nat) (ll:List (List M.D)) (vs:Rid→Value) (s:M.St) (k:Int) (w0 w:World) (h0:DoSS w0 a b o ll) (hw0:w0.heap.size≤base) (hb0:Below base w0 w) (h:SM w base X a ll.length c vs s) (h3:ll.length≤3) (hp:M.prog ll=true) (I:M.Inv ll s) (E:M.Edge ll.length s) (hk:-9223372036854775808≤k∧k < 9223372036854775808) :
  Calls Try.prog 38 #[.pointer (some ⟨X,0,none⟩),.int .i64 k] w fun e w'=>e=.returned (.bool (s.turn? true ll k).isSome)∧SmR w w' base X a ll.length c (s.turn? true ll k):=by
 have c0:=h.c0
 have lX:=h.lt
 have heS:∀ args w,(callFunc 31 args).run Try.prog w=.ok (.enter 31 args) w:=enters_of Try.func31 (by kernel_rfl) rfl
 have hw1:IntKind.i64.wrap ((ll.length:Int) - 1)=(ll.length:Int) - 1:=by rw [IntKind.wrap_i64];omega
 by_cases hkt:0≤k∧k < ll.length
 ·obtain ⟨i,rfl⟩:∃ i:Nat,k=i:=⟨k.toNat,by omega⟩
  have htl:i < ll.length:=by omega
  have i1:(i:Int) < ll.length:=by omega
  have HT:Hid (s.turn? true ll i=s.step? true ll i):=by
   show _=_
   unfold M.St.turn?
   rw [if_pos hkt]
   rfl
  have hin:M.rng 0 ((ll.length:Int) - 1) i=true:=by simp [M.rng];omega
  obtain ⟨g1,c1,hv1,hb1,hf1⟩:=h.top (k:=1) (by omega) (by omega)
  have k1:=h.ck (k:=1) (by omega)
  rw [hv1] at k1
  have kn:=h.nextAt hv1 htl
  have hp1:=h0.below hb0 hw0
  obtain ⟨rfl⟩:=hp1.addr (by omega)
  obtain ⟨a',b',o',c',hc,_⟩:=hp1.row i htl
  have hg:ll.getD i []=ll[i]:=by simp [htl]
  have hln:ll[i].length≤7:=by have:=(M.thOk_of hp i).len;rwa [hg] at this
  have ST:=fun d (hd:s.d? ll i=some d) (W:World) (hW:SM W base X (some ⟨b,o,none⟩) ll.length c vs s) (hbW:Below base w0 W)=>sstep_any base X i (some ⟨b,o,none⟩) b o c ll true vs s d w0 W h0 hw0 hbW hW htl h3 hp I E hd
  have hbd:Below w.heap.size w w.drew:=(Below.refl _ _).drew
  by_cases hlt:(s.t i).next < ll[i].length
  ·obtain ⟨d,hd⟩:∃ d,s.d? ll i=some d:=⟨_,by rw [M.St.d?,hg];exact List.getElem?_eq_getElem hlt⟩
   have hlt':((s.t i).next:Int) < ll[i].length:=by omega
   have ST1:=ST d hd w.drew (h.below hbd) (hb0.trans (Below.refl _ _).drew)
   have HN:Hid (s.step? true ll i=s.step? true ll i):=rfl
   generalize hst:s.step? true ll i=r at ST1 HT
   generalize ll[i].length=ln at *
   generalize (s.t i).next=nx at *
   clear hf1 hp1 hg ST hd h I E
   go_enter Try.func38,Try.ntmps38
   go_wp2_with (go_at_call 30;refine (l6In_any _ _ _ _).mono ?_;rintro e w1 ⟨rfl,rfl⟩)
   go_region_law (refine step_goTG (by rfl) (some 37) rfl 31 _ _ _ _ (by rfl) _ _ _ (by rfl) (by rfl) (by rfl) heS ST1 ?_;rintro e w6 ⟨rfl,hm6⟩;refine ⟨_,rfl,?_⟩)
   all_goals
    go_wp2_with fail
    go_ret
    exact ⟨by rw [HT.out];rfl,by rw [HT.out];exact ⟨hm6.st,((Below.refl base _).drew).trans hm6.bel⟩⟩
  ·have hd:s.d? ll i=none:=by rw [M.St.d?,hg];exact List.getElem?_eq_none (by omega)
   have HN:Hid (s.turn? true ll i=none):=by show _=_;rw [HT.out];exact M.step_none true hd
   have hlt':¬ ((s.t i).next:Int) < ll[i].length:=by omega
   generalize ll[i].length=ln at *
   generalize (s.t i).next=nx at *
   clear hf1 hp1 hg ST hd h I E HT
   go_enter Try.func38,Try.ntmps38
   go_wp2_with (go_at_call 30;refine (l6In_any _ _ _ _).mono ?_;rintro e w1 ⟨rfl,rfl⟩)
   go_region
   go_wp2_with fail
   go_ret
   exact ⟨by rw [HN.out];rfl,⟨fun s' e=>(by rw [HN.out] at e;cases e),(Below.refl base _).drew⟩⟩
 ·have hin:M.rng 0 ((ll.length:Int) - 1) k=false:=by
   simp only [M.rng,Bool.and_eq_false_iff,decide_eq_false_iff_not];omega
  by_cases hkt2:3≤k∧k < ll.length+3
  ·obtain ⟨i,rfl⟩:∃ i:Nat,k=(i:Int)+3:=⟨k.toNat - 3,by omega⟩
   have htl:i < ll.length:=by omega
   have ht:i < 3:=by omega
   have i1:(i:Int) < ll.length:=by omega
   have hwi:IntKind.i64.wrap ((i:Int)+3 - 3)=i:=by rw [IntKind.wrap_i64];omega
   have hwi2:IntKind.i64.wrap (i:Int)=i:=by rw [IntKind.wrap_i64];omega
   have hin2:M.rng 0 ((ll.length:Int) - 1) i=true:=by simp [M.rng];omega
   have HT:Hid (s.turn? true ll ((i:Int)+3)=s.land? i):=by
    show _=_
    unfold M.St.turn?
    rw [if_neg hkt,if_pos hkt2]
    congr 1
   obtain ⟨g2,c2,hv2,hb2,hf2⟩:=h.top (k:=2) (by omega) (by omega)
   have k2:=h.ck (k:=2) (by omega)
   rw [hv2] at k2
   have kr:=h.subAt (Or.inl rfl) hv2 htl
   obtain ⟨la,lc,hvl,_⟩:=own_sl (h.late htl)
   rw [hvl] at kr
   have e:=I.each i ht
   cases hpe:(s.t i).pend with
   | nil =>
    have HR:Hid (s.turn? true ll ((i:Int)+3)=none):=by show _=_;rw [HT.out,M.St.land?,hpe];rfl
    rw [hpe,List.length_nil] at kr
    clear h I E HT hf2 hkt hkt2
    go_enter Try.func38,Try.ntmps38
    go_wp2_with (go_at_call 30;refine (l6In_any _ _ _ _).mono ?_;rintro e w1 ⟨rfl,rfl⟩)
    go_ret
    exact ⟨by rw [HR.out];rfl,⟨fun s' e=>(by rw [HR.out] at e;cases e),Below.refl _ _⟩⟩
   | cons q r =>
    have HR:Hid (s.turn? true ll ((i:Int)+3)=some (s.come i)):=by show _=_;rw [HT.out,M.St.land?,hpe];rfl
    have hr6:r.length≤1048576:=by
     have h1:=e.pend
     have h2:=M.cnt_take_le M.writes (ll.getD i []) (s.t i).next
     have h3:=(M.thOk_of hp i).wr
     rw [hpe,List.length_cons] at h1
     omega
    have hq:=e.pr q (by rw [hpe];exact List.mem_cons_self ..)
    have hpos:(((r.length:Int)+1==0)=false):=by simp;omega
    have LD:=sland_any base X i _ _ c vs s q r w h htl h3 hpe hq.1 hq.2.1 I.at_ I.th hr6
    rw [hpe,List.length_cons] at kr
    clear h I E HT hf2 hkt hkt2
    go_enter Try.func38,Try.ntmps38
    go_wp2_with (first | (go_at_call 30;refine (l6In_any _ _ _ _).mono ?_;rintro e w1 ⟨rfl,rfl⟩) | (go_at_call 63;refine LD.mono ?_;rintro e w2 ⟨rfl,hm2,hb2'⟩))
    go_ret
    exact ⟨by rw [HR.out];rfl,⟨fun s' e=>(by
     rw [HR.out] at e
     obtain rfl:=Option.some.inj e
     exact hm2),hb2'⟩⟩
  ·have HR:Hid (s.turn? true ll k=none):=by
    show _=_
    unfold M.St.turn?
    rw [if_neg hkt,if_neg hkt2]
   have hin2:M.rng 0 ((ll.length:Int) - 1) (IntKind.i64.wrap (k - 3))=false:=by
    rw [IntKind.wrap_i64]
    simp only [M.rng,Bool.and_eq_false_iff,decide_eq_false_iff_not]
    omega
   have hin3:M.rng 0 ((ll.length:Int) - 1) (wrap64 (k - 3))=false:=by
    unfold wrap64
    simp only [M.rng,Bool.and_eq_false_iff,decide_eq_false_iff_not]
    omega
   clear h I E hkt hkt2
   go_enter Try.func38,Try.ntmps38
   go_wp2_with (go_at_call 30;refine (l6In_any _ _ _ _).mono ?_;rintro e w1 ⟨rfl,rfl⟩)
   go_ret
   exact ⟨by rw [HR.out];rfl,⟨fun s' e=>(by rw [HR.out] at e;cases e),Below.refl _ _⟩⟩
end
section
open Go.RowKit
theorem Try.smIntN:(Try.prog.info? 3).map (fun i=>(i.zero,i.size,i.bytes))=some (some (.int .i64 0),1,8):=by kernel_rfl
theorem Try.smDos:(Try.prog.info? 60).map (fun i=>(i.zero,i.size,i.bytes))=some (some (.slice none 0 0),1,24):=by kernel_rfl
theorem Try.smInts:(Try.prog.info? 25).map (fun i=>(i.zero,i.size,i.bytes))=some (some (.slice none 0 0),1,24):=by kernel_rfl
theorem Try.smBools:(Try.prog.info? 56).map (fun i=>(i.zero,i.size,i.bytes))=some (some (.slice none 0 0),1,24):=by kernel_rfl
theorem wpList_app1 {P:Program} {ops:Array Oper} {rest:List Oper} {o:Oper} {a:Act} {w:World} {Q:Exit→Act→World→Prop} (hgd:o.guard=none) (s x:Operand) (t:TypeId)
  (ho:o.op=.call { callee:=.builtin .append,args:=#[s,x],argTypes:=#[t,t] }) (d:Option Tmp) (hd:o.dst=d) (base:Nat) (e:TypeId) (i:TypeInfo) (z:Value) (bytes:Nat) (ht:P.underlying t=some (.slice e)) (hi:P.info? e=some i) (hz:i.zero=some z)
  (hsize:i.size=1) (hby:i.bytes=bytes) (hzs:z.cells.size=1)
  (v:Value) (n:Nat) (xs:List Value) (hs:a.eval s=v) (hown:w.ownsRow base e 1 v n xs)
  (G c:Nat) (u:Value) (hx:a.eval x=.slice (some ⟨G,0,none⟩) 1 c) (hc:w.cell? ⟨G,0,none⟩=some u) (h1:u.oneCell'=true)
  (h63:n+1≤maxLen) (hbytes:(n+1) * bytes≤140737488355328) (hbase:base≤w.heap.size)
  (h:∀ v' w',w'.ownsRow base e 1 v' (n+1) (xs++[u])→w.grownBy w' v.ownBlock→(v'.ownBlock=v.ownBlock∨v'.ownBlock=some w.heap.size)→wpList P ops Q rest (a.put d v') w'):wpList P ops Q (o::rest) a w :=
 wpList_plain hgd fun K hK=>by
  subst hd
  obtain ⟨v',w',hrun,h2,h3,_,h5⟩:=run_append_own_at (P:=P) w base t o.type e i z 1 bytes ht hi hz hsize hby hzs (by omega) v n xs hown ⟨G,0,none⟩ 1 c [u] rfl (fun j y hj=>by
   rw [Go.WideShapes.add_plain]
   match j,hj with
   | 0,hj=>obtain rfl:=Option.some.inj hj;exact hc
   | j+1,hj=>simp at hj) (fun y hy=>by rw [List.mem_singleton.1 hy];exact h1) h63 hbytes hbase
  have hk:=hK _ _ (h v' w' h2 h3 h5)
  unfold Oper.wp
  simp [execOp,ho,resolve,invoke,builtin,hs,hx,hrun,Result.andThen]
  exact hk
def setN (N:Nat→Nat) (k m:Nat):Nat→Nat:=fun j=>if j=k then m else N j
theorem SMN.grow {w w3:World} {base X:Nat} {a:Option Addr} {n c:Nat} {ok:Rid→Prop} {N:Nat→Nat} {us vs:Rid→Value} {s:M.St} (h:SMN w base X a n c ok N us vs s) {k m:Nat} (hk:1≤k∧k≤5) (hok:ok (.top k)) (hg:w.grownBy w3 (vs (.top k)).ownBlock) {v3 u:Value}
  (ho:w3.ownsRow base (s.rw_ n N us (.top k)).e 1 v3 (m+1) ((s.rw_ n N us (.top k)).xs++[u])) (hm:N k=m)
  (hu:(s.rw_ n (setN N k (m+1)) us (.top k)).xs=(s.rw_ n N us (.top k)).xs++[u]) (hat:v3.ownBlock=(vs (.top k)).ownBlock∨∀ k,v3.ownBlock=some k→w.heap.size≤k) :
  SMN (w3.setCell ⟨X,k,none⟩ v3) base X a n c ok (setN N k (m+1)) (setR us (.top k) v3) (setR vs (.top k) v3) s:=by
 have hpar:(s.rw_ n (setN N k (m+1)) us (.top k)).e=(s.rw_ n N us (.top k)).e∧(s.rw_ n (setN N k (m+1)) us (.top k)).k=1∧(s.rw_ n (setN N k (m+1)) us (.top k)).n=m+1:=by
  obtain ⟨h1,h5⟩:=hk
  match k,h1,h5 with
  | 1,_,_=>exact ⟨rfl,rfl,rfl⟩
  | 2,_,_=>exact ⟨rfl,rfl,rfl⟩
  | 3,_,_=>exact ⟨rfl,rfl,rfl⟩
  | 4,_,_=>exact ⟨rfl,rfl,rfl⟩
  | 5,_,_=>exact ⟨rfl,rfl,rfl⟩
 have h1:=h.put (r0:=.top k) (N':=setN N k (m+1)) (us':=us) (s':=s) hok hg (v':=v3) (by rw [hpar.1,hpar.2.1,hpar.2.2,hu];exact ho) hat (fun r _ hne=>by
  have e:∀ j,(.top j)≠(Rid.top k)→setN N k (m+1) j=N j:=fun j hj=>if_neg (fun e=>hj (by rw [e]))
  unfold M.St.rw_
  split<;>first | rfl | (rw [e _ hne])) (fun _=>rfl)
 exact h1.box_set k ⟨hk.1,by omega⟩ v3
theorem SMN.growS {w w3:World} {base X:Nat} {a:Option Addr} {n c:Nat} {ok:Rid→Prop} {N:Nat→Nat} {us vs:Rid→Value} {s:M.St} (h:SMN w base X a n c ok N us vs s) {k m E:Nat} (hE:w.heap.size=E) (hk:k=2∨k=3∨k=5) (hok:ok (.top k)) (hno:¬ ok (.sub k m)) {e:TypeId} {o:Obj}
  (he:(s.rw_ n N us (.sub k m)).e=e) (hn0:(s.rw_ n N us (.sub k m)).n=0) (hx0:(s.rw_ n N us (.sub k m)).xs=[]) (hg:((w.alloc (.cells #[] e)).alloc o).grownBy w3 (vs (.top k)).ownBlock) {v3:Value}
  (ho:w3.ownsRow base (s.rw_ n N us (.top k)).e 1 v3 (m+1) ((s.rw_ n N us (.top k)).xs++[.slice (some ⟨E,0,none⟩) 0 0])) (hm:N k=m)
  (hat:v3.ownBlock=(vs (.top k)).ownBlock∨∀ k,v3.ownBlock=some k→E+2≤k) :
  SMN (w3.setCell ⟨X,k,none⟩ v3) base X a n c (fun r=>r=.sub k m∨ok r) (setN N k (m+1)) (setR (setR us (.sub k m) (.slice (some ⟨E,0,none⟩) 0 0)) (.top k) v3) (setR (setR vs (.sub k m) (.slice (some ⟨E,0,none⟩) 0 0)) (.top k) v3) s:=by
 have hb:base≤w.heap.size:=Nat.le_trans h.bX (Nat.le_of_lt h.lt)
 subst hE
 have h1:=h.add (r0:=.sub k m) hno (below1 w (.cells #[] e)) (v':=.slice (some ⟨w.heap.size,0,none⟩) 0 0) (by
  rw [hn0,hx0,he]
  exact ⟨by simp,.inr ⟨_,0,#[],rfl,hb,heap_alloc_new w _,Nat.le_refl _,Nat.zero_le _,by simp,by simp⟩⟩) (fun k hk=>by simp [Value.ownBlock] at hk;omega)
 have h2:=h1.below (below1 _ o)
 have e1:∀ r,r≠.top k→s.rw_ n N (setR us (.sub k m) (.slice (some ⟨w.heap.size,0,none⟩) 0 0)) r=s.rw_ n N us r:=fun r hne=>by
  have:∀ k' i',(Rid.top k')≠.top k→setR us (.sub k m) (.slice (some ⟨w.heap.size,0,none⟩) 0 0) (.sub k' i')=us (.sub k' i'):=fun k' i' hkk=>setR_ne _ _ (by intro e;exact hkk (by injection e with e1 _;rw [e1]))
  unfold M.St.rw_
  split<;>first | rfl | (congr 1;apply List.map_congr_left;intro j _;exact this _ _ hne)
 have e2:s.rw_ n N (setR us (.sub k m) (.slice (some ⟨w.heap.size,0,none⟩) 0 0)) (.top k)=s.rw_ n N us (.top k):=by
  have:∀ i',i' < m→setR us (.sub k m) (.slice (some ⟨w.heap.size,0,none⟩) 0 0) (.sub k i')=us (.sub k i'):=fun i' hi=>setR_ne _ _ (by intro e;injection e with _ e1;omega)
  rcases hk with rfl | rfl | rfl<;>(simp only [M.St.rw_,hm];refine congrArg (Rw.mk _ 1 m) (List.map_congr_left fun j hj=>this j (List.mem_range.1 hj)))
 have h3:SMN ((w.alloc (.cells #[] e)).alloc o) base X a n c (fun r=>r=.sub k m∨ok r) N (setR us (.sub k m) (.slice (some ⟨w.heap.size,0,none⟩) 0 0)) (setR vs (.sub k m) (.slice (some ⟨w.heap.size,0,none⟩) 0 0)) s:=by
  refine ⟨?_,fun r hr=>?_,h2.ap,h2.bX⟩
  ·have ne:∀ j,setR us (.sub k m) (.slice (some ⟨w.heap.size,0,none⟩) 0 0) (.top j)=us (.top j):=fun j=>setR_ne _ _ (by simp)
   simp only [ne]
   exact h2.box
  ·have:s.rw_ n N (setR us (.sub k m) (.slice (some ⟨w.heap.size,0,none⟩) 0 0)) r=s.rw_ n N us r:=by
    by_cases hr0:r=.top k
    ·rw [hr0];exact e2
    ·exact e1 r hr0
   rw [this]
   exact h2.own r hr
 have hvt:setR vs (.sub k m) (.slice (some ⟨w.heap.size,0,none⟩) 0 0) (.top k)=vs (.top k):=setR_ne _ _ (by simp)
 refine h3.grow (k:=k) (m:=m) (u:=.slice (some ⟨w.heap.size,0,none⟩) 0 0) (by rcases hk with rfl | rfl | rfl<;>exact ⟨by omega,by omega⟩) (Or.inr hok) (by rw [hvt];exact hg) (by rw [e2];exact ho) hm ?_ (by
  rw [hvt]
  rcases hat with e | e
  ·exact Or.inl e
  ·exact Or.inr (fun j hj=>by have:=e j hj;simp;omega))
 have hs:setR us (.sub k m) (.slice (some ⟨w.heap.size,0,none⟩) 0 0) (.sub k m)=.slice (some ⟨w.heap.size,0,none⟩) 0 0:=setR_same _ _ _
 rcases hk with rfl | rfl | rfl<;>simp [M.St.rw_,setN,hm,List.range_succ,hs]
theorem SMN.sub_ok {w:World} {base X:Nat} {a:Option Addr} {n c:Nat} {ok ok':Rid→Prop} {N N':Nat→Nat} {us vs:Rid→Value} {s:M.St} (h:SMN w base X a n c ok N us vs s) (hok:∀ r,ok' r→ok r) (hN:∀ k,1≤k→k≤5→N' k=N k):SMN w base X a n c ok' N' us vs s :=
 ⟨h.box,fun r hr=>by
  have:s.rw_ n N' us r=s.rw_ n N us r:=by
   unfold M.St.rw_
   split<;>first | rfl | (rw [hN _ (by omega) (by omega)])
  rw [this]
  exact h.own r (hok r hr),fun r r' h1 h2=>h.ap r r' (hok r h1) (hok r' h2),h.bX⟩
theorem SMN.boxAt {w w1 w':World} {base X:Nat} {a:Option Addr} {n c:Nat} {ok:Rid→Prop} {N:Nat→Nat} {us vs:Rid→Value} {s:M.St} (h:SMN w base X a n c ok N us vs s) (hb:Below w.heap.size w w1) {r:Rid} (hr:ok r) (hg:w1.grownBy w' (vs r).ownBlock):(∀ j,w'.cell? ⟨X,j,none⟩=(#[.slice a n c,us (.top 1),us (.top 2),us (.top 3),us (.top 4),us (.top 5),us (.top 6)]:Array Value)[j]?)∧∀ j,w'.frozen? ⟨X,j,none⟩=false:=by
 have hX:w'.heap[X]?=w.heap[X]?:=(hg.block X (Nat.lt_of_lt_of_le h.lt hb.size) (fun e=>h.offX hr e.symm)).trans (hb.block X h.lt)
 exact ⟨fun j=>(World.cell?_of_block (a:=⟨X,j,none⟩) hX).trans (h.cel j),fun j=>(World.frozen?_of_block (a:=⟨X,j,none⟩) hX).trans (h.fz j)⟩
theorem SMN.low {w:World} {base base' X:Nat} {a:Option Addr} {n c:Nat} {ok:Rid→Prop} {N:Nat→Nat} {us vs:Rid→Value} {s:M.St} (h:SMN w base X a n c ok N us vs s) (hb:base'≤base):SMN w base' X a n c ok N us vs s :=
 ⟨h.box,fun r hr=>by
  obtain ⟨h1,h2⟩:=h.own r hr
  exact ⟨h1,h2.elim Or.inl (fun ⟨g,cap,cur,x,y,z⟩=>Or.inr ⟨g,cap,cur,x,Nat.le_trans hb y,z⟩)⟩,h.ap,Nat.le_trans hb h.bX⟩
theorem M.st0_t (i:Nat):M.st0.t i=M.th0:=by
 match i with
 | 0=>rfl
 | 1=>rfl
 | 2=>rfl
 | i+3=>rfl
end
section
open Go.RowKit
theorem cell_two {A:World} {E:Nat} (hE:A.heap.size=E) (o:Obj) (u:Value) (t:TypeId):((A.alloc o).alloc (.cells #[u] t)).cell? ⟨E+1,0,none⟩=some u:=by
 subst hE
 rw [cell_of_row _ _ _ _ _ _ (heap_alloc2_new A _ _)]
 rfl
theorem cell_one {A:World} {E:Nat} (hE:A.heap.size=E) (u:Value) (t:TypeId):(A.alloc (.cells #[u] t)).cell? ⟨E,0,none⟩=some u:=by
 subst hE
 rw [cell_of_row _ _ _ _ _ _ (heap_alloc_new A _)]
 rfl
theorem okN_step {m:Nat} {r:Rid} (h:okN (m+1) r):r=.sub 5 m∨r=.sub 3 m∨r=.sub 2 m∨okN m r:=by
 match r,h with
 | .top k,h=>exact Or.inr (Or.inr (Or.inr h))
 | .sub k i,⟨hk,hi⟩ =>
  by_cases e:i=m
  ·subst e
   rcases hk with rfl | rfl | rfl
   ·exact Or.inr (Or.inr (Or.inl rfl))
   ·exact Or.inr (Or.inl rfl)
   ·exact Or.inl rfl
  ·exact Or.inr (Or.inr (Or.inr ⟨hk,by omega⟩))
theorem SMN.bel {A A' w3 W0:World} {base X:Nat} {a:Option Addr} {n c:Nat} {ok:Rid→Prop} {N:Nat→Nat} {us vs:Rid→Value} {s:M.St} (h:SMN A base X a n c ok N us vs s) (hb:Below base W0 A) (hbel:Below A.heap.size A A') {r:Rid} (hr:ok r) (hg:A'.grownBy w3 (vs r).ownBlock) (j:Nat) (v:Value):Below base W0 (w3.setCell ⟨X,j,none⟩ v) :=
 (below_grown (hb.trans (hbel.mono (Nat.le_trans h.bX (Nat.le_of_lt h.lt)))) hg (fun k hk=>((h.own r hr).lt k hk).1) (Nat.le_trans (Nat.le_trans h.bX (Nat.le_of_lt h.lt)) hbel.size)).setCell (by show base≤X;exact h.bX) _
theorem gr_then {w w1 w3:World} {row:Option Nat} (hb:Below w.heap.size w w1) (hg:w1.grownBy w3 row):w.grownBy w3 row :=
 ⟨hg.os.trans hb.os,hg.tape.trans hb.tape,hg.output.trans hb.output,Nat.le_trans hb.size hg.size,fun k hk hne=>(hg.block k (Nat.lt_of_lt_of_le hk hb.size) hne).trans (hb.block k hk)⟩
theorem hat_of {v':Value} {row:Option Nat} {B E:Nat} (h:v'.ownBlock=row∨v'.ownBlock=some E) (hE:B≤E):v'.ownBlock=row∨∀ k,v'.ownBlock=some k→B≤k :=
 h.elim Or.inl (fun e=>Or.inr (fun k hk=>by rw [e] at hk;have:=Option.some.inj hk;omega))
def us0 (v:Value):Rid→Value:=fun r=>if r=.top 6 then v else .slice none 0 0
theorem SMN.zero {W:World} {base K:Nat} {a:Option Addr} {n c:Nat} (hb:base≤K) (hrow:W.heap[K]?=some (.cells (madeCells #[.int .i64 0] 3) 3 (0,0))) (hbox:W.heap[K+1]?=some (.cells #[.slice a n c,.slice none 0 0,.slice none 0 0,.slice none 0 0,.slice none 0 0,.slice none 0 0,.slice (some ⟨K,0,none⟩) 3 3] 59 (0,0))) :
  SMN W base (K+1) a n c (okN 0) (fun _=>0) (us0 (.slice (some ⟨K,0,none⟩) 3 3)) (us0 (.slice (some ⟨K,0,none⟩) 3 3)) M.st0:=by
 have e:∀ r,r≠.top 6→us0 (.slice (some ⟨K,0,none⟩) 3 3) r=.slice none 0 0:=fun r h=>if_neg h
 refine ⟨?_,fun r hr=>?_,fun r r' h1 h2 hne=>?_,by omega⟩
 ·rw [e (.top 1) (by simp),e (.top 2) (by simp),e (.top 3) (by simp),e (.top 4) (by simp),e (.top 5) (by simp)]
  exact hbox
 ·match r,hr with
  | .top 1,_=>rw [e _ (by simp)];exact World.ownsRow_nil _ _ _ _
  | .top 2,_=>rw [e _ (by simp)];exact World.ownsRow_nil _ _ _ _
  | .top 3,_=>rw [e _ (by simp)];exact World.ownsRow_nil _ _ _ _
  | .top 4,_=>rw [e _ (by simp)];exact World.ownsRow_nil _ _ _ _
  | .top 5,_=>rw [e _ (by simp)];exact World.ownsRow_nil _ _ _ _
  | .top 6,_=>exact ⟨rfl,.inr ⟨K,3,_,rfl,hb,hrow,Nat.le_refl _,by unfold maxLen;omega,(by show (madeCells #[.int .i64 0] 3).size=3 * 1;simp [madeCells]),by
   show List.take (3 * 1) (madeCells #[.int .i64 0] 3).toList=nums [0,0,0]
   rw [toList_madeCells_one]
   rfl⟩⟩
  | .sub k i,hr=>exact absurd hr.2 (Nat.not_lt_zero _)
 ·by_cases h6:r=.top 6
  ·subst h6
   rw [e r' (fun e=>hne e.symm)]
   exact fun k _ e=>by cases e
  ·rw [e r h6]
   exact fun k hk=>by cases hk
set_option maxHeartbeats 2000000 in
set_option maxRecDepth 100000 in
theorem snew_any (a:Option Addr) (n c:Nat) (w:World) (hn:n≤3) :
  Calls Try.prog 29 #[.agg #[.slice a n c]] w fun e w'=>∃ X,e=.returned (.pointer (some ⟨X,0,none⟩))∧SME w' w.heap.size X a n c M.st0∧Below w.heap.size w w':=by
 have hmk:∀ w:World,(Instr.makeSlice 25 (.int .i64 3) (.int .i64 3)).run Try.prog w=.ok (.slice (some ⟨w.heap.size,0,none⟩) 3 3) (w.alloc (.cells (madeCells #[.int .i64 0] 3) 3)):=run_make_row' (P:=Try.prog) 25 3 (.int .i64 0) 8 Try.underlying25 (by kernel_rfl) rfl .i64 .i64 3 (by omega) (by omega)
 obtain ⟨i1,hI1,hz1,hs1,hy1⟩:=info_parts Try.smIntN
 obtain ⟨i2,hI2,hz2,hs2,hy2⟩:=info_parts Try.smDos
 obtain ⟨i3,hI3,hz3,hs3,hy3⟩:=info_parts Try.smInts
 obtain ⟨i4,hI4,hz4,hs4,hy4⟩:=info_parts Try.smBool
 obtain ⟨i5,hI5,hz5,hs5,hy5⟩:=info_parts Try.smBools
 go_enter Try.func29,Try.ntmps29
 go_wp2_with fail
 have k0:(w.alloc (.cells #[.slice a n c] 33)).cell? ⟨w.heap.size,0,none⟩=some (.slice a n c):=by simp
 have hb0:=below1 w (.cells #[.slice a n c] 33)
 have lK0:w.heap.size < (w.alloc (.cells #[.slice a n c] 33)).heap.size:=by simp
 generalize w.alloc (.cells #[.slice a n c] 33)=W0 at *
 go_region
 have hW1:SMN (((W0.alloc (.cells (madeCells #[.int .i64 0] 3) 3)).alloc (.cells #[.slice a n c,.slice none 0 0,.slice none 0 0,.slice none 0 0,.slice none 0 0,.slice none 0 0,.slice (some ⟨W0.heap.size,0,none⟩) 3 3] 59)).drew) W0.heap.size (W0.heap.size+1) a n c (okN 0) (fun _=>0) (us0 (.slice (some ⟨W0.heap.size,0,none⟩) 3 3)) (us0 (.slice (some ⟨W0.heap.size,0,none⟩) 3 3)) M.st0 :=
  SMN.zero (Nat.le_refl _) ((heap_alloc_old (W0.alloc (.cells (madeCells #[.int .i64 0] 3) 3)) _ (show W0.heap.size < _ by simp)).trans (heap_alloc_new W0 _)) (heap_alloc2_new W0 _ _)
 have hb1:Below W0.heap.size W0 (((W0.alloc (.cells (madeCells #[.int .i64 0] 3) 3)).alloc (.cells #[.slice a n c,.slice none 0 0,.slice none 0 0,.slice none 0 0,.slice none 0 0,.slice none 0 0,.slice (some ⟨W0.heap.size,0,none⟩) 3 3] 59)).drew):=(below2 _ _ _).trans ((Below.refl _ _).drew)
 clear hmk
 generalize (((W0.alloc (.cells (madeCells #[.int .i64 0] 3) 3)).alloc (.cells #[.slice a n c,.slice none 0 0,.slice none 0 0,.slice none 0 0,.slice none 0 0,.slice none 0 0,.slice (some ⟨W0.heap.size,0,none⟩) 3 3] 59)).drew)=W1 at *
 go_wp2_with fail
 obtain ⟨X,hX⟩:∃ X,W0.heap.size+1=X:=⟨_,rfl⟩
 have HX:Hid (W0.heap.size+1=X):=hX
 rw [hX] at hW1 ⊢
 clear hX
 go_loopw [4] (fun s4 wr=>∃ (m:Nat) (vs:Rid→Value),s4=.int .i64 m∧m≤n∧SMN wr W0.heap.size X a n c (okN m) (fun _=>m) vs vs M.st0∧Below W0.heap.size W0 wr) (fun s4 _=>n - (intOf s4).toNat)
 case atStart=>exact ⟨0,_,rfl,by omega,hW1,hb1⟩
 case round =>
  obtain ⟨m,vs,rfl,hm,h0,hbm⟩:=hrel
  clear hW1 hb1
  have k0r:=(hbm.cell (p:=⟨w.heap.size,0,none⟩) lK0).trans k0
  by_cases hlt:m < n
  ·have im:(m:Int) < n:=by omega
   have e01:wr.cell? ⟨X,1,none⟩=some (vs (.top 1)):=h0.cel 1
   have b0:=hbm
   go_wp2_with (first | (refine wpList_app1 rfl (.tmp 58) (.tmp 60) 57 rfl (some 61) rfl W0.heap.size 56 i5 _ 24 Try.underlying57 hI5 hz5 hs5 hy5 rfl (vs4 (.top 5)) m _ (by rfl) (ownsRow_below (h4.own (.top 5) (Or.inr (Or.inr (show okN m (.top 5) from ⟨by omega,by omega⟩)))) (below2 _ _ _)) _ 1 (.slice (some ⟨w4.heap.size,0,none⟩) 0 0) (by rfl) (cell_two (by simp) _ _ _) rfl (by unfold maxLen;omega) (by omega) (by have:=h4.bX;have:=h4.lt;simp at this ⊢;omega) ?_;intro v5 w5 ho5 hg5 ha5;obtain ⟨a5,c5,rfl,_⟩:=own_sl ho5;obtain ⟨x5,y5⟩:=h4.boxAt (below2 _ _ _) (Or.inr (Or.inr (show okN m (.top 5) from ⟨by omega,by omega⟩))) hg5;have e55:w5.cell? ⟨X,5,none⟩=some (vs4 (.top 5)):=x5 5;have z5:=y5 5;have b5:=h4.bel b4 (below2 _ _ _) (Or.inr (Or.inr (show okN m (.top 5) from ⟨by omega,by omega⟩))) hg5 5 (.slice a5 (m+1) c5);have h5:=h4.growS (k:=5) (m:=m) (E:=w4.heap.size) (by simp) (Or.inr (Or.inr rfl)) (Or.inr (Or.inr (show okN m (.top 5) from ⟨by omega,by omega⟩))) (fun h=>h.elim (fun e=>(by simp at e)) (fun h=>h.elim (fun e=>(by simp at e)) (fun h=>absurd h.2 (Nat.lt_irrefl m)))) rfl (by show _=0;simp [M.St.rw_,M.st0_t,M.th0,M.Th.wt]) (by simp [M.St.rw_,M.st0_t,M.th0,M.Th.wt]) hg5 ho5 rfl (hat_of ha5 (by simp));generalize setR (setR vs4 (.sub 5 m) (.slice (some ⟨w4.heap.size,0,none⟩) 0 0)) (.top 5) (.slice a5 (m+1) c5)=vs5 at *;clear ho5 hg5 ha5 x5 y5) | (refine wpList_app1 rfl (.tmp 49) (.tmp 50) 56 rfl (some 51) rfl W0.heap.size 4 i4 _ 1 Try.underlying56 hI4 hz4 hs4 hy4 rfl (vs3 (.top 4)) m _ (by rfl) (ownsRow_below (h3.own (.top 4) (Or.inr (Or.inr (show okN m (.top 4) from ⟨by omega,by omega⟩)))) (below1 _ _)) _ 1 (.bool false) (by rfl) (cell_one (by first | rfl | simp) _ _) rfl (by unfold maxLen;omega) (by omega) (by have:=h3.bX;have:=h3.lt;simp at this ⊢;omega) ?_;intro v4 w4 ho4 hg4 ha4;obtain ⟨a4,c4,rfl,_⟩:=own_sl ho4;obtain ⟨x4,y4⟩:=h3.boxAt (below1 _ _) (Or.inr (Or.inr (show okN m (.top 4) from ⟨by omega,by omega⟩))) hg4;have e44:w4.cell? ⟨X,4,none⟩=some (vs3 (.top 4)):=x4 4;have e45:w4.cell? ⟨X,5,none⟩=some ((setR vs3 (.top 4) (.slice a4 (m+1) c4)) (.top 5)):=(x4 5).trans (by rw [setR_ne _ _ (by simp)];rfl);have z4:=y4 4;have z45:=y4 5;have b4:=h3.bel b3 (below1 _ _) (Or.inr (Or.inr (show okN m (.top 4) from ⟨by omega,by omega⟩))) hg4 4 (.slice a4 (m+1) c4);have h4:=h3.grow (k:=4) (m:=m) (u:=.bool false) ⟨by omega,by omega⟩ (Or.inr (Or.inr (show okN m (.top 4) from ⟨by omega,by omega⟩))) (gr_then (below1 _ _) hg4) ho4 rfl (by simp [M.St.rw_,setN,List.range_succ,M.st0_t,M.th0]) (hat_of ha4 (by simp));generalize setR vs3 (.top 4) (.slice a4 (m+1) c4)=vs4 at *;clear ho4 hg4 ha4 x4 y4) | (refine wpList_app1 rfl (.tmp 39) (.tmp 41) 55 rfl (some 42) rfl W0.heap.size 25 i3 _ 24 Try.underlying55 hI3 hz3 hs3 hy3 rfl (vs2 (.top 3)) m _ (by rfl) (ownsRow_below (h2.own (.top 3) (Or.inr (show okN m (.top 3) from ⟨by omega,by omega⟩))) (below2 _ _ _)) _ 1 (.slice (some ⟨w2.heap.size,0,none⟩) 0 0) (by rfl) (cell_two (by simp) _ _ _) rfl (by unfold maxLen;omega) (by omega) (by have:=h2.bX;have:=h2.lt;simp at this ⊢;omega) ?_;intro v3 w3 ho3 hg3 ha3;obtain ⟨a3,c3,rfl,_⟩:=own_sl ho3;obtain ⟨x3,y3⟩:=h2.boxAt (below2 _ _ _) (Or.inr (show okN m (.top 3) from ⟨by omega,by omega⟩)) hg3;have e33:w3.cell? ⟨X,3,none⟩=some (vs2 (.top 3)):=x3 3;have e34:w3.cell? ⟨X,4,none⟩=some ((setR (setR vs2 (.sub 3 m) (.slice (some ⟨w2.heap.size,0,none⟩) 0 0)) (.top 3) (.slice a3 (m+1) c3)) (.top 4)):=(x3 4).trans (by rw [setR_ne _ _ (by simp),setR_ne _ _ (by simp)];rfl);have e35:w3.cell? ⟨X,5,none⟩=some ((setR (setR vs2 (.sub 3 m) (.slice (some ⟨w2.heap.size,0,none⟩) 0 0)) (.top 3) (.slice a3 (m+1) c3)) (.top 5)):=(x3 5).trans (by rw [setR_ne _ _ (by simp),setR_ne _ _ (by simp)];rfl);have z3:=y3 3;have z34:=y3 4;have z35:=y3 5;have b3:=h2.bel b2 (below2 _ _ _) (Or.inr (show okN m (.top 3) from ⟨by omega,by omega⟩)) hg3 3 (.slice a3 (m+1) c3);have h3:=h2.growS (k:=3) (m:=m) (E:=w2.heap.size) (by simp) (Or.inr (Or.inl rfl)) (Or.inr (show okN m (.top 3) from ⟨by omega,by omega⟩)) (fun h=>h.elim (fun e=>(by simp at e)) (fun h=>absurd h.2 (Nat.lt_irrefl m))) rfl (by show _=0;simp [M.St.rw_,M.st0_t,M.th0]) (by simp [M.St.rw_,M.st0_t,M.th0,nums]) hg3 ho3 rfl (hat_of ha3 (by simp));generalize setR (setR vs2 (.sub 3 m) (.slice (some ⟨w2.heap.size,0,none⟩) 0 0)) (.top 3) (.slice a3 (m+1) c3)=vs3 at *;clear ho3 hg3 ha3 x3 y3) | (refine wpList_app1 rfl (.tmp 29) (.tmp 31) 31 rfl (some 32) rfl W0.heap.size 60 i2 _ 24 Try.underlying31 hI2 hz2 hs2 hy2 rfl (vs1 (.top 2)) m _ (by rfl) (ownsRow_below (h1.own (.top 2) (show okN m (.top 2) from ⟨by omega,by omega⟩)) (below2 _ _ _)) _ 1 (.slice (some ⟨w1.heap.size,0,none⟩) 0 0) (by rfl) (cell_two (by simp) _ _ _) rfl (by unfold maxLen;omega) (by omega) (by have:=h1.bX;have:=h1.lt;simp at this ⊢;omega) ?_;intro v2 w2 ho2 hg2 ha2;obtain ⟨a2,c2,rfl,_⟩:=own_sl ho2;obtain ⟨x2,y2⟩:=h1.boxAt (below2 _ _ _) (show okN m (.top 2) from ⟨by omega,by omega⟩) hg2;have e22:w2.cell? ⟨X,2,none⟩=some (vs1 (.top 2)):=x2 2;have e23:w2.cell? ⟨X,3,none⟩=some ((setR (setR vs1 (.sub 2 m) (.slice (some ⟨w1.heap.size,0,none⟩) 0 0)) (.top 2) (.slice a2 (m+1) c2)) (.top 3)):=(x2 3).trans (by rw [setR_ne _ _ (by simp),setR_ne _ _ (by simp)];rfl);have e24:w2.cell? ⟨X,4,none⟩=some ((setR (setR vs1 (.sub 2 m) (.slice (some ⟨w1.heap.size,0,none⟩) 0 0)) (.top 2) (.slice a2 (m+1) c2)) (.top 4)):=(x2 4).trans (by rw [setR_ne _ _ (by simp),setR_ne _ _ (by simp)];rfl);have e25:w2.cell? ⟨X,5,none⟩=some ((setR (setR vs1 (.sub 2 m) (.slice (some ⟨w1.heap.size,0,none⟩) 0 0)) (.top 2) (.slice a2 (m+1) c2)) (.top 5)):=(x2 5).trans (by rw [setR_ne _ _ (by simp),setR_ne _ _ (by simp)];rfl);have z2:=y2 2;have z23:=y2 3;have z24:=y2 4;have z25:=y2 5;have b2:=h1.bel b1 (below2 _ _ _) (show okN m (.top 2) from ⟨by omega,by omega⟩) hg2 2 (.slice a2 (m+1) c2);have h2:=h1.growS (k:=2) (m:=m) (E:=w1.heap.size) (by simp) (Or.inl rfl) (show okN m (.top 2) from ⟨by omega,by omega⟩) (fun h=>absurd h.2 (Nat.lt_irrefl m)) rfl (by show _=0;simp [M.St.rw_,M.st0_t,M.th0]) (by simp [M.St.rw_,M.st0_t,M.th0,flatQ]) hg2 ho2 rfl (hat_of ha2 (by simp));generalize setR (setR vs1 (.sub 2 m) (.slice (some ⟨w1.heap.size,0,none⟩) 0 0)) (.top 2) (.slice a2 (m+1) c2)=vs2 at *;clear ho2 hg2 ha2 x2 y2) | (refine wpList_app1 rfl (.tmp 20) (.tmp 21) 25 rfl (some 22) rfl W0.heap.size 3 i1 _ 8 Try.underlying25 hI1 hz1 hs1 hy1 rfl (vs (.top 1)) m _ (by rfl) (ownsRow_below (h0.own (.top 1) (show okN m (.top 1) from ⟨by omega,by omega⟩)) (below1 _ _)) _ 1 (.int .i64 0) (by rfl) (cell_one (by first | rfl | simp) _ _) rfl (by unfold maxLen;omega) (by omega) (by have:=h0.bX;have:=h0.lt;simp at this ⊢;omega) ?_;intro v1 w1 ho1 hg1 ha1;obtain ⟨a1,c1,rfl,_⟩:=own_sl ho1;obtain ⟨x1,y1⟩:=h0.boxAt (below1 _ _) (show okN m (.top 1) from ⟨by omega,by omega⟩) hg1;have e11:w1.cell? ⟨X,1,none⟩=some (vs (.top 1)):=x1 1;have e12:w1.cell? ⟨X,2,none⟩=some ((setR vs (.top 1) (.slice a1 (m+1) c1)) (.top 2)):=(x1 2).trans (by rw [setR_ne _ _ (by simp)];rfl);have e13:w1.cell? ⟨X,3,none⟩=some ((setR vs (.top 1) (.slice a1 (m+1) c1)) (.top 3)):=(x1 3).trans (by rw [setR_ne _ _ (by simp)];rfl);have e14:w1.cell? ⟨X,4,none⟩=some ((setR vs (.top 1) (.slice a1 (m+1) c1)) (.top 4)):=(x1 4).trans (by rw [setR_ne _ _ (by simp)];rfl);have e15:w1.cell? ⟨X,5,none⟩=some ((setR vs (.top 1) (.slice a1 (m+1) c1)) (.top 5)):=(x1 5).trans (by rw [setR_ne _ _ (by simp)];rfl);have z1:=y1 1;have z12:=y1 2;have z13:=y1 3;have z14:=y1 4;have z15:=y1 5;have b1:=h0.bel b0 (below1 _ _) (show okN m (.top 1) from ⟨by omega,by omega⟩) hg1 1 (.slice a1 (m+1) c1);have h1:=h0.grow (k:=1) (m:=m) (u:=.int .i64 0) ⟨by omega,by omega⟩ (show okN m (.top 1) from ⟨by omega,by omega⟩) (gr_then (below1 _ _) hg1) ho1 rfl (by simp [M.St.rw_,setN,List.range_succ,M.st0_t,M.th0]) (hat_of ha1 (by simp));generalize setR vs (.top 1) (.slice a1 (m+1) c1)=vs1 at *;clear ho1 hg1 ha1 x1 y1))
   exact ⟨⟨m+1,vs5,by go_num,by omega,h5.sub_ok (fun r hr=>okN_step hr) (fun k _ _=>by simp only [setN];(repeat' split)<;>omega),b5⟩,by simp [intOf];omega⟩
  ·obtain rfl:m=n:=by omega
   have im:¬ (m:Int) < m:=by omega
   go_wp2_with fail
   go_ret
   exact ⟨X,rfl,⟨vs,SMN.low h0 (Nat.le_of_lt lK0)⟩,hb0.trans (hbm.mono (Nat.le_of_lt lK0))⟩
end
section
open Go.RowKit
theorem wp_appI {P:Program} {o:Oper} {a:Act} {w:World} {K:Act→World→Prop} {Q:Exit→Act→World→Prop} (s x:Operand) (t:TypeId)
  (ho:o.op=.call { callee:=.builtin .append,args:=#[s,x],argTypes:=#[t,t] }) (d:Option Tmp) (hd:o.dst=d) (base:Nat) (e:TypeId) (i:TypeInfo) (ht:P.underlying t=some (.slice e)) (hi:P.info? e=some i) (hz0:i.zero=some (.int .i64 0)) (hz1:i.size=1) (hz2:i.bytes=8)
  (v:Value) (n:Nat) (xs:List Value) (hs:a.eval s=v) (hown:w.ownsRow base e 1 v n xs) (hbase:base≤w.heap.size) (sa:Option Addr) (b off c:Nat) (l:List Int) (hx:a.eval x=.slice sa l.length c) (hI:IntS w sa b off l) (hl:n+l.length≤1048576) (hc:sa=none→c=0)
  (h:∀ v' w',w'.ownsRow base e 1 v' (n+l.length) (xs++nums l)→w.grownBy w' v.ownBlock→(v'.ownBlock=v.ownBlock∨v'.ownBlock=some w.heap.size)→K (a.put d v') w') :
  Oper.wp P o a w K Q:=by
 subst hd
 cases sa with
 | none =>
  have hl0:l=[]:=by
   rcases Nat.eq_zero_or_pos l.length with h0 | h0
   ·exact List.length_eq_zero_iff.1 h0
   ·cases hI.addr h0
  subst hl0
  obtain ⟨rfl⟩:=hc rfl
  rw [List.length_nil] at hx
  have hrun:=run_append_owned_none (P:=P) (w:=w) base t o.type e i 1 ht hi v n xs hown
  have hk:=h v w (by simpa [nums] using hown) (gr_refl _ _) (.inl rfl)
  unfold Oper.wp
  simp [execOp,ho,resolve,invoke,builtin,hs,hx,hrun,Result.andThen]
  exact hk
 | some ad =>
  have hn:∀ j u,(nums l)[j]?=some u→w.cell? (ad.add j)=some u:=fun j u hj=>by
   have hjl:j < l.length:=by
    have:=(List.getElem?_eq_some_iff.1 hj).1
    simpa [nums] using this
   obtain ⟨rfl⟩:=hI.addr (by omega)
   rw [Go.WideShapes.add_plain,hI.row j hjl]
   simpa [nums,hjl] using hj
  obtain ⟨v',w',hrun,h2,h3,_,h5⟩:=run_append_own_at (P:=P) w base t o.type e i (.int .i64 0) 1 8 ht hi hz0 hz1 hz2 rfl (by decide) v n xs hown ad l.length c (nums l) (by simp [nums]) hn (fun u hu=>by simp [nums] at hu;obtain ⟨_,_,rfl⟩:=hu;rfl) (by unfold maxLen;omega) (by omega) hbase
  have hk:=h v' w' h2 h3 h5
  unfold Oper.wp
  simp [execOp,ho,resolve,invoke,builtin,hs,hx,hrun,Result.andThen]
  exact hk
theorem step_appI {P:Program} {ops:Array Oper} {o:Oper} {a:Act} {w:World} {K:Act→World→Prop} {Q:Exit→Act→World→Prop} {E:Prop} (hgd:o.guard=none) (s x:Operand) (t:TypeId)
  (ho:o.op=.call { callee:=.builtin .append,args:=#[s,x],argTypes:=#[t,t] }) (d:Option Tmp) (hd:o.dst=d) (base:Nat) (e:TypeId) (i:TypeInfo) (ht:P.underlying t=some (.slice e)) (hi:P.info? e=some i) (hz0:i.zero=some (.int .i64 0)) (hz1:i.size=1) (hz2:i.bytes=8)
  (v:Value) (n:Nat) (xs:List Value) (hs:a.eval s=v) (hown:w.ownsRow base e 1 v n xs) (hbase:base≤w.heap.size) (sa:Option Addr) (b off c:Nat) (l:List Int) (hx:a.eval x=.slice sa l.length c) (hI:IntS w sa b off l) (hl:n+l.length≤1048576) (hc:sa=none→c=0)
  (h:∀ v' w',w'.ownsRow base e 1 v' (n+l.length) (xs++nums l)→w.grownBy w' v.ownBlock→(v'.ownBlock=v.ownBlock∨v'.ownBlock=some w.heap.size)→K (a.put d v') w') :
  if Region.wanted o (yielded ops a.tmps)=true then Oper.wp P o a w K Q else E:=by
 have hw:Region.wanted o (yielded ops a.tmps)=true:=by simp [Region.wanted,hgd]
 rw [if_pos hw]
 exact wp_appI s x t ho d hd base e i ht hi hz0 hz1 hz2 v n xs hs hown hbase sa b off c l hx hI hl hc h
theorem wpList_appI {P:Program} {ops:Array Oper} {rest:List Oper} {o:Oper} {a:Act} {w:World} {Q:Exit→Act→World→Prop} (hgd:o.guard=none) (s x:Operand) (t:TypeId)
  (ho:o.op=.call { callee:=.builtin .append,args:=#[s,x],argTypes:=#[t,t] }) (d:Option Tmp) (hd:o.dst=d) (base:Nat) (e:TypeId) (i:TypeInfo) (ht:P.underlying t=some (.slice e)) (hi:P.info? e=some i) (hz0:i.zero=some (.int .i64 0)) (hz1:i.size=1) (hz2:i.bytes=8)
  (v:Value) (n:Nat) (xs:List Value) (hs:a.eval s=v) (hown:w.ownsRow base e 1 v n xs) (hbase:base≤w.heap.size) (sa:Option Addr) (b off c:Nat) (l:List Int) (hx:a.eval x=.slice sa l.length c) (hI:IntS w sa b off l) (hl:n+l.length≤1048576) (hc:sa=none→c=0)
  (h:∀ v' w',w'.ownsRow base e 1 v' (n+l.length) (xs++nums l)→w.grownBy w' v.ownBlock→(v'.ownBlock=v.ownBlock∨v'.ownBlock=some w.heap.size)→wpList P ops Q rest (a.put d v') w') :
  wpList P ops Q (o::rest) a w :=
 wpList_plain hgd fun _ hK=>wp_appI s x t ho d hd base e i ht hi hz0 hz1 hz2 v n xs hs hown hbase sa b off c l hx hI hl hc fun v' w' h1 h2 h3=>hK _ _ (h v' w' h1 h2 h3)
structure SsA (w wr:World) (S:Nat) (v u:Value) (acc at_:List Int):Prop where
 bel:Below w.heap.size w wr
 lS:w.heap.size < S
 res:Slot2 wr w.heap.size (.slice none 0 0) (.slice none 0 0)
 out:Slot2 wr S v u
 own:wr.ownsRow (w.heap.size+1) 3 1 v acc.length (nums acc)
 row:wr.ownsRow (w.heap.size+1) 3 1 u at_.length (nums at_)
 ap:OffB u v.ownBlock
theorem SsA.below {w wr w1:World} {S:Nat} {v u:Value} {acc at_:List Int} (h:SsA w wr S v u acc at_) (hb:Below wr.heap.size wr w1):SsA w w1 S v u acc at_ :=
 ⟨h.bel.trans (hb.mono h.bel.size),h.lS,h.res.of (hb.block _ h.res.lt),h.out.of (hb.block _ h.out.lt),ownsRow_below h.own hb,ownsRow_below h.row hb,h.ap⟩
theorem SsA.snoc {w wr w3:World} {S:Nat} {v v' u:Value} {acc acc' at_:List Int} (h:SsA w wr S v u acc at_) (hg:wr.grownBy w3 v.ownBlock) (ho:w3.ownsRow (w.heap.size+1) 3 1 v' acc'.length (nums acc')) (hat:v'.ownBlock=v.ownBlock∨v'.ownBlock=some wr.heap.size) :
  SsA w (w3.setCell ⟨S,0,none⟩ v') S v' u acc' at_:=by
 have hS:=h.out.lt
 have hge:=own_ge h.own
 have hs:=Slot2.grown h.out hg h.own
 have hr:=Slot2.grown h.res hg h.own
 have hrow:=h.ap.kept h.row hg
 refine ⟨(below_grown h.bel hg (fun k hk=>by have:=hge k hk;omega) h.bel.size).setCell (by show w.heap.size≤S;exact Nat.le_of_lt h.lS) _,h.lS,hr.far (by have:=h.lS;omega) _,hs.set0 _,own_slot ho hs _,own_slot hrow hs _,?_⟩
 rcases hat with e | e
 ·rw [e];exact h.ap
 ·rw [e];exact fun k hk e'=>by have:=(h.row.lt k hk).2;have:=Option.some.inj e';omega
def M.St.rds (s:M.St) (m:Nat):List Int:=((List.range m).map fun i=>(s.t i).vals).flatten
theorem M.acc_next {s:M.St} (m:Nat):s.rds (m+1)=s.rds m++(s.t m).vals:=by
 unfold M.St.rds
 rw [List.range_succ,List.map_append,List.flatten_append]
 simp
set_option maxHeartbeats 2000000 in
set_option maxRecDepth 100000 in
theorem sseen_any (base X:Nat) (a:Option Addr) (n c:Nat) (vs:Rid→Value) (s:M.St) (w:World) (h:SM w base X a n c vs s) (hn:n≤3) (ha:s.at_.length=3) (hv:∀ i,i < n→(s.t i).vals.length≤6) :
  Calls Try.prog 32 #[.pointer (some ⟨X,0,none⟩)] w fun e w'=>∃ (v u:Value),e=.returned (.agg #[v,u])∧w'.ownsRow w.heap.size 3 1 v (s.rds n).length (nums (s.rds n))∧w'.ownsRow w.heap.size 3 1 u s.at_.length (nums s.at_)∧Below w.heap.size w w':=by
 obtain ⟨i0,hI,hz0,hz1,hz2⟩:=info_parts Try.smIntN
 have lX:=h.lt
 have k6:=h.ck (k:=6) (by omega)
 obtain ⟨a6,g6,c6,hv6,I6,_,hc6⟩:=own_nums h.at_
 rw [hv6] at k6
 have b1:=below1 w (.cells #[.slice none 0 0,.slice none 0 0] 28)
 have b2:=below2 w (.cells #[.slice none 0 0,.slice none 0 0] 28) (.cells #[] 3)
 have R0:Slot2 ((w.alloc (.cells #[.slice none 0 0,.slice none 0 0] 28)).alloc (.cells #[] 3)) w.heap.size (.slice none 0 0) (.slice none 0 0):=⟨(heap_alloc_old (w.alloc _) _ (by simp)).trans (heap_alloc_new w _)⟩
 have h3:s.at_.length≤3:=by omega
 clear ha
 go_enter Try.func32,Try.ntmps32
 go_wp2_with (refine wpList_appI rfl (.tmp 5) (.tmp 9) 25 rfl (some 10) rfl (w.heap.size+1) 3 i0 Try.underlying25 hI hz0 hz1 hz2 (.slice (some ⟨w.heap.size+1,0,none⟩) 0 0) 0 [] (by rfl) (own_emp0 (heap_alloc2_new w _ _) (Nat.le_refl _)) (by simp) a6 g6 0 c6 s.at_ (by rfl) (I6.below b2 (Nat.le_refl _)) (by omega) hc6 ?_;intro u3 w3 ho3 hg3 ha3;have ho3':w3.ownsRow (w.heap.size+1) 3 1 u3 s.at_.length (nums s.at_):=(by simpa using ho3);obtain ⟨au,cu,rfl,_⟩:=own_sl ho3';clear ho3)
 have hbA:=below_grown b2 hg3 (fun k hk=>by simp [Value.ownBlock] at hk;omega) (by simp;omega)
 have R3:=R0.of (hg3.block w.heap.size (by simp;omega) (fun e=>by simp [Value.ownBlock] at e))
 have lw3:w.heap.size < w3.heap.size:=by have:=hg3.size;simp at this;omega
 have A0:SsA w (w3.alloc (.cells #[.slice none 0 0,.slice au s.at_.length cu] 28)) w3.heap.size (.slice none 0 0) (.slice au s.at_.length cu) [] s.at_ :=
  ⟨hbA.alloc (Nat.le_of_lt lw3) _,lw3,R3.of (heap_alloc_old w3 _ lw3),⟨heap_alloc_new w3 _⟩,World.ownsRow_nil _ _ _ _,ho3'.alloc _,fun k _ e=>by cases e⟩
 clear R0 R3 hbA hg3 ho3' ha3 b1 b2 k6
 generalize w3.alloc (.cells #[.slice none 0 0,.slice au s.at_.length cu] 28)=W4 at *
 obtain ⟨S,hS⟩:∃ S,w3.heap.size=S:=⟨_,rfl⟩
 rw [hS] at A0 ⊢
 clear hS lw3
 go_loopw [4] (fun s4 wr=>∃ (m:Nat) (v:Value) (acc:List Int),s4=.int .i64 m∧m≤n∧Hid (acc=s.rds m)∧acc.length≤6 * m∧SsA w wr S v (.slice au s.at_.length cu) acc s.at_) (fun s4 _=>n - (intOf s4).toNat)
 case atStart=>exact ⟨0,_,[],rfl,by omega,rfl,by simp,A0⟩
 case round =>
  obtain ⟨m,v,acc,rfl,hm,HA,hac,A⟩:=hrel
  clear A0
  have hM:=h.below A.bel
  by_cases hlt:m < n
  ·have im:(m:Int) < n:=by omega
   obtain ⟨g3,c3,hv3,_,_⟩:=hM.top (k:=3) (by omega) (by omega)
   have k3:=hM.ck (k:=3) (by omega)
   rw [hv3] at k3
   have kr:=hM.subAt (Or.inr (Or.inl rfl)) hv3 hlt
   obtain ⟨la,L,lc,hvl,IL,_,hcl⟩:=own_nums (hM.reads hlt)
   rw [hvl] at kr
   have h6:=hv m hlt
   have HA2:Hid (s.rds (m+1)=acc++(s.t m).vals):=by show _=_;rw [M.acc_next,HA.out]
   generalize (s.t m).vals=xs at *
   have Ad:=A.below (Below.refl _ _).drew
   have cO:=Ad.out.c0
   have fO:=Ad.out.fz
   have lO:=Ad.out.lt
   clear hv3 hvl hM HA A
   go_wp2_with fail
   go_region_law (refine step_appI rfl (.tmp 22) (.tmp 29) 25 rfl (some 30) rfl (w.heap.size+1) 3 i0 Try.underlying25 hI hz0 hz1 hz2 v acc.length (nums acc) (by rfl) Ad.own (by have:=Ad.lS;omega) la L 0 lc xs (by rfl) (IL.below (Below.refl _ _).drew (Nat.le_refl _)) (by omega) hcl ?_;intro v3 w3 ho3 hg3 ha3;have ho3':w3.ownsRow (w.heap.size+1) 3 1 v3 (acc++xs).length (nums (acc++xs)):=(by rw [List.length_append];simpa [nums] using ho3);have A4:=Ad.snoc hg3 ho3' ha3;obtain ⟨a3,c9,rfl,_⟩:=own_sl ho3';have so3:=Slot2.grown Ad.out hg3 Ad.own;have cS3:=so3.c0;have fS3:=so3.fz;clear ho3 ho3' hg3 ha3 so3)
   all_goals
    go_wp2_with fail
    rw [List.length_append] at A4
    exact ⟨⟨m+1,_,acc++xs,by go_num,by omega,by show _=_;rw [HA2.out],by rw [List.length_append];omega,A4⟩,by simp [intOf];omega⟩
  ·obtain rfl:m=n:=by omega
   have im:¬ (m:Int) < m:=by omega
   obtain ⟨va,vc,rfl,_⟩:=own_sl A.own
   have k3:=hM.ck (k:=3) (by omega)
   obtain ⟨ta,tc,hv3,_⟩:=own_sl (show World.ownsRow _ base 25 1 (vs (.top 3)) m _ from SM.own hM (r:=.top 3) ⟨by omega,by omega⟩)
   rw [hv3] at k3
   have c0:=A.out.c0
   have c1:=A.out.c1
   have fS:=A.out.fz
   have y0:=A.res.c0
   have y1:=A.res.c1
   have yf:=A.res.fz
   have lS:=A.lS
   have R1:=A.res.set0 (.slice va acc.length vc)
   have R2:=R1.set1 (.slice au s.at_.length cu)
   have V:=own_slot (i:=1) (own_slot (i:=0) A.own A.res (.slice va acc.length vc)) R1 (.slice au s.at_.length cu)
   have U:=own_slot (i:=1) (own_slot (i:=0) A.row A.res (.slice va acc.length vc)) R1 (.slice au s.at_.length cu)
   have hbE:=(A.bel.setCell (p:=⟨w.heap.size,0,none⟩) (Nat.le_refl _) (.slice va acc.length vc)).setCell (p:=⟨w.heap.size,1,none⟩) (Nat.le_refl _) (.slice au s.at_.length cu)
   go_wp2_with fail
   refine bodyPost_ret (v:=.agg #[.slice va acc.length vc,.slice au s.at_.length cu]) (by simp [results,Try.results32,go_sem,R2.c0,R2.c1]) rfl ⟨_,_,rfl,?_,?_,hbE⟩
   ·have e:=HA.out
    subst e
    exact own_low V (Nat.le_succ _)
   ·exact own_low U (Nat.le_succ _)
end
section
open Go.RowKit
def SAns (B:Nat) (r:Option M.St) (e:Ending) (w':World):Prop:=∃ (v u:Value),e=.returned (.tuple #[.agg #[v,u],.bool r.isSome])∧w'.ownsRow B 3 1 v (M.runR r).length (nums (M.runR r))∧w'.ownsRow B 3 1 u (M.runL r).length (nums (M.runL r))
structure RuS (w w2 wr:World) (base X:Nat) (a:Option Addr) (n c:Nat) (s:M.St):Prop where
 bel:Below w.heap.size w wr
 k0:wr.cell? ⟨w.heap.size,0,none⟩=some (.slice a n c)
 res:Slot2 wr (w.heap.size+1) (.slice none 0 0) (.slice none 0 0)
 lB:w.heap.size+1 < base
 pb:Below base w2 wr
 m:SME wr base X a n c s
theorem RuS.next {w w2 wr w3:World} {base X:Nat} {a:Option Addr} {n c:Nat} {s s':M.St} (h:RuS w w2 wr base X a n c s) (hb:Below base wr w3) (hm:SME w3 base X a n c s'):RuS w w2 w3 base X a n c s' :=
 ⟨h.bel.trans (hb.mono (by have:=h.lB;omega)),(hb.cell (p:=⟨w.heap.size,0,none⟩) (by have:=h.lB;show w.heap.size < base;omega)).trans h.k0,h.res.of (hb.block _ h.lB),h.lB,h.pb.trans hb,hm⟩
theorem M.rds_eq {ll:List (List M.D)} {s:M.St} (I:M.Inv ll s) (h3:ll.length≤3):s.rds ll.length=s.reads:=by
 have e:∀ i,ll.length≤i→i < 3→(s.t i).vals=[]:=fun i h1 h2=>by
  have:=(I.each i h2).vals
  rw [show ll.getD i []=[] from by simp [h1]] at this
  exact List.length_eq_zero_iff.1 (by rw [this];simp [M.cnt])
 have hth:=I.th
 match hl:s.th,hth with
 | [x,y,z],_ =>
  have e0:s.t 0=x:=by rw [M.St.t,hl];rfl
  have e1:s.t 1=y:=by rw [M.St.t,hl];rfl
  have e2:s.t 2=z:=by rw [M.St.t,hl];rfl
  unfold M.St.rds M.St.reads
  rw [hl]
  match h:ll.length,h3 with
  | 0,_=>rw [h] at e;have:=e 0 (by omega) (by omega);have:=e 1 (by omega) (by omega);have:=e 2 (by omega) (by omega);simp_all
  | 1,_=>rw [h] at e;have:=e 1 (by omega) (by omega);have:=e 2 (by omega) (by omega);simp_all [List.range_succ]
  | 2,_=>rw [h] at e;have:=e 2 (by omega) (by omega);simp_all [List.range_succ]
  | 3,_=>simp_all [List.range_succ]
set_option maxHeartbeats 2000000 in
set_option maxRecDepth 100000 in
theorem smachTurns_any (a:Option Addr) (b o c:Nat) (ll:List (List M.D)) (ta:Option Addr) (tb to_ tc:Nat) (turns:List Int) (w:World) (hl:ll.length≤1048576) (hls:∀ t∈ll,t.length≤1048576) (hlt:turns.length≤1048576) (h0:DoSS w a b o ll) (hT:IntS w ta tb to_ turns) (hk:∀ k∈turns,-9223372036854775808≤k∧k < 9223372036854775808) :
  Calls Try.prog 19 #[.agg #[.slice a ll.length c],.slice ta turns.length tc] w fun e w'=>SAns w.heap.size (M.machQ true 42 ll turns) e w'∧Below w.heap.size w w':=by
 have b2:=below2 w (.cells #[.slice a ll.length c] 33) (.cells #[.slice none 0 0,.slice none 0 0] 28)
 have r0:Slot2 ((w.alloc (.cells #[.slice a ll.length c] 33)).alloc (.cells #[.slice none 0 0,.slice none 0 0] 28)) (w.heap.size+1) (.slice none 0 0) (.slice none 0 0):=⟨alloc_new _ _ _ (by simp)⟩
 have k0:((w.alloc (.cells #[.slice a ll.length c] 33)).alloc (.cells #[.slice none 0 0,.slice none 0 0] 28)).cell? ⟨w.heap.size,0,none⟩=some (.slice a ll.length c):=by simp
 go_enter Try.func19,Try.ntmps19
 go_wp2_with fail
 generalize (w.alloc (.cells #[.slice a ll.length c] 33)).alloc (.cells #[.slice none 0 0,.slice none 0 0] 28)=W at *
 have lt0:=r0.lt
 have hp1:=h0.below b2 (Nat.le_refl _)
 refine (sprog_any a b o c ll W hl hls hp1).mono ?_
 rintro e w1 ⟨rfl,hb1⟩
 have r1:=r0.of (hb1.block _ lt0)
 have q0:=(hb1.cell (p:=⟨w.heap.size,0,none⟩) (World.block_lt_of_cell? _ _ k0)).trans k0
 have bw1:=b2.trans (hb1.mono b2.size)
 have lt1:=r1.lt
 clear hp1 r0 k0 hb1 b2 lt0
 have none_end:∀ wx,Below w.heap.size w wx→Slot2 wx (w.heap.size+1) (.slice none 0 0) (.slice none 0 0)→Below w.heap.size w ((wx.setCell ⟨w.heap.size+1,0,none⟩ (.slice none 0 0)).setCell ⟨w.heap.size+1,1,none⟩ (.slice none 0 0)):=fun wx h _=>(h.setCell (by show w.heap.size≤w.heap.size+1;omega) _).setCell (by show w.heap.size≤w.heap.size+1;omega) _
 cases hpr:M.prog ll
 ·have y0:=r1.c0
  have y1:=r1.c1
  have yf:=r1.fz
  have HQ:Hid (M.machQ true 42 ll turns=none):=by show _=_;rw [M.machQ,M.runQ,hpr];simp
  go_wp2_with fail
  refine bodyPost_ret (v:=.tuple #[.agg #[.slice none 0 0,.slice none 0 0],.bool false]) (by simp [results,Try.results19,go_sem,y0,y1]) rfl ⟨?_,none_end _ bw1 r1⟩
  rw [HQ.out]
  exact ⟨_,_,rfl,World.ownsRow_nil _ _ _ _,World.ownsRow_nil _ _ _ _⟩
 ·obtain ⟨h3,h7⟩:=M.prog_le hpr
  by_cases hn:turns.length≤42
  ·have hn':¬ (42:Int) < turns.length:=by omega
   have HQ:Hid (M.machQ true 42 ll turns=(match M.runFrom true ll M.st0 turns with | some s=>if s.done ll then some s else none | none=>none)):=by show _=_;rw [M.machQ,if_pos hn,M.runQ,hpr];rfl
   go_wp2_with fail
   refine (snew_any a ll.length c w1 h3).mono ?_
   rintro e w2 ⟨X,rfl,hm2,hb2⟩
   have A0:RuS w w1 w2 w1.heap.size X a ll.length c M.st0:=⟨bw1.trans (hb2.mono bw1.size),(hb2.cell (p:=⟨w.heap.size,0,none⟩) (World.block_lt_of_cell? _ _ q0)).trans q0,r1.of (hb2.block _ lt1),lt1,hb2,hm2⟩
   obtain ⟨base,hB⟩:∃ base,w1.heap.size=base:=⟨_,rfl⟩
   have HB:Hid (w1.heap.size=base):=hB
   rw [hB] at A0
   clear hB hb2 hm2 r1 q0 lt1
   have hp2:=h0.below bw1 (Nat.le_refl _)
   have hT2:=hT.below bw1 (Nat.le_refl _)
   clear bw1
   go_wp2_with fail
   go_loopw [7] (fun s7 wr=>∃ (n:Nat) (s:M.St),s7=.int .i64 n∧n≤turns.length∧M.Inv ll s∧M.Edge ll.length s∧Hid (M.runFrom true ll M.st0 turns=M.runFrom true ll s (turns.drop n))∧RuS w w1 wr base X a ll.length c s) (fun s7 _=>turns.length - (intOf s7).toNat)
   case atStart=>exact ⟨0,M.st0,rfl,by omega,M.Inv.zero ll,M.Edge.zero _,rfl,A0⟩
   case round =>
    obtain ⟨n,s,rfl,hnn,I,E,HW,A⟩:=hrel
    clear A0
    obtain ⟨vs,hM⟩:=A.m
    by_cases hlt':n < turns.length
    ·have i2:(n:Int) < turns.length:=by omega
     have hTr:=hT2.below A.pb (Nat.le_of_eq HB.out)
     obtain ⟨rfl⟩:=hTr.addr (by omega)
     have ck:=hTr.row n hlt'
     have hki:=hk _ (List.getElem_mem hlt')
     have HW2:Hid (M.runFrom true ll M.st0 turns=(match s.turn? true ll turns[n] with | none=>none | some s'=>M.runFrom true ll s' (turns.drop (n+1)))):=by show _=_;rw [HW.out,M.run_step hlt'];rfl
     generalize turns[n]=k at *
     have TN:=sturn_any base X a b o c ll vs s k w1 wr hp2 (Nat.le_of_eq HB.out) A.pb hM h3 hpr I E hki
     cases htn:s.turn? true ll k with
     | none =>
      rw [htn] at TN
      have HQ2:Hid (M.machQ true 42 ll turns=none):=by show _=_;rw [HQ.out,HW2.out,htn]
      clear HW HW2 HQ hM
      go_wp2_with (go_at_call 38;refine TN.mono ?_;rintro e w3 ⟨rfl,hr3⟩;have r3:=A.res.of (hr3.bel.block _ A.lB);have y0:=r3.c0;have y1:=r3.c1;have yf:=r3.fz;have b3:=A.bel.trans (hr3.bel.mono (Nat.le_trans (by omega) (Nat.le_of_lt A.lB))))
      refine bodyPost_ret (v:=.tuple #[.agg #[.slice none 0 0,.slice none 0 0],.bool false]) (by simp [results,Try.results19,go_sem,y0,y1]) rfl ⟨?_,none_end _ b3 r3⟩
      rw [HQ2.out]
      exact ⟨_,_,rfl,World.ownsRow_nil _ _ _ _,World.ownsRow_nil _ _ _ _⟩
     | some s' =>
      rw [htn] at TN
      have I':=I.turn hpr h3 htn
      have E':=E.turn I h3 htn
      have HW3:Hid (M.runFrom true ll M.st0 turns=M.runFrom true ll s' (turns.drop (n+1))):=by show _=_;rw [HW2.out,htn]
      clear HW HW2 hM
      go_wp2_with (go_at_call 38;refine TN.mono ?_;rintro e w3 ⟨rfl,hr3⟩;have A3:=A.next hr3.bel (hr3.st s' rfl))
      exact ⟨⟨n+1,s',by go_num,by omega,I',E',HW3,A3⟩,by simp [intOf];omega⟩
    ·have i2:¬ (n:Int) < turns.length:=by omega
     have HW4:Hid (M.runFrom true ll M.st0 turns=some s):=by show _=_;rw [HW.out,List.drop_eq_nil_of_le (by omega)];rfl
     clear HW
     go_wp2_with fail
     clear hT2 hT
     go_loopw [8] (fun s8 wr=>∃ i:Nat,s8=.int .i64 i∧i≤ll.length∧(∀ j,j < i→s.doneT ll j=true)∧RuS w w1 wr base X a ll.length c s∧SM wr base X a ll.length c vs s) (fun s8 _=>ll.length - (intOf s8).toNat)
     case atStart=>exact ⟨0,rfl,by omega,fun j hj=>by omega,A,hM⟩
     case round =>
      obtain ⟨i,rfl,hi,hdn,A,hM⟩:=hrel
      have k0:=A.k0
      have hpw:=hp2.below A.pb (Nat.le_of_eq HB.out)
      by_cases hlt2:i < ll.length
      ·have i3:(i:Int) < ll.length:=by omega
       have ht:i < 3:=by omega
       obtain ⟨rfl⟩:=hpw.addr (by omega)
       obtain ⟨a',b',o',c',hc,_⟩:=hpw.row i hlt2
       obtain ⟨g1,c1,hv1,_,_⟩:=hM.top (k:=1) (by omega) (by omega)
       have k1:=hM.ck (k:=1) (by omega)
       rw [hv1] at k1
       have kn:=hM.nextAt hv1 hlt2
       obtain ⟨g2,c2,hv2,_,_⟩:=hM.top (k:=2) (by omega) (by omega)
       have k2:=hM.ck (k:=2) (by omega)
       rw [hv2] at k2
       have kr:=hM.subAt (Or.inl rfl) hv2 hlt2
       obtain ⟨la,lc,hvl,_⟩:=own_sl (hM.late hlt2)
       rw [hvl] at kr
       have hg:ll.getD i []=ll[i]:=by simp [hlt2]
       have HD:Hid (s.doneT ll i=(decide (ll[i].length≤(s.t i).next)&&decide ((s.t i).pend.length=0))):=by show _=_;rw [M.St.doneT,hg]
       have bd:Below w.heap.size w wr.drew:=A.bel.trans (Below.refl _ _).drew
       have y0:=A.res.c0
       have y1:=A.res.c1
       have yf:=A.res.fz
       have Ad:=A.next (Below.refl base wr).drew ⟨vs,hM.below (Below.refl _ _).drew⟩
       have hMd:=hM.below (Below.refl _ wr).drew
       clear hM hv1 hv2 hvl
       generalize (s.t i).next=nx at *
       generalize (s.t i).pend.length=pl at *
       generalize ll[i].length=ln at *
       by_cases hnx:nx < ln
       ·have hnx':(nx:Int) < ln:=by omega
        have HQ2:Hid (M.machQ true 42 ll turns=none):=by
         show _=_
         rw [HQ.out,HW4.out]
         show (if s.done ll=true then _ else _)=_
         rw [M.done_no hlt2 (by rw [HD.out,decide_eq_false (by omega)];rfl)]
         rfl
        go_wp2_with fail
        go_region
        go_wp2_with fail
        refine bodyPost_ret (v:=.tuple #[.agg #[.slice none 0 0,.slice none 0 0],.bool false]) (by simp [results,Try.results19,go_sem,y0,y1]) rfl ⟨?_,none_end _ bd Ad.res⟩
        rw [HQ2.out]
        exact ⟨_,_,rfl,World.ownsRow_nil _ _ _ _,World.ownsRow_nil _ _ _ _⟩
       ·have hnx':¬ (nx:Int) < ln:=by omega
        by_cases hp0:0 < pl
        ·have hp0':(0:Int) < pl:=by omega
         have HQ2:Hid (M.machQ true 42 ll turns=none):=by
          show _=_
          rw [HQ.out,HW4.out]
          show (if s.done ll=true then _ else _)=_
          rw [M.done_no hlt2 (by rw [HD.out,decide_eq_false (show ¬ pl=0 by omega),Bool.and_false])]
          rfl
         go_wp2_with fail
         go_region
         go_wp2_with fail
         refine bodyPost_ret (v:=.tuple #[.agg #[.slice none 0 0,.slice none 0 0],.bool false]) (by simp [results,Try.results19,go_sem,y0,y1]) rfl ⟨?_,none_end _ bd Ad.res⟩
         rw [HQ2.out]
         exact ⟨_,_,rfl,World.ownsRow_nil _ _ _ _,World.ownsRow_nil _ _ _ _⟩
        ·have hp0':¬ (0:Int) < pl:=by omega
         go_wp2_with fail
         go_region
         go_wp2_with fail
         exact ⟨⟨i+1,by go_num,by omega,fun j hj=>by
          rcases Nat.lt_succ_iff_lt_or_eq.1 hj with h | h
          ·exact hdn j h
          ·subst h;rw [HD.out,decide_eq_true (show ln≤nx by omega),decide_eq_true (show pl=0 by omega)];rfl,Ad,hMd⟩,by simp [intOf];omega⟩
      ·have i3:¬ (i:Int) < ll.length:=by omega
       have HQ2:Hid (M.machQ true 42 ll turns=some s):=by
        show _=_
        rw [HQ.out,HW4.out]
        show (if s.done ll=true then _ else _)=_
        rw [M.done_yes fun j hj=>hdn j (by omega)]
        rfl
       have h6:∀ j,j < ll.length→(s.t j).vals.length≤6:=fun j hj=>by
        rw [(I.each j (by omega)).vals]
        exact Nat.le_trans (M.cnt_take_le _ _ _) (M.thOk_of hpr j).rd
       have SN:=sseen_any base X a ll.length c vs s wr hM h3 I.at_ h6
       rw [M.rds_eq I h3] at SN
       have lw:w.heap.size≤wr.heap.size:=A.bel.size
       clear hM
       go_wp2_with (go_at_call 32;refine SN.mono ?_;rintro e w4 ⟨vv,uu,rfl,V,U,b4⟩;obtain ⟨va,vc,rfl,_⟩:=own_sl V;obtain ⟨ua,uc,rfl,_⟩:=own_sl U;have r4:=A.res.of (b4.block _ A.res.lt);have y0:=r4.c0;have y1:=r4.c1;have yf:=r4.fz;have V4:=own_slot (i:=1) (own_slot (i:=0) V r4 (.slice va s.reads.length vc)) (r4.set0 (.slice va s.reads.length vc)) (.slice ua s.at_.length uc);have U4:=own_slot (i:=1) (own_slot (i:=0) U r4 (.slice va s.reads.length vc)) (r4.set0 (.slice va s.reads.length vc)) (.slice ua s.at_.length uc);have b5:=A.bel.trans (b4.mono lw))
       refine bodyPost_ret (v:=.tuple #[.agg #[.slice va s.reads.length vc,.slice ua s.at_.length uc],.bool true]) (by simp [results,Try.results19,go_sem,y0,y1]) rfl ⟨?_,(b5.setCell (by show w.heap.size≤w.heap.size+1;omega) _).setCell (by show w.heap.size≤w.heap.size+1;omega) _⟩
       rw [HQ2.out]
       exact ⟨_,_,rfl,own_low V4 lw,own_low U4 lw⟩
  ·have hn':(42:Int) < turns.length:=by omega
   have y0:=r1.c0
   have y1:=r1.c1
   have yf:=r1.fz
   have HQ:Hid (M.machQ true 42 ll turns=none):=by show _=_;rw [M.machQ,if_neg hn]
   go_wp2_with fail
   refine bodyPost_ret (v:=.tuple #[.agg #[.slice none 0 0,.slice none 0 0],.bool false]) (by simp [results,Try.results19,go_sem,y0,y1]) rfl ⟨?_,none_end _ bw1 r1⟩
   rw [HQ.out]
   exact ⟨_,_,rfl,World.ownsRow_nil _ _ _ _,World.ownsRow_nil _ _ _ _⟩
end
end Go.Proofs.Ytnddmlgnngdaoaa
