/- spec's machine: a step of the kind 3. Of a program that is one, at a machine that has come to what it may. -/
import Derived.Test.YtnddmlgnngdaoaaRows
import Derived.Test.YtnddmlgnngdaoaaQjat
namespace Go.Proofs.Ytnddmlgnngdaoaa
section
open Go.RowKit
set_option maxHeartbeats 4000000 in
set_option maxRecDepth 100000 in
theorem sstep_3 (base X i:Nat) (a:Option Addr) (b o c:Nat) (ll:List (List M.D)) (late:Bool) (vs:Rid→Value) (s:M.St) (d:M.D) (w0 w:World) (h0:DoSS w0 a b o ll) (hw0:w0.heap.size≤base) (hb0:Below base w0 w) (h:SM w base X a ll.length c vs s) (htl:i < ll.length) (h3:ll.length≤3) (hp:M.prog ll=true) (I:M.Inv ll s) (_E:M.Edge ll.length s) (hd:s.d? ll i=some d) (hk:Hid (d.k=3)) :
  Calls Try.prog 31 #[.pointer (some ⟨X,0,none⟩),.int .i64 i,.bool late] w fun e w'=>e=.returned (.bool (s.step? late ll i).isSome)∧SmR w w' base X a ll.length c (s.step? late ll i):=by
 have ht:i < 3:=by omega
 have hsl:i < s.th.length:=by rw [I.th];exact ht
 have F:=I.fit (M.thOk_of hp i) ht hd
 have c0:=h.c0
 have hp1:=h0.below hb0 hw0
 obtain ⟨rfl⟩:=h0.addr (by omega)
 obtain ⟨a',b',o',c',hc,hdd⟩:=hp1.row i htl
 have hg:ll.getD i []=ll[i]:=by simp [htl]
 have HR:Hid (s.step? late ll i=if M.canD (s.t i) d then some (s.stepD late i d) else none):=by
  show _=_
  unfold M.St.step?
  rw [hd]
 have hd':=hd
 rw [M.St.d?,hg] at hd
 have hlt:(s.t i).next < ll[i].length:=by
  rcases Nat.lt_or_ge (s.t i).next ll[i].length with h | h
  ·exact h
  ·rw [List.getElem?_eq_none h] at hd;cases hd
 have hde:ll[i][(s.t i).next]=d:=by rw [List.getElem?_eq_getElem hlt] at hd;exact Option.some.inj hd
 have hok:=M.thr_ok hp htl (List.mem_of_getElem? hd)
 obtain ⟨rfl⟩:=hdd.addr (by omega)
 have hrow:=hdd.row _ hlt
 rw [hde] at hrow
 obtain ⟨ck,cp,cv⟩:=hrow
 have nx7:=F.nx
 have i2:((s.t i).next:Int) < ll[i].length:=by omega
 have i3:(i:Int) < ll.length:=by omega
 have lX:=h.lt
 obtain ⟨g1,c1,hv1,hb1,hf1⟩:=h.top (k:=1) (by omega) (by omega)
 have k1:=h.ck (k:=1) (by omega)
 rw [hv1] at k1
 have kn:=h.nextAt hv1 htl
 have lg1:g1 < w.heap.size:=World.block_lt_of_cell? _ _ kn
 have lb:b < w.heap.size:=World.block_lt_of_cell? _ _ hc
 have lb':b' < w.heap.size:=World.block_lt_of_cell? _ _ ck
 have hbX:=h.bX
 have hoffH:∀ r,okN ll.length r→(vs r).ownBlock≠some w.heap.size:=fun r hr e=>by have:=(SM.own h hr).lt _ e;omega
 clear hd hde hp1 hdd hg h0
 have wl:ll[i].length≤7:=by have:=(M.thOk_of hp i).len;rwa [show ll.getD i []=ll[i] from by simp [htl]] at this
 generalize ll[i]=l at *
 go_enter Try.func31,Try.ntmps31
 go_wp2_with fail
 go_region
 have C:StC (w.alloc (.cells #[.int .i64 d.k,.int .i64 d.p,.int .i64 d.v] 84)).drew w.heap.size base X (some ⟨b,o,none⟩) ll.length c vs s d w :=
  ⟨by simp,by simp,by simp,h.below ((below1 w _).trans ((Below.refl _ _).drew)),((below1 w _).mono (by omega)).trans ((Below.refl _ _).drew)⟩
 clear h c0 hc ck cp cv k1 kn lb lb' hf1 hb1 i2 hlt
 have hHg:w.heap.size≠g1:=by omega
 generalize (w.alloc (.cells #[.int .i64 d.k,.int .i64 d.p,.int .i64 d.v] 84)).drew=W2 at *
 generalize w.heap.size=H at *
 simp only [M.doOk,Bool.and_eq_true] at hok
 obtain ⟨⟨hkw,hpl⟩,hvl⟩:=hok
 have heV:∀ args w,(callFunc 53 args).run Try.prog w=.ok (.enter 53 args) w:=enters_of Try.func53 (by kernel_rfl) rfl
 have heW:∀ args w,(callFunc 52 args).run Try.prog w=.ok (.enter 52 args) w:=enters_of Try.func52 (by kernel_rfl) rfl
 obtain ⟨dk,dp,dv⟩:=d
 replace hk:=hk.out
 simp only at C F HR hkw hpl hvl hk
 subst hk
 have hpr:=fun q (hq:q∈(s.t i).pend)=>F.pr q hq
 have hth:=I.th
 have hat:=I.at_
 have HN:Hid (s.step? late ll i=some ((s.write late i dp ((s.t i).vals.getD ((s.t i).vals.length - 1) 0)).bump i)):=by show _=_;rw [HR.out];rfl
 obtain ⟨q0,q1,q2⟩:=And.intro C.q0 (And.intro C.q1 C.q2)
 have lH:H < W2.heap.size:=World.block_lt_of_cell? _ _ q0
 have lX2:X < W2.heap.size:=C.m.lt
 go_wp2_with (first | (go_at_call 50;refine (l1Reads_any ⟨_,_,_⟩ _).mono ?_;rintro e w3 ⟨rfl,rfl⟩) | (go_at_call 51;refine (l1Writes_any ⟨_,_,_⟩ _).mono ?_;rintro e w4 ⟨rfl,rfl⟩))
 have C3:=C.below (W':=((W2.alloc (.cells #[.int .i64 3,.int .i64 dp,.int .i64 dv] 84)).alloc (.cells #[.int .i64 3,.int .i64 dp,.int .i64 dv] 84))) (below2 _ _ _)
 clear C q0 q1 q2 lH lX2
 generalize ((W2.alloc (.cells #[.int .i64 3,.int .i64 dp,.int .i64 dv] 84)).alloc (.cells #[.int .i64 3,.int .i64 dp,.int .i64 dv] 84))=W3 at *
 obtain ⟨k1,kf1,kn⟩:W3.cell? ⟨X,1,none⟩=some (.slice (some ⟨g1,0,none⟩) ll.length c1)∧W3.frozen? ⟨g1,i,none⟩=false∧W3.cell? ⟨g1,i,none⟩=some (.int .i64 (s.t i).next):=by
  obtain ⟨g1',c1',e1,_,f1⟩:=C3.m.top (k:=1) (by omega) (by omega)
  have:=C3.m.ck (k:=1) (by omega)
  rw [hv1] at this e1
  simp only [Value.slice.injEq,Option.some.injEq,Addr.mk.injEq,and_true,true_and] at e1
  obtain ⟨rfl,_⟩:=e1
  exact ⟨this,f1 i,C3.m.nextAt hv1 htl⟩
 have C4:=(C3.bump hv1 htl hsl hHg).below (Below.refl _ _).drew
 have nx7':((s.t i).next:Int)≤7:=by omega
 clear C3
 go_region
 clear k1 kf1 kn
 generalize (W3.setCell ⟨g1,i,none⟩ (.int .i64 (((s.t i).next:Int)+1))).drew=W4 at *
 obtain ⟨q0,q1,q2⟩:=And.intro C4.q0 (And.intro C4.q1 C4.q2)
 have hm4:=C4.m
 have bel4:=C4.bel
 obtain ⟨p0,p3⟩:=F.us rfl
 simp only at p0 p3
 obtain ⟨n0,n6⟩:=F.cp rfl
 obtain ⟨g3,c3,hv3,hb3,hf3⟩:=hm4.top (k:=3) (by omega) (by omega)
 have k3:=hm4.ck (k:=3) (by omega)
 rw [hv3] at k3
 have kr:=hm4.subAt (Or.inr (Or.inl rfl)) hv3 htl
 have hown:=hm4.reads htl
 have hbt:((s.bump i).t i).vals=(s.t i).vals:=by rw [M.bump_t _ _ hsl]
 rw [hbt] at hown
 obtain ⟨gl,lc,hvl2,_,hlc⟩:=own_slp hown n0
 rw [hvl2] at kr hown
 obtain ⟨m,hm⟩:∃ m,(s.t i).vals.length=m+1:=⟨(s.t i).vals.length - 1,by omega⟩
 have kx:W4.cell? ⟨gl,m,none⟩=some (.int .i64 ((s.t i).vals.getD m 0)):=own_cellE hown (by simp [nums,hm])
 rw [hm] at kr HN
 rw [Nat.add_sub_cancel] at HN
 have hwa:=fun x=>swrite_full base X i _ _ c vs (s.bump i) dp x late W4.drew (hm4.below (Below.refl _ _).drew) htl h3 p0 p3 (by rw [M.bump_t _ _ hsl];exact hpr) (by rw [M.bump_t _ _ hsl];have:=F.wr rfl;show (s.t i).pend.length≤6;omega) hat (by rw [M.bump_len];exact hth)
 generalize (s.t i).vals.getD m 0=x at *
 have hwa:=hwa x
 have hwr:IntKind.i64.wrap (m:Int)=m:=by rw [IntKind.wrap_i64];omega
 have i5:(m:Int) < (m:Int)+1:=by omega
 have i6:(0:Int)≤(m:Int):=by omega
 go_wp2_with fail
 have lX4:X < W4.heap.size:=hm4.lt
 have lG:g3 < W4.heap.size:=World.block_lt_of_cell? _ _ kr
 have lGl:gl < W4.heap.size:=World.block_lt_of_cell? _ _ kx
 have lH4:H < W4.heap.size:=World.block_lt_of_cell? _ _ q1
 have hbd:Below W4.heap.size W4 W4.drew:=(Below.refl _ _).drew
 have hS9:∀ w':World,w'.heap[X]?=W4.heap[X]?→w'.heap[H]?=W4.heap[H]?→w'.heap[g3]?=W4.heap[g3]?→w'.heap[gl]?=W4.heap[gl]?→w'.cell? ⟨X,3,none⟩=some (.slice (some ⟨g3,0,none⟩) ll.length c3)∧w'.cell? ⟨H,1,none⟩=some (.int .i64 dp)∧w'.cell? ⟨g3,i,none⟩=some (.slice (some ⟨gl,0,none⟩) (m+1) lc)∧w'.cell? ⟨gl,m,none⟩=some (.int .i64 x):=fun w' h1 h2 h3 h4=>⟨(World.cell?_of_block (a:=⟨X,3,none⟩) h1).trans k3,(World.cell?_of_block (a:=⟨H,1,none⟩) h2).trans q1,(World.cell?_of_block (a:=⟨g3,i,none⟩) h3).trans kr,(World.cell?_of_block (a:=⟨gl,m,none⟩) h4).trans kx⟩
 have offs:∀ k,(k=X∨k=H∨k=g3∨k=gl)→∀ r,(r=.sub 2 i∨r=.top 2∨r=.top 6)→some k≠(vs r).ownBlock:=by
  intro k hk r hr e
  have hro:okN ll.length r:=by
   rcases hr with rfl | rfl | rfl
   ·exact ⟨by omega,htl⟩
   ·exact ⟨by omega,by omega⟩
   ·exact ⟨by omega,by omega⟩
  rcases hk with rfl | rfl | rfl | rfl
  ·exact SMN.offX hm4 hro e.symm
  ·exact hoffH r hro e.symm
  ·exact hm4.apart (r:=r) (r':=.top 3) hro ⟨by omega,by omega⟩ (by rcases hr with rfl | rfl | rfl<;>simp) _ e.symm (by rw [hv3];rfl)
  ·exact hm4.apart (r:=r) (r':=.sub 3 i) hro ⟨by omega,htl⟩ (by rcases hr with rfl | rfl | rfl<;>simp) _ e.symm (by rw [hvl2];rfl)
 refine wp_region_held_drew (S:=fun w'=>w'.cell? ⟨X,3,none⟩=some (.slice (some ⟨g3,0,none⟩) ll.length c3)∧w'.cell? ⟨H,1,none⟩=some (.int .i64 dp)∧w'.cell? ⟨g3,i,none⟩=some (.slice (some ⟨gl,0,none⟩) (m+1) lc)∧w'.cell? ⟨gl,m,none⟩=some (.int .i64 x)) (by kernel_rfl) (hS9 W4.drew rfl rfl rfl rfl) (fun hH=>?_)
 refine tk 0 96 (.pointer (some ⟨X,0,none⟩)) hH rfl rfl (by intro w' hSw;go_simp) ?_
 try simp only [Act.put,zqa,zqb,zqc]
 refine tk 1 97 (.int .i64 i) hH rfl rfl (by intro w' hSw;go_simp) ?_
 try simp only [Act.put,zqa,zqb,zqc]
 refine tk 2 98 (.pointer (some ⟨H,1,none⟩)) hH rfl rfl (by intro w' hSw;go_simp) ?_
 try simp only [Act.put,zqa,zqb,zqc]
 refine tk 3 99 (.int .i64 dp) hH rfl rfl (by intro w' hSw;have hc:=hSw.2.1;go_simp) ?_
 try simp only [Act.put,zqa,zqb,zqc]
 refine tk 4 100 (.pointer (some ⟨X,0,none⟩)) hH rfl rfl (by intro w' hSw;go_simp) ?_
 try simp only [Act.put,zqa,zqb,zqc]
 refine tk 5 101 (.pointer (some ⟨X,0,none⟩)) hH rfl rfl (by intro w' hSw;go_simp) ?_
 try simp only [Act.put,zqa,zqb,zqc]
 refine tk 6 102 (.pointer (some ⟨X,3,none⟩)) hH rfl rfl (by intro w' hSw;go_simp) ?_
 try simp only [Act.put,zqa,zqb,zqc]
 refine tk 7 103 (.slice (some ⟨g3,0,none⟩) ll.length c3) hH rfl rfl (by intro w' hSw;have hc:=hSw.1;go_simp) ?_
 try simp only [Act.put,zqa,zqb,zqc]
 refine tk 8 104 (.int .i64 i) hH rfl rfl (by intro w' hSw;go_simp) ?_
 try simp only [Act.put,zqa,zqb,zqc]
 refine tk 9 105 (.pointer (some ⟨g3,i,none⟩)) hH rfl rfl (by intro w' hSw;go_simp) ?_
 try simp only [Act.put,zqa,zqb,zqc]
 refine tk 10 106 (.slice (some ⟨gl,0,none⟩) (m+1) lc) hH rfl rfl (by intro w' hSw;have hc:=hSw.2.2.1;go_simp) ?_
 try simp only [Act.put,zqa,zqb,zqc]
 refine tk 11 107 (.pointer (some ⟨X,0,none⟩)) hH rfl rfl (by intro w' hSw;go_simp) ?_
 try simp only [Act.put,zqa,zqb,zqc]
 refine tk 12 108 (.pointer (some ⟨X,0,none⟩)) hH rfl rfl (by intro w' hSw;go_simp) ?_
 try simp only [Act.put,zqa,zqb,zqc]
 refine tk 13 109 (.pointer (some ⟨X,3,none⟩)) hH rfl rfl (by intro w' hSw;go_simp) ?_
 try simp only [Act.put,zqa,zqb,zqc]
 refine tk 14 110 (.slice (some ⟨g3,0,none⟩) ll.length c3) hH rfl rfl (by intro w' hSw;have hc:=hSw.1;go_simp) ?_
 try simp only [Act.put,zqa,zqb,zqc]
 refine tk 15 111 (.int .i64 i) hH rfl rfl (by intro w' hSw;go_simp) ?_
 try simp only [Act.put,zqa,zqb,zqc]
 refine tk 16 112 (.pointer (some ⟨g3,i,none⟩)) hH rfl rfl (by intro w' hSw;go_simp) ?_
 try simp only [Act.put,zqa,zqb,zqc]
 refine tk 17 113 (.slice (some ⟨gl,0,none⟩) (m+1) lc) hH rfl rfl (by intro w' hSw;have hc:=hSw.2.2.1;go_simp) ?_
 try simp only [Act.put,zqa,zqb,zqc]
 refine tk 18 114 (.int .i64 ((m:Int)+1)) hH rfl rfl (by intro w' hSw;go_simp) ?_
 try simp only [Act.put,zqa,zqb,zqc]
 refine tk 19 115 (.int .i64 m) hH rfl rfl (by intro w' hSw;go_simp) ?_
 try simp only [Act.put,zqa,zqb,zqc]
 refine tk 20 116 (.pointer (some ⟨gl,m,none⟩)) hH rfl rfl (by intro w' hSw;go_simp) ?_
 try simp only [Act.put,zqa,zqb,zqc]
 refine tk 21 117 (.int .i64 x) hH rfl rfl (by intro w' hSw;have hc:=hSw.2.2.2;go_simp) ?_
 try simp only [Act.put,zqa,zqb,zqc]
 refine tk 22 118 (.bool late) hH rfl rfl (by intro w' hSw;go_simp) ?_
 try simp only [Act.put,zqa,zqb,zqc]
 refine ry 23 rfl (fun K' hK=>?_)
 refine step_goV (by rfl) (some 119) rfl 52 #[.tmp 96,.tmp 97,.tmp 99,.tmp 117,.tmp 118] _ rfl #[.pointer (some ⟨X,0,none⟩),.int .i64 i,.int .i64 dp,.int .i64 x,.bool late] (by simp [Act.eval]) heW hwa ?_
 rintro e w5 ⟨rfl,hm5,hb5,hf5⟩
 have hk5:∀ k,(k=X∨k=H∨k=g3∨k=gl)→k < W4.heap.size→w5.heap[k]?=W4.heap[k]?:=fun k hk hlt=>hf5 k hlt (offs k hk _ (Or.inl rfl)) (offs k hk _ (Or.inr (Or.inl rfl))) (offs k hk _ (Or.inr (Or.inr rfl)))
 refine ⟨_,rfl,hK.out _ _ (hS9 w5 (hk5 X (Or.inl rfl) lX4) (hk5 H (Or.inr (Or.inl rfl)) lH4) (hk5 g3 (Or.inr (Or.inr (Or.inl rfl))) lG) (hk5 gl (Or.inr (Or.inr (Or.inr rfl))) lGl)) (fun hHz=>?_)⟩
 clear hK K'
 try simp only [Act.put,zqa,zqb,zqc]
 refine wpAnyH_done (by kernel_rfl) ?_ _
 go_wp2_with fail
 go_ret
 exact ⟨by rw [HN.out];rfl,⟨fun s' e=>(by
  rw [HN.out] at e
  obtain rfl:=Option.some.inj e
  exact M.bump_write late s i dp x hsl▸hm5),bel4.trans (hbd.mono (by have:=hm4.bX;omega) |>.trans hb5)⟩⟩
end
end Go.Proofs.Ytnddmlgnngdaoaa
