/- spec's machine: a step of the kind 5. Of a program that is one, at a machine that has come to what it may. -/
import Derived.Test.YtnddmlgnngdaoaaRows
import Derived.Test.YtnddmlgnngdaoaaQjat
namespace Go.Proofs.Ytnddmlgnngdaoaa
section
open Go.RowKit
set_option maxHeartbeats 4000000 in
set_option maxRecDepth 100000 in
theorem sstep_5 (base X i:Nat) (a:Option Addr) (b o c:Nat) (ll:List (List M.D)) (late:Bool) (vs:Rid→Value) (s:M.St) (d:M.D) (w0 w:World) (h0:DoSS w0 a b o ll) (hw0:w0.heap.size≤base) (hb0:Below base w0 w) (h:SM w base X a ll.length c vs s) (htl:i < ll.length) (h3:ll.length≤3) (hp:M.prog ll=true) (I:M.Inv ll s) (_E:M.Edge ll.length s) (hd:s.d? ll i=some d) (hk:Hid (d.k=5)) :
  Calls Try.prog 31 #[.pointer (some ⟨X,0,none⟩),.int .i64 i,.bool late] w fun e w'=>e=.returned (.bool (s.step? late ll i).isSome)∧SmR w w' base X a ll.length c (s.step? late ll i):=by
 have ht:i < 3:=by omega
 have hsl:i < s.th.length:=by rw [I.th];exact ht
 have F:=I.fit (M.thOk_of hp i) ht hd
 have c0:=h.c0
 have hp1:=h0.below hb0 hw0
 obtain ⟨rfl⟩:=h0.addr (by omega)
 obtain ⟨a',b',o',c',hc,hdd⟩:=hp1.row i htl
 have hg:ll.getD i []=ll[i]:=by simp [htl]
 have HR:Hid (s.step? late ll i=if M.canD (s.t i) d then some (s.stepD late i d) else none):=by
  show _=_
  unfold M.St.step?
  rw [hd]
 have hd':=hd
 rw [M.St.d?,hg] at hd
 have hlt:(s.t i).next < ll[i].length:=by
  rcases Nat.lt_or_ge (s.t i).next ll[i].length with h | h
  ·exact h
  ·rw [List.getElem?_eq_none h] at hd;cases hd
 have hde:ll[i][(s.t i).next]=d:=by rw [List.getElem?_eq_getElem hlt] at hd;exact Option.some.inj hd
 have hok:=M.thr_ok hp htl (List.mem_of_getElem? hd)
 obtain ⟨rfl⟩:=hdd.addr (by omega)
 have hrow:=hdd.row _ hlt
 rw [hde] at hrow
 obtain ⟨ck,cp,cv⟩:=hrow
 have nx7:=F.nx
 have i2:((s.t i).next:Int) < ll[i].length:=by omega
 have i3:(i:Int) < ll.length:=by omega
 have lX:=h.lt
 obtain ⟨g1,c1,hv1,hb1,hf1⟩:=h.top (k:=1) (by omega) (by omega)
 have k1:=h.ck (k:=1) (by omega)
 rw [hv1] at k1
 have kn:=h.nextAt hv1 htl
 have lg1:g1 < w.heap.size:=World.block_lt_of_cell? _ _ kn
 have lb:b < w.heap.size:=World.block_lt_of_cell? _ _ hc
 have lb':b' < w.heap.size:=World.block_lt_of_cell? _ _ ck
 have hbX:=h.bX
 have hoffH:∀ r,okN ll.length r→(vs r).ownBlock≠some w.heap.size:=fun r hr e=>by have:=(SM.own h hr).lt _ e;omega
 clear hd hde hp1 hdd hg h0
 have wl:ll[i].length≤7:=by have:=(M.thOk_of hp i).len;rwa [show ll.getD i []=ll[i] from by simp [htl]] at this
 generalize ll[i]=l at *
 go_enter Try.func31,Try.ntmps31
 go_wp2_with fail
 go_region
 have C:StC (w.alloc (.cells #[.int .i64 d.k,.int .i64 d.p,.int .i64 d.v] 84)).drew w.heap.size base X (some ⟨b,o,none⟩) ll.length c vs s d w :=
  ⟨by simp,by simp,by simp,h.below ((below1 w _).trans ((Below.refl _ _).drew)),((below1 w _).mono (by omega)).trans ((Below.refl _ _).drew)⟩
 clear h c0 hc ck cp cv k1 kn lb lb' hf1 hb1 i2 hlt
 have hHg:w.heap.size≠g1:=by omega
 generalize (w.alloc (.cells #[.int .i64 d.k,.int .i64 d.p,.int .i64 d.v] 84)).drew=W2 at *
 generalize w.heap.size=H at *
 simp only [M.doOk,Bool.and_eq_true] at hok
 obtain ⟨⟨hkw,hpl⟩,hvl⟩:=hok
 have heV:∀ args w,(callFunc 53 args).run Try.prog w=.ok (.enter 53 args) w:=enters_of Try.func53 (by kernel_rfl) rfl
 have heW:∀ args w,(callFunc 52 args).run Try.prog w=.ok (.enter 52 args) w:=enters_of Try.func52 (by kernel_rfl) rfl
 obtain ⟨dk,dp,dv⟩:=d
 replace hk:=hk.out
 simp only at C F HR hkw hpl hvl hk
 subst hk
 have hpr:=fun q (hq:q∈(s.t i).pend)=>F.pr q hq
 have hth:=I.th
 have hat:=I.at_
 have HN:Hid (s.step? late ll i=some ((s.keep i (s.look i dp)).bump i)):=by show _=_;rw [HR.out];rfl
 obtain ⟨q0,q1,q2⟩:=And.intro C.q0 (And.intro C.q1 C.q2)
 have lH:H < W2.heap.size:=World.block_lt_of_cell? _ _ q0
 have lX2:X < W2.heap.size:=C.m.lt
 go_wp2_with (first | (go_at_call 50;refine (l1Reads_any ⟨_,_,_⟩ _).mono ?_;rintro e w3 ⟨rfl,rfl⟩) | (go_at_call 51;refine (l1Writes_any ⟨_,_,_⟩ _).mono ?_;rintro e w4 ⟨rfl,rfl⟩))
 have C3:=C.below (W':=(W2.alloc (.cells #[.int .i64 5,.int .i64 dp,.int .i64 dv] 84))) (below1 _ _)
 clear C q0 q1 q2 lH lX2
 generalize (W2.alloc (.cells #[.int .i64 5,.int .i64 dp,.int .i64 dv] 84))=W3 at *
 obtain ⟨k1,kf1,kn⟩:W3.cell? ⟨X,1,none⟩=some (.slice (some ⟨g1,0,none⟩) ll.length c1)∧W3.frozen? ⟨g1,i,none⟩=false∧W3.cell? ⟨g1,i,none⟩=some (.int .i64 (s.t i).next):=by
  obtain ⟨g1',c1',e1,_,f1⟩:=C3.m.top (k:=1) (by omega) (by omega)
  have:=C3.m.ck (k:=1) (by omega)
  rw [hv1] at this e1
  simp only [Value.slice.injEq,Option.some.injEq,Addr.mk.injEq,and_true,true_and] at e1
  obtain ⟨rfl,_⟩:=e1
  exact ⟨this,f1 i,C3.m.nextAt hv1 htl⟩
 have C4:=(C3.bump hv1 htl hsl hHg).below (Below.refl _ _).drew
 have nx7':((s.t i).next:Int)≤7:=by omega
 clear C3
 go_region
 clear k1 kf1 kn
 generalize (W3.setCell ⟨g1,i,none⟩ (.int .i64 (((s.t i).next:Int)+1))).drew=W4 at *
 obtain ⟨q0,q1,q2⟩:=And.intro C4.q0 (And.intro C4.q1 C4.q2)
 have hm4:=C4.m
 have bel4:=C4.bel
 obtain ⟨p,rfl⟩:∃ p:Nat,dp=p:=⟨dp.toNat,by have:=F.us rfl;simp at this;omega⟩
 have hp3:p < 3:=by have:=F.us rfl;simp at this;omega
 obtain ⟨g3,c3,hv3,hb3,hf3⟩:=hm4.top (k:=3) (by omega) (by omega)
 have k3:=hm4.ck (k:=3) (by omega)
 rw [hv3] at k3
 have kr:=hm4.subAt (Or.inr (Or.inl rfl)) hv3 htl
 have lG:g3 < W4.heap.size:=World.block_lt_of_cell? _ _ kr
 have lX4:X < W4.heap.size:=hm4.lt
 have hown:=hm4.reads htl
 obtain ⟨la,lc,hvl2,hlc⟩:=own_sl hown
 rw [hvl2] at kr hown
 have hbt:((s.bump i).t i).vals=(s.t i).vals:=by rw [M.bump_t _ _ hsl]
 rw [hbt] at hown kr hlc hvl2
 have hne3:some g3≠(Value.slice la (s.t i).vals.length lc).ownBlock:=fun e=>by
  have:=hm4.apart (r:=.sub 3 i) (r':=.top 3) ⟨by omega,htl⟩ ⟨by omega,by omega⟩ (by simp)
  rw [hvl2,hv3] at this
  exact this g3 e.symm rfl
 have hneX:some X≠(Value.slice la (s.t i).vals.length lc).ownBlock:=fun e=>by
  have:=SMN.offX hm4 (r:=.sub 3 i) ⟨by omega,htl⟩
  rw [hvl2] at this
  exact this e.symm
 have hbd:Below W4.heap.size W4 W4.drew:=(Below.refl _ _).drew
 have hv:=svalue_any base X i p _ _ c vs (s.bump i) W4.drew (hm4.below hbd) htl (by show p < s.at_.length;omega) h3 (by rw [M.bump_t _ _ hsl];have:=M.cnt_take_le M.writes (ll.getD i []) (s.t i).next;have:=(I.each i ht).pend;have:=(M.thOk_of hp i).wr;show (s.t i).pend.length≤1048576;omega) hat
 rw [M.bump_look s i p hsl] at hv
 have h6:(s.t i).vals.length < 6:=F.rd rfl
 obtain ⟨i0,hI,hz0,hz1,hz2⟩:=info_parts Try.smInt
 have hge:=own_ge hown
 generalize s.look i p=x at *
 have hbe:=below1 W4.drew (.cells #[.int .i64 x] 3)
 go_wp2_with fail
 have hS9:∀ w',Below W4.heap.size W4 w'→w'.cell? ⟨X,3,none⟩=some (.slice (some ⟨g3,0,none⟩) ll.length c3)∧w'.cell? ⟨H,1,none⟩=some (.int .i64 p):=fun w' hb=>⟨(hb.cell (p:=⟨X,3,none⟩) lX4).trans k3,(hb.cell (p:=⟨H,1,none⟩) (World.block_lt_of_cell? _ _ q1)).trans q1⟩
 have lH4:H < W4.heap.size:=World.block_lt_of_cell? _ _ q1
 refine wp_region_held_drew (S:=fun w'=>w'.cell? ⟨X,3,none⟩=some (.slice (some ⟨g3,0,none⟩) ll.length c3)∧w'.cell? ⟨H,1,none⟩=some (.int .i64 p)) (by kernel_rfl) (hS9 W4.drew hbd) (fun hH=>?_)
 refine tk 0 74 (.pointer (some ⟨X,0,none⟩)) hH rfl rfl (by intro w' hSw;go_simp) ?_
 try simp only [Act.put,zqa,zqb,zqc]
 refine tk 1 75 (.pointer (some ⟨X,0,none⟩)) hH rfl rfl (by intro w' hSw;go_simp) ?_
 try simp only [Act.put,zqa,zqb,zqc]
 refine tk 2 76 (.pointer (some ⟨X,3,none⟩)) hH rfl rfl (by intro w' hSw;go_simp) ?_
 try simp only [Act.put,zqa,zqb,zqc]
 refine tk 3 77 (.slice (some ⟨g3,0,none⟩) ll.length c3) hH rfl rfl (by intro w' hSw;have hc:=hSw.1;go_simp) ?_
 try simp only [Act.put,zqa,zqb,zqc]
 refine tk 4 78 (.int .i64 i) hH rfl rfl (by intro w' hSw;go_simp) ?_
 try simp only [Act.put,zqa,zqb,zqc]
 refine tk 5 79 (.pointer (some ⟨X,0,none⟩)) hH rfl rfl (by intro w' hSw;go_simp) ?_
 try simp only [Act.put,zqa,zqb,zqc]
 refine tk 6 80 (.pointer (some ⟨X,0,none⟩)) hH rfl rfl (by intro w' hSw;go_simp) ?_
 try simp only [Act.put,zqa,zqb,zqc]
 refine tk 7 81 (.pointer (some ⟨X,3,none⟩)) hH rfl rfl (by intro w' hSw;go_simp) ?_
 try simp only [Act.put,zqa,zqb,zqc]
 refine tk 8 82 (.slice (some ⟨g3,0,none⟩) ll.length c3) hH rfl rfl (by intro w' hSw;have hc:=hSw.1;go_simp) ?_
 try simp only [Act.put,zqa,zqb,zqc]
 refine tk 9 83 (.int .i64 i) hH rfl rfl (by intro w' hSw;go_simp) ?_
 try simp only [Act.put,zqa,zqb,zqc]
 refine tk 10 84 (.pointer (some ⟨g3,i,none⟩)) hH rfl rfl (by intro w' hSw;go_simp) ?_
 try simp only [Act.put,zqa,zqb,zqc]
 refine tk 12 86 (.pointer (some ⟨X,0,none⟩)) hH rfl rfl (by intro w' hSw;go_simp) ?_
 try simp only [Act.put,zqa,zqb,zqc]
 refine tk 13 87 (.int .i64 i) hH rfl rfl (by intro w' hSw;go_simp) ?_
 try simp only [Act.put,zqa,zqb,zqc]
 refine tk 14 88 (.pointer (some ⟨H,1,none⟩)) hH rfl rfl (by intro w' hSw;go_simp) ?_
 try simp only [Act.put,zqa,zqb,zqc]
 refine tk 15 89 (.int .i64 p) hH rfl rfl (by intro w' hSw;have hc:=hSw.2;go_simp) ?_
 try simp only [Act.put,zqa,zqb,zqc]
 have hbE:Below W4.heap.size W4 (W4.drew.alloc (.cells #[.int .i64 x] 3)):=hbd.trans hbe
 have krE:(W4.drew.alloc (.cells #[.int .i64 x] 3)).cell? ⟨g3,i,none⟩=some (.slice la (s.t i).vals.length lc):=(hbE.cell (p:=⟨g3,i,none⟩) lG).trans kr
 have hownE:(W4.drew.alloc (.cells #[.int .i64 x] 3)).ownsRow base 3 1 (.slice la (s.t i).vals.length lc) (s.t i).vals.length (nums (s.t i).vals):=ownsRow_below hown hbE
 have hnewE:=World.news_of_block (cs:=#[.int .i64 x]) (t:=3) (fr:=(0,0)) (heap_alloc_new W4.drew (.cells #[.int .i64 x] 3))
 have hXg:X≠g3:=fun e=>(SMN.offX hm4 (r:=.top 3) ⟨by omega,by omega⟩) (by rw [hv3,e];rfl)
 have hHg3:H≠g3:=fun e=>hoffH (.top 3) ⟨by omega,by omega⟩ (by rw [hv3,e];rfl)
 have hHo:some H≠(Value.slice la (s.t i).vals.length lc).ownBlock:=fun e=>hoffH (.sub 3 i) ⟨by omega,htl⟩ (by rw [hvl2];exact e.symm)
 have fin:∀ v3 w3,w3.ownsRow base 3 1 v3 ((s.t i).vals.length+1) (nums (s.t i).vals++[.int .i64 x])→(W4.drew.alloc (.cells #[.int .i64 x] 3)).grownBy w3 (Value.slice la (s.t i).vals.length lc).ownBlock→(v3.ownBlock=(Value.slice la (s.t i).vals.length lc).ownBlock∨v3.ownBlock=some (W4.drew.alloc (.cells #[.int .i64 x] 3)).heap.size) →
   SM (w3.setCell ⟨g3,i,none⟩ v3) base X (some ⟨b,o,none⟩) ll.length c (setR vs (.sub 3 i) v3) ((s.bump i).keep i x)∧Below base w (w3.setCell ⟨g3,i,none⟩ v3)∧∃ a3 c9,v3=.slice a3 ((s.t i).vals.length+1) c9∧w3.cell? ⟨X,3,none⟩=some (.slice (some ⟨g3,0,none⟩) ll.length c3)∧w3.cell? ⟨g3,i,none⟩=some (.slice la (s.t i).vals.length lc)∧w3.frozen? ⟨g3,i,none⟩=false∧w3.cell? ⟨H,1,none⟩=some (.int .i64 p)∧w3.cell? ⟨X,3,none⟩=some (.slice (some ⟨g3,0,none⟩) ll.length c3):=by
  intro v3 w3 hown3 hg3 hat3
  obtain ⟨a3,c9,e3,_⟩:=own_sl hown3
  have hg:W4.grownBy w3 (Value.slice la (s.t i).vals.length lc).ownBlock:=⟨hg3.os.trans hbE.os,hg3.tape.trans hbE.tape,hg3.output.trans hbE.output,Nat.le_trans hbE.size hg3.size,fun k hk hne=>(hg3.block k (Nat.lt_of_lt_of_le hk hbE.size) hne).trans (hbE.block k hk)⟩
  have hS:=hm4.sub (k:=3) (i:=i) (s':=(s.bump i).keep i x) (v':=v3) (Or.inr (Or.inl rfl)) htl (by rw [hvl2];exact hg) hv3 (by
   show w3.ownsRow base 3 1 _ (M.St.t ((s.bump i).keep i x) i).vals.length (nums (M.St.t ((s.bump i).keep i x) i).vals)
   unfold M.St.keep
   rw [M.t_put _ _ _ _ (by rw [M.bump_len];omega),if_pos rfl,hbt]
   show w3.ownsRow base 3 1 _ ((s.t i).vals++[x]).length (nums ((s.t i).vals++[x]))
   rw [show nums ((s.t i).vals++[x])=nums (s.t i).vals++[.int .i64 x] from by simp [nums],List.length_append]
   exact hown3) (by
    rcases hat3 with e | e
    ·exact Or.inl (by rw [hvl2];exact e)
    ·exact Or.inr (fun k hk=>by rw [e] at hk;simp at hk;omega)) (fun rr _ hne=>rw_put _ i _ (by rw [M.bump_len];omega) rr (fun _=>rfl) (fun _=>rfl) (fun _=>rfl) (fun e=>absurd e hne) (fun _=>rfl))
  exact ⟨hS,(below_grown bel4 hg hge (by omega)).setCell (by show base≤g3;exact hb3) _,a3,c9,e3,hg.cell k3 hneX,hg.cell kr hne3,(World.frozen?_of_block (hg.block g3 lG hne3)).trans (hf3 i),hg.cell q1 hHo,hg.cell k3 hneX⟩
 refine wpAnyH_ready (rs:=[11,16]) (by kernel_rfl) (by simp) ?_
 refine AllReadyH.cons rfl (fun K' hK=>?_) (AllReadyH.cons rfl (fun K' hK=>?_) AllReadyH.nil)
 ·rw [if_pos (by rfl)]
  have kr':(W4.drew).cell? ⟨g3,i,none⟩=some (.slice la (s.t i).vals.length lc):=kr
  go_simp
  refine hK.out _ _ (hS9 _ hbd) (fun hHx=>?_)
  clear hK K'
  clear kr'
  try simp only [Act.put,zqa,zqb,zqc]
  refine ry 16 rfl (fun K' hK=>?_)
  refine step_goV (by rfl) (some 90) rfl 53 #[.tmp 86,.tmp 87,.tmp 89] _ rfl #[.pointer (some ⟨X,0,none⟩),.int .i64 i,.int .i64 p] (by simp [Act.eval]) heV hv ?_
  rintro e w6 ⟨rfl,rfl⟩
  refine ⟨_,rfl,hK.out _ _ (hS9 _ hbd) (fun hHx=>?_)⟩
  clear hK K'
  try simp only [Act.put,zqa,zqb,zqc]
  refine ry 17 rfl (fun K' hK=>?_)
  rw [if_pos (by rfl)]
  go_simp
  refine hK.out _ _ (hS9 _ hbE) (fun hHx=>?_)
  clear hK K'
  try simp only [Act.put,zqa,zqb,zqc]
  refine ry 18 rfl (fun K' hK=>?_)
  refine step_app rfl (.tmp 85) (.tmp 91) 25 rfl (some 92) rfl base 3 i0 _ 1 8 Try.underlying25 hI hz0 hz1 hz2 rfl (by omega) (.slice la (s.t i).vals.length lc) (s.t i).vals.length (nums (s.t i).vals) (by rfl) hownE ⟨W4.heap.size,0,none⟩ 1 1 [.int .i64 x] (by rfl) rfl hnewE (by simp [Value.oneCell']) (by unfold maxLen;omega) (by omega) (by simp;omega) ?_
  intro v3 w3 hown3 hg3 hat3
  obtain ⟨hS,hbS,a3,c9,rfl,kk3,kr3,kf3,hq3,hX3⟩:=fin v3 w3 hown3 hg3 hat3
  refine hK.out _ _ (⟨hX3,hq3⟩) (fun hHx=>?_)
  clear hK K'
  try simp only [Act.put,zqa,zqb,zqc]
  refine tk 19 93 (.pointer (some ⟨g3,i,none⟩)) hHx rfl rfl (by intro w' hSw;go_simp) ?_
  try simp only [Act.put,zqa,zqb,zqc]
  refine ry 20 rfl (fun K' hK=>?_)
  rw [if_pos (by rfl)]
  go_simp
  refine hK.out _ _ (⟨(World.cell?_setCell_other _ _ _ _ (fun e=>by have:=congrArg Addr.block e;simp at this;omega)).trans hX3,(World.cell?_setCell_other _ _ _ _ (fun e=>by have:=congrArg Addr.block e;simp at this;omega)).trans hq3⟩) (fun hHx=>?_)
  clear hK K'
  refine wpAnyH_done (by kernel_rfl) ?_ _
  go_wp2_with fail
  go_ret
  exact ⟨by rw [HN.out];rfl,⟨fun s' e=>(by
   rw [HN.out] at e
   obtain rfl:=Option.some.inj e
   exact ⟨_,(M.bump_keep s i x hsl▸hS)⟩),hbS⟩⟩
 ·refine step_goV (by rfl) (some 90) rfl 53 #[.tmp 86,.tmp 87,.tmp 89] _ rfl #[.pointer (some ⟨X,0,none⟩),.int .i64 i,.int .i64 p] (by simp [Act.eval]) heV hv ?_
  rintro e w6 ⟨rfl,rfl⟩
  refine ⟨_,rfl,hK.out _ _ (hS9 _ hbd) (fun hHx=>?_)⟩
  clear hK K'
  try simp only [Act.put,zqa,zqb,zqc]
  refine wpAnyH_ready (rs:=[11,17]) (by kernel_rfl) (by simp) ?_
  refine AllReadyH.cons rfl (fun K' hK=>?_) (AllReadyH.cons rfl (fun K' hK=>?_) AllReadyH.nil)
  ·rw [if_pos (by rfl)]
   have kr':(W4.drew).cell? ⟨g3,i,none⟩=some (.slice la (s.t i).vals.length lc):=kr
   go_simp
   refine hK.out _ _ (hS9 _ hbd) (fun hHx=>?_)
   clear hK K'
   clear kr'
   try simp only [Act.put,zqa,zqb,zqc]
   refine ry 17 rfl (fun K' hK=>?_)
   rw [if_pos (by rfl)]
   go_simp
   refine hK.out _ _ (hS9 _ hbE) (fun hHx=>?_)
   clear hK K'
   try simp only [Act.put,zqa,zqb,zqc]
   refine ry 18 rfl (fun K' hK=>?_)
   refine step_app rfl (.tmp 85) (.tmp 91) 25 rfl (some 92) rfl base 3 i0 _ 1 8 Try.underlying25 hI hz0 hz1 hz2 rfl (by omega) (.slice la (s.t i).vals.length lc) (s.t i).vals.length (nums (s.t i).vals) (by rfl) hownE ⟨W4.heap.size,0,none⟩ 1 1 [.int .i64 x] (by rfl) rfl hnewE (by simp [Value.oneCell']) (by unfold maxLen;omega) (by omega) (by simp;omega) ?_
   intro v3 w3 hown3 hg3 hat3
   obtain ⟨hS,hbS,a3,c9,rfl,kk3,kr3,kf3,hq3,hX3⟩:=fin v3 w3 hown3 hg3 hat3
   refine hK.out _ _ (⟨hX3,hq3⟩) (fun hHx=>?_)
   clear hK K'
   try simp only [Act.put,zqa,zqb,zqc]
   refine tk 19 93 (.pointer (some ⟨g3,i,none⟩)) hHx rfl rfl (by intro w' hSw;go_simp) ?_
   try simp only [Act.put,zqa,zqb,zqc]
   refine ry 20 rfl (fun K' hK=>?_)
   rw [if_pos (by rfl)]
   go_simp
   refine hK.out _ _ (⟨(World.cell?_setCell_other _ _ _ _ (fun e=>by have:=congrArg Addr.block e;simp at this;omega)).trans hX3,(World.cell?_setCell_other _ _ _ _ (fun e=>by have:=congrArg Addr.block e;simp at this;omega)).trans hq3⟩) (fun hHx=>?_)
   clear hK K'
   refine wpAnyH_done (by kernel_rfl) ?_ _
   go_wp2_with fail
   go_ret
   exact ⟨by rw [HN.out];rfl,⟨fun s' e=>(by
    rw [HN.out] at e
    obtain rfl:=Option.some.inj e
    exact ⟨_,(M.bump_keep s i x hsl▸hS)⟩),hbS⟩⟩
  ·rw [if_pos (by rfl)]
   go_simp
   refine hK.out _ _ (hS9 _ hbE) (fun hHx=>?_)
   clear hK K'
   try simp only [Act.put,zqa,zqb,zqc]
   refine ry 11 rfl (fun K' hK=>?_)
   rw [if_pos (by rfl)]
   have kr':(W4.drew.alloc (.cells #[.int .i64 x] 3)).cell? ⟨g3,i,none⟩=some (.slice la (s.t i).vals.length lc):=krE
   go_simp
   refine hK.out _ _ (hS9 _ hbE) (fun hHx=>?_)
   clear hK K'
   clear kr'
   try simp only [Act.put,zqa,zqb,zqc]
   refine ry 18 rfl (fun K' hK=>?_)
   refine step_app rfl (.tmp 85) (.tmp 91) 25 rfl (some 92) rfl base 3 i0 _ 1 8 Try.underlying25 hI hz0 hz1 hz2 rfl (by omega) (.slice la (s.t i).vals.length lc) (s.t i).vals.length (nums (s.t i).vals) (by rfl) hownE ⟨W4.heap.size,0,none⟩ 1 1 [.int .i64 x] (by rfl) rfl hnewE (by simp [Value.oneCell']) (by unfold maxLen;omega) (by omega) (by simp;omega) ?_
   intro v3 w3 hown3 hg3 hat3
   obtain ⟨hS,hbS,a3,c9,rfl,kk3,kr3,kf3,hq3,hX3⟩:=fin v3 w3 hown3 hg3 hat3
   refine hK.out _ _ (⟨hX3,hq3⟩) (fun hHx=>?_)
   clear hK K'
   try simp only [Act.put,zqa,zqb,zqc]
   refine tk 19 93 (.pointer (some ⟨g3,i,none⟩)) hHx rfl rfl (by intro w' hSw;go_simp) ?_
   try simp only [Act.put,zqa,zqb,zqc]
   refine ry 20 rfl (fun K' hK=>?_)
   rw [if_pos (by rfl)]
   go_simp
   refine hK.out _ _ (⟨(World.cell?_setCell_other _ _ _ _ (fun e=>by have:=congrArg Addr.block e;simp at this;omega)).trans hX3,(World.cell?_setCell_other _ _ _ _ (fun e=>by have:=congrArg Addr.block e;simp at this;omega)).trans hq3⟩) (fun hHx=>?_)
   clear hK K'
   refine wpAnyH_done (by kernel_rfl) ?_ _
   go_wp2_with fail
   go_ret
   exact ⟨by rw [HN.out];rfl,⟨fun s' e=>(by
    rw [HN.out] at e
    obtain rfl:=Option.some.inj e
    exact ⟨_,(M.bump_keep s i x hsl▸hS)⟩),hbS⟩⟩
end
end Go.Proofs.Ytnddmlgnngdaoaa
