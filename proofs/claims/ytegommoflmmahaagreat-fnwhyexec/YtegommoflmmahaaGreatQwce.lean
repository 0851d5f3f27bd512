/- The law FnWhyExec, walked: it answers true, and leaves all as it was. Of whatever code. -/
import Derived.Deep.OwnRows
import Derived.Test.YtegommoflmmahaaGreatRows
import Derived.Test.YtegommoflmmahaaGreatQwbp
import Derived.Test.YtegommoflmmahaaGreatQwbq
import Derived.Test.YtegommoflmmahaaGreatQwbz
namespace Go.Proofs.YtegommoflmmahaaGreat
section
open Go.RowKit Go.Shelf
set_option maxHeartbeats 4000000 in
set_option maxRecDepth 100000 in
set_option linter.unusedSimpArgs false in
theorem lawYe_any (ca:Option Addr) (cb co L C:Nat) (x:Nat→Int) (w:World) (hL:L≤C) (had:0 < L→ca=some ⟨cb,co,none⟩) (hc:∀ i,i < L→w.cell? ⟨cb,co+i,none⟩=some (.int .u8 (x i))∧0≤x i∧x i≤255) :
  Calls Tryz.prog 3 #[.slice ca L C] w fun e w'=>e=.returned (.bool true)∧Below w.heap.size w w':=by
 by_cases hLb:L≤1048576
 ·go_enter Tryz.func3,Tryz.ntmps3
  go_wp2_with fail
  refine (DrawWhyExec_any ca cb co L C x _ hL had hc hLb).mono ?_
  rintro e w1 ⟨a,g,c,mm,s,kind,rfl,hD,k0,k1⟩
  have hls:=hD.sm.le
  have hl3:mm.length≤1048576:=by have:=hD.sm.three;omega
  have hsl:=hD.le
  have bx0:=BxY.new hD
  clear had hc hD
  go_wp2_with fail
  generalize (w1.alloc (.cells #[.slice a mm.length c] 25)).alloc (.cells #[.slice s.a1 s.l1.length s.c1,.slice s.a2 s.l2.length s.c2] 28)=W0 at *
  obtain ⟨S,hSe⟩:∃ S,w1.heap.size+1=S:=⟨_,rfl⟩
  rw [hSe] at bx0 ⊢
  clear hSe
  generalize w1.heap.size=P at *
  have CS:=fun (W:World) (h:BxY w W P S a g c mm s)=>swhyExec_any a g 0 c mm s kind W hl3 hls hsl h.ss h.sa
  have CI:=fun (W:World) (h:BxY w W P S a g c mm s)=>iwhyExec_any a g 0 c mm s kind W hl3 hls hsl h.ss h.sa
  have hxl:=M.why_getD_le (ll:=mm) (t1:=s.l1) (t2:=s.l2) (k:=kind)
  obtain ⟨r,hr⟩:∃ r,M.whyExec mm s.l1 s.l2 kind=r:=⟨_,rfl⟩
  have HR:Hid (M.whyExec mm s.l1 s.l2 kind=r):=hr
  rw [M.swhy_same] at CS
  rw [hr] at CI CS hxl
  clear hr
  have p0:=bx0.p.c
  have q0:=bx0.sb.c0
  have q1:=bx0.sb.c1
  refine (CS W0 bx0).mono ?_
  rintro e W1 ⟨v,rfl,hA⟩
  have hAR:=hA.r
  obtain ⟨fa,fb,fc,ra,rb,rc,rfl,hf,ho⟩:=hAR.ex
  have bx1:=(bx0.below hAR.bel).below (below1 W1 (.cells #[.slice fa (r.getD ([],[])).1.length fc,.slice ra (r.getD ([],[])).2.length rc] 33))
  have x1:=BxWy.new (fc:=fc) (rc:=rc) hf ho
  clear hA hAR hf ho bx0 p0 q0 q1 CS
  have p0:=bx1.p.c
  have q0:=bx1.sb.c0
  have q1:=bx1.sb.c1
  go_wp2_with fail
  generalize W1.alloc (.cells #[.slice fa (r.getD ([],[])).1.length fc,.slice ra (r.getD ([],[])).2.length rc] 33)=W2 at *
  generalize W1.heap.size=X1 at *
  refine (CI W2 bx1).mono ?_
  rintro e W3 ⟨v,rfl,hA⟩
  have hAR:=hA.r
  obtain ⟨ga,gb,gc,oa,ob,oc,rfl,hf,ho⟩:=hAR.ex
  have bx3:=(bx1.below hAR.bel).below (below1 W3 (.cells #[.slice ga (r.getD ([],[])).1.length gc,.slice oa (r.getD ([],[])).2.length oc] 33))
  have x3:=(x1.below hAR.bel).below (below1 W3 (.cells #[.slice ga (r.getD ([],[])).1.length gc,.slice oa (r.getD ([],[])).2.length oc] 33))
  have y3:=BxWy.new (fc:=gc) (rc:=oc) hf ho
  clear hA hAR hf ho bx1 p0 q0 q1 CI x1
  have p0:=bx3.p.c
  have q0:=bx3.sb.c0
  have q1:=bx3.sb.c1
  have u0:=x3.xb.c0
  have u1:=x3.xb.c1
  have v0:=y3.xb.c0
  have v1:=y3.xb.c1
  have CE:=fun (W:World) (h1:BxWy W X1 fa fb fc ra rb rc (r.getD ([],[]))) (h2:BxWy W W3.heap.size ga gb gc oa ob oc (r.getD ([],[])))=>lpExec_any (r.getD ([],[])) (r.getD ([],[])) ga gb gc oa ob oc fa fb fc ra rb rc W hxl.a hxl.b hxl.c h2.f h2.o h1.f h1.o
  have EE:M.eqWy (r.getD ([],[])) (r.getD ([],[]))=true:=by simp [M.eqWy]
  rw [EE] at CE
  clear EE
  obtain ⟨y,hy⟩:∃ y,r.getD ([],[])=y:=⟨_,rfl⟩
  have HYR:Hid (r.getD ([],[])=y):=hy
  simp only [hy] at hxl x3 y3 u0 u1 v0 v1 bx3 p0 q0 q1 CE ⊢
  clear hy
  cases r with
  | none =>
   simp only [Option.isSome_none]
   go_wp2_with fail
   generalize W3.alloc (.cells #[.slice ga y.1.length gc,.slice oa y.2.length oc] 33)=W4 at *
   generalize W3.heap.size=X3 at *
   refine (CE W4 x3 y3).mono ?_
   rintro e W5 ⟨rfl,b5⟩
   have bx5:=bx3.below b5
   have x5:=x3.below b5
   have y5:=y3.below b5
   clear u0 u1 v0 v1 p0 q0 q1
   have u0:=x5.xb.c0
   have u1:=x5.xb.c1
   have v0:=y5.xb.c0
   have v1:=y5.xb.c1
   go_wp2_with fail
   refine (CE W5 x5 y5).mono ?_
   rintro e W6 ⟨rfl,b6⟩
   have bx6:=bx5.below b6
   go_wp2_with fail
   go_ret
   exact ⟨rfl,bx6.bel⟩
  | some z =>
   simp only [Option.isSome_some]
   obtain rfl:z=y:=HYR.out
   obtain ⟨y,rfl⟩:∃ y,y=z:=⟨_,rfl⟩
   clear HYR
   obtain ⟨hy1,hy2⟩:=M.whyExec_some HR.out
   obtain ⟨hg1,hg2,_⟩:=M.whyGood_mem hy2
   have hyo:=M.why_ok HR.out
   have HG:Hid (M.orderHolds mm y.1 y.2 kind=true):=hg1
   have hse:M.execSeen mm y.1 y.2=(s.l1,s.l2):=by rw [← hg2];simp [M.execSeen,hyo,M.seenOf]
   have HSE:Hid (M.execSeen mm y.1 y.2=(s.l1,s.l2)):=hse
   have HYO:Hid (M.execOk mm y.1 y.2=true):=hyo
   clear hse hyo hg1 hg2 hy1 hy2 HR
   go_wp2_with fail
   generalize W3.alloc (.cells #[.slice ga y.1.length gc,.slice oa y.2.length oc] 33)=W4 at *
   generalize W3.heap.size=X3 at *
   refine (CE W4 x3 y3).mono ?_
   rintro e W5 ⟨rfl,b5⟩
   have bx5:=bx3.below b5
   have y5:=y3.below b5
   clear u0 u1 v0 v1 p0 q0 q1 x3 y3 b5 bx3 CE
   have p0:=bx5.p.c
   have v0:=y5.xb.c0
   have v1:=y5.xb.c1
   go_wp2_with fail
   refine (iexecSeen_any a g 0 c mm ga gb 0 gc y.1 oa ob 0 oc y.2 W5 hl3 hls hxl.a hxl.b hxl.c bx5.ss y5.f y5.o).mono ?_
   rintro e W6 ⟨t,rfl,ht1,ht2,hnew,b6⟩
   rw [HYO.out]
   have HT:Hid (t.l1=s.l1∧t.l2=s.l2):=by rw [HSE.out] at ht1 ht2;exact ⟨ht1,ht2⟩
   have bx6:=(bx5.below b6).below (below1 W6 (.cells #[.slice t.a1 t.l1.length t.c1,.slice t.a2 t.l2.length t.c2] 28))
   have y6:=(y5.below b6).below (below1 W6 (.cells #[.slice t.a1 t.l1.length t.c1,.slice t.a2 t.l2.length t.c2] 28))
   have t6:=hnew.at_.below (below1 W6 (.cells #[.slice t.a1 t.l1.length t.c1,.slice t.a2 t.l2.length t.c2] 28)) (Nat.le_refl _)
   have htl:t.Le 1048576:=⟨by rw [HT.out.1];exact hsl.reads,by rw [HT.out.2];exact hsl.last⟩
   clear ht1 ht2 bx5 y5 b6 hnew p0 v0 v1
   have q0:=bx6.sb.c0
   have q1:=bx6.sb.c1
   go_wp2_with fail
   generalize W6.alloc (.cells #[.slice t.a1 t.l1.length t.c1,.slice t.a2 t.l2.length t.c2] 28)=W7 at *
   have CL:=lpSame_any t s W7 htl t6 bx6.sa
   rw [show M.sameS t.l1 t.l2 s.l1 s.l2=true by rw [M.sameS_eq,HT.out.1,HT.out.2,M.cmpS_self];rfl] at CL
   refine CL.mono ?_
   rintro e W8 ⟨rfl,b8⟩
   have bx8:=bx6.below b8.bel
   have y8:=y6.below b8.bel
   clear q0 q1 bx6 y6 CL b8
   have p0:=bx8.p.c
   have v0:=y8.xb.c0
   have v1:=y8.xb.c1
   go_wp2_with fail
   have CO:=iorderHolds_any a g 0 c mm ga gb 0 gc y.1 oa ob 0 oc y.2 kind W8 hl3 hls hxl.a hxl.b hxl.c bx8.ss y8.f y8.o
   rw [HG.out] at CO
   refine CO.mono ?_
   rintro e W9 ⟨rfl,b9⟩
   have bx9:=bx8.below b9
   go_wp2_with fail
   go_ret
   exact ⟨rfl,bx9.bel⟩
 ·go_enter Tryz.func3,Tryz.ntmps3
  go_wp2_with fail
  go_ret
  exact ⟨rfl,Below.refl _ _⟩
end
end Go.Proofs.YtegommoflmmahaaGreat
