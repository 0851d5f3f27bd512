/- . -/
import Derived.Deep.OwnRows
import Derived.Test.YtegommoflmmahaaGreatRows
import Derived.Test.YtegommoflmmahaaGreatQwbu
import Derived.Test.YtegommoflmmahaaGreatQwbz
namespace Go.Proofs.YtegommoflmmahaaGreat
section
open Go.RowKit Go.Shelf
set_option maxHeartbeats 4000000 in
set_option maxRecDepth 100000 in
set_option linter.unusedSimpArgs false in
theorem lawYi_any (ca:Option Addr) (cb co L C:Nat) (x:Nat→Int) (w:World) (hL:L≤C) (had:0 < L→ca=some ⟨cb,co,none⟩) (hc:∀ i,i < L→w.cell? ⟨cb,co+i,none⟩=some (.int .u8 (x i))∧0≤x i∧x i≤255) :
  Calls Tryz.prog 4 #[.slice ca L C] w fun e w'=>e=.returned (.bool true)∧Below w.heap.size w w':=by
 by_cases hLb:L≤1048576
 ·go_enter Tryz.func4,Tryz.ntmps4
  go_wp2_with fail
  refine (DrawWhyExec_any ca cb co L C x _ hL had hc hLb).mono ?_
  rintro e w1 ⟨a,g,c,mm,s,kind,rfl,hD,k0,k1⟩
  have hls:=hD.sm.le
  have hl3:mm.length≤1048576:=by have:=hD.sm.three;omega
  have hsl:=hD.le
  have bx0:=BxY.new hD
  clear had hc hD
  go_wp2_with fail
  generalize (w1.alloc (.cells #[.slice a mm.length c] 25)).alloc (.cells #[.slice s.a1 s.l1.length s.c1,.slice s.a2 s.l2.length s.c2] 28)=W0 at *
  obtain ⟨S,hSe⟩:∃ S,w1.heap.size+1=S:=⟨_,rfl⟩
  rw [hSe] at bx0 ⊢
  clear hSe
  generalize w1.heap.size=P at *
  have CS:=fun (W:World) (h:BxY w W P S a g c mm s)=>swhyExec_any a g 0 c mm s kind W hl3 hls hsl h.ss h.sa
  have CI:=fun (W:World) (h:BxY w W P S a g c mm s)=>iwhyExec_any a g 0 c mm s kind W hl3 hls hsl h.ss h.sa
  have hxl:=M.why_getD_le (ll:=mm) (t1:=s.l1) (t2:=s.l2) (k:=kind)
  obtain ⟨r,hr⟩:∃ r,M.whyExec mm s.l1 s.l2 kind=r:=⟨_,rfl⟩
  have HR:Hid (M.whyExec mm s.l1 s.l2 kind=r):=hr
  rw [M.swhy_same] at CS
  rw [hr] at CI CS hxl
  clear hr
  have p0:=bx0.p.c
  have q0:=bx0.sb.c0
  have q1:=bx0.sb.c1
  refine (CS W0 bx0).mono ?_
  rintro e W1 ⟨v,rfl,hA⟩
  have hAR:=hA.r
  obtain ⟨fa,fb,fc,ra,rb,rc,rfl,hf,ho⟩:=hAR.ex
  have bx1:=(bx0.below hAR.bel).below (below1 W1 (.cells #[.slice fa (r.getD ([],[])).1.length fc,.slice ra (r.getD ([],[])).2.length rc] 33))
  have x1:=BxWy.new (fc:=fc) (rc:=rc) hf ho
  clear hA hAR hf ho bx0 p0 q0 q1 CS
  have p0:=bx1.p.c
  have q0:=bx1.sb.c0
  have q1:=bx1.sb.c1
  go_wp2_with fail
  generalize W1.alloc (.cells #[.slice fa (r.getD ([],[])).1.length fc,.slice ra (r.getD ([],[])).2.length rc] 33)=W2 at *
  generalize W1.heap.size=X1 at *
  refine (CI W2 bx1).mono ?_
  rintro e W3 ⟨v,rfl,hA⟩
  have hAR:=hA.r
  obtain ⟨ga,gb,gc,oa,ob,oc,rfl,hf,ho⟩:=hAR.ex
  have bx3:=(bx1.below hAR.bel).below (below1 W3 (.cells #[.slice ga (r.getD ([],[])).1.length gc,.slice oa (r.getD ([],[])).2.length oc] 33))
  have x3:=(x1.below hAR.bel).below (below1 W3 (.cells #[.slice ga (r.getD ([],[])).1.length gc,.slice oa (r.getD ([],[])).2.length oc] 33))
  have y3:=BxWy.new (fc:=gc) (rc:=oc) hf ho
  clear hA hAR hf ho bx1 p0 q0 q1 CI x1
  have p0:=bx3.p.c
  have q0:=bx3.sb.c0
  have q1:=bx3.sb.c1
  have u0:=x3.xb.c0
  have u1:=x3.xb.c1
  have v0:=y3.xb.c0
  have v1:=y3.xb.c1
  have CE:=fun (W:World) (h1:BxWy W X1 fa fb fc ra rb rc (r.getD ([],[]))) (h2:BxWy W W3.heap.size ga gb gc oa ob oc (r.getD ([],[])))=>lpExec_any (r.getD ([],[])) (r.getD ([],[])) ga gb gc oa ob oc fa fb fc ra rb rc W hxl.a hxl.b hxl.c h2.f h2.o h1.f h1.o
  have EE:M.eqWy (r.getD ([],[])) (r.getD ([],[]))=true:=by simp [M.eqWy]
  rw [EE] at CE
  clear EE
  obtain ⟨y,hy⟩:∃ y,r.getD ([],[])=y:=⟨_,rfl⟩
  have HYR:Hid (r.getD ([],[])=y):=hy
  simp only [hy] at hxl x3 y3 u0 u1 v0 v1 bx3 p0 q0 q1 CE ⊢
  clear hy
  have CO:=fun (W:World) (h:BxY w W P S a g c mm s)=>iorderAllK a g 0 c mm kind W hl3 hls h.ss
  have hkl:=M.orderAll_len mm kind
  have hkk:=M.orderAll_le mm kind
  have hin:=M.whyExec_isIn mm s.l1 s.l2 kind
  rw [HR.out] at hin
  obtain ⟨ks,hks⟩:∃ ks,M.orderAll mm kind=ks:=⟨_,rfl⟩
  rw [hks] at CO hkl hkk hin
  have CN:=fun (a1:Option Addr) (g1 c1:Nat) (W:World) (h:BxY w W P S a g c mm s) (hS:KS W a1 g1 0 ks)=>iseenIn_any a1 g1 0 c1 ks s W (by omega) hkk hsl hS h.sa
  rw [← hin] at CN
  clear hin hks HR
  obtain ⟨ok,hok⟩:∃ ok,r.isSome=ok:=⟨_,rfl⟩
  rw [hok] at CN ⊢
  clear hok
  clear p0 q0 q1 u0 u1 v0 v1
  go_wp2_with fail
  generalize W3.alloc (.cells #[.slice ga y.1.length gc,.slice oa y.2.length oc] 33)=W4 at *
  generalize W3.heap.size=X3 at *
  have e1:(ok==ok)=true:=by simp
  have fp:∀ w',Below W4.heap.size W4 w'→w'.cell? ⟨P,0,none⟩=some (.slice a mm.length c):=fun w' h=>(bx3.below h).p.c
  have fs0:∀ w',Below W4.heap.size W4 w'→w'.cell? ⟨S,0,none⟩=some (.slice s.a1 s.l1.length s.c1):=fun w' h=>(bx3.below h).sb.c0
  have fs1:∀ w',Below W4.heap.size W4 w'→w'.cell? ⟨S,1,none⟩=some (.slice s.a2 s.l2.length s.c2):=fun w' h=>(bx3.below h).sb.c1
  have fx0:∀ w',Below W4.heap.size W4 w'→w'.cell? ⟨X1,0,none⟩=some (.slice fa y.1.length fc):=fun w' h=>(x3.below h).xb.c0
  have fx1:∀ w',Below W4.heap.size W4 w'→w'.cell? ⟨X1,1,none⟩=some (.slice ra y.2.length rc):=fun w' h=>(x3.below h).xb.c1
  have fy0:∀ w',Below W4.heap.size W4 w'→w'.cell? ⟨X3,0,none⟩=some (.slice ga y.1.length gc):=fun w' h=>(y3.below h).xb.c0
  have fy1:∀ w',Below W4.heap.size W4 w'→w'.cell? ⟨X3,1,none⟩=some (.slice oa y.2.length oc):=fun w' h=>(y3.below h).xb.c1
  refine wp_region_held_drew (S:=fun w'=>Below W4.heap.size W4 w') (by kernel_rfl) (Below.refl _ _).drew (fun hH=>?_)
  refine tk 0 33 (.bool ok) hH rfl rfl (by intro w' hSw;go_simp) ?_
  simp only [Act.put,q1,q2,q3]
  refine tk 1 34 (.bool ok) hH rfl rfl (by intro w' hSw;go_simp) ?_
  simp only [Act.put,q1,q2,q3]
  refine tk 2 35 (.bool true) hH rfl rfl (by intro w' hSw;go_simp) ?_
  simp only [Act.put,q1,q2,q3]
  refine tk 3 36 (.bool true) hH rfl rfl (by intro w' hSw;go_simp) ?_
  simp only [Act.put,q1,q2,q3]
  refine tk 4 37 (.agg #[.slice ga y.1.length gc,.slice oa y.2.length oc]) hH rfl rfl (by intro w' hSw;have hc0:=fy0 w' hSw;have hc1:=fy1 w' hSw;go_simp) ?_
  simp only [Act.put,q1,q2,q3]
  refine tk 5 38 (.agg #[.slice fa y.1.length fc,.slice ra y.2.length rc]) hH rfl rfl (by intro w' hSw;have hc0:=fx0 w' hSw;have hc1:=fx1 w' hSw;go_simp) ?_
  simp only [Act.put,q1,q2,q3]
  refine ry 6 rfl (fun K' hK=>?_)
  refine sg 39 rfl 13 #[.tmp 37,.tmp 38] rfl #[.agg #[.slice ga y.1.length gc,.slice oa y.2.length oc],.agg #[.slice fa y.1.length fc,.slice ra y.2.length rc]] (enters_of Tryz.func13 (by kernel_rfl) rfl) (CE _ (x3.below hH) (y3.below hH)) ?_
  rintro e W5 ⟨rfl,b5⟩
  refine ⟨_,rfl,hK.out _ _ (hH.trans (b5.mono hH.size)) (fun hH1=>?_)⟩
  clear hK K'
  simp only [Act.put,q1,q2,q3]
  refine tk 7 40 (.bool true) hH1 rfl rfl (by intro w' hSw;go_simp) ?_
  simp only [Act.put,q1,q2,q3]
  refine tk 8 41 (.bool true) hH1 rfl rfl (by intro w' hSw;go_simp) ?_
  simp only [Act.put,q1,q2,q3]
  refine tk 9 42 (.bool ok) hH1 rfl rfl (by intro w' hSw;go_simp) ?_
  simp only [Act.put,q1,q2,q3]
  refine tk 10 43 (.agg #[.slice a mm.length c]) hH1 rfl rfl (by intro w' hSw;have hc0:=fp w' hSw;go_simp) ?_
  simp only [Act.put,q1,q2,q3]
  refine tk 11 44 (.int .i64 kind) hH1 rfl rfl (by intro w' hSw;go_simp) ?_
  simp only [Act.put,q1,q2,q3]
  refine tk 13 46 (.agg #[.slice s.a1 s.l1.length s.c1,.slice s.a2 s.l2.length s.c2]) hH1 rfl rfl (by intro w' hSw;have hc0:=fs0 w' hSw;have hc1:=fs1 w' hSw;go_simp) ?_
  simp only [Act.put,q1,q2,q3]
  refine ry 12 rfl (fun K' hK=>?_)
  refine sg 45 rfl 18 #[.tmp 43,.tmp 44] rfl #[.agg #[.slice a mm.length c],.int .i64 kind] (enters_of Tryz.func18 (by kernel_rfl) rfl) (CO _ (bx3.below hH1)) ?_
  rintro e W6 ⟨v6,rfl,hA6⟩
  obtain ⟨a6,g6,c6,rfl,hS6⟩:=hA6.ex
  refine ⟨_,rfl,hK.out _ _ (hH1.trans (hA6.bel.mono hH1.size)) (fun hH2=>?_)⟩
  clear hK K'
  simp only [Act.put,q1,q2,q3]
  refine ry 14 rfl (fun K' hK=>?_)
  refine sg 47 rfl 17 #[.tmp 45,.tmp 46] rfl #[.slice a6 ks.length c6,.agg #[.slice s.a1 s.l1.length s.c1,.slice s.a2 s.l2.length s.c2]] (enters_of Tryz.func17 (by kernel_rfl) rfl) (CN a6 g6 c6 _ (bx3.below hH2) hS6) ?_
  rintro e W7 ⟨rfl,b7⟩
  refine ⟨_,rfl,hK.out _ _ (hH2.trans (b7.bel.mono hH2.size)) (fun hH3=>?_)⟩
  clear hK K'
  simp only [Act.put,q1,q2,q3]
  refine tk 15 48 (.bool true) hH3 rfl rfl (by intro w' hSw;go_simp) ?_
  simp only [Act.put,q1,q2,q3]
  refine tk 16 49 (.bool true) hH3 rfl rfl (by intro w' hSw;go_simp) ?_
  simp only [Act.put,q1,q2,q3]
  refine tk 17 2 (.bool true) hH3 rfl rfl (by intro w' hSw;go_simp) ?_
  simp only [Act.put,q1,q2,q3]
  refine wpAnyH_done (by kernel_rfl) ?_ _
  go_wp2_with fail
  go_ret
  exact ⟨rfl,(bx3.below hH3).bel⟩
 ·go_enter Tryz.func4,Tryz.ntmps4
  go_wp2_with fail
  go_ret
  exact ⟨rfl,Below.refl _ _⟩
end
end Go.Proofs.YtegommoflmmahaaGreat
