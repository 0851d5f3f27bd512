/- The law FnWhyExecFirst, walked: it answers true, and leaves all as it was. Of whatever code. -/
import Derived.Deep.OwnRows
import Derived.Test.YtegommoflmmahaaGreatRows
import Derived.Test.YtegommoflmmahaaGreatQwbp
import Derived.Test.YtegommoflmmahaaGreatQwbq
import Derived.Test.YtegommoflmmahaaGreatQwbw
import Derived.Test.YtegommoflmmahaaGreatQwbz
namespace Go.Proofs.YtegommoflmmahaaGreat
section
open Go.RowKit Go.Shelf
theorem zqa {α : Type} (l : List α) (i : Nat) (a : α) : l.toArray.setIfInBounds i a = (l.set i a).toArray := List.setIfInBounds_toArray l i a
theorem zqb {α : Type} (x a : α) (l : List α) : (x :: l).set 0 a = a :: l := List.set_cons_zero ..
theorem zqc {α : Type} (x a : α) (l : List α) (n : Nat) : (x :: l).set (n + 1) a = x :: l.set n a := List.set_cons_succ ..
theorem M.find_before {α:Type} {p:α→Bool} {xs:List α} {y:α} {n:Nat} (h:xs.find? p=some y) (hn:n < xs.length) (hne:∀ i (h:i < xs.length),i≤n→xs[i]≠y):p xs[n]=false:=by
 obtain ⟨_,i,hi,e,hb⟩:=List.find?_eq_some_iff_getElem.1 h
 have hin:n < i:=by
  rcases Nat.lt_or_ge n i with h | h
  ·exact h
  ·exact absurd e (hne i hi h)
 have:=hb n hin
 simpa using this
set_option maxHeartbeats 4000000 in
set_option maxRecDepth 100000 in
set_option linter.unusedSimpArgs false in
theorem lawYf_any (ca:Option Addr) (cb co L C:Nat) (x:Nat→Int) (w:World) (hL:L≤C) (had:0 < L→ca=some ⟨cb,co,none⟩) (hc:∀ i,i < L→w.cell? ⟨cb,co+i,none⟩=some (.int .u8 (x i))∧0≤x i∧x i≤255) :
  Calls Tryz.prog 5 #[.slice ca L C] w fun e w'=>e=.returned (.bool true)∧Below w.heap.size w w':=by
 by_cases hLb:L≤1048576
 ·go_enter Tryz.func5,Tryz.ntmps5
  go_wp2_with fail
  refine (DrawWhyExec_any ca cb co L C x _ hL had hc hLb).mono ?_
  rintro e w1 ⟨a,g,c,mm,s,kind,rfl,hD,k0,k1⟩
  have hls:=hD.sm.le
  have hl3:mm.length≤1048576:=by have:=hD.sm.three;omega
  have hsl:=hD.le
  have bx0:=BxY.new hD
  clear had hc hD
  go_wp2_with fail
  generalize (w1.alloc (.cells #[.slice a mm.length c] 25)).alloc (.cells #[.slice s.a1 s.l1.length s.c1,.slice s.a2 s.l2.length s.c2] 28)=W0 at *
  obtain ⟨S,hSe⟩:∃ S,w1.heap.size+1=S:=⟨_,rfl⟩
  rw [hSe] at bx0 ⊢
  clear hSe
  generalize w1.heap.size=P at *
  have CS:=fun (W:World) (h:BxY w W P S a g c mm s)=>swhyExec_any a g 0 c mm s kind W hl3 hls hsl h.ss h.sa
  have CI:=fun (W:World) (h:BxY w W P S a g c mm s)=>iwhyExec_any a g 0 c mm s kind W hl3 hls hsl h.ss h.sa
  have hxl:=M.why_getD_le (ll:=mm) (t1:=s.l1) (t2:=s.l2) (k:=kind)
  obtain ⟨r,hr⟩:∃ r,M.whyExec mm s.l1 s.l2 kind=r:=⟨_,rfl⟩
  have HR:Hid (M.whyExec mm s.l1 s.l2 kind=r):=hr
  rw [M.swhy_same] at CS
  rw [hr] at CI CS hxl
  clear hr
  have p0:=bx0.p.c
  have q0:=bx0.sb.c0
  have q1:=bx0.sb.c1
  refine (CS W0 bx0).mono ?_
  rintro e W1 ⟨v,rfl,hA⟩
  have hAR:=hA.r
  obtain ⟨fa,fb,fc,ra,rb,rc,rfl,hf,ho⟩:=hAR.ex
  have bx1:=(bx0.below hAR.bel).below (below1 W1 (.cells #[.slice fa (r.getD ([],[])).1.length fc,.slice ra (r.getD ([],[])).2.length rc] 33))
  have x1:=BxWy.new (fc:=fc) (rc:=rc) hf ho
  clear hA hAR hf ho bx0 p0 q0 q1 CS
  have p0:=bx1.p.c
  have q0:=bx1.sb.c0
  have q1:=bx1.sb.c1
  go_wp2_with fail
  generalize W1.alloc (.cells #[.slice fa (r.getD ([],[])).1.length fc,.slice ra (r.getD ([],[])).2.length rc] 33)=W2 at *
  generalize W1.heap.size=X1 at *
  refine (CI W2 bx1).mono ?_
  rintro e W3 ⟨v,rfl,hA⟩
  have hAR:=hA.r
  obtain ⟨ga,gb,gc,oa,ob,oc,rfl,hf,ho⟩:=hAR.ex
  have bx3:=(bx1.below hAR.bel).below (below1 W3 (.cells #[.slice ga (r.getD ([],[])).1.length gc,.slice oa (r.getD ([],[])).2.length oc] 33))
  have x3:=(x1.below hAR.bel).below (below1 W3 (.cells #[.slice ga (r.getD ([],[])).1.length gc,.slice oa (r.getD ([],[])).2.length oc] 33))
  have y3:=BxWy.new (fc:=gc) (rc:=oc) hf ho
  clear hA hAR hf ho bx1 p0 q0 q1 CI x1
  have p0:=bx3.p.c
  have q0:=bx3.sb.c0
  have q1:=bx3.sb.c1
  have u0:=x3.xb.c0
  have u1:=x3.xb.c1
  have v0:=y3.xb.c0
  have v1:=y3.xb.c1
  have CE:=fun (W:World) (h1:BxWy W X1 fa fb fc ra rb rc (r.getD ([],[]))) (h2:BxWy W W3.heap.size ga gb gc oa ob oc (r.getD ([],[])))=>lpExec_any (r.getD ([],[])) (r.getD ([],[])) ga gb gc oa ob oc fa fb fc ra rb rc W hxl.a hxl.b hxl.c h2.f h2.o h1.f h1.o
  have EE:M.eqWy (r.getD ([],[])) (r.getD ([],[]))=true:=by simp [M.eqWy]
  rw [EE] at CE
  clear EE
  obtain ⟨y,hy⟩:∃ y,r.getD ([],[])=y:=⟨_,rfl⟩
  have HYR:Hid (r.getD ([],[])=y):=hy
  simp only [hy] at hxl x3 y3 u0 u1 v0 v1 bx3 p0 q0 q1 CE ⊢
  clear hy
  cases r with
  | none =>
   simp only [Option.isSome_none]
   go_wp2_with fail
   generalize W3.alloc (.cells #[.slice ga y.1.length gc,.slice oa y.2.length oc] 33)=W4 at *
   generalize W3.heap.size=X3 at *
   refine (CE W4 x3 y3).mono ?_
   rintro e W5 ⟨rfl,b5⟩
   have bx5:=bx3.below b5
   have x5:=x3.below b5
   have y5:=y3.below b5
   clear u0 u1 v0 v1 p0 q0 q1
   have u0:=x5.xb.c0
   have u1:=x5.xb.c1
   have v0:=y5.xb.c0
   have v1:=y5.xb.c1
   go_wp2_with fail
   refine (CE W5 x5 y5).mono ?_
   rintro e W6 ⟨rfl,b6⟩
   have bx6:=bx5.below b6
   go_wp2_with fail
   go_ret
   exact ⟨rfl,bx6.bel⟩
  | some z =>
   simp only [Option.isSome_some]
   obtain rfl:z=y:=HYR.out
   obtain ⟨y,rfl⟩:∃ y,y=z:=⟨_,rfl⟩
   clear HYR
   have HFI0:Hid ((M.specAll mm).find? (M.swhyGood mm s.l1 s.l2 kind)=some y):=(M.swhy_same mm s.l1 s.l2 kind).trans HR.out
   clear HR
   go_wp2_with fail
   generalize W3.alloc (.cells #[.slice ga y.1.length gc,.slice oa y.2.length oc] 33)=W4 at *
   generalize W3.heap.size=X3 at *
   refine (CE W4 x3 y3).mono ?_
   rintro e W5 ⟨rfl,b5⟩
   have bx5:=bx3.below b5
   have y5:=y3.below b5
   clear u0 u1 v0 v1 p0 q0 q1 x3 y3 b5 bx3 CE
   have p0:=bx5.p.c
   go_wp2_with fail
   refine (iexecAll_any a g 0 c mm W5 hl3 hls bx5.ss).mono ?_
   rintro e W6 ⟨v6,rfl,hA⟩
   obtain ⟨av,gv,cv,rfl,hlw,hle,hlen⟩:=hA.lw
   have bx6:=bx5.below hA.bel
   have y6:=y5.below hA.bel
   clear hA bx5 y5 p0
   have hal:∀ x∈M.specAll mm,M.execOk mm x.1 x.2=true:=fun x hx=>M.mem_execAll.1 hx
   have HAL:Hid (∀ x∈M.specAll mm,M.execOk mm x.1 x.2=true):=hal
   clear hal
   have HFI:Hid ((M.specAll mm).find? (M.swhyGood mm s.l1 s.l2 kind)=some y):=HFI0
   clear HFI0
   generalize M.specAll mm=xs at *
   go_wp2_with fail
   go_loopw [11] (fun s11 wr=>∃ n:Nat,s11=.int .i64 n∧n≤xs.length∧Hid (∀ i (h:i < xs.length),i < n→xs[i]≠y)∧Below W6.heap.size W6 wr) (fun s11 _=>xs.length - (intOf s11).toNat)
   case atStart=>exact ⟨0,rfl,Nat.zero_le _,fun i _ h=>by omega,Below.refl _ _⟩
   case round =>
    obtain ⟨n,rfl,hn,HN,hb⟩:=hrel
    have bxr:=bx6.below hb
    have yr:=y6.below hb
    have lwr:=hlw.below hb
    by_cases hlt:n < xs.length
    ·have i1:(n:Int) < xs.length:=by omega
     have i0:¬ (n:Int) < 0:=by omega
     obtain rfl:=hlw.addr (by omega)
     obtain ⟨fa2,fb2,fc2,ra2,rb2,rc2,k1,k2,k3,k4⟩:=lwr.row n hlt
     have hy:=hle _ (List.getElem_mem hlt)
     have hzo:=HAL.out _ (List.getElem_mem hlt)
     have HGB:Hid ((∀ i (h:i < xs.length),i≤n→xs[i]≠y)→M.swhyGood mm s.l1 s.l2 kind xs[n]=false):=fun h=>M.find_before HFI.out hlt h
     have HXN:Hid (∀ z,xs[n]=z→z≠y→∀ i (h:i < xs.length),i < n+1→xs[i]≠y):=by
      intro z hz hne i hi hin
      by_cases e:i=n
      ·subst e;rw [hz];exact hne
      ·exact HN.out i hi (by omega)
     obtain ⟨z,hz⟩:∃ z,xs[n]=z:=⟨_,rfl⟩
     have HX2:Hid (z≠y→∀ i (h:i < xs.length),i < n+1→xs[i]≠y):=HXN.out z hz
     have HG2:Hid (z≠y→M.swhyGood mm s.l1 s.l2 kind z=false):=fun h=>by
      rw [← hz];exact HGB.out fun i hi hin=>HX2.out h i hi (by omega)
     rw [hz] at k1 k2 k3 k4 hy hzo
     have HZO:Hid (M.execOk mm z.1 z.2=true):=hzo
     clear hz HGB HXN hzo
     obtain ⟨wo,rfl⟩:∃ wo:World,wo=wr:=⟨_,rfl⟩
     have CL:=fun (W:World) (h:Below wo.heap.size wo W)=>lpExec_any z y fa2 fb2 fc2 ra2 rb2 rc2 ga gb gc oa ob oc W hy.a hy.b hy.c (k3.below h (Nat.le_refl _)) (k4.below h (Nat.le_refl _)) (yr.below h).f (yr.below h).o
     have fl0:∀ w',Below wo.heap.size wo w'→w'.cell? ⟨gv,n * 2,none⟩=some (.slice fa2 z.1.length fc2):=fun w' h=>(h.cell (p:=⟨gv,n * 2,none⟩) (World.block_lt_of_cell? _ _ k1)).trans k1
     have fl1:∀ w',Below wo.heap.size wo w'→w'.cell? ⟨gv,n * 2+1,none⟩=some (.slice ra2 z.2.length rc2):=fun w' h=>(h.cell (p:=⟨gv,n * 2+1,none⟩) (World.block_lt_of_cell? _ _ k2)).trans k2
     have fy0:∀ w',Below wo.heap.size wo w'→w'.cell? ⟨X3,0,none⟩=some (.slice ga y.1.length gc):=fun w' h=>(yr.below h).xb.c0
     have fy1:∀ w',Below wo.heap.size wo w'→w'.cell? ⟨X3,1,none⟩=some (.slice oa y.2.length oc):=fun w' h=>(yr.below h).xb.c1
     clear k1 k2
     go_wp2_with fail
     refine wp_region_held_drew (S:=fun w'=>Below wo.heap.size wo w') (by kernel_rfl) (Below.refl _ _).drew (fun hH=>?_)
     refine tk 0 60 (.int .i64 n) hH rfl rfl (by intro w' hSw;go_simp) ?_
     simp only [Act.put,zqa,zqb,zqc]
     refine tk 1 61 (.slice (some ⟨gv,0,none⟩) xs.length cv) hH rfl rfl (by intro w' hSw;go_simp) ?_
     simp only [Act.put,zqa,zqb,zqc]
     refine tk 2 62 (.int .i64 xs.length) hH rfl rfl (by intro w' hSw;go_simp) ?_
     simp only [Act.put,zqa,zqb,zqc]
     refine tk 3 63 (.bool true) hH rfl rfl (by intro w' hSw;go_simp) ?_
     simp only [Act.put,zqa,zqb,zqc]
     refine tk 4 64 (.bool true) hH rfl rfl (by intro w' hSw;go_simp) ?_
     simp only [Act.put,zqa,zqb,zqc]
     refine tk 5 65 (.slice (some ⟨gv,0,none⟩) xs.length cv) hH rfl rfl (by intro w' hSw;go_simp) ?_
     simp only [Act.put,zqa,zqb,zqc]
     refine tk 6 66 (.int .i64 n) hH rfl rfl (by intro w' hSw;go_simp) ?_
     simp only [Act.put,zqa,zqb,zqc]
     refine tk 7 67 (.pointer (some ⟨gv,n * 2,none⟩)) hH rfl rfl (by intro w' hSw;go_simp) ?_
     simp only [Act.put,zqa,zqb,zqc]
     refine tk 8 68 (.agg #[.slice fa2 z.1.length fc2,.slice ra2 z.2.length rc2]) hH rfl rfl (by intro w' hSw;have hc0:=fl0 w' hSw;have hc1:=fl1 w' hSw;go_simp) ?_
     simp only [Act.put,zqa,zqb,zqc]
     refine tk 9 69 (.agg #[.slice ga y.1.length gc,.slice oa y.2.length oc]) hH rfl rfl (by intro w' hSw;have hc0:=fy0 w' hSw;have hc1:=fy1 w' hSw;go_simp) ?_
     simp only [Act.put,zqa,zqb,zqc]
     refine ry 10 rfl (fun K' hK=>?_)
     refine sg 70 rfl 13 #[.tmp 68,.tmp 69] rfl #[.agg #[.slice fa2 z.1.length fc2,.slice ra2 z.2.length rc2],.agg #[.slice ga y.1.length gc,.slice oa y.2.length oc]] (enters_of Tryz.func13 (by kernel_rfl) rfl) (CL _ hH) ?_
     rintro e W7 ⟨rfl,b7⟩
     obtain ⟨q,hq⟩:∃ q,M.eqWy z y=q:=⟨_,rfl⟩
     have HQ:Hid (M.eqWy z y=q):=hq
     rw [hq]
     clear hq
     refine ⟨_,rfl,hK.out _ _ (hH.trans (b7.mono hH.size)) (fun hH1=>?_)⟩
     clear hK K'
     simp only [Act.put,zqa,zqb,zqc]
     refine tk 11 71 (.bool (!q)) hH1 rfl rfl (by intro w' hSw;go_simp) ?_
     simp only [Act.put,zqa,zqb,zqc]
     refine tk 12 72 (.bool (!q)) hH1 rfl rfl (by intro w' hSw;go_simp) ?_
     simp only [Act.put,zqa,zqb,zqc]
     refine wpAnyH_done (by kernel_rfl) ?_ _
     clear CL fy0 fy1
     cases q
     ·have hne:z≠y:=fun e=>by have:=HQ.out;rw [e] at this;simp [M.eqWy] at this
      have HNX:Hid (∀ i (h:i < xs.length),i < n+1→xs[i]≠y):=HX2.out hne
      have HGZ:Hid (M.swhyGood mm s.l1 s.l2 kind z=false):=HG2.out hne
      clear HQ HX2 HG2 HN hne
      have bxs:=bxr.below hH1
      have bW:=hb.trans (hH1.mono hb.size)
      have j3:=k3.below hH1 (Nat.le_refl _)
      have j4:=k4.below hH1 (Nat.le_refl _)
      have gl0:∀ w',Below W7.heap.size W7 w'→w'.cell? ⟨gv,n * 2,none⟩=some (.slice fa2 z.1.length fc2):=fun w' h=>fl0 w' (hH1.trans (h.mono hH1.size))
      have gl1:∀ w',Below W7.heap.size W7 w'→w'.cell? ⟨gv,n * 2+1,none⟩=some (.slice ra2 z.2.length rc2):=fun w' h=>fl1 w' (hH1.trans (h.mono hH1.size))
      clear bxr yr hb k3 k4 hH1 hH lwr b7 fl0 fl1
      obtain ⟨wo,rfl⟩:∃ wo:World,wo=W7:=⟨_,rfl⟩
      have gp:∀ w',Below wo.heap.size wo w'→w'.cell? ⟨P,0,none⟩=some (.slice a mm.length c):=fun w' h=>(bxs.below h).p.c
      have C14:=fun (W:World) (h:Below wo.heap.size wo W)=>iexecSeen_any a g 0 c mm fa2 fb2 0 fc2 z.1 ra2 rb2 0 rc2 z.2 W hl3 hls hy.a hy.b hy.c (bxs.below h).ss (j3.below h (Nat.le_refl _)) (j4.below h (Nat.le_refl _))
      rw [HZO.out] at C14
      go_wp2_with fail
      go_cut [12] from 75 to 83 (fun s12 wc=>∃ X,∃ t:Sn,s12=.pointer (some ⟨X,0,none⟩)∧t.l1=(M.execSeen mm z.1 z.2).1∧t.l2=(M.execSeen mm z.1 z.2).2∧SnBox wo X t wc)
      case first =>
       refine wp_region_held_drew (S:=fun w'=>Below wo.heap.size wo w') (by kernel_rfl) (Below.refl _ _).drew (fun hH=>?_)
       refine tk 0 76 (.agg #[.slice a mm.length c]) hH rfl rfl (by intro w' hSw;have hc0:=gp w' hSw;go_simp) ?_
       simp only [Act.put,zqa,zqb,zqc]
       refine tk 1 77 (.slice (some ⟨gv,0,none⟩) xs.length cv) hH rfl rfl (by intro w' hSw;go_simp) ?_
       simp only [Act.put,zqa,zqb,zqc]
       refine tk 2 78 (.int .i64 n) hH rfl rfl (by intro w' hSw;go_simp) ?_
       simp only [Act.put,zqa,zqb,zqc]
       refine tk 3 79 (.pointer (some ⟨gv,n * 2,none⟩)) hH rfl rfl (by intro w' hSw;go_simp) ?_
       simp only [Act.put,zqa,zqb,zqc]
       refine tk 4 80 (.agg #[.slice fa2 z.1.length fc2,.slice ra2 z.2.length rc2]) hH rfl rfl (by intro w' hSw;have hc0:=gl0 w' hSw;have hc1:=gl1 w' hSw;go_simp) ?_
       simp only [Act.put,zqa,zqb,zqc]
       refine wpAnyH_ready (rs:=[5,9]) (by kernel_rfl) (by simp) ?_
       refine AllReadyH.cons rfl (fun K' hK=>?_) (AllReadyH.cons rfl (fun K' hK=>?_) AllReadyH.nil)
       ·refine sg 81 rfl 14 #[.tmp 76,.tmp 80] rfl #[.agg #[.slice a mm.length c],.agg #[.slice fa2 z.1.length fc2,.slice ra2 z.2.length rc2]] (enters_of Tryz.func14 (by kernel_rfl) rfl) (C14 _ hH) ?_
        rintro e Wc ⟨t,rfl,ht1,ht2,hnew,bT⟩
        have hta:=hnew.at_
        have HT1:Hid (t.l1=_):=ht1
        have HT2:Hid (t.l2=_):=ht2
        clear ht1 ht2
        refine ⟨_,rfl,hK.out _ _ (hH.trans (bT.mono hH.size)) (fun hHc=>?_)⟩
        clear hK K'
        simp only [Act.put,zqa,zqb,zqc]
        refine tk 6 75 (.tuple #[.agg #[.slice t.a1 t.l1.length t.c1,.slice t.a2 t.l2.length t.c2],.bool true]) hHc rfl rfl (by intro w' hSw;go_simp) ?_
        simp only [Act.put,zqa,zqb,zqc]
        refine tk 7 82 (.agg #[.slice t.a1 t.l1.length t.c1,.slice t.a2 t.l2.length t.c2]) hHc rfl rfl (by intro w' hSw;go_simp) ?_
        simp only [Act.put,zqa,zqb,zqc]
        refine tk 8 83 (.bool true) hHc rfl rfl (by intro w' hSw;go_simp) ?_
        simp only [Act.put,zqa,zqb,zqc]
        refine ry 9 rfl (fun K' hK=>?_)
        rw [if_pos (by rfl)]
        go_simp
        refine hK.out _ _ (hHc.alloc hHc.size _) (fun hHd=>?_)
        clear hK K'
        refine ry 10 rfl (fun K' hK=>?_)
        rw [if_pos (by rfl)]
        go_simp
        have hF:SnBox wo Wc.heap.size t (Wc.alloc (.cells #[.slice t.a1 t.l1.length t.c1,.slice t.a2 t.l2.length t.c2] 28)):=⟨hHc.alloc hHc.size _,by simp,by simp,hta.below (below1 Wc _) (Nat.le_refl _)⟩
        refine hK.out _ _ hF.bel (fun hHe=>?_)
        clear hK K'
        refine tk 11 13 (.bool true) hHe rfl rfl (by intro w' hSw;go_simp) ?_
        simp only [Act.put,zqa,zqb,zqc]
        refine wpAnyH_done (by kernel_rfl) ?_ _
        go_wp2_with fail
        go_meet
        case rel=>exact ⟨_,t,rfl,HT1.out,HT2.out,hF⟩
       ·rw [if_pos (by rfl)]
        go_simp
        refine hK.out _ _ (hH.alloc hH.size (.cells #[.slice none 0 0,.slice none 0 0] 28)) (fun hHa=>?_)
        clear hK K'
        refine ry 5 rfl (fun K' hK=>?_)
        refine sg 81 rfl 14 #[.tmp 76,.tmp 80] rfl #[.agg #[.slice a mm.length c],.agg #[.slice fa2 z.1.length fc2,.slice ra2 z.2.length rc2]] (enters_of Tryz.func14 (by kernel_rfl) rfl) (C14 _ hHa) ?_
        rintro e Wc ⟨t,rfl,ht1,ht2,hnew,bT⟩
        have hta:=hnew.at_
        have htg1:=hnew.ge1
        have htg2:=hnew.ge2
        have HT1:Hid (t.l1=_):=ht1
        have HT2:Hid (t.l2=_):=ht2
        clear ht1 ht2
        refine ⟨_,rfl,hK.out _ _ (hHa.trans (bT.mono hHa.size)) (fun hHc=>?_)⟩
        clear hK K'
        simp only [Act.put,zqa,zqb,zqc]
        refine tk 6 75 (.tuple #[.agg #[.slice t.a1 t.l1.length t.c1,.slice t.a2 t.l2.length t.c2],.bool true]) hHc rfl rfl (by intro w' hSw;go_simp) ?_
        simp only [Act.put,zqa,zqb,zqc]
        refine tk 7 82 (.agg #[.slice t.a1 t.l1.length t.c1,.slice t.a2 t.l2.length t.c2]) hHc rfl rfl (by intro w' hSw;go_simp) ?_
        simp only [Act.put,zqa,zqb,zqc]
        refine tk 8 83 (.bool true) hHc rfl rfl (by intro w' hSw;go_simp) ?_
        simp only [Act.put,zqa,zqb,zqc]
        have hN0:(wo.alloc (.cells #[.slice none 0 0,.slice none 0 0] 28)).heap[wo.heap.size]?=some (.cells #[.slice none 0 0,.slice none 0 0] 28 (0,0)):=heap_alloc_new wo _
        have hS:Wc.heap[wo.heap.size]?=some (.cells #[.slice none 0 0,.slice none 0 0] 28 (0,0)):=(bT.block _ (by simp)).trans hN0
        have k0:Wc.cell? ⟨wo.heap.size,0,none⟩=some (.slice none 0 0):=by unfold World.cell?;simp only;rw [hS];rfl
        have k1:Wc.cell? ⟨wo.heap.size,1,none⟩=some (.slice none 0 0):=by unfold World.cell?;simp only;rw [hS];rfl
        have kz:∀ j,Wc.frozen? ⟨wo.heap.size,j,none⟩=false:=fun j=>by unfold World.frozen?;simp only;rw [hS];simp
        refine ry 10 rfl (fun K' hK=>?_)
        rw [if_pos (by rfl)]
        go_simp
        have hF:=snbox_stored wo Wc t (.cells #[.slice none 0 0,.slice none 0 0] 28) ((Below.refl _ _).drew.trans bT) k0 k1 hta htg1 htg2
        refine hK.out _ _ hF.bel (fun hHe=>?_)
        clear hK K' k0 k1 kz hS hN0
        refine tk 11 13 (.bool true) hHe rfl rfl (by intro w' hSw;go_simp) ?_
        simp only [Act.put,zqa,zqb,zqc]
        refine wpAnyH_done (by kernel_rfl) ?_ _
        go_wp2_with fail
        go_meet
        case rel=>exact ⟨_,t,rfl,HT1.out,HT2.out,hF⟩
      case rest =>
       obtain ⟨X,t,rfl,ht1,ht2,hQ⟩:=hcut
       have HT1:Hid (t.l1=_):=ht1
       have HT2:Hid (t.l2=_):=ht2
       clear ht1 ht2
       obtain ⟨wz,rfl⟩:∃ wz:World,wz=wc:=⟨_,rfl⟩
       have hbq:=hQ.bel
       have bxq:=bxs.below hbq
       have htq:=hQ.at_
       have hsl2:=M.execSeen_le HZO.out
       have htl:t.Le 1048576:=⟨by rw [HT1.out];exact hsl2.1,by rw [HT2.out];exact hsl2.2⟩
       clear hsl2
       have ge0:=hQ.s0
       have ge1:=hQ.s1
       have gt0:∀ w',Below wz.heap.size wz w'→w'.cell? ⟨X,0,none⟩=some (.slice t.a1 t.l1.length t.c1):=fun w' h=>(h.cell (p:=⟨X,0,none⟩) (World.block_lt_of_cell? _ _ ge0)).trans ge0
       have gt1:∀ w',Below wz.heap.size wz w'→w'.cell? ⟨X,1,none⟩=some (.slice t.a2 t.l2.length t.c2):=fun w' h=>(h.cell (p:=⟨X,1,none⟩) (World.block_lt_of_cell? _ _ ge1)).trans ge1
       have gs0:∀ w',Below wz.heap.size wz w'→w'.cell? ⟨S,0,none⟩=some (.slice s.a1 s.l1.length s.c1):=fun w' h=>(bxq.below h).sb.c0
       have gs1:∀ w',Below wz.heap.size wz w'→w'.cell? ⟨S,1,none⟩=some (.slice s.a2 s.l2.length s.c2):=fun w' h=>(bxq.below h).sb.c1
       have gq:∀ w',Below wz.heap.size wz w'→w'.cell? ⟨P,0,none⟩=some (.slice a mm.length c):=fun w' h=>(bxq.below h).p.c
       have gm0:∀ w',Below wz.heap.size wz w'→w'.cell? ⟨gv,n * 2,none⟩=some (.slice fa2 z.1.length fc2):=fun w' h=>gl0 w' (hbq.trans (h.mono hbq.size))
       have gm1:∀ w',Below wz.heap.size wz w'→w'.cell? ⟨gv,n * 2+1,none⟩=some (.slice ra2 z.2.length rc2):=fun w' h=>gl1 w' (hbq.trans (h.mono hbq.size))
       have CSM:=fun (W:World) (h:Below wz.heap.size wz W)=>lpSame_any t s W htl (htq.below h (Nat.le_refl _)) (bxq.below h).sa
       have COH:=fun (W:World) (h:Below wz.heap.size wz W)=>iorderHolds_any a g 0 c mm fa2 fb2 0 fc2 z.1 ra2 rb2 0 rc2 z.2 kind W hl3 hls hy.a hy.b hy.c (bxq.below h).ss (j3.below (hbq.trans (h.mono hbq.size)) (Nat.le_refl _)) (j4.below (hbq.trans (h.mono hbq.size)) (Nat.le_refl _))
       obtain ⟨q1,hq1⟩:∃ q,M.sameS t.l1 t.l2 s.l1 s.l2=q:=⟨_,rfl⟩
       obtain ⟨q2,hq2⟩:∃ q,M.orderHolds mm z.1 z.2 kind=q:=⟨_,rfl⟩
       rw [hq1] at CSM
       rw [hq2] at COH
       have HQQ:Hid ((q1&&q2)=false):=by
        show _=_
        have h1:=HGZ.out
        unfold M.swhyGood at h1
        rw [hq2] at h1
        rw [M.sameS_eq,HT1.out,HT2.out] at hq1
        rw [← h1,← hq1]
        rfl
       have hbF:=bW.trans (hbq.mono bW.size)
       clear hq1 hq2 HGZ C14 gl0 gl1 gp hQ ge0 ge1 j3 j4 HT1 HT2 htq htl
       go_wp2_with fail
       refine wp_region_held_drew (S:=fun w'=>Below wz.heap.size wz w') (by kernel_rfl) (Below.refl _ _).drew (fun hH=>?_)
       refine tk 0 84 (.agg #[.slice t.a1 t.l1.length t.c1,.slice t.a2 t.l2.length t.c2]) hH rfl rfl (by intro w' hSw;have hc0:=gt0 w' hSw;have hc1:=gt1 w' hSw;go_simp) ?_
       simp only [Act.put,zqa,zqb,zqc]
       refine tk 1 85 (.agg #[.slice s.a1 s.l1.length s.c1,.slice s.a2 s.l2.length s.c2]) hH rfl rfl (by intro w' hSw;have hc0:=gs0 w' hSw;have hc1:=gs1 w' hSw;go_simp) ?_
       simp only [Act.put,zqa,zqb,zqc]
       refine ry 2 rfl (fun K' hK=>?_)
       refine sg 86 rfl 15 #[.tmp 84,.tmp 85] rfl #[.agg #[.slice t.a1 t.l1.length t.c1,.slice t.a2 t.l2.length t.c2],.agg #[.slice s.a1 s.l1.length s.c1,.slice s.a2 s.l2.length s.c2]] (enters_of Tryz.func15 (by kernel_rfl) rfl) (CSM _ hH) ?_
       rintro e W8 ⟨rfl,b8g⟩
       have b8:=b8g.bel
       refine ⟨_,rfl,hK.out _ _ (hH.trans (b8.mono hH.size)) (fun hH1=>?_)⟩
       clear hK K'
       simp only [Act.put,zqa,zqb,zqc]
       cases q1
       ·refine tk 3 87 (.bool false) hH1 rfl rfl (by intro w' hSw;go_simp) ?_
        simp only [Act.put,zqa,zqb,zqc]
        refine tz 4 88 hH1 rfl rfl ?_
        simp only [Act.put,zqa,zqb,zqc]
        refine tz 5 89 hH1 rfl rfl ?_
        simp only [Act.put,zqa,zqb,zqc]
        refine tz 6 90 hH1 rfl rfl ?_
        simp only [Act.put,zqa,zqb,zqc]
        refine tz 7 91 hH1 rfl rfl ?_
        simp only [Act.put,zqa,zqb,zqc]
        refine tz 8 92 hH1 rfl rfl ?_
        simp only [Act.put,zqa,zqb,zqc]
        refine tz 9 93 hH1 rfl rfl ?_
        simp only [Act.put,zqa,zqb,zqc]
        refine tz 10 94 hH1 rfl rfl ?_
        simp only [Act.put,zqa,zqb,zqc]
        refine tk 11 95 (.bool false) hH1 rfl rfl (by intro w' hSw;go_simp) ?_
        simp only [Act.put,zqa,zqb,zqc]
        refine wpAnyH_done (by kernel_rfl) ?_ _
        clear CSM COH gt0 gt1 gs0 gs1 gq gm0 gm1
        go_wp2_with fail
        have bF:=hbF.trans (hH1.mono hbF.size)
        exact ⟨⟨n+1,by go_num,by omega,HNX,bF⟩,by simp [intOf];omega⟩
       ·obtain rfl:q2=false:=by have:=HQQ.out;simpa using this
        refine tk 3 87 (.bool true) hH1 rfl rfl (by intro w' hSw;go_simp) ?_
        simp only [Act.put,zqa,zqb,zqc]
        refine tk 4 88 (.agg #[.slice a mm.length c]) hH1 rfl rfl (by intro w' hSw;have hc0:=gq w' hSw;go_simp) ?_
        simp only [Act.put,zqa,zqb,zqc]
        refine tk 5 89 (.slice (some ⟨gv,0,none⟩) xs.length cv) hH1 rfl rfl (by intro w' hSw;go_simp) ?_
        simp only [Act.put,zqa,zqb,zqc]
        refine tk 6 90 (.int .i64 n) hH1 rfl rfl (by intro w' hSw;go_simp) ?_
        simp only [Act.put,zqa,zqb,zqc]
        refine tk 7 91 (.pointer (some ⟨gv,n * 2,none⟩)) hH1 rfl rfl (by intro w' hSw;go_simp) ?_
        simp only [Act.put,zqa,zqb,zqc]
        refine tk 8 92 (.agg #[.slice fa2 z.1.length fc2,.slice ra2 z.2.length rc2]) hH1 rfl rfl (by intro w' hSw;have hc0:=gm0 w' hSw;have hc1:=gm1 w' hSw;go_simp) ?_
        simp only [Act.put,zqa,zqb,zqc]
        refine tk 9 93 (.int .i64 kind) hH1 rfl rfl (by intro w' hSw;go_simp) ?_
        simp only [Act.put,zqa,zqb,zqc]
        refine ry 10 rfl (fun K' hK=>?_)
        refine sg 94 rfl 16 #[.tmp 88,.tmp 92,.tmp 93] rfl #[.agg #[.slice a mm.length c],.agg #[.slice fa2 z.1.length fc2,.slice ra2 z.2.length rc2],.int .i64 kind] (enters_of Tryz.func16 (by kernel_rfl) rfl) (COH _ hH1) ?_
        rintro e W9 ⟨rfl,b9⟩
        refine ⟨_,rfl,hK.out _ _ (hH1.trans (b9.mono hH1.size)) (fun hH2=>?_)⟩
        clear hK K'
        simp only [Act.put,zqa,zqb,zqc]
        refine tk 11 95 (.bool false) hH2 rfl rfl (by intro w' hSw;go_simp) ?_
        simp only [Act.put,zqa,zqb,zqc]
        refine wpAnyH_done (by kernel_rfl) ?_ _
        clear CSM COH gt0 gt1 gs0 gs1 gq gm0 gm1
        go_wp2_with fail
        have bF:=hbF.trans (hH2.mono hbF.size)
        exact ⟨⟨n+1,by go_num,by omega,HNX,bF⟩,by simp [intOf];omega⟩
     ·have bF:=bxr.below hH1
      clear HX2 HG2 HN
      go_wp2_with fail
      go_ret
      exact ⟨rfl,bF.bel⟩
    ·have i1:¬ (n:Int) < xs.length:=by omega
     obtain ⟨wo,rfl⟩:∃ wo:World,wo=wr:=⟨_,rfl⟩
     clear HN
     go_wp2_with fail
     refine wp_region_held_drew (S:=fun w'=>Below wo.heap.size wo w') (by kernel_rfl) (Below.refl _ _).drew (fun hH=>?_)
     refine tk 0 60 (.int .i64 n) hH rfl rfl (by intro w' hSw;go_simp) ?_
     simp only [Act.put,zqa,zqb,zqc]
     refine tk 1 61 (.slice av xs.length cv) hH rfl rfl (by intro w' hSw;go_simp) ?_
     simp only [Act.put,zqa,zqb,zqc]
     refine tk 2 62 (.int .i64 xs.length) hH rfl rfl (by intro w' hSw;go_simp) ?_
     simp only [Act.put,zqa,zqb,zqc]
     refine tk 3 63 (.bool false) hH rfl rfl (by intro w' hSw;go_simp) ?_
     simp only [Act.put,zqa,zqb,zqc]
     refine tk 4 64 (.bool false) hH rfl rfl (by intro w' hSw;go_simp) ?_
     simp only [Act.put,zqa,zqb,zqc]
     refine tz 5 65 hH rfl rfl ?_
     simp only [Act.put,zqa,zqb,zqc]
     refine tz 6 66 hH rfl rfl ?_
     simp only [Act.put,zqa,zqb,zqc]
     refine tz 7 67 hH rfl rfl ?_
     simp only [Act.put,zqa,zqb,zqc]
     refine tz 8 68 hH rfl rfl ?_
     simp only [Act.put,zqa,zqb,zqc]
     refine tz 9 69 hH rfl rfl ?_
     simp only [Act.put,zqa,zqb,zqc]
     refine tz 10 70 hH rfl rfl ?_
     simp only [Act.put,zqa,zqb,zqc]
     refine tz 11 71 hH rfl rfl ?_
     simp only [Act.put,zqa,zqb,zqc]
     refine tk 12 72 (.bool false) hH rfl rfl (by intro w' hSw;go_simp) ?_
     simp only [Act.put,zqa,zqb,zqc]
     refine wpAnyH_done (by kernel_rfl) ?_ _
     have bF:=bxr.below hH
     go_wp2_with fail
     go_ret
     exact ⟨rfl,bF.bel⟩
 ·go_enter Tryz.func5,Tryz.ntmps5
  go_wp2_with fail
  go_ret
  exact ⟨rfl,Below.refl _ _⟩
end
end Go.Proofs.YtegommoflmmahaaGreat
