/- The law FnExactMachSome, walked: it answers true, and leaves all as it was. Of programs and turns of at most 9223372036854775807 parts each: more than a machine holds. -/
import Derived.Deep.OwnRows
import Derived.Test.YtnddmlgnngdaoaaRows
import Derived.Test.YtnddmlgnngdaoaaQjbn
import Derived.Test.YtnddmlgnngdaoaaQjbo
import Derived.Test.YtnddmlgnngdaoaaQjbp
import Derived.Test.YtnddmlgnngdaoaaQjbt
namespace Go.Proofs.Ytnddmlgnngdaoaa
section
open Go.RowKit
set_option maxHeartbeats 8000000 in
set_option maxRecDepth 100000 in
theorem lawMs_any (a:Option Addr) (b o c:Nat) (ll:List (List M.D)) (ga:Option Addr) (gb go gc:Nat) (gs:List Int) (w:World) (hl0:ll.length≤9223372036854775807) (hls0:∀ t∈ll,t.length≤9223372036854775807) (hsa:DoSS w a b o ll) (hG:IntS w ga gb go gs) (hk:∀ k∈gs,-9223372036854775808≤k∧k < 9223372036854775808) :
  Calls Try.prog 3 #[.agg #[.slice a ll.length c],.slice ga gs.length gc] w fun e w'=>e=.returned (.bool true)∧Below w.heap.size w w':=by
 by_cases hgl:gs.length≤1048576
 rotate_left
 ·have hgl':(1048576:Int) < gs.length:=by omega
  go_enter Try.func3,Try.ntmps3
  go_wp2_with fail
  go_ret
  exact ⟨rfl,below1 _ _⟩
 have hgl':¬ (1048576:Int) < gs.length:=by omega
 go_enter Try.func3,Try.ntmps3
 go_wp2_with fail
 refine (szProg_le a b o c ll _ hl0 hls0 (hsa.below (below1 w _) (Nat.le_refl _))).mono ?_
 rintro e w1 ⟨k1,rfl,rfl,hor1⟩
 have hb2:=below2 w (.cells #[.slice a ll.length c] 24) (.cells #[.slice a ll.length c] 24)
 by_cases hn1:k1 < 0
 ·go_wp2_with fail
  go_ret
  exact ⟨rfl,hb2⟩
 obtain ⟨_,_,hl,hls⟩:=hor1.resolve_left hn1
 clear hor1
 have bx0:BxM w _ a c ll:=⟨hb2,by simp [go_sem]⟩
 generalize ((w.alloc (.cells #[.slice a ll.length c] 24)).alloc (.cells #[.slice a ll.length c] 24))=W at *
 clear hb2 hl0 hls0
 have hsm:=M.machQ_small false 28 ll gs
 have CS:=fun x0 g0 k (W0:World) (h1:DoSS W0 (some ⟨x0,0,none⟩) x0 0 ll) (h2:IntS W0 (some ⟨g0,0,none⟩) g0 0 gs)=>(smachSome_any (some ⟨x0,0,none⟩) x0 0 k ll (some ⟨g0,0,none⟩) g0 0 gs.length gs W0 hl hls hgl h1 h2 hk).mono fun e w' ⟨h,hb⟩=>And.intro h.said hb
 have CI:=fun x0 g0 k (W0:World) (h1:DoSS W0 (some ⟨x0,0,none⟩) x0 0 ll) (h2:IntS W0 (some ⟨g0,0,none⟩) g0 0 gs)=>(imachSome_any (some ⟨x0,0,none⟩) x0 0 k ll (some ⟨g0,0,none⟩) g0 0 gs.length gs W0 hl hls hgl h1 h2 hk).mono fun e w' ⟨h,hb⟩=>And.intro h.said hb
 generalize (M.machQ false 28 ll gs).isSome=ok at CS CI
 obtain ⟨r1,hr1⟩:∃ r,M.runR (M.machQ false 28 ll gs)=r:=⟨_,rfl⟩
 obtain ⟨r2,hr2⟩:∃ r,M.runL (M.machQ false 28 ll gs)=r:=⟨_,rfl⟩
 rw [hr1,hr2] at CS CI hsm
 have HM:Hid (r1.length≤1048576∧r2.length≤1048576):=hsm
 clear hsm hr1 hr2
 have P0:=bx0.p0
 go_wp2_with fail
 refine (toProg_any a b o c ll W hl hls (hsa.below bx0.bel (Nat.le_refl _))).mono ?_
 rintro e v1 ⟨g1,rfl,hn1',hb1⟩
 have bx1:=bx0.below hb1
 go_wp2_with fail
 refine (toIntS_any ga gb go gc gs v1 hgl (hG.below bx1.bel (Nat.le_refl _))).mono ?_
 rintro e v2 ⟨rfl,hi2,_,hbv2⟩
 have bx2:=bx1.below hbv2
 go_wp2_with fail
 refine (CS g1 v1.heap.size ll.length v2 (hn1'.old.below hbv2 (Nat.le_refl _)) hi2).mono ?_
 rintro e v3 ⟨⟨s0,rfl,HK0,hat0⟩,hbv3⟩
 have bx3:=bx2.below hbv3
 have bx8:BxM w (v3.alloc (.cells #[.slice s0.a1 s0.l1.length s0.c1,.slice s0.a2 s0.l2.length s0.c2] 28)) a c ll:=bx3.below (below1 _ _)
 have xs8:BxT (v3.alloc (.cells #[.slice s0.a1 s0.l1.length s0.c1,.slice s0.a2 s0.l2.length s0.c2] 28)) v3.heap.size s0:=BxT.new hat0
 clear P0 bx0 bx1 bx2 bx3 hn1' hb1 hi2 hbv2 hbv3 hat0 CS
 have P0:=bx8.p0
 go_wp2_with fail
 generalize v3.alloc (.cells #[.slice s0.a1 s0.l1.length s0.c1,.slice s0.a2 s0.l2.length s0.c2] 28)=W8 at *
 generalize v3.heap.size=X at *
 have lo0:∀ b,s0.blk b→b < W8.heap.size:=fun b hb=>Sn.blk_lt xs8.at_ hb
 have hwB:=bx8.bel.size
 refine (toProg_any a b o c ll _ hl hls (hsa.below bx8.bel (Nat.le_refl _))).mono ?_
 rintro e w9 ⟨x1,rfl,hx,hb9⟩
 have bx9:=bx8.below hb9
 have xs9:=xs8.below hb9
 have o1:W8.heap.size≤w9.heap.size:=hb9.size
 have hbP:=below1 w9 (.cells #[.slice (some ⟨x1,0,none⟩) ll.length ll.length] 33)
 clear bx8 xs8 hb9 P0
 go_wp2_with fail
 refine (toIntS_any ga gb go gc gs _ hgl (hG.below (bx9.below hbP).bel (Nat.le_refl _))).mono ?_
 rintro e w11 ⟨rfl,hi11,⟨f11,row11⟩,hb11⟩
 have gf11:∀ j,w11.frozen? ⟨(w9.alloc (.cells #[.slice (some ⟨x1,0,none⟩) ll.length ll.length] 33)).heap.size,j,none⟩=false:=row11.frozen
 have il11:(w9.alloc (.cells #[.slice (some ⟨x1,0,none⟩) ll.length ll.length] 33)).heap.size < w11.heap.size:=row11.lt
 have hb911:Below w9.heap.size w9 w11:=hbP.trans (hb11.mono hbP.size)
 have pc11:w11.cell? ⟨w9.heap.size,0,none⟩=some (.slice (some ⟨x1,0,none⟩) ll.length ll.length):=cb hb11 (by simp)
 rw [World.size_alloc] at hi11 gf11 il11
 clear row11 hb11 hbP
 go_wp2_with fail
 refine (CI x1 (w9.heap.size+1) ll.length w11 (hx.old.below hb911 (Nat.le_refl _)) hi11).mono ?_
 rintro e w12 ⟨⟨s1,rfl,HK1,hnew⟩,hb12⟩
 have hbR:=below1 w12 (.cells #[.slice s1.a1 s1.l1.length s1.c1,.slice s1.a2 s1.l2.length s1.c2] 28)
 have hb11R:=hb12.trans (hbR.mono hb12.size)
 have hb9R:=hb911.trans (hb11R.mono hb911.size)
 have al:AlM w (w12.alloc (.cells #[.slice s1.a1 s1.l1.length s1.c1,.slice s1.a2 s1.l2.length s1.c2] 28)) a c ll X w9.heap.size w12.heap.size x1 (w9.heap.size+1) W8.heap.size w9.heap.size gs s0 s1 :=
  ⟨bx9.below hb9R,xs9.below hb9R,cb hb11R pc11,BxT.new hnew.at_,hnew.own.below hnew.at_ hbR,hx.below hb9R (Nat.le_refl _),hi11.below hb11R (Nat.le_refl _),fun j=>(hb11R.frozen (p:=⟨w9.heap.size+1,j,none⟩) il11).trans (gf11 j),Nat.lt_of_lt_of_le il11 hb11R.size⟩
 have lo1:∀ b,s1.blk b→w9.heap.size+1 < b:=fun b hb=>by
  have:=hnew.ge1
  have:=hnew.ge2
  rcases hb with ⟨_,e⟩ | ⟨_,e⟩<;>omega
 clear hnew hb12 hbR hb11R hb9R hb911 pc11 gf11 il11 hi11 hx bx9 xs9
 have rx0:=al.xs.c0;have rx1:=al.xs.c1
 go_wp2_with fail
 clear rx0 rx1
 generalize (w12.alloc (.cells #[.slice s1.a1 s1.l1.length s1.c1,.slice s1.a2 s1.l2.length s1.c2] 28))=W12 at al ⊢
 obtain ⟨R,hR⟩:∃ R,w12.heap.size=R:=⟨_,rfl⟩
 obtain ⟨B1,hB1⟩:∃ R,W8.heap.size=R:=⟨_,rfl⟩
 obtain ⟨N1,hN1⟩:∃ R,w9.heap.size=R:=⟨_,rfl⟩
 rw [hR,hB1,hN1] at al
 rw [hB1] at lo0 hwB o1
 rw [hN1] at o1 lo1
 rw [hR,hN1]
 clear hR hB1 hN1
 have hsl:s1.Le 1048576:=⟨by rw [HK1.out.1];exact HM.out.1,by rw [HK1.out.2];exact HM.out.2⟩
 have HE:Hid (s0.l1=s1.l1∧s0.l2=s1.l2):=⟨HK0.out.1.trans HK1.out.1.symm,HK0.out.2.trans HK1.out.2.symm⟩
 refine (eqSeen_bel s1 s0 W12 hsl HE.out.1 HE.out.2 al.rs.at_ al.xs.at_).mono ?_
 rintro e W13 ⟨rfl,hb13⟩
 have al13:=al.below hb13
 clear al hb13
 go_wp2_with fail
 have al14:=al13.below (Below.refl _ _).drew
 have C1:=toProg_any a b o c ll W13.drew hl hls (hsa.below al14.bx.bel (Nat.le_refl _))
 have X0:=al13.bx.p0;have X1:=al13.ps
 go_region_held3 (fun w'=>w'.cell? ⟨w.heap.size,0,none⟩=some (.slice a ll.length c)∧w'.cell? ⟨N1,0,none⟩=some (.slice (some ⟨x1,0,none⟩) ll.length ll.length)) (go_keep) (first
  | (go_at_call 9;refine C1.mono ?_;rintro e W14 ⟨g1,rfl,hn1,hb1⟩;have al15:=al14.below hb1;have Y0:=al15.bx.p0;have Y1:=al15.ps)
  | (go_at_call 13;refine (eqProg_same _ x1 0 ll.length _ g1 0 ll.length ll _ hl hls al15.hx.old hn1.old).mono ?_;rintro e W15 ⟨rfl,hb15⟩;have al16:=al15.below hb15;have Z0:=al16.bx.p0;have Z1:=al16.ps))
 clear X0 X1 Y0 Y1 Z0 Z1 C1 al13 al14 al15 hn1 hb1 hb15
 go_wp2_with fail
 refine (toIntS_any ga gb go gc gs _ hgl (hG.below al16.bx.bel (Nat.le_refl _))).mono ?_
 rintro e w18 ⟨rfl,hi18,_,b18⟩
 have al20:=al16.below b18
 go_wp2_with fail
 refine (calls_belM (eqIntS_same (some ⟨N1+1,0,none⟩) (N1+1) 0 gs.length _ _ 0 gs.length gs w18 hgl al20.gi hi18)).mono ?_
 rintro e W19 ⟨rfl,b19⟩
 have al21:=al20.below b19
 clear al16 al20 b18 b19 hi18
 have X0:=al21.ps
 go_wp2_with fail
 refine (markProg_any x1 ll.length B1 N1 ll W19 hl hls al21.hx).mono ?_
 rintro e W20 ⟨k1,wa,rfl,hk1,rfl,mk1⟩
 have al22:=al21.below (below1 W19 (.cells #[.slice (some ⟨x1,0,none⟩) ll.length ll.length] 33))
 have bxA:=al22.bx.mk_ mk1 (fun j hj=>by omega)
 have xsA:=al22.xs.mk_ mk1 (fun j hj hb=>by have:=lo0 j hb;omega)
 have rsA:=al22.rs.mk_ mk1 (fun j hj hb=>by have:=lo1 j hb;omega)
 have owA:Own2 W20 s1:=⟨al22.own.ne,fun b hb j=>(mk1.fz _).trans (al22.own.fz b hb j)⟩
 have giC:=(al22.gi.toC (fun _ j=>al22.gf j)).mk_ mk1
 clear X0 al21 al22 mk1
 have hk1a:=hk1.1
 have hk1b:=hk1.2
 have hkk:¬ (k1+(gs.length:Int) < 0):=by omega
 have hkk':decide (k1+(gs.length:Int) < 0)=false:=by simpa using hkk
 go_wp2_with fail
 refine (markIntS_any (some ⟨N1+1,0,none⟩) (N1+1) 0 gs.length gs.length k1 W20 hgl (by omega) (by omega) giC).mono ?_
 rintro e W22 ⟨rfl,_,mk3⟩
 have bxC:=bxA.mk_ mk3 (fun j hj=>by have:=hj.1;omega)
 have xsC:=xsA.mk_ mk3 (fun j hj hb=>by have:=hj.1;have:=lo0 j hb;omega)
 have rsC:=rsA.mk_ mk3 (fun j hj hb=>by have:=hj.1;have:=lo1 j hb;omega)
 have owC:Own2 W22 s1:=⟨owA.ne,fun b hb j=>(mk3.fz _).trans (owA.fz b hb j)⟩
 clear bxA xsA rsA owA giC mk3
 have X0:=xsC.c0;have X1:=xsC.c1;have X2:=rsC.c0;have X3:=rsC.c1
 go_wp2_with fail
 refine (eqSeen_bel s1 s0 W22 hsl HE.out.1 HE.out.2 rsC.at_ xsC.at_).mono ?_
 rintro e W23 ⟨rfl,hb23⟩
 have bxD:=bxC.below hb23
 have xsD:=xsC.below hb23
 have owD:=owC.below rsC.at_ hb23
 have rsD:=rsC.below hb23
 clear X0 X1 X2 X3 bxC xsC rsC owC hb23
 have X2:=rsD.c0;have X3:=rsD.c1
 go_wp2_with fail
 refine (markSeen_any s1 W23 hsl owD.ne ⟨rsD.at_.reads.toC (fun hl=>owD.fz _ (Or.inl ⟨hl,rfl⟩)),rsD.at_.last.toC (fun hl=>owD.fz _ (Or.inr ⟨hl,rfl⟩))⟩).mono ?_
 rintro e W24 ⟨wc,rfl,rfl,mk4,hm1⟩
 have bxE:=(bxD.below (below1 _ _)).mk_ mk4 (fun j hj=>by have:=lo1 j hj;omega)
 have xsE:=(xsD.below (below1 _ _)).mk_ mk4 (fun j hj hb=>by have:=lo1 j hj;have:=lo0 j hb;omega)
 have rc0:=mk4.rest _ _ (cb (below1 W23 (.cells #[.slice s1.a1 s1.l1.length s1.c1,.slice s1.a2 s1.l2.length s1.c2] 28)) rsD.c0) (fun _ e=>by cases e)
 have rc1:=mk4.rest _ _ (cb (below1 W23 (.cells #[.slice s1.a1 s1.l1.length s1.c1,.slice s1.a2 s1.l2.length s1.c2] 28)) rsD.c1) (fun _ e=>by cases e)
 clear bxD xsD rsD owD mk4 X2 X3
 go_wp2_with fail
 refine (heldSeen_any s1 W24 hsl hm1).mono ?_
 rintro e W25 ⟨rfl,rfl⟩
 have bx0:=bxE.below (below1 W24 (.cells #[.slice s1.a1 s1.l1.length s1.c1,.slice s1.a2 s1.l2.length s1.c2] 28))
 have xsM:=xsE.below (below1 W24 (.cells #[.slice s1.a1 s1.l1.length s1.c1,.slice s1.a2 s1.l2.length s1.c2] 28))
 have hmM:=hm1.below (below1 W24 (.cells #[.slice s1.a1 s1.l1.length s1.c1,.slice s1.a2 s1.l2.length s1.c2] 28))
 have mc0:=cb (below1 W24 (.cells #[.slice s1.a1 s1.l1.length s1.c1,.slice s1.a2 s1.l2.length s1.c2] 28)) rc0
 have mc1:=cb (below1 W24 (.cells #[.slice s1.a1 s1.l1.length s1.c1,.slice s1.a2 s1.l2.length s1.c2] 28)) rc1
 generalize W24.alloc (.cells #[.slice s1.a1 s1.l1.length s1.c1,.slice s1.a2 s1.l2.length s1.c2] 28)=WM at *
 clear bxE xsE hm1 rc0 rc1
 have q1:¬ ((1:Int)+s1.l1.length+s1.l2.length < 0):=by omega
 have q1':decide ((1:Int)+s1.l1.length+s1.l2.length < 0)=false:=by simpa using q1
 have P0:=bx0.p0
 go_wp2_with fail
 refine (toProg_any a b o c ll WM hl hls (hsa.below bx0.bel (Nat.le_refl _))).mono ?_
 rintro e v1 ⟨g1,rfl,hn1',hb1⟩
 have bx1:=bx0.below hb1
 go_wp2_with fail
 refine (toIntS_any ga gb go gc gs v1 hgl (hG.below bx1.bel (Nat.le_refl _))).mono ?_
 rintro e v2 ⟨rfl,hi2,_,hbv2⟩
 go_wp2_with fail
 refine (CI g1 v1.heap.size ll.length v2 (hn1'.old.below hbv2 (Nat.le_refl _)) hi2).mono ?_
 rintro e v3 ⟨⟨s2,rfl,HK2,hnew⟩,hbv3⟩
 have hWf:Below WM.heap.size WM (v3.alloc (.cells #[.slice s2.a1 s2.l1.length s2.c1,.slice s2.a2 s2.l2.length s2.c2] 28)):=((hb1.trans (hbv2.mono hb1.size)).trans (hbv3.mono (Nat.le_trans hb1.size hbv2.size))).trans ((below1 v3 _).mono (Nat.le_trans (Nat.le_trans hb1.size hbv2.size) hbv3.size))
 have xsF:BxT (v3.alloc (.cells #[.slice s2.a1 s2.l1.length s2.c1,.slice s2.a2 s2.l2.length s2.c2] 28)) v3.heap.size s2:=BxT.new hnew.at_
 have HE2:Hid (s0.l1=s2.l1∧s0.l2=s2.l2):=⟨HK0.out.1.trans HK2.out.1.symm,HK0.out.2.trans HK2.out.2.symm⟩
 have hs2:s2.Le 1048576:=⟨by rw [HK2.out.1];exact HM.out.1,by rw [HK2.out.2];exact HM.out.2⟩
 have bxF:=bx0.below hWf
 have xsG:=xsM.below hWf
 have hmF:=hmM.below hWf
 have fc0:=cb hWf mc0
 have fc1:=cb hWf mc1
 clear P0 bx0 bx1 hn1' hb1 hi2 hbv2 hbv3 hnew hWf xsM hmM mc0 mc1 CI
 have X0:=xsG.c0;have X1:=xsG.c1
 go_wp2_with fail
 generalize v3.alloc (.cells #[.slice s2.a1 s2.l1.length s2.c1,.slice s2.a2 s2.l2.length s2.c2] 28)=Wf at *
 refine (eqSeen_bel s2 s0 Wf hs2 HE2.out.1 HE2.out.2 xsF.at_ xsG.at_).mono ?_
 rintro e W30 ⟨rfl,hb30⟩
 have bxH:=bxF.below hb30
 have hmH:=hmF.below hb30
 have hc0:=cb hb30 fc0
 have hc1:=cb hb30 fc1
 clear X0 X1 xsF xsG bxF hmF fc0 fc1 hb30
 go_wp2_with fail
 refine (heldSeen_any s1 W30 hsl hmH).mono ?_
 rintro e W31 ⟨rfl,rfl⟩
 go_wp2_with fail
 go_ret
 exact ⟨rfl,bxH.bel.alloc bxH.bel.size _⟩
end
end Go.Proofs.Ytnddmlgnngdaoaa
