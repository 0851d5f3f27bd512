/- The law FnLinesShape, walked: it answers true, and leaves all as it was. Of whatever codes. -/
import Derived.Deep.CutRange
import Derived.Great.BuildSlice
import Derived.Deep.OwnRows
import Derived.Test.YtnddmlgnngdaoaaGreatDoorRows
import Derived.Test.YtnddmlgnngdaoaaGreatDoorQsbi
import Derived.Test.YtnddmlgnngdaoaaGreatDoorQsbk
namespace Go.Proofs.YtnddmlgnngdaoaaGreatDoor
section
open Go.RowKit
theorem Tryz.infoStrL:(Tryz.prog.info? 9).map (fun i=>(i.zero,i.size,i.bytes))=some (some (.string ⟨#[]⟩),1,16):=by kernel_rfl
theorem M.odd_fits (s:Int):Fits (M.oddR s)∧Fits (M.oddL s):=by
 unfold M.oddR M.oddL
 constructor
 ·intro v hv
  repeat (split at hv;· simp at hv;omega)
  simp at hv
 ·intro v hv
  repeat (split at hv;· simp at hv;omega)
  simp at hv
set_option maxHeartbeats 2000000 in
set_option maxRecDepth 100000 in
set_option linter.unusedSimpArgs false in
theorem lawLs_any (ca:Option Addr) (cb co L C:Nat) (x:Nat→Int) (ma:Option Addr) (ml C2:Nat) (w:World) (hm:HasMax w) (ht:HasTab w) (he:HasErr w) (hL:L≤C) (had:0 < L→ca=some ⟨cb,co,none⟩) (hc:∀ i,i < L→w.cell? ⟨cb,co+i,none⟩=some (.int .u8 (x i))∧0≤x i∧x i≤255) :
  Calls Tryz.prog 3 #[.slice ca L C,.slice ma ml C2] w fun e w'=>e=.returned (.bool true)∧Below w.heap.size w w':=by
 by_cases hLb:L≤1048576∧ml≤1048576
 ·obtain ⟨hLa,hLm⟩:=hLb
  go_enter Tryz.func3,Tryz.ntmps3
  go_wp2_with fail
  refine (DrawShapeOf_any ca cb co L C x _ hL had hc hLa).mono ?_
  rintro e w1 ⟨s,h,rfl,b1⟩
  clear had hc
  have CS:=sshapeOf_any s h w1
  have CI:=fun W=>ishapeOf_any s h W
  obtain ⟨hs2,hs5⟩:=M.shape_small s h
  have HF:Hid (M.shapeOk s h=true→M.prog ((M.shape s h).getD [])=true∧((M.shape s h).getD []).length=2):=fun e=>M.shape_prog e
  obtain ⟨k3,hk3,hk3l⟩:∃ k,ml % 3=k∧k < 3:=⟨_,rfl,Nat.mod_lt _ (by omega)⟩
  have hmd:Int.tmod (ml:Int) 3=(k3:Int):=by rw [Int.tmod_eq_emod_of_nonneg (by omega),← hk3];exact (Int.natCast_emod _ _).symm
  have hkw:IntKind.i64.wrap (1+(k3:Int))=1+k3:=by rw [IntKind.wrap_i64];omega
  obtain ⟨kn,hkn⟩:∃ kn:Int,1+(k3:Int)=kn:=⟨_,rfl⟩
  have hkn3:kn=1∨kn=2∨kn=3:=by omega
  have HO:Hid (M.shapeOk s h=true→M.isIn (M.orderAll ((M.shape s h).getD []) kn) (M.oddR s) (M.oddL s)=M.oddSeen s h kn):=fun e=>M.odd_at e hkn3
  rw [M.shape_some] at CS CI
  generalize (M.shape s h).getD []=ll at *
  have hl1:ll.length≤1048576:=by omega
  have hl2:∀ t∈ll,t.length≤1048576:=fun t ht=>by have:=hs5 t ht;omega
  clear hs5 hs2
  have LQ:=fun A B C D E F W h1 h2=>lpProg_any A B 0 C D E 0 F ll ll W hl1 hl1 hl2 h1 h2
  rw [M.eqLL_yes rfl] at LQ
  go_wp2_with fail
  refine CS.mono ?_
  rintro e w2 ⟨v2,rfl,⟨vs2,hR2⟩,b2⟩
  obtain ⟨av,gv,cv,rfl,hss2⟩:=hR2.b.ss
  have bA:=below1 w2 (.cells #[.slice av ll.length cv] 27)
  have sA:=Slot1.new w2 (.slice av ll.length cv) 27
  have ssA:=hss2.below bA (Nat.le_refl _)
  have b12:=b2.trans (bA.mono b2.size)
  have bwA:=b1.trans (b12.mono b1.size)
  clear hR2 hss2 b2 bA b12 b1 CS
  go_wp2_with fail
  generalize w2.alloc (.cells #[.slice av ll.length cv] 27)=WA at *
  generalize w2.heap.size=A at *
  refine (CI WA).mono ?_
  rintro e w3 ⟨v3,rfl,⟨vs3,hR3⟩,b3⟩
  obtain ⟨ai,gi,ci,rfl,hss3⟩:=hR3.b.ss
  have bB:=below1 w3 (.cells #[.slice ai ll.length ci] 27)
  have sB:=Slot1.new w3 (.slice ai ll.length ci) 27
  have ssB:=hss3.below bB (Nat.le_refl _)
  have b3':=b3.trans (bB.mono b3.size)
  have sAB:=sA.bl' b3'
  have ssAB:=ssA.below b3' (Nat.le_refl _)
  have bwB:=bwA.trans (b3'.mono bwA.size)
  clear hR3 hss3 b3 bB b3' sA ssA CI bwA
  have x0:=sAB.c
  have x1:=sB.c
  go_wp2_with fail
  generalize w3.alloc (.cells #[.slice ai ll.length ci] 27)=WB at *
  generalize w3.heap.size=B at *
  refine (LQ ai gi ci av gv cv _ ssB ssAB).mono ?_
  rintro e W4 ⟨rfl,b4⟩
  have sB4:=sB.bl' b4
  have ssB4:=ssB.below b4 (Nat.le_refl _)
  have bw4:=bwB.trans (b4.mono bwB.size)
  have sAB4:=sAB.bl' b4
  have ssAB4:=ssAB.below b4 (Nat.le_refl _)
  clear x0 x1 sB ssB sAB ssAB bwB b4
  have x1:=sB4.c
  cases hok:M.shapeOk s h
  ·clear HF HO
   have x2:=sAB4.c
   go_wp2_with fail
   refine (LQ ai gi ci av gv cv _ ssB4 ssAB4).mono ?_
   rintro e W5 ⟨rfl,b5⟩
   go_wp2_with fail
   go_ret
   exact ⟨rfl,bw4.trans (b5.mono bw4.size)⟩
  ·obtain ⟨hp,hn⟩:=HF.out hok
   have HOD:Hid (M.isIn (M.orderAll ll kn) (M.oddR s) (M.oddL s)=M.oddSeen s h kn):=HO.out hok
   have LO:=fun W=>lpOdd_any s h kn W hok hkn3
   have CDD:=fun W=>iodd_any s W
   have hle:=M.odd_le s
   have hfr:Fits (M.oddR s)∧Fits (M.oddL s):=M.odd_fits s
   have h0:ll≠[]:=fun e=>by rw [e] at hn;cases hn
   have htl:(M.text ll).length≤100000:=by
    have h1:=M.sayProg_le ll (M.prog_le hp).2
    have e1:M.text ll=M.sayProg ll:=by simp [M.text,hp]
    rw [e1];omega
   clear HF HO hok hn LQ sAB4 ssAB4
   go_wp2_with fail
   refine (CDD _).mono ?_
   rintro e W5 ⟨u1,u2,rfl,hT⟩
   obtain ⟨t,rfl,rfl,ht1,ht2,hta⟩:=hT.snO
   have b5:=hT.bel
   have bS:=below1 W5 (.cells #[.slice t.a1 t.l1.length t.c1,.slice t.a2 t.l2.length t.c2] 33)
   have b5S:=b5.trans (bS.mono b5.size)
   have bw5:=bw4.trans (b5S.mono bw4.size)
   have sB5:=sB4.bl' b5S
   have ssB5:=ssB4.below b5S (Nat.le_refl _)
   have ta5:=hta.below bS (Nat.le_refl _)
   have sT:Slot2 (W5.alloc (.cells #[.slice t.a1 t.l1.length t.c1,.slice t.a2 t.l2.length t.c2] 33)) W5.heap.size (.slice t.a1 t.l1.length t.c1) (.slice t.a2 t.l2.length t.c2):=⟨alloc_new _ _ _ (by simp)⟩
   have CT:=iseenText_any t _ ⟨by rw [ht1];omega,by rw [ht2];omega⟩ ta5 (by rw [ht1];exact hfr.1) (by rw [ht2];exact hfr.2) (ht.below bw5 (Nat.le_refl _))
   have hLl:=M.seenText_le (l1:=t.l1) (l2:=t.l2) (by rw [ht1];exact hfr.1) (by rw [ht2];exact hfr.2) (by rw [ht1];omega) (by rw [ht2];omega)
   have HSC:Hid (∀ ks f,M.scan (M.seenText t.l1 t.l2++[10]) [] (M.seenLines ks) f=(f||M.isIn ks (M.oddR s) (M.oddL s))):=fun ks f=>by rw [ht1,ht2];exact M.scan_lines (M.oddR s,M.oddL s) ks f
   obtain ⟨tx,htx⟩:∃ tx,M.seenText t.l1 t.l2=tx:=⟨_,rfl⟩
   rw [htx] at CT hLl HSC
   clear sB4 ssB4 hT hta b5 bS b5S bw4 ht1 ht2 htx CDD hle hfr x1 ta5
   have z0:=sT.c0
   have z1:=sT.c1
   have ea:∀ l:List UInt8,(⟨l.toArray⟩:ByteArray)++⟨#[10]⟩=⟨(l++[10]).toArray⟩:=fun l=>by apply ByteArray.ext;simp
   have n64:¬ (9223372036854775807:Int) < (tx.length:Int)+1:=by omega
   go_wp2_with fail
   generalize W5.alloc (.cells #[.slice t.a1 t.l1.length t.c1,.slice t.a2 t.l2.length t.c2] 33)=W6 at *
   refine CT.mono ?_
   rintro e W7 ⟨rfl,b7⟩
   have bw7:=bw5.trans (b7.mono bw5.size)
   have sB7:=sB5.bl' b7
   have ssB7:=ssB5.below b7 (Nat.le_refl _)
   clear sT z0 z1 CT sB5 ssB5 bw5 b7
   have x1:=sB7.c
   obtain ⟨i0,hi,hz0,hz1,hz2⟩:=info_parts Tryz.infoStrL
   have CPt:=fun (W:World) (h:Below W7.heap.size W7 W)=>iprogText_any ai gi 0 ci ll W hl1 hl2 (ssB7.below h (Nat.le_refl _))
   have CLr:=fun (W:World) (h':Below W7.heap.size W7 W)=>linesRun_any ll kn W hp h0 hkn3 htl (hm.below (bw7.trans (h'.mono bw7.size)) (Nat.le_refl _)) (ht.below (bw7.trans (h'.mono bw7.size)) (Nat.le_refl _)) (he.below (bw7.trans (h'.mono bw7.size)) (Nat.le_refl _))
   have fp:∀ w',Below W7.heap.size W7 w'→w'.cell? ⟨B,0,none⟩=some (.slice ai ll.length ci):=fun w' h'=>(sB7.bl' h').c
   have EA:Hid (M.askText ll kn=M.text ll++M.ask kn++[10]):=rfl
   obtain ⟨FX,hFX⟩:∃ FX,M.askText ll kn=FX:=⟨_,rfl⟩
   have HLZ:Hid ((M.seenLines (M.orderAll ll kn)).length≤50000001 * 200000):=by
    show _≤_
    have h1:=M.seenLines_le (ks:=M.orderAll ll kn) (fun z hz=>M.orderAll_fits hz) (M.orderAll_le ll kn)
    have h2:=M.orderAll_len ll kn
    omega
   obtain ⟨Z,hZ⟩:∃ Z,M.seenLines (M.orderAll ll kn)=Z:=⟨_,rfl⟩
   have HRES:Hid (M.scan (tx++[10]) [] Z false=M.oddSeen s h kn):=by
    show _=_
    rw [← hZ,HSC.out,Bool.false_or,HOD.out]
   rw [hFX,hZ] at CLr
   rw [hZ] at HLZ
   have EA2:Hid (FX=M.text ll++M.ask kn++[10]):=by show _=_;rw [← hFX];exact EA.out
   obtain ⟨TX,hTX⟩:∃ TX,M.text ll=TX:=⟨_,rfl⟩
   rw [hTX] at CPt EA2 htl
   clear HSC HOD hFX hZ hTX EA hkw hmd
   go_wp2_with fail
   go_cut [15] from 77 to 85 (fun s15 wc=>s15=.string ⟨Z.toArray⟩∧Below W7.heap.size W7 wc)
   case first =>
    rcases hkn3 with rfl | rfl | rfl
    ·have eadd:(⟨TX.toArray⟩:ByteArray)++⟨#[115,116,114,105,99,116,10]⟩=⟨FX.toArray⟩:=by rw [EA2.out];apply ByteArray.ext;simp [M.ask]
     have n64:¬ (9223372036854775807:Int) < (TX.length:Int)+7:=by omega
     have n64b:TX.length≤9223372036854775800:=by omega
     refine wp_region_held_drew (S:=fun w'=>Below W7.heap.size W7 w') (by kernel_rfl) (Below.refl _ _).drew (fun hH=>?_)
     refine tk 0 77 (.agg #[.slice ai ll.length ci]) hH rfl rfl (by intro w' hSw;have hc0:=fp w' hSw;go_simp) ?_
     simp only [Act.put,zqa,zqb,zqc]
     refine tk 3 80 (.int .i64 1) hH rfl rfl (by intro w' hSw;go_simp) ?_
     simp only [Act.put,zqa,zqb,zqc]
     refine wpAnyH_ready (rs:=[1,2]) (by kernel_rfl) (by simp) ?_
     refine AllReadyH.cons rfl (fun K' hK=>?_) (AllReadyH.cons rfl (fun K' hK=>?_) AllReadyH.nil)
     ·refine sg 78 rfl 11 #[.tmp 77] rfl #[.agg #[.slice ai ll.length ci]] (enters_of Tryz.func11 (by kernel_rfl) rfl) (CPt _ hH) ?_
      rintro e W8 ⟨rfl,b8⟩
      refine ⟨_,rfl,hK.out _ _ (hH.trans (b8.mono hH.size)) (fun hH1=>?_)⟩
      clear hK K'
      simp only [Act.put,zqa,zqb,zqc]
      refine ry 2 rfl (fun K' hK=>?_)
      rw [if_pos (by rfl)]
      refine wp_buildSlice 39 9 4 _ rfl #[.string ⟨#[]⟩,.string ⟨#[115,116,114,105,99,116,10]⟩,.string ⟨#[108,97,116,101,10]⟩,.string ⟨#[108,111,111,115,101,10]⟩] i0 _ Tryz.underlying39 hi hz0 (by rw [hz1];decide) (by rw [hz1];decide) (by rw [hz1];as_aux_lemma=>kernel_rfl) ?_
      refine hK.out _ _ (hH1.alloc hH1.size _) (fun hH2=>?_)
      clear hK K'
      simp only [Act.put,zqa,zqb,zqc]
      refine tk 4 81 (.pointer (some ⟨W8.heap.size,1,none⟩)) hH2 rfl rfl (by intro w' hSw;go_simp) ?_
      simp only [Act.put,zqa,zqb,zqc]
      refine ry 5 rfl (fun K' hK=>?_)
      rw [if_pos (by rfl)]
      have hc0:=(by simp:(W8.alloc (.cells #[.string ⟨#[]⟩,.string ⟨#[115,116,114,105,99,116,10]⟩,.string ⟨#[108,97,116,101,10]⟩,.string ⟨#[108,111,111,115,101,10]⟩] 9)).cell? ⟨W8.heap.size,1,none⟩=some (.string ⟨#[115,116,114,105,99,116,10]⟩))
      go_simp
      refine hK.out _ _ hH2 (fun hH3=>?_)
      clear hK K' hc0
      refine tk 6 83 (.string ⟨FX.toArray⟩) hH3 rfl rfl (by intro w' hSw;go_simp) ?_
      simp only [Act.put,zqa,zqb,zqc]
      refine ry 7 rfl (fun K' hK=>?_)
      refine sg 84 rfl 10 #[.tmp 83] rfl #[.string ⟨FX.toArray⟩] (enters_of Tryz.func10 (by kernel_rfl) rfl) (CLr _ hH3) ?_
      rintro e W9 ⟨rfl,b9⟩
      refine ⟨_,rfl,hK.out _ _ (hH3.trans (b9.mono hH3.size)) (fun hHz=>?_)⟩
      clear hK K'
      simp only [Act.put,zqa,zqb,zqc]
      refine tk 8 15 (.string ⟨Z.toArray⟩) hHz rfl rfl (by intro w' hSw;go_simp) ?_
      simp only [Act.put,zqa,zqb,zqc]
      refine wpAnyH_done (by kernel_rfl) ?_ _
      go_wp2_with fail
      go_meet
      case rel=>exact ⟨rfl,hHz⟩
     ·rw [if_pos (by rfl)]
      refine wp_buildSlice 39 9 4 _ rfl #[.string ⟨#[]⟩,.string ⟨#[115,116,114,105,99,116,10]⟩,.string ⟨#[108,97,116,101,10]⟩,.string ⟨#[108,111,111,115,101,10]⟩] i0 _ Tryz.underlying39 hi hz0 (by rw [hz1];decide) (by rw [hz1];decide) (by rw [hz1];as_aux_lemma=>kernel_rfl) ?_
      refine hK.out _ _ (hH.alloc hH.size _) (fun hH1=>?_)
      clear hK K'
      simp only [Act.put,zqa,zqb,zqc]
      refine tk 4 81 (.pointer (some ⟨W7.heap.size,1,none⟩)) hH1 rfl rfl (by intro w' hSw;go_simp) ?_
      simp only [Act.put,zqa,zqb,zqc]
      have hrow:=(fun (V:World) (e:V.heap.size=W7.heap.size)=>(by rw [← e];simp:(V.alloc (.cells #[.string ⟨#[]⟩,.string ⟨#[115,116,114,105,99,116,10]⟩,.string ⟨#[108,97,116,101,10]⟩,.string ⟨#[108,111,111,115,101,10]⟩] 9)).cell? ⟨W7.heap.size,1,none⟩=some (.string ⟨#[115,116,114,105,99,116,10]⟩))) W7.drew rfl
      refine wpAnyH_ready (rs:=[1,5]) (by kernel_rfl) (by simp) ?_
      refine AllReadyH.cons rfl (fun K' hK=>?_) (AllReadyH.cons rfl (fun K' hK=>?_) AllReadyH.nil)
      ·refine sg 78 rfl 11 #[.tmp 77] rfl #[.agg #[.slice ai ll.length ci]] (enters_of Tryz.func11 (by kernel_rfl) rfl) (CPt _ hH1) ?_
       rintro e W8 ⟨rfl,b8⟩
       refine ⟨_,rfl,hK.out _ _ (hH1.trans (b8.mono hH1.size)) (fun hH2=>?_)⟩
       clear hK K'
       simp only [Act.put,zqa,zqb,zqc]
       refine ry 5 rfl (fun K' hK=>?_)
       rw [if_pos (by rfl)]
       have hc0:=cellL b8 hrow
       go_simp
       refine hK.out _ _ hH2 (fun hH3=>?_)
       clear hK K' hc0
       refine tk 6 83 (.string ⟨FX.toArray⟩) hH3 rfl rfl (by intro w' hSw;go_simp) ?_
       simp only [Act.put,zqa,zqb,zqc]
       refine ry 7 rfl (fun K' hK=>?_)
       refine sg 84 rfl 10 #[.tmp 83] rfl #[.string ⟨FX.toArray⟩] (enters_of Tryz.func10 (by kernel_rfl) rfl) (CLr _ hH3) ?_
       rintro e W9 ⟨rfl,b9⟩
       refine ⟨_,rfl,hK.out _ _ (hH3.trans (b9.mono hH3.size)) (fun hHz=>?_)⟩
       clear hK K'
       simp only [Act.put,zqa,zqb,zqc]
       refine tk 8 15 (.string ⟨Z.toArray⟩) hHz rfl rfl (by intro w' hSw;go_simp) ?_
       simp only [Act.put,zqa,zqb,zqc]
       refine wpAnyH_done (by kernel_rfl) ?_ _
       go_wp2_with fail
       go_meet
       case rel=>exact ⟨rfl,hHz⟩
      ·rw [if_pos (by rfl)]
       have hc0:=hrow
       go_simp
       refine hK.out _ _ hH1 (fun hH2=>?_)
       clear hK K' hc0
       refine ry 1 rfl (fun K' hK=>?_)
       refine sg 78 rfl 11 #[.tmp 77] rfl #[.agg #[.slice ai ll.length ci]] (enters_of Tryz.func11 (by kernel_rfl) rfl) (CPt _ hH2) ?_
       rintro e W8 ⟨rfl,b8⟩
       refine ⟨_,rfl,hK.out _ _ (hH2.trans (b8.mono hH2.size)) (fun hH3=>?_)⟩
       clear hK K'
       simp only [Act.put,zqa,zqb,zqc]
       refine tk 6 83 (.string ⟨FX.toArray⟩) hH3 rfl rfl (by intro w' hSw;go_simp) ?_
       simp only [Act.put,zqa,zqb,zqc]
       refine ry 7 rfl (fun K' hK=>?_)
       refine sg 84 rfl 10 #[.tmp 83] rfl #[.string ⟨FX.toArray⟩] (enters_of Tryz.func10 (by kernel_rfl) rfl) (CLr _ hH3) ?_
       rintro e W9 ⟨rfl,b9⟩
       refine ⟨_,rfl,hK.out _ _ (hH3.trans (b9.mono hH3.size)) (fun hHz=>?_)⟩
       clear hK K'
       simp only [Act.put,zqa,zqb,zqc]
       refine tk 8 15 (.string ⟨Z.toArray⟩) hHz rfl rfl (by intro w' hSw;go_simp) ?_
       simp only [Act.put,zqa,zqb,zqc]
       refine wpAnyH_done (by kernel_rfl) ?_ _
       go_wp2_with fail
       go_meet
       case rel=>exact ⟨rfl,hHz⟩
    ·have eadd:(⟨TX.toArray⟩:ByteArray)++⟨#[108,97,116,101,10]⟩=⟨FX.toArray⟩:=by rw [EA2.out];apply ByteArray.ext;simp [M.ask]
     have n64:¬ (9223372036854775807:Int) < (TX.length:Int)+5:=by omega
     have n64b:TX.length≤9223372036854775802:=by omega
     refine wp_region_held_drew (S:=fun w'=>Below W7.heap.size W7 w') (by kernel_rfl) (Below.refl _ _).drew (fun hH=>?_)
     refine tk 0 77 (.agg #[.slice ai ll.length ci]) hH rfl rfl (by intro w' hSw;have hc0:=fp w' hSw;go_simp) ?_
     simp only [Act.put,zqa,zqb,zqc]
     refine tk 3 80 (.int .i64 2) hH rfl rfl (by intro w' hSw;go_simp) ?_
     simp only [Act.put,zqa,zqb,zqc]
     refine wpAnyH_ready (rs:=[1,2]) (by kernel_rfl) (by simp) ?_
     refine AllReadyH.cons rfl (fun K' hK=>?_) (AllReadyH.cons rfl (fun K' hK=>?_) AllReadyH.nil)
     ·refine sg 78 rfl 11 #[.tmp 77] rfl #[.agg #[.slice ai ll.length ci]] (enters_of Tryz.func11 (by kernel_rfl) rfl) (CPt _ hH) ?_
      rintro e W8 ⟨rfl,b8⟩
      refine ⟨_,rfl,hK.out _ _ (hH.trans (b8.mono hH.size)) (fun hH1=>?_)⟩
      clear hK K'
      simp only [Act.put,zqa,zqb,zqc]
      refine ry 2 rfl (fun K' hK=>?_)
      rw [if_pos (by rfl)]
      refine wp_buildSlice 39 9 4 _ rfl #[.string ⟨#[]⟩,.string ⟨#[115,116,114,105,99,116,10]⟩,.string ⟨#[108,97,116,101,10]⟩,.string ⟨#[108,111,111,115,101,10]⟩] i0 _ Tryz.underlying39 hi hz0 (by rw [hz1];decide) (by rw [hz1];decide) (by rw [hz1];as_aux_lemma=>kernel_rfl) ?_
      refine hK.out _ _ (hH1.alloc hH1.size _) (fun hH2=>?_)
      clear hK K'
      simp only [Act.put,zqa,zqb,zqc]
      refine tk 4 81 (.pointer (some ⟨W8.heap.size,2,none⟩)) hH2 rfl rfl (by intro w' hSw;go_simp) ?_
      simp only [Act.put,zqa,zqb,zqc]
      refine ry 5 rfl (fun K' hK=>?_)
      rw [if_pos (by rfl)]
      have hc0:=(by simp:(W8.alloc (.cells #[.string ⟨#[]⟩,.string ⟨#[115,116,114,105,99,116,10]⟩,.string ⟨#[108,97,116,101,10]⟩,.string ⟨#[108,111,111,115,101,10]⟩] 9)).cell? ⟨W8.heap.size,2,none⟩=some (.string ⟨#[108,97,116,101,10]⟩))
      go_simp
      refine hK.out _ _ hH2 (fun hH3=>?_)
      clear hK K' hc0
      refine tk 6 83 (.string ⟨FX.toArray⟩) hH3 rfl rfl (by intro w' hSw;go_simp) ?_
      simp only [Act.put,zqa,zqb,zqc]
      refine ry 7 rfl (fun K' hK=>?_)
      refine sg 84 rfl 10 #[.tmp 83] rfl #[.string ⟨FX.toArray⟩] (enters_of Tryz.func10 (by kernel_rfl) rfl) (CLr _ hH3) ?_
      rintro e W9 ⟨rfl,b9⟩
      refine ⟨_,rfl,hK.out _ _ (hH3.trans (b9.mono hH3.size)) (fun hHz=>?_)⟩
      clear hK K'
      simp only [Act.put,zqa,zqb,zqc]
      refine tk 8 15 (.string ⟨Z.toArray⟩) hHz rfl rfl (by intro w' hSw;go_simp) ?_
      simp only [Act.put,zqa,zqb,zqc]
      refine wpAnyH_done (by kernel_rfl) ?_ _
      go_wp2_with fail
      go_meet
      case rel=>exact ⟨rfl,hHz⟩
     ·rw [if_pos (by rfl)]
      refine wp_buildSlice 39 9 4 _ rfl #[.string ⟨#[]⟩,.string ⟨#[115,116,114,105,99,116,10]⟩,.string ⟨#[108,97,116,101,10]⟩,.string ⟨#[108,111,111,115,101,10]⟩] i0 _ Tryz.underlying39 hi hz0 (by rw [hz1];decide) (by rw [hz1];decide) (by rw [hz1];as_aux_lemma=>kernel_rfl) ?_
      refine hK.out _ _ (hH.alloc hH.size _) (fun hH1=>?_)
      clear hK K'
      simp only [Act.put,zqa,zqb,zqc]
      refine tk 4 81 (.pointer (some ⟨W7.heap.size,2,none⟩)) hH1 rfl rfl (by intro w' hSw;go_simp) ?_
      simp only [Act.put,zqa,zqb,zqc]
      have hrow:=(fun (V:World) (e:V.heap.size=W7.heap.size)=>(by rw [← e];simp:(V.alloc (.cells #[.string ⟨#[]⟩,.string ⟨#[115,116,114,105,99,116,10]⟩,.string ⟨#[108,97,116,101,10]⟩,.string ⟨#[108,111,111,115,101,10]⟩] 9)).cell? ⟨W7.heap.size,2,none⟩=some (.string ⟨#[108,97,116,101,10]⟩))) W7.drew rfl
      refine wpAnyH_ready (rs:=[1,5]) (by kernel_rfl) (by simp) ?_
      refine AllReadyH.cons rfl (fun K' hK=>?_) (AllReadyH.cons rfl (fun K' hK=>?_) AllReadyH.nil)
      ·refine sg 78 rfl 11 #[.tmp 77] rfl #[.agg #[.slice ai ll.length ci]] (enters_of Tryz.func11 (by kernel_rfl) rfl) (CPt _ hH1) ?_
       rintro e W8 ⟨rfl,b8⟩
       refine ⟨_,rfl,hK.out _ _ (hH1.trans (b8.mono hH1.size)) (fun hH2=>?_)⟩
       clear hK K'
       simp only [Act.put,zqa,zqb,zqc]
       refine ry 5 rfl (fun K' hK=>?_)
       rw [if_pos (by rfl)]
       have hc0:=cellL b8 hrow
       go_simp
       refine hK.out _ _ hH2 (fun hH3=>?_)
       clear hK K' hc0
       refine tk 6 83 (.string ⟨FX.toArray⟩) hH3 rfl rfl (by intro w' hSw;go_simp) ?_
       simp only [Act.put,zqa,zqb,zqc]
       refine ry 7 rfl (fun K' hK=>?_)
       refine sg 84 rfl 10 #[.tmp 83] rfl #[.string ⟨FX.toArray⟩] (enters_of Tryz.func10 (by kernel_rfl) rfl) (CLr _ hH3) ?_
       rintro e W9 ⟨rfl,b9⟩
       refine ⟨_,rfl,hK.out _ _ (hH3.trans (b9.mono hH3.size)) (fun hHz=>?_)⟩
       clear hK K'
       simp only [Act.put,zqa,zqb,zqc]
       refine tk 8 15 (.string ⟨Z.toArray⟩) hHz rfl rfl (by intro w' hSw;go_simp) ?_
       simp only [Act.put,zqa,zqb,zqc]
       refine wpAnyH_done (by kernel_rfl) ?_ _
       go_wp2_with fail
       go_meet
       case rel=>exact ⟨rfl,hHz⟩
      ·rw [if_pos (by rfl)]
       have hc0:=hrow
       go_simp
       refine hK.out _ _ hH1 (fun hH2=>?_)
       clear hK K' hc0
       refine ry 1 rfl (fun K' hK=>?_)
       refine sg 78 rfl 11 #[.tmp 77] rfl #[.agg #[.slice ai ll.length ci]] (enters_of Tryz.func11 (by kernel_rfl) rfl) (CPt _ hH2) ?_
       rintro e W8 ⟨rfl,b8⟩
       refine ⟨_,rfl,hK.out _ _ (hH2.trans (b8.mono hH2.size)) (fun hH3=>?_)⟩
       clear hK K'
       simp only [Act.put,zqa,zqb,zqc]
       refine tk 6 83 (.string ⟨FX.toArray⟩) hH3 rfl rfl (by intro w' hSw;go_simp) ?_
       simp only [Act.put,zqa,zqb,zqc]
       refine ry 7 rfl (fun K' hK=>?_)
       refine sg 84 rfl 10 #[.tmp 83] rfl #[.string ⟨FX.toArray⟩] (enters_of Tryz.func10 (by kernel_rfl) rfl) (CLr _ hH3) ?_
       rintro e W9 ⟨rfl,b9⟩
       refine ⟨_,rfl,hK.out _ _ (hH3.trans (b9.mono hH3.size)) (fun hHz=>?_)⟩
       clear hK K'
       simp only [Act.put,zqa,zqb,zqc]
       refine tk 8 15 (.string ⟨Z.toArray⟩) hHz rfl rfl (by intro w' hSw;go_simp) ?_
       simp only [Act.put,zqa,zqb,zqc]
       refine wpAnyH_done (by kernel_rfl) ?_ _
       go_wp2_with fail
       go_meet
       case rel=>exact ⟨rfl,hHz⟩
    ·have eadd:(⟨TX.toArray⟩:ByteArray)++⟨#[108,111,111,115,101,10]⟩=⟨FX.toArray⟩:=by rw [EA2.out];apply ByteArray.ext;simp [M.ask]
     have n64:¬ (9223372036854775807:Int) < (TX.length:Int)+6:=by omega
     have n64b:TX.length≤9223372036854775801:=by omega
     refine wp_region_held_drew (S:=fun w'=>Below W7.heap.size W7 w') (by kernel_rfl) (Below.refl _ _).drew (fun hH=>?_)
     refine tk 0 77 (.agg #[.slice ai ll.length ci]) hH rfl rfl (by intro w' hSw;have hc0:=fp w' hSw;go_simp) ?_
     simp only [Act.put,zqa,zqb,zqc]
     refine tk 3 80 (.int .i64 3) hH rfl rfl (by intro w' hSw;go_simp) ?_
     simp only [Act.put,zqa,zqb,zqc]
     refine wpAnyH_ready (rs:=[1,2]) (by kernel_rfl) (by simp) ?_
     refine AllReadyH.cons rfl (fun K' hK=>?_) (AllReadyH.cons rfl (fun K' hK=>?_) AllReadyH.nil)
     ·refine sg 78 rfl 11 #[.tmp 77] rfl #[.agg #[.slice ai ll.length ci]] (enters_of Tryz.func11 (by kernel_rfl) rfl) (CPt _ hH) ?_
      rintro e W8 ⟨rfl,b8⟩
      refine ⟨_,rfl,hK.out _ _ (hH.trans (b8.mono hH.size)) (fun hH1=>?_)⟩
      clear hK K'
      simp only [Act.put,zqa,zqb,zqc]
      refine ry 2 rfl (fun K' hK=>?_)
      rw [if_pos (by rfl)]
      refine wp_buildSlice 39 9 4 _ rfl #[.string ⟨#[]⟩,.string ⟨#[115,116,114,105,99,116,10]⟩,.string ⟨#[108,97,116,101,10]⟩,.string ⟨#[108,111,111,115,101,10]⟩] i0 _ Tryz.underlying39 hi hz0 (by rw [hz1];decide) (by rw [hz1];decide) (by rw [hz1];as_aux_lemma=>kernel_rfl) ?_
      refine hK.out _ _ (hH1.alloc hH1.size _) (fun hH2=>?_)
      clear hK K'
      simp only [Act.put,zqa,zqb,zqc]
      refine tk 4 81 (.pointer (some ⟨W8.heap.size,3,none⟩)) hH2 rfl rfl (by intro w' hSw;go_simp) ?_
      simp only [Act.put,zqa,zqb,zqc]
      refine ry 5 rfl (fun K' hK=>?_)
      rw [if_pos (by rfl)]
      have hc0:=(by simp:(W8.alloc (.cells #[.string ⟨#[]⟩,.string ⟨#[115,116,114,105,99,116,10]⟩,.string ⟨#[108,97,116,101,10]⟩,.string ⟨#[108,111,111,115,101,10]⟩] 9)).cell? ⟨W8.heap.size,3,none⟩=some (.string ⟨#[108,111,111,115,101,10]⟩))
      go_simp
      refine hK.out _ _ hH2 (fun hH3=>?_)
      clear hK K' hc0
      refine tk 6 83 (.string ⟨FX.toArray⟩) hH3 rfl rfl (by intro w' hSw;go_simp) ?_
      simp only [Act.put,zqa,zqb,zqc]
      refine ry 7 rfl (fun K' hK=>?_)
      refine sg 84 rfl 10 #[.tmp 83] rfl #[.string ⟨FX.toArray⟩] (enters_of Tryz.func10 (by kernel_rfl) rfl) (CLr _ hH3) ?_
      rintro e W9 ⟨rfl,b9⟩
      refine ⟨_,rfl,hK.out _ _ (hH3.trans (b9.mono hH3.size)) (fun hHz=>?_)⟩
      clear hK K'
      simp only [Act.put,zqa,zqb,zqc]
      refine tk 8 15 (.string ⟨Z.toArray⟩) hHz rfl rfl (by intro w' hSw;go_simp) ?_
      simp only [Act.put,zqa,zqb,zqc]
      refine wpAnyH_done (by kernel_rfl) ?_ _
      go_wp2_with fail
      go_meet
      case rel=>exact ⟨rfl,hHz⟩
     ·rw [if_pos (by rfl)]
      refine wp_buildSlice 39 9 4 _ rfl #[.string ⟨#[]⟩,.string ⟨#[115,116,114,105,99,116,10]⟩,.string ⟨#[108,97,116,101,10]⟩,.string ⟨#[108,111,111,115,101,10]⟩] i0 _ Tryz.underlying39 hi hz0 (by rw [hz1];decide) (by rw [hz1];decide) (by rw [hz1];as_aux_lemma=>kernel_rfl) ?_
      refine hK.out _ _ (hH.alloc hH.size _) (fun hH1=>?_)
      clear hK K'
      simp only [Act.put,zqa,zqb,zqc]
      refine tk 4 81 (.pointer (some ⟨W7.heap.size,3,none⟩)) hH1 rfl rfl (by intro w' hSw;go_simp) ?_
      simp only [Act.put,zqa,zqb,zqc]
      have hrow:=(fun (V:World) (e:V.heap.size=W7.heap.size)=>(by rw [← e];simp:(V.alloc (.cells #[.string ⟨#[]⟩,.string ⟨#[115,116,114,105,99,116,10]⟩,.string ⟨#[108,97,116,101,10]⟩,.string ⟨#[108,111,111,115,101,10]⟩] 9)).cell? ⟨W7.heap.size,3,none⟩=some (.string ⟨#[108,111,111,115,101,10]⟩))) W7.drew rfl
      refine wpAnyH_ready (rs:=[1,5]) (by kernel_rfl) (by simp) ?_
      refine AllReadyH.cons rfl (fun K' hK=>?_) (AllReadyH.cons rfl (fun K' hK=>?_) AllReadyH.nil)
      ·refine sg 78 rfl 11 #[.tmp 77] rfl #[.agg #[.slice ai ll.length ci]] (enters_of Tryz.func11 (by kernel_rfl) rfl) (CPt _ hH1) ?_
       rintro e W8 ⟨rfl,b8⟩
       refine ⟨_,rfl,hK.out _ _ (hH1.trans (b8.mono hH1.size)) (fun hH2=>?_)⟩
       clear hK K'
       simp only [Act.put,zqa,zqb,zqc]
       refine ry 5 rfl (fun K' hK=>?_)
       rw [if_pos (by rfl)]
       have hc0:=cellL b8 hrow
       go_simp
       refine hK.out _ _ hH2 (fun hH3=>?_)
       clear hK K' hc0
       refine tk 6 83 (.string ⟨FX.toArray⟩) hH3 rfl rfl (by intro w' hSw;go_simp) ?_
       simp only [Act.put,zqa,zqb,zqc]
       refine ry 7 rfl (fun K' hK=>?_)
       refine sg 84 rfl 10 #[.tmp 83] rfl #[.string ⟨FX.toArray⟩] (enters_of Tryz.func10 (by kernel_rfl) rfl) (CLr _ hH3) ?_
       rintro e W9 ⟨rfl,b9⟩
       refine ⟨_,rfl,hK.out _ _ (hH3.trans (b9.mono hH3.size)) (fun hHz=>?_)⟩
       clear hK K'
       simp only [Act.put,zqa,zqb,zqc]
       refine tk 8 15 (.string ⟨Z.toArray⟩) hHz rfl rfl (by intro w' hSw;go_simp) ?_
       simp only [Act.put,zqa,zqb,zqc]
       refine wpAnyH_done (by kernel_rfl) ?_ _
       go_wp2_with fail
       go_meet
       case rel=>exact ⟨rfl,hHz⟩
      ·rw [if_pos (by rfl)]
       have hc0:=hrow
       go_simp
       refine hK.out _ _ hH1 (fun hH2=>?_)
       clear hK K' hc0
       refine ry 1 rfl (fun K' hK=>?_)
       refine sg 78 rfl 11 #[.tmp 77] rfl #[.agg #[.slice ai ll.length ci]] (enters_of Tryz.func11 (by kernel_rfl) rfl) (CPt _ hH2) ?_
       rintro e W8 ⟨rfl,b8⟩
       refine ⟨_,rfl,hK.out _ _ (hH2.trans (b8.mono hH2.size)) (fun hH3=>?_)⟩
       clear hK K'
       simp only [Act.put,zqa,zqb,zqc]
       refine tk 6 83 (.string ⟨FX.toArray⟩) hH3 rfl rfl (by intro w' hSw;go_simp) ?_
       simp only [Act.put,zqa,zqb,zqc]
       refine ry 7 rfl (fun K' hK=>?_)
       refine sg 84 rfl 10 #[.tmp 83] rfl #[.string ⟨FX.toArray⟩] (enters_of Tryz.func10 (by kernel_rfl) rfl) (CLr _ hH3) ?_
       rintro e W9 ⟨rfl,b9⟩
       refine ⟨_,rfl,hK.out _ _ (hH3.trans (b9.mono hH3.size)) (fun hHz=>?_)⟩
       clear hK K'
       simp only [Act.put,zqa,zqb,zqc]
       refine tk 8 15 (.string ⟨Z.toArray⟩) hHz rfl rfl (by intro w' hSw;go_simp) ?_
       simp only [Act.put,zqa,zqb,zqc]
       refine wpAnyH_done (by kernel_rfl) ?_ _
       go_wp2_with fail
       go_meet
       case rel=>exact ⟨rfl,hHz⟩
   case rest =>
    obtain ⟨rfl,bc⟩:=hcut
    clear CPt CLr fp EA2
    generalize hLL:tx++[10]=LL at *
    generalize M.oddSeen s h kn=res at *
    clear hLL hLl
    go_wp2_with fail
    go_loopw [16,17,18] (fun s16 s17 s18 wr=>∃ (fd:Bool) (f i:Nat),s16=.bool fd∧s17=.int .i64 f∧s18=.int .i64 i∧f≤i∧i≤Z.length∧Hid (M.scan LL ((Z.drop f).take (i - f)) (Z.drop i) fd=res)∧Below W7.heap.size W7 wr) (fun _ _ s18 _=>Z.length - (intOf s18).toNat)
    case atStart=>exact ⟨false,0,0,rfl,rfl,rfl,Nat.le_refl _,Nat.zero_le _,by show _=_;simpa using HRES.out,bc⟩
    case round =>
     clear HRES bc
     obtain ⟨fd,f,i,rfl,rfl,rfl,hfi,hi',HS,hb⟩:=hrel
     have hZl:=HLZ.out
     by_cases hlt:i < Z.length
     ·have HX:Hid (Z.drop i=Z[i]::Z.drop (i+1)):=(List.getElem_cons_drop hlt).symm
      have hgb:(⟨Z.toArray⟩:ByteArray)[i]'(by simpa [ByteArray.size] using hlt)=Z[i]:=by
       show Z.toArray[i]=Z[i]
       simp
      have e0:Hid ((Z.drop f).take (i+1 - f)=(Z.drop f).take (i - f)++[Z[i]]):=by
       show _=_
       have e1:i+1 - f=(i - f)+1:=by omega
       rw [e1,List.take_add_one]
       have:(Z.drop f)[i - f]?=some Z[i]:=by
        rw [List.getElem?_drop,show f+(i - f)=i by omega,List.getElem?_eq_getElem hlt]
       rw [this]
       rfl
      have hw1:IntKind.i64.wrap ((i:Int)+1)=(i:Int)+1:=by rw [IntKind.wrap_i64];omega
      by_cases hc:Z[i]=10
      ·have hcb:(((⟨Z.toArray⟩:ByteArray)[i]'(by simpa [ByteArray.size] using hlt)).toNat:Int)=10:=by rw [hgb,hc];rfl
       have h2:=HS.out
       rw [HX.out,hc,M.scan,if_pos rfl] at h2
       obtain ⟨G,hG⟩:∃ G,(Z.drop f).take (i - f)++[10]=G:=⟨_,rfl⟩
       rw [hG] at h2
       have hx:(⟨Z.toArray⟩:ByteArray).extract f (i+1)=⟨G.toArray⟩:=by rw [bytes_extractL,e0.out,hc,hG]
       obtain ⟨bv,hbv⟩:∃ bv,(G==LL)=bv:=⟨_,rfl⟩
       rw [hbv] at h2
       have HS2:Hid (M.scan LL ((Z.drop (i+1)).take (i+1 - (i+1))) (Z.drop (i+1)) (fd||bv)=res):=by show _=_;rw [Nat.sub_self,List.take_zero];exact h2
       have n1:(f:Int)≤(i:Int)+1:=by omega
       have n2:(i:Int)+1≤Z.length:=by omega
       clear HS HX h2 hG hc e0 hgb
       cases fd
       ·go_wp2_with fail
        exact ⟨⟨bv,i+1,i+1,rfl,by go_num,by go_num,Nat.le_refl _,by omega,HS2,hb⟩,by simp [intOf];omega⟩
       ·go_wp2_with fail
        exact ⟨⟨true,i+1,i+1,rfl,by go_num,by go_num,Nat.le_refl _,by omega,HS2,hb⟩,by simp [intOf];omega⟩
      ·have hcb:((Z[i].toNat:Int)==10)=false:=by
        rw [beq_eq_false_iff_ne]
        intro e
        exact hc (UInt8.toNat_inj.1 (by show Z[i].toNat=10;omega))
       have HS2:Hid (M.scan LL ((Z.drop f).take (i+1 - f)) (Z.drop (i+1)) fd=res):=by
        show _=_
        have h2:=HS.out
        rw [HX.out,M.scan,if_neg hc] at h2
        rw [e0.out];exact h2
       clear HS HX hc e0
       go_wp2_with fail
       exact ⟨⟨fd,f,i+1,rfl,rfl,by go_num,by omega,by omega,HS2,hb⟩,by simp [intOf];omega⟩
     ·obtain rfl:i=Z.length:=by omega
      have hfd:fd=res:=by have:=HS.out;rw [List.drop_length] at this;simpa [M.scan] using this
      subst hfd
      clear HS
      go_wp2_with fail
      refine (LO _).mono ?_
      rintro e W9 ⟨rfl,b9⟩
      go_wp2_with fail
      go_ret
      exact ⟨by simp,bw7.trans ((hb.trans (b9.mono hb.size)).mono bw7.size)⟩
 ·go_enter Tryz.func3,Tryz.ntmps3
  by_cases h1:L≤1048576
  ·have h2:(1048576:Int) < ml:=by omega
   have h1':¬ (1048576:Int) < L:=by omega
   go_wp2_with fail
   go_ret
   exact ⟨rfl,Below.refl _ _⟩
  ·have h1':(1048576:Int) < L:=by omega
   go_wp2_with fail
   go_ret
   exact ⟨rfl,Below.refl _ _⟩
end
end Go.Proofs.YtnddmlgnngdaoaaGreatDoor
