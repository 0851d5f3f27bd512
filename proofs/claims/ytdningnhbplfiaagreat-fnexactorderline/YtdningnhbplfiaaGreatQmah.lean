/- The law FnExactOrderLine, walked: it answers true, and leaves all as it was. Of programs and ways of at most 9223372036854775807 parts each: more than a machine holds. -/
import Derived.Deep.OwnRows
import Derived.Test.YtdningnhbplfiaaGreatRows
import Derived.Test.YtdningnhbplfiaaGreatQrbq
import Derived.Test.YtdningnhbplfiaaGreatQmag
namespace Go.Proofs.YtdningnhbplfiaaGreat
section
open Go.RowKit
namespace M
theorem line_len {ll:List (List D)} {l:List Int} {rows:List (List Int)} {k:Int}:((orderLine ll l rows k).getD []).length≤1048576:=by
 unfold orderLine
 split
 ·rename_i h
  have hd:=deeds28 (wok_of (M.holds_parts' h).1).prog
  cases hr:lineA (foundA (deeds ll).length (netOf (deeds ll) l rows k.toNat) (choices (deeds ll))).1 (deeds ll).length (deeds ll).length [] with
  | none=>simp
  | some r =>
   have:=(line_is (deeds ll).length [] r ⟨fun x hx=>(by cases hx),List.nodup_nil,fun i j hi=>absurd hi (Nat.not_lt_zero _),fun a b _ _ hb=>(by cases hb)⟩ hr).2
   simp only [Option.getD_some,List.length_nil] at this ⊢
   omega
 ·simp
end M
theorem ixl_any (a:Option Addr) (b o c:Nat) (ll:List (List M.D)) (t:Xo) (g1 g2:Nat) (kd:Int) (ok:Bool) (L:List Int) (w:World) (hl:ll.length≤1048576) (hls:∀ t∈ll,t.length≤1048576) (ht:t.Le 1048576) (hok:(M.orderLine ll t.l t.rows kd).isSome=ok) (hL:M.ints ((M.orderLine ll t.l t.rows kd).getD [])=L) (h:DoSS w a b o ll) (hx:NewXo w g1 g2 t) :
  Calls Tryz.prog 29 #[.agg #[.slice a ll.length c],.agg #[.slice (some ⟨g1,0,none⟩) t.l.length t.l.length,.slice (some ⟨g2,0,none⟩) t.rows.length t.rows.length],.int .i64 kd] w fun e w'=>∃ ga gb gc,e=.returned (.tuple #[.slice ga L.length gc,.bool ok])∧IntS w' ga gb 0 L∧(0 < L.length→w.heap.size≤gb)∧(0 < L.length→∀ j,w'.frozen? ⟨gb,j,none⟩=false)∧Below w.heap.size w w':=by
 subst hok
 subst hL
 exact (iorderLine_any a b o c ll _ g1 0 _ t.l _ g2 0 _ t.rows kd w hl hls ht.l ht.rows ht.each h hx.f hx.r).mono fun _ _ ⟨v,he,hn,hb⟩=>by
  obtain ⟨ga,gb,gc,e1,e2,e3,e4⟩:=own_intsF (l:=M.ints ((M.orderLine ll t.l t.rows kd).getD [])) (by rw [M.ints_len];exact hn)
  exact ⟨ga,gb,gc,by rw [he,e1],e2,e3,e4,hb⟩
theorem sxl_any (a:Option Addr) (b o c:Nat) (ll:List (List M.D)) (t:Xo) (g1 g2:Nat) (kd:Int) (ok:Bool) (L:List Int) (w:World) (hl:ll.length≤1048576) (hls:∀ t∈ll,t.length≤1048576) (ht:t.Le 1048576) (hok:(M.orderLine ll t.l t.rows kd).isSome=ok) (hL:M.ints ((M.orderLine ll t.l t.rows kd).getD [])=L) (h:DoSS w a b o ll) (hx:NewXo w g1 g2 t) :
  Calls Tryz.prog 28 #[.agg #[.slice a ll.length c],.agg #[.slice (some ⟨g1,0,none⟩) t.l.length t.l.length,.slice (some ⟨g2,0,none⟩) t.rows.length t.rows.length],.int .i64 kd] w fun e w'=>∃ wa wb wc,e=.returned (.tuple #[.slice wa L.length wc,.bool ok])∧IntS w' wa wb 0 L∧Below w.heap.size w w':=by
 subst hok
 subst hL
 exact (sorderLine_any a b o c ll _ g1 0 _ t.l _ g2 0 _ t.rows kd w hl hls ht.l ht.each h hx.f hx.r).mono fun _ _ ⟨wa,wb,wc,he,hn,hb⟩=>⟨wa,wb,wc,by rw [he,M.ints_len],hn,hb⟩
set_option maxHeartbeats 4000000 in
set_option maxRecDepth 100000 in
theorem lawLinex_any (a:Option Addr) (b o c:Nat) (ll:List (List M.D)) (t:Xo) (kd:Int) (w:World) (hl0:ll.length≤9223372036854775807) (hls0:∀ t∈ll,t.length≤9223372036854775807) (ht0:t.Le 9223372036854775807) (hsa:DoSS w a b o ll) (hta:t.At w) :
  Calls Tryz.prog 5 #[.agg #[.slice a ll.length c],.agg #[.slice t.fa t.l.length t.fc,.slice t.ra t.rows.length t.rc],.int .i64 kd] w fun e w'=>e=.returned (.bool true)∧Below w.heap.size w w':=by
 go_enter Tryz.func5,Tryz.ntmps5
 go_wp2_with fail
 refine (szProg_le a b o c ll _ hl0 hls0 (hsa.below (below2 w _ _) (Nat.le_refl _))).mono ?_
 rintro e w1 ⟨r1,rfl,rfl,hor1⟩
 by_cases hn1:r1 < 0
 ·go_wp2_with fail
  go_ret
  exact ⟨rfl,below3 _ _ _ _⟩
 obtain ⟨hr1,_,hl,hls⟩:=hor1.resolve_left hn1
 clear hor1
 go_wp2_with fail
 refine (szXo_any t r1 _ (by omega) hr1 ht0 (hta.below (below3 w _ _ _) (Nat.le_refl _))).mono ?_
 rintro e w1 ⟨r2,rfl,rfl,hr2,hor2⟩
 have hb4:=(below3 w (.cells #[.slice a ll.length c] 24) (.cells #[.slice t.fa t.l.length t.fc,.slice t.ra t.rows.length t.rc] 28) (.cells #[.slice a ll.length c] 24)).alloc (by simp;omega) (.cells #[.slice t.fa t.l.length t.fc,.slice t.ra t.rows.length t.rc] 28)
 by_cases hn2:r2 < 0
 ·go_wp2_with fail
  go_ret
  exact ⟨rfl,hb4⟩
 have ht:=(hor2.resolve_left hn2).2
 clear hor2
 have bxW:BxA w _ a c ll t:=⟨hb4,by simp [go_sem],by simp [go_sem],by simp [go_sem]⟩
 generalize ((((w.alloc (.cells #[.slice a ll.length c] 24)).alloc (.cells #[.slice t.fa t.l.length t.fc,.slice t.ra t.rows.length t.rc] 28)).alloc (.cells #[.slice a ll.length c] 24)).alloc (.cells #[.slice t.fa t.l.length t.fc,.slice t.ra t.rows.length t.rc] 28))=W at *
 clear hb4 hl0 hls0 ht0
 have hLE:=M.line_len (ll:=ll) (l:=t.l) (rows:=t.rows) (k:=kd)
 obtain ⟨ok,hro⟩:∃ r,(M.orderLine ll t.l t.rows kd).isSome=r:=⟨_,rfl⟩
 obtain ⟨L,hrl⟩:∃ r,M.ints ((M.orderLine ll t.l t.rows kd).getD [])=r:=⟨_,rfl⟩
 rw [← M.ints_len,hrl] at hLE
 have HR:Hid ((M.orderLine ll t.l t.rows kd).isSome=ok):=hro
 have HL:Hid (M.ints ((M.orderLine ll t.l t.rows kd).getD [])=L):=hrl
 have E0:(ok != ok)=false:=by simp
 clear hro hrl
 go_wp2_with fail
 have X0:=bxW.p0;have X2:=bxW.q0;have X3:=bxW.q1
 go_region_held3 (fun w'=>w'.cell? ⟨w.heap.size,0,none⟩=some (.slice a ll.length c)∧w'.cell? ⟨w.heap.size+1,0,none⟩=some (.slice t.fa t.l.length t.fc)∧w'.cell? ⟨w.heap.size+1,1,none⟩=some (.slice t.ra t.rows.length t.rc)) (go_keep) (first
  | (go_at_call 15;refine (toProg_any a b o c ll _ hl hls (hsa.below bxW.bel.drew (Nat.le_refl _))).mono ?_;rintro e w1 ⟨g1,rfl,hn1,hb1⟩;have bx1:=bxW.below ((Below.refl _ _).drew.trans hb1);have Y0:=bx1.p0;have Y2:=bx1.q0;have Y3:=bx1.q1)
  | (go_at_call 16;refine (toXn_any t _ ht (hta.below bx1.bel (Nat.le_refl _))).mono ?_;rintro e w2 ⟨g3,g4,rfl,hn2,hb2⟩;have bx2:=bx1.below hb2;have hno:=hn1.old.below hb2 (Nat.le_refl _);have U0:=bx2.p0;have U2:=bx2.q0;have U3:=bx2.q1)
  | (go_at_call 28;refine (sxl_any _ g1 0 ll.length ll t g3 g4 kd ok L _ hl hls ht HR.out HL.out hno hn2.xo).mono ?_;rintro e w3 ⟨wa,wb,wc,rfl,hs3,hb3⟩;have bx3:=bx2.below hb3;have Z0:=bx3.p0;have Z2:=bx3.q0;have Z3:=bx3.q1))
 clear X0 X2 X3 Y0 Y2 Y3 U0 U2 U3 Z0 Z2 Z3 bx1 bx2 bxW hn1 hn2 hb1 hb2 hb3 hno
 have P0:=bx3.p0
 have hwB:=bx3.bel.size
 have lo0:0 < L.length→wb < w3.heap.size:=fun hp=>World.block_lt_of_cell? _ _ (hs3.row 0 hp)
 go_wp2_with fail
 refine (toProg_any a b o c ll _ hl hls (hsa.below bx3.bel (Nat.le_refl _))).mono ?_
 rintro e w9 ⟨x1,rfl,hx,hb9⟩
 have bx9:=bx3.below hb9
 have P9:=bx9.p0;have Q9:=bx9.q0;have Q9':=bx9.q1;have L9:=bx9.lt
 go_wp2_with fail
 refine (toXn_any t _ ht (hta.below (bx9.below (below1 _ _)).bel (Nat.le_refl _))).mono ?_
 rintro e w10 ⟨y1,y2,rfl,hy,hb10⟩
 have hb910:Below w9.heap.size w9 w10:=bel_box (Below.refl _ _) hb10
 have bx10:=bx9.below hb910
 have pc:w10.cell? ⟨w9.heap.size,0,none⟩=some (.slice (some ⟨x1,0,none⟩) ll.length ll.length):=cb hb10 (by simp)
 have lpc:w9.heap.size < w10.heap.size:=World.block_lt_of_cell? _ _ pc
 clear P0 P9 Q9 Q9' L9
 go_wp2_with fail
 refine (ixl_any _ x1 0 ll.length ll t y1 y2 kd ok L _ hl hls ht HR.out HL.out ((hx.old.below hb910 (Nat.le_refl _)).below (below1 _ _) (Nat.le_refl _)) (hy.xo.below (below1 _ _) (Nat.le_refl _))).mono ?_
 rintro e w11 ⟨ga,gb,gc,rfl,hg0,hgl,hgf,hb11⟩
 have hb1011:Below w10.heap.size w10 w11:=bel_box (Below.refl _ _) hb11
 have qc0:w11.cell? ⟨w10.heap.size,0,none⟩=some (.slice (some ⟨y1,0,none⟩) t.l.length t.l.length):=cb hb11 (by simp)
 have qc1:w11.cell? ⟨w10.heap.size,1,none⟩=some (.slice (some ⟨y2,0,none⟩) t.rows.length t.rows.length):=cb hb11 (by simp)
 rw [World.size_alloc] at hgl
 have al:Al w w11 a c ll t w9.heap.size w10.heap.size x1 y1 y2 w3.heap.size w9.heap.size (w9.heap.size+1) w10.heap.size wa wb ga gb L :=
  ⟨bx10.below hb1011,⟨((hs3.below hb9 (Nat.le_refl _)).below hb910 (Nat.le_refl _)).below hb1011 (Nat.le_refl _),hg0,hgf⟩,cb hb1011 pc,qc0,qc1,(hx.below hb910 (Nat.le_refl _)).below hb1011 (Nat.le_refl _),by have hy':=hy.below hb1011 (Nat.le_refl _);rw [World.size_alloc] at hy';exact hy'⟩
 have o1:=hb9.size
 clear hg0 hgf hb11 hb1011 qc0 qc1 pc hb910 hb10 bx10 bx9 hb9 hx hy bx3 hs3
 obtain ⟨B1,hB1⟩:∃ R,w3.heap.size=R:=⟨_,rfl⟩
 obtain ⟨N1,hN1⟩:∃ R,w9.heap.size=R:=⟨_,rfl⟩
 obtain ⟨N2,hN2⟩:∃ R,w10.heap.size=R:=⟨_,rfl⟩
 rw [hB1,hN1,hN2] at al
 rw [hB1] at lo0 hwB o1
 rw [hN1] at o1 lpc
 rw [hN2] at hgl lpc
 rw [hN1,hN2]
 clear hB1 hN1 hN2
 go_wp2_with fail
 refine (eqIntS_same ga gb 0 gc wa wb 0 wc L w11 hLE al.two.g0 al.two.s0).mono ?_
 rintro e W13 ⟨rfl,hb13⟩
 have al13:=al.below hb13.bel
 clear al hb13
 go_wp2_with fail
 have al14:=al13.below (Below.refl _ _).drew
 have C1:=toProg_any a b o c ll W13.drew hl hls (hsa.below al14.bx.bel (Nat.le_refl _))
 have X0:=al13.bx.p0;have X1:=al13.ps
 go_region_held3 (fun w'=>w'.cell? ⟨w.heap.size,0,none⟩=some (.slice a ll.length c)∧w'.cell? ⟨N1,0,none⟩=some (.slice (some ⟨x1,0,none⟩) ll.length ll.length)) (go_keep) (first
  | (go_at_call 15;refine C1.mono ?_;rintro e W14 ⟨g1,rfl,hn1,hb1⟩;have al15:=al14.below hb1;have Y0:=al15.bx.p0;have Y1:=al15.ps)
  | (go_at_call 19;refine (eqProg_same _ x1 0 ll.length _ g1 0 ll.length ll _ hl hls al15.hx.old hn1.old).mono ?_;rintro e W15 ⟨rfl,hb15⟩;have al16:=al15.below hb15;have Z0:=al16.bx.p0;have Z1:=al16.ps))
 clear X0 X1 Y0 Y1 Z0 Z1 C1 al13 al14 al15 hn1 hb1 hb15
 have X0:=al16.bx.q0;have X1:=al16.bx.q1;have X2:=al16.q0;have X3:=al16.q1
 go_wp2_with fail
 have al17:=al16.below (Below.refl _ _).drew
 have C2:=toXn_any t W15.drew ht (hta.below al17.bx.bel (Nat.le_refl _))
 go_region_held3 (fun w'=>w'.cell? ⟨w.heap.size+1,0,none⟩=some (.slice t.fa t.l.length t.fc)∧w'.cell? ⟨w.heap.size+1,1,none⟩=some (.slice t.ra t.rows.length t.rc)∧w'.cell? ⟨N2,0,none⟩=some (.slice (some ⟨y1,0,none⟩) t.l.length t.l.length)∧w'.cell? ⟨N2,1,none⟩=some (.slice (some ⟨y2,0,none⟩) t.rows.length t.rows.length)) (go_keep) (first
  | (go_at_call 16;refine C2.mono ?_;rintro e W16 ⟨g3,g4,rfl,hn2,hb2⟩;have al18:=al17.below hb2;have Y0:=al18.bx.q0;have Y1:=al18.bx.q1;have Y2:=al18.q0;have Y3:=al18.q1)
  | (go_at_call 20;refine (eqXo_any t al18.hy.xo hn2.xo ht).mono ?_;rintro e W17 ⟨rfl,hg13⟩;have al19:=al18.below hg13;have Z0:=al19.bx.q0;have Z1:=al19.bx.q1;have Z2:=al19.q0;have Z3:=al19.q1))
 clear X0 X1 X2 X3 Y0 Y1 Y2 Y3 Z0 Z1 Z2 Z3 C2 al16 al17 al18 hn2 hb2 hg13
 have X0:=al19.ps
 go_wp2_with fail
 refine (markProg_any x1 ll.length B1 N1 ll W17 hl hls al19.hx).mono ?_
 rintro e W18 ⟨k1,wm,rfl,hk1,rfl,mk1⟩
 have al20:=al19.below (below1 W17 (.cells #[.slice (some ⟨x1,0,none⟩) ll.length ll.length] 35))
 have am20:Am w W18 a c ll t wa wb ga gb L:=Am.mk_ ⟨al20.bx,al20.two⟩ mk1 (fun j hj=>by omega) (fun hp hj=>by have:=lo0 hp;omega) (fun hp hj=>by have:=hgl hp;omega)
 have y0:=mk1.rest _ _ al20.q0 (fun _ e=>by cases e)
 have y1':=mk1.rest _ _ al20.q1 (fun _ e=>by cases e)
 have hyC:=(al20.hy.f.toC (fun _ j=>al20.hy.fz j)).mk_ mk1
 have hyR:=al20.hy.r.rowsC.mk_ mk1
 have hge:=al20.hy.ge
 have hltN:=al20.hy.lt
 clear X0 al19 al20 mk1
 go_wp2_with fail
 refine (markExec_any (N1+1) N2 y1 y2 t.l.length t.rows.length t.l t.rows k1 W18 hk1.1 hk1.2 ht.l ht.rows ht.each hyC hge hltN hyR).mono ?_
 rintro e W19 ⟨k2,wn,rfl,hk2,rfl,mk2⟩
 have am21:=am20.below (below1 W18 (.cells #[.slice (some ⟨y1,0,none⟩) t.l.length t.l.length,.slice (some ⟨y2,0,none⟩) t.rows.length t.rows.length] 37))
 have am22:=am21.mk_ mk2 (fun j hj=>by omega) (fun hp hj=>by have:=lo0 hp;omega) (fun hp hj=>by have:=hgl hp;omega)
 have k2n:¬ (k2 < 0):=by omega
 have k2n':decide (k2 < 0)=false:=by simpa using k2n
 clear am20 am21 mk2 y0 y1' hyC hyR hge hltN
 go_wp2_with fail
 refine (eqIntS_same ga gb 0 gc wa wb 0 wc L W19 hLE am22.two.g0 am22.two.s0).mono ?_
 rintro e W20 ⟨rfl,hb20⟩
 have am23:=am22.below hb20.bel
 clear am22 hb20
 go_wp2_with fail
 refine (markIntS_any ga gb 0 L.length gc 1 W20 hLE (by omega) (by omega) (am23.two.g0.toC am23.two.gf)).mono ?_
 rintro e W21 ⟨rfl,hgm,mk3⟩
 have an:An w W21 a c ll t wa wb ga gb L:=⟨am23.bx.mk_ mk3 (fun j hj=>by have:=hgl hj.2;omega),am23.two.s0.mkFar mk3 (fun hp hj=>by have:=lo0 hp;have:=hgl hp;omega),hgm⟩
 clear am23 mk3 hgm
 have q1:¬ ((1:Int)+L.length < 0):=by omega
 have q1':decide ((1:Int)+L.length < 0)=false:=by simpa using q1
 go_wp2_with fail
 refine (heldIntS_any ga gb 0 L.length gc 1 W21 hLE (by omega) (by omega) an.gm).mono ?_
 rintro e W22 ⟨rfl,rfl⟩
 go_wp2_with fail
 have bxW:=an.bx
 have X0:=bxW.p0;have X2:=bxW.q0;have X3:=bxW.q1
 go_region_held3 (fun w'=>w'.cell? ⟨w.heap.size,0,none⟩=some (.slice a ll.length c)∧w'.cell? ⟨w.heap.size+1,0,none⟩=some (.slice t.fa t.l.length t.fc)∧w'.cell? ⟨w.heap.size+1,1,none⟩=some (.slice t.ra t.rows.length t.rc)) (go_keep) (first
  | (go_at_call 15;refine (toProg_any a b o c ll _ hl hls (hsa.below bxW.bel.drew (Nat.le_refl _))).mono ?_;rintro e w1 ⟨g1,rfl,hn1,hb1⟩;have bx1:=bxW.below ((Below.refl _ _).drew.trans hb1);have Y0:=bx1.p0;have Y2:=bx1.q0;have Y3:=bx1.q1)
  | (go_at_call 16;refine (toXn_any t _ ht (hta.below bx1.bel (Nat.le_refl _))).mono ?_;rintro e w2 ⟨g3,g4,rfl,hn2,hb2⟩;have bx2:=bx1.below hb2;have hno:=hn1.old.below hb2 (Nat.le_refl _);have U0:=bx2.p0;have U2:=bx2.q0;have U3:=bx2.q1)
  | (go_at_call 29;refine (ixl_any _ g1 0 ll.length ll t g3 g4 kd ok L _ hl hls ht HR.out HL.out hno hn2.xo).mono ?_;rintro e w3 ⟨ja,jb,jc,rfl,hs3,_,_,hb3⟩;have bx3:=bx2.below hb3;have Z0:=bx3.p0;have Z2:=bx3.q0;have Z3:=bx3.q1))
 have bWf:Below W22.heap.size W22 w3:=(((Below.refl _ _).drew.trans hb1).trans (hb2.mono hb1.size)).trans (hb3.mono (Nat.le_trans hb1.size hb2.size))
 have an3:=an.below bWf
 clear X0 X2 X3 Y0 Y2 Y3 U0 U2 U3 Z0 Z2 Z3 bx1 bx2 bx3 bxW hn1 hn2 hb1 hb2 hb3 hno an bWf
 go_wp2_with fail
 refine (eqIntS_same ja jb 0 jc wa wb 0 wc L w3 hLE hs3 an3.s0).mono ?_
 rintro e W30 ⟨rfl,hb30⟩
 have an4:=an3.below hb30.bel
 clear an3 hb30 hs3
 go_wp2_with fail
 refine (heldIntS_any ga gb 0 L.length gc 1 W30 hLE (by omega) (by omega) an4.gm).mono ?_
 rintro e W31 ⟨rfl,rfl⟩
 go_wp2_with fail
 go_ret
 exact ⟨rfl,an4.bx.bel⟩
end
end Go.Proofs.YtdningnhbplfiaaGreat
