/- The law FnExactWhyOrder, walked: it answers true, and leaves all as it was. Of programs and lists of at most 9223372036854775807 parts each: more than a machine holds. -/
import Derived.Deep.OwnRows
import Derived.Test.YtegommoflmmahaaGreatRows
import Derived.Test.YtegommoflmmahaaGreatQucd
namespace Go.Proofs.YtegommoflmmahaaGreat
section
open Go.RowKit
theorem swhyOrderK_any (a:Option Addr) (b o c:Nat) (ll:List (List M.D)) (t:Sn) (w:World) (hl:ll.length≤1048576) (hls:∀ t∈ll,t.length≤1048576) (ht:t.Le 1048576) (h:DoSS w a b o ll) (hta:t.At w) :
  Calls Tryz.prog 22 #[.agg #[.slice a ll.length c],.agg #[.slice t.a1 t.l1.length t.c1,.slice t.a2 t.l2.length t.c2]] w fun e w'=>e=.returned (.int .i64 (M.whyOrder ll t.l1 t.l2))∧Below w.heap.size w w':=by
 rw [← M.swhyOrder_same]
 exact swhyOrder_any a b o c ll t w hl hls ht h hta
set_option maxHeartbeats 1000000 in
set_option maxRecDepth 100000 in
theorem lawYy_any (a:Option Addr) (b o c:Nat) (ll:List (List M.D)) (t:Sn) (w:World) (hl0:ll.length≤9223372036854775807) (hls0:∀ t∈ll,t.length≤9223372036854775807) (ht0:t.Le 9223372036854775807) (hsa:DoSS w a b o ll) (hta:t.At w) :
  Calls Tryz.prog 9 #[.agg #[.slice a ll.length c],.agg #[.slice t.a1 t.l1.length t.c1,.slice t.a2 t.l2.length t.c2]] w fun e w'=>e=.returned (.bool true)∧Below w.heap.size w w':=by
 go_enter Tryz.func9,Tryz.ntmps9
 go_wp2_with fail
 refine (szProg_le a b o c ll _ hl0 hls0 (hsa.below (below2 w _ _) (Nat.le_refl _))).mono ?_
 rintro e w1 ⟨r1,rfl,rfl,hor1⟩
 by_cases hn1:r1 < 0
 ·go_wp2_with fail
  go_ret
  exact ⟨rfl,below3 _ _ _ _⟩
 obtain ⟨hr1,_,hl,hls⟩:=hor1.resolve_left hn1
 clear hor1
 go_wp2_with fail
 refine (szSeen_any t r1 _ (by omega) hr1 ht0).mono ?_
 rintro e w1 ⟨r2,rfl,rfl,hr2,hor2⟩
 have hb4:=(below3 w (.cells #[.slice a ll.length c] 55) (.cells #[.slice t.a1 t.l1.length t.c1,.slice t.a2 t.l2.length t.c2] 56) (.cells #[.slice a ll.length c] 55)).alloc (by simp;omega) (.cells #[.slice t.a1 t.l1.length t.c1,.slice t.a2 t.l2.length t.c2] 56)
 by_cases hn2:r2 < 0
 ·go_wp2_with fail
  go_ret
  exact ⟨rfl,hb4⟩
 have ht:=(hor2.resolve_left hn2).2
 clear hor2
 have st0:StP w _ a b o c ll t:=⟨hb4,by simp,by simp [go_sem],by simp [go_sem],by simp [go_sem],hsa.below hb4 (Nat.le_refl _),hta.below hb4 (Nat.le_refl _)⟩
 generalize ((((w.alloc (.cells #[.slice a ll.length c] 55)).alloc (.cells #[.slice t.a1 t.l1.length t.c1,.slice t.a2 t.l2.length t.c2] 56)).alloc (.cells #[.slice a ll.length c] 55)).alloc (.cells #[.slice t.a1 t.l1.length t.c1,.slice t.a2 t.l2.length t.c2] 56))=W at *
 clear hb4 hsa hta hl0 hls0 ht0
 go_wp2_with fail
 have st1:=st0.below (Below.refl _ _).drew
 obtain ⟨ht1,ht2⟩:=ht
 have C1:=toProg_any a b o c ll W.drew hl hls st1.sa
 have X0:=st0.p0;have X2:=st0.q0;have X3:=st0.q1
 obtain ⟨ro,hro⟩:∃ r,M.whyOrder ll t.l1 t.l2=r:=⟨_,rfl⟩
 have HR:Hid (M.whyOrder ll t.l1 t.l2=ro):=hro
 clear hro
 go_region_held3 (fun w'=>w'.cell? ⟨w.heap.size,0,none⟩=some (.slice a ll.length c)∧w'.cell? ⟨w.heap.size+1,0,none⟩=some (.slice t.a1 t.l1.length t.c1)∧w'.cell? ⟨w.heap.size+1,1,none⟩=some (.slice t.a2 t.l2.length t.c2)) (go_keep) (first
  | (go_at_call 27;refine C1.mono ?_;rintro e w1 ⟨g1,rfl,hn1,hb1⟩;have st2:=st1.below hb1;have Y0:=st2.p0;have Y2:=st2.q0;have Y3:=st2.q1)
  | (go_at_call_of 28 (Value.agg #[.slice t.a1 t.l1.length t.c1,.slice t.a2 t.l2.length t.c2]);refine (toSeen_any t _ ⟨ht1,ht2⟩ st2.ta).mono ?_;rintro e w2 ⟨g3,g4,rfl,hn2,hb2⟩;have st3:=st2.below hb2;have Z0:=st3.p0;have Z2:=st3.q0;have Z3:=st3.q1)
  | (go_at_call 22;refine (swhyOrderK_any _ g1 0 ll.length ll (newSn g3 g4 t.l1 t.l2) _ hl hls ⟨ht1,ht2⟩ (hn1.old.below hb2 (Nat.le_refl _)) hn2.at).mono ?_;(show ∀ e w',e=Ending.returned (.int .i64 (M.whyOrder ll t.l1 t.l2))∧_→_);rw [HR.out];rintro e w3 ⟨rfl,hg3⟩;have st4:=st3.below hg3;have U0:=st4.p0;have U2:=st4.q0;have U3:=st4.q1))
 clear X0 X2 X3 Y0 Y2 Y3 Z0 Z2 Z3 st0 st1 st2 st3 C1 hn1 hn2 hb1 hb2 hg3
 go_wp2_with fail
 refine (toProg_any a b o c ll _ hl hls st4.sa).mono ?_
 rintro e w5 ⟨x1,rfl,hx,hb5⟩
 have st5:=st4.below hb5
 have V0:=st5.p0;have V2:=st5.q0;have V3:=st5.q1;have V4:=st5.lt
 clear U0 U2 U3 st4 hb5
 go_wp2_with fail
 have st6:=st5.below (below1 w5 (.cells #[.slice (some ⟨x1,0,none⟩) ll.length ll.length] 25))
 have hx6:=hx.below (below1 w5 (.cells #[.slice (some ⟨x1,0,none⟩) ll.length ll.length] 25)) (Nat.le_refl _)
 refine (toSeen_any t _ ⟨ht1,ht2⟩ st6.ta).mono ?_
 rintro e w7 ⟨y1,y2,rfl,hy,hb7⟩
 have st7:=st6.below hb7
 have hx7:=hx6.below hb7 (Nat.le_refl _)
 have A0:w7.cell? ⟨w5.heap.size,0,none⟩=some (.slice (some ⟨x1,0,none⟩) ll.length ll.length):=by rw [hb7.cell (p:=⟨w5.heap.size,0,none⟩) (by simp)];simp
 have A2:w5.heap.size < w7.heap.size:=World.block_lt_of_cell? _ _ A0
 have V0':=st7.p0;have V2':=st7.q0;have V3':=st7.q1;have V4':=st7.lt
 clear V0 V2 V3 V4 st5 st6 hx hx6 hb7
 go_wp2_with fail
 have hb8:=below1 w7 (.cells #[.slice (some ⟨y1,0,none⟩) t.l1.length t.l1.length,.slice (some ⟨y2,0,none⟩) t.l2.length t.l2.length] 28)
 refine (iwhyOrder_any _ x1 0 ll.length ll (newSn y1 y2 t.l1 t.l2) _ hl hls ⟨ht1,ht2⟩ (hx7.old.below hb8 (Nat.le_refl _)) (hy.below hb8 (Nat.le_refl _)).at).mono ?_
 show ∀ e w',e=Ending.returned (.int .i64 (M.whyOrder ll t.l1 t.l2))∧_→_
 rw [HR.out]
 rintro e w8 ⟨rfl,hg8⟩
 have hb8':Below w7.heap.size w7 w8:=hb8.trans (hg8.mono (by simp))
 have st8:=st7.below hb8'
 have hx8:=hx7.below hb8' (Nat.le_refl _)
 have hy8:=hy.below hb8' (Nat.le_refl _)
 have X0:=st8.p0;have X2:=st8.q0;have X3:=st8.q1;have X4:=st8.lt
 have B0:w8.cell? ⟨w5.heap.size,0,none⟩=some (.slice (some ⟨x1,0,none⟩) ll.length ll.length):=(hb8'.cell (p:=⟨w5.heap.size,0,none⟩) A2).trans A0
 have B2:w8.cell? ⟨w7.heap.size,0,none⟩=some (.slice (some ⟨y1,0,none⟩) t.l1.length t.l1.length):=by rw [hg8.cell (p:=⟨w7.heap.size,0,none⟩) (by simp)];simp
 have B3:w8.cell? ⟨w7.heap.size,1,none⟩=some (.slice (some ⟨y2,0,none⟩) t.l2.length t.l2.length):=by rw [hg8.cell (p:=⟨w7.heap.size,1,none⟩) (by simp)];simp
 have L5:w5.heap.size < w8.heap.size:=World.block_lt_of_cell? _ _ B0
 have L7:w7.heap.size < w8.heap.size:=World.block_lt_of_cell? _ _ B2
 clear A0 A2 V0' V2' V3' V4' st7 hx7 hy hb8 hb8' hg8
 generalize w5.heap.size=G5 at *
 generalize w7.heap.size=G7 at *
 go_wp2_with fail
 have st9:=st8.below (Below.refl _ _).drew
 have hx9:=hx8.below (Below.refl _ _).drew (Nat.le_refl _)
 have C1:=toProg_any a b o c ll w8.drew hl hls st9.sa
 go_region_held3 (fun w'=>w'.cell? ⟨w.heap.size,0,none⟩=some (.slice a ll.length c)∧w'.cell? ⟨G5,0,none⟩=some (.slice (some ⟨x1,0,none⟩) ll.length ll.length)) (go_keep) (first
  | (go_at_call 27;refine C1.mono ?_;rintro e w9 ⟨g1,rfl,hn1,hb1⟩;have st10:=st9.below hb1;have Y0:=st10.p0;have D0:=(hb1.cell (p:=⟨G5,0,none⟩) L5).trans B0)
  | (go_at_call 30;refine (eqProg_same _ x1 0 ll.length _ g1 0 ll.length ll _ hl hls (hx9.below hb1 (Nat.le_refl _)).old hn1.old).mono ?_;rintro e w10 ⟨rfl,hg10⟩;have st11:=st10.below hg10;have Z0:=st11.p0;have E0:=(hg10.cell (p:=⟨G5,0,none⟩) (Nat.lt_of_lt_of_le L5 hb1.size)).trans D0))
 have hy11:=((hy8.below (Below.refl _ _).drew (Nat.le_refl _)).below hb1 (Nat.le_refl _)).below hg10 (Nat.le_refl _)
 have hb11:Below w8.heap.size w8 w10:=((Below.refl _ _).drew.trans hb1).trans (hg10.mono hb1.size)
 have F0:=(hb11.cell (p:=⟨G7,0,none⟩) L7).trans B2
 have F1:=(hb11.cell (p:=⟨G7,1,none⟩) L7).trans B3
 have L7':G7 < w10.heap.size:=World.block_lt_of_cell? _ _ F0
 have Z2:=st11.q0;have Z3:=st11.q1
 clear B0 B2 B3 L5 L7 D0 E0 Y0 X0 X2 X3 X4 st8 st9 st10 hx8 hy8 hx9 C1 hn1 hb1 hg10 hb11
 go_wp2_with fail
 have st12:=st11.below (Below.refl _ _).drew
 have hy12:=hy11.below (Below.refl _ _).drew (Nat.le_refl _)
 have C2:=toSeen_any t w10.drew ⟨ht1,ht2⟩ st12.ta
 go_region_held3 (fun w'=>w'.cell? ⟨w.heap.size+1,0,none⟩=some (.slice t.a1 t.l1.length t.c1)∧w'.cell? ⟨w.heap.size+1,1,none⟩=some (.slice t.a2 t.l2.length t.c2)∧w'.cell? ⟨G7,0,none⟩=some (.slice (some ⟨y1,0,none⟩) t.l1.length t.l1.length)∧w'.cell? ⟨G7,1,none⟩=some (.slice (some ⟨y2,0,none⟩) t.l2.length t.l2.length)) (go_keep) (first
  | (go_at_call 28;refine C2.mono ?_;rintro e w12 ⟨g3,g4,rfl,hn2,hb2⟩;have st13:=st12.below hb2;have Y0:=st13.q0;have Y1:=st13.q1;have D0:=(hb2.cell (p:=⟨G7,0,none⟩) L7').trans F0;have D1:=(hb2.cell (p:=⟨G7,1,none⟩) L7').trans F1)
  | (go_at_call 31;refine (eqSeen_new (hy12.below hb2 (Nat.le_refl _)) hn2 ht1 ht2).mono ?_;rintro e w13 ⟨rfl,hg13⟩;have st14:=st13.below hg13.bel;have Z4:=st14.q0;have Z5:=st14.q1;have E0:=(hg13.bel.cell (p:=⟨G7,0,none⟩) (Nat.lt_of_lt_of_le L7' hb2.size)).trans D0;have E1:=(hg13.bel.cell (p:=⟨G7,1,none⟩) (Nat.lt_of_lt_of_le L7' hb2.size)).trans D1))
 go_wp2_with fail
 go_ret
 exact ⟨rfl,st14.bel⟩
end
end Go.Proofs.YtegommoflmmahaaGreat
