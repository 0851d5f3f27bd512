/- impl's ways: whether Order tells just so. Of at most 1048576 events, rows and numbers of a row. And what goes with it: OkOrd, OkFrom, SnOrd, DrKi, DrWe. -/
import Derived.Deep.OwnRows
import Derived.Test.YtegommoflmmahaaGreatRows
import Derived.Test.YtegommoflmmahaaGreatQwbl
namespace Go.Proofs.YtegommoflmmahaaGreat
section
open Go.RowKit
theorem M.all_step {row evs:List Int} {n:Nat} (h:evs.all (row.contains ·)=(evs.drop n).all (row.contains ·)) (hn:n < evs.length):evs.all (row.contains ·)=(M.has row evs[n]&&(evs.drop (n+1)).all (row.contains ·)):=by
 rw [h,← List.getElem_cons_drop hn,List.all_cons];rfl
theorem M.order_step {ds:List M.De} {rows:List (List Int)} {n:Nat} (h:M.orderAt ds 0 rows=M.orderAt ds n (rows.drop n)) (hn:n < rows.length):M.orderAt ds 0 rows=(M.isRow rows[n] (M.wrs n 0 ds)&&M.orderAt ds (n+1) (rows.drop (n+1))):=by
 rw [h,← List.getElem_cons_drop hn,M.orderAt]
end
section
open Go.RowKit
namespace M
theorem tell_low {ds:List De} {x:De} {f:Int} (h:x.reads=true) (h1:f≠-1) (h0:¬ 0≤f):mayTell ds x f=false:=by simp [mayTell,h,h1,h0]
theorem tell_high {ds:List De} {x:De} {f:Int} (h:x.reads=true) (h1:f≠-1) (h0:¬ f < ds.length):mayTell ds x f=false:=by simp [mayTell,h,h1,h0]
end M
end
section
namespace M
theorem same_len {l m:List Int} (h:l.length≠m.length):same l m=false:=by
 cases e:same l m
 ·rfl
 ·exact absurd (congrArg List.length ((same_eq _ _).1 e)) h
theorem same_bad {l m:List Int} {n:Nat} {x y:Int} (hd:l.drop n=x::l.drop (n+1)) (hm:m.drop n=y::m.drop (n+1)) (hxy:¬ x=y):same l m=false:=by
 cases e:same l m
 ·rfl
 ·have:=(same_eq _ _).1 e
  subst this
  rw [hd] at hm
  simp at hm
  exact absurd hm hxy
theorem same_fin {l m:List Int} (hl:l.length=m.length) (h:∀ q (h1:q < l.length) (h2:q < m.length),l[q]=m[q]):same l m=true :=
 (same_eq _ _).2 (List.ext_getElem hl h)
end M
end
section
open Go.RowKit
set_option maxHeartbeats 1000000 in
set_option maxRecDepth 100000 in
theorem l71Kind_any (B rb p:Nat) (w:World) (hp:p≤900000) (h:Rdr w B rb p) :
  Calls Tryz.prog 37 #[.pointer (some ⟨rb,0,none⟩)] w fun e w'=>∃ r:Int,e=.returned (.int .i64 r)∧-1≤r∧r≤4∧Rdr w' B rb (p+2)∧But rb w w':=by
 have hlt:=h.lt
 go_enter Tryz.func37,Tryz.ntmps37
 go_wp2_with fail
 refine (pick_rdr B rb p 24 _ (by omega) (by omega) (by omega) h).mono ?_
 rintro e w1 ⟨r1,rfl,r10,r11,hr1,hb1⟩
 by_cases h0:r1=0
 ·subst h0
  have hal:=below1 w1 (.cells #[.int .i64 0,.int .i64 4,.int .i64 (-1)] 3)
  have hr2:=hr1.below hal (Nat.le_refl _)
  have hl1:=hb1.size
  go_wp2_with fail
  refine (pick_rdr B rb (p+1) 3 _ (by omega) (by omega) (by omega) hr2).mono ?_
  rintro e w2 ⟨r2,rfl,r20,r21,hr3,hb2⟩
  have c0:(w1.alloc (.cells #[.int .i64 0,.int .i64 4,.int .i64 (-1)] 3)).cell? ⟨w1.heap.size,0,none⟩=some (.int .i64 0):=by simp
  have c1:(w1.alloc (.cells #[.int .i64 0,.int .i64 4,.int .i64 (-1)] 3)).cell? ⟨w1.heap.size,1,none⟩=some (.int .i64 4):=by simp
  have c2:(w1.alloc (.cells #[.int .i64 0,.int .i64 4,.int .i64 (-1)] 3)).cell? ⟨w1.heap.size,2,none⟩=some (.int .i64 (-1)):=by simp
  have d0:=(hb2.cell (p:=⟨w1.heap.size,0,none⟩) (by simp) (by show w1.heap.size≠rb;omega)).trans c0
  have d1:=(hb2.cell (p:=⟨w1.heap.size,1,none⟩) (by simp) (by show w1.heap.size≠rb;omega)).trans c1
  have d2:=(hb2.cell (p:=⟨w1.heap.size,2,none⟩) (by simp) (by show w1.heap.size≠rb;omega)).trans c2
  have hbw:=(hb1.trans (But.of hal)).trans hb2
  clear c0 c1 c2 hal
  have hr:r2=0∨r2=1∨r2=2:=by omega
  rcases hr with rfl | rfl | rfl
  ·go_wp2_with fail
   go_ret
   exact ⟨_,rfl,by omega,by omega,hr3,hbw⟩
  ·go_wp2_with fail
   go_ret
   exact ⟨_,rfl,by omega,by omega,hr3,hbw⟩
  ·go_wp2_with fail
   go_ret
   exact ⟨_,rfl,by omega,by omega,hr3,hbw⟩
 ·have b0:(r1==0)=false:=by simp [h0]
  go_wp2_with fail
  refine (pick_rdr B rb (p+1) 3 _ (by omega) (by omega) (by omega) hr1).mono ?_
  rintro e w2 ⟨r2,rfl,r20,r21,hr3,hb2⟩
  go_wp2_with fail
  go_ret
  exact ⟨_,rfl,by (try rw [IntKind.wrap_i64]);omega,by (try rw [IntKind.wrap_i64]);omega,hr3,hb1.trans hb2⟩
end
section
open Go.RowKit
set_option maxHeartbeats 4000000 in
set_option maxRecDepth 100000 in
set_option linter.unusedSimpArgs false in
theorem DrawWhyExec_any (ca:Option Addr) (cb co L C:Nat) (x:Nat→Int) (w:World) (hL:L≤C) (had:0 < L→ca=some ⟨cb,co,none⟩) (hc:∀ i,i < L→w.cell? ⟨cb,co+i,none⟩=some (.int .u8 (x i))∧0≤x i∧x i≤255) (hLb:L≤1048576) :
  Calls Tryz.prog 10 #[.slice ca L C] w fun e w'=>∃ (a:Option Addr) (g c:Nat) (mm:List (List M.D)) (s:Sn) (kind:Int),e=.returned (.tuple #[.agg #[.slice a mm.length c],.agg #[.slice s.a1 s.l1.length s.c1,.slice s.a2 s.l2.length s.c2],.int .i64 kind])∧WyDrawn w w' a g c mm s∧-1≤kind∧kind≤4:=by
 have hb0:=below2 w (.cells #[.slice none 0 0] 25) (.cells #[.slice none 0 0,.slice none 0 0] 28)
 have hR0:Slot1 ((w.alloc (.cells #[.slice none 0 0] 25)).alloc (.cells #[.slice none 0 0,.slice none 0 0] 28)) w.heap.size (.slice none 0 0):=(Slot1.new w _ _).ofB (alloc_old _ _ _ (by simp))
 have hQ0:Slot2 ((w.alloc (.cells #[.slice none 0 0] 25)).alloc (.cells #[.slice none 0 0,.slice none 0 0] 28)) (w.heap.size+1) (.slice none 0 0) (.slice none 0 0):=⟨alloc_new _ _ _ (by simp)⟩
 have hsz0:((w.alloc (.cells #[.slice none 0 0] 25)).alloc (.cells #[.slice none 0 0,.slice none 0 0] 28)).heap.size=w.heap.size+2:=by simp
 go_enter Tryz.func10,Tryz.ntmps10
 go_wp2_with fail
 generalize (w.alloc (.cells #[.slice none 0 0] 25)).alloc (.cells #[.slice none 0 0,.slice none 0 0] 28)=W0 at *
 refine (l6Open_any ca cb co L C x _ hL had (fun i hi=>⟨by rw [hb0.cell (p:=⟨cb,co+i,none⟩) (World.block_lt_of_cell? _ _ (hc i hi).1)];exact (hc i hi).1,(hc i hi).2⟩) hLb).mono ?_
 rintro e w1 ⟨rfl,hr1,hb1⟩
 rw [hsz0] at hr1 ⊢
 obtain ⟨rb,hrb⟩:∃ rb,w.heap.size+2=rb:=⟨_,rfl⟩
 rw [hrb] at hr1 ⊢
 have hb1w:Below w.heap.size w w1:=hb0.trans (hb1.mono (by omega))
 have hR1:=hR0.but (But.of (rb:=rb) hb1) (by omega)
 have hQ1:=hQ0.but (But.of (rb:=rb) hb1) (by omega)
 have hlt1:=hr1.lt
 clear hc had hb0 hb1 hR0 hQ0
 go_wp2_with fail
 refine (l71Kind_any _ rb 0 _ (by omega) hr1).mono ?_
 rintro e w2 ⟨kind,rfl,k0,k1,hr2,hb2⟩
 have hR2:=hR1.but hb2 (by omega)
 have hQ2:=hQ1.but hb2 (by omega)
 have hb2w:Below w.heap.size w w2:=But.below hb1w hb2 (by omega)
 clear hR1 hQ1 hr1
 go_wp2_with fail
 refine (l71Why_any _ rb (0+2) kind _ (by omega) hr2).mono ?_
 rintro e w3 ⟨a,g,c,mm,s,rfl,hsn,hsm,hsA,hsL,hsb,p3,hp3,hr3,hb3⟩
 have hR3:=hR2.but hb3 (by omega)
 have hQ3:=hQ2.but hb3 (by omega)
 have hlt12:=hb2.size
 have hlt2:=hb2w.size
 have hlt3:=hb3.size
 have hD:WyDrawn w w3 a g c mm s:=⟨hsn.mono (by omega),hsm,hsA,hsL,by omega,But.below hb2w hb3 (by omega)⟩
 clear hR2 hQ2 hr2 hr3 hsn hsA
 have hal:=below2 w3 (.cells #[.slice a mm.length c] 25) (.cells #[.slice s.a1 s.l1.length s.c1,.slice s.a2 s.l2.length s.c2] 28)
 have hP4:Slot1 ((w3.alloc (.cells #[.slice a mm.length c] 25)).alloc (.cells #[.slice s.a1 s.l1.length s.c1,.slice s.a2 s.l2.length s.c2] 28)) w3.heap.size (.slice a mm.length c):=(Slot1.new w3 _ _).ofB (alloc_old _ _ _ (by simp))
 have hS4:Slot2 ((w3.alloc (.cells #[.slice a mm.length c] 25)).alloc (.cells #[.slice s.a1 s.l1.length s.c1,.slice s.a2 s.l2.length s.c2] 28)) (w3.heap.size+1) (.slice s.a1 s.l1.length s.c1) (.slice s.a2 s.l2.length s.c2):=⟨alloc_new _ _ _ (by simp)⟩
 go_wp2_with fail
 generalize (w3.alloc (.cells #[.slice a mm.length c] 25)).alloc (.cells #[.slice s.a1 s.l1.length s.c1,.slice s.a2 s.l2.length s.c2] 28)=w4 at *
 have hR4:Slot1 w4 w.heap.size (.slice none 0 0):=hR3.ofB (hal.block _ (by omega))
 have hQ4:Slot2 w4 (w.heap.size+1) (.slice none 0 0) (.slice none 0 0):=hQ3.of (hal.block _ (by omega))
 have hD4:WyDrawn w w4 a g c mm s:=⟨hD.sn.but (But.of (rb:=w.heap.size) hal) (by omega),hD.sm,hD.at_.below hal (Nat.le_refl _),hD.le,hD.b,hD.bel.trans (hal.mono hD.bel.size)⟩
 have hs3:w.heap.size+2≤w3.heap.size:=by omega
 obtain ⟨hF,e1,e2,e3⟩:=wx_store (hR4.ofB (w':=w4.drew) rfl) (hQ4.of (w':=w4.drew) rfl) (⟨hD4.sn.but (But.refl w.heap.size w4).drew (by omega),hD4.sm,hD4.at_.below (Below.refl _ _).drew (Nat.le_refl _),hD4.le,hD4.b,hD4.bel.trans ((Below.refl _ _).drew.mono hD4.bel.size)⟩:WyDrawn w w4.drew a g c mm s)
 have hRd:=hR4.ofB (w':=w4.drew) rfl
 have hQd:=hQ4.of (w':=w4.drew) rfl
 have c1:=hP4.c
 have c2:=hS4.c0
 have c3:=hS4.c1
 refine wp_region_held_drew (S:=fun w'=>Fr (fun k=>k≠w.heap.size∧k≠w.heap.size+1) w4 w') (by kernel_rfl) ⟨rfl,rfl,rfl,Nat.le_refl _,fun _ _ _=>rfl⟩ (fun hH=>?_)
 generalize w4.drew=Wd at *
 refine tk 0 19 (.agg #[.slice a mm.length c]) hH rfl rfl (by intro w' hSw;have P6:=hSw.cell (p:=⟨w3.heap.size,0,none⟩) ⟨by show w3.heap.size≠w.heap.size;omega,by show w3.heap.size≠w.heap.size+1;omega⟩ c1;go_simp) ?_
 simp only [Act.put,q1,q2,q3]
 refine tk 1 20 (.agg #[.slice s.a1 s.l1.length s.c1,.slice s.a2 s.l2.length s.c2]) hH rfl rfl (by intro w' hSw;have P6:=hSw.cell (p:=⟨w3.heap.size+1,0,none⟩) ⟨by show w3.heap.size+1≠w.heap.size;omega,by show w3.heap.size+1≠w.heap.size+1;omega⟩ c2;have P7:=hSw.cell (p:=⟨w3.heap.size+1,1,none⟩) ⟨by show w3.heap.size+1≠w.heap.size;omega,by show w3.heap.size+1≠w.heap.size+1;omega⟩ c3;go_simp) ?_
 simp only [Act.put,q1,q2,q3]
 refine tk 2 21 (.int .i64 kind) hH rfl rfl (by intro w' hSw;go_simp) ?_
 simp only [Act.put,q1,q2,q3]
 refine ry 3 rfl (fun K' hK=>?_)
 have R6:=hRd.c
 have R6f:=hRd.fz
 rw [if_pos (by rfl)]
 go_simp
 refine hK.out _ _ (hH.setCell _ (fun h=>h.1 rfl)) (fun _=>?_)
 clear hK K' R6 R6f
 have hQ2:=hQd.far (b':=w.heap.size) (i:=0) (by omega) (.slice a mm.length c)
 have Q60:=hQ2.c0
 have Q61:=hQ2.c1
 have Q6f:=hQ2.fz
 refine ry 4 rfl (fun K' hK=>?_)
 rw [if_pos (by rfl)]
 go_simp
 refine hK.out _ _ (((hH.setCell _ (fun h=>h.1 rfl)).setCell _ (fun h=>h.2 rfl)).setCell _ (fun h=>h.2 rfl)) (fun _=>?_)
 clear hK K' hQ2 Q60 Q61 Q6f
 refine ry 5 rfl (fun K' hK=>?_)
 rw [if_pos (by rfl)]
 go_simp
 refine hK.out _ _ (((hH.setCell _ (fun h=>h.1 rfl)).setCell _ (fun h=>h.2 rfl)).setCell _ (fun h=>h.2 rfl)) (fun _=>?_)
 clear hK K'
 refine wpAnyH_done (by kernel_rfl) ?_ _
 go_wp2_with fail
 exact bodyPost_ret (v:=.tuple #[.agg #[.slice a mm.length c],.agg #[.slice s.a1 s.l1.length s.c1,.slice s.a2 s.l2.length s.c2],.int .i64 kind]) (by simp [results,Tryz.results10,go_sem,e1,e2,e3]) rfl ⟨a,g,c,mm,s,kind,rfl,hF,k0,k1⟩
end
end Go.Proofs.YtegommoflmmahaaGreat
