/- spec's machine at the beginning: l11New. Of a program of at most three threads. -/
import Derived.Deep.OwnRows
import Derived.Test.YtnddmlgnngdaoaaRows
import Derived.Test.YtnddmlgnngdaoaaQjbf
namespace Go.Proofs.Ytnddmlgnngdaoaa
section
open Go.RowKit
theorem cell_two {A:World} {E:Nat} (hE:A.heap.size=E) (o:Obj) (u:Value) (t:TypeId):((A.alloc o).alloc (.cells #[u] t)).cell? ⟨E+1,0,none⟩=some u:=by
 subst hE
 rw [cell_of_row _ _ _ _ _ _ (heap_alloc2_new A _ _)]
 rfl
theorem cell_one {A:World} {E:Nat} (hE:A.heap.size=E) (u:Value) (t:TypeId):(A.alloc (.cells #[u] t)).cell? ⟨E,0,none⟩=some u:=by
 subst hE
 rw [cell_of_row _ _ _ _ _ _ (heap_alloc_new A _)]
 rfl
theorem okN_step {m:Nat} {r:Rid} (h:okN (m+1) r):r=.sub 5 m∨r=.sub 3 m∨r=.sub 2 m∨okN m r:=by
 match r,h with
 | .top k,h=>exact Or.inr (Or.inr (Or.inr h))
 | .sub k i,⟨hk,hi⟩ =>
  by_cases e:i=m
  ·subst e
   rcases hk with rfl | rfl | rfl
   ·exact Or.inr (Or.inr (Or.inl rfl))
   ·exact Or.inr (Or.inl rfl)
   ·exact Or.inl rfl
  ·exact Or.inr (Or.inr (Or.inr ⟨hk,by omega⟩))
theorem SMN.bel {A A' w3 W0:World} {base X:Nat} {a:Option Addr} {n c:Nat} {ok:Rid→Prop} {N:Nat→Nat} {us vs:Rid→Value} {s:M.St} (h:SMN A base X a n c ok N us vs s) (hb:Below base W0 A) (hbel:Below A.heap.size A A') {r:Rid} (hr:ok r) (hg:A'.grownBy w3 (vs r).ownBlock) (j:Nat) (v:Value):Below base W0 (w3.setCell ⟨X,j,none⟩ v) :=
 (below_grown (hb.trans (hbel.mono (Nat.le_trans h.bX (Nat.le_of_lt h.lt)))) hg (fun k hk=>((h.own r hr).lt k hk).1) (Nat.le_trans (Nat.le_trans h.bX (Nat.le_of_lt h.lt)) hbel.size)).setCell (by show base≤X;exact h.bX) _
theorem gr_then {w w1 w3:World} {row:Option Nat} (hb:Below w.heap.size w w1) (hg:w1.grownBy w3 row):w.grownBy w3 row :=
 ⟨hg.os.trans hb.os,hg.tape.trans hb.tape,hg.output.trans hb.output,Nat.le_trans hb.size hg.size,fun k hk hne=>(hg.block k (Nat.lt_of_lt_of_le hk hb.size) hne).trans (hb.block k hk)⟩
theorem hat_of {v':Value} {row:Option Nat} {B E:Nat} (h:v'.ownBlock=row∨v'.ownBlock=some E) (hE:B≤E):v'.ownBlock=row∨∀ k,v'.ownBlock=some k→B≤k :=
 h.elim Or.inl (fun e=>Or.inr (fun k hk=>by rw [e] at hk;have:=Option.some.inj hk;omega))
def us0 (v:Value):Rid→Value:=fun r=>if r=.top 6 then v else .slice none 0 0
theorem SMN.zero {W:World} {base K:Nat} {a:Option Addr} {n c:Nat} (hb:base≤K) (hrow:W.heap[K]?=some (.cells (madeCells #[.int .i64 0] 3) 3 (0,0))) (hbox:W.heap[K+1]?=some (.cells #[.slice a n c,.slice none 0 0,.slice none 0 0,.slice none 0 0,.slice none 0 0,.slice none 0 0,.slice (some ⟨K,0,none⟩) 3 3] 59 (0,0))) :
  SMN W base (K+1) a n c (okN 0) (fun _=>0) (us0 (.slice (some ⟨K,0,none⟩) 3 3)) (us0 (.slice (some ⟨K,0,none⟩) 3 3)) M.st0:=by
 have e:∀ r,r≠.top 6→us0 (.slice (some ⟨K,0,none⟩) 3 3) r=.slice none 0 0:=fun r h=>if_neg h
 refine ⟨?_,fun r hr=>?_,fun r r' h1 h2 hne=>?_,by omega⟩
 ·rw [e (.top 1) (by simp),e (.top 2) (by simp),e (.top 3) (by simp),e (.top 4) (by simp),e (.top 5) (by simp)]
  exact hbox
 ·match r,hr with
  | .top 1,_=>rw [e _ (by simp)];exact World.ownsRow_nil _ _ _ _
  | .top 2,_=>rw [e _ (by simp)];exact World.ownsRow_nil _ _ _ _
  | .top 3,_=>rw [e _ (by simp)];exact World.ownsRow_nil _ _ _ _
  | .top 4,_=>rw [e _ (by simp)];exact World.ownsRow_nil _ _ _ _
  | .top 5,_=>rw [e _ (by simp)];exact World.ownsRow_nil _ _ _ _
  | .top 6,_=>exact ⟨rfl,.inr ⟨K,3,_,rfl,hb,hrow,Nat.le_refl _,by unfold maxLen;omega,(by show (madeCells #[.int .i64 0] 3).size=3 * 1;simp [madeCells]),by
   show List.take (3 * 1) (madeCells #[.int .i64 0] 3).toList=nums [0,0,0]
   rw [toList_madeCells_one]
   rfl⟩⟩
  | .sub k i,hr=>exact absurd hr.2 (Nat.not_lt_zero _)
 ·by_cases h6:r=.top 6
  ·subst h6
   rw [e r' (fun e=>hne e.symm)]
   exact fun k _ e=>by cases e
  ·rw [e r h6]
   exact fun k hk=>by cases hk
set_option maxHeartbeats 2000000 in
set_option maxRecDepth 100000 in
theorem snew_any (a:Option Addr) (n c:Nat) (w:World) (hn:n≤3) :
  Calls Try.prog 29 #[.agg #[.slice a n c]] w fun e w'=>∃ X,e=.returned (.pointer (some ⟨X,0,none⟩))∧SME w' w.heap.size X a n c M.st0∧Below w.heap.size w w':=by
 have hmk:∀ w:World,(Instr.makeSlice 25 (.int .i64 3) (.int .i64 3)).run Try.prog w=.ok (.slice (some ⟨w.heap.size,0,none⟩) 3 3) (w.alloc (.cells (madeCells #[.int .i64 0] 3) 3)):=run_make_row' (P:=Try.prog) 25 3 (.int .i64 0) 8 Try.underlying25 (by kernel_rfl) rfl .i64 .i64 3 (by omega) (by omega)
 obtain ⟨i1,hI1,hz1,hs1,hy1⟩:=info_parts Try.smIntN
 obtain ⟨i2,hI2,hz2,hs2,hy2⟩:=info_parts Try.smDos
 obtain ⟨i3,hI3,hz3,hs3,hy3⟩:=info_parts Try.smInts
 obtain ⟨i4,hI4,hz4,hs4,hy4⟩:=info_parts Try.smBool
 obtain ⟨i5,hI5,hz5,hs5,hy5⟩:=info_parts Try.smBools
 go_enter Try.func29,Try.ntmps29
 go_wp2_with fail
 have k0:(w.alloc (.cells #[.slice a n c] 33)).cell? ⟨w.heap.size,0,none⟩=some (.slice a n c):=by simp
 have hb0:=below1 w (.cells #[.slice a n c] 33)
 have lK0:w.heap.size < (w.alloc (.cells #[.slice a n c] 33)).heap.size:=by simp
 generalize w.alloc (.cells #[.slice a n c] 33)=W0 at *
 go_region
 have hW1:SMN (((W0.alloc (.cells (madeCells #[.int .i64 0] 3) 3)).alloc (.cells #[.slice a n c,.slice none 0 0,.slice none 0 0,.slice none 0 0,.slice none 0 0,.slice none 0 0,.slice (some ⟨W0.heap.size,0,none⟩) 3 3] 59)).drew) W0.heap.size (W0.heap.size+1) a n c (okN 0) (fun _=>0) (us0 (.slice (some ⟨W0.heap.size,0,none⟩) 3 3)) (us0 (.slice (some ⟨W0.heap.size,0,none⟩) 3 3)) M.st0 :=
  SMN.zero (Nat.le_refl _) ((heap_alloc_old (W0.alloc (.cells (madeCells #[.int .i64 0] 3) 3)) _ (show W0.heap.size < _ by simp)).trans (heap_alloc_new W0 _)) (heap_alloc2_new W0 _ _)
 have hb1:Below W0.heap.size W0 (((W0.alloc (.cells (madeCells #[.int .i64 0] 3) 3)).alloc (.cells #[.slice a n c,.slice none 0 0,.slice none 0 0,.slice none 0 0,.slice none 0 0,.slice none 0 0,.slice (some ⟨W0.heap.size,0,none⟩) 3 3] 59)).drew):=(below2 _ _ _).trans ((Below.refl _ _).drew)
 clear hmk
 generalize (((W0.alloc (.cells (madeCells #[.int .i64 0] 3) 3)).alloc (.cells #[.slice a n c,.slice none 0 0,.slice none 0 0,.slice none 0 0,.slice none 0 0,.slice none 0 0,.slice (some ⟨W0.heap.size,0,none⟩) 3 3] 59)).drew)=W1 at *
 go_wp2_with fail
 obtain ⟨X,hX⟩:∃ X,W0.heap.size+1=X:=⟨_,rfl⟩
 have HX:Hid (W0.heap.size+1=X):=hX
 rw [hX] at hW1 ⊢
 clear hX
 go_loopw [4] (fun s4 wr=>∃ (m:Nat) (vs:Rid→Value),s4=.int .i64 m∧m≤n∧SMN wr W0.heap.size X a n c (okN m) (fun _=>m) vs vs M.st0∧Below W0.heap.size W0 wr) (fun s4 _=>n - (intOf s4).toNat)
 case atStart=>exact ⟨0,_,rfl,by omega,hW1,hb1⟩
 case round =>
  obtain ⟨m,vs,rfl,hm,h0,hbm⟩:=hrel
  clear hW1 hb1
  have k0r:=(hbm.cell (p:=⟨w.heap.size,0,none⟩) lK0).trans k0
  by_cases hlt:m < n
  ·have im:(m:Int) < n:=by omega
   have e01:wr.cell? ⟨X,1,none⟩=some (vs (.top 1)):=h0.cel 1
   have b0:=hbm
   go_wp2_with (first | (refine wpList_app1 rfl (.tmp 58) (.tmp 60) 57 rfl (some 61) rfl W0.heap.size 56 i5 _ 24 Try.underlying57 hI5 hz5 hs5 hy5 rfl (vs4 (.top 5)) m _ (by rfl) (ownsRow_below (h4.own (.top 5) (Or.inr (Or.inr (show okN m (.top 5) from ⟨by omega,by omega⟩)))) (below2 _ _ _)) _ 1 (.slice (some ⟨w4.heap.size,0,none⟩) 0 0) (by rfl) (cell_two (by simp) _ _ _) rfl (by unfold maxLen;omega) (by omega) (by have:=h4.bX;have:=h4.lt;simp at this ⊢;omega) ?_;intro v5 w5 ho5 hg5 ha5;obtain ⟨a5,c5,rfl,_⟩:=own_sl ho5;obtain ⟨x5,y5⟩:=h4.boxAt (below2 _ _ _) (Or.inr (Or.inr (show okN m (.top 5) from ⟨by omega,by omega⟩))) hg5;have e55:w5.cell? ⟨X,5,none⟩=some (vs4 (.top 5)):=x5 5;have z5:=y5 5;have b5:=h4.bel b4 (below2 _ _ _) (Or.inr (Or.inr (show okN m (.top 5) from ⟨by omega,by omega⟩))) hg5 5 (.slice a5 (m+1) c5);have h5:=h4.growS (k:=5) (m:=m) (E:=w4.heap.size) (by simp) (Or.inr (Or.inr rfl)) (Or.inr (Or.inr (show okN m (.top 5) from ⟨by omega,by omega⟩))) (fun h=>h.elim (fun e=>(by simp at e)) (fun h=>h.elim (fun e=>(by simp at e)) (fun h=>absurd h.2 (Nat.lt_irrefl m)))) rfl (by show _=0;simp [M.St.rw_,M.st0_t,M.th0,M.Th.wt]) (by simp [M.St.rw_,M.st0_t,M.th0,M.Th.wt]) hg5 ho5 rfl (hat_of ha5 (by simp));generalize setR (setR vs4 (.sub 5 m) (.slice (some ⟨w4.heap.size,0,none⟩) 0 0)) (.top 5) (.slice a5 (m+1) c5)=vs5 at *;clear ho5 hg5 ha5 x5 y5) | (refine wpList_app1 rfl (.tmp 49) (.tmp 50) 56 rfl (some 51) rfl W0.heap.size 4 i4 _ 1 Try.underlying56 hI4 hz4 hs4 hy4 rfl (vs3 (.top 4)) m _ (by rfl) (ownsRow_below (h3.own (.top 4) (Or.inr (Or.inr (show okN m (.top 4) from ⟨by omega,by omega⟩)))) (below1 _ _)) _ 1 (.bool false) (by rfl) (cell_one (by first | rfl | simp) _ _) rfl (by unfold maxLen;omega) (by omega) (by have:=h3.bX;have:=h3.lt;simp at this ⊢;omega) ?_;intro v4 w4 ho4 hg4 ha4;obtain ⟨a4,c4,rfl,_⟩:=own_sl ho4;obtain ⟨x4,y4⟩:=h3.boxAt (below1 _ _) (Or.inr (Or.inr (show okN m (.top 4) from ⟨by omega,by omega⟩))) hg4;have e44:w4.cell? ⟨X,4,none⟩=some (vs3 (.top 4)):=x4 4;have e45:w4.cell? ⟨X,5,none⟩=some ((setR vs3 (.top 4) (.slice a4 (m+1) c4)) (.top 5)):=(x4 5).trans (by rw [setR_ne _ _ (by simp)];rfl);have z4:=y4 4;have z45:=y4 5;have b4:=h3.bel b3 (below1 _ _) (Or.inr (Or.inr (show okN m (.top 4) from ⟨by omega,by omega⟩))) hg4 4 (.slice a4 (m+1) c4);have h4:=h3.grow (k:=4) (m:=m) (u:=.bool false) ⟨by omega,by omega⟩ (Or.inr (Or.inr (show okN m (.top 4) from ⟨by omega,by omega⟩))) (gr_then (below1 _ _) hg4) ho4 rfl (by simp [M.St.rw_,setN,List.range_succ,M.st0_t,M.th0]) (hat_of ha4 (by simp));generalize setR vs3 (.top 4) (.slice a4 (m+1) c4)=vs4 at *;clear ho4 hg4 ha4 x4 y4) | (refine wpList_app1 rfl (.tmp 39) (.tmp 41) 55 rfl (some 42) rfl W0.heap.size 25 i3 _ 24 Try.underlying55 hI3 hz3 hs3 hy3 rfl (vs2 (.top 3)) m _ (by rfl) (ownsRow_below (h2.own (.top 3) (Or.inr (show okN m (.top 3) from ⟨by omega,by omega⟩))) (below2 _ _ _)) _ 1 (.slice (some ⟨w2.heap.size,0,none⟩) 0 0) (by rfl) (cell_two (by simp) _ _ _) rfl (by unfold maxLen;omega) (by omega) (by have:=h2.bX;have:=h2.lt;simp at this ⊢;omega) ?_;intro v3 w3 ho3 hg3 ha3;obtain ⟨a3,c3,rfl,_⟩:=own_sl ho3;obtain ⟨x3,y3⟩:=h2.boxAt (below2 _ _ _) (Or.inr (show okN m (.top 3) from ⟨by omega,by omega⟩)) hg3;have e33:w3.cell? ⟨X,3,none⟩=some (vs2 (.top 3)):=x3 3;have e34:w3.cell? ⟨X,4,none⟩=some ((setR (setR vs2 (.sub 3 m) (.slice (some ⟨w2.heap.size,0,none⟩) 0 0)) (.top 3) (.slice a3 (m+1) c3)) (.top 4)):=(x3 4).trans (by rw [setR_ne _ _ (by simp),setR_ne _ _ (by simp)];rfl);have e35:w3.cell? ⟨X,5,none⟩=some ((setR (setR vs2 (.sub 3 m) (.slice (some ⟨w2.heap.size,0,none⟩) 0 0)) (.top 3) (.slice a3 (m+1) c3)) (.top 5)):=(x3 5).trans (by rw [setR_ne _ _ (by simp),setR_ne _ _ (by simp)];rfl);have z3:=y3 3;have z34:=y3 4;have z35:=y3 5;have b3:=h2.bel b2 (below2 _ _ _) (Or.inr (show okN m (.top 3) from ⟨by omega,by omega⟩)) hg3 3 (.slice a3 (m+1) c3);have h3:=h2.growS (k:=3) (m:=m) (E:=w2.heap.size) (by simp) (Or.inr (Or.inl rfl)) (Or.inr (show okN m (.top 3) from ⟨by omega,by omega⟩)) (fun h=>h.elim (fun e=>(by simp at e)) (fun h=>absurd h.2 (Nat.lt_irrefl m))) rfl (by show _=0;simp [M.St.rw_,M.st0_t,M.th0]) (by simp [M.St.rw_,M.st0_t,M.th0,nums]) hg3 ho3 rfl (hat_of ha3 (by simp));generalize setR (setR vs2 (.sub 3 m) (.slice (some ⟨w2.heap.size,0,none⟩) 0 0)) (.top 3) (.slice a3 (m+1) c3)=vs3 at *;clear ho3 hg3 ha3 x3 y3) | (refine wpList_app1 rfl (.tmp 29) (.tmp 31) 31 rfl (some 32) rfl W0.heap.size 60 i2 _ 24 Try.underlying31 hI2 hz2 hs2 hy2 rfl (vs1 (.top 2)) m _ (by rfl) (ownsRow_below (h1.own (.top 2) (show okN m (.top 2) from ⟨by omega,by omega⟩)) (below2 _ _ _)) _ 1 (.slice (some ⟨w1.heap.size,0,none⟩) 0 0) (by rfl) (cell_two (by simp) _ _ _) rfl (by unfold maxLen;omega) (by omega) (by have:=h1.bX;have:=h1.lt;simp at this ⊢;omega) ?_;intro v2 w2 ho2 hg2 ha2;obtain ⟨a2,c2,rfl,_⟩:=own_sl ho2;obtain ⟨x2,y2⟩:=h1.boxAt (below2 _ _ _) (show okN m (.top 2) from ⟨by omega,by omega⟩) hg2;have e22:w2.cell? ⟨X,2,none⟩=some (vs1 (.top 2)):=x2 2;have e23:w2.cell? ⟨X,3,none⟩=some ((setR (setR vs1 (.sub 2 m) (.slice (some ⟨w1.heap.size,0,none⟩) 0 0)) (.top 2) (.slice a2 (m+1) c2)) (.top 3)):=(x2 3).trans (by rw [setR_ne _ _ (by simp),setR_ne _ _ (by simp)];rfl);have e24:w2.cell? ⟨X,4,none⟩=some ((setR (setR vs1 (.sub 2 m) (.slice (some ⟨w1.heap.size,0,none⟩) 0 0)) (.top 2) (.slice a2 (m+1) c2)) (.top 4)):=(x2 4).trans (by rw [setR_ne _ _ (by simp),setR_ne _ _ (by simp)];rfl);have e25:w2.cell? ⟨X,5,none⟩=some ((setR (setR vs1 (.sub 2 m) (.slice (some ⟨w1.heap.size,0,none⟩) 0 0)) (.top 2) (.slice a2 (m+1) c2)) (.top 5)):=(x2 5).trans (by rw [setR_ne _ _ (by simp),setR_ne _ _ (by simp)];rfl);have z2:=y2 2;have z23:=y2 3;have z24:=y2 4;have z25:=y2 5;have b2:=h1.bel b1 (below2 _ _ _) (show okN m (.top 2) from ⟨by omega,by omega⟩) hg2 2 (.slice a2 (m+1) c2);have h2:=h1.growS (k:=2) (m:=m) (E:=w1.heap.size) (by simp) (Or.inl rfl) (show okN m (.top 2) from ⟨by omega,by omega⟩) (fun h=>absurd h.2 (Nat.lt_irrefl m)) rfl (by show _=0;simp [M.St.rw_,M.st0_t,M.th0]) (by simp [M.St.rw_,M.st0_t,M.th0,flatQ]) hg2 ho2 rfl (hat_of ha2 (by simp));generalize setR (setR vs1 (.sub 2 m) (.slice (some ⟨w1.heap.size,0,none⟩) 0 0)) (.top 2) (.slice a2 (m+1) c2)=vs2 at *;clear ho2 hg2 ha2 x2 y2) | (refine wpList_app1 rfl (.tmp 20) (.tmp 21) 25 rfl (some 22) rfl W0.heap.size 3 i1 _ 8 Try.underlying25 hI1 hz1 hs1 hy1 rfl (vs (.top 1)) m _ (by rfl) (ownsRow_below (h0.own (.top 1) (show okN m (.top 1) from ⟨by omega,by omega⟩)) (below1 _ _)) _ 1 (.int .i64 0) (by rfl) (cell_one (by first | rfl | simp) _ _) rfl (by unfold maxLen;omega) (by omega) (by have:=h0.bX;have:=h0.lt;simp at this ⊢;omega) ?_;intro v1 w1 ho1 hg1 ha1;obtain ⟨a1,c1,rfl,_⟩:=own_sl ho1;obtain ⟨x1,y1⟩:=h0.boxAt (below1 _ _) (show okN m (.top 1) from ⟨by omega,by omega⟩) hg1;have e11:w1.cell? ⟨X,1,none⟩=some (vs (.top 1)):=x1 1;have e12:w1.cell? ⟨X,2,none⟩=some ((setR vs (.top 1) (.slice a1 (m+1) c1)) (.top 2)):=(x1 2).trans (by rw [setR_ne _ _ (by simp)];rfl);have e13:w1.cell? ⟨X,3,none⟩=some ((setR vs (.top 1) (.slice a1 (m+1) c1)) (.top 3)):=(x1 3).trans (by rw [setR_ne _ _ (by simp)];rfl);have e14:w1.cell? ⟨X,4,none⟩=some ((setR vs (.top 1) (.slice a1 (m+1) c1)) (.top 4)):=(x1 4).trans (by rw [setR_ne _ _ (by simp)];rfl);have e15:w1.cell? ⟨X,5,none⟩=some ((setR vs (.top 1) (.slice a1 (m+1) c1)) (.top 5)):=(x1 5).trans (by rw [setR_ne _ _ (by simp)];rfl);have z1:=y1 1;have z12:=y1 2;have z13:=y1 3;have z14:=y1 4;have z15:=y1 5;have b1:=h0.bel b0 (below1 _ _) (show okN m (.top 1) from ⟨by omega,by omega⟩) hg1 1 (.slice a1 (m+1) c1);have h1:=h0.grow (k:=1) (m:=m) (u:=.int .i64 0) ⟨by omega,by omega⟩ (show okN m (.top 1) from ⟨by omega,by omega⟩) (gr_then (below1 _ _) hg1) ho1 rfl (by simp [M.St.rw_,setN,List.range_succ,M.st0_t,M.th0]) (hat_of ha1 (by simp));generalize setR vs (.top 1) (.slice a1 (m+1) c1)=vs1 at *;clear ho1 hg1 ha1 x1 y1))
   exact ⟨⟨m+1,vs5,by go_num,by omega,h5.sub_ok (fun r hr=>okN_step hr) (fun k _ _=>by simp only [setN];(repeat' split)<;>omega),b5⟩,by simp [intOf];omega⟩
  ·obtain rfl:m=n:=by omega
   have im:¬ (m:Int) < m:=by omega
   go_wp2_with fail
   go_ret
   exact ⟨X,rfl,⟨vs,SMN.low h0 (Nat.le_of_lt lK0)⟩,hb0.trans (hbm.mono (Nat.le_of_lt lK0))⟩
end
end Go.Proofs.Ytnddmlgnngdaoaa
