/- spec.l71Waiter: a drawn thread that waits. -/
import Derived.Deep.RegionWith
import Derived.Test.YtjjkicffhpcngaaGreatBWah
namespace Go.Proofs.YtjjkicffhpcngaaGreat
open Go.RowKit
theorem twoth (q:Nat) (hq:q < 2):∃ k:Int,(#[Value.int IntKind.i64 1,Value.int IntKind.i64 6]:Array Value)[q]?=some (.int .i64 k)∧([Value.int IntKind.i64 1,Value.int IntKind.i64 6]:List Value)[q]?=some (.int .i64 k):=by
 rcases (show q=0∨q=1 by omega) with rfl | rfl
 ·exact ⟨1,rfl,rfl⟩
 ·exact ⟨6,rfl,rfl⟩
theorem own_three (W:World) (B H:Nat) (x0 x1 x2 y0 y1 y2 z0 z1 z2:Int) (h:B≤W.heap.size) (hH:W.heap.size=H) :
  (W.alloc (.cells #[.int .i64 x0,.int .i64 x1,.int .i64 x2,.int .i64 y0,.int .i64 y1,.int .i64 y2,.int .i64 z0,.int .i64 z1,.int .i64 z2] 43)).ownsRow B 43 3 (.slice (some ⟨H,0,none⟩) 3 3) 3 (flat [⟨x0,x1,x2⟩,⟨y0,y1,y2⟩,⟨z0,z1,z2⟩]):=by
 subst hH
 exact World.ownsRow_lit W _ 3 h (by decide) rfl
theorem blt_but {rb:Nat} {W w1:World} (hb:But rb W w1):∀ b,b < W.heap.size→b < w1.heap.size:=fun _ h=>Nat.lt_of_lt_of_le h hb.size
theorem bcell_but {rb:Nat} {W w1:World} (hb:But rb W w1):∀ b o,b < W.heap.size→rb < b→w1.cell? ⟨b,o,none⟩=W.cell? ⟨b,o,none⟩:=fun b o h1 h2=>hb.cell (p:=⟨b,o,none⟩) h1 (by show b≠rb;omega)
set_option maxHeartbeats 4000000 in
theorem l71Waiter_any (B rb p:Nat) (n:Int) (w:World) (hn:1≤n) (hn2:n≤1000) (hp:p≤90000) (h:Rdr w B rb p) :
  Calls Tryz.prog 108 #[.pointer (some ⟨rb,0,none⟩),.int .i64 n] w fun e w'=>∃ (l:List M.D) (v:Value),e=.returned v∧w'.ownsRow w.heap.size 43 3 v l.length (flat l)∧l.length=3∧∃ p':Nat,p'≤p+6∧Rdr w' B rb p'∧But rb w w':=by
 have hlt:=h.lt
 have hge:=h.ge
 go_enter Tryz.func108,Tryz.ntmps108
 go_wp2_with fail
 have hb0:=But.refl rb w
 go_region_with (go_at_call 64;go_must (first | (refine Calls.mono (pick_rdr B rb (p) _ _ ?_ ?_ ?_ ?_) ?_;omega;omega;omega;(repeat (first | assumption | refine Rdr.alloc ?_ _ | refine Rdr.drew ?_));rintro e w1 ⟨r1,rfl,r10,r11,hr1,hb1⟩;obtain ⟨q1,rfl⟩:=Int.eq_ofNat_of_zero_le r10;have hrlt1:=hr1.lt;have hc11:=bcell_but hb1;have hs11:=blt_but hb1;have tt1:But rb w w1:=(by first | exact hb0.drew.trans hb1 | exact (hb0.drew.alloc _).trans hb1)) | (refine Calls.mono (pick_rdr B rb (p+1) _ _ ?_ ?_ ?_ ?_) ?_;omega;omega;omega;(repeat (first | assumption | refine Rdr.alloc ?_ _ | refine Rdr.drew ?_));rintro e w2 ⟨r2,rfl,r20,r21,hr2,hb2⟩;obtain ⟨q2,rfl⟩:=Int.eq_ofNat_of_zero_le r20;have hrlt2:=hr2.lt;have hc22:=bcell_but hb2;have hs22:=blt_but hb2;have st2:But rb w1 w2:=(by first | exact hb2 | exact ((But.refl rb _).alloc _).trans hb2);have tt2:=tt1.trans st2;have cc12:=hb1.trans st2;have hc12:=bcell_but cc12;have hs12:=blt_but cc12) | (refine Calls.mono (pick_rdr B rb (p+1+1) _ _ ?_ ?_ ?_ ?_) ?_;omega;omega;omega;(repeat (first | assumption | refine Rdr.alloc ?_ _ | refine Rdr.drew ?_));rintro e w3 ⟨r3,rfl,r30,r31,hr3,hb3⟩;obtain ⟨q3,rfl⟩:=Int.eq_ofNat_of_zero_le r30;have hrlt3:=hr3.lt;have hc33:=bcell_but hb3;have hs33:=blt_but hb3;have st3:But rb w2 w3:=(by first | exact hb3 | exact ((But.refl rb _).alloc _).trans hb3);have tt3:=tt2.trans st3;have cc13:=cc12.trans st3;have hc13:=bcell_but cc13;have hs13:=blt_but cc13;have cc23:=hb2.trans st3;have hc23:=bcell_but cc23;have hs23:=blt_but cc23;obtain ⟨kk,hkk,hkl⟩:=twoth q3 (by omega)) | (refine Calls.mono (pick_rdr B rb (p+1+1+1) _ _ ?_ ?_ ?_ ?_) ?_;omega;omega;omega;(repeat (first | assumption | refine Rdr.alloc ?_ _ | refine Rdr.drew ?_));rintro e w4 ⟨r4,rfl,r40,r41,hr4,hb4⟩;obtain ⟨q4,rfl⟩:=Int.eq_ofNat_of_zero_le r40;have hrlt4:=hr4.lt;have hc44:=bcell_but hb4;have hs44:=blt_but hb4;have st4:But rb w3 w4:=(by first | exact hb4 | exact ((But.refl rb _).alloc _).trans hb4);have tt4:=tt3.trans st4;have cc14:=cc13.trans st4;have hc14:=bcell_but cc14;have hs14:=blt_but cc14;have cc24:=cc23.trans st4;have hc24:=bcell_but cc24;have hs24:=blt_but cc24;have cc34:=hb3.trans st4;have hc34:=bcell_but cc34;have hs34:=blt_but cc34) | (refine Calls.mono (pick_rdr B rb (p+1+1+1+1) _ _ ?_ ?_ ?_ ?_) ?_;omega;omega;omega;(repeat (first | assumption | refine Rdr.alloc ?_ _ | refine Rdr.drew ?_));rintro e w5 ⟨r5,rfl,r50,r51,hr5,hb5⟩;obtain ⟨q5,rfl⟩:=Int.eq_ofNat_of_zero_le r50;have hrlt5:=hr5.lt;have hc55:=bcell_but hb5;have hs55:=blt_but hb5;have st5:But rb w4 w5:=(by first | exact hb5 | exact ((But.refl rb _).alloc _).trans hb5);have tt5:=tt4.trans st5;have cc15:=cc14.trans st5;have hc15:=bcell_but cc15;have hs15:=blt_but cc15;have cc25:=cc24.trans st5;have hc25:=bcell_but cc25;have hs25:=blt_but cc25;have cc35:=cc34.trans st5;have hc35:=bcell_but cc35;have hs35:=blt_but cc35;have cc45:=hb4.trans st5;have hc45:=bcell_but cc45;have hs45:=blt_but cc45)))
 all_goals
  clear hc11 hs11 hc22 hs22 hc12 hs12 hc33 hs33 hc13 hs13 hc23 hs23 hc44 hs44 hc14 hs14 hc24 hs24 hc34 hs34 hc55 hs55 hc15 hs15 hc25 hs25 hc35 hs35 hc45 hs45
  go_wp2_with fail
  go_ret
  refine ⟨[⟨1,q1,IntKind.i64.wrap (1+q2)⟩,⟨9,0,0⟩,⟨kk,q4,IntKind.i64.wrap (1+q5)⟩],_,rfl,?_,rfl,p+1+1+1+1+1,by omega,?_,?_⟩
  ·refine own_three _ _ _ _ _ _ _ _ _ _ _ _ ?_ ?_
   ·have hsz:=tt5.size
    first | exact hsz | (simp;omega)
   ·first | rfl | simp
  ·first | exact hr5.alloc _ | exact (hr5.alloc _).alloc _
  ·first | exact tt5.alloc _ | exact (tt5.alloc _).alloc _
end Go.Proofs.YtjjkicffhpcngaaGreat
