/- spec.l71Thread: a drawn thread. And what goes with it: DrTh, DrRe, DrWa, DrPb. -/
import Derived.Test.YtmhpgdliaclokaaGreatRows
import Derived.Test.YtmhpgdliaclokaaGreatQyaf
namespace Go.Proofs.YtmhpgdliaclokaaGreat
section
open Go.RowKit
def flat:List M.D→List Value
 | []=>[]
 | d::l=>.int .i64 d.k::.int .i64 d.p::.int .i64 d.v::flat l
theorem flat_append (l m:List M.D):flat (l++m)=flat l++flat m:=by
 induction l with
 | nil=>rfl
 | cons d l ih=>simp [flat,ih]
theorem flat_get (l:List M.D):∀ i (h:i < l.length),(flat l)[i * 3]?=some (.int .i64 l[i].k)∧(flat l)[i * 3+1]?=some (.int .i64 l[i].p)∧(flat l)[i * 3+2]?=some (.int .i64 l[i].v):=by
 induction l with
 | nil=>intro i h;exact absurd h (Nat.not_lt_zero _)
 | cons d l ih =>
  intro i h
  cases i with
  | zero=>exact ⟨rfl,rfl,rfl⟩
  | succ i =>
   obtain ⟨h0,h1,h2⟩:=ih i (by simpa using h)
   have e:(i+1) * 3=i * 3+3:=by omega
   rw [e]
   exact ⟨by simpa [flat] using h0,by simpa [flat] using h1,by simpa [flat] using h2⟩
theorem ownsRow_but {w w':World} {base rb:Nat} {e:TypeId} {size:Nat} {v:Value} {n:Nat} {xs:List Value} (h:w.ownsRow base e size v n xs) (hb:But rb w w') (hr:rb < base):w'.ownsRow base e size v n xs:=by
 obtain ⟨h1,h2⟩:=h
 refine ⟨h1,?_⟩
 rcases h2 with h2 | ⟨g,cap,cur,hv,hg,hh,r⟩
 ·exact Or.inl h2
 ·refine Or.inr ⟨g,cap,cur,hv,hg,?_,r⟩
  rw [hb.block g (by by_cases hlt:g < w.heap.size;exact hlt;rw [Array.getElem?_eq_none (by omega)] at hh;cases hh) (by omega)]
  exact hh
theorem Rdr.grown {w w':World} {B rb p:Nat} {row:Option Nat} (h:Rdr w B rb p) (hg:w.grownBy w' row) (hr:∀ k,row=some k→B≤k∧k≠rb):Rdr w' B rb p:=by
 obtain ⟨ca,cb,co,L,C,x,h⟩:=h
 have hne:some rb≠row:=fun e=>(hr rb e.symm).2 rfl
 refine ⟨ca,cb,co,L,C,x,hg.cell h.s hne,hg.cell h.p hne,?_,h.ad,h.le,fun i hi=>⟨hg.cell (h.cells i hi).1 (fun e=>?_),(h.cells i hi).2⟩,h.ne,h.ge⟩
 ·exact (World.frozen?_of_block (w:=w) (hg.block rb h.lt hne)).trans h.fz
 ·have h1:=(hr cb e.symm).1
  have h2:=h.ne (by omega)
  omega
theorem own_steps {w:World} {base:Nat} {v:Value} {l:List M.D} (h:w.ownsRow base 94 3 v l.length (flat l)):∃ a g c,v=.slice a l.length c∧DoS w a g 0 l∧(0 < l.length→base≤g):=by
 have hx:=h.1
 rcases h.2 with ⟨hv,hn⟩ | ⟨g,cap,cur,hv,hg,hh,r⟩
 ·have:l=[]:=List.length_eq_zero_iff.1 hn
  subst this
  exact ⟨none,0,0,hv,⟨fun h=>absurd h (Nat.lt_irrefl _),fun i hi=>absurd hi (Nat.not_lt_zero _)⟩,fun h=>absurd h (Nat.lt_irrefl _)⟩
 ·refine ⟨_,g,cap,hv,⟨fun _=>rfl,fun i hi=>?_⟩,fun _=>hg⟩
  obtain ⟨h0,h1,h2⟩:=flat_get l i hi
  have hc:=h.cells (g:=g) (by rw [hv];rfl)
  refine ⟨?_,?_,?_⟩
  ·have:=hc _ _ h0;rwa [Go.WideShapes.add_plain] at this
  ·have:=hc _ _ h1;rw [Go.WideShapes.add_plain] at this;rwa [Nat.zero_add] at this ⊢
  ·have:=hc _ _ h2;rw [Go.WideShapes.add_plain] at this;rwa [Nat.zero_add] at this ⊢
set_option maxHeartbeats 1000000 in
theorem l71Thread_any (B rb p:Nat) (m n:Int) (w:World) (hm:0≤m) (hm2:m≤20) (hn:1≤n) (hn2:n≤1000) (hp:p≤490000) (h:Rdr w B rb p) :
  Calls Tryz.prog 194 #[.pointer (some ⟨rb,0,none⟩),.int .i64 m,.int .i64 n] w fun e w'=>∃ (l:List M.D) (v:Value),e=.returned v∧w'.ownsRow w.heap.size 94 3 v l.length (flat l)∧l.length≤20∧∃ p':Nat,p'≤p+61∧Rdr w' B rb p'∧But rb w w':=by
 have hlt:=h.lt
 have hge:=h.ge
 obtain ⟨i0,hi,hz0,hz1,hz2⟩:=info_parts Tryz.info94
 go_enter Tryz.func194,Tryz.ntmps194
 go_wp2_with fail
 refine (pick_rdr B rb p _ _ (by omega) (by omega) (by omega) (h.alloc _)).mono ?_
 rintro e w1 ⟨r,rfl,r0,r1,hr1,hb1⟩
 obtain ⟨q,rfl⟩:=Int.eq_ofNat_of_zero_le r0
 have hown1:w1.ownsRow w.heap.size 94 3 (.slice (some ⟨w.heap.size,0,none⟩) 0 0) 0 []:=ownsRow_but (World.ownsRow_made w _ 0 (Nat.le_refl _) (Nat.zero_le _) rfl) hb1 hlt
 have hb1':=((But.refl rb w).alloc _).trans hb1
 clear hb1
 go_wp2_with fail
 go_loopw [7,8] (fun s7 s8 wr=>∃ (l:List M.D) (k p':Nat),s8=.int .i64 k∧l.length+k≤20∧p'≤p+1+3 * l.length∧wr.ownsRow w.heap.size 94 3 s7 l.length (flat l)∧Rdr wr B rb p'∧But rb w wr) (fun _ s8 _=>(intOf s8).toNat)
 case atStart=>exact ⟨[],q,p+1,rfl,by simp;omega,by omega,hown1,hr1,hb1'⟩
 case round =>
  obtain ⟨l,k,p',rfl,hlk,hp',hown,hr,hb⟩:=hrel
  clear hown1 hr1 hb1'
  by_cases hk:0 < k
  ·have hk':(0:Int) < k:=by omega
   go_wp2_with fail
   refine (l71Do_any B rb p' n _ hn hn2 (by omega) hr).mono ?_
   rintro e w2 ⟨⟨kk,pp,vv⟩,p2,rfl,hp2,hr2,hb2⟩
   have hown2:=ownsRow_but hown hb2 hlt
   have hb2':=hb.trans hb2
   clear hown hb hb2 hr
   go_wp2_with (at_builtin;refine wpList_append_own _ rfl (.tmp 18) (.tmp 22) 97 rfl w.heap.size 94 i0 _ 3 24 Tryz.underlying97 hi hz0 hz1 hz2 rfl (by decide) _ _ _ rfl (hown2.alloc _) ⟨w2.heap.size,0,none⟩ 1 1 [.int .i64 kk,.int .i64 pp,.int .i64 vv] rfl rfl ?c1 ?c2 ?c3 ?c4 ?c5 ?_)
   case c1 =>
    intro j u hj
    match j,hj with
    | 0,hj=>simp at hj;subst hj;simp [Addr.add]
    | 1,hj=>simp at hj;subst hj;simp [Addr.add]
    | 2,hj=>simp at hj;subst hj;simp [Addr.add]
   case c2=>intro u hu;simp at hu;rcases hu with rfl | rfl | rfl<;>rfl
   case c3=>unfold maxLen;omega
   case c4=>omega
   case c5=>have:=hb2'.size;simp;omega
   intro v' w3 hown3 hg3 _
   have hge3:=own_ge hown2
   have hr3:=(hr2.alloc _).grown hg3 (fun k hk=>⟨by have:=hge3 k hk;omega,by have:=hge3 k hk;omega⟩)
   have hb3:=(hb2'.alloc _).grown hg3 hge3
   have hown3':w3.ownsRow w.heap.size 94 3 v' (l++[M.D.mk kk pp vv]).length (flat (l++[M.D.mk kk pp vv])):=by
    rw [flat_append,List.length_append];exact hown3
   clear hown3 hg3 hge3 hown2 hb2' hr2
   go_wp2_with fail
   exact ⟨⟨l++[M.D.mk kk pp vv],k - 1,p2,by rw [show ((k - 1:Nat):Int)=(k:Int) - 1 by omega],by simp;omega,by simp;omega,hown3',hr3,hb3⟩,by simp [intOf];omega⟩
  ·have hk':¬ (0:Int) < k:=by omega
   go_wp2_with fail
   go_ret
   exact ⟨l,_,rfl,hown,by omega,p',by omega,hr,hb⟩
end
section
open Go.RowKit
set_option maxHeartbeats 1000000 in
theorem l71Reader_any (B rb p:Nat) (n:Int) (w:World) (hn:1≤n) (hn2:n≤1000) (hp:p≤490000) (h:Rdr w B rb p) :
  Calls Tryz.prog 191 #[.pointer (some ⟨rb,0,none⟩),.int .i64 n] w fun e w'=>∃ (l:List M.D) (v:Value),e=.returned v∧w'.ownsRow w.heap.size 94 3 v l.length (flat l)∧l.length=4∧∃ p':Nat,p'≤p+6∧Rdr w' B rb p'∧But rb w w':=by
 have hlt:=h.lt
 have hge:=h.ge
 go_enter Tryz.func191,Tryz.ntmps191
 go_wp2_with fail
 refine (pick_rdr B rb p _ _ hn hn2 (by omega) h).mono ?_
 rintro e w1 ⟨r1,rfl,r10,r11,hr1,hb1⟩
 go_wp2_with fail
 refine (pick_rdr B rb (p+1) _ _ hn hn2 (by omega) hr1).mono ?_
 rintro e w2 ⟨r2,rfl,r20,r21,hr2,hb2⟩
 have hb2':=hb1.trans hb2
 clear hb1 hb2 hr1
 go_wp2_with fail
 have hsz:=hb2'.size
 have hown:(w2.alloc (.cells #[.int .i64 7,.int .i64 0,.int .i64 0,.int .i64 2,.int .i64 r1,.int .i64 0,.int .i64 2,.int .i64 r2,.int .i64 0,.int .i64 8,.int .i64 0,.int .i64 0] 94)).ownsRow w.heap.size 94 3 (.slice (some ⟨w2.heap.size,0,none⟩) 4 4) 4 (flat [⟨7,0,0⟩,⟨2,r1,0⟩,⟨2,r2,0⟩,⟨8,0,0⟩]) :=
  World.ownsRow_lit w2 _ 4 hsz (by decide) rfl
 refine (pick_rdr B rb (p+1+1) _ _ (by omega) (by omega) (by omega) (hr2.alloc _)).mono ?_
 rintro e w3 ⟨r3,rfl,r30,r31,hr3,hb3⟩
 have hown3:=ownsRow_but hown hb3 hlt
 have hb3':=(hb2'.alloc _).trans hb3
 clear hown hb3 hb2' hr2
 by_cases h0:r3=0
 ·subst h0
  go_wp2_with fail
  refine (l71Do_any B rb _ n _ hn hn2 (by omega) hr3).mono ?_
  rintro e w4 ⟨⟨kk,pp,vv⟩,p4,rfl,hp4,hr4,hb4⟩
  have hown4:=ownsRow_but hown3 hb4 hlt
  have hb4':=hb3'.trans hb4
  clear hown3 hb4 hb3' hr3
  have c6:=hown4.cellAt 6 (by decide)
  have c7:=hown4.cellAt 7 (by decide)
  have c8:=hown4.cellAt 8 (by decide)
  have f:=hown4.frozenAt
  simp only [flat] at c6 c7 c8
  simp at c6 c7 c8
  have hlt2:rb < w2.heap.size:=by omega
  go_wp2_with fail
  go_ret
  obtain ⟨o5,g5⟩:=hown4.stored 6 (.int .i64 kk)
  obtain ⟨o6,g6⟩:=o5.stored 7 (.int .i64 pp)
  obtain ⟨o7,g7⟩:=o6.stored 8 (.int .i64 vv)
  refine ⟨[⟨7,0,0⟩,⟨2,r1,0⟩,⟨kk,pp,vv⟩,⟨8,0,0⟩],_,rfl,o7,rfl,p4,by omega,?_,?_⟩
  ·exact ((hr4.setCell (by omega) (by omega) _).setCell (by omega) (by omega) _).setCell (by omega) (by omega) _
  ·exact ((hb4'.setCell (Or.inl hsz) _).setCell (Or.inl hsz) _).setCell (Or.inl hsz) _
 ·have h0':(r3==0)=false:=by simpa using h0
  go_wp2_with fail
  go_ret
  exact ⟨[⟨7,0,0⟩,⟨2,r1,0⟩,⟨2,r2,0⟩,⟨8,0,0⟩],_,rfl,hown3,rfl,p+1+1+1,by omega,hr3,hb3'⟩
end
section
open Go.RowKit
theorem twoth (q:Nat) (hq:q < 2):∃ k:Int,(#[Value.int IntKind.i64 1,Value.int IntKind.i64 6]:Array Value)[q]?=some (.int .i64 k)∧([Value.int IntKind.i64 1,Value.int IntKind.i64 6]:List Value)[q]?=some (.int .i64 k):=by
 rcases (show q=0∨q=1 by omega) with rfl | rfl
 ·exact ⟨1,rfl,rfl⟩
 ·exact ⟨6,rfl,rfl⟩
theorem own_three (W:World) (B H:Nat) (x0 x1 x2 y0 y1 y2 z0 z1 z2:Int) (h:B≤W.heap.size) (hH:W.heap.size=H) :
  (W.alloc (.cells #[.int .i64 x0,.int .i64 x1,.int .i64 x2,.int .i64 y0,.int .i64 y1,.int .i64 y2,.int .i64 z0,.int .i64 z1,.int .i64 z2] 94)).ownsRow B 94 3 (.slice (some ⟨H,0,none⟩) 3 3) 3 (flat [⟨x0,x1,x2⟩,⟨y0,y1,y2⟩,⟨z0,z1,z2⟩]):=by
 subst hH
 exact World.ownsRow_lit W _ 3 h (by decide) rfl
theorem blt_but {rb:Nat} {W w1:World} (hb:But rb W w1):∀ b,b < W.heap.size→b < w1.heap.size:=fun _ h=>Nat.lt_of_lt_of_le h hb.size
theorem bcell_but {rb:Nat} {W w1:World} (hb:But rb W w1):∀ b o,b < W.heap.size→rb < b→w1.cell? ⟨b,o,none⟩=W.cell? ⟨b,o,none⟩:=fun b o h1 h2=>hb.cell (p:=⟨b,o,none⟩) h1 (by show b≠rb;omega)
set_option maxHeartbeats 4000000 in
theorem l71Waiter_any (B rb p:Nat) (n:Int) (w:World) (hn:1≤n) (hn2:n≤1000) (hp:p≤490000) (h:Rdr w B rb p) :
  Calls Tryz.prog 192 #[.pointer (some ⟨rb,0,none⟩),.int .i64 n] w fun e w'=>∃ (l:List M.D) (v:Value),e=.returned v∧w'.ownsRow w.heap.size 94 3 v l.length (flat l)∧l.length=3∧∃ p':Nat,p'≤p+6∧Rdr w' B rb p'∧But rb w w':=by
 have hlt:=h.lt
 have hge:=h.ge
 go_enter Tryz.func192,Tryz.ntmps192
 go_wp2_with fail
 have hb0:=But.refl rb w
 go_region_with (go_at_call 65;go_must (first | (refine Calls.mono (pick_rdr B rb (p) _ _ ?_ ?_ ?_ ?_) ?_;omega;omega;omega;(repeat (first | assumption | refine Rdr.alloc ?_ _ | refine Rdr.drew ?_));rintro e w1 ⟨r1,rfl,r10,r11,hr1,hb1⟩;obtain ⟨q1,rfl⟩:=Int.eq_ofNat_of_zero_le r10;have hrlt1:=hr1.lt;have hc11:=bcell_but hb1;have hs11:=blt_but hb1;have tt1:But rb w w1:=(by first | exact hb0.drew.trans hb1 | exact (hb0.drew.alloc _).trans hb1)) | (refine Calls.mono (pick_rdr B rb (p+1) _ _ ?_ ?_ ?_ ?_) ?_;omega;omega;omega;(repeat (first | assumption | refine Rdr.alloc ?_ _ | refine Rdr.drew ?_));rintro e w2 ⟨r2,rfl,r20,r21,hr2,hb2⟩;obtain ⟨q2,rfl⟩:=Int.eq_ofNat_of_zero_le r20;have hrlt2:=hr2.lt;have hc22:=bcell_but hb2;have hs22:=blt_but hb2;have st2:But rb w1 w2:=(by first | exact hb2 | exact ((But.refl rb _).alloc _).trans hb2);have tt2:=tt1.trans st2;have cc12:=hb1.trans st2;have hc12:=bcell_but cc12;have hs12:=blt_but cc12) | (refine Calls.mono (pick_rdr B rb (p+1+1) _ _ ?_ ?_ ?_ ?_) ?_;omega;omega;omega;(repeat (first | assumption | refine Rdr.alloc ?_ _ | refine Rdr.drew ?_));rintro e w3 ⟨r3,rfl,r30,r31,hr3,hb3⟩;obtain ⟨q3,rfl⟩:=Int.eq_ofNat_of_zero_le r30;have hrlt3:=hr3.lt;have hc33:=bcell_but hb3;have hs33:=blt_but hb3;have st3:But rb w2 w3:=(by first | exact hb3 | exact ((But.refl rb _).alloc _).trans hb3);have tt3:=tt2.trans st3;have cc13:=cc12.trans st3;have hc13:=bcell_but cc13;have hs13:=blt_but cc13;have cc23:=hb2.trans st3;have hc23:=bcell_but cc23;have hs23:=blt_but cc23;obtain ⟨kk,hkk,hkl⟩:=twoth q3 (by omega)) | (refine Calls.mono (pick_rdr B rb (p+1+1+1) _ _ ?_ ?_ ?_ ?_) ?_;omega;omega;omega;(repeat (first | assumption | refine Rdr.alloc ?_ _ | refine Rdr.drew ?_));rintro e w4 ⟨r4,rfl,r40,r41,hr4,hb4⟩;obtain ⟨q4,rfl⟩:=Int.eq_ofNat_of_zero_le r40;have hrlt4:=hr4.lt;have hc44:=bcell_but hb4;have hs44:=blt_but hb4;have st4:But rb w3 w4:=(by first | exact hb4 | exact ((But.refl rb _).alloc _).trans hb4);have tt4:=tt3.trans st4;have cc14:=cc13.trans st4;have hc14:=bcell_but cc14;have hs14:=blt_but cc14;have cc24:=cc23.trans st4;have hc24:=bcell_but cc24;have hs24:=blt_but cc24;have cc34:=hb3.trans st4;have hc34:=bcell_but cc34;have hs34:=blt_but cc34) | (refine Calls.mono (pick_rdr B rb (p+1+1+1+1) _ _ ?_ ?_ ?_ ?_) ?_;omega;omega;omega;(repeat (first | assumption | refine Rdr.alloc ?_ _ | refine Rdr.drew ?_));rintro e w5 ⟨r5,rfl,r50,r51,hr5,hb5⟩;obtain ⟨q5,rfl⟩:=Int.eq_ofNat_of_zero_le r50;have hrlt5:=hr5.lt;have hc55:=bcell_but hb5;have hs55:=blt_but hb5;have st5:But rb w4 w5:=(by first | exact hb5 | exact ((But.refl rb _).alloc _).trans hb5);have tt5:=tt4.trans st5;have cc15:=cc14.trans st5;have hc15:=bcell_but cc15;have hs15:=blt_but cc15;have cc25:=cc24.trans st5;have hc25:=bcell_but cc25;have hs25:=blt_but cc25;have cc35:=cc34.trans st5;have hc35:=bcell_but cc35;have hs35:=blt_but cc35;have cc45:=hb4.trans st5;have hc45:=bcell_but cc45;have hs45:=blt_but cc45)))
 all_goals
  clear hc11 hs11 hc22 hs22 hc12 hs12 hc33 hs33 hc13 hs13 hc23 hs23 hc44 hs44 hc14 hs14 hc24 hs24 hc34 hs34 hc55 hs55 hc15 hs15 hc25 hs25 hc35 hs35 hc45 hs45
  go_wp2_with fail
  go_ret
  refine ⟨[⟨1,q1,IntKind.i64.wrap (1+q2)⟩,⟨9,0,0⟩,⟨kk,q4,IntKind.i64.wrap (1+q5)⟩],_,rfl,?_,rfl,p+1+1+1+1+1,by omega,?_,?_⟩
  ·refine own_three _ _ _ _ _ _ _ _ _ _ _ _ ?_ ?_
   ·have hsz:=tt5.size
    first | exact hsz | (simp;omega)
   ·first | rfl | simp
  ·first | exact hr5.alloc _ | exact (hr5.alloc _).alloc _
  ·first | exact tt5.alloc _ | exact (tt5.alloc _).alloc _
end
section
open Go.RowKit
theorem ownsRow_mono {w:World} {B B':Nat} {e:TypeId} {size:Nat} {v:Value} {n:Nat} {xs:List Value} (h:w.ownsRow B e size v n xs) (hB:B'≤B):w.ownsRow B' e size v n xs:=by
 obtain ⟨h1,h2⟩:=h
 refine ⟨h1,?_⟩
 rcases h2 with h2 | ⟨g,cap,cur,hv,hg,r⟩
 ·exact Or.inl h2
 ·exact Or.inr ⟨g,cap,cur,hv,Nat.le_trans hB hg,r⟩
theorem own_apart {w:World} {B B':Nat} {e e':TypeId} {size size':Nat} {v v':Value} {n n':Nat} {xs xs':List Value} (h:w.ownsRow B e size v n xs) (h':w.ownsRow B' e' size' v' n' xs') (he:e≠e'):v.ownBlock=none∨v.ownBlock≠v'.ownBlock:=by
 rcases h.2 with ⟨hv,_⟩ | ⟨g,cap,cur,hv,_,hh,_⟩
 ·exact Or.inl (by rw [hv];rfl)
 ·right
  rcases h'.2 with ⟨hv',_⟩ | ⟨g',cap',cur',hv',_,hh',_⟩
  ·rw [hv,hv'];simp [Value.ownBlock]
  ·rw [hv,hv']
   intro e2
   simp [Value.ownBlock] at e2
   rw [e2] at hh
   rw [hh] at hh'
   simp at hh'
   exact he hh'.2
structure Build (w:World) (B:Nat) (v:Value) (ll:List (List M.D)) (vs:List Value):Prop where
 outer:w.ownsRow B 97 1 v ll.length vs
 len:vs.length=ll.length
 inner:∀ i (h:i < ll.length) (h':i < vs.length),w.ownsRow B 94 3 vs[i] ll[i].length (flat ll[i])
theorem Build.but {w w':World} {B rb:Nat} {v:Value} {ll:List (List M.D)} {vs:List Value} (h:Build w B v ll vs) (hb:But rb w w') (hr:rb < B):Build w' B v ll vs :=
 ⟨ownsRow_but h.outer hb hr,h.len,fun i h1 h2=>ownsRow_but (h.inner i h1 h2) hb hr⟩
theorem Build.mono {w:World} {B B':Nat} {v:Value} {ll:List (List M.D)} {vs:List Value} (h:Build w B v ll vs) (hB:B'≤B):Build w B' v ll vs :=
 ⟨ownsRow_mono h.outer hB,h.len,fun i h1 h2=>ownsRow_mono (h.inner i h1 h2) hB⟩
theorem Build.nil (w:World) (B:Nat):Build w B (.slice none 0 0) [] []:=⟨World.ownsRow_nil _ _ _ _,rfl,fun _ h _=>absurd h (Nat.not_lt_zero _)⟩
theorem ownsRow_far {w:World} {B:Nat} {e:TypeId} {size:Nat} {v:Value} {n:Nat} {xs:List Value} (h:w.ownsRow B e size v n xs) {b i:Nat} (hb:b < B) (u:Value):(w.setCell ⟨b,i,none⟩ u).ownsRow B e size v n xs :=
 ownsRow_setCell_below h (a:=⟨b,i,none⟩) hb u
theorem Build.far {w:World} {B:Nat} {v:Value} {ll:List (List M.D)} {vs:List Value} (h:Build w B v ll vs) {b i:Nat} (hb:b < B) (u:Value):Build (w.setCell ⟨b,i,none⟩ u) B v ll vs :=
 ⟨ownsRow_far h.outer hb u,h.len,fun i h1 h2=>ownsRow_far (h.inner i h1 h2) hb u⟩
theorem Build.snoc {w w':World} {B:Nat} {v v' x:Value} {ll:List (List M.D)} {vs:List Value} {l:List M.D} (h:Build w B v ll vs) (hx:w.ownsRow B 94 3 x l.length (flat l))
  (ho:w'.ownsRow B 97 1 v' (ll.length+1) (vs++[x])) (hg:w.grownBy w' v.ownBlock):Build w' B v' (ll++[l]) (vs++[x]):=by
 have hl:=h.len
 refine ⟨by rw [List.length_append];exact ho,by simp [hl],fun i h1 h2=>?_⟩
 by_cases hi:i < ll.length
 ·rw [List.getElem_append_left hi,List.getElem_append_left (by omega)]
  exact (h.inner i hi (by omega)).kept hg (own_apart (h.inner i hi (by omega)) h.outer (by decide))
 ·have:i=ll.length:=by simp at h1;omega
  subst this
  have e1:(ll++[l])[ll.length]=l:=by simp
  have e2:(vs++[x])[ll.length]=x:=by
   rw [List.getElem_append_right (by omega)]
   simp [hl]
  rw [e1,e2]
  exact hx.kept hg (own_apart hx h.outer (by decide))
theorem Build.ss {w:World} {B:Nat} {v:Value} {ll:List (List M.D)} {vs:List Value} (h:Build w B v ll vs):∃ a g c,v=.slice a ll.length c∧DoSS w a g 0 ll:=by
 have hl:=h.len
 rcases h.outer.2 with ⟨hv,hn⟩ | ⟨g,cap,cur,hv,hg,hh,r⟩
 ·have:ll=[]:=List.length_eq_zero_iff.1 hn
  subst this
  exact ⟨none,0,0,hv,⟨fun h=>absurd h (Nat.lt_irrefl _),fun i hi=>absurd hi (Nat.not_lt_zero _)⟩⟩
 ·refine ⟨_,g,cap,hv,⟨fun _=>rfl,fun i hi=>?_⟩⟩
  have hc:=h.outer.cells (g:=g) (by rw [hv];rfl) i vs[i] (List.getElem?_eq_getElem (by omega))
  rw [Go.WideShapes.add_plain] at hc
  obtain ⟨a',g',c',e,hd,_⟩:=own_steps (h.inner i hi (by omega))
  rw [e] at hc
  exact ⟨a',g',0,c',hc,hd⟩
structure Slot1 (w:World) (b:Nat) (x:Value):Prop where
 c:w.cell? ⟨b,0,none⟩=some x
 fz:w.frozen? ⟨b,0,none⟩=false
theorem Slot1.lt {w:World} {b:Nat} {x:Value} (h:Slot1 w b x):b < w.heap.size:=World.block_lt_of_cell? _ _ h.c
theorem Slot1.but {w w':World} {b rb:Nat} {x:Value} (h:Slot1 w b x) (hb:But rb w w') (hne:b≠rb):Slot1 w' b x :=
 ⟨(hb.cell (p:=⟨b,0,none⟩) h.lt hne).trans h.c,(hb.frozen (p:=⟨b,0,none⟩) h.lt hne).trans h.fz⟩
theorem Slot1.new (w:World) (x:Value) (t:TypeId):Slot1 (w.alloc (.cells #[x] t)) w.heap.size x:=⟨by simp,by simp⟩
theorem Slot1.grown {w w':World} {b:Nat} {x:Value} {row:Option Nat} (h:Slot1 w b x) (hg:w.grownBy w' row) (hr:∀ k,row=some k→b < k):Slot1 w' b x:=by
 have hne:some b≠row:=fun e=>by have:=hr b e.symm;omega
 exact ⟨hg.cell h.c hne,(World.frozen?_of_block (w:=w) (hg.block b h.lt hne)).trans h.fz⟩
theorem Slot1.far {w:World} {b b' i:Nat} {x:Value} (h:Slot1 w b x) (hne:b'≠b) (u:Value):Slot1 (w.setCell ⟨b',i,none⟩ u) b x :=
 ⟨(World.cell?_setCell_other _ _ _ _ (fun e=>hne (congrArg Addr.block e))).trans h.c,by rw [World.frozen?_setCell];exact h.fz⟩
theorem Slot1.set {w:World} {b:Nat} {x:Value} (h:Slot1 w b x) (u:Value):Slot1 (w.setCell ⟨b,0,none⟩ u) b u :=
 ⟨World.cell?_setCell_same _ _ _ h.c,by rw [World.frozen?_setCell];exact h.fz⟩
def M.steps:List (List M.D)→Nat
 | []=>0
 | t::l=>t.length+M.steps l
theorem M.steps_step {l:List (List M.D)} {m n:Nat} {t:List M.D} (hp:M.steps l=m+M.steps (l.drop n)) (hd:l.drop n=t::l.drop (n+1)):M.steps l=(m+t.length)+M.steps (l.drop (n+1)):=by
 rw [hp,hd,M.steps];omega
theorem M.steps_fin {l:List (List M.D)} {m n:Nat} (hp:M.steps l=m+M.steps (l.drop n)) (hn:l.length≤n):m=M.steps l:=by
 rw [hp,List.drop_eq_nil_of_le hn];rfl
set_option maxHeartbeats 400000 in
theorem l71Steps_any (a:Option Addr) (b o c:Nat) (ll:List (List M.D)) (w:World) (hl:ll.length≤1000) (hls:∀ t∈ll,t.length≤1000) (h:DoSS w a b o ll) :
  Calls Tryz.prog 195 #[.agg #[.slice a ll.length c]] w fun e w'=>e=.returned (.int .i64 (M.steps ll))∧Below w.heap.size w w':=by
 go_enter Tryz.func195,Tryz.ntmps195
 go_wp2_with fail
 go_loopw [3,4] (fun s3 s4 wr=>∃ m n:Nat,s3=.int .i64 m∧s4=.int .i64 n∧n≤ll.length∧m≤1000 * n∧M.steps ll=m+M.steps (ll.drop n)∧wr=w.alloc (.cells #[.slice a ll.length c] 25)) (fun _ s4 _=>ll.length - (intOf s4).toNat)
 case atStart=>exact ⟨0,0,rfl,rfl,Nat.zero_le _,Nat.le_refl _,by simp,rfl⟩
 case round =>
  obtain ⟨m,n,rfl,rfl,hn,hm,hpass,rfl⟩:=hrel
  have HP:Hid (M.steps ll=m+M.steps (ll.drop n)):=hpass
  clear hpass
  by_cases hlt:n < ll.length
  ·obtain ⟨rfl⟩:=h.addr (by omega)
   obtain ⟨a',b',o',c',hc,hd⟩:=h.row n hlt
   have HD:Hid (ll.drop n=ll[n]::ll.drop (n+1)):=M.drop_at' ll n hlt
   have hlt':=hls _ (List.getElem_mem hlt)
   have hbl:=World.block_lt_of_cell? _ _ hc
   generalize ll[n]=t at hd hc HD hlt'
   go_wp2_with fail
   exact ⟨⟨m+t.length,n+1,by go_num,by go_num,by omega,by omega,M.steps_step HP.out HD.out,by first | rfl | trivial⟩,by simp [intOf];omega⟩
  ·go_wp2_with fail
   go_ret
   exact ⟨ret_int (by rw [M.steps_fin HP.out (by omega)]),below1 _ _⟩
end
end Go.Proofs.YtmhpgdliaclokaaGreat
