/- spec.l71Kind: a drawn order. spec.DrawOrderRing: a drawn program, a way and an order; of ways that may have been, the first of a few that has a ring. Of codes of at most 1048576 bytes. -/
import Derived.Deep.OwnRows
import Derived.Test.YtdningnhbplfiaaGreatRows
import Derived.Test.YtdningnhbplfiaaGreatQnaw
import Derived.Test.YtdningnhbplfiaaGreatQnbl
namespace Go.Proofs.YtdningnhbplfiaaGreat
section
open Go.RowKit
set_option maxHeartbeats 1000000 in
set_option maxRecDepth 100000 in
theorem l71Kind_any (B rb p:Nat) (w:World) (hp:p≤900000) (h:Rdr w B rb p) :
  Calls Tryz.prog 68 #[.pointer (some ⟨rb,0,none⟩)] w fun e w'=>∃ r:Int,e=.returned (.int .i64 r)∧-1≤r∧r≤4∧Rdr w' B rb (p+2)∧But rb w w':=by
 have hlt:=h.lt
 go_enter Tryz.func68,Tryz.ntmps68
 go_wp2_with fail
 refine (pick_rdr B rb p 24 _ (by omega) (by omega) (by omega) h).mono ?_
 rintro e w1 ⟨r1,rfl,r10,r11,hr1,hb1⟩
 by_cases h0:r1=0
 ·subst h0
  have hal:=below1 w1 (.cells #[.int .i64 0,.int .i64 4,.int .i64 (-1)] 3)
  have hr2:=hr1.below hal (Nat.le_refl _)
  have hl1:=hb1.size
  go_wp2_with fail
  refine (pick_rdr B rb (p+1) 3 _ (by omega) (by omega) (by omega) hr2).mono ?_
  rintro e w2 ⟨r2,rfl,r20,r21,hr3,hb2⟩
  have c0:(w1.alloc (.cells #[.int .i64 0,.int .i64 4,.int .i64 (-1)] 3)).cell? ⟨w1.heap.size,0,none⟩=some (.int .i64 0):=by simp
  have c1:(w1.alloc (.cells #[.int .i64 0,.int .i64 4,.int .i64 (-1)] 3)).cell? ⟨w1.heap.size,1,none⟩=some (.int .i64 4):=by simp
  have c2:(w1.alloc (.cells #[.int .i64 0,.int .i64 4,.int .i64 (-1)] 3)).cell? ⟨w1.heap.size,2,none⟩=some (.int .i64 (-1)):=by simp
  have d0:=(hb2.cell (p:=⟨w1.heap.size,0,none⟩) (by simp) (by show w1.heap.size≠rb;omega)).trans c0
  have d1:=(hb2.cell (p:=⟨w1.heap.size,1,none⟩) (by simp) (by show w1.heap.size≠rb;omega)).trans c1
  have d2:=(hb2.cell (p:=⟨w1.heap.size,2,none⟩) (by simp) (by show w1.heap.size≠rb;omega)).trans c2
  have hbw:=(hb1.trans (But.of hal)).trans hb2
  clear c0 c1 c2 hal
  have hr:r2=0∨r2=1∨r2=2:=by omega
  rcases hr with rfl | rfl | rfl
  ·go_wp2_with fail
   go_ret
   exact ⟨_,rfl,by omega,by omega,hr3,hbw⟩
  ·go_wp2_with fail
   go_ret
   exact ⟨_,rfl,by omega,by omega,hr3,hbw⟩
  ·go_wp2_with fail
   go_ret
   exact ⟨_,rfl,by omega,by omega,hr3,hbw⟩
 ·have b0:(r1==0)=false:=by simp [h0]
  go_wp2_with fail
  refine (pick_rdr B rb (p+1) 3 _ (by omega) (by omega) (by omega) hr1).mono ?_
  rintro e w2 ⟨r2,rfl,r20,r21,hr3,hb2⟩
  go_wp2_with fail
  go_ret
  exact ⟨_,rfl,by (try rw [IntKind.wrap_i64]);omega,by (try rw [IntKind.wrap_i64]);omega,hr3,hb1.trans hb2⟩
end
section
open Go.RowKit
def HoDrawn (N:Nat) (w:World) (v:Value):Prop:=∃ (a:Option Addr) (g c:Nat) (mm:List (List M.D)) (fv ov:Value) (l:List Int) (rows:List (List Int)) (kind:Int),v=.tuple #[.agg #[.slice a mm.length c],.agg #[fv,ov],.int .i64 kind]∧DoSN N w a g 0 mm∧Small mm c∧WyP (fun b=>N≤b) w fv ov l rows∧l.length≤43∧rows.length=3∧(∀ r∈rows,r.length≤7)∧(-1≤kind∧kind≤4)
theorem HoDrawn.drew {N:Nat} {w:World} {v:Value} (h:HoDrawn N w v):HoDrawn N w.drew v:=by
 obtain ⟨a,g,c,mm,fv,ov,l,rows,kind,e,h1,h2,h3,h4⟩:=h
 exact ⟨a,g,c,mm,fv,ov,l,rows,kind,e,⟨h1.addr,h1.ge,fun i hi=>by obtain ⟨a',b',o',c',q1,q2,q3⟩:=h1.row i hi;exact ⟨a',b',o',c',q1,⟨q2.addr,fun j hj=>⟨(q2.row j hj).k,(q2.row j hj).p,(q2.row j hj).v⟩⟩,q3⟩⟩,h2,h3.keep (fun _ h=>h) (fun p u _ hc=>hc),h4⟩
structure LsO (w:World) (lo gl n:Nat):Prop where
 ge:0 < n→lo < gl
 row:∀ k,k < n→∃ fv ov l rows,w.cell? ⟨gl,k * 2,none⟩=some fv∧w.cell? ⟨gl,k * 2+1,none⟩=some ov∧WyP (fun b=>lo < b) w fv ov l rows∧l.length≤42∧rows.length=3∧∀ r∈rows,r.length≤6
theorem LsO.keep {w w':World} {lo gl n:Nat} (h:LsO w lo gl n) (k:∀ p u,lo < p.block→w.cell? p=some u→w'.cell? p=some u):LsO w' lo gl n :=
 ⟨h.ge,fun i hi=>by
  obtain ⟨fv,ov,l,rows,e1,e2,e3,e4⟩:=h.row i hi
  exact ⟨fv,ov,l,rows,k _ _ (h.ge (by omega)) e1,k _ _ (h.ge (by omega)) e2,e3.keep (fun _ h=>h) (fun p u hp hc=>k p u hp hc),e4⟩⟩
theorem WyP.lts {P:Nat→Prop} {w:World} {fv ov:Value} {l:List Int} {rows:List (List Int)} (h:WyP P w fv ov l rows):WyP (fun b=>P b∧b < w.heap.size) w fv ov l rows:=by
 obtain ⟨⟨fa,fb,fc,e1,e2,e3⟩,⟨ra,rb,rc,d1,d2,d3⟩⟩:=h
 refine ⟨⟨fa,fb,fc,e1,e2,fun h=>⟨e3 h,World.block_lt_of_cell? _ _ (e2.row 0 h)⟩⟩,⟨ra,rb,rc,d1,fun h=>⟨(d2 h).1,(d2 h).2,by obtain ⟨_,_,_,q,_⟩:=d3 0 h;exact World.block_lt_of_cell? _ _ q⟩,fun i hi=>?_⟩⟩
 obtain ⟨a',b',c',g1,g2,g3⟩:=d3 i hi
 exact ⟨a',b',c',g1,g2,fun h=>⟨g3 h,World.block_lt_of_cell? _ _ (g2.row 0 h)⟩⟩
structure PgB (lo hi:Nat) (w:World) (a:Option Addr) (b o:Nat) (ll:List (List M.D)):Prop where
 addr:0 < ll.length→a=some ⟨b,o,none⟩
 ge:0 < ll.length→lo≤b∧b < hi
 row:∀ i (h:i < ll.length),∃ a' b' o' c',w.cell? ⟨b,o+i,none⟩=some (.slice a' ll[i].length c')∧DoS w a' b' o' ll[i]∧(0 < ll[i].length→lo≤b'∧b' < hi)∧ll[i].length≤c'
theorem DoSN.pg {N:Nat} {w:World} {a:Option Addr} {b o:Nat} {ll:List (List M.D)} (h:DoSN N w a b o ll):PgB N w.heap.size w a b o ll :=
 ⟨h.addr,fun hp=>⟨h.ge hp,by obtain ⟨_,_,_,_,q,_⟩:=h.row 0 hp;exact World.block_lt_of_cell? _ _ q⟩,fun i hi=>by
  obtain ⟨a',b',o',c',q1,q2,q3,q4⟩:=h.row i hi
  exact ⟨a',b',o',c',q1,q2,fun hp=>⟨q3 hp,q2.lt hp⟩,q4⟩⟩
theorem PgB.sn {lo hi:Nat} {w:World} {a:Option Addr} {b o:Nat} {ll:List (List M.D)} (h:PgB lo hi w a b o ll):DoSN lo w a b o ll :=
 ⟨h.addr,fun hp=>(h.ge hp).1,fun i hi=>by
  obtain ⟨a',b',o',c',q1,q2,q3,q4⟩:=h.row i hi
  exact ⟨a',b',o',c',q1,q2,fun hp=>(q3 hp).1,q4⟩⟩
theorem PgB.far {lo hi:Nat} {w:World} {a:Option Addr} {b o B i:Nat} {ll:List (List M.D)} {u:Value} (h:PgB lo hi w a b o ll) (hB:B < lo∨hi≤B):PgB lo hi (w.setCell ⟨B,i,none⟩ u) a b o ll :=
 ⟨h.addr,h.ge,fun j hj=>by
  obtain ⟨a',b',o',c',q1,q2,q3,q4⟩:=h.row j hj
  have:=h.ge (by omega)
  exact ⟨a',b',o',c',(World.cell?_setCell_other _ _ _ _ (fun e=>by have:=congrArg Addr.block e;simp at this;omega)).trans q1,q2.far (fun hl=>by have:=q3 hl;omega),q3,q4⟩⟩
theorem PgB.but {lo hi:Nat} {w w':World} {a:Option Addr} {rb b o:Nat} {ll:List (List M.D)} (h:PgB lo hi w a b o ll) (hb:But rb w w') (hr:rb < lo):PgB lo hi w' a b o ll :=
 ⟨h.addr,h.ge,fun j hj=>by
  obtain ⟨a',b',o',c',q1,q2,q3,q4⟩:=h.row j hj
  have:=h.ge (by omega)
  exact ⟨a',b',o',c',(hb.cell (p:=⟨b,o+j,none⟩) (World.block_lt_of_cell? _ _ q1) (by show b≠rb;omega)).trans q1,q2.but hb (fun hl=>by have:=q3 hl;omega),q3,q4⟩⟩
theorem BxX.set1 {w:World} {b:Nat} {x y:Value} (h:BxX w b x y) (u:Value):BxX (w.setCell ⟨b,1,none⟩ u) b x u :=
 ⟨(World.cell?_setCell_other _ _ _ _ (fun e=>by have:=congrArg Addr.off e;simp at this)).trans h.c0,World.cell?_setCell_same _ _ _ h.c1,fun i=>by rw [World.frozen?_setCell];exact h.fz i⟩
structure DgR (w wr:World) (Q rb P X B p:Nat) (a:Option Addr) (g c:Nat) (mm:List (List M.D)) (gl n:Nat) (fv ov:Value) (l:List Int) (rows:List (List Int)):Prop where
 R:Slot1 wr w.heap.size (.slice none 0 0)
 Qx:BxX wr Q (.slice none 0 0) (.slice none 0 0)
 Pb:Slot1 wr P (.slice a mm.length c)
 Xb:BxX wr X fv ov
 sn:PgB (rb+1) P wr a g 0 mm
 wy:WyP (fun b=>rb < b∧b≠X) wr fv ov l rows
 h1:l.length≤43
 h2:rows.length=3
 h3:∀ r∈rows,r.length≤7
 rd:Rdr wr B rb p
 bw:Below w.heap.size w wr
 ls:LsO wr X gl n
theorem DgR.but {w wr w':World} {Q rb P X B p p':Nat} {a:Option Addr} {g c:Nat} {mm:List (List M.D)} {gl n:Nat} {fv ov:Value} {l:List Int} {rows:List (List Int)} (h:DgR w wr Q rb P X B p a g c mm gl n fv ov l rows) (hb:But rb wr w') (hr:Rdr w' B rb p') (n1:w.heap.size < rb) (n2:Q < rb) (n3:rb < P) (n4:rb < X):DgR w w' Q rb P X B p' a g c mm gl n fv ov l rows :=
 ⟨h.R.but hb (by omega),h.Qx.but hb (by omega),h.Pb.but hb (by omega),h.Xb.but hb (by omega),h.sn.but hb (by omega),
  h.wy.keep (fun _ h=>h) (fun p u hp hc=>(hb.cell (p:=p) (World.block_lt_of_cell? _ _ hc) (by have:=hp.1;show p.block≠rb;omega)).trans hc),h.h1,h.h2,h.h3,hr,But.below h.bw hb (by omega),
  h.ls.keep (fun p u hp hc=>(hb.cell (p:=p) (World.block_lt_of_cell? _ _ hc) (by show p.block≠rb;omega)).trans hc)⟩
theorem DgR.bel {w wr w':World} {Q rb P X B p:Nat} {a:Option Addr} {g c:Nat} {mm:List (List M.D)} {gl n:Nat} {fv ov:Value} {l:List Int} {rows:List (List Int)} (h:DgR w wr Q rb P X B p a g c mm gl n fv ov l rows) (hb:Below wr.heap.size wr w') (n1:w.heap.size < rb) (n2:Q < rb) (n3:rb < P) (n4:rb < X):DgR w w' Q rb P X B p a g c mm gl n fv ov l rows :=
 h.but (But.of (rb:=rb) hb) (h.rd.below hb (Nat.le_refl _)) n1 n2 n3 n4
theorem DgR.fin {w wr:World} {Q rb P X B p:Nat} {a:Option Addr} {g c:Nat} {mm:List (List M.D)} {gl n:Nat} {fv ov:Value} {l:List Int} {rows:List (List Int)} (h:DgR w wr Q rb P X B p a g c mm gl n fv ov l rows) (hQ:w.heap.size+1=Q) (n2:Q < rb) (hsm:Small mm c) {kind:Int} (k0:-1≤kind) (k1:kind≤4) :
  ((((wr.setCell ⟨w.heap.size,0,none⟩ (.slice a mm.length c)).setCell ⟨Q,0,none⟩ fv).setCell ⟨Q,1,none⟩ ov).cell? ⟨w.heap.size,0,none⟩=some (.slice a mm.length c)∧(((wr.setCell ⟨w.heap.size,0,none⟩ (.slice a mm.length c)).setCell ⟨Q,0,none⟩ fv).setCell ⟨Q,1,none⟩ ov).cell? ⟨Q,0,none⟩=some fv∧(((wr.setCell ⟨w.heap.size,0,none⟩ (.slice a mm.length c)).setCell ⟨Q,0,none⟩ fv).setCell ⟨Q,1,none⟩ ov).cell? ⟨Q,1,none⟩=some ov) ∧
  HoDrawn (w.heap.size+2) (((wr.setCell ⟨w.heap.size,0,none⟩ (.slice a mm.length c)).setCell ⟨Q,0,none⟩ fv).setCell ⟨Q,1,none⟩ ov) (.tuple #[.agg #[.slice a mm.length c],.agg #[fv,ov],.int .i64 kind])∧Below w.heap.size w (((wr.setCell ⟨w.heap.size,0,none⟩ (.slice a mm.length c)).setCell ⟨Q,0,none⟩ fv).setCell ⟨Q,1,none⟩ ov):=by
 have hF:=((h.wy.set (P':=fun b=>rb < b) (B:=w.heap.size) (i:=0) (u:=.slice a mm.length c) (fun b hb=>⟨hb.1,by have:=hb.1;omega⟩)).set (P':=fun b=>rb < b) (B:=Q) (i:=0) (u:=fv) (fun b hb=>⟨hb,by omega⟩)).set (P':=fun b=>w.heap.size+2≤b) (B:=Q) (i:=1) (u:=ov) (fun b hb=>⟨by omega,by omega⟩)
 have hS:=(((h.sn.sn.far (B:=w.heap.size) (i:=0) (u:=.slice a mm.length c) (by omega)).far (B:=Q) (i:=0) (u:=fv) (by omega)).far (B:=Q) (i:=1) (u:=ov) (by omega)).mono (N':=w.heap.size+2) (by omega)
 have q6:=(h.Qx.far (i:=0) (b':=w.heap.size) (by omega) (.slice a mm.length c)).set0 fv
 have F1:=(((h.R.set (.slice a mm.length c)).far (i:=0) (b':=Q) (by omega) fv).far (i:=1) (b':=Q) (by omega) ov).c
 have F2:=(World.cell?_setCell_other _ ⟨Q,1,none⟩ ⟨Q,0,none⟩ ov (fun e=>by have:=congrArg Addr.off e;simp at this)).trans q6.c0
 have F3:=World.cell?_setCell_same _ ⟨Q,1,none⟩ ov q6.c1
 have hbF:=((h.bw.setCell (p:=⟨w.heap.size,0,none⟩) (Nat.le_refl _) (.slice a mm.length c)).setCell (p:=⟨Q,0,none⟩) (by show w.heap.size≤Q;omega) fv).setCell (p:=⟨Q,1,none⟩) (by show w.heap.size≤Q;omega) ov
 exact ⟨⟨F1,F2,F3⟩,⟨a,g,c,mm,_,_,l,rows,kind,rfl,hS,hsm,hF,h.h1,h.h2,h.h3,⟨k0,k1⟩⟩,hbF⟩
theorem DgR.setX {w wr:World} {Q rb P X B p:Nat} {a:Option Addr} {g c:Nat} {mm:List (List M.D)} {gl n:Nat} {fv ov:Value} {l:List Int} {rows:List (List Int)} (h:DgR w wr Q rb P X B p a g c mm gl n fv ov l rows) {fv' ov':Value} {l':List Int} {rows':List (List Int)} (n1:w.heap.size < rb) (n2:Q < rb) (n3:rb < P) (n4:rb < X) (n5:P < X) (_:Q≠X) (hB:B≤X) (hwy:WyP (fun b=>X < b) wr fv' ov' l' rows') (h1:l'.length≤42) (h2:rows'.length=3) (h3:∀ r∈rows',r.length≤6) :
  DgR w ((wr.setCell ⟨X,0,none⟩ fv').setCell ⟨X,1,none⟩ ov') Q rb P X B p a g c mm gl n fv' ov' l' rows' :=
 ⟨(h.R.far (i:=0) (b':=X) (by omega) fv').far (i:=1) (b':=X) (by omega) ov',(h.Qx.far (i:=0) (b':=X) (by omega) fv').far (i:=1) (b':=X) (by omega) ov',(h.Pb.far (i:=0) (b':=X) (by omega) fv').far (i:=1) (b':=X) (by omega) ov',(h.Xb.set0 fv').set1 ov',
  (h.sn.far (B:=X) (i:=0) (u:=fv') (by omega)).far (B:=X) (i:=1) (u:=ov') (by omega),(hwy.set (P':=fun b=>rb < b∧b≠X) (fun b hb=>⟨⟨by omega,by omega⟩,by omega⟩)).set (P':=fun b=>rb < b∧b≠X) (fun b hb=>⟨hb,hb.2⟩),by omega,h2,fun r hr=>by have:=h3 r hr;omega,
  (h.rd.setCell (by omega) (by omega) _).setCell (by omega) (by omega) _,(h.bw.setCell (p:=⟨X,0,none⟩) (by show w.heap.size≤X;omega) _).setCell (p:=⟨X,1,none⟩) (by show w.heap.size≤X;omega) _,
  h.ls.keep (fun p u hp hc=>by rw [World.cell?_setCell_other _ _ _ _ (fun e=>by have:=congrArg Addr.block e;simp at this;omega),World.cell?_setCell_other _ _ _ _ (fun e=>by have:=congrArg Addr.block e;simp at this;omega)];exact hc)⟩
theorem DgR.ss {w wr:World} {Q rb P X B p:Nat} {a:Option Addr} {g c:Nat} {mm:List (List M.D)} {gl n:Nat} {fv ov:Value} {l:List Int} {rows:List (List Int)} (h:DgR w wr Q rb P X B p a g c mm gl n fv ov l rows):DoSS wr a g 0 mm:=h.sn.sn.ss
set_option maxHeartbeats 4000000 in
set_option maxRecDepth 100000 in
theorem DrawOrderRing_any (ca:Option Addr) (cb co L C:Nat) (x:Nat→Int) (w:World) (hL:L≤C) (had:0 < L→ca=some ⟨cb,co,none⟩) (hc:∀ i,i < L→w.cell? ⟨cb,co+i,none⟩=some (.int .u8 (x i))∧0≤x i∧x i≤255) (hLb:L≤1048576) :
  Calls Tryz.prog 25 #[.slice ca L C] w fun e w'=>∃ v,e=.returned v∧HoDrawn (w.heap.size+2) w' v∧Below w.heap.size w w':=by
 have hb0:=below2 w (.cells #[.slice none 0 0] 35) (.cells #[.slice none 0 0,.slice none 0 0] 37)
 have hR0:Slot1 ((w.alloc (.cells #[.slice none 0 0] 35)).alloc (.cells #[.slice none 0 0,.slice none 0 0] 37)) w.heap.size (.slice none 0 0):=(Slot1.new w _ _).ofB (alloc_old _ _ _ (by simp))
 have hQ0:BxX ((w.alloc (.cells #[.slice none 0 0] 35)).alloc (.cells #[.slice none 0 0,.slice none 0 0] 37)) (w.heap.size+1) (.slice none 0 0) (.slice none 0 0):=by
  have:=BxX.new (w.alloc (.cells #[.slice none 0 0] 35)) (.slice none 0 0) (.slice none 0 0) 37
  rwa [World.size_alloc] at this
 have hsz0:((w.alloc (.cells #[.slice none 0 0] 35)).alloc (.cells #[.slice none 0 0,.slice none 0 0] 37)).heap.size=w.heap.size+1+1:=by simp
 go_enter Tryz.func25,Tryz.ntmps25
 go_wp2_with fail
 generalize (w.alloc (.cells #[.slice none 0 0] 35)).alloc (.cells #[.slice none 0 0,.slice none 0 0] 37)=W0 at *
 obtain ⟨Q,hQe⟩:∃ Q,w.heap.size+1=Q:=⟨_,rfl⟩
 rw [hQe] at hQ0 hsz0 ⊢
 refine (l6Open_any ca cb co L C x _ hL had (fun i hi=>⟨by rw [hb0.cell (p:=⟨cb,co+i,none⟩) (World.block_lt_of_cell? _ _ (hc i hi).1)];exact (hc i hi).1,(hc i hi).2⟩) hLb).mono ?_
 rintro e w1 ⟨rfl,hr1,hb1⟩
 rw [hsz0] at hr1 ⊢
 obtain ⟨rb,hrb⟩:∃ rb,Q+1=rb:=⟨_,rfl⟩
 rw [hrb] at hr1 ⊢
 have hb1w:Below w.heap.size w w1:=hb0.trans (hb1.mono (by omega))
 have hR1:=hR0.but (But.of (rb:=rb) hb1) (by omega)
 have hQ1:=hQ0.but (But.of (rb:=rb) hb1) (by omega)
 have hlt1:=hr1.lt
 clear hc had hb0 hb1 hR0 hQ0
 go_wp2_with fail
 refine (l71Exec_any _ rb 0 _ (by omega) hr1).mono ?_
 rintro e w2 ⟨v,rfl,⟨a,g,c,mm,fv,ov,l,rows,rfl,hsn,hsm,hwy,h1,h2,h3⟩,p2,hp2,hr2,hb2⟩
 have hR2:=hR1.but hb2 (by omega)
 have hQ2:=hQ1.but hb2 (by omega)
 have hbw2:Below w.heap.size w w2:=But.below hb1w hb2 (by omega)
 have hsz2:=hb2.size
 obtain ⟨⟨fa,fb,fc,rfl,hfI,hfP⟩,⟨ra,rbb,rc,rfl,hra,hrr⟩⟩:=hwy
 have hwy:WyP (fun b=>rb < b) w2 (.slice fa l.length fc) (.slice ra rows.length rc) l rows:=⟨⟨fa,fb,fc,rfl,hfI,fun h=>by have:=hfP h;omega⟩,⟨ra,rbb,rc,rfl,fun h=>⟨(hra h).1,by have:=(hra h).2;omega⟩,fun i hi=>by
  obtain ⟨a',b',c',q1,q2,q3⟩:=hrr i hi
  exact ⟨a',b',c',q1,q2,fun h=>by have:=q3 h;omega⟩⟩⟩
 have hsn2:=hsn.mono (N':=rb+1) (by omega)
 have hq3:Hid (rows.length=3):=h2
 have hl2:rows.length≤1048576:=by omega
 clear hfI hfP hra hrr hsn h2 hR1 hQ1
 have hal:=below2 w2 (.cells #[.slice a mm.length c] 35) (.cells #[.slice fa l.length fc,.slice ra rows.length rc] 37)
 have hP3:Slot1 ((w2.alloc (.cells #[.slice a mm.length c] 35)).alloc (.cells #[.slice fa l.length fc,.slice ra rows.length rc] 37)) w2.heap.size (.slice a mm.length c):=(Slot1.new w2 _ _).ofB (alloc_old _ _ _ (by simp))
 have hX3:BxX ((w2.alloc (.cells #[.slice a mm.length c] 35)).alloc (.cells #[.slice fa l.length fc,.slice ra rows.length rc] 37)) (w2.heap.size+1) (.slice fa l.length fc) (.slice ra rows.length rc):=by
  have:=BxX.new (w2.alloc (.cells #[.slice a mm.length c] 35)) (.slice fa l.length fc) (.slice ra rows.length rc) 37
  rwa [World.size_alloc] at this
 have hR3:=hR2.but (But.of (rb:=rb) hal) (by omega)
 have hQ3:=hQ2.but (But.of (rb:=rb) hal) (by omega)
 have hsn3:=hsn2.pg.but (But.of (rb:=rb) hal) (by omega)
 have hwy3:=hwy.lts.keep (P':=fun b=>rb < b∧b < w2.heap.size) (fun _ h=>h) (fun p u _ hc=>(hal.cell (p:=p) (World.block_lt_of_cell? _ _ hc)).trans hc)
 have hr3:=hr2.below hal (Nat.le_refl _)
 have hb3:But rb w1 ((w2.alloc (.cells #[.slice a mm.length c] 35)).alloc (.cells #[.slice fa l.length fc,.slice ra rows.length rc] 37)):=hb2.trans (But.of hal)
 clear hR2 hQ2 hsn2 hwy hr2 hb2 hbw2 hal
 go_wp2_with fail
 generalize (w2.alloc (.cells #[.slice a mm.length c] 35)).alloc (.cells #[.slice fa l.length fc,.slice ra rows.length rc] 37)=w3 at *
 obtain ⟨X,hXe⟩:∃ X,w2.heap.size+1=X:=⟨_,rfl⟩
 rw [hXe] at hX3 ⊢
 generalize w2.heap.size=P at *
 have hz3:w.heap.size < rb∧Q < rb∧rb < P∧rb < X:=⟨by omega,by omega,by omega,by omega⟩
 obtain ⟨z1,z2,z3,z4⟩:=hz3
 refine (l71Kind_any _ rb p2 _ (by omega) hr3).mono ?_
 rintro e w4 ⟨kind,rfl,k0,k1,hr4,hb4⟩
 have hR4:=hR3.but hb4 (by omega)
 have hQ4:=hQ3.but hb4 (by omega)
 have hP4:=hP3.but hb4 (by omega)
 have hX4:=hX3.but hb4 (by omega)
 have hsn4:=hsn3.but hb4 (by omega)
 have hwy4:=hwy3.keep (P':=fun b=>rb < b∧b < P) (fun _ h=>h) (fun p u hp hc=>(hb4.cell (p:=p) (World.block_lt_of_cell? _ _ hc) (by have:=hp.1;show p.block≠rb;omega)).trans hc)
 have hbw4:=But.below hb1w (hb3.trans hb4) (by omega)
 have hsz4:=hb4.size
 clear hR3 hQ3 hP3 hX3 hsn3 hwy3 hr3 hb3 hb4
 have P4:=hP4.c
 have hl3:mm.length≤1048576:=by have:=hsm.three;omega
 have hls3:∀ t∈mm,t.length≤1048576:=fun t ht=>by have:=hsm.steps t ht;omega
 go_wp2_with fail
 refine (sexecAll_any a g 0 c mm w4 hl3 hls3 hsn4.sn.ss).mono ?_
 rintro e w5 ⟨v,cs,n,rfl,hRX,hn,hb5⟩
 obtain ⟨va,gl,cl,rfl,hva,hcells⟩:=hRX.form
 have lX:=hX4.lt
 have hls:LsO w5 X gl n:=⟨fun hp=>by have:=(hva hp).2;omega,fun k hk=>by
  obtain ⟨fv,ov,l',rc',rows',e1,e2,hX,hl42,h3',h6,_⟩:=hRX.row k hk
  exact ⟨fv,ov,l',rows',hcells _ _ e1,hcells _ _ e2,(hX.wy (hX.new (Nat.le_refl _))).keep (fun b hb=>by have:=hb.1;omega) (fun _ _ _ h=>h),hl42,h3',h6⟩⟩
 have hB5:But rb w4 w5:=But.of hb5
 have R5:DgR w w5 Q rb P X _ (p2+2) a g c mm gl n _ _ l rows:=⟨hR4.but hB5 (by omega),hQ4.but hB5 (by omega),hP4.but hB5 (by omega),hX4.but hB5 (by omega),hsn4.but hB5 (by omega),hwy4.keep (fun b hb=>⟨hb.1,by omega⟩) (fun p u hp hc=>(hB5.cell (p:=p) (World.block_lt_of_cell? _ _ hc) (by have:=hp.1;show p.block≠rb;omega)).trans hc),h1,hq3.out,h3,hr4.below hb5 (Nat.le_refl _),hbw4.trans (hb5.mono hbw4.size),hls⟩
 have hvn:0 < n→va=some ⟨gl,0,none⟩:=fun hp=>(hva hp).1
 have hn5:(n:Int)≤10000000000:=by omega
 have hPX:P < X:=by omega
 have nRQ:w.heap.size≠Q:=by omega
 have nQR:Q≠w.heap.size:=by omega
 have nPR:w.heap.size≠P:=by omega
 have nQP:Q≠P:=by omega
 have nRX:w.heap.size≠X:=by omega
 have nQX:Q≠X:=by omega
 clear hR4 hQ4 hP4 hX4 hsn4 hwy4 hr4 hb5 hB5 hls hRX hva hcells P4 hbw4 hb1w hr1 hsz4
 go_wp2_with fail
 go_loopw [10] (fun s10 wr=>∃ (m:Nat) (fv ov:Value) (l:List Int) (rows:List (List Int)),s10=.int .i64 m∧m≤6∧DgR w wr Q rb P X _ (p2+2+2 * m) a g c mm gl n fv ov l rows) (fun s10 _=>6 - (intOf s10).toNat)
 case atStart=>exact ⟨0,_,_,l,rows,rfl,Nat.zero_le _,R5⟩
 case round =>
  clear R5
  obtain ⟨m,fv,ov,l,rows,rfl,hm,R⟩:=hrel
  have P0:=R.Pb.c
  have X0:=R.Xb.c0
  have X1:=R.Xb.c1
  by_cases hm6:m < 6
  ·have i6:(m:Int) < 6:=by omega
   by_cases hn0:n=0
   ·subst hn0
    obtain ⟨fa,fb,fc,ra,rbb,rc,rfl,rfl,-,-⟩:=R.wy.ss
    have Z0:=R.R.c;have Z0f:=R.R.fz;have Z1:=R.Qx.c0;have Z2:=R.Qx.c1;have Z2f:=R.Qx.fz
    go_wp2_with fail
    go_region
    go_wp2_with fail
    obtain ⟨⟨F1,F2,F3⟩,E1,E2⟩:=R.fin hQe z2 hsm k0 k1
    refine bodyPost_ret (v:=.tuple #[.agg #[.slice a mm.length c],.agg #[.slice fa l.length fc,.slice ra rows.length rc],.int .i64 kind]) (by simp [results,Tryz.results25,go_sem,F1,F2,F3]) rfl ⟨_,rfl,by first | exact E1 | exact E1.drew,by first | exact E2 | exact E2.drew⟩
   ·have hnp:0 < n:=by omega
    have i0:(0:Int) < n:=by omega
    obtain ⟨rfl⟩:=hvn hnp
    go_wp2_with fail
    refine (pick_rdr _ rb (p2+2+2 * m) 5 _ (by omega) (by omega) (by omega) R.rd).mono ?_
    rintro e w6 ⟨r5,rfl,r50,r51,hr6,hb6⟩
    have R6:=R.but hb6 hr6 z1 z2 z3 z4
    clear R P0 X0 X1 hb6 hr6
    have P0:=R6.Pb.c
    have X0:=R6.Xb.c0
    have X1:=R6.Xb.c1
    by_cases hz:r5=0
    ·subst hz
     obtain ⟨fa,fb,fc,ra,rbb,rc,rfl,rfl,-,-⟩:=R6.wy.ss
     have Z0:=R6.R.c;have Z0f:=R6.R.fz;have Z1:=R6.Qx.c0;have Z2:=R6.Qx.c1;have Z2f:=R6.Qx.fz
     go_wp2_with fail
     go_region
     go_wp2_with fail
     obtain ⟨⟨F1,F2,F3⟩,E1,E2⟩:=R6.fin hQe z2 hsm k0 k1
     refine bodyPost_ret (v:=.tuple #[.agg #[.slice a mm.length c],.agg #[.slice fa l.length fc,.slice ra rows.length rc],.int .i64 kind]) (by simp [results,Tryz.results25,go_sem,F1,F2,F3]) rfl ⟨_,rfl,by first | exact E1 | exact E1.drew,by first | exact E2 | exact E2.drew⟩
    ·have r5p:r5 > 0:=by omega
     have r5p':(0:Int) < r5:=by omega
     obtain ⟨fa,fb,fc,ra,rbb,rc,rfl,rfl,hfI,hrI⟩:=R6.wy.ss
     have CO:=sorderRing_any a g 0 c mm fa fb 0 fc l ra rbb 0 rc rows kind w6 hl3 hls3 (by have:=R6.h1;omega) (fun r hr=>by have:=R6.h3 r hr;omega) R6.ss hfI hrI
     generalize (M.orderRing mm l rows kind).getD []=y at CO
     generalize (M.orderRing mm l rows kind).isSome=ok at CO
     go_wp2_with fail
     refine CO.mono ?_
     rintro e w7 ⟨q,gq,kq,rfl,_,hb7⟩
     have R7:=R6.bel hb7 z1 z2 z3 z4
     clear R6 P0 X0 X1 hb7 hfI hrI CO
     have P0:=R7.Pb.c
     have X0:=R7.Xb.c0
     have X1:=R7.Xb.c1
     cases ok
     ·go_wp2_with fail
      refine (pick_big _ rb (p2+2+2 * m+1) n _ (by omega) (by omega) (by omega) R7.rd).mono ?_
      rintro e w8 ⟨rk,rfl,r80,r81,hr8,hb8⟩
      obtain ⟨k,rfl⟩:=Int.eq_ofNat_of_zero_le r80
      have hk:k < n:=by omega
      have R8:=R7.but hb8 hr8 z1 z2 z3 z4
      clear R7 P0 X0 X1 hb8 hr8
      obtain ⟨fv',ov',l',rows',c0,c1,hwy',h42,h33,h66⟩:=R8.ls.row k hk
      obtain ⟨fa',fb',fc',ra',rbb',rc',rfl,rfl,-,-⟩:=hwy'.ss
      have RX':=R8.setX z1 z2 z3 z4 hPX (by omega) (by omega) hwy' h42 h33 h66
      clear h33 h42 h66
      have X0:=R8.Xb.c0
      have X1:=R8.Xb.c1
      have Xf:=R8.Xb.fz
      go_wp2_with fail
      exact ⟨⟨m+1,_,_,l',rows',by go_num,by omega,by rw [show p2+2+2 * (m+1)=p2+2+2 * m+1+1 from by omega];exact RX'⟩,by simp [intOf];omega⟩
     ·have Z0:=R7.R.c;have Z0f:=R7.R.fz;have Z1:=R7.Qx.c0;have Z2:=R7.Qx.c1;have Z2f:=R7.Qx.fz
      go_wp2_with fail
      go_region
      go_wp2_with fail
      obtain ⟨⟨F1,F2,F3⟩,E1,E2⟩:=R7.fin hQe z2 hsm k0 k1
      refine bodyPost_ret (v:=.tuple #[.agg #[.slice a mm.length c],.agg #[.slice fa l.length fc,.slice ra rows.length rc],.int .i64 kind]) (by simp [results,Tryz.results25,go_sem,F1,F2,F3]) rfl ⟨_,rfl,by first | exact E1 | exact E1.drew,by first | exact E2 | exact E2.drew⟩
  ·obtain rfl:m=6:=by omega
   obtain ⟨fa,fb,fc,ra,rbb,rc,rfl,rfl,-,-⟩:=R.wy.ss
   have Z0:=R.R.c;have Z0f:=R.R.fz;have Z1:=R.Qx.c0;have Z2:=R.Qx.c1;have Z2f:=R.Qx.fz
   go_wp2_with fail
   go_region
   go_wp2_with fail
   obtain ⟨⟨F1,F2,F3⟩,E1,E2⟩:=R.fin hQe z2 hsm k0 k1
   refine bodyPost_ret (v:=.tuple #[.agg #[.slice a mm.length c],.agg #[.slice fa l.length fc,.slice ra rows.length rc],.int .i64 kind]) (by simp [results,Tryz.results25,go_sem,F1,F2,F3]) rfl ⟨_,rfl,by first | exact E1 | exact E1.drew,by first | exact E2 | exact E2.drew⟩
end
end Go.Proofs.YtdningnhbplfiaaGreat
