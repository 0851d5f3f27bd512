/- spec.DrawOrderLine: a drawn program, a way and an order; mostly one that holds. Of codes of at most 1048576 bytes. -/
import Derived.Deep.OwnRows
import Derived.Test.YtmhpgdliaclokaaGreatRows
import Derived.Test.YtmhpgdliaclokaaGreatQzba
import Derived.Test.YtmhpgdliaclokaaGreatQzbl
import Derived.Test.YtmhpgdliaclokaaGreatQzbm
namespace Go.Proofs.YtmhpgdliaclokaaGreat
section
open Go.RowKit
def HoDrawn (N:Nat) (w:World) (v:Value):Prop:=∃ (a:Option Addr) (g c:Nat) (mm:List (List M.D)) (fv ov:Value) (l:List Int) (rows:List (List Int)) (kind:Int),v=.tuple #[.agg #[.slice a mm.length c],.agg #[fv,ov],.int .i64 kind]∧DoSN N w a g 0 mm∧Small mm c∧WyP (fun b=>N≤b) w fv ov l rows∧l.length≤43∧rows.length=3∧(∀ r∈rows,r.length≤7)∧(-1≤kind∧kind≤4)
theorem HoDrawn.drew {N:Nat} {w:World} {v:Value} (h:HoDrawn N w v):HoDrawn N w.drew v:=by
 obtain ⟨a,g,c,mm,fv,ov,l,rows,kind,e,h1,h2,h3,h4⟩:=h
 exact ⟨a,g,c,mm,fv,ov,l,rows,kind,e,⟨h1.addr,h1.ge,fun i hi=>by obtain ⟨a',b',o',c',q1,q2,q3⟩:=h1.row i hi;exact ⟨a',b',o',c',q1,⟨q2.addr,fun j hj=>⟨(q2.row j hj).k,(q2.row j hj).p,(q2.row j hj).v⟩⟩,q3⟩⟩,h2,h3.keep (fun _ h=>h) (fun p u _ hc=>hc),h4⟩
structure PgP (Pd:Nat→Prop) (w:World) (a:Option Addr) (b o:Nat) (ll:List (List M.D)):Prop where
 addr:0 < ll.length→a=some ⟨b,o,none⟩
 ge:0 < ll.length→Pd b
 row:∀ i (h:i < ll.length),∃ a' b' o' c',w.cell? ⟨b,o+i,none⟩=some (.slice a' ll[i].length c')∧DoS w a' b' o' ll[i]∧(0 < ll[i].length→Pd b')∧ll[i].length≤c'
theorem PgP.keep {Pd Pd':Nat→Prop} {w w':World} {a:Option Addr} {b o:Nat} {ll:List (List M.D)} (h:PgP Pd w a b o ll) (hP:∀ b,Pd b→Pd' b) (k:∀ p u,Pd p.block→w.cell? p=some u→w'.cell? p=some u):PgP Pd' w' a b o ll :=
 ⟨h.addr,fun hp=>hP _ (h.ge hp),fun i hi=>by
  obtain ⟨a',b',o',c',q1,q2,q3,q4⟩:=h.row i hi
  exact ⟨a',b',o',c',k _ _ (h.ge (by omega)) q1,⟨q2.addr,fun j hj=>⟨k _ _ (q3 (by omega)) (q2.row j hj).k,k _ _ (q3 (by omega)) (q2.row j hj).p,k _ _ (q3 (by omega)) (q2.row j hj).v⟩⟩,fun hp=>hP _ (q3 hp),q4⟩⟩
theorem DoSN.pgp {N:Nat} {w:World} {a:Option Addr} {b o:Nat} {ll:List (List M.D)} (h:DoSN N w a b o ll):PgP (fun b=>N≤b∧b < w.heap.size) w a b o ll :=
 ⟨h.addr,fun hp=>⟨h.ge hp,by obtain ⟨_,_,_,_,q,_⟩:=h.row 0 hp;exact World.block_lt_of_cell? _ _ q⟩,fun i hi=>by
  obtain ⟨a',b',o',c',q1,q2,q3,q4⟩:=h.row i hi
  exact ⟨a',b',o',c',q1,q2,fun hp=>⟨q3 hp,q2.lt hp⟩,q4⟩⟩
theorem PgP.sn {Pd:Nat→Prop} {N:Nat} {w:World} {a:Option Addr} {b o:Nat} {ll:List (List M.D)} (h:PgP Pd w a b o ll) (hN:∀ b,Pd b→N≤b):DoSN N w a b o ll :=
 ⟨h.addr,fun hp=>hN _ (h.ge hp),fun i hi=>by
  obtain ⟨a',b',o',c',q1,q2,q3,q4⟩:=h.row i hi
  exact ⟨a',b',o',c',q1,q2,fun hp=>hN _ (q3 hp),q4⟩⟩
theorem WyP.ltq {P:Nat→Prop} {w:World} {fv ov:Value} {l:List Int} {rows:List (List Int)} (h:WyP P w fv ov l rows):WyP (fun b=>P b∧b < w.heap.size) w fv ov l rows:=by
 obtain ⟨⟨fa,fb,fc,e1,e2,e3⟩,⟨ra,rb,rc,d1,d2,d3⟩⟩:=h
 refine ⟨⟨fa,fb,fc,e1,e2,fun h=>⟨e3 h,World.block_lt_of_cell? _ _ (e2.row 0 h)⟩⟩,⟨ra,rb,rc,d1,fun h=>⟨(d2 h).1,(d2 h).2,by obtain ⟨_,_,_,q,_⟩:=d3 0 h;exact World.block_lt_of_cell? _ _ q⟩,fun i hi=>?_⟩⟩
 obtain ⟨a',b',c',g1,g2,g3⟩:=d3 i hi
 exact ⟨a',b',c',g1,g2,fun h=>⟨g3 h,World.block_lt_of_cell? _ _ (g2.row 0 h)⟩⟩
theorem BxX.setq {w:World} {b:Nat} {x y:Value} (h:BxX w b x y) (u:Value):BxX (w.setCell ⟨b,1,none⟩ u) b x u :=
 ⟨(World.cell?_setCell_other _ _ _ _ (fun e=>by have:=congrArg Addr.off e;simp at this)).trans h.c0,World.cell?_setCell_same _ _ _ h.c1,fun i=>by rw [World.frozen?_setCell];exact h.fz i⟩
structure HgR (w wr:World) (rb P X B p:Nat) (a:Option Addr) (g c:Nat) (mm:List (List M.D)) (fv ov:Value) (l:List Int) (rows:List (List Int)):Prop where
 R:Slot1 wr w.heap.size (.slice none 0 0)
 Qx:BxX wr (w.heap.size+1) (.slice none 0 0) (.slice none 0 0)
 Pb:Slot1 wr P (.slice a mm.length c)
 Xb:BxX wr X fv ov
 sn:PgP (fun b=>w.heap.size+2≤b∧b≠P∧b≠X) wr a g 0 mm
 wy:WyP (fun b=>w.heap.size+2≤b∧b≠P∧b≠X) wr fv ov l rows
 sm:Small mm c
 h1:l.length≤43
 h2:Hid (rows.length=3)
 h3:∀ r∈rows,r.length≤7
 rd:Rdr wr B rb p
 bw:But rb w wr
theorem HgR.but {w wr w':World} {rb P X B p p':Nat} {a:Option Addr} {g c:Nat} {mm:List (List M.D)} {fv ov:Value} {l:List Int} {rows:List (List Int)} (h:HgR w wr rb P X B p a g c mm fv ov l rows) (hb:But rb wr w') (hr:Rdr w' B rb p') (n1:rb < w.heap.size) (n2:w.heap.size+2≤P) (n3:w.heap.size+2≤X):HgR w w' rb P X B p' a g c mm fv ov l rows :=
 have kk:∀ p u,(w.heap.size+2≤p.block∧p.block≠P∧p.block≠X)→wr.cell? p=some u→w'.cell? p=some u:=fun p u hp hc=>(hb.cell (p:=p) (World.block_lt_of_cell? _ _ hc) (by have:=hp.1;omega)).trans hc
 ⟨h.R.but hb (by omega),h.Qx.but hb (by omega),h.Pb.but hb (by omega),h.Xb.but hb (by omega),h.sn.keep (fun _ h=>h) kk,h.wy.keep (fun _ h=>h) kk,h.sm,h.h1,h.h2,h.h3,hr,h.bw.trans hb⟩
theorem HgR.bel {w wr w':World} {rb P X B p:Nat} {a:Option Addr} {g c:Nat} {mm:List (List M.D)} {fv ov:Value} {l:List Int} {rows:List (List Int)} (h:HgR w wr rb P X B p a g c mm fv ov l rows) (hb:Below wr.heap.size wr w') (n1:rb < w.heap.size) (n2:w.heap.size+2≤P) (n3:w.heap.size+2≤X):HgR w w' rb P X B p a g c mm fv ov l rows :=
 h.but (But.of (rb:=rb) hb) (h.rd.below hb (Nat.le_refl _)) n1 n2 n3
theorem HgR.again {w wr w':World} {rb P X B p p':Nat} {a:Option Addr} {g c:Nat} {mm:List (List M.D)} {fv ov:Value} {l:List Int} {rows:List (List Int)} (h:HgR w wr rb P X B p a g c mm fv ov l rows) (hb:But rb wr w') (hr:Rdr w' B rb p') (n1:rb < w.heap.size) (n2:w.heap.size+2≤P) (n3:w.heap.size+2≤X) (n4:P≠X) (n5:B≤rb)
  {a':Option Addr} {g' c':Nat} {mm':List (List M.D)} {fv' ov':Value} {l':List Int} {rows':List (List Int)} (hsn:DoSN (wr.heap.size+2) w' a' g' 0 mm') (hsm:Small mm' c') (hwy:WyP (fun b=>wr.heap.size+2≤b) w' fv' ov' l' rows') (h1:l'.length≤43) (h2:rows'.length=3) (h3:∀ r∈rows',r.length≤7) :
  HgR w (((w'.setCell ⟨P,0,none⟩ (.slice a' mm'.length c')).setCell ⟨X,0,none⟩ fv').setCell ⟨X,1,none⟩ ov') rb P X B p' a' g' c' mm' fv' ov' l' rows':=by
 have lP:=h.Pb.lt
 have lX:=h.Xb.lt
 have hw:=h.bw.size
 have kk:∀ p u,(wr.heap.size+2≤p.block)→w'.cell? p=some u→(((w'.setCell ⟨P,0,none⟩ (.slice a' mm'.length c')).setCell ⟨X,0,none⟩ fv').setCell ⟨X,1,none⟩ ov').cell? p=some u:=fun p u hp hc=>by
  rw [World.cell?_setCell_other _ _ _ _ (fun e=>by have:=congrArg Addr.block e;simp at this;omega),World.cell?_setCell_other _ _ _ _ (fun e=>by have:=congrArg Addr.block e;simp at this;omega),World.cell?_setCell_other _ _ _ _ (fun e=>by have:=congrArg Addr.block e;simp at this;omega)]
  exact hc
 have R:=h.R.but hb (by omega)
 have Qx:=h.Qx.but hb (by omega)
 have Pb:=h.Pb.but hb (by omega)
 have Xb:=h.Xb.but hb (by omega)
 refine ⟨((R.far (i:=0) (b':=P) (by omega) _).far (i:=0) (b':=X) (by omega) fv').far (i:=1) (b':=X) (by omega) ov',((Qx.far (i:=0) (b':=P) (by omega) _).far (i:=0) (b':=X) (by omega) fv').far (i:=1) (b':=X) (by omega) ov',((Pb.set _).far (i:=0) (b':=X) (by omega) fv').far (i:=1) (b':=X) (by omega) ov',(((Xb.far (i:=0) (b':=P) (by omega) _).set0 fv').setq ov'),?_,?_,hsm,h1,h2,h3,?_,?_⟩
 ·exact ((hsn.pgp).keep (Pd':=fun b=>wr.heap.size+2≤b) (fun _ h=>h.1) (fun _ _ _ h=>h)).keep (fun b hb=>⟨by omega,by omega,by omega⟩) kk
 ·exact hwy.keep (fun b hb=>⟨by omega,by omega,by omega⟩) kk
 ·exact ((hr.setCell (by omega) (by omega) _).setCell (by omega) (by omega) _).setCell (by omega) (by omega) _
 ·exact (((h.bw.trans hb).setCell (p:=⟨P,0,none⟩) (Or.inl (by show w.heap.size≤P;omega)) _).setCell (p:=⟨X,0,none⟩) (Or.inl (by show w.heap.size≤X;omega)) _).setCell (p:=⟨X,1,none⟩) (Or.inl (by show w.heap.size≤X;omega)) _
theorem HgR.fin {w wr:World} {rb P X B p:Nat} {a:Option Addr} {g c:Nat} {mm:List (List M.D)} {fv ov:Value} {l:List Int} {rows:List (List Int)} (h:HgR w wr rb P X B p a g c mm fv ov l rows) (n1:rb < w.heap.size) (n5:B≤rb) {kind:Int} (k0:-1≤kind) (k1:kind≤4) :
  ((((wr.setCell ⟨w.heap.size,0,none⟩ (.slice a mm.length c)).setCell ⟨w.heap.size+1,0,none⟩ fv).setCell ⟨w.heap.size+1,1,none⟩ ov).cell? ⟨w.heap.size,0,none⟩=some (.slice a mm.length c)∧(((wr.setCell ⟨w.heap.size,0,none⟩ (.slice a mm.length c)).setCell ⟨w.heap.size+1,0,none⟩ fv).setCell ⟨w.heap.size+1,1,none⟩ ov).cell? ⟨w.heap.size+1,0,none⟩=some fv∧(((wr.setCell ⟨w.heap.size,0,none⟩ (.slice a mm.length c)).setCell ⟨w.heap.size+1,0,none⟩ fv).setCell ⟨w.heap.size+1,1,none⟩ ov).cell? ⟨w.heap.size+1,1,none⟩=some ov) ∧
  HoDrawn (w.heap.size+2) (((wr.setCell ⟨w.heap.size,0,none⟩ (.slice a mm.length c)).setCell ⟨w.heap.size+1,0,none⟩ fv).setCell ⟨w.heap.size+1,1,none⟩ ov) (.tuple #[.agg #[.slice a mm.length c],.agg #[fv,ov],.int .i64 kind])∧Rdr (((wr.setCell ⟨w.heap.size,0,none⟩ (.slice a mm.length c)).setCell ⟨w.heap.size+1,0,none⟩ fv).setCell ⟨w.heap.size+1,1,none⟩ ov) B rb p∧But rb w (((wr.setCell ⟨w.heap.size,0,none⟩ (.slice a mm.length c)).setCell ⟨w.heap.size+1,0,none⟩ fv).setCell ⟨w.heap.size+1,1,none⟩ ov):=by
 have kk:∀ p u,(w.heap.size+2≤p.block)→wr.cell? p=some u→(((wr.setCell ⟨w.heap.size,0,none⟩ (.slice a mm.length c)).setCell ⟨w.heap.size+1,0,none⟩ fv).setCell ⟨w.heap.size+1,1,none⟩ ov).cell? p=some u:=fun p u hp hc=>by
  rw [World.cell?_setCell_other _ _ _ _ (fun e=>by have:=congrArg Addr.block e;simp at this;omega),World.cell?_setCell_other _ _ _ _ (fun e=>by have:=congrArg Addr.block e;simp at this;omega),World.cell?_setCell_other _ _ _ _ (fun e=>by have:=congrArg Addr.block e;simp at this;omega)]
  exact hc
 have q6:=(h.Qx.far (i:=0) (b':=w.heap.size) (by omega) (.slice a mm.length c)).set0 fv
 have F1:=(((h.R.set (.slice a mm.length c)).far (i:=0) (b':=w.heap.size+1) (by omega) fv).far (i:=1) (b':=w.heap.size+1) (by omega) ov).c
 have F2:=(World.cell?_setCell_other _ ⟨w.heap.size+1,1,none⟩ ⟨w.heap.size+1,0,none⟩ ov (fun e=>by have:=congrArg Addr.off e;simp at this)).trans q6.c0
 have F3:=World.cell?_setCell_same _ ⟨w.heap.size+1,1,none⟩ ov q6.c1
 refine ⟨⟨F1,F2,F3⟩,⟨a,g,c,mm,_,_,l,rows,kind,rfl,(h.sn.keep (Pd':=fun b=>w.heap.size+2≤b) (fun _ h=>h.1) (fun p u hp hc=>kk p u hp.1 hc)).sn (fun _ h=>h),h.sm,h.wy.keep (fun _ h=>h.1) (fun p u hp hc=>kk p u hp.1 hc),h.h1,h.h2.out,h.h3,⟨k0,k1⟩⟩,?_,?_⟩
 ·exact ((h.rd.setCell (by omega) (by omega) _).setCell (by omega) (by omega) _).setCell (by omega) (by omega) _
 ·exact ((h.bw.setCell (p:=⟨w.heap.size,0,none⟩) (Or.inl (Nat.le_refl _)) _).setCell (p:=⟨w.heap.size+1,0,none⟩) (Or.inl (Nat.le_succ _)) _).setCell (p:=⟨w.heap.size+1,1,none⟩) (Or.inl (Nat.le_succ _)) _
theorem HgR.ss {w wr:World} {rb P X B p:Nat} {a:Option Addr} {g c:Nat} {mm:List (List M.D)} {fv ov:Value} {l:List Int} {rows:List (List Int)} (h:HgR w wr rb P X B p a g c mm fv ov l rows):DoSS wr a g 0 mm:=(h.sn.sn (N:=w.heap.size+2) (fun _ h=>h.1)).ss
set_option maxHeartbeats 4000000 in
set_option maxRecDepth 100000 in
theorem l71Hold_any (B rb p:Nat) (w:World) (hp:p≤1000) (h:Rdr w B rb p) :
  Calls Tryz.prog 31 #[.pointer (some ⟨rb,0,none⟩)] w fun e w'=>∃ v,e=.returned v∧HoDrawn (w.heap.size+2) w' v∧∃ p':Nat,Rdr w' B rb p'∧But rb w w':=by
 have hlt:=h.lt
 have hge:=h.ge
 have hb0:=below2 w (.cells #[.slice none 0 0] 25) (.cells #[.slice none 0 0,.slice none 0 0] 29)
 have hR0:Slot1 ((w.alloc (.cells #[.slice none 0 0] 25)).alloc (.cells #[.slice none 0 0,.slice none 0 0] 29)) w.heap.size (.slice none 0 0):=(Slot1.new w _ _).ofB (alloc_old _ _ _ (by simp))
 have hQ0:BxX ((w.alloc (.cells #[.slice none 0 0] 25)).alloc (.cells #[.slice none 0 0,.slice none 0 0] 29)) (w.heap.size+1) (.slice none 0 0) (.slice none 0 0):=by
  have:=BxX.new (w.alloc (.cells #[.slice none 0 0] 25)) (.slice none 0 0) (.slice none 0 0) 29
  rwa [World.size_alloc] at this
 have hsz0:((w.alloc (.cells #[.slice none 0 0] 25)).alloc (.cells #[.slice none 0 0,.slice none 0 0] 29)).heap.size=w.heap.size+1+1:=by simp
 have hr0:=h.below hb0 (Nat.le_refl _)
 go_enter Tryz.func31,Tryz.ntmps31
 go_wp2_with fail
 generalize (w.alloc (.cells #[.slice none 0 0] 25)).alloc (.cells #[.slice none 0 0,.slice none 0 0] 29)=W0 at *
 refine (l71Exec_any B rb p W0 (by omega) hr0).mono ?_
 rintro e w2 ⟨v,rfl,⟨a,g,c,mm,fv,ov,l,rows,rfl,hsn,hsm,hwy,h1,h2,h3⟩,p2,hp2,hr2,hb2⟩
 have hR2:=hR0.but hb2 (by omega)
 have hQ2:=hQ0.but hb2 (by omega)
 have hbw2:But rb w w2:=(But.of hb0).trans hb2
 have hsz2:=hb2.size
 have hwl:=hwy.ltq
 obtain ⟨⟨fa,fb,fc,rfl,-,-⟩,⟨ra,rbb,rc,rfl,-,-⟩⟩:=hwy
 have hal:=below2 w2 (.cells #[.slice a mm.length c] 25) (.cells #[.slice fa l.length fc,.slice ra rows.length rc] 29)
 have hP3:Slot1 ((w2.alloc (.cells #[.slice a mm.length c] 25)).alloc (.cells #[.slice fa l.length fc,.slice ra rows.length rc] 29)) w2.heap.size (.slice a mm.length c):=(Slot1.new w2 _ _).ofB (alloc_old _ _ _ (by simp))
 have hX3:BxX ((w2.alloc (.cells #[.slice a mm.length c] 25)).alloc (.cells #[.slice fa l.length fc,.slice ra rows.length rc] 29)) (w2.heap.size+1) (.slice fa l.length fc) (.slice ra rows.length rc):=by
  have:=BxX.new (w2.alloc (.cells #[.slice a mm.length c] 25)) (.slice fa l.length fc) (.slice ra rows.length rc) 29
  rwa [World.size_alloc] at this
 have kal:∀ p u,(W0.heap.size+2≤p.block∧p.block < w2.heap.size)→w2.cell? p=some u→((w2.alloc (.cells #[.slice a mm.length c] 25)).alloc (.cells #[.slice fa l.length fc,.slice ra rows.length rc] 29)).cell? p=some u:=fun p u hp hc=>(hal.cell (p:=p) hp.2).trans hc
 have R3:HgR w ((w2.alloc (.cells #[.slice a mm.length c] 25)).alloc (.cells #[.slice fa l.length fc,.slice ra rows.length rc] 29)) rb w2.heap.size (w2.heap.size+1) B p2 a g c mm (.slice fa l.length fc) (.slice ra rows.length rc) l rows :=
  ⟨hR2.but (But.of (rb:=rb) hal) (by omega),hQ2.but (But.of (rb:=rb) hal) (by omega),hP3,hX3,hsn.pgp.keep (fun b hb=>⟨by omega,by omega,by omega⟩) kal,hwl.keep (fun b hb=>⟨by omega,by omega,by omega⟩) kal,hsm,h1,h2,h3,hr2.below hal (Nat.le_refl _),hbw2.trans (But.of hal)⟩
 clear hR0 hQ0 hR2 hQ2 hr0 hr2 hb2 hbw2 hal kal hP3 hX3 hsn hwl hsm h1 h2 h3
 go_wp2_with fail
 generalize (w2.alloc (.cells #[.slice a mm.length c] 25)).alloc (.cells #[.slice fa l.length fc,.slice ra rows.length rc] 29)=w3 at *
 obtain ⟨X,hXe⟩:∃ X,w2.heap.size+1=X:=⟨_,rfl⟩
 rw [hXe] at R3 ⊢
 obtain ⟨P,hPe⟩:∃ P,w2.heap.size=P:=⟨_,rfl⟩
 rw [hPe] at R3 ⊢
 have z2:w.heap.size+2≤P:=by omega
 have z3:w.heap.size+2≤X:=by omega
 have z4:P≠X:=by omega
 have z5:X≠P:=by omega
 have zRP:w.heap.size≠P:=by omega
 have zRX:w.heap.size≠X:=by omega
 have zQP:w.heap.size+1≠P:=by omega
 have zQX:w.heap.size+1≠X:=by omega
 have zRQ:w.heap.size≠w.heap.size+1:=by omega
 have zQR:w.heap.size+1≠w.heap.size:=by omega
 refine (l71Kind_any B rb p2 w3 (by omega) R3.rd).mono ?_
 rintro e w4 ⟨kind,rfl,k0,k1,hr4,hb4⟩
 have R4:=R3.but hb4 hr4 hlt z2 z3
 have hp2':p2+2≤12000:=by omega
 clear R3 hr4 hb4
 go_wp2_with fail
 go_loopw [8] (fun s8 wr=>∃ (m q:Nat) (a:Option Addr) (g c:Nat) (mm:List (List M.D)) (fv ov:Value) (l:List Int) (rows:List (List Int)),s8=.int .i64 m∧m≤8∧q≤12000+10300 * m∧HgR w wr rb P X B q a g c mm fv ov l rows) (fun s8 _=>8 - (intOf s8).toNat)
 case atStart=>exact ⟨0,p2+2,a,g,c,mm,_,_,l,rows,rfl,Nat.zero_le _,by omega,R4⟩
 case round =>
  clear R4
  obtain ⟨m,q,a,g,c,mm,fv,ov,l,rows,rfl,hm,hq,R⟩:=hrel
  have P0:=R.Pb.c
  have X0:=R.Xb.c0
  have X1:=R.Xb.c1
  by_cases hm8:m < 8
  ·have i8:(m:Int) < 8:=by omega
   go_wp2_with fail
   refine (pick_rdr B rb q 8 _ (by omega) (by omega) (by omega) R.rd).mono ?_
   rintro e w6 ⟨r8,rfl,r80,r81,hr6,hb6⟩
   have R6:=R.but hb6 hr6 hlt z2 z3
   clear R P0 X0 X1 hb6 hr6
   have P0:=R6.Pb.c
   have X0:=R6.Xb.c0
   have X1:=R6.Xb.c1
   by_cases hz:r8=0
   ·subst hz
    obtain ⟨fa,fb,fc,ra,rbb,rc,rfl,rfl,-,-⟩:=R6.wy.ss
    have Z0:=R6.R.c;have Z0f:=R6.R.fz;have Z1:=R6.Qx.c0;have Z2:=R6.Qx.c1;have Z2f:=R6.Qx.fz
    go_wp2_with fail
    go_region
    go_wp2_with fail
    obtain ⟨⟨F1,F2,F3⟩,E1,E2,E3⟩:=R6.fin hlt hge k0 k1
    refine bodyPost_ret (v:=.tuple #[.agg #[.slice a mm.length c],.agg #[.slice fa l.length fc,.slice ra rows.length rc],.int .i64 kind]) (by simp [results,Tryz.results31,go_sem,F1,F2,F3]) rfl ⟨_,rfl,by first | exact E1 | exact E1.drew,_,by first | exact E2 | exact E2.drew,by first | exact E3 | exact E3.drew⟩
   ·have r8p:r8 > 0:=by omega
    have r8p':(0:Int) < r8:=by omega
    obtain ⟨fa,fb,fc,ra,rbb,rc,rfl,rfl,hfI,hrI⟩:=R6.wy.ss
    have hl3:mm.length≤1048576:=by have:=R6.sm.three;omega
    have hls3:∀ t∈mm,t.length≤1048576:=fun t ht=>by have:=R6.sm.steps t ht;omega
    have CO:=sorderHolds_any a g 0 c mm fa fb 0 fc l ra rbb 0 rc rows kind w6 hl3 hls3 (by have:=R6.h1;omega) (fun r hr=>by have:=R6.h3 r hr;omega) R6.ss hfI hrI
    generalize M.orderHolds mm l rows kind=ok at CO
    clear hl3 hls3
    go_wp2_with fail
    refine CO.mono ?_
    rintro e w7 ⟨rfl,hb7⟩
    have R7:=R6.bel hb7 hlt z2 z3
    clear R6 P0 X0 X1 hb7 hfI hrI CO
    have P0:=R7.Pb.c
    have X0:=R7.Xb.c0
    have X1:=R7.Xb.c1
    cases ok
    ·go_wp2_with fail
     refine (l71Exec_any B rb (q+1) _ (by omega) R7.rd).mono ?_
     rintro e w8 ⟨v,rfl,⟨a',g',c',mm',fv',ov',l',rows',rfl,hsn,hsm,hwy,h1,h2,h3⟩,p8,hp8,hr8,hb8⟩
     have R9:=R7.again hb8 hr8 hlt z2 z3 z4 hge hsn hsm hwy h1 h2 h3
     have R8:=R7.but hb8 hr8 hlt z2 z3
     obtain ⟨fa',fb',fc',ra',rbb',rc',rfl,rfl,-,-⟩:=hwy.ss
     clear R7 P0 X0 X1 hb8 hr8 hsn hsm hwy h1 h2 h3
     have P0:=R8.Pb.c
     have Pf:=R8.Pb.fz
     have X0:=R8.Xb.c0
     have X1:=R8.Xb.c1
     have Xf:=R8.Xb.fz
     go_wp2_with fail
     exact ⟨⟨m+1,p8,a',g',c',mm',_,_,l',rows',by go_num,by omega,by omega,R9⟩,by simp [intOf];omega⟩
    ·have Z0:=R7.R.c;have Z0f:=R7.R.fz;have Z1:=R7.Qx.c0;have Z2:=R7.Qx.c1;have Z2f:=R7.Qx.fz
     go_wp2_with fail
     go_region
     go_wp2_with fail
     obtain ⟨⟨F1,F2,F3⟩,E1,E2,E3⟩:=R7.fin hlt hge k0 k1
     refine bodyPost_ret (v:=.tuple #[.agg #[.slice a mm.length c],.agg #[.slice fa l.length fc,.slice ra rows.length rc],.int .i64 kind]) (by simp [results,Tryz.results31,go_sem,F1,F2,F3]) rfl ⟨_,rfl,by first | exact E1 | exact E1.drew,_,by first | exact E2 | exact E2.drew,by first | exact E3 | exact E3.drew⟩
  ·obtain rfl:m=8:=by omega
   obtain ⟨fa,fb,fc,ra,rbb,rc,rfl,rfl,-,-⟩:=R.wy.ss
   have Z0:=R.R.c;have Z0f:=R.R.fz;have Z1:=R.Qx.c0;have Z2:=R.Qx.c1;have Z2f:=R.Qx.fz
   go_wp2_with fail
   go_region
   go_wp2_with fail
   obtain ⟨⟨F1,F2,F3⟩,E1,E2,E3⟩:=R.fin hlt hge k0 k1
   refine bodyPost_ret (v:=.tuple #[.agg #[.slice a mm.length c],.agg #[.slice fa l.length fc,.slice ra rows.length rc],.int .i64 kind]) (by simp [results,Tryz.results31,go_sem,F1,F2,F3]) rfl ⟨_,rfl,by first | exact E1 | exact E1.drew,_,by first | exact E2 | exact E2.drew,by first | exact E3 | exact E3.drew⟩
set_option maxHeartbeats 4000000 in
set_option maxRecDepth 100000 in
theorem DrawOrderLine_any (ca:Option Addr) (cb co L C:Nat) (x:Nat→Int) (w:World) (hL:L≤C) (had:0 < L→ca=some ⟨cb,co,none⟩) (hc:∀ i,i < L→w.cell? ⟨cb,co+i,none⟩=some (.int .u8 (x i))∧0≤x i∧x i≤255) (hLb:L≤1048576) :
  Calls Tryz.prog 9 #[.slice ca L C] w fun e w'=>∃ v,e=.returned v∧HoDrawn (w.heap.size+2) w' v∧Below w.heap.size w w':=by
 have hb0:=below2 w (.cells #[.slice none 0 0] 25) (.cells #[.slice none 0 0,.slice none 0 0] 29)
 have hR0:Slot1 ((w.alloc (.cells #[.slice none 0 0] 25)).alloc (.cells #[.slice none 0 0,.slice none 0 0] 29)) w.heap.size (.slice none 0 0):=(Slot1.new w _ _).ofB (alloc_old _ _ _ (by simp))
 have hQ0:BxX ((w.alloc (.cells #[.slice none 0 0] 25)).alloc (.cells #[.slice none 0 0,.slice none 0 0] 29)) (w.heap.size+1) (.slice none 0 0) (.slice none 0 0):=by
  have:=BxX.new (w.alloc (.cells #[.slice none 0 0] 25)) (.slice none 0 0) (.slice none 0 0) 29
  rwa [World.size_alloc] at this
 have hsz0:((w.alloc (.cells #[.slice none 0 0] 25)).alloc (.cells #[.slice none 0 0,.slice none 0 0] 29)).heap.size=w.heap.size+1+1:=by simp
 go_enter Tryz.func9,Tryz.ntmps9
 go_wp2_with fail
 generalize (w.alloc (.cells #[.slice none 0 0] 25)).alloc (.cells #[.slice none 0 0,.slice none 0 0] 29)=W0 at *
 refine (l6Open_any ca cb co L C x _ hL had (fun i hi=>⟨by rw [hb0.cell (p:=⟨cb,co+i,none⟩) (World.block_lt_of_cell? _ _ (hc i hi).1)];exact (hc i hi).1,(hc i hi).2⟩) hLb).mono ?_
 rintro e w1 ⟨rfl,hr1,hb1⟩
 rw [hsz0] at hr1 ⊢
 obtain ⟨rb,hrb⟩:∃ rb,w.heap.size+1+1=rb:=⟨_,rfl⟩
 rw [hrb] at hr1 ⊢
 have hb1w:Below w.heap.size w w1:=hb0.trans (hb1.mono (by omega))
 have hR1:=hR0.but (But.of (rb:=rb) hb1) (by omega)
 have hQ1:=hQ0.but (But.of (rb:=rb) hb1) (by omega)
 have hlt1:=hr1.lt
 clear hc had hb0 hb1 hR0 hQ0
 go_wp2_with fail
 refine (l71Hold_any _ rb 0 _ (by omega) hr1).mono ?_
 rintro e w2 ⟨v,rfl,⟨a,g,c,mm,fv,ov,l,rows,kind,rfl,hsn,hsm,hwy,h1,h2,h3,hk⟩,p2,hr2,hb2⟩
 have hR2:=hR1.but hb2 (by omega)
 have hQ2:=hQ1.but hb2 (by omega)
 have hbw2:Below w.heap.size w w2:=But.below hb1w hb2 (by omega)
 have kk:∀ p u,(w1.heap.size+2≤p.block)→w2.cell? p=some u→(((w2.setCell ⟨w.heap.size,0,none⟩ (.slice a mm.length c)).setCell ⟨w.heap.size+1,0,none⟩ fv).setCell ⟨w.heap.size+1,1,none⟩ ov).cell? p=some u:=fun p u hp hc=>by
  rw [World.cell?_setCell_other _ _ _ _ (fun e=>by have:=congrArg Addr.block e;simp at this;omega),World.cell?_setCell_other _ _ _ _ (fun e=>by have:=congrArg Addr.block e;simp at this;omega),World.cell?_setCell_other _ _ _ _ (fun e=>by have:=congrArg Addr.block e;simp at this;omega)]
  exact hc
 have q6:=(hQ2.far (i:=0) (b':=w.heap.size) (by omega) (.slice a mm.length c)).set0 fv
 have F1:=(((hR2.set (.slice a mm.length c)).far (i:=0) (b':=w.heap.size+1) (by omega) fv).far (i:=1) (b':=w.heap.size+1) (by omega) ov).c
 have F2:=(World.cell?_setCell_other _ ⟨w.heap.size+1,1,none⟩ ⟨w.heap.size+1,0,none⟩ ov (fun e=>by have:=congrArg Addr.off e;simp at this)).trans q6.c0
 have F3:=World.cell?_setCell_same _ ⟨w.heap.size+1,1,none⟩ ov q6.c1
 have E1:HoDrawn (w.heap.size+2) (((w2.setCell ⟨w.heap.size,0,none⟩ (.slice a mm.length c)).setCell ⟨w.heap.size+1,0,none⟩ fv).setCell ⟨w.heap.size+1,1,none⟩ ov) (.tuple #[.agg #[.slice a mm.length c],.agg #[fv,ov],.int .i64 kind]) :=
  ⟨a,g,c,mm,_,_,l,rows,kind,rfl,((hsn.pgp.keep (Pd':=fun b=>w1.heap.size+2≤b) (fun _ h=>h.1) (fun _ _ _ h=>h)).keep (Pd':=fun b=>w.heap.size+2≤b) (fun b hb=>by omega) kk).sn (fun _ h=>h),hsm,hwy.keep (fun b hb=>by omega) kk,h1,h2,h3,hk⟩
 have E2:=((hbw2.setCell (p:=⟨w.heap.size,0,none⟩) (Nat.le_refl _) (.slice a mm.length c)).setCell (p:=⟨w.heap.size+1,0,none⟩) (Nat.le_succ _) fv).setCell (p:=⟨w.heap.size+1,1,none⟩) (Nat.le_succ _) ov
 obtain ⟨fa,fb,fc,ra,rbb,rc,rfl,rfl,-,-⟩:=hwy.ss
 have Z0:=hR2.c;have Z0f:=hR2.fz;have Z1:=hQ2.c0;have Z2:=hQ2.c1;have Z2f:=hQ2.fz
 clear hR1 hQ1 hR2 hQ2 hr1 hr2 hsn hwy q6 kk h2
 go_wp2_with fail
 refine bodyPost_ret (v:=.tuple #[.agg #[.slice a mm.length c],.agg #[.slice fa l.length fc,.slice ra rows.length rc],.int .i64 kind]) (by simp [results,Tryz.results9,go_sem,F1,F2,F3]) rfl ⟨_,rfl,E1,E2⟩
end
end Go.Proofs.YtmhpgdliaclokaaGreat
