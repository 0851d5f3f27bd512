/- spec.l71Do: a drawn step. -/
import Derived.Test.YtmhpgdliaclokaaGreatRows
import Derived.Test.YtmhpgdliaclokaaGreatQyae
namespace Go.Proofs.YtmhpgdliaclokaaGreat
section
open Go.RowKit
theorem tenth (q:Nat) (hq:q < 10):∃ k:Int,(k=1∨k=2∨k=3∨k=4∨k=5∨k=6) ∧
  (#[Value.int IntKind.i64 1,Value.int IntKind.i64 1,Value.int IntKind.i64 1,Value.int IntKind.i64 2,Value.int IntKind.i64 2,Value.int IntKind.i64 2,Value.int IntKind.i64 3,Value.int IntKind.i64 4,Value.int IntKind.i64 5,Value.int IntKind.i64 6]:Array Value)[q]?=some (.int .i64 k):=by
 rcases (show q=0∨q=1∨q=2∨q=3∨q=4∨q=5∨q=6∨q=7∨q=8∨q=9 by omega) with rfl | rfl | rfl | rfl | rfl | rfl | rfl | rfl | rfl | rfl
 ·exact ⟨1,by decide,rfl⟩
 ·exact ⟨1,by decide,rfl⟩
 ·exact ⟨1,by decide,rfl⟩
 ·exact ⟨2,by decide,rfl⟩
 ·exact ⟨2,by decide,rfl⟩
 ·exact ⟨2,by decide,rfl⟩
 ·exact ⟨3,by decide,rfl⟩
 ·exact ⟨4,by decide,rfl⟩
 ·exact ⟨5,by decide,rfl⟩
 ·exact ⟨6,by decide,rfl⟩
structure Slot3 (w:World) (b:Nat) (x0 x1 x2:Value):Prop where
 c0:w.cell? ⟨b,0,none⟩=some x0
 c1:w.cell? ⟨b,1,none⟩=some x1
 c2:w.cell? ⟨b,2,none⟩=some x2
 fz:∀ i,w.frozen? ⟨b,i,none⟩=false
theorem Slot3.lt {w:World} {b:Nat} {x0 x1 x2:Value} (h:Slot3 w b x0 x1 x2):b < w.heap.size:=World.block_lt_of_cell? _ _ h.c0
theorem Slot3.but {w w':World} {b rb:Nat} {x0 x1 x2:Value} (h:Slot3 w b x0 x1 x2) (hb:But rb w w') (hne:b≠rb):Slot3 w' b x0 x1 x2 :=
 ⟨(hb.cell (p:=⟨b,0,none⟩) h.lt hne).trans h.c0,(hb.cell (p:=⟨b,1,none⟩) h.lt hne).trans h.c1,(hb.cell (p:=⟨b,2,none⟩) h.lt hne).trans h.c2,fun i=>(hb.frozen (p:=⟨b,i,none⟩) h.lt hne).trans (h.fz i)⟩
theorem Slot3.new (w:World) (x0 x1 x2:Value) (t:TypeId):Slot3 (w.alloc (.cells #[x0,x1,x2] t)) w.heap.size x0 x1 x2 :=
 ⟨by simp,by simp,by simp,fun i=>by simp⟩
theorem Slot3.set1 {w:World} {b:Nat} {x0 x1 x2:Value} (h:Slot3 w b x0 x1 x2) (u:Value):Slot3 (w.setCell ⟨b,1,none⟩ u) b x0 u x2 :=
 ⟨(World.cell?_setCell_other _ _ _ _ (by simp)).trans h.c0,World.cell?_setCell_same _ _ _ h.c1,(World.cell?_setCell_other _ _ _ _ (by simp)).trans h.c2,fun i=>by rw [World.frozen?_setCell];exact h.fz i⟩
theorem Slot3.far {w:World} {b b' i:Nat} {x0 x1 x2:Value} (h:Slot3 w b x0 x1 x2) (hne:b'≠b) (u:Value):Slot3 (w.setCell ⟨b',i,none⟩ u) b x0 x1 x2 :=
 ⟨(World.cell?_setCell_other _ _ _ _ (fun e=>hne (congrArg Addr.block e))).trans h.c0,(World.cell?_setCell_other _ _ _ _ (fun e=>hne (congrArg Addr.block e))).trans h.c1,(World.cell?_setCell_other _ _ _ _ (fun e=>hne (congrArg Addr.block e))).trans h.c2,fun i=>by rw [World.frozen?_setCell];exact h.fz i⟩
set_option maxHeartbeats 1000000 in
theorem l71Do_any (B rb p:Nat) (n:Int) (w:World) (hn:1≤n) (hn2:n≤1000) (hp:p≤500000) (h:Rdr w B rb p) :
  Calls Tryz.prog 193 #[.pointer (some ⟨rb,0,none⟩),.int .i64 n] w fun e w'=>∃ (d:M.D) (p':Nat),e=.returned (.agg #[.int .i64 d.k,.int .i64 d.p,.int .i64 d.v])∧p'≤p+3∧Rdr w' B rb p'∧But rb w w':=by
 have hlt:=h.lt
 have hge:=h.ge
 go_enter Tryz.func193,Tryz.ntmps193
 go_wp2_with fail
 refine (pick_rdr B rb p _ _ (by omega) (by omega) (by omega) ((h.alloc _).alloc _)).mono ?_
 rintro e w1 ⟨r,rfl,r0,r1,hr1,hb1⟩
 obtain ⟨q,rfl⟩:=Int.eq_ofNat_of_zero_le r0
 obtain ⟨k,hk16,hk⟩:∃ k:Int,(k=1∨k=2∨k=3∨k=4∨k=5∨k=6)∧w1.cell? ⟨w.heap.size+1,q,none⟩=some (.int .i64 k):=by
  obtain ⟨k,h1,h2⟩:=tenth q (by omega)
  refine ⟨k,h1,?_⟩
  rw [hb1.cell (p:=⟨w.heap.size+1,q,none⟩) (by simp) (by show w.heap.size+1≠rb;omega),World.cell?_alloc_at _ _ _ _ (by simp)]
  exact h2
 have hlt1:w.heap.size+1 < w1.heap.size:=World.block_lt_of_cell? _ _ hk
 have s1:Slot3 w1 w.heap.size (.int .i64 0) (.int .i64 0) (.int .i64 0):=((Slot3.new w _ _ _ _).but ((But.refl rb _).alloc _) (by omega)).but hb1 (by omega)
 have hb1':But rb w w1:=((((But.refl rb w).alloc _).alloc _).trans hb1)
 clear hb1
 have hrlt:rb < w1.heap.size:=hr1.lt
 have hlt0:w.heap.size < w1.heap.size:=by omega
 rcases hk16 with rfl | rfl | rfl | rfl | rfl | rfl
 ·go_wp2_with (first | (go_at_call 76;refine (l1Reads_any ⟨_,_,_⟩ _).mono ?_;rintro e w2 ⟨rfl,rfl⟩) | (go_at_call 78;refine (l1Writes_any ⟨_,_,_⟩ _).mono ?_;rintro e w2 ⟨rfl,rfl⟩))
  refine (pick_rdr B rb (p+1) _ _ hn hn2 (by omega) (((hr1.alloc _).alloc _).alloc _)).mono ?_
  rintro e w2 ⟨r2,rfl,r20,r21,hr2,hb2⟩
  have d2:=((Slot3.new w1 _ _ _ _).but (((But.refl rb _).alloc _).alloc _) (by omega)).but hb2 (by omega)
  have s2:=(s1.but ((((But.refl rb _).alloc _).alloc _).alloc _) (by omega)).but hb2 (by omega)
  have hb2':=(((hb1'.alloc _).alloc _).alloc _).trans hb2
  have hrlt2:=hr2.lt
  clear hb2 s1 hb1' hr1
  obtain ⟨e0,e1,e2,ef⟩:=d2
  go_wp2_with fail
  have d3:=(Slot3.mk e0 e1 e2 ef).set1 (.int .i64 r2)
  clear e0 e1 e2 ef
  refine (pick_rdr B rb (p+1+1) _ _ (by omega) (by omega) (by omega) (hr2.setCell (by omega) (by omega) _)).mono ?_
  rintro e w3 ⟨r3,rfl,r30,r31,hr3,hb3⟩
  obtain ⟨e0,e1,e2,ef⟩:=d3.but hb3 (by omega)
  obtain ⟨g0,g1,g2,gf⟩:=(s2.far (by omega) _).but hb3 (by omega)
  go_wp2_with fail
  refine bodyPost_ret (v:=.agg #[.int .i64 1,.int .i64 r2,.int .i64 (1+r3)]) (by simp [results,Tryz.results193,go_sem,g0,g1,g2]) rfl ⟨⟨1,r2,1+r3⟩,p+1+1+1,rfl,by omega,?_,?_⟩
  ·repeat (first | exact hr3 | refine Rdr.setCell ?_ (by omega) (by omega) _)
  ·repeat (first | exact (hb2'.setCell (Or.inl (by show w.heap.size≤w1.heap.size;omega)) _).trans hb3 | refine But.setCell ?_ (Or.inl (by simp;try omega)) _)
 ·go_wp2_with (first | (go_at_call 76;refine (l1Reads_any ⟨_,_,_⟩ _).mono ?_;rintro e w2 ⟨rfl,rfl⟩) | (go_at_call 78;refine (l1Writes_any ⟨_,_,_⟩ _).mono ?_;rintro e w2 ⟨rfl,rfl⟩))
  refine (pick_rdr B rb (p+1) _ _ hn hn2 (by omega) ((hr1.alloc _).alloc _)).mono ?_
  rintro e w2 ⟨r2,rfl,r20,r21,hr2,hb2⟩
  have d2:=((Slot3.new w1 _ _ _ _).but ((But.refl rb _).alloc _) (by omega)).but hb2 (by omega)
  have s2:=(s1.but (((But.refl rb _).alloc _).alloc _) (by omega)).but hb2 (by omega)
  have hb2':=((hb1'.alloc _).alloc _).trans hb2
  have hrlt2:=hr2.lt
  clear hb2 s1 hb1' hr1
  obtain ⟨e0,e1,e2,ef⟩:=d2
  obtain ⟨g0,g1,g2,gf⟩:=s2
  go_wp2_with fail
  refine bodyPost_ret (v:=.agg #[.int .i64 2,.int .i64 r2,.int .i64 0]) (by simp [results,Tryz.results193,go_sem,g0,g1,g2]) rfl ⟨⟨2,r2,0⟩,p+1+1,rfl,by omega,?_,?_⟩
  ·repeat (first | exact hr2 | refine Rdr.setCell ?_ (by omega) (by omega) _)
  ·repeat (first | exact hb2' | refine But.setCell ?_ (Or.inl (by simp;try omega)) _)
 ·go_wp2_with (first | (go_at_call 76;refine (l1Reads_any ⟨_,_,_⟩ _).mono ?_;rintro e w2 ⟨rfl,rfl⟩) | (go_at_call 78;refine (l1Writes_any ⟨_,_,_⟩ _).mono ?_;rintro e w2 ⟨rfl,rfl⟩))
  refine (pick_rdr B rb (p+1) _ _ hn hn2 (by omega) (((hr1.alloc _).alloc _).alloc _)).mono ?_
  rintro e w2 ⟨r2,rfl,r20,r21,hr2,hb2⟩
  have d2:=((Slot3.new w1 _ _ _ _).but (((But.refl rb _).alloc _).alloc _) (by omega)).but hb2 (by omega)
  have s2:=(s1.but ((((But.refl rb _).alloc _).alloc _).alloc _) (by omega)).but hb2 (by omega)
  have hb2':=(((hb1'.alloc _).alloc _).alloc _).trans hb2
  have hrlt2:=hr2.lt
  clear hb2 s1 hb1' hr1
  obtain ⟨e0,e1,e2,ef⟩:=d2
  obtain ⟨g0,g1,g2,gf⟩:=s2
  go_wp2_with fail
  refine bodyPost_ret (v:=.agg #[.int .i64 3,.int .i64 r2,.int .i64 0]) (by simp [results,Tryz.results193,go_sem,g0,g1,g2]) rfl ⟨⟨3,r2,0⟩,p+1+1,rfl,by omega,?_,?_⟩
  ·repeat (first | exact hr2 | refine Rdr.setCell ?_ (by omega) (by omega) _)
  ·repeat (first | exact hb2' | refine But.setCell ?_ (Or.inl (by simp;try omega)) _)
 ·go_wp2_with fail
  refine (l1Reads_any ⟨_,_,_⟩ _).mono ?_
  rintro e w2 ⟨rfl,hw2⟩
  have hb2:But rb (w1.alloc (.cells #[.int .i64 4,.int .i64 0,.int .i64 0] 94)) w2:=by rw [hw2];exact (But.refl rb _).alloc _
  have hr2:Rdr w2 B rb (p+1):=by rw [hw2];exact (hr1.alloc _).alloc _
  clear hw2
  have s2:=(s1.but ((But.refl rb _).alloc _) (by omega)).but hb2 (by omega)
  have d2:=(Slot3.new w1 _ _ _ _).but hb2 (by omega)
  have hb2':=(hb1'.alloc _).trans hb2
  clear hb2 s1 hb1' hr1
  obtain ⟨e0,e1,e2,ef⟩:=d2
  go_wp2_with fail
  refine (l1Writes_any ⟨_,_,_⟩ _).mono ?_
  rintro e w3 ⟨rfl,hw3⟩
  have hb3:But rb w2 w3:=by rw [hw3];exact (But.refl rb _).alloc _
  have hr3:Rdr w3 B rb (p+1):=by rw [hw3];exact hr2.alloc _
  clear hw3
  obtain ⟨e0,e1,e2,ef⟩:=(Slot3.mk e0 e1 e2 ef).but hb3 (by omega)
  obtain ⟨g0,g1,g2,gf⟩:=s2.but hb3 (by omega)
  have hb3':=hb2'.trans hb3
  clear hb3 hb2' hr2 s2
  go_wp2_with fail
  refine bodyPost_ret (v:=.agg #[.int .i64 4,.int .i64 0,.int .i64 0]) (by simp [results,Tryz.results193,go_sem,g0,g1,g2]) rfl ⟨⟨4,0,0⟩,p+1,rfl,by omega,?_,?_⟩
  ·repeat (first | exact hr3 | refine Rdr.setCell ?_ (by omega) (by omega) _)
  ·repeat (first | exact hb3' | refine But.setCell ?_ (Or.inl (by simp;try omega)) _)
 ·go_wp2_with (first | (go_at_call 76;refine (l1Reads_any ⟨_,_,_⟩ _).mono ?_;rintro e w2 ⟨rfl,rfl⟩) | (go_at_call 78;refine (l1Writes_any ⟨_,_,_⟩ _).mono ?_;rintro e w2 ⟨rfl,rfl⟩))
  refine (pick_rdr B rb (p+1) _ _ hn hn2 (by omega) ((hr1.alloc _).alloc _)).mono ?_
  rintro e w2 ⟨r2,rfl,r20,r21,hr2,hb2⟩
  have d2:=((Slot3.new w1 _ _ _ _).but ((But.refl rb _).alloc _) (by omega)).but hb2 (by omega)
  have s2:=(s1.but (((But.refl rb _).alloc _).alloc _) (by omega)).but hb2 (by omega)
  have hb2':=((hb1'.alloc _).alloc _).trans hb2
  have hrlt2:=hr2.lt
  clear hb2 s1 hb1' hr1
  obtain ⟨e0,e1,e2,ef⟩:=d2
  obtain ⟨g0,g1,g2,gf⟩:=s2
  go_wp2_with fail
  refine bodyPost_ret (v:=.agg #[.int .i64 5,.int .i64 r2,.int .i64 0]) (by simp [results,Tryz.results193,go_sem,g0,g1,g2]) rfl ⟨⟨5,r2,0⟩,p+1+1,rfl,by omega,?_,?_⟩
  ·repeat (first | exact hr2 | refine Rdr.setCell ?_ (by omega) (by omega) _)
  ·repeat (first | exact hb2' | refine But.setCell ?_ (Or.inl (by simp;try omega)) _)
 ·go_wp2_with (first | (go_at_call 76;refine (l1Reads_any ⟨_,_,_⟩ _).mono ?_;rintro e w2 ⟨rfl,rfl⟩) | (go_at_call 78;refine (l1Writes_any ⟨_,_,_⟩ _).mono ?_;rintro e w2 ⟨rfl,rfl⟩))
  refine (pick_rdr B rb (p+1) _ _ hn hn2 (by omega) (((hr1.alloc _).alloc _).alloc _)).mono ?_
  rintro e w2 ⟨r2,rfl,r20,r21,hr2,hb2⟩
  have d2:=((Slot3.new w1 _ _ _ _).but (((But.refl rb _).alloc _).alloc _) (by omega)).but hb2 (by omega)
  have s2:=(s1.but ((((But.refl rb _).alloc _).alloc _).alloc _) (by omega)).but hb2 (by omega)
  have hb2':=(((hb1'.alloc _).alloc _).alloc _).trans hb2
  have hrlt2:=hr2.lt
  clear hb2 s1 hb1' hr1
  obtain ⟨e0,e1,e2,ef⟩:=d2
  go_wp2_with fail
  have d3:=(Slot3.mk e0 e1 e2 ef).set1 (.int .i64 r2)
  clear e0 e1 e2 ef
  refine (pick_rdr B rb (p+1+1) _ _ (by omega) (by omega) (by omega) (hr2.setCell (by omega) (by omega) _)).mono ?_
  rintro e w3 ⟨r3,rfl,r30,r31,hr3,hb3⟩
  obtain ⟨e0,e1,e2,ef⟩:=d3.but hb3 (by omega)
  obtain ⟨g0,g1,g2,gf⟩:=(s2.far (by omega) _).but hb3 (by omega)
  go_wp2_with fail
  refine bodyPost_ret (v:=.agg #[.int .i64 6,.int .i64 r2,.int .i64 (1+r3)]) (by simp [results,Tryz.results193,go_sem,g0,g1,g2]) rfl ⟨⟨6,r2,1+r3⟩,p+1+1+1,rfl,by omega,?_,?_⟩
  ·repeat (first | exact hr3 | refine Rdr.setCell ?_ (by omega) (by omega) _)
  ·repeat (first | exact (hb2'.setCell (Or.inl (by show w.heap.size≤w1.heap.size;omega)) _).trans hb3 | refine But.setCell ?_ (Or.inl (by simp;try omega)) _)
end
end Go.Proofs.YtmhpgdliaclokaaGreat
