/- The law's own marking of what was seen, from any number on, and whether the marks still stand: laws.markSeen, heldSeen; eqSeen. Of at most 1048576 numbers in each of its two lists. -/
import Derived.Deep.OwnRows
import Derived.Test.YtnddmlgnngdaoaaRows
import Derived.Test.YtnddmlgnngdaoaaQjar
import Derived.Test.YtnddmlgnngdaoaaQjbk
namespace Go.Proofs.Ytnddmlgnngdaoaa
section
open Go.RowKit
theorem IntC.below {w w':World} {a:Option Addr} {b o n:Nat} (hc:IntC w a b o n) (hb:Below w.heap.size w w'):IntC w' a b o n:=by
 refine ⟨hc.addr,fun i hi=>?_,fun hn j=>?_⟩
 ·obtain ⟨x,hx⟩:=hc.row i hi
  exact ⟨x,(hb.cell (p:=⟨b,o+i,none⟩) (World.block_lt_of_cell? _ _ hx)).trans hx⟩
 ·obtain ⟨x,hx⟩:=hc.row 0 hn
  have hlt:b < w.heap.size:=World.block_lt_of_cell? _ _ hx
  exact (hb.frozen (p:=⟨b,j,none⟩) hlt).trans (hc.fz hn j)
structure SnM (w:World) (s:Sn):Prop where
 reads:IntS w s.a1 s.b1 s.o1 (M.seq 1 s.l1.length)
 last:IntS w s.a2 s.b2 s.o2 (M.seq (1+s.l1.length) s.l2.length)
theorem SnM.below {w w':World} {s:Sn} (h:SnM w s) (hb:Below w.heap.size w w'):SnM w' s:=⟨h.reads.below hb (Nat.le_refl _),h.last.below hb (Nat.le_refl _)⟩
structure SnC (w:World) (s:Sn):Prop where
 reads:IntC w s.a1 s.b1 s.o1 s.l1.length
 last:IntC w s.a2 s.b2 s.o2 s.l2.length
theorem SnC.below {w w':World} {s:Sn} (h:SnC w s) (hb:Below w.heap.size w w'):SnC w' s:=⟨h.reads.below hb,h.last.below hb⟩
theorem IntS.mkFar {P:Nat→Prop} {w w':World} {a:Option Addr} {b o:Nat} {l:List Int} (h:IntS w a b o l) (hm:Mk P w w') (hne:0 < l.length→¬ P b):IntS w' a b o l :=
 ⟨h.addr,fun i hi=>by rw [hm.cell (p:=⟨b,o+i,none⟩) (hne (by omega))];exact h.row i hi⟩
set_option maxHeartbeats 400000 in
theorem markSeen_any (s:Sn) (w:World) (hl:s.Le 1048576) (hne:0 < s.l1.length→0 < s.l2.length→s.b1≠s.b2) (h:SnC w s) :
  Calls Try.prog 17 #[.agg #[.slice s.a1 s.l1.length s.c1,.slice s.a2 s.l2.length s.c2],.int .i64 1] w fun e w'=>∃ wa:World,e=.returned (.int .i64 (1+s.l1.length+s.l2.length))∧wa=w.alloc (.cells #[.slice s.a1 s.l1.length s.c1,.slice s.a2 s.l2.length s.c2] 28)∧Mk s.blk wa w'∧SnM w' s:=by
 have hb1:=below1 w (.cells #[.slice s.a1 s.l1.length s.c1,.slice s.a2 s.l2.length s.c2] 28)
 have k1:(w.alloc (.cells #[.slice s.a1 s.l1.length s.c1,.slice s.a2 s.l2.length s.c2] 28)).cell? ⟨w.heap.size,1,none⟩=some (.slice s.a2 s.l2.length s.c2):=by simp
 have h1:=h.below hb1
 have hl1:=hl.reads
 have hl2:=hl.last
 have C:=markIntS_any s.a1 s.b1 s.o1 s.l1.length s.c1 1 _ hl.reads (by omega) (by omega) h1.reads
 go_enter Try.func17,Try.ntmps17
 go_wp2_with fail
 refine C.mono ?_
 rintro e w1 ⟨rfl,n1,mk1⟩
 have k1':=mk1.rest _ _ k1 (fun _ e=>by cases e)
 go_wp2_with fail
 refine (markIntS_any s.a2 s.b2 s.o2 s.l2.length s.c2 (1+s.l1.length) w1 hl.last (by omega) (by omega) (h1.last.mk_ mk1)).mono ?_
 rintro e w2 ⟨rfl,n2,mk2⟩
 go_wp2_with fail
 go_ret
 refine ⟨_,rfl,rfl,(mk1.mono (fun j hj=>Or.inl ⟨hj.2,hj.1⟩)).trans (mk2.mono (fun j hj=>Or.inr ⟨hj.2,hj.1⟩)),⟨n1.mkFar mk2 (fun h0 hp=>?_),n2⟩⟩
 rw [M.seq_len] at h0
 exact hne h0 hp.2 hp.1
set_option maxHeartbeats 400000 in
theorem heldSeen_any (s:Sn) (w:World) (hl:s.Le 1048576) (h:SnM w s) :
  Calls Try.prog 18 #[.agg #[.slice s.a1 s.l1.length s.c1,.slice s.a2 s.l2.length s.c2],.int .i64 1] w fun e w'=>e=.returned (.int .i64 (1+s.l1.length+s.l2.length))∧w'=w.alloc (.cells #[.slice s.a1 s.l1.length s.c1,.slice s.a2 s.l2.length s.c2] 28):=by
 have hb1:=below1 w (.cells #[.slice s.a1 s.l1.length s.c1,.slice s.a2 s.l2.length s.c2] 28)
 have h1:=h.below hb1
 have hl1:=hl.reads
 have hl2:=hl.last
 have C:=heldIntS_any s.a1 s.b1 s.o1 s.l1.length s.c1 1 _ hl.reads (by omega) (by omega) h1.reads
 have C2:=heldIntS_any s.a2 s.b2 s.o2 s.l2.length s.c2 (1+s.l1.length) _ hl.last (by omega) (by omega) h1.last
 have p1:¬ ((1:Int)+s.l1.length < 0):=by omega
 have p1':decide ((1:Int)+s.l1.length < 0)=false:=by simpa using p1
 have p2:¬ ((1:Int)+s.l1.length+s.l2.length < 0):=by omega
 have p2':decide ((1:Int)+s.l1.length+s.l2.length < 0)=false:=by simpa using p2
 go_enter Try.func18,Try.ntmps18
 go_wp2_with fail
 refine C.mono ?_
 rintro e w1 ⟨rfl,rfl⟩
 go_wp2_with fail
 refine C2.mono ?_
 rintro e w2 ⟨rfl,rfl⟩
 go_wp2_with fail
 go_ret
 exact ⟨rfl,rfl⟩
set_option maxHeartbeats 400000 in
theorem eqSeen_bel (s t:Sn) (w:World) (hl:s.Le 1048576) (h1:t.l1=s.l1) (h2:t.l2=s.l2) (hs:s.At w) (ht:t.At w) :
  Calls Try.prog 12 #[.agg #[.slice s.a1 s.l1.length s.c1,.slice s.a2 s.l2.length s.c2],.agg #[.slice t.a1 t.l1.length t.c1,.slice t.a2 t.l2.length t.c2]] w fun e w'=>e=.returned (.bool true)∧Below w.heap.size w w':=by
 obtain ⟨a1,b1,o1,c1,l1,a2,b2,o2,c2,l2⟩:=s
 obtain ⟨d1,e1,f1,g1,m1,d2,e2,f2,g2,m2⟩:=t
 simp only at h1 h2
 subst h1;subst h2
 have hb2:=below2 w (.cells #[.slice a1 m1.length c1,.slice a2 m2.length c2] 28) (.cells #[.slice d1 m1.length g1,.slice d2 m2.length g2] 28)
 obtain ⟨as1,as2⟩:=hs.below hb2 (Nat.le_refl _)
 obtain ⟨at1,at2⟩:=ht.below hb2 (Nat.le_refl _)
 obtain ⟨hl1,hl2⟩:=hl
 simp only at as1 as2 at1 at2 hl1 hl2
 go_enter Try.func12,Try.ntmps12
 go_wp2_with fail
 refine (eqIntS_same a1 b1 o1 c1 d1 e1 f1 g1 m1 _ hl1 as1 at1).mono ?_
 rintro e w1 ⟨rfl,hg1⟩
 obtain ⟨hc1,hf1⟩:=bcell hg1.bel
 go_wp2_with fail
 refine (eqIntS_same a2 b2 o2 c2 d2 e2 f2 g2 m2 _ hl2 (as2.below hg1.bel (Nat.le_refl _)) (at2.below hg1.bel (Nat.le_refl _))).mono ?_
 rintro e w2 ⟨rfl,hg2⟩
 go_wp2_with fail
 go_ret
 have hb3:=hb2.trans (hg1.bel.mono hb2.size)
 exact ⟨rfl,hb3.trans (hg2.bel.mono hb3.size)⟩
end
end Go.Proofs.Ytnddmlgnngdaoaa
