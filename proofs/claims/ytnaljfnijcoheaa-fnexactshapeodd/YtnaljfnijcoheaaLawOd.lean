/- The law FnExactShapeOdd, walked: it answers true, and leaves all as it was. Of whatever number. -/
import Derived.Test.YtnaljfnijcoheaaShO
import Derived.Test.YtnaljfnijcoheaaTsLm
namespace Go.Proofs.Ytnaljfnijcoheaa
open Go.RowKit

theorem Sn.At.mkFar' {P : Nat → Prop} {w w' : World} {s : Sn} (h : s.At w) (hm : Mk P w w') (hP : ∀ j, P j → ¬ s.blk j) : s.At w' :=
  ⟨h.reads.mkFar hm (fun hl hp => hP _ hp (Or.inl ⟨hl, rfl⟩)), h.last.mkFar hm (fun hl hp => hP _ hp (Or.inr ⟨hl, rfl⟩))⟩
theorem BxT.mk' {P : Nat → Prop} {W W' : World} {X : Nat} {s : Sn} (h : BxT W X s) (hm : Mk P W W') (hP : ∀ j, P j → ¬ s.blk j) : BxT W' X s := ⟨hm.rest _ _ h.c0 (fun _ e => by cases e), hm.rest _ _ h.c1 (fun _ e => by cases e), h.at_.mkFar' hm hP⟩
theorem M.odd_small (s : Int) : (M.oddR s).length ≤ 3 ∧ (M.oddL s).length ≤ 3 := by
  unfold M.oddR M.oddL
  constructor
  · repeat' split
    all_goals simp
  · repeat' split
    all_goals simp

set_option maxHeartbeats 2000000 in
set_option maxRecDepth 100000 in
theorem lawOd_any (s : Int) (w : World) :
    Calls Try.prog 6 #[.int .i64 s] w fun e w' => e = .returned (.bool true) ∧ Below w.heap.size w w' := by
  have CS := sodd_any s w
  have CI := fun W => iodd_any s W
  obtain ⟨hR3, hL3⟩ := M.odd_small s
  generalize M.oddR s = r1 at *
  generalize M.oddL s = r2 at *
  generalize M.oddOk s = ok at *
  go_enter Try.func6, Try.ntmps6
  go_wp2_with fail
  refine CS.mono ?_
  rintro e w1 ⟨v1, v2, rfl, hA⟩
  have b1 := hA.bel
  obtain ⟨t, rfl, rfl, HT0, hN⟩ := hA.sn
  have HT' : Hid (t.l1 = r1 ∧ t.l2 = r2) := HT0
  have xT := BxT.new hN.at_
  have bwA := b1.alloc b1.size (.cells #[.slice t.a1 t.l1.length t.c1, .slice t.a2 t.l2.length t.c2] 28)
  clear hA CS b1 hN HT0
  go_wp2_with fail
  generalize w1.alloc (.cells #[.slice t.a1 t.l1.length t.c1, .slice t.a2 t.l2.length t.c2] 28) = WA at *
  generalize w1.heap.size = A at *
  refine (CI WA).mono ?_
  rintro e w2 ⟨v1, v2, rfl, hA⟩
  have b2 := hA.bel
  obtain ⟨g, rfl, rfl, HG, hN⟩ := hA.sn
  have hgl : g.Le 1048576 := ⟨by rw [HG.1]; omega, by rw [HG.2]; omega⟩
  have HE : Hid (t.l1 = g.l1 ∧ t.l2 = g.l2) := ⟨HT'.out.1.trans HG.1.symm, HT'.out.2.trans HG.2.symm⟩
  have HG' : Hid (g.l1 = r1 ∧ g.l2 = r2) := HG
  have bB := below1 w2 (.cells #[.slice g.a1 g.l1.length g.c1, .slice g.a2 g.l2.length g.c2] 28)
  have xG := BxT.new hN.at_
  have oG := hN.own.below hN.at_ bB
  have bAB := b2.trans (bB.mono b2.size)
  have xTB := xT.below bAB
  have gA : ∀ j, g.blk j → WA.heap.size ≤ j := fun j hj => by
    have h1 := hN.ge1
    have h2 := hN.ge2
    rcases hj with ⟨_, e⟩ | ⟨_, e⟩ <;> omega
  have gB : ∀ j, g.blk j → j < w2.heap.size := fun j hj => Sn.blk_lt hN.at_ hj
  have tA : ∀ j, t.blk j → j < WA.heap.size := fun j hj => Sn.blk_lt xT.at_ hj
  have bwB := bwA.trans (bAB.mono bwA.size)
  have hwA := bwA.size
  clear hA b2 hN bB bAB xT HG
  have c0 := xG.c0
  have c1 := xG.c1
  have d0 := xTB.c0
  have d1 := xTB.c1
  go_wp2_with fail
  generalize w2.alloc (.cells #[.slice g.a1 g.l1.length g.c1, .slice g.a2 g.l2.length g.c2] 28) = WB at *
  generalize w2.heap.size = B at *
  refine (eqSeen_bel g t WB hgl HE.out.1 HE.out.2 xG.at_ xTB.at_).mono ?_
  rintro e W3 ⟨rfl, b3⟩
  have x3 := xG.below b3
  have y3 := xTB.below b3
  have o3 := oG.below xG.at_ b3
  have bw3 := bwB.trans (b3.mono bwB.size)
  clear c0 c1 d0 d1 xG xTB oG b3 bwB
  have c0 := x3.c0
  have c1 := x3.c1
  go_wp2_with fail
  refine (markSeen_any g W3 hgl o3.ne ⟨x3.at_.reads.toC (fun hl => o3.fz _ (Or.inl ⟨hl, rfl⟩)), x3.at_.last.toC (fun hl => o3.fz _ (Or.inr ⟨hl, rfl⟩))⟩).mono ?_
  rintro e W4 ⟨wc, rfl, rfl, mk4, hm4⟩
  have ba := below1 W3 (.cells #[.slice g.a1 g.l1.length g.c1, .slice g.a2 g.l2.length g.c2] 28)
  have y4 := (y3.below ba).mk' mk4 (fun j hj hb => by have := gA j hj; have := tA j hb; omega)
  have e0 := mk4.rest _ _ (cb ba x3.c0) (fun _ e => by cases e)
  have e1 := mk4.rest _ _ (cb ba x3.c1) (fun _ e => by cases e)
  have bw4 : Below w.heap.size w W4 := mk4.below (bw3.trans (ba.mono bw3.size)) (fun j hj => by have := gA j hj; omega)
  clear c0 c1 x3 y3 o3 ba bw3 mk4
  go_wp2_with fail
  refine (heldSeen_any g W4 hgl hm4).mono ?_
  rintro e W5 ⟨rfl, rfl⟩
  have ba := below1 W4 (.cells #[.slice g.a1 g.l1.length g.c1, .slice g.a2 g.l2.length g.c2] 28)
  have y5 := y4.below ba
  have hm5 := hm4.below ba
  have f0 := cb ba e0
  have f1 := cb ba e1
  have bw5 := bw4.trans (ba.mono bw4.size)
  clear y4 hm4 e0 e1 bw4 ba
  generalize W4.alloc (.cells #[.slice g.a1 g.l1.length g.c1, .slice g.a2 g.l2.length g.c2] 28) = W5 at *
  have q1 : ¬ ((1 : Int) + g.l1.length + g.l2.length < 0) := by omega
  have q1' : decide ((1 : Int) + g.l1.length + g.l2.length < 0) = false := by simpa using q1
  go_wp2_with fail
  refine (CI W5).mono ?_
  rintro e w6 ⟨v1, v2, rfl, hA⟩
  have b6 := hA.bel
  obtain ⟨u, rfl, rfl, HU, hN⟩ := hA.sn
  have HF : Hid (t.l1 = u.l1 ∧ t.l2 = u.l2) := ⟨HT'.out.1.trans HU.1.symm, HT'.out.2.trans HU.2.symm⟩
  have hul : u.Le 1048576 := ⟨by rw [HU.1]; omega, by rw [HU.2]; omega⟩
  have bB := below1 w6 (.cells #[.slice u.a1 u.l1.length u.c1, .slice u.a2 u.l2.length u.c2] 28)
  have b6' := b6.trans (bB.mono b6.size)
  have xU := BxT.new hN.at_
  have y6 := y5.below b6'
  have hm6 := hm5.below b6'
  have g0 := cb b6' f0
  have g1 := cb b6' f1
  have bw6 := bw5.trans (b6'.mono bw5.size)
  clear hA b6 hN bB b6' y5 hm5 f0 f1 bw5 HU
  have c0 := xU.c0
  have c1 := xU.c1
  have d0 := y6.c0
  have d1 := y6.c1
  go_wp2_with fail
  generalize w6.alloc (.cells #[.slice u.a1 u.l1.length u.c1, .slice u.a2 u.l2.length u.c2] 28) = W6 at *
  generalize w6.heap.size = U at *
  refine (eqSeen_bel u t W6 hul HF.out.1 HF.out.2 xU.at_ y6.at_).mono ?_
  rintro e W7 ⟨rfl, b7⟩
  have hm7 := hm6.below b7
  have f0 := cb b7 g0
  have f1 := cb b7 g1
  have bw7 := bw6.trans (b7.mono bw6.size)
  clear c0 c1 d0 d1 g0 g1 hm6 b7 bw6 xU y6
  go_wp2_with fail
  refine (heldSeen_any g W7 hgl hm7).mono ?_
  rintro e W8 ⟨rfl, rfl⟩
  have bw8 := bw7.alloc bw7.size (.cells #[.slice g.a1 g.l1.length g.c1, .slice g.a2 g.l2.length g.c2] 28)
  go_wp2_with fail
  go_ret
  exact ⟨rfl, bw8⟩

end Go.Proofs.Ytnaljfnijcoheaa
