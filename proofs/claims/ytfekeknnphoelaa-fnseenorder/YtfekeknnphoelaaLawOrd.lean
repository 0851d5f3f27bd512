/- The law FnSeenOrder, walked: it answers true, and leaves all as it was. Of whatever code. -/
import Derived.Test.YtfekeknnphoelaaBx2
namespace Go.Proofs.Ytfekeknnphoelaa
open Go.RowKit

set_option maxHeartbeats 1000000 in
set_option maxRecDepth 100000 in
theorem lawOrder_any (ca : Option Addr) (cb co L C : Nat) (x : Nat → Int) (w : World) (hL : L ≤ C) (had : 0 < L → ca = some ⟨cb, co, none⟩) (hc : ∀ i, i < L → w.cell? ⟨cb, co + i, none⟩ = some (.int .u8 (x i)) ∧ 0 ≤ x i ∧ x i ≤ 255) :
    Calls Try.prog 8 #[.slice ca L C] w fun e w' => e = .returned (.bool true) ∧ Below w.heap.size w w' := by
  by_cases hLb : L ≤ 1048576
  · go_enter Try.func8, Try.ntmps8
    go_wp2_with fail
    refine (DrawSeenLess_any ca cb co L C x _ hL had hc hLb).mono ?_
    rintro e w1 ⟨s, t, rfl, hs1, ht1, sle, tle, hb1⟩
    have hsl := sle.mono (m := 1048576) (by decide)
    have htl := tle.mono (m := 1048576) (by decide)
    clear had hc
    go_wp2_with fail
    have bx0 : Box2 w ((w1.alloc (.cells #[.slice s.a1 s.l1.length s.c1, .slice s.a2 s.l2.length s.c2] 41)).alloc (.cells #[.slice t.a1 t.l1.length t.c1, .slice t.a2 t.l2.length t.c2] 41)) w1.heap.size (w1.heap.size + 1) s t :=
      ⟨hb1.trans ((below2 w1 _ _).mono hb1.size), ⟨by rw [alloc_old _ _ _ (by simp only [World.size_alloc]; omega)]; exact alloc_new _ _ _ rfl⟩, ⟨alloc_new _ _ _ (by simp only [World.size_alloc])⟩, hs1.below (below2 w1 _ _) (Nat.le_refl _), ht1.below (below2 w1 _ _) (Nat.le_refl _)⟩
    generalize (w1.alloc (.cells #[.slice s.a1 s.l1.length s.c1, .slice s.a2 s.l2.length s.c2] 41)).alloc (.cells #[.slice t.a1 t.l1.length t.c1, .slice t.a2 t.l2.length t.c2] 41) = W0 at *
    generalize w1.heap.size = P at *
    obtain ⟨b1, b2, b3, e1, e2, e3, h3⟩ := M.three s t
    have e0 : decide (M.cmpS s.l1 s.l2 s.l1 s.l2 < 0) = false := by rw [M.cmpS_self]; rfl
    have C1 := iless_any s t _ hsl htl bx0.sa bx0.ta
    rw [e1] at C1
    clear hs1 ht1 hb1 sle tle
    rcases h3 with ⟨rfl, rfl, rfl⟩ | ⟨rfl, rfl, rfl⟩ | ⟨rfl, rfl, rfl⟩
    all_goals
      refine C1.mono ?_
      rintro e W1 ⟨rfl, g1⟩
      have bx1 := bx0.grown g1
      have C2 := iless_any t s _ htl hsl bx1.ta bx1.sa
      rw [e2] at C2
      have p0 := bx1.p.c0; have p1 := bx1.p.c1; have q0 := bx1.q.c0; have q1 := bx1.q.c1
      clear C1 e2 bx0
      go_wp2_with fail
      refine C2.mono ?_
      rintro e W2 ⟨rfl, g2⟩
      have bx2 := bx1.grown g2
      have C3 := sless_any s t _ hsl htl bx2.sa bx2.ta
      clear p0 p1 q0 q1 C2
      have p0 := bx2.p.c0; have p1 := bx2.p.c1; have q0 := bx2.q.c0; have q1 := bx2.q.c1
      rw [e1] at C3
      go_wp2_with fail
      refine C3.mono ?_
      rintro e W3 ⟨rfl, g3⟩
      have bx3 := bx2.grown g3
      have C4 := lpSame_any s t _ hsl bx3.sa bx3.ta
      rw [e3] at C4
      clear p0 p1 q0 q1 C3
      have p0 := bx3.p.c0; have p1 := bx3.p.c1; have q0 := bx3.q.c0; have q1 := bx3.q.c1
      go_wp2_with fail
      refine C4.mono ?_
      rintro e W4 ⟨rfl, g4⟩
      have bx4 := bx3.grown g4
      have C5 := iless_any s s _ hsl hsl bx4.sa bx4.sa
      rw [e0] at C5
      clear p0 p1 q0 q1 C4
      have p0 := bx4.p.c0; have p1 := bx4.p.c1; have q0 := bx4.q.c0; have q1 := bx4.q.c1
      go_wp2_with fail
      refine C5.mono ?_
      rintro e W5 ⟨rfl, g5⟩
      have bx5 := bx4.grown g5
      go_wp2_with fail
      go_ret
      exact ⟨rfl, bx5.bel⟩
  · go_enter Try.func8, Try.ntmps8
    go_wp2_with fail
    go_ret
    exact ⟨rfl, Below.refl _ _⟩

end Go.Proofs.Ytfekeknnphoelaa
