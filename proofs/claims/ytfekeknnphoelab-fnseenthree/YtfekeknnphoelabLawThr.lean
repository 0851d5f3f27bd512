/- The law FnSeenThree, walked: it answers true, and leaves all as it was. Of whatever codes. -/
import Derived.Test.YtfekeknnphoelabBx2
namespace Go.Proofs.Ytfekeknnphoelab
open Go.RowKit

/-- Four that were seen, in four boxes. -/
structure Box4 (w W : World) (P Q R S : Nat) (s t u v : Sn) : Prop where
  st : Box2 w W P Q s t
  uv : Box2 w W R S u v
theorem Box4.grown {w W W' : World} {P Q R S : Nat} {s t u v : Sn} (h : Box4 w W P Q R S s t u v) (hg : Grown W W') : Box4 w W' P Q R S s t u v :=
  ⟨h.st.grown hg, h.uv.grown hg⟩

theorem M.five (s t u v : Sn) : ∃ b1 b2 b3 b4 b5 : Bool, decide (M.cmpS s.l1 s.l2 t.l1 t.l2 < 0) = b1 ∧ decide (M.cmpS t.l1 t.l2 u.l1 u.l2 < 0) = b2 ∧ decide (M.cmpS s.l1 s.l2 u.l1 u.l2 < 0) = b3 ∧ decide (M.cmpS v.l1 v.l2 s.l1 s.l2 < 0) = b4 ∧ decide (M.cmpS v.l1 v.l2 t.l1 t.l2 < 0) = b5 ∧
    (b1 = false ∨ (b1 = true ∧ b2 = false ∧ b4 = false) ∨ (b1 = true ∧ b2 = false ∧ b4 = true ∧ b5 = true) ∨ (b1 = true ∧ b2 = true ∧ b3 = true ∧ b4 = false) ∨ (b1 = true ∧ b2 = true ∧ b3 = true ∧ b4 = true ∧ b5 = true)) := by
  refine ⟨_, _, _, _, _, rfl, rfl, rfl, rfl, rfl, ?_⟩
  by_cases h1 : M.cmpS s.l1 s.l2 t.l1 t.l2 < 0
  · have h3 : M.cmpS t.l1 t.l2 u.l1 u.l2 < 0 → M.cmpS s.l1 s.l2 u.l1 u.l2 < 0 := M.cmpS_trans h1
    have h5 : M.cmpS v.l1 v.l2 s.l1 s.l2 < 0 → M.cmpS v.l1 v.l2 t.l1 t.l2 < 0 := fun h => M.cmpS_trans h h1
    rw [decide_eq_true h1]
    by_cases h2 : M.cmpS t.l1 t.l2 u.l1 u.l2 < 0
    · rw [decide_eq_true h2, decide_eq_true (h3 h2)]
      by_cases h4 : M.cmpS v.l1 v.l2 s.l1 s.l2 < 0
      · rw [decide_eq_true h4, decide_eq_true (h5 h4)]; simp
      · rw [decide_eq_false h4]; simp
    · rw [decide_eq_false h2]
      by_cases h4 : M.cmpS v.l1 v.l2 s.l1 s.l2 < 0
      · rw [decide_eq_true h4, decide_eq_true (h5 h4)]; simp
      · rw [decide_eq_false h4]; simp
  · exact Or.inl (decide_eq_false h1)

theorem box2_new {w w1 : World} {s t : Sn} (hb1 : Below w.heap.size w w1) (hs1 : s.At w1) (ht1 : t.At w1) : Box2 w ((w1.alloc (.cells #[.slice s.a1 s.l1.length s.c1, .slice s.a2 s.l2.length s.c2] 30)).alloc (.cells #[.slice t.a1 t.l1.length t.c1, .slice t.a2 t.l2.length t.c2] 30)) w1.heap.size (w1.heap.size + 1) s t :=
  ⟨hb1.trans ((below2 w1 _ _).mono hb1.size), ⟨by rw [alloc_old _ _ _ (by simp only [World.size_alloc]; omega)]; exact alloc_new _ _ _ rfl⟩, ⟨alloc_new _ _ _ (by simp only [World.size_alloc])⟩, hs1.below (below2 w1 _ _) (Nat.le_refl _), ht1.below (below2 w1 _ _) (Nat.le_refl _)⟩
theorem Box2.below {w W W' : World} {P Q : Nat} {s t : Sn} (h : Box2 w W P Q s t) (hb : Below W.heap.size W W') : Box2 w W' P Q s t :=
  ⟨h.bel.trans (hb.mono h.bel.size), h.p.bel hb, h.q.bel hb, h.sa.below hb (Nat.le_refl _), h.ta.below hb (Nat.le_refl _)⟩

set_option maxHeartbeats 1000000 in
set_option maxRecDepth 100000 in
theorem lawThree_any (ca : Option Addr) (cb co L C : Nat) (x : Nat → Int) (da : Option Addr) (db dn M' D : Nat) (y : Nat → Int) (w : World) (hL : L ≤ C) (had : 0 < L → ca = some ⟨cb, co, none⟩) (hc : ∀ i, i < L → w.cell? ⟨cb, co + i, none⟩ = some (.int .u8 (x i)) ∧ 0 ≤ x i ∧ x i ≤ 255)
    (hM : M' ≤ D) (hdd : 0 < M' → da = some ⟨db, dn, none⟩) (hd : ∀ i, i < M' → w.cell? ⟨db, dn + i, none⟩ = some (.int .u8 (y i)) ∧ 0 ≤ y i ∧ y i ≤ 255) :
    Calls Try.prog 6 #[.slice ca L C, .slice da M' D] w fun e w' => e = .returned (.bool true) ∧ Below w.heap.size w w' := by
  by_cases hLb : L ≤ 1048576
  · by_cases hMb : M' ≤ 1048576
    · go_enter Try.func6, Try.ntmps6
      go_wp2_with fail
      refine (DrawSeenLess_any ca cb co L C x _ hL had hc hLb).mono ?_
      rintro e w1 ⟨s, t, rfl, hs1, ht1, sle, tle, hb1⟩
      have hsl := sle.mono (m := 1048576) (by decide)
      have htl := tle.mono (m := 1048576) (by decide)
      clear had hc
      go_wp2_with fail
      have bx0 := box2_new hb1 hs1 ht1
      generalize (w1.alloc (.cells #[.slice s.a1 s.l1.length s.c1, .slice s.a2 s.l2.length s.c2] 30)).alloc (.cells #[.slice t.a1 t.l1.length t.c1, .slice t.a2 t.l2.length t.c2] 30) = W0 at *
      generalize w1.heap.size = P at *
      refine (DrawSeenLess_any da db dn M' D y _ hM hdd (fun i hi => ⟨(bx0.bel.cell (p := ⟨db, dn + i, none⟩) (World.block_lt_of_cell? _ _ (hd i hi).1)).trans (hd i hi).1, (hd i hi).2⟩) hMb).mono ?_
      rintro e w2 ⟨u, v, rfl, hu2, hv2, ule, vle, hb2⟩
      have hul := ule.mono (m := 1048576) (by decide)
      have hvl := vle.mono (m := 1048576) (by decide)
      have bx1 := bx0.below hb2
      clear hdd hd bx0 hs1 ht1 hb1
      have p0 := bx1.p.c0; have p1 := bx1.p.c1; have q0 := bx1.q.c0; have q1 := bx1.q.c1
      have pl := bx1.p.lt; have ql := bx1.q.lt
      go_wp2_with fail
      have bx2 : Box4 w ((w2.alloc (.cells #[.slice u.a1 u.l1.length u.c1, .slice u.a2 u.l2.length u.c2] 30)).alloc (.cells #[.slice v.a1 v.l1.length v.c1, .slice v.a2 v.l2.length v.c2] 30)) P (P + 1) w2.heap.size (w2.heap.size + 1) s t u v := ⟨bx1.below (below2 w2 _ _), box2_new bx1.bel hu2 hv2⟩
      generalize (w2.alloc (.cells #[.slice u.a1 u.l1.length u.c1, .slice u.a2 u.l2.length u.c2] 30)).alloc (.cells #[.slice v.a1 v.l1.length v.c1, .slice v.a2 v.l2.length v.c2] 30) = W1 at *
      generalize w2.heap.size = R at *
      clear p0 p1 q0 q1 bx1 hu2 hv2 hb2 sle tle ule vle
      obtain ⟨b1, b2, b3, b4, b5, e1, e2, e3, e4, e5, h5⟩ := M.five s t u v
      have C1 := iless_any s t _ hsl htl bx2.st.sa bx2.st.ta
      rw [e1] at C1
      rcases h5 with rfl | ⟨rfl, rfl, rfl⟩ | ⟨rfl, rfl, rfl, rfl⟩ | ⟨rfl, rfl, rfl, rfl⟩ | ⟨rfl, rfl, rfl, rfl, rfl⟩
      all_goals
        refine C1.mono ?_
        rintro e W2 ⟨rfl, g2⟩
        have bx3 := bx2.grown g2
        have C2 := sless_any s t _ hsl htl bx3.st.sa bx3.st.ta
        rw [e1] at C2
        clear bx2 C1
        have p0 := bx3.st.p.c0; have p1 := bx3.st.p.c1; have q0 := bx3.st.q.c0; have q1 := bx3.st.q.c1; have r0 := bx3.uv.p.c0; have r1 := bx3.uv.p.c1; have s0 := bx3.uv.q.c0; have s1 := bx3.uv.q.c1
        go_wp2_with fail
        refine C2.mono ?_
        rintro e W3 ⟨rfl, g3⟩
        have bx4 := bx3.grown g3
        clear bx3 C2 p0 p1 q0 q1 r0 r1 s0 s1
        have p0 := bx4.st.p.c0; have p1 := bx4.st.p.c1; have q0 := bx4.st.q.c0; have q1 := bx4.st.q.c1; have r0 := bx4.uv.p.c0; have r1 := bx4.uv.p.c1; have s0 := bx4.uv.q.c0; have s1 := bx4.uv.q.c1
        go_wp2_with fail
      · go_ret
        exact ⟨rfl, bx4.st.bel⟩
      all_goals
        have C3 := iless_any t u _ htl hul bx4.st.ta bx4.uv.sa
        rw [e2] at C3
        refine C3.mono ?_
        rintro e W4 ⟨rfl, g4⟩
        have bx5 := bx4.grown g4
        clear bx4 C3 p0 p1 q0 q1 r0 r1 s0 s1
        have p0 := bx5.st.p.c0; have p1 := bx5.st.p.c1; have q0 := bx5.st.q.c0; have q1 := bx5.st.q.c1; have r0 := bx5.uv.p.c0; have r1 := bx5.uv.p.c1; have s0 := bx5.uv.q.c0; have s1 := bx5.uv.q.c1
        go_wp2_with fail
      · -- not ahead of the third, nor the fourth ahead
        have C4 := iless_any v s _ hvl hsl bx5.uv.ta bx5.st.sa
        rw [e4] at C4
        refine C4.mono ?_
        rintro e W5 ⟨rfl, g5⟩
        have bx6 := bx5.grown g5
        go_wp2_with fail
        go_ret
        exact ⟨rfl, bx6.st.bel⟩
      · have C4 := iless_any v s _ hvl hsl bx5.uv.ta bx5.st.sa
        rw [e4] at C4
        refine C4.mono ?_
        rintro e W5 ⟨rfl, g5⟩
        have bx6 := bx5.grown g5
        clear C4 p0 p1 q0 q1 r0 r1 s0 s1
        have p0 := bx6.st.p.c0; have p1 := bx6.st.p.c1; have q0 := bx6.st.q.c0; have q1 := bx6.st.q.c1; have r0 := bx6.uv.p.c0; have r1 := bx6.uv.p.c1; have s0 := bx6.uv.q.c0; have s1 := bx6.uv.q.c1
        go_wp2_with fail
        have C5 := iless_any v t _ hvl htl bx6.uv.ta bx6.st.ta
        rw [e5] at C5
        refine C5.mono ?_
        rintro e W6 ⟨rfl, g6⟩
        have bx7 := bx6.grown g6
        go_wp2_with fail
        go_ret
        exact ⟨rfl, bx7.st.bel⟩
      all_goals
        have C4 := iless_any s u _ hsl hul bx5.st.sa bx5.uv.sa
        rw [e3] at C4
        refine C4.mono ?_
        rintro e W5 ⟨rfl, g5⟩
        have bx6 := bx5.grown g5
        clear bx5 C4 p0 p1 q0 q1 r0 r1 s0 s1
        have p0 := bx6.st.p.c0; have p1 := bx6.st.p.c1; have q0 := bx6.st.q.c0; have q1 := bx6.st.q.c1; have r0 := bx6.uv.p.c0; have r1 := bx6.uv.p.c1; have s0 := bx6.uv.q.c0; have s1 := bx6.uv.q.c1
        go_wp2_with fail
        have C5 := iless_any v s _ hvl hsl bx6.uv.ta bx6.st.sa
        rw [e4] at C5
        refine C5.mono ?_
        rintro e W6 ⟨rfl, g6⟩
        have bx7 := bx6.grown g6
        clear bx6 C5 p0 p1 q0 q1 r0 r1 s0 s1
        have p0 := bx7.st.p.c0; have p1 := bx7.st.p.c1; have q0 := bx7.st.q.c0; have q1 := bx7.st.q.c1; have r0 := bx7.uv.p.c0; have r1 := bx7.uv.p.c1; have s0 := bx7.uv.q.c0; have s1 := bx7.uv.q.c1
        go_wp2_with fail
      · go_ret
        exact ⟨rfl, bx7.st.bel⟩
      · have C6 := iless_any v t _ hvl htl bx7.uv.ta bx7.st.ta
        rw [e5] at C6
        refine C6.mono ?_
        rintro e W7 ⟨rfl, g7⟩
        have bx8 := bx7.grown g7
        go_wp2_with fail
        go_ret
        exact ⟨rfl, bx8.st.bel⟩
    · go_enter Try.func6, Try.ntmps6
      go_wp2_with fail
      go_ret
      exact ⟨rfl, Below.refl _ _⟩
  · go_enter Try.func6, Try.ntmps6
    go_wp2_with fail
    go_ret
    exact ⟨rfl, Below.refl _ _⟩

end Go.Proofs.Ytfekeknnphoelab
