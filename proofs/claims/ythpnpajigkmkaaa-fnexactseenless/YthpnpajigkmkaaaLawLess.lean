/- The law FnExactSeenLess, walked: it answers true, and leaves all as it was. Of lists of at most 9223372036854775807 numbers: more than a machine holds. -/
import Derived.Test.YthpnpajigkmkaaaSnConv
import Derived.Test.YthpnpajigkmkaaaSnLess
namespace Go.Proofs.Ythpnpajigkmkaaa
open Go.RowKit

/-- What stands through the law's calls: the boxes of its two arguments, the arguments themselves. -/
structure St2 (w W : World) (s t : Sn) : Prop where
  bel : Below w.heap.size w W
  lt : w.heap.size + 1 < W.heap.size
  p0 : W.cell? ⟨w.heap.size, 0, none⟩ = some (.slice s.a1 s.l1.length s.c1)
  p1 : W.cell? ⟨w.heap.size, 1, none⟩ = some (.slice s.a2 s.l2.length s.c2)
  q0 : W.cell? ⟨w.heap.size + 1, 0, none⟩ = some (.slice t.a1 t.l1.length t.c1)
  q1 : W.cell? ⟨w.heap.size + 1, 1, none⟩ = some (.slice t.a2 t.l2.length t.c2)
  sa : s.At W
  ta : t.At W

theorem St2.below {w W W' : World} {s t : Sn} (h : St2 w W s t) (hb : Below W.heap.size W W') : St2 w W' s t := by
  have hl := h.lt
  exact ⟨h.bel.trans (hb.mono h.bel.size), Nat.lt_of_lt_of_le hl hb.size, (hb.cell (p := ⟨w.heap.size, 0, none⟩) (by show w.heap.size < _; omega)).trans h.p0, (hb.cell (p := ⟨w.heap.size, 1, none⟩) (by show w.heap.size < _; omega)).trans h.p1,
    (hb.cell (p := ⟨w.heap.size + 1, 0, none⟩) hl).trans h.q0, (hb.cell (p := ⟨w.heap.size + 1, 1, none⟩) hl).trans h.q1, h.sa.below hb (Nat.le_refl _), h.ta.below hb (Nat.le_refl _)⟩

theorem sless_new {w : World} {B B' g1 g2 g3 g4 : Nat} {l1 l2 m1 m2 : List Int} (h : NewSn w B g1 g2 l1 l2) (h' : NewSn w B' g3 g4 m1 m2) (h1 : l1.length ≤ 1048576) (h2 : l2.length ≤ 1048576) (h3 : m1.length ≤ 1048576) (h4 : m2.length ≤ 1048576) :
    Calls Try.prog 27 #[.agg #[.slice (some ⟨g1, 0, none⟩) l1.length l1.length, .slice (some ⟨g2, 0, none⟩) l2.length l2.length], .agg #[.slice (some ⟨g3, 0, none⟩) m1.length m1.length, .slice (some ⟨g4, 0, none⟩) m2.length m2.length]] w fun e w' => e = .returned (.bool (decide (M.cmpS l1 l2 m1 m2 < 0))) ∧ Grown w w' :=
  sless_any (newSn g1 g2 l1 l2) (newSn g3 g4 m1 m2) w ⟨h1, h2⟩ ⟨h3, h4⟩ h.at h'.at
theorem iless_new {w : World} {B B' g1 g2 g3 g4 : Nat} {l1 l2 m1 m2 : List Int} (h : NewSn w B g1 g2 l1 l2) (h' : NewSn w B' g3 g4 m1 m2) (h1 : l1.length ≤ 1048576) (h2 : l2.length ≤ 1048576) (h3 : m1.length ≤ 1048576) (h4 : m2.length ≤ 1048576) :
    Calls Try.prog 28 #[.agg #[.slice (some ⟨g1, 0, none⟩) l1.length l1.length, .slice (some ⟨g2, 0, none⟩) l2.length l2.length], .agg #[.slice (some ⟨g3, 0, none⟩) m1.length m1.length, .slice (some ⟨g4, 0, none⟩) m2.length m2.length]] w fun e w' => e = .returned (.bool (decide (M.cmpS l1 l2 m1 m2 < 0))) ∧ Grown w w' :=
  iless_any (newSn g1 g2 l1 l2) (newSn g3 g4 m1 m2) w ⟨h1, h2⟩ ⟨h3, h4⟩ h.at h'.at
theorem eqSeen_new {w : World} {B B' g1 g2 g3 g4 : Nat} {l1 l2 : List Int} (h : NewSn w B g1 g2 l1 l2) (h' : NewSn w B' g3 g4 l1 l2) (h1 : l1.length ≤ 1048576) (h2 : l2.length ≤ 1048576) :
    Calls Try.prog 26 #[.agg #[.slice (some ⟨g1, 0, none⟩) l1.length l1.length, .slice (some ⟨g2, 0, none⟩) l2.length l2.length], .agg #[.slice (some ⟨g3, 0, none⟩) l1.length l1.length, .slice (some ⟨g4, 0, none⟩) l2.length l2.length]] w fun e w' => e = .returned (.bool true) ∧ Grown w w' :=
  eqSeen_same (newSn g1 g2 l1 l2) (newSn g3 g4 l1 l2) w ⟨h1, h2⟩ rfl rfl h.at h'.at

set_option maxHeartbeats 1000000 in
set_option maxRecDepth 100000 in
theorem lawLess_any (s t : Sn) (w : World) (hs0 : s.Le 9223372036854775807) (ht0 : t.Le 9223372036854775807) (hsa : s.At w) (hta : t.At w) :
    Calls Try.prog 8 #[.agg #[.slice s.a1 s.l1.length s.c1, .slice s.a2 s.l2.length s.c2], .agg #[.slice t.a1 t.l1.length t.c1, .slice t.a2 t.l2.length t.c2]] w fun e w' => e = .returned (.bool true) ∧ Below w.heap.size w w' := by
  go_enter Try.func8, Try.ntmps8
  go_wp2_with fail
  refine (szSeen_any s 1048576 _ (by decide) (by decide) hs0).mono ?_
  rintro e w1 ⟨r1, rfl, rfl, hr1, hor1⟩
  by_cases hn1 : r1 < 0
  · go_wp2_with fail
    go_ret
    exact ⟨rfl, below3 _ _ _ _⟩
  have hs := (hor1.resolve_left hn1).2
  clear hor1
  go_wp2_with fail
  refine (szSeen_any t r1 _ (by omega) hr1 ht0).mono ?_
  rintro e w1 ⟨r2, rfl, rfl, hr2, hor2⟩
  have hb4 := (below3 w (.cells #[.slice s.a1 s.l1.length s.c1, .slice s.a2 s.l2.length s.c2] 41) (.cells #[.slice t.a1 t.l1.length t.c1, .slice t.a2 t.l2.length t.c2] 41) (.cells #[.slice s.a1 s.l1.length s.c1, .slice s.a2 s.l2.length s.c2] 41)).alloc (by simp; omega) (.cells #[.slice t.a1 t.l1.length t.c1, .slice t.a2 t.l2.length t.c2] 41)
  by_cases hn2 : r2 < 0
  · go_wp2_with fail
    go_ret
    exact ⟨rfl, hb4⟩
  have ht := (hor2.resolve_left hn2).2
  clear hor2
  have st0 : St2 w _ s t := ⟨hb4, by simp, by simp [go_sem], by simp [go_sem], by simp [go_sem], by simp [go_sem], hsa.below hb4 (Nat.le_refl _), hta.below hb4 (Nat.le_refl _)⟩
  generalize ((((w.alloc (.cells #[.slice s.a1 s.l1.length s.c1, .slice s.a2 s.l2.length s.c2] 41)).alloc (.cells #[.slice t.a1 t.l1.length t.c1, .slice t.a2 t.l2.length t.c2] 41)).alloc (.cells #[.slice s.a1 s.l1.length s.c1, .slice s.a2 s.l2.length s.c2] 41)).alloc (.cells #[.slice t.a1 t.l1.length t.c1, .slice t.a2 t.l2.length t.c2] 41)) = W at *
  clear hb4 hsa hta hs0 ht0
  go_wp2_with fail
  have st1 := st0.below (Below.refl _ _).drew
  obtain ⟨hs1, hs2⟩ := hs
  obtain ⟨ht1, ht2⟩ := ht
  have C1 := toSeen_any s W.drew ⟨hs1, hs2⟩ st1.sa
  have X0 := st0.p0; have X1 := st0.p1; have X2 := st0.q0; have X3 := st0.q1
  obtain ⟨ro, hro⟩ : ∃ r, decide (M.cmpS s.l1 s.l2 t.l1 t.l2 < 0) = r := ⟨_, rfl⟩
  have HR : Hid (decide (M.cmpS s.l1 s.l2 t.l1 t.l2 < 0) = ro) := hro
  clear hro
  go_region_held3 (fun w' => w'.cell? ⟨w.heap.size, 0, none⟩ = some (.slice s.a1 s.l1.length s.c1) ∧ w'.cell? ⟨w.heap.size, 1, none⟩ = some (.slice s.a2 s.l2.length s.c2) ∧ w'.cell? ⟨w.heap.size + 1, 0, none⟩ = some (.slice t.a1 t.l1.length t.c1) ∧ w'.cell? ⟨w.heap.size + 1, 1, none⟩ = some (.slice t.a2 t.l2.length t.c2)) (go_keep) (first
    | (go_at_call_of 24 (Value.agg #[.slice s.a1 s.l1.length s.c1, .slice s.a2 s.l2.length s.c2]); refine C1.mono ?_; rintro e w1 ⟨g1, g2, rfl, hn1, hb1⟩; have st2 := st1.below hb1; have Y0 := st2.p0; have Y1 := st2.p1; have Y2 := st2.q0; have Y3 := st2.q1)
    | (go_at_call_of 24 (Value.agg #[.slice t.a1 t.l1.length t.c1, .slice t.a2 t.l2.length t.c2]); refine (toSeen_any t _ ⟨ht1, ht2⟩ st2.ta).mono ?_; rintro e w2 ⟨g3, g4, rfl, hn2, hb2⟩; have st3 := st2.below hb2; have Z0 := st3.p0; have Z1 := st3.p1; have Z2 := st3.q0; have Z3 := st3.q1)
    | (go_at_call 27; refine (sless_new (hn1.below hb2 (Nat.le_refl _)) hn2 hs1 hs2 ht1 ht2).mono ?_; rw [HR.out]; rintro e w3 ⟨rfl, hg3⟩; have st4 := st3.below hg3.bel; have U0 := st4.p0; have U1 := st4.p1; have U2 := st4.q0; have U3 := st4.q1))
  clear X0 X1 X2 X3 Y0 Y1 Y2 Y3 Z0 Z1 Z2 Z3 st0 st1 st2 st3 C1 hn1 hn2 hb1 hb2 hg3
  go_wp2_with fail
  refine (toSeen_any s _ ⟨hs1, hs2⟩ st4.sa).mono ?_
  rintro e w5 ⟨x1, x2, rfl, hx, hb5⟩
  have st5 := st4.below hb5
  have V0 := st5.p0; have V1 := st5.p1; have V2 := st5.q0; have V3 := st5.q1; have V4 := st5.lt
  clear U0 U1 U2 U3 st4 hb5
  go_wp2_with fail
  have st6 := st5.below (below1 w5 (.cells #[.slice (some ⟨x1, 0, none⟩) s.l1.length s.l1.length, .slice (some ⟨x2, 0, none⟩) s.l2.length s.l2.length] 44))
  have hx6 := hx.below (below1 w5 (.cells #[.slice (some ⟨x1, 0, none⟩) s.l1.length s.l1.length, .slice (some ⟨x2, 0, none⟩) s.l2.length s.l2.length] 44)) (Nat.le_refl _)
  refine (toSeen_any t _ ⟨ht1, ht2⟩ st6.ta).mono ?_
  rintro e w7 ⟨y1, y2, rfl, hy, hb7⟩
  have st7 := st6.below hb7
  have hx7 := hx6.below hb7 (Nat.le_refl _)
  have A0 : w7.cell? ⟨w5.heap.size, 0, none⟩ = some (.slice (some ⟨x1, 0, none⟩) s.l1.length s.l1.length) := by rw [hb7.cell (p := ⟨w5.heap.size, 0, none⟩) (by simp)]; simp
  have A1 : w7.cell? ⟨w5.heap.size, 1, none⟩ = some (.slice (some ⟨x2, 0, none⟩) s.l2.length s.l2.length) := by rw [hb7.cell (p := ⟨w5.heap.size, 1, none⟩) (by simp)]; simp
  have A2 : w5.heap.size < w7.heap.size := World.block_lt_of_cell? _ _ A0
  have V0' := st7.p0; have V1' := st7.p1; have V2' := st7.q0; have V3' := st7.q1; have V4' := st7.lt
  clear V0 V1 V2 V3 V4 st5 st6 hx hx6 hb7
  go_wp2_with fail
  have hb8 := below1 w7 (.cells #[.slice (some ⟨y1, 0, none⟩) t.l1.length t.l1.length, .slice (some ⟨y2, 0, none⟩) t.l2.length t.l2.length] 44)
  refine (iless_new (hx7.below hb8 (Nat.le_refl _)) (hy.below hb8 (Nat.le_refl _)) hs1 hs2 ht1 ht2).mono ?_
  rw [HR.out]
  rintro e w8 ⟨rfl, hg8⟩
  have hb8' : Below w7.heap.size w7 w8 := hb8.trans (hg8.bel.mono (by simp))
  have st8 := st7.below hb8'
  have hx8 := hx7.below hb8' (Nat.le_refl _)
  have hy8 := hy.below hb8' (Nat.le_refl _)
  have X0 := st8.p0; have X1 := st8.p1; have X2 := st8.q0; have X3 := st8.q1; have X4 := st8.lt
  have B0 : w8.cell? ⟨w5.heap.size, 0, none⟩ = some (.slice (some ⟨x1, 0, none⟩) s.l1.length s.l1.length) := (hb8'.cell (p := ⟨w5.heap.size, 0, none⟩) A2).trans A0
  have B1 : w8.cell? ⟨w5.heap.size, 1, none⟩ = some (.slice (some ⟨x2, 0, none⟩) s.l2.length s.l2.length) := (hb8'.cell (p := ⟨w5.heap.size, 1, none⟩) A2).trans A1
  have B2 : w8.cell? ⟨w7.heap.size, 0, none⟩ = some (.slice (some ⟨y1, 0, none⟩) t.l1.length t.l1.length) := by rw [hg8.bel.cell (p := ⟨w7.heap.size, 0, none⟩) (by simp)]; simp
  have B3 : w8.cell? ⟨w7.heap.size, 1, none⟩ = some (.slice (some ⟨y2, 0, none⟩) t.l2.length t.l2.length) := by rw [hg8.bel.cell (p := ⟨w7.heap.size, 1, none⟩) (by simp)]; simp
  have L5 : w5.heap.size < w8.heap.size := World.block_lt_of_cell? _ _ B0
  have L7 : w7.heap.size < w8.heap.size := World.block_lt_of_cell? _ _ B2
  clear A0 A1 A2 V0' V1' V2' V3' V4' st7 hx7 hy hb8 hb8' hg8
  generalize w5.heap.size = G5 at *
  generalize w7.heap.size = G7 at *
  go_wp2_with fail
  have st9 := st8.below (Below.refl _ _).drew
  have hx9 := hx8.below (Below.refl _ _).drew (Nat.le_refl _)
  have C1 := toSeen_any s w8.drew ⟨hs1, hs2⟩ st9.sa
  go_region_held3 (fun w' => w'.cell? ⟨w.heap.size, 0, none⟩ = some (.slice s.a1 s.l1.length s.c1) ∧ w'.cell? ⟨w.heap.size, 1, none⟩ = some (.slice s.a2 s.l2.length s.c2) ∧ w'.cell? ⟨G5, 0, none⟩ = some (.slice (some ⟨x1, 0, none⟩) s.l1.length s.l1.length) ∧ w'.cell? ⟨G5, 1, none⟩ = some (.slice (some ⟨x2, 0, none⟩) s.l2.length s.l2.length)) (go_keep) (first
    | (go_at_call 24; refine C1.mono ?_; rintro e w9 ⟨g1, g2, rfl, hn1, hb1⟩; have st10 := st9.below hb1; have Y0 := st10.p0; have Y1 := st10.p1; have D0 := (hb1.cell (p := ⟨G5, 0, none⟩) L5).trans B0; have D1 := (hb1.cell (p := ⟨G5, 1, none⟩) L5).trans B1)
    | (go_at_call 26; refine (eqSeen_new (hx9.below hb1 (Nat.le_refl _)) hn1 hs1 hs2).mono ?_; rintro e w10 ⟨rfl, hg10⟩; have st11 := st10.below hg10.bel; have Z0 := st11.p0; have Z1 := st11.p1; have E0 := (hg10.bel.cell (p := ⟨G5, 0, none⟩) (Nat.lt_of_lt_of_le L5 hb1.size)).trans D0; have E1 := (hg10.bel.cell (p := ⟨G5, 1, none⟩) (Nat.lt_of_lt_of_le L5 hb1.size)).trans D1))
  have hy11 := ((hy8.below (Below.refl _ _).drew (Nat.le_refl _)).below hb1 (Nat.le_refl _)).below hg10.bel (Nat.le_refl _)
  have hb11 : Below w8.heap.size w8 w10 := ((Below.refl _ _).drew.trans hb1).trans (hg10.bel.mono hb1.size)
  have F0 := (hb11.cell (p := ⟨G7, 0, none⟩) L7).trans B2
  have F1 := (hb11.cell (p := ⟨G7, 1, none⟩) L7).trans B3
  have L7' : G7 < w10.heap.size := World.block_lt_of_cell? _ _ F0
  have Z2 := st11.q0; have Z3 := st11.q1
  clear B0 B1 B2 B3 L5 L7 D0 D1 E0 E1 Y0 Y1 X0 X1 X2 X3 X4 st8 st9 st10 hx8 hy8 hx9 C1 hn1 hb1 hg10 hb11
  go_wp2_with fail
  have st12 := st11.below (Below.refl _ _).drew
  have hy12 := hy11.below (Below.refl _ _).drew (Nat.le_refl _)
  have C2 := toSeen_any t w10.drew ⟨ht1, ht2⟩ st12.ta
  go_region_held3 (fun w' => w'.cell? ⟨w.heap.size + 1, 0, none⟩ = some (.slice t.a1 t.l1.length t.c1) ∧ w'.cell? ⟨w.heap.size + 1, 1, none⟩ = some (.slice t.a2 t.l2.length t.c2) ∧ w'.cell? ⟨G7, 0, none⟩ = some (.slice (some ⟨y1, 0, none⟩) t.l1.length t.l1.length) ∧ w'.cell? ⟨G7, 1, none⟩ = some (.slice (some ⟨y2, 0, none⟩) t.l2.length t.l2.length)) (go_keep) (first
    | (go_at_call 24; refine C2.mono ?_; rintro e w12 ⟨g3, g4, rfl, hn2, hb2⟩; have st13 := st12.below hb2; have Y0 := st13.q0; have Y1 := st13.q1; have D0 := (hb2.cell (p := ⟨G7, 0, none⟩) L7').trans F0; have D1 := (hb2.cell (p := ⟨G7, 1, none⟩) L7').trans F1)
    | (go_at_call 26; refine (eqSeen_new (hy12.below hb2 (Nat.le_refl _)) hn2 ht1 ht2).mono ?_; rintro e w13 ⟨rfl, hg13⟩; have st14 := st13.below hg13.bel; have Z4 := st14.q0; have Z5 := st14.q1; have E0 := (hg13.bel.cell (p := ⟨G7, 0, none⟩) (Nat.lt_of_lt_of_le L7' hb2.size)).trans D0; have E1 := (hg13.bel.cell (p := ⟨G7, 1, none⟩) (Nat.lt_of_lt_of_le L7' hb2.size)).trans D1))
  go_wp2_with fail
  go_ret
  exact ⟨rfl, st14.bel⟩

end Go.Proofs.Ythpnpajigkmkaaa
