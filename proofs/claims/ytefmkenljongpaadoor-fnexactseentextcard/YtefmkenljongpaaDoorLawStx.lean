/- The law FnExactSeenText, walked: it answers true, and leaves all as it was. Of lists of at most 9223372036854775807 numbers: more than a machine holds. -/
import Derived.Test.YtefmkenljongpaaDoorSnConv
import Derived.Test.YtefmkenljongpaaDoorStI
import Derived.Test.YtefmkenljongpaaDoorStS
import Derived.Deep.RegionHeld3
namespace Go.Proofs.YtefmkenljongpaaDoor
open Go.RowKit

/-- What stands through the law's calls: the box of its argument, the argument itself. -/
structure St1 (w W : World) (s : Sn) : Prop where
  bel : Below w.heap.size w W
  lt : w.heap.size < W.heap.size
  p0 : W.cell? ⟨w.heap.size, 0, none⟩ = some (.slice s.a1 s.l1.length s.c1)
  p1 : W.cell? ⟨w.heap.size, 1, none⟩ = some (.slice s.a2 s.l2.length s.c2)
  sa : s.At W

theorem St1.below {w W W' : World} {s : Sn} (h : St1 w W s) (hb : Below W.heap.size W W') : St1 w W' s := by
  have hl := h.lt
  exact ⟨h.bel.trans (hb.mono h.bel.size), Nat.lt_of_lt_of_le hl hb.size, (hb.cell (p := ⟨w.heap.size, 0, none⟩) hl).trans h.p0, (hb.cell (p := ⟨w.heap.size, 1, none⟩) hl).trans h.p1, h.sa.below hb (Nat.le_refl _)⟩

theorem eqSeen_new1 {w : World} {B B' g1 g2 g3 g4 : Nat} {l1 l2 : List Int} (h : NewSn w B g1 g2 l1 l2) (h' : NewSn w B' g3 g4 l1 l2) (h1 : l1.length ≤ 1048576) (h2 : l2.length ≤ 1048576) :
    Calls Tryd.prog 12 #[.agg #[.slice (some ⟨g1, 0, none⟩) l1.length l1.length, .slice (some ⟨g2, 0, none⟩) l2.length l2.length], .agg #[.slice (some ⟨g3, 0, none⟩) l1.length l1.length, .slice (some ⟨g4, 0, none⟩) l2.length l2.length]] w fun e w' => e = .returned (.bool true) ∧ Grown w w' :=
  eqSeen_same (newSn g1 g2 l1 l2) (newSn g3 g4 l1 l2) w ⟨h1, h2⟩ rfl rfl h.at h'.at

set_option maxHeartbeats 1000000 in
set_option maxRecDepth 100000 in
theorem lawStx_any (s : Sn) (w : World) (hs0 : s.Le 9223372036854775807) (hsa : s.At w) (f1 : Fits s.l1) (f2 : Fits s.l2) (ht : HasTab w) :
    Calls Tryd.prog 4 #[.agg #[.slice s.a1 s.l1.length s.c1, .slice s.a2 s.l2.length s.c2]] w fun e w' => e = .returned (.bool true) ∧ Below w.heap.size w w' := by
  go_enter Tryd.func4, Tryd.ntmps4
  go_wp2_with fail
  refine (szSeen_any s 1048576 _ (by decide) (by decide) hs0).mono ?_
  rintro e w1 ⟨r1, rfl, rfl, hr1, hor1⟩
  by_cases hn1 : r1 < 0
  · go_wp2_with fail
    go_ret
    exact ⟨rfl, below2 _ _ _⟩
  have hs := (hor1.resolve_left hn1).2
  clear hor1
  have hb4 := below2 w (.cells #[.slice s.a1 s.l1.length s.c1, .slice s.a2 s.l2.length s.c2] 32) (.cells #[.slice s.a1 s.l1.length s.c1, .slice s.a2 s.l2.length s.c2] 32)
  have st0 : St1 w _ s := ⟨hb4, by simp; omega, by simp [go_sem], by simp [go_sem], hsa.below hb4 (Nat.le_refl _)⟩
  go_wp2_with fail
  generalize (w.alloc (.cells #[.slice s.a1 s.l1.length s.c1, .slice s.a2 s.l2.length s.c2] 32)).alloc (.cells #[.slice s.a1 s.l1.length s.c1, .slice s.a2 s.l2.length s.c2] 32) = W at *
  clear hb4 hsa hs0
  obtain ⟨hs1, hs2⟩ := hs
  refine (toSeen_any s W ⟨hs1, hs2⟩ st0.sa).mono ?_
  rintro e w1 ⟨g1, g2, rfl, hn2, hb1⟩
  have st1 := st0.below hb1
  clear st0 hb1
  go_wp2_with fail
  have CS := sseenText_any (newSn g1 g2 s.l1 s.l2) w1 ⟨hs1, hs2⟩ hn2.at f1 f2
  simp only [newSn] at CS
  refine CS.mono ?_
  rintro e w2 ⟨rfl, hb2⟩
  have st2 := st1.below hb2
  clear st1 hb2 hn2
  have X0 := st2.p0; have X1 := st2.p1
  go_wp2_with fail
  refine (toSeen_any s w2 ⟨hs1, hs2⟩ st2.sa).mono ?_
  rintro e w3 ⟨x1, x2, rfl, hx, hb3⟩
  have st3 := st2.below hb3
  clear X0 X1 st2 hb3
  go_wp2_with fail
  have hb5 := below1 w3 (.cells #[.slice (some ⟨x1, 0, none⟩) s.l1.length s.l1.length, .slice (some ⟨x2, 0, none⟩) s.l2.length s.l2.length] 25)
  have st4 := st3.below hb5
  have hx4 := hx.below hb5 (Nat.le_refl _)
  have CI := iseenText_any (newSn x1 x2 s.l1 s.l2) _ ⟨hs1, hs2⟩ hx4.at f1 f2 (ht.below st4.bel (Nat.le_refl _))
  simp only [newSn] at CI
  refine CI.mono ?_
  rintro e w5 ⟨rfl, hb6⟩
  have st5 := st4.below hb6
  have hx5 := hx4.below hb6 (Nat.le_refl _)
  have A0 : w5.cell? ⟨w3.heap.size, 0, none⟩ = some (.slice (some ⟨x1, 0, none⟩) s.l1.length s.l1.length) := by rw [hb6.cell (p := ⟨w3.heap.size, 0, none⟩) (by simp)]; simp
  have A1 : w5.cell? ⟨w3.heap.size, 1, none⟩ = some (.slice (some ⟨x2, 0, none⟩) s.l2.length s.l2.length) := by rw [hb6.cell (p := ⟨w3.heap.size, 1, none⟩) (by simp)]; simp
  have L3 : w3.heap.size < w5.heap.size := World.block_lt_of_cell? _ _ A0
  clear st3 st4 hx hx4 hb5 hb6
  generalize w3.heap.size = X at *
  have Z0 := st5.p0; have Z1 := st5.p1
  go_wp2_with fail
  have C1 := toSeen_any s w5.drew ⟨hs1, hs2⟩ (st5.below (Below.refl _ _).drew).sa
  have st6 := st5.below (Below.refl _ _).drew
  have hx6 := hx5.below (Below.refl _ _).drew (Nat.le_refl _)
  go_region_held3 (fun w' => w'.cell? ⟨w.heap.size, 0, none⟩ = some (.slice s.a1 s.l1.length s.c1) ∧ w'.cell? ⟨w.heap.size, 1, none⟩ = some (.slice s.a2 s.l2.length s.c2) ∧ w'.cell? ⟨X, 0, none⟩ = some (.slice (some ⟨x1, 0, none⟩) s.l1.length s.l1.length) ∧ w'.cell? ⟨X, 1, none⟩ = some (.slice (some ⟨x2, 0, none⟩) s.l2.length s.l2.length)) (go_keep) (first
    | (go_at_call 11; refine C1.mono ?_; rintro e w7 ⟨y1, y2, rfl, hy, hb7⟩; have st7 := st6.below hb7; have Y0 := st7.p0; have Y1 := st7.p1; have Y2 := (hb7.cell (p := ⟨X, 0, none⟩) L3).trans A0; have Y3 := (hb7.cell (p := ⟨X, 1, none⟩) L3).trans A1; have hx7 := hx6.below hb7 (Nat.le_refl _))
    | (go_at_call 12; refine (eqSeen_new1 hx7 hy hs1 hs2).mono ?_; rintro e w8 ⟨rfl, hg8⟩; have st8 := st7.below hg8.bel; have U0 := st8.p0; have U1 := st8.p1; have U2 := (hg8.bel.cell (p := ⟨X, 0, none⟩) (Nat.lt_of_lt_of_le L3 hb7.size)).trans Y2; have U3 := (hg8.bel.cell (p := ⟨X, 1, none⟩) (Nat.lt_of_lt_of_le L3 hb7.size)).trans Y3))
  go_wp2_with fail
  go_ret
  exact ⟨rfl, st8.bel⟩

end Go.Proofs.YtefmkenljongpaaDoor
