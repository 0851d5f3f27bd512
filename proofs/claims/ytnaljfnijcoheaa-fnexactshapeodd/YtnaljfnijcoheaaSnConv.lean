/- The law's own sizing, copying and comparing of what was seen: laws.szSeen, toSeen, eqSeen. Of lists of at most 1048576 numbers (sizing: of at most 9223372036854775807). -/
import Derived.Test.YtnaljfnijcoheaaSnSee
import Derived.Test.YtnaljfnijcoheaaIntConv
namespace Go.Proofs.Ytnaljfnijcoheaa
open Go.RowKit

set_option maxHeartbeats 400000 in
theorem szSeen_any (s : Sn) (left : Int) (w : World) (h0 : 0 ≤ left) (h1 : left ≤ 1048576) (hl : s.Le 9223372036854775807) :
    Calls Try.prog 17 #[.agg #[.slice s.a1 s.l1.length s.c1, .slice s.a2 s.l2.length s.c2], .int .i64 left] w fun e w' => ∃ r : Int, e = .returned (.int .i64 r) ∧ w' = w.alloc (.cells #[.slice s.a1 s.l1.length s.c1, .slice s.a2 s.l2.length s.c2] 42) ∧ r ≤ 1048576 ∧ (r < 0 ∨ (0 ≤ r ∧ s.Le 1048576)) := by
  obtain ⟨a1, b1, o1, c1, l1, a2, b2, o2, c2, l2⟩ := s
  obtain ⟨hl1, hl2⟩ := hl
  simp only at hl1 hl2
  go_enter Try.func17, Try.ntmps17
  go_wp2_with fail
  refine (szIntS_any _ _ _ _ _ h0 h1 hl1).mono ?_
  rintro e w1 ⟨r1, rfl, rfl, hr1, hor1⟩
  by_cases hn1 : r1 < 0
  · go_wp2_with fail
    go_ret
    exact ⟨-1, rfl, rfl, by omega, Or.inl (by omega)⟩
  · go_wp2_with fail
    refine (szIntS_any _ _ _ _ _ (by omega) hr1 hl2).mono ?_
    rintro e w2 ⟨r2, rfl, rfl, hr2, hor2⟩
    by_cases hn2 : r2 < 0
    · go_wp2_with fail
      go_ret
      exact ⟨-1, rfl, rfl, by omega, Or.inl (by omega)⟩
    · go_wp2_with fail
      go_ret
      exact ⟨r2, rfl, rfl, hr2, Or.inr ⟨by omega, ⟨by show l1.length ≤ _; omega, by show l2.length ≤ _; omega⟩⟩⟩

/-- What was seen, laid anew: each list a block of its own, all of it. -/
structure NewSn (w : World) (B g1 g2 : Nat) (l1 l2 : List Int) : Prop where
  ge : B ≤ g1
  lt : g1 < g2
  reads : IntS w (some ⟨g1, 0, none⟩) g1 0 l1
  last : IntS w (some ⟨g2, 0, none⟩) g2 0 l2
  own1 : ∃ f, w.rowIs g1 3 l1.length f
  own2 : ∃ f, w.rowIs g2 3 l2.length f

/-- The value that it is. -/
def newSn (g1 g2 : Nat) (l1 l2 : List Int) : Sn := ⟨some ⟨g1, 0, none⟩, g1, 0, l1.length, l1, some ⟨g2, 0, none⟩, g2, 0, l2.length, l2⟩
theorem NewSn.at {w : World} {B g1 g2 : Nat} {l1 l2 : List Int} (h : NewSn w B g1 g2 l1 l2) : (newSn g1 g2 l1 l2).At w := ⟨h.reads, h.last⟩
theorem NewSn.mono {w : World} {B B' g1 g2 : Nat} {l1 l2 : List Int} (h : NewSn w B g1 g2 l1 l2) (hB : B' ≤ B) : NewSn w B' g1 g2 l1 l2 := ⟨Nat.le_trans hB h.ge, h.lt, h.reads, h.last, h.own1, h.own2⟩
theorem NewSn.below {w w' : World} {B C g1 g2 : Nat} {l1 l2 : List Int} (h : NewSn w B g1 g2 l1 l2) (hb : Below C w w') (hC : w.heap.size ≤ C) : NewSn w' B g1 g2 l1 l2 := by
  obtain ⟨f1, h1⟩ := h.own1
  obtain ⟨f2, h2⟩ := h.own2
  exact ⟨h.ge, h.lt, h.reads.below hb hC, h.last.below hb hC, ⟨f1, h1.of_block (hb.block _ (Nat.lt_of_lt_of_le h1.lt hC))⟩, ⟨f2, h2.of_block (hb.block _ (Nat.lt_of_lt_of_le h2.lt hC))⟩⟩

theorem NewSn.other {w : World} {B g1 g2 : Nat} {l1 l2 : List Int} (h : NewSn w B g1 g2 l1 l2) {b i : Nat} (hb : b < g1) (u : Value) : NewSn (w.setCell ⟨b, i, none⟩ u) B g1 g2 l1 l2 := by
  obtain ⟨f1, h1⟩ := h.own1
  obtain ⟨f2, h2⟩ := h.own2
  have := h.lt
  exact ⟨h.ge, h.lt, h.reads.other (by omega), h.last.other (by omega), ⟨f1, h1.of_block (Below.heap_setCell _ _ _ _ (by simp; omega))⟩, ⟨f2, h2.of_block (Below.heap_setCell _ _ _ _ (by simp; omega))⟩⟩

set_option maxHeartbeats 1000000 in
theorem toSeen_any (s : Sn) (w : World) (hl : s.Le 1048576) (h : s.At w) :
    Calls Try.prog 19 #[.agg #[.slice s.a1 s.l1.length s.c1, .slice s.a2 s.l2.length s.c2]] w fun e w' => ∃ g1 g2, e = .returned (.agg #[.slice (some ⟨g1, 0, none⟩) s.l1.length s.l1.length, .slice (some ⟨g2, 0, none⟩) s.l2.length s.l2.length]) ∧ NewSn w' w.heap.size g1 g2 s.l1 s.l2 ∧ Below w.heap.size w w' := by
  obtain ⟨a1, b1, o1, c1, l1, a2, b2, o2, c2, l2⟩ := s
  obtain ⟨hl1, hl2⟩ := hl
  obtain ⟨as1, as2⟩ := h
  simp only at hl1 hl2 as1 as2
  go_enter Try.func19, Try.ntmps19
  go_wp2_with fail
  have hb3 := below3 w (.cells #[.slice a1 l1.length c1, .slice a2 l2.length c2] 42) (.cells #[.slice none 0 0, .slice none 0 0] 28) (.cells #[.slice none 0 0, .slice none 0 0] 28)
  refine (toIntS_any a1 b1 o1 c1 l1 _ hl1 (as1.below hb3 (Nat.le_refl _))).mono ?_
  rintro e w1 ⟨rfl, hn1, ⟨f1, hr1⟩, hb1⟩
  obtain ⟨hc1, hf1⟩ := bcell hb1
  simp only [World.size_alloc] at hn1 hr1 hb1 hc1 hf1
  have hlt1 := hr1.lt
  go_wp2_with fail
  have hb1' : Below w.heap.size w (w1.setCell ⟨w.heap.size + 1 + 1, 0, none⟩ (.slice (some ⟨w.heap.size + 1 + 1 + 1, 0, none⟩) l1.length l1.length)) := (hb3.trans (hb1.mono (by omega))).setCell (by show w.heap.size ≤ w.heap.size + 1 + 1; omega) _
  refine (toIntS_any a2 b2 o2 c2 l2 _ hl2 (as2.below hb1' (Nat.le_refl _))).mono ?_
  rintro e w2 ⟨rfl, hn2, ⟨f2, hr2⟩, hb2⟩
  obtain ⟨hc2, hf2⟩ := bcell hb2
  have hs2 : (w1.setCell ⟨w.heap.size + 1 + 1, 0, none⟩ (.slice (some ⟨w.heap.size + 1 + 1 + 1, 0, none⟩) l1.length l1.length)).heap.size = w1.heap.size := World.size_setCell _ _ _
  rw [hs2] at hn2 hr2 hb2 hc2 hf2
  have d0 : w1.cell? ⟨w.heap.size + 1 + 1, 0, none⟩ = some (.slice none 0 0) := by
    have h := hc1 (w.heap.size + 1 + 1) 0 (by omega)
    rw [h]
    simp [go_sem]
  have d1 : w1.cell? ⟨w.heap.size + 1 + 1, 1, none⟩ = some (.slice none 0 0) := by
    have h := hc1 (w.heap.size + 1 + 1) 1 (by omega)
    rw [h]
    simp [go_sem]
  have d2 : w1.cell? ⟨w.heap.size + 1, 0, none⟩ = some (.slice none 0 0) := by
    have h := hc1 (w.heap.size + 1) 0 (by omega)
    rw [h]
    simp [go_sem]
  have d3 : w1.cell? ⟨w.heap.size + 1, 1, none⟩ = some (.slice none 0 0) := by
    have h := hc1 (w.heap.size + 1) 1 (by omega)
    rw [h]
    simp [go_sem]
  have e0 : w2.cell? ⟨w.heap.size + 1 + 1, 0, none⟩ = some (.slice (some ⟨w.heap.size + 1 + 1 + 1, 0, none⟩) l1.length l1.length) := by
    rw [hc2 _ _ (by omega)]
    exact World.cell?_setCell_same _ _ _ d0
  have e1 : w2.cell? ⟨w.heap.size + 1 + 1, 1, none⟩ = some (.slice none 0 0) := by
    rw [hc2 _ _ (by omega), World.cell?_setCell_other _ _ _ _ (by simp)]; exact d1
  have e2 : w2.cell? ⟨w.heap.size + 1, 0, none⟩ = some (.slice none 0 0) := by
    rw [hc2 _ _ (by omega), World.cell?_setCell_other _ _ _ _ (by simp)]; exact d2
  have e3 : w2.cell? ⟨w.heap.size + 1, 1, none⟩ = some (.slice none 0 0) := by
    rw [hc2 _ _ (by omega), World.cell?_setCell_other _ _ _ _ (by simp)]; exact d3
  have z0 : w2.frozen? ⟨w.heap.size + 1 + 1, 1, none⟩ = false := by
    rw [hf2 _ _ (by omega), World.frozen?_setCell, hf1 _ _ (by omega)]; simp [go_sem]
  have z1 : w2.frozen? ⟨w.heap.size + 1, 0, none⟩ = false := by
    rw [hf2 _ _ (by omega), World.frozen?_setCell, hf1 _ _ (by omega)]; simp [go_sem]
  have z2 : w2.frozen? ⟨w.heap.size + 1, 1, none⟩ = false := by
    rw [hf2 _ _ (by omega), World.frozen?_setCell, hf1 _ _ (by omega)]; simp [go_sem]
  have hn1' : NewSn w2 w.heap.size (w.heap.size + 1 + 1 + 1) w1.heap.size l1 l2 :=
    ⟨by omega, hlt1, (hn1.other (by omega)).below hb2 (by rw [hs2]; exact Nat.le_refl _), hn2, ⟨f1, (hr1.of_block (by rw [hb2.block _ hlt1]; exact Below.heap_setCell _ _ _ _ (by simp))).of_block rfl⟩, ⟨f2, hr2⟩⟩
  clear hc1 hf1 hc2 hf2 d0 d1 d2 d3
  rw [hs2]
  go_wp2_with fail
  have hbw2 : Below w.heap.size w w2 := hb1'.trans (hb2.mono (by omega))
  refine bodyPost_ret (v := .agg #[.slice (some ⟨w.heap.size + 1 + 1 + 1, 0, none⟩) l1.length l1.length, .slice (some ⟨w1.heap.size, 0, none⟩) l2.length l2.length]) (by simp [results, Try.results19, go_sem, e2, e3]) rfl ⟨_, _, rfl, ?_, ?_⟩
  · exact ((hn1'.other (by omega) _).other (by omega) _).other (by omega) _
  · exact ((hbw2.setCell (by show w.heap.size ≤ w.heap.size + 1 + 1; omega) _).setCell (by show w.heap.size ≤ w.heap.size + 1; omega) _).setCell (by show w.heap.size ≤ w.heap.size + 1; omega) _

set_option maxHeartbeats 400000 in
theorem eqSeen_same (s t : Sn) (w : World) (hl : s.Le 1048576) (h1 : t.l1 = s.l1) (h2 : t.l2 = s.l2) (hs : s.At w) (ht : t.At w) :
    Calls Try.prog 21 #[.agg #[.slice s.a1 s.l1.length s.c1, .slice s.a2 s.l2.length s.c2], .agg #[.slice t.a1 t.l1.length t.c1, .slice t.a2 t.l2.length t.c2]] w fun e w' => e = .returned (.bool true) ∧ Grown w w' := by
  obtain ⟨a1, b1, o1, c1, l1, a2, b2, o2, c2, l2⟩ := s
  obtain ⟨d1, e1, f1, g1, m1, d2, e2, f2, g2, m2⟩ := t
  simp only at h1 h2
  subst h1; subst h2
  have hga := hs.grown (alloc2 w (.cells #[.slice a1 m1.length c1, .slice a2 m2.length c2] 28) (.cells #[.slice d1 m1.length g1, .slice d2 m2.length g2] 28))
  have hgb := ht.grown (alloc2 w (.cells #[.slice a1 m1.length c1, .slice a2 m2.length c2] 28) (.cells #[.slice d1 m1.length g1, .slice d2 m2.length g2] 28))
  obtain ⟨as1, as2⟩ := hga
  obtain ⟨at1, at2⟩ := hgb
  obtain ⟨hl1, hl2⟩ := hl
  simp only at as1 as2 at1 at2 hl1 hl2
  go_enter Try.func21, Try.ntmps21
  go_wp2_with fail
  refine (eqIntS_same a1 b1 o1 c1 d1 e1 f1 g1 m1 _ hl1 as1 at1).mono ?_
  rintro e w1 ⟨rfl, hg1⟩
  obtain ⟨hc1, hf1⟩ := bcell hg1.bel
  go_wp2_with fail
  refine (eqIntS_same a2 b2 o2 c2 d2 e2 f2 g2 m2 _ hl2 (as2.below hg1.bel (Nat.le_refl _)) (at2.below hg1.bel (Nat.le_refl _))).mono ?_
  rintro e w2 ⟨rfl, hg2⟩
  go_wp2_with fail
  go_ret
  exact ⟨rfl, ((alloc2 w _ _).trans hg1).trans hg2⟩

end Go.Proofs.Ytnaljfnijcoheaa
