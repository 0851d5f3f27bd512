/- The law's own copying of ways: laws.toIntSS, toExec. Of rows of at most 1048576 numbers. -/
import Derived.Test.YtdlpdiioggiehaaGreatXoSz
import Derived.Test.YtdlpdiioggiehaaGreatConv
namespace Go.Proofs.YtdlpdiioggiehaaGreat
open Go.RowKit

theorem Tryz.infoRow : (Tryz.prog.info? 25).map (fun i => (i.zero, i.size, i.bytes)) = some (some (.slice none 0 0), 1, 24) := by kernel_rfl

/-- The first n rows are copied. -/
structure PartR (w wr : World) (rows : List (List Int)) (n : Nat) : Prop where
  bel : Below w.heap.size w wr
  own : ∃ f, wr.rowIs w.heap.size 25 rows.length f
  done : ∀ q (_ : q < n) (h : q < rows.length), ∃ a' b' o' c', wr.cell? ⟨w.heap.size, q, none⟩ = some (.slice a' rows[q].length c') ∧ IntS wr a' b' o' rows[q] ∧ w.heap.size < b' ∧ Fz wr b' ∧ b' < wr.heap.size
theorem partR_step {w wr w1 : World} {rows : List (List Int)} {n : Nat} {t : List Int} {a' : Option Addr} {b' o' c' : Nat} (hp : PartR w wr rows n) (hb1 : Below wr.heap.size wr w1) (hd : ∀ h : n < rows.length, rows[n] = t)
    (hs : IntS w1 a' b' o' t) (hb' : w.heap.size < b') (hz : Fz w1 b' ∧ b' < w1.heap.size) : PartR w (w1.setCell ⟨w.heap.size, n, none⟩ (.slice a' t.length c')) rows (n + 1) := by
  obtain ⟨f, hf⟩ := hp.own
  have hlb := hf.lt
  have hf1 : w1.rowIs w.heap.size 25 rows.length f := hf.of_block (hb1.block _ hlb)
  have hr := hf1.set n (.slice a' t.length c')
  refine ⟨(hp.bel.trans (hb1.mono hp.bel.size)).setCell (Nat.le_refl _) _, ⟨_, hr⟩, fun q hq hql => ?_⟩
  by_cases e : q = n
  · subst e
    rw [hd hql]
    exact ⟨a', b', o', c', by rw [hr.cell hql]; simp, hs.other (by omega), hb', hz.1.set _ _, by simpa [World.setCell] using hz.2⟩
  · obtain ⟨a2, b2, o2, c2, hc2, hd2, hb2, hz2, hl2⟩ := hp.done q (by omega) hql
    refine ⟨a2, b2, o2, c2, ?_, (hd2.below hb1 (Nat.le_refl _)).other (by omega), hb2, (hz2.below hb1 hl2).set _ _, by have := hb1.size; simp [World.setCell]; omega⟩
    rw [World.cell?_setCell_other _ _ _ _ (fun e' => e (by have := congrArg Addr.off e'; simp at this; omega)), hb1.cell (p := ⟨w.heap.size, q, none⟩) hlb]
    exact hc2
/-- Rows that a call has made: all their blocks are new ones, from B on, below N, and may be written. -/
structure NewRR (w : World) (B N g : Nat) (rows : List (List Int)) : Prop where
  ge : B ≤ g
  row : ∀ i (h : i < rows.length), ∃ a' b' o' c', w.cell? ⟨g, i, none⟩ = some (.slice a' rows[i].length c') ∧ IntS w a' b' o' rows[i] ∧ B ≤ b' ∧ Fz w b' ∧ b' < N
  le : N ≤ w.heap.size
theorem NewRR.old {w : World} {B N g : Nat} {rows : List (List Int)} (h : NewRR w B N g rows) : IntSS w (some ⟨g, 0, none⟩) g 0 rows :=
  ⟨fun _ => rfl, fun i hi => by
    obtain ⟨a', b', o', c', hc, hd, _⟩ := h.row i hi
    exact ⟨a', b', o', c', by rw [Nat.zero_add]; exact hc, hd⟩⟩
theorem NewRR.other {w : World} {B N g : Nat} {rows : List (List Int)} (h : NewRR w B N g rows) {b i : Nat} (hb : b < B) (u : Value) : NewRR (w.setCell ⟨b, i, none⟩ u) B N g rows :=
  ⟨h.ge, fun j hj => by
    obtain ⟨a', b', o', c', hc, hd, hb', hz, hl2⟩ := h.row j hj
    have hg := h.ge
    exact ⟨a', b', o', c', by rw [World.cell?_setCell_other _ _ _ _ (fun e => by have := congrArg Addr.block e; simp at this; omega)]; exact hc, hd.other (by omega), hb', hz.set _ _, hl2⟩, by have := h.le; simpa [World.setCell] using this⟩
theorem NewRR.below {w w' : World} {B C N g : Nat} {rows : List (List Int)} (h : NewRR w B N g rows) (hb : Below C w w') (hC : w.heap.size ≤ C) : NewRR w' B N g rows :=
  ⟨h.ge, fun i hi => by
    obtain ⟨a', b', o', c', hc, hd, hb', hz, hl2⟩ := h.row i hi
    have hl := World.block_lt_of_cell? _ _ hc
    exact ⟨a', b', o', c', by rw [hb.cell (p := ⟨g, i, none⟩) (Nat.lt_of_lt_of_le hl hC)]; exact hc, hd.below hb hC, hb', hz.below hb (Nat.lt_of_lt_of_le (Nat.lt_of_lt_of_le hl2 h.le) hC), hl2⟩, Nat.le_trans h.le hb.size⟩
theorem NewRR.mono {w : World} {B B' N g : Nat} {rows : List (List Int)} (h : NewRR w B N g rows) (hB : B' ≤ B) : NewRR w B' N g rows :=
  ⟨Nat.le_trans hB h.ge, fun i hi => by
    obtain ⟨a', b', o', c', hc, hd, hb, hz⟩ := h.row i hi
    exact ⟨a', b', o', c', hc, hd, Nat.le_trans hB hb, hz⟩, h.le⟩
/-- A way that a call has made. -/
structure NewX (w : World) (B N g1 g2 : Nat) (l : List Int) (rows : List (List Int)) : Prop where
  f : IntS w (some ⟨g1, 0, none⟩) g1 0 l
  fz : Fz w g1
  ge : B ≤ g1
  lt : g1 < N
  r : NewRR w B N g2 rows
theorem NewX.below {w w' : World} {B C N g1 g2 : Nat} {l : List Int} {rows : List (List Int)} (h : NewX w B N g1 g2 l rows) (hb : Below C w w') (hC : w.heap.size ≤ C) : NewX w' B N g1 g2 l rows :=
  ⟨h.f.below hb hC, h.fz.below hb (Nat.lt_of_lt_of_le (Nat.lt_of_lt_of_le h.lt h.r.le) hC), h.ge, h.lt, h.r.below hb hC⟩
theorem NewX.mono {w : World} {B B' N g1 g2 : Nat} {l : List Int} {rows : List (List Int)} (h : NewX w B N g1 g2 l rows) (hB : B' ≤ B) : NewX w B' N g1 g2 l rows := ⟨h.f, h.fz, Nat.le_trans hB h.ge, h.lt, h.r.mono hB⟩

set_option maxHeartbeats 400000 in
theorem toIntSS_any (a : Option Addr) (b o c : Nat) (rows : List (List Int)) (w : World) (hl : rows.length ≤ 1048576) (hrs : ∀ r ∈ rows, r.length ≤ 1048576) (h : IntSS w a b o rows) :
    Calls Tryz.prog 23 #[.slice a rows.length c] w fun e w' => e = .returned (.slice (some ⟨w.heap.size, 0, none⟩) rows.length rows.length) ∧ NewRR w' w.heap.size w'.heap.size w.heap.size rows ∧ Below w.heap.size w w' := by
  have hmk := run_make_row' (P := Tryz.prog) 26 25 (.slice none 0 0) 24 Tryz.underlying26 Tryz.infoRow rfl .i64 .i64 rows.length (by omega) (by omega)
  go_enter Tryz.func23, Tryz.ntmps23
  go_wp2_with fail
  clear hmk
  go_loopw [4] (fun s4 wr => ∃ n : Nat, s4 = .int .i64 n ∧ n ≤ rows.length ∧ PartR w wr rows n) (fun s4 _ => rows.length - (intOf s4).toNat)
  case atStart => exact ⟨0, rfl, Nat.zero_le _, ⟨below1 _ _, ⟨_, World.rowIs_made w (.slice none 0 0) rows.length 25⟩, fun _ hq _ => absurd hq (Nat.not_lt_zero _)⟩⟩
  case round =>
    obtain ⟨n, rfl, hn, hpart⟩ := hrel
    by_cases hlt : n < rows.length
    · obtain ⟨rfl⟩ := h.addr (by omega)
      obtain ⟨a', b', o', c', hc, hd⟩ := (h.below hpart.bel (Nat.le_refl _)).row n hlt
      have hlt' := hrs _ (List.getElem_mem hlt)
      generalize hln : rows[n] = t at hd hc hlt'
      have HL : Hid (∀ h : n < rows.length, rows[n] = t) := fun _ => hln
      clear hln
      obtain ⟨f, hf⟩ := hpart.own
      have hlb := hf.lt
      go_wp2_with (go_at_call 22; refine (toIntS_any a' b' o' c' t _ hlt' hd).mono ?_; rintro e w1 ⟨rfl, hs1, ⟨f1, hf1⟩, hb1⟩; have c0 : w1.cell? ⟨w.heap.size, n, none⟩ = some (f n) := (hb1.cell (p := ⟨w.heap.size, n, none⟩) hlb).trans (hf.cell hlt); have f0 : ∀ i, w1.frozen? ⟨w.heap.size, i, none⟩ = false := fun i => (hb1.frozen (p := ⟨w.heap.size, i, none⟩) hlb).trans (hf.frozen i))
      exact ⟨⟨n + 1, by go_num, by omega, partR_step hpart hb1 HL.out hs1 hlb ⟨fun j => hf1.frozen j, hf1.lt⟩⟩, by simp [intOf]; omega⟩
    · go_wp2_with fail
      go_ret
      refine ⟨rfl, ⟨Nat.le_refl _, fun i hi => ?_, Nat.le_refl _⟩, hpart.bel⟩
      obtain ⟨a', b', o', c', hc, hd, hb', hz⟩ := hpart.done i (by omega) hi
      exact ⟨a', b', o', c', hc, hd, Nat.le_of_lt hb', hz⟩

set_option maxHeartbeats 1000000 in
theorem toExec_any (fa : Option Addr) (fb fo fc : Nat) (l : List Int) (ra : Option Addr) (rb ro rc : Nat) (rows : List (List Int)) (w : World) (hl1 : l.length ≤ 1048576) (hl : rows.length ≤ 1048576) (hrs : ∀ r ∈ rows, r.length ≤ 1048576) (as1 : IntS w fa fb fo l) (as2 : IntSS w ra rb ro rows) :
    Calls Tryz.prog 8 #[.agg #[.slice fa l.length fc, .slice ra rows.length rc]] w fun e w' => ∃ g1 g2, e = .returned (.agg #[.slice (some ⟨g1, 0, none⟩) l.length l.length, .slice (some ⟨g2, 0, none⟩) rows.length rows.length]) ∧ NewX w' w.heap.size w'.heap.size g1 g2 l rows ∧ Below w.heap.size w w' := by
  go_enter Tryz.func8, Tryz.ntmps8
  go_wp2_with fail
  have hb3 := below3 w (.cells #[.slice fa l.length fc, .slice ra rows.length rc] 28) (.cells #[.slice none 0 0, .slice none 0 0] 36) (.cells #[.slice none 0 0, .slice none 0 0] 36)
  refine (toIntS_any fa fb fo fc l _ hl1 (as1.below hb3 (Nat.le_refl _))).mono ?_
  rintro e w1 ⟨rfl, hn1, ⟨f1, hr1⟩, hb1⟩
  obtain ⟨hc1, hf1⟩ := bcell hb1
  simp only [World.size_alloc] at hn1 hr1 hb1 hc1 hf1
  have hlt1 := hr1.lt
  go_wp2_with fail
  have hb1' : Below w.heap.size w (w1.setCell ⟨w.heap.size + 1 + 1, 0, none⟩ (.slice (some ⟨w.heap.size + 1 + 1 + 1, 0, none⟩) l.length l.length)) := (hb3.trans (hb1.mono (by omega))).setCell (by show w.heap.size ≤ w.heap.size + 1 + 1; omega) _
  refine (toIntSS_any ra rb ro rc rows _ hl hrs (as2.below hb1' (Nat.le_refl _))).mono ?_
  rintro e w2 ⟨rfl, hn2, hb2⟩
  obtain ⟨hc2, hf2⟩ := bcell hb2
  have hs2 : (w1.setCell ⟨w.heap.size + 1 + 1, 0, none⟩ (.slice (some ⟨w.heap.size + 1 + 1 + 1, 0, none⟩) l.length l.length)).heap.size = w1.heap.size := World.size_setCell _ _ _
  rw [hs2] at hn2 hb2 hc2 hf2
  have d0 : w1.cell? ⟨w.heap.size + 1 + 1, 0, none⟩ = some (.slice none 0 0) := by
    have h := hc1 (w.heap.size + 1 + 1) 0 (by omega)
    rw [h]
    simp [go_sem]
  have d1 : w1.cell? ⟨w.heap.size + 1 + 1, 1, none⟩ = some (.slice none 0 0) := by
    have h := hc1 (w.heap.size + 1 + 1) 1 (by omega)
    rw [h]
    simp [go_sem]
  have d2 : w1.cell? ⟨w.heap.size + 1, 0, none⟩ = some (.slice none 0 0) := by
    have h := hc1 (w.heap.size + 1) 0 (by omega)
    rw [h]
    simp [go_sem]
  have d3 : w1.cell? ⟨w.heap.size + 1, 1, none⟩ = some (.slice none 0 0) := by
    have h := hc1 (w.heap.size + 1) 1 (by omega)
    rw [h]
    simp [go_sem]
  have e0 : w2.cell? ⟨w.heap.size + 1 + 1, 0, none⟩ = some (.slice (some ⟨w.heap.size + 1 + 1 + 1, 0, none⟩) l.length l.length) := by
    rw [hc2 _ _ (by omega)]
    exact World.cell?_setCell_same _ _ _ d0
  have e1 : w2.cell? ⟨w.heap.size + 1 + 1, 1, none⟩ = some (.slice none 0 0) := by
    rw [hc2 _ _ (by omega), World.cell?_setCell_other _ _ _ _ (by simp)]; exact d1
  have e2 : w2.cell? ⟨w.heap.size + 1, 0, none⟩ = some (.slice none 0 0) := by
    rw [hc2 _ _ (by omega), World.cell?_setCell_other _ _ _ _ (by simp)]; exact d2
  have e3 : w2.cell? ⟨w.heap.size + 1, 1, none⟩ = some (.slice none 0 0) := by
    rw [hc2 _ _ (by omega), World.cell?_setCell_other _ _ _ _ (by simp)]; exact d3
  have z0 : w2.frozen? ⟨w.heap.size + 1 + 1, 1, none⟩ = false := by
    rw [hf2 _ _ (by omega), World.frozen?_setCell, hf1 _ _ (by omega)]; simp [go_sem]
  have z1 : w2.frozen? ⟨w.heap.size + 1, 0, none⟩ = false := by
    rw [hf2 _ _ (by omega), World.frozen?_setCell, hf1 _ _ (by omega)]; simp [go_sem]
  have z2 : w2.frozen? ⟨w.heap.size + 1, 1, none⟩ = false := by
    rw [hf2 _ _ (by omega), World.frozen?_setCell, hf1 _ _ (by omega)]; simp [go_sem]
  have hn1' := (hn1.other (B := w.heap.size + 1 + 1) (i := 0) (u := .slice (some ⟨w.heap.size + 1 + 1 + 1, 0, none⟩) l.length l.length) (by omega)).below hb2 (by rw [hs2]; exact Nat.le_refl _)
  have hz1 : Fz w2 (w.heap.size + 1 + 1 + 1) := fun j => by rw [hf2 _ _ (by omega), World.frozen?_setCell]; exact hr1.frozen j
  clear hc1 hf1 hc2 hf2 d0 d1 d2 d3
  rw [hs2]
  go_wp2_with fail
  have hbw2 : Below w.heap.size w w2 := hb1'.trans (hb2.mono (by omega))
  refine bodyPost_ret (v := .agg #[.slice (some ⟨w.heap.size + 1 + 1 + 1, 0, none⟩) l.length l.length, .slice (some ⟨w1.heap.size, 0, none⟩) rows.length rows.length]) (by simp [results, Tryz.results8, go_sem, e2, e3]) rfl ⟨_, _, rfl, ?_, ?_⟩
  · rw [show ∀ p q r u v x, (((w2.setCell p u).setCell q v).setCell r x).heap.size = w2.heap.size from fun p q r u v x => by simp [World.setCell]]
    exact ⟨((hn1'.other (by omega)).other (by omega)).other (by omega), (((hz1.set _ _).set _ _).set _ _), by omega, by have := hb2.size; omega, (((hn2.mono (by omega)).other (B := w1.heap.size) (by omega) _).other (by omega) _).other (by omega) _ |>.mono (by omega)⟩
  · exact ((hbw2.setCell (by show w.heap.size ≤ w.heap.size + 1 + 1; omega) _).setCell (by show w.heap.size ≤ w.heap.size + 1; omega) _).setCell (by show w.heap.size ≤ w.heap.size + 1; omega) _

end Go.Proofs.YtdlpdiioggiehaaGreat
