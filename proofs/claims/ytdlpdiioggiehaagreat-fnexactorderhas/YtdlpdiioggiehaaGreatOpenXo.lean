/- What an argument of a law reads as: a way, in memory. No condition. -/
import Derived.Test.YtdlpdiioggiehaaGreatOpenNum
import Derived.Test.YtdlpdiioggiehaaGreatOkOrd
namespace Go.Proofs.YtdlpdiioggiehaaGreat
open Go.ChangeShapes Go.WideShapes Go.ChangeAt Go.RowKit Go.Deep

theorem Tryz.cells26 : Tryz.prog.cellsOf 26 = 1 := by kernel_rfl
theorem Tryz.cells28 : Tryz.prog.cellsOf 28 = 2 := by kernel_rfl

section
variable {H : Type} {enc : TypeId × Value → H} {w : World} {base : Nat} {spare : Nat → Bool} {held : Bool}

set_option maxRecDepth 100000 in
theorem open_rows {fuel : Nat} {u : Value} {x : DataW H × List MemPlace} (h : DataW.trod enc Tryz.prog w base spare held fuel 26 [u] = some x) :
    ∃ a b o c, ∃ rows : List (List Int), u = .slice a rows.length c ∧ rows.length ≤ maxLen ∧ (∀ t ∈ rows, t.length ≤ maxLen) ∧ IntSS w a b o rows := by
  rcases open_slice1 Tryz.underlying26 Tryz.cells25 h with ⟨hcs, _⟩ | ⟨a, len, cap, m, n, V, D, Pl, hcs, _, hl, hm, hmm, _, hel⟩
  · simp at hcs
    exact ⟨none, 0, 0, 0, [], hcs, Nat.zero_le _, fun t ht => absurd ht (by simp), ⟨fun h => absurd h (Nat.lt_irrefl _), fun i hi => absurd hi (Nat.not_lt_zero _)⟩⟩
  · simp at hcs
    obtain ⟨gb, go, gs⟩ := a
    have hlm : len ≤ m := by rw [hmm]; split <;> omega
    rcases Nat.eq_zero_or_pos len with h0 | hpos
    · subst h0
      exact ⟨_, 0, 0, cap, [], hcs, Nat.zero_le _, fun t ht => absurd ht (by simp), ⟨fun h => absurd h (Nat.lt_irrefl _), fun i hi => absurd hi (Nat.not_lt_zero _)⟩⟩
    · have hgs : gs = none := by simpa [Addr.add] using World.cell?_spot (hel 0 (by omega)).1
      subst hgs
      have key : ∀ i, i < len → ∃ l : List Int, l.length ≤ maxLen ∧ ∃ a' b' o' c', w.cell? ⟨gb, go + i, none⟩ = some (.slice a' l.length c') ∧ IntS w a' b' o' l := fun i hi => by
        obtain ⟨h1, h2⟩ := hel i (by omega)
        obtain ⟨a', b', o', c', l, e, hll, hs, _⟩ := open_nums h2
        rw [add_plain, e] at h1
        exact ⟨l, hll, a', b', o', c', h1, hs⟩
      obtain ⟨f, hf⟩ := choose_lt (α := List Int) key
      refine ⟨_, gb, go, cap, (List.range len).map f, by simp only [List.length_map, List.length_range]; exact hcs, by simp; omega, fun t ht => ?_, ⟨fun _ => rfl, fun i hi => ?_⟩⟩
      · obtain ⟨i, hi, rfl⟩ := List.mem_map.1 ht
        exact (hf i (List.mem_range.1 hi)).1
      · simp only [List.length_map, List.length_range] at hi
        rw [List.getElem_map, List.getElem_range]
        exact (hf i hi).2

set_option maxRecDepth 100000 in
theorem open_exec {fuel : Nat} {cs : List Value} {x : DataW H × List MemPlace} (h : DataW.trod enc Tryz.prog w base spare held fuel 28 cs = some x) :
    ∃ fa fb fo fc, ∃ l : List Int, ∃ ra rb ro rc, ∃ rows : List (List Int), cs = [.slice fa l.length fc, .slice ra rows.length rc] ∧ l.length ≤ maxLen ∧ rows.length ≤ maxLen ∧ (∀ t ∈ rows, t.length ≤ maxLen) ∧ IntS w fa fb fo l ∧ IntSS w ra rb ro rows := by
  obtain ⟨y0, y1, n, _, hl, t0, t1⟩ := trod_struct2 Tryz.underlying28 h
  rw [Tryz.cells28] at hl
  match cs, hl with
  | [u0, u1], _ =>
    have t0' : DataW.trod enc Tryz.prog w base spare held n 25 [u0] = some y0 := by simpa [Tryz.cells25] using t0
    have t1' : DataW.trod enc Tryz.prog w base spare held n 26 [u1] = some y1 := by simpa [Tryz.cells25, Tryz.cells26] using t1
    obtain ⟨a1, b1, o1, c1, l1, e1, h1, i1, _⟩ := open_nums t0'
    obtain ⟨a2, b2, o2, c2, l2, e2, h2, hs2, i2⟩ := open_rows t1'
    exact ⟨a1, b1, o1, c1, l1, a2, b2, o2, c2, l2, by rw [e1, e2], h1, h2, hs2, i1, i2⟩

end
end Go.Proofs.YtdlpdiioggiehaaGreat
