/- What an argument of a law reads as: a list of what was seen, in memory. No condition. -/
import Derived.Test.YtkbjdhjcbhdpmabOpenSn
import Derived.Test.YtkbjdhjcbhdpmabSnIn
namespace Go.Proofs.Ytkbjdhjcbhdpmab
open Go.ChangeShapes Go.WideShapes Go.ChangeAt Go.RowKit Go.Deep

section
variable {H : Type} {enc : TypeId × Value → H} {w : World} {base : Nat} {spare : Nat → Bool} {held : Bool}

set_option maxRecDepth 100000 in
theorem open_seens {fuel : Nat} {u : Value} {x : DataW H × List MemPlace} (h : DataW.trod enc Try.prog w base spare held fuel 22 [u] = some x) :
    ∃ a b o c, ∃ ks : List Key, u = .slice a ks.length c ∧ ks.length ≤ maxLen ∧ KLe ks maxLen ∧ KS w a b o ks ∧ ∀ k ∈ ks, Wf k.1 ∧ Wf k.2 := by
  rcases open_slice Try.underlying22 h with ⟨hcs, _⟩ | ⟨a, len, cap, m, n, D, Pl, hcs, _, hl, hm, hmm, _, hel⟩
  · simp at hcs
    exact ⟨none, 0, 0, 0, [], hcs, Nat.zero_le _, fun t ht => absurd ht (by simp), KS.nil _ _ _ _, fun t ht => absurd ht (by simp)⟩
  · simp at hcs
    obtain ⟨gb, go, gs⟩ := a
    have hlm : len ≤ m := by rw [hmm]; split <;> omega
    rw [Try.cells32] at hel
    rcases Nat.eq_zero_or_pos len with h0 | hpos
    · subst h0
      exact ⟨_, 0, 0, cap, [], hcs, Nat.zero_le _, fun t ht => absurd ht (by simp), KS.nil _ _ _ _, fun t ht => absurd ht (by simp)⟩
    · have key : ∀ i, i < len → ∃ k : Key, (k.1.length ≤ maxLen ∧ k.2.length ≤ maxLen) ∧ (Wf k.1 ∧ Wf k.2) ∧ ∃ s : Sn, s.l1 = k.1 ∧ s.l2 = k.2 ∧ w.cell? ((Addr.mk gb go gs).add (i * 2) |>.add 0) = some (.slice s.a1 s.l1.length s.c1) ∧ w.cell? ((Addr.mk gb go gs).add (i * 2) |>.add 1) = some (.slice s.a2 s.l2.length s.c2) ∧ s.At w := fun i hi => by
        obtain ⟨cs', h1, h2⟩ := hel i (by omega)
        obtain ⟨s, rfl, hle, hat, f1, f2⟩ := open_seen h2
        have hc := (World.cells?_some h1).2.2
        exact ⟨(s.l1, s.l2), ⟨hle.reads, hle.last⟩, ⟨f1, f2⟩, s, rfl, rfl, hc 0 (by omega), hc 1 (by omega), hat⟩
      have hgs : gs = none := by
        obtain ⟨k, _, _, s, _, _, hk, _⟩ := key 0 hpos
        simpa [Addr.add] using World.cell?_spot hk
      subst hgs
      obtain ⟨f, hf⟩ := choose_lt (α := Key) key
      refine ⟨_, gb, go, cap, (List.range len).map f, by simp only [List.length_map, List.length_range]; exact hcs, by simp; omega, fun k hk => ?_, ⟨fun _ => rfl, fun i hi => ?_⟩, fun k hk => ?_⟩
      · obtain ⟨i, hi, rfl⟩ := List.mem_map.1 hk
        exact (hf i (List.mem_range.1 hi)).1
      · simp only [List.length_map, List.length_range] at hi
        obtain ⟨_, _, s, h1, h2, c0, c1, hat⟩ := hf i hi
        simp only [add_plain] at c0 c1
        rw [List.getElem_map, List.getElem_range]
        exact ⟨s, h1, h2, c0, c1, hat⟩
      · obtain ⟨i, hi, rfl⟩ := List.mem_map.1 hk
        exact (hf i (List.mem_range.1 hi)).2.1

end
end Go.Proofs.Ytkbjdhjcbhdpmab
