/- spec.l71Exec: a drawn program, and one way in which all may have been, mostly. -/
import Derived.Test.YtphijhpleemjoaaGreatBFbg
namespace Go.Proofs.YtphijhpleemjoaaGreat
open Go.RowKit
theorem RX.form {w : World} {base n : Nat} {v : Value} {cs : List Value} (h : RX w base v cs n) : ∃ va gl cl, v = .slice va n cl ∧ (0 < n → va = some ⟨gl, 0, none⟩ ∧ base ≤ gl) ∧ ∀ j u, cs[j]? = some u → w.cell? ⟨gl, j, none⟩ = some u := by
 rcases h.own.2 with ⟨hv, hn⟩ | ⟨g, cap, cur, hv, hg, hh, hc, r⟩
 ·have hx : cs = [] := List.length_eq_zero_iff.1 (by rw [h.own.1, hn])
  subst hx
  exact ⟨none, 0, 0, by rw [hv, hn], fun h => absurd h (by omega), fun j u hj => (by simp at hj)⟩
 ·refine ⟨_, g, cap, hv, fun _ => ⟨rfl, hg⟩, fun j u hj => ?_⟩
  have := h.own.cells (g := g) (by rw [hv]; rfl) j u hj
  rwa [Go.WideShapes.add_plain, Nat.zero_add] at this
end Go.Proofs.YtphijhpleemjoaaGreat
