/- More on rows of the call's own, and boxes of one cell. No condition. -/
import Derived.Test.YtfekeknnphoelabDoSN
namespace Go.Proofs.Ytfekeknnphoelab
open Go.RowKit

theorem snoc_len {α : Type} (l : List α) (x : α) : (l ++ [x]).length = l.length + 1 := by simp

theorem below_grown {B : Nat} {w0 w w' : World} {row : Option Nat} (h : Below B w0 w) (hg : w.grownBy w' row) (hr : ∀ k, row = some k → B ≤ k) (hB : B ≤ w.heap.size := by simp) : Below B w0 w' :=
  ⟨hg.os.trans h.os, hg.tape.trans h.tape, hg.output.trans h.output, Nat.le_trans h.size hg.size, fun k hk => (hg.block k (by omega) (fun e => by have := hr k e.symm; omega)).trans (h.block k hk)⟩
theorem ownsRow_below {w w' : World} {base : Nat} {e : TypeId} {size : Nat} {v : Value} {n : Nat} {xs : List Value} (h : w.ownsRow base e size v n xs) (hb : Below w.heap.size w w') : w'.ownsRow base e size v n xs := by
  obtain ⟨h1, h2⟩ := h
  refine ⟨h1, ?_⟩
  rcases h2 with h2 | ⟨g, cap, cur, hv, hg, hh, r⟩
  · exact Or.inl h2
  · refine Or.inr ⟨g, cap, cur, hv, hg, ?_, r⟩
    rw [hb.block g (by by_cases hlt : g < w.heap.size; exact hlt; rw [Array.getElem?_eq_none (by omega)] at hh; cases hh)]
    exact hh

theorem ownsRow_ne {w : World} {B g n c b i : Nat} {e : TypeId} {size : Nat} {xs : List Value} {u : Value} (h : w.ownsRow B e size (.slice (some ⟨g, 0, none⟩) n c) n xs) (hne : g ≠ b) : (w.setCell ⟨b, i, none⟩ u).ownsRow B e size (.slice (some ⟨g, 0, none⟩) n c) n xs := by
  obtain ⟨h1, h2⟩ := h
  refine ⟨h1, ?_⟩
  rcases h2 with h2 | ⟨g', cap, cur, hv, hg, hh, r⟩
  · exact Or.inl h2
  · have : g' = g := by simp at hv; exact hv.1.symm
    subst this
    exact Or.inr ⟨g', cap, cur, hv, hg, (Below.heap_setCell _ _ _ _ hne).trans hh, r⟩
theorem DoS.front {w : World} {b o : Nat} {t : List M.D} {d : M.D} (h : DoS w (some ⟨b, o, none⟩) b o (t ++ [d])) : DoS w (some ⟨b, o, none⟩) b o t :=
  ⟨fun _ => rfl, fun i hi => by
    have := h.row i (by rw [snoc_len]; omega)
    rwa [List.getElem_append_left hi] at this⟩
theorem Slot1.apart {w w' : World} {b : Nat} {x : Value} {row : Option Nat} (h : Slot1 w b x) (hg : w.grownBy w' row) (hr : row ≠ some b) : Slot1 w' b x := by
  have hne : some b ≠ row := fun e => hr e.symm
  exact ⟨hg.cell h.c hne, (World.frozen?_of_block (w := w) (hg.block b h.lt hne)).trans h.fz⟩

end Go.Proofs.Ytfekeknnphoelab
