/- More on rows of the call's own, and boxes of one cell. No condition. -/
import Derived.Test.YtflmejjhnkpodaaDoSN
import Derived.Test.YtflmejjhnkpodaaSnFar
namespace Go.Proofs.Ytflmejjhnkpodaa
open Go.RowKit

theorem DoS.front {w : World} {b o : Nat} {t : List M.D} {d : M.D} (h : DoS w (some ⟨b, o, none⟩) b o (t ++ [d])) : DoS w (some ⟨b, o, none⟩) b o t :=
  ⟨fun _ => rfl, fun i hi => by
    have := h.row i (by rw [snoc_len]; omega)
    rwa [List.getElem_append_left hi] at this⟩
theorem Slot1.apart {w w' : World} {b : Nat} {x : Value} {row : Option Nat} (h : Slot1 w b x) (hg : w.grownBy w' row) (hr : row ≠ some b) : Slot1 w' b x := by
  have hne : some b ≠ row := fun e => hr e.symm
  exact ⟨hg.cell h.c hne, (World.frozen?_of_block (w := w) (hg.block b h.lt hne)).trans h.fz⟩

end Go.Proofs.Ytflmejjhnkpodaa
