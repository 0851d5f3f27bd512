/- Two that were seen, in two boxes; of two that were seen one stands ahead, or they are the same. No condition. -/
import Derived.Test.YtfekeknnphoelaaDrSl
import Derived.Test.YtfekeknnphoelaaSnSame
namespace Go.Proofs.Ytfekeknnphoelaa
open Go.RowKit

theorem Slot2.bel {w w' : World} {b : Nat} {x y : Value} (h : Slot2 w b x y) (hb : Below w.heap.size w w') : Slot2 w' b x y := h.of (hb.block b h.lt)

/-- Two that were seen, in two boxes. -/
structure Box2 (w W : World) (P Q : Nat) (s t : Sn) : Prop where
  bel : Below w.heap.size w W
  p : Slot2 W P (.slice s.a1 s.l1.length s.c1) (.slice s.a2 s.l2.length s.c2)
  q : Slot2 W Q (.slice t.a1 t.l1.length t.c1) (.slice t.a2 t.l2.length t.c2)
  sa : s.At W
  ta : t.At W
theorem Box2.grown {w W W' : World} {P Q : Nat} {s t : Sn} (h : Box2 w W P Q s t) (hg : Grown W W') : Box2 w W' P Q s t :=
  ⟨h.bel.trans (hg.bel.mono h.bel.size), h.p.bel hg.bel, h.q.bel hg.bel, h.sa.grown hg, h.ta.grown hg⟩

theorem M.three (s t : Sn) : ∃ b1 b2 b3 : Bool, decide (M.cmpS s.l1 s.l2 t.l1 t.l2 < 0) = b1 ∧ decide (M.cmpS t.l1 t.l2 s.l1 s.l2 < 0) = b2 ∧ M.sameS s.l1 s.l2 t.l1 t.l2 = b3 ∧ ((b1 = true ∧ b2 = false ∧ b3 = false) ∨ (b1 = false ∧ b2 = true ∧ b3 = false) ∨ (b1 = false ∧ b2 = false ∧ b3 = true)) := by
  refine ⟨_, _, _, rfl, rfl, rfl, ?_⟩
  rw [M.sameS_eq, M.cmpS_neg s.l1 s.l2 t.l1 t.l2]
  generalize M.cmpS s.l1 s.l2 t.l1 t.l2 = z
  rcases Int.lt_trichotomy z 0 with h | h | h
  · exact Or.inl ⟨by simpa using h, by simp; omega, by simp; omega⟩
  · subst h; exact Or.inr (Or.inr ⟨by decide, by decide, by decide⟩)
  · exact Or.inr (Or.inl ⟨by simp; omega, by simp; omega, by simp; omega⟩)

end Go.Proofs.Ytfekeknnphoelaa
