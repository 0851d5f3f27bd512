/- A drawn program in a box of a law. No condition. -/
import Derived.Test.YtlblmcplbfoegaaGreatDrAn
namespace Go.Proofs.YtlblmcplbfoegaaGreat
open Go.RowKit

theorem Slot1.bel {w w' : World} {b : Nat} {x : Value} (h : Slot1 w b x) (hb : Below w.heap.size w w') : Slot1 w' b x :=
  ⟨(hb.cell (p := ⟨b, 0, none⟩) h.lt).trans h.c, (hb.frozen (p := ⟨b, 0, none⟩) h.lt).trans h.fz⟩

/-- A program, in its box. -/
structure BoxP (w W : World) (P : Nat) (a : Option Addr) (g c : Nat) (mm : List (List M.D)) : Prop where
  bel : Below w.heap.size w W
  p : Slot1 W P (.slice a mm.length c)
  ss : DoSS W a g 0 mm
theorem BoxP.below {w W W' : World} {P : Nat} {a : Option Addr} {g c : Nat} {mm : List (List M.D)} (h : BoxP w W P a g c mm) (hb : Below W.heap.size W W') : BoxP w W' P a g c mm :=
  ⟨h.bel.trans (hb.mono h.bel.size), h.p.bel hb, h.ss.below hb (Nat.le_refl _)⟩
theorem BoxP.new {w w1 : World} {a : Option Addr} {g c : Nat} {mm : List (List M.D)} (hb1 : Below w.heap.size w w1) (hs : DoSS w1 a g 0 mm) : BoxP w (w1.alloc (.cells #[.slice a mm.length c] 25)) w1.heap.size a g c mm :=
  ⟨hb1.alloc hb1.size _, Slot1.new w1 _ _, hs.below (below1 w1 _) (Nat.le_refl _)⟩
/-- One thread of it alone. -/
theorem DoSS.alone {w : World} {g o i : Nat} {mm : List (List M.D)} (h : DoSS w (some ⟨g, o, none⟩) g o mm) (hi : i < mm.length) : DoSS w (some ⟨g, o + i, none⟩) g (o + i) [mm[i]] := by
  refine ⟨fun _ => rfl, fun j hj => ?_⟩
  have : j = 0 := by simp at hj; omega
  subst this
  exact h.row i hi
theorem Small.le {mm : List (List M.D)} {c : Nat} (h : Small mm c) : ∀ t ∈ mm, t.length ≤ 1048576 := fun t ht => by have := h.steps t ht; omega

end Go.Proofs.YtlblmcplbfoegaaGreat
