/- spec.l71Do: a drawn step. -/
import Derived.Test.YtbipmookmhihlaaGreatRd
namespace Go.Proofs.YtbipmookmhihlaaGreat
open Go.RowKit

theorem tenth (q : Nat) (hq : q < 10) : ∃ k : Int, (k = 1 ∨ k = 2 ∨ k = 3 ∨ k = 4 ∨ k = 5 ∨ k = 6) ∧
    (#[Value.int IntKind.i64 1, Value.int IntKind.i64 1, Value.int IntKind.i64 1, Value.int IntKind.i64 2, Value.int IntKind.i64 2, Value.int IntKind.i64 2, Value.int IntKind.i64 3, Value.int IntKind.i64 4, Value.int IntKind.i64 5, Value.int IntKind.i64 6] : Array Value)[q]? = some (.int .i64 k) := by
  rcases (show q = 0 ∨ q = 1 ∨ q = 2 ∨ q = 3 ∨ q = 4 ∨ q = 5 ∨ q = 6 ∨ q = 7 ∨ q = 8 ∨ q = 9 by omega) with rfl | rfl | rfl | rfl | rfl | rfl | rfl | rfl | rfl | rfl
  · exact ⟨1, by decide, rfl⟩
  · exact ⟨1, by decide, rfl⟩
  · exact ⟨1, by decide, rfl⟩
  · exact ⟨2, by decide, rfl⟩
  · exact ⟨2, by decide, rfl⟩
  · exact ⟨2, by decide, rfl⟩
  · exact ⟨3, by decide, rfl⟩
  · exact ⟨4, by decide, rfl⟩
  · exact ⟨5, by decide, rfl⟩
  · exact ⟨6, by decide, rfl⟩

/-- A box of three cells. -/
structure Slot3 (w : World) (b : Nat) (x0 x1 x2 : Value) : Prop where
  c0 : w.cell? ⟨b, 0, none⟩ = some x0
  c1 : w.cell? ⟨b, 1, none⟩ = some x1
  c2 : w.cell? ⟨b, 2, none⟩ = some x2
  fz : ∀ i, w.frozen? ⟨b, i, none⟩ = false
theorem Slot3.lt {w : World} {b : Nat} {x0 x1 x2 : Value} (h : Slot3 w b x0 x1 x2) : b < w.heap.size := World.block_lt_of_cell? _ _ h.c0
theorem Slot3.but {w w' : World} {b rb : Nat} {x0 x1 x2 : Value} (h : Slot3 w b x0 x1 x2) (hb : But rb w w') (hne : b ≠ rb) : Slot3 w' b x0 x1 x2 :=
  ⟨(hb.cell (p := ⟨b, 0, none⟩) h.lt hne).trans h.c0, (hb.cell (p := ⟨b, 1, none⟩) h.lt hne).trans h.c1, (hb.cell (p := ⟨b, 2, none⟩) h.lt hne).trans h.c2, fun i => (hb.frozen (p := ⟨b, i, none⟩) h.lt hne).trans (h.fz i)⟩
theorem Slot3.new (w : World) (x0 x1 x2 : Value) (t : TypeId) : Slot3 (w.alloc (.cells #[x0, x1, x2] t)) w.heap.size x0 x1 x2 :=
  ⟨by simp, by simp, by simp, fun i => by simp⟩
theorem Slot3.set1 {w : World} {b : Nat} {x0 x1 x2 : Value} (h : Slot3 w b x0 x1 x2) (u : Value) : Slot3 (w.setCell ⟨b, 1, none⟩ u) b x0 u x2 :=
  ⟨(World.cell?_setCell_other _ _ _ _ (by simp)).trans h.c0, World.cell?_setCell_same _ _ _ h.c1, (World.cell?_setCell_other _ _ _ _ (by simp)).trans h.c2, fun i => by rw [World.frozen?_setCell]; exact h.fz i⟩
theorem Slot3.far {w : World} {b b' i : Nat} {x0 x1 x2 : Value} (h : Slot3 w b x0 x1 x2) (hne : b' ≠ b) (u : Value) : Slot3 (w.setCell ⟨b', i, none⟩ u) b x0 x1 x2 :=
  ⟨(World.cell?_setCell_other _ _ _ _ (fun e => hne (congrArg Addr.block e))).trans h.c0, (World.cell?_setCell_other _ _ _ _ (fun e => hne (congrArg Addr.block e))).trans h.c1, (World.cell?_setCell_other _ _ _ _ (fun e => hne (congrArg Addr.block e))).trans h.c2, fun i => by rw [World.frozen?_setCell]; exact h.fz i⟩

end Go.Proofs.YtbipmookmhihlaaGreat
