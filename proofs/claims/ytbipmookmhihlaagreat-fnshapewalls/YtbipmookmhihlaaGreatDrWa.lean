/- spec.l71Waiter: a drawn thread that waits. -/
import Derived.Test.YtbipmookmhihlaaGreatDrRe
import Derived.Deep.RegionWith
namespace Go.Proofs.YtbipmookmhihlaaGreat
open Go.RowKit

theorem twoth (q : Nat) (hq : q < 2) : ∃ k : Int, (#[Value.int IntKind.i64 1, Value.int IntKind.i64 6] : Array Value)[q]? = some (.int .i64 k) ∧ ([Value.int IntKind.i64 1, Value.int IntKind.i64 6] : List Value)[q]? = some (.int .i64 k) := by
  rcases (show q = 0 ∨ q = 1 by omega) with rfl | rfl
  · exact ⟨1, rfl, rfl⟩
  · exact ⟨6, rfl, rfl⟩
theorem own_three (W : World) (B H : Nat) (x0 x1 x2 y0 y1 y2 z0 z1 z2 : Int) (h : B ≤ W.heap.size) (hH : W.heap.size = H) :
    (W.alloc (.cells #[.int .i64 x0, .int .i64 x1, .int .i64 x2, .int .i64 y0, .int .i64 y1, .int .i64 y2, .int .i64 z0, .int .i64 z1, .int .i64 z2] 45)).ownsRow B 45 3 (.slice (some ⟨H, 0, none⟩) 3 3) 3 (flat [⟨x0, x1, x2⟩, ⟨y0, y1, y2⟩, ⟨z0, z1, z2⟩]) := by
  subst hH
  exact World.ownsRow_lit W _ 3 h (by decide) rfl
theorem blt_but {rb : Nat} {W w1 : World} (hb : But rb W w1) : ∀ b, b < W.heap.size → b < w1.heap.size := fun _ h => Nat.lt_of_lt_of_le h hb.size
theorem bcell_but {rb : Nat} {W w1 : World} (hb : But rb W w1) : ∀ b o, b < W.heap.size → rb < b → w1.cell? ⟨b, o, none⟩ = W.cell? ⟨b, o, none⟩ := fun b o h1 h2 => hb.cell (p := ⟨b, o, none⟩) h1 (by show b ≠ rb; omega)

end Go.Proofs.YtbipmookmhihlaaGreat
