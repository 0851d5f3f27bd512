/- Rows of steps that a slice literal makes, and two threads of such. No condition. -/
import Derived.Test.YtoabfiocjjfjeaaShMath
import Derived.Test.YtoabfiocjjfjeaaRdM
import Derived.Test.YtoabfiocjjfjeaaTnGo
import Derived.Handy
namespace Go.Proofs.Ytoabfiocjjfjeaa
open Go.RowKit

theorem own_lit {w : World} {B : Nat} (l : List M.D) {cs : Array Value} (hB : B ≤ w.heap.size) (hcs : cs.toList = flat l) (hn : l.length ≤ 1000) : (w.alloc (.cells cs 34)).ownsRow B 34 3 (.slice (some ⟨w.heap.size, 0, none⟩) l.length l.length) l.length (flat l) :=
  ⟨flat_length l, .inr ⟨_, l.length, cs, rfl, hB, heap_alloc_new w _, Nat.le_refl _, by unfold maxLen; omega, by rw [← Array.length_toList, hcs, flat_length], by rw [hcs, ← flat_length, List.take_length]⟩⟩
theorem own_lit2 {w : World} {B : Nat} {v1 v2 : Value} (hB : B ≤ w.heap.size) : (w.alloc (.cells #[v1, v2] 32)).ownsRow B 32 1 (.slice (some ⟨w.heap.size, 0, none⟩) 2 2) 2 [v1, v2] :=
  ⟨rfl, .inr ⟨_, 2, _, rfl, hB, heap_alloc_new w _, Nat.le_refl _, by unfold maxLen; omega, rfl, rfl⟩⟩
theorem rdg_two {w : World} {B : Nat} {v v1 v2 : Value} {l1 l2 : List M.D} (r1 : w.ownsRow B 34 3 v1 l1.length (flat l1)) (r2 : w.ownsRow B 34 3 v2 l2.length (flat l2)) (hne : ∀ k, v1.ownBlock = some k → v2.ownBlock ≠ some k) (o : w.ownsRow B 32 1 v 2 [v1, v2]) : Rdg w B v [l1, l2] [v1, v2] := by
  refine ⟨⟨o, rfl, fun i h h' => ?_⟩, fun i j hi hj hij k hk => ?_⟩
  · match i, h, h' with
    | 0, _, _ => exact r1
    | 1, _, _ => exact r2
  · match i, j, hi, hj, hij, hk with
    | 0, 1, _, _, _, hk => exact hne k hk
    | 1, 0, _, _, _, hk => exact fun e => hne k e hk
    | 0, 0, _, _, hij, _ => exact absurd rfl hij
    | 1, 1, _, _, hij, _ => exact absurd rfl hij
theorem own_ne {w w' : World} {B : Nat} {v1 : Value} {n : Nat} {xs : List Value} {e : TypeId} {z : Nat} (r1 : w.ownsRow B e z v1 n xs) (hs : w.heap.size ≤ w'.heap.size) {m c : Nat} : ∀ k, v1.ownBlock = some k → (Value.slice (some ⟨w'.heap.size, 0, none⟩) m c).ownBlock ≠ some k := fun k hk e => by
  have h1 := (r1.lt k hk).2
  have h2 : w'.heap.size = k := Option.some.inj e
  omega

end Go.Proofs.Ytoabfiocjjfjeaa
