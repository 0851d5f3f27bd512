/- Cells of literals; a row of steps more; steps as the cells of their row. No condition. -/
import Derived.Test.YtflmejjhnkpodaaDrTh
import Derived.Test.YtflmejjhnkpodaaMem
import Derived.Deep.AppendLies
namespace Go.Proofs.Ytflmejjhnkpodaa
open Go.RowKit

theorem own_more {w : World} {B : Nat} {v : Value} {l m : List M.D} {d : M.D} (hm : m = l ++ [d]) (h : w.ownsRow B 83 3 v (l.length + 1) (flat l ++ [.int .i64 d.k, .int .i64 d.p, .int .i64 d.v])) : w.ownsRow B 83 3 v m.length (flat m) := by
  subst hm; rw [flat_append, List.length_append]; exact h
theorem cells_new3 (w : World) (x y z : Value) (t : TypeId) (N : Nat) (hN : N = w.heap.size) : ∀ (j : Nat) (u : Value), [x, y, z][j]? = some u → (w.alloc (.cells #[x, y, z] t)).cell? ((⟨N, 0, none⟩ : Addr).add j) = some u := by
  subst hN
  intro j u hj
  match j, hj with
  | 0, hj => simp at hj; subst hj; simp [Addr.add]
  | 1, hj => simp at hj; subst hj; simp [Addr.add]
  | 2, hj => simp at hj; subst hj; simp [Addr.add]
theorem one3 (x y z : Int) : ∀ u ∈ [Value.int .i64 x, Value.int .i64 y, Value.int .i64 z], u.oneCell' = true := by
  intro u hu; simp at hu; rcases hu with rfl | rfl | rfl <;> rfl
theorem nums_snoc (l : List Int) (x : Int) : nums (l ++ [x]) = nums l ++ [.int .i64 x] := by simp [nums]
theorem cells_new1 (w : World) (x : Value) (t : TypeId) (N : Nat) (hN : N = w.heap.size) : ∀ (j : Nat) (u : Value), [x][j]? = some u → (w.alloc (.cells #[x] t)).cell? ((⟨N, 0, none⟩ : Addr).add j) = some u := by
  subst hN
  intro j u hj
  match j, hj with
  | 0, hj => simp at hj; subst hj; simp [Addr.add]
theorem one1 (x : Int) : ∀ u ∈ [Value.int .i64 x], u.oneCell' = true := by intro u hu; simp at hu; subst hu; rfl
/-- Steps that lie somewhere are the cells of their row. -/
theorem DoS.flat_cells {w : World} {b o : Nat} {l : List M.D} (h : Row w b o l) : ∀ (j : Nat) (u : Value), (flat l)[j]? = some u → w.cell? ((⟨b, o, none⟩ : Addr).add j) = some u := by
  intro j u hj
  have hjl := (List.getElem?_eq_some_iff.1 hj).1
  rw [flat_length] at hjl
  rw [Go.WideShapes.add_plain]
  have hi : j / 3 < l.length := by omega
  obtain ⟨f0, f1, f2⟩ := flat_get l (j / 3) hi
  have hr := h (j / 3) hi
  have hm : j % 3 = 0 ∨ j % 3 = 1 ∨ j % 3 = 2 := by omega
  rcases hm with hm | hm | hm
  · have e : j = j / 3 * 3 := by omega
    rw [e, f0] at hj
    rw [← Option.some.inj hj, show o + j = o + j / 3 * 3 from by omega]
    exact hr.k
  · have e : j = j / 3 * 3 + 1 := by omega
    rw [e, f1] at hj
    rw [← Option.some.inj hj, show o + j = o + j / 3 * 3 + 1 from by omega]
    exact hr.p
  · have e : j = j / 3 * 3 + 2 := by omega
    rw [e, f2] at hj
    rw [← Option.some.inj hj, show o + j = o + j / 3 * 3 + 2 from by omega]
    exact hr.v
theorem flat_one' (l : List M.D) : ∀ y ∈ flat l, y.oneCell' = true := by
  induction l with
  | nil => intro y hy; cases hy
  | cons d l ih =>
    intro y hy
    simp only [flat, List.mem_cons] at hy
    rcases hy with rfl | rfl | rfl | hy
    · rfl
    · rfl
    · rfl
    · exact ih y hy

end Go.Proofs.Ytflmejjhnkpodaa
