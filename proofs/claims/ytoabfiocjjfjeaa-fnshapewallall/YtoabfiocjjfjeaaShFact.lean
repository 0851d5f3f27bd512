/- Shapes, plainly: each is a program of two threads. No condition. -/
import Derived.Test.YtoabfiocjjfjeaaShLp
namespace Go.Proofs.Ytoabfiocjjfjeaa
open Go.RowKit

theorem M.shape_small (s h : Int) : ((M.shape s h).getD []).length ≤ 2 ∧ ∀ t ∈ (M.shape s h).getD [], t.length ≤ 5 := by
  cases hok : M.shapeOk s h
  · rw [M.shape_no hok]; simp
  · rw [M.shape_yes hok]
    obtain ⟨h2, h4⟩ := M.raw_two s h
    refine ⟨by simp [h2], fun t ht => ?_⟩
    simp only [Option.getD_some, List.mem_map] at ht
    obtain ⟨u, hu, rfl⟩ := ht
    have := h4 u hu
    have := M.fin_le h u
    omega

theorem M.shape_some (s h : Int) : (M.shape s h).isSome = M.shapeOk s h := by
  cases hok : M.shapeOk s h
  · rw [M.shape_no hok]; rfl
  · rw [M.shape_yes hok]; rfl
theorem M.shape_cases {s h : Int} (e : M.shapeOk s h = true) : (s = 1 ∨ s = 2 ∨ s = 3 ∨ s = 4 ∨ s = 5 ∨ s = 6) ∧ (h = 0 ∨ h = 1 ∨ h = 2 ∨ h = 3) := by
  simp only [M.shapeOk, Bool.and_eq_true, decide_eq_true_eq] at e
  omega
theorem M.shape_prog {s h : Int} (e : M.shapeOk s h = true) : M.prog ((M.shape s h).getD []) = true ∧ ((M.shape s h).getD []).length = 2 := by
  obtain ⟨hs, hh⟩ := M.shape_cases e
  rcases hs with rfl | rfl | rfl | rfl | rfl | rfl <;> rcases hh with rfl | rfl | rfl | rfl <;> exact ⟨by decide, by decide⟩
theorem M.shape_bad {s h : Int} (e : M.shapeOk s h = false) : s < 1 ∨ (1 ≤ s ∧ 6 < s) ∨ (1 ≤ s ∧ s ≤ 6 ∧ h < 0) ∨ (1 ≤ s ∧ s ≤ 6 ∧ 0 ≤ h ∧ 3 < h) := by
  simp only [M.shapeOk, Bool.and_eq_false_iff, decide_eq_false_iff_not] at e
  omega

end Go.Proofs.Ytoabfiocjjfjeaa
