/- The order of what was seen is one: two are the same, or one stands ahead; what stands ahead of what stands ahead stands ahead. No condition. -/
import Derived.Test.YtefmkenljongpaaDoorSnMath
namespace Go.Proofs.YtefmkenljongpaaDoor
namespace M

theorem comp_self (l : List Int) : comp l l = 0 := by
  induction l with
  | nil => rfl
  | cons x l ih => rw [comp, if_neg (by omega), if_neg (by omega)]; exact ih
theorem comp_zero : ∀ l m : List Int, comp l m = 0 → l = m
  | [], [], _ => rfl
  | [], _ :: _, h => by rw [comp] at h; cases h
  | _ :: _, [], h => by rw [comp] at h; cases h
  | x :: l, y :: m, h => by
    rw [comp] at h
    by_cases h1 : x < y
    · rw [if_pos h1] at h; cases h
    · rw [if_neg h1] at h
      by_cases h2 : y < x
      · rw [if_pos h2] at h; cases h
      · rw [if_neg h2] at h
        rw [comp_zero l m h, show x = y by omega]
theorem comp_neg : ∀ l m : List Int, comp m l = - comp l m
  | [], [] => rfl
  | [], _ :: _ => rfl
  | _ :: _, [] => rfl
  | x :: l, y :: m => by
    rw [comp, comp]
    by_cases h1 : x < y
    · rw [if_pos h1, if_neg (by omega), if_pos h1]; rfl
    · by_cases h2 : y < x
      · rw [if_pos h2, if_neg h1, if_pos h2]
      · rw [if_neg h2, if_neg h1, if_neg h1, if_neg h2]; exact comp_neg l m
theorem comp_trans : ∀ l m n : List Int, comp l m < 0 → comp m n < 0 → comp l n < 0
  | [], [], _, h, _ => by rw [comp] at h; omega
  | [], _ :: _, [], _, h => by rw [comp] at h; omega
  | [], _ :: _, _ :: _, _, _ => by rw [comp]; omega
  | _ :: _, [], _, h, _ => by rw [comp] at h; omega
  | _ :: _, _ :: _, [], _, h => by rw [comp] at h; omega
  | x :: l, y :: m, z :: n, h, k => by
    rw [comp] at h k ⊢
    by_cases h1 : x < y
    · by_cases k1 : y < z
      · rw [if_pos (by omega)]; omega
      · rw [if_neg k1] at k
        by_cases k2 : z < y
        · rw [if_pos k2] at k; omega
        · rw [if_pos (by omega)]; omega
    · rw [if_neg h1] at h
      by_cases h2 : y < x
      · rw [if_pos h2] at h; omega
      · rw [if_neg h2] at h
        by_cases k1 : y < z
        · rw [if_pos (by omega)]; omega
        · rw [if_neg k1] at k
          by_cases k2 : z < y
          · rw [if_pos k2] at k; omega
          · rw [if_neg k2] at k
            rw [if_neg (by omega), if_neg (by omega)]
            exact comp_trans l m n h k

theorem cmpS_self (a b : List Int) : cmpS a b a b = 0 := by rw [cmpS, comp_self, if_pos rfl, comp_self]
theorem cmpS_zero {a1 a2 b1 b2 : List Int} (h : cmpS a1 a2 b1 b2 = 0) : a1 = b1 ∧ a2 = b2 := by
  unfold cmpS at h
  by_cases h0 : comp a1 b1 = 0
  · rw [if_pos h0] at h; exact ⟨comp_zero _ _ h0, comp_zero _ _ h⟩
  · rw [if_neg h0] at h; exact absurd h h0
theorem cmpS_neg (a1 a2 b1 b2 : List Int) : cmpS b1 b2 a1 a2 = - cmpS a1 a2 b1 b2 := by
  unfold cmpS
  rw [comp_neg a1 b1, comp_neg a2 b2]
  by_cases h0 : comp a1 b1 = 0
  · rw [if_pos h0, if_pos (by omega)]
  · rw [if_neg h0, if_neg (by omega)]
theorem cmpS_trans {a1 a2 b1 b2 c1 c2 : List Int} (h : cmpS a1 a2 b1 b2 < 0) (k : cmpS b1 b2 c1 c2 < 0) : cmpS a1 a2 c1 c2 < 0 := by
  unfold cmpS at h k ⊢
  by_cases h0 : comp a1 b1 = 0
  · rw [if_pos h0] at h
    have e := comp_zero _ _ h0
    subst e
    by_cases k0 : comp a1 c1 = 0
    · rw [if_pos k0] at k ⊢; exact comp_trans _ _ _ h k
    · rw [if_neg k0] at k ⊢; exact k
  · rw [if_neg h0] at h
    by_cases k0 : comp b1 c1 = 0
    · have e := comp_zero _ _ k0
      subst e
      rw [if_neg h0]; exact h
    · rw [if_neg k0] at k
      have ht := comp_trans _ _ _ h k
      rw [if_neg (by omega)]; exact ht

/-- The same numbers. -/
def same : List Int → List Int → Bool
  | [], [] => true
  | x :: l, y :: m => x == y && same l m
  | _, _ => false
theorem same_eq : ∀ l m : List Int, same l m = true ↔ l = m
  | [], [] => by simp [same]
  | [], _ :: _ => by simp [same]
  | _ :: _, [] => by simp [same]
  | x :: l, y :: m => by simp [same, same_eq l m]
def sameS (a1 a2 b1 b2 : List Int) : Bool := same a1 b1 && same a2 b2
theorem sameS_eq (a1 a2 b1 b2 : List Int) : sameS a1 a2 b1 b2 = decide (cmpS a1 a2 b1 b2 = 0) := by
  by_cases h : cmpS a1 a2 b1 b2 = 0
  · obtain ⟨rfl, rfl⟩ := cmpS_zero h
    simp [sameS, h, (same_eq _ _).2]
  · rw [decide_eq_false h]
    by_cases h1 : a1 = b1
    · by_cases h2 : a2 = b2
      · subst h1; subst h2; exact absurd (cmpS_self _ _) h
      · have : same a2 b2 = false := by
          cases e : same a2 b2
          · rfl
          · exact absurd ((same_eq _ _).1 e) h2
        rw [sameS, this, Bool.and_false]
    · have : same a1 b1 = false := by
        cases e : same a1 b1
        · rfl
        · exact absurd ((same_eq _ _).1 e) h1
      rw [sameS, this, Bool.false_and]

theorem same_len {l m : List Int} (h : l.length ≠ m.length) : same l m = false := by
  cases e : same l m
  · rfl
  · exact absurd (congrArg List.length ((same_eq _ _).1 e)) h
theorem same_bad {l m : List Int} {n : Nat} {x y : Int} (hd : l.drop n = x :: l.drop (n + 1)) (hm : m.drop n = y :: m.drop (n + 1)) (hxy : ¬ x = y) : same l m = false := by
  cases e : same l m
  · rfl
  · have := (same_eq _ _).1 e
    subst this
    rw [hd] at hm
    simp at hm
    exact absurd hm hxy
theorem same_fin {l m : List Int} (hl : l.length = m.length) (h : ∀ q (h1 : q < l.length) (h2 : q < m.length), l[q] = m[q]) : same l m = true :=
  (same_eq _ _).2 (List.ext_getElem hl h)

end M
end Go.Proofs.YtefmkenljongpaaDoor
