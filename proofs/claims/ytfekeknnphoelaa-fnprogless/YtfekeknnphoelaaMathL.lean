/- The plain mathematics of a program with less: without its last thread, or that one's last step, it is one. No condition. -/
import Derived.Test.YtfekeknnphoelaaMathR
namespace Go.Proofs.Ytfekeknnphoelaa
namespace M

theorem cnt_append (f : Int → Bool) (l m : List D) : cnt f (l ++ m) = cnt f l + cnt f m := by simp [cnt]
theorem copies_front : ∀ (r : Bool) (l m : List D), copies r (l ++ m) = true → copies r l = true
  | _, [], _, _ => rfl
  | r, d :: l, m, h => by
    rw [List.cons_append, copies] at h
    rw [copies]
    by_cases hb : (d.k == 3 && !r) = true
    · rw [if_pos hb] at h; cases h
    · rw [if_neg hb] at h ⊢; exact copies_front _ l m h
theorem readers_front : ∀ (i : Bool) (l : List D) (d : D), d.k ≠ 8 → readers i (l ++ [d]) = true → readers i l = true
  | i, [], d, h8, h => by
    rw [List.nil_append, readers] at h
    have e8 : (d.k == 8) = false := by simpa using h8
    rw [e8] at h
    by_cases h7 : (d.k == 7) = true
    · rw [if_pos h7] at h
      cases i <;> simp [readers] at h
    · rw [if_neg h7] at h
      cases i
      · rfl
      · by_cases h9 : (d.k == 9) = true
        · simp [h9] at h
        · simp [h9, readers] at h
  | i, e :: l, d, h8, h => by
    rw [List.cons_append, readers] at h
    rw [readers]
    by_cases h7 : (e.k == 7) = true
    · rw [if_pos h7] at h ⊢
      cases i
      · exact readers_front _ l d h8 h
      · simp at h
    · rw [if_neg h7] at h ⊢
      by_cases e8 : (e.k == 8) = true
      · rw [if_pos e8] at h ⊢
        cases i
        · simp at h
        · exact readers_front _ l d h8 h
      · rw [if_neg e8] at h ⊢
        by_cases e9 : (e.k == 9) = true
        · rw [if_pos e9] at h ⊢
          cases i
          · exact readers_front _ l d h8 h
          · simp at h
        · rw [if_neg e9] at h ⊢
          exact readers_front _ l d h8 h
theorem thread_front {l : List D} {d : D} (h8 : d.k ≠ 8) (h : thread (l ++ [d]) = true) : thread l = true := by
  simp only [thread, Bool.and_eq_true, decide_eq_true_eq] at h ⊢
  obtain ⟨⟨⟨h1, h2⟩, h3⟩, h4⟩ := h
  refine ⟨⟨⟨by simp at h1; omega, ?_⟩, copies_front _ _ _ h3⟩, readers_front _ _ _ h8 h4⟩
  simp only [form, List.all_append, Bool.and_eq_true] at h2 ⊢
  exact h2.1
theorem from_len : ∀ {a u : Nat} (l : List (List D)), progFrom a u l = true → a ≤ 14
  | a, u, [], h => by simp only [progFrom, Bool.and_eq_true, decide_eq_true_eq] at h; omega
  | a, u, t :: l, h => by
    rw [progFrom] at h
    by_cases hb : thread t = true
    · rw [if_pos hb] at h; have := from_len l h; omega
    · rw [if_neg hb] at h; cases h
theorem from_front : ∀ (a u : Nat) (l m : List (List D)), progFrom a u (l ++ m) = true → progFrom a u l = true
  | a, u, [], m, h => by
    have h1 := (from_uses h).1
    have h2 := from_len m h
    simp only [progFrom, Bool.and_eq_true, decide_eq_true_eq]
    omega
  | a, u, t :: l, m, h => by
    rw [List.cons_append, progFrom] at h
    rw [progFrom]
    by_cases hb : thread t = true
    · rw [if_pos hb] at h ⊢; exact from_front _ _ l m h
    · rw [if_neg hb] at h; cases h
theorem from_last : ∀ (a u : Nat) (l : List (List D)) (t : List D) (d : D), d.k ≠ 8 → progFrom a u (l ++ [t ++ [d]]) = true → progFrom a u (l ++ [t]) = true
  | a, u, [], t, d, h8, h => by
    rw [List.nil_append, progFrom] at h
    rw [List.nil_append, progFrom]
    by_cases hb : thread (t ++ [d]) = true
    · rw [if_pos hb] at h
      rw [if_pos (thread_front h8 hb)]
      simp only [progFrom, cnt_append, List.length_append, Bool.and_eq_true, decide_eq_true_eq] at h ⊢
      omega
    · rw [if_neg hb] at h; cases h
  | a, u, s :: l, t, d, h8, h => by
    rw [List.cons_append, progFrom] at h
    rw [List.cons_append, progFrom]
    by_cases hb : thread s = true
    · rw [if_pos hb] at h ⊢; exact from_last _ _ l t d h8 h
    · rw [if_neg hb] at h; cases h
theorem prog_front {l m : List (List D)} (h : prog (l ++ m) = true) : prog l = true := by
  simp only [prog, Bool.and_eq_true, decide_eq_true_eq] at h ⊢
  exact ⟨by have := h.1; simp at this; omega, from_front _ _ _ _ h.2⟩
theorem prog_last {l : List (List D)} {t : List D} {d : D} (h8 : d.k ≠ 8) (h : prog (l ++ [t ++ [d]]) = true) : prog (l ++ [t]) = true := by
  simp only [prog, Bool.and_eq_true, decide_eq_true_eq] at h ⊢
  exact ⟨by have := h.1; simpa using this, from_last _ _ _ _ _ h8 h.2⟩

end M
end Go.Proofs.Ytfekeknnphoelaa
