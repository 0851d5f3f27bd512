/- The plain mathematics of reads: a program's reads are its threads' together, and no more than its uses. No condition. -/
import Derived.Test.YtnaljfnijcoheaaReads
namespace Go.Proofs.Ytnaljfnijcoheaa
namespace M

theorem cnt_mono {f g : Int → Bool} (h : ∀ k, f k = true → g k = true) (l : List D) : cnt f l ≤ cnt g l := by
  induction l with
  | nil => exact Nat.le_refl _
  | cons d l ih =>
    rw [cnt_cons, cnt_cons]
    cases hf : f d.k
    · simp; omega
    · rw [h _ hf]; omega
theorem tot_mono {f g : Int → Bool} (h : ∀ k, f k = true → g k = true) (l : List (List D)) : tot f l ≤ tot g l := by
  induction l with
  | nil => exact Nat.le_refl _
  | cons t l ih => have := cnt_mono h t; simp only [tot]; omega
theorem from_uses {l : List (List D)} : ∀ {a u : Nat}, progFrom a u l = true → u + tot uses l ≤ 6 ∧ ∀ t ∈ l, thread t = true := by
  induction l with
  | nil => intro a u h; simp [progFrom] at h; exact ⟨by simp [tot]; omega, fun t ht => absurd ht (by simp)⟩
  | cons t l ih =>
    intro a u h
    by_cases hb : thread t = true
    · simp only [progFrom, hb, if_true] at h
      obtain ⟨h1, h2⟩ := ih h
      refine ⟨by simp only [tot]; omega, fun t' ht' => ?_⟩
      rcases List.mem_cons.1 ht' with rfl | hm
      · exact hb
      · exact h2 t' hm
    · simp [progFrom, hb] at h
theorem cnt_tot {f : Int → Bool} {l : List (List D)} {t : List D} (h : t ∈ l) : cnt f t ≤ tot f l := by
  induction l with
  | nil => simp at h
  | cons t' l ih =>
    simp only [tot]
    rcases List.mem_cons.1 h with rfl | hm
    · omega
    · have := ih hm; omega
theorem prog_uses {l : List (List D)} (h : prog l = true) : tot uses l ≤ 6 ∧ ∀ t ∈ l, thread t = true := by
  simp only [prog, Bool.and_eq_true, decide_eq_true_eq] at h
  have := from_uses h.2
  exact ⟨by omega, this.2⟩
/-- A thread of a program is one by itself. -/
theorem prog_alone {l : List (List D)} (h : prog l = true) {t : List D} (ht : t ∈ l) : prog [t] = true := by
  obtain ⟨h1, h2⟩ := prog_uses h
  have h3 := h2 t ht
  have h4 := thread_le h3
  have h5 := cnt_tot (f := uses) ht
  simp only [prog, progFrom, h3, if_true, List.length_singleton, Nat.zero_add, Bool.and_eq_true, decide_eq_true_eq]
  omega
theorem nreads_alone {l : List (List D)} (h : prog l = true) {t : List D} (ht : t ∈ l) : nreads [t] = cnt reads t := by
  rw [nreads_ok (prog_alone h ht)]; simp [tot]
theorem nreads_le {l : List (List D)} (h : prog l = true) : tot reads l ≤ 6 := by
  have h1 := (prog_uses h).1
  have h2 := tot_mono (f := reads) (g := uses) (fun k hk => by simp [uses, hk]) l
  omega

end M
end Go.Proofs.Ytnaljfnijcoheaa
