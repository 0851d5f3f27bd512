/- The plain mathematics of putting in order: each once, in order, and nothing else: there is one such list. No condition. -/
import Derived.Test.YtkbjdhjcbhdpmabSnOrd
namespace Go.Proofs.Ytkbjdhjcbhdpmab
abbrev Ky := List Int × List Int
namespace M

/-- Two that were seen, compared. -/
def cmpK (a b : Ky) : Int := cmpS a.1 a.2 b.1 b.2
theorem cmpK_self (a : Ky) : cmpK a a = 0 := cmpS_self _ _
theorem cmpK_zero {a b : Ky} (h : cmpK a b = 0) : a = b := by
  obtain ⟨h1, h2⟩ := cmpS_zero h
  exact Prod.ext h1 h2
theorem cmpK_neg (a b : Ky) : cmpK b a = - cmpK a b := cmpS_neg _ _ _ _
theorem cmpK_trans {a b c : Ky} (h : cmpK a b < 0) (k : cmpK b c < 0) : cmpK a c < 0 := cmpS_trans h k
theorem cmpK_le_trans {a b c : Ky} (h : cmpK a b ≤ 0) (k : cmpK b c ≤ 0) : cmpK a c ≤ 0 := by
  by_cases h0 : cmpK a b = 0
  · rw [cmpK_zero h0]; exact k
  · by_cases k0 : cmpK b c = 0
    · rw [← cmpK_zero k0]; exact h
    · exact Int.le_of_lt (cmpK_trans (show cmpK a b < 0 by omega) (show cmpK b c < 0 by omega))

/-- Each ahead of all behind it. -/
def Asc (l : List Ky) : Prop := l.Pairwise fun a b => cmpK a b < 0
/-- None behind one that is ahead of it. -/
def Ord (l : List Ky) : Prop := l.Pairwise fun a b => cmpK a b ≤ 0

theorem Asc.unique : ∀ {l m : List Ky}, Asc l → Asc m → (∀ x, x ∈ l ↔ x ∈ m) → l = m
  | [], [], _, _, _ => rfl
  | [], y :: m, _, _, h => absurd ((h y).2 (by simp)) (by simp)
  | x :: l, [], _, _, h => absurd ((h x).1 (by simp)) (by simp)
  | x :: l, y :: m, hl, hm, h => by
    have hl' := List.pairwise_cons.1 hl
    have hm' := List.pairwise_cons.1 hm
    have hxy : x = y := by
      rcases List.mem_cons.1 ((h x).1 (by simp)) with e | hx
      · exact e
      · rcases List.mem_cons.1 ((h y).2 (by simp)) with e | hy
        · exact e.symm
        · have h1 := hm'.1 x hx
          have h2 := hl'.1 y hy
          have := cmpK_neg x y
          omega
    subst hxy
    have : ∀ z, z ∈ l ↔ z ∈ m := fun z => by
      constructor
      · intro hz
        rcases List.mem_cons.1 ((h z).1 (by simp [hz])) with e | hm2
        · subst e
          have := hl'.1 z hz
          rw [cmpK_self] at this
          omega
        · exact hm2
      · intro hz
        rcases List.mem_cons.1 ((h z).2 (by simp [hz])) with e | hl2
        · subst e
          have := hm'.1 z hz
          rw [cmpK_self] at this
          omega
        · exact hl2
    rw [Asc.unique hl'.2 hm'.2 this]

/-- One put in, if it is not there. -/
def putIn : List Ky → Ky → List Ky
  | [], k => [k]
  | x :: l, k => if cmpK x k = 0 then x :: l else if 0 < cmpK x k then k :: x :: l else x :: putIn l k
theorem mem_putIn (l : List Ky) (k x : Ky) : x ∈ putIn l k ↔ x = k ∨ x ∈ l := by
  induction l with
  | nil => simp [putIn]
  | cons y l ih =>
    rw [putIn]
    by_cases h0 : cmpK y k = 0
    · rw [if_pos h0]
      have := cmpK_zero h0
      subst this
      simp
    · rw [if_neg h0]
      by_cases h1 : 0 < cmpK y k
      · rw [if_pos h1]; simp
      · rw [if_neg h1]
        simp only [List.mem_cons, ih]
        constructor
        · rintro (h | h | h)
          · exact Or.inr (Or.inl h)
          · exact Or.inl h
          · exact Or.inr (Or.inr h)
        · rintro (h | h | h)
          · exact Or.inr (Or.inl h)
          · exact Or.inl h
          · exact Or.inr (Or.inr h)
theorem asc_putIn {l : List Ky} (h : Asc l) (k : Ky) : Asc (putIn l k) := by
  induction l with
  | nil => simp [putIn, Asc]
  | cons y l ih =>
    have h' := List.pairwise_cons.1 h
    rw [putIn]
    by_cases h0 : cmpK y k = 0
    · rw [if_pos h0]; exact h
    · rw [if_neg h0]
      by_cases h1 : 0 < cmpK y k
      · rw [if_pos h1]
        refine List.pairwise_cons.2 ⟨fun z hz => ?_, h⟩
        have hky : cmpK k y < 0 := by have := cmpK_neg y k; omega
        rcases List.mem_cons.1 hz with e | hz
        · rw [e]; exact hky
        · exact cmpK_trans hky (h'.1 z hz)
      · rw [if_neg h1]
        refine List.pairwise_cons.2 ⟨fun z hz => ?_, ih h'.2⟩
        rcases (mem_putIn l k z).1 hz with e | hz
        · rw [e]; omega
        · exact h'.1 z hz
/-- All put in order, each once. -/
def sortK (l : List Ky) : List Ky := l.foldl putIn []
theorem foldl_mem (l : List Ky) : ∀ (a : List Ky) (x : Ky), x ∈ l.foldl putIn a ↔ x ∈ a ∨ x ∈ l := by
  induction l with
  | nil => intro a x; simp
  | cons y l ih =>
    intro a x
    rw [List.foldl_cons, ih, mem_putIn]
    simp only [List.mem_cons]
    constructor
    · rintro ((h | h) | h)
      · exact Or.inr (Or.inl h)
      · exact Or.inl h
      · exact Or.inr (Or.inr h)
    · rintro (h | h | h)
      · exact Or.inl (Or.inr h)
      · exact Or.inl (Or.inl h)
      · exact Or.inr h
theorem foldl_asc (l : List Ky) : ∀ (a : List Ky), Asc a → Asc (l.foldl putIn a) := by
  induction l with
  | nil => intro a h; exact h
  | cons y l ih => intro a h; exact ih _ (asc_putIn h y)
theorem mem_sortK (l : List Ky) (x : Ky) : x ∈ sortK l ↔ x ∈ l := by rw [sortK, foldl_mem]; simp
theorem asc_sortK (l : List Ky) : Asc (sortK l) := foldl_asc l [] List.Pairwise.nil
theorem sortK_unique {l m : List Ky} (hm : Asc m) (h : ∀ x, x ∈ m ↔ x ∈ l) : m = sortK l :=
  Asc.unique hm (asc_sortK l) fun x => by rw [mem_sortK, h x]

/-- What is the same as the one ahead of it is left out. -/
def thinFrom (p : Ky) : List Ky → List Ky
  | [] => []
  | y :: l => if cmpK y p = 0 then thinFrom y l else y :: thinFrom y l
def thin : List Ky → List Ky
  | [] => []
  | x :: l => x :: thinFrom x l
theorem mem_thinFrom (l : List Ky) : ∀ (p x : Ky), (x = p ∨ x ∈ thinFrom p l) ↔ (x = p ∨ x ∈ l) := by
  induction l with
  | nil => intro p x; simp [thinFrom]
  | cons y l ih =>
    intro p x
    rw [thinFrom]
    by_cases h0 : cmpK y p = 0
    · rw [if_pos h0]
      have e := cmpK_zero h0
      subst e
      rw [ih]
      simp
    · rw [if_neg h0]
      have := ih y x
      simp only [List.mem_cons]
      rw [this]
theorem mem_thin (l : List Ky) (x : Ky) : x ∈ thin l ↔ x ∈ l := by
  cases l with
  | nil => simp [thin]
  | cons y l => rw [thin, List.mem_cons, List.mem_cons]; exact mem_thinFrom l y x
theorem asc_thinFrom (l : List Ky) : ∀ (p : Ky), Ord (p :: l) → Asc (p :: thinFrom p l) := by
  induction l with
  | nil => intro p _; simp [thinFrom, Asc]
  | cons y l ih =>
    intro p h
    have h' := List.pairwise_cons.1 h
    rw [thinFrom]
    by_cases h0 : cmpK y p = 0
    · rw [if_pos h0]
      have e := cmpK_zero h0
      subst e
      exact ih y h'.2
    · rw [if_neg h0]
      have hy := ih y h'.2
      have hpy : cmpK p y < 0 := by
        have h1 := h'.1 y (by simp)
        have h2 := cmpK_neg y p
        omega
      refine List.pairwise_cons.2 ⟨fun z hz => ?_, hy⟩
      rcases List.mem_cons.1 hz with e | hz
      · rw [e]; exact hpy
      · exact cmpK_trans hpy ((List.pairwise_cons.1 hy).1 z hz)
theorem asc_thin {l : List Ky} (h : Ord l) : Asc (thin l) := by
  cases l with
  | nil => exact List.Pairwise.nil
  | cons y l => exact asc_thinFrom l y h
/-- In order, then each once: just that. -/
theorem thin_sortK {l m : List Ky} (h : Ord m) (hp : ∀ x, x ∈ m ↔ x ∈ l) : thin m = sortK l :=
  sortK_unique (asc_thin h) fun x => by rw [mem_thin, hp x]

end M
end Go.Proofs.Ytkbjdhjcbhdpmab
