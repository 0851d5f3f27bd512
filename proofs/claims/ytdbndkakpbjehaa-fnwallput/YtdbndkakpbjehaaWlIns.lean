/- Walls that are put are there, and nothing else, plainly. No condition. -/
import Derived.Test.YtdbndkakpbjehaaWlMath
import Derived.Test.YtdbndkakpbjehaaDrPb
namespace Go.Proofs.Ytdbndkakpbjehaa
namespace M

/-- The one list is the other with walls put in. -/
inductive Ins : List D → List D → Prop
  | nil : Ins [] []
  | same (d : D) (q p : List D) : Ins q p → Ins (d :: q) (d :: p)
  | more (q p : List D) : Ins q p → Ins (wall :: q) p
theorem Ins.tail {q : List D} : ∀ {p : List D}, Ins q (wall :: p) → Ins q p := by
  induction q with
  | nil => intro p h; cases h
  | cons x q ih =>
    intro p h
    cases h with
    | same _ _ _ h => exact .more _ _ h
    | more _ _ h => exact .more _ _ (ih h)
theorem Ins.hit {x : D} {q p : List D} (h : Ins (x :: q) (x :: p)) : Ins q p := by
  cases h with
  | same _ _ _ h => exact h
  | more _ _ h => exact h.tail
theorem Ins.miss {x d : D} {q p : List D} (h : Ins (x :: q) (d :: p)) (hne : x ≠ d) : x = wall ∧ Ins q (d :: p) := by
  cases h with
  | same _ _ _ h => exact absurd rfl hne
  | more _ _ h => exact ⟨rfl, h⟩
theorem Ins.past {x : D} {q : List D} (h : Ins (x :: q) []) : x = wall ∧ Ins q [] := by
  cases h with
  | more _ _ h => exact ⟨rfl, h⟩
theorem Ins.fin {p : List D} (h : Ins [] p) : p = [] := by cases h; rfl

theorem wallR_ins (gs : List Int) (l : List D) : ∀ n, Ins (wallR gs n l) l := by
  induction l with
  | nil => intro n; exact .nil
  | cons d l ih =>
    intro n
    rw [wallR]
    unfold pre
    split
    · exact .more _ _ (.same _ _ _ (ih _))
    · exact .same _ _ _ (ih _)
theorem wallT_ins (gs : List Int) (n : Nat) (l : List D) : Ins (wallT gs n l) l := by
  cases l with
  | nil => exact .nil
  | cons d l => exact .same _ _ _ (wallR_ins gs l n)
theorem walls_ins (gs : List Int) (ll : List (List D)) : ∀ n i (h1 : i < (walls gs n ll).length) (h2 : i < ll.length), Ins (walls gs n ll)[i] ll[i] := by
  induction ll with
  | nil => intro n i h1 h2; simp at h2
  | cons t ll ih =>
    intro n i h1 h2
    cases i with
    | zero => exact wallT_ins gs n t
    | succ i => simpa [walls] using ih _ i (by simpa [walls] using h1) (by simpa using h2)

theorem ins_reads {q p : List D} (h : Ins q p) : cnt reads q = cnt reads p := by
  induction h with
  | nil => rfl
  | same d q p _ ih => rw [cnt_cons, cnt_cons, ih]
  | more q p _ ih => rw [cnt_cons, ih]; simp [wall, reads]
theorem walls_reads (gs : List Int) (ll : List (List D)) : ∀ n, tot reads (walls gs n ll) = tot reads ll := by
  induction ll with
  | nil => intro n; rfl
  | cons t ll ih => intro n; rw [walls, tot, tot, ih, ins_reads (wallT_ins gs n t)]

/-- How many of the numbers from one on are among others. -/
def hits (gs : List Int) : Nat → Nat → Nat
  | _, 0 => 0
  | n, k + 1 => (pre gs n).length + hits gs (n + 1) k
theorem hits_add (gs : List Int) (k j : Nat) : ∀ n, hits gs n (k + j) = hits gs n k + hits gs (n + k) j := by
  induction k with
  | zero => intro n; simp [hits]
  | succ k ih =>
    intro n
    rw [show k + 1 + j = (k + j) + 1 from by omega, hits, hits, ih, show n + 1 + k = n + (k + 1) from by omega]
    omega
theorem wallR_hits (gs : List Int) (l : List D) : ∀ n, (wallR gs n l).length = l.length + hits gs n l.length := by
  induction l with
  | nil => intro n; rfl
  | cons d l ih => intro n; rw [wallR, List.length_append, List.length_cons, ih, List.length_cons, hits]; omega
theorem wallT_hits (gs : List Int) (n : Nat) (l : List D) : (wallT gs n l).length = l.length + hits gs n (l.length - 1) := by
  cases l with
  | nil => rfl
  | cons d l => rw [wallT, List.length_cons, wallR_hits]; simp; omega
theorem walls_hits (gs : List Int) (ll : List (List D)) : ∀ n, steps (walls gs n ll) = steps ll + hits gs n (gapsN ll) := by
  induction ll with
  | nil => intro n; rfl
  | cons t ll ih =>
    intro n
    rw [walls, steps, ih, wallT_hits, gapsN, hits_add, steps]
    omega
theorem hits_all (k : Nat) : ∀ (n : Nat) (gs : List Int), gapsFrom ((n : Int) - 1) (n + k) gs = true → hits gs n k = gs.length := by
  have congr : ∀ (k n : Nat) (g : Int) (gs : List Int), g < n → hits (g :: gs) n k = hits gs n k := by
    intro k
    induction k with
    | zero => intro n g gs _; rfl
    | succ k ih =>
      intro n g gs h
      rw [hits, hits, ih (n + 1) g gs (by omega)]
      have : has (g :: gs) (n : Int) = has gs (n : Int) := by
        unfold has
        rw [List.contains_cons]
        have : ((n : Int) == g) = false := by simp; omega
        rw [this]; rfl
      unfold pre
      rw [this]
  have wk : ∀ (gs : List Int) (a b many : Int), a ≤ b → gapsFrom b many gs = true → gapsFrom a many gs = true := by
    intro gs a b many hab h
    cases gs with
    | nil => rfl
    | cons g gs =>
      simp only [gapsFrom, Bool.and_eq_true, decide_eq_true_eq] at h ⊢
      exact ⟨⟨by omega, h.1.2⟩, h.2⟩
  induction k with
  | zero =>
    intro n gs h
    cases gs with
    | nil => rfl
    | cons g gs => simp only [gapsFrom, Bool.and_eq_true, decide_eq_true_eq] at h; omega
  | succ k ih =>
    intro n gs h
    cases gs with
    | nil =>
      have := ih (n + 1) [] rfl
      rw [hits, this]; simp [pre, has]
    | cons g gs =>
      simp only [gapsFrom, Bool.and_eq_true, decide_eq_true_eq] at h
      obtain ⟨⟨h1, h2⟩, h3⟩ := h
      rw [hits]
      by_cases hg : g = n
      · subst hg
        rw [congr k (n + 1) _ gs (by omega), ih (n + 1) gs (by rw [show ((n + 1 : Nat) : Int) - 1 = n from by omega, show ((n + 1 : Nat) : Int) + k = n + (k + 1 : Nat) from by omega]; exact h3)]
        have : pre ((n : Int) :: gs) n = [wall] := pre_yes (by simp [has])
        rw [this]; simp; omega
      · have hn : has (g :: gs) (n : Int) = false := by
          unfold has
          rw [List.contains_cons]
          have e1 : ((n : Int) == g) = false := by simp; omega
          have e2 : gs.contains (n : Int) = false := by
            have all : ∀ (gs : List Int) (a many : Int), gapsFrom a many gs = true → ∀ x ∈ gs, a < x := by
              intro gs
              induction gs with
              | nil => intro a many _ x hx; cases hx
              | cons y ys ih =>
                intro a many h x hx
                simp only [gapsFrom, Bool.and_eq_true, decide_eq_true_eq] at h
                rcases List.mem_cons.1 hx with rfl | hx
                · exact h.1.1
                · have := ih y many h.2 x hx; omega
            simp only [List.contains_eq_mem, decide_eq_false_iff_not]
            intro hm
            have := all gs g _ h3 _ hm
            omega
          rw [e1, e2]; rfl
        rw [pre_no hn]
        have := ih (n + 1) (g :: gs) (by
          simp only [gapsFrom, Bool.and_eq_true, decide_eq_true_eq]
          rw [show ((n + 1 : Nat) : Int) + k = n + (k + 1 : Nat) from by omega]
          exact ⟨⟨by omega, h2⟩, h3⟩)
        rw [this]; simp
theorem walls_more {gs : List Int} {ll : List (List D)} (h1 : prog ll = true) (h2 : gapsOk gs (gaps ll) = true) : steps (walls gs 0 ll) = steps ll + gs.length := by
  rw [walls_hits]
  rw [gaps_ok h1] at h2
  have := hits_all (gapsN ll) 0 gs (by simpa [gapsOk] using h2)
  rw [this]
end M
end Go.Proofs.Ytdbndkakpbjehaa
