/- impl's words of kinds, and whether steps are in form. Of threads of at most 1048576 steps. -/
import Derived.Test.YtefmkenljongpaaDoorMem
namespace Go.Proofs.YtefmkenljongpaaDoor
open Go.RowKit

def M.word (k : Int) : ByteArray := if k == 1 then ⟨#[115, 116, 111, 114, 101]⟩ else if k == 2 then ⟨#[108, 111, 97, 100]⟩ else if k == 3 then ⟨#[99, 111, 112, 121]⟩ else if k == 4 then ⟨#[119, 97, 108, 108]⟩ else if k == 5 then ⟨#[116, 97, 107, 101]⟩ else if k == 6 then ⟨#[103, 105, 118, 101]⟩ else if k == 7 then ⟨#[105, 110]⟩ else if k == 8 then ⟨#[111, 117, 116]⟩ else if k == 9 then ⟨#[119, 97, 105, 116]⟩ else ⟨#[]⟩

theorem word_empty (k : Int) : (M.word k).toList.isEmpty = !(M.wordOk k) := by
  by_cases h : 1 ≤ k ∧ k ≤ 9
  · have : k = 1 ∨ k = 2 ∨ k = 3 ∨ k = 4 ∨ k = 5 ∨ k = 6 ∨ k = 7 ∨ k = 8 ∨ k = 9 := by omega
    rcases this with rfl | rfl | rfl | rfl | rfl | rfl | rfl | rfl | rfl <;> (rw [ByteArray.toList_eq]; decide)
  · have e : ∀ c : Int, 1 ≤ c → c ≤ 9 → (k == c) = false := fun c h1 h2 => by simp; omega
    have e0 : M.wordOk k = false := by simp only [M.wordOk]; rcases Classical.not_and_iff_not_or_not.1 h with h | h <;> simp <;> omega
    rw [e0]
    have e1 : M.word k = ⟨#[]⟩ := by simp [M.word, e 1 (by decide) (by decide), e 2 (by decide) (by decide), e 3 (by decide) (by decide), e 4 (by decide) (by decide), e 5 (by decide) (by decide), e 6 (by decide) (by decide), e 7 (by decide) (by decide), e 8 (by decide) (by decide), e 9 (by decide) (by decide)]
    rw [e1, ByteArray.toList_eq]
    decide

theorem M.form_bad {l : List M.D} {n : Nat} {d : M.D} (hp : M.form l = M.form (l.drop n)) (hd : l.drop n = d :: l.drop (n + 1)) (hb : M.doOk d = false) : M.form l = false := by
  rw [hp, hd]; simp [M.form, hb]
theorem M.form_ok {l : List M.D} {n : Nat} {d : M.D} (hp : M.form l = M.form (l.drop n)) (hd : l.drop n = d :: l.drop (n + 1)) (hb : M.doOk d = true) : M.form l = M.form (l.drop (n + 1)) := by
  rw [hp, hd]; simp [M.form, hb]
theorem M.form_fin {l : List M.D} {n : Nat} (hp : M.form l = M.form (l.drop n)) (hn : l.length ≤ n) : M.form l = true := by
  rw [hp, List.drop_eq_nil_of_le hn]; rfl

end Go.Proofs.YtefmkenljongpaaDoor
