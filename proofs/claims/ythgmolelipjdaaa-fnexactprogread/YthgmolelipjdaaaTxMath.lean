/- The text of a program, plainly. No condition. -/
import Derived.Test.YthgmolelipjdaaaWord
import Derived.Lib.RuneBytes
namespace Go.Proofs.Ythgmolelipjdaaa

/-- A byte of a number. -/
def M.b8 (n : Int) : UInt8 := n.toNat.toUInt8
/-- The text of a step. -/
def M.say (d : M.D) : List UInt8 := (M.word d.k).data.toList ++ (if M.uses d.k then [32, M.b8 (120 + d.p)] else []) ++ (if M.stores d.k then [32, M.b8 (48 + d.v)] else []) ++ [10]
def M.sayAll (l : List M.D) : List UInt8 := l.flatMap M.say
/-- The text of a thread. -/
def M.sayThread (l : List M.D) : List UInt8 := [116, 104, 114, 101, 97, 100, 10] ++ M.sayAll l
def M.sayProg (ll : List (List M.D)) : List UInt8 := ll.flatMap M.sayThread

theorem M.word_le (k : Int) : (M.word k).data.toList.length ≤ 5 := by
  by_cases h : 1 ≤ k ∧ k ≤ 9
  · have : k = 1 ∨ k = 2 ∨ k = 3 ∨ k = 4 ∨ k = 5 ∨ k = 6 ∨ k = 7 ∨ k = 8 ∨ k = 9 := by omega
    rcases this with rfl | rfl | rfl | rfl | rfl | rfl | rfl | rfl | rfl <;> decide
  · have e : ∀ c : Int, 1 ≤ c → c ≤ 9 → (k == c) = false := fun c h1 h2 => by simp; omega
    have e1 : M.word k = ⟨#[]⟩ := by simp [M.word, e 1 (by decide) (by decide), e 2 (by decide) (by decide), e 3 (by decide) (by decide), e 4 (by decide) (by decide), e 5 (by decide) (by decide), e 6 (by decide) (by decide), e 7 (by decide) (by decide), e 8 (by decide) (by decide), e 9 (by decide) (by decide)]
    rw [e1]
    decide
theorem M.word_sz (k : Int) : (M.word k).size ≤ 5 := by
  have h := M.word_le k
  rw [Array.length_toList] at h
  exact h
theorem M.say_le (d : M.D) : (M.say d).length ≤ 10 := by
  have h := M.word_le d.k
  unfold M.say
  simp only [List.length_append]
  have h1 : (if M.uses d.k then [32, M.b8 (120 + d.p)] else []).length ≤ 2 := by split <;> simp
  have h2 : (if M.stores d.k then [32, M.b8 (48 + d.v)] else []).length ≤ 2 := by split <;> simp
  simp only [List.length_cons, List.length_nil]
  omega
theorem M.sayAll_le (l : List M.D) : (M.sayAll l).length ≤ 10 * l.length := by
  induction l with
  | nil => simp [M.sayAll]
  | cons d l ih =>
    have := M.say_le d
    simp only [M.sayAll, List.flatMap_cons, List.length_append, List.length_cons] at *
    omega
theorem M.sayThread_le (l : List M.D) : (M.sayThread l).length ≤ 7 + 10 * l.length := by
  have := M.sayAll_le l
  simp only [M.sayThread, List.length_append, List.length_cons, List.length_nil]
  omega

theorem M.encode_one (r : Int) (h0 : 0 ≤ r) (h1 : r ≤ 127) : Lib.encodeRune r = [M.b8 r] := by
  simp [Lib.encodeRune, Lib.encodeRuneZ_one h0 h1, M.b8]

theorem M.sayAll_step {l : List M.D} {n : Nat} {d : M.D} (hd : l.drop n = d :: l.drop (n + 1)) : M.sayAll (l.take (n + 1)) = M.sayAll (l.take n) ++ M.say d := by
  have hn : n < l.length := by
    rcases Nat.lt_or_ge n l.length with h | h
    · exact h
    · rw [List.drop_eq_nil_of_le h] at hd; cases hd
  have e : l[n] = d := by
    rw [← List.getElem_cons_drop hn] at hd
    exact (List.cons.inj hd).1
  rw [List.take_succ_eq_append_getElem hn, M.sayAll, List.flatMap_append, e]
  simp [M.sayAll]
theorem M.sayProg_step {l : List (List M.D)} {n : Nat} {d : List M.D} (hd : l.drop n = d :: l.drop (n + 1)) : M.sayProg (l.take (n + 1)) = M.sayProg (l.take n) ++ M.sayThread d := by
  have hn : n < l.length := by
    rcases Nat.lt_or_ge n l.length with h | h
    · exact h
    · rw [List.drop_eq_nil_of_le h] at hd; cases hd
  have e : l[n] = d := by
    rw [← List.getElem_cons_drop hn] at hd
    exact (List.cons.inj hd).1
  rw [List.take_succ_eq_append_getElem hn, M.sayProg, List.flatMap_append, e]
  simp [M.sayProg]

theorem M.doOk_place {d : M.D} (h : M.doOk d = true) (hu : M.uses d.k = true) : 0 ≤ d.p ∧ d.p ≤ 2 := by
  obtain ⟨k, p, v⟩ := d
  simp only at hu
  rw [M.doOk_eq] at h
  simp [hu, M.rng] at h
  show 0 ≤ p ∧ p ≤ 2
  omega
theorem M.doOk_val {d : M.D} (h : M.doOk d = true) (hu : M.stores d.k = true) : 1 ≤ d.v ∧ d.v ≤ 3 := by
  obtain ⟨k, p, v⟩ := d
  simp only at hu
  rw [M.doOk_eq] at h
  simp [hu, M.rng] at h
  show 1 ≤ v ∧ v ≤ 3
  omega

end Go.Proofs.Ythgmolelipjdaaa
