/- A text of a program, read back, plainly: whatever program is ok is read back from its text. No condition. -/
import Derived.Test.YthgmolelipjdaaaTxI
import Derived.Lib.IndexMore
import Derived.Laws.IdiomStrings
namespace Go.Proofs.Ythgmolelipjdaaa

theorem M.index_at (c : UInt8) (a r : List UInt8) (h : c ∉ a) : Lib.index (a ++ c :: r) [c] = a.length := by
  induction a with
  | nil => simp [Lib.index]
  | cons x a ih =>
    have hx : (c == x) = false := by simp at h ⊢; exact h.1
    have ih' := ih (fun hc => h (List.mem_cons_of_mem _ hc))
    simp only [List.cons_append, Lib.index, List.isPrefixOf, hx, ih', Bool.false_and]
    have : ((a.length : Int) == -1) = false := by simp
    simp [this]
theorem M.index_no (c : UInt8) (a : List UInt8) (h : c ∉ a) : Lib.index a [c] = -1 := by
  induction a with
  | nil => simp [Lib.index]
  | cons x a ih =>
    have hx : (c == x) = false := by simp at h ⊢; exact h.1
    have ih' := ih (fun hc => h (List.mem_cons_of_mem _ hc))
    simp only [Lib.index, List.isPrefixOf, hx, ih', Bool.false_and]
    simp
theorem M.cut_at (c : UInt8) (a r : List UInt8) (h : c ∉ a) : Lib.cut (a ++ c :: r) [c] = (a, r, true) := by
  have e := M.index_at c a r h
  unfold Lib.cut
  rw [e, if_pos (by omega)]
  simp
theorem M.cut_no (c : UInt8) (a : List UInt8) (h : c ∉ a) : Lib.cut a [c] = (a, [], false) := by
  have e := M.index_no c a h
  unfold Lib.cut
  rw [e]
  simp

/-- The kind of a word, 0 if it is none. -/
def M.kindOf (s : List UInt8) : Int := if s = (M.word 1).data.toList then 1 else if s = (M.word 2).data.toList then 2 else if s = (M.word 3).data.toList then 3 else if s = (M.word 4).data.toList then 4 else if s = (M.word 5).data.toList then 5 else if s = (M.word 6).data.toList then 6 else if s = (M.word 7).data.toList then 7 else if s = (M.word 8).data.toList then 8 else if s = (M.word 9).data.toList then 9 else 0
theorem M.kindOf_word (k : Int) (h : 1 ≤ k ∧ k ≤ 9) : M.kindOf (M.word k).data.toList = k := by
  have : k = 1 ∨ k = 2 ∨ k = 3 ∨ k = 4 ∨ k = 5 ∨ k = 6 ∨ k = 7 ∨ k = 8 ∨ k = 9 := by omega
  rcases this with rfl | rfl | rfl | rfl | rfl | rfl | rfl | rfl | rfl <;> decide

/-- The runes of a text. -/
def M.runes (s : List UInt8) : List Int := (Conv.runesFrom ⟨s.toArray⟩ s.length 0 #[]).toList.map RowKit.intOf

/-- A step, read. -/
def M.rdDo (k : Int) (R : List Int) : M.D := ⟨k, if M.uses k then (R.head?.map (· - 120)).getD 0 else 0, if M.stores k then (R.getLast?.map (· - 48)).getD 0 else 0⟩
def M.rdStep (line : List UInt8) : Option M.D := if M.kindOf (Lib.cut line [32]).1 = 0 then none else some (M.rdDo (M.kindOf (Lib.cut line [32]).1) (M.runes (Lib.cut line [32]).2.1))

theorem M.word_no (k : Int) (h : 1 ≤ k ∧ k ≤ 9) : (32 : UInt8) ∉ (M.word k).data.toList ∧ (10 : UInt8) ∉ (M.word k).data.toList ∧ (M.word k).data.toList ≠ [116, 104, 114, 101, 97, 100] := by
  have : k = 1 ∨ k = 2 ∨ k = 3 ∨ k = 4 ∨ k = 5 ∨ k = 6 ∨ k = 7 ∨ k = 8 ∨ k = 9 := by omega
  rcases this with rfl | rfl | rfl | rfl | rfl | rfl | rfl | rfl | rfl <;> decide
theorem M.runes0 : M.runes [] = [] := by decide
theorem M.runes1 (p : Int) (h : 0 ≤ p ∧ p ≤ 2) : M.runes [M.b8 (120 + p)] = [120 + p] := by
  have : p = 0 ∨ p = 1 ∨ p = 2 := by omega
  rcases this with rfl | rfl | rfl <;> decide
theorem M.runes3 (p v : Int) (h : 0 ≤ p ∧ p ≤ 2) (hv : 1 ≤ v ∧ v ≤ 3) : M.runes [M.b8 (120 + p), 32, M.b8 (48 + v)] = [120 + p, 32, 48 + v] := by
  have h1 : p = 0 ∨ p = 1 ∨ p = 2 := by omega
  have h2 : v = 1 ∨ v = 2 ∨ v = 3 := by omega
  rcases h1 with rfl | rfl | rfl <;> rcases h2 with rfl | rfl | rfl <;> decide

/-- What stands in a step's text. -/
def M.say1 (d : M.D) : List UInt8 := (M.word d.k).data.toList ++ (if M.uses d.k then [32, M.b8 (120 + d.p)] else []) ++ (if M.stores d.k then [32, M.b8 (48 + d.v)] else [])
theorem M.say_eq1 (d : M.D) : M.say d = M.say1 d ++ [10] := rfl
theorem M.doOk_rest {d : M.D} (h : M.doOk d = true) : (1 ≤ d.k ∧ d.k ≤ 9) ∧ (M.uses d.k = true → 0 ≤ d.p ∧ d.p ≤ 2) ∧ (M.uses d.k = false → d.p = 0) ∧ (M.stores d.k = true → 1 ≤ d.v ∧ d.v ≤ 3) ∧ (M.stores d.k = false → d.v = 0) := by
  refine ⟨?_, M.doOk_place h, ?_, M.doOk_val h, ?_⟩
  · simp only [M.doOk, M.wordOk, Bool.and_eq_true, decide_eq_true_eq] at h
    exact h.1.1
  · intro hu
    simp [M.doOk, M.placeOk, hu] at h
    exact h.1.2
  · intro hu
    simp [M.doOk, M.valOk, hu] at h
    exact h.2
theorem M.stores_uses {k : Int} (h : M.stores k = true) : M.uses k = true := by simp [M.uses, M.writes, h]

theorem M.rdStep_say (d : M.D) (h : M.doOk d = true) : M.rdStep (M.say1 d) = some d := by
  obtain ⟨hk, hp, hp0, hv, hv0⟩ := M.doOk_rest h
  obtain ⟨h32, _, _⟩ := M.word_no d.k hk
  have hkk := M.kindOf_word d.k hk
  have hk0 : d.k ≠ 0 := by omega
  obtain ⟨k, p, v⟩ := d
  simp only at hk hp hp0 hv hv0 h32 hkk hk0
  unfold M.say1 M.rdStep
  cases hu : M.uses k
  · cases hs : M.stores k
    · simp only [Bool.false_eq_true, if_false, List.append_nil]
      rw [M.cut_no 32 _ h32]
      simp only [hkk, hk0, if_false, M.rdDo, M.runes0, hu, hs, hp0 hu, hv0 hs]
      simp
    · rw [M.stores_uses hs] at hu
      cases hu
  · cases hs : M.stores k
    · simp only [Bool.false_eq_true, if_false, if_true, List.append_nil]
      rw [M.cut_at 32 _ _ h32]
      simp only [hkk, hk0, if_false, M.rdDo, M.runes1 p (hp hu), hu, hs, hv0 hs]
      simp
      omega
    · simp only [if_true, List.append_assoc, List.cons_append, List.nil_append]
      rw [M.cut_at 32 _ _ h32]
      simp only [hkk, hk0, if_false, M.rdDo, M.runes3 p v (hp hu) (hv hs), hu, hs]
      simp
      omega
theorem M.say1_no (d : M.D) (h : M.doOk d = true) : (10 : UInt8) ∉ M.say1 d ∧ M.say1 d ≠ [116, 104, 114, 101, 97, 100] := by
  obtain ⟨hk, hp, hp0, hv, hv0⟩ := M.doOk_rest h
  obtain ⟨h32, h10, hth⟩ := M.word_no d.k hk
  have hb : ∀ p : Int, 0 ≤ p ∧ p ≤ 2 → (10 : UInt8) ≠ M.b8 (120 + p) := by
    intro p h
    have : p = 0 ∨ p = 1 ∨ p = 2 := by omega
    rcases this with rfl | rfl | rfl <;> decide
  have hc : ∀ v : Int, 1 ≤ v ∧ v ≤ 3 → (10 : UInt8) ≠ M.b8 (48 + v) := by
    intro p h
    have : p = 1 ∨ p = 2 ∨ p = 3 := by omega
    rcases this with rfl | rfl | rfl <;> decide
  constructor
  · unfold M.say1
    simp only [List.mem_append, not_or]
    refine ⟨⟨h10, ?_⟩, ?_⟩
    · cases hu : M.uses d.k
      · simp
      · simp; exact hb _ (hp hu)
    · cases hu : M.stores d.k
      · simp
      · simp; exact hc _ (hv hu)
  · unfold M.say1
    cases hu : M.uses d.k
    · cases hs : M.stores d.k
      · simpa using hth
      · rw [M.stores_uses hs] at hu
        cases hu
    · intro he
      have : (32 : UInt8) ∈ ([116, 104, 114, 101, 97, 100] : List UInt8) := by rw [← he]; simp
      revert this
      decide

/-- The last thread with a step more. -/
def M.addLast : List (List M.D) → M.D → List (List M.D)
  | [], _ => []
  | [t], d => [t ++ [d]]
  | t :: l, d => t :: M.addLast l d
theorem M.addLast_app (l : List (List M.D)) (t : List M.D) (d : M.D) : M.addLast (l ++ [t]) d = l ++ [t ++ [d]] := by
  induction l with
  | nil => rfl
  | cons x l ih =>
    cases l with
    | nil => rfl
    | cons y l => exact congrArg (List.cons x) ih

/-- One line more, read. -/
def M.rdLine (acc : List (List M.D)) (line : List UInt8) : Option (List (List M.D)) :=
  if line = [116, 104, 114, 101, 97, 100] then some (acc ++ [[]]) else match M.rdStep line with
    | none => none
    | some d => if acc.isEmpty then none else some (M.addLast acc d)
/-- All lines, read. -/
def M.rdAll : Nat → List (List M.D) → List UInt8 → Option (List (List M.D))
  | 0, acc, _ => some acc
  | f + 1, acc, s => if s.isEmpty then some acc else match M.rdLine acc (Lib.cut s [10]).1 with
    | none => none
    | some acc' => M.rdAll f acc' (Lib.cut s [10]).2.1

theorem M.rdAll_line (f : Nat) (acc : List (List M.D)) (line r : List UInt8) (h : (10 : UInt8) ∉ line) : M.rdAll (f + 1) acc (line ++ 10 :: r) = match M.rdLine acc line with | none => none | some acc' => M.rdAll f acc' r := by
  have e : (line ++ 10 :: r).isEmpty = false := by cases line <;> rfl
  simp only [M.rdAll, e, M.cut_at 10 line r h]
  rfl
theorem M.rdAll_steps (t : List M.D) : ∀ (f : Nat) (acc : List (List M.D)) (t0 : List M.D) (r : List UInt8), (∀ d ∈ t, M.doOk d = true) → M.rdAll (f + t.length) (acc ++ [t0]) (M.sayAll t ++ r) = M.rdAll f (acc ++ [t0 ++ t]) r := by
  induction t with
  | nil => intro f acc t0 r _; simp [M.sayAll]
  | cons d t ih =>
    intro f acc t0 r h
    have hd := h d (List.mem_cons_self ..)
    obtain ⟨h10, hth⟩ := M.say1_no d hd
    have e : M.sayAll (d :: t) ++ r = M.say1 d ++ 10 :: (M.sayAll t ++ r) := by simp [M.sayAll, M.say_eq1]
    have e2 : f + (d :: t).length = (f + t.length) + 1 := by simp only [List.length_cons]; omega
    have e3 : (acc ++ [t0]).isEmpty = false := by cases acc <;> rfl
    rw [e, e2, M.rdAll_line _ _ _ _ h10]
    simp only [M.rdLine, hth, if_false, M.rdStep_say d hd, e3, Bool.false_eq_true, M.addLast_app]
    rw [ih f acc (t0 ++ [d]) r (fun x hx => h x (List.mem_cons_of_mem _ hx))]
    simp
/-- How many lines there are. -/
def M.lines (ll : List (List M.D)) : Nat := (ll.map fun t => t.length + 1).sum
theorem M.rdAll_threads (ll : List (List M.D)) : ∀ (f : Nat) (acc : List (List M.D)) (r : List UInt8), (∀ t ∈ ll, ∀ d ∈ t, M.doOk d = true) → M.rdAll (f + M.lines ll) acc (M.sayProg ll ++ r) = M.rdAll f (acc ++ ll) r := by
  induction ll with
  | nil => intro f acc r _; simp [M.sayProg, M.lines]
  | cons t ll ih =>
    intro f acc r h
    have e : M.sayProg (t :: ll) ++ r = [116, 104, 114, 101, 97, 100] ++ 10 :: (M.sayAll t ++ (M.sayProg ll ++ r)) := by simp [M.sayProg, M.sayThread]
    have e2 : f + M.lines (t :: ll) = ((f + M.lines ll) + t.length) + 1 := by simp only [M.lines, List.map_cons, List.sum_cons]; omega
    rw [e, e2, M.rdAll_line _ _ _ _ (by decide)]
    simp only [M.rdLine, if_true]
    rw [M.rdAll_steps t _ acc [] _ (h t (List.mem_cons_self ..)), ih f _ r (fun x hx => h x (List.mem_cons_of_mem _ hx))]
    simp
theorem M.sayAll_ge (t : List M.D) : t.length ≤ (M.sayAll t).length := by
  induction t with
  | nil => simp
  | cons d t ih =>
    have : M.sayAll (d :: t) = M.say d ++ M.sayAll t := by simp [M.sayAll]
    rw [this, M.say_eq1]
    simp only [List.length_append, List.length_cons, List.length_nil]
    omega
theorem M.lines_le (ll : List (List M.D)) : M.lines ll ≤ (M.sayProg ll).length := by
  induction ll with
  | nil => simp [M.lines]
  | cons t ll ih =>
    have h1 := M.sayAll_ge t
    have e : M.sayProg (t :: ll) = M.sayThread t ++ M.sayProg ll := by simp [M.sayProg]
    rw [e]
    simp only [M.lines, List.map_cons, List.sum_cons, List.length_append, M.sayThread, List.length_cons, List.length_nil] at *
    omega
/-- What is read of a text. -/
def M.rdText (s : List UInt8) : Option (List (List M.D)) := M.rdAll (s.length + 1) [] s
theorem M.rdText_back {ll : List (List M.D)} (h : M.prog ll = true) : M.rdText (M.sayProg ll) = some ll := by
  obtain ⟨_, hth⟩ := M.prog_thread h
  have h1 := M.lines_le ll
  obtain ⟨f, hf⟩ : ∃ f, (M.sayProg ll).length + 1 = (f + 1) + M.lines ll := ⟨(M.sayProg ll).length - M.lines ll, by omega⟩
  have h2 := M.rdAll_threads ll (f + 1) [] [] (fun t ht => M.thread_do (hth t ht))
  rw [List.append_nil, ← hf] at h2
  rw [M.rdText, h2]
  rfl
/-- Two programs that are ok, and have one text, are the same. -/
theorem M.sayProg_inj {ll mm : List (List M.D)} (h : M.prog ll = true) (h2 : M.prog mm = true) (e : M.sayProg ll = M.sayProg mm) : ll = mm := by
  have h3 := M.rdText_back h
  rw [e, M.rdText_back h2] at h3
  exact (Option.some.inj h3).symm

end Go.Proofs.Ythgmolelipjdaaa
