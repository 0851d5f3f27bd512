/- How the model reads a text, plainly: whatever program is ok is read back from its text. No condition. -/
import Derived.Test.YthgmolelipjdaaaRdP
namespace Go.Proofs.Ythgmolelipjdaaa

/-- A text, cut at each byte of a kind; cur is what stands behind the last cut. -/
def M.splitAt (c : UInt8) : List UInt8 → List UInt8 → List (List UInt8)
  | [], cur => [cur]
  | x :: l, cur => if x == c then cur :: M.splitAt c l [] else M.splitAt c l (cur ++ [x])
def M.split (c : UInt8) (s : List UInt8) : List (List UInt8) := M.splitAt c s []
theorem M.splitAt_app (c : UInt8) (a r : List UInt8) (h : c ∉ a) : ∀ cur, M.splitAt c (a ++ r) cur = M.splitAt c r (cur ++ a) := by
  induction a with
  | nil => intro cur; simp
  | cons x a ih =>
    intro cur
    have hx : (x == c) = false := by simp at h ⊢; exact fun e => h.1 e.symm
    simp only [List.cons_append, M.splitAt, hx]
    rw [if_neg (by simp), ih (fun hc => h (List.mem_cons_of_mem _ hc))]
    simp
theorem M.split_line (c : UInt8) (a r : List UInt8) (h : c ∉ a) : M.split c (a ++ c :: r) = a :: M.split c r := by
  unfold M.split
  rw [M.splitAt_app c a _ h]
  simp [M.splitAt]
theorem M.split_none (c : UInt8) (a : List UInt8) (h : c ∉ a) : M.split c a = [a] := by
  have := M.splitAt_app c a [] h []
  simp only [List.append_nil, List.nil_append] at this
  unfold M.split
  rw [this]
  rfl
theorem M.splitAt_ne (c : UInt8) : ∀ (s cur : List UInt8), M.splitAt c s cur ≠ []
  | [], cur => by simp [M.splitAt]
  | x :: l, cur => by
    unfold M.splitAt
    split
    · simp
    · exact M.splitAt_ne c l _
theorem M.split_ne (c : UInt8) (s : List UInt8) : M.split c s ≠ [] := M.splitAt_ne c s []
theorem M.splitAt_len (c : UInt8) : ∀ (s cur : List UInt8), (M.splitAt c s cur).length ≤ s.length + 1
  | [], cur => by simp [M.splitAt]
  | x :: l, cur => by
    unfold M.splitAt
    split
    · have := M.splitAt_len c l []
      simp only [List.length_cons]
      omega
    · have := M.splitAt_len c l (cur ++ [x])
      simp only [List.length_cons]
      omega
theorem M.splitAt_each (c : UInt8) : ∀ (s cur : List UInt8), ∀ x ∈ M.splitAt c s cur, x.length ≤ cur.length + s.length
  | [], cur => by simp [M.splitAt]
  | y :: l, cur => by
    intro x hx
    unfold M.splitAt at hx
    split at hx
    · rcases List.mem_cons.1 hx with rfl | hx
      · omega
      · have := M.splitAt_each c l [] x hx
        simp only [List.length_cons, List.length_nil] at *
        omega
    · have := M.splitAt_each c l (cur ++ [y]) x hx
      simp only [List.length_append, List.length_cons, List.length_nil] at *
      omega

/-- One byte less so much, of a word of one byte. -/
def M.one (n : Int) : Option (List UInt8) → Int
  | some [b] => (b.toNat : Int) - n
  | _ => 0
/-- A step of words. -/
def M.hear (ws : List (List UInt8)) : M.D := ⟨M.kindOf (ws.headD []), M.one 120 ws[1]?, M.one 48 ws[2]?⟩
theorem M.b8_one (n k : Int) (h0 : 0 ≤ n + k) (h1 : n + k ≤ 127) : ((M.b8 (n + k)).toNat : Int) - n = k := by
  unfold M.b8
  have : ((n + k).toNat.toUInt8).toNat = (n + k).toNat := by
    rw [Nat.toUInt8_eq, UInt8.toNat_ofNat']
    omega
  rw [this]
  omega
theorem M.hear_say (d : M.D) (h : M.doOk d = true) : M.hear (M.split 32 (M.say1 d)) = d := by
  obtain ⟨hk, hp, hp0, hv, hv0⟩ := M.doOk_rest h
  obtain ⟨h32, _, _⟩ := M.word_no d.k hk
  have hkk := M.kindOf_word d.k hk
  obtain ⟨k, p, v⟩ := d
  simp only at hk hp hp0 hv hv0 h32 hkk
  unfold M.say1
  cases hu : M.uses k
  · cases hs : M.stores k
    · simp only [Bool.false_eq_true, if_false, List.append_nil]
      rw [M.split_none 32 _ h32]
      simp [M.hear, hkk, M.one, hp0 hu, hv0 hs]
    · rw [M.stores_uses hs] at hu
      cases hu
  · have hpp := hp hu
    have hb : (32 : UInt8) ∉ [M.b8 (120 + p)] := by
      have : p = 0 ∨ p = 1 ∨ p = 2 := by omega
      rcases this with rfl | rfl | rfl <;> decide
    cases hs : M.stores k
    · simp only [Bool.false_eq_true, if_false, if_true, List.append_nil]
      rw [M.split_line 32 _ _ h32, M.split_none 32 _ hb]
      simp [M.hear, hkk, M.one, hv0 hs]
      exact M.b8_one 120 p (by omega) (by omega)
    · have hvv := hv hs
      have hc : (32 : UInt8) ∉ [M.b8 (48 + v)] := by
        have : v = 1 ∨ v = 2 ∨ v = 3 := by omega
        rcases this with rfl | rfl | rfl <;> decide
      simp only [if_true, List.append_assoc, List.cons_append, List.nil_append]
      rw [M.split_line 32 _ _ h32]
      have e : (M.b8 (120 + p) :: 32 :: [M.b8 (48 + v)] : List UInt8) = [M.b8 (120 + p)] ++ 32 :: [M.b8 (48 + v)] := rfl
      rw [e, M.split_line 32 _ _ hb, M.split_none 32 _ hc]
      simp [M.hear, hkk, M.one]
      exact ⟨M.b8_one 120 p (by omega) (by omega), M.b8_one 48 v (by omega) (by omega)⟩

/-- One line more. -/
def M.sline (acc : List (List M.D)) (line : List UInt8) : Option (List (List M.D)) :=
  if line = [116, 104, 114, 101, 97, 100] then some (acc ++ [[]]) else if acc.isEmpty then none else some (M.addLast acc (M.hear (M.split 32 line)))
/-- All lines but the last. -/
def M.slines (acc : List (List M.D)) : List (List UInt8) → Option (List (List M.D))
  | [] => some acc
  | [_] => some acc
  | line :: l => match M.sline acc line with
    | none => none
    | some acc' => M.slines acc' l
theorem M.slines_step (acc : List (List M.D)) (line : List UInt8) (l : List (List UInt8)) (h : l ≠ []) : M.slines acc (line :: l) = match M.sline acc line with | none => none | some acc' => M.slines acc' l := by
  cases l with
  | nil => exact absurd rfl h
  | cons x l => rfl
theorem M.slines_steps (t : List M.D) : ∀ (acc : List (List M.D)) (t0 : List M.D) (r : List UInt8), (∀ d ∈ t, M.doOk d = true) → M.slines (acc ++ [t0]) (M.split 10 (M.sayAll t ++ r)) = M.slines (acc ++ [t0 ++ t]) (M.split 10 r) := by
  induction t with
  | nil => intro acc t0 r _; simp [M.sayAll]
  | cons d t ih =>
    intro acc t0 r h
    have hd := h d (List.mem_cons_self ..)
    obtain ⟨h10, hth⟩ := M.say1_no d hd
    have e : M.sayAll (d :: t) ++ r = M.say1 d ++ 10 :: (M.sayAll t ++ r) := by simp [M.sayAll, M.say_eq1]
    have e3 : (acc ++ [t0]).isEmpty = false := by cases acc <;> rfl
    rw [e, M.split_line 10 _ _ h10, M.slines_step _ _ _ (M.split_ne _ _)]
    simp only [M.sline, hth, if_false, e3, Bool.false_eq_true, M.hear_say d hd, M.addLast_app]
    rw [ih acc (t0 ++ [d]) r (fun x hx => h x (List.mem_cons_of_mem _ hx))]
    simp
theorem M.slines_threads (ll : List (List M.D)) : ∀ (acc : List (List M.D)), (∀ t ∈ ll, ∀ d ∈ t, M.doOk d = true) → M.slines acc (M.split 10 (M.sayProg ll)) = some (acc ++ ll) := by
  induction ll with
  | nil => intro acc _; simp [M.sayProg, M.split, M.splitAt, M.slines]
  | cons t ll ih =>
    intro acc h
    have e : M.sayProg (t :: ll) = [116, 104, 114, 101, 97, 100] ++ 10 :: (M.sayAll t ++ M.sayProg ll) := by simp [M.sayProg, M.sayThread]
    rw [e, M.split_line 10 _ _ (by decide), M.slines_step _ _ _ (M.split_ne _ _)]
    simp only [M.sline, if_true]
    rw [M.slines_steps t acc [] _ (h t (List.mem_cons_self ..)), ih _ (fun x hx => h x (List.mem_cons_of_mem _ hx))]
    simp
/-- What the model reads of a text. -/
def M.sread (s : List UInt8) : Option (List (List M.D)) := M.slines [] (M.split 10 s)
theorem M.sread_back {ll : List (List M.D)} (h : M.prog ll = true) : M.sread (M.text ll) = some ll := by
  obtain ⟨_, hth⟩ := M.prog_thread h
  have e : M.text ll = M.sayProg ll := by simp [M.text, h]
  rw [e]
  exact M.slines_threads ll [] (fun t ht => M.thread_do (hth t ht))
theorem M.sread_none {s : List UInt8} (h : M.sread s = none) : M.back s = none := by
  cases hb : M.back s with
  | none => rfl
  | some ll =>
    obtain ⟨hp, ht⟩ := M.back_ok hb
    rw [← ht, M.sread_back hp] at h
    cases h
theorem M.sread_not {s : List UInt8} {mm : List (List M.D)} (h : M.sread s = some mm) (hne : M.text mm ≠ s) : M.back s = none := by
  cases hb : M.back s with
  | none => rfl
  | some ll =>
    obtain ⟨hp, ht⟩ := M.back_ok hb
    rw [← ht, M.sread_back hp] at h
    obtain ⟨rfl⟩ := h
    exact absurd ht hne
theorem M.sread_yes {s : List UInt8} {mm : List (List M.D)} (h : M.sread s = some mm) (he : M.text mm = s) : M.back s = some mm := by
  cases hp : M.prog mm
  · have e : M.text mm = [] := by simp [M.text, hp]
    rw [e] at he
    subst he
    have : M.sread [] = some [] := rfl
    rw [this] at h
    obtain ⟨rfl⟩ := h
    exact absurd hp (by decide)
  · rw [← he]
    exact M.back_text hp

end Go.Proofs.Ythgmolelipjdaaa
