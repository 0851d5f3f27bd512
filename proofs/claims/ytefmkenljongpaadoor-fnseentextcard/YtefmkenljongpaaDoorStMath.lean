/- The text of what was seen, plainly; it tells its numbers. No condition. -/
import Derived.Lib.ItoaMem
import Derived.Test.YtefmkenljongpaaDoorSnMath
namespace Go.Proofs.YtefmkenljongpaaDoor

/-- Numbers, a blank behind each. -/
def M.behind (l : List Int) : List UInt8 := l.flatMap fun v => Lib.itoa v ++ [32]
/-- Numbers, a blank ahead of each. -/
def M.ahead (l : List Int) : List UInt8 := l.flatMap fun v => 32 :: Lib.itoa v
def M.seenText (l1 l2 : List Int) : List UInt8 := M.behind l1 ++ [47] ++ M.ahead l2

theorem M.digit_ok (n : Nat) (h : n < 10) : UInt8.ofNat (48 + n) ≠ 32 ∧ UInt8.ofNat (48 + n) ≠ 47 ∧ UInt8.ofNat (48 + n) ≠ 45 := by
  have : n = 0 ∨ n = 1 ∨ n = 2 ∨ n = 3 ∨ n = 4 ∨ n = 5 ∨ n = 6 ∨ n = 7 ∨ n = 8 ∨ n = 9 := by omega
  rcases this with rfl | rfl | rfl | rfl | rfl | rfl | rfl | rfl | rfl | rfl <;> decide
theorem M.digit_inj (n m : Nat) (h : n < 10) (h2 : m < 10) (e : UInt8.ofNat (48 + n) = UInt8.ofNat (48 + m)) : n = m := by
  have e2 := congrArg UInt8.toNat e
  simp only [UInt8.toNat_ofNat'] at e2
  omega
theorem M.dig_ok (n : Nat) : ∀ x ∈ Lib.decDigits n, x ≠ 32 ∧ x ≠ 47 ∧ x ≠ 45 := by
  induction n using Nat.strongRecOn with
  | _ n ih =>
    intro x hx
    rw [Lib.decDigits] at hx
    split at hx
    · rename_i h
      simp only [List.mem_singleton] at hx
      subst hx
      exact M.digit_ok n h
    · rename_i h
      rcases List.mem_append.1 hx with hx | hx
      · exact ih (n / 10) (by omega) x hx
      · simp only [List.mem_singleton] at hx
        subst hx
        exact M.digit_ok _ (by omega)
theorem M.dig_ne (n : Nat) : Lib.decDigits n ≠ [] := by
  rw [Lib.decDigits]
  split <;> simp
theorem M.dig_inj (n : Nat) : ∀ m, Lib.decDigits n = Lib.decDigits m → n = m := by
  induction n using Nat.strongRecOn with
  | _ n ih =>
    intro m e
    rw [Lib.decDigits, Lib.decDigits.eq_def m] at e
    split at e
    · rename_i h
      split at e
      · rename_i h2
        exact M.digit_inj n m h h2 (List.cons.inj e).1
      · have := congrArg List.length e
        have h3 := List.length_pos_iff.2 (M.dig_ne (m / 10))
        simp only [List.length_append, List.length_cons, List.length_nil] at this
        omega
    · rename_i h
      split at e
      · have := congrArg List.length e
        have h3 := List.length_pos_iff.2 (M.dig_ne (n / 10))
        simp only [List.length_append, List.length_cons, List.length_nil] at this
        omega
      · have e1 := List.append_inj' e rfl
        have h1 := ih (n / 10) (by omega) _ e1.1
        have h2 := M.digit_inj _ _ (by omega) (by omega) (List.cons.inj e1.2).1
        omega
theorem M.itoa_ok (n : Int) : ∀ x ∈ Lib.itoa n, x ≠ 32 ∧ x ≠ 47 := by
  intro x hx
  unfold Lib.itoa at hx
  split at hx
  · rcases List.mem_cons.1 hx with rfl | hx
    · decide
    · exact ⟨(M.dig_ok _ x hx).1, (M.dig_ok _ x hx).2.1⟩
  · exact ⟨(M.dig_ok _ x hx).1, (M.dig_ok _ x hx).2.1⟩
theorem M.itoa_inj (n m : Int) (e : Lib.itoa n = Lib.itoa m) : n = m := by
  unfold Lib.itoa at e
  split at e
  · split at e
    · have := M.dig_inj _ _ (List.cons.inj e).2
      omega
    · exact absurd rfl (M.dig_ok m.toNat 45 (by rw [← e]; simp)).2.2
  · split at e
    · exact absurd rfl (M.dig_ok n.toNat 45 (by rw [e]; simp)).2.2
    · have := M.dig_inj _ _ e
      omega

/-- Up to a byte that stands in neither. -/
theorem M.split_at {c : UInt8} {a b r q : List UInt8} (ha : ∀ x ∈ a, x ≠ c) (hb : ∀ x ∈ b, x ≠ c) (e : a ++ c :: r = b ++ c :: q) : a = b ∧ r = q := by
  induction a generalizing b with
  | nil =>
    cases b with
    | nil => exact ⟨rfl, (List.cons.inj e).2⟩
    | cons y b => exact absurd (List.cons.inj e).1.symm (hb y (by simp))
  | cons x a ih =>
    cases b with
    | nil => exact absurd (List.cons.inj e).1 (ha x (by simp))
    | cons y b =>
      obtain ⟨h1, h2⟩ := List.cons.inj e
      obtain ⟨h3, h4⟩ := ih (fun z hz => ha z (by simp [hz])) (fun z hz => hb z (by simp [hz])) h2
      exact ⟨by rw [h1, h3], h4⟩
theorem M.behind_cons (v : Int) (l : List Int) : M.behind (v :: l) = Lib.itoa v ++ 32 :: M.behind l := by simp [M.behind]
theorem M.ahead_cons (v : Int) (l : List Int) : M.ahead (v :: l) = 32 :: (Lib.itoa v ++ M.ahead l) := by simp [M.ahead]
theorem M.behind_no (l : List Int) : ∀ x ∈ M.behind l, x ≠ 47 := by
  intro x hx
  obtain ⟨v, _, hx⟩ := List.mem_flatMap.1 hx
  rcases List.mem_append.1 hx with h | h
  · exact (M.itoa_ok v x h).2
  · simp only [List.mem_singleton] at h; subst h; decide
theorem M.behind_inj : ∀ l m : List Int, M.behind l = M.behind m → l = m
  | [], [], _ => rfl
  | [], v :: m, e => by rw [M.behind_cons] at e; have := congrArg List.length e; simp [M.behind] at this
  | v :: l, [], e => by rw [M.behind_cons] at e; have := congrArg List.length e; simp [M.behind] at this
  | v :: l, u :: m, e => by
    rw [M.behind_cons, M.behind_cons] at e
    obtain ⟨h1, h2⟩ := M.split_at (fun x hx => (M.itoa_ok v x hx).1) (fun x hx => (M.itoa_ok u x hx).1) e
    rw [M.itoa_inj _ _ h1, M.behind_inj l m h2]
theorem M.ahead_shift (v : Int) : ∀ l : List Int, Lib.itoa v ++ M.ahead l ++ [32] = M.behind (v :: l)
  | [] => by simp [M.ahead, M.behind]
  | u :: l => by rw [M.ahead_cons, M.behind_cons, ← M.ahead_shift u l]; simp
theorem M.ahead_inj : ∀ l m : List Int, M.ahead l = M.ahead m → l = m
  | [], [], _ => rfl
  | [], v :: m, e => by rw [M.ahead_cons] at e; cases e
  | v :: l, [], e => by rw [M.ahead_cons] at e; cases e
  | v :: l, u :: m, e => by
    rw [M.ahead_cons, M.ahead_cons] at e
    have h := (List.cons.inj e).2
    have h2 : M.behind (v :: l) = M.behind (u :: m) := by rw [← M.ahead_shift, ← M.ahead_shift, h]
    exact M.behind_inj _ _ h2
theorem M.seenText_inj {l1 l2 m1 m2 : List Int} (e : M.seenText l1 l2 = M.seenText m1 m2) : l1 = m1 ∧ l2 = m2 := by
  unfold M.seenText at e
  rw [List.append_assoc, List.append_assoc] at e
  obtain ⟨h1, h2⟩ := M.split_at (M.behind_no l1) (M.behind_no m1) e
  exact ⟨M.behind_inj _ _ h1, M.ahead_inj _ _ h2⟩

theorem M.dig_len : ∀ (k n : Nat), n < 10 ^ (k + 1) → (Lib.decDigits n).length ≤ k + 1
  | 0, n, h => by
    rw [Lib.decDigits, dif_pos (by simpa using h)]
    simp
  | k + 1, n, h => by
    rw [Lib.decDigits]
    split
    · simp
    · have h2 : n / 10 < 10 ^ (k + 1) := by
        rw [Nat.div_lt_iff_lt_mul (by omega)]
        rw [Nat.pow_succ] at h
        exact h
      have := M.dig_len k (n / 10) h2
      simp only [List.length_append, List.length_cons, List.length_nil]
      omega
theorem M.itoa_le (n : Int) (h0 : -9223372036854775808 ≤ n) (h1 : n ≤ 9223372036854775807) : (Lib.itoa n).length ≤ 20 := by
  unfold Lib.itoa
  split
  · have := M.dig_len 18 n.natAbs (by simp only [Nat.reduceAdd, Nat.reducePow]; omega)
    simp only [List.length_cons]
    omega
  · have := M.dig_len 18 n.toNat (by simp only [Nat.reduceAdd, Nat.reducePow]; omega)
    omega
/-- Numbers of this machine. -/
def Fits (l : List Int) : Prop := ∀ v ∈ l, -9223372036854775808 ≤ v ∧ v ≤ 9223372036854775807
theorem Fits.take {l : List Int} (h : Fits l) (n : Nat) : Fits (l.take n) := fun v hv => h v (List.mem_of_mem_take hv)
theorem M.behind_le {l : List Int} (h : Fits l) : (M.behind l).length ≤ 21 * l.length := by
  induction l with
  | nil => simp [M.behind]
  | cons v l ih =>
    have h1 := ih (fun u hu => h u (List.mem_cons_of_mem _ hu))
    obtain ⟨h2, h3⟩ := h v (by simp)
    have h4 := M.itoa_le v h2 h3
    rw [M.behind_cons]
    simp only [List.length_append, List.length_cons] at *
    omega
theorem M.ahead_le {l : List Int} (h : Fits l) : (M.ahead l).length ≤ 21 * l.length := by
  induction l with
  | nil => simp [M.ahead]
  | cons v l ih =>
    have h1 := ih (fun u hu => h u (List.mem_cons_of_mem _ hu))
    obtain ⟨h2, h3⟩ := h v (by simp)
    have h4 := M.itoa_le v h2 h3
    rw [M.ahead_cons]
    simp only [List.length_append, List.length_cons] at *
    omega
theorem M.behind_step {l : List Int} {n : Nat} {v : Int} (hd : l[n]? = some v) : M.behind (l.take (n + 1)) = M.behind (l.take n) ++ (Lib.itoa v ++ [32]) := by
  rw [List.take_add_one, hd]
  simp [M.behind]
theorem M.ahead_step {l : List Int} {n : Nat} {v : Int} (hd : l[n]? = some v) : M.ahead (l.take (n + 1)) = M.ahead (l.take n) ++ (32 :: Lib.itoa v) := by
  rw [List.take_add_one, hd]
  simp [M.ahead]

end Go.Proofs.YtefmkenljongpaaDoor
