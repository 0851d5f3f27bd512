/- What was seen, turned as the threads are, plainly. No condition. -/
import Derived.Test.YtnaljfnijcoheaaTnMath
import Derived.Test.YtnaljfnijcoheaaTnT
import Derived.Test.YtnaljfnijcoheaaSnOk
namespace Go.Proofs.Ytnaljfnijcoheaa
namespace M

/-- What each thread read. -/
def parts : List (List D) → List Int → List (List Int)
  | [], _ => []
  | t :: ll, l => l.take (cnt reads t) :: parts ll (l.drop (cnt reads t))
theorem parts_len (ll : List (List D)) : ∀ l, (parts ll l).length = ll.length := by
  induction ll with
  | nil => intro l; rfl
  | cons t ll ih => intro l; simp [parts, ih]
theorem tot_take (f : Int → Bool) (ll : List (List D)) (n : Nat) (h : n < ll.length) : tot f (ll.take (n + 1)) = tot f (ll.take n) + cnt f ll[n] := by
  have app : ∀ a b : List (List D), tot f (a ++ b) = tot f a + tot f b := fun a b => by
    induction a with
    | nil => simp [tot]
    | cons x a ih => simp only [List.cons_append, tot, ih]; omega
  rw [List.take_succ_eq_append_getElem h, app]; simp [tot]
theorem parts_get (ll : List (List D)) : ∀ (l : List Int) (n : Nat) (h : n < ll.length) (h' : n < (parts ll l).length), (parts ll l)[n] = (l.drop (tot reads (ll.take n))).take (cnt reads ll[n]) := by
  induction ll with
  | nil => intro l n h; simp at h
  | cons t ll ih =>
    intro l n h h'
    cases n with
    | zero => simp [parts, tot]
    | succ n =>
      have := ih (l.drop (cnt reads t)) n (by simpa using h) (by rw [parts_len]; simpa using h)
      simp only [parts, List.getElem_cons_succ, List.take_succ_cons, tot]
      rw [this, List.drop_drop]
theorem tot_take_le (f : Int → Bool) (ll : List (List D)) (n : Nat) : tot f (ll.take n) ≤ tot f ll := by
  have app : ∀ a b : List (List D), tot f (a ++ b) = tot f a + tot f b := fun a b => by
    induction a with
    | nil => simp [tot]
    | cons x a ih => simp only [List.cons_append, tot, ih]; omega
  have := app (ll.take n) (ll.drop n)
  rw [List.take_append_drop] at this
  omega
def turnSeen (ll : List (List D)) (l1 l2 row : List Int) : Option (List Int × List Int) := if seenOk ll l1 l2 && rowN row ll.length then some ((pick [] row (parts ll l1)).flatten, l2) else none
theorem turnSeen_bad {ll : List (List D)} {l1 l2 row : List Int} (h : seenOk ll l1 l2 = false) : turnSeen ll l1 l2 row = none := by simp [turnSeen, h]
theorem turnSeen_row {ll : List (List D)} {l1 l2 row : List Int} (h : rowN row ll.length = false) : turnSeen ll l1 l2 row = none := by simp [turnSeen, h]
theorem turnSeen_yes {ll : List (List D)} {l1 l2 row : List Int} (h : seenOk ll l1 l2 = true) (h2 : rowN row ll.length = true) : turnSeen ll l1 l2 row = some ((pick [] row (parts ll l1)).flatten, l2) := by simp [turnSeen, h, h2]
theorem seenOk_len {ll : List (List D)} {l1 l2 : List Int} (h : seenOk ll l1 l2 = true) : prog ll = true ∧ l1.length = tot reads ll ∧ l2.length = 3 := by
  by_cases h1 : (l1.length : Int) = nreads ll
  · by_cases h2 : l2.length = 3
    · cases hp : prog ll
      · rw [nreads_no hp] at h1; omega
      · rw [nreads_ok hp] at h1; exact ⟨rfl, by omega, h2⟩
    · rw [seenOk_2 h2] at h; cases h
  · rw [seenOk_1 h1] at h; cases h
/-- How many numbers the first rows have. -/
def lens : List (List Int) → Nat
  | [] => 0
  | r :: rs => r.length + lens rs
theorem lens_take (rs : List (List Int)) (n : Nat) (h : n < rs.length) : lens (rs.take (n + 1)) = lens (rs.take n) + rs[n].length := by
  have app : ∀ a b : List (List Int), lens (a ++ b) = lens a + lens b := fun a b => by
    induction a with
    | nil => simp [lens]
    | cons x a ih => simp only [List.cons_append, lens, ih]; omega
  rw [List.take_succ_eq_append_getElem h, app]; simp [lens]
theorem lens_flat (rs : List (List Int)) : rs.flatten.length = lens rs := by
  induction rs with
  | nil => rfl
  | cons r rs ih => simp [lens, ih]
theorem flat_take (rs : List (List Int)) (n : Nat) (h : n < rs.length) : (rs.take (n + 1)).flatten = (rs.take n).flatten ++ rs[n] := by
  rw [List.take_succ_eq_append_getElem h]; simp only [List.flatten_append, List.flatten_cons, List.flatten_nil, List.append_nil]
end M
end Go.Proofs.Ytnaljfnijcoheaa
