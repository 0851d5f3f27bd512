/- The plain mathematics of events. No condition. -/
import Derived.Test.YtdpnnghomfaleaaMath
namespace Go.Proofs.Ytdpnnghomfaleaa
namespace M

/-- An event with its step, and the last read of its thread up to it. -/
structure De where
  t : Nat
  i : Nat
  last : Bool
  d : D
  lr : Int
/-- An event. -/
structure Ev where
  t : Nat
  i : Nat
  last : Bool
def De.ev (x : De) : Ev := ⟨x.t, x.i, x.last⟩

def lrOf (lr : Int) (n : Nat) (d : D) : Int := if reads d.k then (n : Int) else lr
/-- The events of one step. -/
def deD (t i : Nat) (lr : Int) (n : Nat) (d : D) : List De := if d.k == 9 then [⟨t, i, false, d, lrOf lr n d⟩, ⟨t, i, true, d, lrOf lr n d⟩] else [⟨t, i, false, d, lrOf lr n d⟩]
/-- Those of the steps of a thread, from one on. -/
def deT (t : Nat) : Nat → Int → Nat → List D → List De
  | _, _, _, [] => []
  | i, lr, n, d :: l => deD t i lr n d ++ deT t (i + 1) (lrOf lr n d) (n + (deD t i lr n d).length) l
/-- Those of threads, from one on. -/
def deF : Nat → Nat → List (List D) → List De
  | _, _, [] => []
  | t, n, l :: ll => deT t 0 (-1) n l ++ deF (t + 1) (n + (deT t 0 (-1) n l).length) ll
def deeds (ll : List (List D)) : List De := deF 0 0 ll
def events (ll : List (List D)) : List Ev := (deeds ll).map De.ev

theorem deD_len (t i : Nat) (lr : Int) (n : Nat) (d : D) : 1 ≤ (deD t i lr n d).length ∧ (deD t i lr n d).length ≤ 2 := by
  unfold deD; split <;> simp
theorem deT_len (t : Nat) (l : List D) : ∀ (i : Nat) (lr : Int) (n : Nat), (deT t i lr n l).length ≤ 2 * l.length := by
  induction l with
  | nil => intro i lr n; simp [deT]
  | cons d l ih =>
    intro i lr n
    have h1 := deD_len t i lr n d
    have h2 := ih (i + 1) (lrOf lr n d) (n + (deD t i lr n d).length)
    simp only [deT, List.length_append, List.length_cons]
    omega
theorem deF_len (ll : List (List D)) : ∀ (t n : Nat), (∀ l ∈ ll, l.length ≤ 7) → (deF t n ll).length ≤ 14 * ll.length := by
  induction ll with
  | nil => intro t n _; simp [deF]
  | cons l ll ih =>
    intro t n h
    have h1 := deT_len t l 0 (-1) n
    have h2 := h l (by simp)
    have h3 := ih (t + 1) (n + (deT t 0 (-1) n l).length) (fun x hx => h x (List.mem_cons_of_mem _ hx))
    simp only [deF, List.length_append, List.length_cons]
    omega
theorem deeds_len {ll : List (List D)} (h3 : ll.length ≤ 3) (h7 : ∀ l ∈ ll, l.length ≤ 7) : (deeds ll).length ≤ 42 := by
  have := deF_len ll 0 0 h7
  unfold deeds
  omega

/-- What is still to be told: in a thread, behind it. -/
def toTell (ll : List (List D)) (l : List D) (t i : Nat) (lr : Int) (n : Nat) : List De := deT t i lr n (l.drop i) ++ deF (t + 1) (n + (deT t i lr n (l.drop i)).length) (ll.drop (t + 1))
theorem tell_start {ll : List (List D)} {t : Nat} {xs : List De} (h : deeds ll = xs ++ deF t xs.length (ll.drop t)) (ht : t < ll.length) : deeds ll = xs ++ toTell ll ll[t] t 0 (-1) xs.length := by
  rw [h, ← List.getElem_cons_drop ht]
  simp [toTell, deF]
theorem tell_step {ll : List (List D)} {l : List D} {t i : Nat} {lr : Int} {xs : List De} (h : deeds ll = xs ++ toTell ll l t i lr xs.length) (hi : i < l.length) : deeds ll = (xs ++ deD t i lr xs.length l[i]) ++ toTell ll l t (i + 1) (lrOf lr xs.length l[i]) (xs ++ deD t i lr xs.length l[i]).length := by
  rw [h]
  unfold toTell
  rw [← List.getElem_cons_drop hi, deT]
  simp [Nat.add_assoc]
theorem tell_end {ll : List (List D)} {l : List D} {t i : Nat} {lr : Int} {xs : List De} (h : deeds ll = xs ++ toTell ll l t i lr xs.length) (hi : l.length ≤ i) : deeds ll = xs ++ deF (t + 1) xs.length (ll.drop (t + 1)) := by
  rw [h]
  unfold toTell
  rw [List.drop_eq_nil_of_le hi]
  simp [deT]
theorem tell_all {ll : List (List D)} {t : Nat} {xs : List De} (h : deeds ll = xs ++ deF t xs.length (ll.drop t)) (ht : ll.length ≤ t) : deeds ll = xs := by
  rw [h, List.drop_eq_nil_of_le ht]
  simp [deF]
theorem deD_wait {t i n : Nat} {lr : Int} {d : D} (h : (d.k == 9) = true) : deD t i lr n d = [⟨t, i, false, d, lrOf lr n d⟩] ++ [⟨t, i, true, d, lrOf lr n d⟩] := by unfold deD; rw [if_pos h]; rfl
theorem deD_one {t i n : Nat} {lr : Int} {d : D} (h : (d.k == 9) = false) : deD t i lr n d = [⟨t, i, false, d, lrOf lr n d⟩] := by unfold deD; rw [if_neg (by rw [h]; simp)]

end M
end Go.Proofs.Ytdpnnghomfaleaa
