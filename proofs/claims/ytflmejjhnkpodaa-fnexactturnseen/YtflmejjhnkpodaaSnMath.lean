/- The plain mathematics of what was seen: how numbers, and what was seen, are compared. No condition. -/
namespace Go.Proofs.Ytflmejjhnkpodaa
namespace M

/-- Numbers compared one by one, then by how many there are: -1, 0 or 1. -/
def comp : List Int → List Int → Int
  | [], [] => 0
  | [], _ :: _ => -1
  | _ :: _, [] => 1
  | x :: a, y :: b => if x < y then -1 else if y < x then 1 else comp a b

theorem comp_lt {l m : List Int} {n : Nat} {x y : Int} (h : comp l m = comp (l.drop n) (m.drop n)) (hl : l.drop n = x :: l.drop (n + 1)) (hm : m.drop n = y :: m.drop (n + 1)) (hxy : x < y) : comp l m = -1 := by
  rw [h, hl, hm, comp, if_pos hxy]
theorem comp_gt {l m : List Int} {n : Nat} {x y : Int} (h : comp l m = comp (l.drop n) (m.drop n)) (hl : l.drop n = x :: l.drop (n + 1)) (hm : m.drop n = y :: m.drop (n + 1)) (hxy : y < x) : comp l m = 1 := by
  rw [h, hl, hm, comp, if_neg (by omega), if_pos hxy]
theorem comp_eq {l m : List Int} {n : Nat} {x y : Int} (h : comp l m = comp (l.drop n) (m.drop n)) (hl : l.drop n = x :: l.drop (n + 1)) (hm : m.drop n = y :: m.drop (n + 1)) (h1 : ¬ x < y) (h2 : ¬ y < x) : comp l m = comp (l.drop (n + 1)) (m.drop (n + 1)) := by
  rw [h, hl, hm, comp, if_neg h1, if_neg h2]
theorem comp_fst {l m : List Int} {n : Nat} (h : comp l m = comp (l.drop n) (m.drop n)) (hl : l.length ≤ n) (hm : n < m.length) : comp l m = -1 := by
  rw [h, List.drop_eq_nil_of_le hl, (List.getElem_cons_drop hm).symm, comp]
theorem comp_snd {l m : List Int} {n : Nat} (h : comp l m = comp (l.drop n) (m.drop n)) (hl : n < l.length) (hm : m.length ≤ n) : comp l m = 1 := by
  rw [h, List.drop_eq_nil_of_le hm, (List.getElem_cons_drop hl).symm, comp]
theorem comp_fin {l m : List Int} {n : Nat} (h : comp l m = comp (l.drop n) (m.drop n)) (hl : l.length ≤ n) (hm : m.length ≤ n) : comp l m = 0 := by
  rw [h, List.drop_eq_nil_of_le hl, List.drop_eq_nil_of_le hm, comp]
theorem drop_int (l : List Int) (n : Nat) (h : n < l.length) : l.drop n = l[n] :: l.drop (n + 1) := (List.getElem_cons_drop h).symm

/-- What was seen: the reads, then what is there at last. -/
def cmpS (a1 a2 b1 b2 : List Int) : Int := if comp a1 b1 = 0 then comp a2 b2 else comp a1 b1

/-- All are values. -/
def vals (l : List Int) : Bool := l.all fun v => decide (0 ≤ v) && decide (v ≤ 3)

theorem vals_bad {l : List Int} {n : Nat} {x : Int} (h : vals l = vals (l.drop n)) (hl : l.drop n = x :: l.drop (n + 1)) (hx : ¬ (0 ≤ x ∧ x ≤ 3)) : vals l = false := by
  rw [h, hl]
  simp only [vals, List.all_cons]
  have : (decide (0 ≤ x) && decide (x ≤ 3)) = false := by
    rw [← Bool.decide_and]; simpa using hx
  rw [this, Bool.false_and]
theorem vals_ok {l : List Int} {n : Nat} {x : Int} (h : vals l = vals (l.drop n)) (hl : l.drop n = x :: l.drop (n + 1)) (h0 : 0 ≤ x) (h3 : x ≤ 3) : vals l = vals (l.drop (n + 1)) := by
  rw [h, hl]
  simp only [vals, List.all_cons]
  have : (decide (0 ≤ x) && decide (x ≤ 3)) = true := by simp [h0, h3]
  rw [this, Bool.true_and]
theorem vals_fin {l : List Int} {n : Nat} (h : vals l = vals (l.drop n)) (hl : l.length ≤ n) : vals l = true := by
  rw [h, List.drop_eq_nil_of_le hl]; rfl

end M
end Go.Proofs.Ytflmejjhnkpodaa
