/- Walls, plainly: how many gaps a program has, which rows of gaps are ok, a program with walls. No condition. -/
import Derived.Test.YtoabfiocjjfjeaaCont
import Derived.Test.YtoabfiocjjfjeaaMathN
namespace Go.Proofs.Ytoabfiocjjfjeaa
namespace M

def gapsN : List (List D) → Nat
  | [] => 0
  | t :: ll => (t.length - 1) + gapsN ll
def gaps (ll : List (List D)) : Int := if prog ll then gapsN ll else -1
theorem gaps_no {ll : List (List D)} (h : prog ll = false) : gaps ll = -1 := by simp [gaps, h]
theorem gaps_ok {ll : List (List D)} (h : prog ll = true) : gaps ll = gapsN ll := by simp [gaps, h]
theorem gapsN_step {l : List (List D)} {m n : Nat} {t : List D} (hp : gapsN l = m + gapsN (l.drop n)) (hd : l.drop n = t :: l.drop (n + 1)) : gapsN l = (m + (t.length - 1)) + gapsN (l.drop (n + 1)) := by
  rw [hp, hd, gapsN]; omega
theorem gapsN_fin {l : List (List D)} {m n : Nat} (hp : gapsN l = m + gapsN (l.drop n)) (hn : l.length ≤ n) : m = gapsN l := by
  rw [hp, List.drop_eq_nil_of_le hn]; rfl
theorem gapsN_le {ll : List (List D)} (h7 : ∀ t ∈ ll, t.length ≤ 7) : gapsN ll ≤ 6 * ll.length := by
  induction ll with
  | nil => simp [gapsN]
  | cons t ll ih =>
    have := h7 t (by simp)
    have := ih (fun t ht => h7 t (List.mem_cons_of_mem _ ht))
    simp only [gapsN, List.length_cons]
    omega

/-- Ascending from one on, below another. -/
def gapsFrom (last many : Int) : List Int → Bool
  | [] => true
  | g :: gs => decide (last < g) && decide (g < many) && gapsFrom g many gs
def gapsOk (gs : List Int) (many : Int) : Bool := gapsFrom (-1) many gs
/-- The last of the first so many. -/
def lastOf (gs : List Int) (n : Nat) : Int := if n = 0 then -1 else gs.getD (n - 1) 0
theorem lastOf_succ (gs : List Int) (n : Nat) (h : n < gs.length) : lastOf gs (n + 1) = gs[n] := by
  simp [lastOf, List.getD_eq_getElem?_getD, List.getElem?_eq_getElem h]
theorem gapsFrom_step {gs : List Int} {many : Int} {n : Nat} {g : Int} (h : gapsOk gs many = gapsFrom (lastOf gs n) many (gs.drop n)) (hn : n < gs.length) (hg : gs[n] = g) :
    gapsOk gs many = (decide (lastOf gs n < g) && decide (g < many) && gapsFrom (lastOf gs (n + 1)) many (gs.drop (n + 1))) := by
  rw [h, ← List.getElem_cons_drop hn, gapsFrom, lastOf_succ gs n hn, hg]
theorem gapsFrom_fin {gs : List Int} {many : Int} {n : Nat} (h : gapsOk gs many = gapsFrom (lastOf gs n) many (gs.drop n)) (hn : gs.length ≤ n) : gapsOk gs many = true := by
  rw [h, List.drop_eq_nil_of_le hn]; rfl

def wall : D := ⟨4, 0, 0⟩
def pre (gs : List Int) (n : Nat) : List D := if has gs n then [wall] else []
theorem pre_no {gs : List Int} {n : Nat} (h : has gs (n : Int) = false) : pre gs n = [] := by unfold pre; rw [h]; rfl
theorem pre_yes {gs : List Int} {n : Nat} (h : has gs (n : Int) = true) : pre gs n = [wall] := by unfold pre; rw [h]; rfl
def wallR (gs : List Int) (n : Nat) : List D → List D
  | [] => []
  | d :: l => pre gs n ++ d :: wallR gs (n + 1) l
def wallT (gs : List Int) (n : Nat) : List D → List D
  | [] => []
  | d :: l => d :: wallR gs n l
def walls (gs : List Int) (n : Nat) : List (List D) → List (List D)
  | [] => []
  | t :: ll => wallT gs n t :: walls gs (n + (t.length - 1)) ll

theorem wallR_snoc (gs : List Int) (d : D) (l : List D) : ∀ n, wallR gs n (l ++ [d]) = wallR gs n l ++ pre gs (n + l.length) ++ [d] := by
  induction l with
  | nil => intro n; simp [wallR]
  | cons x l ih =>
    intro n
    simp only [List.cons_append, wallR, ih, List.length_cons]
    rw [show n + 1 + l.length = n + (l.length + 1) from by omega]
    simp
theorem wallT_snoc (gs : List Int) (n : Nat) (d : D) (l : List D) : wallT gs n (l ++ [d]) = wallT gs n l ++ (if 0 < l.length then pre gs (n + (l.length - 1)) else []) ++ [d] := by
  cases l with
  | nil => simp [wallT, wallR]
  | cons x l => simp [wallT, wallR_snoc]
theorem pre_len (gs : List Int) (n : Nat) : (pre gs n).length ≤ 1 := by unfold pre; split <;> simp
theorem wallR_len (gs : List Int) (l : List D) : ∀ n, (wallR gs n l).length ≤ 2 * l.length := by
  induction l with
  | nil => intro n; simp [wallR]
  | cons x l ih => intro n; have := ih (n + 1); have := pre_len gs n; simp only [wallR, List.length_append, List.length_cons]; omega
theorem wallT_len (gs : List Int) (n : Nat) (l : List D) : (wallT gs n l).length ≤ 2 * l.length := by
  cases l with
  | nil => simp [wallT]
  | cons x l => have := wallR_len gs l n; simp only [wallT, List.length_cons]; omega
theorem walls_app (gs : List Int) (ll mm : List (List D)) : ∀ n, walls gs n (ll ++ mm) = walls gs n ll ++ walls gs (n + gapsN ll) mm := by
  induction ll with
  | nil => intro n; simp [walls, gapsN]
  | cons t ll ih => intro n; simp only [List.cons_append, walls, ih, gapsN]; rw [Nat.add_assoc]
theorem walls_len (gs : List Int) (ll : List (List D)) : ∀ n, (walls gs n ll).length = ll.length := by
  induction ll with
  | nil => intro n; simp [walls]
  | cons t ll ih => intro n; simp [walls, ih]
theorem walls_le (gs : List Int) (ll : List (List D)) (h7 : ∀ t ∈ ll, t.length ≤ 7) : ∀ n, ∀ t ∈ walls gs n ll, t.length ≤ 14 := by
  induction ll with
  | nil => intro n t ht; simp [walls] at ht
  | cons u ll ih =>
    intro n t ht
    rcases List.mem_cons.1 ht with rfl | ht
    · have := wallT_len gs n u; have := h7 u (by simp); omega
    · exact ih (fun t ht => h7 t (List.mem_cons_of_mem _ ht)) _ t ht
theorem gapsN_take (ll : List (List D)) (n : Nat) (h : n < ll.length) : gapsN (ll.take (n + 1)) = gapsN (ll.take n) + (ll[n].length - 1) := by
  have app : ∀ a b : List (List D), gapsN (a ++ b) = gapsN a + gapsN b := fun a b => by
    induction a with
    | nil => simp [gapsN]
    | cons x a ih => simp only [List.cons_append, gapsN, ih]; omega
  rw [List.take_succ_eq_append_getElem h, app]; simp [gapsN]
theorem walls_take (gs : List Int) (ll : List (List D)) (n : Nat) (h : n < ll.length) : walls gs 0 (ll.take (n + 1)) = walls gs 0 (ll.take n) ++ [wallT gs (gapsN (ll.take n)) ll[n]] := by
  rw [List.take_succ_eq_append_getElem h, walls_app]; simp [walls]
theorem wallT_take (gs : List Int) (n : Nat) (t : List D) (k : Nat) (h : k < t.length) : wallT gs n (t.take (k + 1)) = wallT gs n (t.take k) ++ (if 0 < k then pre gs (n + (k - 1)) else []) ++ [t[k]] := by
  rw [List.take_succ_eq_append_getElem h, wallT_snoc]
  have : (t.take k).length = k := by simp; omega
  rw [this]

/-- A thread with walls, as the model builds it: a wall behind each but the last. -/
def wallS (gs : List Int) (n : Nat) (t : List D) (k : Nat) : List D := wallT gs n (t.take k) ++ (if 0 < k ∧ k < t.length then pre gs (n + (k - 1)) else [])
theorem wallS_step (gs : List Int) (n : Nat) (t : List D) (k : Nat) (h : k < t.length) : wallS gs n t (k + 1) = wallS gs n t k ++ [t[k]] ++ (if k + 1 < t.length then pre gs (n + k) else []) := by
  unfold wallS
  rw [wallT_take gs n t k h]
  by_cases h0 : 0 < k
  · simp [h0, h]
  · simp [h0]
theorem wallS_fin (gs : List Int) (n : Nat) (t : List D) (k : Nat) (h : t.length ≤ k) : wallS gs n t k = wallT gs n t := by
  unfold wallS
  rw [List.take_of_length_le h, if_neg (by omega)]; simp
theorem wallS_len (gs : List Int) (n : Nat) (t : List D) (k : Nat) : (wallS gs n t k).length ≤ 2 * t.length + 1 := by
  unfold wallS
  have := wallT_len gs n (t.take k)
  have := pre_len gs (n + (k - 1))
  have : (t.take k).length ≤ t.length := by simp; omega
  rw [List.length_append]
  split
  · omega
  · simp; omega
theorem wallS_zero (gs : List Int) (n : Nat) (t : List D) : wallS gs n t 0 = [] := by simp [wallS, wallT]

/-- A program with walls, or nothing. -/
def wallPut (ll : List (List D)) (gs : List Int) : Option (List (List D)) :=
  if prog ll && gapsOk gs (gaps ll) && prog (walls gs 0 ll) then some (walls gs 0 ll) else none
theorem wallPut_some {ll mm : List (List D)} {gs : List Int} (h : wallPut ll gs = some mm) : prog ll = true ∧ gapsOk gs (gaps ll) = true ∧ prog mm = true ∧ mm = walls gs 0 ll := by
  unfold wallPut at h
  split at h
  · rename_i hc
    simp only [Bool.and_eq_true] at hc
    obtain rfl := Option.some.inj h
    exact ⟨hc.1.1, hc.1.2, hc.2, rfl⟩
  · cases h
theorem wallPut_bad {ll : List (List D)} {gs : List Int} (h : prog ll = false) : wallPut ll gs = none := by simp [wallPut, h]
theorem wallPut_gaps {ll : List (List D)} {gs : List Int} (h : gapsOk gs (gaps ll) = false) : wallPut ll gs = none := by simp [wallPut, h]
theorem wallPut_over {ll : List (List D)} {gs : List Int} (h : prog (walls gs 0 ll) = false) : wallPut ll gs = none := by simp [wallPut, h]
theorem wallPut_yes {ll : List (List D)} {gs : List Int} (h1 : prog ll = true) (h2 : gapsOk gs (gaps ll) = true) (h3 : prog (walls gs 0 ll) = true) : wallPut ll gs = some (walls gs 0 ll) := by simp [wallPut, h1, h2, h3]
end M
end Go.Proofs.Ytoabfiocjjfjeaa
