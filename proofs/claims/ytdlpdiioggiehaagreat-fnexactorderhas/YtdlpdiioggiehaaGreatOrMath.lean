/- The plain mathematics of orders: what must be ahead of what by itself, told in two ways. No condition. -/
import Derived.Test.YtdlpdiioggiehaaGreatOkEnd
namespace Go.Proofs.YtdlpdiioggiehaaGreat
namespace M

def De.uses (x : De) : Bool := M.uses x.d.k
def isWall (k : Int) : Bool := k == 4 || k == 9
def own (a b : Nat) (x y : De) : Bool := decide (a < b) && x.t == y.t
def onePl (x y : De) : Bool := x.uses && (y.uses && x.d.p == y.d.p)
def late (a b : Nat) (x y : De) : Bool := own a b x y && !(writes x.d.k && reads y.d.k)
/-- Where a reader goes out, from where it goes in. -/
def outFrom : Nat → List De → Nat
  | n, [] => n
  | n, x :: l => if x.d.k == 8 then n else outFrom (n + 1) l
def outOf (ds : List De) (a : Nat) : Nat := outFrom a (ds.drop a)
def kAt (ds : List De) (n : Nat) : Int := match ds[n]? with | some x => x.d.k | none => 0
def inOf (ds : List De) : Nat → Nat
  | 0 => 0
  | n + 1 => if kAt ds (n + 1) == 7 then n + 1 else inOf ds n
def goesIn (ds : List De) (a b : Nat) (x : De) : Bool := x.d.k == 7 && decide (b ≤ outOf ds a)
def goesOut (ds : List De) (a b : Nat) (y : De) : Bool := y.d.k == 8 && decide (inOf ds b ≤ a)
def copyOf (a : Nat) (y : De) : Bool := y.d.k == 3 && y.lr == (a : Int)
def keeps (ds : List De) (a b : Nat) (x y : De) : Bool := (isWall x.d.k || isWall y.d.k) || (x.d.k == 5 || (y.d.k == 6 || (goesIn ds a b x || (goesOut ds a b y || copyOf a y))))
def loose (ds : List De) (a b : Nat) (x y : De) : Bool := own a b x y && keeps ds a b x y
def idx (row : List Int) (v : Int) : Int := match row.findIdx? (· == v) with | some i => (i : Int) | none => -1
def read (l : List Int) (a b : Nat) : Bool := l.getD b 0 == (a : Int)
def wrote (l : List Int) (a : Nat) (x : De) : Int := if M.reads x.d.k then l.getD a 0 else (a : Int)
def over (l : List Int) (rows : List (List Int)) (a b : Nat) (x y : De) : Bool := onePl x y && (writes y.d.k && decide (idx (rows.getD y.d.p.toNat []) (wrote l a x) < idx (rows.getD y.d.p.toNat []) (b : Int)))
def two (x y : De) : Bool := !(x.t == y.t)
/-- By itself one must be ahead of another one; 0: by none of the orders, of one place. -/
def must (ds : List De) (l : List Int) (rows : List (List Int)) (kind : Nat) (a b : Nat) (x y : De) : Bool :=
  match kind with
  | 0 => (own a b x y && onePl x y) || (read l a b || over l rows a b x y)
  | 1 => own a b x y || (read l a b || over l rows a b x y)
  | 2 => late a b x y || ((two x y && read l a b) || over l rows a b x y)
  | _ => loose ds a b x y || ((two x y && read l a b) || (two x y && over l rows a b x y))

/-- Whether a reader is in, behind events of these kinds. -/
def run : Bool → List De → Option Bool
  | i, [] => some i
  | i, x :: l => if x.d.k == 7 then (if i then none else run true l) else if x.d.k == 8 then (if i then run false l else none) else run i l
theorem run_append : ∀ (l m : List De) (i : Bool), run i (l ++ m) = (run i l).bind fun j => run j m := by
  intro l m
  induction l with
  | nil => intro i; rfl
  | cons x l ih =>
    intro i
    simp only [List.cons_append, run]
    split
    · cases i
      · exact ih true
      · rfl
    · split
      · cases i
        · rfl
        · exact ih false
      · exact ih i
theorem run_T (t : Nat) : ∀ (l : List D) (i : Nat) (lr : Int) (n : Nat) (b : Bool), readers b l = true → run b (deT t i lr n l) = some false := by
  intro l
  induction l with
  | nil =>
    intro i lr n b h
    simp only [readers] at h
    cases b
    · rfl
    · simp at h
  | cons d l ih =>
    intro i lr n b h
    rw [deT, run_append]
    simp only [readers] at h
    by_cases h7 : (d.k == 7) = true
    · have h9 : (d.k == 9) = false := by simp at h7 ⊢; omega
      rw [if_pos h7] at h
      cases b
      · rw [deD_one h9]
        have e : run false [(⟨t, i, false, d, lrOf lr n d⟩ : De)] = some true := by
          show (if (d.k == 7) = true then _ else _) = _
          rw [if_pos h7]; rfl
        rw [e]
        exact ih _ _ _ true h
      · simp at h
    · rw [if_neg h7] at h
      by_cases h8 : (d.k == 8) = true
      · have h9 : (d.k == 9) = false := by simp at h8 ⊢; omega
        rw [if_pos h8] at h
        cases b
        · simp at h
        · rw [deD_one h9]
          have e : run true [(⟨t, i, false, d, lrOf lr n d⟩ : De)] = some false := by
            show (if (d.k == 7) = true then _ else _) = _
            rw [if_neg h7, if_pos h8]; rfl
          rw [e]
          exact ih _ _ _ false h
      · rw [if_neg h8] at h
        have e : run b (deD t i lr n d) = some b := by
          unfold deD
          split
          · show (if (d.k == 7) = true then _ else _) = _
            rw [if_neg h7, if_neg h8]
            show (if (d.k == 7) = true then _ else _) = _
            rw [if_neg h7, if_neg h8]; rfl
          · show (if (d.k == 7) = true then _ else _) = _
            rw [if_neg h7, if_neg h8]; rfl
        rw [e]
        refine ih _ _ _ b ?_
        by_cases h9 : (d.k == 9) = true
        · rw [if_pos h9] at h
          cases b
          · exact h
          · simp at h
        · rw [if_neg h9] at h
          exact h
theorem run_F : ∀ (ll : List (List D)) (t n : Nat), (∀ l ∈ ll, readers false l = true) → run false (deF t n ll) = some false := by
  intro ll
  induction ll with
  | nil => intro t n _; rfl
  | cons l ll ih =>
    intro t n h
    rw [deF, run_append, run_T t l 0 (-1) n false (h l (List.mem_cons_self ..))]
    exact ih _ _ (fun x hx => h x (List.mem_cons_of_mem _ hx))
theorem run_ok {ll : List (List D)} (h : ∀ l ∈ ll, thread l = true) : run false (deeds ll) = some false :=
  run_F ll 0 0 fun l hl => by
    have := h l hl
    simp only [thread, Bool.and_eq_true] at this
    exact this.2
/-- Who is in goes out first. -/
theorem run_no8 : ∀ (l : List De) (i j : Bool), run i l = some j → (∀ x ∈ l, x.d.k ≠ 8) → i = true → j = true ∧ ∀ x ∈ l, x.d.k ≠ 7 := by
  intro l
  induction l with
  | nil => intro i j h _ hi; simp only [run] at h; exact ⟨(Option.some.inj h) ▸ hi, fun x hx => by cases hx⟩
  | cons x l ih =>
    intro i j h h8 hi
    subst hi
    have hx8 := h8 x (List.mem_cons_self ..)
    simp only [run] at h
    by_cases h7 : (x.d.k == 7) = true
    · rw [if_pos h7] at h; simp at h
    · rw [if_neg h7, if_neg (by simpa using hx8)] at h
      obtain ⟨e1, e2⟩ := ih true j h (fun y hy => h8 y (List.mem_cons_of_mem _ hy)) rfl
      refine ⟨e1, fun y hy => ?_⟩
      rcases List.mem_cons.1 hy with rfl | hy
      · simpa using h7
      · exact e2 y hy
theorem run_no7 : ∀ (l : List De) (i j : Bool), run i l = some j → (∀ x ∈ l, x.d.k ≠ 7) → j = true → i = true ∧ ∀ x ∈ l, x.d.k ≠ 8 := by
  intro l
  induction l with
  | nil => intro i j h _ hj; simp only [run] at h; exact ⟨(Option.some.inj h).symm ▸ hj, fun x hx => by cases hx⟩
  | cons x l ih =>
    intro i j h h7 hj
    have hx7 := h7 x (List.mem_cons_self ..)
    simp only [run] at h
    rw [if_neg (by simpa using hx7)] at h
    by_cases h8 : (x.d.k == 8) = true
    · rw [if_pos h8] at h
      cases i
      · simp at h
      · have := (ih false j h (fun y hy => h7 y (List.mem_cons_of_mem _ hy)) hj).1
        cases this
    · rw [if_neg h8] at h
      obtain ⟨e1, e2⟩ := ih i j h (fun y hy => h7 y (List.mem_cons_of_mem _ hy)) hj
      refine ⟨e1, fun y hy => ?_⟩
      rcases List.mem_cons.1 hy with rfl | hy
      · simpa using h8
      · exact e2 y hy
/-- The run, parted at an event. -/
theorem run_at {ds : List De} {n : Nat} (h : run false ds = some false) (hn : n < ds.length) : ∃ i j, run false (ds.take n) = some i ∧ run i [ds[n]] = some j ∧ run j (ds.drop (n + 1)) = some false := by
  have e : ds = ds.take n ++ ([ds[n]] ++ ds.drop (n + 1)) := by
    rw [List.singleton_append, List.getElem_cons_drop hn, List.take_append_drop]
  rw [e, run_append] at h
  cases h1 : run false (ds.take n) with
  | none => rw [h1] at h; simp at h
  | some i =>
    rw [h1] at h
    simp only [Option.bind_some] at h
    rw [run_append] at h
    cases h2 : run i [ds[n]] with
    | none => rw [h2] at h; simp at h
    | some j =>
      rw [h2] at h
      exact ⟨i, j, rfl, h2, h⟩
theorem run_one7 {x : De} {i j : Bool} (h : run i [x] = some j) (hx : x.d.k = 7) : i = false ∧ j = true := by
  simp only [run] at h
  rw [if_pos (by simpa using hx)] at h
  cases i
  · exact ⟨rfl, (Option.some.inj h).symm⟩
  · simp at h
theorem run_one8 {x : De} {i j : Bool} (h : run i [x] = some j) (hx : x.d.k = 8) : i = true ∧ j = false := by
  simp only [run] at h
  rw [if_neg (by simp; omega), if_pos (by simpa using hx)] at h
  cases i
  · simp at h
  · exact ⟨rfl, (Option.some.inj h).symm⟩
/-- Who goes in goes out. -/
theorem has_out {ds : List De} {n : Nat} (h : run false ds = some false) (hn : n < ds.length) (hk : ds[n].d.k = 7) : ∃ m, n < m ∧ ∃ hm : m < ds.length, ds[m].d.k = 8 := by
  obtain ⟨i, j, _, h2, h3⟩ := run_at h hn
  obtain ⟨_, rfl⟩ := run_one7 h2 hk
  refine Classical.byContradiction fun hno => ?_
  have := (run_no8 _ _ _ h3 (fun x hx e => hno ?_) rfl).1
  · cases this
  · obtain ⟨q, hq, rfl⟩ := List.getElem_of_mem hx
    rw [List.length_drop] at hq
    rw [List.getElem_drop] at e
    exact ⟨n + 1 + q, by omega, by omega, e⟩
/-- Who goes out went in. -/
theorem has_in {ds : List De} {n : Nat} (h : run false ds = some false) (hn : n < ds.length) (hk : ds[n].d.k = 8) : ∃ m, m < n ∧ ∃ hm : m < ds.length, ds[m].d.k = 7 := by
  obtain ⟨i, j, h1, h2, _⟩ := run_at h hn
  obtain ⟨rfl, _⟩ := run_one8 h2 hk
  refine Classical.byContradiction fun hno => ?_
  have := (run_no7 _ _ _ h1 (fun x hx e => hno ?_) rfl).1
  · cases this
  · obtain ⟨q, hq, rfl⟩ := List.getElem_of_mem hx
    rw [List.length_take] at hq
    rw [List.getElem_take] at e
    exact ⟨q, by omega, by omega, e⟩
/-- Between going in and going out one goes out just if one goes in. -/
theorem mid_eq {ds : List De} {a b : Nat} (h : run false ds = some false) (hab : a < b) (hb : b < ds.length) (ha7 : ds[a].d.k = 7) (hb8 : ds[b].d.k = 8) : (∀ q (hq : q < ds.length), a < q → q < b → ds[q].d.k ≠ 8) ↔ (∀ q (hq : q < ds.length), a < q → q < b → ds[q].d.k ≠ 7) := by
  have hb8' : (ds.drop (a + 1))[b - (a + 1)]'(by rw [List.length_drop]; omega) = ds[b] := by
    rw [List.getElem_drop]; congr 1; omega
  obtain ⟨i, j, _, h2, h3⟩ := run_at h (show a < ds.length by omega)
  obtain ⟨_, rfl⟩ := run_one7 h2 ha7
  have hlen : b - (a + 1) < (ds.drop (a + 1)).length := by rw [List.length_drop]; omega
  have e : ds.drop (a + 1) = (ds.drop (a + 1)).take (b - (a + 1)) ++ ([ds[b]] ++ (ds.drop (a + 1)).drop (b - (a + 1) + 1)) := by
    rw [List.singleton_append, ← hb8', List.getElem_cons_drop hlen, List.take_append_drop]
  rw [e, run_append] at h3
  cases h1 : run true ((ds.drop (a + 1)).take (b - (a + 1))) with
  | none => rw [h1] at h3; simp at h3
  | some i' =>
    rw [h1] at h3
    simp only [Option.bind_some] at h3
    rw [run_append] at h3
    cases h4 : run i' [ds[b]] with
    | none => rw [h4] at h3; simp at h3
    | some j' =>
      obtain ⟨rfl, _⟩ := run_one8 h4 hb8
      have get : ∀ x ∈ (ds.drop (a + 1)).take (b - (a + 1)), ∃ q, ∃ hq : q < ds.length, a < q ∧ q < b ∧ ds[q] = x := fun x hx => by
        obtain ⟨q, hq, rfl⟩ := List.getElem_of_mem hx
        rw [List.length_take, List.length_drop] at hq
        exact ⟨a + 1 + q, by omega, by omega, by omega, by rw [List.getElem_take, List.getElem_drop]⟩
      have put : ∀ q (hq : q < ds.length), a < q → q < b → ds[q] ∈ (ds.drop (a + 1)).take (b - (a + 1)) := fun q hq h1 h2 => by
        have hl : q - (a + 1) < ((ds.drop (a + 1)).take (b - (a + 1))).length := by rw [List.length_take, List.length_drop]; omega
        have : ((ds.drop (a + 1)).take (b - (a + 1)))[q - (a + 1)] = ds[q] := by
          rw [List.getElem_take, List.getElem_drop]; congr 1; omega
        rw [← this]; exact List.getElem_mem hl
      constructor
      · intro h8 q hq ha hb' e7
        exact (run_no8 _ _ _ h1 (fun x hx e => by obtain ⟨p, hp, p1, p2, rfl⟩ := get x hx; exact h8 p hp p1 p2 e) rfl).2 _ (put q hq ha hb') e7
      · intro h7 q hq ha hb' e8
        exact (run_no7 _ _ _ h1 (fun x hx e => by obtain ⟨p, hp, p1, p2, rfl⟩ := get x hx; exact h7 p hp p1 p2 e) rfl).2 _ (put q hq ha hb') e8

theorem kAt_eq {ds : List De} {n : Nat} (h : n < ds.length) : kAt ds n = ds[n].d.k := by simp [kAt, List.getElem?_eq_getElem h]
theorem outFrom_ge : ∀ (l : List De) (n : Nat), n ≤ outFrom n l := by
  intro l
  induction l with
  | nil => intro n; exact Nat.le_refl _
  | cons x l ih =>
    intro n
    unfold outFrom
    split
    · exact Nat.le_refl _
    · have := ih (n + 1); omega
theorem le_outFrom : ∀ (l : List De) (n b : Nat), b ≤ n + l.length → (b ≤ outFrom n l ↔ ∀ q (hq : q < l.length), n + q < b → l[q].d.k ≠ 8) := by
  intro l
  induction l with
  | nil =>
    intro n b hb
    exact ⟨fun _ q hq => absurd hq (Nat.not_lt_zero _), fun _ => by simpa [outFrom] using hb⟩
  | cons x l ih =>
    intro n b hb
    unfold outFrom
    by_cases h8 : (x.d.k == 8) = true
    · rw [if_pos h8]
      constructor
      · intro h q hq hqb; omega
      · intro h
        refine Classical.byContradiction fun hno => ?_
        exact h 0 (by simp) (by omega) (by simpa using h8)
    · rw [if_neg h8, ih (n + 1) b (by simp only [List.length_cons] at hb; omega)]
      constructor
      · intro h q hq hqb
        cases q with
        | zero => simpa using h8
        | succ q => exact h q (by simpa using hq) (by omega)
      · intro h q hq hqb
        exact h (q + 1) (by simpa using hq) (by omega)
theorem le_outOf {ds : List De} {a b : Nat} (ha : a ≤ ds.length) (hb : b ≤ ds.length) : b ≤ outOf ds a ↔ ∀ q (hq : q < ds.length), a ≤ q → q < b → ds[q].d.k ≠ 8 := by
  rw [outOf, le_outFrom _ _ _ (by rw [List.length_drop]; omega)]
  constructor
  · intro h q hq h1 h2
    have := h (q - a) (by rw [List.length_drop]; omega) (by omega)
    rw [List.getElem_drop] at this
    simpa [show a + (q - a) = q from by omega] using this
  · intro h q hq h2
    rw [List.length_drop] at hq
    rw [List.getElem_drop]
    exact h (a + q) (by omega) (by omega) h2
theorem inOf_le {ds : List De} {a : Nat} : ∀ {b : Nat}, b < ds.length → (inOf ds b ≤ a ↔ ∀ q (hq : q < ds.length), a < q → q ≤ b → ds[q].d.k ≠ 7) := by
  intro b
  induction b with
  | zero => intro hb; exact ⟨fun _ q hq h1 h2 => by omega, fun _ => Nat.zero_le _⟩
  | succ b ih =>
    intro hb
    unfold inOf
    rw [kAt_eq hb]
    by_cases h7 : (ds[b + 1].d.k == 7) = true
    · rw [if_pos h7]
      constructor
      · intro h q hq h1 h2; omega
      · intro h
        refine Classical.byContradiction fun hno => ?_
        exact h (b + 1) hb (by omega) (Nat.le_refl _) (by simpa using h7)
    · rw [if_neg h7, ih (by omega)]
      constructor
      · intro h q hq h1 h2
        by_cases e : q = b + 1
        · subst e; simpa using h7
        · exact h q hq h1 (by omega)
      · intro h q hq h1 h2
        exact h q hq h1 (by omega)

/-- spec's: nothing between goes out of it, or into it. -/
def midFrom (ds : List De) (fr to : Bool) : Nat → Nat → Bool
  | 0, _ => true
  | n + 1, k => if (fr && kAt ds k == 8) || (to && kAt ds k == 7) then false else midFrom ds fr to n (k + 1)
theorem mid_iff {ds : List De} {fr to : Bool} : ∀ (n k : Nat), k + n ≤ ds.length → (midFrom ds fr to n k = true ↔ ∀ q (hq : q < ds.length), k ≤ q → q < k + n → ¬ (fr = true ∧ ds[q].d.k = 8) ∧ ¬ (to = true ∧ ds[q].d.k = 7)) := by
  intro n
  induction n with
  | zero => intro k _; exact ⟨fun _ q hq h1 h2 => by omega, fun _ => rfl⟩
  | succ n ih =>
    intro k hk
    unfold midFrom
    rw [kAt_eq (show k < ds.length by omega)]
    have step : ((fr && ds[k].d.k == 8) || (to && ds[k].d.k == 7)) = true ↔ ((fr = true ∧ ds[k].d.k = 8) ∨ (to = true ∧ ds[k].d.k = 7)) := by simp
    by_cases h : ((fr && ds[k].d.k == 8) || (to && ds[k].d.k == 7)) = true
    · rw [if_pos h]
      refine ⟨fun h => (by cases h), fun hall => ?_⟩
      have := hall k (by omega) (Nat.le_refl _) (by omega)
      rcases step.1 h with h | h
      · exact absurd h this.1
      · exact absurd h this.2
    · rw [if_neg h, ih (k + 1) (by omega)]
      have h' := fun x => h (step.2 x)
      constructor
      · intro hall q hq h1 h2
        by_cases e : q = k
        · subst e; exact ⟨fun x => h' (Or.inl x), fun x => h' (Or.inr x)⟩
        · exact hall q hq (by omega) (by omega)
      · intro hall q hq h1 h2
        exact hall q hq (by omega) (by omega)
def inside (ds : List De) (a b : Nat) (x y : De) : Bool := (x.d.k == 7 || y.d.k == 8) && midFrom ds (x.d.k == 7) (y.d.k == 8) (b - (a + 1)) (a + 1)
theorem in_out_eq {ds : List De} {a b : Nat} (h : run false ds = some false) (hab : a < b) (hb : b < ds.length) : (goesIn ds a b ds[a] || goesOut ds a b ds[b]) = inside ds a b ds[a] ds[b] := by
  have hm := mid_iff (ds := ds) (fr := ds[a].d.k == 7) (to := ds[b].d.k == 8) (b - (a + 1)) (a + 1) (by omega)
  rw [show a + 1 + (b - (a + 1)) = b from by omega] at hm
  have ho := le_outOf (ds := ds) (a := a) (b := b) (by omega) (by omega)
  have hi := inOf_le (ds := ds) (a := a) (b := b) hb
  unfold goesIn goesOut inside
  by_cases h7 : ds[a].d.k = 7
  · have e7 : (ds[a].d.k == 7) = true := by simpa using h7
    rw [e7] at hm ⊢
    have ho' : b ≤ outOf ds a ↔ ∀ q (hq : q < ds.length), a < q → q < b → ds[q].d.k ≠ 8 := by
      rw [ho]
      constructor
      · intro h q hq h1 h2; exact h q hq (by omega) h2
      · intro h q hq h1 h2
        by_cases e : q = a
        · subst e; omega
        · exact h q hq (by omega) h2
    by_cases h8 : ds[b].d.k = 8
    · have e8 : (ds[b].d.k == 8) = true := by simpa using h8
      rw [e8] at hm ⊢
      have hmid := mid_eq h hab hb h7 h8
      have hi' : inOf ds b ≤ a ↔ ∀ q (hq : q < ds.length), a < q → q < b → ds[q].d.k ≠ 7 := by
        rw [hi]
        constructor
        · intro h q hq h1 h2; exact h q hq h1 (by omega)
        · intro h q hq h1 h2
          by_cases e : q = b
          · subst e; omega
          · exact h q hq h1 (by omega)
      rw [Bool.eq_iff_iff]
      simp only [Bool.true_and, Bool.true_or, Bool.or_eq_true, decide_eq_true_eq]
      rw [hm, ho', hi', ← hmid]
      constructor
      · intro hx q hq h1 h2
        have hx := hx.elim id id
        exact ⟨fun y => hx q hq (by omega) h2 y.2, fun y => hmid.1 hx q hq (by omega) h2 y.2⟩
      · intro hx
        exact Or.inl fun q hq h1 h2 e => (hx q hq (by omega) h2).1 ⟨rfl, e⟩
    · have e8 : (ds[b].d.k == 8) = false := by simpa using h8
      rw [e8] at hm ⊢
      rw [Bool.eq_iff_iff]
      simp only [Bool.true_and, Bool.false_and, Bool.or_false, decide_eq_true_eq]
      rw [hm, ho']
      constructor
      · intro hx q hq h1 h2
        exact ⟨fun y => hx q hq (by omega) h2 y.2, fun y => by cases y.1⟩
      · intro hx q hq h1 h2 e
        exact (hx q hq (by omega) h2).1 ⟨rfl, e⟩
  · have e7 : (ds[a].d.k == 7) = false := by simpa using h7
    rw [e7] at hm ⊢
    by_cases h8 : ds[b].d.k = 8
    · have e8 : (ds[b].d.k == 8) = true := by simpa using h8
      rw [e8] at hm ⊢
      have hi' : inOf ds b ≤ a ↔ ∀ q (hq : q < ds.length), a < q → q < b → ds[q].d.k ≠ 7 := by
        rw [hi]
        constructor
        · intro h q hq h1 h2; exact h q hq h1 (by omega)
        · intro h q hq h1 h2
          by_cases e : q = b
          · subst e; omega
          · exact h q hq h1 (by omega)
      rw [Bool.eq_iff_iff]
      simp only [Bool.true_and, Bool.false_and, Bool.false_or, decide_eq_true_eq]
      rw [hm, hi']
      constructor
      · intro hx q hq h1 h2
        exact ⟨fun y => (by cases y.1), fun y => hx q hq (by omega) h2 y.2⟩
      · intro hx q hq h1 h2 e
        exact (hx q hq (by omega) h2).2 ⟨rfl, e⟩
    · have e8 : (ds[b].d.k == 8) = false := by simpa using h8
      rw [e8]
      simp

/-- spec's way to say it. -/
def sRead (l : List Int) (a b : Nat) (x y : De) : Bool := writes x.d.k && (reads y.d.k && l.getD b 0 == (a : Int))
def rankAt (l : List Int) (rows : List (List Int)) (i : Nat) (x : De) : Int := if writes x.d.k then idx (rows.getD x.d.p.toNat []) (i : Int) else if reads x.d.k then idx (rows.getD x.d.p.toNat []) (l.getD i 0) else 0
def sOver (l : List Int) (rows : List (List Int)) (a b : Nat) (x y : De) : Bool := writes y.d.k && (!((a : Int) == (b : Int)) && (onePl x y && decide (rankAt l rows a x < rankAt l rows b y)))
def sKeeps (ds : List De) (a b : Nat) (x y : De) : Bool := (isWall x.d.k || (isWall y.d.k || (x.d.k == 5 || (y.d.k == 6 || inside ds a b x y)))) || copyOf a y
def stays (ds : List De) (kind : Nat) (a b : Nat) (x y : De) : Bool :=
  match kind with
  | 0 => own a b x y && onePl x y
  | 1 => own a b x y
  | 2 => late a b x y
  | _ => own a b x y && sKeeps ds a b x y
def told (l : List Int) (rows : List (List Int)) (kind : Nat) (a b : Nat) (x y : De) : Bool :=
  match kind with
  | 0 => sRead l a b x y || sOver l rows a b x y
  | 1 => sRead l a b x y || sOver l rows a b x y
  | 2 => (two x y && sRead l a b x y) || sOver l rows a b x y
  | _ => two x y && (sRead l a b x y || sOver l rows a b x y)
theorem wr_rd {k : Int} (h : writes k = true) : reads k = false := by
  simp only [writes, stores, Bool.or_eq_true, beq_iff_eq] at h
  rcases h with (h | h) | h <;> subst h <;> rfl
theorem read_eq {ds : List De} {l : List Int} (hf : fromOk ds l = true) {a b : Nat} (ha : a < ds.length) (hb : b < ds.length) : sRead l a b ds[a] ds[b] = read l a b := by
  simp only [fromOk, Bool.and_eq_true, decide_eq_true_eq] at hf
  obtain ⟨hb2, ht⟩ := fromAt_get hf.2 b hb
  have hg : l.getD b 0 = l[b] := by simp [hb2]
  unfold sRead read
  rw [hg]
  by_cases e : l[b] = (a : Int)
  · rw [e] at ht ⊢
    cases hr : ds[b].reads
    · rw [tell_no hr] at ht; simp at ht
    · rw [tell_at hr ha] at ht
      have hw : writes ds[a].d.k = true := by
        simp only [De.to, Bool.and_eq_true] at ht; exact ht.1
      rw [hw, show reads ds[b].d.k = true from hr]
      simp
  · have : (l[b] == (a : Int)) = false := by simpa using e
    rw [this]; simp
theorem over_eq (l : List Int) (rows : List (List Int)) (a b : Nat) {ds : List De} (ha : a < ds.length) (hb : b < ds.length) : sOver l rows a b ds[a] ds[b] = over l rows a b ds[a] ds[b] := by
  unfold sOver over
  cases hw : writes ds[b].d.k
  · simp
  · cases ho : onePl ds[a] ds[b]
    · simp
    · have ho' := ho
      simp only [onePl, De.uses, M.uses, Bool.and_eq_true, beq_iff_eq] at ho'
      have hrb : rankAt l rows b ds[b] = idx (rows.getD ds[b].d.p.toNat []) (b : Int) := by rw [rankAt, if_pos hw]
      have hra : rankAt l rows a ds[a] = idx (rows.getD ds[b].d.p.toNat []) (wrote l a ds[a]) := by
        rw [rankAt, wrote, ho'.2.2]
        cases hr : reads ds[a].d.k
        · have : writes ds[a].d.k = true := by have := ho'.1; rw [hr] at this; simpa using this
          rw [if_pos this]; rfl
        · have : writes ds[a].d.k = false := by
            cases hwa : writes ds[a].d.k
            · rfl
            · rw [wr_rd hwa] at hr; cases hr
          rw [if_neg (by rw [this]; simp)]; rfl
      rw [hra, hrb]
      by_cases e : a = b
      · subst e
        have : wrote l a ds[a] = (a : Int) := by rw [wrote, wr_rd hw]; rfl
        rw [this]; simp
      · have : ((a : Int) == (b : Int)) = false := by simp; omega
        rw [this]; simp
theorem keeps_eq {ds : List De} {a b : Nat} (h : run false ds = some false) (hab : a < b) (hb : b < ds.length) : sKeeps ds a b ds[a] ds[b] = keeps ds a b ds[a] ds[b] := by
  unfold sKeeps keeps
  rw [← in_out_eq h hab hb]
  simp only [Bool.or_assoc]
theorem must_eq {ds : List De} {l : List Int} {rows : List (List Int)} (hf : fromOk ds l = true) (h : run false ds = some false) (kind : Nat) {a b : Nat} (ha : a < ds.length) (hb : b < ds.length) : (stays ds kind a b ds[a] ds[b] || told l rows kind a b ds[a] ds[b]) = must ds l rows kind a b ds[a] ds[b] := by
  have hl : (own a b ds[a] ds[b] && sKeeps ds a b ds[a] ds[b]) = loose ds a b ds[a] ds[b] := by
    unfold loose
    by_cases hab : a < b
    · rw [keeps_eq h hab hb]
    · have : own a b ds[a] ds[b] = false := by simp [own, hab]
      rw [this]; rfl
  unfold stays told must
  rw [read_eq hf ha hb, over_eq l rows a b ha hb]
  split
  · rfl
  · rfl
  · rfl
  · rw [hl, Bool.and_or_distrib_left]

end M
end Go.Proofs.YtdlpdiioggiehaaGreat
