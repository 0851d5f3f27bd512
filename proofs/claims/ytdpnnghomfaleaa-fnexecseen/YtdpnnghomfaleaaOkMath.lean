/- The plain mathematics of ways: what is told just so. No condition. -/
import Derived.Test.YtdpnnghomfaleaaExMath
namespace Go.Proofs.Ytdpnnghomfaleaa
namespace M

def De.reads (x : De) : Bool := M.reads x.d.k
def De.to (x : De) (p : Int) : Bool := M.writes x.d.k && x.d.p == p
/-- All that write to a place, by their places from one on. -/
def wrs (p : Int) : Nat → List De → List Int
  | _, [] => []
  | n, x :: l => if x.to p then (n : Int) :: wrs p (n + 1) l else wrs p (n + 1) l
theorem wrs_step {p : Int} {ds : List De} {acc : List Int} {n : Nat} (h : wrs p 0 ds = acc ++ wrs p n (ds.drop n)) (hn : n < ds.length) : wrs p 0 ds = (if (ds[n]).to p then acc ++ [(n : Int)] else acc) ++ wrs p (n + 1) (ds.drop (n + 1)) := by
  rw [h, ← List.getElem_cons_drop hn, wrs]
  split <;> simp
theorem wrs_fin {p : Int} {ds : List De} {acc : List Int} {n : Nat} (h : wrs p 0 ds = acc ++ wrs p n (ds.drop n)) (hn : ds.length ≤ n) : wrs p 0 ds = acc := by
  rw [h, List.drop_eq_nil_of_le hn]; simp [wrs]
theorem wrs_len (p : Int) (l : List De) : ∀ n, (wrs p n l).length ≤ l.length := by
  induction l with
  | nil => intro n; simp [wrs]
  | cons x l ih =>
    intro n
    have := ih (n + 1)
    unfold wrs
    split <;> simp <;> omega
theorem mem_wrs {p : Int} {l : List De} : ∀ {n : Nat} {k : Int}, k ∈ wrs p n l ↔ ∃ i, ∃ h : i < l.length, k = ((n + i : Nat) : Int) ∧ (l[i]).to p = true := by
  induction l with
  | nil => intro n k; simp [wrs]
  | cons x l ih =>
    intro n k
    have step : k ∈ wrs p (n + 1) l ↔ ∃ i, ∃ h : i + 1 < (x :: l).length, k = ((n + (i + 1) : Nat) : Int) ∧ ((x :: l)[i + 1]).to p = true := by
      rw [ih]
      constructor
      · rintro ⟨i, h, e, t⟩
        exact ⟨i, by simpa using h, by rw [e]; congr 1; omega, by simpa using t⟩
      · rintro ⟨i, h, e, t⟩
        exact ⟨i, by simpa using h, by rw [e]; congr 1; omega, by simpa using t⟩
    have all : (∃ i, ∃ h : i < (x :: l).length, k = ((n + i : Nat) : Int) ∧ ((x :: l)[i]).to p = true) ↔ ((k = n ∧ x.to p = true) ∨ ∃ i, ∃ h : i + 1 < (x :: l).length, k = ((n + (i + 1) : Nat) : Int) ∧ ((x :: l)[i + 1]).to p = true) := by
      constructor
      · rintro ⟨i, h, e, t⟩
        cases i with
        | zero => exact Or.inl ⟨by simpa using e, by simpa using t⟩
        | succ i => exact Or.inr ⟨i, h, e, t⟩
      · rintro (⟨e, t⟩ | ⟨i, h, e, t⟩)
        · exact ⟨0, by simp, by simpa using e, by simpa using t⟩
        · exact ⟨i + 1, h, e, t⟩
    rw [all, ← step, wrs]
    by_cases ht : x.to p = true
    · rw [if_pos ht]; simp [ht]
    · rw [if_neg ht]; simp [ht]
theorem nodup_wrs (p : Int) (l : List De) : ∀ n, (wrs p n l).Nodup := by
  induction l with
  | nil => intro n; simp [wrs]
  | cons x l ih =>
    intro n
    unfold wrs
    split
    · refine List.nodup_cons.2 ⟨fun h => ?_, ih (n + 1)⟩
      obtain ⟨i, _, e, _⟩ := mem_wrs.1 h
      omega
    · exact ih (n + 1)

/-- What From may tell of an event. -/
def mayTell (ds : List De) (x : De) (f : Int) : Bool :=
  if x.reads then f == -1 || (decide (0 ≤ f) && (decide (f < ds.length) && match ds[f.toNat]? with | some y => y.to x.d.p | none => false)) else f == -2
def fromAt (ds : List De) : List De → List Int → Bool
  | [], _ => true
  | x :: xs, f :: fs => mayTell ds x f && fromAt ds xs fs
  | _ :: _, [] => false
def fromOk (ds : List De) (l : List Int) : Bool := decide (l.length = ds.length) && fromAt ds ds l
def isRow (row evs : List Int) : Bool := decide (row.length = evs.length) && evs.all (row.contains ·)
def orderAt (ds : List De) : Nat → List (List Int) → Bool
  | _, [] => true
  | p, row :: rows => isRow row (wrs p 0 ds) && orderAt ds (p + 1) rows
def orderOk (ds : List De) (rows : List (List Int)) : Bool := decide (rows.length = 3) && orderAt ds 0 rows
/-- Whose value an event has. -/
def valFrom (ds : List De) (l : List Int) (at_ : Nat) : Int :=
  match ds[at_]? with
  | none => -1
  | some x => if x.reads then l.getD at_ 0 else if x.d.k == 3 then x.lr else -1
def orig (ds : List De) (l : List Int) : Nat → Nat → Option Nat
  | 0, _ => none
  | n + 1, at_ => if valFrom ds l at_ < 0 then some at_ else orig ds l n (valFrom ds l at_).toNat
def endsAt (ds : List De) (l : List Int) : Nat → List De → Bool
  | _, [] => true
  | n, _ :: xs => (orig ds l ds.length n).isSome && endsAt ds l (n + 1) xs
def ends (ds : List De) (l : List Int) : Bool := endsAt ds l 0 ds
def wayOk (ds : List De) (l : List Int) (rows : List (List Int)) : Bool := fromOk ds l && (orderOk ds rows && ends ds l)
def execOk (ll : List (List D)) (l : List Int) (rows : List (List Int)) : Bool := prog ll && wayOk (deeds ll) l rows

end M
end Go.Proofs.Ytdpnnghomfaleaa
