/- What is seen in a way, plainly. No condition. -/
import Derived.Test.YtnjfpcgeekpbcabSxVal
namespace Go.Proofs.Ytnjfpcgeekpbcab
namespace M

theorem orig_mono {ds : List De} {l : List Int} : ∀ (m k n q : Nat), m ≤ k → orig ds l m n = some q → orig ds l k n = some q := by
  intro m
  induction m with
  | zero => intro k n q _ h; simp [orig] at h
  | succ m ih =>
    intro k n q hk h
    obtain ⟨k, rfl⟩ : ∃ k', k = k' + 1 := ⟨k - 1, by omega⟩
    rw [orig] at h ⊢
    split at h
    · rename_i h0; rw [if_pos h0]; exact h
    · rename_i h0; rw [if_neg h0]; exact ih k _ q (by omega) h

/-- The value of an event. -/
def vl (ds : List De) (l : List Int) (i : Int) : Int := val ds l (2 * ds.length + 2) i
theorem endsAt_get {ds : List De} {l : List Int} : ∀ (xs : List De) (n : Nat), endsAt ds l n xs = true → ∀ i, i < xs.length → (orig ds l ds.length (n + i)).isSome = true := by
  intro xs
  induction xs with
  | nil => intro n _ i h; exact absurd h (Nat.not_lt_zero _)
  | cons x xs ih =>
    intro n h i hi
    simp only [endsAt, Bool.and_eq_true] at h
    cases i with
    | zero => exact h.1
    | succ i =>
      have := ih (n + 1) h.2 i (by simpa using hi)
      rwa [show n + 1 + i = n + (i + 1) from by omega] at this
theorem vl_of {ds : List De} {l : List Int} (hin : In ds l) (hll : l.length = ds.length) (hz : ∀ x ∈ ds, x.reads = true ∨ x.d.k = 3 → x.d.v = 0) (he : ends ds l = true) (n : Nat) (hn : n < ds.length) :
    ∃ q, ∃ hq : q < ds.length, orig ds l ds.length n = some q ∧ vl ds l n = ds[q].d.v := by
  have h := endsAt_get ds 0 he n hn
  rw [Nat.zero_add] at h
  obtain ⟨q, hq⟩ := Option.isSome_iff_exists.1 h
  have hql := orig_lt hin _ _ _ hn hq
  exact ⟨q, hql, hq, val_of_orig hin hll hz _ n q hn hql (orig_mono _ _ _ _ (by omega) hq)⟩

/-- The values of all reads from one on. -/
def rdAt (ds : List De) (l : List Int) : Nat → List De → List Int
  | _, [] => []
  | n, x :: xs => if x.reads then vl ds l n :: rdAt ds l (n + 1) xs else rdAt ds l (n + 1) xs
theorem rd_step {ds : List De} {l : List Int} {acc : List Int} {n : Nat} (h : rdAt ds l 0 ds = acc ++ rdAt ds l n (ds.drop n)) (hn : n < ds.length) : rdAt ds l 0 ds = (if (ds[n]).reads then acc ++ [vl ds l n] else acc) ++ rdAt ds l (n + 1) (ds.drop (n + 1)) := by
  rw [h, ← List.getElem_cons_drop hn, rdAt]
  split <;> simp
theorem rd_fin {ds : List De} {l : List Int} {acc : List Int} {n : Nat} (h : rdAt ds l 0 ds = acc ++ rdAt ds l n (ds.drop n)) (hn : ds.length ≤ n) : rdAt ds l 0 ds = acc := by
  rw [h, List.drop_eq_nil_of_le hn]; simp [rdAt]
theorem rd_len (ds : List De) (l : List Int) (xs : List De) : ∀ n, (rdAt ds l n xs).length ≤ xs.length := by
  induction xs with
  | nil => intro n; simp [rdAt]
  | cons x xs ih =>
    intro n
    have := ih (n + 1)
    unfold rdAt
    split <;> simp <;> omega
def seenR (ds : List De) (l : List Int) : List Int := rdAt ds l 0 ds
/-- What is there at last, of a row of those who wrote there. -/
def lastOf (ds : List De) (l : List Int) (row : List Int) : Int := vl ds l (row.getLastD (-1))
theorem last_nil (ds : List De) (l : List Int) : lastOf ds l [] = 0 := by simp [lastOf, vl, val]
theorem last_some (ds : List De) (l : List Int) {row : List Int} (h : 0 < row.length) : lastOf ds l row = vl ds l (row[row.length - 1]) := by
  obtain ⟨i, row, rfl⟩ : ∃ i r, row = i :: r := by cases row with
    | nil => exact absurd h (Nat.lt_irrefl _)
    | cons i r => exact ⟨i, r, rfl⟩
  rw [lastOf]
  congr 1
  rw [List.getLastD_eq_getLast?, List.getLast?_eq_getElem?, List.getElem?_eq_getElem (by simp)]
  rfl
def seenL (ds : List De) (l : List Int) (rows : List (List Int)) : List Int := rows.map (lastOf ds l)

end M
end Go.Proofs.Ytnjfpcgeekpbcab
