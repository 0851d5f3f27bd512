/- impl's copiesOk, readersOk, countKinds and threadOk. Of threads of at most 1048576 steps. -/
import Derived.Test.YtefmkenljongpaaDoorWord
namespace Go.Proofs.YtefmkenljongpaaDoor
open Go.RowKit

theorem M.copies_bad {l : List M.D} {r : Bool} {n : Nat} {d : M.D} (hp : M.copies false l = M.copies r (l.drop n)) (hd : l.drop n = d :: l.drop (n + 1)) (hb : (d.k == 3 && !r) = true) : M.copies false l = false := by
  rw [hp, hd]; simp only [M.copies, hb, if_true]
theorem M.copies_ok {l : List M.D} {r r' : Bool} {n : Nat} {d : M.D} (hp : M.copies false l = M.copies r (l.drop n)) (hd : l.drop n = d :: l.drop (n + 1)) (hb : (d.k == 3 && !r) = false) (hr : r' = (r || M.reads d.k)) : M.copies false l = M.copies r' (l.drop (n + 1)) := by
  subst hr
  rw [hp, hd]; simp only [M.copies, hb]; rfl
theorem M.copies_fin {l : List M.D} {r : Bool} {n : Nat} (hp : M.copies false l = M.copies r (l.drop n)) (hn : l.length ≤ n) : M.copies false l = true := by
  rw [hp, List.drop_eq_nil_of_le hn]; rfl

theorem M.readers_fin {l : List M.D} {i : Bool} {n : Nat} (hp : M.readers false l = M.readers i (l.drop n)) (hn : l.length ≤ n) : M.readers false l = !i := by
  rw [hp, List.drop_eq_nil_of_le hn]; rfl
theorem M.readers_step {l : List M.D} {i : Bool} {n : Nat} {d : M.D} (hp : M.readers false l = M.readers i (l.drop n)) (hd : l.drop n = d :: l.drop (n + 1)) : M.readers false l = M.readers i (d :: l.drop (n + 1)) := by
  rw [hp, hd]

end Go.Proofs.YtefmkenljongpaaDoor
