/- impl's countKinds over usesPlace. Of threads of at most 1048576 steps. -/
import Derived.Test.YtefmkenljongpaaDoorIThread
namespace Go.Proofs.YtefmkenljongpaaDoor
open Go.RowKit

theorem M.cnt_step {f : Int → Bool} {l : List M.D} {m n : Nat} {d : M.D} (hp : M.cnt f l = m + M.cnt f (l.drop n)) (hd : l.drop n = d :: l.drop (n + 1)) {m' : Nat} (hm : m' = m + if f d.k then 1 else 0) : M.cnt f l = m' + M.cnt f (l.drop (n + 1)) := by
  subst hm; rw [hp, hd, M.cnt_cons]; omega
theorem M.cnt_fin {f : Int → Bool} {l : List M.D} {m n : Nat} (hp : M.cnt f l = m + M.cnt f (l.drop n)) (hn : l.length ≤ n) : m = M.cnt f l := by
  rw [hp, List.drop_eq_nil_of_le hn]; rfl
theorem ret_int {k : IntKind} {a b : Int} (h : a = b) : Ending.returned (.int k a) = .returned (.int k b) := by rw [h]

end Go.Proofs.YtefmkenljongpaaDoor
