/- Lines, plainly: all events one behind the other; both ways to find one tell the same. No condition. -/
import Derived.Test.YtmhpgdliaclokaaGreatRows
import Derived.Test.YtmhpgdliaclokaaGreatQzbp
namespace Go.Proofs.YtmhpgdliaclokaaGreat
section
namespace M
theorem setA_sub {A:Nat→Nat→Bool} {l:Lk} {a b:Nat} (h:A a b=true):setA A l a b=true:=by simp [setA,h]
theorem found_sub (n:Nat):∀ (cs:List Ch) (A:Nat→Nat→Bool) {a b:Nat},A a b=true→(foundA n A cs).1 a b=true:=by
 intro cs
 induction cs with
 | nil=>intro A a b h;exact h
 | cons c cs ih =>
  intro A a b h
  rw [foundA]
  split
  ·split
   ·exact ih _ (setA_sub h)
   ·exact ih _ (setA_sub h)
  ·exact h
end M
end
end Go.Proofs.YtmhpgdliaclokaaGreat
