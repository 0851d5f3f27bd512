/- The plain mathematics of how many reads a program has. No condition. -/
import Derived.Test.YtdningnhbplfiaaGreatRows
import Derived.Test.YtdningnhbplfiaaGreatQnaa
namespace Go.Proofs.YtdningnhbplfiaaGreat
section
open Go.RowKit
theorem M.from_le {ll:List (List M.D)}:∀ {a u:Nat},M.progFrom a u ll=true→∀ t∈ll,t.length≤7:=by
 induction ll with
 | nil=>intro a u _ t ht;simp at ht
 | cons t l ih =>
  intro a u h t' ht'
  by_cases hb:M.thread t=true
  ·simp only [M.progFrom,hb,if_true] at h
   rcases List.mem_cons.1 ht' with rfl | hm
   ·exact M.thread_le hb
   ·exact ih h t' hm
  ·simp [M.progFrom,hb] at h
theorem M.prog_le {ll:List (List M.D)} (h:M.prog ll=true):ll.length≤3∧∀ t∈ll,t.length≤7:=by
 simp only [M.prog,Bool.and_eq_true,decide_eq_true_eq] at h
 exact ⟨h.1,M.from_le h.2⟩
end
end Go.Proofs.YtdningnhbplfiaaGreat
