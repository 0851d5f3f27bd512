/- What an argument of a law reads as: numbers, in memory. No condition. -/
import Derived.ProofKit
import Derived.Deep.Slices
import Derived.Deep.Strs
import Derived.Test.YtflmejjhnkpodaaSnMem
import Derived.ChangeSlices
namespace Go.Proofs.Ytflmejjhnkpodaa
open Go.ChangeShapes Go.WideShapes Go.ChangeAt Go.RowKit Go.Deep

theorem Try.cellsInt : Try.prog.cellsOf 3 = 1 := by kernel_rfl
theorem Try.cells26 : Try.prog.cellsOf 26 = 1 := by kernel_rfl

/-- All are numbers of 64 bits. -/
def Wf (l : List Int) : Prop := ∀ n ∈ l, (Lit.int .i64 n).wf = true

section
variable {H : Type} {enc : TypeId × Value → H} {w : World} {base : Nat} {spare : Nat → Bool} {held : Bool}

set_option maxRecDepth 100000 in
theorem open_nums {fuel : Nat} {u : Value} {x : DataW H × List MemPlace} (h : DataW.trod enc Try.prog w base spare held fuel 26 [u] = some x) : ∃ a b o c, ∃ l : List Int, u = .slice a l.length c ∧ l.length ≤ maxLen ∧ IntS w a b o l ∧ Wf l := by
  rcases open_ints Try.underlying26 Try.underlying3 Try.cellsInt h with ⟨hcs, _⟩ | ⟨a, len, cap, zs, hcs, _, hl, hm, hmm, _, hel, hwf⟩
  · simp at hcs
    exact ⟨none, 0, 0, 0, [], hcs, Nat.zero_le _, IntS.nil _ _ _ _, fun n hn => absurd hn (by simp)⟩
  · simp at hcs
    obtain ⟨gb, go, gs⟩ := a
    have hlm : len ≤ zs.length := by rw [hmm]; split <;> omega
    have hlen : (zs.take len).length = len := by simp; omega
    rcases Nat.eq_zero_or_pos len with h0 | hpos
    · subst h0
      exact ⟨_, 0, 0, cap, [], hcs, Nat.zero_le _, IntS.nil _ _ _ _, fun n hn => absurd hn (by simp)⟩
    · have hgs : gs = none := by simpa [Addr.add] using World.cell?_spot (hel 0 (by omega))
      subst hgs
      refine ⟨_, gb, go, cap, zs.take len, by rw [hlen]; exact hcs, by rw [hlen]; omega, ⟨fun _ => rfl, fun i hi => ?_⟩, fun n hn => hwf n (List.mem_of_mem_take hn)⟩
      rw [hlen] at hi
      have := hel i (by omega)
      rw [add_plain] at this
      rw [this, List.getElem_take, List.getD_eq_getElem?_getD, List.getElem?_eq_getElem (by omega)]
      rfl

end
end Go.Proofs.Ytflmejjhnkpodaa
