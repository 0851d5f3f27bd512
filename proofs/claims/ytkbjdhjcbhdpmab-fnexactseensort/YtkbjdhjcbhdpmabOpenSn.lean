/- What an argument of a law reads as: what was seen, in memory. No condition. -/
import Derived.ProofKit
import Derived.Deep.Slices
import Derived.Deep.Strs
import Derived.Test.YtkbjdhjcbhdpmabSnMem
import Derived.ChangeSlices
namespace Go.Proofs.Ytkbjdhjcbhdpmab
open Go.ChangeShapes Go.WideShapes Go.ChangeAt Go.RowKit Go.Deep

theorem Try.cellsInt : Try.prog.cellsOf 3 = 1 := by kernel_rfl
theorem Try.cells30 : Try.prog.cellsOf 30 = 1 := by kernel_rfl
theorem Try.cells32 : Try.prog.cellsOf 32 = 2 := by kernel_rfl

/-- All are numbers of 64 bits. -/
def Wf (l : List Int) : Prop := ∀ n ∈ l, (Lit.int .i64 n).wf = true

section
variable {H : Type} {enc : TypeId × Value → H} {w : World} {base : Nat} {spare : Nat → Bool} {held : Bool}

set_option maxRecDepth 100000 in
theorem open_nums {fuel : Nat} {u : Value} {x : DataW H × List MemPlace} (h : DataW.trod enc Try.prog w base spare held fuel 30 [u] = some x) : ∃ a b o c, ∃ l : List Int, u = .slice a l.length c ∧ l.length ≤ maxLen ∧ IntS w a b o l ∧ Wf l := by
  rcases open_ints Try.underlying30 Try.underlying3 Try.cellsInt h with ⟨hcs, _⟩ | ⟨a, len, cap, zs, hcs, _, hl, hm, hmm, _, hel, hwf⟩
  · simp at hcs
    exact ⟨none, 0, 0, 0, [], hcs, Nat.zero_le _, IntS.nil _ _ _ _, fun n hn => absurd hn (by simp)⟩
  · simp at hcs
    obtain ⟨gb, go, gs⟩ := a
    have hlm : len ≤ zs.length := by rw [hmm]; split <;> omega
    have hlen : (zs.take len).length = len := by simp; omega
    rcases Nat.eq_zero_or_pos len with h0 | hpos
    · subst h0
      exact ⟨_, 0, 0, cap, [], hcs, Nat.zero_le _, IntS.nil _ _ _ _, fun n hn => absurd hn (by simp)⟩
    · have hgs : gs = none := by simpa [Addr.add] using World.cell?_spot (hel 0 (by omega))
      subst hgs
      refine ⟨_, gb, go, cap, zs.take len, by rw [hlen]; exact hcs, by rw [hlen]; omega, ⟨fun _ => rfl, fun i hi => ?_⟩, fun n hn => hwf n (List.mem_of_mem_take hn)⟩
      rw [hlen] at hi
      have := hel i (by omega)
      rw [add_plain] at this
      rw [this, List.getElem_take, List.getD_eq_getElem?_getD, List.getElem?_eq_getElem (by omega)]
      rfl

set_option maxRecDepth 100000 in
theorem open_seen {fuel : Nat} {cs : List Value} {x : DataW H × List MemPlace} (h : DataW.trod enc Try.prog w base spare held fuel 32 cs = some x) : ∃ s : Sn, cs = [.slice s.a1 s.l1.length s.c1, .slice s.a2 s.l2.length s.c2] ∧ s.Le maxLen ∧ s.At w ∧ Wf s.l1 ∧ Wf s.l2 := by
  obtain ⟨y0, y1, n, _, hl, t0, t1⟩ := trod_struct2 Try.underlying32 h
  rw [Try.cells32] at hl
  match cs, hl with
  | [u0, u1], _ =>
    have t0' : DataW.trod enc Try.prog w base spare held n 30 [u0] = some y0 := by simpa [Try.cells30] using t0
    have t1' : DataW.trod enc Try.prog w base spare held n 30 [u1] = some y1 := by simpa [Try.cells30] using t1
    obtain ⟨a1, b1, o1, c1, l1, e1, h1, i1, f1⟩ := open_nums t0'
    obtain ⟨a2, b2, o2, c2, l2, e2, h2, i2, f2⟩ := open_nums t1'
    exact ⟨⟨a1, b1, o1, c1, l1, a2, b2, o2, c2, l2⟩, by rw [e1, e2], ⟨h1, h2⟩, ⟨i1, i2⟩, f1, f2⟩

end
end Go.Proofs.Ytkbjdhjcbhdpmab
