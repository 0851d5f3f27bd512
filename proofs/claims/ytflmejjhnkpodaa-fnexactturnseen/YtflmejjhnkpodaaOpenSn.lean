/- What an argument of a law reads as: what was seen, in memory. No condition. -/
import Derived.Test.YtflmejjhnkpodaaOpenNum
namespace Go.Proofs.Ytflmejjhnkpodaa
open Go.ChangeShapes Go.WideShapes Go.ChangeAt Go.RowKit Go.Deep

theorem Try.cells42 : Try.prog.cellsOf 42 = 2 := by kernel_rfl

section
variable {H : Type} {enc : TypeId × Value → H} {w : World} {base : Nat} {spare : Nat → Bool} {held : Bool}

set_option maxRecDepth 100000 in
theorem open_seen {fuel : Nat} {cs : List Value} {x : DataW H × List MemPlace} (h : DataW.trod enc Try.prog w base spare held fuel 42 cs = some x) : ∃ s : Sn, cs = [.slice s.a1 s.l1.length s.c1, .slice s.a2 s.l2.length s.c2] ∧ s.Le maxLen ∧ s.At w ∧ Wf s.l1 ∧ Wf s.l2 := by
  obtain ⟨y0, y1, n, _, hl, t0, t1⟩ := trod_struct2 Try.underlying42 h
  rw [Try.cells42] at hl
  match cs, hl with
  | [u0, u1], _ =>
    have t0' : DataW.trod enc Try.prog w base spare held n 26 [u0] = some y0 := by simpa [Try.cells26] using t0
    have t1' : DataW.trod enc Try.prog w base spare held n 26 [u1] = some y1 := by simpa [Try.cells26] using t1
    obtain ⟨a1, b1, o1, c1, l1, e1, h1, i1, f1⟩ := open_nums t0'
    obtain ⟨a2, b2, o2, c2, l2, e2, h2, i2, f2⟩ := open_nums t1'
    exact ⟨⟨a1, b1, o1, c1, l1, a2, b2, o2, c2, l2⟩, by rw [e1, e2], ⟨h1, h2⟩, ⟨i1, i2⟩, f1, f2⟩

end
end Go.Proofs.Ytflmejjhnkpodaa
