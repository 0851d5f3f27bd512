/- Small facts for the rows' proofs. No condition. -/
import Derived.Test.YtflmejjhnkpodaaRows
import Derived.ProofKit
import Derived.Deep.Slices
namespace Go.Proofs.Ytflmejjhnkpodaa
open Go.ChangeShapes Go.WideShapes Go.ChangeAt Go.RowKit Go.Deep

theorem Try.own : ownKnob Try.prog.godebug = none := by kernel_rfl
theorem Try.laidOut : laidOutB Try.prog = true := by kernel_rfl

theorem one_of_size {cs : Array Value} (h : cs.size = 1) : ∃ u, cs = #[u] := by
  obtain ⟨l⟩ := cs
  match l, h with
  | [u], _ => exact ⟨u, rfl⟩
end Go.Proofs.Ytflmejjhnkpodaa
