/- Small facts for the rows' proofs. No condition. -/
import Derived.Test.YtdlpdiioggiehaaGreatRows
import Derived.ProofKit
import Derived.Deep.Slices
namespace Go.Proofs.YtdlpdiioggiehaaGreat
open Go.ChangeShapes Go.WideShapes Go.ChangeAt Go.RowKit Go.Deep

theorem Tryz.own : ownKnob Tryz.prog.godebug = none := by kernel_rfl
theorem Tryz.laidOut : laidOutB Tryz.prog = true := by kernel_rfl

theorem one_of_size {cs : Array Value} (h : cs.size = 1) : ∃ u, cs = #[u] := by
  obtain ⟨l⟩ := cs
  match l, h with
  | [u], _ => exact ⟨u, rfl⟩
end Go.Proofs.YtdlpdiioggiehaaGreat
