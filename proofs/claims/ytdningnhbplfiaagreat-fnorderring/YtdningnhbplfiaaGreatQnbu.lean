/- Small facts for the rows' proofs. No condition. -/
import Derived.Deep.Slices
import Derived.ProofKit
import Derived.Test.YtdningnhbplfiaaGreatRows
namespace Go.Proofs.YtdningnhbplfiaaGreat
section
open Go.ChangeShapes Go.WideShapes Go.ChangeAt Go.RowKit Go.Deep
theorem Tryz.own:ownKnob Tryz.prog.godebug=none:=by kernel_rfl
theorem Tryz.laidOut:laidOutB Tryz.prog=true:=by kernel_rfl
end
end Go.Proofs.YtdningnhbplfiaaGreat
