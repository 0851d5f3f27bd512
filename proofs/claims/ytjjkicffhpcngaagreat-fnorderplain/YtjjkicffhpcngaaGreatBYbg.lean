/- The plain mathematics of how many reads a program has. No condition. -/
import Derived.WalkKit
import Derived.WalkLawsBesides
import Derived.WalkSpells
import Derived.Test.YtjjkicffhpcngaaGreatRows
import Derived.Test.YtjjkicffhpcngaaGreatBYbf
namespace Go.Proofs.YtjjkicffhpcngaaGreat
open Go.RowKit
def M.nreads (ll:List (List M.D)):Int:=if M.prog ll then (M.tot M.reads ll:Int) else -1
theorem M.nreads_ok {ll:List (List M.D)} (h:M.prog ll=true):M.nreads ll=M.tot M.reads ll:=by simp [M.nreads,h]
end Go.Proofs.YtjjkicffhpcngaaGreat
