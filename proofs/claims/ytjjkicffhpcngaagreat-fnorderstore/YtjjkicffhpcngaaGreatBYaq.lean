/- spec.l71Thread: a drawn thread. -/
import Derived.BigQuiet
import Derived.Deep.AppendLies
import Derived.Deep.QuietTactic
import Derived.Deep.RegionHeld3
import Derived.Sort.Grow
import Derived.WalkKit
import Derived.WalkLawsBesides
import Derived.WalkSpells
import Derived.Test.YtjjkicffhpcngaaGreatRows
import Derived.Test.YtjjkicffhpcngaaGreatBYaf
namespace Go.Proofs.YtjjkicffhpcngaaGreat
open Go.RowKit
theorem flat_length (l:List M.D):(flat l).length=l.length * 3:=by
 induction l with
 | nil=>rfl
 | cons d l ih=>simp [flat,ih];omega
end Go.Proofs.YtjjkicffhpcngaaGreat
