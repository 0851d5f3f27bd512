/- Cells of literals; a row of steps more; steps as the cells of their row. No condition. -/
import Derived.BigQuiet
import Derived.Deep.AppendLies
import Derived.Deep.QuietTactic
import Derived.Deep.RegionHeld3
import Derived.Sort.Grow
import Derived.WalkKit
import Derived.WalkLawsBesides
import Derived.WalkSpells
import Derived.Test.YtihfibjckkmmbaaGreatRows
import Derived.Test.YtihfibjckkmmbaaGreatQhad
namespace Go.Proofs.YtihfibjckkmmbaaGreat
open Go.RowKit
theorem nums_snoc (l:List Int) (x:Int):nums (l++[x])=nums l++[.int .i64 x]:=by simp [nums]
end Go.Proofs.YtihfibjckkmmbaaGreat
