/- A program that is being read: its threads in rows of the call's own, no two of them in one. No condition. -/
import Derived.BigQuiet
import Derived.Deep.AppendLies
import Derived.Deep.QuietTactic
import Derived.Deep.RegionHeld3
import Derived.Deep.RegionWith
import Derived.Laws.OwnMore
import Derived.Sort.Grow
import Derived.WalkKit
import Derived.WalkLawsBesides
import Derived.WalkSpells
import Derived.Test.YtjjkicffhpcngaaGreatRows
import Derived.Test.YtjjkicffhpcngaaGreatBYaz
namespace Go.Proofs.YtjjkicffhpcngaaGreat
open Go.RowKit
theorem Rdg.mono {w:World} {B B':Nat} {v:Value} {ll:List (List M.D)} {vs:List Value} (h:Rdg w B v ll vs) (hB:B'≤B):Rdg w B' v ll vs:=⟨h.b.mono hB,h.ap⟩
end Go.Proofs.YtjjkicffhpcngaaGreat
