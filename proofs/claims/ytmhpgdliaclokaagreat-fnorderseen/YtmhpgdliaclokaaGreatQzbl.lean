/- A program in memory whose blocks all lie beyond a bound. No condition. -/
import Derived.Test.YtmhpgdliaclokaaGreatRows
import Derived.Test.YtmhpgdliaclokaaGreatQzad
namespace Go.Proofs.YtmhpgdliaclokaaGreat
section
open Go.RowKit
theorem DoS.lt {w:World} {a:Option Addr} {b o:Nat} {l:List M.D} (h:DoS w a b o l) (hl:0 < l.length):b < w.heap.size:=(h.row 0 hl).lt
end
end Go.Proofs.YtmhpgdliaclokaaGreat
