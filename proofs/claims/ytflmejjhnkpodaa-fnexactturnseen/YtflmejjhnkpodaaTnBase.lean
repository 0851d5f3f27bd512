/- Boxes of one cell kept by what only lays blocks. No condition. -/
import Derived.Test.YtflmejjhnkpodaaRdM
import Derived.Test.YtflmejjhnkpodaaRowMore
import Derived.Test.YtflmejjhnkpodaaTnB0
namespace Go.Proofs.Ytflmejjhnkpodaa
open Go.RowKit

theorem Slot1.bl' {w w' : World} {b : Nat} {x : Value} (h : Slot1 w b x) (hb : Below w.heap.size w w') : Slot1 w' b x :=
  ⟨(hb.cell (p := ⟨b, 0, none⟩) h.lt).trans h.c, (hb.frozen (p := ⟨b, 0, none⟩) h.lt).trans h.fz⟩
end Go.Proofs.Ytflmejjhnkpodaa
