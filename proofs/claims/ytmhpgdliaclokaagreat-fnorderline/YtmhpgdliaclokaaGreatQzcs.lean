/- spec's search for a ring: a row goes on. Of at most 28 events. -/
import Derived.Deep.OwnRows
import Derived.Test.YtmhpgdliaclokaaGreatRows
import Derived.Test.YtmhpgdliaclokaaGreatQzbc
namespace Go.Proofs.YtmhpgdliaclokaaGreat
section
open Go.RowKit
theorem ints_at {w:World} {a:Option Addr} {g:Nat} {r:List Nat} (h:IntS w a g 0 (M.ints r)) {i x:Nat} (hi:r[i]?=some x):w.cell? ⟨g,i,none⟩=some (.int .i64 x):=by
 obtain ⟨hl,e⟩:=List.getElem?_eq_some_iff.1 hi
 have:=h.row i (by rw [M.ints_len];exact hl)
 rw [Nat.zero_add] at this
 rw [this]
 simp [M.ints,e]
end
end Go.Proofs.YtmhpgdliaclokaaGreat
