/- What the laws ask of a line, plainly: it has all events, each once, none behind what it must be ahead of; and who waits goes on when no reader is in that was there before. No condition. -/
import Derived.Deep.OwnRows
import Derived.Test.YtmhpgdliaclokaaGreatRows
import Derived.Test.YtmhpgdliaclokaaGreatQzcl
namespace Go.Proofs.YtmhpgdliaclokaaGreat
section
namespace M
theorem seen_isIn {ll:List (List D)} {l:List Int} {rows:List (List Int)} {kind:Int} (h:orderHolds ll l rows kind=true):execOk ll l rows=true∧isIn (orderAll ll kind) (execSeen ll l rows).1 (execSeen ll l rows).2=true:=by
 have hok:=(holds_parts_of h).2
 refine ⟨hok,(isIn_iff _ _ _).2 ?_⟩
 have e2:execSeen ll l rows=seenOf ll (l,rows):=by simp [execSeen,hok,seenOf]
 rw [e2]
 exact mem_orderAll.2 ⟨(l,rows),h,rfl⟩
end M
end
end Go.Proofs.YtmhpgdliaclokaaGreat
