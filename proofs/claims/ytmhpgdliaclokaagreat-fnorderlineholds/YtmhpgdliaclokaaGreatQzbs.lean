/- Lines, plainly: all events one behind the other; both ways to find one tell the same. No condition. -/
import Derived.Test.YtmhpgdliaclokaaGreatRows
import Derived.Test.YtmhpgdliaclokaaGreatQzbp
namespace Go.Proofs.YtmhpgdliaclokaaGreat
section
namespace M
theorem line_some {ll:List (List D)} {l:List Int} {rows:List (List Int)} {kind:Int}:(orderLine ll l rows kind).isSome=orderHolds ll l rows kind:=by
 unfold orderLine
 cases h:orderHolds ll l rows kind
 ·rfl
 ·rw [if_pos rfl]
  have h':=h
  unfold orderHolds at h'
  simp only [Bool.and_eq_true] at h'
  have hp:prog ll=true:=by
   have:=h'.2.1
   unfold execOk at this
   simp only [Bool.and_eq_true] at this
   exact this.1
  rw [line_impl hp _ h'.2.2.2];rfl
end M
end
end Go.Proofs.YtmhpgdliaclokaaGreat
