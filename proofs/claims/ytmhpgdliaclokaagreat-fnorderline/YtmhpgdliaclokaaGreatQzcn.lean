/- What the laws ask of a line, plainly: it has all events, each once, none behind what it must be ahead of; and who waits goes on when no reader is in that was there before. No condition. -/
import Derived.Deep.OwnRows
import Derived.Test.YtmhpgdliaclokaaGreatRows
import Derived.Test.YtmhpgdliaclokaaGreatQzbn
import Derived.Test.YtmhpgdliaclokaaGreatQzbq
namespace Go.Proofs.YtmhpgdliaclokaaGreat
section
namespace M
theorem line_not {ll:List (List D)} {l:List Int} {rows:List (List Int)} {kind:Int} {r:List Nat} (h:orderLine ll l rows kind=some r) (i k:Nat) (hi:i < r.length) (hk:k < i):r[k]'(by omega)≠r[i]∧orderHas ll l rows kind (r[i]:Int) ((r[k]'(by omega):Nat):Int)=false:=by
 obtain ⟨_,_,L⟩:=line_parts h
 refine ⟨fun e=>?_,?_⟩
 ·exact (List.pairwise_iff_getElem.1 L.nodup) k i (by omega) hi hk e
 ·have ha:=L.ahead i k hi hk
  cases ho:orderHas ll l rows kind (r[i]:Int) ((r[k]'(by omega):Nat):Int)
  ·rfl
  ·unfold orderHas at ho
   simp only [Bool.and_eq_true] at ho
   have hm:netOf (deeds ll) l rows kind.toNat r[i] (r[k]'(by omega))=true:=by simpa [netOf] using ho.2.2.2.2
   rw [found_sub _ _ _ hm] at ha
   cases ha
end M
end
end Go.Proofs.YtmhpgdliaclokaaGreat
