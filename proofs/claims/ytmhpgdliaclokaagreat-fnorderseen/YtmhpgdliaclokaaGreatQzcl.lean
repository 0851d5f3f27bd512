/- What spec and impl tell of why, plainly: they are the same; who is told, and when. No condition. -/
import Derived.Deep.OwnRows
import Derived.Test.YtmhpgdliaclokaaGreatRows
import Derived.Test.YtmhpgdliaclokaaGreatQzbf
import Derived.Test.YtmhpgdliaclokaaGreatQzbw
namespace Go.Proofs.YtmhpgdliaclokaaGreat
section
namespace M
theorem isIn_iff (ks:List Key) (t1 t2:List Int):isIn ks t1 t2=true↔(t1,t2)∈ks:=by
 unfold isIn
 rw [List.any_eq_true]
 constructor
 ·rintro ⟨k,hk,h⟩
  simp only [beq_iff_eq] at h
  obtain ⟨rfl,rfl⟩:=cmpS_zero h
  exact hk
 ·intro h
  exact ⟨_,h,by simp [cmpS_self]⟩
end M
end
end Go.Proofs.YtmhpgdliaclokaaGreat
