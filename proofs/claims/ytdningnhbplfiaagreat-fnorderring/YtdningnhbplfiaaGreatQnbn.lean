/- What must be ahead of what: nothing of itself; and what must by a looser order must by a stricter one. Plainly. No condition. -/
import Derived.Test.YtdningnhbplfiaaGreatRows
import Derived.Test.YtdningnhbplfiaaGreatQnay
namespace Go.Proofs.YtdningnhbplfiaaGreat
section
namespace M
theorem must_told {ll:List (List D)} {l:List Int} {rows:List (List Int)} (h:execOk ll l rows=true) (k:Nat) {a b:Nat} (ha:a < (deeds ll).length) (hb:b < (deeds ll).length):mustAt (deeds ll) l rows k a b=(stays (deeds ll) k a b (deeds ll)[a] (deeds ll)[b]||told l rows k a b (deeds ll)[a] (deeds ll)[b]):=by
 simp only [execOk,wayOk,Bool.and_eq_true] at h
 obtain ⟨hp,hf,_⟩:=h
 have hr:run false (deeds ll)=some false:=by
  simp only [prog,Bool.and_eq_true,decide_eq_true_eq] at hp
  exact run_ok (from_thr ll 0 0 hp.2)
 rw [mustAt,List.getElem?_eq_getElem ha,List.getElem?_eq_getElem hb]
 exact (must_eq hf hr k ha hb).symm
end M
end
end Go.Proofs.YtdningnhbplfiaaGreat
