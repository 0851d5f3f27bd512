/- What must be ahead of what: nothing of itself; and what must by a looser order must by a stricter one. Plainly. No condition. -/
import Derived.Test.YtegommoflmmahaaGreatRows
import Derived.Test.YtegommoflmmahaaGreatQwau
namespace Go.Proofs.YtegommoflmmahaaGreat
section
namespace M
theorem must_told {ll:List (List D)} {l:List Int} {rows:List (List Int)} (h:execOk ll l rows=true) (k:Nat) {a b:Nat} (ha:a < (deeds ll).length) (hb:b < (deeds ll).length):mustAt (deeds ll) l rows k a b=(stays (deeds ll) k a b (deeds ll)[a] (deeds ll)[b]||told l rows k a b (deeds ll)[a] (deeds ll)[b]):=by
 simp only [execOk,wayOk,Bool.and_eq_true] at h
 obtain ⟨hp,hf,_⟩:=h
 have hr:run false (deeds ll)=some false:=by
  simp only [prog,Bool.and_eq_true,decide_eq_true_eq] at hp
  exact run_ok (from_thr ll 0 0 hp.2)
 rw [mustAt,List.getElem?_eq_getElem ha,List.getElem?_eq_getElem hb]
 exact (must_eq hf hr k ha hb).symm
theorem rw_no (k:Int):(writes k&&reads k)=false:=by
 cases h:reads k
 ·simp
 ·simp only [reads,Bool.or_eq_true,beq_iff_eq] at h
  rcases h with rfl | rfl<;>decide
theorem keeps_no {ds:List De} {a b:Nat} {x y:De} (h:sKeeps ds a b x y=true):(writes x.d.k&&reads y.d.k)=false:=by
 cases hw:writes x.d.k
 ·rfl
 ·cases hr:reads y.d.k
  ·rfl
  ·exfalso
   have e1:x.d.k=1∨x.d.k=6∨x.d.k=3:=by
    simp only [writes,stores,Bool.or_eq_true,beq_iff_eq] at hw
    omega
   have e2:y.d.k=2∨y.d.k=5:=by
    simpa only [reads,Bool.or_eq_true,beq_iff_eq] using hr
   simp only [sKeeps,isWall,inside,copyOf,Bool.or_eq_true,Bool.and_eq_true,beq_iff_eq] at h
   omega
end M
end
end Go.Proofs.YtegommoflmmahaaGreat
