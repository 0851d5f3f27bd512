/- The order of what was seen is one: two are the same, or one stands ahead; what stands ahead of what stands ahead stands ahead. No condition. -/
import Derived.Test.YtdningnhbplfiaaGreatQnaa
namespace Go.Proofs.YtdningnhbplfiaaGreat
section
namespace M
theorem comp_neg:∀ l m:List Int,comp m l=- comp l m
 | [],[]=>rfl
 | [],_::_=>rfl
 | _::_,[]=>rfl
 | x::l,y::m=>by
  rw [comp,comp]
  by_cases h1:x < y
  ·rw [if_pos h1,if_neg (by omega),if_pos h1];rfl
  ·by_cases h2:y < x
   ·rw [if_pos h2,if_neg h1,if_pos h2]
   ·rw [if_neg h2,if_neg h1,if_neg h1,if_neg h2];exact comp_neg l m
def same:List Int→List Int→Bool
 | [],[]=>true
 | x::l,y::m=>x==y&&same l m
 | _,_=>false
theorem same_eq:∀ l m:List Int,same l m=true↔l=m
 | [],[]=>by simp [same]
 | [],_::_=>by simp [same]
 | _::_,[]=>by simp [same]
 | x::l,y::m=>by simp [same,same_eq l m]
theorem same_len {l m:List Int} (h:l.length≠m.length):same l m=false:=by
 cases e:same l m
 ·rfl
 ·exact absurd (congrArg List.length ((same_eq _ _).1 e)) h
theorem same_bad {l m:List Int} {n:Nat} {x y:Int} (hd:l.drop n=x::l.drop (n+1)) (hm:m.drop n=y::m.drop (n+1)) (hxy:¬ x=y):same l m=false:=by
 cases e:same l m
 ·rfl
 ·have:=(same_eq _ _).1 e
  subst this
  rw [hd] at hm
  simp at hm
  exact absurd hm hxy
theorem same_fin {l m:List Int} (hl:l.length=m.length) (h:∀ q (h1:q < l.length) (h2:q < m.length),l[q]=m[q]):same l m=true :=
 (same_eq _ _).2 (List.ext_getElem hl h)
end M
end
end Go.Proofs.YtdningnhbplfiaaGreat
