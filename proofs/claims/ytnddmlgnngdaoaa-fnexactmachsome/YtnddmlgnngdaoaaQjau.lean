/- spec's l1Do: whether a step is in form. No condition. -/
import Derived.Test.YtnddmlgnngdaoaaRows
import Derived.Test.YtnddmlgnngdaoaaQjaj
namespace Go.Proofs.Ytnddmlgnngdaoaa
section
open Go.RowKit
theorem M.reads1:M.reads 1=false:=by decide
theorem M.reads6:M.reads 6=false:=by decide
theorem M.writes1:M.writes 1=true:=by decide
theorem M.writes6:M.writes 6=true:=by decide
theorem M.rng1:M.rng 1 9 1=true:=by decide
theorem M.rng6:M.rng 1 9 6=true:=by decide
theorem M.stores1:M.stores 1=true:=by decide
theorem M.stores6:M.stores 6=true:=by decide
set_option maxHeartbeats 400000 in
theorem l1Do_st (k p v:Int) (w:World) (h:k=1∨k=6) :
  Calls Try.prog 70 #[.agg #[.int .i64 k,.int .i64 p,.int .i64 v]] w fun e w'=>e=.returned (.bool (M.doOk ⟨k,p,v⟩))∧Below w.heap.size w w':=by
 rcases h with rfl | rfl
 all_goals
  cases hp:M.rng 0 2 p
  all_goals
   cases hv:M.rng 1 3 v
   all_goals
    go_enter Try.func70,Try.ntmps70
    go_wp2_with (first | (go_at_call 50;refine (l1Reads_any ⟨_,_,_⟩ _).mono ?_;rintro e w' ⟨rfl,rfl⟩) | (go_at_call 51;refine (l1Writes_any ⟨_,_,_⟩ _).mono ?_;rintro e w' ⟨rfl,rfl⟩) | (go_at_call 30;refine (l6In_any _ _ _ _).mono ?_;rintro e w' ⟨rfl,rfl⟩))
    go_ret
    exact ⟨ret_bool (by rw [M.doOk_eq];simp [M.uses,M.reads1,M.reads6,M.writes1,M.writes6,M.rng1,M.rng6,M.stores1,M.stores6,hp,hv]),below3 _ _ _ _⟩
set_option maxHeartbeats 400000 in
theorem l1Do_ot (k p v:Int) (w:World) (h1:(k==1)=false) (h6:(k==6)=false) :
  Calls Try.prog 70 #[.agg #[.int .i64 k,.int .i64 p,.int .i64 v]] w fun e w'=>e=.returned (.bool (M.doOk ⟨k,p,v⟩))∧Below w.heap.size w w':=by
 have hs:M.stores k=false:=by simp [M.stores,h1,h6]
 cases hk:M.rng 1 9 k
 ·cases hr:M.reads k
  all_goals
   go_enter Try.func70,Try.ntmps70
   go_wp2_with (first | (go_at_call 50;refine (l1Reads_any ⟨_,_,_⟩ _).mono ?_;rintro e w' ⟨rfl,rfl⟩) | (go_at_call 51;refine (l1Writes_any ⟨_,_,_⟩ _).mono ?_;rintro e w' ⟨rfl,rfl⟩) | (go_at_call 30;refine (l6In_any _ _ _ _).mono ?_;rintro e w' ⟨rfl,rfl⟩))
   go_ret
   refine ⟨ret_bool (by rw [M.doOk_eq];simp [hk]),?_⟩
   first | exact below3 _ _ _ _ | exact below2 _ _ _
 ·cases hr:M.reads k
  all_goals
   cases hw:M.writes k
   all_goals
    cases hp:M.rng 0 2 p
    all_goals
     cases hp0:(p==0)
     all_goals
      go_enter Try.func70,Try.ntmps70
      go_wp2_with (first | (go_at_call 50;refine (l1Reads_any ⟨_,_,_⟩ _).mono ?_;rintro e w' ⟨rfl,rfl⟩) | (go_at_call 51;refine (l1Writes_any ⟨_,_,_⟩ _).mono ?_;rintro e w' ⟨rfl,rfl⟩) | (go_at_call 30;refine (l6In_any _ _ _ _).mono ?_;rintro e w' ⟨rfl,rfl⟩))
      go_ret
      refine ⟨ret_bool (by rw [M.doOk_eq];simp [M.uses,hr,hw,hk,hs,hp,hp0]),?_⟩
      first | exact below3 _ _ _ _ | exact below2 _ _ _
theorem l1Do_any (d:M.D) (w:World) :
  Calls Try.prog 70 #[.agg #[.int .i64 d.k,.int .i64 d.p,.int .i64 d.v]] w fun e w'=>e=.returned (.bool (M.doOk d))∧Below w.heap.size w w':=by
 obtain ⟨k,p,v⟩:=d
 by_cases h1:k=1
 ·exact l1Do_st k p v w (Or.inl h1)
 ·by_cases h6:k=6
  ·exact l1Do_st k p v w (Or.inr h6)
  ·exact l1Do_ot k p v w (by simpa using h1) (by simpa using h6)
end
end Go.Proofs.Ytnddmlgnngdaoaa
