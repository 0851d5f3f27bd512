/- The walks of the leaves of chapter 1: what each small test of a step's kind, place and value answers. No condition. -/
import Derived.Test.YtnddmlgnngdaoaaRows
import Derived.Test.YtnddmlgnngdaoaaQjad
namespace Go.Proofs.Ytnddmlgnngdaoaa
section
open Go.RowKit
theorem reads_any (k:Int) (w:World) :
  Calls Try.prog 91 #[.int .i64 k] w fun e w'=>e=.returned (.bool (M.reads k))∧w'=w:=by
 by_cases h2:k=2
 ·subst h2
  go_enter Try.func91,Try.ntmps91
  go_wp2
  go_ret
  exact ⟨ret_bool (by simp [M.reads]),rfl⟩
 ·have h2':(k==2)=false:=by simpa using h2
  go_enter Try.func91,Try.ntmps91
  go_wp2
  go_ret
  exact ⟨ret_bool (by simp [M.reads,h2']),rfl⟩
theorem stores_any (k:Int) (w:World) :
  Calls Try.prog 95 #[.int .i64 k] w fun e w'=>e=.returned (.bool (M.stores k))∧w'=w:=by
 by_cases h1:k=1
 ·subst h1
  go_enter Try.func95,Try.ntmps95
  go_wp2
  go_ret
  exact ⟨ret_bool (by simp [M.stores]),rfl⟩
 ·have h1':(k==1)=false:=by simpa using h1
  go_enter Try.func95,Try.ntmps95
  go_wp2
  go_ret
  exact ⟨ret_bool (by simp [M.stores,h1']),rfl⟩
theorem writes_any (k:Int) (w:World) :
  Calls Try.prog 92 #[.int .i64 k] w fun e w'=>e=.returned (.bool (M.writes k))∧w'=w:=by
 cases hs:M.stores k
 all_goals
  go_enter Try.func92,Try.ntmps92
  go_wp2_with (go_at_call 95;refine (stores_any _ _).mono ?_;rintro e w' ⟨rfl,rfl⟩)
  go_ret
  exact ⟨ret_bool (by simp [M.writes,hs]),rfl⟩
theorem uses_any (k:Int) (w:World) :
  Calls Try.prog 74 #[.int .i64 k] w fun e w'=>e=.returned (.bool (M.uses k))∧w'=w:=by
 cases hs:M.reads k
 all_goals
  go_enter Try.func74,Try.ntmps74
  go_wp2_with (first | (go_at_call 91;refine (reads_any _ _).mono ?_;rintro e w' ⟨rfl,rfl⟩) | (go_at_call 92;refine (writes_any _ _).mono ?_;rintro e w' ⟨rfl,rfl⟩))
  go_ret
  exact ⟨ret_bool (by simp [M.uses,hs]),rfl⟩
theorem placeOk_any (k p:Int) (w:World) :
  Calls Try.prog 106 #[.int .i64 k,.int .i64 p] w fun e w'=>e=.returned (.bool (M.placeOk k p))∧w'=w:=by
 cases hs:M.uses k
 ·go_enter Try.func106,Try.ntmps106
  go_wp2_with (go_at_call 74;refine (uses_any _ _).mono ?_;rintro e w' ⟨rfl,rfl⟩)
  go_ret
  exact ⟨ret_bool (by simp [M.placeOk,hs]),rfl⟩
 ·by_cases hp:0≤p
  ·go_enter Try.func106,Try.ntmps106
   go_wp2_with (go_at_call 74;refine (uses_any _ _).mono ?_;rintro e w' ⟨rfl,rfl⟩)
   go_ret
   exact ⟨ret_bool (by simp [M.placeOk,hs,hp]),rfl⟩
  ·have hp':decide (0≤p)=false:=by simpa using hp
   go_enter Try.func106,Try.ntmps106
   go_wp2_with (go_at_call 74;refine (uses_any _ _).mono ?_;rintro e w' ⟨rfl,rfl⟩)
   go_ret
   exact ⟨ret_bool (by simp [M.placeOk,hs];omega),rfl⟩
theorem valOk_any (k v:Int) (w:World) :
  Calls Try.prog 107 #[.int .i64 k,.int .i64 v] w fun e w'=>e=.returned (.bool (M.valOk k v))∧w'=w:=by
 cases hs:M.stores k
 ·go_enter Try.func107,Try.ntmps107
  go_wp2_with (go_at_call 95;refine (stores_any _ _).mono ?_;rintro e w' ⟨rfl,rfl⟩)
  go_ret
  exact ⟨ret_bool (by simp [M.valOk,hs]),rfl⟩
 ·by_cases hp:1≤v
  ·go_enter Try.func107,Try.ntmps107
   go_wp2_with (go_at_call 95;refine (stores_any _ _).mono ?_;rintro e w' ⟨rfl,rfl⟩)
   go_ret
   exact ⟨ret_bool (by simp [M.valOk,hs,hp]),rfl⟩
  ·have hp':decide (1≤v)=false:=by simpa using hp
   go_enter Try.func107,Try.ntmps107
   go_wp2_with (go_at_call 95;refine (stores_any _ _).mono ?_;rintro e w' ⟨rfl,rfl⟩)
   go_ret
   exact ⟨ret_bool (by simp [M.valOk,hs];omega),rfl⟩
theorem l6In_any (n a b:Int) (w:World) :
  Calls Try.prog 30 #[.int .i64 n,.int .i64 a,.int .i64 b] w fun e w'=>e=.returned (.bool (M.rng a b n))∧w'=w:=by
 by_cases hp:a≤n
 ·go_enter Try.func30,Try.ntmps30
  go_wp2
  go_ret
  exact ⟨ret_bool (by simp [M.rng,hp]),rfl⟩
 ·have hp':decide (a≤n)=false:=by simpa using hp
  go_enter Try.func30,Try.ntmps30
  go_wp2
  go_ret
  exact ⟨ret_bool (by simp [M.rng,hp']),rfl⟩
theorem l1Reads_any (d:M.D) (w:World) :
  Calls Try.prog 50 #[.agg #[.int .i64 d.k,.int .i64 d.p,.int .i64 d.v]] w fun e w'=>e=.returned (.bool (M.reads d.k))∧w'=w.alloc (.cells #[.int .i64 d.k,.int .i64 d.p,.int .i64 d.v] 84):=by
 obtain ⟨k,p,v⟩:=d
 by_cases h2:k=2
 ·subst h2
  go_enter Try.func50,Try.ntmps50
  go_wp2
  go_ret
  exact ⟨ret_bool (by simp [M.reads]),rfl⟩
 ·have h2':(k==2)=false:=by simpa using h2
  go_enter Try.func50,Try.ntmps50
  go_wp2
  go_ret
  exact ⟨ret_bool (by simp [M.reads,h2']),rfl⟩
theorem l1Writes_any (d:M.D) (w:World) :
  Calls Try.prog 51 #[.agg #[.int .i64 d.k,.int .i64 d.p,.int .i64 d.v]] w fun e w'=>e=.returned (.bool (M.writes d.k))∧w'=w.alloc (.cells #[.int .i64 d.k,.int .i64 d.p,.int .i64 d.v] 84):=by
 obtain ⟨k,p,v⟩:=d
 by_cases h1:k=1
 ·subst h1
  go_enter Try.func51,Try.ntmps51
  go_wp2
  go_ret
  exact ⟨ret_bool (by simp [M.writes,M.stores]),rfl⟩
 ·have h1':(k==1)=false:=by simpa using h1
  by_cases h3:k=3
  ·subst h3
   go_enter Try.func51,Try.ntmps51
   go_wp2
   go_ret
   exact ⟨ret_bool (by simp [M.writes,M.stores]),rfl⟩
  ·have h3':(k==3)=false:=by simpa using h3
   go_enter Try.func51,Try.ntmps51
   go_wp2
   go_ret
   exact ⟨ret_bool (by simp [M.writes,M.stores,h1',h3']),rfl⟩
end
end Go.Proofs.Ytnddmlgnngdaoaa
