/- The plain mathematics of how many reads a program has. No condition. -/
import Derived.WalkKit
import Derived.WalkLawsBesides
import Derived.WalkSpells
import Derived.Test.YtihfibjckkmmbaaGreatRows
import Derived.Test.YtihfibjckkmmbaaGreatQhaf
namespace Go.Proofs.YtihfibjckkmmbaaGreat
open Go.RowKit
theorem M.tot_step {f:Int→Bool} {l:List (List M.D)} {m n:Nat} {t:List M.D} (hp:M.tot f l=m+M.tot f (l.drop n)) (hd:l.drop n=t::l.drop (n+1)):M.tot f l=(m+M.cnt f t)+M.tot f (l.drop (n+1)):=by
 rw [hp,hd,M.tot];omega
theorem M.tot_fin {f:Int→Bool} {l:List (List M.D)} {m n:Nat} (hp:M.tot f l=m+M.tot f (l.drop n)) (hn:l.length≤n):m=M.tot f l:=by
 rw [hp,List.drop_eq_nil_of_le hn];rfl
theorem M.nreads_no {ll:List (List M.D)} (h:M.prog ll=false):M.nreads ll=-1:=by simp [M.nreads,h]
end Go.Proofs.YtihfibjckkmmbaaGreat
