/- The plain mathematics of how many reads a program has. No condition. Rows of few numbers, turned back; programs whose threads, places or values are turned are programs. No condition. -/
import Derived.Sort.Grow
import Derived.WalkKit
import Derived.WalkLawsBesides
import Derived.WalkSpells
import Derived.Test.YtjjkicffhpcngaaGreatRows
import Derived.Test.YtjjkicffhpcngaaGreatBYab
namespace Go.Proofs.YtjjkicffhpcngaaGreat
open Go.RowKit
def M.tot (f:Int→Bool):List (List M.D)→Nat
 | []=>0
 | t::l=>M.cnt f t+M.tot f l
end Go.Proofs.YtjjkicffhpcngaaGreat
namespace Go.Proofs.YtjjkicffhpcngaaGreat
namespace M
def stp:List (List D)→Nat
 | []=>0
 | t::l=>t.length+stp l
theorem from_iff (l:List (List D)):∀ a u:Nat,progFrom a u l=true↔(∀ t∈l,thread t=true)∧a+stp l≤14∧u+tot uses l≤6:=by
 induction l with
 | nil=>intro a u;simp [progFrom,stp,tot]
 | cons t l ih =>
  intro a u
  by_cases hb:thread t=true
  ·simp only [progFrom,hb,if_true,ih,stp,tot,List.mem_cons,forall_eq_or_imp,true_and]
   constructor
   ·rintro ⟨h1,h2,h3⟩;exact ⟨h1,by omega,by omega⟩
   ·rintro ⟨h1,h2,h3⟩;exact ⟨h1,by omega,by omega⟩
  ·simp [progFrom,hb]
theorem prog_iff (l:List (List D)):prog l=true↔l.length≤3∧(∀ t∈l,thread t=true)∧stp l≤14∧tot uses l≤6:=by
 simp only [prog,Bool.and_eq_true,decide_eq_true_eq,from_iff,Nat.zero_add]
structure Kept (f:D→D) (P:D→Prop):Prop where
 ok:∀ d,P d→doOk d=true→doOk (f d)=true
 r:∀ d,reads (f d).k=reads d.k
 u:∀ d,uses (f d).k=uses d.k
 k3:∀ d,((f d).k==3)=(d.k==3)
 k7:∀ d,((f d).k==7)=(d.k==7)
 k8:∀ d,((f d).k==8)=(d.k==8)
 k9:∀ d,((f d).k==9)=(d.k==9)
end M
end Go.Proofs.YtjjkicffhpcngaaGreat
