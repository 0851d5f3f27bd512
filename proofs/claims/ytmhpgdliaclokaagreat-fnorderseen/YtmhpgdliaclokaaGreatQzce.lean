/- What an order allows, plainly: who is among it. No condition. What impl tells of an order, as a list that can be read. Of at most 1048576 threads and steps. -/
import Derived.Deep.OwnRows
import Derived.Test.YtmhpgdliaclokaaGreatRows
import Derived.Test.YtmhpgdliaclokaaGreatQzca
namespace Go.Proofs.YtmhpgdliaclokaaGreat
section
namespace M
theorem putIn_len (l:List Ky) (k:Ky):(putIn l k).length≤l.length+1:=by
 induction l with
 | nil=>simp [putIn]
 | cons x l ih =>
  rw [putIn]
  split
  ·simp
  ·split<;>simp<;>omega
theorem fold_len:∀ (l a:List Ky),(l.foldl putIn a).length≤a.length+l.length
 | [],a=>by simp
 | x::l,a=>by
  have h1:=fold_len l (putIn a x)
  have h2:=putIn_len a x
  simp only [List.foldl_cons,List.length_cons]
  omega
theorem orderAll_len (ll:List (List D)) (kind:Int):(orderAll ll kind).length≤117649:=by
 unfold orderAll
 cases hp:prog ll
 ·rw [Bool.and_false];simp
 ·split
  ·have h1:=fold_len (orderList ll kind) []
   have h2:(orderList ll kind).length≤(ways (deeds ll)).length:=by
    rw [orderList,List.length_map];exact List.length_filter_le _ _
   have h3:=ways_le2 hp
   have h4:(sortK (orderList ll kind)).length=((orderList ll kind).foldl putIn []).length:=rfl
   simp only [List.length_nil] at h1
   omega
  ·simp
end M
end
section
open Go.RowKit
structure Tld (w w':World) (v:Value) (ks:List Key):Prop where
 ex:∃ a g c,v=.slice a ks.length c∧KS w' a g 0 ks
 bel:Below w.heap.size w w'
theorem iorderAllK (a:Option Addr) (b o c:Nat) (ll:List (List M.D)) (kind:Int) (w:World) (hl:ll.length≤1048576) (hls:∀ t∈ll,t.length≤1048576) (h:DoSS w a b o ll) :
  Calls Tryz.prog 25 #[.agg #[.slice a ll.length c],.int .i64 kind] w fun e w'=>∃ v,e=.returned v∧Tld w w' v (M.orderAll ll kind):=by
 refine (iorderAll_any a b o c ll kind w hl hls h).mono fun e w' ⟨v,he,hA⟩=>⟨v,he,?_,hA.bel⟩
 obtain ⟨a',g,c',uu,hv,hk,hn,_,_⟩:=hA.ex
 have:=hn.ks
 rw [hk] at this
 exact ⟨a',g,c',by rw [hv,← hk,kys_len],this⟩
end
end Go.Proofs.YtmhpgdliaclokaaGreat
