/- What an order allows, plainly: who is among it. No condition. And what goes with it: OaM, WkMath, OaI, SoK, OpenBy. -/
import Derived.Below
import Derived.BigQuiet
import Derived.ChangeSlices
import Derived.Deep.AppendLies
import Derived.Deep.MidRow
import Derived.Deep.Quiet
import Derived.Deep.QuietTactic
import Derived.Deep.RegionHeld3
import Derived.Deep.RegionLaw
import Derived.Deep.RegionWith
import Derived.Deep.Slices
import Derived.Deep.WholeRow
import Derived.Handy
import Derived.Laws.AppendOwn
import Derived.Laws.AppendOwnNone
import Derived.Laws.EntriesVeiled
import Derived.Laws.IdiomCopy
import Derived.Laws.OwnMore
import Derived.LoopIn
import Derived.LoopN
import Derived.LoopNIn
import Derived.OpenShut
import Derived.OwnWalkIn
import Derived.ProofKit
import Derived.RangeFuncBound
import Derived.RangeFuncLeaves
import Derived.RangeFuncNested
import Derived.Shelf.Abstract
import Derived.Shelf.SlSortCmp.NoneTotal
import Derived.Sort.Grow
import Derived.TacticsInMore
import Derived.WalkKit
import Derived.WalkLawsBesides
import Derived.WalkSpells
import Derived.Deep.OwnRows
import Derived.Test.YtihfibjckkmmbaaGreatRows
import Derived.Test.YtihfibjckkmmbaaGreatOebu
namespace Go.Proofs.YtihfibjckkmmbaaGreat
namespace M
theorem asc_orderAll (ll:List (List D)) (kind:Int):Asc (orderAll ll kind):=by
 unfold orderAll
 split
 ·exact asc_sortK _
 ·exact List.Pairwise.nil
theorem holds_parts_of {ll:List (List D)} {l:List Int} {rows:List (List Int)} {kind:Int} (h:orderHolds ll l rows kind=true):(decide (1≤kind)&&decide (kind≤3))=true∧execOk ll l rows=true:=by
 unfold orderHolds at h
 obtain ⟨h1,h2⟩:=Bool.and_eq_true_iff.1 h
 exact ⟨h1,(Bool.and_eq_true_iff.1 h2).1⟩
theorem exec_prog {ll:List (List D)} {l:List Int} {rows:List (List Int)} (h:execOk ll l rows=true):prog ll=true:=by
 simp only [execOk,Bool.and_eq_true] at h;exact h.1
theorem mem_ways {ll:List (List D)} {x:Wy} (h:execOk ll x.1 x.2=true):x∈ways (deeds ll):=by
 rw [ways_eq (cop_deeds ll)]
 simp only [execOk,Bool.and_eq_true] at h
 exact mem_all.2 h.2
theorem mem_orderAll {ll:List (List D)} {kind:Int} {k:Key}:k∈orderAll ll kind↔∃ x:Wy,orderHolds ll x.1 x.2 kind=true∧seenOf ll x=k:=by
 unfold orderAll
 cases hg:((decide (1≤kind)&&decide (kind≤3))&&prog ll)
 ·simp only [Bool.false_eq_true,if_false,List.not_mem_nil,false_iff]
  rintro ⟨x,hx,_⟩
  have h:=holds_parts_of hx
  rw [h.1,exec_prog h.2] at hg
  cases hg
 ·rw [if_pos rfl,mem_sortK,orderList,List.mem_map]
  constructor
  ·rintro ⟨x,hx,e⟩
   exact ⟨x,(List.mem_filter.1 hx).2,e⟩
  ·rintro ⟨x,hx,e⟩
   exact ⟨x,List.mem_filter.2 ⟨mem_ways (holds_parts_of hx).2,hx⟩,e⟩
theorem putIn_len (l:List Ky) (k:Ky):(putIn l k).length≤l.length+1:=by
 induction l with
 | nil=>simp [putIn]
 | cons x l ih =>
  rw [putIn]
  split
  ·simp
  ·split<;>simp<;>omega
theorem fold_len:∀ (l a:List Ky),(l.foldl putIn a).length≤a.length+l.length
 | [],a=>by simp
 | x::l,a=>by
  have h1:=fold_len l (putIn a x)
  have h2:=putIn_len a x
  simp only [List.foldl_cons,List.length_cons]
  omega
theorem orderAll_len (ll:List (List D)) (kind:Int):(orderAll ll kind).length≤117649:=by
 unfold orderAll
 cases hp:prog ll
 ·rw [Bool.and_false];simp
 ·split
  ·have h1:=fold_len (orderList ll kind) []
   have h2:(orderList ll kind).length≤(ways (deeds ll)).length:=by
    rw [orderList,List.length_map];exact List.length_filter_le _ _
   have h3:=ways_le2 hp
   have h4:(sortK (orderList ll kind)).length=((orderList ll kind).foldl putIn []).length:=rfl
   simp only [List.length_nil] at h1
   omega
  ·simp
theorem orderAll_le (ll:List (List D)) (kind:Int):KLe (orderAll ll kind) 1048576:=fun k hk=>by
 obtain ⟨x,hx,rfl⟩:=mem_orderAll.1 hk
 have h:=(holds_parts_of hx).2
 have hW:=wok_of h
 have hb:=prog_le hW.prog
 have hdl:=deeds_len hb.1 hb.2
 have h1:=seenR_len (deeds ll) x.1
 have h3:=hW.three.out
 exact ⟨by simp only [seenOf];omega,by simp only [seenOf,seenL,List.length_map];omega⟩
end M
end Go.Proofs.YtihfibjckkmmbaaGreat
namespace Go.Proofs.YtihfibjckkmmbaaGreat
namespace M
theorem deed_zero {ll:List (List D)} (hp:prog ll=true):∀ x∈deeds ll,x.reads=true∨x.d.k=3→x.d.v=0:=deed_z hp
theorem lro_deeds (ll:List (List D)):∀ x∈deeds ll,x.lr < (deeds ll).length:=fun x hx=>by
 obtain ⟨n,hn,rfl⟩:=List.getElem_of_mem hx
 exact lr_lt2 ll n _ (List.getElem?_eq_getElem hn)
section
variable {ll mm : List (List D)} {pos back : List Nat}
end
end M
end Go.Proofs.YtihfibjckkmmbaaGreat
namespace Go.Proofs.YtihfibjckkmmbaaGreat
open Go.RowKit
structure Tld (w w':World) (v:Value) (ks:List Key):Prop where
 ex:∃ a g c,v=.slice a ks.length c∧KS w' a g 0 ks
 bel:Below w.heap.size w w'
theorem iorderAllK (a:Option Addr) (b o c:Nat) (ll:List (List M.D)) (kind:Int) (w:World) (hl:ll.length≤1048576) (hls:∀ t∈ll,t.length≤1048576) (h:DoSS w a b o ll) :
  Calls Tryz.prog 12 #[.agg #[.slice a ll.length c],.int .i64 kind] w fun e w'=>∃ v,e=.returned v∧Tld w w' v (M.orderAll ll kind):=by
 refine (iorderAll_any a b o c ll kind w hl hls h).mono fun e w' ⟨v,he,hA⟩=>⟨v,he,?_,hA.bel⟩
 obtain ⟨a',g,c',uu,hv,hk,hn,_,_⟩:=hA.ex
 have:=hn.ks
 rw [hk] at this
 exact ⟨a',g,c',by rw [hv,← hk,kys_len],this⟩
end Go.Proofs.YtihfibjckkmmbaaGreat
namespace Go.Proofs.YtihfibjckkmmbaaGreat
open Go.RowKit
theorem iseenSortK (a:Option Addr) (b o c:Nat) (ks:List Key) (w:World) (hl:ks.length≤1048576) (hls:KLe ks 1048576) (h:KS w a b o ks) :
  Calls Tryz.prog 14 #[.slice a ks.length c] w fun e w'=>∃ v,e=.returned v∧Tld w w' v (M.sortK ks):=by
 refine (iseenSort_any a b o c ks w hl hls h).mono fun e w' ⟨a',g,c',uu,he,hk,hn,_,_,hb⟩=>⟨_,he,?_,hb⟩
 have:=hn.ks
 rw [hk] at this
 exact ⟨a',g,c',by rw [← hk,kys_len],this⟩
end Go.Proofs.YtihfibjckkmmbaaGreat
namespace Go.Proofs.YtihfibjckkmmbaaGreat
open Go.ChangeShapes Go.WideShapes Go.ChangeAt Go.RowKit Go.Deep
theorem Tryz.cellsByte:Tryz.prog.cellsOf 5=1:=by kernel_rfl
def Code8 (w:World) (u:Value):Prop:=∃ ca cb co L C,∃ x:Nat→Int,u=.slice ca L C∧L≤C∧(0 < L→ca=some ⟨cb,co,none⟩)∧∀ i,i < L→w.cell? ⟨cb,co+i,none⟩=some (.int .u8 (x i))∧0≤x i∧x i≤255
section
variable {H : Type} {enc : TypeId × Value → H} {w : World} {base : Nat} {spare : Nat → Bool} {held : Bool}
set_option maxRecDepth 100000 in
theorem open_code {fuel:Nat} {u:Value} {x:DataW H × List MemPlace} (h:DataW.trod enc Tryz.prog w base spare held fuel 22 [u]=some x):Code8 w u:=by
 rcases open_ints Tryz.underlying22 Tryz.underlying5 Tryz.cellsByte h with ⟨hcs,_⟩ | ⟨a,len,cap,zs,hcs,_,hl,hm,hmm,_,hel,hwf⟩
 ·simp at hcs
  exact ⟨none,0,0,0,0,fun _=>0,hcs,Nat.le_refl _,fun h=>absurd h (Nat.lt_irrefl _),fun i hi=>absurd hi (Nat.not_lt_zero _)⟩
 ·simp at hcs
  obtain ⟨gb,go,gs⟩:=a
  have hlm:len≤zs.length:=by rw [hmm];split<;>omega
  rcases Nat.eq_zero_or_pos len with h0 | hpos
  ·subst h0
   exact ⟨_,0,0,0,cap,fun _=>0,hcs,Nat.zero_le _,fun h=>absurd h (Nat.lt_irrefl _),fun i hi=>absurd hi (Nat.not_lt_zero _)⟩
  ·have hgs:gs=none:=by simpa [Addr.add] using World.cell?_spot (hel 0 (by omega))
   subst hgs
   refine ⟨_,gb,go,len,cap,fun i=>zs.getD i 0,hcs,hl,fun _=>rfl,fun i hi=>?_⟩
   have h1:=hel i (by omega)
   rw [add_plain] at h1
   have hw:=hwf (zs.getD i 0) (by rw [List.getD_eq_getElem?_getD,List.getElem?_eq_getElem (by omega)];exact List.getElem_mem _)
   exact ⟨h1,bounds_u8 hw⟩
end
end Go.Proofs.YtihfibjckkmmbaaGreat
