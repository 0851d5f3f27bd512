/- spec.DrawShapeOf: a shape and a way, drawn. Of codes of at most 1048576 bytes. And what goes with it: DrSh, OaM, OaI, OpenBy. -/
import Derived.Deep.OwnRows
import Derived.Test.YtnddmlgnngdaoaaGreatDoorRows
import Derived.Test.YtnddmlgnngdaoaaGreatDoorQsbf
namespace Go.Proofs.YtnddmlgnngdaoaaGreatDoor
section
open Go.RowKit
set_option maxHeartbeats 1000000 in
set_option maxRecDepth 100000 in
theorem DrawShapeOf_any (ca:Option Addr) (cb co L C:Nat) (x:Nat→Int) (w:World) (hL:L≤C) (had:0 < L→ca=some ⟨cb,co,none⟩) (hc:∀ i,i < L→w.cell? ⟨cb,co+i,none⟩=some (.int .u8 (x i))∧0≤x i∧x i≤255) (hLb:L≤1048576) :
  Calls Tryz.prog 4 #[.slice ca L C] w fun e w'=>∃ s h:Int,e=.returned (.tuple #[.int .i64 s,.int .i64 h])∧Below w.heap.size w w':=by
 go_enter Tryz.func4,Tryz.ntmps4
 go_wp2_with fail
 refine (l6Open_any ca cb co L C x _ hL had hc hLb).mono ?_
 rintro e w1 ⟨rfl,hr1,hb1⟩
 have hlt1:=hr1.lt
 clear hc had
 go_wp2_with fail
 refine (pick_rdr _ w.heap.size 0 6 w1 (by omega) (by omega) (by omega) hr1).mono ?_
 rintro e w2 ⟨r2,rfl,r20,r21,hr2,hb2⟩
 have bw2:=But.below hb1 hb2 (by omega)
 by_cases h0:r2=0
 ·subst h0
  go_wp2_with fail
  refine (pick_rdr _ w.heap.size 1 9 w2 (by omega) (by omega) (by omega) hr2).mono ?_
  rintro e w3 ⟨r3,rfl,r30,r31,hr3,hb3⟩
  have bw3:=But.below bw2 hb3 (by omega)
  go_wp2_with fail
  refine (pick_rdr _ w.heap.size 2 6 w3 (by omega) (by omega) (by omega) hr3).mono ?_
  rintro e w4 ⟨r4,rfl,r40,r41,hr4,hb4⟩
  have bw4:=But.below bw3 hb4 (by omega)
  go_wp2_with fail
  go_returns
  exact ⟨_,_,rfl,bw4⟩
 ·have h0':(r2==0)=false:=by simpa using h0
  go_wp2_with fail
  refine (pick_rdr _ w.heap.size 1 6 w2 (by omega) (by omega) (by omega) hr2).mono ?_
  rintro e w3 ⟨r3,rfl,r30,r31,hr3,hb3⟩
  have bw3:=But.below bw2 hb3 (by omega)
  go_wp2_with fail
  refine (pick_rdr _ w.heap.size 2 4 w3 (by omega) (by omega) (by omega) hr3).mono ?_
  rintro e w4 ⟨r4,rfl,r40,r41,hr4,hb4⟩
  have bw4:=But.below bw3 hb4 (by omega)
  go_wp2_with fail
  go_returns
  exact ⟨_,_,rfl,bw4⟩
end
section
namespace M
theorem holds_parts_of {ll:List (List D)} {l:List Int} {rows:List (List Int)} {kind:Int} (h:orderHolds ll l rows kind=true):(decide (1≤kind)&&decide (kind≤3))=true∧execOk ll l rows=true:=by
 unfold orderHolds at h
 obtain ⟨h1,h2⟩:=Bool.and_eq_true_iff.1 h
 exact ⟨h1,(Bool.and_eq_true_iff.1 h2).1⟩
theorem exec_prog {ll:List (List D)} {l:List Int} {rows:List (List Int)} (h:execOk ll l rows=true):prog ll=true:=by
 simp only [execOk,Bool.and_eq_true] at h;exact h.1
theorem mem_ways {ll:List (List D)} {x:Wy} (h:execOk ll x.1 x.2=true):x∈ways (deeds ll):=by
 rw [ways_eq (cop_deeds ll)]
 simp only [execOk,Bool.and_eq_true] at h
 exact mem_all.2 h.2
theorem mem_orderAll {ll:List (List D)} {kind:Int} {k:Key}:k∈orderAll ll kind↔∃ x:Wy,orderHolds ll x.1 x.2 kind=true∧seenOf ll x=k:=by
 unfold orderAll
 cases hg:((decide (1≤kind)&&decide (kind≤3))&&prog ll)
 ·simp only [Bool.false_eq_true,if_false,List.not_mem_nil,false_iff]
  rintro ⟨x,hx,_⟩
  have h:=holds_parts_of hx
  rw [h.1,exec_prog h.2] at hg
  cases hg
 ·rw [if_pos rfl,mem_sortK,orderList,List.mem_map]
  constructor
  ·rintro ⟨x,hx,e⟩
   exact ⟨x,(List.mem_filter.1 hx).2,e⟩
  ·rintro ⟨x,hx,e⟩
   exact ⟨x,List.mem_filter.2 ⟨mem_ways (holds_parts_of hx).2,hx⟩,e⟩
theorem putIn_len (l:List Ky) (k:Ky):(putIn l k).length≤l.length+1:=by
 induction l with
 | nil=>simp [putIn]
 | cons x l ih =>
  rw [putIn]
  split
  ·simp
  ·split<;>simp<;>omega
theorem fold_len:∀ (l a:List Ky),(l.foldl putIn a).length≤a.length+l.length
 | [],a=>by simp
 | x::l,a=>by
  have h1:=fold_len l (putIn a x)
  have h2:=putIn_len a x
  simp only [List.foldl_cons,List.length_cons]
  omega
theorem orderAll_len (ll:List (List D)) (kind:Int):(orderAll ll kind).length≤117649:=by
 unfold orderAll
 cases hp:prog ll
 ·rw [Bool.and_false];simp
 ·split
  ·have h1:=fold_len (orderList ll kind) []
   have h2:(orderList ll kind).length≤(ways (deeds ll)).length:=by
    rw [orderList,List.length_map];exact List.length_filter_le _ _
   have h3:=ways_le2 hp
   have h4:(sortK (orderList ll kind)).length=((orderList ll kind).foldl putIn []).length:=rfl
   simp only [List.length_nil] at h1
   omega
  ·simp
theorem orderAll_le (ll:List (List D)) (kind:Int):KLe (orderAll ll kind) 1048576:=fun k hk=>by
 obtain ⟨x,hx,rfl⟩:=mem_orderAll.1 hk
 have h:=(holds_parts_of hx).2
 have hW:=wok_of h
 have hb:=prog_le hW.prog
 have hdl:=deeds_len hb.1 hb.2
 have h1:=seenR_len (deeds ll) x.1
 have h3:=hW.three.out
 exact ⟨by simp only [seenOf];omega,by simp only [seenOf,seenL,List.length_map];omega⟩
end M
end
section
open Go.RowKit
structure Tld (w w':World) (v:Value) (ks:List Key):Prop where
 ex:∃ a g c,v=.slice a ks.length c∧KS w' a g 0 ks
 bel:Below w.heap.size w w'
theorem iorderAllK (a:Option Addr) (b o c:Nat) (ll:List (List M.D)) (kind:Int) (w:World) (hl:ll.length≤1048576) (hls:∀ t∈ll,t.length≤1048576) (h:DoSS w a b o ll) :
  Calls Tryz.prog 31 #[.agg #[.slice a ll.length c],.int .i64 kind] w fun e w'=>∃ v,e=.returned v∧Tld w w' v (M.orderAll ll kind):=by
 refine (iorderAll_any a b o c ll kind w hl hls h).mono fun e w' ⟨v,he,hA⟩=>⟨v,he,?_,hA.bel⟩
 obtain ⟨a',g,c',uu,hv,hk,hn,_,_⟩:=hA.ex
 have:=hn.ks
 rw [hk] at this
 exact ⟨a',g,c',by rw [hv,← hk,kys_len],this⟩
end
section
open Go.ChangeShapes Go.WideShapes Go.ChangeAt Go.RowKit Go.Deep
theorem Tryz.cellsByte:Tryz.prog.cellsOf 5=1:=by kernel_rfl
def Code8 (w:World) (u:Value):Prop:=∃ ca cb co L C,∃ x:Nat→Int,u=.slice ca L C∧L≤C∧(0 < L→ca=some ⟨cb,co,none⟩)∧∀ i,i < L→w.cell? ⟨cb,co+i,none⟩=some (.int .u8 (x i))∧0≤x i∧x i≤255
section
variable {H : Type} {enc : TypeId × Value → H} {w : World} {base : Nat} {spare : Nat → Bool} {held : Bool}
set_option maxRecDepth 100000 in
theorem open_code {fuel:Nat} {u:Value} {x:DataW H × List MemPlace} (h:DataW.trod enc Tryz.prog w base spare held fuel 22 [u]=some x):Code8 w u:=by
 rcases open_ints Tryz.underlying22 Tryz.underlying5 Tryz.cellsByte h with ⟨hcs,_⟩ | ⟨a,len,cap,zs,hcs,_,hl,hm,hmm,_,hel,hwf⟩
 ·simp at hcs
  exact ⟨none,0,0,0,0,fun _=>0,hcs,Nat.le_refl _,fun h=>absurd h (Nat.lt_irrefl _),fun i hi=>absurd hi (Nat.not_lt_zero _)⟩
 ·simp at hcs
  obtain ⟨gb,go,gs⟩:=a
  have hlm:len≤zs.length:=by rw [hmm];split<;>omega
  rcases Nat.eq_zero_or_pos len with h0 | hpos
  ·subst h0
   exact ⟨_,0,0,0,cap,fun _=>0,hcs,Nat.zero_le _,fun h=>absurd h (Nat.lt_irrefl _),fun i hi=>absurd hi (Nat.not_lt_zero _)⟩
  ·have hgs:gs=none:=by simpa [Addr.add] using World.cell?_spot (hel 0 (by omega))
   subst hgs
   refine ⟨_,gb,go,len,cap,fun i=>zs.getD i 0,hcs,hl,fun _=>rfl,fun i hi=>?_⟩
   have h1:=hel i (by omega)
   rw [add_plain] at h1
   have hw:=hwf (zs.getD i 0) (by rw [List.getD_eq_getElem?_getD,List.getElem?_eq_getElem (by omega)];exact List.getElem_mem _)
   exact ⟨h1,bounds_u8 hw⟩
end
end
end Go.Proofs.YtnddmlgnngdaoaaGreatDoor
