/- Places and values named otherwise: what an order allows is turned with them. Plainly. No condition but what is said. What an order allows of a program whose places, or whose values, are named otherwise, as the laws ask it. Plainly. No condition but what is said. -/
import Derived.Below
import Derived.BigQuiet
import Derived.Deep.AppendLies
import Derived.Deep.MidRow
import Derived.Deep.Quiet
import Derived.Deep.QuietTactic
import Derived.Deep.RegionHeld3
import Derived.Deep.RegionLaw
import Derived.Deep.RegionWith
import Derived.Deep.Slices
import Derived.Deep.WholeRow
import Derived.Handy
import Derived.Laws.AppendOwn
import Derived.Laws.AppendOwnNone
import Derived.Laws.EntriesVeiled
import Derived.Laws.IdiomCopy
import Derived.Laws.OwnMore
import Derived.LoopIn
import Derived.LoopN
import Derived.LoopNIn
import Derived.OwnWalkIn
import Derived.RangeFuncBound
import Derived.RangeFuncLeaves
import Derived.RangeFuncNested
import Derived.Shelf.Abstract
import Derived.Shelf.SlSortCmp.NoneTotal
import Derived.Sort.Grow
import Derived.TacticsInMore
import Derived.WalkKit
import Derived.WalkLawsBesides
import Derived.WalkSpells
import Derived.Deep.OwnRows
import Derived.Test.YtihfibjckkmmbaaGreatRows
import Derived.Test.YtihfibjckkmmbaaGreatOebm
import Derived.Test.YtihfibjckkmmbaaGreatOebs
import Derived.Test.YtihfibjckkmmbaaGreatOebw
namespace Go.Proofs.YtihfibjckkmmbaaGreat
namespace M
def mapD (F:D→D) (x:De):De:={ x with d:=F x.d }
section
variable {F : D → D} (hF : ∀ d, (F d).k = d.k)
include hF
theorem map_lr (lr:Int) (n:Nat) (d:D):lrOf lr n (F d)=lrOf lr n d:=by unfold lrOf;rw [hF]
theorem map_deD (t i:Nat) (lr:Int) (n:Nat) (d:D):deD t i lr n (F d)=(deD t i lr n d).map (mapD F):=by
 unfold deD
 rw [hF,map_lr hF]
 split<;>rfl
theorem map_deT (t:Nat):∀ (l:List D) (i:Nat) (lr:Int) (n:Nat),deT t i lr n (l.map F)=(deT t i lr n l).map (mapD F)
 | [],i,lr,n=>rfl
 | d::l,i,lr,n=>by
  rw [List.map_cons,deT,deT,map_deD hF,map_lr hF,List.map_append,map_deT t l,List.length_map]
theorem map_deF:∀ (ll:List (List D)) (t n:Nat),deF t n (mapS F ll)=(deF t n ll).map (mapD F)
 | [],t,n=>rfl
 | l::ll,t,n=>by
  have h1:mapS F (l::ll)=l.map F::mapS F ll:=rfl
  rw [h1,deF,deF,map_deT hF,List.length_map,map_deF ll,List.map_append]
theorem map_deeds (ll:List (List D)):deeds (mapS F ll)=(deeds ll).map (mapD F):=map_deF hF ll 0 0
theorem map_k (x:De):(mapD F x).d.k=x.d.k:=hF x.d
theorem map_outFrom:∀ (ds:List De) (n:Nat),outFrom n (ds.map (mapD F))=outFrom n ds
 | [],n=>rfl
 | x::ds,n=>by
  rw [List.map_cons,outFrom,outFrom,map_k hF,map_outFrom ds]
theorem map_outOf (ds:List De) (a:Nat):outOf (ds.map (mapD F)) a=outOf ds a:=by
 unfold outOf
 rw [← List.map_drop,map_outFrom hF]
theorem map_kAt (ds:List De) (n:Nat):kAt (ds.map (mapD F)) n=kAt ds n:=by
 unfold kAt
 rw [List.getElem?_map]
 cases ds[n]? with
 | none=>rfl
 | some x=>exact map_k hF x
theorem map_inOf (ds:List De):∀ n,inOf (ds.map (mapD F)) n=inOf ds n
 | 0=>rfl
 | n+1=>by rw [inOf,inOf,map_kAt hF,map_inOf ds n]
theorem map_waits (ds:List De) (n:Nat):waitsAt (ds.map (mapD F)) n=waitsAt ds n:=by
 unfold waitsAt
 rw [List.getElem?_map]
 cases ds[n]? with
 | none=>rfl
 | some x=>simp only [Option.map_some];rw [map_k hF];rfl
theorem map_choices (ds:List De):choices (ds.map (mapD F))=choices ds:=by
 unfold choices choicesAt
 simp only [List.length_map,map_outOf hF,map_kAt hF]
 congr 1
 apply List.filter_congr
 intro n _
 exact map_waits hF ds n
theorem map_reads (x:De):(mapD F x).reads=x.reads:=by show M.reads _=M.reads _;rw [map_k hF]
theorem map_uses (x:De):(mapD F x).uses=x.uses:=by show M.uses _=M.uses _;rw [map_k hF]
end
theorem up_idz (z:Int):up id z=z:=by
 unfold up
 split
 ·rfl
 ·simp only [id];omega
theorem round_less {L L':List Lk} (h:∀ l∈L,l∈L') (hr:Round L):Round L':=round_map (f:=fun n=>n) (fun l hl=>.one (h l hl)) hr
theorem sat_fewer {L L':List Lk} {cs:List Ch} (h:∀ l∈L,l∈L') (hs:Sat L' cs):Sat L cs:=sat_map (f:=fun n=>n) (fun l hl=>.one (h l hl)) (fun _ hc=>hc) hs
structure Tg (F:D→D) (g v:Int→Int):Prop where
 k:∀ d,(F d).k=d.k
 p:∀ d,M.uses d.k=true→(F d).p=g d.p
 vl:∀ d,(F d).v=v d.v
 gi:∀ p:Int,0≤p→p < 3→0≤g p∧g p < 3
 gj:∀ p q:Int,0≤p→p < 3→0≤q→q < 3→g p=g q→p=q
 vz:v 0=0
section
variable {F : D → D} {g v : Int → Int} {ll : List (List D)}
theorem Tg.emb (h:Tg F g v) (hp:prog ll=true):Emb (deeds ll) (deeds (mapS F ll)) id g v:=by
 rw [map_deeds h.k]
 refine ⟨fun a x hx=>⟨mapD F x,by simp [hx],map_reads h.k x,by rw [map_k h.k],by rw [map_k h.k],fun hu=>h.p x.d hu,h.vl x.d,fun _=>(up_idz _).symm⟩,fun a b _ _ e=>e,fun c y hy _=>⟨c,by have:=lt_of_get hy;simpa using this,rfl⟩,deed_u hp,h.gi,h.gj,h.vz,lro_deeds ll⟩
theorem Tg.must (h:Tg F g v) (hp:prog ll=true) {x y:Wy} (R:Rel (deeds ll) id g x y) (hx:WO (deeds ll) x.1 x.2) (hy:WO (deeds (mapS F ll)) y.1 y.2) (k:Nat) {a b:Nat} {s t:De} (ha:(deeds ll)[a]?=some s) (hb:(deeds ll)[b]?=some t):M.must (deeds (mapS F ll)) y.1 y.2 k a b (mapD F s) (mapD F t)=M.must (deeds ll) x.1 x.2 k a b s t:=by
 have E:=h.emb hp
 have ea:(deeds (mapS F ll))[id a]?=some (mapD F s):=by rw [map_deeds h.k];simp [ha]
 have eb:(deeds (mapS F ll))[id b]?=some (mapD F t):=by rw [map_deeds h.k];simp [hb]
 have hr:read y.1 a b=read x.1 a b:=E.read R hx hy (lt_of_get ha) (lt_of_get hb)
 have ho:over y.1 y.2 a b (mapD F s) (mapD F t)=over x.1 x.2 a b s t:=E.over R hx ha hb ea eb
 have hown:own a b (mapD F s) (mapD F t)=own a b s t:=rfl
 have htwo:two (mapD F s) (mapD F t)=two s t:=rfl
 have hone:onePl (mapD F s) (mapD F t)=onePl s t:=by
  unfold onePl
  rw [map_uses h.k,map_uses h.k]
  cases hs:s.uses
  ·rfl
  ·cases ht:t.uses
   ·rfl
   ·rw [Bool.true_and,Bool.true_and,Bool.true_and,Bool.true_and,Bool.eq_iff_iff,beq_iff_eq,beq_iff_eq,show (mapD F s).d.p=g s.d.p from h.p s.d hs,show (mapD F t).d.p=g t.d.p from h.p t.d ht]
    have us:=deed_u hp s (mem_of_get ha) hs
    have ut:=deed_u hp t (mem_of_get hb) ht
    exact ⟨h.gj _ _ us.1 us.2 ut.1 ut.2,fun e=>by rw [e]⟩
 have hl:loose (deeds (mapS F ll)) a b (mapD F s) (mapD F t)=loose (deeds ll) a b s t:=by
  unfold loose keeps goesIn goesOut copyOf
  rw [hown,map_deeds h.k,map_outOf h.k,map_inOf h.k,map_k h.k,map_k h.k]
  rfl
 have hla:late a b (mapD F s) (mapD F t)=late a b s t:=by unfold late;rw [hown,map_k h.k,map_k h.k]
 unfold M.must
 rw [hr,ho,hown,hone,htwo,hl,hla]
theorem Tg.link (h:Tg F g v) (hp:prog ll=true) {x y:Wy} (R:Rel (deeds ll) id g x y) (hx:WO (deeds ll) x.1 x.2) (hy:WO (deeds (mapS F ll)) y.1 y.2) (k a b:Nat):(a,b)∈linksOf (netOf (deeds (mapS F ll)) y.1 y.2 k) (deeds (mapS F ll)).length↔(a,b)∈linksOf (netOf (deeds ll) x.1 x.2 k) (deeds ll).length:=by
 have at_:∀ (n:Nat) (z:De),(deeds (mapS F ll))[n]?=some z↔∃ s,(deeds ll)[n]?=some s∧z=mapD F s:=fun n z=>by
  rw [map_deeds h.k,List.getElem?_map]
  cases (deeds ll)[n]? with
  | none=>simp
  | some s=>simp [eq_comm]
 rw [mem_net,mem_net]
 constructor
 ·rintro ⟨u',v',hu',hv',hm⟩
  obtain ⟨u,hu,rfl⟩:=(at_ a u').1 hu'
  obtain ⟨w,hw,rfl⟩:=(at_ b v').1 hv'
  exact ⟨u,w,hu,hw,by rw [← h.must hp R hx hy k hu hw];exact hm⟩
 ·rintro ⟨u,w,hu,hw,hm⟩
  exact ⟨_,_,(at_ a _).2 ⟨u,hu,rfl⟩,(at_ b _).2 ⟨w,hw,rfl⟩,by rw [h.must hp R hx hy k hu hw];exact hm⟩
structure TgK (g v:Int→Int) (z z':Key):Prop where
 r:z'.1=z.1.map v
 l:z.2.length=3
 l':z'.2.length=3
 at_:∀ p:Int,0≤p→p < 3→z'.2.getD (g p).toNat 0=v (z.2.getD p.toNat 0)
theorem seenL_at {ds:List De} {l:List Int} {rows:List (List Int)} (h3:rows.length=3) {p:Int} (h0:0≤p) (hp:p < 3):(seenL ds l rows).getD p.toNat 0=lastOf ds l (rows.getD p.toNat []):=by
 unfold seenL
 rw [List.getD_eq_getElem?_getD,List.getElem?_map,List.getD_eq_getElem?_getD,List.getElem?_eq_getElem (by omega)]
 rfl
theorem Tg.seen (h:Tg F g v) (hp:prog ll=true) (hq:prog (mapS F ll)=true) {x y:Wy} (R:Rel (deeds ll) id g x y) (hx:WO (deeds ll) x.1 x.2) (hy:WO (deeds (mapS F ll)) y.1 y.2):TgK g v (seenOf ll x) (seenOf (mapS F ll) y):=by
 have E:=h.emb hp
 have z1:=deed_zero hp
 have z2:=deed_zero hq
 refine ⟨E.seenR (fun a b hab _=>hab) R hx hy (lro_deeds _) z1 z2,by simp [seenOf,seenL,hx.three],by simp [seenOf,seenL,hy.three],fun p h0 h3=>?_⟩
 show (seenL _ _ _).getD _ 0=v ((seenL _ _ _).getD _ 0)
 rw [seenL_at hy.three (h.gi p h0 h3).1 (h.gi p h0 h3).2,seenL_at hx.three h0 h3]
 exact E.last R hx hy (lro_deeds _) z1 z2 h0 h3
theorem Tg.all (h:Tg F g v) (hp:prog ll=true) (hq:prog (mapS F ll)=true) (k:Int):(∀ z∈orderAll ll k,∃ z'∈orderAll (mapS F ll) k,TgK g v z z')∧(∀ z'∈orderAll (mapS F ll) k,∃ z∈orderAll ll k,TgK g v z z'):=by
 have hch:choices (deeds (mapS F ll))=choices (deeds ll):=by rw [map_deeds h.k,map_choices h.k]
 have E:=h.emb hp
 constructor
 ·intro z hz
  obtain ⟨x,hxh,rfl⟩:=mem_orderAll.1 hz
  obtain ⟨kn,rfl⟩:∃ kn:Nat,k=kn:=⟨k.toNat,by have:=(holds_parts_of hxh).1;simp only [Bool.and_eq_true,decide_eq_true_eq] at this;omega⟩
  obtain ⟨hk,he,h0,hs⟩:=holds_iff.1 hxh
  have hx:=(exec_wo.1 he).2
  obtain ⟨y,R,hy⟩:∃ y:Wy,Rel (deeds ll) id g x y∧WO (deeds (mapS F ll)) y.1 y.2:=⟨(_,_),E.relUp x,E.up_ok (lro_deeds _) hx⟩
  have L:=fun (k:Nat) (l:Lk) (hl:l∈linksOf (netOf (deeds (mapS F ll)) y.1 y.2 k) (deeds (mapS F ll)).length)=>(h.link hp R hx hy k l.1 l.2).1 hl
  refine ⟨seenOf (mapS F ll) y,mem_orderAll.2 ⟨y,holds_iff.2 ⟨hk,exec_wo.2 ⟨hq,hy⟩,fun hr=>h0 (round_less (L 0) hr),by rw [hch];exact sat_fewer (L kn) hs⟩,rfl⟩,h.seen hp hq R hx hy⟩
 ·intro z' hz
  obtain ⟨y,hyh,rfl⟩:=mem_orderAll.1 hz
  obtain ⟨kn,rfl⟩:∃ kn:Nat,k=kn:=⟨k.toNat,by have:=(holds_parts_of hyh).1;simp only [Bool.and_eq_true,decide_eq_true_eq] at this;omega⟩
  obtain ⟨hk,he,h0,hs⟩:=holds_iff.1 hyh
  have hy:=(exec_wo.1 he).2
  obtain ⟨x,R,hx⟩:∃ x:Wy,Rel (deeds ll) id g x y∧WO (deeds ll) x.1 x.2:=⟨(_,_),E.relDn hy,E.dn_ok hy⟩
  have L:=fun (k:Nat) (l:Lk) (hl:l∈linksOf (netOf (deeds ll) x.1 x.2 k) (deeds ll).length)=>(h.link hp R hx hy k l.1 l.2).2 hl
  refine ⟨seenOf ll x,mem_orderAll.2 ⟨x,holds_iff.2 ⟨hk,exec_wo.2 ⟨hp,hx⟩,fun hr=>h0 (round_less (L 0) hr),by rw [hch] at hs;exact sat_fewer (L kn) hs⟩,rfl⟩,h.seen hp hq R hx hy⟩
end
end M
end Go.Proofs.YtihfibjckkmmbaaGreat
namespace Go.Proofs.YtihfibjckkmmbaaGreat
namespace M
def lastP (row l:List Int):List Int:=(((List.replicate 3 (0:Int)).set (row.getD 0 0).toNat (l.getD 0 0)).set (row.getD 1 0).toNat (l.getD 1 0)).set (row.getD 2 0).toNat (l.getD 2 0)
theorem tgK_places {row:List Int} (hr:rowN row 3=true) {z z':Key} (h:TgK (fun p=>row.getD p.toNat 0) id z z'):z'=(z.1,lastP row z.2):=by
 obtain ⟨z1,z2⟩:=z
 obtain ⟨y1,y2⟩:=z'
 obtain ⟨hr1,hl,hl',hat⟩:=h
 simp only at hr1 hl hl' hat
 rw [List.map_id] at hr1
 subst hr1
 have e0:=hat 0 (by omega) (by omega)
 have e1:=hat 1 (by omega) (by omega)
 have e2:=hat 2 (by omega) (by omega)
 match z2,hl with
 | [a,b,c],_ =>
  match y2,hl' with
  | [d,e,f],_ =>
   rcases row3 hr with rfl | rfl | rfl | rfl | rfl | rfl<;>simp at e0 e1 e2<;>subst e0 e1 e2<;>rfl
theorem tg_sorted {F:D→D} {g v:Int→Int} {ll:List (List D)} {T:Key→Key} (h:Tg F g v) (hp:prog ll=true) (hq:prog (mapS F ll)=true) (hT:∀ z z',TgK g v z z'→z'=T z) (k:Int):sortK ((orderAll ll k).map T)=orderAll (mapS F ll) k:=by
 obtain ⟨h1,h2⟩:=h.all hp hq k
 refine (sortK_unique (asc_orderAll _ k) fun z'=>?_).symm
 rw [List.mem_map]
 constructor
 ·intro hz
  obtain ⟨z,hz0,hk⟩:=h2 z' hz
  exact ⟨z,hz0,(hT z z' hk).symm⟩
 ·rintro ⟨z,hz,rfl⟩
  obtain ⟨z',hz',hk⟩:=h1 z hz
  rw [← hT z z' hk]
  exact hz'
end M
end Go.Proofs.YtihfibjckkmmbaaGreat
