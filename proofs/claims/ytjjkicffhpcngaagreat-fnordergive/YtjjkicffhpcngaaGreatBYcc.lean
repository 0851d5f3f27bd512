/- To give instead of storing, to take instead of reading: no more is allowed; strictly, and late, just as much. Plainly. No condition but what is said. -/
import Derived.Below
import Derived.BigQuiet
import Derived.Deep.AppendLies
import Derived.Deep.CutRange
import Derived.Deep.MidRow
import Derived.Deep.Quiet
import Derived.Deep.QuietTactic
import Derived.Deep.RegionHeld3
import Derived.Deep.RegionLaw
import Derived.Deep.RegionWith
import Derived.Deep.Slices
import Derived.Deep.WholeRow
import Derived.Handy
import Derived.Laws.AppendOwn
import Derived.Laws.AppendOwnNone
import Derived.Laws.EntriesVeiled
import Derived.Laws.IdiomCopy
import Derived.Laws.OwnMore
import Derived.LoopIn
import Derived.LoopN
import Derived.LoopNIn
import Derived.Maps.OwnIn
import Derived.OwnWalkIn
import Derived.RangeFuncBound
import Derived.RangeFuncLeaves
import Derived.RangeFuncNested
import Derived.Shelf.Abstract
import Derived.Shelf.SlSortCmp.NoneTotal
import Derived.Sort.Grow
import Derived.TacticsInMore
import Derived.WalkKit
import Derived.WalkLawsBesides
import Derived.WalkSpells
import Derived.Deep.OwnRows
import Derived.Test.YtjjkicffhpcngaaGreatRows
import Derived.Test.YtjjkicffhpcngaaGreatBYaz
namespace Go.Proofs.YtjjkicffhpcngaaGreat
namespace M
def Upg (d e:D):Prop:=e=d∨(d.k=1∧e=⟨6,d.p,d.v⟩)∨(d.k=2∧e=⟨5,d.p,d.v⟩)
inductive UpL:List D→List D→Prop
 | nil:UpL [] []
 | cons {d e:D} {l m:List D}:Upg d e→UpL l m→UpL (d::l) (e::m)
inductive UpP:List (List D)→List (List D)→Prop
 | nil:UpP [] []
 | cons {l m:List D} {ll mm:List (List D)}:UpL l m→UpP ll mm→UpP (l::ll) (m::mm)
structure UpE (x y:De):Prop where
 t:y.t=x.t
 last:y.last=x.last
 lr:y.lr=x.lr
 d:Upg x.d y.d
theorem Upg.rd {d e:D} (h:Upg d e):reads e.k=reads d.k:=by
 rcases h with rfl | ⟨h1,rfl⟩ | ⟨h1,rfl⟩
 ·rfl
 ·rw [h1];rfl
 ·rw [h1];rfl
theorem Upg.wr {d e:D} (h:Upg d e):writes e.k=writes d.k:=by
 rcases h with rfl | ⟨h1,rfl⟩ | ⟨h1,rfl⟩
 ·rfl
 ·rw [h1];rfl
 ·rw [h1];rfl
theorem Upg.p {d e:D} (h:Upg d e):e.p=d.p:=by rcases h with rfl | ⟨_,rfl⟩ | ⟨_,rfl⟩<;>rfl
theorem Upg.v {d e:D} (h:Upg d e):e.v=d.v:=by rcases h with rfl | ⟨_,rfl⟩ | ⟨_,rfl⟩<;>rfl
theorem Upg.eq {d e:D} (h:Upg d e) {κ:Int} (hκ:κ≠1∧κ≠2∧κ≠5∧κ≠6):(e.k==κ)=(d.k==κ):=by
 rcases h with rfl | ⟨h1,rfl⟩ | ⟨h1,rfl⟩
 ·rfl
 ·rw [h1,Bool.eq_iff_iff,beq_iff_eq,beq_iff_eq];simp only;omega
 ·rw [h1,Bool.eq_iff_iff,beq_iff_eq,beq_iff_eq];simp only;omega
theorem Upg.five {d e:D} (h:Upg d e) (h5:d.k=5):e.k=5:=by
 rcases h with rfl | ⟨h1,rfl⟩ | ⟨_,rfl⟩
 ·exact h5
 ·omega
 ·rfl
theorem Upg.six {d e:D} (h:Upg d e) (h6:d.k=6):e.k=6:=by
 rcases h with rfl | ⟨_,rfl⟩ | ⟨h1,rfl⟩
 ·exact h6
 ·rfl
 ·omega
def Pw (xs ys:List De):Prop:=ys.length=xs.length∧∀ (a:Nat) (x:De),xs[a]?=some x→∃ y,ys[a]?=some y∧UpE x y
theorem Pw.append {xs ys xs' ys':List De} (h:Pw xs ys) (h':Pw xs' ys'):Pw (xs++xs') (ys++ys'):=by
 refine ⟨by rw [List.length_append,List.length_append,h.1,h'.1],fun a x hx=>?_⟩
 rcases Nat.lt_or_ge a xs.length with ha | ha
 ·rw [List.getElem?_append_left ha] at hx
  obtain ⟨y,hy,hu⟩:=h.2 a x hx
  exact ⟨y,by rw [List.getElem?_append_left (by rw [h.1];exact ha)];exact hy,hu⟩
 ·rw [List.getElem?_append_right ha] at hx
  obtain ⟨y,hy,hu⟩:=h'.2 _ x hx
  exact ⟨y,by rw [List.getElem?_append_right (by rw [h.1];exact ha),h.1];exact hy,hu⟩
theorem pw_one {x y:De} (h:UpE x y):Pw [x] [y]:=⟨rfl,fun a z hz=>by
 have:a=0:=by have:=lt_of_get hz;simp at this;omega
 subst this
 obtain rfl:x=z:=by simpa using hz
 exact ⟨y,rfl,h⟩⟩
theorem Upg.lr {d e:D} (h:Upg d e) (lr:Int) (n:Nat):lrOf lr n e=lrOf lr n d:=by unfold lrOf;rw [h.rd]
theorem up_deD {d e:D} (h:Upg d e) (t i n:Nat) (lr:Int):Pw (deD t i lr n d) (deD t i lr n e):=by
 have h9:=h.eq (κ:=9) (by omega)
 cases hk:(d.k==9)
 ·rw [deD_one hk,deD_one (h9.trans hk)]
  exact pw_one ⟨rfl,rfl,h.lr lr n,h⟩
 ·rw [deD_wait hk,deD_wait (h9.trans hk)]
  exact (pw_one (x:=⟨t,i,false,d,lrOf lr n d⟩) (y:=⟨t,i,false,e,lrOf lr n e⟩) ⟨rfl,rfl,h.lr lr n,h⟩).append (pw_one (x:=⟨t,i,true,d,lrOf lr n d⟩) (y:=⟨t,i,true,e,lrOf lr n e⟩) ⟨rfl,rfl,h.lr lr n,h⟩)
theorem up_deT {l m:List D} (h:UpL l m) (t:Nat):∀ (i n:Nat) (lr:Int),Pw (deT t i lr n l) (deT t i lr n m):=by
 induction h with
 | nil=>intro i n lr;exact ⟨rfl,fun a x hx=>by simp [deT] at hx⟩
 | cons hd _ ih =>
  intro i n lr
  have h1:=up_deD hd t i n lr
  simp only [deT]
  rw [h1.1,hd.lr]
  exact h1.append (ih _ _ _)
theorem up_deF {ll mm:List (List D)} (h:UpP ll mm):∀ t n,Pw (deF t n ll) (deF t n mm):=by
 induction h with
 | nil=>intro t n;exact ⟨rfl,fun a x hx=>by simp [deF] at hx⟩
 | cons hl _ ih =>
  intro t n
  have h1:=up_deT hl t 0 n (-1)
  simp only [deF]
  rw [h1.1]
  exact h1.append (ih _ _)
theorem up_deeds {ll mm:List (List D)} (h:UpP ll mm):Pw (deeds ll) (deeds mm):=up_deF h 0 0
theorem up_id (z:Int):up id z=z:=by
 rcases Int.lt_or_le z 0 with h | h
 ·exact up_neg h
 ·obtain ⟨n,rfl⟩:∃ n:Nat,z=n:=⟨z.toNat,by omega⟩
  rw [up_nat];rfl
section
variable {ll mm : List (List D)}
theorem Pw.emb (h:Pw (deeds ll) (deeds mm)) (hp:prog ll=true):Emb (deeds ll) (deeds mm) id id id:=by
 refine ⟨fun a x hx=>?_,fun a b _ _ e=>e,fun c y hy _=>⟨c,by rw [← h.1];exact lt_of_get hy,rfl⟩,deed_u hp,fun p h0 h3=>⟨h0,h3⟩,fun p q _ _ _ _ e=>e,rfl,lro_deeds ll⟩
 obtain ⟨y,hy,hu⟩:=h.2 a x hx
 exact ⟨y,hy,hu.d.rd,hu.d.wr,hu.d.eq (by omega),fun _=>hu.d.p,hu.d.v,fun _=>by rw [hu.lr,up_id]⟩
theorem Pw.kind (h:Pw (deeds ll) (deeds mm)) {κ:Int} (hκ:κ≠1∧κ≠2∧κ≠5∧κ≠6) {q:Nat} (h1:q < (deeds ll).length) (h2:q < (deeds mm).length):(deeds mm)[q].d.k=κ↔(deeds ll)[q].d.k=κ:=by
 obtain ⟨y,hy,hu⟩:=h.2 q _ (List.getElem?_eq_getElem h1)
 rw [List.getElem?_eq_getElem h2] at hy
 obtain rfl:=Option.some.inj hy
 have:=hu.d.eq hκ
 rw [Bool.eq_iff_iff,beq_iff_eq,beq_iff_eq] at this
 exact this
theorem Pw.outs (h:Pw (deeds ll) (deeds mm)) {a b:Nat} (ha:a≤(deeds ll).length) (hb:b≤(deeds ll).length):b≤outOf (deeds mm) a↔b≤outOf (deeds ll) a:=by
 have hl:=h.1
 rw [le_outOf (by omega) (by omega),le_outOf ha hb]
 exact ⟨fun hk q hq x y e=>hk q (by omega) x y ((h.kind (by omega) hq (by omega)).2 e),fun hk q hq x y e=>hk q (by omega) x y ((h.kind (by omega) (by omega) hq).1 e)⟩
theorem Pw.ins (h:Pw (deeds ll) (deeds mm)) {a b:Nat} (hb:b < (deeds ll).length):inOf (deeds mm) b≤a↔inOf (deeds ll) b≤a:=by
 have hl:=h.1
 rw [inOf_le (by omega),inOf_le hb]
 exact ⟨fun hk q hq x y e=>hk q (by omega) x y ((h.kind (by omega) hq (by omega)).2 e),fun hk q hq x y e=>hk q (by omega) x y ((h.kind (by omega) (by omega) hq).1 e)⟩
theorem Pw.must (h:Pw (deeds ll) (deeds mm)) (hp:prog ll=true) {x y:Wy} (R:Rel (deeds ll) id id x y) (hx:WO (deeds ll) x.1 x.2) (hy:WO (deeds mm) y.1 y.2) (k:Nat) {a b:Nat} {s t s' t':De} (ha:(deeds ll)[a]?=some s) (hb:(deeds ll)[b]?=some t) (ha':(deeds mm)[a]?=some s') (hb':(deeds mm)[b]?=some t'):(M.must (deeds ll) x.1 x.2 k a b s t=true→M.must (deeds mm) y.1 y.2 k a b s' t'=true)∧(k≤2→M.must (deeds mm) y.1 y.2 k a b s' t'=M.must (deeds ll) x.1 x.2 k a b s t):=by
 have la:=lt_of_get ha
 have lb:=lt_of_get hb
 have E:=h.emb hp
 obtain ⟨u,h2,U1⟩:=h.2 a s ha
 rw [ha'] at h2
 obtain rfl:=Option.some.inj h2
 obtain ⟨u,h2,U2⟩:=h.2 b t hb
 rw [hb'] at h2
 obtain rfl:=Option.some.inj h2
 have hr:M.read y.1 a b=M.read x.1 a b:=E.read R hx hy la lb
 have ho:M.over y.1 y.2 a b s' t'=M.over x.1 x.2 a b s t:=E.over R hx ha hb ha' hb'
 have hown:own a b s' t'=own a b s t:=by unfold own;rw [U1.t,U2.t]
 have us:∀ {x y:De},UpE x y→y.uses=x.uses:=fun {x y} U=>by
  show (M.reads y.d.k||M.writes y.d.k)=(M.reads x.d.k||M.writes x.d.k)
  rw [U.d.rd,U.d.wr]
 have hone:onePl s' t'=onePl s t:=by unfold onePl;rw [us U1,us U2,U1.d.p,U2.d.p]
 have htwo:two s' t'=two s t:=by unfold two;rw [U1.t,U2.t]
 have hla:late a b s' t'=late a b s t:=by unfold late;rw [hown,U1.d.wr,U2.d.rd]
 have hin:goesIn (deeds mm) a b s'=goesIn (deeds ll) a b s:=by
  unfold goesIn
  rw [U1.d.eq (by omega)]
  congr 1
  rw [decide_eq_decide]
  exact h.outs (by omega) (by omega)
 have hgo:goesOut (deeds mm) a b t'=goesOut (deeds ll) a b t:=by
  unfold goesOut
  rw [U2.d.eq (by omega)]
  congr 1
  rw [decide_eq_decide]
  exact h.ins lb
 have hcp:copyOf a t'=copyOf a t:=by unfold copyOf;rw [U2.d.eq (by omega),U2.lr]
 have hw:∀ {x y:De},UpE x y→isWall y.d.k=isWall x.d.k:=fun {x y} U=>by unfold isWall;rw [U.d.eq (by omega),U.d.eq (by omega)]
 have hl:loose (deeds ll) a b s t=true→loose (deeds mm) a b s' t'=true:=by
  unfold loose keeps
  rw [hown,hin,hgo,hcp,hw U1,hw U2]
  simp only [Bool.and_eq_true,Bool.or_eq_true,beq_iff_eq]
  rintro ⟨h1,h2 | h2 | h2 | h2⟩
  ·exact ⟨h1,.inl h2⟩
  ·exact ⟨h1,.inr (.inl (U1.d.five h2))⟩
  ·exact ⟨h1,.inr (.inr (.inl (U2.d.six h2)))⟩
  ·exact ⟨h1,.inr (.inr (.inr h2))⟩
 have le2:k≤2→M.must (deeds mm) y.1 y.2 k a b s' t'=M.must (deeds ll) x.1 x.2 k a b s t:=fun hk=>by
  rcases (show k=0∨k=1∨k=2 by omega) with rfl | rfl | rfl
  ·simp only [M.must];rw [hown,hone,hr,ho]
  ·simp only [M.must];rw [hown,hr,ho]
  ·simp only [M.must];rw [hla,htwo,hr,ho]
 refine ⟨fun hm=>?_,le2⟩
 rcases Nat.lt_or_ge k 3 with hk | hk
 ·rw [le2 (by omega)];exact hm
 ·obtain ⟨j,rfl⟩:∃ j,k=j+3:=⟨k - 3,by omega⟩
  simp only [M.must,Bool.or_eq_true] at hm ⊢
  rw [htwo,hr,ho]
  exact hm.imp hl id
theorem Pw.choices_eq (h:Pw (deeds ll) (deeds mm)) (c:Ch):c∈choices (deeds ll)↔c∈choices (deeds mm):=by
 have hl:=h.1
 have outE:∀ r,r < (deeds ll).length→outOf (deeds mm) r=outOf (deeds ll) r:=fun r hr=>by
  have b1:∀ {ds:List De} {a:Nat},a≤ds.length→outOf ds a≤ds.length:=fun {ds a} ha=>by
   unfold outOf
   have:∀ (l:List De) (n:Nat),outFrom n l≤n+l.length:=by
    intro l
    induction l with
    | nil=>intro n;simp [outFrom]
    | cons x l ih=>intro n;unfold outFrom;split<;>simp;have:=ih (n+1);omega
   have:=this (ds.drop a) a
   rw [List.length_drop] at this
   omega
  have h1:=b1 (ds:=deeds ll) (a:=r) (by omega)
  have h2:=b1 (ds:=deeds mm) (a:=r) (by omega)
  exact Nat.le_antisymm ((h.outs (by omega) (by omega)).1 (Nat.le_refl _)) ((h.outs (by omega) h1).2 (Nat.le_refl _))
 rw [mem_choices,mem_choices]
 constructor
 ·rintro ⟨w,r,x,y,hx,h9,hf,hy,h7,rfl⟩
  obtain ⟨x',hx',U⟩:=h.2 w x hx
  obtain ⟨y',hy',V⟩:=h.2 r y hy
  have e9:=U.d.eq (κ:=9) (by omega)
  have e7:=V.d.eq (κ:=7) (by omega)
  rw [Bool.eq_iff_iff,beq_iff_eq,beq_iff_eq] at e9 e7
  exact ⟨w,r,x',y',hx',e9.2 h9,U.last.trans hf,hy',e7.2 h7,by rw [outE r (lt_of_get hy)]⟩
 ·rintro ⟨w,r,x',y',hx',h9,hf,hy',h7,rfl⟩
  have hw:w < (deeds ll).length:=by rw [← hl];exact lt_of_get hx'
  have hr:r < (deeds ll).length:=by rw [← hl];exact lt_of_get hy'
  obtain ⟨x2,hx2,U⟩:=h.2 w _ (List.getElem?_eq_getElem hw)
  rw [hx'] at hx2
  obtain rfl:=Option.some.inj hx2
  obtain ⟨y2,hy2,V⟩:=h.2 r _ (List.getElem?_eq_getElem hr)
  rw [hy'] at hy2
  obtain rfl:=Option.some.inj hy2
  have e9:=U.d.eq (κ:=9) (by omega)
  have e7:=V.d.eq (κ:=7) (by omega)
  rw [Bool.eq_iff_iff,beq_iff_eq,beq_iff_eq] at e9 e7
  exact ⟨w,r,_,_,List.getElem?_eq_getElem hw,e9.1 h9,U.last▸hf,List.getElem?_eq_getElem hr,e7.1 h7,by rw [outE r hr]⟩
theorem up_down (h:Pw (deeds ll) (deeds mm)) (hp:prog ll=true) (hq:prog mm=true) {k:Nat} {y:Wy} (hy:orderHolds mm y.1 y.2 k=true):∃ x:Wy,orderHolds ll x.1 x.2 k=true∧seenOf ll x=seenOf mm y:=by
 obtain ⟨hk,he,h0,hs⟩:=holds_iff.1 hy
 have hwo:=(exec_wo.1 he).2
 have E:=h.emb hp
 have R:=E.relDn hwo
 have hx:=E.dn_ok hwo
 have link:∀ (j:Nat) {a b:Nat},(a,b)∈linksOf (netOf (deeds ll) (dnF (deeds ll) id y.1) (dnO (deeds ll) id id y.2) j) (deeds ll).length→Leads (linksOf (netOf (deeds mm) y.1 y.2 j) (deeds mm).length) (id a) (id b):=by
  intro j a b hl
  obtain ⟨s,t,ha,hb,hm⟩:=mem_net.1 hl
  obtain ⟨s',ha',_⟩:=h.2 a s ha
  obtain ⟨t',hb',_⟩:=h.2 b t hb
  exact .one (mem_net.2 ⟨s',t',ha',hb',(h.must hp R hx hwo j ha hb ha' hb').1 hm⟩)
 exact ⟨(dnF (deeds ll) id y.1,dnO (deeds ll) id id y.2),holds_iff.2 ⟨hk,exec_wo.2 ⟨hp,hx⟩,fun hr=>h0 (round_map (f:=id) (fun l hl=>link 0 hl) hr),sat_map (f:=id) (fun l hl=>link k hl) (fun c hc=>(h.choices_eq c).1 hc) hs⟩,(emb_seen hp hq E (fun a b hab _=>hab) R hx hwo).symm⟩
theorem all_up (h:UpP ll mm) (hp:prog ll=true) {k:Int}:∀ z∈orderAll mm k,z∈orderAll ll k:=fun z hz=>by
 obtain ⟨y,hy,rfl⟩:=mem_orderAll.1 hz
 have hq:=exec_prog (holds_parts_of hy).2
 obtain ⟨kn,rfl⟩:∃ kn:Nat,k=kn:=⟨k.toNat,by have:=(holds_parts_of hy).1;simp only [Bool.and_eq_true,decide_eq_true_eq] at this;omega⟩
 obtain ⟨x,hx,e⟩:=up_down (up_deeds h) hp hq hy
 exact mem_orderAll.2 ⟨x,hx,e⟩
end
end M
end Go.Proofs.YtjjkicffhpcngaaGreat
