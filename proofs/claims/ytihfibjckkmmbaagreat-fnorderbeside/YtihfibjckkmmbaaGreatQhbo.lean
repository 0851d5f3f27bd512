/- The events of one program in a row among those of another one, at places of their own: what a way of the whole is for them. Plainly. No condition but what is said. What an order allows of two programs side by side, at places of their own: what it allows of each. Plainly. No condition but what is said. What an order allows of two programs side by side, as the laws ask it. Plainly. No condition but what is said. -/
import Derived.Below
import Derived.BigQuiet
import Derived.Deep.AppendLies
import Derived.Deep.MidRow
import Derived.Deep.Quiet
import Derived.Deep.QuietTactic
import Derived.Deep.RegionHeld3
import Derived.Deep.RegionLaw
import Derived.Deep.RegionWith
import Derived.Deep.Slices
import Derived.Deep.WholeRow
import Derived.Handy
import Derived.Laws.AppendOwn
import Derived.Laws.AppendOwnNone
import Derived.Laws.EntriesVeiled
import Derived.Laws.IdiomCopy
import Derived.Laws.OwnMore
import Derived.LoopIn
import Derived.LoopN
import Derived.LoopNIn
import Derived.OwnWalkIn
import Derived.RangeFuncBound
import Derived.RangeFuncLeaves
import Derived.RangeFuncNested
import Derived.Shelf.Abstract
import Derived.Shelf.SlSortCmp.NoneTotal
import Derived.Sort.Grow
import Derived.TacticsInMore
import Derived.WalkKit
import Derived.WalkLawsBesides
import Derived.WalkSpells
import Derived.Deep.OwnRows
import Derived.Test.YtihfibjckkmmbaaGreatRows
import Derived.Test.YtihfibjckkmmbaaGreatQhbh
import Derived.Test.YtihfibjckkmmbaaGreatQhbi
import Derived.Test.YtihfibjckkmmbaaGreatQhbj
import Derived.Test.YtihfibjckkmmbaaGreatQhbk
import Derived.Test.YtihfibjckkmmbaaGreatQhbl
import Derived.Test.YtihfibjckkmmbaaGreatQhbm
import Derived.Test.YtihfibjckkmmbaaGreatQhbn
namespace Go.Proofs.YtihfibjckkmmbaaGreat
namespace M
structure Part (ds es:List De) (n:Nat) (U:Int→Bool):Prop where
 at_:∀ (a:Nat) (x:De),ds[a]?=some x→∃ y,es[n+a]?=some y∧y.d=x.d∧y.last=x.last∧y.lr=up (fun i=>n+i) x.lr
 out:∀ (c:Nat) (y:De),es[c]?=some y→y.uses=true→U y.d.p=true→n≤c∧c < n+ds.length
 pr:∀ x∈ds,x.uses=true→(0≤x.d.p∧x.d.p < 3)∧U x.d.p=true
 th:∀ (a b:Nat) (x y x' y':De),ds[a]?=some x→ds[b]?=some y→es[n+a]?=some x'→es[n+b]?=some y'→(x'.t=y'.t↔x.t=y.t)
 lro:∀ x∈ds,x.lr < ds.length
structure RelU (ds:List De) (n:Nat) (U:Int→Bool) (x y:Wy):Prop where
 rd:∀ (a:Nat) (u:De),ds[a]?=some u→u.reads=true→y.1.getD (n+a) 0=up (fun i=>n+i) (x.1.getD a 0)
 row:∀ p:Int,0≤p→p < 3→U p=true→y.2.getD p.toNat []=(x.2.getD p.toNat []).map (up fun i=>n+i)
section
variable {ds es : List De} {n : Nat} {U : Int → Bool}
theorem upS (n:Nat) (z:Int):up (fun i=>n+i) z=if z < 0 then z else (n:Int)+z:=by
 unfold up
 split
 ·rfl
 ·show ((n+z.toNat:Nat):Int)=_;omega
theorem upS_inj {n:Nat} {y z:Int} (h:up (fun i=>n+i) y=up (fun i=>n+i) z):y=z:=by
 rw [upS,upS] at h
 split at h<;>split at h<;>omega
theorem Part.lt (E:Part ds es n U) {a:Nat} (h:a < ds.length):n+a < es.length:=by
 obtain ⟨y,hy,_⟩:=E.at_ a _ (List.getElem?_eq_getElem h)
 exact lt_of_get hy
theorem Part.get (E:Part ds es n U) {a:Nat} (ha:a < ds.length):∃ h2:n+a < es.length,es[n+a].d=ds[a].d:=by
 obtain ⟨y,hy,hd,_⟩:=E.at_ a _ (List.getElem?_eq_getElem ha)
 obtain ⟨h2,rfl⟩:=List.getElem?_eq_some_iff.1 hy
 exact ⟨h2,hd⟩
theorem Part.val (E:Part ds es n U) {x y:Wy} (R:RelU ds n U x y) {a:Nat} (ha:a < ds.length):valFrom es y.1 (n+a)=up (fun i=>n+i) (valFrom ds x.1 a):=by
 have hx:=List.getElem?_eq_getElem ha
 obtain ⟨u,hu,hd,_,hlr⟩:=E.at_ a _ hx
 have hrd:u.reads=ds[a].reads:=congrArg (fun d:D=>M.reads d.k) hd
 unfold valFrom
 rw [hx,hu]
 dsimp only
 rw [hrd,hd]
 cases hr:ds[a].reads
 ·simp only [Bool.false_eq_true,if_false]
  split
  ·exact hlr
  ·rw [up_neg (by omega)]
 ·simp only [if_true]
  exact R.rd a _ hx hr
theorem Part.orig (E:Part ds es n U) {x y:Wy} (R:RelU ds n U x y) (hin:In ds x.1):∀ (m a:Nat),a < ds.length→M.orig es y.1 m (n+a)=(M.orig ds x.1 m a).map fun i=>n+i
 | 0,a,_=>rfl
 | m+1,a,ha=>by
  have hv:=E.val R ha
  have hl:=hin a ha
  rw [M.orig,M.orig,hv]
  by_cases h0:valFrom ds x.1 a < 0
  ·rw [if_pos h0,if_pos (by rw [up_neg h0];exact h0)];rfl
  ·obtain ⟨k,hn⟩:∃ k:Nat,valFrom ds x.1 a=k:=⟨(valFrom ds x.1 a).toNat,by omega⟩
   rw [hn] at hl ⊢
   rw [up_nat,if_neg (by omega),if_neg (by omega),Int.toNat_natCast,Int.toNat_natCast]
   exact Part.orig E R hin m k (by omega)
theorem Part.wrs (E:Part ds es n U) {p:Int} (hU:U p=true):((M.wrs p 0 ds).map (up fun i=>n+i)).Perm (M.wrs p 0 es):=by
 refine perm_mem ?_ (nodup_wrs _ _ _) fun z=>?_
 ·rw [List.Nodup,List.pairwise_map]
  exact List.Pairwise.imp (fun {a b} hne e=>hne (upS_inj e)) (nodup_wrs p ds 0)
 ·rw [List.mem_map]
  constructor
  ·rintro ⟨a,ha,rfl⟩
   obtain ⟨i,hi,rfl,ht⟩:=mem_wrs.1 ha
   obtain ⟨hc,hd⟩:=E.get hi
   rw [Nat.zero_add,up_nat]
   refine mem_wrs.2 ⟨n+i,hc,by simp,?_⟩
   simp only [De.to,Bool.and_eq_true,beq_iff_eq] at ht ⊢
   rw [hd];exact ht
  ·intro hz
   obtain ⟨c,hc,rfl,ht⟩:=mem_wrs.1 hz
   simp only [De.to,Bool.and_eq_true,beq_iff_eq] at ht
   have hu:es[c].uses=true:=by show (M.reads _||M.writes _)=true;rw [ht.1,Bool.or_true]
   have ho:=E.out c _ (List.getElem?_eq_getElem hc) hu (by rw [ht.2];exact hU)
   obtain ⟨h2,hd⟩:=E.get (a:=c - n) (by omega)
   refine ⟨((c - n:Nat):Int),mem_wrs.2 ⟨c - n,by omega,by simp,?_⟩,by rw [up_nat];omega⟩
   simp only [De.to,Bool.and_eq_true,beq_iff_eq]
   rw [← hd]
   have e:n+(c - n)=c:=by omega
   simp only [e]
   exact ht
theorem Part.wrs_no (E:Part ds es n U) {p:Int} (hU:U p=false):M.wrs p 0 ds=[]:=by
 rw [List.eq_nil_iff_forall_not_mem]
 intro z hz
 obtain ⟨i,hi,_,ht⟩:=mem_wrs.1 hz
 simp only [De.to,Bool.and_eq_true,beq_iff_eq] at ht
 have hu:ds[i].uses=true:=by show (M.reads _||M.writes _)=true;rw [ht.1,Bool.or_true]
 have:=(E.pr _ (List.getElem_mem hi) hu).2
 rw [ht.2,hU] at this
 cases this
def bk (n:Nat) (z:Int):Int:=if z < 0 then z else z - n
theorem bk_up (n:Nat) (z:Int):bk n (up (fun i=>n+i) z)=z:=by
 rw [upS]
 unfold bk
 by_cases h:z < 0
 ·rw [if_pos h,if_pos h]
 ·rw [if_neg h,if_neg (by omega)];omega
def ptF (ds:List De) (n:Nat) (l:List Int):List Int:=(List.range ds.length).map fun (a:Nat)=>if ((ds[a]?).map De.reads).getD false then bk n (l.getD (n+a) 0) else -2
def ptO (n:Nat) (U:Int→Bool) (rows:List (List Int)):List (List Int):=[(0:Int),1,2].map fun p=>if U p then (rows.getD p.toNat []).map (bk n) else []
theorem ptF_at {l:List Int} {a:Nat} {x:De} (h:ds[a]?=some x):(ptF ds n l).getD a 0=if x.reads then bk n (l.getD (n+a) 0) else -2:=by
 have hc:=lt_of_get h
 obtain ⟨_,rfl⟩:=List.getElem?_eq_some_iff.1 h
 simp [ptF,List.getD_eq_getElem?_getD,hc]
theorem ptO_at {rows:List (List Int)} {p:Int} (h0:0≤p) (h3:p < 3):(ptO n U rows).getD p.toNat []=if U p then (rows.getD p.toNat []).map (bk n) else []:=by
 rcases (show p=0∨p=1∨p=2 by omega) with rfl | rfl | rfl<;>rfl
theorem Part.rel (E:Part ds es n U) {y:Wy} (h:WO es y.1 y.2):RelU ds n U (ptF ds n y.1,ptO n U y.2) y:=by
 have ud:∀ z:Int,(z < 0∨(n:Int)≤z)→up (fun i=>n+i) (bk n z)=z:=by
  intro z hz
  rw [upS]
  unfold bk
  by_cases h:z < 0
  ·rw [if_pos h,if_pos h]
  ·rw [if_neg h,if_neg (by omega)];omega
 refine ⟨fun a u hu hr=>?_,fun p h0 h3 hU=>?_⟩
 ·show _=up _ ((ptF ds n y.1).getD a 0)
  rw [ptF_at hu,hr,if_pos rfl,ud]
  obtain ⟨z,hz,hd,_⟩:=E.at_ a u hu
  have hzr:z.reads=true:=(congrArg (fun d:D=>M.reads d.k) hd).trans hr
  have:=h.fro (n+a) z hz
  rw [if_pos hzr] at this
  rcases this with e | ⟨b,c,e,hc,ht⟩
  ·exact Or.inl (by omega)
  ·simp only [De.to,Bool.and_eq_true,beq_iff_eq] at ht
   have huu:u.uses=true:=by show (M.reads _||M.writes _)=true;rw [show M.reads u.d.k=true from hr,Bool.true_or]
   have:=E.out b c hc (by show (M.reads _||M.writes _)=true;rw [ht.1,Bool.or_true]) (by rw [ht.2,hd];exact (E.pr u (mem_of_get hu) huu).2)
   exact Or.inr (by omega)
 ·show y.2.getD p.toNat []=((ptO n U y.2).getD p.toNat []).map _
  rw [ptO_at h0 h3,hU,if_pos rfl,List.map_map]
  have hc:(y.2.getD p.toNat []).map ((up fun i=>n+i) ∘ bk n)=(y.2.getD p.toNat []).map id:=List.map_congr_left fun z hz=>by
   obtain ⟨c,hc,rfl,ht⟩:=mem_wrs.1 ((h.row p h0 h3).mem_iff.1 hz)
   simp only [De.to,Bool.and_eq_true,beq_iff_eq] at ht
   have:=E.out c _ (List.getElem?_eq_getElem hc) (by show (M.reads _||M.writes _)=true;rw [ht.1,Bool.or_true]) (by rw [ht.2];exact hU)
   exact ud _ (Or.inr (by omega))
  rw [hc,List.map_id]
theorem Part.ok (E:Part ds es n U) {y:Wy} (h:WO es y.1 y.2):WO ds (ptF ds n y.1) (ptO n U y.2):=by
 have R:=E.rel h
 have hfro:Fro ds (ptF ds n y.1):=by
  intro a x hx
  rw [ptF_at hx]
  cases hr:x.reads
  ·simp
  ·simp only [if_true]
   obtain ⟨z,hz,hd,_⟩:=E.at_ a x hx
   have hzr:z.reads=true:=(congrArg (fun d:D=>M.reads d.k) hd).trans hr
   have hf:=h.fro (n+a) z hz
   rw [if_pos hzr] at hf
   rcases hf with e | ⟨b,c,e,hc,ht⟩
   ·rw [e];exact Or.inl rfl
   ·simp only [De.to,Bool.and_eq_true,beq_iff_eq] at ht
    have hux:x.uses=true:=by show (M.reads _||M.writes _)=true;rw [show M.reads x.d.k=true from hr,Bool.true_or]
    have ho:=E.out b c hc (by show (M.reads _||M.writes _)=true;rw [ht.1,Bool.or_true]) (by rw [ht.2,hd];exact (E.pr x (mem_of_get hx) hux).2)
    obtain ⟨h2,hd2⟩:=E.get (a:=b - n) (by omega)
    have eb:n+(b - n)=b:=by omega
    simp only [eb] at hd2
    obtain ⟨hb,rfl⟩:=List.getElem?_eq_some_iff.1 hc
    refine Or.inr ⟨b - n,_,?_,List.getElem?_eq_getElem (by omega),?_⟩
    ·rw [e];unfold bk;rw [if_neg (by omega)];omega
    ·simp only [De.to,Bool.and_eq_true,beq_iff_eq]
     rw [← hd2,← hd];exact ht
 have hin:=fro_in hfro E.lro
 refine ⟨by simp [ptF],hfro,rfl,fun p h0 h3=>?_,?_⟩
 ·rw [ptO_at h0 h3]
  cases hU:U p
  ·rw [E.wrs_no hU];exact List.Perm.nil
  ·rw [if_pos rfl]
   have h2:=((h.row p h0 h3).trans (E.wrs hU).symm).map (bk n)
   have h4:((M.wrs p 0 ds).map (up fun i=>n+i)).map (bk n)=M.wrs p 0 ds:=by
    rw [List.map_map]
    have:(M.wrs p 0 ds).map (bk n ∘ up fun i=>n+i)=(M.wrs p 0 ds).map id:=List.map_congr_left fun z _=>bk_up n z
    rw [this,List.map_id]
   rw [h4] at h2
   exact h2
 ·rw [ends_iff]
  intro a ha
  refine orig_any hin ha (m:=es.length) ?_
  have:=(ends_iff es y.1).1 h.fin (n+a) (E.lt ha)
  have e:=E.orig R hin es.length a ha
  rw [e] at this
  simpa using this
theorem Part.read (E:Part ds es n U) {x y:Wy} (R:RelU ds n U x y) (hx:WO ds x.1 x.2) (hy:WO es y.1 y.2) {a b:Nat} (hb:b < ds.length):M.read y.1 (n+a) (n+b)=M.read x.1 a b:=by
 unfold M.read
 have hxb:=List.getElem?_eq_getElem hb
 obtain ⟨z,hz,hd,_⟩:=E.at_ b _ hxb
 have hzr:z.reads=ds[b].reads:=congrArg (fun d:D=>M.reads d.k) hd
 have h1:=hx.fro b _ hxb
 have h2:=hy.fro (n+b) z hz
 cases hr:ds[b].reads
 ·rw [hr,if_neg (by simp)] at h1
  rw [hzr,hr,if_neg (by simp)] at h2
  rw [h1,h2]
  have e1:((-2:Int)==((n+a:Nat):Int))=false:=by simp;omega
  have e2:((-2:Int)==(a:Int))=false:=by simp
  rw [e1,e2]
 ·rw [R.rd b _ hxb hr,Bool.eq_iff_iff,beq_iff_eq,beq_iff_eq]
  constructor
  ·intro h;rw [← up_nat (fun i=>n+i)] at h;exact upS_inj h
  ·intro h;rw [h,up_nat]
theorem Part.over (E:Part ds es n U) {x y:Wy} (R:RelU ds n U x y) {a b:Nat} {s t s' t':De} (ha:ds[a]?=some s) (hb:ds[b]?=some t) (ha':es[n+a]?=some s') (hb':es[n+b]?=some t'):M.over y.1 y.2 (n+a) (n+b) s' t'=M.over x.1 x.2 a b s t:=by
 obtain ⟨u,hu,d1,_⟩:=E.at_ a s ha
 rw [ha'] at hu
 obtain rfl:=Option.some.inj hu
 obtain ⟨u,hu,d2,_⟩:=E.at_ b t hb
 rw [hb'] at hu
 obtain rfl:=Option.some.inj hu
 have us:s'.uses=s.uses:=congrArg (fun d:D=>M.uses d.k) d1
 have ut:t'.uses=t.uses:=congrArg (fun d:D=>M.uses d.k) d2
 unfold M.over
 have one:onePl s' t'=onePl s t:=by unfold onePl;rw [us,ut,d1,d2]
 rw [one,d2]
 cases ho:onePl s t
 ·rfl
 ·cases hw:M.writes t.d.k
  ·rfl
  ·simp only [Bool.true_and]
   simp only [onePl,Bool.and_eq_true,beq_iff_eq] at ho
   have p2:=E.pr _ (mem_of_get hb) ho.2.1
   rw [R.row _ p2.1.1 p2.1.2 p2.2]
   have hwr:wrote y.1 (n+a) s'=up (fun i=>n+i) (wrote x.1 a s):=by
    unfold wrote
    rw [d1]
    split
    ·rename_i hr
     exact R.rd a s ha hr
    ·rw [up_nat]
   rw [hwr,← up_nat (fun i=>n+i),idx_map fun r _ e=>upS_inj e,idx_map fun r _ e=>upS_inj e]
theorem Part.vl (E:Part ds es n U) {x y:Wy} (R:RelU ds n U x y) (hx:WO ds x.1 x.2) (hy:WO es y.1 y.2) (hlo:∀ y∈es,y.lr < es.length) (hz:∀ x∈ds,x.reads=true∨x.d.k=3→x.d.v=0) (hz':∀ x∈es,x.reads=true∨x.d.k=3→x.d.v=0) {a:Nat} (ha:a < ds.length):M.vl es y.1 ((n+a:Nat):Int)=M.vl ds x.1 (a:Int):=by
 have hin:=hx.in_ E.lro
 obtain ⟨q,hq,e1,e2⟩:=vl_of hin hx.len hz hx.fin a ha
 obtain ⟨q',hq',e3,e4⟩:=vl_of (hy.in_ hlo) hy.len hz' hy.fin (n+a) (E.lt ha)
 have e5:=E.orig R hin ds.length a ha
 rw [e1] at e5
 have e6:=orig_mono _ (ds.length+es.length) _ _ (by omega) e5
 have e7:=orig_mono _ (ds.length+es.length) _ _ (by omega) e3
 rw [e6] at e7
 have e8:n+q=q':=Option.some.inj e7
 subst e8
 rw [e2,e4]
 obtain ⟨u,hu,hd,_⟩:=E.at_ q _ (List.getElem?_eq_getElem hq)
 rw [List.getElem?_eq_getElem hq'] at hu
 obtain rfl:=Option.some.inj hu
 rw [hd]
theorem Part.last (E:Part ds es n U) {x y:Wy} (R:RelU ds n U x y) (hx:WO ds x.1 x.2) (hy:WO es y.1 y.2) (hlo:∀ y∈es,y.lr < es.length) (hz:∀ x∈ds,x.reads=true∨x.d.k=3→x.d.v=0) (hz':∀ x∈es,x.reads=true∨x.d.k=3→x.d.v=0) {p:Int} (h0:0≤p) (h3:p < 3) (hU:U p=true):lastOf es y.1 (y.2.getD p.toNat [])=lastOf ds x.1 (x.2.getD p.toNat []):=by
 rw [R.row p h0 h3 hU]
 have hperm:=hx.row p h0 h3
 generalize x.2.getD p.toNat []=row at *
 cases hr:row with
 | nil=>rw [List.map_nil,last_nil,last_nil]
 | cons r rs =>
  have hl:row.getLastD (-1)∈row:=by
   rw [List.getLastD_eq_getLast?,List.getLast?_eq_some_getLast (by rw [hr];simp)]
   exact List.getLast_mem _
  rw [← hr]
  unfold lastOf
  have e:=lastD_map (h:=up fun i=>n+i) (d:=-1) row
  rw [up_neg (show (-1:Int) < 0 by omega)] at e
  rw [e]
  obtain ⟨i,hi,e2,_⟩:=mem_wrs.1 (hperm.mem_iff.1 hl)
  rw [e2,Nat.zero_add,up_nat]
  exact E.vl R hx hy hlo hz hz' hi
theorem Part.last_no (E:Part ds es n U) {x:Wy} (hx:WO ds x.1 x.2) {p:Int} (h0:0≤p) (h3:p < 3) (hU:U p=false):lastOf ds x.1 (x.2.getD p.toNat [])=0:=by
 have h:=hx.row p h0 h3
 rw [E.wrs_no hU] at h
 rw [List.Perm.eq_nil h,last_nil]
theorem Part.must (E:Part ds es n U) {x y:Wy} (R:RelU ds n U x y) (hx:WO ds x.1 x.2) (hy:WO es y.1 y.2) (k:Nat) {a b:Nat} {u v u' v':De} (ha:ds[a]?=some u) (hb:ds[b]?=some v) (ha':es[n+a]?=some u') (hb':es[n+b]?=some v'):M.must es y.1 y.2 k (n+a) (n+b) u' v'=M.must ds x.1 x.2 k a b u v:=by
 have la:=lt_of_get ha
 have lb:=lt_of_get hb
 obtain ⟨z,h2,d1,_,r1⟩:=E.at_ a u ha
 rw [ha'] at h2
 obtain rfl:=Option.some.inj h2
 obtain ⟨z,h2,d2,_,r2⟩:=E.at_ b v hb
 rw [hb'] at h2
 obtain rfl:=Option.some.inj h2
 have hth:=E.th a b u v u' v' ha hb ha' hb'
 have hr:=E.read R hx hy (a:=a) lb
 have ho:=E.over R ha hb ha' hb'
 have hown:own (n+a) (n+b) u' v'=own a b u v:=by
  rw [Bool.eq_iff_iff,own_iff,own_iff]
  constructor
  ·rintro ⟨h1,h2⟩;exact ⟨by omega,hth.1 h2⟩
  ·rintro ⟨h1,h2⟩;exact ⟨by omega,hth.2 h2⟩
 have hone:onePl u' v'=onePl u v:=by
  unfold onePl
  rw [show u'.uses=u.uses from congrArg (fun d:D=>M.uses d.k) d1,show v'.uses=v.uses from congrArg (fun d:D=>M.uses d.k) d2,d1,d2]
 have htwo:two u' v'=two u v:=by
  unfold two
  congr 1
  rw [Bool.eq_iff_iff,beq_iff_eq,beq_iff_eq]
  exact hth
 have hcp:copyOf (n+a) v'=copyOf a v:=by
  unfold copyOf
  rw [d2,r2]
  congr 1
  rw [Bool.eq_iff_iff,beq_iff_eq,beq_iff_eq]
  constructor
  ·intro e;rw [← up_nat (fun i=>n+i)] at e;exact upS_inj e
  ·intro e;rw [e,up_nat]
 have hl:loose es (n+a) (n+b) u' v'=loose ds a b u v:=by
  unfold loose
  rw [hown]
  cases hw:own a b u v
  ·rfl
  ·obtain ⟨hab,ht⟩:=own_iff.1 hw
   have la':=lt_of_get ha'
   have lb':=lt_of_get hb'
   have core:∀ (κ:Int) (p q:Nat),a≤p→q≤b→p≤q→((∀ m (hm:m < ds.length),p≤m→m≤q→ds[m].d.k≠κ)↔(∀ m (hm:m < es.length),n+p≤m→m≤n+q→es[m].d.k≠κ)):=by
    intro κ p q hap hqb hpq
    constructor
    ·intro hk m hm h1 h2
     obtain ⟨h3,h4⟩:=E.get (a:=m - n) (by omega)
     have:=hk (m - n) (by omega) (by omega) (by omega)
     rw [← h4] at this
     have e':n+(m - n)=m:=by omega
     simpa only [e'] using this
    ·intro hk m hm h1 h2
     obtain ⟨h3,h4⟩:=E.get hm
     rw [← h4]
     exact hk _ h3 (by omega) (by omega)
   have hin:goesIn es (n+a) (n+b) u'=goesIn ds a b u:=by
    unfold goesIn
    rw [d1]
    congr 1
    rw [decide_eq_decide,le_outOf (by omega) (by omega),le_outOf (by omega) (by omega)]
    have key:=core 8 a (b - 1) (Nat.le_refl _) (by omega) (by omega)
    constructor
    ·intro hk q hq h1 h2;exact key.2 (fun m hm h3 h4=>hk m hm (by omega) (by omega)) q hq h1 (by omega)
    ·intro hk q hq h1 h2;exact key.1 (fun m hm h3 h4=>hk m hm h3 (by omega)) q hq (by omega) (by omega)
   have hgo:goesOut es (n+a) (n+b) v'=goesOut ds a b v:=by
    unfold goesOut
    rw [d2]
    congr 1
    rw [decide_eq_decide,inOf_le lb,inOf_le lb']
    have key:=core 7 (a+1) b (by omega) (Nat.le_refl _) (by omega)
    constructor
    ·intro hk q hq h1 h2;exact key.2 (fun m hm h3 h4=>hk m hm (by omega) (by omega)) q hq (by omega) h2
    ·intro hk q hq h1 h2;exact key.1 (fun m hm h3 h4=>hk m hm (by omega) h4) q hq (by omega) (by omega)
   unfold keeps
   rw [hin,hgo,hcp,d1,d2]
 have hla:late (n+a) (n+b) u' v'=late a b u v:=by unfold late;rw [hown,d1,d2]
 unfold M.must
 rw [hr,ho,hown,hone,htwo,hl,hla]
theorem Part.out_at (E:Part ds es n U) (hr:run false ds=some false) {r:Nat} (hk:r < ds.length) (h7:ds[r].d.k=7):outOf es (n+r)=n+outOf ds r:=by
 obtain ⟨ho,h8⟩:=M.out_at hr hk h7
 have hle:r≤outOf ds r:=(le_outOf (by omega) (by omega)).2 fun q _ a b=>by omega
 obtain ⟨l1,_⟩:=E.get hk
 obtain ⟨l2,d2⟩:=E.get ho
 have hno:=(le_outOf (ds:=ds) (a:=r) (b:=outOf ds r) (by omega) (by omega)).1 (Nat.le_refl _)
 have h1:n+outOf ds r≤outOf es (n+r):=(le_outOf (by omega) (by omega)).2 fun q hq h3 h4=>by
  obtain ⟨h5,h6⟩:=E.get (a:=q - n) (by omega)
  have:=hno (q - n) (by omega) (by omega) (by omega)
  rw [← h6] at this
  have e':n+(q - n)=q:=by omega
  simpa only [e'] using this
 apply Nat.le_antisymm _ h1
 apply Classical.byContradiction
 intro hn
 have:=(le_outOf (ds:=es) (a:=n+r) (b:=n+outOf ds r+1) (by omega) (by omega)).1 (by omega) (n+outOf ds r) l2 (by omega) (by omega)
 exact this (by rw [d2];exact h8)
theorem Part.choices (E:Part ds es n U) (hr:run false ds=some false) {c:Ch} (hc:c∈choices ds):img (fun i=>n+i) c∈choices es:=by
 obtain ⟨w,r,x,y,hx,h9,hfl,hy,h7,rfl⟩:=mem_choices.1 hc
 obtain ⟨x',hx',hd,hl,_⟩:=E.at_ w x hx
 obtain ⟨y',hy',hd2,_⟩:=E.at_ r y hy
 obtain ⟨hrl,rfl⟩:=List.getElem?_eq_some_iff.1 hy
 refine mem_choices.2 ⟨n+w,n+r,x',y',hx',by rw [hd];exact h9,by rw [hl];exact hfl,hy',by rw [hd2];exact h7,?_⟩
 rw [E.out_at hr hrl h7]
 simp only [img,Nat.add_assoc]
end
end M
end Go.Proofs.YtihfibjckkmmbaaGreat
namespace Go.Proofs.YtihfibjckkmmbaaGreat
namespace M
theorem sf_deF {m m':Nat}:∀ (ll:List (List D)) (t t' q:Nat),SfL m m' (deF t (m+q) ll) (deF t' (m'+q) ll)
 | [],t,t',q=>⟨rfl,fun a x hx=>by simp [deF] at hx⟩
 | l::ll,t,t',q=>by
  have h1:=sf_deT (m:=m) (m':=m') t t' l 0 0 (-1) (-1) q (.inl ⟨rfl,rfl⟩)
  have h2:=sf_deF (m:=m) (m':=m') ll (t+1) (t'+1) (q+(deT t 0 (-1) (m+q) l).length)
  rw [deF,deF]
  refine h1.app ?_
  rw [h1.1]
  simpa only [Nat.add_assoc] using h2
theorem th_deF:∀ (ll:List (List D)) (t t' n n' a:Nat) (x y:De),(deF t n ll)[a]?=some x→(deF t' n' ll)[a]?=some y→y.t+t=x.t+t'
 | [],t,t',n,n',a,x,y,h,_=>by simp [deF] at h
 | l::ll,t,t',n,n',a,x,y,h,h'=>by
  have hl:(deT t' 0 (-1) n' l).length=(deT t 0 (-1) n l).length:=by
   have:=(sf_deT (m:=n) (m':=n') t t' l 0 0 (-1) (-1) 0 (.inl ⟨rfl,rfl⟩)).1
   simpa using this
  rw [deF] at h h'
  rcases Nat.lt_or_ge a (deT t 0 (-1) n l).length with h1 | h1
  ·rw [List.getElem?_append_left h1] at h
   rw [List.getElem?_append_left (by omega)] at h'
   rw [(mem_deT t _ _ _ _ x (mem_of_get h)).2,(mem_deT t' _ _ _ _ y (mem_of_get h')).2,Nat.add_comm]
  ·rw [List.getElem?_append_right h1] at h
   rw [List.getElem?_append_right (by omega),hl] at h'
   have:=th_deF ll (t+1) (t'+1) _ _ _ x y h h'
   omega
def uAt (ll:List (List D)) (p:Int):Bool:=(deeds ll).any fun x=>x.uses&&x.d.p==p
theorem uAt_of {ll:List (List D)} {x:De} (h:x∈deeds ll) (hu:x.uses=true):uAt ll x.d.p=true:=List.any_eq_true.2 ⟨x,h,by simp [hu]⟩
def Own (ll mm:List (List D)):Prop:=∀ p:Int,0≤p→p < 3→uAt ll p=true→uAt mm p=true→False
section
variable {ll mm : List (List D)}
theorem deeds_app (ll mm:List (List D)):deeds (ll++mm)=deeds ll++deF ll.length (deeds ll).length mm:=by
 show deF 0 0 (ll++mm)=_
 rw [deF_append,Nat.zero_add,Nat.zero_add];rfl
theorem part_len (ll mm:List (List D)):(deF ll.length (deeds ll).length mm).length=(deeds mm).length:=by
 have:=(sf_deF (m:=0) (m':=(deeds ll).length) mm 0 ll.length 0).1
 have h:(deF ll.length (deeds ll).length mm).length=(deF 0 0 mm).length:=by simpa using this
 exact h
theorem part_two (ll mm:List (List D)) {a:Nat} {x:De} (h:(deeds mm)[a]?=some x):∃ y,(deeds (ll++mm))[(deeds ll).length+a]?=some y∧y.d=x.d∧y.last=x.last∧y.lr=up (fun i=>(deeds ll).length+i) x.lr∧y.t=x.t+ll.length:=by
 have h':(deF 0 0 mm)[a]?=some x:=h
 obtain ⟨y,hy,hs⟩:=(sf_deF (m:=0) (m':=(deeds ll).length) mm 0 ll.length 0).2 a x (by simpa using h')
 have hy':(deF ll.length (deeds ll).length mm)[a]?=some y:=by simpa using hy
 have ht:=th_deF mm 0 ll.length 0 (deeds ll).length a x y h hy'
 refine ⟨y,?_,hs.d,hs.last,?_,by omega⟩
 ·rw [deeds_app,List.getElem?_append_right (by omega),Nat.add_sub_cancel_left];exact hy'
 ·rw [upS]
  rcases hs.lr with ⟨e1,e2⟩ | ⟨j,e1,e2⟩
  ·rw [e1,e2,if_pos (by omega)]
  ·rw [e1,e2,if_neg (by omega)];omega
theorem part_back (ll mm:List (List D)) {c:Nat} {y:De} (h:(deeds (ll++mm))[c]?=some y):(c < (deeds ll).length∧(deeds ll)[c]?=some y)∨((deeds ll).length≤c∧c < (deeds ll).length+(deeds mm).length∧∃ x,(deeds mm)[c - (deeds ll).length]?=some x∧y.d=x.d∧y.t=x.t+ll.length):=by
 have hc:=lt_of_get h
 have h0:=h
 rw [deeds_app] at h hc
 rw [List.length_append,part_len] at hc
 rcases Nat.lt_or_ge c (deeds ll).length with h1 | h1
 ·rw [List.getElem?_append_left h1] at h
  exact .inl ⟨h1,h⟩
 ·right
  refine ⟨h1,hc,?_⟩
  have hx:=List.getElem?_eq_getElem (l:=deeds mm) (i:=c - (deeds ll).length) (by omega)
  obtain ⟨z,hz,hd,_,_,ht⟩:=part_two ll mm hx
  rw [show (deeds ll).length+(c - (deeds ll).length)=c by omega,h0] at hz
  obtain rfl:=Option.some.inj hz
  exact ⟨_,hx,hd,ht⟩
theorem part1 (hp:prog ll=true) (ho:Own ll mm) (hq:prog mm=true):Part (deeds ll) (deeds (ll++mm)) 0 (uAt ll):=by
 have left:∀ {a:Nat} {x:De},(deeds ll)[a]?=some x→(deeds (ll++mm))[0+a]?=some x:=fun {a x} h=>by
  rw [deeds_app,Nat.zero_add,List.getElem?_append_left (lt_of_get h)];exact h
 refine ⟨fun a x hx=>⟨x,left hx,rfl,rfl,by rw [upS];split<;>omega⟩,fun c y hy hu hU=>?_,fun x hx hu=>⟨deed_u hp x hx hu,uAt_of hx hu⟩,fun a b x y x' y' hx hy hx' hy'=>?_,lro_deeds ll⟩
 ·rcases part_back ll mm hy with ⟨h,_⟩ | ⟨_,_,x,hx,hd,_⟩
  ·exact ⟨Nat.zero_le _,by omega⟩
  ·have hux:x.uses=true:=by rw [show x.uses=y.uses from congrArg (fun d:D=>M.uses d.k) hd.symm];exact hu
   have hm:=mem_of_get hx
   have hb:=deed_u hq x hm hux
   rw [hd] at hU
   exact (ho _ hb.1 hb.2 hU (uAt_of hm hux)).elim
 ·rw [left hx] at hx'
  rw [left hy] at hy'
  obtain rfl:=Option.some.inj hx'
  obtain rfl:=Option.some.inj hy'
  exact Iff.rfl
theorem part2 (hq:prog mm=true) (ho:Own ll mm):Part (deeds mm) (deeds (ll++mm)) (deeds ll).length (fun p=>!uAt ll p):=by
 refine ⟨fun a x hx=>?_,fun c y hy hu hU=>?_,fun x hx hu=>⟨deed_u hq x hx hu,?_⟩,fun a b x y x' y' hx hy hx' hy'=>?_,lro_deeds mm⟩
 ·obtain ⟨y,h1,h2,h3,h4,_⟩:=part_two ll mm hx
  exact ⟨y,h1,h2,h3,h4⟩
 ·rcases part_back ll mm hy with ⟨h,hy'⟩ | ⟨h1,h2,_⟩
  ·rw [uAt_of (mem_of_get hy') hu] at hU;cases hU
  ·exact ⟨h1,h2⟩
 ·have hb:=deed_u hq x hx hu
  cases hU:uAt ll x.d.p
  ·rfl
  ·exact (ho _ hb.1 hb.2 hU (uAt_of hx hu)).elim
 ·obtain ⟨u,h1,_,_,_,t1⟩:=part_two ll mm hx
  obtain ⟨v,h2,_,_,_,t2⟩:=part_two ll mm hy
  rw [hx'] at h1
  rw [hy'] at h2
  obtain rfl:=Option.some.inj h1
  obtain rfl:=Option.some.inj h2
  omega
theorem no_cross (hp:prog ll=true) (hq:prog mm=true) (ho:Own ll mm) {y:Wy} (hy:WO (deeds (ll++mm)) y.1 y.2) {k c c':Nat} (h:(c,c')∈linksOf (netOf (deeds (ll++mm)) y.1 y.2 k) (deeds (ll++mm)).length):(c < (deeds ll).length↔c' < (deeds ll).length):=by
 obtain ⟨u,v,hu,hv,hm⟩:=mem_net.1 h
 have P1:=part1 hp ho hq
 have same:u.uses=true→v.uses=true→u.d.p=v.d.p→(c < (deeds ll).length↔c' < (deeds ll).length):=fun h1 h2 e=>by
  constructor
  ·intro hc
   rcases part_back ll mm hu with ⟨_,hu'⟩ | ⟨h3,_⟩
   ·have:=P1.out c' v hv h2 (by rw [← e];exact uAt_of (mem_of_get hu') h1)
    omega
   ·omega
  ·intro hc
   rcases part_back ll mm hv with ⟨_,hv'⟩ | ⟨h3,_⟩
   ·have:=P1.out c u hu h1 (by rw [e];exact uAt_of (mem_of_get hv') h2)
    omega
   ·omega
 have hown:own c c' u v=true→(c < (deeds ll).length↔c' < (deeds ll).length):=fun h=>by
  obtain ⟨hlt,ht⟩:=own_iff.1 h
  rcases part_back ll mm hu with ⟨h1,hu'⟩ | ⟨h1,_,x,hx,_,tx⟩<;>rcases part_back ll mm hv with ⟨h2,hv'⟩ | ⟨h2,_,x',hx',_,tx'⟩
  ·exact ⟨fun _=>h2,fun _=>h1⟩
  ·have:=(mem_deF ll 0 0 u (mem_of_get hu')).2.1
   omega
  ·omega
  ·exact ⟨fun h=>by omega,fun h=>by omega⟩
 have hread:read y.1 c c'=true→(c < (deeds ll).length↔c' < (deeds ll).length):=fun h=>by
  have e:y.1.getD c' 0=(c:Int):=by simpa [read] using h
  have hf:=hy.fro c' v hv
  split at hf
  ·rename_i hr
   rcases hf with e' | ⟨b,z,e',hz,ht⟩
   ·omega
   ·have:b=c:=by omega
    subst this
    rw [hu] at hz
    obtain rfl:=Option.some.inj hz
    simp only [De.to,Bool.and_eq_true,beq_iff_eq] at ht
    exact same (by show (M.reads _||M.writes _)=true;rw [ht.1,Bool.or_true]) (by show (M.reads _||M.writes _)=true;rw [show M.reads v.d.k=true from hr,Bool.true_or]) ht.2
  ·omega
 have hover:over y.1 y.2 c c' u v=true→(c < (deeds ll).length↔c' < (deeds ll).length):=fun h=>by
  simp only [over,onePl,Bool.and_eq_true,beq_iff_eq] at h
  exact same h.1.1 h.1.2.1 h.1.2.2
 have hor:own c c' u v=true∨read y.1 c c'=true∨over y.1 y.2 c c' u v=true:=by
  unfold must at hm
  split at hm<;>simp only [Bool.or_eq_true,Bool.and_eq_true,late,loose] at hm
  ·rcases hm with h | h | h
   ·exact .inl h.1
   ·exact .inr (.inl h)
   ·exact .inr (.inr h)
  ·exact hm
  ·rcases hm with h | h | h
   ·exact .inl h.1
   ·exact .inr (.inl h.2)
   ·exact .inr (.inr h)
  ·rcases hm with h | h | h
   ·exact .inl h.1
   ·exact .inr (.inl h.2)
   ·exact .inr (.inr h.2)
 rcases hor with h | h | h
 ·exact hown h
 ·exact hread h
 ·exact hover h
theorem part_link {ds:List (List D)} {n:Nat} {U:Int→Bool} (E:Part (deeds ds) (deeds (ll++mm)) n U) {x y:Wy} (R:RelU (deeds ds) n U x y) (hx:WO (deeds ds) x.1 x.2) (hy:WO (deeds (ll++mm)) y.1 y.2) (k:Nat) {a b:Nat} (ha:a < (deeds ds).length) (hb:b < (deeds ds).length):(n+a,n+b)∈linksOf (netOf (deeds (ll++mm)) y.1 y.2 k) (deeds (ll++mm)).length↔(a,b)∈linksOf (netOf (deeds ds) x.1 x.2 k) (deeds ds).length:=by
 have la:=List.getElem?_eq_getElem ha
 have lb:=List.getElem?_eq_getElem hb
 obtain ⟨u,hu,_⟩:=E.at_ _ _ la
 obtain ⟨v,hv,_⟩:=E.at_ _ _ lb
 have:=E.must R hx hy k la lb hu hv
 rw [mem_net,mem_net]
 constructor
 ·rintro ⟨u',v',hu',hv',hm⟩
  rw [hu] at hu'
  rw [hv] at hv'
  obtain rfl:=Option.some.inj hu'
  obtain rfl:=Option.some.inj hv'
  exact ⟨_,_,la,lb,this▸hm⟩
 ·rintro ⟨u',v',hu',hv',hm⟩
  rw [la] at hu'
  rw [lb] at hv'
  obtain rfl:=Option.some.inj hu'
  obtain rfl:=Option.some.inj hv'
  exact ⟨u,v,hu,hv,this.symm▸hm⟩
theorem part_down {ds:List (List D)} {n:Nat} {U:Int→Bool} (E:Part (deeds ds) (deeds (ll++mm)) n U) (hd:prog ds=true) {k:Nat} {y:Wy} (hyh:orderHolds (ll++mm) y.1 y.2 k=true):∃ x:Wy,orderHolds ds x.1 x.2 k=true∧RelU (deeds ds) n U x y∧WO (deeds ds) x.1 x.2∧WO (deeds (ll++mm)) y.1 y.2:=by
 obtain ⟨hk,he,h0,hs⟩:=holds_iff.1 hyh
 have hy:=(exec_wo.1 he).2
 obtain ⟨x,R,hx⟩:∃ x:Wy,RelU (deeds ds) n U x y∧WO (deeds ds) x.1 x.2:=⟨(_,_),E.rel hy,E.ok hy⟩
 have L:∀ (k:Nat) (l:Lk),l∈linksOf (netOf (deeds ds) x.1 x.2 k) (deeds ds).length→Leads (linksOf (netOf (deeds (ll++mm)) y.1 y.2 k) (deeds (ll++mm)).length) (n+l.1) (n+l.2):=fun k l hl=>by
  obtain ⟨a,b⟩:=l
  obtain ⟨_,_,ha,hb,_⟩:=mem_net.1 hl
  exact .one ((part_link E R hx hy k (lt_of_get ha) (lt_of_get hb)).2 hl)
 exact ⟨x,holds_iff.2 ⟨hk,exec_wo.2 ⟨hd,hx⟩,fun hr=>h0 (round_map (f:=fun i=>n+i) (L 0) hr),sat_map (f:=fun i=>n+i) (L k) (fun c hc=>E.choices (run_of hd) hc) hs⟩,R,hx,hy⟩
def cmb (n:Nat) (U:Int→Bool) (x z:Wy):Wy:=(x.1++z.1.map (up fun i=>n+i),[(0:Int),1,2].map fun p=>if U p then x.2.getD p.toNat [] else (z.2.getD p.toNat []).map (up fun i=>n+i))
theorem cmb_row (n:Nat) (U:Int→Bool) (x z:Wy) {p:Int} (h0:0≤p) (h3:p < 3):(cmb n U x z).2.getD p.toNat []=if U p then x.2.getD p.toNat [] else (z.2.getD p.toNat []).map (up fun i=>n+i):=by
 rcases (show p=0∨p=1∨p=2 by omega) with rfl | rfl | rfl<;>rfl
theorem map_up0 (l:List Int):l.map (up fun i=>0+i)=l:=by
 have:l.map (up fun i=>0+i)=l.map id:=List.map_congr_left fun z _=>by rw [upS];split<;>simp
 rw [this,List.map_id]
theorem cmb_rel1 {x z:Wy} (hx:WO (deeds ll) x.1 x.2):RelU (deeds ll) 0 (uAt ll) x (cmb (deeds ll).length (uAt ll) x z):=by
 refine ⟨fun a u hu hr=>?_,fun p h0 h3 hU=>?_⟩
 ·have:=lt_of_get hu
  rw [Nat.zero_add,upS]
  show (x.1++_).getD a 0=_
  rw [List.getD_eq_getElem?_getD,List.getElem?_append_left (by rw [hx.len];exact this),← List.getD_eq_getElem?_getD]
  split<;>simp
 ·rw [cmb_row _ _ _ _ h0 h3,hU,if_pos rfl,map_up0]
theorem cmb_rel2 {x z:Wy} (hx:WO (deeds ll) x.1 x.2) (hz:WO (deeds mm) z.1 z.2):RelU (deeds mm) (deeds ll).length (fun p=>!uAt ll p) z (cmb (deeds ll).length (uAt ll) x z):=by
 refine ⟨fun a u hu hr=>?_,fun p h0 h3 hU=>?_⟩
 ·have:=lt_of_get hu
  show (x.1++_).getD _ 0=_
  rw [List.getD_eq_getElem?_getD,List.getElem?_append_right (by rw [hx.len];omega),hx.len,Nat.add_sub_cancel_left,List.getElem?_map,List.getElem?_eq_getElem (by rw [hz.len];exact this),List.getD_eq_getElem?_getD,List.getElem?_eq_getElem (by rw [hz.len];exact this)]
  rfl
 ·have:uAt ll p=false:=by simpa using hU
  rw [cmb_row _ _ _ _ h0 h3,this];rfl
theorem cmb_ok (hp:prog ll=true) (hq:prog mm=true) (ho:Own ll mm) {x z:Wy} (hx:WO (deeds ll) x.1 x.2) (hz:WO (deeds mm) z.1 z.2):WO (deeds (ll++mm)) (cmb (deeds ll).length (uAt ll) x z).1 (cmb (deeds ll).length (uAt ll) x z).2:=by
 have P1:=part1 hp ho hq
 have P2:=part2 hq ho
 have R1:=cmb_rel1 (z:=z) hx
 have R2:=cmb_rel2 hx hz
 have hlen:(cmb (deeds ll).length (uAt ll) x z).1.length=(deeds (ll++mm)).length:=by
  show (x.1++z.1.map _).length=_
  rw [deeds_app,List.length_append,List.length_append,List.length_map,part_len,hx.len,hz.len]
 have hfro:Fro (deeds (ll++mm)) (cmb (deeds ll).length (uAt ll) x z).1:=by
  intro c y hy
  rcases part_back ll mm hy with ⟨h1,hy'⟩ | ⟨h1,h2,u,hu,hd,_⟩
  ·have hf:=hx.fro c y hy'
   have e:(cmb (deeds ll).length (uAt ll) x z).1.getD c 0=x.1.getD c 0:=by
    show (x.1++_).getD c 0=_
    rw [List.getD_eq_getElem?_getD,List.getElem?_append_left (by rw [hx.len];exact h1),← List.getD_eq_getElem?_getD]
   rw [e]
   split at hf
   ·rename_i hr
    rw [if_pos hr]
    refine hf.imp id fun ⟨b,w,e',hw,ht⟩=>⟨b,w,e',?_,ht⟩
    rw [deeds_app,List.getElem?_append_left (lt_of_get hw)];exact hw
   ·rename_i hr
    rw [if_neg hr];exact hf
  ·have hf:=hz.fro (c - (deeds ll).length) u hu
   have hyr:y.reads=u.reads:=congrArg (fun d:D=>M.reads d.k) hd
   have e:(cmb (deeds ll).length (uAt ll) x z).1.getD c 0=up (fun i=>(deeds ll).length+i) (z.1.getD (c - (deeds ll).length) 0):=by
    show (x.1++_).getD c 0=_
    rw [List.getD_eq_getElem?_getD,List.getElem?_append_right (by rw [hx.len];omega),hx.len,List.getElem?_map,List.getElem?_eq_getElem (by rw [hz.len];omega),List.getD_eq_getElem?_getD,List.getElem?_eq_getElem (by rw [hz.len];omega)]
    rfl
   rw [e,hyr,hd]
   split at hf
   ·rename_i hr
    rw [if_pos hr]
    rcases hf with e' | ⟨b,w,e',hw,ht⟩
    ·left;rw [e',up_neg (by omega)]
    ·right
     obtain ⟨v,hv,hvd,_⟩:=part_two ll mm hw
     refine ⟨(deeds ll).length+b,v,by rw [e',up_nat],hv,?_⟩
     simp only [De.to] at ht ⊢
     rw [hvd];exact ht
   ·rename_i hr
    rw [if_neg hr,hf,up_neg (by omega)]
 have hrow:∀ p:Int,0≤p→p < 3→((cmb (deeds ll).length (uAt ll) x z).2.getD p.toNat []).Perm (M.wrs p 0 (deeds (ll++mm))):=fun p h0 h3=>by
  rw [cmb_row _ _ _ _ h0 h3]
  cases hU:uAt ll p
  ·exact ((hz.row p h0 h3).map _).trans (P2.wrs (by rw [hU];rfl))
  ·rw [if_pos rfl]
   have:=P1.wrs hU
   rw [map_up0] at this
   exact (hx.row p h0 h3).trans this
 have hin:=fro_in hfro (lro_deeds (ll++mm))
 refine ⟨hlen,hfro,rfl,hrow,?_⟩
 rw [ends_iff]
 intro c hc
 rcases part_back ll mm (List.getElem?_eq_getElem hc) with ⟨h1,_⟩ | ⟨h1,h2,_⟩
 ·refine orig_any hin hc (m:=(deeds ll).length) ?_
  have e:=P1.orig R1 (hx.in_ (lro_deeds ll)) (deeds ll).length c h1
  rw [Nat.zero_add] at e
  rw [e]
  have:=(ends_iff _ x.1).1 hx.fin c h1
  simpa using this
 ·refine orig_any hin hc (m:=(deeds mm).length) ?_
  have e:=P2.orig R2 (hz.in_ (lro_deeds mm)) (deeds mm).length (c - (deeds ll).length) (by omega)
  rw [show (deeds ll).length+(c - (deeds ll).length)=c by omega] at e
  rw [e]
  have:=(ends_iff _ z.1).1 hz.fin (c - (deeds ll).length) (by omega)
  simpa using this
theorem round_parts {L:List Lk} {n:Nat} {f1 f2:Nat→Nat} {L1 L2:List Lk} (h1:∀ l∈L,l.1 < n→l.2 < n→Leads L1 (f1 l.1) (f1 l.2)) (h2:∀ l∈L,n≤l.1→n≤l.2∧Leads L2 (f2 l.1) (f2 l.2)) (hr:Round L):Round L1∨Round L2:=by
 obtain ⟨a,ha⟩:=hr
 have up:∀ {a b:Nat},Leads L a b→n≤a→n≤b∧Leads L2 (f2 a) (f2 b):=by
  intro a b h
  induction h with
  | one h=>intro hn;exact h2 _ h hn
  | more _ h ih =>
   intro hn
   obtain ⟨k1,k2⟩:=ih hn
   obtain ⟨k3,k4⟩:=h2 _ h k1
   exact ⟨k3,k2.trans k4⟩
 have dn:∀ {a b:Nat},Leads L a b→b < n→a < n∧Leads L1 (f1 a) (f1 b):=by
  intro a b h
  induction h with
  | @one b h =>
   intro hn
   have:a < n:=by
    apply Classical.byContradiction
    intro hna
    have:=(h2 _ h (by omega)).1
    simp only at this;omega
   exact ⟨this,h1 _ h this hn⟩
  | @more b c _ h ih =>
   intro hn
   have hb:b < n:=by
    apply Classical.byContradiction
    intro hna
    have:=(h2 _ h (by omega)).1
    simp only at this;omega
   obtain ⟨k1,k2⟩:=ih hb
   exact ⟨k1,k2.trans (h1 _ h hb hn)⟩
 rcases Nat.lt_or_ge a n with h | h
 ·exact .inl ⟨_,(dn ha h).2⟩
 ·exact .inr ⟨_,(up ha h).2⟩
theorem cmb_holds (hp:prog ll=true) (hq:prog mm=true) (hb:prog (ll++mm)=true) (ho:Own ll mm) {k:Nat} {x z:Wy} (hxh:orderHolds ll x.1 x.2 k=true) (hzh:orderHolds mm z.1 z.2 k=true):orderHolds (ll++mm) (cmb (deeds ll).length (uAt ll) x z).1 (cmb (deeds ll).length (uAt ll) x z).2 k=true:=by
 obtain ⟨hk,he,h0,hs⟩:=holds_iff.1 hxh
 obtain ⟨_,he',h0',hs'⟩:=holds_iff.1 hzh
 have hx:=(exec_wo.1 he).2
 have hz:=(exec_wo.1 he').2
 have hy:=cmb_ok hp hq ho hx hz
 have P1:=part1 hp ho hq
 have P2:=part2 hq ho
 have R1:=cmb_rel1 (z:=z) hx
 have R2:=cmb_rel2 hx hz
 have hlen:(deeds (ll++mm)).length=(deeds ll).length+(deeds mm).length:=by rw [deeds_app,List.length_append,part_len]
 generalize cmb (deeds ll).length (uAt ll) x z=y at *
 have cross:=fun (k c c':Nat) (h:(c,c')∈linksOf (netOf (deeds (ll++mm)) y.1 y.2 k) (deeds (ll++mm)).length)=>no_cross hp hq ho hy h
 have inl:∀ (k c c':Nat),(c,c')∈linksOf (netOf (deeds (ll++mm)) y.1 y.2 k) (deeds (ll++mm)).length→c < (deeds ll).length→c' < (deeds ll).length→(c,c')∈linksOf (netOf (deeds ll) x.1 x.2 k) (deeds ll).length:=fun k c c' h h1 h2=>(part_link P1 R1 hx hy k h1 h2).1 (by rw [Nat.zero_add,Nat.zero_add];exact h)
 have inr:∀ (k c c':Nat),(c,c')∈linksOf (netOf (deeds (ll++mm)) y.1 y.2 k) (deeds (ll++mm)).length→(deeds ll).length≤c→(deeds ll).length≤c'∧(c - (deeds ll).length,c' - (deeds ll).length)∈linksOf (netOf (deeds mm) z.1 z.2 k) (deeds mm).length:=fun k c c' h h1=>by
  have h2:=cross k c c' h
  obtain ⟨_,_,hu,hv,_⟩:=mem_net.1 h
  have lu:=lt_of_get hu
  have lv:=lt_of_get hv
  refine ⟨by omega,(part_link P2 R2 hz hy k (a:=c - (deeds ll).length) (b:=c' - (deeds ll).length) (by omega) (by omega)).1 ?_⟩
  rw [show (deeds ll).length+(c - (deeds ll).length)=c by omega,show (deeds ll).length+(c' - (deeds ll).length)=c' by omega]
  exact h
 refine holds_iff.2 ⟨hk,exec_wo.2 ⟨hb,hy⟩,fun hr=>?_,?_⟩
 ·rcases round_parts (f1:=id) (f2:=fun c=>c - (deeds ll).length) (fun l hl a b=>.one (inl 0 l.1 l.2 hl a b)) (fun l hl a=>⟨(inr 0 l.1 l.2 hl a).1,.one (inr 0 l.1 l.2 hl a).2⟩) hr with h | h
  ·exact h0 h
  ·exact h0' h
 ·obtain ⟨S1,c1,r1⟩:=sat_iff.1 hs
  obtain ⟨S2,c2,r2⟩:=sat_iff.1 hs'
  refine sat_iff.2 ⟨S1.filter (fun l=>decide (l.1 < (deeds ll).length)&&decide (l.2 < (deeds ll).length))++(S2.map (fun l=>((deeds ll).length+l.1,(deeds ll).length+l.2))++(List.range (deeds ll).length).flatMap fun a=>(List.range (deeds mm).length).map fun b=>(a,(deeds ll).length+b)),fun c hc=>?_,fun hr=>?_⟩
  ·obtain ⟨w,r,u,v,hu,h9,hfl,hv,h7,rfl⟩:=mem_choices.1 hc
   have hrun:=run_of hb
   obtain ⟨hrl,ev⟩:=List.getElem?_eq_some_iff.1 hv
   have hxs:∀ a b:Nat,a < (deeds ll).length→(deeds ll).length≤b→b < (deeds (ll++mm)).length→(a,b)∈S1.filter (fun l=>decide (l.1 < (deeds ll).length)&&decide (l.2 < (deeds ll).length))++(S2.map (fun l=>((deeds ll).length+l.1,(deeds ll).length+l.2))++(List.range (deeds ll).length).flatMap fun a=>(List.range (deeds mm).length).map fun b=>(a,(deeds ll).length+b)):=fun a b ha hb' hb2=>by
    refine List.mem_append_right _ (List.mem_append_right _ (List.mem_flatMap.2 ⟨a,List.mem_range.2 ha,List.mem_map.2 ⟨b - (deeds ll).length,List.mem_range.2 (by omega),?_⟩⟩))
    rw [show (deeds ll).length+(b - (deeds ll).length)=b by omega]
   have lw:=lt_of_get hu
   rcases part_back ll mm hu with ⟨hw,hu'⟩ | ⟨hw,_,xu,hxu,hdu,_⟩<;>rcases part_back ll mm hv with ⟨hr',hv'⟩ | ⟨hr',_,xv,hxv,hdv,_⟩
   ·-- both in the first
    have hc1:((outOf (deeds ll) r,w+1),(w,r))∈choices (deeds ll):=mem_choices.2 ⟨w,r,u,v,hu',h9,hfl,hv',h7,rfl⟩
    have hi:=(choices_ok (run_of hp) _ hc1).1
    have eo:outOf (deeds (ll++mm)) r=outOf (deeds ll) r:=by
     obtain ⟨_,ev'⟩:=List.getElem?_eq_some_iff.1 hv'
     have:=P1.out_at (run_of hp) hr' (by rw [ev'];exact h7)
     rwa [Nat.zero_add,Nat.zero_add] at this
    rw [eo]
    refine (c1 _ hc1).imp (fun h=>?_) (fun h=>?_)
    ·exact List.mem_append_left _ (List.mem_filter.2 ⟨h,by simp;exact hi.1⟩)
    ·exact List.mem_append_left _ (List.mem_filter.2 ⟨h,by simp;exact ⟨hw,hr'⟩⟩)
   ·-- who waits in the first,the reader in the second
    exact .inr (hxs w r hw hr' hrl)
   ·-- who waits in the second,the reader in the first
    have eo:outOf (deeds (ll++mm)) r=outOf (deeds ll) r:=by
     obtain ⟨_,ev'⟩:=List.getElem?_eq_some_iff.1 hv'
     have:=P1.out_at (run_of hp) hr' (by rw [ev'];exact h7)
     rwa [Nat.zero_add,Nat.zero_add] at this
    obtain ⟨_,ev'⟩:=List.getElem?_eq_some_iff.1 hv'
    obtain ⟨hol,_⟩:=M.out_at (run_of hp) hr' (by rw [ev'];exact h7)
    have hi:=(choices_ok hrun _ hc).1
    left
    rw [eo]
    exact hxs _ _ hol (by omega) hi.1.2
   ·-- both in the second
    obtain ⟨zw,hzw,_,hlw,_⟩:=P2.at_ _ xu hxu
    rw [show (deeds ll).length+(w - (deeds ll).length)=w by omega,hu] at hzw
    obtain rfl:=Option.some.inj hzw
    have hc2:((outOf (deeds mm) (r - (deeds ll).length),w - (deeds ll).length+1),(w - (deeds ll).length,r - (deeds ll).length))∈choices (deeds mm):=mem_choices.2 ⟨_,_,xu,xv,hxu,by rw [← hdu];exact h9,by rw [← hlw];exact hfl,hxv,by rw [← hdv];exact h7,rfl⟩
    have eo:outOf (deeds (ll++mm)) r=(deeds ll).length+outOf (deeds mm) (r - (deeds ll).length):=by
     obtain ⟨hl2,ev'⟩:=List.getElem?_eq_some_iff.1 hxv
     have:=P2.out_at (run_of hq) hl2 (by rw [ev',← hdv];exact h7)
     rwa [show (deeds ll).length+(r - (deeds ll).length)=r by omega] at this
    rw [eo]
    refine (c2 _ hc2).imp (fun h=>?_) (fun h=>?_)
    ·refine List.mem_append_right _ (List.mem_append_left _ (List.mem_map.2 ⟨_,h,?_⟩))
     simp only [Prod.mk.injEq,true_and];omega
    ·refine List.mem_append_right _ (List.mem_append_left _ (List.mem_map.2 ⟨_,h,?_⟩))
     simp only [Prod.mk.injEq];omega
  ·have H1:∀ l∈(S1.filter (fun l=>decide (l.1 < (deeds ll).length)&&decide (l.2 < (deeds ll).length))++(S2.map (fun l=>((deeds ll).length+l.1,(deeds ll).length+l.2))++(List.range (deeds ll).length).flatMap fun a=>(List.range (deeds mm).length).map fun b=>(a,(deeds ll).length+b)))++linksOf (netOf (deeds (ll++mm)) y.1 y.2 k) (deeds (ll++mm)).length,l.1 < (deeds ll).length→l.2 < (deeds ll).length→Leads (S1++linksOf (netOf (deeds ll) x.1 x.2 k) (deeds ll).length) (id l.1) (id l.2):=fun l hl a b=>by
    rcases List.mem_append.1 hl with hl | hl
    ·rcases List.mem_append.1 hl with hl | hl
     ·exact .one (List.mem_append_left _ (List.mem_filter.1 hl).1)
     ·rcases List.mem_append.1 hl with hl | hl
      ·obtain ⟨l',_,rfl⟩:=List.mem_map.1 hl
       simp only at a;omega
      ·obtain ⟨a',_,hl⟩:=List.mem_flatMap.1 hl
       obtain ⟨b',_,rfl⟩:=List.mem_map.1 hl
       simp only at b;omega
    ·exact .one (List.mem_append_right _ (inl k l.1 l.2 hl a b))
   have H2:∀ l∈(S1.filter (fun l=>decide (l.1 < (deeds ll).length)&&decide (l.2 < (deeds ll).length))++(S2.map (fun l=>((deeds ll).length+l.1,(deeds ll).length+l.2))++(List.range (deeds ll).length).flatMap fun a=>(List.range (deeds mm).length).map fun b=>(a,(deeds ll).length+b)))++linksOf (netOf (deeds (ll++mm)) y.1 y.2 k) (deeds (ll++mm)).length,(deeds ll).length≤l.1→(deeds ll).length≤l.2∧Leads (S2++linksOf (netOf (deeds mm) z.1 z.2 k) (deeds mm).length) (l.1 - (deeds ll).length) (l.2 - (deeds ll).length):=fun l hl a=>by
    rcases List.mem_append.1 hl with hl | hl
    ·rcases List.mem_append.1 hl with hl | hl
     ·have:=(List.mem_filter.1 hl).2
      simp only [Bool.and_eq_true,decide_eq_true_eq] at this
      omega
     ·rcases List.mem_append.1 hl with hl | hl
      ·obtain ⟨l',hl',rfl⟩:=List.mem_map.1 hl
       refine ⟨by simp only;omega,.one (List.mem_append_left _ ?_)⟩
       simp only [Nat.add_sub_cancel_left]
       exact hl'
      ·obtain ⟨a',ha',hl⟩:=List.mem_flatMap.1 hl
       obtain ⟨b',_,rfl⟩:=List.mem_map.1 hl
       have:=List.mem_range.1 ha'
       simp only at a;omega
    ·exact ⟨(inr k l.1 l.2 hl a).1,.one (List.mem_append_right _ (inr k l.1 l.2 hl a).2)⟩
   rcases round_parts (f1:=id) (f2:=fun c=>c - (deeds ll).length) H1 H2 hr with h | h
   ·exact r1 h
   ·exact r2 h
end
end M
end Go.Proofs.YtihfibjckkmmbaaGreat
namespace Go.Proofs.YtihfibjckkmmbaaGreat
namespace M
def both (a b:Key):Key:=(a.1++b.1,[a.2.getD 0 0+b.2.getD 0 0,a.2.getD 1 0+b.2.getD 1 0,a.2.getD 2 0+b.2.getD 2 0])
section
variable {ll mm : List (List D)}
theorem seenL_get {ds:List De} {l:List Int} {rows:List (List Int)} (h3:rows.length=3):seenL ds l rows=[lastOf ds l (rows.getD 0 []),lastOf ds l (rows.getD 1 []),lastOf ds l (rows.getD 2 [])]:=by
 match rows,h3 with
 | [a,b,c],_=>rfl
theorem both_seen (hp:prog ll=true) (hq:prog mm=true) (hb:prog (ll++mm)=true) (ho:Own ll mm) {x z y:Wy} (R1:RelU (deeds ll) 0 (uAt ll) x y) (R2:RelU (deeds mm) (deeds ll).length (fun p=>!uAt ll p) z y) (hx:WO (deeds ll) x.1 x.2) (hz:WO (deeds mm) z.1 z.2) (hy:WO (deeds (ll++mm)) y.1 y.2):seenOf (ll++mm) y=both (seenOf ll x) (seenOf mm z):=by
 have P1:=part1 hp ho hq
 have P2:=part2 hq ho
 have d1:=deed_zero hp
 have d2:=deed_zero hq
 have d3:=deed_zero hb
 have v1:∀ a,a < (deeds ll).length→vl (deeds (ll++mm)) y.1 ((0+a:Nat):Int)=vl (deeds ll) x.1 (a:Int):=fun a ha=>P1.vl R1 hx hy (lro_deeds _) d1 d3 ha
 have v2:∀ a,a < (deeds mm).length→vl (deeds (ll++mm)) y.1 (((deeds ll).length+a:Nat):Int)=vl (deeds mm) z.1 (a:Int):=fun a ha=>P2.vl R2 hz hy (lro_deeds _) d2 d3 ha
 have lst:∀ p:Int,0≤p→p < 3→lastOf (deeds (ll++mm)) y.1 (y.2.getD p.toNat [])=lastOf (deeds ll) x.1 (x.2.getD p.toNat [])+lastOf (deeds mm) z.1 (z.2.getD p.toNat []):=fun p h0 h3=>by
  cases hU:uAt ll p
  ·rw [P2.last R2 hz hy (lro_deeds _) d2 d3 h0 h3 (by rw [hU];rfl),P1.last_no hx h0 h3 hU,Int.zero_add]
  ·rw [P1.last R1 hx hy (lro_deeds _) d1 d3 h0 h3 hU,P2.last_no hz h0 h3 (by rw [hU];rfl),Int.add_zero]
 have l0:=lst 0 (by omega) (by omega)
 have l1:=lst 1 (by omega) (by omega)
 have l2:=lst 2 (by omega) (by omega)
 show (seenR _ _,seenL _ _ _)=_
 refine Prod.ext ?_ ?_
 ·show rdAt (deeds (ll++mm)) y.1 0 (deeds (ll++mm))=rdAt (deeds ll) x.1 0 (deeds ll)++rdAt (deeds mm) z.1 0 (deeds mm)
  conv=>lhs;arg 4;rw [deeds_app]
  rw [rdAt_app,Nat.zero_add]
  congr 1
  ·exact rdAt_pt _ _ _ _ rfl (fun i h h'=>rfl) (fun i hi=>by have h:=v1 i hi;rw [Nat.zero_add] at h ⊢;exact h)
  ·refine rdAt_pt _ _ _ _ (part_len ll mm) (fun i h h'=>?_) (fun i hi=>by rw [Nat.zero_add];exact v2 i hi)
   obtain ⟨u,hu,hd,_⟩:=part_two ll mm (List.getElem?_eq_getElem h)
   rw [deeds_app,List.getElem?_append_right (by omega),Nat.add_sub_cancel_left,List.getElem?_eq_getElem h'] at hu
   obtain rfl:=Option.some.inj hu
   exact congrArg (fun d:D=>M.reads d.k) hd
 ·show seenL _ _ _=[(seenL _ _ _).getD 0 0+(seenL _ _ _).getD 0 0,(seenL _ _ _).getD 1 0+(seenL _ _ _).getD 1 0,(seenL _ _ _).getD 2 0+(seenL _ _ _).getD 2 0]
  rw [seenL_get hy.three,seenL_get hx.three,seenL_get hz.three]
  simp only [Int.toNat_zero,Int.toNat_one] at l0 l1 l2
  have l2':lastOf (deeds (ll++mm)) y.1 (y.2.getD 2 [])=lastOf (deeds ll) x.1 (x.2.getD 2 [])+lastOf (deeds mm) z.1 (z.2.getD 2 []):=l2
  rw [l0,l1,l2']
  rfl
theorem beside_dn (hp:prog ll=true) (hq:prog mm=true) (hb:prog (ll++mm)=true) (ho:Own ll mm) {k:Int} {s:Key} (hs:s∈orderAll (ll++mm) k):∃ a∈orderAll ll k,∃ b∈orderAll mm k,s=both a b∧a.2.length=3∧b.2.length=3∧(∀ p:Int,0≤p→p < 3→uAt ll p=false→a.2.getD p.toNat 0=0)∧(∀ p:Int,0≤p→p < 3→uAt ll p=true→b.2.getD p.toNat 0=0):=by
 obtain ⟨y,hyh,rfl⟩:=mem_orderAll.1 hs
 obtain ⟨kn,rfl⟩:∃ kn:Nat,k=kn:=⟨k.toNat,by have:=(holds_parts_of hyh).1;simp only [Bool.and_eq_true,decide_eq_true_eq] at this;omega⟩
 have P1:=part1 hp ho hq
 have P2:=part2 hq ho
 obtain ⟨x,hxh,R1,hx,hy⟩:=part_down P1 hp hyh
 obtain ⟨z,hzh,R2,hz,_⟩:=part_down P2 hq hyh
 refine ⟨_,mem_orderAll.2 ⟨x,hxh,rfl⟩,_,mem_orderAll.2 ⟨z,hzh,rfl⟩,both_seen hp hq hb ho R1 R2 hx hz hy,?_,?_,fun p h0 h3 hU=>?_,fun p h0 h3 hU=>?_⟩
 ·simp [seenOf,seenL,hx.three]
 ·simp [seenOf,seenL,hz.three]
 ·show (seenL _ _ _).getD _ 0=0
  rw [seenL_at hx.three h0 h3];exact P1.last_no hx h0 h3 hU
 ·show (seenL _ _ _).getD _ 0=0
  rw [seenL_at hz.three h0 h3];exact P2.last_no hz h0 h3 (by rw [hU];rfl)
theorem beside_up (hp:prog ll=true) (hq:prog mm=true) (hb:prog (ll++mm)=true) (ho:Own ll mm) {k:Int} {a b:Key} (ha:a∈orderAll ll k) (hb':b∈orderAll mm k):both a b∈orderAll (ll++mm) k:=by
 obtain ⟨x,hxh,rfl⟩:=mem_orderAll.1 ha
 obtain ⟨z,hzh,rfl⟩:=mem_orderAll.1 hb'
 obtain ⟨kn,rfl⟩:∃ kn:Nat,k=kn:=⟨k.toNat,by have:=(holds_parts_of hxh).1;simp only [Bool.and_eq_true,decide_eq_true_eq] at this;omega⟩
 have hx:=(exec_wo.1 (holds_parts_of hxh).2).2
 have hz:=(exec_wo.1 (holds_parts_of hzh).2).2
 have hh:=cmb_holds hp hq hb ho hxh hzh
 exact mem_orderAll.2 ⟨_,hh,both_seen hp hq hb ho (cmb_rel1 hx) (cmb_rel2 hx hz) hx hz (exec_wo.1 (holds_parts_of hh).2).2⟩
theorem all_beside (hp:prog ll=true) (hq:prog mm=true) (hb:prog (ll++mm)=true) (ho:Own ll mm) (k:Int):sortK ((orderAll ll k).flatMap fun a=>(orderAll mm k).map (both a))=orderAll (ll++mm) k:=by
 refine (sortK_unique (asc_orderAll _ k) fun s=>?_).symm
 rw [List.mem_flatMap]
 constructor
 ·intro hs
  obtain ⟨a,ha,b,hb',rfl,_⟩:=beside_dn hp hq hb ho hs
  exact ⟨a,ha,List.mem_map.2 ⟨b,hb',rfl⟩⟩
 ·rintro ⟨a,ha,hs⟩
  obtain ⟨b,hb',rfl⟩:=List.mem_map.1 hs
  exact beside_up hp hq hb ho ha hb'
def cutB (ll:List (List D)) (s:Key):Key:=(s.1.take (tot reads ll),[if uAt ll 0 then s.2.getD 0 0 else 0,if uAt ll 1 then s.2.getD 1 0 else 0,if uAt ll 2 then s.2.getD 2 0 else 0])
theorem all_in (hp:prog ll=true) (hq:prog mm=true) (hb:prog (ll++mm)=true) (ho:Own ll mm) {k:Int} {s:Key} (hs:s∈orderAll (ll++mm) k):cutB ll s∈orderAll ll k∧s.2.length=3∧tot reads ll≤s.1.length:=by
 obtain ⟨a,ha,b,_,rfl,h3,_,n1,n2⟩:=beside_dn hp hq hb ho hs
 have hl:=orderAll_reads ha
 refine ⟨?_,rfl,by simp [both,hl]⟩
 have e:cutB ll (both a b)=a:=by
  have c:∀ p:Int,0≤p→p < 3→(if uAt ll p then a.2.getD p.toNat 0+b.2.getD p.toNat 0 else 0)=a.2.getD p.toNat 0:=fun p h0 h3=>by
   cases hU:uAt ll p
   ·rw [n1 p h0 h3 hU];rfl
   ·rw [if_pos rfl,n2 p h0 h3 hU,Int.add_zero]
  have c0:=c 0 (by omega) (by omega)
  have c1:=c 1 (by omega) (by omega)
  have c2:=c 2 (by omega) (by omega)
  refine Prod.ext ?_ ?_
  ·show (a.1++b.1).take (tot reads ll)=a.1
   rw [← hl,List.take_left'];rfl
  ·obtain ⟨a1,a2⟩:=a
   simp only at h3
   match a2,h3 with
   | [x,y,z],_ =>
    simp only [Int.toNat_zero,Int.toNat_one] at c0 c1
    have c2':(if uAt ll 2 then ([x,y,z]:List Int).getD 2 0+b.2.getD 2 0 else 0)=([x,y,z]:List Int).getD 2 0:=c2
    show [_,_,_]=[x,y,z]
    simp only [both,List.getD_cons_zero,List.getD_cons_succ]
    simp only [List.getD_cons_zero,List.getD_cons_succ] at c0 c1 c2'
    rw [c0,c1,c2']
 rw [e];exact ha
end
theorem ev_deT {d:D} (t:Nat):∀ (l:List D) (i:Nat) (lr:Int) (n:Nat),d∈l→∃ x∈deT t i lr n l,x.d=d
 | [],i,lr,n,h=>by cases h
 | e::l,i,lr,n,h=>by
  rw [deT]
  rcases List.mem_cons.1 h with rfl | h
  ·refine ⟨⟨t,i,false,d,lrOf lr n d⟩,List.mem_append_left _ ?_,rfl⟩
   unfold deD
   split<;>simp
  ·obtain ⟨x,hx,e'⟩:=ev_deT t l (i+1) (lrOf lr n e) (n+(deD t i lr n e).length) h
   exact ⟨x,List.mem_append_right _ hx,e'⟩
theorem ev_deF {d:D}:∀ (ll:List (List D)) (t n:Nat) (l:List D),l∈ll→d∈l→∃ x∈deF t n ll,x.d=d
 | [],t,n,l,h,_=>by cases h
 | e::ll,t,n,l,h,hd=>by
  rw [deF]
  rcases List.mem_cons.1 h with rfl | h
  ·obtain ⟨x,hx,e'⟩:=ev_deT t l 0 (-1) n hd
   exact ⟨x,List.mem_append_left _ hx,e'⟩
  ·obtain ⟨x,hx,e'⟩:=ev_deF ll (t+1) (n+(deT t 0 (-1) n e).length) l h hd
   exact ⟨x,List.mem_append_right _ hx,e'⟩
end M
end Go.Proofs.YtihfibjckkmmbaaGreat
