/- Walls folded: what an order allows is the same. Plainly. No condition but what is said. -/
import Derived.Below
import Derived.BigQuiet
import Derived.Deep.AppendLies
import Derived.Deep.CutRange
import Derived.Deep.MidRow
import Derived.Deep.Quiet
import Derived.Deep.QuietTactic
import Derived.Deep.RegionHeld3
import Derived.Deep.RegionLaw
import Derived.Deep.RegionWith
import Derived.Deep.Slices
import Derived.Deep.WholeRow
import Derived.Handy
import Derived.Laws.AppendOwn
import Derived.Laws.AppendOwnNone
import Derived.Laws.EntriesVeiled
import Derived.Laws.IdiomCopy
import Derived.Laws.OwnMore
import Derived.LoopIn
import Derived.LoopN
import Derived.LoopNIn
import Derived.Maps.OwnIn
import Derived.OwnWalkIn
import Derived.RangeFuncBound
import Derived.RangeFuncLeaves
import Derived.RangeFuncNested
import Derived.Shelf.Abstract
import Derived.Shelf.SlSortCmp.NoneTotal
import Derived.Sort.Grow
import Derived.TacticsInMore
import Derived.WalkKit
import Derived.WalkLawsBesides
import Derived.WalkSpells
import Derived.Deep.OwnRows
import Derived.Test.YtjjkicffhpcngaaGreatRows
import Derived.Test.YtjjkicffhpcngaaGreatBYaz
import Derived.Test.YtjjkicffhpcngaaGreatBYbw
import Derived.Test.YtjjkicffhpcngaaGreatBYby
import Derived.Test.YtjjkicffhpcngaaGreatBYca
namespace Go.Proofs.YtjjkicffhpcngaaGreat
namespace M
section
variable {s : Prop} {ds es : List De} {pos back : List Nat}
theorem WfE.get (h:WfE s ds es pos back) {a:Nat} {x:De} (hx:ds[a]?=some x):pos[a]?=some (at0 pos a)∧∃ y,es[at0 pos a]?=some y∧(y.d=x.d∨(s∧Wl x y))∧y.t=x.t∧y.last=x.last∧y.lr=up (at0 pos) x.lr:=by
 obtain ⟨n,y,h1,h2,h3⟩:=h.at_ a x hx
 rw [at0_of h1]
 exact ⟨h1,y,h2,h3⟩
theorem WfE.pget (h:WfE s ds es pos back) {a:Nat} (ha:a < ds.length):pos[a]?=some (at0 pos a):=(h.get (List.getElem?_eq_getElem ha)).1
theorem WfE.mono (h:WfE s ds es pos back) {a b:Nat} (hab:a < b) (hb:b < ds.length):at0 pos a < at0 pos b:=by
 have h1:=h.pget (show a < ds.length by omega)
 have h2:=h.pget hb
 obtain ⟨p1,e1⟩:=List.getElem?_eq_some_iff.1 h1
 obtain ⟨p2,e2⟩:=List.getElem?_eq_some_iff.1 h2
 rw [← e1,← e2]
 exact List.pairwise_iff_getElem.1 h.asc a b p1 p2 hab
theorem WfE.lt_iff (h:WfE s ds es pos back) {a b:Nat} (ha:a < ds.length) (hb:b < ds.length):at0 pos a < at0 pos b↔a < b:=by
 constructor
 ·intro hlt
  apply Classical.byContradiction
  intro hn
  rcases Nat.lt_or_ge b a with h1 | h1
  ·have:=h.mono h1 ha;omega
  ·have:a=b:=by omega
   subst this;omega
 ·intro hlt;exact h.mono hlt hb
theorem WfE.inj (h:WfE s ds es pos back) {a b:Nat} (ha:a < ds.length) (hb:b < ds.length) (e:at0 pos a=at0 pos b):a=b:=by
 have h1:=h.lt_iff ha hb
 have h2:=h.lt_iff hb ha
 omega
theorem WfE.le_iff (h:WfE s ds es pos back) {a b:Nat} (ha:a < ds.length) (hb:b < ds.length):at0 pos a≤at0 pos b↔a≤b:=by
 have h2:=h.lt_iff hb ha
 omega
theorem WfE.inside (h:WfE s ds es pos back) {c:Nat} (hc:c∈pos):∃ a,a < ds.length∧at0 pos a=c:=by
 obtain ⟨a,ha,rfl⟩:=List.getElem_of_mem hc
 exact ⟨a,by rw [← h.len];exact ha,at0_of (List.getElem?_eq_getElem ha)⟩
theorem iswall_cases {k:Int} (h:isWall k=true):k=4∨k=9:=by
 simpa [isWall] using h
theorem Wl.kind {x y:De} (h:Wl x y) {κ:Int} (h4:κ≠4) (h9:κ≠9):(y.d.k==κ)=(x.d.k==κ):=by
 rw [h.k]
 rcases iswall_cases h.w with e | e<;>rw [e]
 ·have e1:((4:Int)==κ)=false:=by simp;omega
  have e2:((9:Int)==κ)=false:=by simp;omega
  rw [e1,e2]
theorem same_kind {x y:De} (h:y.d=x.d∨(s∧Wl x y)) {κ:Int} (h4:κ≠4) (h9:κ≠9):(y.d.k==κ)=(x.d.k==κ):=by
 rcases h with h | ⟨_,h⟩
 ·rw [h]
 ·exact h.kind h4 h9
theorem same_rd {x y:De} (h:y.d=x.d∨(s∧Wl x y)):M.reads y.d.k=M.reads x.d.k:=by
 unfold M.reads;rw [same_kind h (by omega) (by omega),same_kind h (by omega) (by omega)]
theorem same_wr {x y:De} (h:y.d=x.d∨(s∧Wl x y)):M.writes y.d.k=M.writes x.d.k:=by
 unfold M.writes M.stores;rw [same_kind h (by omega) (by omega),same_kind h (by omega) (by omega),same_kind h (by omega) (by omega)]
theorem same_us {x y:De} (h:y.d=x.d∨(s∧Wl x y)):y.uses=x.uses:=by
 show (M.reads _||M.writes _)=(M.reads _||M.writes _);rw [same_rd h,same_wr h]
theorem same_p {x y:De} (h:y.d=x.d∨(s∧Wl x y)):y.d.p=x.d.p:=by
 rcases h with h | ⟨_,h⟩
 ·rw [h]
 ·exact h.p
theorem same_v {x y:De} (h:y.d=x.d∨(s∧Wl x y)):y.d.v=x.d.v:=by
 rcases h with h | ⟨_,h⟩
 ·rw [h]
 ·exact h.v
theorem same_w {x y:De} (h:y.d=x.d∨(s∧Wl x y)):isWall y.d.k=isWall x.d.k:=by
 rcases h with h | ⟨_,h⟩
 ·rw [h]
 ·rw [h.w,h.k];rfl
theorem out_wall {y:De} (h:y.d.k=4∨(s∧y.d.k=9)):isWall y.d.k=true∧y.uses=false:=by
 rcases h with h | ⟨_,h⟩
 ·exact ⟨by rw [h];rfl,by show M.uses y.d.k=false;rw [h];rfl⟩
 ·exact ⟨by rw [h];rfl,by show M.uses y.d.k=false;rw [h];rfl⟩
theorem WfE.emb (h:WfE s ds es pos back) (hpr:∀ x∈ds,x.uses=true→0≤x.d.p∧x.d.p < 3):Emb ds es (at0 pos) id id:=by
 refine ⟨fun a x hx=>?_,fun a b ha hb e=>h.inj ha hb e,fun c y hy hu=>?_,hpr,fun p h0 h3=>⟨h0,h3⟩,fun p q _ _ _ _ e=>e,rfl,h.lro⟩
 ·obtain ⟨_,y,h2,h3,_,_,h6⟩:=h.get hx
  exact ⟨y,h2,same_rd h3,same_wr h3,same_kind h3 (by omega) (by omega),fun _=>same_p h3,same_v h3,fun _=>h6⟩
 ·by_cases hc:c∈pos
  ·exact h.inside hc
  ·rw [(out_wall (h.out c y hy hc).1).2] at hu;cases hu
theorem WfE.core (h:WfE s ds es pos back) {c:Nat} {y:De} (hy:es[c]?=some y) (hk:isWall y.d.k=false):∃ a,a < ds.length∧at0 pos a=c:=by
 by_cases hc:c∈pos
 ·exact h.inside hc
 ·rw [(out_wall (h.out c y hy hc).1).1] at hk;cases hk
theorem WfE.kinds (h:WfE s ds es pos back) {κ:Int} (h4:κ≠4) (h9:κ≠9) {L:Nat→Prop} {L':Nat→Prop} (hL:∀ a,a < ds.length→(L a↔L' (at0 pos a))):(∀ q (hq:q < ds.length),L q→ds[q].d.k≠κ)↔(∀ q (hq:q < es.length),L' q→es[q].d.k≠κ):=by
 constructor
 ·intro hk q hq hl e
  obtain ⟨a,ha,rfl⟩:=h.core (List.getElem?_eq_getElem hq) (by rw [e];simp [isWall,h4,h9])
  obtain ⟨_,y,h2,h3,_⟩:=h.get (List.getElem?_eq_getElem ha)
  rw [List.getElem?_eq_getElem hq] at h2
  obtain rfl:=Option.some.inj h2
  have:=same_kind h3 h4 h9
  rw [e] at this
  exact hk a ha ((hL a ha).2 hl) (by simpa using this.symm)
 ·intro hk q hq hl e
  obtain ⟨_,y,h2,h3,_⟩:=h.get (List.getElem?_eq_getElem hq)
  obtain ⟨hc,rfl⟩:=List.getElem?_eq_some_iff.1 h2
  have:=same_kind h3 h4 h9
  rw [e] at this
  exact hk _ hc ((hL q hq).1 hl) (by simpa using this)
theorem WfE.lt2 (h:WfE s ds es pos back) {a:Nat} (ha:a < ds.length):at0 pos a < es.length:=h.lt _ (mem_of_get (h.pget ha))
theorem WfE.outs (h:WfE s ds es pos back) {a b:Nat} (ha:a < ds.length) (hb:b < ds.length):b≤outOf ds a↔at0 pos b≤outOf es (at0 pos a):=by
 have h1:=h.lt2 ha
 have h2:=h.lt2 hb
 rw [le_outOf (by omega) (by omega),le_outOf (by omega) (by omega)]
 have:=h.kinds (κ:=8) (by omega) (by omega) (L:=fun q=>a≤q∧q < b) (L':=fun q=>at0 pos a≤q∧q < at0 pos b) fun q hq=>by rw [h.le_iff ha hq,h.lt_iff hq hb]
 constructor
 ·intro hk q hq x y;exact this.1 (fun q hq l=>hk q hq l.1 l.2) q hq ⟨x,y⟩
 ·intro hk q hq x y;exact this.2 (fun q hq l=>hk q hq l.1 l.2) q hq ⟨x,y⟩
theorem WfE.ins (h:WfE s ds es pos back) {a b:Nat} (ha:a < ds.length) (hb:b < ds.length):inOf ds b≤a↔inOf es (at0 pos b)≤at0 pos a:=by
 have h1:=h.lt2 ha
 have h2:=h.lt2 hb
 rw [inOf_le hb,inOf_le h2]
 have:=h.kinds (κ:=7) (by omega) (by omega) (L:=fun q=>a < q∧q≤b) (L':=fun q=>at0 pos a < q∧q≤at0 pos b) fun q hq=>by rw [h.lt_iff ha hq,h.le_iff hq hb]
 constructor
 ·intro hk q hq x y;exact this.1 (fun q hq l=>hk q hq l.1 l.2) q hq ⟨x,y⟩
 ·intro hk q hq x y;exact this.2 (fun q hq l=>hk q hq l.1 l.2) q hq ⟨x,y⟩
theorem WfE.must (h:WfE s ds es pos back) (hpr:∀ x∈ds,x.uses=true→0≤x.d.p∧x.d.p < 3) {x y:Wy} (R:Rel ds (at0 pos) id x y) (hx:WO ds x.1 x.2) (hy:WO es y.1 y.2) (k:Nat) {a b:Nat} {u v u' v':De} (ha:ds[a]?=some u) (hb:ds[b]?=some v) (ha':es[at0 pos a]?=some u') (hb':es[at0 pos b]?=some v'):M.must es y.1 y.2 k (at0 pos a) (at0 pos b) u' v'=M.must ds x.1 x.2 k a b u v:=by
 have la:=lt_of_get ha
 have lb:=lt_of_get hb
 have E:=h.emb hpr
 obtain ⟨_,z,h2,d1,t1,_,r1⟩:=h.get ha
 rw [ha'] at h2
 obtain rfl:=Option.some.inj h2
 obtain ⟨_,z,h2,d2,t2,_,r2⟩:=h.get hb
 rw [hb'] at h2
 obtain rfl:=Option.some.inj h2
 have hr:=E.read R hx hy la lb
 have ho:=E.over R hx ha hb ha' hb'
 have hown:own (at0 pos a) (at0 pos b) u' v'=own a b u v:=by
  unfold own
  rw [t1,t2]
  congr 1
  rw [decide_eq_decide]
  exact h.lt_iff la lb
 have hone:onePl u' v'=onePl u v:=by
  unfold onePl
  rw [same_us d1,same_us d2,same_p d1,same_p d2]
 have htwo:two u' v'=two u v:=by unfold two;rw [t1,t2]
 have hin:goesIn es (at0 pos a) (at0 pos b) u'=goesIn ds a b u:=by
  unfold goesIn
  rw [same_kind d1 (by omega) (by omega)]
  congr 1
  rw [decide_eq_decide]
  exact (h.outs la lb).symm
 have hgo:goesOut es (at0 pos a) (at0 pos b) v'=goesOut ds a b v:=by
  unfold goesOut
  rw [same_kind d2 (by omega) (by omega)]
  congr 1
  rw [decide_eq_decide]
  exact (h.ins la lb).symm
 have hcp:copyOf (at0 pos a) v'=copyOf a v:=by
  unfold copyOf
  rw [same_kind d2 (by omega) (by omega),r2]
  congr 1
  rw [Bool.eq_iff_iff,beq_iff_eq,beq_iff_eq]
  have hl:=h.lro v (mem_of_get hb)
  constructor
  ·intro e
   rw [← up_nat] at e
   exact E.up_inj hl (by omega) e
  ·intro e;rw [e,up_nat]
 have hl:loose es (at0 pos a) (at0 pos b) u' v'=loose ds a b u v:=by
  unfold loose keeps
  rw [hown,hin,hgo,hcp,same_w d1,same_w d2,same_kind d1 (by omega) (by omega),same_kind d2 (by omega) (by omega)]
 have hla:late (at0 pos a) (at0 pos b) u' v'=late a b u v:=by unfold late;rw [hown,same_wr d1,same_rd d2]
 unfold M.must
 rw [hr,ho,hown,hone,htwo,hl,hla]
theorem WfE.out_at (h:WfE s ds es pos back) (hr:run false ds=some false) {r:Nat} (hk:r < ds.length) (h7:ds[r].d.k=7):outOf es (at0 pos r)=at0 pos (outOf ds r):=by
 obtain ⟨ho,h8⟩:=M.out_at hr hk h7
 have h1:=(h.outs hk ho).1 (Nat.le_refl _)
 apply Nat.le_antisymm _ h1
 apply Classical.byContradiction
 intro hn
 have hlt:=h.lt2 ho
 have hrl:=h.lt2 hk
 obtain ⟨_,y,hy,hd,_⟩:=h.get (List.getElem?_eq_getElem ho)
 have hle:at0 pos r≤at0 pos (outOf ds r):=(h.le_iff hk ho).2 (by have:=(le_outOf (ds:=ds) (a:=r) (b:=r) (by omega) (by omega)).2 (fun q _ x y=>by omega);omega)
 have:=(le_outOf (ds:=es) (a:=at0 pos r) (b:=at0 pos (outOf ds r)+1) (by omega) (by omega)).1 (by omega) (at0 pos (outOf ds r)) hlt hle (by omega)
 rw [List.getElem?_eq_getElem hlt] at hy
 obtain rfl:=Option.some.inj hy
 have hd8:=same_kind hd (κ:=8) (by omega) (by omega)
 rw [h8] at hd8
 exact this (by simpa using hd8)
theorem WfE.choices_up (h:WfE s ds es pos back) (hr:run false ds=some false) {c:Ch} (hc:c∈choices ds):img (at0 pos) c∈choices es:=by
 obtain ⟨w,r,x,y,hx,h9,hf,hy,h7,rfl⟩:=mem_choices.1 hc
 obtain ⟨_,x',hx',hd,_,hl,_⟩:=h.get hx
 obtain ⟨_,y',hy',hd2,_⟩:=h.get hy
 obtain ⟨n,hn,hn1⟩:=h.adj w x hx h9 hf
 obtain ⟨hrl,rfl⟩:=List.getElem?_eq_some_iff.1 hy
 have hd9:x'.d.k=9:=by
  rcases hd with hd | ⟨_,hd⟩
  ·rw [hd];exact h9
  ·have:=hd.k;omega
 have hd7:=same_kind hd2 (κ:=7) (by omega) (by omega)
 rw [h7] at hd7
 refine mem_choices.2 ⟨at0 pos w,at0 pos r,x',y',hx',hd9,by rw [hl];exact hf,hy',by simpa using hd7,?_⟩
 rw [h.out_at hr hrl h7]
 simp only [img,at0_of hn,at0_of hn1]
theorem WfE.choices_dn (h:WfE s ds es pos back) (hr:run false ds=some false) (hs:¬ s) {c:Ch} (hc:c∈choices es):∃ c0∈choices ds,c=img (at0 pos) c0:=by
 obtain ⟨w,r,x,y,hx,h9,hf,hy,h7,rfl⟩:=mem_choices.1 hc
 have hw:w∈pos:=by
  apply Classical.byContradiction
  intro hn
  rcases (h.out w x hx hn).1 with e | ⟨e,_⟩
  ·omega
  ·exact hs e
 obtain ⟨w0,hw0,rfl⟩:=h.inside hw
 obtain ⟨r0,hr0,rfl⟩:=h.core hy (by rw [h7];rfl)
 obtain ⟨_,x',hx',hd,_,hl,_⟩:=h.get (List.getElem?_eq_getElem hw0)
 rw [hx] at hx'
 obtain rfl:=Option.some.inj hx'
 obtain ⟨_,y',hy',hd2,_⟩:=h.get (List.getElem?_eq_getElem hr0)
 rw [hy] at hy'
 obtain rfl:=Option.some.inj hy'
 have hd:=hd.resolve_right fun e=>hs e.1
 have hd2:=hd2.resolve_right fun e=>hs e.1
 have h9':ds[w0].d.k=9:=by rw [← hd];exact h9
 have hf':ds[w0].last=false:=by rw [← hl];exact hf
 have h7':ds[r0].d.k=7:=by rw [← hd2];exact h7
 obtain ⟨n,hn,hn1⟩:=h.adj w0 _ (List.getElem?_eq_getElem hw0) h9' hf'
 refine ⟨_,mem_choices.2 ⟨w0,r0,_,_,List.getElem?_eq_getElem hw0,h9',hf',List.getElem?_eq_getElem hr0,h7',rfl⟩,?_⟩
 rw [h.out_at hr hr0 h7']
 simp only [img,at0_of hn,at0_of hn1]
theorem WfE.no_readers (h:WfE s ds es pos back) (h7:∀ x∈ds,x.d.k≠7):choices es=[]:=by
 rw [List.eq_nil_iff_forall_not_mem]
 intro c hc
 obtain ⟨_,r,_,y,_,_,_,hy,hk,_⟩:=mem_choices.1 hc
 obtain ⟨a,ha,rfl⟩:=h.core hy (by rw [hk];rfl)
 obtain ⟨_,y',hy',hd,_⟩:=h.get (List.getElem?_eq_getElem ha)
 rw [hy] at hy'
 obtain rfl:=Option.some.inj hy'
 have:=same_kind hd (κ:=7) (by omega) (by omega)
 rw [hk] at this
 exact h7 _ (List.getElem_mem ha) (by simpa using this.symm)
theorem WfE.homes (h:WfE s ds es pos back) {a:Nat} (ha:a < ds.length):at0 back (at0 pos a)=a:=at0_of (h.home a _ (h.pget ha))
theorem WfE.backs (h:WfE s ds es pos back) {u:Nat} {y:De} (hy:es[u]?=some y):∃ x,ds[at0 back u]?=some x∧x.t=y.t∧at0 pos (at0 back u)≤u∧(∀ b,b < ds.length→at0 back u < b→u < at0 pos b)∧(at0 pos (at0 back u)=u∨(x.d.k=4∧y.uses=false∧isWall y.d.k=true)):=by
 by_cases hc:u∈pos
 ·obtain ⟨a,ha,rfl⟩:=h.inside hc
  rw [h.homes ha]
  have hx:=List.getElem?_eq_getElem ha
  obtain ⟨_,y',hy',_,ht,_⟩:=h.get hx
  rw [hy] at hy'
  obtain rfl:=Option.some.inj hy'
  exact ⟨_,hx,ht.symm,Nat.le_refl _,fun b hb hab=>h.mono hab hb,.inl rfl⟩
 ·obtain ⟨h1,a,n,x,h2,h3,h4,h5,h8,h6,h7⟩:=h.out u y hy hc
  rw [at0_of h2]
  exact ⟨x,h5,h6,by rw [at0_of h3];omega,fun b hb hab=>h7 b _ (h.pget hb) hab,.inr ⟨h8,(out_wall h1).2,(out_wall h1).1⟩⟩
end
section
variable {s : Prop} {ll mm : List (List D)} {pos back : List Nat}
theorem WfE.link (h:WfE s (deeds ll) (deeds mm) pos back) (hp:prog ll=true) {x y:Wy} (R:Rel (deeds ll) (at0 pos) id x y) (hx:WO (deeds ll) x.1 x.2) (hy:WO (deeds mm) y.1 y.2) (k:Nat) {a b:Nat} (ha:a < (deeds ll).length) (hb:b < (deeds ll).length):(at0 pos a,at0 pos b)∈linksOf (netOf (deeds mm) y.1 y.2 k) (deeds mm).length↔(a,b)∈linksOf (netOf (deeds ll) x.1 x.2 k) (deeds ll).length:=by
 have la:=List.getElem?_eq_getElem ha
 have lb:=List.getElem?_eq_getElem hb
 obtain ⟨_,u,hu,_⟩:=h.get la
 obtain ⟨_,v,hv,_⟩:=h.get lb
 have:=h.must (deed_u hp) R hx hy k la lb hu hv
 rw [mem_net,mem_net]
 constructor
 ·rintro ⟨u',v',hu',hv',hm⟩
  rw [hu] at hu'
  rw [hv] at hv'
  obtain rfl:=Option.some.inj hu'
  obtain rfl:=Option.some.inj hv'
  exact ⟨_,_,la,lb,this▸hm⟩
 ·rintro ⟨u',v',hu',hv',hm⟩
  rw [la] at hu'
  rw [lb] at hv'
  obtain rfl:=Option.some.inj hu'
  obtain rfl:=Option.some.inj hv'
  exact ⟨u,v,hu,hv,this.symm▸hm⟩
theorem wf_down (h:WfE s (deeds ll) (deeds mm) pos back) (hp:prog ll=true) (hq:prog mm=true) {k:Nat} {y:Wy} (hy:orderHolds mm y.1 y.2 k=true):∃ x:Wy,orderHolds ll x.1 x.2 k=true∧seenOf ll x=seenOf mm y:=by
 obtain ⟨hk,he,h0,hs⟩:=holds_iff.1 hy
 have hwo:=(exec_wo.1 he).2
 have E:=h.emb (deed_u hp)
 have R:=E.relDn hwo
 have hx:=E.dn_ok hwo
 refine ⟨(dnF (deeds ll) (at0 pos) y.1,dnO (deeds ll) id (at0 pos) y.2),holds_iff.2 ⟨hk,exec_wo.2 ⟨hp,hx⟩,fun hr=>h0 (round_map (f:=at0 pos) (fun l hl=>?_) hr),sat_map (f:=at0 pos) (fun l hl=>?_) (fun c hc=>h.choices_up (run_of hp) hc) hs⟩,(emb_seen hp hq E (fun a b hab hb=>h.mono hab hb) R hx hwo).symm⟩
 ·obtain ⟨a,b⟩:=l
  obtain ⟨_,_,ha,hb,_⟩:=mem_net.1 hl
  exact .one ((h.link hp R hx hwo 0 (lt_of_get ha) (lt_of_get hb)).2 hl)
 ·obtain ⟨a,b⟩:=l
  obtain ⟨_,_,ha,hb,_⟩:=mem_net.1 hl
  exact .one ((h.link hp R hx hwo k (lt_of_get ha) (lt_of_get hb)).2 hl)
theorem wall_kind4 {x y:De} (k:Nat) (a b:Nat) (hk:1≤k) (l:List Int) (rows:List (List Int)) (ds:List De) (hab:a < b) (ht:x.t=y.t) (hw:x.d.k=4∨y.d.k=4):must ds l rows k a b x y=true:=by
 have ho:own a b x y=true:=own_iff.2 ⟨hab,ht⟩
 match k,hk with
 | 1,_=>simp only [must];rw [ho];rfl
 | 2,_ =>
  have:(writes x.d.k&&reads y.d.k)=false:=by
   rcases hw with e | e<;>rw [e]
   ·rfl
   ·simp [reads]
  simp only [must,late];rw [ho,this];rfl
 | k+3,_ =>
  have:(isWall x.d.k||isWall y.d.k)=true:=by
   rcases hw with e | e<;>rw [e]
   ·rfl
   ·simp [isWall]
  simp only [must,loose,keeps];rw [ho,this];rfl
theorem idle_link {ds:List De} {l:List Int} {rows:List (List Int)} {k a b:Nat} {x y:De} (hm:must ds l rows k a b x y=true) (hr:(read l a b||over l rows a b x y)=false):own a b x y=true:=by
 rw [Bool.or_eq_false_iff] at hr
 obtain ⟨h1,h2⟩:=hr
 match k with
 | 0=>simp only [must,h1,h2,Bool.or_false,Bool.and_eq_true] at hm;exact hm.1
 | 1=>simpa only [must,h1,h2,Bool.or_false] using hm
 | 2=>simp only [must,h1,h2,Bool.or_false,Bool.and_false,late,Bool.and_eq_true] at hm;exact hm.1
 | k+3=>simp only [must,h1,h2,Bool.or_false,Bool.and_false,loose,Bool.and_eq_true] at hm;exact hm.1
theorem wf_fold (h:WfE s (deeds ll) (deeds mm) pos back) (hp:prog ll=true) {x y:Wy} (R:Rel (deeds ll) (at0 pos) id x y) (hx:WO (deeds ll) x.1 x.2) (hy:WO (deeds mm) y.1 y.2) (k:Nat) {u v:Nat} (hl:(u,v)∈linksOf (netOf (deeds mm) y.1 y.2 k) (deeds mm).length):Leads (linksOf (netOf (deeds ll) x.1 x.2 k) (deeds ll).length) (at0 back u) (at0 back v)∨(at0 back u=at0 back v∧u < v):=by
 obtain ⟨a,b,hu,hv,hm⟩:=mem_net.1 hl
 obtain ⟨xs,hxs,ts,l1,l2,l3⟩:=h.backs hu
 obtain ⟨xt,hxt,tt,m1,m2,m3⟩:=h.backs hv
 by_cases hin:at0 pos (at0 back u)=u∧at0 pos (at0 back v)=v
 ·refine .inl (.one ((h.link hp R hx hy k (lt_of_get hxs) (lt_of_get hxt)).1 ?_))
  rw [hin.1,hin.2];exact hl
 ·have hidle:(xs.d.k=4∧a.uses=false)∨(xt.d.k=4∧b.uses=false):=by
   rcases l3 with e | e
   ·rcases m3 with e2 | e2
    ·exact absurd ⟨e,e2⟩ hin
    ·exact .inr ⟨e2.1,e2.2.1⟩
   ·exact .inl ⟨e.1,e.2.1⟩
  have hno:(read y.1 u v||over y.1 y.2 u v a b)=false:=by
   cases hc:(read y.1 u v||over y.1 y.2 u v a b)
   ·rfl
   ·have:=tell_uses hy hu hv hc
    rcases hidle with ⟨_,e⟩ | ⟨_,e⟩
    ·rw [e] at this;exact absurd this.2.1 (by simp)
    ·rw [e] at this;exact absurd this.2.2.1 (by simp)
  have hown:=own_iff.1 (idle_link hm hno)
  have hk:1≤k:=by
   rcases Nat.eq_zero_or_pos k with e | e
   ·exfalso
    rw [e] at hm
    rw [Bool.or_eq_false_iff] at hno
    simp only [must,hno.1,hno.2,Bool.or_false,Bool.and_eq_true,onePl] at hm
    rcases hidle with ⟨_,e⟩ | ⟨_,e⟩
    ·rw [e] at hm;exact absurd hm.2.1 (by simp)
    ·rw [e] at hm;exact absurd hm.2.2.1 (by simp)
   ·exact e
  have hab:at0 back u≤at0 back v:=by
   apply Classical.byContradiction
   intro hn
   have:=m2 (at0 back u) (lt_of_get hxs) (by omega)
   omega
  rcases Nat.lt_or_ge (at0 back u) (at0 back v) with hlt | hge
  ·exact .inl (.one (mem_net.2 ⟨xs,xt,hxs,hxt,wall_kind4 k _ _ hk _ _ _ hlt (by omega) (hidle.imp (·.1) (·.1))⟩))
  ·exact .inr ⟨by omega,hown.1⟩
theorem wf_up (h:WfE s (deeds ll) (deeds mm) pos back) (hp:prog ll=true) (hq:prog mm=true) (hc:¬ s∨∀ x∈deeds ll,x.d.k≠7) {k:Nat} {x:Wy} (hxh:orderHolds ll x.1 x.2 k=true):∃ y:Wy,orderHolds mm y.1 y.2 k=true∧seenOf mm y=seenOf ll x:=by
 obtain ⟨hk,he,h0,hs⟩:=holds_iff.1 hxh
 have hx:=(exec_wo.1 he).2
 have E:=h.emb (deed_u hp)
 have R:=E.relUp x
 have hy:=E.up_ok (lro_deeds mm) hx
 refine ⟨(upF (deeds ll) (deeds mm) (at0 pos) x.1,upO id (at0 pos) x.2),holds_iff.2 ⟨hk,exec_wo.2 ⟨hq,hy⟩,fun hr=>h0 (round_fold (h:=at0 back) (fun l hl=>wf_fold h hp R hx hy 0 hl) hr),sat_fold (f:=at0 pos) (h:=at0 back) (fun l hl=>wf_fold h hp R hx hy k hl) (fun c hcc=>?_) (fun c hcc=>?_) hs⟩,emb_seen hp hq E (fun a b hab hb=>h.mono hab hb) R hx hy⟩
 ·rcases hc with hc | hc
  ·exact h.choices_dn (run_of hp) hc hcc
  ·rw [h.no_readers hc] at hcc;cases hcc
 ·have hi:=(choices_ok (run_of hp) c hcc).1
  exact ⟨h.homes hi.1.1,h.homes hi.1.2,h.homes hi.2.1,h.homes hi.2.2⟩
theorem all_fold (h:FwP s ll mm) (hp:prog ll=true) (hq:prog mm=true) (hc:¬ s∨∀ x∈deeds ll,x.d.k≠7) (k:Int):orderAll mm k=orderAll ll k:=by
 obtain ⟨pos,back,w⟩:=wf_deeds h
 refine orderAll_eq fun z=>?_
 rw [mem_orderAll,mem_orderAll]
 constructor
 ·rintro ⟨y,hy,rfl⟩
  obtain ⟨kn,rfl⟩:∃ kn:Nat,k=kn:=⟨k.toNat,by have:=(holds_parts_of hy).1;simp only [Bool.and_eq_true,decide_eq_true_eq] at this;omega⟩
  obtain ⟨x,hx,e⟩:=wf_down w hp hq hy
  exact ⟨x,hx,e⟩
 ·rintro ⟨x,hx,rfl⟩
  obtain ⟨kn,rfl⟩:∃ kn:Nat,k=kn:=⟨k.toNat,by have:=(holds_parts_of hx).1;simp only [Bool.and_eq_true,decide_eq_true_eq] at this;omega⟩
  obtain ⟨y,hy,e⟩:=wf_up w hp hq hc hx
  exact ⟨y,hy,e⟩
end
end M
end Go.Proofs.YtjjkicffhpcngaaGreat
