/- The events of one program among those of another one: the ways of the one are the ways of the other. Plainly. No condition but what is said. -/
import Derived.BigQuiet
import Derived.Deep.AppendLies
import Derived.Deep.MidRow
import Derived.Deep.Quiet
import Derived.Deep.QuietTactic
import Derived.Deep.RegionHeld3
import Derived.Deep.RegionLaw
import Derived.Laws.EntriesVeiled
import Derived.LoopN
import Derived.Shelf.Abstract
import Derived.Sort.Grow
import Derived.WalkKit
import Derived.WalkLawsBesides
import Derived.WalkSpells
import Derived.Deep.OwnRows
import Derived.Test.YtihfibjckkmmbaaGreatRows
import Derived.Test.YtihfibjckkmmbaaGreatOebi
namespace Go.Proofs.YtihfibjckkmmbaaGreat
namespace M
section
variable {ds es : List De} {f : Nat → Nat} {g v : Int → Int}
theorem dn_neg {z:Int} (h:z < 0):dn ds f z=z:=by unfold dn;rw [if_pos h]
def dnF (ds:List De) (f:Nat→Nat) (l:List Int):List Int:=(List.range ds.length).map fun (a:Nat)=>if ((ds[a]?).map De.reads).getD false then dn ds f (l.getD (f a) 0) else -2
def dnO (ds:List De) (g:Int→Int) (f:Nat→Nat) (rows:List (List Int)):List (List Int):=[(0:Int),1,2].map fun p=>(rows.getD (g p).toNat []).map (dn ds f)
theorem dnF_at {l:List Int} {a:Nat} {x:De} (h:ds[a]?=some x):(dnF ds f l).getD a 0=if x.reads then dn ds f (l.getD (f a) 0) else -2:=by
 have hc:=lt_of_get h
 obtain ⟨_,rfl⟩:=List.getElem?_eq_some_iff.1 h
 simp [dnF,List.getD_eq_getElem?_getD,hc]
theorem Emb.relDn (E:Emb ds es f g v) {y:Wy} (h:WO es y.1 y.2):Rel ds f g (dnF ds f y.1,dnO ds g f y.2) y:=by
 have ud:∀ z:Int,(z < 0∨∃ a,a < ds.length∧z=(f a:Int))→up f (dn ds f z)=z:=by
  rintro z (h | ⟨a,ha,rfl⟩)
  ·rw [dn_neg h,up_neg h]
  ·rw [E.dn_up ha,up_nat]
 refine ⟨fun a u hu hr=>?_,fun p h0 h3=>?_⟩
 ·show _=up f ((dnF ds f y.1).getD a 0)
  rw [dnF_at hu,hr,if_pos rfl,ud]
  obtain ⟨z,hz,L⟩:=E.at_ a u hu
  have:=h.fro (f a) z hz
  rw [if_pos (L.rd.trans hr)] at this
  rcases this with e | ⟨b,c,e,hc,ht⟩
  ·exact Or.inl (by omega)
  ·simp only [De.to,Bool.and_eq_true] at ht
   obtain ⟨a',ha',rfl⟩:=E.out b c hc (by show (M.reads _||M.writes _)=true;rw [ht.1,Bool.or_true])
   exact Or.inr ⟨a',ha',e⟩
 ·show y.2.getD (g p).toNat []=((dnO ds g f y.2).getD p.toNat []).map (up f)
  have e:(dnO ds g f y.2).getD p.toNat []=(y.2.getD (g p).toNat []).map (dn ds f):=by
   rcases (show p=0∨p=1∨p=2 by omega) with rfl | rfl | rfl<;>rfl
  rw [e,List.map_map]
  have hp:=h.row (g p) (E.gi p h0 h3).1 (E.gi p h0 h3).2
  have hc:(y.2.getD (g p).toNat []).map (up f ∘ dn ds f)=(y.2.getD (g p).toNat []).map id:=List.map_congr_left fun z hz=>by
   obtain ⟨c,hc,rfl,ht⟩:=mem_wrs.1 (hp.mem_iff.1 hz)
   simp only [De.to,Bool.and_eq_true] at ht
   obtain ⟨a',ha',rfl⟩:=E.out c _ (List.getElem?_eq_getElem hc) (by show (M.reads _||M.writes _)=true;rw [ht.1,Bool.or_true])
   exact ud _ (Or.inr ⟨a',ha',by rw [Nat.zero_add]⟩)
  rw [hc,List.map_id]
theorem Emb.dn_ok (E:Emb ds es f g v) {y:Wy} (h:WO es y.1 y.2):WO ds (dnF ds f y.1) (dnO ds g f y.2):=by
 have R:=E.relDn h
 have hfro:Fro ds (dnF ds f y.1):=by
  intro a x hx
  rw [dnF_at hx]
  cases hr:x.reads
  ·simp
  ·simp only [if_true]
   obtain ⟨z,hz,L⟩:=E.at_ a x hx
   have hf:=h.fro (f a) z hz
   rw [if_pos (L.rd.trans hr)] at hf
   rcases hf with e | ⟨b,c,e,hc,ht⟩
   ·rw [e];exact Or.inl (dn_neg (by omega))
   ·simp only [De.to,Bool.and_eq_true,beq_iff_eq] at ht
    have huc:c.uses=true:=by show (M.reads _||M.writes _)=true;rw [ht.1,Bool.or_true]
    obtain ⟨a',ha',rfl⟩:=E.out b c hc huc
    rw [e,E.dn_up ha']
    have hx':=List.getElem?_eq_getElem ha'
    obtain ⟨c',hc',L'⟩:=E.at_ a' _ hx'
    rw [hc] at hc'
    obtain rfl:=Option.some.inj hc'
    have hua:ds[a'].uses=true:=L'.us▸huc
    have hux:x.uses=true:=by show (M.reads _||M.writes _)=true;rw [show M.reads x.d.k=true from hr,Bool.true_or]
    refine Or.inr ⟨a',_,rfl,hx',?_⟩
    simp only [De.to,Bool.and_eq_true,beq_iff_eq]
    have p1:=E.pr _ (List.getElem_mem ha') hua
    have p2:=E.pr _ (mem_of_get hx) hux
    exact ⟨L'.wr▸ht.1,E.gj _ _ p1.1 p1.2 p2.1 p2.2 (by rw [← L'.pl hua,ht.2,L.pl hux])⟩
 have hin:=fro_in hfro E.lro
 refine ⟨by simp [dnF],hfro,rfl,fun p h0 h3=>?_,?_⟩
 ·have e:(dnO ds g f y.2).getD p.toNat []=(y.2.getD (g p).toNat []).map (dn ds f):=by
   rcases (show p=0∨p=1∨p=2 by omega) with rfl | rfl | rfl<;>rfl
  rw [e]
  have h1:=(h.row (g p) (E.gi p h0 h3).1 (E.gi p h0 h3).2).trans (E.wrs h0 h3).symm
  have h2:=h1.map (dn ds f)
  have h4:((M.wrs p 0 ds).map (up f)).map (dn ds f)=M.wrs p 0 ds:=by
   rw [List.map_map]
   have:(M.wrs p 0 ds).map (dn ds f ∘ up f)=(M.wrs p 0 ds).map id:=List.map_congr_left fun z hz=>by
    obtain ⟨c,hc,rfl,_⟩:=mem_wrs.1 hz
    show dn ds f (up f _)=_
    rw [up_nat,E.dn_up (by omega)];rfl
   rw [this,List.map_id]
  rw [h4] at h2
  exact h2
 ·rw [ends_iff]
  intro a ha
  refine orig_any hin ha (m:=es.length) ?_
  have:=(ends_iff es y.1).1 h.fin (f a) (E.lt ha)
  have e:=E.orig R hin es.length a ha
  rw [e] at this
  simpa using this
end
theorem rd_form (ds:List De) (l:List Int):seenR ds l=((List.range ds.length).filter fun n=>((ds[n]?).map De.reads).getD false).map fun n=>vl ds l (n:Nat):=by
 have key:∀ (k n:Nat),n+k=ds.length→rdAt ds l n (ds.drop n)=((List.range' n k).filter fun n=>((ds[n]?).map De.reads).getD false).map fun n=>vl ds l (n:Nat):=by
  intro k
  induction k with
  | zero=>intro n hn;rw [List.drop_eq_nil_of_le (by omega)];rfl
  | succ k ih =>
   intro n hn
   have hlt:n < ds.length:=by omega
   rw [← List.getElem_cons_drop hlt,rdAt,ih (n+1) (by omega),List.range'_succ,List.filter_cons,List.getElem?_eq_getElem hlt]
   simp only [Option.map_some,Option.getD_some]
   split<;>rfl
 have:=key ds.length 0 (by omega)
 rw [List.drop_zero] at this
 rw [seenR,this,List.range_eq_range']
theorem natAsc_unique:∀ {l m:List Nat},l.Pairwise (· < ·)→m.Pairwise (· < ·)→(∀ x,x∈l↔x∈m)→l=m
 | [],[],_,_,_=>rfl
 | [],y::m,_,_,h=>absurd ((h y).2 (by simp)) (by simp)
 | x::l,[],_,_,h=>absurd ((h x).1 (by simp)) (by simp)
 | x::l,y::m,hl,hm,h=>by
  have hl':=List.pairwise_cons.1 hl
  have hm':=List.pairwise_cons.1 hm
  have hxy:x=y:=by
   rcases List.mem_cons.1 ((h x).1 (by simp)) with e | hx
   ·exact e
   ·rcases List.mem_cons.1 ((h y).2 (by simp)) with e | hy
    ·exact e.symm
    ·have h1:=hm'.1 x hx
     have h2:=hl'.1 y hy
     omega
  subst hxy
  have:∀ z,z∈l↔z∈m:=fun z=>by
   constructor
   ·intro hz
    rcases List.mem_cons.1 ((h z).1 (by simp [hz])) with e | hm2
    ·subst e;have:=hl'.1 z hz;omega
    ·exact hm2
   ·intro hz
    rcases List.mem_cons.1 ((h z).2 (by simp [hz])) with e | hl2
    ·subst e;have:=hm'.1 z hz;omega
    ·exact hl2
  rw [natAsc_unique hl'.2 hm'.2 this]
theorem Emb.seenR {ds es:List De} {f:Nat→Nat} {g v:Int→Int} (E:Emb ds es f g v) (hm:∀ a b,a < b→b < ds.length→f a < f b) {x y:Wy} (R:Rel ds f g x y) (hx:WO ds x.1 x.2) (hy:WO es y.1 y.2) (hlo:∀ y∈es,y.lr < es.length) (hz:∀ x∈ds,x.reads=true∨x.d.k=3→x.d.v=0) (hz':∀ x∈es,x.reads=true∨x.d.k=3→x.d.v=0):M.seenR es y.1=(M.seenR ds x.1).map v:=by
 rw [rd_form,rd_form,List.map_map]
 have e:((List.range es.length).filter fun n=>((es[n]?).map De.reads).getD false)=((List.range ds.length).filter fun n=>((ds[n]?).map De.reads).getD false).map f:=by
  refine natAsc_unique (List.Pairwise.sublist List.filter_sublist List.pairwise_lt_range) ?_ fun c=>?_
  ·rw [List.pairwise_map]
   refine List.Pairwise.imp_of_mem (fun {a b} _ hb hlt=>hm a b hlt ?_) (List.Pairwise.sublist List.filter_sublist List.pairwise_lt_range)
   exact List.mem_range.1 (List.mem_filter.1 hb).1
  ·rw [List.mem_filter,List.mem_map,List.mem_range]
   constructor
   ·rintro ⟨hc,hr⟩
    rw [List.getElem?_eq_getElem hc] at hr
    have hr':es[c].reads=true:=by simpa using hr
    obtain ⟨a,ha,rfl⟩:=E.out c _ (List.getElem?_eq_getElem hc) (by show (M.reads _||M.writes _)=true;rw [show M.reads es[c].d.k=true from hr',Bool.true_or])
    refine ⟨a,List.mem_filter.2 ⟨List.mem_range.2 ha,?_⟩,rfl⟩
    obtain ⟨z,hz,L⟩:=E.at_ a _ (List.getElem?_eq_getElem ha)
    rw [List.getElem?_eq_getElem hc] at hz
    obtain rfl:=Option.some.inj hz
    rw [List.getElem?_eq_getElem ha]
    simpa using L.rd▸hr'
   ·rintro ⟨a,ha,rfl⟩
    obtain ⟨ha,hr⟩:=List.mem_filter.1 ha
    have ha:=List.mem_range.1 ha
    rw [List.getElem?_eq_getElem ha] at hr
    obtain ⟨z,hz,L⟩:=E.at_ a _ (List.getElem?_eq_getElem ha)
    refine ⟨lt_of_get hz,?_⟩
    rw [hz]
    simpa [L.rd] using hr
 rw [e,List.map_map]
 refine List.map_congr_left fun a ha=>?_
 have ha:=List.mem_range.1 (List.mem_filter.1 ha).1
 exact E.vl R hx hy hlo hz hz' ha
end M
end Go.Proofs.YtihfibjckkmmbaaGreat
