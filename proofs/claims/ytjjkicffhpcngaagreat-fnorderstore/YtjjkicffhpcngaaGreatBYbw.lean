/- What an order allows, plainly: who is among it. No condition. The events of one program among those of another one: the ways of the one are the ways of the other. Plainly. No condition but what is said. -/
import Derived.Below
import Derived.BigQuiet
import Derived.Deep.AppendLies
import Derived.Deep.CutRange
import Derived.Deep.MidRow
import Derived.Deep.Quiet
import Derived.Deep.QuietTactic
import Derived.Deep.RegionHeld3
import Derived.Deep.RegionLaw
import Derived.Deep.RegionWith
import Derived.Deep.Slices
import Derived.Deep.WholeRow
import Derived.Handy
import Derived.Laws.AppendOwn
import Derived.Laws.AppendOwnNone
import Derived.Laws.EntriesVeiled
import Derived.Laws.IdiomCopy
import Derived.Laws.OwnMore
import Derived.LoopIn
import Derived.LoopN
import Derived.LoopNIn
import Derived.Maps.OwnIn
import Derived.OwnWalkIn
import Derived.RangeFuncBound
import Derived.RangeFuncLeaves
import Derived.RangeFuncNested
import Derived.Shelf.Abstract
import Derived.Shelf.SlSortCmp.NoneTotal
import Derived.Sort.Grow
import Derived.TacticsInMore
import Derived.WalkKit
import Derived.WalkLawsBesides
import Derived.WalkSpells
import Derived.Deep.OwnRows
import Derived.Test.YtjjkicffhpcngaaGreatRows
import Derived.Test.YtjjkicffhpcngaaGreatBYay
namespace Go.Proofs.YtjjkicffhpcngaaGreat
namespace M
theorem asc_orderAll (ll:List (List D)) (kind:Int):Asc (orderAll ll kind):=by
 unfold orderAll
 split
 ·exact asc_sortK _
 ·exact List.Pairwise.nil
theorem orderAll_eq {ll mm:List (List D)} {k j:Int} (h:∀ x,x∈orderAll ll k↔x∈orderAll mm j):orderAll ll k=orderAll mm j:=Asc.unique (asc_orderAll _ _) (asc_orderAll _ _) h
end M
end Go.Proofs.YtjjkicffhpcngaaGreat
namespace Go.Proofs.YtjjkicffhpcngaaGreat
namespace M
section
variable {ds es : List De} {f : Nat → Nat} {g v : Int → Int}
def upF (ds es:List De) (f:Nat→Nat) (l:List Int):List Int:=(List.range es.length).map fun (c:Nat)=>if ((es[c]?).map De.reads).getD false then up f (l.getD (dn ds f c).toNat 0) else -2
def upO (g:Int→Int) (f:Nat→Nat) (rows:List (List Int)):List (List Int):=[(0:Int),1,2].map fun q=>match [(0:Int),1,2].find? (fun p=>g p==q) with | some p=>(rows.getD p.toNat []).map (up f) | none=>[]
theorem upF_at {l:List Int} {c:Nat} {y:De} (h:es[c]?=some y):(upF ds es f l).getD c 0=if y.reads then up f (l.getD (dn ds f c).toNat 0) else -2:=by
 have hc:=lt_of_get h
 obtain ⟨_,rfl⟩:=List.getElem?_eq_some_iff.1 h
 simp [upF,List.getD_eq_getElem?_getD,hc]
theorem Emb.upO_at (E:Emb ds es f g v) {rows:List (List Int)} {p:Int} (h0:0≤p) (h3:p < 3):(upO g f rows).getD (g p).toNat []=(rows.getD p.toNat []).map (up f):=by
 have hg:=E.gi p h0 h3
 have key:∀ q:Int,g p=q→([(0:Int),1,2].find? (fun p=>g p==q))=some p:=fun q hq=>by
  cases hf:[(0:Int),1,2].find? (fun p=>g p==q) with
  | none =>
   have:=List.find?_eq_none.1 hf p (by simp;omega)
   simp [hq] at this
  | some b =>
   have h1:=List.find?_some hf
   have h2:=List.mem_of_find?_eq_some hf
   have hb:0≤b∧b < 3:=by simp at h2;omega
   rw [E.gj b p hb.1 hb.2 h0 h3 (by rw [hq];simpa using h1)]
 rcases (show g p=0∨g p=1∨g p=2 by omega) with e | e | e
 ·have:=key 0 e
  rw [e]
  show (match [(0:Int),1,2].find? (fun p=>g p==0) with | some p=>(rows.getD p.toNat []).map (up f) | none=>[])=_
  rw [this]
 ·have:=key 1 e
  rw [e]
  show (match [(0:Int),1,2].find? (fun p=>g p==1) with | some p=>(rows.getD p.toNat []).map (up f) | none=>[])=_
  rw [this]
 ·have:=key 2 e
  rw [e]
  show (match [(0:Int),1,2].find? (fun p=>g p==2) with | some p=>(rows.getD p.toNat []).map (up f) | none=>[])=_
  rw [this]
theorem Emb.inv (E:Emb ds es f g v):∀ q:Int,0≤q→q < 3→∃ p,0≤p∧p < 3∧g p=q:=by
 have h0:=E.gi 0 (by omega) (by omega)
 have h1:=E.gi 1 (by omega) (by omega)
 have h2:=E.gi 2 (by omega) (by omega)
 have n01:g 0≠g 1:=fun e=>by have:=E.gj 0 1 (by omega) (by omega) (by omega) (by omega) e;omega
 have n02:g 0≠g 2:=fun e=>by have:=E.gj 0 2 (by omega) (by omega) (by omega) (by omega) e;omega
 have n12:g 1≠g 2:=fun e=>by have:=E.gj 1 2 (by omega) (by omega) (by omega) (by omega) e;omega
 intro q hq hq3
 by_cases e0:g 0=q
 ·exact ⟨0,by omega,by omega,e0⟩
 ·by_cases e1:g 1=q
  ·exact ⟨1,by omega,by omega,e1⟩
  ·exact ⟨2,by omega,by omega,by omega⟩
theorem Emb.relUp (E:Emb ds es f g v) (x:Wy):Rel ds f g x (upF ds es f x.1,upO g f x.2):=by
 refine ⟨fun a u hu hr=>?_,fun p h0 h3=>E.upO_at h0 h3⟩
 obtain ⟨y,hy,L⟩:=E.at_ a u hu
 show (upF ds es f x.1).getD (f a) 0=_
 rw [upF_at hy,L.rd,hr,if_pos rfl,E.dn_up (lt_of_get hu),Int.toNat_natCast]
theorem val_none {l:List Int} {c:Nat} {y:De} (h:es[c]?=some y) (hu:y.uses=false):valFrom es l c=-1:=by
 have hu':(M.reads y.d.k||M.writes y.d.k)=false:=hu
 rw [Bool.or_eq_false_iff] at hu'
 have h3:(y.d.k==3)=false:=by
  cases h3:(y.d.k==3)
  ·rfl
  ·have:y.d.k=3:=by simpa using h3
   have:=hu'.2
   simp [M.writes,h3] at this
 unfold valFrom
 rw [h]
 dsimp only
 rw [show y.reads=false from hu'.1,h3]
 rfl
theorem Emb.up_ok (E:Emb ds es f g v) (hlo:∀ y∈es,y.lr < es.length) {x:Wy} (h:WO ds x.1 x.2):WO es (upF ds es f x.1) (upO g f x.2):=by
 have R:=E.relUp x
 have hfro:Fro es (upF ds es f x.1):=by
  intro c y hy
  rw [upF_at hy]
  cases hr:y.reads
  ·simp
  ·simp only [if_true]
   obtain ⟨a,ha,rfl⟩:=E.out c y hy (by show (M.reads _||M.writes _)=true;rw [show M.reads y.d.k=true from hr,Bool.true_or])
   rw [E.dn_up ha,Int.toNat_natCast]
   have hx:=List.getElem?_eq_getElem ha
   obtain ⟨y',hy',L⟩:=E.at_ a _ hx
   rw [hy] at hy'
   obtain rfl:=Option.some.inj hy'
   have hra:ds[a].reads=true:=L.rd▸hr
   have hf:=h.fro a _ hx
   rw [if_pos hra] at hf
   rcases hf with e | ⟨b,z,e,hz,ht⟩
   ·rw [e];exact Or.inl (up_neg (by omega))
   ·rw [e,up_nat]
    obtain ⟨z',hz',L'⟩:=E.at_ b z hz
    refine Or.inr ⟨f b,z',rfl,hz',?_⟩
    simp only [De.to,Bool.and_eq_true,beq_iff_eq] at ht ⊢
    have huz:z.uses=true:=by show (M.reads _||M.writes _)=true;rw [ht.1,Bool.or_true]
    have hua:ds[a].uses=true:=by show (M.reads _||M.writes _)=true;rw [show M.reads ds[a].d.k=true from hra,Bool.true_or]
    exact ⟨L'.wr.trans ht.1,(L'.pl huz).trans (by rw [L.pl hua,ht.2])⟩
 have hlen:(upF ds es f x.1).length=es.length:=by simp [upF]
 have hin:=h.in_ E.lro
 have hrow:∀ p:Int,0≤p→p < 3→((upO g f x.2).getD p.toNat []).Perm (M.wrs p 0 es):=by
  intro q h0 h3
  obtain ⟨p,p0,p3,rfl⟩:=E.inv q h0 h3
  rw [E.upO_at p0 p3]
  exact ((h.row p p0 p3).map _).trans (E.wrs p0 p3)
 have hin2:In es (upF ds es f x.1):=fro_in hfro hlo
 refine ⟨hlen,hfro,rfl,hrow,?_⟩
 rw [ends_iff]
 intro c hc
 have hy:=List.getElem?_eq_getElem hc
 cases hu:es[c].uses
 ·obtain ⟨m,hm⟩:∃ m,es.length=m+1:=⟨es.length - 1,by omega⟩
  rw [hm,M.orig,val_none hy hu,if_pos (by omega)];rfl
 ·obtain ⟨a,ha,rfl⟩:=E.out c _ hy hu
  refine orig_any hin2 hc (m:=ds.length) ?_
  have:=(ends_iff ds x.1).1 h.fin a ha
  rw [E.orig R hin ds.length a ha]
  simpa using this
end
end M
end Go.Proofs.YtjjkicffhpcngaaGreat
