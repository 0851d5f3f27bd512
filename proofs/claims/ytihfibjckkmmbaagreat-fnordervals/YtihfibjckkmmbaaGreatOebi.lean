/- The events of one program among those of another one: the ways of the one are the ways of the other. Plainly. No condition but what is said. -/
import Derived.BigQuiet
import Derived.Deep.AppendLies
import Derived.Deep.MidRow
import Derived.Deep.Quiet
import Derived.Deep.QuietTactic
import Derived.Deep.RegionHeld3
import Derived.Deep.RegionLaw
import Derived.Laws.EntriesVeiled
import Derived.LoopN
import Derived.Shelf.Abstract
import Derived.Sort.Grow
import Derived.WalkKit
import Derived.WalkLawsBesides
import Derived.WalkSpells
import Derived.Deep.OwnRows
import Derived.Test.YtihfibjckkmmbaaGreatRows
import Derived.Test.YtihfibjckkmmbaaGreatOeau
import Derived.Test.YtihfibjckkmmbaaGreatOebh
namespace Go.Proofs.YtihfibjckkmmbaaGreat
namespace M
def up (f:Nat→Nat) (z:Int):Int:=if z < 0 then z else (f z.toNat:Int)
theorem up_nat (f:Nat→Nat) (n:Nat):up f (n:Int)=(f n:Int):=by unfold up;rw [if_neg (by omega)];simp
theorem up_neg {f:Nat→Nat} {z:Int} (h:z < 0):up f z=z:=by unfold up;rw [if_pos h]
structure Like (f:Nat→Nat) (g v:Int→Int) (x y:De):Prop where
 rd:y.reads=x.reads
 wr:M.writes y.d.k=M.writes x.d.k
 k3:(y.d.k==3)=(x.d.k==3)
 pl:x.uses=true→y.d.p=g x.d.p
 vl:y.d.v=v x.d.v
 lr:x.d.k=3→y.lr=up f x.lr
theorem Like.us {f:Nat→Nat} {g v:Int→Int} {x y:De} (h:Like f g v x y):y.uses=x.uses:=by
 show (M.reads y.d.k||M.writes y.d.k)=(M.reads x.d.k||M.writes x.d.k)
 rw [h.wr,show M.reads y.d.k=M.reads x.d.k from h.rd]
structure Emb (ds es:List De) (f:Nat→Nat) (g v:Int→Int):Prop where
 at_:∀ (a:Nat) (x:De),ds[a]?=some x→∃ y,es[f a]?=some y∧Like f g v x y
 inj:∀ a b,a < ds.length→b < ds.length→f a=f b→a=b
 out:∀ (c:Nat) (y:De),es[c]?=some y→y.uses=true→∃ a,a < ds.length∧f a=c
 pr:∀ x∈ds,x.uses=true→0≤x.d.p∧x.d.p < 3
 gi:∀ p:Int,0≤p→p < 3→0≤g p∧g p < 3
 gj:∀ p q:Int,0≤p→p < 3→0≤q→q < 3→g p=g q→p=q
 vz:v 0=0
 lro:∀ x∈ds,x.lr < ds.length
structure Rel (ds:List De) (f:Nat→Nat) (g:Int→Int) (x y:Wy):Prop where
 rd:∀ (a:Nat) (u:De),ds[a]?=some u→u.reads=true→y.1.getD (f a) 0=up f (x.1.getD a 0)
 row:∀ p:Int,0≤p→p < 3→y.2.getD (g p).toNat []=(x.2.getD p.toNat []).map (up f)
theorem lt_of_get {α:Type} {l:List α} {n:Nat} {x:α} (h:l[n]?=some x):n < l.length:=(List.getElem?_eq_some_iff.1 h).1
theorem mem_of_get {α:Type} {l:List α} {n:Nat} {x:α} (h:l[n]?=some x):x∈l:=List.mem_of_getElem? h
def Fro (ds:List De) (l:List Int):Prop:=∀ (a:Nat) (x:De),ds[a]?=some x→if x.reads then l.getD a 0=-1∨∃ (b:Nat) (y:De),l.getD a 0=(b:Int)∧ds[b]?=some y∧y.to x.d.p=true else l.getD a 0=-2
structure WO (ds:List De) (l:List Int) (rows:List (List Int)):Prop where
 len:l.length=ds.length
 fro:Fro ds l
 three:rows.length=3
 row:∀ p:Int,0≤p→p < 3→(rows.getD p.toNat []).Perm (wrs p 0 ds)
 fin:ends ds l=true
theorem perm_mem {a b:List Int} (ha:a.Nodup) (hb:b.Nodup) (h:∀ v,v∈a↔v∈b):a.Perm b:=perm_of a b ha (fun v hv=>(h v).1 hv) (nodup_le hb fun v hv=>(h v).2 hv)
theorem isRow_iff {row evs:List Int} (hn:evs.Nodup):isRow row evs=true↔row.Perm evs:=by
 simp only [isRow,Bool.and_eq_true,decide_eq_true_eq,List.all_eq_true]
 constructor
 ·rintro ⟨h1,h2⟩
  exact (perm_of evs row hn (fun v hv=>by simpa using h2 v hv) (by omega)).symm
 ·intro h
  exact ⟨h.length_eq,fun v hv=>by simpa using h.mem_iff.2 hv⟩
theorem wo_iff {ds:List De} {l:List Int} {rows:List (List Int)}:wayOk ds l rows=true↔WO ds l rows:=by
 simp only [wayOk,Bool.and_eq_true,fromOk,orderOk,decide_eq_true_eq]
 have fr:∀ (h:l.length=ds.length),fromAt ds ds l=true↔Fro ds l:=fun h=>by
  rw [fromAt_iff ds l h]
  constructor
  ·intro hk a x hx
   obtain ⟨ha,rfl⟩:=List.getElem?_eq_some_iff.1 hx
   have:=hk a ha
   rw [mayTell_iff] at this
   split at this
   ·rename_i hr
    rw [if_pos hr]
    refine this.imp id fun hm=>?_
    obtain ⟨i,hi,e,ht⟩:=mem_wrs.1 hm
    exact ⟨i,ds[i],by rw [e];simp,List.getElem?_eq_getElem hi,ht⟩
   ·rename_i hr
    rw [if_neg hr]
    exact this
  ·intro hk a ha
   have:=hk a _ (List.getElem?_eq_getElem ha)
   rw [mayTell_iff]
   split at this
   ·rename_i hr
    rw [if_pos hr]
    refine this.imp id fun ⟨b,y,e,hy,ht⟩=>?_
    obtain ⟨hb,rfl⟩:=List.getElem?_eq_some_iff.1 hy
    rw [e]
    exact mem_wrs.2 ⟨b,hb,by simp,ht⟩
   ·rename_i hr
    rw [if_neg hr]
    exact this
 have od:∀ (h:rows.length=3),orderAt ds 0 rows=true↔∀ p:Int,0≤p→p < 3→(rows.getD p.toNat []).Perm (wrs p 0 ds):=fun h=>by
  match rows,h with
  | [r0,r1,r2],_ =>
   simp only [orderAt,Bool.and_eq_true,and_true]
   rw [isRow_iff (nodup_wrs _ _ _),isRow_iff (nodup_wrs _ _ _),isRow_iff (nodup_wrs _ _ _)]
   constructor
   ·rintro ⟨h0,h1,h2⟩ p hp hp3
    rcases (show p=0∨p=1∨p=2 by omega) with rfl | rfl | rfl
    ·exact h0
    ·exact h1
    ·exact h2
   ·intro hk
    exact ⟨hk 0 (by omega) (by omega),hk 1 (by omega) (by omega),hk 2 (by omega) (by omega)⟩
 constructor
 ·rintro ⟨⟨h1,h2⟩,⟨h3,h4⟩,h5⟩
  exact ⟨h1,(fr h1).1 h2,h3,(od h3).1 h4,h5⟩
 ·intro h
  exact ⟨⟨h.len,(fr h.len).2 h.fro⟩,⟨h.three,(od h.three).2 h.row⟩,h.fin⟩
theorem fro_in {ds:List De} {l:List Int} (hf:Fro ds l) (hl:∀ x∈ds,x.lr < ds.length):In ds l:=fun n hn=>by
 have hx:=List.getElem?_eq_getElem hn
 unfold valFrom
 rw [hx]
 dsimp only
 have:=hf n _ hx
 split at this
 ·rename_i hr
  rw [if_pos hr]
  rcases this with e | ⟨b,y,e,hy,_⟩
  ·omega
  ·have:=lt_of_get hy;omega
 ·rename_i hr
  rw [if_neg hr]
  split
  ·exact hl _ (List.getElem_mem hn)
  ·omega
theorem WO.in_ {ds:List De} {l:List Int} {rows:List (List Int)} (h:WO ds l rows) (hl:∀ x∈ds,x.lr < ds.length):In ds l:=fro_in h.fro hl
theorem orig_any {ds:List De} {l:List Int} (hin:In ds l) {n m:Nat} (hn:n < ds.length) (h:(orig ds l m n).isSome=true):(orig ds l ds.length n).isSome=true:=by
 rw [orig_iff] at h ⊢
 obtain ⟨k,_,hk⟩:=h
 exact backQ_short hin hn k hk
section
variable {ds es : List De} {f : Nat → Nat} {g v : Int → Int}
theorem Emb.lt (E:Emb ds es f g v) {a:Nat} (h:a < ds.length):f a < es.length:=by
 obtain ⟨y,hy,_⟩:=E.at_ a _ (List.getElem?_eq_getElem h)
 exact lt_of_get hy
theorem Emb.val (E:Emb ds es f g v) {x y:Wy} (R:Rel ds f g x y) {a:Nat} (ha:a < ds.length):valFrom es y.1 (f a)=up f (valFrom ds x.1 a):=by
 have hx:=List.getElem?_eq_getElem ha
 obtain ⟨u,hu,L⟩:=E.at_ a _ hx
 unfold valFrom
 rw [hx,hu]
 dsimp only
 rw [L.rd,L.k3]
 cases hr:ds[a].reads
 ·simp only [Bool.false_eq_true,if_false]
  split
  ·rename_i h3
   exact L.lr (by simpa using h3)
  ·rw [up_neg (by omega)]
 ·simp only [if_true]
  exact R.rd a _ hx hr
theorem Emb.orig (E:Emb ds es f g v) {x y:Wy} (R:Rel ds f g x y) (hin:In ds x.1):∀ (m a:Nat),a < ds.length→M.orig es y.1 m (f a)=(M.orig ds x.1 m a).map f
 | 0,a,_=>rfl
 | m+1,a,ha=>by
  have hv:=E.val R ha
  have hl:=hin a ha
  rw [M.orig,M.orig,hv]
  by_cases h0:valFrom ds x.1 a < 0
  ·rw [if_pos h0,if_pos (by rw [up_neg h0];exact h0)];rfl
  ·obtain ⟨n,hn⟩:∃ n:Nat,valFrom ds x.1 a=n:=⟨(valFrom ds x.1 a).toNat,by omega⟩
   rw [hn] at hl ⊢
   rw [up_nat,if_neg (by omega),if_neg (by omega),Int.toNat_natCast,Int.toNat_natCast]
   exact Emb.orig E R hin m n (by omega)
theorem Emb.wrs (E:Emb ds es f g v) {p:Int} (h0:0≤p) (h3:p < 3):((M.wrs p 0 ds).map (up f)).Perm (M.wrs (g p) 0 es):=by
 refine perm_mem ?_ (nodup_wrs _ _ _) fun z=>?_
 ·rw [List.Nodup,List.pairwise_map]
  have hn:=nodup_wrs p ds 0
  refine List.Pairwise.imp_of_mem (fun {a b} ha hb hne e=>hne ?_) hn
  obtain ⟨i,hi,e1,_⟩:=mem_wrs.1 ha
  obtain ⟨j,hj,e2,_⟩:=mem_wrs.1 hb
  rw [e1,e2,up_nat,up_nat] at e
  have:=E.inj _ _ (by omega) (by omega) (by omega:f (0+i)=f (0+j))
  rw [e1,e2,this]
 ·rw [List.mem_map]
  constructor
  ·rintro ⟨a,ha,rfl⟩
   obtain ⟨i,hi,rfl,ht⟩:=mem_wrs.1 ha
   obtain ⟨y,hy,L⟩:=E.at_ i _ (List.getElem?_eq_getElem hi)
   obtain ⟨hc,rfl⟩:=List.getElem?_eq_some_iff.1 hy
   simp only [De.to,Bool.and_eq_true,beq_iff_eq] at ht
   rw [Nat.zero_add,up_nat]
   refine mem_wrs.2 ⟨f i,hc,by simp,?_⟩
   simp only [De.to,Bool.and_eq_true,beq_iff_eq]
   have hu:ds[i].uses=true:=by show (M.reads _||M.writes _)=true;rw [ht.1,Bool.or_true]
   exact ⟨L.wr.trans ht.1,(L.pl hu).trans (by rw [ht.2])⟩
  ·intro hz
   obtain ⟨c,hc,rfl,ht⟩:=mem_wrs.1 hz
   simp only [De.to,Bool.and_eq_true,beq_iff_eq] at ht
   have hu:es[c].uses=true:=by show (M.reads _||M.writes _)=true;rw [ht.1,Bool.or_true]
   obtain ⟨a,ha,rfl⟩:=E.out c _ (List.getElem?_eq_getElem hc) hu
   obtain ⟨y,hy,L⟩:=E.at_ a _ (List.getElem?_eq_getElem ha)
   rw [List.getElem?_eq_getElem hc] at hy
   obtain rfl:=Option.some.inj hy
   refine ⟨(a:Int),mem_wrs.2 ⟨a,ha,by simp,?_⟩,by rw [up_nat,Nat.zero_add]⟩
   simp only [De.to,Bool.and_eq_true,beq_iff_eq]
   have hu':ds[a].uses=true:=L.us▸hu
   have hp:=E.pr _ (List.getElem_mem ha) hu'
   exact ⟨L.wr▸ht.1,E.gj _ _ hp.1 hp.2 h0 h3 ((L.pl hu').symm.trans ht.2)⟩
def dn (ds:List De) (f:Nat→Nat) (z:Int):Int:=if z < 0 then z else match (List.range ds.length).find? (fun a=>f a==z.toNat) with | some a=>(a:Int) | none=>-1
theorem Emb.dn_up (E:Emb ds es f g v) {a:Nat} (ha:a < ds.length):dn ds f (f a:Int)=a:=by
 unfold dn
 rw [if_neg (by omega),Int.toNat_natCast]
 cases hf:(List.range ds.length).find? (fun b=>f b==f a) with
 | none =>
  have:=List.find?_eq_none.1 hf a (List.mem_range.2 ha)
  simp at this
 | some b =>
  have h1:=List.find?_some hf
  have h2:=List.mem_range.1 (List.mem_of_find?_eq_some hf)
  rw [E.inj b a h2 ha (by simpa using h1)]
def upF (ds es:List De) (f:Nat→Nat) (l:List Int):List Int:=(List.range es.length).map fun (c:Nat)=>if ((es[c]?).map De.reads).getD false then up f (l.getD (dn ds f c).toNat 0) else -2
def upO (g:Int→Int) (f:Nat→Nat) (rows:List (List Int)):List (List Int):=[(0:Int),1,2].map fun q=>match [(0:Int),1,2].find? (fun p=>g p==q) with | some p=>(rows.getD p.toNat []).map (up f) | none=>[]
theorem upF_at {l:List Int} {c:Nat} {y:De} (h:es[c]?=some y):(upF ds es f l).getD c 0=if y.reads then up f (l.getD (dn ds f c).toNat 0) else -2:=by
 have hc:=lt_of_get h
 obtain ⟨_,rfl⟩:=List.getElem?_eq_some_iff.1 h
 simp [upF,List.getD_eq_getElem?_getD,hc]
theorem Emb.upO_at (E:Emb ds es f g v) {rows:List (List Int)} {p:Int} (h0:0≤p) (h3:p < 3):(upO g f rows).getD (g p).toNat []=(rows.getD p.toNat []).map (up f):=by
 have hg:=E.gi p h0 h3
 have key:∀ q:Int,g p=q→([(0:Int),1,2].find? (fun p=>g p==q))=some p:=fun q hq=>by
  cases hf:[(0:Int),1,2].find? (fun p=>g p==q) with
  | none =>
   have:=List.find?_eq_none.1 hf p (by simp;omega)
   simp [hq] at this
  | some b =>
   have h1:=List.find?_some hf
   have h2:=List.mem_of_find?_eq_some hf
   have hb:0≤b∧b < 3:=by simp at h2;omega
   rw [E.gj b p hb.1 hb.2 h0 h3 (by rw [hq];simpa using h1)]
 rcases (show g p=0∨g p=1∨g p=2 by omega) with e | e | e
 ·have:=key 0 e
  rw [e]
  show (match [(0:Int),1,2].find? (fun p=>g p==0) with | some p=>(rows.getD p.toNat []).map (up f) | none=>[])=_
  rw [this]
 ·have:=key 1 e
  rw [e]
  show (match [(0:Int),1,2].find? (fun p=>g p==1) with | some p=>(rows.getD p.toNat []).map (up f) | none=>[])=_
  rw [this]
 ·have:=key 2 e
  rw [e]
  show (match [(0:Int),1,2].find? (fun p=>g p==2) with | some p=>(rows.getD p.toNat []).map (up f) | none=>[])=_
  rw [this]
theorem Emb.inv (E:Emb ds es f g v):∀ q:Int,0≤q→q < 3→∃ p,0≤p∧p < 3∧g p=q:=by
 have h0:=E.gi 0 (by omega) (by omega)
 have h1:=E.gi 1 (by omega) (by omega)
 have h2:=E.gi 2 (by omega) (by omega)
 have n01:g 0≠g 1:=fun e=>by have:=E.gj 0 1 (by omega) (by omega) (by omega) (by omega) e;omega
 have n02:g 0≠g 2:=fun e=>by have:=E.gj 0 2 (by omega) (by omega) (by omega) (by omega) e;omega
 have n12:g 1≠g 2:=fun e=>by have:=E.gj 1 2 (by omega) (by omega) (by omega) (by omega) e;omega
 intro q hq hq3
 by_cases e0:g 0=q
 ·exact ⟨0,by omega,by omega,e0⟩
 ·by_cases e1:g 1=q
  ·exact ⟨1,by omega,by omega,e1⟩
  ·exact ⟨2,by omega,by omega,by omega⟩
theorem Emb.relUp (E:Emb ds es f g v) (x:Wy):Rel ds f g x (upF ds es f x.1,upO g f x.2):=by
 refine ⟨fun a u hu hr=>?_,fun p h0 h3=>E.upO_at h0 h3⟩
 obtain ⟨y,hy,L⟩:=E.at_ a u hu
 show (upF ds es f x.1).getD (f a) 0=_
 rw [upF_at hy,L.rd,hr,if_pos rfl,E.dn_up (lt_of_get hu),Int.toNat_natCast]
theorem val_none {l:List Int} {c:Nat} {y:De} (h:es[c]?=some y) (hu:y.uses=false):valFrom es l c=-1:=by
 have hu':(M.reads y.d.k||M.writes y.d.k)=false:=hu
 rw [Bool.or_eq_false_iff] at hu'
 have h3:(y.d.k==3)=false:=by
  cases h3:(y.d.k==3)
  ·rfl
  ·have:y.d.k=3:=by simpa using h3
   have:=hu'.2
   simp [M.writes,h3] at this
 unfold valFrom
 rw [h]
 dsimp only
 rw [show y.reads=false from hu'.1,h3]
 rfl
theorem Emb.up_ok (E:Emb ds es f g v) (hlo:∀ y∈es,y.lr < es.length) {x:Wy} (h:WO ds x.1 x.2):WO es (upF ds es f x.1) (upO g f x.2):=by
 have R:=E.relUp x
 have hfro:Fro es (upF ds es f x.1):=by
  intro c y hy
  rw [upF_at hy]
  cases hr:y.reads
  ·simp
  ·simp only [if_true]
   obtain ⟨a,ha,rfl⟩:=E.out c y hy (by show (M.reads _||M.writes _)=true;rw [show M.reads y.d.k=true from hr,Bool.true_or])
   rw [E.dn_up ha,Int.toNat_natCast]
   have hx:=List.getElem?_eq_getElem ha
   obtain ⟨y',hy',L⟩:=E.at_ a _ hx
   rw [hy] at hy'
   obtain rfl:=Option.some.inj hy'
   have hra:ds[a].reads=true:=L.rd▸hr
   have hf:=h.fro a _ hx
   rw [if_pos hra] at hf
   rcases hf with e | ⟨b,z,e,hz,ht⟩
   ·rw [e];exact Or.inl (up_neg (by omega))
   ·rw [e,up_nat]
    obtain ⟨z',hz',L'⟩:=E.at_ b z hz
    refine Or.inr ⟨f b,z',rfl,hz',?_⟩
    simp only [De.to,Bool.and_eq_true,beq_iff_eq] at ht ⊢
    have huz:z.uses=true:=by show (M.reads _||M.writes _)=true;rw [ht.1,Bool.or_true]
    have hua:ds[a].uses=true:=by show (M.reads _||M.writes _)=true;rw [show M.reads ds[a].d.k=true from hra,Bool.true_or]
    exact ⟨L'.wr.trans ht.1,(L'.pl huz).trans (by rw [L.pl hua,ht.2])⟩
 have hlen:(upF ds es f x.1).length=es.length:=by simp [upF]
 have hin:=h.in_ E.lro
 have hrow:∀ p:Int,0≤p→p < 3→((upO g f x.2).getD p.toNat []).Perm (M.wrs p 0 es):=by
  intro q h0 h3
  obtain ⟨p,p0,p3,rfl⟩:=E.inv q h0 h3
  rw [E.upO_at p0 p3]
  exact ((h.row p p0 p3).map _).trans (E.wrs p0 p3)
 have hin2:In es (upF ds es f x.1):=fro_in hfro hlo
 refine ⟨hlen,hfro,rfl,hrow,?_⟩
 rw [ends_iff]
 intro c hc
 have hy:=List.getElem?_eq_getElem hc
 cases hu:es[c].uses
 ·obtain ⟨m,hm⟩:∃ m,es.length=m+1:=⟨es.length - 1,by omega⟩
  rw [hm,M.orig,val_none hy hu,if_pos (by omega)];rfl
 ·obtain ⟨a,ha,rfl⟩:=E.out c _ hy hu
  refine orig_any hin2 hc (m:=ds.length) ?_
  have:=(ends_iff ds x.1).1 h.fin a ha
  rw [E.orig R hin ds.length a ha]
  simpa using this
theorem Emb.read (E:Emb ds es f g v) {x y:Wy} (R:Rel ds f g x y) (hx:WO ds x.1 x.2) (hy:WO es y.1 y.2) {a b:Nat} (ha:a < ds.length) (hb:b < ds.length):M.read y.1 (f a) (f b)=M.read x.1 a b:=by
 unfold M.read
 have hxb:=List.getElem?_eq_getElem hb
 obtain ⟨z,hz,L⟩:=E.at_ b _ hxb
 have h1:=hx.fro b _ hxb
 have h2:=hy.fro (f b) z hz
 cases hr:ds[b].reads
 ·rw [hr,if_neg (by simp)] at h1
  rw [L.rd,hr,if_neg (by simp)] at h2
  rw [h1,h2]
  have e1:((-2:Int)==(f a:Int))=false:=by simp
  have e2:((-2:Int)==(a:Int))=false:=by simp
  rw [e1,e2]
 ·rw [R.rd b _ hxb hr]
  rw [if_pos hr] at h1
  rcases h1 with e | ⟨c,u,e,hu,_⟩
  ·rw [e,up_neg (by omega)]
   have e1:((-1:Int)==(f a:Int))=false:=by simp
   have e2:((-1:Int)==(a:Int))=false:=by simp
   rw [e1,e2]
  ·rw [e,up_nat]
   rw [Bool.eq_iff_iff,beq_iff_eq,beq_iff_eq]
   constructor
   ·intro h;have:=E.inj c a (lt_of_get hu) ha (by omega);omega
   ·intro h;have:c=a:=by omega
    rw [this]
theorem idx_map {h:Int→Int} {z:Int}:∀ {row:List Int},(∀ r∈row,h r=h z→r=z)→idx (row.map h) (h z)=idx row z:=by
 intro row hh
 have e:(row.map h).findIdx? (·==h z)=row.findIdx? (·==z):=by
  induction row with
  | nil=>rfl
  | cons r row ih =>
   have h1:=ih fun r hr=>hh r (List.mem_cons_of_mem _ hr)
   have h2:(h r==h z)=(r==z):=by
    rw [Bool.eq_iff_iff,beq_iff_eq,beq_iff_eq]
    exact ⟨hh r (List.mem_cons_self ..),fun e=>by rw [e]⟩
   rw [List.map_cons,List.findIdx?_cons,List.findIdx?_cons,h1,h2]
 unfold idx
 rw [e]
theorem Emb.up_inj (E:Emb ds es f g v) {y z:Int} (hy:y < ds.length) (hz:z < ds.length) (h:up f y=up f z):y=z:=by
 rcases Int.lt_or_le y 0 with h1 | h1
 ·rcases Int.lt_or_le z 0 with h2 | h2
  ·rwa [up_neg h1,up_neg h2] at h
  ·obtain ⟨n,rfl⟩:∃ n:Nat,z=n:=⟨z.toNat,by omega⟩
   rw [up_neg h1,up_nat] at h;omega
 ·obtain ⟨m,rfl⟩:∃ n:Nat,y=n:=⟨y.toNat,by omega⟩
  rcases Int.lt_or_le z 0 with h2 | h2
  ·rw [up_neg h2,up_nat] at h;omega
  ·obtain ⟨n,rfl⟩:∃ n:Nat,z=n:=⟨z.toNat,by omega⟩
   rw [up_nat,up_nat] at h
   have:=E.inj m n (by omega) (by omega) (by omega)
   omega
theorem Emb.over (E:Emb ds es f g v) {x y:Wy} (R:Rel ds f g x y) (hx:WO ds x.1 x.2) {a b:Nat} {s t s' t':De} (ha:ds[a]?=some s) (hb:ds[b]?=some t) (ha':es[f a]?=some s') (hb':es[f b]?=some t'):M.over y.1 y.2 (f a) (f b) s' t'=M.over x.1 x.2 a b s t:=by
 obtain ⟨u,hu,L⟩:=E.at_ a s ha
 rw [ha'] at hu
 obtain rfl:=Option.some.inj hu
 obtain ⟨u,hu,K⟩:=E.at_ b t hb
 rw [hb'] at hu
 obtain rfl:=Option.some.inj hu
 unfold M.over
 have one:onePl s' t'=onePl s t:=by
  unfold onePl
  rw [L.us,K.us]
  cases hs:s.uses
  ·rfl
  ·cases ht:t.uses
   ·rfl
   ·have p1:=E.pr _ (mem_of_get ha) hs
    have p2:=E.pr _ (mem_of_get hb) ht
    rw [L.pl hs,K.pl ht]
    simp only [Bool.true_and]
    rw [Bool.eq_iff_iff,beq_iff_eq,beq_iff_eq]
    exact ⟨fun e=>E.gj _ _ p1.1 p1.2 p2.1 p2.2 e,fun e=>by rw [e]⟩
 rw [one,K.wr]
 cases ho:onePl s t
 ·rfl
 ·cases hw:M.writes t.d.k
  ·rfl
  ·simp only [Bool.true_and]
   simp only [onePl,Bool.and_eq_true,beq_iff_eq] at ho
   have hu2:=ho.2.1
   have p2:=E.pr _ (mem_of_get hb) hu2
   rw [K.pl hu2,R.row _ p2.1 p2.2]
   have hperm:=hx.row t.d.p p2.1 p2.2
   have hmem:∀ r∈x.2.getD t.d.p.toNat [],r < ds.length:=fun r hr=>by
    obtain ⟨i,hi,rfl,_⟩:=mem_wrs.1 (hperm.mem_iff.1 hr);omega
   have hwl:wrote x.1 a s < ds.length:=by
    have h1:=hx.fro a s ha
    unfold wrote
    split
    ·rename_i hr
     rw [if_pos (show s.reads=true from hr)] at h1
     rcases h1 with e | ⟨c,u,e,hc,_⟩
     ·omega
     ·have:=lt_of_get hc;omega
    ·have:=lt_of_get ha;omega
   have hwr:wrote y.1 (f a) s'=up f (wrote x.1 a s):=by
    unfold wrote
    rw [show M.reads s'.d.k=M.reads s.d.k from L.rd]
    split
    ·rename_i hr
     exact R.rd a s ha hr
    ·rw [up_nat]
   have hbl:=lt_of_get hb
   rw [hwr,← up_nat,idx_map fun r hr=>E.up_inj (hmem r hr) hwl,idx_map fun r hr=>E.up_inj (hmem r hr) (by omega)]
theorem Emb.vl (E:Emb ds es f g v) {x y:Wy} (R:Rel ds f g x y) (hx:WO ds x.1 x.2) (hy:WO es y.1 y.2) (hlo:∀ y∈es,y.lr < es.length) (hz:∀ x∈ds,x.reads=true∨x.d.k=3→x.d.v=0) (hz':∀ x∈es,x.reads=true∨x.d.k=3→x.d.v=0) {a:Nat} (ha:a < ds.length):M.vl es y.1 (f a)=v (M.vl ds x.1 a):=by
 have hin:=hx.in_ E.lro
 obtain ⟨q,hq,e1,e2⟩:=vl_of hin hx.len hz hx.fin a ha
 obtain ⟨q',hq',e3,e4⟩:=vl_of (hy.in_ hlo) hy.len hz' hy.fin (f a) (E.lt ha)
 have e5:=E.orig R hin ds.length a ha
 rw [e1] at e5
 have e6:=orig_mono _ (ds.length+es.length) _ _ (by omega) e5
 have e7:=orig_mono _ (ds.length+es.length) _ _ (by omega) e3
 rw [e6] at e7
 have e8:f q=q':=Option.some.inj e7
 subst e8
 rw [e2,e4]
 obtain ⟨u,hu,L⟩:=E.at_ q _ (List.getElem?_eq_getElem hq)
 rw [List.getElem?_eq_getElem hq'] at hu
 obtain rfl:=Option.some.inj hu
 exact L.vl
theorem lastD_map {h:Int→Int} {d:Int} (row:List Int):(row.map h).getLastD (h d)=h (row.getLastD d):=by
 rw [List.getLastD_eq_getLast?,List.getLastD_eq_getLast?,List.getLast?_map]
 cases row.getLast?<;>rfl
theorem Emb.last (E:Emb ds es f g v) {x y:Wy} (R:Rel ds f g x y) (hx:WO ds x.1 x.2) (hy:WO es y.1 y.2) (hlo:∀ y∈es,y.lr < es.length) (hz:∀ x∈ds,x.reads=true∨x.d.k=3→x.d.v=0) (hz':∀ x∈es,x.reads=true∨x.d.k=3→x.d.v=0) {p:Int} (h0:0≤p) (h3:p < 3):lastOf es y.1 (y.2.getD (g p).toNat [])=v (lastOf ds x.1 (x.2.getD p.toNat [])):=by
 rw [R.row p h0 h3]
 have hperm:=hx.row p h0 h3
 generalize x.2.getD p.toNat []=row at *
 cases hr:row with
 | nil=>rw [List.map_nil,last_nil,last_nil,E.vz]
 | cons r rs =>
  have hl:row.getLastD (-1)∈row:=by
   rw [List.getLastD_eq_getLast?,List.getLast?_eq_some_getLast (by rw [hr];simp)]
   exact List.getLast_mem _
  rw [← hr]
  unfold lastOf
  have e:=lastD_map (h:=up f) (d:=-1) row
  rw [up_neg (show (-1:Int) < 0 by omega)] at e
  rw [e]
  obtain ⟨i,hi,e2,_⟩:=mem_wrs.1 (hperm.mem_iff.1 hl)
  rw [e2,Nat.zero_add,up_nat]
  exact E.vl R hx hy hlo hz hz' hi
end
end M
end Go.Proofs.YtihfibjckkmmbaaGreat
