/- The events of one program among those of another one: the ways of the one are the ways of the other. Plainly. No condition but what is said. And what goes with it: EmbMath, WaPut, WaFw, WaSpec. -/
import Derived.Deep.OwnRows
import Derived.Test.YtjjkicffhpcngaaGreatBWaw
import Derived.Test.YtjjkicffhpcngaaGreatBWax
import Derived.Test.YtjjkicffhpcngaaGreatBWay
namespace Go.Proofs.YtjjkicffhpcngaaGreat
namespace M
def up (f:Nat→Nat) (z:Int):Int:=if z < 0 then z else (f z.toNat:Int)
theorem up_nat (f:Nat→Nat) (n:Nat):up f (n:Int)=(f n:Int):=by unfold up;rw [if_neg (by omega)];simp
theorem up_neg {f:Nat→Nat} {z:Int} (h:z < 0):up f z=z:=by unfold up;rw [if_pos h]
structure Like (f:Nat→Nat) (g v:Int→Int) (x y:De):Prop where
 rd:y.reads=x.reads
 wr:M.writes y.d.k=M.writes x.d.k
 k3:(y.d.k==3)=(x.d.k==3)
 pl:x.uses=true→y.d.p=g x.d.p
 vl:y.d.v=v x.d.v
 lr:x.d.k=3→y.lr=up f x.lr
theorem Like.us {f:Nat→Nat} {g v:Int→Int} {x y:De} (h:Like f g v x y):y.uses=x.uses:=by
 show (M.reads y.d.k||M.writes y.d.k)=(M.reads x.d.k||M.writes x.d.k)
 rw [h.wr,show M.reads y.d.k=M.reads x.d.k from h.rd]
structure Emb (ds es:List De) (f:Nat→Nat) (g v:Int→Int):Prop where
 at_:∀ (a:Nat) (x:De),ds[a]?=some x→∃ y,es[f a]?=some y∧Like f g v x y
 inj:∀ a b,a < ds.length→b < ds.length→f a=f b→a=b
 out:∀ (c:Nat) (y:De),es[c]?=some y→y.uses=true→∃ a,a < ds.length∧f a=c
 pr:∀ x∈ds,x.uses=true→0≤x.d.p∧x.d.p < 3
 gi:∀ p:Int,0≤p→p < 3→0≤g p∧g p < 3
 gj:∀ p q:Int,0≤p→p < 3→0≤q→q < 3→g p=g q→p=q
 vz:v 0=0
 lro:∀ x∈ds,x.lr < ds.length
structure Rel (ds:List De) (f:Nat→Nat) (g:Int→Int) (x y:Wy):Prop where
 rd:∀ (a:Nat) (u:De),ds[a]?=some u→u.reads=true→y.1.getD (f a) 0=up f (x.1.getD a 0)
 row:∀ p:Int,0≤p→p < 3→y.2.getD (g p).toNat []=(x.2.getD p.toNat []).map (up f)
theorem lt_of_get {α:Type} {l:List α} {n:Nat} {x:α} (h:l[n]?=some x):n < l.length:=(List.getElem?_eq_some_iff.1 h).1
theorem mem_of_get {α:Type} {l:List α} {n:Nat} {x:α} (h:l[n]?=some x):x∈l:=List.mem_of_getElem? h
def Fro (ds:List De) (l:List Int):Prop:=∀ (a:Nat) (x:De),ds[a]?=some x→if x.reads then l.getD a 0=-1∨∃ (b:Nat) (y:De),l.getD a 0=(b:Int)∧ds[b]?=some y∧y.to x.d.p=true else l.getD a 0=-2
structure WO (ds:List De) (l:List Int) (rows:List (List Int)):Prop where
 len:l.length=ds.length
 fro:Fro ds l
 three:rows.length=3
 row:∀ p:Int,0≤p→p < 3→(rows.getD p.toNat []).Perm (wrs p 0 ds)
 fin:ends ds l=true
theorem perm_mem {a b:List Int} (ha:a.Nodup) (hb:b.Nodup) (h:∀ v,v∈a↔v∈b):a.Perm b:=perm_of a b ha (fun v hv=>(h v).1 hv) (nodup_le hb fun v hv=>(h v).2 hv)
theorem isRow_iff {row evs:List Int} (hn:evs.Nodup):isRow row evs=true↔row.Perm evs:=by
 simp only [isRow,Bool.and_eq_true,decide_eq_true_eq,List.all_eq_true]
 constructor
 ·rintro ⟨h1,h2⟩
  exact (perm_of evs row hn (fun v hv=>by simpa using h2 v hv) (by omega)).symm
 ·intro h
  exact ⟨h.length_eq,fun v hv=>by simpa using h.mem_iff.2 hv⟩
theorem wo_iff {ds:List De} {l:List Int} {rows:List (List Int)}:wayOk ds l rows=true↔WO ds l rows:=by
 simp only [wayOk,Bool.and_eq_true,fromOk,orderOk,decide_eq_true_eq]
 have fr:∀ (h:l.length=ds.length),fromAt ds ds l=true↔Fro ds l:=fun h=>by
  rw [fromAt_iff ds l h]
  constructor
  ·intro hk a x hx
   obtain ⟨ha,rfl⟩:=List.getElem?_eq_some_iff.1 hx
   have:=hk a ha
   rw [mayTell_iff] at this
   split at this
   ·rename_i hr
    rw [if_pos hr]
    refine this.imp id fun hm=>?_
    obtain ⟨i,hi,e,ht⟩:=mem_wrs.1 hm
    exact ⟨i,ds[i],by rw [e];simp,List.getElem?_eq_getElem hi,ht⟩
   ·rename_i hr
    rw [if_neg hr]
    exact this
  ·intro hk a ha
   have:=hk a _ (List.getElem?_eq_getElem ha)
   rw [mayTell_iff]
   split at this
   ·rename_i hr
    rw [if_pos hr]
    refine this.imp id fun ⟨b,y,e,hy,ht⟩=>?_
    obtain ⟨hb,rfl⟩:=List.getElem?_eq_some_iff.1 hy
    rw [e]
    exact mem_wrs.2 ⟨b,hb,by simp,ht⟩
   ·rename_i hr
    rw [if_neg hr]
    exact this
 have od:∀ (h:rows.length=3),orderAt ds 0 rows=true↔∀ p:Int,0≤p→p < 3→(rows.getD p.toNat []).Perm (wrs p 0 ds):=fun h=>by
  match rows,h with
  | [r0,r1,r2],_ =>
   simp only [orderAt,Bool.and_eq_true,and_true]
   rw [isRow_iff (nodup_wrs _ _ _),isRow_iff (nodup_wrs _ _ _),isRow_iff (nodup_wrs _ _ _)]
   constructor
   ·rintro ⟨h0,h1,h2⟩ p hp hp3
    rcases (show p=0∨p=1∨p=2 by omega) with rfl | rfl | rfl
    ·exact h0
    ·exact h1
    ·exact h2
   ·intro hk
    exact ⟨hk 0 (by omega) (by omega),hk 1 (by omega) (by omega),hk 2 (by omega) (by omega)⟩
 constructor
 ·rintro ⟨⟨h1,h2⟩,⟨h3,h4⟩,h5⟩
  exact ⟨h1,(fr h1).1 h2,h3,(od h3).1 h4,h5⟩
 ·intro h
  exact ⟨⟨h.len,(fr h.len).2 h.fro⟩,⟨h.three,(od h.three).2 h.row⟩,h.fin⟩
theorem fro_in {ds:List De} {l:List Int} (hf:Fro ds l) (hl:∀ x∈ds,x.lr < ds.length):In ds l:=fun n hn=>by
 have hx:=List.getElem?_eq_getElem hn
 unfold valFrom
 rw [hx]
 dsimp only
 have:=hf n _ hx
 split at this
 ·rename_i hr
  rw [if_pos hr]
  rcases this with e | ⟨b,y,e,hy,_⟩
  ·omega
  ·have:=lt_of_get hy;omega
 ·rename_i hr
  rw [if_neg hr]
  split
  ·exact hl _ (List.getElem_mem hn)
  ·omega
theorem WO.in_ {ds:List De} {l:List Int} {rows:List (List Int)} (h:WO ds l rows) (hl:∀ x∈ds,x.lr < ds.length):In ds l:=fro_in h.fro hl
theorem orig_any {ds:List De} {l:List Int} (hin:In ds l) {n m:Nat} (hn:n < ds.length) (h:(orig ds l m n).isSome=true):(orig ds l ds.length n).isSome=true:=by
 rw [orig_iff] at h ⊢
 obtain ⟨k,_,hk⟩:=h
 exact backQ_short hin hn k hk
section
variable {ds es : List De} {f : Nat → Nat} {g v : Int → Int}
theorem Emb.lt (E:Emb ds es f g v) {a:Nat} (h:a < ds.length):f a < es.length:=by
 obtain ⟨y,hy,_⟩:=E.at_ a _ (List.getElem?_eq_getElem h)
 exact lt_of_get hy
theorem Emb.val (E:Emb ds es f g v) {x y:Wy} (R:Rel ds f g x y) {a:Nat} (ha:a < ds.length):valFrom es y.1 (f a)=up f (valFrom ds x.1 a):=by
 have hx:=List.getElem?_eq_getElem ha
 obtain ⟨u,hu,L⟩:=E.at_ a _ hx
 unfold valFrom
 rw [hx,hu]
 dsimp only
 rw [L.rd,L.k3]
 cases hr:ds[a].reads
 ·simp only [Bool.false_eq_true,if_false]
  split
  ·rename_i h3
   exact L.lr (by simpa using h3)
  ·rw [up_neg (by omega)]
 ·simp only [if_true]
  exact R.rd a _ hx hr
theorem Emb.orig (E:Emb ds es f g v) {x y:Wy} (R:Rel ds f g x y) (hin:In ds x.1):∀ (m a:Nat),a < ds.length→M.orig es y.1 m (f a)=(M.orig ds x.1 m a).map f
 | 0,a,_=>rfl
 | m+1,a,ha=>by
  have hv:=E.val R ha
  have hl:=hin a ha
  rw [M.orig,M.orig,hv]
  by_cases h0:valFrom ds x.1 a < 0
  ·rw [if_pos h0,if_pos (by rw [up_neg h0];exact h0)];rfl
  ·obtain ⟨n,hn⟩:∃ n:Nat,valFrom ds x.1 a=n:=⟨(valFrom ds x.1 a).toNat,by omega⟩
   rw [hn] at hl ⊢
   rw [up_nat,if_neg (by omega),if_neg (by omega),Int.toNat_natCast,Int.toNat_natCast]
   exact Emb.orig E R hin m n (by omega)
theorem Emb.wrs (E:Emb ds es f g v) {p:Int} (h0:0≤p) (h3:p < 3):((M.wrs p 0 ds).map (up f)).Perm (M.wrs (g p) 0 es):=by
 refine perm_mem ?_ (nodup_wrs _ _ _) fun z=>?_
 ·rw [List.Nodup,List.pairwise_map]
  have hn:=nodup_wrs p ds 0
  refine List.Pairwise.imp_of_mem (fun {a b} ha hb hne e=>hne ?_) hn
  obtain ⟨i,hi,e1,_⟩:=mem_wrs.1 ha
  obtain ⟨j,hj,e2,_⟩:=mem_wrs.1 hb
  rw [e1,e2,up_nat,up_nat] at e
  have:=E.inj _ _ (by omega) (by omega) (by omega:f (0+i)=f (0+j))
  rw [e1,e2,this]
 ·rw [List.mem_map]
  constructor
  ·rintro ⟨a,ha,rfl⟩
   obtain ⟨i,hi,rfl,ht⟩:=mem_wrs.1 ha
   obtain ⟨y,hy,L⟩:=E.at_ i _ (List.getElem?_eq_getElem hi)
   obtain ⟨hc,rfl⟩:=List.getElem?_eq_some_iff.1 hy
   simp only [De.to,Bool.and_eq_true,beq_iff_eq] at ht
   rw [Nat.zero_add,up_nat]
   refine mem_wrs.2 ⟨f i,hc,by simp,?_⟩
   simp only [De.to,Bool.and_eq_true,beq_iff_eq]
   have hu:ds[i].uses=true:=by show (M.reads _||M.writes _)=true;rw [ht.1,Bool.or_true]
   exact ⟨L.wr.trans ht.1,(L.pl hu).trans (by rw [ht.2])⟩
  ·intro hz
   obtain ⟨c,hc,rfl,ht⟩:=mem_wrs.1 hz
   simp only [De.to,Bool.and_eq_true,beq_iff_eq] at ht
   have hu:es[c].uses=true:=by show (M.reads _||M.writes _)=true;rw [ht.1,Bool.or_true]
   obtain ⟨a,ha,rfl⟩:=E.out c _ (List.getElem?_eq_getElem hc) hu
   obtain ⟨y,hy,L⟩:=E.at_ a _ (List.getElem?_eq_getElem ha)
   rw [List.getElem?_eq_getElem hc] at hy
   obtain rfl:=Option.some.inj hy
   refine ⟨(a:Int),mem_wrs.2 ⟨a,ha,by simp,?_⟩,by rw [up_nat,Nat.zero_add]⟩
   simp only [De.to,Bool.and_eq_true,beq_iff_eq]
   have hu':ds[a].uses=true:=L.us▸hu
   have hp:=E.pr _ (List.getElem_mem ha) hu'
   exact ⟨L.wr▸ht.1,E.gj _ _ hp.1 hp.2 h0 h3 ((L.pl hu').symm.trans ht.2)⟩
def dn (ds:List De) (f:Nat→Nat) (z:Int):Int:=if z < 0 then z else match (List.range ds.length).find? (fun a=>f a==z.toNat) with | some a=>(a:Int) | none=>-1
theorem Emb.dn_up (E:Emb ds es f g v) {a:Nat} (ha:a < ds.length):dn ds f (f a:Int)=a:=by
 unfold dn
 rw [if_neg (by omega),Int.toNat_natCast]
 cases hf:(List.range ds.length).find? (fun b=>f b==f a) with
 | none =>
  have:=List.find?_eq_none.1 hf a (List.mem_range.2 ha)
  simp at this
 | some b =>
  have h1:=List.find?_some hf
  have h2:=List.mem_range.1 (List.mem_of_find?_eq_some hf)
  rw [E.inj b a h2 ha (by simpa using h1)]
theorem dn_neg {z:Int} (h:z < 0):dn ds f z=z:=by unfold dn;rw [if_pos h]
def upF (ds es:List De) (f:Nat→Nat) (l:List Int):List Int:=(List.range es.length).map fun (c:Nat)=>if ((es[c]?).map De.reads).getD false then up f (l.getD (dn ds f c).toNat 0) else -2
def upO (g:Int→Int) (f:Nat→Nat) (rows:List (List Int)):List (List Int):=[(0:Int),1,2].map fun q=>match [(0:Int),1,2].find? (fun p=>g p==q) with | some p=>(rows.getD p.toNat []).map (up f) | none=>[]
def dnF (ds:List De) (f:Nat→Nat) (l:List Int):List Int:=(List.range ds.length).map fun (a:Nat)=>if ((ds[a]?).map De.reads).getD false then dn ds f (l.getD (f a) 0) else -2
def dnO (ds:List De) (g:Int→Int) (f:Nat→Nat) (rows:List (List Int)):List (List Int):=[(0:Int),1,2].map fun p=>(rows.getD (g p).toNat []).map (dn ds f)
theorem upF_at {l:List Int} {c:Nat} {y:De} (h:es[c]?=some y):(upF ds es f l).getD c 0=if y.reads then up f (l.getD (dn ds f c).toNat 0) else -2:=by
 have hc:=lt_of_get h
 obtain ⟨_,rfl⟩:=List.getElem?_eq_some_iff.1 h
 simp [upF,List.getD_eq_getElem?_getD,hc]
theorem dnF_at {l:List Int} {a:Nat} {x:De} (h:ds[a]?=some x):(dnF ds f l).getD a 0=if x.reads then dn ds f (l.getD (f a) 0) else -2:=by
 have hc:=lt_of_get h
 obtain ⟨_,rfl⟩:=List.getElem?_eq_some_iff.1 h
 simp [dnF,List.getD_eq_getElem?_getD,hc]
theorem Emb.upO_at (E:Emb ds es f g v) {rows:List (List Int)} {p:Int} (h0:0≤p) (h3:p < 3):(upO g f rows).getD (g p).toNat []=(rows.getD p.toNat []).map (up f):=by
 have hg:=E.gi p h0 h3
 have key:∀ q:Int,g p=q→([(0:Int),1,2].find? (fun p=>g p==q))=some p:=fun q hq=>by
  cases hf:[(0:Int),1,2].find? (fun p=>g p==q) with
  | none =>
   have:=List.find?_eq_none.1 hf p (by simp;omega)
   simp [hq] at this
  | some b =>
   have h1:=List.find?_some hf
   have h2:=List.mem_of_find?_eq_some hf
   have hb:0≤b∧b < 3:=by simp at h2;omega
   rw [E.gj b p hb.1 hb.2 h0 h3 (by rw [hq];simpa using h1)]
 rcases (show g p=0∨g p=1∨g p=2 by omega) with e | e | e
 ·have:=key 0 e
  rw [e]
  show (match [(0:Int),1,2].find? (fun p=>g p==0) with | some p=>(rows.getD p.toNat []).map (up f) | none=>[])=_
  rw [this]
 ·have:=key 1 e
  rw [e]
  show (match [(0:Int),1,2].find? (fun p=>g p==1) with | some p=>(rows.getD p.toNat []).map (up f) | none=>[])=_
  rw [this]
 ·have:=key 2 e
  rw [e]
  show (match [(0:Int),1,2].find? (fun p=>g p==2) with | some p=>(rows.getD p.toNat []).map (up f) | none=>[])=_
  rw [this]
theorem Emb.inv (E:Emb ds es f g v):∀ q:Int,0≤q→q < 3→∃ p,0≤p∧p < 3∧g p=q:=by
 have h0:=E.gi 0 (by omega) (by omega)
 have h1:=E.gi 1 (by omega) (by omega)
 have h2:=E.gi 2 (by omega) (by omega)
 have n01:g 0≠g 1:=fun e=>by have:=E.gj 0 1 (by omega) (by omega) (by omega) (by omega) e;omega
 have n02:g 0≠g 2:=fun e=>by have:=E.gj 0 2 (by omega) (by omega) (by omega) (by omega) e;omega
 have n12:g 1≠g 2:=fun e=>by have:=E.gj 1 2 (by omega) (by omega) (by omega) (by omega) e;omega
 intro q hq hq3
 by_cases e0:g 0=q
 ·exact ⟨0,by omega,by omega,e0⟩
 ·by_cases e1:g 1=q
  ·exact ⟨1,by omega,by omega,e1⟩
  ·exact ⟨2,by omega,by omega,by omega⟩
theorem Emb.relUp (E:Emb ds es f g v) (x:Wy):Rel ds f g x (upF ds es f x.1,upO g f x.2):=by
 refine ⟨fun a u hu hr=>?_,fun p h0 h3=>E.upO_at h0 h3⟩
 obtain ⟨y,hy,L⟩:=E.at_ a u hu
 show (upF ds es f x.1).getD (f a) 0=_
 rw [upF_at hy,L.rd,hr,if_pos rfl,E.dn_up (lt_of_get hu),Int.toNat_natCast]
theorem val_none {l:List Int} {c:Nat} {y:De} (h:es[c]?=some y) (hu:y.uses=false):valFrom es l c=-1:=by
 have hu':(M.reads y.d.k||M.writes y.d.k)=false:=hu
 rw [Bool.or_eq_false_iff] at hu'
 have h3:(y.d.k==3)=false:=by
  cases h3:(y.d.k==3)
  ·rfl
  ·have:y.d.k=3:=by simpa using h3
   have:=hu'.2
   simp [M.writes,h3] at this
 unfold valFrom
 rw [h]
 dsimp only
 rw [show y.reads=false from hu'.1,h3]
 rfl
theorem Emb.up_ok (E:Emb ds es f g v) (hlo:∀ y∈es,y.lr < es.length) {x:Wy} (h:WO ds x.1 x.2):WO es (upF ds es f x.1) (upO g f x.2):=by
 have R:=E.relUp x
 have hfro:Fro es (upF ds es f x.1):=by
  intro c y hy
  rw [upF_at hy]
  cases hr:y.reads
  ·simp
  ·simp only [if_true]
   obtain ⟨a,ha,rfl⟩:=E.out c y hy (by show (M.reads _||M.writes _)=true;rw [show M.reads y.d.k=true from hr,Bool.true_or])
   rw [E.dn_up ha,Int.toNat_natCast]
   have hx:=List.getElem?_eq_getElem ha
   obtain ⟨y',hy',L⟩:=E.at_ a _ hx
   rw [hy] at hy'
   obtain rfl:=Option.some.inj hy'
   have hra:ds[a].reads=true:=L.rd▸hr
   have hf:=h.fro a _ hx
   rw [if_pos hra] at hf
   rcases hf with e | ⟨b,z,e,hz,ht⟩
   ·rw [e];exact Or.inl (up_neg (by omega))
   ·rw [e,up_nat]
    obtain ⟨z',hz',L'⟩:=E.at_ b z hz
    refine Or.inr ⟨f b,z',rfl,hz',?_⟩
    simp only [De.to,Bool.and_eq_true,beq_iff_eq] at ht ⊢
    have huz:z.uses=true:=by show (M.reads _||M.writes _)=true;rw [ht.1,Bool.or_true]
    have hua:ds[a].uses=true:=by show (M.reads _||M.writes _)=true;rw [show M.reads ds[a].d.k=true from hra,Bool.true_or]
    exact ⟨L'.wr.trans ht.1,(L'.pl huz).trans (by rw [L.pl hua,ht.2])⟩
 have hlen:(upF ds es f x.1).length=es.length:=by simp [upF]
 have hin:=h.in_ E.lro
 have hrow:∀ p:Int,0≤p→p < 3→((upO g f x.2).getD p.toNat []).Perm (M.wrs p 0 es):=by
  intro q h0 h3
  obtain ⟨p,p0,p3,rfl⟩:=E.inv q h0 h3
  rw [E.upO_at p0 p3]
  exact ((h.row p p0 p3).map _).trans (E.wrs p0 p3)
 have hin2:In es (upF ds es f x.1):=fro_in hfro hlo
 refine ⟨hlen,hfro,rfl,hrow,?_⟩
 rw [ends_iff]
 intro c hc
 have hy:=List.getElem?_eq_getElem hc
 cases hu:es[c].uses
 ·obtain ⟨m,hm⟩:∃ m,es.length=m+1:=⟨es.length - 1,by omega⟩
  rw [hm,M.orig,val_none hy hu,if_pos (by omega)];rfl
 ·obtain ⟨a,ha,rfl⟩:=E.out c _ hy hu
  refine orig_any hin2 hc (m:=ds.length) ?_
  have:=(ends_iff ds x.1).1 h.fin a ha
  rw [E.orig R hin ds.length a ha]
  simpa using this
theorem Emb.relDn (E:Emb ds es f g v) {y:Wy} (h:WO es y.1 y.2):Rel ds f g (dnF ds f y.1,dnO ds g f y.2) y:=by
 have ud:∀ z:Int,(z < 0∨∃ a,a < ds.length∧z=(f a:Int))→up f (dn ds f z)=z:=by
  rintro z (h | ⟨a,ha,rfl⟩)
  ·rw [dn_neg h,up_neg h]
  ·rw [E.dn_up ha,up_nat]
 refine ⟨fun a u hu hr=>?_,fun p h0 h3=>?_⟩
 ·show _=up f ((dnF ds f y.1).getD a 0)
  rw [dnF_at hu,hr,if_pos rfl,ud]
  obtain ⟨z,hz,L⟩:=E.at_ a u hu
  have:=h.fro (f a) z hz
  rw [if_pos (L.rd.trans hr)] at this
  rcases this with e | ⟨b,c,e,hc,ht⟩
  ·exact Or.inl (by omega)
  ·simp only [De.to,Bool.and_eq_true] at ht
   obtain ⟨a',ha',rfl⟩:=E.out b c hc (by show (M.reads _||M.writes _)=true;rw [ht.1,Bool.or_true])
   exact Or.inr ⟨a',ha',e⟩
 ·show y.2.getD (g p).toNat []=((dnO ds g f y.2).getD p.toNat []).map (up f)
  have e:(dnO ds g f y.2).getD p.toNat []=(y.2.getD (g p).toNat []).map (dn ds f):=by
   rcases (show p=0∨p=1∨p=2 by omega) with rfl | rfl | rfl<;>rfl
  rw [e,List.map_map]
  have hp:=h.row (g p) (E.gi p h0 h3).1 (E.gi p h0 h3).2
  have hc:(y.2.getD (g p).toNat []).map (up f ∘ dn ds f)=(y.2.getD (g p).toNat []).map id:=List.map_congr_left fun z hz=>by
   obtain ⟨c,hc,rfl,ht⟩:=mem_wrs.1 (hp.mem_iff.1 hz)
   simp only [De.to,Bool.and_eq_true] at ht
   obtain ⟨a',ha',rfl⟩:=E.out c _ (List.getElem?_eq_getElem hc) (by show (M.reads _||M.writes _)=true;rw [ht.1,Bool.or_true])
   exact ud _ (Or.inr ⟨a',ha',by rw [Nat.zero_add]⟩)
  rw [hc,List.map_id]
theorem Emb.dn_ok (E:Emb ds es f g v) {y:Wy} (h:WO es y.1 y.2):WO ds (dnF ds f y.1) (dnO ds g f y.2):=by
 have R:=E.relDn h
 have hfro:Fro ds (dnF ds f y.1):=by
  intro a x hx
  rw [dnF_at hx]
  cases hr:x.reads
  ·simp
  ·simp only [if_true]
   obtain ⟨z,hz,L⟩:=E.at_ a x hx
   have hf:=h.fro (f a) z hz
   rw [if_pos (L.rd.trans hr)] at hf
   rcases hf with e | ⟨b,c,e,hc,ht⟩
   ·rw [e];exact Or.inl (dn_neg (by omega))
   ·simp only [De.to,Bool.and_eq_true,beq_iff_eq] at ht
    have huc:c.uses=true:=by show (M.reads _||M.writes _)=true;rw [ht.1,Bool.or_true]
    obtain ⟨a',ha',rfl⟩:=E.out b c hc huc
    rw [e,E.dn_up ha']
    have hx':=List.getElem?_eq_getElem ha'
    obtain ⟨c',hc',L'⟩:=E.at_ a' _ hx'
    rw [hc] at hc'
    obtain rfl:=Option.some.inj hc'
    have hua:ds[a'].uses=true:=L'.us▸huc
    have hux:x.uses=true:=by show (M.reads _||M.writes _)=true;rw [show M.reads x.d.k=true from hr,Bool.true_or]
    refine Or.inr ⟨a',_,rfl,hx',?_⟩
    simp only [De.to,Bool.and_eq_true,beq_iff_eq]
    have p1:=E.pr _ (List.getElem_mem ha') hua
    have p2:=E.pr _ (mem_of_get hx) hux
    exact ⟨L'.wr▸ht.1,E.gj _ _ p1.1 p1.2 p2.1 p2.2 (by rw [← L'.pl hua,ht.2,L.pl hux])⟩
 have hin:=fro_in hfro E.lro
 refine ⟨by simp [dnF],hfro,rfl,fun p h0 h3=>?_,?_⟩
 ·have e:(dnO ds g f y.2).getD p.toNat []=(y.2.getD (g p).toNat []).map (dn ds f):=by
   rcases (show p=0∨p=1∨p=2 by omega) with rfl | rfl | rfl<;>rfl
  rw [e]
  have h1:=(h.row (g p) (E.gi p h0 h3).1 (E.gi p h0 h3).2).trans (E.wrs h0 h3).symm
  have h2:=h1.map (dn ds f)
  have h4:((M.wrs p 0 ds).map (up f)).map (dn ds f)=M.wrs p 0 ds:=by
   rw [List.map_map]
   have:(M.wrs p 0 ds).map (dn ds f ∘ up f)=(M.wrs p 0 ds).map id:=List.map_congr_left fun z hz=>by
    obtain ⟨c,hc,rfl,_⟩:=mem_wrs.1 hz
    show dn ds f (up f _)=_
    rw [up_nat,E.dn_up (by omega)];rfl
   rw [this,List.map_id]
  rw [h4] at h2
  exact h2
 ·rw [ends_iff]
  intro a ha
  refine orig_any hin ha (m:=es.length) ?_
  have:=(ends_iff es y.1).1 h.fin (f a) (E.lt ha)
  have e:=E.orig R hin es.length a ha
  rw [e] at this
  simpa using this
theorem Emb.read (E:Emb ds es f g v) {x y:Wy} (R:Rel ds f g x y) (hx:WO ds x.1 x.2) (hy:WO es y.1 y.2) {a b:Nat} (ha:a < ds.length) (hb:b < ds.length):M.read y.1 (f a) (f b)=M.read x.1 a b:=by
 unfold M.read
 have hxb:=List.getElem?_eq_getElem hb
 obtain ⟨z,hz,L⟩:=E.at_ b _ hxb
 have h1:=hx.fro b _ hxb
 have h2:=hy.fro (f b) z hz
 cases hr:ds[b].reads
 ·rw [hr,if_neg (by simp)] at h1
  rw [L.rd,hr,if_neg (by simp)] at h2
  rw [h1,h2]
  have e1:((-2:Int)==(f a:Int))=false:=by simp
  have e2:((-2:Int)==(a:Int))=false:=by simp
  rw [e1,e2]
 ·rw [R.rd b _ hxb hr]
  rw [if_pos hr] at h1
  rcases h1 with e | ⟨c,u,e,hu,_⟩
  ·rw [e,up_neg (by omega)]
   have e1:((-1:Int)==(f a:Int))=false:=by simp
   have e2:((-1:Int)==(a:Int))=false:=by simp
   rw [e1,e2]
  ·rw [e,up_nat]
   rw [Bool.eq_iff_iff,beq_iff_eq,beq_iff_eq]
   constructor
   ·intro h;have:=E.inj c a (lt_of_get hu) ha (by omega);omega
   ·intro h;have:c=a:=by omega
    rw [this]
theorem idx_map {h:Int→Int} {z:Int}:∀ {row:List Int},(∀ r∈row,h r=h z→r=z)→idx (row.map h) (h z)=idx row z:=by
 intro row hh
 have e:(row.map h).findIdx? (·==h z)=row.findIdx? (·==z):=by
  induction row with
  | nil=>rfl
  | cons r row ih =>
   have h1:=ih fun r hr=>hh r (List.mem_cons_of_mem _ hr)
   have h2:(h r==h z)=(r==z):=by
    rw [Bool.eq_iff_iff,beq_iff_eq,beq_iff_eq]
    exact ⟨hh r (List.mem_cons_self ..),fun e=>by rw [e]⟩
   rw [List.map_cons,List.findIdx?_cons,List.findIdx?_cons,h1,h2]
 unfold idx
 rw [e]
theorem Emb.up_inj (E:Emb ds es f g v) {y z:Int} (hy:y < ds.length) (hz:z < ds.length) (h:up f y=up f z):y=z:=by
 rcases Int.lt_or_le y 0 with h1 | h1
 ·rcases Int.lt_or_le z 0 with h2 | h2
  ·rwa [up_neg h1,up_neg h2] at h
  ·obtain ⟨n,rfl⟩:∃ n:Nat,z=n:=⟨z.toNat,by omega⟩
   rw [up_neg h1,up_nat] at h;omega
 ·obtain ⟨m,rfl⟩:∃ n:Nat,y=n:=⟨y.toNat,by omega⟩
  rcases Int.lt_or_le z 0 with h2 | h2
  ·rw [up_neg h2,up_nat] at h;omega
  ·obtain ⟨n,rfl⟩:∃ n:Nat,z=n:=⟨z.toNat,by omega⟩
   rw [up_nat,up_nat] at h
   have:=E.inj m n (by omega) (by omega) (by omega)
   omega
theorem Emb.over (E:Emb ds es f g v) {x y:Wy} (R:Rel ds f g x y) (hx:WO ds x.1 x.2) {a b:Nat} {s t s' t':De} (ha:ds[a]?=some s) (hb:ds[b]?=some t) (ha':es[f a]?=some s') (hb':es[f b]?=some t'):M.over y.1 y.2 (f a) (f b) s' t'=M.over x.1 x.2 a b s t:=by
 obtain ⟨u,hu,L⟩:=E.at_ a s ha
 rw [ha'] at hu
 obtain rfl:=Option.some.inj hu
 obtain ⟨u,hu,K⟩:=E.at_ b t hb
 rw [hb'] at hu
 obtain rfl:=Option.some.inj hu
 unfold M.over
 have one:onePl s' t'=onePl s t:=by
  unfold onePl
  rw [L.us,K.us]
  cases hs:s.uses
  ·rfl
  ·cases ht:t.uses
   ·rfl
   ·have p1:=E.pr _ (mem_of_get ha) hs
    have p2:=E.pr _ (mem_of_get hb) ht
    rw [L.pl hs,K.pl ht]
    simp only [Bool.true_and]
    rw [Bool.eq_iff_iff,beq_iff_eq,beq_iff_eq]
    exact ⟨fun e=>E.gj _ _ p1.1 p1.2 p2.1 p2.2 e,fun e=>by rw [e]⟩
 rw [one,K.wr]
 cases ho:onePl s t
 ·rfl
 ·cases hw:M.writes t.d.k
  ·rfl
  ·simp only [Bool.true_and]
   simp only [onePl,Bool.and_eq_true,beq_iff_eq] at ho
   have hu2:=ho.2.1
   have p2:=E.pr _ (mem_of_get hb) hu2
   rw [K.pl hu2,R.row _ p2.1 p2.2]
   have hperm:=hx.row t.d.p p2.1 p2.2
   have hmem:∀ r∈x.2.getD t.d.p.toNat [],r < ds.length:=fun r hr=>by
    obtain ⟨i,hi,rfl,_⟩:=mem_wrs.1 (hperm.mem_iff.1 hr);omega
   have hwl:wrote x.1 a s < ds.length:=by
    have h1:=hx.fro a s ha
    unfold wrote
    split
    ·rename_i hr
     rw [if_pos (show s.reads=true from hr)] at h1
     rcases h1 with e | ⟨c,u,e,hc,_⟩
     ·omega
     ·have:=lt_of_get hc;omega
    ·have:=lt_of_get ha;omega
   have hwr:wrote y.1 (f a) s'=up f (wrote x.1 a s):=by
    unfold wrote
    rw [show M.reads s'.d.k=M.reads s.d.k from L.rd]
    split
    ·rename_i hr
     exact R.rd a s ha hr
    ·rw [up_nat]
   have hbl:=lt_of_get hb
   rw [hwr,← up_nat,idx_map fun r hr=>E.up_inj (hmem r hr) hwl,idx_map fun r hr=>E.up_inj (hmem r hr) (by omega)]
theorem Emb.vl (E:Emb ds es f g v) {x y:Wy} (R:Rel ds f g x y) (hx:WO ds x.1 x.2) (hy:WO es y.1 y.2) (hlo:∀ y∈es,y.lr < es.length) (hz:∀ x∈ds,x.reads=true∨x.d.k=3→x.d.v=0) (hz':∀ x∈es,x.reads=true∨x.d.k=3→x.d.v=0) {a:Nat} (ha:a < ds.length):M.vl es y.1 (f a)=v (M.vl ds x.1 a):=by
 have hin:=hx.in_ E.lro
 obtain ⟨q,hq,e1,e2⟩:=vl_of hin hx.len hz hx.fin a ha
 obtain ⟨q',hq',e3,e4⟩:=vl_of (hy.in_ hlo) hy.len hz' hy.fin (f a) (E.lt ha)
 have e5:=E.orig R hin ds.length a ha
 rw [e1] at e5
 have e6:=orig_mono _ (ds.length+es.length) _ _ (by omega) e5
 have e7:=orig_mono _ (ds.length+es.length) _ _ (by omega) e3
 rw [e6] at e7
 have e8:f q=q':=Option.some.inj e7
 subst e8
 rw [e2,e4]
 obtain ⟨u,hu,L⟩:=E.at_ q _ (List.getElem?_eq_getElem hq)
 rw [List.getElem?_eq_getElem hq'] at hu
 obtain rfl:=Option.some.inj hu
 exact L.vl
theorem lastD_map {h:Int→Int} {d:Int} (row:List Int):(row.map h).getLastD (h d)=h (row.getLastD d):=by
 rw [List.getLastD_eq_getLast?,List.getLastD_eq_getLast?,List.getLast?_map]
 cases row.getLast?<;>rfl
theorem Emb.last (E:Emb ds es f g v) {x y:Wy} (R:Rel ds f g x y) (hx:WO ds x.1 x.2) (hy:WO es y.1 y.2) (hlo:∀ y∈es,y.lr < es.length) (hz:∀ x∈ds,x.reads=true∨x.d.k=3→x.d.v=0) (hz':∀ x∈es,x.reads=true∨x.d.k=3→x.d.v=0) {p:Int} (h0:0≤p) (h3:p < 3):lastOf es y.1 (y.2.getD (g p).toNat [])=v (lastOf ds x.1 (x.2.getD p.toNat [])):=by
 rw [R.row p h0 h3]
 have hperm:=hx.row p h0 h3
 generalize x.2.getD p.toNat []=row at *
 cases hr:row with
 | nil=>rw [List.map_nil,last_nil,last_nil,E.vz]
 | cons r rs =>
  have hl:row.getLastD (-1)∈row:=by
   rw [List.getLastD_eq_getLast?,List.getLast?_eq_some_getLast (by rw [hr];simp)]
   exact List.getLast_mem _
  rw [← hr]
  unfold lastOf
  have e:=lastD_map (h:=up f) (d:=-1) row
  rw [up_neg (show (-1:Int) < 0 by omega)] at e
  rw [e]
  obtain ⟨i,hi,e2,_⟩:=mem_wrs.1 (hperm.mem_iff.1 hl)
  rw [e2,Nat.zero_add,up_nat]
  exact E.vl R hx hy hlo hz hz' hi
end
theorem rd_form (ds:List De) (l:List Int):seenR ds l=((List.range ds.length).filter fun n=>((ds[n]?).map De.reads).getD false).map fun n=>vl ds l (n:Nat):=by
 have key:∀ (k n:Nat),n+k=ds.length→rdAt ds l n (ds.drop n)=((List.range' n k).filter fun n=>((ds[n]?).map De.reads).getD false).map fun n=>vl ds l (n:Nat):=by
  intro k
  induction k with
  | zero=>intro n hn;rw [List.drop_eq_nil_of_le (by omega)];rfl
  | succ k ih =>
   intro n hn
   have hlt:n < ds.length:=by omega
   rw [← List.getElem_cons_drop hlt,rdAt,ih (n+1) (by omega),List.range'_succ,List.filter_cons,List.getElem?_eq_getElem hlt]
   simp only [Option.map_some,Option.getD_some]
   split<;>rfl
 have:=key ds.length 0 (by omega)
 rw [List.drop_zero] at this
 rw [seenR,this,List.range_eq_range']
theorem natAsc_unique:∀ {l m:List Nat},l.Pairwise (· < ·)→m.Pairwise (· < ·)→(∀ x,x∈l↔x∈m)→l=m
 | [],[],_,_,_=>rfl
 | [],y::m,_,_,h=>absurd ((h y).2 (by simp)) (by simp)
 | x::l,[],_,_,h=>absurd ((h x).1 (by simp)) (by simp)
 | x::l,y::m,hl,hm,h=>by
  have hl':=List.pairwise_cons.1 hl
  have hm':=List.pairwise_cons.1 hm
  have hxy:x=y:=by
   rcases List.mem_cons.1 ((h x).1 (by simp)) with e | hx
   ·exact e
   ·rcases List.mem_cons.1 ((h y).2 (by simp)) with e | hy
    ·exact e.symm
    ·have h1:=hm'.1 x hx
     have h2:=hl'.1 y hy
     omega
  subst hxy
  have:∀ z,z∈l↔z∈m:=fun z=>by
   constructor
   ·intro hz
    rcases List.mem_cons.1 ((h z).1 (by simp [hz])) with e | hm2
    ·subst e;have:=hl'.1 z hz;omega
    ·exact hm2
   ·intro hz
    rcases List.mem_cons.1 ((h z).2 (by simp [hz])) with e | hl2
    ·subst e;have:=hm'.1 z hz;omega
    ·exact hl2
  rw [natAsc_unique hl'.2 hm'.2 this]
theorem Emb.seenR {ds es:List De} {f:Nat→Nat} {g v:Int→Int} (E:Emb ds es f g v) (hm:∀ a b,a < b→b < ds.length→f a < f b) {x y:Wy} (R:Rel ds f g x y) (hx:WO ds x.1 x.2) (hy:WO es y.1 y.2) (hlo:∀ y∈es,y.lr < es.length) (hz:∀ x∈ds,x.reads=true∨x.d.k=3→x.d.v=0) (hz':∀ x∈es,x.reads=true∨x.d.k=3→x.d.v=0):M.seenR es y.1=(M.seenR ds x.1).map v:=by
 rw [rd_form,rd_form,List.map_map]
 have e:((List.range es.length).filter fun n=>((es[n]?).map De.reads).getD false)=((List.range ds.length).filter fun n=>((ds[n]?).map De.reads).getD false).map f:=by
  refine natAsc_unique (List.Pairwise.sublist List.filter_sublist List.pairwise_lt_range) ?_ fun c=>?_
  ·rw [List.pairwise_map]
   refine List.Pairwise.imp_of_mem (fun {a b} _ hb hlt=>hm a b hlt ?_) (List.Pairwise.sublist List.filter_sublist List.pairwise_lt_range)
   exact List.mem_range.1 (List.mem_filter.1 hb).1
  ·rw [List.mem_filter,List.mem_map,List.mem_range]
   constructor
   ·rintro ⟨hc,hr⟩
    rw [List.getElem?_eq_getElem hc] at hr
    have hr':es[c].reads=true:=by simpa using hr
    obtain ⟨a,ha,rfl⟩:=E.out c _ (List.getElem?_eq_getElem hc) (by show (M.reads _||M.writes _)=true;rw [show M.reads es[c].d.k=true from hr',Bool.true_or])
    refine ⟨a,List.mem_filter.2 ⟨List.mem_range.2 ha,?_⟩,rfl⟩
    obtain ⟨z,hz,L⟩:=E.at_ a _ (List.getElem?_eq_getElem ha)
    rw [List.getElem?_eq_getElem hc] at hz
    obtain rfl:=Option.some.inj hz
    rw [List.getElem?_eq_getElem ha]
    simpa using L.rd▸hr'
   ·rintro ⟨a,ha,rfl⟩
    obtain ⟨ha,hr⟩:=List.mem_filter.1 ha
    have ha:=List.mem_range.1 ha
    rw [List.getElem?_eq_getElem ha] at hr
    obtain ⟨z,hz,L⟩:=E.at_ a _ (List.getElem?_eq_getElem ha)
    refine ⟨lt_of_get hz,?_⟩
    rw [hz]
    simpa [L.rd] using hr
 rw [e,List.map_map]
 refine List.map_congr_left fun a ha=>?_
 have ha:=List.mem_range.1 (List.mem_filter.1 ha).1
 exact E.vl R hx hy hlo hz hz' ha
end M
end Go.Proofs.YtjjkicffhpcngaaGreat
namespace Go.Proofs.YtjjkicffhpcngaaGreat
open Go.RowKit
theorem Xw.putRow {W w':World} {B ob n oc p g cap:Nat} {fv u:Value} {l r:List Int} {cs:List Value} {rows:List (List Int)} (h:Xw W B fv (.slice (some ⟨ob,0,none⟩) n oc) l cs rows) (hp:p < rows.length) (hu:cs[p]?=some u)
  (ho:w'.ownsRow B 3 1 (.slice (some ⟨g,0,none⟩) r.length cap) r.length (nums r)) (hg:W.grownBy w' u.ownBlock) (hat:u.ownBlock=some g∨g=W.heap.size) :
  Xw (w'.setCell ⟨ob,p,none⟩ (.slice (some ⟨g,0,none⟩) r.length cap)) B fv (.slice (some ⟨ob,0,none⟩) n oc) l (cs.set p (.slice (some ⟨g,0,none⟩) r.length cap)) (rows.set p r):=by
 have hl:cs.length=rows.length:=by have:=h.ord.1;omega
 obtain ⟨on,oc',eo⟩:=own_slx h.ord
 simp only [Value.slice.injEq] at eo
 obtain ⟨_,rfl,_⟩:=eo
 obtain ⟨u0,e1,e2,e3,e4⟩:=h.row p hp
 rw [hu] at e1
 obtain rfl:=Option.some.inj e1
 have turn:∀ {v:Value} {e:TypeId} {m:Nat} {xs:List Value},W.ownsRow B e 1 v m xs→Off1 v u.ownBlock→Off1 v (some g):=fun hv hoff=>by
  rcases hat with e | e
  ·rw [← e];exact hoff
  ·exact Off1.new hv (by omega)
 have sym:∀ {v:Value} {k:Option Nat},Off1 v k→∀ j,k=some j→v.ownBlock≠some j:=fun hoff j hj e=>hoff j e hj
 have offo:Off1 (.slice (some ⟨ob,0,none⟩) rows.length oc) u.ownBlock:=fun k hk e=>e3 k e hk
 have offf:Off1 fv u.ownBlock:=fun k hk e=>e4 k e hk
 have ho':=offo.kept h.ord hg
 have hf':=offf.kept h.from_ hg
 have gno:g≠ob:=fun e=>turn h.ord offo ob rfl (by rw [e])
 obtain ⟨st,_⟩:=ho'.stored p (.slice (some ⟨g,0,none⟩) r.length cap)
 have hs:=grown_set w' ob p (.slice (some ⟨g,0,none⟩) r.length cap)
 have keep:∀ {v:Value} {m:Nat} {xs:List Value},w'.ownsRow B 3 1 v m xs→Off1 v (some ob)→(w'.setCell ⟨ob,p,none⟩ (.slice (some ⟨g,0,none⟩) r.length cap)).ownsRow B 3 1 v m xs:=fun hv hoff=>hoff.kept hv hs
 have hfo:Off1 fv (some ob):=fun k hk e=>h.apart k hk (by rw [← e];rfl)
 refine ⟨keep hf' hfo,?_,fun i hi=>?_,h.apart,fun i j v v' hij h1 h2=>?_⟩
 ·rw [List.length_set]
  exact st
 ·rw [List.length_set] at hi
  by_cases e:i=p
  ·subst e
   refine ⟨_,List.getElem?_set_self (by omega),?_,fun k hk e=>gno ?_,fun k hk e=>?_⟩
   ·rw [List.getElem_set_self]
    exact keep ho (fun k hk e=>gno (by have h1:g=k:=Option.some.inj hk;have h2:ob=k:=Option.some.inj e;omega))
   ·have h1:g=k:=Option.some.inj hk
    have h2:ob=k:=Option.some.inj e
    omega
   ·have h1:g=k:=Option.some.inj hk
    exact turn h.from_ offf k e (by rw [h1])
  ·obtain ⟨v,f1,f2,f3,f4⟩:=h.row i hi
   have hoff:Off1 v u.ownBlock:=h.each i p v u e f1 hu
   refine ⟨v,by rw [List.getElem?_set_ne (fun h=>e h.symm)];exact f1,?_,f3,f4⟩
   rw [List.getElem_set_ne (fun h=>e h.symm)]
   exact keep (hoff.kept f2 hg) (fun k hk e=>f3 k hk (by rw [← e];rfl))
 ·have old:∀ (a:Nat) (x:Value),cs[a]?=some x→∃ t,W.ownsRow B 3 1 x (List.length t) (nums t):=fun a x hx=>by
   have ha:=(List.getElem?_eq_some_iff.1 hx).1
   obtain ⟨v0,f1,f2,_⟩:=h.row a (by omega)
   rw [hx] at f1
   obtain rfl:=Option.some.inj f1
   exact ⟨_,f2⟩
  by_cases ei:i=p
  ·subst ei
   rw [List.getElem?_set_self (by omega)] at h1
   obtain rfl:=Option.some.inj h1
   rw [List.getElem?_set_ne (fun h=>hij h)] at h2
   obtain ⟨t,ht⟩:=old j v' h2
   have:=turn ht (h.each j i v' u (fun h=>hij h.symm) h2 hu)
   exact fun k hk e=>this k e (by have h3:g=k:=Option.some.inj hk;rw [h3])
  ·rw [List.getElem?_set_ne (fun h=>ei h.symm)] at h1
   by_cases ej:j=p
   ·subst ej
    rw [List.getElem?_set_self (by omega)] at h2
    obtain rfl:=Option.some.inj h2
    obtain ⟨t,ht⟩:=old i v h1
    exact turn ht (h.each i j v u ei h1 hu)
   ·rw [List.getElem?_set_ne (fun h=>ej h.symm)] at h2
    exact h.each i j v v' hij h1 h2
end Go.Proofs.YtjjkicffhpcngaaGreat
namespace Go.Proofs.YtjjkicffhpcngaaGreat
open Go.RowKit
theorem own_farW {w:World} {b i B n:Nat} {v:Value} {xs:List Value} (ho:w.ownsRow B 3 1 v n xs) (hb:b < B) (u:Value):(w.setCell ⟨b,i,none⟩ u).ownsRow B 3 1 v n xs:=by
 refine ⟨ho.1,?_⟩
 rcases ho.2 with h | ⟨g,cap,cur,hv,hg,hh,r⟩
 ·exact .inl h
 ·exact .inr ⟨g,cap,cur,hv,hg,(Below.heap_setCell _ _ _ _ (by show g≠b;omega)).trans hh,r⟩
structure FwI (w wr:World) (fv:Value) (l:List Int):Prop where
 bel:Below w.heap.size w wr
 res:SlotX wr w.heap.size (.slice none 0 0) (.slice none 0 0)
 row:wr.heap[w.heap.size+1]?=some (.cells #[.slice none 0 0,.slice none 0 0,.slice none 0 0] 47)
 x:SlotX wr (w.heap.size+1+1) fv (.slice (some ⟨w.heap.size+1,0,none⟩) 3 3)
 own:wr.ownsRow (w.heap.size+1+1+1) 3 1 fv l.length (nums l)
theorem FwI.lt {w wr:World} {fv:Value} {l:List Int} (h:FwI w wr fv l):w.heap.size+1+1 < wr.heap.size:=h.x.lt
theorem FwI.below {w wr w1:World} {fv:Value} {l:List Int} (h:FwI w wr fv l) (hb:Below wr.heap.size wr w1):FwI w w1 fv l:=by
 have hl:=h.lt
 exact ⟨h.bel.trans (hb.mono h.bel.size),h.res.of (hb.block _ (by omega)),(hb.block _ (by omega)).trans h.row,h.x.of (hb.block _ hl),ownsRow_below h.own hb⟩
theorem FwI.snoc {w wr w3:World} {fv v':Value} {l l':List Int} {o:Obj} (h:FwI w wr fv l) (hg:(wr.alloc o).grownBy w3 fv.ownBlock) (ho:w3.ownsRow (w.heap.size+1+1+1) 3 1 v' l'.length (nums l')) :
  FwI w (w3.setCell ⟨w.heap.size+1+1,0,none⟩ v') v' l':=by
 have h1:=h.below (below1 wr o)
 have hl:=h1.lt
 have hge:=own_ge h.own
 have blk:∀ k,k < w.heap.size+1+1+1→w3.heap[k]?=(wr.alloc o).heap[k]?:=fun k hk=>hg.block k (by omega) (fun e=>by have:=hge k e.symm;omega)
 have hs:=h1.x.of (blk _ (by omega))
 exact ⟨(below_grown h1.bel hg (fun k hk=>by have:=hge k hk;omega) (by omega)).setCell (by show w.heap.size≤w.heap.size+1+1;omega) _,(h1.res.of (blk _ (by omega))).far (by omega) _,(Below.heap_setCell _ _ _ _ (by show w.heap.size+1≠w.heap.size+1+1;omega)).trans ((blk _ (by omega)).trans h1.row),hs.set0 _,own_farW ho (by omega) _⟩
theorem FwI.ans {w wr:World} {fv:Value} {l:List Int} (h:FwI w wr fv l):WyAns w ((wr.setCell ⟨w.heap.size,0,none⟩ fv).setCell ⟨w.heap.size,1,none⟩ (.slice (some ⟨w.heap.size+1,0,none⟩) 3 3)) fv (.slice (some ⟨w.heap.size+1,0,none⟩) 3 3) l [[],[],[]]:=by
 have hn:∀ (W:World),W.ownsRow w.heap.size 3 1 (.slice none 0 0) ([]:List Int).length (nums []):=fun W=>World.ownsRow_nil _ _ _ _
 have hge:=own_ge h.own
 have hlt:=h.lt
 have ho:∀ row,Off1 (.slice none 0 0) row:=fun row k hk=>by cases hk
 refine ⟨⟨[.slice none 0 0,.slice none 0 0,.slice none 0 0],own_mono (own_farW (own_farW h.own (by omega) _) (by omega) _) (by omega),⟨rfl,Or.inr ⟨w.heap.size+1,3,#[.slice none 0 0,.slice none 0 0,.slice none 0 0],rfl,by omega,?_,by show 3≤3;omega,by unfold maxLen;omega,rfl,rfl⟩⟩,fun i hi=>⟨.slice none 0 0,?_,?_,ho _,ho _⟩,fun k hk e=>?_,fun i j u u' _ hu _=>?_⟩,?_⟩
 ·rw [Below.heap_setCell _ _ _ _ (by show w.heap.size+1≠w.heap.size;omega),Below.heap_setCell _ _ _ _ (by show w.heap.size+1≠w.heap.size;omega)]
  exact h.row
 ·match i,hi with
  | 0,_=>rfl
  | 1,_=>rfl
  | 2,_=>rfl
 ·match i,hi with
  | 0,_=>exact hn _
  | 1,_=>exact hn _
  | 2,_=>exact hn _
 ·have h1:=hge k hk
  have h2:w.heap.size+1=k:=Option.some.inj e
  omega
 ·have:u=.slice none 0 0:=by
   have:=List.mem_of_getElem? hu
   simpa using this
  rw [this];exact ho _
 ·exact (h.bel.setCell (Nat.le_refl _) _).setCell (Nat.le_refl _) _
theorem M.init_step {ds:List M.De} {n:Nat} (h:n < ds.length):M.init (ds.take (n+1))=M.init (ds.take n)++[if ds[n].reads then -1 else -2]:=by
 rw [List.take_succ_eq_append_getElem h];unfold M.init;rw [List.map_append];rfl
set_option maxHeartbeats 1000000 in
set_option maxRecDepth 100000 in
theorem firstWay_any (va:Option Addr) (g c:Nat) (ds:List M.De) (w:World) (hl:ds.length≤1000) (h:DeS w va g ds) :
  Calls Tryz.prog 73 #[.slice va ds.length c] w fun e w'=>∃ fv ov,e=.returned (.agg #[fv,ov])∧WyAns w w' fv ov (M.init ds) [[],[],[]]:=by
 have hmk:∀ w:World,(Instr.makeSlice 61 (.int .i64 3) (.int .i64 3)).run Tryz.prog w=.ok (.slice (some ⟨w.heap.size,0,none⟩) 3 3) (w.alloc (.cells #[.slice none 0 0,.slice none 0 0,.slice none 0 0] 47)):=fun w=>by
  have:=run_make_row' (P:=Tryz.prog) 61 47 (.slice none 0 0) 24 Tryz.underlying61 Tryz.infoRs rfl .i64 .i64 3 (by omega) (by omega) w
  rw [show madeCells #[Value.slice none 0 0] 3=#[.slice none 0 0,.slice none 0 0,.slice none 0 0] from by kernel_rfl] at this
  exact this
 obtain ⟨i0,hi,hz0,hz1,hz2⟩:=info_parts Tryz.infoInt
 go_enter Tryz.func73,Tryz.ntmps73
 go_wp2_with fail
 have A0:FwI w (((w.alloc (.cells #[.slice none 0 0,.slice none 0 0] 63)).alloc (.cells #[.slice none 0 0,.slice none 0 0,.slice none 0 0] 47)).alloc (.cells #[.slice none 0 0,.slice (some ⟨w.heap.size+1,0,none⟩) 3 3] 63)) (.slice none 0 0) []:=by
  refine ⟨below3 w _ _ _,⟨?_⟩,?_,⟨alloc_new _ _ _ (by simp)⟩,World.ownsRow_nil _ _ _ _⟩
  ·rw [alloc_old _ _ _ (by simp;omega),alloc_old _ _ _ (by simp)];exact alloc_new _ _ _ (by simp)
  ·rw [alloc_old _ _ _ (by simp)];exact alloc_new _ _ _ (by simp)
 generalize ((w.alloc (.cells #[.slice none 0 0,.slice none 0 0] 63)).alloc (.cells #[.slice none 0 0,.slice none 0 0,.slice none 0 0] 47)).alloc (.cells #[.slice none 0 0,.slice (some ⟨w.heap.size+1,0,none⟩) 3 3] 63)=W0 at *
 clear hmk
 go_loopw [11] (fun s11 wr=>∃ (n:Nat) (acc:List Int) (v:Value),s11=.int .i64 n∧n≤ds.length∧acc.length≤n∧Hid (M.init (ds.take n)=acc)∧FwI w wr v acc) (fun s11 _=>ds.length - (intOf s11).toNat)
 case atStart=>exact ⟨0,[],_,rfl,Nat.zero_le _,Nat.le_refl _,by show _=_;rfl,A0⟩
 case round =>
  clear A0
  obtain ⟨n,acc,v,rfl,hn,hacc,HW,A⟩:=hrel
  by_cases hlt:n < ds.length
  ·obtain ⟨rfl⟩:=h.addr (by omega)
   have hx:=DeS.at (h.bel A.bel (Nat.le_refl _)) hlt
   have HW2:Hid (M.init (ds.take (n+1))=acc++[if (ds[n]).reads then -1 else -2]):=by show _=_;rw [M.init_step hlt,HW.out]
   clear HW
   generalize ds[n]=x at *
   obtain ⟨c0,c1,c2,c3,c4,c5,c6⟩:=hx
   have i1:(n:Int) < ds.length:=by omega
   have lg:g < wr.heap.size:=World.block_lt_of_cell? _ _ c0
   have A2:=A.below (below2 wr (.cells #[.int .i64 (x.t:Int),.int .i64 (x.i:Int),.bool x.last,.int .i64 x.d.k,.int .i64 x.d.p,.int .i64 x.d.v,.int .i64 x.lr] 95) (.cells #[.int .i64 (x.t:Int),.int .i64 (x.i:Int),.bool x.last,.int .i64 x.d.k,.int .i64 x.d.p,.int .i64 x.d.v,.int .i64 x.lr] 95))
   obtain ⟨av,cv,hav⟩:=own_slx A2.own
   subst hav
   have cS:=A2.x.c0
   have lS:=A.lt
   cases ht:x.reads
   ·go_wp2_with (first | (go_at_call 80;refine (deReads_any x _).mono ?_;rw [ht];rintro e w' ⟨rfl,rfl⟩) | (at_builtin;refine wpList_append_lies _ rfl (.tmp 18) (.tmp 20) 47 rfl (w.heap.size+1+1+1) 3 i0 _ 1 8 Tryz.underlying47 hi hz0 hz1 hz2 rfl (by decide) _ _ _ rfl (A2.own.alloc _) ⟨wr.heap.size+1+1,0,none⟩ 1 1 [.int .i64 (-2)] rfl rfl (World.news_of_block (cs:=#[.int .i64 (-2)]) (t:=3) (fr:=(0,0)) (by have:=heap_alloc_new ((wr.alloc (.cells #[.int .i64 (x.t:Int),.int .i64 (x.i:Int),.bool x.last,.int .i64 x.d.k,.int .i64 x.d.p,.int .i64 x.d.v,.int .i64 x.lr] 95)).alloc (.cells #[.int .i64 (x.t:Int),.int .i64 (x.i:Int),.bool x.last,.int .i64 x.d.k,.int .i64 x.d.p,.int .i64 x.d.v,.int .i64 x.lr] 95)) (.cells #[.int .i64 (-2)] 3);simpa using this)) (by simp [Value.oneCell']) (by omega) (by unfold maxLen;omega) (by omega) (by simp;omega) (wr.heap.size+1+1+1) (by simp) ?_))
    intro g6 cap6 w6 hown6 hg6 hat6 hlt6
    have hown6':w6.ownsRow (w.heap.size+1+1+1) 3 1 (.slice (some ⟨g6,0,none⟩) (acc.length+1) cap6) (acc++[(-2:Int)]).length (nums (acc++[(-2:Int)])):=by rw [List.length_append];simpa [nums] using hown6
    have A4:=A2.snoc hg6 hown6'
    have hge:=own_ge A2.own
    have lX:w.heap.size+1+1 < wr.heap.size+1+1+1:=by omega
    have cS6:w6.cell? ⟨w.heap.size+1+1,0,none⟩=some (.slice av acc.length cv):=(hg6.cell_far ⟨w.heap.size+1+1,0,none⟩ (by simp;omega) (fun e=>by have:w.heap.size+1+1+1≤w.heap.size+1+1:=hge _ e.symm;omega)).trans (((A2.below (below1 _ _)).x).c0)
    have fS6:∀ i,w6.frozen? ⟨w.heap.size+1+1,i,none⟩=false:=fun i=>(hg6.frozen_far ⟨w.heap.size+1+1,i,none⟩ (by simp;omega) (fun e=>by have:w.heap.size+1+1+1≤w.heap.size+1+1:=hge _ e.symm;omega)).trans (((A2.below (below1 _ _)).x).fz i)
    clear hown6 hg6 hat6 hlt6 hown6' hge cS
    go_wp2_with fail
    exact ⟨⟨n+1,acc++[(-2:Int)],_,by go_num,by omega,by simp;omega,by show _=_;have:=HW2.out;rw [ht] at this;exact this,A4⟩,by simp [intOf];omega⟩
   ·go_wp2_with (first | (go_at_call 80;refine (deReads_any x _).mono ?_;rw [ht];rintro e w' ⟨rfl,rfl⟩) | (at_builtin;refine wpList_append_lies _ rfl (.tmp 18) (.tmp 20) 47 rfl (w.heap.size+1+1+1) 3 i0 _ 1 8 Tryz.underlying47 hi hz0 hz1 hz2 rfl (by decide) _ _ _ rfl (A2.own.alloc _) ⟨wr.heap.size+1+1,0,none⟩ 1 1 [.int .i64 (-1)] rfl rfl (World.news_of_block (cs:=#[.int .i64 (-1)]) (t:=3) (fr:=(0,0)) (by have:=heap_alloc_new ((wr.alloc (.cells #[.int .i64 (x.t:Int),.int .i64 (x.i:Int),.bool x.last,.int .i64 x.d.k,.int .i64 x.d.p,.int .i64 x.d.v,.int .i64 x.lr] 95)).alloc (.cells #[.int .i64 (x.t:Int),.int .i64 (x.i:Int),.bool x.last,.int .i64 x.d.k,.int .i64 x.d.p,.int .i64 x.d.v,.int .i64 x.lr] 95)) (.cells #[.int .i64 (-1)] 3);simpa using this)) (by simp [Value.oneCell']) (by omega) (by unfold maxLen;omega) (by omega) (by simp;omega) (wr.heap.size+1+1+1) (by simp) ?_))
    intro g6 cap6 w6 hown6 hg6 hat6 hlt6
    have hown6':w6.ownsRow (w.heap.size+1+1+1) 3 1 (.slice (some ⟨g6,0,none⟩) (acc.length+1) cap6) (acc++[(-1:Int)]).length (nums (acc++[(-1:Int)])):=by rw [List.length_append];simpa [nums] using hown6
    have A4:=A2.snoc hg6 hown6'
    have hge:=own_ge A2.own
    have lX:w.heap.size+1+1 < wr.heap.size+1+1+1:=by omega
    have cS6:w6.cell? ⟨w.heap.size+1+1,0,none⟩=some (.slice av acc.length cv):=(hg6.cell_far ⟨w.heap.size+1+1,0,none⟩ (by simp;omega) (fun e=>by have:w.heap.size+1+1+1≤w.heap.size+1+1:=hge _ e.symm;omega)).trans (((A2.below (below1 _ _)).x).c0)
    have fS6:∀ i,w6.frozen? ⟨w.heap.size+1+1,i,none⟩=false:=fun i=>(hg6.frozen_far ⟨w.heap.size+1+1,i,none⟩ (by simp;omega) (fun e=>by have:w.heap.size+1+1+1≤w.heap.size+1+1:=hge _ e.symm;omega)).trans (((A2.below (below1 _ _)).x).fz i)
    clear hown6 hg6 hat6 hlt6 hown6' hge cS
    go_wp2_with fail
    exact ⟨⟨n+1,acc++[(-1:Int)],_,by go_num,by omega,by simp;omega,by show _=_;have:=HW2.out;rw [ht] at this;exact this,A4⟩,by simp [intOf];omega⟩
  ·have HF:M.init ds=acc:=by have:=HW.out;rwa [List.take_of_length_le (by omega)] at this
   obtain ⟨av,cv,rfl⟩:=own_slx A.own
   have x0:=A.x.c0
   have x1:=A.x.c1
   have y0:=A.res.c0
   have y1:=A.res.c1
   have yf:=A.res.fz
   have hlt:=A.lt
   have hans:=A.ans
   clear HW
   go_wp2_with fail
   refine bodyPost_ret (v:=.agg #[.slice av acc.length cv,.slice (some ⟨w.heap.size+1,0,none⟩) 3 3]) (by simp [results,Tryz.results73,go_sem,y0,y1]) rfl ⟨_,_,rfl,?_⟩
   rw [HF];exact hans
end Go.Proofs.YtjjkicffhpcngaaGreat
namespace Go.Proofs.YtjjkicffhpcngaaGreat
open Go.RowKit
namespace M
theorem use_split:∀ (ds:List De),rdN ds+(ds.filter fun x=>M.writes x.d.k).length≤useN ds
 | []=>by simp [rdN,useN]
 | x::ds=>by
  have ih:=use_split ds
  have hx:(if x.reads then 1 else 0)+(if M.writes x.d.k then 1 else 0)≤if uses x.d.k then 1 else 0:=by
   simp only [De.reads,uses,writes,stores,reads]
   by_cases h2:x.d.k=2
   ·simp [h2]
   ·by_cases h5:x.d.k=5
    ·simp [h5]
    ·simp [h2,h5]
  unfold rdN useN at *
  simp only [List.filter_cons]
  split<;>split<;>split<;>simp_all<;>omega
theorem ways_le2 {ll:List (List D)} (h:prog ll=true):(ways (deeds ll)).length≤117649:=by
 have hu:=use6 h
 have hs:=use_split (deeds ll)
 have hw3:=wrs_three 0 (deeds ll)
 have hf:=fromsOf_len (deeds ll) 7 (fun p=>by have:=wr6 hu p;omega) (deeds ll).length [] (by simp)
 simp only [List.length_nil,List.drop_zero] at hf
 have hr:=fun p:Int=>rows6 h p
 have ho:(ordersOf (deeds ll)).length≤6 ^ ((wrs 0 0 (deeds ll)).length+(wrs 1 0 (deeds ll)).length+(wrs 2 0 (deeds ll)).length):=by
  unfold ordersOf
  rw [addPlace_len,addPlace_len,addPlace_len]
  simp only [List.length_singleton,Nat.one_mul]
  rw [Nat.pow_add,Nat.pow_add]
  exact Nat.mul_le_mul (Nat.mul_le_mul (hr 0) (hr 1)) (hr 2)
 have key:∀ (fs:List (List Int)),(fs.flatMap fun f=>if ends (deeds ll) f then (ordersOf (deeds ll)).map fun o=>(f,o) else []).length≤fs.length * (ordersOf (deeds ll)).length:=fun fs=>flatMap_le _ _ fs (fun f _=>by
  split
  ·simp
  ·simp)
 rw [ways_eq (cop_deeds ll)]
 unfold allWays
 refine Nat.le_trans (key _) ?_
 have h67:6 ^ ((wrs 0 0 (deeds ll)).length+(wrs 1 0 (deeds ll)).length+(wrs 2 0 (deeds ll)).length)≤7 ^ ((wrs 0 0 (deeds ll)).length+(wrs 1 0 (deeds ll)).length+(wrs 2 0 (deeds ll)).length):=Nat.pow_le_pow_left (by omega) _
 refine Nat.le_trans (Nat.mul_le_mul hf (Nat.le_trans ho h67)) ?_
 rw [← Nat.pow_add]
 exact Nat.le_trans (Nat.pow_le_pow_right (by omega) (show _≤6 by omega)) (by decide)
end M
theorem IntS.fr' {w W:World} {D:Nat→Prop} {a:Option Addr} {b o:Nat} {l:List Int} (h:IntS w a b o l) (hf:Fr D w W) (hD:0 < l.length→D b):IntS W a b o l :=
 ⟨h.addr,fun i hi=>hf.cell (p:=⟨b,o+i,none⟩) (hD (by omega)) (h.row i hi)⟩
theorem own_twoS {w:World} {base n:Nat} {e:TypeId} {v:Value} {xs:List Value} (h:w.ownsRow base e 2 v n xs):∃ a g c,v=.slice a n c∧(0 < n→a=some ⟨g,0,none⟩)∧∀ j u,xs[j]?=some u→w.cell? ⟨g,j,none⟩=some u:=by
 rcases h.2 with ⟨hv,hn⟩ | ⟨g,cap,cur,hv,hg,hh,hc,r⟩
 ·have hx:xs=[]:=List.length_eq_zero_iff.1 (by rw [h.1,hn])
  subst hx
  exact ⟨none,0,0,by rw [hv,hn],fun h=>absurd h (by omega),fun j u hj=>(by simp at hj)⟩
 ·refine ⟨_,g,cap,hv,fun _=>rfl,fun j u hj=>?_⟩
  have:=h.cells (g:=g) (by rw [hv];rfl) j u hj
  rwa [Go.WideShapes.add_plain,Nat.zero_add] at this
end Go.Proofs.YtjjkicffhpcngaaGreat
