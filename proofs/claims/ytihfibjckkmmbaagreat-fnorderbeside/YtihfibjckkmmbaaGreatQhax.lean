/- The events of one program among those of another one: the ways of the one are the ways of the other. Plainly. No condition but what is said. -/
import Derived.BigQuiet
import Derived.Deep.AppendLies
import Derived.Deep.MidRow
import Derived.Deep.Quiet
import Derived.Deep.QuietTactic
import Derived.Deep.RegionHeld3
import Derived.Deep.RegionLaw
import Derived.Laws.EntriesVeiled
import Derived.LoopN
import Derived.Shelf.Abstract
import Derived.Sort.Grow
import Derived.WalkKit
import Derived.WalkLawsBesides
import Derived.WalkSpells
import Derived.Deep.OwnRows
import Derived.Test.YtihfibjckkmmbaaGreatRows
import Derived.Test.YtihfibjckkmmbaaGreatQhap
import Derived.Test.YtihfibjckkmmbaaGreatQhav
namespace Go.Proofs.YtihfibjckkmmbaaGreat
namespace M
def up (f:Nat→Nat) (z:Int):Int:=if z < 0 then z else (f z.toNat:Int)
theorem up_nat (f:Nat→Nat) (n:Nat):up f (n:Int)=(f n:Int):=by unfold up;rw [if_neg (by omega)];simp
theorem up_neg {f:Nat→Nat} {z:Int} (h:z < 0):up f z=z:=by unfold up;rw [if_pos h]
theorem lt_of_get {α:Type} {l:List α} {n:Nat} {x:α} (h:l[n]?=some x):n < l.length:=(List.getElem?_eq_some_iff.1 h).1
theorem mem_of_get {α:Type} {l:List α} {n:Nat} {x:α} (h:l[n]?=some x):x∈l:=List.mem_of_getElem? h
def Fro (ds:List De) (l:List Int):Prop:=∀ (a:Nat) (x:De),ds[a]?=some x→if x.reads then l.getD a 0=-1∨∃ (b:Nat) (y:De),l.getD a 0=(b:Int)∧ds[b]?=some y∧y.to x.d.p=true else l.getD a 0=-2
structure WO (ds:List De) (l:List Int) (rows:List (List Int)):Prop where
 len:l.length=ds.length
 fro:Fro ds l
 three:rows.length=3
 row:∀ p:Int,0≤p→p < 3→(rows.getD p.toNat []).Perm (wrs p 0 ds)
 fin:ends ds l=true
theorem perm_mem {a b:List Int} (ha:a.Nodup) (hb:b.Nodup) (h:∀ v,v∈a↔v∈b):a.Perm b:=perm_of a b ha (fun v hv=>(h v).1 hv) (nodup_le hb fun v hv=>(h v).2 hv)
theorem isRow_iff {row evs:List Int} (hn:evs.Nodup):isRow row evs=true↔row.Perm evs:=by
 simp only [isRow,Bool.and_eq_true,decide_eq_true_eq,List.all_eq_true]
 constructor
 ·rintro ⟨h1,h2⟩
  exact (perm_of evs row hn (fun v hv=>by simpa using h2 v hv) (by omega)).symm
 ·intro h
  exact ⟨h.length_eq,fun v hv=>by simpa using h.mem_iff.2 hv⟩
theorem wo_iff {ds:List De} {l:List Int} {rows:List (List Int)}:wayOk ds l rows=true↔WO ds l rows:=by
 simp only [wayOk,Bool.and_eq_true,fromOk,orderOk,decide_eq_true_eq]
 have fr:∀ (h:l.length=ds.length),fromAt ds ds l=true↔Fro ds l:=fun h=>by
  rw [fromAt_iff ds l h]
  constructor
  ·intro hk a x hx
   obtain ⟨ha,rfl⟩:=List.getElem?_eq_some_iff.1 hx
   have:=hk a ha
   rw [mayTell_iff] at this
   split at this
   ·rename_i hr
    rw [if_pos hr]
    refine this.imp id fun hm=>?_
    obtain ⟨i,hi,e,ht⟩:=mem_wrs.1 hm
    exact ⟨i,ds[i],by rw [e];simp,List.getElem?_eq_getElem hi,ht⟩
   ·rename_i hr
    rw [if_neg hr]
    exact this
  ·intro hk a ha
   have:=hk a _ (List.getElem?_eq_getElem ha)
   rw [mayTell_iff]
   split at this
   ·rename_i hr
    rw [if_pos hr]
    refine this.imp id fun ⟨b,y,e,hy,ht⟩=>?_
    obtain ⟨hb,rfl⟩:=List.getElem?_eq_some_iff.1 hy
    rw [e]
    exact mem_wrs.2 ⟨b,hb,by simp,ht⟩
   ·rename_i hr
    rw [if_neg hr]
    exact this
 have od:∀ (h:rows.length=3),orderAt ds 0 rows=true↔∀ p:Int,0≤p→p < 3→(rows.getD p.toNat []).Perm (wrs p 0 ds):=fun h=>by
  match rows,h with
  | [r0,r1,r2],_ =>
   simp only [orderAt,Bool.and_eq_true,and_true]
   rw [isRow_iff (nodup_wrs _ _ _),isRow_iff (nodup_wrs _ _ _),isRow_iff (nodup_wrs _ _ _)]
   constructor
   ·rintro ⟨h0,h1,h2⟩ p hp hp3
    rcases (show p=0∨p=1∨p=2 by omega) with rfl | rfl | rfl
    ·exact h0
    ·exact h1
    ·exact h2
   ·intro hk
    exact ⟨hk 0 (by omega) (by omega),hk 1 (by omega) (by omega),hk 2 (by omega) (by omega)⟩
 constructor
 ·rintro ⟨⟨h1,h2⟩,⟨h3,h4⟩,h5⟩
  exact ⟨h1,(fr h1).1 h2,h3,(od h3).1 h4,h5⟩
 ·intro h
  exact ⟨⟨h.len,(fr h.len).2 h.fro⟩,⟨h.three,(od h.three).2 h.row⟩,h.fin⟩
theorem fro_in {ds:List De} {l:List Int} (hf:Fro ds l) (hl:∀ x∈ds,x.lr < ds.length):In ds l:=fun n hn=>by
 have hx:=List.getElem?_eq_getElem hn
 unfold valFrom
 rw [hx]
 dsimp only
 have:=hf n _ hx
 split at this
 ·rename_i hr
  rw [if_pos hr]
  rcases this with e | ⟨b,y,e,hy,_⟩
  ·omega
  ·have:=lt_of_get hy;omega
 ·rename_i hr
  rw [if_neg hr]
  split
  ·exact hl _ (List.getElem_mem hn)
  ·omega
theorem WO.in_ {ds:List De} {l:List Int} {rows:List (List Int)} (h:WO ds l rows) (hl:∀ x∈ds,x.lr < ds.length):In ds l:=fro_in h.fro hl
theorem orig_any {ds:List De} {l:List Int} (hin:In ds l) {n m:Nat} (hn:n < ds.length) (h:(orig ds l m n).isSome=true):(orig ds l ds.length n).isSome=true:=by
 rw [orig_iff] at h ⊢
 obtain ⟨k,_,hk⟩:=h
 exact backQ_short hin hn k hk
section
variable {ds es : List De} {f : Nat → Nat} {g v : Int → Int}
def dn (ds:List De) (f:Nat→Nat) (z:Int):Int:=if z < 0 then z else match (List.range ds.length).find? (fun a=>f a==z.toNat) with | some a=>(a:Int) | none=>-1
theorem idx_map {h:Int→Int} {z:Int}:∀ {row:List Int},(∀ r∈row,h r=h z→r=z)→idx (row.map h) (h z)=idx row z:=by
 intro row hh
 have e:(row.map h).findIdx? (·==h z)=row.findIdx? (·==z):=by
  induction row with
  | nil=>rfl
  | cons r row ih =>
   have h1:=ih fun r hr=>hh r (List.mem_cons_of_mem _ hr)
   have h2:(h r==h z)=(r==z):=by
    rw [Bool.eq_iff_iff,beq_iff_eq,beq_iff_eq]
    exact ⟨hh r (List.mem_cons_self ..),fun e=>by rw [e]⟩
   rw [List.map_cons,List.findIdx?_cons,List.findIdx?_cons,h1,h2]
 unfold idx
 rw [e]
theorem lastD_map {h:Int→Int} {d:Int} (row:List Int):(row.map h).getLastD (h d)=h (row.getLastD d):=by
 rw [List.getLastD_eq_getLast?,List.getLastD_eq_getLast?,List.getLast?_map]
 cases row.getLast?<;>rfl
end
end M
end Go.Proofs.YtihfibjckkmmbaaGreat
