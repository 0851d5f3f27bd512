/- A program with walls put in: its events among those of the program, carried over. Plainly. No condition but what is said. What an order allows of a program with walls put in: no more; strictly just as much. Plainly. No condition but what is said. Walls folded: a wall beside a wall, and who waits where no reader is, say no more than one wall. Plainly. No condition but what is said. -/
import Derived.Below
import Derived.BigQuiet
import Derived.Deep.AppendLies
import Derived.Deep.CutRange
import Derived.Deep.MidRow
import Derived.Deep.Quiet
import Derived.Deep.QuietTactic
import Derived.Deep.RegionHeld3
import Derived.Deep.RegionLaw
import Derived.Deep.RegionWith
import Derived.Deep.Slices
import Derived.Deep.WholeRow
import Derived.Handy
import Derived.Laws.AppendOwn
import Derived.Laws.AppendOwnNone
import Derived.Laws.EntriesVeiled
import Derived.Laws.IdiomCopy
import Derived.Laws.OwnMore
import Derived.LoopIn
import Derived.LoopN
import Derived.LoopNIn
import Derived.Maps.OwnIn
import Derived.OwnWalkIn
import Derived.RangeFuncBound
import Derived.RangeFuncLeaves
import Derived.RangeFuncNested
import Derived.Shelf.Abstract
import Derived.Shelf.SlSortCmp.NoneTotal
import Derived.Sort.Grow
import Derived.TacticsInMore
import Derived.WalkKit
import Derived.WalkLawsBesides
import Derived.WalkSpells
import Derived.Deep.OwnRows
import Derived.Test.YtjjkicffhpcngaaGreatRows
import Derived.Test.YtjjkicffhpcngaaGreatBYay
namespace Go.Proofs.YtjjkicffhpcngaaGreat
namespace M
theorem get_snoc {α:Type} {l:List α} {x y:α} {a:Nat} (h:(l++[x])[a]?=some y):l[a]?=some y∨(a=l.length∧y=x):=by
 rcases Nat.lt_or_ge a l.length with h1 | h1
 ·rw [List.getElem?_append_left h1] at h;exact .inl h
 ·rw [List.getElem?_append_right h1] at h
  have:a - l.length=0:=by
   have:=lt_of_get h
   simp at this;omega
  rw [this] at h
  exact .inr ⟨by omega,by simpa using h.symm⟩
theorem get_left {α:Type} {l:List α} {x y:α} {a:Nat} (h:l[a]?=some y):(l++[x])[a]?=some y:=by
 rw [List.getElem?_append_left (lt_of_get h)];exact h
theorem get_last {α:Type} (l:List α) (x:α):(l++[x])[l.length]?=some x:=by simp
theorem up_snoc {pos:List Nat} {n:Nat} {z:Int} (h:z < pos.length):up (fun a=>(pos++[n]).getD a 0) z=up (fun a=>pos.getD a 0) z:=by
 rcases Int.lt_or_le z 0 with h0 | h0
 ·rw [up_neg h0,up_neg h0]
 ·obtain ⟨m,rfl⟩:∃ m:Nat,z=m:=⟨z.toNat,by omega⟩
  rw [up_nat,up_nat]
  simp only [List.getD_eq_getElem?_getD]
  rw [List.getElem?_append_left (by omega)]
def LrRel (pos:List Nat) (lr lr':Int):Prop:=lr'=up (fun a=>pos.getD a 0) lr∧lr < pos.length
theorem LrRel.snoc {pos:List Nat} {lr lr':Int} (h:LrRel pos lr lr') (n:Nat):LrRel (pos++[n]) lr lr':=⟨h.1.trans (up_snoc h.2).symm,by have:=h.2;simp;omega⟩
end M
end Go.Proofs.YtjjkicffhpcngaaGreat
namespace Go.Proofs.YtjjkicffhpcngaaGreat
namespace M
def at0 (pos:List Nat) (a:Nat):Nat:=pos.getD a 0
theorem at0_of {pos:List Nat} {a n:Nat} (h:pos[a]?=some n):at0 pos a=n:=by simp [at0,List.getD_eq_getElem?_getD,h]
section
variable {ds es : List De} {pos back : List Nat}
def img (f:Nat→Nat) (c:Ch):Ch:=((f c.1.1,f c.1.2),(f c.2.1,f c.2.2))
end
theorem leads_fold {E F:List Lk} {h:Nat→Nat} (hE:∀ l∈E,Leads F (h l.1) (h l.2)∨(h l.1=h l.2∧l.1 < l.2)) {u v:Nat} (hl:Leads E u v):Leads F (h u) (h v)∨(h u=h v∧u < v):=by
 induction hl with
 | one h1=>exact hE _ h1
 | more _ h2 ih =>
  have h3:=hE _ h2
  simp only at h3
  rcases ih with ih | ⟨ih,hlt⟩
  ·rcases h3 with h3 | ⟨h3,_⟩
   ·exact .inl (ih.trans h3)
   ·exact .inl (h3▸ih)
  ·rcases h3 with h3 | ⟨h3,hlt2⟩
   ·exact .inl (ih▸h3)
   ·exact .inr ⟨ih.trans h3,by omega⟩
theorem round_fold {E F:List Lk} {h:Nat→Nat} (hE:∀ l∈E,Leads F (h l.1) (h l.2)∨(h l.1=h l.2∧l.1 < l.2)) (hr:Round E):Round F:=by
 obtain ⟨a,ha⟩:=hr
 rcases leads_fold hE ha with h1 | ⟨_,h1⟩
 ·exact ⟨_,h1⟩
 ·omega
theorem sat_fold {E F:List Lk} {cs cs':List Ch} {f h:Nat→Nat} (hE:∀ l∈E,Leads F (h l.1) (h l.2)∨(h l.1=h l.2∧l.1 < l.2)) (hc:∀ c∈cs',∃ c0∈cs,c=img f c0) (hf:∀ c∈cs,h (f c.1.1)=c.1.1∧h (f c.1.2)=c.1.2∧h (f c.2.1)=c.2.1∧h (f c.2.2)=c.2.2) (hs:Sat F cs):Sat E cs':=by
 obtain ⟨S,h1,h2⟩:=sat_iff.1 hs
 refine sat_iff.2 ⟨((cs.flatMap fun c=>[c.1,c.2]).filter fun l=>decide (l∈S)).map fun l=>(f l.1,f l.2),fun c hcc=>?_,fun hr=>h2 (round_fold (h:=h) (fun l hl=>?_) hr)⟩
 ·obtain ⟨c0,hc0,rfl⟩:=hc c hcc
  rcases h1 c0 hc0 with h3 | h3
  ·left
   exact List.mem_map.2 ⟨c0.1,List.mem_filter.2 ⟨List.mem_flatMap.2 ⟨c0,hc0,by simp⟩,by simpa using h3⟩,rfl⟩
  ·right
   exact List.mem_map.2 ⟨c0.2,List.mem_filter.2 ⟨List.mem_flatMap.2 ⟨c0,hc0,by simp⟩,by simpa using h3⟩,rfl⟩
 ·rcases List.mem_append.1 hl with hl | hl
  ·obtain ⟨l0,hl0,rfl⟩:=List.mem_map.1 hl
   obtain ⟨hm,hS⟩:=List.mem_filter.1 hl0
   obtain ⟨c0,hc0,hin⟩:=List.mem_flatMap.1 hm
   have hff:=hf c0 hc0
   left
   have hS':l0∈S:=by simpa using hS
   have key:h (f l0.1)=l0.1∧h (f l0.2)=l0.2:=by
    rcases List.mem_cons.1 hin with e | e
    ·rw [e];exact ⟨hff.1,hff.2.1⟩
    ·rw [List.mem_singleton.1 e];exact ⟨hff.2.2.1,hff.2.2.2⟩
   simp only
   rw [key.1,key.2]
   exact .one (List.mem_append.2 (.inl hS'))
  ·rcases hE l hl with h3 | h3
   ·exact .inl (h3.sub fun x hx=>List.mem_append.2 (.inr hx))
   ·exact .inr h3
end M
end Go.Proofs.YtjjkicffhpcngaaGreat
namespace Go.Proofs.YtjjkicffhpcngaaGreat
namespace M
structure Wl (x y:De):Prop where
 k:x.d.k=4
 w:isWall y.d.k=true
 p:y.d.p=x.d.p
 v:y.d.v=x.d.v
structure WfE (s:Prop) (ds es:List De) (pos back:List Nat):Prop where
 len:pos.length=ds.length
 blen:back.length=es.length
 asc:pos.Pairwise (· < ·)
 lt:∀ n∈pos,n < es.length
 at_:∀ (a:Nat) (x:De),ds[a]?=some x→∃ (n:Nat) (y:De),pos[a]?=some n∧es[n]?=some y∧(y.d=x.d∨(s∧Wl x y))∧y.t=x.t∧y.last=x.last∧y.lr=up (fun a=>pos.getD a 0) x.lr
 home:∀ (a n:Nat),pos[a]?=some n→back[n]?=some a
 out:∀ (c:Nat) (y:De),es[c]?=some y→c∉pos→(y.d.k=4∨(s∧y.d.k=9))∧∃ (a n:Nat) (x:De),back[c]?=some a∧pos[a]?=some n∧n < c∧ds[a]?=some x∧x.d.k=4∧x.t=y.t∧∀ (b m:Nat),pos[b]?=some m→a < b→c < m
 adj:∀ (a:Nat) (x:De),ds[a]?=some x→x.d.k=9→x.last=false→∃ n:Nat,pos[a]?=some n∧pos[a+1]?=some (n+1)
 lro:∀ x∈ds,x.lr < ds.length
theorem WfE.nil {s:Prop}:WfE s [] [] [] []:=⟨rfl,rfl,List.Pairwise.nil,fun n hn=>(by cases hn),fun a x h=>(by simp at h),fun a n h=>(by simp at h),fun c y h=>(by simp at h),fun a x h=>(by simp at h),fun x h=>(by cases h)⟩
section
variable {s : Prop} {ds es : List De} {pos back : List Nat}
theorem WfE.keep (h:WfE s ds es pos back) {x y:De} (hd:y.d=x.d∨(s∧Wl x y)) (ht:y.t=x.t) (hl:y.last=x.last) (hlr:y.lr=up (fun a=>(pos++[es.length]).getD a 0) x.lr) (hlo:x.lr≤ds.length) (h9:x.d.k=9→x.last=true):WfE s (ds++[x]) (es++[y]) (pos++[es.length]) (back++[ds.length]):=by
 have hlen:=h.len
 refine ⟨by simp [hlen],by simp [h.blen],?_,fun n hn=>?_,fun a z hz=>?_,fun a n hn=>?_,fun c z hz hc=>?_,fun a z hz hk hf=>?_,fun z hz=>?_⟩
 ·refine List.pairwise_append.2 ⟨h.asc,List.pairwise_singleton _ _,fun a ha b hb=>?_⟩
  rw [List.mem_singleton.1 hb]
  exact h.lt a ha
 ·rcases List.mem_append.1 hn with hn | hn
  ·have:=h.lt n hn;simp;omega
  ·rw [List.mem_singleton.1 hn];simp
 ·rcases get_snoc hz with hz | ⟨rfl,rfl⟩
  ·obtain ⟨n,u,h1,h2,h3,h4,h5,h6⟩:=h.at_ a z hz
   exact ⟨n,u,get_left h1,get_left h2,h3,h4,h5,h6.trans (up_snoc (by have:=h.lro z (mem_of_get hz);omega)).symm⟩
  ·exact ⟨es.length,y,by rw [← hlen];exact get_last _ _,get_last _ _,hd,ht,hl,hlr⟩
 ·rcases get_snoc hn with hn | ⟨rfl,rfl⟩
  ·exact get_left (h.home a n hn)
  ·rw [hlen,← h.blen];exact get_last _ _
 ·rcases get_snoc hz with hz | ⟨rfl,rfl⟩
  ·obtain ⟨h1,a,n,u,h2,h3,h4,h5,h8,h6,h7⟩:=h.out c z hz fun hm=>hc (List.mem_append.2 (.inl hm))
   refine ⟨h1,a,n,u,get_left h2,get_left h3,h4,get_left h5,h8,h6,fun b m hb hab=>?_⟩
   rcases get_snoc hb with hb | ⟨_,rfl⟩
   ·exact h7 b m hb hab
   ·exact lt_of_get hz
  ·exact absurd (List.mem_append.2 (.inr (List.mem_singleton.2 rfl))) hc
 ·rcases get_snoc hz with hz | ⟨rfl,rfl⟩
  ·obtain ⟨n,h1,h2⟩:=h.adj a z hz hk hf
   exact ⟨n,get_left h1,get_left h2⟩
  ·rw [h9 hk] at hf;cases hf
 ·rw [List.length_append]
  rcases List.mem_append.1 hz with hz | hz
  ·have:=h.lro z hz;simp;omega
  ·rw [List.mem_singleton.1 hz];simp;omega
theorem WfE.keep2 (h:WfE s ds es pos back) {x y x' y':De} (hd:y.d=x.d) (ht:y.t=x.t) (hl:y.last=x.last) (hlr:y.lr=up (fun a=>pos.getD a 0) x.lr) (hlo:x.lr < ds.length) (hd':y'.d=x'.d) (ht':y'.t=x'.t) (hl':y'.last=x'.last) (hlr':y'.lr=up (fun a=>pos.getD a 0) x'.lr) (hlo':x'.lr < ds.length) (hf':x'.last=true):WfE s ((ds++[x])++[x']) ((es++[y])++[y']) ((pos++[es.length])++[es.length+1]) ((back++[ds.length])++[ds.length+1]):=by
 have hlen:=h.len
 refine ⟨by simp [hlen],by simp [h.blen],?_,fun n hn=>?_,fun a z hz=>?_,fun a n hn=>?_,fun c z hz hc=>?_,fun a z hz hk hf=>?_,fun z hz=>?_⟩
 ·refine List.pairwise_append.2 ⟨List.pairwise_append.2 ⟨h.asc,List.pairwise_singleton _ _,fun a ha b hb=>?_⟩,List.pairwise_singleton _ _,fun a ha b hb=>?_⟩
  ·rw [List.mem_singleton.1 hb];exact h.lt a ha
  ·rw [List.mem_singleton.1 hb]
   rcases List.mem_append.1 ha with ha | ha
   ·have:=h.lt a ha;omega
   ·rw [List.mem_singleton.1 ha];omega
 ·rcases List.mem_append.1 hn with hn | hn
  ·rcases List.mem_append.1 hn with hn | hn
   ·have:=h.lt n hn;simp;omega
   ·rw [List.mem_singleton.1 hn];simp
  ·rw [List.mem_singleton.1 hn];simp
 ·rcases get_snoc hz with hz | ⟨rfl,rfl⟩
  ·rcases get_snoc hz with hz | ⟨rfl,rfl⟩
   ·obtain ⟨n,u,h1,h2,h3,h4,h5,h6⟩:=h.at_ a z hz
    have hz2:=h.lro z (mem_of_get hz)
    exact ⟨n,u,get_left (get_left h1),get_left (get_left h2),h3,h4,h5,by rw [up_snoc (by simp;omega),up_snoc (by omega)];exact h6⟩
   ·exact ⟨es.length,y,get_left (by rw [← hlen];exact get_last _ _),get_left (get_last _ _),.inl hd,ht,hl,by rw [up_snoc (by simp;omega),up_snoc (by omega)];exact hlr⟩
  ·refine ⟨es.length+1,y',?_,?_,.inl hd',ht',hl',by rw [up_snoc (by simp;omega),up_snoc (by omega)];exact hlr'⟩
   ·rw [show (ds++[x]).length=(pos++[es.length]).length by simp [hlen]];exact get_last _ _
   ·rw [show es.length+1=(es++[y]).length by simp];exact get_last _ _
 ·rcases get_snoc hn with hn | ⟨rfl,rfl⟩
  ·rcases get_snoc hn with hn | ⟨rfl,rfl⟩
   ·exact get_left (get_left (h.home a n hn))
   ·rw [hlen,← h.blen];exact get_left (get_last _ _)
  ·rw [show (pos++[es.length]).length=ds.length+1 by simp [hlen],show es.length+1=(back++[ds.length]).length by simp [h.blen]];exact get_last _ _
 ·rcases get_snoc hz with hz | ⟨rfl,rfl⟩
  ·rcases get_snoc hz with hz | ⟨rfl,rfl⟩
   ·obtain ⟨h1,a,n,u,h2,h3,h4,h5,h8,h6,h7⟩:=h.out c z hz fun hm=>hc (List.mem_append.2 (.inl (List.mem_append.2 (.inl hm))))
    have hcl:=lt_of_get hz
    refine ⟨h1,a,n,u,get_left (get_left h2),get_left (get_left h3),h4,get_left (get_left h5),h8,h6,fun b m hb hab=>?_⟩
    rcases get_snoc hb with hb | ⟨_,rfl⟩
    ·rcases get_snoc hb with hb | ⟨_,rfl⟩
     ·exact h7 b m hb hab
     ·exact hcl
    ·omega
   ·exact absurd (List.mem_append.2 (.inl (List.mem_append.2 (.inr (List.mem_singleton.2 rfl))))) hc
  ·exact absurd (List.mem_append.2 (.inr (List.mem_singleton.2 (by simp)))) hc
 ·rcases get_snoc hz with hz | ⟨rfl,rfl⟩
  ·rcases get_snoc hz with hz | ⟨rfl,rfl⟩
   ·obtain ⟨n,h1,h2⟩:=h.adj a z hz hk hf
    exact ⟨n,get_left (get_left h1),get_left (get_left h2)⟩
   ·refine ⟨es.length,get_left (by rw [← hlen];exact get_last _ _),?_⟩
    rw [show ds.length+1=(pos++[es.length]).length by simp [hlen]];exact get_last _ _
  ·rw [hf'] at hf;cases hf
 ·rw [List.length_append,List.length_append]
  rcases List.mem_append.1 hz with hz | hz
  ·rcases List.mem_append.1 hz with hz | hz
   ·have:=h.lro z hz;simp;omega
   ·rw [List.mem_singleton.1 hz];simp;omega
  ·rw [List.mem_singleton.1 hz];simp;omega
theorem WfE.add (h:WfE s ds es pos back) {x y:De} (hd:y.d.k=4∨(s∧y.d.k=9)) (hx:ds[ds.length - 1]?=some x) (h4:x.d.k=4) (ht:x.t=y.t):WfE s ds (es++[y]) pos (back++[ds.length - 1]):=by
 refine ⟨h.len,by simp [h.blen],h.asc,fun n hn=>by have:=h.lt n hn;simp;omega,fun a z hz=>?_,fun a n hn=>get_left (h.home a n hn),fun c z hz hc=>?_,h.adj,h.lro⟩
 ·obtain ⟨n,u,h1,h2,h3⟩:=h.at_ a z hz
  exact ⟨n,u,h1,get_left h2,h3⟩
 ·rcases get_snoc hz with hz | ⟨rfl,rfl⟩
  ·obtain ⟨h1,a,n,u,h2,h3⟩:=h.out c z hz hc
   exact ⟨h1,a,n,u,get_left h2,h3⟩
  ·obtain ⟨n,u,h1,h2,_⟩:=h.at_ _ x hx
   have:=h.lt n (mem_of_get h1)
   refine ⟨hd,ds.length - 1,n,x,by rw [← h.blen];exact get_last _ _,h1,this,hx,h4,ht,fun b m hb hab=>?_⟩
   have:=lt_of_get hb
   have:=h.len
   have:=lt_of_get hx
   omega
end
inductive FwL (s:Prop):List D→List D→Prop
 | nil:FwL s [] []
 | same {d:D} {l m:List D}:FwL s l m→FwL s (d::l) (d::m)
 | twice {l m:List D}:FwL s l m→FwL s (wall::l) (wall::wall::m)
 | wait {l m:List D}:s→FwL s l m→FwL s (⟨4,0,0⟩::l) (⟨9,0,0⟩::m)
inductive FwP (s:Prop):List (List D)→List (List D)→Prop
 | nil:FwP s [] []
 | cons {l m:List D} {ll mm:List (List D)}:FwL s l m→FwP s ll mm→FwP s (l::ll) (m::mm)
theorem wfD {s : Prop} {ds es : List De} {pos back : List Nat} (h : WfE s ds es pos back) {lr lr' : Int} (hr : LrRel pos lr lr') (t i i' : Nat) (d : D) : ∃ pos' back', WfE s (ds ++ deD t i lr ds.length d) (es ++ deD t i' lr' es.length d) pos' back' ∧ LrRel pos' (lrOf lr ds.length d) (lrOf lr' es.length d) := by
  have hlen := h.len
  by_cases h9 : (d.k == 9) = true
  · have hnr : reads d.k = false := by have : d.k = 9 := by simpa using h9
                                       rw [this]; rfl
    have e1 : lrOf lr ds.length d = lr := by simp [lrOf, hnr]
    have e2 : lrOf lr' es.length d = lr' := by simp [lrOf, hnr]
    rw [deD_wait h9, deD_wait h9, e1, e2, ← List.append_assoc, ← List.append_assoc]
    exact ⟨_, _, h.keep2 rfl rfl rfl hr.1 (by have := hr.2; simp only; omega) rfl rfl rfl hr.1 (by have := hr.2; simp only; omega) rfl, (hr.snoc _).snoc _⟩
  · have h9' : (d.k == 9) = false := by simpa using h9
    rw [deD_one h9', deD_one h9']
    have key : lrOf lr' es.length d = up (fun a => (pos ++ [es.length]).getD a 0) (lrOf lr ds.length d) ∧ lrOf lr ds.length d ≤ ds.length := by
      unfold lrOf
      split
      · refine ⟨?_, by omega⟩
        rw [up_nat]
        simp only [List.getD_eq_getElem?_getD]
        rw [← hlen, get_last]; rfl
      · exact ⟨(hr.snoc es.length).1, by have := hr.2; omega⟩
    refine ⟨_, _, h.keep (.inl rfl) rfl rfl key.1 key.2 (fun e => by simp at h9; exact absurd e h9), key.1, ?_⟩
    have := key.2
    simp; omega
theorem wall_de (t i:Nat) (lr:Int) (n:Nat):deD t i lr n wall=[⟨t,i,false,wall,lr⟩]∧lrOf lr n wall=lr:=by constructor<;>simp [deD,wall,lrOf,reads]
theorem wait_de (t i:Nat) (lr:Int) (n:Nat):deD t i lr n ⟨9,0,0⟩=[⟨t,i,false,⟨9,0,0⟩,lr⟩,⟨t,i,true,⟨9,0,0⟩,lr⟩]∧lrOf lr n ⟨9,0,0⟩=lr:=by constructor<;>simp [deD,lrOf,reads]
theorem wfL {s:Prop} (t:Nat) {l m:List D} (hl:FwL s l m):∀ (i i':Nat) (lr lr':Int) (ds es:List De) (pos back:List Nat),WfE s ds es pos back→LrRel pos lr lr'→∃ pos' back',WfE s (ds++deT t i lr ds.length l) (es++deT t i' lr' es.length m) pos' back':=by
 induction hl with
 | nil=>intro i i' lr lr' ds es pos back h hr;exact ⟨pos,back,by simpa [deT] using h⟩
 | @same d l m _ ih =>
  intro i i' lr lr' ds es pos back h hr
  obtain ⟨p1,b1,h1,r1⟩:=wfD h hr t i i' d
  obtain ⟨p2,b2,h2⟩:=ih (i+1) (i'+1) _ _ _ _ p1 b1 h1 r1
  refine ⟨p2,b2,?_⟩
  simp only [deT]
  rw [← List.append_assoc,← List.append_assoc]
  simpa using h2
 | @twice l m _ ih =>
  intro i i' lr lr' ds es pos back h hr
  obtain ⟨p1,b1,h1,r1⟩:=wfD h hr t i i' wall
  obtain ⟨e1,e2⟩:=wall_de t i lr ds.length
  obtain ⟨f1,f2⟩:=wall_de t i' lr' es.length
  rw [e1,f1] at h1
  rw [e2,f2] at r1
  have hA:=h1.add (x:=⟨t,i,false,wall,lr⟩) (y:=⟨t,i'+1,false,wall,lr'⟩) (.inl rfl) (by simp) rfl rfl
  obtain ⟨p2,b2,h2⟩:=ih (i+1) (i'+1+1) _ _ _ _ p1 _ hA r1
  refine ⟨p2,b2,?_⟩
  have e:deT t i lr ds.length (wall::l)=[⟨t,i,false,wall,lr⟩]++deT t (i+1) lr (ds.length+1) l:=by rw [deT,e1,e2];rfl
  have f:deT t i' lr' es.length (wall::wall::m)=[⟨t,i',false,wall,lr'⟩]++([⟨t,i'+1,false,wall,lr'⟩]++deT t (i'+1+1) lr' (es.length+1+1) m):=by
   have g:=wall_de t (i'+1) lr' (es.length+1)
   rw [deT,f1,f2]
   simp only [deT,List.length_singleton,g.1,g.2]
  rw [e,f,← List.append_assoc,← List.append_assoc,← List.append_assoc]
  simpa using h2
 | @wait l m hs _ ih =>
  intro i i' lr lr' ds es pos back h hr
  obtain ⟨e1,e2⟩:=wall_de t i lr ds.length
  obtain ⟨f1,f2⟩:=wait_de t i' lr' es.length
  have h1:=h.keep (x:=⟨t,i,false,wall,lr⟩) (y:=⟨t,i',false,⟨9,0,0⟩,lr'⟩) (.inr ⟨hs,rfl,rfl,rfl,rfl⟩) rfl rfl (hr.snoc es.length).1 (by have:=hr.2;have:=h.len;simp only;omega) (fun e=>by cases e)
  have hA:=h1.add (x:=⟨t,i,false,wall,lr⟩) (y:=⟨t,i',true,⟨9,0,0⟩,lr'⟩) (.inr ⟨hs,rfl⟩) (by simp) rfl rfl
  obtain ⟨p2,b2,h2⟩:=ih (i+1) (i'+1) _ _ _ _ _ _ hA (hr.snoc es.length)
  refine ⟨p2,b2,?_⟩
  have e:deT t i lr ds.length (wall::l)=[⟨t,i,false,wall,lr⟩]++deT t (i+1) lr (ds.length+1) l:=by rw [deT,e1,e2];rfl
  have f:deT t i' lr' es.length (⟨9,0,0⟩::m)=[⟨t,i',false,⟨9,0,0⟩,lr'⟩]++([⟨t,i',true,⟨9,0,0⟩,lr'⟩]++deT t (i'+1) lr' (es.length+1+1) m):=by
   rw [deT,f1,f2];rfl
  show WfE s (ds++deT t i lr ds.length (wall::l)) _ _ _
  rw [e,f,← List.append_assoc,← List.append_assoc,← List.append_assoc]
  simpa using h2
theorem wfF {s:Prop} {ll mm:List (List D)} (hp:FwP s ll mm):∀ (t:Nat) (ds es:List De) (pos back:List Nat),WfE s ds es pos back→∃ pos' back',WfE s (ds++deF t ds.length ll) (es++deF t es.length mm) pos' back':=by
 induction hp with
 | nil=>intro t ds es pos back h;exact ⟨pos,back,by simpa [deF] using h⟩
 | cons hl _ ih =>
  intro t ds es pos back h
  obtain ⟨p1,b1,h1⟩:=wfL t hl 0 0 (-1) (-1) ds es pos back h ⟨by rw [up_neg (by omega)],by omega⟩
  obtain ⟨p2,b2,h2⟩:=ih (t+1) _ _ p1 b1 h1
  refine ⟨p2,b2,?_⟩
  simp only [deF]
  rw [← List.append_assoc,← List.append_assoc]
  simpa using h2
theorem wf_deeds {s:Prop} {ll mm:List (List D)} (hp:FwP s ll mm):∃ pos back,WfE s (deeds ll) (deeds mm) pos back:=by
 have:=wfF hp 0 [] [] [] [] .nil
 simpa [deeds] using this
end M
end Go.Proofs.YtjjkicffhpcngaaGreat
