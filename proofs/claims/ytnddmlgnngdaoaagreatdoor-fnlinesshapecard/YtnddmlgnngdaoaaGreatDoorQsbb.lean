/- Whether all may be one behind the other, and of each pair one of both be added: plainly. No condition. And what goes with it: HdMath, HdPick, HdKahn, HdWait, HdBit, HdHas, HdMay, HdAdd, HdArr, HdWord, HdCh, HdHolds, HdAhd, HdSet, HdCan, HdWch, HdWay, HdImp. -/
import Derived.Test.YtnddmlgnngdaoaaGreatDoorRows
import Derived.Test.YtnddmlgnngdaoaaGreatDoorQsam
import Derived.Test.YtnddmlgnngdaoaaGreatDoorQsao
import Derived.Test.YtnddmlgnngdaoaaGreatDoorQsba
namespace Go.Proofs.YtnddmlgnngdaoaaGreatDoor
section
namespace M
abbrev Lk:=Nat × Nat
inductive Leads (L:List Lk):Nat→Nat→Prop where
 | one {a b:Nat}:(a,b)∈L→Leads L a b
 | more {a b c:Nat}:Leads L a b→(b,c)∈L→Leads L a c
theorem Leads.trans {L:List Lk} {a b c:Nat} (h:Leads L a b) (k:Leads L b c):Leads L a c:=by
 induction k with
 | one h1=>exact .more h h1
 | more _ h2 ih=>exact .more ih h2
theorem Leads.mono {L L':List Lk} {a b:Nat} (h:Leads L a b) (hs:∀ l∈L,Leads L' l.1 l.2):Leads L' a b:=by
 induction h with
 | one h1=>exact hs _ h1
 | more _ h2 ih=>exact ih.trans (hs _ h2)
theorem Leads.sub {L L':List Lk} {a b:Nat} (h:Leads L a b) (hs:∀ l∈L,l∈L'):Leads L' a b:=h.mono fun l hl=>.one (hs l hl)
theorem leads_add {L:List Lk} {l:Lk} {a b:Nat}:Leads (l::L) a b↔Leads L a b∨((a=l.1∨Leads L a l.1)∧(b=l.2∨Leads L l.2 b)):=by
 constructor
 ·intro h
  induction h with
  | one h1 =>
   rcases List.mem_cons.1 h1 with e | e
   ·exact .inr ⟨.inl (by rw [← e]),.inl (by rw [← e])⟩
   ·exact .inl (.one e)
  | more _ h2 ih =>
   rcases List.mem_cons.1 h2 with e | e
   ·have e1:_=l.1:=congrArg Prod.fst e
    have e2:_=l.2:=congrArg Prod.snd e
    simp only at e1 e2
    subst e1
    refine .inr ⟨?_,.inl e2⟩
    rcases ih with ih | ⟨ih,_⟩
    ·exact .inr ih
    ·exact ih
   ·rcases ih with ih | ⟨i1,i2⟩
    ·exact .inl (.more ih e)
    ·refine .inr ⟨i1,.inr ?_⟩
     rcases i2 with rfl | i2
     ·exact .one e
     ·exact .more i2 e
 ·intro h
  have hs:∀ x∈L,x∈l::L:=fun x hx=>List.mem_cons_of_mem _ hx
  rcases h with h | ⟨h1,h2⟩
  ·exact h.sub hs
  ·have hl:Leads (l::L) l.1 l.2:=.one (List.mem_cons_self ..)
   have k1:Leads (l::L) a l.2:=by
    rcases h1 with rfl | h1
    ·exact hl
    ·exact (h1.sub hs).trans hl
   rcases h2 with rfl | h2
   ·exact k1
   ·exact k1.trans (h2.sub hs)
def addB (S:Nat→Nat→Bool) (l:Lk):Nat→Nat→Bool:=fun a b=>S a b||((a==l.1||S a l.1)&&(S l.2 b||b==l.2))
def Tells (S:Nat→Nat→Bool) (L:List Lk):Prop:=∀ a b,S a b=true↔Leads L a b
theorem leads_nil {a b:Nat}:¬ Leads [] a b:=fun h=>by
 induction h with
 | one h=>cases h
 | more _ h _=>cases h
theorem Tells.zero:Tells (fun _ _=>false) []:=fun a b=>⟨fun h=>(by cases h),fun h=>absurd h leads_nil⟩
theorem Tells.add {S:Nat→Nat→Bool} {L:List Lk} (h:Tells S L) (l:Lk):Tells (addB S l) (l::L):=fun a b=>by
 rw [leads_add,← h a b,← h a l.1,← h l.2 b]
 simp only [addB,Bool.or_eq_true,Bool.and_eq_true,beq_iff_eq]
 constructor
 ·rintro (h | ⟨h1,h2⟩)
  ·exact .inl h
  ·exact .inr ⟨h1,h2.symm⟩
 ·rintro (h | ⟨h1,h2⟩)
  ·exact .inl h
  ·exact .inr ⟨h1,h2.symm⟩
def Round (L:List Lk):Prop:=∃ a,Leads L a a
theorem Round.sub {L L':List Lk} (h:Round L) (hs:∀ l∈L,Leads L' l.1 l.2):Round L':=by
 obtain ⟨a,h⟩:=h
 exact ⟨a,h.mono hs⟩
theorem round_add {L:List Lk} {l:Lk} (h:¬ Round L):Round (l::L)↔l.1=l.2∨Leads L l.2 l.1:=by
 constructor
 ·rintro ⟨a,ha⟩
  rcases leads_add.1 ha with h1 | ⟨h1,h2⟩
  ·exact absurd ⟨a,h1⟩ h
  ·rcases h1 with rfl | h1
   ·exact h2
   ·rcases h2 with rfl | h2
    ·exact .inr h1
    ·exact .inr (h2.trans h1)
 ·intro hl
  have k:Leads (l::L) l.1 l.2:=.one (List.mem_cons_self ..)
  rcases hl with e | hl
  ·exact ⟨l.2,by rw [e] at k;exact k⟩
  ·exact ⟨l.1,k.trans (hl.sub fun x hx=>List.mem_cons_of_mem _ hx)⟩
inductive Picks:List (Lk × Lk)→List Lk→Prop where
 | nil:Picks [] []
 | cons {c:Lk × Lk} {cs:List (Lk × Lk)} {l:Lk} {ls:List Lk}:(l=c.1∨l=c.2)→Picks cs ls→Picks (c::cs) (l::ls)
def Sat (L:List Lk) (cs:List (Lk × Lk)):Prop:=∃ ls,Picks cs ls∧¬ Round (ls++L)
theorem sat_nil {L:List Lk}:Sat L []↔¬ Round L:=by
 constructor
 ·rintro ⟨ls,hp,h⟩
  cases hp
  exact h
 ·intro h
  exact ⟨[],.nil,h⟩
theorem round_mem {L L':List Lk} (h:∀ l,l∈L↔l∈L'):Round L↔Round L':=⟨fun hr=>hr.sub fun l hl=>.one ((h l).1 hl),fun hr=>hr.sub fun l hl=>.one ((h l).2 hl)⟩
theorem sat_cons {L:List Lk} {c:Lk × Lk} {cs:List (Lk × Lk)}:Sat L (c::cs)↔Sat (c.1::L) cs∨Sat (c.2::L) cs:=by
 have mv:∀ (l:Lk) (ls:List Lk),Round (l::ls++L)↔Round (ls++l::L):=fun l ls=>round_mem fun x=>by simp [or_left_comm]
 constructor
 ·rintro ⟨ls,hp,h⟩
  cases hp with
  | cons hl hp =>
   rw [mv] at h
   rcases hl with rfl | rfl
   ·exact .inl ⟨_,hp,h⟩
   ·exact .inr ⟨_,hp,h⟩
 ·rintro (⟨ls,hp,h⟩ | ⟨ls,hp,h⟩)
  ·exact ⟨_,.cons (.inl rfl) hp,by rw [mv];exact h⟩
  ·exact ⟨_,.cons (.inr rfl) hp,by rw [mv];exact h⟩
theorem sat_round {L:List Lk} {cs:List (Lk × Lk)} (h:Sat L cs):¬ Round L:=fun hr=>by
 obtain ⟨ls,_,hn⟩:=h
 exact hn (hr.sub fun l hl=>.one (List.mem_append.2 (.inr hl)))
theorem sat_same {L L':List Lk} (h1:∀ l∈L,Leads L' l.1 l.2) (h2:∀ l∈L',Leads L l.1 l.2) (cs:List (Lk × Lk)):Sat L cs↔Sat L' cs:=by
 have key:∀ {L L':List Lk},(∀ l∈L',Leads L l.1 l.2)→Sat L cs→Sat L' cs:=by
  intro L L' h ⟨ls,hp,hn⟩
  refine ⟨ls,hp,fun hr=>hn (hr.sub fun l hl=>?_)⟩
  rcases List.mem_append.1 hl with e | e
  ·exact .one (List.mem_append.2 (.inl e))
  ·exact (h l e).sub fun x hx=>List.mem_append.2 (.inr hx)
 exact ⟨key h2,key h1⟩
theorem sat_has {L:List Lk} {l:Lk} (h:Leads L l.1 l.2) (cs:List (Lk × Lk)):Sat (l::L) cs↔Sat L cs :=
 sat_same (fun x hx=>by
  rcases List.mem_cons.1 hx with rfl | e
  ·exact h
  ·exact .one e) (fun _ hx=>.one (List.mem_cons_of_mem _ hx)) cs
theorem sat_mid {L:List Lk} {c:Lk × Lk}:∀ {cc bs:List (Lk × Lk)},Sat L (cc++c::bs)↔Sat L (c::(cc++bs)):=by
 intro cc
 induction cc generalizing L with
 | nil=>intro bs;exact Iff.rfl
 | cons x cc ih =>
  intro bs
  rw [List.cons_append,sat_cons,ih,ih,sat_cons,sat_cons,sat_cons,List.cons_append,sat_cons,sat_cons]
  have sw:∀ (l m:Lk),Sat (l::m::L) (cc++bs)↔Sat (m::l::L) (cc++bs):=fun l m=>sat_same (fun y hy=>.one (by simp at hy ⊢;rcases hy with h | h | h<;>simp [h])) (fun y hy=>.one (by simp at hy ⊢;rcases hy with h | h | h<;>simp [h])) _
  rw [sw c.1 x.1,sw c.2 x.1,sw c.1 x.2,sw c.2 x.2]
  constructor
  ·rintro ((h | h) | (h | h))
   ·exact .inl (.inl h)
   ·exact .inr (.inl h)
   ·exact .inl (.inr h)
   ·exact .inr (.inr h)
  ·rintro ((h | h) | (h | h))
   ·exact .inl (.inl h)
   ·exact .inr (.inl h)
   ·exact .inl (.inr h)
   ·exact .inr (.inr h)
theorem sat_forced {L:List Lk} {c:Lk × Lk} {cs:List (Lk × Lk)} (h:Leads L c.2.2 c.2.1):Sat L (c::cs)↔Sat (c.1::L) cs:=by
 rw [sat_cons]
 refine ⟨fun hs=>hs.resolve_right fun hn=>sat_round hn ?_,.inl⟩
 exact ⟨c.2.1,Leads.trans (.one (List.mem_cons_self ..)) (h.sub fun x hx=>List.mem_cons_of_mem _ hx)⟩
theorem sat_forced' {L:List Lk} {c:Lk × Lk} {cs:List (Lk × Lk)} (h:Leads L c.1.2 c.1.1):Sat L (c::cs)↔Sat (c.2::L) cs:=by
 rw [sat_cons]
 refine ⟨fun hs=>hs.resolve_left fun hn=>sat_round hn ?_,.inr⟩
 exact ⟨c.1.1,Leads.trans (.one (List.mem_cons_self ..)) (h.sub fun x hx=>List.mem_cons_of_mem _ hx)⟩
theorem sat_no {L:List Lk} {c:Lk × Lk} {cs:List (Lk × Lk)} (h1:Leads L c.1.2 c.1.1) (h2:Leads L c.2.2 c.2.1):¬ Sat L (c::cs):=fun h =>
 sat_round ((sat_forced h2).1 h) ⟨c.1.1,Leads.trans (.one (List.mem_cons_self ..)) (h1.sub fun _ hx=>List.mem_cons_of_mem _ hx)⟩
theorem sat_there {L:List Lk} {c:Lk × Lk} {cs:List (Lk × Lk)} (h:Leads L c.1.1 c.1.2∨Leads L c.2.1 c.2.2):Sat L (c::cs)↔Sat L cs:=by
 have less:∀ (l:Lk),Sat (l::L) cs→Sat L cs:=by
  intro l ⟨ls,hp,hn⟩
  refine ⟨ls,hp,fun hr=>hn (hr.sub fun x hx=>.one ?_)⟩
  rcases List.mem_append.1 hx with e | e
  ·exact List.mem_append.2 (.inl e)
  ·exact List.mem_append.2 (.inr (List.mem_cons_of_mem _ e))
 rw [sat_cons]
 constructor
 ·rintro (hs | hs)
  ·exact less _ hs
  ·exact less _ hs
 ·intro hs
  rcases h with h | h
  ·exact .inl ((sat_has h cs).2 hs)
  ·exact .inr ((sat_has h cs).2 hs)
end M
end
section
namespace M
abbrev Ch:=Lk × Lk
abbrev Bits:=Nat→Nat→Bool
def mayAdd (S:Bits) (l:Lk):Bool:=!S l.2 l.1
def hasL (S:Bits) (l:Lk):Bool:=S l.1 l.2
def sweep:Bits→List Ch→List Ch→Option (Bits × List Ch)
 | S,[],left=>some (S,left)
 | S,c::cs,left =>
  if !mayAdd S c.1&&!mayAdd S c.2 then none
  else if hasL S c.1||hasL S c.2 then sweep S cs left
  else if mayAdd S c.1&&mayAdd S c.2 then sweep S cs (left++[c])
  else if mayAdd S c.1 then sweep (addB S c.1) cs left
  else sweep (addB S c.2) cs left
def settle:Nat→Bits→List Ch→Option (Bits × List Ch)
 | 0,S,cs=>some (S,cs)
 | n+1,S,cs=>match sweep S cs [] with
  | none=>none
  | some (S',left)=>if left.length=cs.length then some (S',left) else settle n S' left
def choose:Nat→Bits→List Ch→Bool
 | 0,_,_=>false
 | n+1,S,cs=>match settle (cs.length+1) S cs with
  | none=>false
  | some (_,[])=>true
  | some (S',c::left)=>choose n (addB S' c.1) left||choose n (addB S' c.2) left
def Two (c:Ch):Prop:=c.1.1≠c.1.2∧c.2.1≠c.2.2
theorem round_keep {S:Bits} {L:List Lk} (hT:Tells S L) (hR:¬ Round L) {l:Lk} (h:mayAdd S l=true) (hl:l.1≠l.2):¬ Round (l::L):=fun hr=>by
 rcases (round_add hR).1 hr with e | e
 ·exact hl e
 ·rw [← hT] at e
  simp [mayAdd,e] at h
theorem no_leads {S:Bits} {L:List Lk} (hT:Tells S L) {l:Lk} (h:mayAdd S l=false):Leads L l.2 l.1:=by
 rw [← hT]
 simpa [mayAdd] using h
theorem sweep_ok:∀ (cs left:List Ch) (S:Bits) (L:List Lk),Tells S L→¬ Round L→(∀ c∈cs,Two c)→match sweep S cs left with
  | none=>¬ Sat L (left++cs)
  | some (S',left')=>∃ L',Tells S' L'∧¬ Round L'∧(Sat L (left++cs)↔Sat L' left')∧(∀ c∈left',c∈left∨c∈cs)∧left'.length≤left.length+cs.length:=by
 intro cs
 induction cs with
 | nil =>
  intro left S L hT hR _
  simp only [sweep,List.append_nil,List.length_nil,Nat.add_zero]
  exact ⟨L,hT,hR,Iff.rfl,fun c hc=>.inl hc,Nat.le_refl _⟩
 | cons c cs ih =>
  intro left S L hT hR hd
  have hc:Two c:=hd c (List.mem_cons_self ..)
  have hds:∀ c∈cs,Two c:=fun x hx=>hd x (List.mem_cons_of_mem _ hx)
  have go:∀ (S2:Bits) (L2:List Lk) (left2:List Ch),Tells S2 L2→¬ Round L2→(Sat L (left++c::cs)↔Sat L2 (left2++cs))→(∀ x∈left2,x∈left∨x∈c::cs)→left2.length≤left.length+1 →
    match sweep S2 cs left2 with
    | none=>¬ Sat L (left++c::cs)
    | some (S',left')=>∃ L',Tells S' L'∧¬ Round L'∧(Sat L (left++c::cs)↔Sat L' left')∧(∀ x∈left',x∈left∨x∈c::cs)∧left'.length≤left.length+(c::cs).length:=by
   intro S2 L2 left2 h1 h2 h3 h4 h5
   have:=ih left2 S2 L2 h1 h2 hds
   cases hp:sweep S2 cs left2 with
   | none =>
    rw [hp] at this
    exact fun h=>this (h3.1 h)
   | some r =>
    obtain ⟨S',left'⟩:=r
    rw [hp] at this
    obtain ⟨L',q1,q2,q3,q4,q5⟩:=this
    refine ⟨L',q1,q2,h3.trans q3,fun x hx=>?_,by simp only [List.length_cons];omega⟩
    rcases q4 x hx with e | e
    ·exact h4 x e
    ·exact .inr (List.mem_cons_of_mem _ e)
  unfold sweep
  cases m1:mayAdd S c.1
  ·cases m2:mayAdd S c.2
   ·simp only [Bool.not_false,Bool.and_self,if_true]
    rw [sat_mid]
    exact sat_no (no_leads hT m1) (no_leads hT m2)
   ·simp only [Bool.not_false,Bool.not_true,Bool.and_false,Bool.false_eq_true,if_false,Bool.and_true]
    cases hh:(hasL S c.1||hasL S c.2)
    ·simp only [Bool.false_eq_true,if_false]
     exact go _ (c.2::L) left (hT.add c.2) (round_keep hT hR m2 hc.2) (by rw [sat_mid];exact sat_forced' (no_leads hT m1)) (fun x hx=>.inl hx) (by omega)
    ·simp only [if_true]
     rw [Bool.or_eq_true] at hh
     exact go _ L left hT hR (by rw [sat_mid];exact sat_there (hh.imp (hT _ _).1 (hT _ _).1)) (fun x hx=>.inl hx) (by omega)
  ·cases m2:mayAdd S c.2
   ·simp only [Bool.not_false,Bool.not_true,Bool.and_false,Bool.false_and,Bool.false_eq_true,if_false,if_true]
    cases hh:(hasL S c.1||hasL S c.2)
    ·simp only [Bool.false_eq_true,if_false]
     exact go _ (c.1::L) left (hT.add c.1) (round_keep hT hR m1 hc.1) (by rw [sat_mid];exact sat_forced (no_leads hT m2)) (fun x hx=>.inl hx) (by omega)
    ·simp only [if_true]
     rw [Bool.or_eq_true] at hh
     exact go _ L left hT hR (by rw [sat_mid];exact sat_there (hh.imp (hT _ _).1 (hT _ _).1)) (fun x hx=>.inl hx) (by omega)
   ·simp only [Bool.not_true,Bool.and_self,Bool.false_eq_true,if_false,if_true]
    cases hh:(hasL S c.1||hasL S c.2)
    ·simp only [Bool.false_eq_true,if_false]
     exact go _ L (left++[c]) hT hR (by rw [List.append_assoc];exact Iff.rfl) (fun x hx=>by
      rcases List.mem_append.1 hx with e | e
      ·exact .inl e
      ·exact .inr (by rw [List.mem_singleton.1 e];exact List.mem_cons_self ..)) (by simp)
    ·simp only [if_true]
     rw [Bool.or_eq_true] at hh
     exact go _ L left hT hR (by rw [sat_mid];exact sat_there (hh.imp (hT _ _).1 (hT _ _).1)) (fun x hx=>.inl hx) (by omega)
theorem settle_ok:∀ (n:Nat) (S:Bits) (cs:List Ch) (L:List Lk),Tells S L→¬ Round L→(∀ c∈cs,Two c)→match settle n S cs with
  | none=>¬ Sat L cs
  | some (S',left)=>∃ L',Tells S' L'∧¬ Round L'∧(Sat L cs↔Sat L' left)∧(∀ c∈left,c∈cs)∧left.length≤cs.length:=by
 intro n
 induction n with
 | zero =>
  intro S cs L hT hR _
  simp only [settle]
  exact ⟨L,hT,hR,Iff.rfl,fun c hc=>hc,Nat.le_refl _⟩
 | succ n ih =>
  intro S cs L hT hR hd
  have h:=sweep_ok cs [] S L hT hR hd
  cases hp:sweep S cs [] with
  | none =>
   rw [hp] at h
   rw [settle,hp]
   exact h
  | some r =>
   obtain ⟨S',left⟩:=r
   rw [hp] at h
   obtain ⟨L',q1,q2,q3,q4,q5⟩:=h
   simp only [List.nil_append] at q3
   have q4':∀ c∈left,c∈cs:=fun c hc=>(q4 c hc).resolve_left (by simp)
   have q5':left.length≤cs.length:=by simpa using q5
   have es:settle (n+1) S cs=if left.length=cs.length then some (S',left) else settle n S' left:=by rw [settle,hp]
   rw [es]
   by_cases he:left.length=cs.length
   ·rw [if_pos he]
    exact ⟨L',q1,q2,q3,q4',q5'⟩
   ·rw [if_neg he]
    have h2:=ih S' left L' q1 q2 (fun c hc=>hd c (q4' c hc))
    cases hs:settle n S' left with
    | none=>rw [hs] at h2;exact fun h=>h2 (q3.1 h)
    | some r2 =>
     obtain ⟨S2,left2⟩:=r2
     rw [hs] at h2
     obtain ⟨L2,p1,p2,p3,p4,p5⟩:=h2
     exact ⟨L2,p1,p2,q3.trans p3,fun c hc=>q4' c (p4 c hc),by omega⟩
theorem sweep_all:∀ (cs left:List Ch) (S S':Bits) (left':List Ch),sweep S cs left=some (S',left')→left'.length≤left.length+cs.length∧(left'.length=left.length+cs.length→S'=S∧left'=left++cs∧∀ c∈cs,mayAdd S c.1=true∧mayAdd S c.2=true):=by
 intro cs
 induction cs with
 | nil =>
  intro left S S' left' h
  simp only [sweep,Option.some.injEq,Prod.mk.injEq] at h
  obtain ⟨rfl,rfl⟩:=h
  exact ⟨by simp,fun _=>⟨rfl,by simp,fun c hc=>(by cases hc)⟩⟩
 | cons c cs ih =>
  intro left S S' left' h
  have less:∀ (S2:Bits),sweep S2 cs left=some (S',left')→left'.length≤left.length+(c::cs).length∧(left'.length=left.length+(c::cs).length→S'=S∧left'=left++c::cs∧∀ x∈c::cs,mayAdd S x.1=true∧mayAdd S x.2=true):=fun S2 h2=>by
   have:=(ih left S2 S' left' h2).1
   simp only [List.length_cons]
   exact ⟨by omega,fun e=>by omega⟩
  unfold sweep at h
  split at h
  ·cases h
  ·split at h
   ·exact less _ h
   ·split at h
    ·rename_i hm
     rw [Bool.and_eq_true] at hm
     obtain ⟨h1,h2⟩:=ih (left++[c]) S S' left' h
     simp only [List.length_append,List.length_cons,List.length_nil] at h1 h2 ⊢
     refine ⟨by omega,fun e=>?_⟩
     obtain ⟨e1,e2,e3⟩:=h2 (by omega)
     refine ⟨e1,by rw [e2];simp,fun x hx=>?_⟩
     rcases List.mem_cons.1 hx with rfl | hx
     ·exact hm
     ·exact e3 x hx
    ·split at h
     ·exact less _ h
     ·exact less _ h
theorem settle_fix:∀ (n:Nat) (S S':Bits) (cs left:List Ch),cs.length < n→settle n S cs=some (S',left)→∀ c∈left,mayAdd S' c.1=true∧mayAdd S' c.2=true:=by
 intro n
 induction n with
 | zero=>intro S S' cs left h;omega
 | succ n ih =>
  intro S S' cs left hn h
  unfold settle at h
  cases hp:sweep S cs [] with
  | none=>rw [hp] at h;cases h
  | some r =>
   obtain ⟨S2,l2⟩:=r
   rw [hp] at h
   simp only at h
   obtain ⟨h1,h2⟩:=sweep_all cs [] S S2 l2 hp
   simp only [List.length_nil,Nat.zero_add,List.nil_append] at h1 h2
   split at h
   ·rename_i e
    obtain ⟨e1,e2,e3⟩:=h2 e
    simp only [Option.some.injEq,Prod.mk.injEq] at h
    obtain ⟨rfl,rfl⟩:=h
    intro c hc
    rw [e2] at hc
    rw [e1]
    exact e3 c hc
   ·exact ih S2 S' l2 left (by omega) h
theorem choose_ok:∀ (n:Nat) (S:Bits) (cs:List Ch) (L:List Lk),cs.length < n→Tells S L→(∀ c∈cs,Two c)→¬ Round L→(choose n S cs=true↔Sat L cs):=by
 intro n
 induction n with
 | zero=>intro S cs L h;omega
 | succ n ih =>
  intro S cs L hn hT hd hR
  have h:=settle_ok (cs.length+1) S cs L hT hR hd
  unfold choose
  cases hs:settle (cs.length+1) S cs with
  | none=>rw [hs] at h;simpa using h
  | some r =>
   obtain ⟨S',left⟩:=r
   rw [hs] at h
   obtain ⟨L',q1,q2,q3,q4,q5⟩:=h
   cases left with
   | nil=>simp only [true_iff];exact q3.2 (sat_nil.2 q2)
   | cons c left =>
    have hm:=settle_fix _ S S' cs (c::left) (Nat.lt_succ_self _) hs c (List.mem_cons_self ..)
    have hc:Two c:=hd c (q4 c (List.mem_cons_self ..))
    have hdl:∀ x∈left,Two x:=fun x hx=>hd x (q4 x (List.mem_cons_of_mem _ hx))
    have hln:left.length < n:=by simp only [List.length_cons] at q5;omega
    simp only [Bool.or_eq_true]
    rw [q3,sat_cons,ih _ left (c.1::L') hln (q1.add c.1) hdl (round_keep q1 q2 hm.1 hc.1),ih _ left (c.2::L') hln (q1.add c.2) hdl (round_keep q1 q2 hm.2 hc.2)]
end M
end
section
namespace M
theorem minimal {L:List Lk} (hR:¬ Round L):∀ U:List Nat,U≠[]→∃ m∈U,∀ a∈U,¬ Leads L a m:=by
 intro U
 induction U with
 | nil=>intro h;exact absurd rfl h
 | cons x U ih =>
  intro _
  have hx:¬ Leads L x x:=fun h=>hR ⟨x,h⟩
  cases U with
  | nil =>
   exact ⟨x,List.mem_cons_self ..,fun a ha=>by
    rw [List.mem_singleton.1 ha];exact hx⟩
  | cons y U =>
   obtain ⟨m,hm,hmin⟩:=ih (by simp)
   rcases Classical.em (Leads L x m) with hl | hl
   ·exact ⟨x,List.mem_cons_self ..,fun a ha h=>by
     rcases List.mem_cons.1 ha with rfl | ha
     ·exact hx h
     ·exact hmin a ha (h.trans hl)⟩
   ·exact ⟨m,List.mem_cons_of_mem _ hm,fun a ha=>by
     rcases List.mem_cons.1 ha with rfl | ha
     ·exact hl
     ·exact hmin a ha⟩
def free (A:Nat→Nat→Bool) (n:Nat) (gone:Nat→Bool) (b:Nat):Bool:=!gone b&&(List.range n).all fun a=>gone a||!A a b
def kahn (A:Nat→Nat→Bool) (n:Nat):Nat→(Nat→Bool)→Bool
 | 0,_=>true
 | k+1,gone=>match (List.range n).find? (free A n gone) with
  | none=>false
  | some b=>kahn A n k (fun x=>gone x||x==b)
def linksOf (A:Nat→Nat→Bool) (n:Nat):List Lk:=(List.range n).flatMap fun a=>((List.range n).filter fun b=>A a b).map fun b=>(a,b)
theorem mem_links {A:Nat→Nat→Bool} {n a b:Nat}:(a,b)∈linksOf A n↔a < n∧b < n∧A a b=true:=by
 simp only [linksOf,List.mem_flatMap,List.mem_map,List.mem_filter,List.mem_range,Prod.mk.injEq]
 constructor
 ·rintro ⟨x,hx,y,⟨hy,hA⟩,rfl,rfl⟩
  exact ⟨hx,hy,hA⟩
 ·rintro ⟨h1,h2,h3⟩
  exact ⟨a,h1,b,⟨h2,h3⟩,rfl,rfl⟩
def leftN (n:Nat) (gone:Nat→Bool):Nat:=((List.range n).filter fun x=>!gone x).length
theorem filter_less (gone:Nat→Bool) (b:Nat) (hb:gone b=false):∀ (U:List Nat),U.Nodup→b∈U→(U.filter fun x=>!(gone x||x==b)).length+1=(U.filter fun x=>!gone x).length
 | [],_,h=>by cases h
 | x::U,hn,h=>by
  obtain ⟨hx,hU⟩:=List.nodup_cons.1 hn
  by_cases e:x=b
  ·subst e
   have same:(U.filter fun y=>!(gone y||y==x))=U.filter fun y=>!gone y:=by
    apply List.filter_congr
    intro y hy
    have:(y==x)=false:=by
     rw [beq_eq_false_iff_ne]
     intro e;rw [e] at hy;exact hx hy
    simp [this]
   rw [List.filter_cons,List.filter_cons,same]
   simp [hb]
  ·have hbU:b∈U:=by
    rcases List.mem_cons.1 h with e' | h
    ·exact absurd e'.symm e
    ·exact h
   have ih:=filter_less gone b hb U hU hbU
   have hxb:(x==b)=false:=by rw [beq_eq_false_iff_ne];exact e
   cases hg:gone x
   ·simp only [List.filter_cons,hg,hxb,Bool.or_self,Bool.not_false,if_true,List.length_cons]
    omega
   ·simp only [List.filter_cons,hg,Bool.true_or,Bool.not_true,Bool.false_eq_true,if_false]
    exact ih
theorem free_lt {A:Nat→Nat→Bool} {n:Nat} {gone:Nat→Bool} {b:Nat} (h:(List.range n).find? (free A n gone)=some b):b < n∧gone b=false∧∀ a,a < n→A a b=true→gone a=true:=by
 have h1:=List.find?_some h
 have h2:=List.mem_of_find?_eq_some h
 simp only [free,Bool.and_eq_true,List.all_eq_true,List.mem_range,Bool.or_eq_true,Bool.not_eq_true'] at h1 h2
 exact ⟨h2,h1.1,fun a ha hA=>(h1.2 a ha).resolve_right (by rw [hA];simp)⟩
theorem left_less {A:Nat→Nat→Bool} {n k:Nat} {gone:Nat→Bool} {b:Nat} (h:(List.range n).find? (free A n gone)=some b) (hk:leftN n gone=k+1):leftN n (fun x=>gone x||x==b)=k:=by
 obtain ⟨h1,h2,_⟩:=free_lt h
 have:=filter_less gone b h2 (List.range n) List.nodup_range (List.mem_range.2 h1)
 unfold leftN at hk ⊢
 simp only at this ⊢
 omega
theorem left_all (n:Nat):leftN n (fun _=>false)=n:=by
 have e:(List.range n).filter (fun x=>!(fun _:Nat=>false) x)=List.range n:=List.filter_eq_self.2 (fun _ _=>rfl)
 unfold leftN
 rw [e,List.length_range]
theorem kahn_yes {A:Nat→Nat→Bool} {n:Nat} (hR:¬ Round (linksOf A n)):∀ (k:Nat) (gone:Nat→Bool),leftN n gone=k→kahn A n k gone=true:=by
 intro k
 induction k with
 | zero=>intro gone _;rfl
 | succ k ih =>
  intro gone hk
  have hne:(List.range n).filter (fun x=>!gone x)≠[]:=fun e=>by
   unfold leftN at hk;rw [e] at hk;simp at hk
  obtain ⟨m,hm,hmin⟩:=minimal hR _ hne
  simp only [List.mem_filter,List.mem_range,Bool.not_eq_true'] at hm hmin
  have hf:free A n gone m=true:=by
   simp only [free,Bool.and_eq_true,List.all_eq_true,List.mem_range,Bool.or_eq_true,Bool.not_eq_true']
   refine ⟨hm.2,fun a ha=>?_⟩
   cases hg:gone a
   ·right
    cases hA:A a m
    ·rfl
    ·exact absurd (.one (mem_links.2 ⟨ha,hm.1,hA⟩)) (hmin a ⟨ha,hg⟩)
   ·exact .inl rfl
  rw [kahn]
  cases hs:(List.range n).find? (free A n gone) with
  | none=>exact absurd hf (by simpa using List.find?_eq_none.1 hs m (List.mem_range.2 hm.1))
  | some b=>exact ih _ (left_less hs hk)
theorem leads_last {L:List Lk} {a b:Nat} (h:Leads L a b):∃ c,(c,b)∈L∧(c=a∨Leads L a c):=by
 cases h with
 | one h=>exact ⟨a,h,.inl rfl⟩
 | more h1 h2=>exact ⟨_,h2,.inr h1⟩
theorem leads_closed {L:List Lk} {gone:Nat→Bool} (hc:∀ a b,(a,b)∈L→gone b=true→gone a=true) {a b:Nat} (h:Leads L a b):gone b=true→gone a=true:=by
 induction h with
 | one h=>exact hc _ _ h
 | more _ h2 ih=>exact fun hg=>ih (hc _ _ h2 hg)
theorem kahn_no {A:Nat→Nat→Bool} {n:Nat}:∀ (k:Nat) (gone:Nat→Bool),leftN n gone=k→(∀ a b,(a,b)∈linksOf A n→gone b=true→gone a=true)→(∀ a,gone a=true→¬ Leads (linksOf A n) a a)→kahn A n k gone=true→¬ Round (linksOf A n):=by
 intro k
 induction k with
 | zero =>
  intro gone hk _ hn _ ⟨a,ha⟩
  obtain ⟨c,hc,_⟩:=leads_last ha
  have hlt:=(mem_links.1 hc).2.1
  cases hg:gone a
  ·have:a∈(List.range n).filter (fun x=>!gone x):=by simp [hlt,hg]
   unfold leftN at hk
   rw [List.length_eq_zero_iff.1 hk] at this
   cases this
  ·exact hn a hg ha
 | succ k ih =>
  intro gone hk hc hn h
  rw [kahn] at h
  cases hs:(List.range n).find? (free A n gone) with
  | none=>rw [hs] at h;cases h
  | some b =>
   rw [hs] at h
   obtain ⟨h1,h2,h3⟩:=free_lt hs
   refine ih _ (left_less hs hk) (fun x y hxy hy=>?_) (fun x hx hl=>?_) h
   ·simp only [Bool.or_eq_true,beq_iff_eq] at hy ⊢
    rcases hy with hy | rfl
    ·exact .inl (hc x y hxy hy)
    ·obtain ⟨q1,_,q3⟩:=mem_links.1 hxy
     exact .inl (h3 x q1 q3)
   ·simp only [Bool.or_eq_true,beq_iff_eq] at hx
    rcases hx with hx | rfl
    ·exact hn x hx hl
    ·obtain ⟨c,q1,q2⟩:=leads_last hl
     obtain ⟨r1,_,r3⟩:=mem_links.1 q1
     have hg:=h3 c r1 r3
     rcases q2 with rfl | q2
     ·rw [hg] at h2;cases h2
     ·rw [leads_closed hc q2 hg] at h2;cases h2
theorem kahn_ok (A:Nat→Nat→Bool) (n:Nat):kahn A n n (fun _=>false)=true↔¬ Round (linksOf A n) :=
 ⟨kahn_no n _ (left_all n) (fun _ _ _ h=>(by cases h)) (fun _ h=>(by cases h)),fun h=>kahn_yes h n _ (left_all n)⟩
end M
end
section
namespace M
def setA (A:Nat→Nat→Bool) (l:Lk):Nat→Nat→Bool:=fun a b=>A a b||(a==l.1&&b==l.2)
def holdsA (A:Nat→Nat→Bool) (n:Nat):Bool:=kahn A n n (fun _=>false)
def waitsA (n:Nat):(Nat→Nat→Bool)→List Ch→Bool
 | A,[]=>holdsA A n
 | A,c::cs=>holdsA A n&&(waitsA n (setA A c.1) cs||waitsA n (setA A c.2) cs)
theorem links_set {A:Nat→Nat→Bool} {n:Nat} {l:Lk} (h1:l.1 < n) (h2:l.2 < n) (x:Lk):x∈linksOf (setA A l) n↔x∈l::linksOf A n:=by
 obtain ⟨a,b⟩:=x
 obtain ⟨p,q⟩:=l
 simp only at h1 h2
 rw [List.mem_cons,mem_links,mem_links]
 simp only [setA,Bool.or_eq_true,Bool.and_eq_true,beq_iff_eq,Prod.mk.injEq]
 constructor
 ·rintro ⟨ha,hb,h | h⟩
  ·exact .inr ⟨ha,hb,h⟩
  ·exact .inl h
 ·rintro (⟨rfl,rfl⟩ | ⟨ha,hb,h⟩)
  ·exact ⟨h1,h2,.inr ⟨rfl,rfl⟩⟩
  ·exact ⟨ha,hb,.inl h⟩
theorem sat_mem {L L':List Lk} (h:∀ l,l∈L↔l∈L') (cs:List Ch):Sat L cs↔Sat L' cs:=sat_same (fun l hl=>.one ((h l).1 hl)) (fun l hl=>.one ((h l).2 hl)) cs
def Inn (n:Nat) (c:Ch):Prop:=(c.1.1 < n∧c.1.2 < n)∧c.2.1 < n∧c.2.2 < n
theorem waits_ok (n:Nat):∀ (cs:List Ch) (A:Nat→Nat→Bool),(∀ c∈cs,Inn n c)→(waitsA n A cs=true↔Sat (linksOf A n) cs):=by
 intro cs
 induction cs with
 | nil=>intro A _;rw [waitsA,holdsA,kahn_ok,sat_nil]
 | cons c cs ih =>
  intro A hc
  obtain ⟨⟨a1,a2⟩,b1,b2⟩:=hc c (List.mem_cons_self ..)
  have hcs:∀ x∈cs,Inn n x:=fun x hx=>hc x (List.mem_cons_of_mem _ hx)
  rw [waitsA,Bool.and_eq_true,Bool.or_eq_true,ih _ hcs,ih _ hcs,holdsA,kahn_ok,sat_cons,sat_mem (links_set a1 a2),sat_mem (links_set b1 b2)]
  refine ⟨fun h=>h.2,fun h=>⟨fun hr=>?_,h⟩⟩
  have hr2:∀ l:Lk,Round (l::linksOf A n):=fun l=>hr.sub fun x hx=>.one (List.mem_cons_of_mem _ hx)
  rcases h with h | h
  ·exact sat_round h (hr2 _)
  ·exact sat_round h (hr2 _)
def bitsOf (A:Nat→Nat→Bool) (n:Nat):Bits:=(linksOf A n).foldl addB (fun _ _=>false)
theorem tells_mem {S:Bits} {L L':List Lk} (h:∀ l,l∈L↔l∈L') (hT:Tells S L):Tells S L':=fun a b=>(hT a b).trans ⟨fun k=>k.sub fun l hl=>(h l).1 hl,fun k=>k.sub fun l hl=>(h l).2 hl⟩
theorem fold_tells:∀ (ls:List Lk) (S:Bits) (L:List Lk),Tells S L→Tells (ls.foldl addB S) (ls.reverse++L)
 | [],_,_,h=>h
 | l::ls,S,L,h=>by
  have:=fold_tells ls (addB S l) (l::L) (h.add l)
  simpa using this
theorem bits_tell (A:Nat→Nat→Bool) (n:Nat):Tells (bitsOf A n) (linksOf A n) :=
 tells_mem (fun l=>by simp) (fold_tells (linksOf A n) _ [] Tells.zero)
def goesRound (S:Bits) (m:Nat):Bool:=(List.range m).any fun a=>S a a
theorem round_bits {A:Nat→Nat→Bool} {n m:Nat} (hm:n≤m):goesRound (bitsOf A n) m=true↔Round (linksOf A n):=by
 simp only [goesRound,List.any_eq_true,List.mem_range]
 constructor
 ·rintro ⟨a,_,h⟩
  exact ⟨a,(bits_tell A n a a).1 h⟩
 ·rintro ⟨a,h⟩
  obtain ⟨c,hc,_⟩:=leads_last h
  have:=(mem_links.1 hc).2.1
  exact ⟨a,by omega,(bits_tell A n a a).2 h⟩
theorem holds_eq {A0 A:Nat→Nat→Bool} {n m:Nat} (hm:n≤m) {cs:List Ch} (hi:∀ c∈cs,Inn n c) (h2:∀ c∈cs,Two c) :
  (!goesRound (bitsOf A0 n) m&&(!goesRound (bitsOf A n) m&&choose (cs.length+1) (bitsOf A n) cs))=(holdsA A0 n&&waitsA n A cs):=by
 have e0:(!goesRound (bitsOf A0 n) m)=holdsA A0 n:=by
  rw [Bool.eq_iff_iff,holdsA,kahn_ok,← round_bits (A:=A0) hm]
  simp
 rw [e0]
 congr 1
 rw [Bool.eq_iff_iff,waits_ok n cs A hi,Bool.and_eq_true]
 have e1:(!goesRound (bitsOf A n) m)=true↔¬ Round (linksOf A n):=by
  rw [← round_bits (A:=A) hm];simp
 rw [e1]
 constructor
 ·rintro ⟨h,k⟩
  exact (choose_ok _ _ cs _ (Nat.lt_succ_self _) (bits_tell A n) h2 h).1 k
 ·intro h
  have hR:=sat_round h
  exact ⟨hR,(choose_ok _ _ cs _ (Nat.lt_succ_self _) (bits_tell A n) h2 hR).2 h⟩
end M
end
section
namespace M
def Words (m:Nat) (N:Nat→Nat) (S:Bits):Prop:=∀ a,a < m→∀ b,(N a).testBit b=S a b
theorem Words.zero (m:Nat):Words m (fun _=>0) (fun _ _=>false):=fun _ _ _=>by simp
def addW (N:Nat→Nat) (l:Lk):Nat→Nat:=fun a=>if a=l.1∨(N a).testBit l.1=true then N a ||| (N l.2 ||| 1 <<< l.2) else N a
theorem bit_one (s b:Nat):(1 <<< s).testBit b=(b==s):=by
 rw [Nat.testBit_shiftLeft]
 by_cases h:b=s
 ·subst h;simp
 ·have hb:(b==s)=false:=by rw [beq_eq_false_iff_ne];exact h
  rw [hb]
  by_cases h2:s≤b
  ·obtain ⟨k,hk⟩:∃ k,b - s=k+1:=⟨b - s - 1,by omega⟩
   rw [hk,Nat.testBit_succ]
   simp
  ·simp [h2]
theorem Words.add {m:Nat} {N:Nat→Nat} {S:Bits} (h:Words m N S) {l:Lk} (h2:l.2 < m):Words m (addW N l) (addB S l):=fun a ha b=>by
 have e1:=h a ha l.1
 have e2:=h l.2 h2 b
 unfold addW addB
 by_cases hc:a=l.1∨(N a).testBit l.1=true
 ·rw [if_pos hc,Nat.testBit_or,Nat.testBit_or,bit_one,h a ha b,e2]
  have:(a==l.1||S a l.1)=true:=by
   rw [Bool.or_eq_true,beq_iff_eq,← e1];exact hc
  rw [this,Bool.true_and]
 ·rw [if_neg hc,h a ha b]
  have:(a==l.1||S a l.1)=false:=by
   rw [← Bool.not_eq_true,Bool.or_eq_true,beq_iff_eq,← e1];exact hc
  rw [this,Bool.false_and,Bool.or_false]
theorem addW_lt {N:Nat→Nat} {l:Lk} {k:Nat} (h:∀ a,N a < 2 ^ k) (h2:l.2 < k):∀ a,addW N l a < 2 ^ k:=fun a=>by
 unfold addW
 split
 ·refine Nat.or_lt_two_pow (h a) (Nat.or_lt_two_pow (h _) ?_)
  rw [Nat.one_shiftLeft]
  exact Nat.pow_lt_pow_right (by decide) h2
 ·exact h a
end M
end
section
open Go.RowKit
theorem bits_and32 (a b:Nat) (ha:a < 4294967296) (hb:b < 4294967296):bits .and .u32 (a:Int) (b:Int)=((a &&& b:Nat):Int):=by
 have hx:a &&& b < 2 ^ 32:=Nat.lt_of_le_of_lt Nat.and_le_left (by omega)
 have h1:(BitVec.ofInt 32 (a:Int)).toNat=a:=by
  rw [BitVec.ofInt_natCast,BitVec.toNat_ofNat];exact Nat.mod_eq_of_lt (by omega)
 have h2:(BitVec.ofInt 32 (b:Int)).toNat=b:=by
  rw [BitVec.ofInt_natCast,BitVec.toNat_ofNat];exact Nat.mod_eq_of_lt (by omega)
 show IntKind.u32.wrap ((BitVec.ofInt 32 (a:Int) &&& BitVec.ofInt 32 (b:Int)).toNat:Int)=_
 rw [BitVec.toNat_and,h1,h2,IntKind.wrap_u32]
 omega
theorem bits_or32 (a b:Nat) (ha:a < 4294967296) (hb:b < 4294967296):bits .or .u32 (a:Int) (b:Int)=((a ||| b:Nat):Int):=by
 have hx:a ||| b < 2 ^ 32:=Nat.or_lt_two_pow (by omega) (by omega)
 have h1:(BitVec.ofInt 32 (a:Int)).toNat=a:=by
  rw [BitVec.ofInt_natCast,BitVec.toNat_ofNat];exact Nat.mod_eq_of_lt (by omega)
 have h2:(BitVec.ofInt 32 (b:Int)).toNat=b:=by
  rw [BitVec.ofInt_natCast,BitVec.toNat_ofNat];exact Nat.mod_eq_of_lt (by omega)
 show IntKind.u32.wrap ((BitVec.ofInt 32 (a:Int) ||| BitVec.ofInt 32 (b:Int)).toNat:Int)=_
 rw [BitVec.toNat_or,h1,h2,IntKind.wrap_u32]
 omega
theorem bit_of (s i:Nat):((s:Int) / 2 ^ i % 2==1)=s.testBit i:=by
 have e:(s:Int) / 2 ^ i % 2=((s / 2 ^ i % 2:Nat):Int):=by simp
 rw [e,Nat.testBit,Nat.shiftRight_eq_div_pow,Nat.and_comm,Nat.and_one_is_mod]
 rcases Nat.mod_two_eq_zero_or_one (s / 2 ^ i) with e | e<;>rw [e]<;>rfl
set_option maxHeartbeats 400000 in
theorem has_any (s i:Nat) (w:World) (hs:s < 4294967296) (hi:i < 28) :
  Calls Tryz.prog 132 #[.int .u32 s,.int .i64 i] w fun e w'=>e=.returned (.bool (s.testBit i))∧w'=w:=by
 have hd:s / 2 ^ i < 4294967296:=Nat.lt_of_le_of_lt (Nat.div_le_self _ _) hs
 have e1:bits .and .u32 ((s:Int) / 2 ^ i) 1=(s:Int) / 2 ^ i % 2:=by
  have:=bits_and32 (s / 2 ^ i) 1 hd (by decide)
  rw [Nat.and_one_is_mod] at this
  simpa using this
 go_enter Tryz.func132,Tryz.ntmps132
 go_wp2_with fail
 rw [bit_of]
 go_ret
 exact ⟨rfl,rfl⟩
end
section
open Go.RowKit
structure Bt (w:World) (b:Nat) (N:Nat→Nat):Prop where
 c:∀ i,i < 28→w.cell? ⟨b,i,none⟩=some (.int .u32 (N i))
 lt:∀ i,N i < 4294967296
 fz:∀ i,w.frozen? ⟨b,i,none⟩=false
theorem Bt.below {w w':World} {b:Nat} {N:Nat→Nat} (h:Bt w b N) (hb:Below w.heap.size w w'):Bt w' b N:=by
 have hl:b < w.heap.size:=World.block_lt_of_cell? _ _ (h.c 0 (by omega))
 exact ⟨fun i hi=>(hb.cell (p:=⟨b,i,none⟩) hl).trans (h.c i hi),h.lt,fun i=>(hb.frozen (p:=⟨b,i,none⟩) hl).trans (h.fz i)⟩
set_option maxHeartbeats 1000000 in
theorem mayAdd_any (b:Nat) (N:Nat→Nat) (l:M.Lk) (w:World) (h1:l.1 < 28) (h2:l.2 < 28) (h:Bt w b N) :
  Calls Tryz.prog 178 #[.pointer (some ⟨b,0,none⟩),.agg #[.int .i64 l.1,.int .i64 l.2]] w fun e w'=>e=.returned (.bool (!(N l.2).testBit l.1))∧Below w.heap.size w w':=by
 have hb0:=below1 w (.cells #[.int .i64 (l.1:Int),.int .i64 (l.2:Int)] 220)
 have k0:(w.alloc (.cells #[.int .i64 (l.1:Int),.int .i64 (l.2:Int)] 220)).cell? ⟨w.heap.size,0,none⟩=some (.int .i64 l.1):=by simp
 have k1:(w.alloc (.cells #[.int .i64 (l.1:Int),.int .i64 (l.2:Int)] 220)).cell? ⟨w.heap.size,1,none⟩=some (.int .i64 l.2):=by simp
 have kc:=(h.below hb0).c l.2 h2
 have hlt:=h.lt l.2
 have i2:(l.2:Int) < 28:=by omega
 go_enter Tryz.func178,Tryz.ntmps178
 go_wp2_with fail
 generalize w.alloc (.cells #[.int .i64 (l.1:Int),.int .i64 (l.2:Int)] 220)=W at *
 go_quiet (first | (go_at_call 132;refine Calls.quiet_of_same (has_any (N l.2) l.1 _ hlt h1)))
 go_wp2_with fail
 go_ret
 exact ⟨rfl,hb0.trans ⟨rfl,rfl,rfl,Nat.le_refl _,fun _ _=>rfl⟩⟩
set_option maxHeartbeats 1000000 in
theorem hasLink_any (b:Nat) (N:Nat→Nat) (l:M.Lk) (w:World) (h1:l.1 < 28) (h2:l.2 < 28) (h:Bt w b N) :
  Calls Tryz.prog 179 #[.pointer (some ⟨b,0,none⟩),.agg #[.int .i64 l.1,.int .i64 l.2]] w fun e w'=>e=.returned (.bool ((N l.1).testBit l.2))∧Below w.heap.size w w':=by
 have hb0:=below1 w (.cells #[.int .i64 (l.1:Int),.int .i64 (l.2:Int)] 220)
 have k0:(w.alloc (.cells #[.int .i64 (l.1:Int),.int .i64 (l.2:Int)] 220)).cell? ⟨w.heap.size,0,none⟩=some (.int .i64 l.1):=by simp
 have k1:(w.alloc (.cells #[.int .i64 (l.1:Int),.int .i64 (l.2:Int)] 220)).cell? ⟨w.heap.size,1,none⟩=some (.int .i64 l.2):=by simp
 have kc:=(h.below hb0).c l.1 h1
 have hlt:=h.lt l.1
 have i2:(l.1:Int) < 28:=by omega
 go_enter Tryz.func179,Tryz.ntmps179
 go_wp2_with fail
 generalize w.alloc (.cells #[.int .i64 (l.1:Int),.int .i64 (l.2:Int)] 220)=W at *
 go_quiet (first | (go_at_call 132;refine Calls.quiet_of_same (has_any (N l.1) l.2 _ hlt h2)))
 go_wp2_with fail
 go_ret
 exact ⟨rfl,hb0.trans ⟨rfl,rfl,rfl,Nat.le_refl _,fun _ _=>rfl⟩⟩
theorem Bt.set {w:World} {b i:Nat} {N:Nat→Nat} {v:Nat} (h:Bt w b N) (hi:i < 28) (hv:v < 4294967296):Bt (w.setCell ⟨b,i,none⟩ (.int .u32 v)) b (fun k=>if k=i then v else N k) :=
 ⟨fun k hk=>by
  by_cases e:k=i
  ·subst e;rw [if_pos rfl];exact World.cell?_setCell_same _ _ _ (h.c k hk)
  ·rw [if_neg e,World.cell?_setCell_other _ _ _ _ (fun e'=>by have:=congrArg Addr.off e';simp at this;omega)];exact h.c k hk,fun k=>by
  by_cases e:k=i
  ·rw [if_pos e];exact hv
  ·rw [if_neg e];exact h.lt k,fun k=>by rw [World.frozen?_setCell];exact h.fz k⟩
end
section
open Go.RowKit
def M.upW (N:Nat→Nat) (l:M.Lk) (k:Nat):Nat→Nat:=fun a=>if a < k then M.addW N l a else N a
theorem M.up_no {N:Nat→Nat} {l:M.Lk} {k:Nat} (h:M.addW N l k=N k):M.upW N l (k+1)=M.upW N l k:=funext fun a=>by
 unfold M.upW
 by_cases e:a=k
 ·subst e;rw [if_pos (by omega),if_neg (by omega),h]
 ·by_cases h2:a < k
  ·rw [if_pos (by omega),if_pos h2]
  ·rw [if_neg (by omega),if_neg h2]
theorem M.up_yes {N:Nat→Nat} {l:M.Lk} {k v:Nat} (h:M.addW N l k=v):M.upW N l (k+1)=fun a=>if a=k then v else M.upW N l k a:=funext fun a=>by
 unfold M.upW
 by_cases e:a=k
 ·subst e;rw [if_pos (by omega),if_pos rfl,h]
 ·rw [if_neg e]
  by_cases h2:a < k
  ·rw [if_pos (by omega),if_pos h2]
  ·rw [if_neg (by omega),if_neg h2]
set_option maxHeartbeats 2000000 in
theorem add_any (b:Nat) (N:Nat→Nat) (l:M.Lk) (w:World) (h1:l.1 < 28) (h2:l.2 < 28) (h:Bt w b N) :
  Calls Tryz.prog 131 #[.pointer (some ⟨b,0,none⟩),.agg #[.int .i64 l.1,.int .i64 l.2]] w fun e w'=>e=.returned (.tuple #[])∧Bt w' b (M.addW N l)∧w.grownBy w' (some b):=by
 have hbl:b < w.heap.size:=World.block_lt_of_cell? _ _ (h.c 0 (by omega))
 have hb0:=below1 w (.cells #[.int .i64 (l.1:Int),.int .i64 (l.2:Int)] 220)
 have k0:(w.alloc (.cells #[.int .i64 (l.1:Int),.int .i64 (l.2:Int)] 220)).cell? ⟨w.heap.size,0,none⟩=some (.int .i64 l.1):=by simp
 have k1:(w.alloc (.cells #[.int .i64 (l.1:Int),.int .i64 (l.2:Int)] 220)).cell? ⟨w.heap.size,1,none⟩=some (.int .i64 l.2):=by simp
 have hB0:=h.below hb0
 have kc:=hB0.c l.2 h2
 have hlt:=h.lt l.2
 have i2:(l.2:Int) < 28:=by omega
 go_enter Tryz.func131,Tryz.ntmps131
 go_wp2_with fail
 generalize w.alloc (.cells #[.int .i64 (l.1:Int),.int .i64 (l.2:Int)] 220)=W at *
 go_quiet (fail)
 go_wp2_with fail
 have hpw:(2:Int) ^ l.2 % (4294967296:Int)=((1 <<< l.2:Nat):Int):=by
  rw [Nat.one_shiftLeft]
  have h32:2 ^ l.2 < 2 ^ 28:=Nat.pow_lt_pow_right (by decide) h2
  have e:(2:Int) ^ l.2=((2 ^ l.2:Nat):Int):=by simp
  rw [e]
  generalize 2 ^ l.2=z at h32
  omega
 have hsl:1 <<< l.2 < 4294967296:=by
  rw [Nat.one_shiftLeft]
  have h32:2 ^ l.2 < 2 ^ 28:=Nat.pow_lt_pow_right (by decide) h2
  omega
 rw [hpw,bits_or32 _ _ hlt hsl]
 have hbeh:N l.2 ||| 1 <<< l.2 < 4294967296:=Nat.or_lt_two_pow (n:=32) (by omega) (by omega)
 have hadd:∀ k,M.addW N l k=if k=l.1∨(N k).testBit l.1=true then N k ||| (N l.2 ||| 1 <<< l.2) else N k:=fun k=>rfl
 generalize N l.2 ||| 1 <<< l.2=beh at *
 have hbw:w.grownBy (W.drewN nq) (some b):=⟨hb0.os,hb0.tape,hb0.output,hb0.size,fun k hk _=>hb0.block k hk⟩
 have hB1:Bt (W.drewN nq) b (M.upW N l 0):=⟨fun i hi=>hB0.c i hi,hB0.lt,hB0.fz⟩
 have k01:(W.drewN nq).cell? ⟨w.heap.size,0,none⟩=some (.int .i64 l.1):=k0
 have hP:w.heap.size < (W.drewN nq).heap.size:=World.block_lt_of_cell? _ _ k01
 have hne:w.heap.size≠b:=by omega
 clear k0 k1 kc hB0 hb0 hpw hsl
 generalize W.drewN nq=W1 at *
 generalize hPe:w.heap.size=P at *
 go_loopw [16] (fun s16 wr=>∃ k:Nat,s16=.int .i64 k∧k≤28∧Bt wr b (M.upW N l k)∧wr.cell? ⟨P,0,none⟩=some (.int .i64 l.1)∧w.grownBy wr (some b)) (fun s16 _=>28 - (intOf s16).toNat)
 case atStart=>exact ⟨0,rfl,by omega,hB1,k01,hbw⟩
 case round =>
  obtain ⟨k,rfl,hk,hB,kp,hg⟩:=hrel
  clear hB1 k01 hbw
  by_cases hlt2:k < 28
  ·have i1:(k:Int) < 28:=by omega
   have ck:=hB.c k hlt2
   have cf:=hB.fz k
   have eN:M.upW N l k k=N k:=by unfold M.upW;rw [if_neg (Nat.lt_irrefl _)]
   rw [eN] at ck
   have hNk:=h.lt k
   have e6:=bits_or32 (N k) beh hNk hbeh
   have ha:=hadd k
   by_cases hc:k=l.1
   ·have bc:((k:Int)==(l.1:Int))=true:=by simp [hc]
    rw [if_pos (.inl hc)] at ha
    have hB2:=hB.set hlt2 (v:=N k ||| beh) (Nat.or_lt_two_pow (n:=32) (by omega) (by omega))
    rw [← M.up_yes ha] at hB2
    have kp2:(wr.setCell ⟨b,k,none⟩ (.int .u32 ((N k ||| beh:Nat):Int))).cell? ⟨P,0,none⟩=some (.int .i64 l.1):=by
     rw [World.cell?_setCell_other _ _ _ _ (fun e=>hne (congrArg Addr.block e).symm)];exact kp
    have hg2:w.grownBy (wr.setCell ⟨b,k,none⟩ (.int .u32 ((N k ||| beh:Nat):Int))) (some b):=⟨hg.os,hg.tape,hg.output,by rw [show (wr.setCell ⟨b,k,none⟩ (.int .u32 ((N k ||| beh:Nat):Int))).heap.size=wr.heap.size from by simp [World.setCell]];exact hg.size,fun q hq hn=>(Below.heap_setCell _ _ _ _ (fun e=>hn (by rw [e]))).trans (hg.block q hq hn)⟩
    clear hc ha
    go_wp2_with fail
    go_quiet (fail)
    go_wp2_with fail
    go_region
    all_goals
     go_wp2_with fail
     go_roundw
     case rel =>
      first
      | exact ⟨k+1,by go_num,by omega,⟨fun i hi=>hB2.c i hi,hB2.lt,hB2.fz⟩,kp2,⟨hg2.os,hg2.tape,hg2.output,hg2.size,hg2.block⟩⟩
      | ((repeat apply Exists.intro);exact ⟨⟨k+1,by go_num,by omega,⟨fun i hi=>hB2.c i hi,hB2.lt,hB2.fz⟩,kp2,⟨hg2.os,hg2.tape,hg2.output,hg2.size,hg2.block⟩⟩,rfl⟩)
     case measure=>(simp [intOf];omega)
   ·have bc:((k:Int)==(l.1:Int))=false:=by rw [beq_eq_false_iff_ne];omega
    cases ht:(N k).testBit l.1
    ·rw [if_neg (by rw [ht];simp [hc])] at ha
     have hB2:=hB
     rw [← M.up_no ha] at hB2
     have CH:=fun W=>has_any (N k) l.1 W hNk h1
     rw [ht] at CH
     clear hc ha
     go_wp2_with fail
     go_quiet (first | (go_at_call 132;refine Calls.quiet_of_same (CH _)))
     go_wp2_with fail
     go_roundw
     case rel =>
      first
      | exact ⟨k+1,by go_num,by omega,⟨fun i hi=>hB2.c i hi,hB2.lt,hB2.fz⟩,kp,⟨hg.os,hg.tape,hg.output,hg.size,hg.block⟩⟩
      | ((repeat apply Exists.intro);exact ⟨⟨k+1,by go_num,by omega,⟨fun i hi=>hB2.c i hi,hB2.lt,hB2.fz⟩,kp,⟨hg.os,hg.tape,hg.output,hg.size,hg.block⟩⟩,rfl⟩)
     case measure=>(simp [intOf];omega)
    ·rw [if_pos (.inr ht)] at ha
     have hB2:=hB.set hlt2 (v:=N k ||| beh) (Nat.or_lt_two_pow (n:=32) (by omega) (by omega))
     rw [← M.up_yes ha] at hB2
     have CH:=fun W=>has_any (N k) l.1 W hNk h1
     rw [ht] at CH
     have kp2:(wr.setCell ⟨b,k,none⟩ (.int .u32 ((N k ||| beh:Nat):Int))).cell? ⟨P,0,none⟩=some (.int .i64 l.1):=by
      rw [World.cell?_setCell_other _ _ _ _ (fun e=>hne (congrArg Addr.block e).symm)];exact kp
     have hg2:w.grownBy (wr.setCell ⟨b,k,none⟩ (.int .u32 ((N k ||| beh:Nat):Int))) (some b):=⟨hg.os,hg.tape,hg.output,by rw [show (wr.setCell ⟨b,k,none⟩ (.int .u32 ((N k ||| beh:Nat):Int))).heap.size=wr.heap.size from by simp [World.setCell]];exact hg.size,fun q hq hn=>(Below.heap_setCell _ _ _ _ (fun e=>hn (by rw [e]))).trans (hg.block q hq hn)⟩
     clear hc ha
     go_wp2_with fail
     go_quiet (first | (go_at_call 132;refine Calls.quiet_of_same (CH _)))
     go_wp2_with fail
     go_region
     all_goals
      go_wp2_with fail
      go_roundw
      case rel =>
       first
       | exact ⟨k+1,by go_num,by omega,⟨fun i hi=>hB2.c i hi,hB2.lt,hB2.fz⟩,kp2,⟨hg2.os,hg2.tape,hg2.output,hg2.size,hg2.block⟩⟩
       | ((repeat apply Exists.intro);exact ⟨⟨k+1,by go_num,by omega,⟨fun i hi=>hB2.c i hi,hB2.lt,hB2.fz⟩,kp2,⟨hg2.os,hg2.tape,hg2.output,hg2.size,hg2.block⟩⟩,rfl⟩)
      case measure=>(simp [intOf];omega)
  ·go_wp2_with fail
   have hk28:k=28:=by omega
   subst hk28
   exact bodyPost_end (v:=.tuple #[]) (results_none Tryz.results131 _ _ _) rfl ⟨rfl,⟨fun i hi=>by have:=hB.c i hi;unfold M.upW at this;rwa [if_pos hi] at this,M.addW_lt (k:=32) h.lt (by omega),hB.fz⟩,hg⟩
end
section
open Go.RowKit
def btA (N:Nat→Nat):Array Value:=((List.range 28).map fun i=>Value.int .u32 (N i)).toArray
theorem btA_size (N:Nat→Nat):(btA N).size=28:=by simp [btA]
theorem btA_get (N:Nat→Nat) (j:Nat) (h:j < 28):(btA N)[j]?=some (.int .u32 (N j)):=by simp [btA,h]
theorem btA_one (N:Nat→Nat):(btA N).all (·.oneCell')=true:=by
 rw [Array.all_eq_true_iff_forall_mem]
 intro v hv
 have hv':v∈(List.range 28).map fun i=>Value.int .u32 (N i):=by simpa [btA] using hv
 obtain ⟨j,_,rfl⟩:=List.mem_map.1 hv'
 rfl
theorem Bt.of_block {w:World} {B:Nat} {N:Nat→Nat} {t:TypeId} (h:w.heap[B]?=some (.cells (btA N) t (0,0))) (hN:∀ i,N i < 4294967296):Bt w B N :=
 ⟨fun j hj=>by rw [cell_of_row _ _ _ _ _ _ h];exact btA_get N j hj,hN,fun j=>frozen_of_row _ _ _ _ _ h⟩
theorem Bt.range {w:World} {B:Nat} {N:Nat→Nat} (h:Bt w B N):w.rangeAt B 0 (btA N).toList:=fun j v hj=>by
 have hlt:j < 28:=by
  have:=(List.getElem?_eq_some_iff.1 hj).1
  simpa [btA] using this
 have e:(btA N)[j]?=some v:=by simpa using hj
 rw [btA_get N j hlt] at e
 rw [Nat.zero_add,h.c j hlt,e]
theorem Bt.there {w:World} {B:Nat} {N:Nat→Nat} (h:Bt w B N):w.there B 0 28:=fun j hj=>by
 rw [Nat.zero_add]
 exact ⟨by rw [h.c j hj];rfl,h.fz j⟩
theorem Bt.lt_ {w:World} {B:Nat} {N:Nat→Nat} (h:Bt w B N):B < w.heap.size:=World.block_lt_of_cell? _ _ (h.c 0 (by omega))
theorem Tryz.infoSets:(Tryz.prog.info? 177).map (·.size)=some 28:=by kernel_rfl
theorem Tryz.undSets:Tryz.prog.underlying 177=some (.array 28 175):=by kernel_rfl
theorem Tryz.infoSet:(Tryz.prog.info? 175).map (·.size)=some 1:=by kernel_rfl
theorem Tryz.undSet:∃ d,Tryz.prog.underlying 175=some d∧d.isRow=false:=⟨_,Tryz.underlying175,rfl⟩
def M.roundN (N:Nat→Nat):Bool:=(List.range 28).any fun a=>(N a).testBit a
theorem M.round_hit {N:Nat→Nat} {k:Nat} (hk:k < 28) (h:(N k).testBit k=true):M.roundN N=true:=by
 unfold M.roundN
 rw [List.any_eq_true]
 exact ⟨k,List.mem_range.2 hk,h⟩
theorem M.round_fin {N:Nat→Nat} (h:∀ k,k < 28→(N k).testBit k=false):M.roundN N=false:=by
 unfold M.roundN
 rw [List.any_eq_false]
 intro k hk
 rw [h k (List.mem_range.1 hk)]
 simp
set_option maxHeartbeats 1000000 in
set_option maxRecDepth 100000 in
theorem goesRound_any (N:Nat→Nat) (w:World) (hN:∀ i,N i < 4294967296) :
  Calls Tryz.prog 83 #[.agg (btA N)] w fun e w'=>e=.returned (.bool (M.roundN N))∧Below w.heap.size w w':=by
 have hB:=Bt.of_block (t:=177) (heap_alloc_new w (.cells (btA N) 177)) hN
 have hb1:=below1 w (.cells (btA N) 177)
 obtain ⟨dS,hd1,hd2⟩:=Tryz.undSet
 have hsz:=btA_size N
 have hr:=hB.range
 have hi2:(Tryz.prog.info? 177).map (·.size)=some (btA N).toList.length:=by rw [Tryz.infoSets];simp [btA]
 have hget:=btA_get N
 generalize btA N=A at *
 go_enter Tryz.func83,Tryz.ntmps83
 go_wp2_with (refine wpList_load_mid rfl 177 (.tmp 1) rfl w.heap.size 0 rfl A.toList _ hr Tryz.undSets rfl hi2 ?_)
 go_loopw [6] (fun s6 wr=>∃ k:Nat,s6=.int .i64 k∧k≤28∧(∀ j,j < k→(N j).testBit j=false)∧wr=w.alloc (.cells A 177)) (fun s6 _=>28 - (intOf s6).toNat)
 case atStart=>exact ⟨0,rfl,by omega,fun j hj=>absurd hj (Nat.not_lt_zero _),rfl⟩
 case round =>
  obtain ⟨k,rfl,hk,hall,rfl⟩:=hrel
  have HA:Hid (∀ j,j < k→(N j).testBit j=false):=hall
  clear hall
  by_cases hlt:k < 28
  ·have i1:(k:Int) < 28:=by omega
   have hv:A.toList.toArray[k]?=some (.int .u32 (N k)):=by simpa using hget k hlt
   have CH:=fun W=>has_any (N k) k W (hN k) hlt
   cases ht:(N k).testBit k
   ·rw [ht] at CH
    go_wp2_with (first | (refine wpList_index_one rfl 177 (.tmp 5) (.tmp 6) rfl A.toList.toArray k 28 175 dS _ rfl rfl Tryz.undSets hlt hd1 hd2 Tryz.infoSet hv ?_) | (go_at_call 132;refine (CH _).mono ?_;rintro e w1 ⟨rfl,rfl⟩))
    exact ⟨⟨k+1,by go_num,by omega,fun j hj=>by
     by_cases e:j=k
     ·subst e;exact ht
     ·exact HA.out j (by omega),by first | rfl | trivial⟩,by simp [intOf];omega⟩
   ·rw [ht] at CH
    go_wp2_with (first | (refine wpList_index_one rfl 177 (.tmp 5) (.tmp 6) rfl A.toList.toArray k 28 175 dS _ rfl rfl Tryz.undSets hlt hd1 hd2 Tryz.infoSet hv ?_) | (go_at_call 132;refine (CH _).mono ?_;rintro e w1 ⟨rfl,rfl⟩))
    go_ret
    exact ⟨ret_bool (M.round_hit hlt ht).symm,hb1⟩
  ·have i1:¬ (k:Int) < 28:=by omega
   go_wp2_with fail
   go_ret
   exact ⟨ret_bool (M.round_fin fun j hj=>HA.out j (by omega)).symm,hb1⟩
theorem results_cell_mid {P:Program} {fn:Func} {p:Tmp} {ty:TypeId} (h:fn.results=#[.cell p ty]) (tmps:Array Value) (w:World) (b o:Nat) (cs:List Value) (d:TypeDesc)
  (hp:tmps.getD p undef=.pointer (some ⟨b,o,none⟩)) (hc:w.rangeAt b o cs) (hu:P.underlying ty=some d) (hd:d.isRow=true) (hi:(P.info? ty).map (·.size)=some cs.length) :
  (results fn tmps).run P w=.ok (.agg cs.toArray) w:=by
 have hp':tmps[p]?.getD undef=.pointer (some ⟨b,o,none⟩):=by simpa using hp
 simp [results,h,hp',asAddr,run_loadVar_mid w b o ty cs d hc hu hd hi]
theorem Below.setCells {B:Nat} {a:World} {b:Nat} (hb:B≤b):∀ (vs:List Value) (o:Nat) (w:World),Below B a w→Below B a (w.setCells b o vs)
 | [],_,_,h=>h
 | v::r,o,_,h=>Below.setCells hb r (o+1) _ (h.setCell (p:=⟨b,o,none⟩) hb v)
theorem Bt.stored {w:World} {b:Nat} {N N':Nat→Nat} (h:Bt w b N') (hN:∀ i,N i < 4294967296):Bt (w.setCells b 0 (btA N).toList) b N:=by
 have hl:(btA N).toList.length=28:=by simp [btA]
 refine ⟨fun i hi=>?_,hN,fun i=>?_⟩
 ·have:=World.rangeAt_setCells_same w b 0 (btA N).toList (by rw [hl];exact h.there) i (.int .u32 (N i)) (by simpa using btA_get N i hi)
  rwa [Nat.zero_add] at this
 ·rw [World.frozen?_setCells];exact h.fz i
theorem Bt.grown {w w':World} {b:Nat} {N:Nat→Nat} {row:Option Nat} (h:Bt w b N) (hg:w.grownBy w' row) (hne:some b≠row):Bt w' b N :=
 ⟨fun i hi=>hg.cell (h.c i hi) hne,h.lt,fun i=>(World.frozen?_of_block (w:=w) (a:=⟨b,i,none⟩) (hg.block b h.lt_ hne)).trans (h.fz i)⟩
set_option maxHeartbeats 1000000 in
set_option maxRecDepth 100000 in
theorem with_any (N:Nat→Nat) (l:M.Lk) (w:World) (hN:∀ i,N i < 4294967296) (h1:l.1 < 28) (h2:l.2 < 28) :
  Calls Tryz.prog 134 #[.agg (btA N),.agg #[.int .i64 l.1,.int .i64 l.2]] w fun e w'=>e=.returned (.agg (btA (M.addW N l)))∧Below w.heap.size w w':=by
 have hA2:∀ i,M.addW N l i < 4294967296:=M.addW_lt (k:=32) hN (by omega)
 go_enter Tryz.func134,Tryz.ntmps134
 go_wp2_with fail
 have hz:btA (fun _=>0)=#[.int .u32 0,.int .u32 0,.int .u32 0,.int .u32 0,.int .u32 0,.int .u32 0,.int .u32 0,.int .u32 0,.int .u32 0,.int .u32 0,.int .u32 0,.int .u32 0,.int .u32 0,.int .u32 0,.int .u32 0,.int .u32 0,.int .u32 0,.int .u32 0,.int .u32 0,.int .u32 0,.int .u32 0,.int .u32 0,.int .u32 0,.int .u32 0,.int .u32 0,.int .u32 0,.int .u32 0,.int .u32 0]:=by rfl
 rw [← hz]
 clear hz
 have b3:=below3 w (.cells (btA N) 177) (.cells #[.int .i64 l.1,.int .i64 l.2] 220) (.cells (btA fun _=>0) 177)
 have B0:Bt (((w.alloc (.cells (btA N) 177)).alloc (.cells #[.int .i64 l.1,.int .i64 l.2] 220)).alloc (.cells (btA fun _=>0) 177)) w.heap.size N:=((Bt.of_block (t:=177) (heap_alloc_new w _) hN).below (below1 _ _)).below (below1 _ _)
 have BZ:Bt (((w.alloc (.cells (btA N) 177)).alloc (.cells #[.int .i64 l.1,.int .i64 l.2] 220)).alloc (.cells (btA fun _=>0) 177)) (w.heap.size+1+1) (fun _=>0):=Bt.of_block (t:=177) (alloc_new _ _ _ (by simp)) (fun _=>by decide)
 generalize ((w.alloc (.cells (btA N) 177)).alloc (.cells #[.int .i64 l.1,.int .i64 l.2] 220)).alloc (.cells (btA fun _=>0) 177)=W at *
 refine (add_any w.heap.size N l W h1 h2 B0).mono ?_
 rintro e w1 ⟨rfl,B1,hg⟩
 have BZ1:=BZ.grown hg (fun e=>by have:w.heap.size+1+1=w.heap.size:=Option.some.inj e;omega)
 have b1:Below w.heap.size w w1:=below_grown b3 hg (fun k hk=>by have:w.heap.size=k:=Option.some.inj hk;omega) b3.size
 have hr:=B1.range
 have hi2:(Tryz.prog.info? 177).map (·.size)=some (btA (M.addW N l)).toList.length:=by rw [Tryz.infoSets];simp [btA]
 have hi3:(Tryz.prog.info? 177).map (·.size)=some (btA (M.addW N l)).toList.toArray.size:=by rw [Tryz.infoSets];simp [btA]
 have hone:(btA (M.addW N l)).toList.toArray.all (·.oneCell')=true:=by simpa using btA_one (M.addW N l)
 have hth:w1.there (w.heap.size+1+1) 0 (btA (M.addW N l)).toList.toArray.size:=by
  have:(btA (M.addW N l)).toList.toArray.size=28:=by simp [btA]
  rw [this];exact BZ1.there
 have BF:=BZ1.stored hA2
 have hrF:=BF.range
 have bF:Below w.heap.size w (w1.setCells (w.heap.size+1+1) 0 (btA (M.addW N l)).toList):=Below.setCells (by omega) _ _ _ b1
 clear B0 BZ BZ1 B1 hg b3 BF
 generalize hAe:btA (M.addW N l)=A at hr hi2 hi3 hone hth hrF bF ⊢
 have HA:Hid (btA (M.addW N l)=A):=hAe
 clear hAe
 go_wp2_with (first | (refine wpList_load_mid rfl 177 (.tmp 2) rfl w.heap.size 0 rfl A.toList _ hr Tryz.undSets rfl hi2 ?_) | (refine wpList_store_mid rfl 177 (.tmp 4) (.tmp 7) rfl (w.heap.size+1+1) 0 A.toList.toArray rfl rfl hth hi3 hone ?_))
 refine bodyPost_ret (v:=.agg A) ?_ rfl ⟨by rw [HA.out],bF⟩
 have:=results_cell_mid Tryz.results134 #[Value.agg (btA N),Value.agg #[Value.int .i64 l.1,Value.int .i64 l.2],Value.pointer (some ⟨w.heap.size,0,none⟩),Value.pointer (some ⟨w.heap.size+1,0,none⟩),Value.pointer (some ⟨w.heap.size+1+1,0,none⟩),Value.agg #[Value.int .i64 l.1,Value.int .i64 l.2],Value.tuple #[],Value.agg A] _ (w.heap.size+1+1) 0 A.toList _ (by simp) hrF Tryz.undSets rfl hi2
 rw [Array.toArray_toList] at this
 exact this
end
section
namespace M
def mayW (N:Nat→Nat) (l:Lk):Bool:=!(N l.2).testBit l.1
def hasW (N:Nat→Nat) (l:Lk):Bool:=(N l.1).testBit l.2
def sweepW:(Nat→Nat)→List Ch→List Ch→Option ((Nat→Nat) × List Ch)
 | N,[],left=>some (N,left)
 | N,c::cs,left =>
  if !mayW N c.1&&!mayW N c.2 then none
  else if hasW N c.1||hasW N c.2 then sweepW N cs left
  else if mayW N c.1&&mayW N c.2 then sweepW N cs (left++[c])
  else if mayW N c.1 then sweepW (addW N c.1) cs left
  else sweepW (addW N c.2) cs left
def settleW:Nat→(Nat→Nat)→List Ch→Option ((Nat→Nat) × List Ch)
 | 0,N,cs=>some (N,cs)
 | n+1,N,cs=>match sweepW N cs [] with
  | none=>none
  | some (N',left)=>if left.length=cs.length then some (N',left) else settleW n N' left
def chooseW:Nat→(Nat→Nat)→List Ch→Bool
 | 0,_,_=>false
 | n+1,N,cs=>match settleW (cs.length+1) N cs with
  | none=>false
  | some (_,[])=>true
  | some (N',c::left)=>chooseW n (addW N' c.1) left||chooseW n (addW N' c.2) left
def Low (m:Nat) (c:Ch):Prop:=(c.1.1 < m∧c.1.2 < m)∧c.2.1 < m∧c.2.2 < m
theorem may_eq {m:Nat} {N:Nat→Nat} {S:Bits} (h:Words m N S) {l:Lk} (h2:l.2 < m):mayW N l=mayAdd S l:=by unfold mayW mayAdd;rw [h l.2 h2]
theorem has_eq {m:Nat} {N:Nat→Nat} {S:Bits} (h:Words m N S) {l:Lk} (h1:l.1 < m):hasW N l=hasL S l:=by unfold hasW hasL;rw [h l.1 h1]
def SameW (m:Nat):Option ((Nat→Nat) × List Ch)→Option (Bits × List Ch)→Prop
 | none,none=>True
 | some (N,l),some (S,l')=>Words m N S∧l=l'
 | _,_=>False
theorem sweep_eq {m:Nat}:∀ (cs left:List Ch) (N:Nat→Nat) (S:Bits),Words m N S→(∀ c∈cs,Low m c)→SameW m (sweepW N cs left) (sweep S cs left):=by
 intro cs
 induction cs with
 | nil=>intro left N S h _;exact ⟨h,rfl⟩
 | cons c cs ih =>
  intro left N S h hl
  have hc:=hl c (by simp)
  have hr:∀ c∈cs,Low m c:=fun x hx=>hl x (List.mem_cons_of_mem _ hx)
  rw [sweepW,sweep,may_eq h hc.1.2,may_eq h hc.2.2,has_eq h hc.1.1,has_eq h hc.2.1]
  split
  ·trivial
  ·split
   ·exact ih _ _ _ h hr
   ·split
    ·exact ih _ _ _ h hr
    ·split
     ·exact ih _ _ _ (h.add hc.1.2) hr
     ·exact ih _ _ _ (h.add hc.2.2) hr
theorem sweepW_mem:∀ (cs left:List Ch) (N N':Nat→Nat) (l:List Ch),sweepW N cs left=some (N',l)→∀ c∈l,c∈left∨c∈cs:=by
 intro cs
 induction cs with
 | nil=>intro left N N' l h c hc;rw [sweepW] at h;cases h;exact .inl hc
 | cons d cs ih =>
  intro left N N' l h c hc
  rw [sweepW] at h
  split at h
  ·cases h
  ·split at h
   ·rcases ih _ _ _ _ h c hc with h1 | h1
    ·exact .inl h1
    ·exact .inr (List.mem_cons_of_mem _ h1)
   ·split at h
    ·rcases ih _ _ _ _ h c hc with h1 | h1
     ·rcases List.mem_append.1 h1 with h2 | h2
      ·exact .inl h2
      ·have:c=d:=by simpa using h2
       exact .inr (by rw [this];simp)
     ·exact .inr (List.mem_cons_of_mem _ h1)
    ·split at h
     ·rcases ih _ _ _ _ h c hc with h1 | h1
      ·exact .inl h1
      ·exact .inr (List.mem_cons_of_mem _ h1)
     ·rcases ih _ _ _ _ h c hc with h1 | h1
      ·exact .inl h1
      ·exact .inr (List.mem_cons_of_mem _ h1)
theorem sweepW_len:∀ (cs left:List Ch) (N N':Nat→Nat) (l:List Ch),sweepW N cs left=some (N',l)→l.length≤left.length+cs.length:=by
 intro cs
 induction cs with
 | nil=>intro left N N' l h;rw [sweepW] at h;cases h;simp
 | cons d cs ih =>
  intro left N N' l h
  rw [sweepW] at h
  split at h
  ·cases h
  ·split at h
   ·have:=ih _ _ _ _ h;simp;omega
   ·split at h
    ·have:=ih _ _ _ _ h;simp at this ⊢;omega
    ·split at h
     ·have:=ih _ _ _ _ h;simp;omega
     ·have:=ih _ _ _ _ h;simp;omega
theorem settle_eq {m:Nat}:∀ (n:Nat) (cs:List Ch) (N:Nat→Nat) (S:Bits),Words m N S→(∀ c∈cs,Low m c)→SameW m (settleW n N cs) (settle n S cs):=by
 intro n
 induction n with
 | zero=>intro cs N S h _;exact ⟨h,rfl⟩
 | succ n ih =>
  intro cs N S h hl
  have hs:=sweep_eq cs [] N S h hl
  rw [settleW,settle]
  cases h1:sweepW N cs [] with
  | none =>
   rw [h1] at hs
   cases h2:sweep S cs [] with
   | none=>trivial
   | some x=>rw [h2] at hs;exact hs.elim
  | some x =>
   obtain ⟨N',l⟩:=x
   rw [h1] at hs
   cases h2:sweep S cs [] with
   | none=>rw [h2] at hs;exact hs.elim
   | some y =>
    obtain ⟨S',l'⟩:=y
    rw [h2] at hs
    obtain ⟨hw,rfl⟩:=hs
    simp only
    split
    ·exact ⟨hw,rfl⟩
    ·exact ih _ _ _ hw (fun c hc=>by
      rcases sweepW_mem cs [] N N' l h1 c hc with h3 | h3
      ·cases h3
      ·exact hl c h3)
theorem settleW_mem:∀ (n:Nat) (cs:List Ch) (N N':Nat→Nat) (l:List Ch),settleW n N cs=some (N',l)→(∀ c∈l,c∈cs)∧l.length≤cs.length:=by
 intro n
 induction n with
 | zero=>intro cs N N' l h;rw [settleW] at h;cases h;exact ⟨fun c hc=>hc,Nat.le_refl _⟩
 | succ n ih =>
  intro cs N N' l h
  rw [settleW] at h
  cases h1:sweepW N cs [] with
  | none=>rw [h1] at h;cases h
  | some x =>
   obtain ⟨N1,l1⟩:=x
   rw [h1] at h
   have hm:∀ c∈l1,c∈cs:=fun c hc=>by
    rcases sweepW_mem cs [] N N1 l1 h1 c hc with h3 | h3
    ·cases h3
    ·exact h3
   have hl:=sweepW_len cs [] N N1 l1 h1
   simp only at h
   split at h
   ·cases h;exact ⟨hm,by simpa using hl⟩
   ·obtain ⟨k1,k2⟩:=ih _ _ _ _ h
    exact ⟨fun c hc=>hm c (k1 c hc),by simp at hl;omega⟩
theorem choose_eq {m:Nat}:∀ (n:Nat) (cs:List Ch) (N:Nat→Nat) (S:Bits),Words m N S→(∀ c∈cs,Low m c)→chooseW n N cs=choose n S cs:=by
 intro n
 induction n with
 | zero=>intro cs N S _ _;rfl
 | succ n ih =>
  intro cs N S h hl
  have hs:=settle_eq (cs.length+1) cs N S h hl
  rw [chooseW,choose]
  cases h1:settleW (cs.length+1) N cs with
  | none =>
   rw [h1] at hs
   cases h2:settle (cs.length+1) S cs with
   | none=>rfl
   | some x=>rw [h2] at hs;exact hs.elim
  | some x =>
   obtain ⟨N',l⟩:=x
   rw [h1] at hs
   cases h2:settle (cs.length+1) S cs with
   | none=>rw [h2] at hs;exact hs.elim
   | some y =>
    obtain ⟨S',l'⟩:=y
    rw [h2] at hs
    obtain ⟨hw,rfl⟩:=hs
    obtain ⟨hm,_⟩:=settleW_mem _ _ _ _ _ h1
    cases l with
    | nil=>rfl
    | cons c l =>
     have hc:=hl c (hm c (by simp))
     have hr:∀ x∈l,Low m x:=fun x hx=>hl x (hm x (List.mem_cons_of_mem _ hx))
     simp only
     rw [ih l _ _ (hw.add hc.1.2) hr,ih l _ _ (hw.add hc.2.2) hr]
end M
end
section
namespace M
def Ends (ds:List De):Prop:=∀ n (h:n < ds.length),ds[n].d.k=9→ds[n].last=false→∃ h':n+1 < ds.length,ds[n+1].d.k=9
theorem Ends.append {l m:List De} (hl:Ends l) (hm:Ends m):Ends (l++m):=fun n h hk hf=>by
 rcases Nat.lt_or_ge n l.length with h1 | h1
 ·rw [List.getElem_append_left h1] at hk hf
  obtain ⟨h2,h3⟩:=hl n h1 hk hf
  exact ⟨by rw [List.length_append];omega,by rw [List.getElem_append_left h2];exact h3⟩
 ·rw [List.getElem_append_right h1] at hk hf
  rw [List.length_append] at h
  obtain ⟨h2,h3⟩:=hm (n - l.length) (by omega) hk hf
  refine ⟨by rw [List.length_append];omega,?_⟩
  rw [List.getElem_append_right (by omega)]
  have e:n+1 - l.length=n - l.length+1:=by omega
  simp only [e]
  exact h3
theorem ends_deD (t i:Nat) (lr:Int) (n:Nat) (d:D):Ends (deD t i lr n d):=by
 unfold deD
 by_cases h:d.k==9
 ·rw [if_pos h]
  have h9:d.k=9:=by simpa using h
  intro q hq hk hf
  have hq':q=0∨q=1:=by simp at hq;omega
  rcases hq' with rfl | rfl
  ·exact ⟨by simp,by simpa using h9⟩
  ·simp at hf
 ·rw [if_neg h]
  intro q hq hk _
  have hq':q=0:=by simp at hq;omega
  subst hq'
  exact absurd (by simpa using hk) h
theorem ends_deT (t:Nat):∀ (l:List D) (i:Nat) (lr:Int) (n:Nat),Ends (deT t i lr n l)
 | [],_,_,_=>fun n h=>by simp [deT] at h
 | d::l,i,lr,n=>by rw [deT];exact (ends_deD t i lr n d).append (ends_deT t l _ _ _)
theorem ends_deF:∀ (ll:List (List D)) (t n:Nat),Ends (deF t n ll)
 | [],_,_=>fun n h=>by simp [deF] at h
 | l::ll,t,n=>by rw [deF];exact (ends_deT t l _ _ _).append (ends_deF ll _ _)
theorem ends_deeds (ll:List (List D)):Ends (deeds ll):=ends_deF ll 0 0
theorem out_at {ds:List De} {n:Nat} (h:run false ds=some false) (hn:n < ds.length) (hk:ds[n].d.k=7):∃ hm:outOf ds n < ds.length,ds[outOf ds n].d.k=8:=by
 obtain ⟨m,h1,hm,h8⟩:=has_out h hn hk
 have lt:outOf ds n < ds.length:=by
  rcases Nat.lt_or_ge m (outOf ds n) with h2 | h2
  ·exact absurd h8 ((le_outOf (a:=n) (b:=m+1) (by omega) (by omega)).1 (by omega) m hm (by omega) (by omega))
  ·omega
 refine ⟨lt,?_⟩
 have no:¬ (outOf ds n+1≤outOf ds n):=by omega
 rw [le_outOf (a:=n) (b:=outOf ds n+1) (by omega) (by omega)] at no
 have yes:=(le_outOf (a:=n) (b:=outOf ds n) (by omega) (by omega)).1 (Nat.le_refl _)
 apply Classical.byContradiction
 intro hne
 apply no
 intro q hq q1 q2
 rcases Nat.lt_or_ge q (outOf ds n) with h3 | h3
 ·exact yes q hq q1 h3
 ·have e:q=outOf ds n:=by omega
  subst e
  exact hne
def choicesAt (ds:List De) (begin_:Nat):List Ch:=((List.range ds.length).filter fun r=>kAt ds r==7).map fun r=>((outOf ds r,begin_+1),(begin_,r))
def waitsAt (ds:List De) (n:Nat):Bool:=match ds[n]? with | some x=>x.d.k==9&&!x.last | none=>false
def choices (ds:List De):List Ch:=((List.range ds.length).filter (waitsAt ds)).flatMap (choicesAt ds)
theorem choices_ok {ll:List (List D)} (h:run false (deeds ll)=some false):∀ c∈choices (deeds ll),Inn (deeds ll).length c∧Two c:=by
 intro c hc
 simp only [choices,List.mem_flatMap,choicesAt,List.mem_map,List.mem_filter,List.mem_range] at hc
 obtain ⟨b,⟨hb,hw⟩,r,⟨hr,hk⟩,rfl⟩:=hc
 have hk7:(deeds ll)[r].d.k=7:=by rw [kAt_eq hr] at hk;simpa using hk
 have hw':(deeds ll)[b].d.k=9∧(deeds ll)[b].last=false:=by
  unfold waitsAt at hw
  rw [List.getElem?_eq_getElem hb] at hw
  simpa using hw
 obtain ⟨he,he9⟩:=ends_deeds ll b hb hw'.1 hw'.2
 obtain ⟨ho,ho8⟩:=out_at h hr hk7
 refine ⟨⟨⟨ho,he⟩,hb,hr⟩,fun e=>?_,fun e=>?_⟩
 ·simp only at e
  have e8:=kAt_eq ho
  have e9:=kAt_eq he
  rw [ho8] at e8
  rw [he9] at e9
  rw [e] at e8
  omega
 ·simp only at e
  subst e
  rw [hk7] at hw'
  omega
end M
end
section
namespace M
theorem len_prog:∀ (ll:List (List D)) (t n a u:Nat),progFrom a u ll=true→(deF t n ll).length+2 * a≤28
 | [],_,_,a,u,h=>by simp [progFrom] at h;simp [deF];omega
 | l::ll,t,n,a,u,h=>by
  by_cases hb:thread l=true
  ·simp only [progFrom,hb,if_true] at h
   have h1:=len_prog ll (t+1) (n+(deT t 0 (-1) n l).length) _ _ h
   have h2:=deT_len t l 0 (-1) n
   rw [deF,List.length_append]
   omega
  ·simp [progFrom,hb] at h
theorem deeds28 {ll:List (List D)} (h:prog ll=true):(deeds ll).length≤28:=by
 simp only [prog,Bool.and_eq_true,decide_eq_true_eq] at h
 have:=len_prog ll 0 0 0 0 h.2
 unfold deeds
 omega
def netOf (ds:List De) (l:List Int) (rows:List (List Int)) (k:Nat):Nat→Nat→Bool:=mustAt ds l rows k
def orderHolds (ll:List (List D)) (l:List Int) (rows:List (List Int)) (kind:Int):Bool :=
 (decide (1≤kind)&&decide (kind≤3))&&(execOk ll l rows&&(holdsA (netOf (deeds ll) l rows 0) (deeds ll).length&&waitsA (deeds ll).length (netOf (deeds ll) l rows kind.toNat) (choices (deeds ll))))
theorem run_of {ll:List (List D)} (h:prog ll=true):run false (deeds ll)=some false:=by
 simp only [prog,Bool.and_eq_true,decide_eq_true_eq] at h
 exact run_ok (from_thr ll 0 0 h.2)
theorem holds_impl {ll:List (List D)} {l:List Int} {rows:List (List Int)} (h:prog ll=true) (k:Nat) :
  (!goesRound (bitsOf (netOf (deeds ll) l rows 0) (deeds ll).length) 28&&(!goesRound (bitsOf (netOf (deeds ll) l rows k) (deeds ll).length) 28&&choose ((choices (deeds ll)).length+1) (bitsOf (netOf (deeds ll) l rows k) (deeds ll).length) (choices (deeds ll))))=(holdsA (netOf (deeds ll) l rows 0) (deeds ll).length&&waitsA (deeds ll).length (netOf (deeds ll) l rows k) (choices (deeds ll))) :=
 holds_eq (deeds28 h) (fun c hc=>(choices_ok (run_of h) c hc).1) (fun c hc=>(choices_ok (run_of h) c hc).2)
end M
end
section
open Go.RowKit
namespace M
def wordsOf (ls:List Lk):Nat→Nat:=ls.foldl addW (fun _=>0)
theorem wordsOf_snoc (ls:List Lk) (l:Lk):wordsOf (ls++[l])=addW (wordsOf ls) l:=by simp [wordsOf]
theorem words_fold:∀ (ls:List Lk) (N:Nat→Nat) (S:Bits),Words 28 N S→(∀ l∈ls,l.2 < 28)→Words 28 (ls.foldl addW N) (ls.foldl addB S)
 | [],_,_,h,_=>h
 | l::ls,_,_,h,hl=>words_fold ls _ _ (h.add (hl l (by simp))) (fun x hx=>hl x (List.mem_cons_of_mem _ hx))
theorem words_bits {A:Nat→Nat→Bool} {n:Nat} (hn:n≤28):Words 28 (wordsOf (linksOf A n)) (bitsOf A n) :=
 words_fold _ _ _ (Words.zero 28) (fun l hl=>by obtain ⟨a,b⟩:=l;have:=mem_links.1 hl;simp;omega)
theorem words_lt:∀ (ls:List Lk) (N:Nat→Nat),(∀ a,N a < 4294967296)→(∀ l∈ls,l.2 < 28)→∀ a,ls.foldl addW N a < 4294967296
 | [],_,h,_=>h
 | l::ls,_,h,hl=>words_lt ls _ (addW_lt (k:=32) h (by have:=hl l (by simp);omega)) (fun x hx=>hl x (List.mem_cons_of_mem _ hx))
def lkP (A:Nat→Nat→Bool) (n k:Nat):List Lk:=(List.range k).flatMap fun a=>((List.range n).filter fun b=>A a b).map fun b=>(a,b)
def lkQ (A:Nat→Nat→Bool) (a m:Nat):List Lk:=((List.range m).filter fun b=>A a b).map fun b=>(a,b)
theorem lkP_all (A:Nat→Nat→Bool) (n:Nat):lkP A n n=linksOf A n:=rfl
theorem lkP_succ (A:Nat→Nat→Bool) (n k:Nat):lkP A n (k+1)=lkP A n k++lkQ A k n:=by
 unfold lkP lkQ
 rw [List.range_succ,List.flatMap_append]
 simp
theorem lkQ_succ (A:Nat→Nat→Bool) (a m:Nat):lkQ A a (m+1)=lkQ A a m++(if A a m then [(a,m)] else []):=by
 unfold lkQ
 rw [List.range_succ,List.filter_append,List.map_append]
 congr 1
 cases h:A a m<;>simp [h]
theorem mustAt_of {ds:List De} {l:List Int} {rows:List (List Int)} {k a b:Nat} {x y:De} (hx:ds[a]?=some x) (hy:ds[b]?=some y):mustAt ds l rows k a b=must ds l rows k a b x y:=by unfold mustAt;rw [hx,hy]
end M
structure Wy (w:World) (va:Option Addr) (g c:Nat) (ds:List M.De) (fa:Option Addr) (fb fo fc:Nat) (l:List Int) (ra:Option Addr) (rb ro rc:Nat) (rows:List (List Int)):Prop where
 d:DeS w va g ds
 f:IntS w fa fb fo l
 r:IntSS w ra rb ro rows
 dl:ds.length≤28
 len:Hid (l.length=ds.length)
 three:Hid (rows.length=3)
 rl:∀ r∈rows,r.length≤1048576
 run:M.run false ds=some false
 pl:∀ x∈ds,x.uses=true→0≤x.d.p∧x.d.p < 3
theorem Wy.below {w w':World} {va:Option Addr} {g c:Nat} {ds:List M.De} {fa:Option Addr} {fb fo fc:Nat} {l:List Int} {ra:Option Addr} {rb ro rc:Nat} {rows:List (List Int)} {B:Nat} (h:Wy w va g c ds fa fb fo fc l ra rb ro rc rows) (hb:Below B w w') (hB:w.heap.size≤B):Wy w' va g c ds fa fb fo fc l ra rb ro rc rows :=
 ⟨h.d.bel hb hB,h.f.below hb hB,h.r.below hb hB,h.dl,h.len,h.three,h.rl,h.run,h.pl⟩
theorem grown_then' {w w1 w2:World} {row:Option Nat} (h:w.grownBy w1 row) (k:Below w1.heap.size w1 w2):w.grownBy w2 row :=
 ⟨k.os.trans h.os,k.tape.trans h.tape,k.output.trans h.output,Nat.le_trans h.size k.size,fun _ hi hn=>(k.block _ (Nat.lt_of_lt_of_le hi h.size)).trans (h.block _ hi hn)⟩
theorem grown_trans' {w w1 w2:World} {row:Option Nat} (h:w.grownBy w1 row) (k:w1.grownBy w2 row):w.grownBy w2 row :=
 ⟨k.os.trans h.os,k.tape.trans h.tape,k.output.trans h.output,Nat.le_trans h.size k.size,fun _ hi hn=>(k.block _ (Nat.lt_of_lt_of_le hi h.size) hn).trans (h.block _ hi hn)⟩
theorem grownBy_rfl (w:World) (row:Option Nat):w.grownBy w row:=⟨rfl,rfl,rfl,Nat.le_refl _,fun _ _ _=>rfl⟩
theorem cell_first3 (w:World) (A B C:Obj) (i:Nat):(((w.alloc A).alloc B).alloc C).cell? ⟨w.heap.size,i,none⟩=(w.alloc A).cell? ⟨w.heap.size,i,none⟩:=(below2 (w.alloc A) B C).cell (p:=⟨w.heap.size,i,none⟩) (show w.heap.size < (w.alloc A).heap.size by simp)
set_option maxHeartbeats 4000000 in
set_option maxRecDepth 100000 in
theorem ahead_of (k:Nat) (f0 f1 f2:FuncId)
  (hR:∀ w,Calls Tryz.prog 129 #[.int .i64 k] w fun e w'=>e=.returned (.agg #[.func (.func f0) #[] #[],.func (.func f1) #[] #[],.func (.func f2) #[] #[]])∧Below w.heap.size w w')
  (hM:∀ (t:Wx) (a b:Nat) (x y:M.De) (w:World),t.Ok→t.At w→t.ds[a]?=some x→t.ds[b]?=some y→Calls Tryz.prog 130 #[.agg #[.slice (some ⟨t.g,0,none⟩) t.ds.length t.c,.slice (some ⟨t.fb,t.fo,none⟩) t.l.length t.fc,.slice (some ⟨t.rb,t.ro,none⟩) t.rows.length t.rc],.agg #[.func (.func f0) #[] #[],.func (.func f1) #[] #[],.func (.func f2) #[] #[]],.int .i64 (a:Int),.int .i64 (b:Int)] w fun e w'=>e=.returned (.bool (M.must t.ds t.l t.rows k a b x y))∧Below w.heap.size w w')
  (va:Option Addr) (g c:Nat) (ds:List M.De) (fa:Option Addr) (fb fo fc:Nat) (l:List Int) (ra:Option Addr) (rb ro rc:Nat) (rows:List (List Int)) (w:World) (h:Wy w va g c ds fa fb fo fc l ra rb ro rc rows) :
  Calls Tryz.prog 82 #[.agg #[.slice va ds.length c,.slice fa l.length fc,.slice ra rows.length rc],.int .i64 k] w fun e w'=>e=.returned (.agg (btA (M.wordsOf (M.linksOf (M.mustAt ds l rows k) ds.length))))∧Below w.heap.size w w':=by
 have hdl:=h.dl
 go_enter Tryz.func82,Tryz.ntmps82
 go_wp2_with fail
 have hz:btA (fun _=>0)=#[.int .u32 0,.int .u32 0,.int .u32 0,.int .u32 0,.int .u32 0,.int .u32 0,.int .u32 0,.int .u32 0,.int .u32 0,.int .u32 0,.int .u32 0,.int .u32 0,.int .u32 0,.int .u32 0,.int .u32 0,.int .u32 0,.int .u32 0,.int .u32 0,.int .u32 0,.int .u32 0,.int .u32 0,.int .u32 0,.int .u32 0,.int .u32 0,.int .u32 0,.int .u32 0,.int .u32 0,.int .u32 0]:=by rfl
 rw [← hz]
 clear hz
 have b3:=below3 w (.cells #[.slice va ds.length c,.slice fa l.length fc,.slice ra rows.length rc] 124) (.cells (btA fun _=>0) 177) (.cells (btA fun _=>0) 177)
 have BR:Bt (((w.alloc (.cells #[.slice va ds.length c,.slice fa l.length fc,.slice ra rows.length rc] 124)).alloc (.cells (btA fun _=>0) 177)).alloc (.cells (btA fun _=>0) 177)) (w.heap.size+1) (fun _=>0):=(Bt.of_block (t:=177) (alloc_new _ _ _ (by simp)) (fun _=>by decide)).below (below1 _ _)
 have BS:Bt (((w.alloc (.cells #[.slice va ds.length c,.slice fa l.length fc,.slice ra rows.length rc] 124)).alloc (.cells (btA fun _=>0) 177)).alloc (.cells (btA fun _=>0) 177)) (w.heap.size+1+1) (fun _=>0):=Bt.of_block (t:=177) (alloc_new _ _ _ (by simp)) (fun _=>by decide)
 have k0:(((w.alloc (.cells #[.slice va ds.length c,.slice fa l.length fc,.slice ra rows.length rc] 124)).alloc (.cells (btA fun _=>0) 177)).alloc (.cells (btA fun _=>0) 177)).cell? ⟨w.heap.size,0,none⟩=some (.slice va ds.length c):=by rw [cell_first3];simp
 have k1:(((w.alloc (.cells #[.slice va ds.length c,.slice fa l.length fc,.slice ra rows.length rc] 124)).alloc (.cells (btA fun _=>0) 177)).alloc (.cells (btA fun _=>0) 177)).cell? ⟨w.heap.size,1,none⟩=some (.slice fa l.length fc):=by rw [cell_first3];simp
 have k2:(((w.alloc (.cells #[.slice va ds.length c,.slice fa l.length fc,.slice ra rows.length rc] 124)).alloc (.cells (btA fun _=>0) 177)).alloc (.cells (btA fun _=>0) 177)).cell? ⟨w.heap.size,2,none⟩=some (.slice ra rows.length rc):=by rw [cell_first3];simp
 generalize ((w.alloc (.cells #[.slice va ds.length c,.slice fa l.length fc,.slice ra rows.length rc] 124)).alloc (.cells (btA fun _=>0) 177)).alloc (.cells (btA fun _=>0) 177)=W at *
 refine (hR W).mono ?_
 rintro e W1 ⟨rfl,b1⟩
 have bR:=below1 W1 (.cells #[.func (.func f0) #[] #[],.func (.func f1) #[] #[],.func (.func f2) #[] #[]] 215)
 have b1R:=b1.trans (bR.mono b1.size)
 have bwR:=b3.trans (b1R.mono b3.size)
 have BR1:=BR.below b1R
 have BS1:=BS.below b1R
 have lS:w.heap.size+1+1 < W.heap.size:=BS.lt_
 have lK:w.heap.size < W.heap.size:=World.block_lt_of_cell? _ _ k0
 have y0:=(b1R.cell (p:=⟨w.heap.size,0,none⟩) lK).trans k0
 have y1:=(b1R.cell (p:=⟨w.heap.size,1,none⟩) lK).trans k1
 have y2:=(b1R.cell (p:=⟨w.heap.size,2,none⟩) lK).trans k2
 have r0:(W1.alloc (.cells #[.func (.func f0) #[] #[],.func (.func f1) #[] #[],.func (.func f2) #[] #[]] 215)).cell? ⟨W1.heap.size,0,none⟩=some (.func (.func f0) #[] #[]):=by simp
 have r1:(W1.alloc (.cells #[.func (.func f0) #[] #[],.func (.func f1) #[] #[],.func (.func f2) #[] #[]] 215)).cell? ⟨W1.heap.size,1,none⟩=some (.func (.func f1) #[] #[]):=by simp
 have r2:(W1.alloc (.cells #[.func (.func f0) #[] #[],.func (.func f1) #[] #[],.func (.func f2) #[] #[]] 215)).cell? ⟨W1.heap.size,2,none⟩=some (.func (.func f2) #[] #[]):=by simp
 clear BR BS k0 k1 k2
 go_wp2_with fail
 generalize W1.alloc (.cells #[.func (.func f0) #[] #[],.func (.func f1) #[] #[],.func (.func f2) #[] #[]] 215)=W2 at *
 obtain ⟨P,hP⟩:∃ P,W1.heap.size=P:=⟨_,rfl⟩
 rw [hP] at r0 r1 r2 ⊢
 have hPW:W.heap.size≤P:=by rw [← hP];exact b1.size
 have hWs:w.heap.size+1+1 < W.heap.size:=lS
 clear hP bR b1R b1
 go_loopw [14] (fun s14 wr=>∃ n:Nat,s14=.int .i64 n∧n≤ds.length∧Bt wr (w.heap.size+1+1) (M.wordsOf (M.lkP (M.mustAt ds l rows k) ds.length n))∧W2.grownBy wr (some (w.heap.size+1+1))) (fun s14 _=>ds.length - (intOf s14).toNat)
 case atStart=>exact ⟨0,rfl,Nat.zero_le _,BS1,grownBy_rfl _ _⟩
 case round =>
  obtain ⟨n,rfl,hn,hB,hg⟩:=hrel
  have z0:=hg.cell y0 (fun e=>by have:w.heap.size=w.heap.size+1+1:=Option.some.inj e;omega)
  have z1:=hg.cell y1 (fun e=>by have:w.heap.size=w.heap.size+1+1:=Option.some.inj e;omega)
  have z2:=hg.cell y2 (fun e=>by have:w.heap.size=w.heap.size+1+1:=Option.some.inj e;omega)
  by_cases hlt:n < ds.length
  ·have i1:(n:Int) < ds.length:=by omega
   have HP:Hid (M.lkP (M.mustAt ds l rows k) ds.length (n+1)=M.lkP (M.mustAt ds l rows k) ds.length n++M.lkQ (M.mustAt ds l rows k) n ds.length):=M.lkP_succ _ _ _
   generalize M.lkP (M.mustAt ds l rows k) ds.length n=LP at *
   go_wp2_with fail
   go_loopw [20] (fun s20 wi=>∃ m:Nat,s20=.int .i64 m∧m≤ds.length∧Bt wi (w.heap.size+1+1) (M.wordsOf (LP++M.lkQ (M.mustAt ds l rows k) n m))∧W2.grownBy wi (some (w.heap.size+1+1))) (fun s20 _=>ds.length - (intOf s20).toNat)
   case atStart=>exact ⟨0,rfl,Nat.zero_le _,by rw [show M.lkQ (M.mustAt ds l rows k) n 0=[] from rfl,List.append_nil];exact hB,hg⟩
   case round =>
    obtain ⟨m,rfl,hm,hBi,hgi⟩:=hrel
    clear z0 z1 z2
    have z0:=hgi.cell y0 (fun e=>by have:w.heap.size=w.heap.size+1+1:=Option.some.inj e;omega)
    have z1:=hgi.cell y1 (fun e=>by have:w.heap.size=w.heap.size+1+1:=Option.some.inj e;omega)
    have z2:=hgi.cell y2 (fun e=>by have:w.heap.size=w.heap.size+1+1:=Option.some.inj e;omega)
    have q0:=hgi.cell r0 (fun e=>by have:P=w.heap.size+1+1:=Option.some.inj e;omega)
    have q1:=hgi.cell r1 (fun e=>by have:P=w.heap.size+1+1:=Option.some.inj e;omega)
    have q2:=hgi.cell r2 (fun e=>by have:P=w.heap.size+1+1:=Option.some.inj e;omega)
    by_cases hmt:m < ds.length
    ·have bwi:Below w.heap.size w wr:=below_grown bwR hgi (fun j hj=>by have:w.heap.size+1+1=j:=Option.some.inj hj;omega) bwR.size
     have hWr:=h.below bwi (Nat.le_refl _)
     obtain ⟨rfl⟩:=hWr.d.addr (by omega)
     obtain ⟨rfl⟩:=hWr.f.addr (by have:=h.len.out;omega)
     obtain ⟨rfl⟩:=hWr.r.addr (by have:=h.three.out;omega)
     have j1:(m:Int) < ds.length:=by omega
     have HQ:Hid (M.lkQ (M.mustAt ds l rows k) n (m+1)=M.lkQ (M.mustAt ds l rows k) n m++(if M.mustAt ds l rows k n m then [(n,m)] else [])):=M.lkQ_succ _ _ _
     have hmu:=M.mustAt_of (l:=l) (rows:=rows) (k:=k) (List.getElem?_eq_getElem hlt) (List.getElem?_eq_getElem hmt)
     have C1:=hM ⟨g,c,ds,fb,fo,fc,l,rb,ro,rc,rows⟩ n m ds[n] ds[m] wr ⟨show ds.length≤1048576 from by omega,h.len,h.three,h.rl,h.run,h.pl⟩ ⟨hWr.d,hWr.f,hWr.r⟩ (List.getElem?_eq_getElem hlt) (List.getElem?_eq_getElem hmt)
     simp only at C1
     rw [← hmu] at C1
     have hn28:n < 28:=by have:=h.dl;omega
     have hm28:m < 28:=by have:=h.dl;omega
     cases hA:M.mustAt ds l rows k n m
     ·rw [hA] at C1
      have HQ2:Hid (LP++M.lkQ (M.mustAt ds l rows k) n (m+1)=LP++M.lkQ (M.mustAt ds l rows k) n m):=by show _=_;rw [HQ.out,hA];simp
      clear HQ hmu hA
      go_wp2_with fail
      refine C1.mono ?_
      rintro e W3 ⟨rfl,c3⟩
      clear z0 z1 z2 q0 q1 q2
      go_wp2_with fail
      exact ⟨⟨m+1,by go_num,by omega,by rw [HQ2.out];exact hBi.below c3,grown_then' hgi c3⟩,by simp [intOf];omega⟩
     ·rw [hA] at C1
      have HQ2:Hid (M.wordsOf (LP++M.lkQ (M.mustAt ds l rows k) n (m+1))=M.addW (M.wordsOf (LP++M.lkQ (M.mustAt ds l rows k) n m)) (n,m)):=by show _=_;rw [HQ.out,hA,if_pos rfl,← List.append_assoc,M.wordsOf_snoc]
      clear HQ hmu hA
      go_wp2_with fail
      refine C1.mono ?_
      rintro e W3 ⟨rfl,c3⟩
      clear z0 z1 z2 q0 q1 q2
      go_wp2_with fail
      refine (add_any (w.heap.size+1+1) _ (n,m) W3 hn28 hm28 (hBi.below c3)).mono ?_
      rintro e W4 ⟨rfl,hB4,hg4⟩
      go_wp2_with fail
      exact ⟨⟨m+1,by go_num,by omega,by rw [HQ2.out];exact hB4,grown_trans' (grown_then' hgi c3) hg4⟩,by simp [intOf];omega⟩
    ·obtain rfl:m=ds.length:=by omega
     have j1:¬ ((ds.length:Nat):Int) < ds.length:=by omega
     go_wp2_with fail
     exact ⟨⟨n+1,by go_num,by omega,by rw [HP.out];exact hBi,hgi⟩,by simp [intOf];omega⟩
  ·obtain rfl:n=ds.length:=by omega
   have j1:¬ ((ds.length:Nat):Int) < ds.length:=by omega
   rw [M.lkP_all] at hB
   have hN:∀ i,M.wordsOf (M.linksOf (M.mustAt ds l rows k) ds.length) i < 4294967296:=hB.lt
   have BRn:=BR1.grown hg (fun e=>by have:w.heap.size+1=w.heap.size+1+1:=Option.some.inj e;omega)
   have bwr:Below w.heap.size w wr:=below_grown bwR hg (fun j hj=>by have:w.heap.size+1+1=j:=Option.some.inj hj;omega) bwR.size
   have hr:=hB.range
   have hi2:(Tryz.prog.info? 177).map (·.size)=some (btA (M.wordsOf (M.linksOf (M.mustAt ds l rows k) ds.length))).toList.length:=by rw [Tryz.infoSets];simp [btA]
   have hi3:(Tryz.prog.info? 177).map (·.size)=some (btA (M.wordsOf (M.linksOf (M.mustAt ds l rows k) ds.length))).toList.toArray.size:=by rw [Tryz.infoSets];simp [btA]
   have hone:(btA (M.wordsOf (M.linksOf (M.mustAt ds l rows k) ds.length))).toList.toArray.all (·.oneCell')=true:=by simpa using btA_one (M.wordsOf (M.linksOf (M.mustAt ds l rows k) ds.length))
   have hth:wr.there (w.heap.size+1) 0 (btA (M.wordsOf (M.linksOf (M.mustAt ds l rows k) ds.length))).toList.toArray.size:=by
    have:(btA (M.wordsOf (M.linksOf (M.mustAt ds l rows k) ds.length))).toList.toArray.size=28:=by simp [btA]
    rw [this];exact BRn.there
   have hrF:=(BRn.stored hN).range
   have bF:Below w.heap.size w (wr.setCells (w.heap.size+1) 0 (btA (M.wordsOf (M.linksOf (M.mustAt ds l rows k) ds.length))).toList):=Below.setCells (by omega) _ _ _ bwr
   generalize hAe:btA (M.wordsOf (M.linksOf (M.mustAt ds l rows k) ds.length))=A at hr hi2 hi3 hone hth hrF bF ⊢
   have HA:Hid (btA (M.wordsOf (M.linksOf (M.mustAt ds l rows k) ds.length))=A):=hAe
   clear hAe hB BRn BR1 BS1
   go_wp2_with (first | (refine wpList_load_mid rfl 177 (.tmp 5) rfl (w.heap.size+1+1) 0 rfl A.toList _ hr Tryz.undSets rfl hi2 ?_) | (refine wpList_store_mid rfl 177 (.tmp 4) (.tmp 34) rfl (w.heap.size+1) 0 A.toList.toArray rfl rfl hth hi3 hone ?_))
   refine bodyPost_ret (v:=.agg A) ?_ rfl ⟨by rw [HA.out],bF⟩
   have:=fun tmps hp=>results_cell_mid (P:=Tryz.prog) Tryz.results82 tmps (wr.setCells (w.heap.size+1) 0 A.toList) (w.heap.size+1) 0 A.toList _ hp hrF Tryz.undSets rfl hi2
   simp only [Array.toArray_toList] at this
   exact this _ (by rfl)
end
section
open Go.RowKit
def M.c4 (c:M.Ch):List Value:=[.int .i64 c.1.1,.int .i64 c.1.2,.int .i64 c.2.1,.int .i64 c.2.2]
theorem M.c4_len (c:M.Ch):(M.c4 c).length=4:=rfl
structure ChAt (w:World) (g o:Nat) (c:M.Ch):Prop where
 c0:w.cell? ⟨g,o,none⟩=some (.int .i64 c.1.1)
 c1:w.cell? ⟨g,o+1,none⟩=some (.int .i64 c.1.2)
 c2:w.cell? ⟨g,o+2,none⟩=some (.int .i64 c.2.1)
 c3:w.cell? ⟨g,o+3,none⟩=some (.int .i64 c.2.2)
structure ChS (w:World) (va:Option Addr) (g o:Nat) (cs:List M.Ch):Prop where
 addr:0 < cs.length→va=some ⟨g,o,none⟩
 row:∀ i (h:i < cs.length),ChAt w g (o+i * 4) cs[i]
theorem ChAt.below {w w':World} {g o:Nat} {c:M.Ch} (h:ChAt w g o c) (hb:Below w.heap.size w w'):ChAt w' g o c:=by
 have hl:g < w.heap.size:=World.block_lt_of_cell? _ _ h.c0
 exact ⟨(hb.cell (p:=⟨g,o,none⟩) hl).trans h.c0,(hb.cell (p:=⟨g,o+1,none⟩) hl).trans h.c1,(hb.cell (p:=⟨g,o+2,none⟩) hl).trans h.c2,(hb.cell (p:=⟨g,o+3,none⟩) hl).trans h.c3⟩
theorem ChS.below {w w':World} {va:Option Addr} {g o:Nat} {cs:List M.Ch} (h:ChS w va g o cs) (hb:Below w.heap.size w w'):ChS w' va g o cs:=⟨h.addr,fun i hi=>(h.row i hi).below hb⟩
theorem ChAt.grown {w w':World} {g o:Nat} {c:M.Ch} {row:Option Nat} (h:ChAt w g o c) (hg:w.grownBy w' row) (hne:some g≠row):ChAt w' g o c:=⟨hg.cell h.c0 hne,hg.cell h.c1 hne,hg.cell h.c2 hne,hg.cell h.c3 hne⟩
theorem own_ch {w:World} {base:Nat} {v:Value} {cs:List M.Ch} (h:w.ownsRow base 224 4 v cs.length (cs.map M.c4).flatten):∃ va g cap,v=.slice va cs.length cap∧ChS w va g 0 cs∧(0 < cs.length→base≤g)∧cs.length≤cap:=by
 obtain ⟨va,g,cap,rfl,hrs,hge,hcap⟩:=own_rs M.c4_len h
 exact ⟨va,g,cap,rfl,⟨hrs.addr,fun i hi=>by
  rw [Nat.zero_add]
  exact ⟨hrs.row i hi 0 (by omega),hrs.row i hi 1 (by omega),hrs.row i hi 2 (by omega),hrs.row i hi 3 (by omega)⟩⟩,hge,hcap⟩
theorem Tryz.infoCh:(Tryz.prog.info? 224).map (fun i=>(i.zero,i.size,i.bytes))=some (some (.agg #[.int .i64 0,.int .i64 0,.int .i64 0,.int .i64 0]),4,32):=by kernel_rfl
theorem grown_trans {w w1 w2:World} {row:Option Nat} (h:w.grownBy w1 row) (k:w1.grownBy w2 row):w.grownBy w2 row :=
 ⟨k.os.trans h.os,k.tape.trans h.tape,k.output.trans h.output,Nat.le_trans h.size k.size,fun _ hi hn=>(k.block _ (Nat.lt_of_lt_of_le hi h.size) hn).trans (h.block _ hi hn)⟩
theorem grown_bel {w w':World} (h:Below w.heap.size w w') (row:Option Nat):w.grownBy w' row:=⟨h.os,h.tape,h.output,h.size,fun i hi _=>h.block i hi⟩
theorem grown_else {w w1 w2:World} {b:Nat} {row:Option Nat} (h:w.grownBy w1 (some b)) (k:w1.grownBy w2 row) (hr:∀ j,row=some j→w.heap.size≤j):w.grownBy w2 (some b) :=
 ⟨k.os.trans h.os,k.tape.trans h.tape,k.output.trans h.output,Nat.le_trans h.size k.size,fun i hi hn=>(k.block i (Nat.lt_of_lt_of_le hi h.size) (fun e=>by have:=hr i e.symm;omega)).trans (h.block i hi hn)⟩
def sliceLen:Value→Nat
 | .slice _ n _=>n
 | _=>0
theorem own_moreC {w:World} {B:Nat} {v:Value} {l:List M.Ch} {p1 p2 q1 q2:Nat} (h:w.ownsRow B 224 4 v (l.length+1) ((l.map M.c4).flatten++[.int .i64 p1,.int .i64 p2,.int .i64 q1,.int .i64 q2])):w.ownsRow B 224 4 v (l++[((p1,p2),q1,q2)]).length ((l++[((p1,p2),q1,q2)]).map M.c4).flatten:=by
 rw [List.map_append,List.flatten_append,List.length_append]
 exact h
theorem cells_new4 (w:World) (x y z u:Value) (t:TypeId) (N:Nat) (hN:N=w.heap.size):∀ (j:Nat) (v:Value),[x,y,z,u][j]?=some v→(w.alloc (.cells #[x,y,z,u] t)).cell? ((⟨N,0,none⟩:Addr).add j)=some v:=by
 subst hN
 intro j v hj
 match j,hj with
 | 0,hj=>simp at hj;subst hj;simp [Addr.add]
 | 1,hj=>simp at hj;subst hj;simp [Addr.add]
 | 2,hj=>simp at hj;subst hj;simp [Addr.add]
 | 3,hj=>simp at hj;subst hj;simp [Addr.add]
theorem one4 (x y z u:Int):∀ v∈[Value.int .i64 x,Value.int .i64 y,Value.int .i64 z,Value.int .i64 u],v.oneCell'=true:=by
 intro v hv;simp at hv;rcases hv with rfl | rfl | rfl | rfl<;>rfl
set_option maxHeartbeats 4000000 in
set_option maxRecDepth 100000 in
theorem settle_any (b:Nat) (N0:Nat→Nat) (va:Option Addr) (g o c:Nat) (cs0:List M.Ch) (w:World) (hl:cs0.length≤1048576) (hlow:∀ c∈cs0,M.Low 28 c) (hB:Bt w b N0) (hC:ChS w va g o cs0) (hgb:0 < cs0.length→g≠b) :
  Calls Tryz.prog 133 #[.pointer (some ⟨b,0,none⟩),.slice va cs0.length c] w fun e w'=>w.grownBy w' (some b)∧((M.settleW (cs0.length+1) N0 cs0=none∧e=.returned (.tuple #[.slice none 0 0,.bool false]))∨∃ N' left,M.settleW (cs0.length+1) N0 cs0=some (N',left)∧∃ va' g' o' c',e=.returned (.tuple #[.slice va' left.length c',.bool true])∧Bt w' b N'∧ChS w' va' g' o' left∧(0 < left.length→w.heap.size≤g')∧left.length≤c'):=by
 obtain ⟨i0,hi,hz0,hz1,hz2⟩:=info_parts Tryz.infoCh
 have hbl:=hB.lt_
 go_enter Tryz.func133,Tryz.ntmps133
 go_wp2_with fail
 go_loopw [1] (fun s1 wr=>∃ (f:Nat) (N:Nat→Nat) (cs:List M.Ch) (va:Option Addr) (g o c:Nat),s1=.slice va cs.length c∧Hid (M.settleW (cs0.length+1) N0 cs0=M.settleW (f+1) N cs)∧cs.length≤f∧f≤cs0.length∧(∀ c∈cs,M.Low 28 c)∧Bt wr b N∧ChS wr va g o cs∧(0 < cs.length→g≠b)∧w.grownBy wr (some b)) (fun s1 _=>sliceLen s1)
 case atStart=>exact ⟨cs0.length,N0,cs0,va,g,o,c,rfl,by show _=_;rfl,Nat.le_refl _,Nat.le_refl _,hlow,hB,hC,hgb,grownBy_refl _ _⟩
 case round =>
  obtain ⟨f,N,cs,va,g,o,c,rfl,HS,hcf,hfl,hlowc,hBr,hCr,hgbr,hgr⟩:=hrel
  clear hlow hB hC hgb
  have hbo:=hBr.lt_
  have hszr:=hgr.size
  go_wp2_with fail
  go_loopw [6,13] (fun s6 s13 wi=>∃ (i:Nat) (N':Nat→Nat) (left:List M.Ch),s13=.int .i64 i∧i≤cs.length∧left.length≤i∧Hid (M.sweepW N cs []=M.sweepW N' (cs.drop i) left)∧wi.ownsRow wr.heap.size 224 4 s6 left.length (left.map M.c4).flatten∧Bt wi b N'∧wr.grownBy wi (some b)) (fun _ s13 _=>cs.length - (intOf s13).toNat)
  case atStart=>exact ⟨0,N,[],rfl,Nat.zero_le _,Nat.le_refl _,by show _=_;rfl,World.ownsRow_nil _ _ _ _,hBr,grownBy_refl _ _⟩
  case round =>
   obtain ⟨i,N',left,rfl,hi',hli,HQ0,hown,hBi,hgi⟩:=hrel
   have hsz:=hgi.size
   by_cases hlt:i < cs.length
   ·obtain ⟨rfl⟩:=hCr.addr (by omega)
    have hne:=hgbr (by omega)
    have hx:=(hCr.row i hlt).grown hgi (fun e=>hne (Option.some.inj e))
    have HQ:Hid (M.sweepW N cs []=M.sweepW N' (cs[i]::cs.drop (i+1)) left):=by show _=_;rw [HQ0.out,← List.getElem_cons_drop hlt]
    have hlw:=hlowc _ (List.getElem_mem hlt)
    clear HQ0
    generalize cs[i]=ch at *
    obtain ⟨⟨p1,p2⟩,q1,q2⟩:=ch
    obtain ⟨c0,c1,c2,c3⟩:=hx
    obtain ⟨⟨l1,l2⟩,l3,l4⟩:=hlw
    simp only at c0 c1 c2 c3 l1 l2 l3 l4
    have j1:(i:Int) < cs.length:=by omega
    have bA:=below1 wr (.cells #[.int .i64 p1,.int .i64 p2,.int .i64 q1,.int .i64 q2] 224)
    have hBA:=hBi.below bA
    go_wp2_with fail
    generalize hWA:wr.alloc (.cells #[.int .i64 p1,.int .i64 p2,.int .i64 q1,.int .i64 q2] 224)=WA at *
    have k0:WA.cell? ⟨wr.heap.size,0,none⟩=some (.int .i64 p1):=by rw [← hWA];simp
    have k1:WA.cell? ⟨wr.heap.size,1,none⟩=some (.int .i64 p2):=by rw [← hWA];simp
    have k2:WA.cell? ⟨wr.heap.size,2,none⟩=some (.int .i64 q1):=by rw [← hWA];simp
    have k3:WA.cell? ⟨wr.heap.size,3,none⟩=some (.int .i64 q2):=by rw [← hWA];simp
    clear hWA c0 c1 c2 c3
    have hKW:wr.heap.size < WA.heap.size:=World.block_lt_of_cell? _ _ k0
    have X0:=BelowOf.cell k0
    have X1:=BelowOf.cell k1
    have X2:=BelowOf.cell k2
    have X3:=BelowOf.cell k3
    have C1:=fun q:BelowOf WA=>mayAdd_any b N' (p1,p2) q.x l1 l2 (hBA.below q.h)
    have C2:=fun q:BelowOf WA=>mayAdd_any b N' (q1,q2) q.x l3 l4 (hBA.below q.h)
    have hownA:=ownsRow_below hown bA
    have hgA:_:=grown_trans hgi (grown_bel bA (some b))
    simp only at C1 C2
    obtain ⟨m1,hm1⟩:∃ m1,(!(N' p2).testBit p1)=m1:=⟨_,rfl⟩
    obtain ⟨m2,hm2⟩:∃ m2,(!(N' q2).testBit q1)=m2:=⟨_,rfl⟩
    have HM1:Hid (M.mayW N' (p1,p2)=m1):=hm1
    have HM2:Hid (M.mayW N' (q1,q2)=m2):=hm2
    rw [hm1] at C1
    rw [hm2] at C2
    clear hm1 hm2
    haveI:Inhabited (BelowOf WA):=⟨belOf WA⟩
    refine wp_region_quiet_bel (by kernel_rfl) (by kernel_rfl) ?_
    iterate 3 (quiet_step (fail))
    iterate 1 (quiet_step (first | (go_at_call 178;exact Calls.bel_of (C1 _))))
    iterate 3 (quiet_step (fail))
    iterate 1 (quiet_step (first | (go_at_call 178;exact Calls.bel_of (C2 _))))
    iterate 2 (quiet_step (fail))
    refine wpQuiet_nil ?_
    rintro W1 ⟨⟨_,hw1⟩,rfl⟩
    have hB1:=hBA.below hw1
    have hown1:=ownsRow_below hownA hw1
    have hg1:_:=grown_trans hgA (grown_bel hw1 (some b))
    have y0:=(hw1.cell (p:=⟨wr.heap.size,0,none⟩) hKW).trans k0
    have y1:=(hw1.cell (p:=⟨wr.heap.size,1,none⟩) hKW).trans k1
    have y2:=(hw1.cell (p:=⟨wr.heap.size,2,none⟩) hKW).trans k2
    have y3:=(hw1.cell (p:=⟨wr.heap.size,3,none⟩) hKW).trans k3
    have hl1:wr.heap.size < W1.heap.size:=World.block_lt_of_cell? _ _ y0
    have hblr:b < wr.heap.size:=hBi.lt_
    clear X0 X1 X2 X3 C1 C2 k0 k1 k2 k3 hBA hownA hgA hown hBi hgi bA
    have D1:=hasLink_any b N' (p1,p2) W1 l1 l2 hB1
    have D2:=fun W (h:Bt W b N')=>hasLink_any b N' (q1,q2) W l3 l4 h
    simp only at D1 D2
    obtain ⟨n1,hn1⟩:∃ n1,(N' p1).testBit p2=n1:=⟨_,rfl⟩
    obtain ⟨n2,hn2⟩:∃ n2,(N' q1).testBit q2=n2:=⟨_,rfl⟩
    have HN1:Hid (M.hasW N' (p1,p2)=n1):=hn1
    have HN2:Hid (M.hasW N' (q1,q2)=n2):=hn2
    rw [hn1] at D1
    rw [hn2] at D2
    clear hn1 hn2
    have HQ1:Hid (M.sweepW N cs []=if !m1&&!m2 then none else if n1||n2 then M.sweepW N' (cs.drop (i+1)) left else if m1&&m2 then M.sweepW N' (cs.drop (i+1)) (left++[((p1,p2),q1,q2)]) else if m1 then M.sweepW (M.addW N' (p1,p2)) (cs.drop (i+1)) left else M.sweepW (M.addW N' (q1,q2)) (cs.drop (i+1)) left):=by
     show _=_
     rw [HQ.out,M.sweepW,HM1.out,HM2.out,HN1.out,HN2.out]
    clear HQ HM1 HM2 HN1 HN2
    cases m1
    ·cases m2
     ·have hno:M.settleW (cs0.length+1) N0 cs0=none:=by rw [HS.out,M.settleW,HQ1.out];rfl
      go_wp2_with fail
      exact bodyPost_ret (v:=.tuple #[.slice none 0 0,.bool false]) (by simp [results,Tryz.results133,go_sem]) rfl ⟨grown_trans hgr hg1,.inl ⟨hno,rfl⟩⟩
     ·cases n1
      ·cases n2
       ·have HQ2:Hid (M.sweepW N cs []=M.sweepW (M.addW N' (q1,q2)) (cs.drop (i+1)) left):=by show _=_;rw [HQ1.out];rfl
        clear HQ1
        go_wp2_with fail
        refine D1.mono ?_
        rintro e W2 ⟨rfl,b2⟩
        have z0:=(b2.cell (p:=⟨wr.heap.size,0,none⟩) hl1).trans y0
        have z1:=(b2.cell (p:=⟨wr.heap.size,1,none⟩) hl1).trans y1
        have z2:=(b2.cell (p:=⟨wr.heap.size,2,none⟩) hl1).trans y2
        have z3:=(b2.cell (p:=⟨wr.heap.size,3,none⟩) hl1).trans y3
        have hl2:wr.heap.size < W2.heap.size:=World.block_lt_of_cell? _ _ z0
        clear D1 y0 y1 y2 y3
        go_wp2_with fail
        refine (D2 W2 (hB1.below b2)).mono ?_
        rintro e W3 ⟨rfl,b3⟩
        have b23:=b2.trans (b3.mono b2.size)
        have hB3:=hB1.below b23
        have hown3:=ownsRow_below hown1 b23
        have hg3:_:=grown_trans hg1 (grown_bel b23 (some b))
        have x0:=(b3.cell (p:=⟨wr.heap.size,0,none⟩) hl2).trans z0
        have x1:=(b3.cell (p:=⟨wr.heap.size,1,none⟩) hl2).trans z1
        have x2:=(b3.cell (p:=⟨wr.heap.size,2,none⟩) hl2).trans z2
        have x3:=(b3.cell (p:=⟨wr.heap.size,3,none⟩) hl2).trans z3
        have hl3:wr.heap.size < W3.heap.size:=World.block_lt_of_cell? _ _ x0
        clear D2 z0 z1 z2 z3 b2 b3 b23 hB1 hown1 hg1 hw1
        go_wp2_with fail
        refine (add_any b N' (q1,q2) W3 l3 l4 hB3).mono ?_
        rintro e W4 ⟨rfl,hB4,hg4⟩
        have hown4:=hown3.kept hg4 (by
         rcases hk:Value.ownBlock _ with _ | k
         ·exact .inl rfl
         ·exact .inr (fun e=>by
           have h5:=own_ge hown3 k hk
           have h6:k=b:=Option.some.inj e
           omega))
        go_wp2_with fail
        exact ⟨⟨i+1,M.addW N' (q1,q2),left,by go_num,by omega,by omega,HQ2,hown4,hB4,grown_trans hg3 hg4⟩,by simp [intOf];omega⟩
       ·have HQ2:Hid (M.sweepW N cs []=M.sweepW N' (cs.drop (i+1)) left):=by show _=_;rw [HQ1.out];rfl
        clear HQ1
        go_wp2_with fail
        refine D1.mono ?_
        rintro e W2 ⟨rfl,b2⟩
        have z0:=(b2.cell (p:=⟨wr.heap.size,0,none⟩) hl1).trans y0
        have z1:=(b2.cell (p:=⟨wr.heap.size,1,none⟩) hl1).trans y1
        have z2:=(b2.cell (p:=⟨wr.heap.size,2,none⟩) hl1).trans y2
        have z3:=(b2.cell (p:=⟨wr.heap.size,3,none⟩) hl1).trans y3
        have hl2:wr.heap.size < W2.heap.size:=World.block_lt_of_cell? _ _ z0
        clear D1 y0 y1 y2 y3
        go_wp2_with fail
        refine (D2 W2 (hB1.below b2)).mono ?_
        rintro e W3 ⟨rfl,b3⟩
        have b23:=b2.trans (b3.mono b2.size)
        have hB3:=hB1.below b23
        have hown3:=ownsRow_below hown1 b23
        have hg3:_:=grown_trans hg1 (grown_bel b23 (some b))
        have x0:=(b3.cell (p:=⟨wr.heap.size,0,none⟩) hl2).trans z0
        have x1:=(b3.cell (p:=⟨wr.heap.size,1,none⟩) hl2).trans z1
        have x2:=(b3.cell (p:=⟨wr.heap.size,2,none⟩) hl2).trans z2
        have x3:=(b3.cell (p:=⟨wr.heap.size,3,none⟩) hl2).trans z3
        have hl3:wr.heap.size < W3.heap.size:=World.block_lt_of_cell? _ _ x0
        clear D2 z0 z1 z2 z3 b2 b3 b23 hB1 hown1 hg1 hw1
        go_wp2_with fail
        exact ⟨⟨i+1,N',left,by go_num,by omega,by omega,HQ2,hown3,hB3,hg3⟩,by simp [intOf];omega⟩
      ·have HQ2:Hid (M.sweepW N cs []=M.sweepW N' (cs.drop (i+1)) left):=by show _=_;rw [HQ1.out];rfl
       clear HQ1
       go_wp2_with fail
       refine D1.mono ?_
       rintro e W2 ⟨rfl,b2⟩
       clear D1 D2 y0 y1 y2 y3
       go_wp2_with fail
       exact ⟨⟨i+1,N',left,by go_num,by omega,by omega,HQ2,ownsRow_below hown1 b2,hB1.below b2,grown_trans hg1 (grown_bel b2 (some b))⟩,by simp [intOf];omega⟩
    ·cases m2
     ·cases n1
      ·cases n2
       ·have HQ2:Hid (M.sweepW N cs []=M.sweepW (M.addW N' (p1,p2)) (cs.drop (i+1)) left):=by show _=_;rw [HQ1.out];rfl
        clear HQ1
        go_wp2_with fail
        refine D1.mono ?_
        rintro e W2 ⟨rfl,b2⟩
        have z0:=(b2.cell (p:=⟨wr.heap.size,0,none⟩) hl1).trans y0
        have z1:=(b2.cell (p:=⟨wr.heap.size,1,none⟩) hl1).trans y1
        have z2:=(b2.cell (p:=⟨wr.heap.size,2,none⟩) hl1).trans y2
        have z3:=(b2.cell (p:=⟨wr.heap.size,3,none⟩) hl1).trans y3
        have hl2:wr.heap.size < W2.heap.size:=World.block_lt_of_cell? _ _ z0
        clear D1 y0 y1 y2 y3
        go_wp2_with fail
        refine (D2 W2 (hB1.below b2)).mono ?_
        rintro e W3 ⟨rfl,b3⟩
        have b23:=b2.trans (b3.mono b2.size)
        have hB3:=hB1.below b23
        have hown3:=ownsRow_below hown1 b23
        have hg3:_:=grown_trans hg1 (grown_bel b23 (some b))
        have x0:=(b3.cell (p:=⟨wr.heap.size,0,none⟩) hl2).trans z0
        have x1:=(b3.cell (p:=⟨wr.heap.size,1,none⟩) hl2).trans z1
        have x2:=(b3.cell (p:=⟨wr.heap.size,2,none⟩) hl2).trans z2
        have x3:=(b3.cell (p:=⟨wr.heap.size,3,none⟩) hl2).trans z3
        have hl3:wr.heap.size < W3.heap.size:=World.block_lt_of_cell? _ _ x0
        clear D2 z0 z1 z2 z3 b2 b3 b23 hB1 hown1 hg1 hw1
        go_wp2_with fail
        refine (add_any b N' (p1,p2) W3 l1 l2 hB3).mono ?_
        rintro e W4 ⟨rfl,hB4,hg4⟩
        have hown4:=hown3.kept hg4 (by
         rcases hk:Value.ownBlock _ with _ | k
         ·exact .inl rfl
         ·exact .inr (fun e=>by
           have h5:=own_ge hown3 k hk
           have h6:k=b:=Option.some.inj e
           omega))
        go_wp2_with fail
        exact ⟨⟨i+1,M.addW N' (p1,p2),left,by go_num,by omega,by omega,HQ2,hown4,hB4,grown_trans hg3 hg4⟩,by simp [intOf];omega⟩
       ·have HQ2:Hid (M.sweepW N cs []=M.sweepW N' (cs.drop (i+1)) left):=by show _=_;rw [HQ1.out];rfl
        clear HQ1
        go_wp2_with fail
        refine D1.mono ?_
        rintro e W2 ⟨rfl,b2⟩
        have z0:=(b2.cell (p:=⟨wr.heap.size,0,none⟩) hl1).trans y0
        have z1:=(b2.cell (p:=⟨wr.heap.size,1,none⟩) hl1).trans y1
        have z2:=(b2.cell (p:=⟨wr.heap.size,2,none⟩) hl1).trans y2
        have z3:=(b2.cell (p:=⟨wr.heap.size,3,none⟩) hl1).trans y3
        have hl2:wr.heap.size < W2.heap.size:=World.block_lt_of_cell? _ _ z0
        clear D1 y0 y1 y2 y3
        go_wp2_with fail
        refine (D2 W2 (hB1.below b2)).mono ?_
        rintro e W3 ⟨rfl,b3⟩
        have b23:=b2.trans (b3.mono b2.size)
        have hB3:=hB1.below b23
        have hown3:=ownsRow_below hown1 b23
        have hg3:_:=grown_trans hg1 (grown_bel b23 (some b))
        have x0:=(b3.cell (p:=⟨wr.heap.size,0,none⟩) hl2).trans z0
        have x1:=(b3.cell (p:=⟨wr.heap.size,1,none⟩) hl2).trans z1
        have x2:=(b3.cell (p:=⟨wr.heap.size,2,none⟩) hl2).trans z2
        have x3:=(b3.cell (p:=⟨wr.heap.size,3,none⟩) hl2).trans z3
        have hl3:wr.heap.size < W3.heap.size:=World.block_lt_of_cell? _ _ x0
        clear D2 z0 z1 z2 z3 b2 b3 b23 hB1 hown1 hg1 hw1
        go_wp2_with fail
        exact ⟨⟨i+1,N',left,by go_num,by omega,by omega,HQ2,hown3,hB3,hg3⟩,by simp [intOf];omega⟩
      ·have HQ2:Hid (M.sweepW N cs []=M.sweepW N' (cs.drop (i+1)) left):=by show _=_;rw [HQ1.out];rfl
       clear HQ1
       go_wp2_with fail
       refine D1.mono ?_
       rintro e W2 ⟨rfl,b2⟩
       clear D1 D2 y0 y1 y2 y3
       go_wp2_with fail
       exact ⟨⟨i+1,N',left,by go_num,by omega,by omega,HQ2,ownsRow_below hown1 b2,hB1.below b2,grown_trans hg1 (grown_bel b2 (some b))⟩,by simp [intOf];omega⟩
     ·cases n1
      ·cases n2
       ·have HQ2:Hid (M.sweepW N cs []=M.sweepW N' (cs.drop (i+1)) (left++[((p1,p2),q1,q2)])):=by show _=_;rw [HQ1.out];rfl
        clear HQ1
        go_wp2_with fail
        refine D1.mono ?_
        rintro e W2 ⟨rfl,b2⟩
        have z0:=(b2.cell (p:=⟨wr.heap.size,0,none⟩) hl1).trans y0
        have z1:=(b2.cell (p:=⟨wr.heap.size,1,none⟩) hl1).trans y1
        have z2:=(b2.cell (p:=⟨wr.heap.size,2,none⟩) hl1).trans y2
        have z3:=(b2.cell (p:=⟨wr.heap.size,3,none⟩) hl1).trans y3
        have hl2:wr.heap.size < W2.heap.size:=World.block_lt_of_cell? _ _ z0
        clear D1 y0 y1 y2 y3
        go_wp2_with fail
        refine (D2 W2 (hB1.below b2)).mono ?_
        rintro e W3 ⟨rfl,b3⟩
        have b23:=b2.trans (b3.mono b2.size)
        have hB3:=hB1.below b23
        have hown3:=ownsRow_below hown1 b23
        have hg3:_:=grown_trans hg1 (grown_bel b23 (some b))
        have x0:=(b3.cell (p:=⟨wr.heap.size,0,none⟩) hl2).trans z0
        have x1:=(b3.cell (p:=⟨wr.heap.size,1,none⟩) hl2).trans z1
        have x2:=(b3.cell (p:=⟨wr.heap.size,2,none⟩) hl2).trans z2
        have x3:=(b3.cell (p:=⟨wr.heap.size,3,none⟩) hl2).trans z3
        have hl3:wr.heap.size < W3.heap.size:=World.block_lt_of_cell? _ _ x0
        clear D2 z0 z1 z2 z3 b2 b3 b23 hB1 hown1 hg1 hw1
        go_wp2_with (at_builtin;refine wpList_append_own _ rfl (.tmp 52) (.tmp 54) 180 rfl _ 224 i0 _ 4 32 Tryz.underlying180 hi hz0 hz1 hz2 rfl (by decide) _ _ _ rfl (hown3.alloc _) ⟨W3.heap.size,0,none⟩ 1 1 [.int .i64 p1,.int .i64 p2,.int .i64 q1,.int .i64 q2] rfl rfl (cells_new4 _ _ _ _ _ _ _ (by simp)) (one4 _ _ _ _) (by unfold maxLen;omega) (by omega) (by simp;omega) ?_)
        intro v4 W4 hown4 hg4 _
        have hge:=own_ge hown3
        have hB4:=(hB3.below (below1 W3 _)).grown hg4 (fun e=>by have:=hge b e.symm;omega)
        have hg5:_:=grown_else (grown_trans hg3 (grown_bel (below1 W3 (.cells #[.int .i64 p1,.int .i64 p2,.int .i64 q1,.int .i64 q2] 224)) (some b))) hg4 (fun j hj=>hge j hj)
        have hown5:=own_moreC hown4
        clear hown4 hg4 hown3
        go_wp2_with fail
        exact ⟨⟨i+1,N',left++[((p1,p2),q1,q2)],by go_num,by omega,by simp;omega,HQ2,hown5,hB4,hg5⟩,by simp [intOf];omega⟩
       ·have HQ2:Hid (M.sweepW N cs []=M.sweepW N' (cs.drop (i+1)) left):=by show _=_;rw [HQ1.out];rfl
        clear HQ1
        go_wp2_with fail
        refine D1.mono ?_
        rintro e W2 ⟨rfl,b2⟩
        have z0:=(b2.cell (p:=⟨wr.heap.size,0,none⟩) hl1).trans y0
        have z1:=(b2.cell (p:=⟨wr.heap.size,1,none⟩) hl1).trans y1
        have z2:=(b2.cell (p:=⟨wr.heap.size,2,none⟩) hl1).trans y2
        have z3:=(b2.cell (p:=⟨wr.heap.size,3,none⟩) hl1).trans y3
        have hl2:wr.heap.size < W2.heap.size:=World.block_lt_of_cell? _ _ z0
        clear D1 y0 y1 y2 y3
        go_wp2_with fail
        refine (D2 W2 (hB1.below b2)).mono ?_
        rintro e W3 ⟨rfl,b3⟩
        have b23:=b2.trans (b3.mono b2.size)
        have hB3:=hB1.below b23
        have hown3:=ownsRow_below hown1 b23
        have hg3:_:=grown_trans hg1 (grown_bel b23 (some b))
        have x0:=(b3.cell (p:=⟨wr.heap.size,0,none⟩) hl2).trans z0
        have x1:=(b3.cell (p:=⟨wr.heap.size,1,none⟩) hl2).trans z1
        have x2:=(b3.cell (p:=⟨wr.heap.size,2,none⟩) hl2).trans z2
        have x3:=(b3.cell (p:=⟨wr.heap.size,3,none⟩) hl2).trans z3
        have hl3:wr.heap.size < W3.heap.size:=World.block_lt_of_cell? _ _ x0
        clear D2 z0 z1 z2 z3 b2 b3 b23 hB1 hown1 hg1 hw1
        go_wp2_with fail
        exact ⟨⟨i+1,N',left,by go_num,by omega,by omega,HQ2,hown3,hB3,hg3⟩,by simp [intOf];omega⟩
      ·have HQ2:Hid (M.sweepW N cs []=M.sweepW N' (cs.drop (i+1)) left):=by show _=_;rw [HQ1.out];rfl
       clear HQ1
       go_wp2_with fail
       refine D1.mono ?_
       rintro e W2 ⟨rfl,b2⟩
       clear D1 D2 y0 y1 y2 y3
       go_wp2_with fail
       exact ⟨⟨i+1,N',left,by go_num,by omega,by omega,HQ2,ownsRow_below hown1 b2,hB1.below b2,grown_trans hg1 (grown_bel b2 (some b))⟩,by simp [intOf];omega⟩
   ·have hie:i=cs.length:=by omega
    have HQ:Hid (M.sweepW N cs []=some (N',left)):=by show _=_;rw [HQ0.out,List.drop_eq_nil_of_le (by omega)];rfl
    have hmem:∀ c∈left,c∈cs:=fun c hc=>by
     rcases M.sweepW_mem cs [] N N' left HQ.out c hc with h3 | h3
     ·cases h3
     ·exact h3
    have hll:=M.sweepW_len cs [] N N' left HQ.out
    obtain ⟨va',g',c',rfl,hCl,hgel,hcap⟩:=own_ch hown
    have j1:¬ (i:Int) < cs.length:=by omega
    by_cases hlen:left.length=cs.length
    ·have HY:Hid (M.settleW (cs0.length+1) N0 cs0=some (N',left)):=by show _=_;rw [HS.out,M.settleW,HQ.out];simp only;rw [if_pos hlen]
     have e1:((left.length:Int)==cs.length)=true:=by simp;omega
     clear hlen HQ HQ0 hie
     go_wp2_with fail
     exact bodyPost_ret (v:=.tuple #[.slice va' left.length c',.bool true]) (by simp [results,Tryz.results133,go_sem]) rfl ⟨grown_trans hgr hgi,.inr ⟨N',left,HY.out,va',g',0,c',rfl,hBi,hCl,fun hp=>by have:=hgel hp;omega,hcap⟩⟩
    ·have e1:((left.length:Int)==cs.length)=false:=by simp;omega
     have hlt2:left.length < cs.length:=by simp at hll;omega
     obtain ⟨f',rfl⟩:∃ f',f=f'+1:=⟨f - 1,by omega⟩
     have HS2:Hid (M.settleW (cs0.length+1) N0 cs0=M.settleW (f'+1) N' left):=by show _=_;rw [HS.out,M.settleW,HQ.out];simp only;rw [if_neg hlen]
     clear hlen HQ HQ0 HS hie
     go_wp2_with fail
     exact ⟨⟨f',N',left,va',g',0,c',rfl,HS2,by omega,by omega,fun c hc=>hlowc c (hmem c hc),hBi,hCl,fun hp=>by have:=hgel hp;omega,grown_trans hgr hgi⟩,by simp [sliceLen];omega⟩
end
section
open Go.RowKit
theorem wpQuiet_load_mid {P:Program} {ops:Array Oper} {C:World→Prop} {Q:Act→Prop} {a:Act} {op:Oper} {rest:List Oper} (hw:Region.wanted op (yielded ops a.tmps)=true) (ty:TypeId) (x:Operand) (ho:op.op=.load ty x)
  (b o:Nat) (hx:a.eval x=.pointer (some ⟨b,o,none⟩)) (cs:List Value) (d:TypeDesc) (hc:∀ w,C w→w.rangeAt b o cs) (hu:P.underlying ty=some d) (hd:d.isRow=true) (hi:(P.info? ty).map (·.size)=some cs.length)
  (h:wpQuiet P ops C Q rest (a.put op.dst (.agg cs.toArray))):wpQuiet P ops C Q (op::rest) a:=by
 rw [wpQuiet,if_pos hw]
 refine ⟨.agg cs.toArray,fun w hC=>?_,h⟩
 unfold Oper.quietAt execOp
 simp only [ho,hx,Instr.loadAt,Instr.sureAddr,Sem.run_bind,Sem.run_pure,Result.andThen_ok,run_loadVar_mid w b o ty cs d (hc w hC) hu hd hi]
 exact ⟨rfl,rfl⟩
theorem ChS.tail {w:World} {g o:Nat} {ch:M.Ch} {cs:List M.Ch} (h:ChS w (some ⟨g,o,none⟩) g o (ch::cs)):ChS w (some ⟨g,o+4,none⟩) g (o+4) cs :=
 ⟨fun _=>rfl,fun i hi=>by
  have:=h.row (i+1) (by simp;omega)
  rw [show o+(i+1) * 4=o+4+i * 4 from by omega] at this
  simpa using this⟩
theorem ChS.lt {w:World} {va:Option Addr} {g o:Nat} {cs:List M.Ch} (h:ChS w va g o cs) (hp:0 < cs.length):g < w.heap.size:=World.block_lt_of_cell? _ _ (h.row 0 hp).c0
theorem Tryz.undCh:Tryz.prog.underlying 224=some (.array 2 220):=by kernel_rfl
theorem Tryz.infoLink:(Tryz.prog.info? 220).map (·.size)=some 2:=by kernel_rfl
theorem idx_ch0 (p1 p2 q1 q2:Int) (w:World):(Instr.index 224 (.agg #[.int .i64 p1,.int .i64 p2,.int .i64 q1,.int .i64 q2]) (.int .i64 0)).run Tryz.prog w=.ok (.agg #[.int .i64 p1,.int .i64 p2]) w:=by
 cases hq:Tryz.prog.info? 220 with
 | none=>have:=Tryz.infoLink;simp [hq] at this
 | some j =>
  have hs:j.size=2:=by have:=Tryz.infoLink;simpa [hq] using this
  simp [Instr.index,asIntOf,run_underlying Tryz.undCh,part,sizeOf,typeInfo,hq,hs]
theorem idx_ch1 (p1 p2 q1 q2:Int) (w:World):(Instr.index 224 (.agg #[.int .i64 p1,.int .i64 p2,.int .i64 q1,.int .i64 q2]) (.int .i64 1)).run Tryz.prog w=.ok (.agg #[.int .i64 q1,.int .i64 q2]) w:=by
 cases hq:Tryz.prog.info? 220 with
 | none=>have:=Tryz.infoLink;simp [hq] at this
 | some j =>
  have hs:j.size=2:=by have:=Tryz.infoLink;simpa [hq] using this
  simp [Instr.index,asIntOf,run_underlying Tryz.undCh,part,sizeOf,typeInfo,hq,hs]
set_option maxHeartbeats 4000000 in
set_option maxRecDepth 100000 in
theorem canChoose_any:∀ (n:Nat) (cs:List M.Ch) (N:Nat→Nat) (va:Option Addr) (g o c:Nat) (w:World),cs.length < n→cs.length≤1048576→(∀ c∈cs,M.Low 28 c)→(∀ a,N a < 4294967296)→ChS w va g o cs →
  Calls Tryz.prog 84 #[.agg (btA N),.slice va cs.length c] w fun e w'=>e=.returned (.bool (M.chooseW n N cs))∧Below w.heap.size w w':=by
 intro n
 induction n with
 | zero=>intro cs N va g o c w h;omega
 | succ n ih =>
  intro cs N va g o c w hn hl hlow hN hC
  have hB:=Bt.of_block (t:=177) (heap_alloc_new w (.cells (btA N) 177)) hN
  have bA:=below1 w (.cells (btA N) 177)
  have hCA:=hC.below bA
  have CS:=settle_any w.heap.size N va g o c cs _ hl hlow hB hCA (fun hp=>by have:=hC.lt hp;omega)
  go_enter Tryz.func84,Tryz.ntmps84
  go_wp2_with fail
  generalize w.alloc (.cells (btA N) 177)=WA at *
  refine CS.mono ?_
  rintro e W1 ⟨hg,hor⟩
  have b1:Below w.heap.size w W1:=below_grown bA hg (fun k hk=>by have:w.heap.size=k:=Option.some.inj hk;omega) bA.size
  rcases hor with ⟨hno,rfl⟩ | ⟨N',left,hyes,va',g',o',c',rfl,hB1,hC1,hge,hcap⟩
  ·have HF:Hid (M.chooseW (n+1) N cs=false):=by show _=_;rw [M.chooseW,hno]
   clear hno CS
   go_wp2_with fail
   go_ret
   exact ⟨ret_bool HF.out.symm,b1⟩
  ·obtain ⟨hmem,hlen⟩:=M.settleW_mem _ _ _ _ _ hyes
   cases left with
   | nil =>
    have HF:Hid (M.chooseW (n+1) N cs=true):=by show _=_;rw [M.chooseW,hyes]
    clear hyes CS
    go_wp2_with fail
    go_ret
    exact ⟨ret_bool HF.out.symm,b1⟩
   | cons ch rest =>
    have HF:Hid (M.chooseW (n+1) N cs=(M.chooseW n (M.addW N' ch.1) rest||M.chooseW n (M.addW N' ch.2) rest)):=by show _=_;rw [M.chooseW,hyes]
    have hlw:=hlow ch (hmem ch (by simp))
    have hlr:∀ x∈rest,M.Low 28 x:=fun x hx=>hlow x (hmem x (List.mem_cons_of_mem _ hx))
    clear hyes CS hlow hmem
    obtain ⟨rfl⟩:=hC1.addr (by simp)
    obtain ⟨VA,hIF⟩:∃ VA,(if c'=1 then (some ⟨g',o',none⟩:Option Addr) else some ⟨g',o'+4,none⟩)=VA:=⟨_,rfl⟩
    have hT:ChS W1 VA g' (o'+4) rest:=⟨fun hp=>by rw [← hIF];exact if_neg (by simp only [List.length_cons] at hcap;omega),hC1.tail.row⟩
    have hle1:(1:Int)≤(rest.length:Int)+1:=by omega
    have hx:=hC1.row 0 (by simp)
    obtain ⟨⟨p1,p2⟩,q1,q2⟩:=ch
    obtain ⟨c0,c1,c2,c3⟩:=hx
    obtain ⟨⟨l1,l2⟩,l3,l4⟩:=hlw
    simp only [List.getElem_cons_zero,Nat.zero_mul,Nat.add_zero] at c0 c1 c2 c3 l1 l2 l3 l4
    simp only [List.length_cons] at hlen hcap
    have hrl:rest.length < n:=by omega
    have e0:((rest.length+1:Nat):Int)≠0:=by omega
    simp only [List.length_cons]
    go_wp2_with fail
    have HI0:∀ W,_:=idx_ch0 p1 p2 q1 q2
    have HI1:∀ W,_:=idx_ch1 p1 p2 q1 q2
    refine wp_loop_rounds 3 ?_
    rw [rounds_succ]
    go_wp2_with fail
    have bW:=below1 W1 (.cells #[.int .i64 p1,.int .i64 p2] 220)
    have k0:(W1.alloc (.cells #[.int .i64 p1,.int .i64 p2] 220)).cell? ⟨W1.heap.size,0,none⟩=some (.int .i64 p1):=by simp
    have k1:(W1.alloc (.cells #[.int .i64 p1,.int .i64 p2] 220)).cell? ⟨W1.heap.size,1,none⟩=some (.int .i64 p2):=by simp
    have hBW:=hB1.below bW
    have hTW:=hT.below bW
    have bwW:=b1.trans (bW.mono b1.size)
    generalize W1.alloc (.cells #[.int .i64 p1,.int .i64 p2] 220)=W2 at *
    have hN':=hB1.lt
    have HL:∀ W,(∃ q:BelowOf W2,W=q.x)→W.rangeAt w.heap.size 0 (btA N').toList:=fun W ⟨q,e⟩=>by rw [e];exact (hBW.below q.h).range
    have hiA:(Tryz.prog.info? 177).map (·.size)=some (btA N').toList.length:=by rw [Tryz.infoSets];simp [btA]
    have X0:=BelowOf.cell k0
    have X1:=BelowOf.cell k1
    have C1:=fun q:BelowOf W2=>with_any N' (p1,p2) q.x hN' l1 l2
    have hA1:∀ i,M.addW N' (p1,p2) i < 4294967296:=M.addW_lt (k:=32) hN' (by omega)
    have C2:=fun q:BelowOf W2=>ih rest (M.addW N' (p1,p2)) VA g' (o'+4) (c' - 1) q.x hrl (by omega) hlr hA1 (hTW.below q.h)
    simp only at C1
    obtain ⟨r1,hr1⟩:∃ r1,M.chooseW n (M.addW N' (p1,p2)) rest=r1:=⟨_,rfl⟩
    have HR1:Hid (M.chooseW n (M.addW N' (p1,p2)) rest=r1):=hr1
    rw [hr1] at C2
    clear hr1
    generalize btA (M.addW N' (p1,p2))=A1 at *
    generalize btA N'=A0 at *
    haveI:Inhabited (BelowOf W2):=⟨belOf W2⟩
    refine wp_region_quiet_bel (by kernel_rfl) (by kernel_rfl) ?_
    refine wpQuiet_load_mid (by rfl) 177 (.tmp 2) rfl w.heap.size 0 rfl A0.toList _ HL Tryz.undSets rfl hiA ?_
    rw [Array.toArray_toList]
    iterate 1 (quiet_step (fail))
    iterate 1 (quiet_step (first | (go_at_call 134;exact Calls.bel_of (C1 _))))
    iterate 2 (quiet_step (fail))
    iterate 1 (quiet_step (first | (go_at_call 84;exact Calls.bel_of (C2 _))))
    refine wpQuiet_nil ?_
    rintro W3 ⟨⟨_,hw3⟩,rfl⟩
    have b3:=bwW.trans (hw3.mono bwW.size)
    have hB3:=hBW.below hw3
    have hT3:=hTW.below hw3
    clear X0 X1 C1 C2 HL hBW hTW bwW hw3 k0 k1 bW hB1 hT b1
    cases r1
    ·go_wp2_with fail
     rw [rounds_succ]
     go_wp2_with fail
     have bW:=below1 W3 (.cells #[.int .i64 q1,.int .i64 q2] 220)
     have k0:(W3.alloc (.cells #[.int .i64 q1,.int .i64 q2] 220)).cell? ⟨W3.heap.size,0,none⟩=some (.int .i64 q1):=by simp
     have k1:(W3.alloc (.cells #[.int .i64 q1,.int .i64 q2] 220)).cell? ⟨W3.heap.size,1,none⟩=some (.int .i64 q2):=by simp
     have hBW:=hB3.below bW
     have hTW:=hT3.below bW
     have bwW:=b3.trans (bW.mono b3.size)
     generalize W3.alloc (.cells #[.int .i64 q1,.int .i64 q2] 220)=V2 at *
     have hN':=hB3.lt
     have HL:∀ W,(∃ q:BelowOf V2,W=q.x)→W.rangeAt w.heap.size 0 (btA N').toList:=fun W ⟨q,e⟩=>by rw [e];exact (hBW.below q.h).range
     have hiA:(Tryz.prog.info? 177).map (·.size)=some (btA N').toList.length:=by rw [Tryz.infoSets];simp [btA]
     have X0:=BelowOf.cell k0
     have X1:=BelowOf.cell k1
     have C1:=fun q:BelowOf V2=>with_any N' (q1,q2) q.x hN' l3 l4
     have hA2:∀ i,M.addW N' (q1,q2) i < 4294967296:=M.addW_lt (k:=32) hN' (by omega)
     have C2:=fun q:BelowOf V2=>ih rest (M.addW N' (q1,q2)) VA g' (o'+4) (c' - 1) q.x hrl (by omega) hlr hA2 (hTW.below q.h)
     simp only at C1
     obtain ⟨r2,hr2⟩:∃ r2,M.chooseW n (M.addW N' (q1,q2)) rest=r2:=⟨_,rfl⟩
     have HR2:Hid (M.chooseW n (M.addW N' (q1,q2)) rest=r2):=hr2
     rw [hr2] at C2
     clear hr2
     generalize btA (M.addW N' (q1,q2))=A2 at *
     generalize btA N'=A0 at *
     haveI:Inhabited (BelowOf V2):=⟨belOf V2⟩
     refine wp_region_quiet_bel (by kernel_rfl) (by kernel_rfl) ?_
     refine wpQuiet_load_mid (by rfl) 177 (.tmp 2) rfl w.heap.size 0 rfl A0.toList _ HL Tryz.undSets rfl hiA ?_
     rw [Array.toArray_toList]
     iterate 1 (quiet_step (fail))
     iterate 1 (quiet_step (first | (go_at_call 134;exact Calls.bel_of (C1 _))))
     iterate 2 (quiet_step (fail))
     iterate 1 (quiet_step (first | (go_at_call 84;exact Calls.bel_of (C2 _))))
     refine wpQuiet_nil ?_
     rintro V3 ⟨⟨_,hv3⟩,rfl⟩
     have b5:=bwW.trans (hv3.mono bwW.size)
     clear X0 X1 C1 C2 HL hBW hTW bwW hv3 k0 k1 bW
     cases r2
     ·go_wp2_with fail
      rw [rounds_succ]
      go_wp2_with fail
      go_ret
      exact ⟨ret_bool (by rw [HF.out,HR1.out,HR2.out];rfl),b5⟩
     ·go_wp2_with fail
      go_ret
      exact ⟨ret_bool (by rw [HF.out,HR1.out,HR2.out];rfl),b5⟩
    ·go_wp2_with fail
     go_ret
     exact ⟨ret_bool (by rw [HF.out,HR1.out];rfl),b3⟩
end
section
open Go.RowKit
namespace M
def chP (ds:List De) (n:Nat):List Ch:=((List.range n).filter (waitsAt ds)).flatMap (choicesAt ds)
def chQ (ds:List De) (b m:Nat):List Ch:=((List.range m).filter fun r=>kAt ds r==7).map fun r=>((outOf ds r,b+1),(b,r))
theorem chP_all (ds:List De):chP ds ds.length=choices ds:=rfl
theorem chQ_all (ds:List De) (b:Nat):chQ ds b ds.length=choicesAt ds b:=rfl
theorem chP_succ (ds:List De) (n:Nat):chP ds (n+1)=chP ds n++(if waitsAt ds n then choicesAt ds n else []):=by
 unfold chP
 rw [List.range_succ,List.filter_append,List.flatMap_append]
 congr 1
 cases h:waitsAt ds n<;>simp [h]
theorem chQ_succ (ds:List De) (b m:Nat):chQ ds b (m+1)=chQ ds b m++(if kAt ds m==7 then [((outOf ds m,b+1),(b,m))] else []):=by
 unfold chQ
 rw [List.range_succ,List.filter_append,List.map_append]
 congr 1
 cases h:(kAt ds m==7)<;>simp [h]
theorem chQ_len (ds:List De) (b m:Nat):(chQ ds b m).length≤m:=by
 unfold chQ
 rw [List.length_map]
 have:=List.length_filter_le (fun r=>kAt ds r==7) (List.range m)
 simpa using this
theorem chP_len (ds:List De) (n:Nat):(chP ds n).length≤n * ds.length:=by
 induction n with
 | zero=>simp [chP]
 | succ n ih =>
  rw [chP_succ,List.length_append]
  have:(if waitsAt ds n then choicesAt ds n else []).length≤ds.length:=by
   split
   ·rw [← chQ_all];exact chQ_len ds n ds.length
   ·simp
  rw [Nat.succ_mul]
  omega
theorem waitsAt_of {ds:List De} {n:Nat} {x:De} (h:ds[n]?=some x):waitsAt ds n=(x.d.k==9&&!x.last):=by unfold waitsAt;rw [h]
theorem kAt_of {ds:List De} {n:Nat} {x:De} (h:ds[n]?=some x):kAt ds n=x.d.k:=by unfold kAt;rw [h]
end M
set_option maxHeartbeats 4000000 in
set_option maxRecDepth 100000 in
theorem waitChoices_any (va:Option Addr) (g c:Nat) (ds:List M.De) (w:World) (hl:ds.length≤28) (hrun:M.run false ds=some false) (h:DeS w va g ds) :
  Calls Tryz.prog 85 #[.slice va ds.length c] w fun e w'=>∃ va' g' c',e=.returned (.slice va' (M.choices ds).length c')∧ChS w' va' g' 0 (M.choices ds)∧Below w.heap.size w w':=by
 obtain ⟨i0,hi,hz0,hz1,hz2⟩:=info_parts Tryz.infoCh
 go_enter Tryz.func85,Tryz.ntmps85
 go_wp2_with fail
 go_loopw [3,11] (fun s3 s11 wr=>∃ n:Nat,s11=.int .i64 n∧n≤ds.length∧wr.ownsRow w.heap.size 224 4 s3 (M.chP ds n).length ((M.chP ds n).map M.c4).flatten∧Below w.heap.size w wr) (fun _ s11 _=>ds.length - (intOf s11).toNat)
 case atStart=>exact ⟨0,rfl,Nat.zero_le _,World.ownsRow_nil _ _ _ _,Below.refl _ _⟩
 case round =>
  obtain ⟨n,rfl,hn,hown,hbel⟩:=hrel
  have hbs:=hbel.size
  by_cases hlt:n < ds.length
  ·obtain ⟨rfl⟩:=h.addr (by omega)
   have hx:=DeS.at (h.bel hbel (Nat.le_refl _)) hlt
   have HX:Hid (ds[n]?=some ds[n]):=List.getElem?_eq_getElem hlt
   have HC:Hid (M.chP ds (n+1)=M.chP ds n++(if M.waitsAt ds n then M.choicesAt ds n else [])):=M.chP_succ ds n
   have hcl:=M.chP_len ds n
   have hcl2:(M.chP ds n).length≤784:=Nat.le_trans hcl (Nat.mul_le_mul (show n≤28 by omega) hl)
   clear hcl
   generalize ds[n]=x at *
   generalize M.chP ds n=L at *
   have HW:Hid (M.waitsAt ds n=(x.d.k==9&&!x.last)):=M.waitsAt_of HX.out
   obtain ⟨c0,c1,c2,c3,c4,c5,c6⟩:=hx
   have i1:(n:Int) < ds.length:=by omega
   by_cases hk:x.d.k=9
   ·have hk':(x.d.k != 9)=false:=by simp [hk]
    cases hla:x.last
    ·-- who waits
     have HC2:Hid (M.chP ds (n+1)=L++M.chQ ds n ds.length):=by show _=_;rw [HC.out,HW.out,hk,hla];rfl
     rw [hla] at c2
     clear HC HW HX hk hla
     go_wp2_with fail
     have bA:=hbel.alloc hbel.size (.cells #[.int .i64 (x.t:Int),.int .i64 (x.i:Int),.bool false,.int .i64 x.d.k,.int .i64 x.d.p,.int .i64 x.d.v,.int .i64 x.lr] 167)
     have hownA:=hown.alloc (.cells #[.int .i64 (x.t:Int),.int .i64 (x.i:Int),.bool false,.int .i64 x.d.k,.int .i64 x.d.p,.int .i64 x.d.v,.int .i64 x.lr] 167)
     generalize wr.alloc (.cells #[.int .i64 (x.t:Int),.int .i64 (x.i:Int),.bool false,.int .i64 x.d.k,.int .i64 x.d.p,.int .i64 x.d.v,.int .i64 x.lr] 167)=WA at *
     clear hown hbel c0 c1 c2 c3 c4 c5 c6
     go_loopw [3,29] (fun s3 s29 wi=>∃ m:Nat,s29=.int .i64 m∧m≤ds.length∧wi.ownsRow w.heap.size 224 4 s3 (L++M.chQ ds n m).length ((L++M.chQ ds n m).map M.c4).flatten∧Below w.heap.size w wi) (fun _ s29 _=>ds.length - (intOf s29).toNat)
     case atStart=>exact ⟨0,rfl,Nat.zero_le _,by rw [show M.chQ ds n 0=[] from rfl,List.append_nil];exact hownA,bA⟩
     case round =>
      obtain ⟨m,rfl,hm,hown,hbi⟩:=hrel
      clear hownA bA
      have hbs:=hbi.size
      by_cases hmt:m < ds.length
      ·have hy:=DeS.at (h.bel hbi (Nat.le_refl _)) hmt
       have HK:Hid (M.kAt ds m=ds[m].d.k):=M.kAt_of (List.getElem?_eq_getElem hmt)
       have HQ:Hid (M.chQ ds n (m+1)=M.chQ ds n m++(if M.kAt ds m==7 then [((M.outOf ds m,n+1),(n,m))] else [])):=M.chQ_succ ds n m
       have HO:ds[m].d.k=7→∃ q,m≤q∧∃ hq:q < ds.length,ds[q].d.k=8:=fun h7=>by
        obtain ⟨q,h1,h2,h3⟩:=M.has_out hrun hmt h7
        exact ⟨q,by omega,h2,h3⟩
       have hql:=M.chQ_len ds n m
       have hql2:(L++M.chQ ds n m).length≤900:=by rw [List.length_append];omega
       clear hql
       obtain ⟨d0,d1,d2,d3,d4,d5,d6⟩:=hy
       generalize ds[m]=y at *
       have j1:(m:Int) < ds.length:=by omega
       by_cases h7:y.d.k=7
       ·have h7':(y.d.k==7)=true:=by simp [h7]
        have HQ2:Hid (L++M.chQ ds n (m+1)=(L++M.chQ ds n m)++[((M.outOf ds m,n+1),(n,m))]):=by show _=_;rw [HQ.out,HK.out,h7',if_pos rfl,List.append_assoc]
        have bB:=below1 wr (.cells #[.int .i64 (y.t:Int),.int .i64 (y.i:Int),.bool y.last,.int .i64 y.d.k,.int .i64 y.d.p,.int .i64 y.d.v,.int .i64 y.lr] 167)
        have CO:=outOf_any g c ds m (wr.alloc (.cells #[.int .i64 (y.t:Int),.int .i64 (y.i:Int),.bool y.last,.int .i64 y.d.k,.int .i64 y.d.p,.int .i64 y.d.v,.int .i64 y.lr] 167)) (by omega) (HO h7) ((h.bel hbi (Nat.le_refl _)).bel bB (Nat.le_refl _))
        have hownB:=ownsRow_below hown bB
        have bwB:=hbi.trans (bB.mono hbi.size)
        have hbsB:=bwB.size
        generalize L++M.chQ ds n m=LL at *
        generalize M.outOf ds m=O at *
        clear HQ HK HO h7 hown bB
        go_wp2_with fail
        generalize wr.alloc (.cells #[.int .i64 (y.t:Int),.int .i64 (y.i:Int),.bool y.last,.int .i64 y.d.k,.int .i64 y.d.p,.int .i64 y.d.v,.int .i64 y.lr] 167)=WB at *
        refine CO.mono ?_
        rintro e w1 ⟨rfl,rfl⟩
        go_wp2_with (at_builtin;refine wpList_append_own _ rfl (.tmp 38) (.tmp 48) 180 rfl _ 224 i0 _ 4 32 Tryz.underlying180 hi hz0 hz1 hz2 rfl (by decide) _ _ _ rfl (hownB.alloc _) ⟨w1.heap.size,0,none⟩ 1 1 [.int .i64 O,.int .i64 ((n:Int)+1),.int .i64 n,.int .i64 m] rfl rfl (cells_new4 _ _ _ _ _ _ _ (by simp)) (one4 _ _ _ _) (by unfold maxLen;omega) (by omega) (by simp;omega) ?_)
        intro v4 W4 hown4 hg4 _
        have hge:=own_ge hownB
        have bw4:Below w.heap.size w W4:=below_grown (bwB.alloc bwB.size _) hg4 hge (by simp;omega)
        have hown5:W4.ownsRow w.heap.size 224 4 v4 (LL++[((O,n+1),(n,m))]).length ((LL++[((O,n+1),(n,m))]).map M.c4).flatten:=own_moreC (by simpa using hown4)
        clear hown4 hg4 hownB
        go_wp2_with fail
        exact ⟨⟨m+1,by go_num,by omega,by rw [HQ2.out];exact hown5,bw4⟩,by simp [intOf];omega⟩
       ·have h7':(y.d.k==7)=false:=by simpa using h7
        have HQ2:Hid (L++M.chQ ds n (m+1)=L++M.chQ ds n m):=by show _=_;rw [HQ.out,HK.out,h7'];simp
        clear HQ HK HO h7
        go_wp2_with fail
        exact ⟨⟨m+1,by go_num,by omega,by rw [HQ2.out];exact ownsRow_below hown (below1 _ _),hbi.alloc hbi.size _⟩,by simp [intOf];omega⟩
      ·obtain rfl:m=ds.length:=by omega
       go_wp2_with fail
       exact ⟨⟨n+1,by go_num,by omega,by rw [HC2.out];exact hown,hbi⟩,by simp [intOf];omega⟩
    ·have HC2:Hid (M.chP ds (n+1)=L):=by show _=_;rw [HC.out,HW.out,hk,hla];simp
     rw [hla] at c2
     clear HC HW HX hk hla
     go_wp2_with fail
     exact ⟨⟨n+1,by go_num,by omega,by rw [HC2.out];exact ownsRow_below hown (below1 _ _),hbel.alloc hbel.size _⟩,by simp [intOf];omega⟩
   ·have hk':(x.d.k != 9)=true:=by simpa using hk
    have hk2:(x.d.k==9)=false:=by simpa using hk
    have HC2:Hid (M.chP ds (n+1)=L):=by show _=_;rw [HC.out,HW.out,hk2];simp
    clear HC HW HX hk hk2
    go_wp2_with fail
    exact ⟨⟨n+1,by go_num,by omega,by rw [HC2.out];exact ownsRow_below hown (below1 _ _),hbel.alloc hbel.size _⟩,by simp [intOf];omega⟩
  ·obtain rfl:n=ds.length:=by omega
   rw [M.chP_all] at hown
   obtain ⟨va',g',c',rfl,hC,_,_⟩:=own_ch hown
   go_wp2_with fail
   go_ret
   exact ⟨va',g',c',rfl,hC,hbel⟩
end
section
open Go.RowKit
theorem step_goW {P:Program} {ops:Array Oper} {o:Oper} {a:Act} {w:World} {K:Act→World→Prop} {Q:Exit→Act→World→Prop} {E:Prop}
  (hw:Region.wanted o (yielded ops a.tmps)=true) (d:Option Tmp) (hd:o.dst=d) (f:FuncId) (os:Array Operand) (ts:Array TypeId) (hop:o.op=Op.call { callee:=Callee.value (Operand.func f),args:=os,argTypes:=ts })
  (vals:Array Value) (hv:os.map a.eval=vals) (he:∀ args w,(callFunc f args).run P w=.ok (.enter f args) w) {R:Ending→World→Prop} (hc:Calls P f vals w R)
  (hK:∀ e w',R e w'→∃ v,e=.returned v∧K (a.put d v) w') :
  if Region.wanted o (yielded ops a.tmps)=true then Oper.wp P o a w K Q else E:=by
 subst hd
 rw [if_pos hw]
 subst hv
 have hr:(execOp a.eval o).run P w=.ok (.enter f (os.map a.eval)) w:=by
  simp [execOp,hop,resolve,invoke,Act.eval,Deferred.ofValue,he]
 unfold Oper.wp
 rw [hr,Oper.upon_enter]
 refine hc.mono fun e w' h=>?_
 obtain ⟨v,rfl,hk⟩:=hK e w' h
 exact hk
def M.holdsW (N0 Nk:Nat→Nat) (ds:List M.De):Bool:=!M.roundN N0&&(!M.roundN Nk&&M.chooseW ((M.choices ds).length+1) Nk (M.choices ds))
set_option maxHeartbeats 4000000 in
set_option maxRecDepth 100000 in
set_option linter.unusedSimpArgs false in
theorem holds_of (k:Nat) (N0 Nk:Nat→Nat) (h0:∀ i,N0 i < 4294967296) (hk:∀ i,Nk i < 4294967296)
  (va:Option Addr) (g c:Nat) (ds:List M.De) (fa:Option Addr) (fb fo fc:Nat) (l:List Int) (ra:Option Addr) (rb ro rc:Nat) (rows:List (List Int)) (w:World) (h:Wy w va g c ds fa fb fo fc l ra rb ro rc rows)
  (hlow:∀ c∈M.choices ds,M.Low 28 c)
  (hA0:∀ w,Wy w va g c ds fa fb fo fc l ra rb ro rc rows→Calls Tryz.prog 82 #[.agg #[.slice va ds.length c,.slice fa l.length fc,.slice ra rows.length rc],.int .i64 0] w fun e w'=>e=.returned (.agg (btA N0))∧Below w.heap.size w w')
  (hAk:∀ w,Wy w va g c ds fa fb fo fc l ra rb ro rc rows→Calls Tryz.prog 82 #[.agg #[.slice va ds.length c,.slice fa l.length fc,.slice ra rows.length rc],.int .i64 k] w fun e w'=>e=.returned (.agg (btA Nk))∧Below w.heap.size w w') :
  Calls Tryz.prog 54 #[.agg #[.slice va ds.length c,.slice fa l.length fc,.slice ra rows.length rc],.int .i64 k] w fun e w'=>e=.returned (.bool (M.holdsW N0 Nk ds))∧Below w.heap.size w w':=by
 have bA:=below1 w (.cells #[.slice va ds.length c,.slice fa l.length fc,.slice ra rows.length rc] 124)
 have hWA:=h.below bA (Nat.le_refl _)
 have k0:(w.alloc (.cells #[.slice va ds.length c,.slice fa l.length fc,.slice ra rows.length rc] 124)).cell? ⟨w.heap.size,0,none⟩=some (.slice va ds.length c):=by simp
 have k1:(w.alloc (.cells #[.slice va ds.length c,.slice fa l.length fc,.slice ra rows.length rc] 124)).cell? ⟨w.heap.size,1,none⟩=some (.slice fa l.length fc):=by simp
 have k2:(w.alloc (.cells #[.slice va ds.length c,.slice fa l.length fc,.slice ra rows.length rc] 124)).cell? ⟨w.heap.size,2,none⟩=some (.slice ra rows.length rc):=by simp
 go_enter Tryz.func54,Tryz.ntmps54
 go_wp2_with fail
 generalize w.alloc (.cells #[.slice va ds.length c,.slice fa l.length fc,.slice ra rows.length rc] 124)=WA at *
 have lK:w.heap.size < WA.heap.size:=World.block_lt_of_cell? _ _ k0
 refine (hA0 WA hWA).mono ?_
 rintro e W1 ⟨rfl,b1⟩
 go_wp2_with fail
 refine (goesRound_any N0 W1 h0).mono ?_
 rintro e W2 ⟨rfl,b2⟩
 have b12:=b1.trans (b2.mono b1.size)
 have bw2:=bA.trans (b12.mono bA.size)
 have y0:=(b12.cell (p:=⟨w.heap.size,0,none⟩) lK).trans k0
 have y1:=(b12.cell (p:=⟨w.heap.size,1,none⟩) lK).trans k1
 have y2:=(b12.cell (p:=⟨w.heap.size,2,none⟩) lK).trans k2
 have hW2:=hWA.below b12 (Nat.le_refl _)
 have lK2:w.heap.size < W2.heap.size:=World.block_lt_of_cell? _ _ y0
 clear k0 k1 k2 hWA b1 b2 b12
 cases hr0:M.roundN N0
 ·go_wp2_with fail
  refine (hAk W2 hW2).mono ?_
  rintro e W3 ⟨rfl,b3⟩
  have bS:=below1 W3 (.cells (btA Nk) 177)
  have b3S:=b3.trans (bS.mono b3.size)
  have bwS:=bw2.trans (b3S.mono bw2.size)
  have hB:=Bt.of_block (t:=177) (heap_alloc_new W3 (.cells (btA Nk) 177)) hk
  have z0:=(b3S.cell (p:=⟨w.heap.size,0,none⟩) lK2).trans y0
  have hWS:=hW2.below b3S (Nat.le_refl _)
  clear y0 y1 y2 b3 b3S
  have hzv:=(zero_of_info (P:=Tryz.prog) (t:=177) (v:=.agg (btA fun _=>0)) (n:=28) (by kernel_rfl)).1
  have hZs:=btA_size (fun _=>0)
  have hAs:=btA_size Nk
  have hAone:=btA_one Nk
  have hi2:(Tryz.prog.info? 177).map (·.size)=some (btA Nk).toList.length:=by rw [Tryz.infoSets];simp [btA]
  have hi3:(Tryz.prog.info? 177).map (·.size)=some (btA Nk).size:=by rw [Tryz.infoSets,hAs]
  have hCR:=fun W=>goesRound_any Nk W hk
  have hCC:=fun va g o c W hC=>canChoose_any ((M.choices ds).length+1) (M.choices ds) Nk va g o c W (Nat.lt_succ_self _) (by have h1:=M.chP_len ds ds.length;rw [M.chP_all] at h1;have h2:=Nat.mul_le_mul h.dl h.dl;omega) hlow hk hC
  have hCW:=fun W (hd:DeS W va g ds)=>waitChoices_any va g c ds W h.dl h.run hd
  have RG0:∀ (W:World) (b:Nat),Bt W b Nk→W.rangeAt b 0 (btA Nk).toList:=fun _ _ h=>h.range
  generalize btA Nk=A at *
  generalize btA (fun _=>0)=Z at *
  go_wp2_with (first | (refine wpList_alloc_row rfl 177 rfl Z hzv ?_) | (refine wpList_store_new rfl 177 (.tmp 5) (.tmp 11) rfl Z A rfl rfl hi3 (by rw [hZs,hAs]) hAone ?_))
  obtain ⟨X,hX⟩:∃ X,W3.heap.size=X:=⟨_,rfl⟩
  generalize W3.alloc (.cells A 177)=WS at *
  rw [hX] at hB ⊢
  have lKS:w.heap.size < WS.heap.size:=World.block_lt_of_cell? _ _ z0
  have RG:∀ w',Below WS.heap.size WS w'→w'.rangeAt X 0 A.toList:=fun w' hw=>RG0 _ _ (hB.below hw)
  have CE:∀ w',Below WS.heap.size WS w'→w'.cell? ⟨w.heap.size,0,none⟩=some (.slice va ds.length c):=fun w' hw=>(hw.cell (p:=⟨w.heap.size,0,none⟩) lKS).trans z0
  clear hX hzv hZs hAs hAone hi3 z0
  refine wp_region_held_drew (S:=fun w'=>Below WS.heap.size WS w') (by kernel_rfl) (Below.refl _ _).drew (fun hH=>?_)
  refine takeD 0 (some 12) (.agg A.toList.toArray) hH rfl rfl (by kernel_rfl) (by kernel_rfl) (by kernel_rfl) (fun _ _ _ h=>h) (yieldsIf_load_mid (by rfl) _ _ rfl X 0 rfl A.toList _ (fun w' hw=>RG w' hw) Tryz.undSets rfl hi2) ?_
  simp only [Act.put,zqa,zqb,zqc]
  refine ry 1 rfl (fun K' hK=>?_)
  refine step_goW (by rfl) (some 13) rfl 83 #[.tmp 12] _ rfl #[.agg A] (by simp [Act.eval]) (fun _ _=>rfl) (hCR _) ?_
  rintro e W4 ⟨rfl,b4⟩
  refine ⟨_,rfl,hK.out _ _ (hH.trans (b4.mono hH.size)) (fun hH4=>?_)⟩
  clear hK K' hH
  simp only [Act.put,zqa,zqb,zqc]
  cases hrk:M.roundN Nk
  ·refine tk 2 14 (.bool true) hH4 rfl rfl (by intro w' hSw;go_simp) ?_
   simp only [Act.put,zqa,zqb,zqc]
   refine tk 3 15 (.bool true) hH4 rfl rfl (by intro w' hSw;go_simp) ?_
   simp only [Act.put,zqa,zqb,zqc]
   refine takeD 4 (some 16) (.agg A.toList.toArray) hH4 rfl rfl (by kernel_rfl) (by kernel_rfl) (by kernel_rfl) (fun _ _ _ h=>h) (yieldsIf_load_mid (by rfl) _ _ rfl X 0 rfl A.toList _ (fun w' hw=>RG w' hw) Tryz.undSets rfl hi2) ?_
   simp only [Act.put,zqa,zqb,zqc]
   refine tk 5 17 (.pointer (some ⟨w.heap.size,0,none⟩)) hH4 rfl rfl (by intro w' hSw;go_simp) ?_
   simp only [Act.put,zqa,zqb,zqc]
   refine tk 6 18 (.slice va ds.length c) hH4 rfl rfl (by intro w' hSw;have hc:=CE w' hSw;go_simp) ?_
   simp only [Act.put,zqa,zqb,zqc]
   refine ry 7 rfl (fun K' hK=>?_)
   refine step_goW (by rfl) (some 19) rfl 85 #[.tmp 18] _ rfl #[.slice va ds.length c] (by simp [Act.eval]) (fun _ _=>rfl) (hCW _ (hWS.below hH4 (Nat.le_refl _)).d) ?_
   rintro e W5 ⟨va5,g5,c5,rfl,hC5,b5⟩
   refine ⟨_,rfl,hK.out _ _ (hH4.trans (b5.mono hH4.size)) (fun hH5=>?_)⟩
   clear hK K'
   simp only [Act.put,zqa,zqb,zqc]
   refine ry 8 rfl (fun K' hK=>?_)
   refine step_goW (by rfl) (some 20) rfl 84 #[.tmp 16,.tmp 19] _ rfl #[.agg A,.slice va5 (M.choices ds).length c5] (by simp [Act.eval]) (fun _ _=>rfl) (hCC va5 g5 0 c5 _ hC5) ?_
   rintro e W6 ⟨rfl,b6⟩
   refine ⟨_,rfl,hK.out _ _ (hH5.trans (b6.mono hH5.size)) (fun hH6=>?_)⟩
   clear hK K'
   simp only [Act.put,zqa,zqb,zqc]
   obtain ⟨r,hr⟩:∃ r,M.chooseW ((M.choices ds).length+1) Nk (M.choices ds)=r:=⟨_,rfl⟩
   have HR:Hid (M.chooseW ((M.choices ds).length+1) Nk (M.choices ds)=r):=hr
   rw [hr]
   clear hr
   refine tk 9 21 (.bool r) hH6 rfl rfl (by intro w' hSw;go_simp) ?_
   simp only [Act.put,zqa,zqb,zqc]
   refine tk 10 4 (.bool r) hH6 rfl rfl (by intro w' hSw;go_simp) ?_
   simp only [Act.put,zqa,zqb,zqc]
   refine wpAnyH_done (by kernel_rfl) ?_ _
   have HF:Hid (M.holdsW N0 Nk ds=r):=by show _=_;unfold M.holdsW;rw [hr0,hrk,HR.out];rfl
   go_wp2_with fail
   go_ret
   exact ⟨ret_bool HF.out.symm,bwS.trans (hH6.mono bwS.size)⟩
  ·refine tk 2 14 (.bool false) hH4 rfl rfl (by intro w' hSw;go_simp) ?_
   simp only [Act.put,zqa,zqb,zqc]
   refine tk 3 15 (.bool false) hH4 rfl rfl (by intro w' hSw;go_simp) ?_
   simp only [Act.put,zqa,zqb,zqc]
   refine tz 4 16 hH4 rfl rfl ?_
   simp only [Act.put,zqa,zqb,zqc]
   refine tz 5 17 hH4 rfl rfl ?_
   simp only [Act.put,zqa,zqb,zqc]
   refine tz 6 18 hH4 rfl rfl ?_
   simp only [Act.put,zqa,zqb,zqc]
   refine tz 7 19 hH4 rfl rfl ?_
   simp only [Act.put,zqa,zqb,zqc]
   refine tz 8 20 hH4 rfl rfl ?_
   simp only [Act.put,zqa,zqb,zqc]
   refine tk 9 21 (.bool false) hH4 rfl rfl (by intro w' hSw;go_simp) ?_
   simp only [Act.put,zqa,zqb,zqc]
   refine tk 10 4 (.bool false) hH4 rfl rfl (by intro w' hSw;go_simp) ?_
   simp only [Act.put,zqa,zqb,zqc]
   refine wpAnyH_done (by kernel_rfl) ?_ _
   have HF:Hid (M.holdsW N0 Nk ds=false):=by show _=_;unfold M.holdsW;rw [hr0,hrk];rfl
   go_wp2_with fail
   go_ret
   exact ⟨ret_bool HF.out.symm,bwS.trans (hH4.mono bwS.size)⟩
 ·go_wp2_with fail
  go_ret
  exact ⟨ret_bool (by simp [M.holdsW,hr0]),bw2⟩
end
section
open Go.RowKit
theorem M.holdsW_eq {ll:List (List M.D)} {l:List Int} {rows:List (List Int)} (h:M.prog ll=true) (k:Nat) :
  M.holdsW (M.wordsOf (M.linksOf (M.mustAt (M.deeds ll) l rows 0) (M.deeds ll).length)) (M.wordsOf (M.linksOf (M.mustAt (M.deeds ll) l rows k) (M.deeds ll).length)) (M.deeds ll)=(M.holdsA (M.netOf (M.deeds ll) l rows 0) (M.deeds ll).length&&M.waitsA (M.deeds ll).length (M.netOf (M.deeds ll) l rows k) (M.choices (M.deeds ll))):=by
 rw [← M.holds_impl h k]
 have hr:∀ (A:Nat→Nat→Bool),M.roundN (M.wordsOf (M.linksOf A (M.deeds ll).length))=M.goesRound (M.bitsOf A (M.deeds ll).length) 28:=fun A=>by
  unfold M.roundN M.goesRound
  have hw:=M.words_bits (A:=A) (M.deeds28 h)
  rw [Bool.eq_iff_iff,List.any_eq_true,List.any_eq_true]
  constructor
  ·rintro ⟨a,ha,hb⟩
   exact ⟨a,ha,by rw [← hw a (List.mem_range.1 ha)];exact hb⟩
  ·rintro ⟨a,ha,hb⟩
   exact ⟨a,ha,by rw [hw a (List.mem_range.1 ha)];exact hb⟩
 unfold M.holdsW
 rw [hr,hr,M.choose_eq (m:=28) _ _ _ _ (M.words_bits (M.deeds28 h)) (fun c hc=>by
  have h1:=(M.choices_ok (M.run_of h) c hc).1
  have h2:=M.deeds28 h
  exact ⟨⟨by have:=h1.1.1;omega,by have:=h1.1.2;omega⟩,by have:=h1.2.1;omega,by have:=h1.2.2;omega⟩)]
 rfl
theorem words_small (A:Nat→Nat→Bool) (n:Nat) (hn:n≤28):∀ i,M.wordsOf (M.linksOf A n) i < 4294967296 :=
 M.words_lt _ _ (fun _=>by decide) (fun l hl=>by obtain ⟨a,b⟩:=l;have:=M.mem_links.1 hl;simp;omega)
theorem wayHolds_any (k:Nat) (hk1:1≤k) (hk3:k≤3) (va:Option Addr) (g c:Nat) (ll:List (List M.D)) (hp:M.prog ll=true) (fa:Option Addr) (fb fo fc:Nat) (l:List Int) (ra:Option Addr) (rb ro rc:Nat) (rows:List (List Int)) (w:World) (h:Wy w va g c (M.deeds ll) fa fb fo fc l ra rb ro rc rows) :
  Calls Tryz.prog 54 #[.agg #[.slice va (M.deeds ll).length c,.slice fa l.length fc,.slice ra rows.length rc],.int .i64 k] w fun e w'=>e=.returned (.bool (M.holdsA (M.netOf (M.deeds ll) l rows 0) (M.deeds ll).length&&M.waitsA (M.deeds ll).length (M.netOf (M.deeds ll) l rows k) (M.choices (M.deeds ll))))∧Below w.heap.size w w':=by
 rw [← M.holdsW_eq hp k]
 have hlow:∀ c∈M.choices (M.deeds ll),M.Low 28 c:=fun c hc=>by
  have h1:=(M.choices_ok (M.run_of hp) c hc).1
  have h2:=M.deeds28 hp
  exact ⟨⟨by have:=h1.1.1;omega,by have:=h1.1.2;omega⟩,by have:=h1.2.1;omega,by have:=h1.2.2;omega⟩
 refine holds_of k _ _ (words_small _ _ h.dl) (words_small _ _ h.dl) va g c (M.deeds ll) fa fb fo fc l ra rb ro rc rows w h hlow (fun w h=>ahead_of 0 _ _ _ reasons0_any (fun t a b x y w h1 h2 h3 h4=>must0_any t a b x y w h1 h2 h3 h4) va g c (M.deeds ll) fa fb fo fc l ra rb ro rc rows w h) (fun w h=>?_)
 rcases (show k=1∨k=2∨k=3 by omega) with rfl | rfl | rfl
 ·exact ahead_of 1 _ _ _ reasons1_any (fun t a b x y w h1 h2 h3 h4=>must1_any t a b x y w h1 h2 h3 h4) va g c (M.deeds ll) fa fb fo fc l ra rb ro rc rows w h
 ·exact ahead_of 2 _ _ _ reasons2_any (fun t a b x y w h1 h2 h3 h4=>must2_any t a b x y w h1 h2 h3 h4) va g c (M.deeds ll) fa fb fo fc l ra rb ro rc rows w h
 ·exact ahead_of 3 _ _ _ reasons3_any (fun t a b x y w h1 h2 h3 h4=>must3_any t a b x y w h1 h2 h3 h4) va g c (M.deeds ll) fa fb fo fc l ra rb ro rc rows w h
end
end Go.Proofs.YtnddmlgnngdaoaaGreatDoor
