/- A loop over an iterator whose elements lie in memory: who owns which blocks. The loop's own blocks, what the iterator has laid, and what each element brings with it, lie apart. No condition. And what goes with it: RvBase, RvLaw, RvEach, RvWay, RvFrom, RvChF, RvCf. -/
import Derived.RangeFuncNested
import Derived.Below
import Derived.RangeFuncBound
import Derived.RangeFuncLeaves
import Derived.Shelf.Abstract
import Derived.OwnWalkIn
import Derived.TacticsInMore
import Derived.LoopNIn
import Derived.LoopIn
import Derived.Test.YtjjkicffhpcngaaGreatBWau
namespace Go.Proofs.YtjjkicffhpcngaaGreat
open Go.RowKit
structure Fr (C:Nat→Prop) (W W':World):Prop where
 os:W'.os=W.os
 tape:W'.tape=W.tape
 output:W'.output=W.output
 size:W.heap.size≤W'.heap.size
 same:∀ k,k < W.heap.size→C k→W'.heap[k]?=W.heap[k]?
theorem Fr.refl (C:Nat→Prop) (W:World):Fr C W W:=⟨rfl,rfl,rfl,Nat.le_refl _,fun _ _ _=>rfl⟩
theorem Fr.trans {C:Nat→Prop} {A B D:World} (h:Fr C A B) (k:Fr C B D):Fr C A D :=
 ⟨k.os.trans h.os,k.tape.trans h.tape,k.output.trans h.output,Nat.le_trans h.size k.size,fun i hi hc=>(k.same i (Nat.lt_of_lt_of_le hi h.size) hc).trans (h.same i hi hc)⟩
theorem Fr.mono {C C':Nat→Prop} {A B:World} (h:Fr C A B) (hc:∀ k,k < A.heap.size→C' k→C k):Fr C' A B:=⟨h.os,h.tape,h.output,h.size,fun k hk h'=>h.same k hk (hc k hk h')⟩
theorem Fr.of_below {C:Nat→Prop} {A B:World} (h:Below A.heap.size A B):Fr C A B:=⟨h.os,h.tape,h.output,h.size,fun k hk _=>h.block k hk⟩
theorem Fr.putObj {C:Nat→Prop} {A B:World} (h:Fr C A B) {l:Nat} (o:Obj) (hl:¬ C l):Fr C A (B.putObj l o) :=
 h.trans ⟨rfl,rfl,rfl,by simp,fun k _ hk=>World.putObj_heap_other (fun e=>hl (e▸hk))⟩
theorem Fr.setCell {C:Nat→Prop} {A B:World} (h:Fr C A B) {p:Addr} (u:Value) (hp:¬ C p.block):Fr C A (B.setCell p u) :=
 h.trans ⟨rfl,rfl,rfl,by simp,fun k _ hk=>Below.heap_setCell _ _ _ _ (fun e=>hp (e▸hk))⟩
theorem Fr.cell {C:Nat→Prop} {A B:World} (h:Fr C A B) {p:Addr} {v:Value} (hc:C p.block) (hv:A.cell? p=some v):B.cell? p=some v :=
 (World.cell?_of_block (w:=A) (h.same p.block (World.block_lt_of_cell? _ _ hv) hc)).trans hv
theorem Fr.heap {C:Nat→Prop} {A B:World} (h:Fr C A B) {k:Nat} {o:Obj} (hc:C k) (hv:A.heap[k]?=some o):B.heap[k]?=some o :=
 (h.same k (Array.getElem?_eq_some_iff.1 hv).1 hc).trans hv
def Frames {β:Type} (D:Nat→Prop) (J:β→(Nat→Prop)→World→Prop):Prop:=∀ s C W W',J s C W→Fr (fun k=>C k∨D k) W W'→J s C W'
def Adds (C O C':Nat→Prop) (W W':World):Prop:=∀ k,C' k→C k∨O k∨(W.heap.size≤k∧k < W'.heap.size)
structure RvRound {α:Type} (J Jx:List α→(Nat→Prop)→World→Prop) (pre:List α) (C O:Nat→Prop) (W:World) (e:Ending) (W':World):Prop where
 fr:Fr (fun k=>¬ C k∧¬ O k) W W'
 ex:∃ C',Adds C O C' W W'∧((e=.returned (.bool true)∧J pre C' W')∨(e=.returned (.bool false)∧Jx pre C' W'))
def SeqC {α:Type} (F:Fence) (n:Nat) (P:Program) (g:Nat) (lb:Array Value) (V:α→Array Value→(Nat→Prop)→World→Prop) (D:Nat→Prop) (xs:List α) (w:World):Prop :=
 ∀ (l:Nat) (J Jx:List α→(Nat→Prop)→World→Prop) (C:Nat→Prop) (W:World),Fr D w W→(∀ k,C k→k < W.heap.size∧¬ D k)→Frames D J→Frames D Jx →
  (∀ pre C x vs O W1,pre++[x] <+: xs→J pre C W1→V x vs O W1→(∀ k,O k→¬ C k∧¬ D k)→YieldAt F (n - 1) P l vs W1 (RvRound J Jx (pre++[x]) C O W1)) →
  J [] C W →
  CallsIn F n P g (#[.func (.yield l) #[] #[]]++lb) W fun e W'=>(∃ v,e=.returned v)∧Fr (fun k=>¬ C k) W W'∧∃ C',Adds C (fun _=>False) C' W W'∧(J xs C' W'∨∃ pre,pre <+: xs∧Jx pre C' W')
theorem SeqC.inRound {α:Type} {F:Fence} {n:Nat} {P:Program} {g:Nat} {lb:Array Value} {V:α→Array Value→(Nat→Prop)→World→Prop} {D:Nat→Prop} {xs:List α} {w:World} (l:Nat) (h:SeqC F n P g lb V D xs w):SeqC (F.inRound l) n P g lb V D xs w:=h
def rvPost (r:Loop) (l:Nat) (R:Ending→World→Prop):Exit→World→Prop
 | .normal,W=>R (.returned (.bool true)) (W.putObj l (.loop { r with state:=.ready,pending:=none }))
 | .ret,W=>R (.returned (.bool false)) (W.putObj l (.loop { r with state:=.done,pending:=some .ret }))
 | .exit id,W=>R (.returned (.bool false)) (W.putObj l (.loop { r with state:=.done,pending:=some (.exit id) }))
 | .goto t,W=>R (.returned (.bool false)) (W.putObj l (.loop { r with state:=.done,pending:=some (.goto t) }))
 | .panic _,_=>False
 | .outgrown,_=>False
theorem yieldAt_of {F:Fence} {m:Nat} {P:Program} {l:Nat} {r:Loop} {vs:Array Value} {W:World} {R:Ending→World→Prop} (hl:W.heap[l]?=some (.loop r)) (hst:r.state=.ready) (hs:vs.size=r.params.size) (hF:F.fn r.fn)
  (h:r.assign.wpIn (F.inRound l) m P (Exit.then (fun a' Wa=>Wa.heap[l]?=some (.loop r)∧r.body.wpIn (F.inRound l) m P (fun e _ W3=>W3.heap[l]?=some (.loop { r with state:=.busy })∧rvPost r l R e W3) a' (Wa.putObj l (.loop { r with state:=.busy }))) (fun _ _ _=>False))
   { tmps:=(r.params.zip vs).foldl (fun t (p,v)=>t.setIfInBounds p v) r.tmps,defers:=[] } W):YieldAt F m P l vs W R:=by
 refine ⟨_,_,_,_,run_yield hl hs,roundIn_of_wpIn hF (wpIn_mono h ?_)⟩
 intro e a' Wa hq
 cases e with
 | normal =>
  obtain ⟨ha,hb⟩:=hq
  refine ⟨_,run_beginRound ha hst,wpIn_mono hb ?_⟩
  rintro e3 a3 W3 ⟨h3,hp⟩
  have key:=fun jump=>run_endRound (P:=P) (w:=W3) jump h3
  cases e3 with
  | normal=>exact ⟨_,_,key none,hp⟩
  | ret=>exact ⟨_,_,key (some .ret),hp⟩
  | exit id=>exact ⟨_,_,key (some (.exit id)),hp⟩
  | goto t=>exact ⟨_,_,key (some (.goto t)),hp⟩
  | panic ch=>exact hp
  | outgrown=>exact hp
 | ret=>exact hq
 | exit id=>exact hq
 | goto t=>exact hq
 | panic ch=>exact hq
 | outgrown=>exact hq
end Go.Proofs.YtjjkicffhpcngaaGreat
namespace Go.Proofs.YtjjkicffhpcngaaGreat
open Go.RowKit
structure RvBody {α:Type} (I:List α→(Nat→Prop)→World→Prop) (pre:List α) (C O:Nat→Prop) (W Wb W3:World):Prop where
 fr:Fr (fun k=>¬ C k∧¬ O k) Wb W3
 ex:∃ C',Adds C O C' W W3∧I pre C' W3
def rvBody {α:Type} (I:List α→(Nat→Prop)→World→Prop) (Ix:Code→List α→(Nat→Prop)→World→Prop) (pre:List α) (C O:Nat→Prop) (W Wb:World):Exit→Act→World→Prop
 | .normal,_,W3=>RvBody I pre C O W Wb W3
 | .ret,_,W3=>RvBody (Ix .ret) pre C O W Wb W3
 | .exit id,_,W3=>RvBody (Ix (.exit id)) pre C O W Wb W3
 | .goto t,_,W3=>RvBody (Ix (.goto t)) pre C O W Wb W3
 | .panic _,_,_=>False
 | .outgrown,_,_=>False
structure RvBook {α:Type} (I:List α→(Nat→Prop)→World→Prop) (l:Nat) (r:Loop) (E:Nat→Option Obj) (pre:List α) (Cj:Nat→Prop) (W:World):Prop where
 ex:∃ C,(∀ k,Cj k↔C k∨k=l∨(E k).isSome=true)∧¬ C l∧(∀ k,C k→E k=none)∧I pre C W
 rcd:W.heap[l]?=some (.loop r)
 more:∀ k o,E k=some o→W.heap[k]?=some o
theorem RvBook.frames {α:Type} {D:Nat→Prop} {I:List α→(Nat→Prop)→World→Prop} (hI:Frames D I) (l:Nat) (r:Loop) (E:Nat→Option Obj):Frames D (RvBook I l r E):=by
 rintro pre Cj W W' ⟨⟨C,hC,hl,hE,hi⟩,hr,hm⟩ hf
 refine ⟨⟨C,hC,hl,hE,hI _ _ _ _ hi (hf.mono fun k _ hk=>hk.imp (fun h=>(hC k).2 (Or.inl h)) id)⟩,hf.heap (Or.inl ((hC l).2 (Or.inr (Or.inl rfl)))) hr,fun k o ho=>hf.heap (Or.inl ((hC k).2 (Or.inr (Or.inr (by rw [ho];rfl))))) (hm k o ho)⟩
def RvRoundOk {α:Type} (xs:List α) (D:Nat→Prop) (F:Fence) (m:Nat) (P:Program) (ps:Array Tmp) (assign body:Code) (tmps:Array Value) (V:α→Array Value→(Nat→Prop)→World→Prop) (I:List α→(Nat→Prop)→World→Prop) (Ix:Code→List α→(Nat→Prop)→World→Prop) (b:Nat):Prop :=
 ∀ (l:Nat) (pre:List α) (C:Nat→Prop) (x:α) (vs:Array Value) (O:Nat→Prop) (W:World),b≤l→(∃ r,W.heap[l]?=some (.loop r))→¬ C l→¬ O l→pre++[x] <+: xs→I pre C W→V x vs O W→(∀ k,O k→¬ C k∧¬ D k) →
  assign.wpIn (F.inRound l) m P (Exit.then (fun a' Wa=>Fr (fun k=>¬ C k∧¬ O k) W Wa∧∀ Wb,Fr (fun k=>k≠l) Wa Wb→(∃ r,Wb.heap[l]?=some (.loop r))→body.wpIn (F.inRound l) m P (rvBody I Ix (pre++[x]) C O W Wb) a' Wb) (fun _ _ _=>False))
   { tmps:=(ps.zip vs).foldl (fun t (p,v)=>t.setIfInBounds p v) tmps,defers:=[] } W
theorem rv_round {α:Type} {xs:List α} {D:Nat→Prop} {F:Fence} {m:Nat} {P:Program} {V:α→Array Value→(Nat→Prop)→World→Prop} {I:List α→(Nat→Prop)→World→Prop} {Ix:Code→List α→(Nat→Prop)→World→Prop} {b l:Nat} {r:Loop} {E:Nat→Option Obj}
  (hst:r.state=.ready) (hpe:r.pending=none) (hF:F.fn r.fn) (hb:b≤l) (hEl:E l=none) (hDl:¬ D l) (hI:Frames D I) (hIx:∀ c,Frames D (Ix c)) (hps:∀ x vs O W,V x vs O W→vs.size=r.params.size)
  (hround:RvRoundOk xs D F m P r.params r.assign r.body r.tmps V I Ix b) (pre:List α) (Cj:Nat→Prop) (x:α) (vs:Array Value) (O:Nat→Prop) (W:World)
  (hpx:pre++[x] <+: xs) (hJ:RvBook I l r E pre Cj W) (hV:V x vs O W) (hd:∀ k,O k→¬ Cj k∧¬ D k) :
  YieldAt F m P l vs W (RvRound (RvBook I l r E) (fun pre C W=>∃ c,RvBook (Ix c) l { r with state:=.done,pending:=some c } E pre C W) (pre++[x]) Cj O W):=by
 obtain ⟨⟨C,hC,hCl,hCE,hi⟩,hr,hm⟩:=hJ
 have hOl:¬ O l:=fun h=>(hd l h).1 ((hC l).2 (Or.inr (Or.inl rfl)))
 have hlt:l < W.heap.size:=(Array.getElem?_eq_some_iff.1 hr).1
 refine yieldAt_of hr hst (hps x vs O W hV) hF (wpIn_mono (hround l pre C x vs O W hb ⟨_,hr⟩ hCl hOl hpx hi hV (fun k hk=>⟨fun h=>(hd k hk).1 ((hC k).2 (Or.inl h)),(hd k hk).2⟩)) ?_)
 intro e a' Wa hq
 cases e with
 | normal =>
  obtain ⟨hfa,hbody⟩:=hq
  have hra:Wa.heap[l]?=some (.loop r):=hfa.heap ⟨hCl,hOl⟩ hr
  have hlta:l < Wa.heap.size:=(Array.getElem?_eq_some_iff.1 hra).1
  have hfb:Fr (fun k=>k≠l) Wa (Wa.putObj l (.loop { r with state:=.busy })):=(Fr.refl _ Wa).putObj _ (fun h=>h rfl)
  have hrb:(Wa.putObj l (.loop { r with state:=.busy })).heap[l]?=some (.loop { r with state:=.busy }):=World.putObj_heap_same hlta
  refine ⟨hra,wpIn_mono (hbody _ hfb ⟨_,hrb⟩) ?_⟩
  have fin:∀ (I':List α→(Nat→Prop)→World→Prop) (hI':Frames D I') (r':Loop) (W3:World),RvBody I' (pre++[x]) C O W (Wa.putObj l (.loop { r with state:=.busy })) W3 →
    W3.heap[l]?=some (.loop { r with state:=.busy })∧Fr (fun k=>¬ Cj k∧¬ O k) W (W3.putObj l (.loop r'))∧∃ C',Adds Cj O C' W (W3.putObj l (.loop r'))∧RvBook I' l r' E (pre++[x]) C' (W3.putObj l (.loop r')):=by
   intro I' hI' r' W3 ⟨hf3,C',hA,hi3⟩
   have hr3:W3.heap[l]?=some (.loop { r with state:=.busy }):=hf3.heap ⟨hCl,hOl⟩ hrb
   have hlt3:l < W3.heap.size:=(Array.getElem?_eq_some_iff.1 hr3).1
   have hCl':¬ C' l:=fun h=>by
    rcases hA l h with h | h | h
    ·exact hCl h
    ·exact hOl h
    ·omega
   have hW3:Fr (fun k=>(¬ C k∧¬ O k)∧k≠l) W W3:=((hfa.mono fun k _ h=>h.1).trans (hfb.mono fun k _ h=>h.2)).trans (hf3.mono fun k _ h=>h.1)
   have hE3:∀ k o,E k=some o→W3.heap[k]?=some o:=fun k o ho=>by
    have hk:¬ C k:=fun h=>by rw [hCE k h] at ho;cases ho
    have hko:¬ O k:=fun h=>(hd k h).1 ((hC k).2 (Or.inr (Or.inr (by rw [ho];rfl))))
    have hkl:k≠l:=fun e=>by rw [e,hEl] at ho;cases ho
    exact hW3.heap ⟨⟨hk,hko⟩,hkl⟩ (hm k o ho)
   refine ⟨hr3,?_,fun k=>C' k∨k=l∨(E k).isSome=true,?_,⟨C',fun k=>Iff.rfl,hCl',fun k hk=>?_,hI' _ _ _ _ hi3 ((Fr.refl _ W3).putObj _ (fun h=>h.elim hCl' hDl))⟩,World.putObj_heap_same hlt3,fun k o ho=>?_⟩
   ·refine (hW3.mono fun k _ h=>⟨⟨fun hk=>h.1 ((hC k).2 (Or.inl hk)),h.2⟩,fun e=>h.1 ((hC k).2 (Or.inr (Or.inl e)))⟩).putObj _ (fun h=>h.1 ((hC l).2 (Or.inr (Or.inl rfl))))
   ·intro k hk
    rcases hk with hk | rfl | hk
    ·rcases hA k hk with h | h | h
     ·exact Or.inl ((hC k).2 (Or.inl h))
     ·exact Or.inr (Or.inl h)
     ·exact Or.inr (Or.inr (by simpa using h))
    ·exact Or.inl ((hC k).2 (Or.inr (Or.inl rfl)))
    ·exact Or.inl ((hC k).2 (Or.inr (Or.inr hk)))
   ·rcases hA k hk with h | h | h
    ·exact hCE k h
    ·cases he:E k with
     | none=>rfl
     | some o=>exact absurd ((hC k).2 (Or.inr (Or.inr (by rw [he];rfl)))) (hd k h).1
    ·cases he:E k with
     | none=>rfl
     | some o=>have:=(Array.getElem?_eq_some_iff.1 (hm k o he)).1;omega
   ·have hkl:k≠l:=fun e=>by rw [e,hEl] at ho;cases ho
    rw [World.putObj_heap_other hkl]
    exact hE3 k o ho
  intro e3 a3 W3 hp
  cases e3 with
  | normal =>
   have er:({ r with state:=.ready,pending:=none }:Loop)=r:=by
    obtain ⟨st,pe,_⟩:=r
    simp only at hst hpe
    subst hst;subst hpe;rfl
   obtain ⟨h1,h2,C',h3,h4⟩:=fin I hI r W3 hp
   refine ⟨h1,?_⟩
   show RvRound _ _ _ _ _ _ _ _
   rw [er]
   exact ⟨h2,C',h3,Or.inl ⟨rfl,h4⟩⟩
  | ret =>
   obtain ⟨h1,h2,C',h3,h4⟩:=fin (Ix .ret) (hIx _) { r with state:=.done,pending:=some .ret } W3 hp
   exact ⟨h1,h2,C',h3,Or.inr ⟨rfl,_,h4⟩⟩
  | exit id =>
   obtain ⟨h1,h2,C',h3,h4⟩:=fin (Ix (.exit id)) (hIx _) { r with state:=.done,pending:=some (.exit id) } W3 hp
   exact ⟨h1,h2,C',h3,Or.inr ⟨rfl,_,h4⟩⟩
  | goto t =>
   obtain ⟨h1,h2,C',h3,h4⟩:=fin (Ix (.goto t)) (hIx _) { r with state:=.done,pending:=some (.goto t) } W3 hp
   exact ⟨h1,h2,C',h3,Or.inr ⟨rfl,_,h4⟩⟩
  | panic ch=>exact hp.elim
  | outgrown=>exact hp.elim
 | ret=>exact hq
 | exit id=>exact hq
 | goto t=>exact hq
 | panic ch=>exact hq
 | outgrown=>exact hq
theorem rv_outer {α:Type} {F:Fence} {n:Nat} {P:Program} {g:Operand} {ps:Array Tmp} {assign body:Code} {Q:Exit→Act→World→Prop} {a:Act} {w:World}
  (hro:F.round=none) (h1:1≤n) {gf:Nat} {lb:Array Value} (hg:a.eval g=.func (.func gf) #[] lb) (hFg:F.fn gf) (eg:∀ args w,(callFunc gf args).run P w=.ok (.enter gf args) w)
  {V:α→Array Value→(Nat→Prop)→World→Prop} {D:Nat→Prop} {xs:List α} {w0:World} (hseq:SeqC F (n - 1) P gf lb V D xs w0) (hD0:Fr D w0 w) (hDl:∀ k,D k→k < w.heap.size)
  (hps:∀ x vs O W,V x vs O W→vs.size=ps.size) {C0:Nat→Prop} (hC0:∀ k,C0 k→k < w.heap.size∧¬ D k)
  (I:List α→(Nat→Prop)→World→Prop) (Ix:Code→List α→(Nat→Prop)→World→Prop) (hI:Frames D I) (hIx:∀ c,Frames D (Ix c)) (h0:I [] C0 w)
  (hround:RvRoundOk xs D F (n - 1 - 1) P ps assign body a.tmps V I Ix w.heap.size)
  (hdone:∀ (C':Nat→Prop) (W':World),Fr (fun k=>¬ C0 k) w W'→(∀ k,C' k→C0 k∨(w.heap.size+2≤k∧k < W'.heap.size))→I xs C' W'→W'.heap[w.heap.size]?=some (.deferred (some []))→Q .normal { a with defers:={ target:=.collected w.heap.size,args:=#[] }::a.defers } W')
  (hstop:∀ (c:Code) (pre:List α) (C':Nat→Prop) (W':World),pre <+: xs→Fr (fun k=>¬ C0 k) w W'→(∀ k,C' k→C0 k∨(w.heap.size+2≤k∧k < W'.heap.size))→Ix c pre C' W'→W'.heap[w.heap.size]?=some (.deferred (some []))→c.wpIn F n P Q { a with defers:={ target:=.collected w.heap.size,args:=#[] }::a.defers } W') :
  (Code.rangeFunc g ps assign body).wpIn F n P Q a w:=by
 refine wpIn_rangeFunc ?_
 intro fn hfn
 rw [hro]
 obtain ⟨r,hr⟩:∃ r:Loop,r={ state:=.ready,pending:=none,fn,tmps:=a.tmps,params:=ps,assign,body,defers:=w.heap.size }:=⟨_,rfl⟩
 obtain ⟨W1,hW1⟩:∃ W1,(w.alloc (.deferred (some []))).alloc (.loop r)=W1:=⟨_,rfl⟩
 have sz:W1.heap.size=w.heap.size+2:=by rw [← hW1];simp
 have hb1:Below w.heap.size w W1:=by rw [← hW1];exact ((Below.refl _ w).alloc (Nat.le_refl _) _).alloc (by simp) _
 have hL1:W1.heap[w.heap.size+1]?=some (.loop r):=by
  rw [← hW1];have:=World.alloc_heap_new (w.alloc (.deferred (some []))) (.loop r);rwa [World.size_alloc] at this
 have hK1:W1.heap[w.heap.size]?=some (.deferred (some [])):=by
  rw [← hW1];exact (Below.heap_alloc _ _ _ (by simp)).trans (World.alloc_heap_new w _)
 refine ⟨w.heap.size+1,[{ target:=.collected w.heap.size,args:=#[] }],W1,{ target:=.fn (.func gf) lb,args:=#[.func (.yield (w.heap.size+1)) #[] #[]] },W1,gf,#[.func (.yield (w.heap.size+1)) #[] #[]]++lb,W1,?_,?_,?_,?_,fun _=>h1,?_⟩
 ·rw [← hW1,hr];exact run_enterLoop_outer _ _ _ _ _
 ·simp only [resolve,hg]
  simp [go_sem]
 ·intro f' hf'
  simp [Target.leads] at hf'
  subst hf'
  exact hFg
 ·simp [invoke,go_sem,eg]
 ·have hst:r.state=.ready:=by rw [hr]
  have hpe:r.pending=none:=by rw [hr]
  have bk:RvBook I (w.heap.size+1) r (fun k=>if k=w.heap.size then some (.deferred (some [])) else none) [] (fun k=>C0 k∨k=w.heap.size+1∨((fun k=>if k=w.heap.size then some (.deferred (some [])) else none:Nat→Option Obj) k).isSome=true) W1:=by
   refine ⟨⟨C0,fun k=>Iff.rfl,fun h=>by have:=(hC0 _ h).1;omega,fun k hk=>?_,hI _ _ _ _ h0 (.of_below hb1)⟩,hL1,fun k o ho=>?_⟩
   ·have:=(hC0 k hk).1;exact if_neg (by omega)
   ·by_cases e:k=w.heap.size
    ·subst e;rw [if_pos rfl] at ho;cases ho;exact hK1
    ·rw [if_neg e] at ho;cases ho
  refine (hseq (w.heap.size+1) (RvBook I (w.heap.size+1) r (fun k=>if k=w.heap.size then some (.deferred (some [])) else none)) (fun pre C W=>∃ c,RvBook (Ix c) (w.heap.size+1) { r with state:=.done,pending:=some c } (fun k=>if k=w.heap.size then some (.deferred (some [])) else none) pre C W) _ W1 (hD0.trans (.of_below hb1)) (fun k hk=>?_) (RvBook.frames hI _ _ _) (fun pre C W W' ⟨c,hc⟩ hf=>⟨c,RvBook.frames (hIx c) _ _ _ _ _ _ _ hc hf⟩) (fun pre C x vs O W hpx hJ hV hd=>?_) bk).mono ?_
  ·rcases hk with hk | rfl | hk
   ·exact ⟨by have:=(hC0 k hk).1;omega,(hC0 k hk).2⟩
   ·exact ⟨by omega,fun h=>by have:=hDl _ h;omega⟩
   ·dsimp only at hk
    by_cases e:k=w.heap.size
    ·exact ⟨by omega,fun h=>by have:=hDl _ h;omega⟩
    ·rw [if_neg e] at hk;cases hk
  ·have hrp:RvRoundOk xs D F (n - 1 - 1) P r.params r.assign r.body r.tmps V I Ix w.heap.size:=by rw [hr];exact hround
   exact rv_round hst hpe (by rw [hr];exact hfn) (by omega) (by simp) (fun h=>by have:=hDl _ h;omega) hI hIx (by rw [hr];exact hps) hrp pre C x vs O W hpx hJ hV hd
  ·have key:∀ (I':List α→(Nat→Prop)→World→Prop) (hI':Frames D I') (r' r'':Loop) (pre:List α) (C':Nat→Prop) (W2:World),Fr (fun k=>¬ (C0 k∨k=w.heap.size+1∨((fun k=>if k=w.heap.size then some (.deferred (some [])) else none:Nat→Option Obj) k).isSome=true)) W1 W2→Adds (fun k=>C0 k∨k=w.heap.size+1∨((fun k=>if k=w.heap.size then some (.deferred (some [])) else none:Nat→Option Obj) k).isSome=true) (fun _=>False) C' W1 W2→RvBook I' (w.heap.size+1) r' (fun k=>if k=w.heap.size then some (.deferred (some [])) else none) pre C' W2 →
     ∃ C,Fr (fun k=>¬ C0 k) w (W2.putObj (w.heap.size+1) (.loop r''))∧(∀ k,C k→C0 k∨(w.heap.size+2≤k∧k < (W2.putObj (w.heap.size+1) (.loop r'')).heap.size))∧I' pre C (W2.putObj (w.heap.size+1) (.loop r''))∧(W2.putObj (w.heap.size+1) (.loop r'')).heap[w.heap.size]?=some (.deferred (some [])):=by
    rintro I' hI' r' r'' pre C' W2 hf hA ⟨⟨C,hC,hCl,hCE,hi⟩,hrc,hmo⟩
    refine ⟨C,?_,fun k hk=>?_,hI' _ _ _ _ hi ((Fr.refl _ W2).putObj _ (fun h=>h.elim hCl (fun h=>by have:=hDl _ h;omega))),(World.putObj_heap_other (by omega)).trans (hmo _ _ (if_pos rfl))⟩
    ·refine ⟨hf.os.trans hb1.os,hf.tape.trans hb1.tape,hf.output.trans hb1.output,by have:=hf.size;simp;omega,fun k hk hc=>?_⟩
     rw [World.putObj_heap_other (by omega),hf.same k (by omega) (fun h=>?_),hb1.block k hk]
     rcases h with h | h | h
     ·exact hc h
     ·omega
     ·dsimp only at h;rw [if_neg (by omega)] at h;cases h
    ·rcases hA k ((hC k).2 (Or.inl hk)) with h | h | h
     ·rcases h with h | rfl | h
      ·exact Or.inl h
      ·exact absurd hk hCl
      ·have:=hCE k hk
       (try dsimp only at this h)
       first | (rw [this] at h;cases h) | cases h
     ·exact h.elim
     ·exact Or.inr ⟨by omega,by simpa using h.2⟩
   rintro e W2 ⟨⟨v,rfl⟩,hf,C',hA,(hJ | ⟨pre,hp,c,hJ⟩)⟩
   ·obtain ⟨C,k1,k2,k3,k4⟩:=key I hI r { r with state:=.exhausted,pending:=none } xs C' W2 hf hA hJ
    exact ⟨none,_,by have:=run_endLoop (P:=P) hJ.rcd (by rw [hst];simp);rw [hpe] at this;exact this,hdone C _ k1 k2 k3 k4⟩
   ·obtain ⟨C,k1,k2,k3,k4⟩:=key (Ix c) (hIx c) _ { r with state:=.exhausted,pending:=some c } pre C' W2 hf hA hJ
    exact ⟨some c,_,run_endLoop (P:=P) hJ.rcd (by simp),hstop c pre C _ hp k1 k2 k3 k4⟩
theorem rv_inner {α:Type} {F:Fence} {n:Nat} {P:Program} {g:Operand} {ps:Array Tmp} {assign body:Code} {Q:Exit→Act→World→Prop} {a:Act} {w:World}
  {l₀:Nat} {r₀:Loop} (hro:F.round=some l₀) (hl₀:w.heap[l₀]?=some (.loop r₀)) (h1:1≤n) {gf:Nat} {lb:Array Value} (hg:a.eval g=.func (.func gf) #[] lb) (hFg:F.fn gf) (eg:∀ args w,(callFunc gf args).run P w=.ok (.enter gf args) w)
  {V:α→Array Value→(Nat→Prop)→World→Prop} {D:Nat→Prop} {xs:List α} {w0:World} (hseq:SeqC F (n - 1) P gf lb V D xs w0) (hD0:Fr D w0 w) (hDl:∀ k,D k→k < w.heap.size)
  (hps:∀ x vs O W,V x vs O W→vs.size=ps.size) {C0:Nat→Prop} (hC0:∀ k,C0 k→k < w.heap.size∧¬ D k)
  (I:List α→(Nat→Prop)→World→Prop) (Ix:Code→List α→(Nat→Prop)→World→Prop) (hI:Frames D I) (hIx:∀ c,Frames D (Ix c)) (h0:I [] C0 w)
  (hround:RvRoundOk xs D F (n - 1 - 1) P ps assign body a.tmps V I Ix w.heap.size)
  (hdone:∀ (C':Nat→Prop) (W':World),Fr (fun k=>¬ C0 k) w W'→(∀ k,C' k→C0 k∨(w.heap.size+1≤k∧k < W'.heap.size))→I xs C' W'→Q .normal a W')
  (hstop:∀ (c:Code) (pre:List α) (C':Nat→Prop) (W':World),pre <+: xs→Fr (fun k=>¬ C0 k) w W'→(∀ k,C' k→C0 k∨(w.heap.size+1≤k∧k < W'.heap.size))→Ix c pre C' W'→c.wpIn F n P Q a W') :
  (Code.rangeFunc g ps assign body).wpIn F n P Q a w:=by
 refine wpIn_rangeFunc ?_
 intro fn hfn
 rw [hro]
 obtain ⟨r,hr⟩:∃ r:Loop,r={ state:=.ready,pending:=none,fn,tmps:=a.tmps,params:=ps,assign,body,defers:=r₀.defers }:=⟨_,rfl⟩
 obtain ⟨W1,hW1⟩:∃ W1,w.alloc (.loop r)=W1:=⟨_,rfl⟩
 have sz:W1.heap.size=w.heap.size+1:=by rw [← hW1];simp
 have hb1:Below w.heap.size w W1:=by rw [← hW1];exact (Below.refl _ w).alloc (Nat.le_refl _) _
 have hL1:W1.heap[w.heap.size]?=some (.loop r):=by
  rw [← hW1];exact World.alloc_heap_new w _
 refine ⟨w.heap.size,[],W1,{ target:=.fn (.func gf) lb,args:=#[.func (.yield (w.heap.size)) #[] #[]] },W1,gf,#[.func (.yield (w.heap.size)) #[] #[]]++lb,W1,?_,?_,?_,?_,fun _=>h1,?_⟩
 ·rw [← hW1,hr];exact run_enterLoop_inner hl₀ _ _ _ _ _
 ·simp only [resolve,hg]
  simp [go_sem]
 ·intro f' hf'
  simp [Target.leads] at hf'
  subst hf'
  exact hFg
 ·simp [invoke,go_sem,eg]
 ·have hst:r.state=.ready:=by rw [hr]
  have hpe:r.pending=none:=by rw [hr]
  have bk:RvBook I (w.heap.size) r (fun _=>none) [] (fun k=>C0 k∨k=w.heap.size∨((fun _=>none:Nat→Option Obj) k).isSome=true) W1:=by
   refine ⟨⟨C0,fun k=>Iff.rfl,fun h=>by have:=(hC0 _ h).1;omega,fun k hk=>?_,hI _ _ _ _ h0 (.of_below hb1)⟩,hL1,fun k o ho=>?_⟩
   ·rfl
   ·cases ho
  refine (hseq (w.heap.size) (RvBook I (w.heap.size) r (fun _=>none)) (fun pre C W=>∃ c,RvBook (Ix c) (w.heap.size) { r with state:=.done,pending:=some c } (fun _=>none) pre C W) _ W1 (hD0.trans (.of_below hb1)) (fun k hk=>?_) (RvBook.frames hI _ _ _) (fun pre C W W' ⟨c,hc⟩ hf=>⟨c,RvBook.frames (hIx c) _ _ _ _ _ _ _ hc hf⟩) (fun pre C x vs O W hpx hJ hV hd=>?_) bk).mono ?_
  ·rcases hk with hk | rfl | hk
   ·exact ⟨by have:=(hC0 k hk).1;omega,(hC0 k hk).2⟩
   ·exact ⟨by omega,fun h=>by have:=hDl _ h;omega⟩
   ·cases hk
  ·have hrp:RvRoundOk xs D F (n - 1 - 1) P r.params r.assign r.body r.tmps V I Ix w.heap.size:=by rw [hr];exact hround
   exact rv_round hst hpe (by rw [hr];exact hfn) (by omega) (by simp) (fun h=>by have:=hDl _ h;omega) hI hIx (by rw [hr];exact hps) hrp pre C x vs O W hpx hJ hV hd
  ·have key:∀ (I':List α→(Nat→Prop)→World→Prop) (hI':Frames D I') (r' r'':Loop) (pre:List α) (C':Nat→Prop) (W2:World),Fr (fun k=>¬ (C0 k∨k=w.heap.size∨((fun _=>none:Nat→Option Obj) k).isSome=true)) W1 W2→Adds (fun k=>C0 k∨k=w.heap.size∨((fun _=>none:Nat→Option Obj) k).isSome=true) (fun _=>False) C' W1 W2→RvBook I' (w.heap.size) r' (fun _=>none) pre C' W2 →
     ∃ C,Fr (fun k=>¬ C0 k) w (W2.putObj (w.heap.size) (.loop r''))∧(∀ k,C k→C0 k∨(w.heap.size+1≤k∧k < (W2.putObj (w.heap.size) (.loop r'')).heap.size))∧I' pre C (W2.putObj (w.heap.size) (.loop r'')):=by
    rintro I' hI' r' r'' pre C' W2 hf hA ⟨⟨C,hC,hCl,hCE,hi⟩,hrc,hmo⟩
    refine ⟨C,?_,fun k hk=>?_,hI' _ _ _ _ hi ((Fr.refl _ W2).putObj _ (fun h=>h.elim hCl (fun h=>by have:=hDl _ h;omega)))⟩
    ·refine ⟨hf.os.trans hb1.os,hf.tape.trans hb1.tape,hf.output.trans hb1.output,by have:=hf.size;simp;omega,fun k hk hc=>?_⟩
     rw [World.putObj_heap_other (by omega),hf.same k (by omega) (fun h=>?_),hb1.block k hk]
     rcases h with h | h | h
     ·exact hc h
     ·omega
     ·cases h
    ·rcases hA k ((hC k).2 (Or.inl hk)) with h | h | h
     ·rcases h with h | rfl | h
      ·exact Or.inl h
      ·exact absurd hk hCl
      ·have:=hCE k hk
       (try dsimp only at this h)
       first | (rw [this] at h;cases h) | cases h
     ·exact h.elim
     ·exact Or.inr ⟨by omega,by simpa using h.2⟩
   rintro e W2 ⟨⟨v,rfl⟩,hf,C',hA,(hJ | ⟨pre,hp,c,hJ⟩)⟩
   ·obtain ⟨C,k1,k2,k3⟩:=key I hI r { r with state:=.exhausted,pending:=none } xs C' W2 hf hA hJ
    exact ⟨none,_,by have:=run_endLoop (P:=P) hJ.rcd (by rw [hst];simp);rw [hpe] at this;exact this,hdone C _ k1 k2 k3⟩
   ·obtain ⟨C,k1,k2,k3⟩:=key (Ix c) (hIx c) _ { r with state:=.exhausted,pending:=some c } pre C' W2 hf hA hJ
    exact ⟨some c,_,run_endLoop (P:=P) hJ.rcd (by simp),hstop c pre C _ hp k1 k2 k3⟩
end Go.Proofs.YtjjkicffhpcngaaGreat
namespace Go.Proofs.YtjjkicffhpcngaaGreat
open Go.RowKit Go.Shelf
attribute [local go_sem] Oper.semAt_some
theorem yieldAt_any {m m':Nat} {P:Program} {l:Nat} {vs:Array Value} {W:World} {R:Ending→World→Prop} (h:YieldAt Fence.wide m P l vs W R):YieldAt Fence.wide m' P l vs W R:=by
 obtain ⟨fn,tmps,assign,body,hy,hR⟩:=h
 exact ⟨fn,tmps,assign,body,hy,hR.1,fun c cs _=>hR.2 c cs (room_wide _)⟩
structure VOk {α:Type} (V:α→Array Value→(Nat→Prop)→World→Prop):Prop where
 form:∀ x vs O W,V x vs O W→∃ a1 n1 c1 a2 n2 c2,vs=#[.agg #[.slice a1 n1 c1,.slice a2 n2 c2]]
 fr:∀ x vs O W W',V x vs O W→Fr O W W'→V x vs O W'
 lt:∀ x vs O W k,V x vs O W→O k→k < W.heap.size
def ChoiceC {α:Type} (V:α→Array Value→(Nat→Prop)→World→Prop) (D:Nat→Prop) (cf:Nat) (lc:Array Value) (ch:α→List α) (w:World):Prop :=
 (∀ args w,(callFunc cf args).run Tryz.prog w=.ok (.enter cf args) w)∧∀ x vs O W,Fr D w W→V x vs O W→(∀ k,O k→¬ D k) →
  Calls Tryz.prog cf (vs++lc) W fun e W'=>∃ hf lh,e=.returned (.func (.func hf) #[] lh)∧(∀ args w,(callFunc hf args).run Tryz.prog w=.ok (.enter hf args) w)∧Below W.heap.size W W'∧∀ n,SeqC Fence.wide n Tryz.prog hf lh V (fun k=>D k∨O k∨(W.heap.size≤k∧k < W'.heap.size)) (ch x) W'
theorem flatMap_pre {α:Type} {ch:α→List α} {xs pre pre':List α} {x y:α} (h:pre++[x] <+: xs) (h':pre'++[y] <+: ch x):(pre.flatMap ch++pre')++[y] <+: xs.flatMap ch:=by
 obtain ⟨t,rfl⟩:=h
 obtain ⟨t',ht⟩:=h'
 refine ⟨t'++t.flatMap ch,?_⟩
 rw [List.flatMap_append,List.flatMap_append,List.flatMap_cons,List.flatMap_nil,List.append_nil,← ht]
 simp
structure EachI {α:Type} (J:List α→(Nat→Prop)→World→Prop) (l Y:Nat) (D:Nat→Prop) (w:World) (p:List α) (C':Nat→Prop) (W':World):Prop where
 ex:∃ Cj,(∀ k,C' k↔Cj k∨k=Y)∧¬ Cj Y∧J p Cj W'
 box:Boxed W' Y 96 (.func (.yield l) #[] #[])
 fr:Fr D w W'
 bd:∀ k,C' k→k < W'.heap.size∧¬ D k
structure EachX {α:Type} (Jx:List α→(Nat→Prop)→World→Prop) (Y:Nat) (c:Code) (p:List α) (C':Nat→Prop) (W':World):Prop where
 ret:c=.ret
 ex:∃ Cj p2,(∀ k,C' k↔Cj k∨k=Y)∧¬ Cj Y∧p2 <+: p∧Jx p2 Cj W'
theorem EachI.frames {α:Type} {J:List α→(Nat→Prop)→World→Prop} {l Y:Nat} {D D':Nat→Prop} {w:World} (hJ:Frames D J) (hD:∀ k,D k→D' k) {β:Type} (f:β→List α):Frames D' (fun p=>EachI J l Y D w (f p)):=by
 rintro p C' A B ⟨⟨Cj,h1,h2,h3⟩,h4,h5,h6⟩ hf
 exact ⟨⟨Cj,h1,h2,hJ _ _ _ _ h3 (hf.mono fun k _ hk=>hk.imp (fun h=>(h1 k).2 (Or.inl h)) (hD k))⟩,hf.heap (Or.inl ((h1 Y).2 (Or.inr rfl))) h4,h5.trans (hf.mono fun k _ hk=>Or.inr (hD k hk)),fun k hk=>⟨Nat.lt_of_lt_of_le (h6 k hk).1 hf.size,(h6 k hk).2⟩⟩
theorem EachX.frames {α:Type} {Jx:List α→(Nat→Prop)→World→Prop} {Y:Nat} {D D':Nat→Prop} (hJx:Frames D Jx) (hD:∀ k,D k→D' k) {β:Type} (f:β→List α) (c:Code):Frames D' (fun p=>EachX Jx Y c (f p)):=by
 rintro p C' A B ⟨e,Cj,p2,h1,h2,h3,h4⟩ hf
 exact ⟨e,Cj,p2,h1,h2,h3,hJx _ _ _ _ h4 (hf.mono fun k _ hk=>hk.imp (fun h=>(h1 k).2 (Or.inl h)) (hD k))⟩
set_option maxRecDepth 100000 in
set_option maxHeartbeats 4000000 in
theorem each_seq {α:Type} {V:α→Array Value→(Nat→Prop)→World→Prop} (hV:VOk V) {D:Nat→Prop} {gf cf:Nat} {lb lc:Array Value} {xs:List α} {ch:α→List α} {w:World} {bw bc:Nat}
  (hbw:w.cell? ⟨bw,0,none⟩=some (.func (.func gf) #[] lb)) (hbc:w.cell? ⟨bc,0,none⟩=some (.func (.func cf) #[] lc)) (hDw:D bw) (hDc:D bc) (hDl:∀ k,D k→k < w.heap.size)
  (eg:∀ args w,(callFunc gf args).run Tryz.prog w=.ok (.enter gf args) w) (hseq:∀ n,SeqC Fence.wide n Tryz.prog gf lb V D xs w) (hch:ChoiceC V D cf lc ch w) (n:Nat) :
  SeqC Fence.wide n Tryz.prog 119 #[.pointer (some ⟨bw,0,none⟩),.pointer (some ⟨bc,0,none⟩)] V D (xs.flatMap ch) w:=by
 intro l J Jx C W hW hC hJ hJx hY h0
 refine callsIn_wide.2 (callsIn_wide (n:=9) |>.1 ?_)
 refine callsIn_of_wp_marks Tryz.func119 rfl trivial ?_ rfl
 simp only [Tryz.ntmps119,List.size_toArray,List.length_cons,List.length_nil,Nat.reduceAdd,Nat.reduceSub,Array.replicate_succ,Array.replicate_zero,List.push_toArray,List.append_toArray,List.nil_append,List.cons_append]
 have b0:Below W.heap.size W (W.alloc (.cells #[.func (.yield l) #[] #[]] 96)):=(Below.refl _ W).alloc (Nat.le_refl _) _
 have hW0:Fr D w (W.alloc (.cells #[.func (.yield l) #[] #[]] 96)):=hW.trans (.of_below b0)
 have bY:=Boxed.new W 96 (.func (.yield l) #[] #[])
 have cw:=hW0.cell hDw hbw
 have sz0:(W.alloc (.cells #[.func (.yield l) #[] #[]] 96)).heap.size=W.heap.size+1:=by simp
 have hwl:w.heap.size≤W.heap.size:=hW.size
 have hDW:∀ k,D k→k < W.heap.size:=fun k hk=>by have:=hDl k hk;omega
 gi_wp2
 obtain ⟨Y,hYe⟩:∃ Y,W.heap.size=Y:=⟨_,rfl⟩
 rw [hYe] at b0 bY sz0 hwl hDW ⊢
 generalize hW0e:W.alloc (.cells #[.func (.yield l) #[] #[]] 96)=W0 at *
 have h0':J [] C W0:=hJ _ _ _ _ h0 (.of_below (by rw [hYe];exact b0))
 clear cw
 refine rv_outer (n:=9) (a:=_) (D:=D) (xs:=xs) (w0:=w) (C0:=fun k=>C k∨k=Y) rfl (by omega) (gf:=gf) (lb:=lb) rfl trivial eg (hseq 8) hW0 (fun k hk=>by have:=hDW k hk;omega) (V:=V)
  (fun x vs O W h=>by obtain ⟨_,_,_,_,_,_,rfl⟩:=hV.form x vs O W h;rfl) (fun k hk=>?c0)
  (fun pre=>EachI J l Y D w (pre.flatMap ch))
  (fun c pre=>EachX Jx Y c (pre.flatMap ch))
  ?hI ?hIx ?h0 ?round ?done ?stop
 case c0 =>
  rcases hk with hk | rfl
  ·exact ⟨by have:=(hC k hk).1;omega,(hC k hk).2⟩
  ·exact ⟨by omega,fun h=>by have:=hDW _ h;omega⟩
 case hI=>exact EachI.frames hJ (fun _ h=>h) (fun pre:List α=>pre.flatMap ch)
 case hIx=>exact fun c=>EachX.frames hJx (fun _ h=>h) (fun pre:List α=>pre.flatMap ch) c
 case h0=>exact ⟨⟨C,fun k=>Iff.rfl,fun h=>by have:=(hC Y h).1;omega,h0'⟩,bY,hW0,fun k hk=>by
   rcases hk with hk | rfl
   ·exact ⟨by have:=(hC k hk).1;omega,(hC k hk).2⟩
   ·exact ⟨by omega,fun h=>by have:=hDW _ h;omega⟩⟩
 case round =>
  rintro l1 pre C1 x vs O W1 hb ⟨r1,hr1⟩ hCl hOl hpx ⟨⟨Cj,hCj,hCjY,hj⟩,bY1,hF1,hB1⟩ hVx hO
  obtain ⟨a1,n1,c1,a2,n2,c2,rfl⟩:=hV.form _ _ _ _ hVx
  have hl1:l1 < W1.heap.size:=(Array.getElem?_eq_some_iff.1 hr1).1
  gi_wp2
  refine ⟨.of_below ((Below.refl _ W1).alloc (Nat.le_refl _) _),fun Wb hfb=>?_⟩
  intro hrb0
  obtain ⟨rb,hrb⟩:=hrb0
  have hYl:Y < l1:=by omega
  have hDl1:∀ k,D k→k≠l1:=fun k hk=>by have:=hDW k hk;omega
  have hW1b:Fr (fun k=>k≠l1) W1 Wb:=(Fr.of_below ((Below.refl _ W1).alloc (Nat.le_refl _) _)).trans hfb
  have hFb:Fr D w Wb:=hF1.trans (hW1b.mono fun k _ hk=>hDl1 k hk)
  have cc:=hFb.cell hDc hbc
  have bYb:Boxed Wb Y 96 (.func (.yield l) #[] #[]):=hW1b.heap (by omega) bY1
  have cx0:Wb.cell? ⟨W1.heap.size,0,none⟩=some (.slice a1 n1 c1):=hfb.cell (by show W1.heap.size≠l1;omega) (by simp)
  have cx1:Wb.cell? ⟨W1.heap.size,1,none⟩=some (.slice a2 n2 c2):=hfb.cell (by show W1.heap.size≠l1;omega) (by simp)
  have hVb:=hV.fr _ _ _ _ _ hVx (hW1b.mono fun k _ hk e=>hOl (e▸hk))
  have hCh:=hch.2 x _ O Wb hFb hVb (fun k hk=>(hO k hk).2)
  have ec:=hch.1
  gi_wp2
  refine ⟨trivial,(CallsIn.inRound l1 (callsIn_wide.2 hCh)).mono ?_⟩
  rintro e W5 ⟨hf,lh,rfl,ef,b5,hsq⟩
  have hlb:l1 < Wb.heap.size:=(Array.getElem?_eq_some_iff.1 hrb).1
  have hr5:W5.heap[l1]?=some (.loop rb):=(b5.block l1 hlb).trans hrb
  have hYb:Y < Wb.heap.size:=by omega
  have bY5:Boxed W5 Y 96 (.func (.yield l) #[] #[]):=(b5.block Y hYb).trans bYb
  have hF5:Fr D w W5:=hFb.trans (.of_below b5)
  have s1b:=hW1b.size
  have sb5:=b5.size
  have hj5:J (pre.flatMap ch) Cj W5:=hJ _ _ _ _ hj ((hW1b.mono fun k _ hk e=>by
   rcases hk with hk | hk
   ·exact hCl (e▸(hCj k).2 (Or.inl hk))
   ·exact hDl1 k hk e).trans (.of_below b5))
  gi_wp2
  refine rv_inner (n:=7) (l₀:=l1) (r₀:=rb) (D:=fun k=>D k∨O k∨(Wb.heap.size≤k∧k < W5.heap.size)) (xs:=ch x) (w0:=W5) (C0:=C1) rfl hr5 (by omega) (gf:=hf) (lb:=lh) rfl trivial ef ((hsq 6).inRound l1) (Fr.refl _ W5) (fun k hk=>?d2) (V:=V)
   (fun x vs O W h=>by obtain ⟨_,_,_,_,_,_,rfl⟩:=hV.form x vs O W h;rfl) (fun k hk=>?c2)
   (fun pre'=>EachI J l Y D w (pre.flatMap ch++pre'))
   (fun c pre'=>EachX Jx Y c (pre.flatMap ch++pre'))
   ?hI2 ?hIx2 ?h02 ?round2 ?done2 ?stop2
  case d2 =>
   rcases hk with hk | hk | hk
   ·have:=hDW k hk;omega
   ·have:=hV.lt _ _ _ _ k hVb hk;omega
   ·exact hk.2
  case c2 =>
   have h1:=hB1 k hk
   refine ⟨by omega,?_⟩
   rintro (h | h | h)
   ·exact h1.2 h
   ·exact (hO k h).1 hk
   ·omega
  case hI2=>exact EachI.frames hJ (fun _ h=>Or.inl h) (fun pre':List α=>pre.flatMap ch++pre')
  case hIx2=>exact fun c=>EachX.frames hJx (fun _ h=>Or.inl h) (fun pre':List α=>pre.flatMap ch++pre') c
  case h02=>exact ⟨⟨Cj,hCj,hCjY,by rw [List.append_nil];exact hj5⟩,bY5,hF5,fun k hk=>⟨by have:=(hB1 k hk).1;omega,(hB1 k hk).2⟩⟩
  case round2 =>
   rintro l2 pre' C2 y vs2 O2 W6 hb2 ⟨r2,hr2⟩ hCl2 hOl2 hpy ⟨⟨Cj2,hCj2,hCjY2,hj2⟩,bY2,hF2,hB2⟩ hVy hO2
   obtain ⟨d1,m1,e1,d2,m2,e2,rfl⟩:=hV.form _ _ _ _ hVy
   have hl2:l2 < W6.heap.size:=(Array.getElem?_eq_some_iff.1 hr2).1
   gi_wp2
   refine ⟨.of_below ((Below.refl _ W6).alloc (Nat.le_refl _) _),fun Wc hfc=>?_⟩
   intro rc hrc
   have hYl2:Y < l2:=by omega
   have hDl2:∀ k,D k→k≠l2:=fun k hk=>by have:=hDW k hk;omega
   have hW6c:Fr (fun k=>k≠l2) W6 Wc:=(Fr.of_below ((Below.refl _ W6).alloc (Nat.le_refl _) _)).trans hfc
   have bYc:Boxed Wc Y 96 (.func (.yield l) #[] #[]):=hW6c.heap (by omega) bY2
   have cY:=bYc.cell
   have cy0:Wc.cell? ⟨W6.heap.size,0,none⟩=some (.slice d1 m1 e1):=hfc.cell (by show W6.heap.size≠l2;omega) (by simp)
   have cy1:Wc.cell? ⟨W6.heap.size,1,none⟩=some (.slice d2 m2 e2):=hfc.cell (by show W6.heap.size≠l2;omega) (by simp)
   have hVc:=hV.fr _ _ _ _ _ hVy (hW6c.mono fun k _ hk e=>hOl2 (e▸hk))
   have hjc:J (pre.flatMap ch++pre') Cj2 Wc:=hJ _ _ _ _ hj2 (hW6c.mono fun k _ hk e=>by
    rcases hk with hk | hk
    ·exact hCl2 (e▸(hCj2 k).2 (Or.inl hk))
    ·exact hDl2 k hk e)
   obtain ⟨fn,tmps,assign,body,hy,hR⟩:=yieldAt_any (m':=4) (hY _ Cj2 y _ O2 Wc (flatMap_pre hpx hpy) hjc hVc (fun k hk=>⟨fun h=>(hO2 k hk).1 ((hCj2 k).2 (Or.inl h)),fun h=>(hO2 k hk).2 (Or.inl h)⟩))
   have s6c:=hW6c.size
   have hFc:Fr D w Wc:=hF2.trans (hW6c.mono fun k _ hk=>hDl2 k hk)
   have hYc:Y < Wc.heap.size:=by omega
   have fin:∀ (C7:Nat→Prop) (W7:World),Fr (fun k=>¬ Cj2 k∧¬ O2 k) Wc W7→Adds Cj2 O2 C7 Wc W7→Fr (fun k=>¬ C2 k∧¬ O2 k) Wc W7∧Adds C2 O2 (fun k=>C7 k∨k=Y) W6 W7∧¬ C7 Y∧Boxed W7 Y 96 (.func (.yield l) #[] #[])∧Fr D w W7∧∀ k,(C7 k∨k=Y)→k < W7.heap.size∧¬ D k:=by
    intro C7 W7 hf7 hA7
    have hOY:¬ O2 Y:=fun h=>(hO2 Y h).1 ((hCj2 Y).2 (Or.inr rfl))
    have hCY:¬ C7 Y:=fun h=>by
     rcases hA7 Y h with h | h | h
     ·exact hCjY2 h
     ·exact hOY h
     ·omega
    have sc7:=hf7.size
    refine ⟨hf7.mono fun k _ hk=>⟨fun h=>hk.1 ((hCj2 k).2 (Or.inl h)),hk.2⟩,fun k hk=>?_,hCY,hf7.heap ⟨hCjY2,hOY⟩ bYc,hFc.trans (hf7.mono fun k _ hk=>⟨fun h=>(hB2 k ((hCj2 k).2 (Or.inl h))).2 hk,fun h=>(hO2 k h).2 (Or.inl hk)⟩),fun k hk=>?_⟩
    ·rcases hk with hk | rfl
     ·rcases hA7 k hk with h | h | h
      ·exact Or.inl ((hCj2 k).2 (Or.inl h))
      ·exact Or.inr (Or.inl h)
      ·exact Or.inr (Or.inr ⟨by omega,h.2⟩)
     ·exact Or.inl ((hCj2 k).2 (Or.inr rfl))
    ·rcases hk with hk | rfl
     ·rcases hA7 k hk with h | h | h
      ·have:=hB2 k ((hCj2 k).2 (Or.inl h))
       exact ⟨by omega,this.2⟩
      ·exact ⟨by have:=hV.lt _ _ _ _ k hVc h;omega,fun hd=>(hO2 k h).2 (Or.inl hd)⟩
      ·exact ⟨h.2,fun hd=>by have:=hDW k hd;omega⟩
     ·exact ⟨by omega,fun hd=>by have:=hDW k hd;omega⟩
   gi_wp2
   refine (show RoundIn ((Fence.wide.inRound l1).inRound l2) 4 Tryz.prog l fn tmps assign body Wc _ from hR).mono ?_
   rintro e W7 ⟨hf7,C7,hA7,(⟨rfl,hj7⟩ | ⟨rfl,hj7⟩)⟩
   ·obtain ⟨k1,k2,k3,k4,k5,k6⟩:=fin C7 W7 hf7 hA7
    gi_wp2
    exact ⟨k1,_,k2,⟨C7,fun k=>Iff.rfl,k3,by rw [← List.append_assoc];exact hj7⟩,k4,k5,k6⟩
   ·obtain ⟨k1,k2,k3,k4,k5,k6⟩:=fin C7 W7 hf7 hA7
    gi_wp2
    exact ⟨k1,_,k2,rfl,C7,_,fun k=>Iff.rfl,k3,by rw [← List.append_assoc];exact List.prefix_rfl,hj7⟩
  case done2 =>
   rintro C' W' hf' hb' ⟨⟨Cj',h1,h2,h3⟩,h4,h5,h6⟩
   gi_wp2
   refine ⟨(Fr.of_below b5).trans (hf'.mono fun k _ hk=>hk.1),C',fun k hk=>?_,⟨Cj',h1,h2,by rw [List.flatMap_append,List.flatMap_cons,List.flatMap_nil,List.append_nil];exact h3⟩,h4,h5,h6⟩
   rcases hb' k hk with h | h
   ·exact Or.inl h
   ·exact Or.inr (Or.inr ⟨by omega,h.2⟩)
  case stop2 =>
   rintro c p C' W' hp hf' hb' ⟨rfl,Cj',p2,h1,h2,h3,h4⟩
   gi_wp2
   refine ⟨(Fr.of_below b5).trans (hf'.mono fun k _ hk=>hk.1),C',fun k hk=>?_,rfl,Cj',p2,h1,h2,?_,h4⟩
   ·rcases hb' k hk with h | h
    ·exact Or.inl h
    ·exact Or.inr (Or.inr ⟨by omega,h.2⟩)
   ·rw [List.flatMap_append,List.flatMap_cons,List.flatMap_nil,List.append_nil]
    exact h3.trans ((List.prefix_append_right_inj _).2 hp)
 case done =>
  rintro C' W' hf' hb' ⟨⟨Cj',h1,h2,h3⟩,h4,h5,h6⟩ hK
  have hNo:∀ k,Cj' k→k≠W0.heap.size:=fun k hk e=>by
   rcases hb' k ((h1 k).2 (Or.inl hk)) with (h | h) | h
   ·have:=(hC k h).1;omega
   ·omega
   ·omega
  have fW:Fr (fun k=>¬ C k) W (W'.putObj W0.heap.size (.deferred none)):=by
   refine ⟨hf'.os.trans b0.os,hf'.tape.trans b0.tape,hf'.output.trans b0.output,by have:=hf'.size;simp;omega,fun k hk hc=>?_⟩
   rw [World.putObj_heap_other (by omega),hf'.same k (by omega) (fun h=>h.elim hc (by omega)),b0.block k (by omega)]
  have fA:Adds C (fun _=>False) Cj' W (W'.putObj W0.heap.size (.deferred none)):=fun k hk=>by
   rcases hb' k ((h1 k).2 (Or.inl hk)) with (h | rfl) | h
   ·exact Or.inl h
   ·exact absurd hk h2
   ·exact Or.inr (Or.inr ⟨by omega,by simpa using h.2⟩)
  have fP:Fr (fun k=>Cj' k∨D k) W' (W'.putObj W0.heap.size (.deferred none)):=(Fr.refl _ W').putObj _ (fun h=>h.elim (fun h=>hNo _ h rfl) (fun h=>by have:=hDW _ h;omega))
  gi_wp2
  refine ⟨by simp,.inl ⟨_,_,rfl,run_takeDeferred hK,?_⟩⟩
  exact ⟨_,results_none rfl _ _ _,⟨_,rfl⟩,fW,Cj',fA,Or.inl (hJ _ _ _ _ h3 fP)⟩
 case stop =>
  rintro c p C' W' hp hf' hb' ⟨rfl,Cj',p2,h1,h2,h3,h4⟩ hK
  have hNo:∀ k,Cj' k→k≠W0.heap.size:=fun k hk e=>by
   rcases hb' k ((h1 k).2 (Or.inl hk)) with (h | h) | h
   ·have:=(hC k h).1;omega
   ·omega
   ·omega
  have fW:Fr (fun k=>¬ C k) W (W'.putObj W0.heap.size (.deferred none)):=by
   refine ⟨hf'.os.trans b0.os,hf'.tape.trans b0.tape,hf'.output.trans b0.output,by have:=hf'.size;simp;omega,fun k hk hc=>?_⟩
   rw [World.putObj_heap_other (by omega),hf'.same k (by omega) (fun h=>h.elim hc (by omega)),b0.block k (by omega)]
  have fA:Adds C (fun _=>False) Cj' W (W'.putObj W0.heap.size (.deferred none)):=fun k hk=>by
   rcases hb' k ((h1 k).2 (Or.inl hk)) with (h | rfl) | h
   ·exact Or.inl h
   ·exact absurd hk h2
   ·exact Or.inr (Or.inr ⟨by omega,by simpa using h.2⟩)
  have fP:Fr (fun k=>Cj' k∨D k) W' (W'.putObj W0.heap.size (.deferred none)):=(Fr.refl _ W').putObj _ (fun h=>h.elim (fun h=>hNo _ h rfl) (fun h=>by have:=hDW _ h;omega))
  have hpp:p2 <+: xs.flatMap ch:=h3.trans (by
   obtain ⟨q,rfl⟩:=hp
   rw [List.flatMap_append]
   exact List.prefix_append _ _)
  gi_wp2
  refine ⟨by simp,.inl ⟨_,_,rfl,run_takeDeferred hK,?_⟩⟩
  exact ⟨_,results_none rfl _ _ _,⟨_,rfl⟩,fW,Cj',fA,Or.inr ⟨p2,hpp,hJx _ _ _ _ h4 fP⟩⟩
end Go.Proofs.YtjjkicffhpcngaaGreat
namespace Go.Proofs.YtjjkicffhpcngaaGreat
open Go.RowKit
theorem own_fr {W W':World} {O:Nat→Prop} {B:Nat} {e:TypeId} {z:Nat} {v:Value} {n:Nat} {xs:List Value} (h:W.ownsRow B e z v n xs) (hf:Fr O W W') (hO:∀ k,v.ownBlock=some k→O k):W'.ownsRow B e z v n xs:=by
 obtain ⟨h1,h2⟩:=h
 refine ⟨h1,?_⟩
 rcases h2 with h2 | ⟨g,cap,cur,hv,hg,hh,r⟩
 ·exact .inl h2
 ·exact .inr ⟨g,cap,cur,hv,hg,hf.heap (hO g (by rw [hv];rfl)) hh,r⟩
theorem own_base {W:World} {B B':Nat} {e:TypeId} {z:Nat} {v:Value} {n:Nat} {xs:List Value} (h:W.ownsRow B e z v n xs) (hB:∀ k,v.ownBlock=some k→B'≤k):W.ownsRow B' e z v n xs:=by
 obtain ⟨h1,h2⟩:=h
 refine ⟨h1,?_⟩
 rcases h2 with h2 | ⟨g,cap,cur,hv,hg,hh,r⟩
 ·exact .inl h2
 ·exact .inr ⟨g,cap,cur,hv,hB g (by rw [hv];rfl),hh,r⟩
def Blks (fv ov:Value) (cs:List Value) (k:Nat):Prop:=fv.ownBlock=some k∨ov.ownBlock=some k∨∃ u∈cs,u.ownBlock=some k
theorem Xw.mem {W:World} {B:Nat} {fv ov:Value} {l:List Int} {cs:List Value} {rows:List (List Int)} (h:Xw W B fv ov l cs rows) {u:Value} (hu:u∈cs):∃ r,W.ownsRow B 3 1 u r.length (nums r):=by
 obtain ⟨i,hi,e⟩:=List.mem_iff_getElem.1 hu
 have hl:cs.length=rows.length:=by have:=h.ord.1;omega
 obtain ⟨u',e1,e2,_⟩:=h.row i (by omega)
 rw [List.getElem?_eq_getElem hi,e] at e1
 rw [Option.some.inj e1]
 exact ⟨_,e2⟩
theorem Xw.fr {W W':World} {O:Nat→Prop} {B:Nat} {fv ov:Value} {l:List Int} {cs:List Value} {rows:List (List Int)} (h:Xw W B fv ov l cs rows) (hf:Fr O W W') (hO:∀ k,Blks fv ov cs k→O k):Xw W' B fv ov l cs rows :=
 ⟨own_fr h.from_ hf (fun k hk=>hO k (Or.inl hk)),own_fr h.ord hf (fun k hk=>hO k (Or.inr (Or.inl hk))),fun i hi=>by
  obtain ⟨u,e1,e2,e3⟩:=h.row i hi
  exact ⟨u,e1,own_fr e2 hf (fun k hk=>hO k (Or.inr (Or.inr ⟨u,List.mem_of_getElem? e1,hk⟩))),e3⟩,h.apart,h.each⟩
theorem Xw.blk_lt {W:World} {B:Nat} {fv ov:Value} {l:List Int} {cs:List Value} {rows:List (List Int)} (h:Xw W B fv ov l cs rows) {k:Nat} (hk:Blks fv ov cs k):B≤k∧k < W.heap.size:=by
 rcases hk with hk | hk | ⟨u,hu,hk⟩
 ·exact h.from_.lt k hk
 ·exact h.ord.lt k hk
 ·obtain ⟨r,hr⟩:=h.mem hu
  exact hr.lt k hk
theorem Xw.base {W:World} {B B':Nat} {fv ov:Value} {l:List Int} {cs:List Value} {rows:List (List Int)} (h:Xw W B fv ov l cs rows) (hB:∀ k,Blks fv ov cs k→B'≤k):Xw W B' fv ov l cs rows :=
 ⟨own_base h.from_ (fun k hk=>hB k (Or.inl hk)),own_base h.ord (fun k hk=>hB k (Or.inr (Or.inl hk))),fun i hi=>by
  obtain ⟨u,e1,e2,e3⟩:=h.row i hi
  exact ⟨u,e1,own_base e2 (fun k hk=>hB k (Or.inr (Or.inr ⟨u,List.mem_of_getElem? e1,hk⟩))),e3⟩,h.apart,h.each⟩
structure WayV (Q:M.Wy→Prop) (x:M.Wy) (vs:Array Value) (O:Nat→Prop) (W:World):Prop where
 ex:∃ fv ov cs,vs=#[.agg #[fv,ov]]∧Xw W 0 fv ov x.1 cs x.2∧∀ k,O k↔Blks fv ov cs k
 ok:Q x
theorem WayV.vok (Q:M.Wy→Prop):VOk (WayV Q):=by
 refine ⟨?_,?_,?_⟩
 ·rintro x vs O W ⟨⟨fv,ov,cs,rfl,hx,hO⟩,_⟩
  obtain ⟨a1,c1,rfl⟩:=own_slx hx.from_
  obtain ⟨a2,c2,rfl⟩:=own_slx hx.ord
  exact ⟨_,_,_,_,_,_,rfl⟩
 ·rintro x vs O W W' ⟨⟨fv,ov,cs,rfl,hx,hO⟩,hq⟩ hf
  exact ⟨⟨fv,ov,cs,rfl,hx.fr hf (fun k hk=>(hO k).2 hk),hO⟩,hq⟩
 ·rintro x vs O W k ⟨⟨fv,ov,cs,rfl,hx,hO⟩,hq⟩ hk
  exact (hx.blk_lt ((hO k).1 hk)).2
theorem WyAns.way {w w':World} {fv ov:Value} {l:List Int} {rows:List (List Int)} (h:WyAns w w' fv ov l rows) {Q:M.Wy→Prop} (hq:Q (l,rows)):∃ O:Nat→Prop,WayV Q (l,rows) #[.agg #[fv,ov]] O w'∧∀ k,O k→w.heap.size≤k∧k < w'.heap.size:=by
 obtain ⟨cs,hx⟩:=h.ex
 exact ⟨Blks fv ov cs,⟨⟨fv,ov,cs,rfl,hx.base (fun _ _=>Nat.zero_le _),fun _=>Iff.rfl⟩,hq⟩,fun k hk=>hx.blk_lt hk⟩
theorem Xw.reads {W:World} {B:Nat} {fv ov:Value} {l:List Int} {cs:List Value} {rows:List (List Int)} (h:Xw W B fv ov l cs rows):∃ a1 b1 c1 a2 b2 c2,fv=.slice a1 l.length c1∧ov=.slice a2 rows.length c2∧IntS W a1 b1 0 l∧IntSS W a2 b2 0 rows:=by
 obtain ⟨a1,b1,c1,rfl,i1,_⟩:=own_ints h.from_
 obtain ⟨a2,c2,rfl⟩:=own_slx h.ord
 rcases h.ord.2 with ⟨hv,hn⟩ | ⟨g,cap,cur,hv,hg,hh,hc,r⟩
 ·have:rows=[]:=List.length_eq_zero_iff.1 hn
  subst this
  exact ⟨a1,b1,c1,a2,0,c2,rfl,rfl,i1,⟨fun h=>absurd h (Nat.lt_irrefl _),fun i hi=>absurd hi (Nat.not_lt_zero _)⟩⟩
 ·simp only [Value.slice.injEq] at hv
  obtain ⟨rfl,_,rfl⟩:=hv
  refine ⟨a1,b1,c1,_,g,c2,rfl,rfl,i1,⟨fun _=>rfl,fun i hi=>?_⟩⟩
  obtain ⟨u,e1,e2,_⟩:=h.row i hi
  obtain ⟨a',b',c',rfl,i',_⟩:=own_ints e2
  have hcell:=h.ord.cells (g:=g) rfl i _ e1
  rw [Go.WideShapes.add_plain] at hcell
  exact ⟨a',b',0,c',hcell,i'⟩
end Go.Proofs.YtjjkicffhpcngaaGreat
namespace Go.Proofs.YtjjkicffhpcngaaGreat
open Go.RowKit Go.Shelf
attribute [local go_sem] Oper.semAt_some
theorem IntS.fr {w W:World} {D:Nat→Prop} {a:Option Addr} {b o:Nat} {l:List Int} (h:IntS w a b o l) (hf:Fr D w W) (hD:0 < l.length→D b):IntS W a b o l :=
 ⟨h.addr,fun i hi=>hf.cell (p:=⟨b,o+i,none⟩) (hD (by omega)) (h.row i hi)⟩
theorem DeS.fr {w W:World} {D:Nat→Prop} {va:Option Addr} {g:Nat} {l:List M.De} (h:DeS w va g l) (hf:Fr D w W) (hD:0 < l.length→D g):DeS W va g l :=
 ⟨h.addr,fun n hn j hj=>by
  have hs:(l[n].cells)[j]?=some ((l[n].cells)[j]'(by rw [M.De.len];exact hj)):=List.getElem?_eq_getElem _
  exact (hf.cell (p:=⟨g,n * 7+j,none⟩) (hD (by omega)) ((h.row n hn j hj).trans hs)).trans hs.symm⟩
structure FromD (D:Nat→Prop) (w:World) (Q:M.Wy→Prop) (ds:List M.De) (at_:Nat) (x:M.Wy) (sb xb ab lb:Nat):Prop where
 s:∃ sa sg sc,w.cell? ⟨sb,0,none⟩=some (.slice sa (M.srcs ds at_).length sc)∧IntS w sa sg 0 (M.srcs ds at_)∧D sg
 a:w.cell? ⟨ab,0,none⟩=some (.int .i64 at_)
 l:∃ va g c,w.cell? ⟨lb,0,none⟩=some (.slice va ds.length c)∧DeS w va g ds∧(0 < ds.length→D g)
 x:∃ fv ov cs,w.cell? ⟨xb,0,none⟩=some fv∧w.cell? ⟨xb,1,none⟩=some ov∧Xw w 0 fv ov x.1 cs x.2∧∀ k,Blks fv ov cs k→D k
 ds:D sb
 dx:D xb
 da:D ab
 dl:D lb
structure FromI {α:Type} (J:List α→(Nat→Prop)→World→Prop) (C D:Nat→Prop) (w W:World) (p:List α) (C':Nat→Prop) (wr:World):Prop where
 j:J p C' wr
 fc:Fr (fun k=>¬ C k) W wr
 ad:Adds C (fun _=>False) C' W wr
 fd:Fr D w wr
 bd:∀ k,C' k→k < wr.heap.size∧¬ D k
theorem FromI.below {α:Type} {J:List α→(Nat→Prop)→World→Prop} {C D:Nat→Prop} {w W:World} {p:List α} {C':Nat→Prop} {wr w':World} (h:FromI J C D w W p C' wr) (hJ:Frames D J) (hb:Below wr.heap.size wr w'):FromI J C D w W p C' w' :=
 ⟨hJ _ _ _ _ h.j (.of_below hb),h.fc.trans (.of_below hb),fun k hk=>(h.ad k hk).imp id (fun h=>h.imp id (fun h=>⟨h.1,Nat.lt_of_lt_of_le h.2 hb.size⟩)),h.fd.trans (.of_below hb),fun k hk=>⟨Nat.lt_of_lt_of_le (h.bd k hk).1 hb.size,(h.bd k hk).2⟩⟩
theorem FromI.round {α:Type} {J J':List α→(Nat→Prop)→World→Prop} {C D O:Nat→Prop} {w W:World} {p p':List α} {C' C2:Nat→Prop} {wr w':World} (h:FromI J C D w W p C' wr) (hW:W.heap.size≤wr.heap.size) (hDw:∀ k,D k→k < wr.heap.size) (hO:∀ k,O k→¬ D k∧W.heap.size≤k∧k < wr.heap.size) (hf:Fr (fun k=>¬ C' k∧¬ O k) wr w') (hA:Adds C' O C2 wr w') (hj:J' p' C2 w'):FromI J' C D w W p' C2 w':=by
 have hs:=hf.size
 refine ⟨hj,⟨hf.os.trans h.fc.os,hf.tape.trans h.fc.tape,hf.output.trans h.fc.output,by omega,fun k hk hc=>?_⟩,fun k hk=>?_,⟨hf.os.trans h.fd.os,hf.tape.trans h.fd.tape,hf.output.trans h.fd.output,Nat.le_trans h.fd.size hs,fun k hk hd=>?_⟩,fun k hk=>?_⟩
 ·rw [hf.same k (by omega) ⟨fun hc'=>(h.ad k hc').elim hc (fun h=>h.elim id (fun h=>by omega)),fun ho=>by have:=(hO k ho).2.1;omega⟩]
  exact h.fc.same k hk hc
 ·rcases hA k hk with h1 | h1 | h1
  ·rcases h.ad k h1 with h2 | h2 | h2
   ·exact Or.inl h2
   ·exact h2.elim
   ·exact Or.inr (Or.inr ⟨h2.1,by omega⟩)
  ·have:=hO k h1
   exact Or.inr (Or.inr ⟨this.2.1,by omega⟩)
  ·exact Or.inr (Or.inr ⟨by omega,h1.2⟩)
 ·rw [hf.same k (hDw k hd) ⟨fun hc'=>(h.bd k hc').2 hd,fun ho=>(hO k ho).1 hd⟩]
  exact h.fd.same k hk hd
 ·rcases hA k hk with h1 | h1 | h1
  ·have:=h.bd k h1
   exact ⟨by omega,this.2⟩
  ·have:=hO k h1
   exact ⟨by omega,this.1⟩
  ·exact ⟨h1.2,fun hd=>by have:=hDw k hd;omega⟩
theorem Xw.put {w:World} {base fb fc n k:Nat} {ov:Value} {l:List Int} {cs:List Value} {rows:List (List Int)} (v:Int) (h:Xw w base (.slice (some ⟨fb,0,none⟩) n fc) ov l cs rows):Xw (w.setCell ⟨fb,k,none⟩ (.int .i64 v)) base (.slice (some ⟨fb,0,none⟩) n fc) ov (l.set k v) cs rows:=by
 obtain ⟨fa,fc',ef⟩:=own_slx h.from_
 simp only [Value.slice.injEq] at ef
 obtain ⟨_,rfl,_⟩:=ef
 have hg:=grown_set w fb k (.int .i64 v)
 have e:nums (l.set k v)=(nums l).set k (.int .i64 v):=by simp [nums,List.map_set]
 refine ⟨?_,h.ord.kept hg ?_,fun i hi=>?_,h.apart,h.each⟩
 ·rw [List.length_set,e]
  exact (h.from_.stored k (.int .i64 v)).1
 ·cases ho:ov.ownBlock with
  | none=>exact .inl rfl
  | some g=>exact .inr (fun e'=>h.apart fb rfl (ho.trans e'))
 ·obtain ⟨u,e1,e2,e3,e4⟩:=h.row i hi
  refine ⟨u,e1,e2.kept hg ?_,e3,e4⟩
  cases ho:u.ownBlock with
  | none=>exact .inl rfl
  | some g=>exact .inr (fun e'=>e4 g ho (show some fb=some g from e'.symm))
def M.fromP (ds:List M.De) (at_:Nat) (x:M.Wy) (n:Nat):List M.Wy:=((M.srcs ds at_).take n).flatMap fun f=>if M.ends ds (x.1.set at_ f) then [(x.1.set at_ f,x.2)] else []
theorem M.fromP_step (ds:List M.De) (at_:Nat) (x:M.Wy) (n:Nat) (h:n < (M.srcs ds at_).length):M.fromP ds at_ x (n+1)=M.fromP ds at_ x n++if M.ends ds (x.1.set at_ (M.srcs ds at_)[n]) then [(x.1.set at_ (M.srcs ds at_)[n],x.2)] else []:=by
 unfold M.fromP
 rw [List.take_succ_eq_append_getElem h,List.flatMap_append,List.flatMap_cons,List.flatMap_nil,List.append_nil]
theorem M.fromP_pre (ds:List M.De) (at_:Nat) (x:M.Wy) (n:Nat):M.fromP ds at_ x n <+: M.chF ds at_ x:=by
 unfold M.fromP M.chF
 conv=>rhs;rw [← List.take_append_drop n (M.srcs ds at_),List.flatMap_append]
 exact List.prefix_append _ _
theorem M.fromP_all (ds:List M.De) (at_:Nat) (x:M.Wy) (n:Nat) (h:(M.srcs ds at_).length≤n):M.fromP ds at_ x n=M.chF ds at_ x:=by
 unfold M.fromP M.chF
 rw [List.take_of_length_le h]
set_option maxRecDepth 100000 in
set_option maxHeartbeats 4000000 in
theorem from_seq {D:Nat→Prop} {w:World} {Q:M.Wy→Prop} {ds:List M.De} {at_:Nat} {x:M.Wy} {sb xb ab lb:Nat} (h:FromD D w Q ds at_ x sb xb ab lb) (hDl:∀ k,D k→k < w.heap.size) (hat:at_ < ds.length) (hdl:ds.length≤1000) (hx1:x.1.length=ds.length) (hx2:x.2.length≤1000) (hx3:∀ r∈x.2,r.length≤1000)
  (hin:∀ f∈M.srcs ds at_,M.In ds (x.1.set at_ f)) (hq:∀ f∈M.srcs ds at_,Q (x.1.set at_ f,x.2)) (n:Nat) :
  SeqC Fence.wide n Tryz.prog 150 #[.pointer (some ⟨sb,0,none⟩),.pointer (some ⟨xb,0,none⟩),.pointer (some ⟨ab,0,none⟩),.pointer (some ⟨lb,0,none⟩)] (WayV Q) D (M.chF ds at_ x) w:=by
 intro l J Jx C W hW hC hJ hJx hY h0
 have hsl:(M.srcs ds at_).length≤1001:=by
  have:=M.wrs_len ((ds[at_]?.map fun x=>x.d.p).getD 0) ds 0
  simp only [M.srcs,List.length_cons]
  omega
 have hwW:=hW.size
 have HX1:Hid (x.1.length=ds.length):=hx1
 have hx1l:x.1.length≤1000:=by omega
 have hat1:at_ < x.1.length:=by omega
 clear hx1
 refine callsIn_wide.2 (callsIn_wide (n:=9) |>.1 ?_)
 refine callsIn_of_wp Tryz.func150 rfl trivial ?_ rfl
 simp only [Tryz.ntmps150,List.size_toArray,List.length_cons,List.length_nil,Nat.reduceAdd,Nat.reduceSub,Array.replicate_succ,Array.replicate_zero,List.push_toArray,List.append_toArray,List.nil_append,List.cons_append]
 obtain ⟨sa,sg,sc,s0,s2,s3⟩:=h.s
 have s1:=hW.cell h.ds s0
 gi_wp2
 gi_loopw [11] (fun s11 wr=>∃ (n:Nat) (C':Nat→Prop),s11=.int .i64 n∧n≤(M.srcs ds at_).length∧FromI J C D w W (M.fromP ds at_ x n) C' wr) (fun s11 _=>(M.srcs ds at_).length - (intOf s11).toNat)
 case atStart=>exact ⟨0,C,rfl,Nat.zero_le _,h0,Fr.refl _ _,fun k hk=>Or.inl hk,hW,hC⟩
 case round =>
  obtain ⟨n,C',rfl,hn,hI⟩:=hrel
  by_cases hlt:n < (M.srcs ds at_).length
  ·have sI:=s2.fr hI.fd (fun _=>s3)
   obtain rfl:=sI.addr (by omega)
   have sc0:=sI.row n hlt
   rw [Nat.zero_add] at sc0
   have hpre:=M.fromP_pre ds at_ x (n+1)
   have hstep:=M.fromP_step ds at_ x n hlt
   have hfin:=hin _ (List.getElem_mem hlt)
   have hfq:=hq _ (List.getElem_mem hlt)
   generalize (M.srcs ds at_)[n]=f at *
   have i1:(n:Int) < (M.srcs ds at_).length:=by omega
   obtain ⟨fv,ov,cs,x1,x2,x3,x4⟩:=h.x
   obtain ⟨a1,b1,c1,a2,b2,c2,rfl,rfl,r1,r2⟩:=(x3.fr hI.fd x4).reads
   have cx0:=hI.fd.cell h.dx x1
   have cx1:=hI.fd.cell h.dx x2
   have ca:=hI.fd.cell h.da h.a
   obtain ⟨va,g,lc,l1,l2,l3⟩:=h.l
   have cl:=hI.fd.cell h.dl l1
   have dl2:=DeS.fr l2 hI.fd l3
   have CX:=copyExec_any a1 b1 0 c1 x.1 a2 b2 0 c2 x.2 wr (by omega) (by omega) (fun t ht=>by have:=hx3 t ht;omega) r1 r2
   have hsw:=hI.fc.size
   gi_wp2_with fail
   refine ⟨trivial,(callsIn_wide.2 CX).mono ?_⟩
   rintro e w1 ⟨fv',ov',rfl,hA⟩
   have bw1:=hA.bel
   obtain ⟨cs',hx'⟩:=hA.ex
   obtain ⟨oa,oc,rfl⟩:=own_slx hx'.ord
   obtain ⟨fb,fc,rfl,hfb1,hfb2⟩:=hx'.from_.form (by omega)
   have lab:ab < wr.heap.size:=World.block_lt_of_cell? _ _ ca
   have llb:lb < wr.heap.size:=World.block_lt_of_cell? _ _ cl
   have hat':(at_:Int) < x.1.length:=by omega
   have hat0:¬ (at_:Int) < 0:=by omega
   have bB:=below1 w1 (.cells #[.slice (some ⟨fb,0,none⟩) x.1.length fc,.slice oa x.2.length oc] 63)
   have bwB:=bw1.trans (bB.mono bw1.size)
   have sY:SlotX (w1.alloc (.cells #[.slice (some ⟨fb,0,none⟩) x.1.length fc,.slice oa x.2.length oc] 63)) w1.heap.size (.slice (some ⟨fb,0,none⟩) x.1.length fc) (.slice oa x.2.length oc):=⟨heap_alloc_new _ _⟩
   have hxB:=hx'.below bB
   have caB:=(bwB.cell (p:=⟨ab,0,none⟩) lab).trans ca
   have clB:=(bwB.cell (p:=⟨lb,0,none⟩) llb).trans cl
   have rB:(w1.alloc (.cells #[.slice (some ⟨fb,0,none⟩) x.1.length fc,.slice oa x.2.length oc] 63)).cell? ⟨fb,at_,none⟩=some (.int .i64 x.1[at_]):=by
    have:=hxB.from_.cells (g:=fb) rfl at_ (.int .i64 x.1[at_]) (by simp [nums,hat1])
    rwa [Go.WideShapes.add_plain,Nat.zero_add] at this
   have zB:(w1.alloc (.cells #[.slice (some ⟨fb,0,none⟩) x.1.length fc,.slice oa x.2.length oc] 63)).frozen? ⟨fb,at_,none⟩=false:=by
    rcases hxB.from_.2 with ⟨hv,_⟩ | ⟨g',cap,cur,hv,_,hh,_⟩
    ·cases hv
    ·simp only [Value.slice.injEq,Option.some.injEq,Addr.mk.injEq] at hv
     obtain ⟨⟨rfl,_⟩,_⟩:=hv
     simp [World.frozen?,hh]
   have hYf:w1.heap.size≠fb:=by omega
   have y0:=sY.c0
   have y1:=sY.c1
   have bws:Below wr.heap.size wr (w1.setCell ⟨fb,at_,none⟩ (.int .i64 f)):=bw1.setCell hfb1 _
   have bB2:=below1 (w1.setCell ⟨fb,at_,none⟩ (.int .i64 f)) (.cells #[.slice (some ⟨fb,0,none⟩) x.1.length fc,.slice oa x.2.length oc] 63)
   have bw2:=bws.trans (bB2.mono bws.size)
   have xP:=(hx'.put (k:=at_) f).below bB2
   have sY2:SlotX ((w1.setCell ⟨fb,at_,none⟩ (.int .i64 f)).alloc (.cells #[.slice (some ⟨fb,0,none⟩) x.1.length fc,.slice oa x.2.length oc] 63)) w1.heap.size (.slice (some ⟨fb,0,none⟩) x.1.length fc) (.slice oa x.2.length oc):=⟨by have:=heap_alloc_new (w1.setCell ⟨fb,at_,none⟩ (.int .i64 f)) (.cells #[.slice (some ⟨fb,0,none⟩) x.1.length fc,.slice oa x.2.length oc] 63);rwa [World.size_setCell] at this⟩
   have cl2:=(bw2.cell (p:=⟨lb,0,none⟩) llb).trans cl
   have z0:=sY2.c0
   have z1:=sY2.c1
   clear cx0 cx1 sc0 clB bB sY hxB
   gi_wp2_with fail
   generalize (w1.setCell ⟨fb,at_,none⟩ (.int .i64 f)).alloc (.cells #[.slice (some ⟨fb,0,none⟩) x.1.length fc,.slice oa x.2.length oc] 63)=w2 at *
   have xf:=xP.from_
   rw [List.length_set] at xf
   obtain ⟨iF,_⟩:=own_at xf rfl
   have CE:=copiesEnd_any va g lc ds (some ⟨fb,0,none⟩) fb 0 fc (x.1.set at_ f) w2 (by rw [List.length_set];exact HX1.out) hfin (by omega) (dl2.bel bw2 (Nat.le_refl _)) iF
   rw [List.length_set] at CE
   refine ⟨trivial,(callsIn_wide.2 CE).mono ?_⟩
   rintro e w3 ⟨rfl,b3⟩
   have bw3:=bw2.trans (b3.mono bw2.size)
   have hI3:=hI.below hJ bw3
   have sY3:=sY2.of (b3.block _ sY2.lt)
   have sz3:=bw3.size
   clear z0 z1 y0 y1 rB zB caB cl2 CE CX xf iF
   have z0:=sY3.c0
   have z1:=sY3.c1
   cases hE:M.ends ds (x.1.set at_ f)
   ·have hst2:M.fromP ds at_ x (n+1)=M.fromP ds at_ x n:=by rw [hstep,hE];simp
    clear hE
    gi_wp2_with fail
    refine ⟨fun _ h=>(by cases h),?_⟩
    gi_wp2_with fail
    go_roundw
    case rel=>exact ⟨n+1,C',by go_num,by omega,by rw [hst2];exact hI3⟩
    case measure=>simp [intOf];omega
   ·obtain ⟨O,hWV,hO⟩:=(WyAns.mk ⟨cs',xP.below b3⟩ bw3:WyAns wr w3 _ _ _ _).way hfq
    have hst2:M.fromP ds at_ x (n+1)=M.fromP ds at_ x n++[(x.1.set at_ f,x.2)]:=by rw [hstep,hE];simp
    obtain ⟨fn,tmps,assign,body,hy,hR⟩:=yieldAt_any (m':=8) (hY _ C' _ _ O w3 (by rw [← hst2];exact hpre) hI3.j hWV (fun k hk=>⟨fun hc=>by have:=(hI.bd k hc).1;have:=(hO k hk).1;omega,fun hd=>by have:=hDl k hd;have:=(hO k hk).1;have:=hI.fd.size;omega⟩))
    have key:∀ (J':List M.Wy→(Nat→Prop)→World→Prop) (C4:Nat→Prop) (w4:World),Fr (fun k=>¬ C' k∧¬ O k) w3 w4→Adds C' O C4 w3 w4→J' (M.fromP ds at_ x n++[(x.1.set at_ f,x.2)]) C4 w4→FromI J' C D w W (M.fromP ds at_ x (n+1)) C4 w4:=fun J' C4 w4 hf hA hj=>by
     rw [hst2]
     exact hI3.round (by omega) (fun k hd=>by have:=hDl k hd;have:=hI.fd.size;omega) (fun k hk=>⟨fun hd=>by have:=hDl k hd;have:=(hO k hk).1;have:=hI.fd.size;omega,by have:=(hO k hk).1;omega,(hO k hk).2⟩) hf hA hj
    clear hE hst2 hstep
    gi_wp2_with fail
    refine hR.mono ?_
    rintro e w4 ⟨hf4,C4,hA4,(⟨rfl,hj4⟩ | ⟨rfl,hj4⟩)⟩
    ·have hI4:=key J C4 w4 hf4 hA4 hj4
     gi_wp2_with fail
     go_roundw
     case rel=>exact ⟨n+1,C4,by go_num,by omega,hI4⟩
     case measure=>simp [intOf];omega
    ·have hI4:=key Jx C4 w4 hf4 hA4 hj4
     gi_wp2_with fail
     refine bodyPost_ret (results_none rfl _ _ _) rfl ?_
     exact ⟨⟨_,rfl⟩,hI4.fc,C4,hI4.ad,Or.inr ⟨_,hpre,hI4.j⟩⟩
  ·have hkn:¬ (n:Int) < (M.srcs ds at_).length:=by omega
   gi_wp2
   go_end0
   exact ⟨⟨_,rfl⟩,hI.fc,C',hI.ad,Or.inl (by rw [← M.fromP_all ds at_ x n (by omega)];exact hI.j)⟩
end Go.Proofs.YtjjkicffhpcngaaGreat
namespace Go.Proofs.YtjjkicffhpcngaaGreat
open Go.RowKit Go.Shelf
theorem M.nodup_lt:∀ (N:Nat) (l:List Int),l.Nodup→(∀ v∈l,0≤v∧v < N)→l.length≤N
 | 0,l,_,h=>by
  cases l with
  | nil=>exact Nat.le_refl _
  | cons v l=>have:=h v (by simp);omega
 | N+1,l,hn,h=>by
  have h1:=M.nodup_lt N (l.erase N) (hn.erase _) (fun v hv=>by
   have hm:=List.mem_of_mem_erase hv
   have hne:v≠N:=fun e=>by rw [e] at hv;exact hn.not_mem_erase hv
   have:=h v hm
   omega)
  have h2:l.length≤(l.erase (N:Int)).length+1:=by rw [List.length_erase];split<;>omega
  omega
structure WyOk (ds:List M.De) (x:M.Wy):Prop where
 len:x.1.length=ds.length
 inn:M.In ds x.1
 ord:x.2.length=3
 rows:∀ r∈x.2,r.Nodup∧∀ v∈r,0≤v∧v < ds.length
theorem WyOk.row_le {ds:List M.De} {x:M.Wy} (h:WyOk ds x):∀ r∈x.2,r.length≤ds.length:=fun r hr=>M.nodup_lt _ r (h.rows r hr).1 (h.rows r hr).2
theorem M.srcs_lt {ds:List M.De} {at_:Nat} {f:Int} (h:f∈M.srcs ds at_):f < ds.length:=by
 simp only [M.srcs,List.mem_cons] at h
 rcases h with rfl | h
 ·omega
 ·obtain ⟨i,hi,e,_⟩:=M.mem_wrs.1 h
  omega
theorem WyOk.setFrom {ds:List M.De} {x:M.Wy} (h:WyOk ds x) {at_:Nat} {f:Int} (hf:f∈M.srcs ds at_):WyOk ds (x.1.set at_ f,x.2):=by
 refine ⟨by rw [List.length_set];exact h.len,fun n hn=>?_,h.ord,h.rows⟩
 have h1:=h.inn n hn
 unfold M.valFrom at h1 ⊢
 rw [List.getElem?_eq_getElem hn] at h1 ⊢
 dsimp only at h1 ⊢
 by_cases hr:ds[n].reads=true
 ·rw [if_pos hr] at h1 ⊢
  rw [List.getD_eq_getElem?_getD] at h1 ⊢
  by_cases e:at_=n
  ·subst e
   rw [List.getElem?_set_self (by rw [h.len];exact hn)]
   exact M.srcs_lt hf
  ·rw [List.getElem?_set_ne e]
   exact h1
 ·rw [if_neg hr] at h1 ⊢
  exact h1
set_option maxRecDepth 100000 in
set_option maxHeartbeats 1000000 in
theorem from_choice {D:Nat→Prop} {w:World} {ds:List M.De} {at_ sb ab lb:Nat} (hs:∃ sa sg sc,w.cell? ⟨sb,0,none⟩=some (.slice sa (M.srcs ds at_).length sc)∧IntS w sa sg 0 (M.srcs ds at_)∧D sg)
  (ha:w.cell? ⟨ab,0,none⟩=some (.int .i64 at_)) (hl:∃ va g c,w.cell? ⟨lb,0,none⟩=some (.slice va ds.length c)∧DeS w va g ds∧(0 < ds.length→D g)) (ds1:D sb) (da:D ab) (dl:D lb) (hDl:∀ k,D k→k < w.heap.size) (hat:at_ < ds.length) (hdl:ds.length≤1000) :
  ChoiceC (WayV (WyOk ds)) D 149 #[.pointer (some ⟨sb,0,none⟩),.pointer (some ⟨ab,0,none⟩),.pointer (some ⟨lb,0,none⟩)] (M.chF ds at_) w:=by
 refine ⟨enters_of Tryz.func149 (by kernel_rfl) rfl,fun x vs O W hW hV hO=>?_⟩
 obtain ⟨⟨fv,ov,cs,rfl,hx,hOk⟩,hq⟩:=hV
 have hmf:∀ (fn:Fn) (first cap:Array Value) (w:World),(Instr.makeFunc fn first cap).run Tryz.prog w=.ok (.func fn first cap) w:=fun _ _ _ _=>rfl
 obtain ⟨a1,c1,rfl⟩:=own_slx hx.from_
 obtain ⟨a2,c2,rfl⟩:=own_slx hx.ord
 have b1:=below1 W (.cells #[.slice a1 x.1.length c1,.slice a2 x.2.length c2] 63)
 have sX:SlotX (W.alloc (.cells #[.slice a1 x.1.length c1,.slice a2 x.2.length c2] 63)) W.heap.size (.slice a1 x.1.length c1) (.slice a2 x.2.length c2):=⟨heap_alloc_new _ _⟩
 have sz:(W.alloc (.cells #[.slice a1 x.1.length c1,.slice a2 x.2.length c2] 63)).heap.size=W.heap.size+1:=by simp
 have hF:FromD (fun k=>D k∨O k∨(W.heap.size≤k∧k < (W.alloc (.cells #[.slice a1 x.1.length c1,.slice a2 x.2.length c2] 63)).heap.size)) (W.alloc (.cells #[.slice a1 x.1.length c1,.slice a2 x.2.length c2] 63)) (WyOk ds) ds at_ x sb W.heap.size ab lb:=by
  have hf:Fr D w (W.alloc (.cells #[.slice a1 x.1.length c1,.slice a2 x.2.length c2] 63)):=hW.trans (.of_below b1)
  obtain ⟨sa,sg,sc,s1,s2,s3⟩:=hs
  obtain ⟨va,g,c,l1,l2,l3⟩:=hl
  exact ⟨⟨sa,sg,sc,hf.cell ds1 s1,s2.fr hf (fun _=>s3),Or.inl s3⟩,hf.cell da ha,⟨va,g,c,hf.cell dl l1,DeS.fr l2 hf l3,fun h=>Or.inl (l3 h)⟩,⟨_,_,cs,sX.c0,sX.c1,hx.below b1,fun k hk=>Or.inr (Or.inl ((hOk k).2 hk))⟩,Or.inl ds1,Or.inr (Or.inr ⟨Nat.le_refl _,by omega⟩),Or.inl da,Or.inl dl⟩
 have hseq:=fun n=>from_seq (n:=n) hF (fun k hk=>by
  rcases hk with hk | hk | hk
  ·have:=hDl k hk;have:=hW.size;omega
  ·have:=(hx.blk_lt ((hOk k).1 hk)).2;omega
  ·exact hk.2) hat hdl hq.len (by have:=hq.ord;omega) (fun r hr=>by have:=hq.row_le r hr;omega) (fun f hf=>(hq.setFrom hf).inn) (fun f hf=>hq.setFrom hf)
 go_enter Tryz.func149,Tryz.ntmps149
 go_wp2_with fail
 go_ret
 exact ⟨_,_,rfl,enters_of Tryz.func150 (by kernel_rfl) rfl,b1,hseq⟩
end Go.Proofs.YtjjkicffhpcngaaGreat
namespace Go.Proofs.YtjjkicffhpcngaaGreat
open Go.RowKit Go.Shelf
structure CfAns (w w':World) (ds:List M.De) (at_:Nat) (va:Option Addr) (c A:Nat):Prop where
 bel:Below w.heap.size w w'
 l:w'.cell? ⟨w.heap.size,0,none⟩=some (.slice va ds.length c)
 a:w'.cell? ⟨w.heap.size+1,0,none⟩=some (.int .i64 at_)
 ge:w.heap.size≤A
 s:∃ sa sg sc,w'.cell? ⟨A,0,none⟩=some (.slice sa (M.srcs ds at_).length sc)∧IntS w' sa sg 0 (M.srcs ds at_)∧w.heap.size≤sg∧sg < w'.heap.size
set_option maxHeartbeats 1000000 in
set_option maxRecDepth 100000 in
set_option linter.unusedSimpArgs false in
theorem chooseFrom_any (va:Option Addr) (g c:Nat) (ds:List M.De) (at_:Nat) (w:World) (hat:at_ < ds.length) (hdl:ds.length≤1000) (h:DeS w va g ds) :
  Calls Tryz.prog 116 #[.slice va ds.length c,.int .i64 at_] w fun e w'=>∃ A,e=.returned (.func (.func 149) #[] #[.pointer (some ⟨A,0,none⟩),.pointer (some ⟨w.heap.size+1,0,none⟩),.pointer (some ⟨w.heap.size,0,none⟩)])∧CfAns w w' ds at_ va c A:=by
 obtain ⟨i0,hi,hz0,hz1,hz2⟩:=info_parts Tryz.infoInt
 obtain rfl:=h.addr (by omega)
 have b2:=below2 w (.cells #[.slice (some ⟨g,0,none⟩) ds.length c] 56) (.cells #[.int .i64 at_] 3)
 have k0:((w.alloc (.cells #[.slice (some ⟨g,0,none⟩) ds.length c] 56)).alloc (.cells #[.int .i64 at_] 3)).cell? ⟨w.heap.size,0,none⟩=some (.slice (some ⟨g,0,none⟩) ds.length c):=by simp [go_sem]
 have k1:((w.alloc (.cells #[.slice (some ⟨g,0,none⟩) ds.length c] 56)).alloc (.cells #[.int .i64 at_] 3)).cell? ⟨w.heap.size+1,0,none⟩=some (.int .i64 at_):=by simp [go_sem]
 have sz:((w.alloc (.cells #[.slice (some ⟨g,0,none⟩) ds.length c] 56)).alloc (.cells #[.int .i64 at_] 3)).heap.size=w.heap.size+1+1:=by simp
 go_enter Tryz.func116,Tryz.ntmps116
 go_wp2_with fail
 generalize (w.alloc (.cells #[.slice (some ⟨g,0,none⟩) ds.length c] 56)).alloc (.cells #[.int .i64 at_] 3)=W0 at *
 have hd0:=h.bel b2 (Nat.le_refl _)
 have hx:=DeS.at hd0 hat
 have hsr:M.srcs ds at_=-1::M.wrs (ds[at_]).d.p 0 ds:=by simp [M.srcs,List.getElem?_eq_getElem hat]
 have hwl:=M.wrs_len (ds[at_]).d.p ds 0
 obtain ⟨_,_,_,_,c4,_,_⟩:=hx
 generalize ds[at_]=x at *
 have lg:g < W0.heap.size:=World.block_lt_of_cell? _ _ c4
 have hat':(at_:Int) < ds.length:=by omega
 have hat0:¬ (at_:Int) < 0:=by omega
 have HS:Hid (∀ W:World,Below W0.heap.size W0 W→W.cell? ⟨w.heap.size,0,none⟩=some (.slice (some ⟨g,0,none⟩) ds.length c)∧W.cell? ⟨w.heap.size+1,0,none⟩=some (.int .i64 at_)∧W.cell? ⟨g,at_ * 7+4,none⟩=some (.int .i64 x.d.p)):=fun W hb=>⟨(hb.cell (p:=⟨w.heap.size,0,none⟩) (by show w.heap.size < _;omega)).trans k0,(hb.cell (p:=⟨w.heap.size+1,0,none⟩) (by show w.heap.size+1 < _;omega)).trans k1,(hb.cell (p:=⟨g,at_ * 7+4,none⟩) lg).trans c4⟩
 have HC:Hid (∀ W:World,Below W0.heap.size W0 W→Calls Tryz.prog 117 #[.slice (some ⟨g,0,none⟩) ds.length c,.int .i64 x.d.p] W fun e w'=>∃ v,e=.returned v∧w'.ownsRow W.heap.size 3 1 v (M.wrs x.d.p 0 ds).length (nums (M.wrs x.d.p 0 ds))∧Below W.heap.size W w'):=fun W hb=>writers_any (some ⟨g,0,none⟩) g c ds x.d.p W (by omega) (hd0.bel hb (Nat.le_refl _))
 have HF:Hid (∀ (W:World) (A:Nat) (v:Value),Below W0.heap.size W0 W→Slot1 W A (.slice none 0 0)→w.heap.size+1+1≤A→W.ownsRow (w.heap.size+1+1) 3 1 v (1+(M.wrs x.d.p 0 ds).length) ([.int .i64 (-1)]++nums (M.wrs x.d.p 0 ds))→v.ownBlock≠some A→CfAns w (W.setCell ⟨A,0,none⟩ v) ds at_ (some ⟨g,0,none⟩) c A):=fun W A v hb hs hA ho hne=>by
  obtain ⟨q1,q2,_⟩:=HS.out W hb
  have bw:=b2.trans (hb.mono (by omega))
  have hl:1+(M.wrs x.d.p 0 ds).length=(M.srcs ds at_).length:=by rw [hsr];simp;omega
  have hn:([.int .i64 (-1)]++nums (M.wrs x.d.p 0 ds):List Value)=nums (M.srcs ds at_):=by rw [hsr];simp [nums]
  rw [hl,hn] at ho
  have hp:0 < (M.srcs ds at_).length:=by omega
  obtain ⟨g',cap,rfl,hg1,hg2⟩:=ho.form hp
  obtain ⟨ii,_⟩:=own_at ho rfl
  have hgA:A≠g':=fun e=>hne (by rw [e];rfl)
  refine ⟨bw.setCell (by show w.heap.size≤A;omega) _,?_,?_,by omega,some ⟨g',0,none⟩,g',cap,(hs.set _).c,ii.far (fun _ e=>hgA e.symm),by omega,by rw [World.size_setCell];exact hg2⟩
  ·rw [World.cell?_setCell_other _ _ _ _ (fun e=>by have:=congrArg Addr.block e;simp at this;omega)];exact q1
  ·rw [World.cell?_setCell_other _ _ _ _ (fun e=>by have:=congrArg Addr.block e;simp at this;omega)];exact q2
 clear k0 k1 c4
 refine wp_region_held_drew (S:=fun w'=>Below W0.heap.size W0 w') (by kernel_rfl) (Below.refl _ _).drew (fun hH=>?_)
 refine takeD 1 (some 7) (.slice (some ⟨g,0,none⟩) ds.length c) hH rfl rfl (by kernel_rfl) (by kernel_rfl) (by kernel_rfl) (fun _ _ _ h=>h) (Or.inl ⟨by rfl,by intro w' hSw;obtain ⟨q1,q2,q3⟩:=HS.out w' hSw;go_simp⟩) ?_
 simp only [Act.put,List.setIfInBounds_toArray,List.set_cons_zero,List.set_cons_succ]
 refine takeD 2 (some 8) (.slice (some ⟨g,0,none⟩) ds.length c) hH rfl rfl (by kernel_rfl) (by kernel_rfl) (by kernel_rfl) (fun _ _ _ h=>h) (Or.inl ⟨by rfl,by intro w' hSw;obtain ⟨q1,q2,q3⟩:=HS.out w' hSw;go_simp⟩) ?_
 simp only [Act.put,List.setIfInBounds_toArray,List.set_cons_zero,List.set_cons_succ]
 refine takeD 3 (some 9) (.int .i64 at_) hH rfl rfl (by kernel_rfl) (by kernel_rfl) (by kernel_rfl) (fun _ _ _ h=>h) (Or.inl ⟨by rfl,by intro w' hSw;obtain ⟨q1,q2,q3⟩:=HS.out w' hSw;go_simp⟩) ?_
 simp only [Act.put,List.setIfInBounds_toArray,List.set_cons_zero,List.set_cons_succ]
 refine takeD 4 (some 10) (.pointer (some ⟨g,at_ * 7,none⟩)) hH rfl rfl (by kernel_rfl) (by kernel_rfl) (by kernel_rfl) (fun _ _ _ h=>h) (Or.inl ⟨by rfl,by intro w' hSw;go_simp⟩) ?_
 simp only [Act.put,List.setIfInBounds_toArray,List.set_cons_zero,List.set_cons_succ]
 refine takeD 5 (some 11) (.pointer (some ⟨g,at_ * 7+3,none⟩)) hH rfl rfl (by kernel_rfl) (by kernel_rfl) (by kernel_rfl) (fun _ _ _ h=>h) (Or.inl ⟨by rfl,by intro w' hSw;go_simp⟩) ?_
 simp only [Act.put,List.setIfInBounds_toArray,List.set_cons_zero,List.set_cons_succ]
 refine takeD 6 (some 12) (.pointer (some ⟨g,at_ * 7+4,none⟩)) hH rfl rfl (by kernel_rfl) (by kernel_rfl) (by kernel_rfl) (fun _ _ _ h=>h) (Or.inl ⟨by rfl,by intro w' hSw;go_simp⟩) ?_
 simp only [Act.put,List.setIfInBounds_toArray,List.set_cons_zero,List.set_cons_succ]
 refine takeD 7 (some 13) (.int .i64 x.d.p) hH rfl rfl (by kernel_rfl) (by kernel_rfl) (by kernel_rfl) (fun _ _ _ h=>h) (Or.inl ⟨by rfl,by intro w' hSw;obtain ⟨q1,q2,q3⟩:=HS.out w' hSw;go_simp⟩) ?_
 simp only [Act.put,List.setIfInBounds_toArray,List.set_cons_zero,List.set_cons_succ]
 have bD:Below W0.heap.size W0 W0.drew:=hH
 generalize W0.drew=W at *
 refine wpAnyH_ready (rs:=[0,8,10]) (by kernel_rfl) (by simp) ?_
 refine AllReadyH.cons rfl (fun K' hK=>?_) (AllReadyH.cons rfl (fun K' hK=>?_) (AllReadyH.cons rfl (fun K' hK=>?_) AllReadyH.nil))
 ·rw [if_pos (by rfl)]
  go_simp
  have bN:=below1 W (.cells #[.int .i64 (-1)] 3)
  have bE:=bD.trans (bN.mono bD.size)
  refine hK.out _ _ bE (fun _=>?_)
  clear hK K'
  have ls:=bD.size
  have oB:(W.alloc (.cells #[.int .i64 (-1)] 3)).ownsRow (w.heap.size+1+1) 3 1 (.slice (some ⟨W.heap.size,0,none⟩) 1 1) 1 [.int .i64 (-1)]:=⟨rfl,Or.inr ⟨W.heap.size,1,#[.int .i64 (-1)],rfl,by omega,heap_alloc_new _ _,by omega,by unfold maxLen;omega,rfl,rfl⟩⟩
  generalize W.alloc (.cells #[.int .i64 (-1)] 3)=W1 at *
  generalize W.heap.size=gB at *
  clear bD bN
  have bD:=bE
  clear bE
  clear ls
  refine wpAnyH_ready (rs:=[8,10]) (by kernel_rfl) (by simp) ?_
  refine AllReadyH.cons rfl (fun K' hK=>?_) (AllReadyH.cons rfl (fun K' hK=>?_) AllReadyH.nil)
  ·refine step_goV (by rfl) (some 14) rfl 117 #[.tmp 7,.tmp 13] _ rfl #[.slice (some ⟨g,0,none⟩) ds.length c,.int .i64 x.d.p] (by simp [Act.eval]) (fun _ _=>rfl) (HC.out W1 bD) ?_
   rintro e W2 ⟨vw,rfl,oW0,bN⟩
   obtain ⟨aw,cw,rfl⟩:=own_slx oW0
   refine ⟨_,rfl,?_⟩
   simp only [Act.put,List.setIfInBounds_toArray,List.set_cons_zero,List.set_cons_succ]
   have bE:=bD.trans (bN.mono bD.size)
   refine hK.out _ _ bE (fun _=>?_)
   clear hK K'
   have ls:=bD.size
   have oW:=own_mono oW0 (show w.heap.size+1+1≤_ by omega)
   clear oW0
   have oB2:=ownsRow_below oB bN
   clear oB
   have oB:=oB2
   clear oB2
   clear bD bN ls
   have bD:=bE
   clear bE
   refine wpAnyH_ready (rs:=[9,10]) (by kernel_rfl) (by simp) ?_
   refine AllReadyH.cons rfl (fun K' hK=>?_) (AllReadyH.cons rfl (fun K' hK=>?_) AllReadyH.nil)
   ·obtain ⟨aw2,bw,cw2,ew,iw,hcw⟩:=own_ints oW
    simp only [Value.slice.injEq] at ew
    obtain ⟨rfl,_,rfl⟩:=ew
    have ls:=bD.size
    refine step_append_ints (by rfl) (.tmp 6) (.tmp 14) 47 (by rfl) (w.heap.size+1+1) 3 i0 Tryz.underlying47 hi hz0 hz1 hz2 (.slice (some ⟨gB,0,none⟩) 1 1) 1 [.int .i64 (-1)] (by rfl) oB (by omega) aw bw 0 cw (M.wrs x.d.p 0 ds) (by rfl) iw (by omega) hcw.1 ?_
    intro v5 W3 oP hg5 hat5
    simp only [Act.put,List.setIfInBounds_toArray,List.set_cons_zero,List.set_cons_succ]
    have gge:=(oB.lt gB rfl).1
    have bE:Below W0.heap.size W0 W3:=below_grown bD hg5 (fun k hk=>by have:gB=k:=Option.some.inj hk;omega) (by omega)
    refine hK.out _ _ bE (fun _=>?_)
    clear hK K'
    obtain ⟨av,cv,hv5⟩:=own_slx oP
    subst hv5
    obtain ⟨nv,hnv⟩:∃ nv,1+(M.wrs x.d.p 0 ds).length=nv:=⟨_,rfl⟩
    rw [hnv] at oP ⊢
    clear hg5 hat5 oB oW iw hcw bD ls gge
    have bD:=bE
    clear bE
    refine wpAnyH_ready (rs:=[10]) (by kernel_rfl) (by simp) ?_
    refine AllReadyH.cons rfl (fun K' hK=>?_) AllReadyH.nil
    ·rw [if_pos (by rfl)]
     go_simp
     have bN:=below1 W3 (.cells #[.slice none 0 0] 47)
     have bE:=bD.trans (bN.mono bD.size)
     refine hK.out _ _ bE (fun _=>?_)
     clear hK K'
     have ls:=bD.size
     have sA2:=Slot1.new W3 (.slice none 0 0) 47
     have nA:(Value.slice av nv cv).ownBlock≠some W3.heap.size:=fun e=>by have:=(oP.lt _ e).2;omega
     have oP2:=ownsRow_below oP bN
     generalize W3.alloc (.cells #[.slice none 0 0] 47)=W4 at *
     generalize W3.heap.size=A at *
     clear bD bN
     have bD:=bE
     clear bE
     have sA:=sA2
     clear sA2
     clear oP
     have oP:=oP2
     clear oP2
     have geA:w.heap.size+1+1≤A:=by omega
     clear ls
     refine wpAnyH_ready (rs:=[11]) (by kernel_rfl) (by simp) ?_
     refine AllReadyH.cons rfl (fun K' hK=>?_) AllReadyH.nil
     ·have sc:=sA.c
      have sz1:=sA.fz
      have fin:=HF.out W4 A _ bD sA geA (by rw [hnv];exact oP) nA
      rw [if_pos (by rfl)]
      go_simp
      refine hK.out _ _ (bD.setCell (by show W0.heap.size≤A;omega) _) (fun _=>?_)
      clear hK K'
      refine wpAnyH_done (by kernel_rfl) ?_ _
      clear sc sz1
      go_wp2_with fail
      go_ret
      exact ⟨_,rfl,fin⟩
   ·rw [if_pos (by rfl)]
    go_simp
    have bN:=below1 W2 (.cells #[.slice none 0 0] 47)
    have bE:=bD.trans (bN.mono bD.size)
    refine hK.out _ _ bE (fun _=>?_)
    clear hK K'
    have ls:=bD.size
    have sA2:=Slot1.new W2 (.slice none 0 0) 47
    have neAB:W2.heap.size≠gB:=by have:=(oB.lt gB rfl).2;omega
    have oB2:=ownsRow_below oB bN
    have oW2:=ownsRow_below oW bN
    generalize W2.alloc (.cells #[.slice none 0 0] 47)=W3 at *
    generalize W2.heap.size=A at *
    clear bD bN
    have bD:=bE
    clear bE
    have sA:=sA2
    clear sA2
    clear oB
    have oB:=oB2
    clear oB2
    clear oW
    have oW:=oW2
    clear oW2
    have geA:w.heap.size+1+1≤A:=by omega
    clear ls
    refine wpAnyH_ready (rs:=[9]) (by kernel_rfl) (by simp) ?_
    refine AllReadyH.cons rfl (fun K' hK=>?_) AllReadyH.nil
    ·obtain ⟨aw2,bw,cw2,ew,iw,hcw⟩:=own_ints oW
     simp only [Value.slice.injEq] at ew
     obtain ⟨rfl,_,rfl⟩:=ew
     have ls:=bD.size
     refine step_append_ints (by rfl) (.tmp 6) (.tmp 14) 47 (by rfl) (w.heap.size+1+1) 3 i0 Tryz.underlying47 hi hz0 hz1 hz2 (.slice (some ⟨gB,0,none⟩) 1 1) 1 [.int .i64 (-1)] (by rfl) oB (by omega) aw bw 0 cw (M.wrs x.d.p 0 ds) (by rfl) iw (by omega) hcw.1 ?_
     intro v5 W4 oP hg5 hat5
     simp only [Act.put,List.setIfInBounds_toArray,List.set_cons_zero,List.set_cons_succ]
     have gge:=(oB.lt gB rfl).1
     have bE:Below W0.heap.size W0 W4:=below_grown bD hg5 (fun k hk=>by have:gB=k:=Option.some.inj hk;omega) (by omega)
     refine hK.out _ _ bE (fun _=>?_)
     clear hK K'
     obtain ⟨av,cv,hv5⟩:=own_slx oP
     have lA:=sA.lt
     have nA:v5.ownBlock≠some A:=fun e=>by
      rcases hat5 with e5 | e5
      ·rw [e5] at e;have:gB=A:=Option.some.inj e;omega
      ·rw [e5] at e;have:=Option.some.inj e;omega
     have sA2:=sA.apart hg5 (fun e=>by have:gB=A:=Option.some.inj e;omega)
     clear sA lA
     have sA:=sA2
     clear sA2
     subst hv5
     obtain ⟨nv,hnv⟩:∃ nv,1+(M.wrs x.d.p 0 ds).length=nv:=⟨_,rfl⟩
     rw [hnv] at oP ⊢
     rw [hnv] at nA
     clear hg5 hat5 oB oW iw hcw bD ls gge
     have bD:=bE
     clear bE
     refine wpAnyH_ready (rs:=[11]) (by kernel_rfl) (by simp) ?_
     refine AllReadyH.cons rfl (fun K' hK=>?_) AllReadyH.nil
     ·have sc:=sA.c
      have sz1:=sA.fz
      have fin:=HF.out W4 A _ bD sA geA (by rw [hnv];exact oP) nA
      rw [if_pos (by rfl)]
      go_simp
      refine hK.out _ _ (bD.setCell (by show W0.heap.size≤A;omega) _) (fun _=>?_)
      clear hK K'
      refine wpAnyH_done (by kernel_rfl) ?_ _
      clear sc sz1
      go_wp2_with fail
      go_ret
      exact ⟨_,rfl,fin⟩
  ·rw [if_pos (by rfl)]
   go_simp
   have bN:=below1 W1 (.cells #[.slice none 0 0] 47)
   have bE:=bD.trans (bN.mono bD.size)
   refine hK.out _ _ bE (fun _=>?_)
   clear hK K'
   have ls:=bD.size
   have sA2:=Slot1.new W1 (.slice none 0 0) 47
   have neAB:W1.heap.size≠gB:=by have:=(oB.lt gB rfl).2;omega
   have oB2:=ownsRow_below oB bN
   generalize W1.alloc (.cells #[.slice none 0 0] 47)=W2 at *
   generalize W1.heap.size=A at *
   clear bD bN
   have bD:=bE
   clear bE
   have sA:=sA2
   clear sA2
   clear oB
   have oB:=oB2
   clear oB2
   have geA:w.heap.size+1+1≤A:=by omega
   clear ls
   refine wpAnyH_ready (rs:=[8]) (by kernel_rfl) (by simp) ?_
   refine AllReadyH.cons rfl (fun K' hK=>?_) AllReadyH.nil
   ·refine step_goV (by rfl) (some 14) rfl 117 #[.tmp 7,.tmp 13] _ rfl #[.slice (some ⟨g,0,none⟩) ds.length c,.int .i64 x.d.p] (by simp [Act.eval]) (fun _ _=>rfl) (HC.out W2 bD) ?_
    rintro e W3 ⟨vw,rfl,oW0,bN⟩
    obtain ⟨aw,cw,rfl⟩:=own_slx oW0
    refine ⟨_,rfl,?_⟩
    simp only [Act.put,List.setIfInBounds_toArray,List.set_cons_zero,List.set_cons_succ]
    have bE:=bD.trans (bN.mono bD.size)
    refine hK.out _ _ bE (fun _=>?_)
    clear hK K'
    have ls:=bD.size
    have oW:=own_mono oW0 (show w.heap.size+1+1≤_ by omega)
    clear oW0
    have oB2:=ownsRow_below oB bN
    clear oB
    have oB:=oB2
    clear oB2
    have sA2:=sA.bl' bN
    clear sA
    have sA:=sA2
    clear sA2
    clear bD bN ls
    have bD:=bE
    clear bE
    refine wpAnyH_ready (rs:=[9]) (by kernel_rfl) (by simp) ?_
    refine AllReadyH.cons rfl (fun K' hK=>?_) AllReadyH.nil
    ·obtain ⟨aw2,bw,cw2,ew,iw,hcw⟩:=own_ints oW
     simp only [Value.slice.injEq] at ew
     obtain ⟨rfl,_,rfl⟩:=ew
     have ls:=bD.size
     refine step_append_ints (by rfl) (.tmp 6) (.tmp 14) 47 (by rfl) (w.heap.size+1+1) 3 i0 Tryz.underlying47 hi hz0 hz1 hz2 (.slice (some ⟨gB,0,none⟩) 1 1) 1 [.int .i64 (-1)] (by rfl) oB (by omega) aw bw 0 cw (M.wrs x.d.p 0 ds) (by rfl) iw (by omega) hcw.1 ?_
     intro v5 W4 oP hg5 hat5
     simp only [Act.put,List.setIfInBounds_toArray,List.set_cons_zero,List.set_cons_succ]
     have gge:=(oB.lt gB rfl).1
     have bE:Below W0.heap.size W0 W4:=below_grown bD hg5 (fun k hk=>by have:gB=k:=Option.some.inj hk;omega) (by omega)
     refine hK.out _ _ bE (fun _=>?_)
     clear hK K'
     obtain ⟨av,cv,hv5⟩:=own_slx oP
     have lA:=sA.lt
     have nA:v5.ownBlock≠some A:=fun e=>by
      rcases hat5 with e5 | e5
      ·rw [e5] at e;have:gB=A:=Option.some.inj e;omega
      ·rw [e5] at e;have:=Option.some.inj e;omega
     have sA2:=sA.apart hg5 (fun e=>by have:gB=A:=Option.some.inj e;omega)
     clear sA lA
     have sA:=sA2
     clear sA2
     subst hv5
     obtain ⟨nv,hnv⟩:∃ nv,1+(M.wrs x.d.p 0 ds).length=nv:=⟨_,rfl⟩
     rw [hnv] at oP ⊢
     rw [hnv] at nA
     clear hg5 hat5 oB oW iw hcw bD ls gge
     have bD:=bE
     clear bE
     refine wpAnyH_ready (rs:=[11]) (by kernel_rfl) (by simp) ?_
     refine AllReadyH.cons rfl (fun K' hK=>?_) AllReadyH.nil
     ·have sc:=sA.c
      have sz1:=sA.fz
      have fin:=HF.out W4 A _ bD sA geA (by rw [hnv];exact oP) nA
      rw [if_pos (by rfl)]
      go_simp
      refine hK.out _ _ (bD.setCell (by show W0.heap.size≤A;omega) _) (fun _=>?_)
      clear hK K'
      refine wpAnyH_done (by kernel_rfl) ?_ _
      clear sc sz1
      go_wp2_with fail
      go_ret
      exact ⟨_,rfl,fin⟩
 ·refine step_goV (by rfl) (some 14) rfl 117 #[.tmp 7,.tmp 13] _ rfl #[.slice (some ⟨g,0,none⟩) ds.length c,.int .i64 x.d.p] (by simp [Act.eval]) (fun _ _=>rfl) (HC.out W bD) ?_
  rintro e W1 ⟨vw,rfl,oW0,bN⟩
  obtain ⟨aw,cw,rfl⟩:=own_slx oW0
  refine ⟨_,rfl,?_⟩
  simp only [Act.put,List.setIfInBounds_toArray,List.set_cons_zero,List.set_cons_succ]
  have bE:=bD.trans (bN.mono bD.size)
  refine hK.out _ _ bE (fun _=>?_)
  clear hK K'
  have ls:=bD.size
  have oW:=own_mono oW0 (show w.heap.size+1+1≤_ by omega)
  clear oW0
  clear bD bN ls
  have bD:=bE
  clear bE
  refine wpAnyH_ready (rs:=[0,10]) (by kernel_rfl) (by simp) ?_
  refine AllReadyH.cons rfl (fun K' hK=>?_) (AllReadyH.cons rfl (fun K' hK=>?_) AllReadyH.nil)
  ·rw [if_pos (by rfl)]
   go_simp
   have bN:=below1 W1 (.cells #[.int .i64 (-1)] 3)
   have bE:=bD.trans (bN.mono bD.size)
   refine hK.out _ _ bE (fun _=>?_)
   clear hK K'
   have ls:=bD.size
   have oB:(W1.alloc (.cells #[.int .i64 (-1)] 3)).ownsRow (w.heap.size+1+1) 3 1 (.slice (some ⟨W1.heap.size,0,none⟩) 1 1) 1 [.int .i64 (-1)]:=⟨rfl,Or.inr ⟨W1.heap.size,1,#[.int .i64 (-1)],rfl,by omega,heap_alloc_new _ _,by omega,by unfold maxLen;omega,rfl,rfl⟩⟩
   have oW2:=ownsRow_below oW bN
   generalize W1.alloc (.cells #[.int .i64 (-1)] 3)=W2 at *
   generalize W1.heap.size=gB at *
   clear bD bN
   have bD:=bE
   clear bE
   clear oW
   have oW:=oW2
   clear oW2
   clear ls
   refine wpAnyH_ready (rs:=[9,10]) (by kernel_rfl) (by simp) ?_
   refine AllReadyH.cons rfl (fun K' hK=>?_) (AllReadyH.cons rfl (fun K' hK=>?_) AllReadyH.nil)
   ·obtain ⟨aw2,bw,cw2,ew,iw,hcw⟩:=own_ints oW
    simp only [Value.slice.injEq] at ew
    obtain ⟨rfl,_,rfl⟩:=ew
    have ls:=bD.size
    refine step_append_ints (by rfl) (.tmp 6) (.tmp 14) 47 (by rfl) (w.heap.size+1+1) 3 i0 Tryz.underlying47 hi hz0 hz1 hz2 (.slice (some ⟨gB,0,none⟩) 1 1) 1 [.int .i64 (-1)] (by rfl) oB (by omega) aw bw 0 cw (M.wrs x.d.p 0 ds) (by rfl) iw (by omega) hcw.1 ?_
    intro v5 W3 oP hg5 hat5
    simp only [Act.put,List.setIfInBounds_toArray,List.set_cons_zero,List.set_cons_succ]
    have gge:=(oB.lt gB rfl).1
    have bE:Below W0.heap.size W0 W3:=below_grown bD hg5 (fun k hk=>by have:gB=k:=Option.some.inj hk;omega) (by omega)
    refine hK.out _ _ bE (fun _=>?_)
    clear hK K'
    obtain ⟨av,cv,hv5⟩:=own_slx oP
    subst hv5
    obtain ⟨nv,hnv⟩:∃ nv,1+(M.wrs x.d.p 0 ds).length=nv:=⟨_,rfl⟩
    rw [hnv] at oP ⊢
    clear hg5 hat5 oB oW iw hcw bD ls gge
    have bD:=bE
    clear bE
    refine wpAnyH_ready (rs:=[10]) (by kernel_rfl) (by simp) ?_
    refine AllReadyH.cons rfl (fun K' hK=>?_) AllReadyH.nil
    ·rw [if_pos (by rfl)]
     go_simp
     have bN:=below1 W3 (.cells #[.slice none 0 0] 47)
     have bE:=bD.trans (bN.mono bD.size)
     refine hK.out _ _ bE (fun _=>?_)
     clear hK K'
     have ls:=bD.size
     have sA2:=Slot1.new W3 (.slice none 0 0) 47
     have nA:(Value.slice av nv cv).ownBlock≠some W3.heap.size:=fun e=>by have:=(oP.lt _ e).2;omega
     have oP2:=ownsRow_below oP bN
     generalize W3.alloc (.cells #[.slice none 0 0] 47)=W4 at *
     generalize W3.heap.size=A at *
     clear bD bN
     have bD:=bE
     clear bE
     have sA:=sA2
     clear sA2
     clear oP
     have oP:=oP2
     clear oP2
     have geA:w.heap.size+1+1≤A:=by omega
     clear ls
     refine wpAnyH_ready (rs:=[11]) (by kernel_rfl) (by simp) ?_
     refine AllReadyH.cons rfl (fun K' hK=>?_) AllReadyH.nil
     ·have sc:=sA.c
      have sz1:=sA.fz
      have fin:=HF.out W4 A _ bD sA geA (by rw [hnv];exact oP) nA
      rw [if_pos (by rfl)]
      go_simp
      refine hK.out _ _ (bD.setCell (by show W0.heap.size≤A;omega) _) (fun _=>?_)
      clear hK K'
      refine wpAnyH_done (by kernel_rfl) ?_ _
      clear sc sz1
      go_wp2_with fail
      go_ret
      exact ⟨_,rfl,fin⟩
   ·rw [if_pos (by rfl)]
    go_simp
    have bN:=below1 W2 (.cells #[.slice none 0 0] 47)
    have bE:=bD.trans (bN.mono bD.size)
    refine hK.out _ _ bE (fun _=>?_)
    clear hK K'
    have ls:=bD.size
    have sA2:=Slot1.new W2 (.slice none 0 0) 47
    have neAB:W2.heap.size≠gB:=by have:=(oB.lt gB rfl).2;omega
    have oB2:=ownsRow_below oB bN
    have oW2:=ownsRow_below oW bN
    generalize W2.alloc (.cells #[.slice none 0 0] 47)=W3 at *
    generalize W2.heap.size=A at *
    clear bD bN
    have bD:=bE
    clear bE
    have sA:=sA2
    clear sA2
    clear oB
    have oB:=oB2
    clear oB2
    clear oW
    have oW:=oW2
    clear oW2
    have geA:w.heap.size+1+1≤A:=by omega
    clear ls
    refine wpAnyH_ready (rs:=[9]) (by kernel_rfl) (by simp) ?_
    refine AllReadyH.cons rfl (fun K' hK=>?_) AllReadyH.nil
    ·obtain ⟨aw2,bw,cw2,ew,iw,hcw⟩:=own_ints oW
     simp only [Value.slice.injEq] at ew
     obtain ⟨rfl,_,rfl⟩:=ew
     have ls:=bD.size
     refine step_append_ints (by rfl) (.tmp 6) (.tmp 14) 47 (by rfl) (w.heap.size+1+1) 3 i0 Tryz.underlying47 hi hz0 hz1 hz2 (.slice (some ⟨gB,0,none⟩) 1 1) 1 [.int .i64 (-1)] (by rfl) oB (by omega) aw bw 0 cw (M.wrs x.d.p 0 ds) (by rfl) iw (by omega) hcw.1 ?_
     intro v5 W4 oP hg5 hat5
     simp only [Act.put,List.setIfInBounds_toArray,List.set_cons_zero,List.set_cons_succ]
     have gge:=(oB.lt gB rfl).1
     have bE:Below W0.heap.size W0 W4:=below_grown bD hg5 (fun k hk=>by have:gB=k:=Option.some.inj hk;omega) (by omega)
     refine hK.out _ _ bE (fun _=>?_)
     clear hK K'
     obtain ⟨av,cv,hv5⟩:=own_slx oP
     have lA:=sA.lt
     have nA:v5.ownBlock≠some A:=fun e=>by
      rcases hat5 with e5 | e5
      ·rw [e5] at e;have:gB=A:=Option.some.inj e;omega
      ·rw [e5] at e;have:=Option.some.inj e;omega
     have sA2:=sA.apart hg5 (fun e=>by have:gB=A:=Option.some.inj e;omega)
     clear sA lA
     have sA:=sA2
     clear sA2
     subst hv5
     obtain ⟨nv,hnv⟩:∃ nv,1+(M.wrs x.d.p 0 ds).length=nv:=⟨_,rfl⟩
     rw [hnv] at oP ⊢
     rw [hnv] at nA
     clear hg5 hat5 oB oW iw hcw bD ls gge
     have bD:=bE
     clear bE
     refine wpAnyH_ready (rs:=[11]) (by kernel_rfl) (by simp) ?_
     refine AllReadyH.cons rfl (fun K' hK=>?_) AllReadyH.nil
     ·have sc:=sA.c
      have sz1:=sA.fz
      have fin:=HF.out W4 A _ bD sA geA (by rw [hnv];exact oP) nA
      rw [if_pos (by rfl)]
      go_simp
      refine hK.out _ _ (bD.setCell (by show W0.heap.size≤A;omega) _) (fun _=>?_)
      clear hK K'
      refine wpAnyH_done (by kernel_rfl) ?_ _
      clear sc sz1
      go_wp2_with fail
      go_ret
      exact ⟨_,rfl,fin⟩
  ·rw [if_pos (by rfl)]
   go_simp
   have bN:=below1 W1 (.cells #[.slice none 0 0] 47)
   have bE:=bD.trans (bN.mono bD.size)
   refine hK.out _ _ bE (fun _=>?_)
   clear hK K'
   have ls:=bD.size
   have sA2:=Slot1.new W1 (.slice none 0 0) 47
   have oW2:=ownsRow_below oW bN
   generalize W1.alloc (.cells #[.slice none 0 0] 47)=W2 at *
   generalize W1.heap.size=A at *
   clear bD bN
   have bD:=bE
   clear bE
   have sA:=sA2
   clear sA2
   clear oW
   have oW:=oW2
   clear oW2
   have geA:w.heap.size+1+1≤A:=by omega
   clear ls
   refine wpAnyH_ready (rs:=[0]) (by kernel_rfl) (by simp) ?_
   refine AllReadyH.cons rfl (fun K' hK=>?_) AllReadyH.nil
   ·rw [if_pos (by rfl)]
    go_simp
    have bN:=below1 W2 (.cells #[.int .i64 (-1)] 3)
    have bE:=bD.trans (bN.mono bD.size)
    refine hK.out _ _ bE (fun _=>?_)
    clear hK K'
    have ls:=bD.size
    have oB:(W2.alloc (.cells #[.int .i64 (-1)] 3)).ownsRow (w.heap.size+1+1) 3 1 (.slice (some ⟨W2.heap.size,0,none⟩) 1 1) 1 [.int .i64 (-1)]:=⟨rfl,Or.inr ⟨W2.heap.size,1,#[.int .i64 (-1)],rfl,by omega,heap_alloc_new _ _,by omega,by unfold maxLen;omega,rfl,rfl⟩⟩
    have sA2:=sA.bl' bN
    have neAB:A≠W2.heap.size:=by have:=sA.lt;omega
    have oW2:=ownsRow_below oW bN
    generalize W2.alloc (.cells #[.int .i64 (-1)] 3)=W3 at *
    generalize W2.heap.size=gB at *
    clear bD bN
    have bD:=bE
    clear bE
    clear sA
    have sA:=sA2
    clear sA2
    clear oW
    have oW:=oW2
    clear oW2
    clear ls
    refine wpAnyH_ready (rs:=[9]) (by kernel_rfl) (by simp) ?_
    refine AllReadyH.cons rfl (fun K' hK=>?_) AllReadyH.nil
    ·obtain ⟨aw2,bw,cw2,ew,iw,hcw⟩:=own_ints oW
     simp only [Value.slice.injEq] at ew
     obtain ⟨rfl,_,rfl⟩:=ew
     have ls:=bD.size
     refine step_append_ints (by rfl) (.tmp 6) (.tmp 14) 47 (by rfl) (w.heap.size+1+1) 3 i0 Tryz.underlying47 hi hz0 hz1 hz2 (.slice (some ⟨gB,0,none⟩) 1 1) 1 [.int .i64 (-1)] (by rfl) oB (by omega) aw bw 0 cw (M.wrs x.d.p 0 ds) (by rfl) iw (by omega) hcw.1 ?_
     intro v5 W4 oP hg5 hat5
     simp only [Act.put,List.setIfInBounds_toArray,List.set_cons_zero,List.set_cons_succ]
     have gge:=(oB.lt gB rfl).1
     have bE:Below W0.heap.size W0 W4:=below_grown bD hg5 (fun k hk=>by have:gB=k:=Option.some.inj hk;omega) (by omega)
     refine hK.out _ _ bE (fun _=>?_)
     clear hK K'
     obtain ⟨av,cv,hv5⟩:=own_slx oP
     have lA:=sA.lt
     have nA:v5.ownBlock≠some A:=fun e=>by
      rcases hat5 with e5 | e5
      ·rw [e5] at e;have:gB=A:=Option.some.inj e;omega
      ·rw [e5] at e;have:=Option.some.inj e;omega
     have sA2:=sA.apart hg5 (fun e=>by have:gB=A:=Option.some.inj e;omega)
     clear sA lA
     have sA:=sA2
     clear sA2
     subst hv5
     obtain ⟨nv,hnv⟩:∃ nv,1+(M.wrs x.d.p 0 ds).length=nv:=⟨_,rfl⟩
     rw [hnv] at oP ⊢
     rw [hnv] at nA
     clear hg5 hat5 oB oW iw hcw bD ls gge
     have bD:=bE
     clear bE
     refine wpAnyH_ready (rs:=[11]) (by kernel_rfl) (by simp) ?_
     refine AllReadyH.cons rfl (fun K' hK=>?_) AllReadyH.nil
     ·have sc:=sA.c
      have sz1:=sA.fz
      have fin:=HF.out W4 A _ bD sA geA (by rw [hnv];exact oP) nA
      rw [if_pos (by rfl)]
      go_simp
      refine hK.out _ _ (bD.setCell (by show W0.heap.size≤A;omega) _) (fun _=>?_)
      clear hK K'
      refine wpAnyH_done (by kernel_rfl) ?_ _
      clear sc sz1
      go_wp2_with fail
      go_ret
      exact ⟨_,rfl,fin⟩
 ·rw [if_pos (by rfl)]
  go_simp
  have bN:=below1 W (.cells #[.slice none 0 0] 47)
  have bE:=bD.trans (bN.mono bD.size)
  refine hK.out _ _ bE (fun _=>?_)
  clear hK K'
  have ls:=bD.size
  have sA2:=Slot1.new W (.slice none 0 0) 47
  generalize W.alloc (.cells #[.slice none 0 0] 47)=W1 at *
  generalize W.heap.size=A at *
  clear bD bN
  have bD:=bE
  clear bE
  have sA:=sA2
  clear sA2
  have geA:w.heap.size+1+1≤A:=by omega
  clear ls
  refine wpAnyH_ready (rs:=[0,8]) (by kernel_rfl) (by simp) ?_
  refine AllReadyH.cons rfl (fun K' hK=>?_) (AllReadyH.cons rfl (fun K' hK=>?_) AllReadyH.nil)
  ·rw [if_pos (by rfl)]
   go_simp
   have bN:=below1 W1 (.cells #[.int .i64 (-1)] 3)
   have bE:=bD.trans (bN.mono bD.size)
   refine hK.out _ _ bE (fun _=>?_)
   clear hK K'
   have ls:=bD.size
   have oB:(W1.alloc (.cells #[.int .i64 (-1)] 3)).ownsRow (w.heap.size+1+1) 3 1 (.slice (some ⟨W1.heap.size,0,none⟩) 1 1) 1 [.int .i64 (-1)]:=⟨rfl,Or.inr ⟨W1.heap.size,1,#[.int .i64 (-1)],rfl,by omega,heap_alloc_new _ _,by omega,by unfold maxLen;omega,rfl,rfl⟩⟩
   have sA2:=sA.bl' bN
   have neAB:A≠W1.heap.size:=by have:=sA.lt;omega
   generalize W1.alloc (.cells #[.int .i64 (-1)] 3)=W2 at *
   generalize W1.heap.size=gB at *
   clear bD bN
   have bD:=bE
   clear bE
   clear sA
   have sA:=sA2
   clear sA2
   clear ls
   refine wpAnyH_ready (rs:=[8]) (by kernel_rfl) (by simp) ?_
   refine AllReadyH.cons rfl (fun K' hK=>?_) AllReadyH.nil
   ·refine step_goV (by rfl) (some 14) rfl 117 #[.tmp 7,.tmp 13] _ rfl #[.slice (some ⟨g,0,none⟩) ds.length c,.int .i64 x.d.p] (by simp [Act.eval]) (fun _ _=>rfl) (HC.out W2 bD) ?_
    rintro e W3 ⟨vw,rfl,oW0,bN⟩
    obtain ⟨aw,cw,rfl⟩:=own_slx oW0
    refine ⟨_,rfl,?_⟩
    simp only [Act.put,List.setIfInBounds_toArray,List.set_cons_zero,List.set_cons_succ]
    have bE:=bD.trans (bN.mono bD.size)
    refine hK.out _ _ bE (fun _=>?_)
    clear hK K'
    have ls:=bD.size
    have oW:=own_mono oW0 (show w.heap.size+1+1≤_ by omega)
    clear oW0
    have oB2:=ownsRow_below oB bN
    clear oB
    have oB:=oB2
    clear oB2
    have sA2:=sA.bl' bN
    clear sA
    have sA:=sA2
    clear sA2
    clear bD bN ls
    have bD:=bE
    clear bE
    refine wpAnyH_ready (rs:=[9]) (by kernel_rfl) (by simp) ?_
    refine AllReadyH.cons rfl (fun K' hK=>?_) AllReadyH.nil
    ·obtain ⟨aw2,bw,cw2,ew,iw,hcw⟩:=own_ints oW
     simp only [Value.slice.injEq] at ew
     obtain ⟨rfl,_,rfl⟩:=ew
     have ls:=bD.size
     refine step_append_ints (by rfl) (.tmp 6) (.tmp 14) 47 (by rfl) (w.heap.size+1+1) 3 i0 Tryz.underlying47 hi hz0 hz1 hz2 (.slice (some ⟨gB,0,none⟩) 1 1) 1 [.int .i64 (-1)] (by rfl) oB (by omega) aw bw 0 cw (M.wrs x.d.p 0 ds) (by rfl) iw (by omega) hcw.1 ?_
     intro v5 W4 oP hg5 hat5
     simp only [Act.put,List.setIfInBounds_toArray,List.set_cons_zero,List.set_cons_succ]
     have gge:=(oB.lt gB rfl).1
     have bE:Below W0.heap.size W0 W4:=below_grown bD hg5 (fun k hk=>by have:gB=k:=Option.some.inj hk;omega) (by omega)
     refine hK.out _ _ bE (fun _=>?_)
     clear hK K'
     obtain ⟨av,cv,hv5⟩:=own_slx oP
     have lA:=sA.lt
     have nA:v5.ownBlock≠some A:=fun e=>by
      rcases hat5 with e5 | e5
      ·rw [e5] at e;have:gB=A:=Option.some.inj e;omega
      ·rw [e5] at e;have:=Option.some.inj e;omega
     have sA2:=sA.apart hg5 (fun e=>by have:gB=A:=Option.some.inj e;omega)
     clear sA lA
     have sA:=sA2
     clear sA2
     subst hv5
     obtain ⟨nv,hnv⟩:∃ nv,1+(M.wrs x.d.p 0 ds).length=nv:=⟨_,rfl⟩
     rw [hnv] at oP ⊢
     rw [hnv] at nA
     clear hg5 hat5 oB oW iw hcw bD ls gge
     have bD:=bE
     clear bE
     refine wpAnyH_ready (rs:=[11]) (by kernel_rfl) (by simp) ?_
     refine AllReadyH.cons rfl (fun K' hK=>?_) AllReadyH.nil
     ·have sc:=sA.c
      have sz1:=sA.fz
      have fin:=HF.out W4 A _ bD sA geA (by rw [hnv];exact oP) nA
      rw [if_pos (by rfl)]
      go_simp
      refine hK.out _ _ (bD.setCell (by show W0.heap.size≤A;omega) _) (fun _=>?_)
      clear hK K'
      refine wpAnyH_done (by kernel_rfl) ?_ _
      clear sc sz1
      go_wp2_with fail
      go_ret
      exact ⟨_,rfl,fin⟩
  ·refine step_goV (by rfl) (some 14) rfl 117 #[.tmp 7,.tmp 13] _ rfl #[.slice (some ⟨g,0,none⟩) ds.length c,.int .i64 x.d.p] (by simp [Act.eval]) (fun _ _=>rfl) (HC.out W1 bD) ?_
   rintro e W2 ⟨vw,rfl,oW0,bN⟩
   obtain ⟨aw,cw,rfl⟩:=own_slx oW0
   refine ⟨_,rfl,?_⟩
   simp only [Act.put,List.setIfInBounds_toArray,List.set_cons_zero,List.set_cons_succ]
   have bE:=bD.trans (bN.mono bD.size)
   refine hK.out _ _ bE (fun _=>?_)
   clear hK K'
   have ls:=bD.size
   have oW:=own_mono oW0 (show w.heap.size+1+1≤_ by omega)
   clear oW0
   have sA2:=sA.bl' bN
   clear sA
   have sA:=sA2
   clear sA2
   clear bD bN ls
   have bD:=bE
   clear bE
   refine wpAnyH_ready (rs:=[0]) (by kernel_rfl) (by simp) ?_
   refine AllReadyH.cons rfl (fun K' hK=>?_) AllReadyH.nil
   ·rw [if_pos (by rfl)]
    go_simp
    have bN:=below1 W2 (.cells #[.int .i64 (-1)] 3)
    have bE:=bD.trans (bN.mono bD.size)
    refine hK.out _ _ bE (fun _=>?_)
    clear hK K'
    have ls:=bD.size
    have oB:(W2.alloc (.cells #[.int .i64 (-1)] 3)).ownsRow (w.heap.size+1+1) 3 1 (.slice (some ⟨W2.heap.size,0,none⟩) 1 1) 1 [.int .i64 (-1)]:=⟨rfl,Or.inr ⟨W2.heap.size,1,#[.int .i64 (-1)],rfl,by omega,heap_alloc_new _ _,by omega,by unfold maxLen;omega,rfl,rfl⟩⟩
    have sA2:=sA.bl' bN
    have neAB:A≠W2.heap.size:=by have:=sA.lt;omega
    have oW2:=ownsRow_below oW bN
    generalize W2.alloc (.cells #[.int .i64 (-1)] 3)=W3 at *
    generalize W2.heap.size=gB at *
    clear bD bN
    have bD:=bE
    clear bE
    clear sA
    have sA:=sA2
    clear sA2
    clear oW
    have oW:=oW2
    clear oW2
    clear ls
    refine wpAnyH_ready (rs:=[9]) (by kernel_rfl) (by simp) ?_
    refine AllReadyH.cons rfl (fun K' hK=>?_) AllReadyH.nil
    ·obtain ⟨aw2,bw,cw2,ew,iw,hcw⟩:=own_ints oW
     simp only [Value.slice.injEq] at ew
     obtain ⟨rfl,_,rfl⟩:=ew
     have ls:=bD.size
     refine step_append_ints (by rfl) (.tmp 6) (.tmp 14) 47 (by rfl) (w.heap.size+1+1) 3 i0 Tryz.underlying47 hi hz0 hz1 hz2 (.slice (some ⟨gB,0,none⟩) 1 1) 1 [.int .i64 (-1)] (by rfl) oB (by omega) aw bw 0 cw (M.wrs x.d.p 0 ds) (by rfl) iw (by omega) hcw.1 ?_
     intro v5 W4 oP hg5 hat5
     simp only [Act.put,List.setIfInBounds_toArray,List.set_cons_zero,List.set_cons_succ]
     have gge:=(oB.lt gB rfl).1
     have bE:Below W0.heap.size W0 W4:=below_grown bD hg5 (fun k hk=>by have:gB=k:=Option.some.inj hk;omega) (by omega)
     refine hK.out _ _ bE (fun _=>?_)
     clear hK K'
     obtain ⟨av,cv,hv5⟩:=own_slx oP
     have lA:=sA.lt
     have nA:v5.ownBlock≠some A:=fun e=>by
      rcases hat5 with e5 | e5
      ·rw [e5] at e;have:gB=A:=Option.some.inj e;omega
      ·rw [e5] at e;have:=Option.some.inj e;omega
     have sA2:=sA.apart hg5 (fun e=>by have:gB=A:=Option.some.inj e;omega)
     clear sA lA
     have sA:=sA2
     clear sA2
     subst hv5
     obtain ⟨nv,hnv⟩:∃ nv,1+(M.wrs x.d.p 0 ds).length=nv:=⟨_,rfl⟩
     rw [hnv] at oP ⊢
     rw [hnv] at nA
     clear hg5 hat5 oB oW iw hcw bD ls gge
     have bD:=bE
     clear bE
     refine wpAnyH_ready (rs:=[11]) (by kernel_rfl) (by simp) ?_
     refine AllReadyH.cons rfl (fun K' hK=>?_) AllReadyH.nil
     ·have sc:=sA.c
      have sz1:=sA.fz
      have fin:=HF.out W4 A _ bD sA geA (by rw [hnv];exact oP) nA
      rw [if_pos (by rfl)]
      go_simp
      refine hK.out _ _ (bD.setCell (by show W0.heap.size≤A;omega) _) (fun _=>?_)
      clear hK K'
      refine wpAnyH_done (by kernel_rfl) ?_ _
      clear sc sz1
      go_wp2_with fail
      go_ret
      exact ⟨_,rfl,fin⟩
end Go.Proofs.YtjjkicffhpcngaaGreat
