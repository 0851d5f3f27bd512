/- A loop over an iterator whose elements lie in memory: who owns which blocks. The loop's own blocks, what the iterator has laid, and what each element brings with it, lie apart. No condition. And what goes with it: RvBase, RvLaw, RvEach, RvWay, RvFrom, RvChF, RvCf, RvNext, RvChN, RvChs, RvFst, RvWs, RvReg. -/
import Derived.Deep.OwnRows
import Derived.Test.YtnddmlgnngdaoaaGreatDoorRows
import Derived.Test.YtnddmlgnngdaoaaGreatDoorQsav
namespace Go.Proofs.YtnddmlgnngdaoaaGreatDoor
section
open Go.RowKit
structure Fr (C:Nat→Prop) (W W':World):Prop where
 os:W'.os=W.os
 tape:W'.tape=W.tape
 output:W'.output=W.output
 size:W.heap.size≤W'.heap.size
 same:∀ k,k < W.heap.size→C k→W'.heap[k]?=W.heap[k]?
theorem Fr.refl (C:Nat→Prop) (W:World):Fr C W W:=⟨rfl,rfl,rfl,Nat.le_refl _,fun _ _ _=>rfl⟩
theorem Fr.trans {C:Nat→Prop} {A B D:World} (h:Fr C A B) (k:Fr C B D):Fr C A D :=
 ⟨k.os.trans h.os,k.tape.trans h.tape,k.output.trans h.output,Nat.le_trans h.size k.size,fun i hi hc=>(k.same i (Nat.lt_of_lt_of_le hi h.size) hc).trans (h.same i hi hc)⟩
theorem Fr.mono {C C':Nat→Prop} {A B:World} (h:Fr C A B) (hc:∀ k,k < A.heap.size→C' k→C k):Fr C' A B:=⟨h.os,h.tape,h.output,h.size,fun k hk h'=>h.same k hk (hc k hk h')⟩
theorem Fr.of_below {C:Nat→Prop} {A B:World} (h:Below A.heap.size A B):Fr C A B:=⟨h.os,h.tape,h.output,h.size,fun k hk _=>h.block k hk⟩
theorem Fr.putObj {C:Nat→Prop} {A B:World} (h:Fr C A B) {l:Nat} (o:Obj) (hl:¬ C l):Fr C A (B.putObj l o) :=
 h.trans ⟨rfl,rfl,rfl,by simp,fun k _ hk=>World.putObj_heap_other (fun e=>hl (e▸hk))⟩
theorem Fr.setCell {C:Nat→Prop} {A B:World} (h:Fr C A B) {p:Addr} (u:Value) (hp:¬ C p.block):Fr C A (B.setCell p u) :=
 h.trans ⟨rfl,rfl,rfl,by simp,fun k _ hk=>Below.heap_setCell _ _ _ _ (fun e=>hp (e▸hk))⟩
theorem Fr.cell {C:Nat→Prop} {A B:World} (h:Fr C A B) {p:Addr} {v:Value} (hc:C p.block) (hv:A.cell? p=some v):B.cell? p=some v :=
 (World.cell?_of_block (w:=A) (h.same p.block (World.block_lt_of_cell? _ _ hv) hc)).trans hv
theorem Fr.heap {C:Nat→Prop} {A B:World} (h:Fr C A B) {k:Nat} {o:Obj} (hc:C k) (hv:A.heap[k]?=some o):B.heap[k]?=some o :=
 (h.same k (Array.getElem?_eq_some_iff.1 hv).1 hc).trans hv
def Frames {β:Type} (D:Nat→Prop) (J:β→(Nat→Prop)→World→Prop):Prop:=∀ s C W W',J s C W→Fr (fun k=>C k∨D k) W W'→J s C W'
def Adds (C O C':Nat→Prop) (W W':World):Prop:=∀ k,C' k→C k∨O k∨(W.heap.size≤k∧k < W'.heap.size)
structure RvRound {α:Type} (J Jx:List α→(Nat→Prop)→World→Prop) (pre:List α) (C O:Nat→Prop) (W:World) (e:Ending) (W':World):Prop where
 fr:Fr (fun k=>¬ C k∧¬ O k) W W'
 ex:∃ C',Adds C O C' W W'∧((e=.returned (.bool true)∧J pre C' W')∨(e=.returned (.bool false)∧Jx pre C' W'))
def SeqC {α:Type} (F:Fence) (n:Nat) (P:Program) (g:Nat) (lb:Array Value) (V:α→Array Value→(Nat→Prop)→World→Prop) (D:Nat→Prop) (xs:List α) (w:World):Prop :=
 ∀ (l:Nat) (J Jx:List α→(Nat→Prop)→World→Prop) (C:Nat→Prop) (W:World),Fr D w W→(∀ k,C k→k < W.heap.size∧¬ D k)→Frames D J→Frames D Jx →
  (∀ pre C x vs O W1,pre++[x] <+: xs→J pre C W1→V x vs O W1→(∀ k,O k→¬ C k∧¬ D k)→YieldAt F (n - 1) P l vs W1 (RvRound J Jx (pre++[x]) C O W1)) →
  J [] C W →
  CallsIn F n P g (#[.func (.yield l) #[] #[]]++lb) W fun e W'=>(∃ v,e=.returned v)∧Fr (fun k=>¬ C k) W W'∧∃ C',Adds C (fun _=>False) C' W W'∧(J xs C' W'∨∃ pre,pre <+: xs∧Jx pre C' W')
theorem SeqC.inRound {α:Type} {F:Fence} {n:Nat} {P:Program} {g:Nat} {lb:Array Value} {V:α→Array Value→(Nat→Prop)→World→Prop} {D:Nat→Prop} {xs:List α} {w:World} (l:Nat) (h:SeqC F n P g lb V D xs w):SeqC (F.inRound l) n P g lb V D xs w:=h
def rvPost (r:Loop) (l:Nat) (R:Ending→World→Prop):Exit→World→Prop
 | .normal,W=>R (.returned (.bool true)) (W.putObj l (.loop { r with state:=.ready,pending:=none }))
 | .ret,W=>R (.returned (.bool false)) (W.putObj l (.loop { r with state:=.done,pending:=some .ret }))
 | .exit id,W=>R (.returned (.bool false)) (W.putObj l (.loop { r with state:=.done,pending:=some (.exit id) }))
 | .goto t,W=>R (.returned (.bool false)) (W.putObj l (.loop { r with state:=.done,pending:=some (.goto t) }))
 | .panic _,_=>False
 | .outgrown,_=>False
theorem yieldAt_of {F:Fence} {m:Nat} {P:Program} {l:Nat} {r:Loop} {vs:Array Value} {W:World} {R:Ending→World→Prop} (hl:W.heap[l]?=some (.loop r)) (hst:r.state=.ready) (hs:vs.size=r.params.size) (hF:F.fn r.fn)
  (h:r.assign.wpIn (F.inRound l) m P (Exit.then (fun a' Wa=>Wa.heap[l]?=some (.loop r)∧r.body.wpIn (F.inRound l) m P (fun e _ W3=>W3.heap[l]?=some (.loop { r with state:=.busy })∧rvPost r l R e W3) a' (Wa.putObj l (.loop { r with state:=.busy }))) (fun _ _ _=>False))
   { tmps:=(r.params.zip vs).foldl (fun t (p,v)=>t.setIfInBounds p v) r.tmps,defers:=[] } W):YieldAt F m P l vs W R:=by
 refine ⟨_,_,_,_,run_yield hl hs,roundIn_of_wpIn hF (wpIn_mono h ?_)⟩
 intro e a' Wa hq
 cases e with
 | normal =>
  obtain ⟨ha,hb⟩:=hq
  refine ⟨_,run_beginRound ha hst,wpIn_mono hb ?_⟩
  rintro e3 a3 W3 ⟨h3,hp⟩
  have key:=fun jump=>run_endRound (P:=P) (w:=W3) jump h3
  cases e3 with
  | normal=>exact ⟨_,_,key none,hp⟩
  | ret=>exact ⟨_,_,key (some .ret),hp⟩
  | exit id=>exact ⟨_,_,key (some (.exit id)),hp⟩
  | goto t=>exact ⟨_,_,key (some (.goto t)),hp⟩
  | panic ch=>exact hp
  | outgrown=>exact hp
 | ret=>exact hq
 | exit id=>exact hq
 | goto t=>exact hq
 | panic ch=>exact hq
 | outgrown=>exact hq
end
section
open Go.RowKit
structure RvBody {α:Type} (I:List α→(Nat→Prop)→World→Prop) (pre:List α) (C O:Nat→Prop) (W Wb W3:World):Prop where
 fr:Fr (fun k=>¬ C k∧¬ O k) Wb W3
 ex:∃ C',Adds C O C' W W3∧I pre C' W3
def rvBody {α:Type} (I:List α→(Nat→Prop)→World→Prop) (Ix:Code→List α→(Nat→Prop)→World→Prop) (pre:List α) (C O:Nat→Prop) (W Wb:World):Exit→Act→World→Prop
 | .normal,_,W3=>RvBody I pre C O W Wb W3
 | .ret,_,W3=>RvBody (Ix .ret) pre C O W Wb W3
 | .exit id,_,W3=>RvBody (Ix (.exit id)) pre C O W Wb W3
 | .goto t,_,W3=>RvBody (Ix (.goto t)) pre C O W Wb W3
 | .panic _,_,_=>False
 | .outgrown,_,_=>False
structure RvBook {α:Type} (I:List α→(Nat→Prop)→World→Prop) (l:Nat) (r:Loop) (E:Nat→Option Obj) (pre:List α) (Cj:Nat→Prop) (W:World):Prop where
 ex:∃ C,(∀ k,Cj k↔C k∨k=l∨(E k).isSome=true)∧¬ C l∧(∀ k,C k→E k=none)∧I pre C W
 rcd:W.heap[l]?=some (.loop r)
 more:∀ k o,E k=some o→W.heap[k]?=some o
theorem RvBook.frames {α:Type} {D:Nat→Prop} {I:List α→(Nat→Prop)→World→Prop} (hI:Frames D I) (l:Nat) (r:Loop) (E:Nat→Option Obj):Frames D (RvBook I l r E):=by
 rintro pre Cj W W' ⟨⟨C,hC,hl,hE,hi⟩,hr,hm⟩ hf
 refine ⟨⟨C,hC,hl,hE,hI _ _ _ _ hi (hf.mono fun k _ hk=>hk.imp (fun h=>(hC k).2 (Or.inl h)) id)⟩,hf.heap (Or.inl ((hC l).2 (Or.inr (Or.inl rfl)))) hr,fun k o ho=>hf.heap (Or.inl ((hC k).2 (Or.inr (Or.inr (by rw [ho];rfl))))) (hm k o ho)⟩
def RvRoundOk {α:Type} (xs:List α) (D:Nat→Prop) (F:Fence) (m:Nat) (P:Program) (ps:Array Tmp) (assign body:Code) (tmps:Array Value) (V:α→Array Value→(Nat→Prop)→World→Prop) (I:List α→(Nat→Prop)→World→Prop) (Ix:Code→List α→(Nat→Prop)→World→Prop) (b:Nat):Prop :=
 ∀ (l:Nat) (pre:List α) (C:Nat→Prop) (x:α) (vs:Array Value) (O:Nat→Prop) (W:World),b≤l→(∃ r,W.heap[l]?=some (.loop r))→¬ C l→¬ O l→pre++[x] <+: xs→I pre C W→V x vs O W→(∀ k,O k→¬ C k∧¬ D k) →
  assign.wpIn (F.inRound l) m P (Exit.then (fun a' Wa=>Fr (fun k=>¬ C k∧¬ O k) W Wa∧∀ Wb,Fr (fun k=>k≠l) Wa Wb→(∃ r,Wb.heap[l]?=some (.loop r))→body.wpIn (F.inRound l) m P (rvBody I Ix (pre++[x]) C O W Wb) a' Wb) (fun _ _ _=>False))
   { tmps:=(ps.zip vs).foldl (fun t (p,v)=>t.setIfInBounds p v) tmps,defers:=[] } W
theorem rv_round {α:Type} {xs:List α} {D:Nat→Prop} {F:Fence} {m:Nat} {P:Program} {V:α→Array Value→(Nat→Prop)→World→Prop} {I:List α→(Nat→Prop)→World→Prop} {Ix:Code→List α→(Nat→Prop)→World→Prop} {b l:Nat} {r:Loop} {E:Nat→Option Obj}
  (hst:r.state=.ready) (hpe:r.pending=none) (hF:F.fn r.fn) (hb:b≤l) (hEl:E l=none) (hDl:¬ D l) (hI:Frames D I) (hIx:∀ c,Frames D (Ix c)) (hps:∀ x vs O W,V x vs O W→vs.size=r.params.size)
  (hround:RvRoundOk xs D F m P r.params r.assign r.body r.tmps V I Ix b) (pre:List α) (Cj:Nat→Prop) (x:α) (vs:Array Value) (O:Nat→Prop) (W:World)
  (hpx:pre++[x] <+: xs) (hJ:RvBook I l r E pre Cj W) (hV:V x vs O W) (hd:∀ k,O k→¬ Cj k∧¬ D k) :
  YieldAt F m P l vs W (RvRound (RvBook I l r E) (fun pre C W=>∃ c,RvBook (Ix c) l { r with state:=.done,pending:=some c } E pre C W) (pre++[x]) Cj O W):=by
 obtain ⟨⟨C,hC,hCl,hCE,hi⟩,hr,hm⟩:=hJ
 have hOl:¬ O l:=fun h=>(hd l h).1 ((hC l).2 (Or.inr (Or.inl rfl)))
 have hlt:l < W.heap.size:=(Array.getElem?_eq_some_iff.1 hr).1
 refine yieldAt_of hr hst (hps x vs O W hV) hF (wpIn_mono (hround l pre C x vs O W hb ⟨_,hr⟩ hCl hOl hpx hi hV (fun k hk=>⟨fun h=>(hd k hk).1 ((hC k).2 (Or.inl h)),(hd k hk).2⟩)) ?_)
 intro e a' Wa hq
 cases e with
 | normal =>
  obtain ⟨hfa,hbody⟩:=hq
  have hra:Wa.heap[l]?=some (.loop r):=hfa.heap ⟨hCl,hOl⟩ hr
  have hlta:l < Wa.heap.size:=(Array.getElem?_eq_some_iff.1 hra).1
  have hfb:Fr (fun k=>k≠l) Wa (Wa.putObj l (.loop { r with state:=.busy })):=(Fr.refl _ Wa).putObj _ (fun h=>h rfl)
  have hrb:(Wa.putObj l (.loop { r with state:=.busy })).heap[l]?=some (.loop { r with state:=.busy }):=World.putObj_heap_same hlta
  refine ⟨hra,wpIn_mono (hbody _ hfb ⟨_,hrb⟩) ?_⟩
  have fin:∀ (I':List α→(Nat→Prop)→World→Prop) (hI':Frames D I') (r':Loop) (W3:World),RvBody I' (pre++[x]) C O W (Wa.putObj l (.loop { r with state:=.busy })) W3 →
    W3.heap[l]?=some (.loop { r with state:=.busy })∧Fr (fun k=>¬ Cj k∧¬ O k) W (W3.putObj l (.loop r'))∧∃ C',Adds Cj O C' W (W3.putObj l (.loop r'))∧RvBook I' l r' E (pre++[x]) C' (W3.putObj l (.loop r')):=by
   intro I' hI' r' W3 ⟨hf3,C',hA,hi3⟩
   have hr3:W3.heap[l]?=some (.loop { r with state:=.busy }):=hf3.heap ⟨hCl,hOl⟩ hrb
   have hlt3:l < W3.heap.size:=(Array.getElem?_eq_some_iff.1 hr3).1
   have hCl':¬ C' l:=fun h=>by
    rcases hA l h with h | h | h
    ·exact hCl h
    ·exact hOl h
    ·omega
   have hW3:Fr (fun k=>(¬ C k∧¬ O k)∧k≠l) W W3:=((hfa.mono fun k _ h=>h.1).trans (hfb.mono fun k _ h=>h.2)).trans (hf3.mono fun k _ h=>h.1)
   have hE3:∀ k o,E k=some o→W3.heap[k]?=some o:=fun k o ho=>by
    have hk:¬ C k:=fun h=>by rw [hCE k h] at ho;cases ho
    have hko:¬ O k:=fun h=>(hd k h).1 ((hC k).2 (Or.inr (Or.inr (by rw [ho];rfl))))
    have hkl:k≠l:=fun e=>by rw [e,hEl] at ho;cases ho
    exact hW3.heap ⟨⟨hk,hko⟩,hkl⟩ (hm k o ho)
   refine ⟨hr3,?_,fun k=>C' k∨k=l∨(E k).isSome=true,?_,⟨C',fun k=>Iff.rfl,hCl',fun k hk=>?_,hI' _ _ _ _ hi3 ((Fr.refl _ W3).putObj _ (fun h=>h.elim hCl' hDl))⟩,World.putObj_heap_same hlt3,fun k o ho=>?_⟩
   ·refine (hW3.mono fun k _ h=>⟨⟨fun hk=>h.1 ((hC k).2 (Or.inl hk)),h.2⟩,fun e=>h.1 ((hC k).2 (Or.inr (Or.inl e)))⟩).putObj _ (fun h=>h.1 ((hC l).2 (Or.inr (Or.inl rfl))))
   ·intro k hk
    rcases hk with hk | rfl | hk
    ·rcases hA k hk with h | h | h
     ·exact Or.inl ((hC k).2 (Or.inl h))
     ·exact Or.inr (Or.inl h)
     ·exact Or.inr (Or.inr (by simpa using h))
    ·exact Or.inl ((hC k).2 (Or.inr (Or.inl rfl)))
    ·exact Or.inl ((hC k).2 (Or.inr (Or.inr hk)))
   ·rcases hA k hk with h | h | h
    ·exact hCE k h
    ·cases he:E k with
     | none=>rfl
     | some o=>exact absurd ((hC k).2 (Or.inr (Or.inr (by rw [he];rfl)))) (hd k h).1
    ·cases he:E k with
     | none=>rfl
     | some o=>have:=(Array.getElem?_eq_some_iff.1 (hm k o he)).1;omega
   ·have hkl:k≠l:=fun e=>by rw [e,hEl] at ho;cases ho
    rw [World.putObj_heap_other hkl]
    exact hE3 k o ho
  intro e3 a3 W3 hp
  cases e3 with
  | normal =>
   have er:({ r with state:=.ready,pending:=none }:Loop)=r:=by
    obtain ⟨st,pe,_⟩:=r
    simp only at hst hpe
    subst hst;subst hpe;rfl
   obtain ⟨h1,h2,C',h3,h4⟩:=fin I hI r W3 hp
   refine ⟨h1,?_⟩
   show RvRound _ _ _ _ _ _ _ _
   rw [er]
   exact ⟨h2,C',h3,Or.inl ⟨rfl,h4⟩⟩
  | ret =>
   obtain ⟨h1,h2,C',h3,h4⟩:=fin (Ix .ret) (hIx _) { r with state:=.done,pending:=some .ret } W3 hp
   exact ⟨h1,h2,C',h3,Or.inr ⟨rfl,_,h4⟩⟩
  | exit id =>
   obtain ⟨h1,h2,C',h3,h4⟩:=fin (Ix (.exit id)) (hIx _) { r with state:=.done,pending:=some (.exit id) } W3 hp
   exact ⟨h1,h2,C',h3,Or.inr ⟨rfl,_,h4⟩⟩
  | goto t =>
   obtain ⟨h1,h2,C',h3,h4⟩:=fin (Ix (.goto t)) (hIx _) { r with state:=.done,pending:=some (.goto t) } W3 hp
   exact ⟨h1,h2,C',h3,Or.inr ⟨rfl,_,h4⟩⟩
  | panic ch=>exact hp.elim
  | outgrown=>exact hp.elim
 | ret=>exact hq
 | exit id=>exact hq
 | goto t=>exact hq
 | panic ch=>exact hq
 | outgrown=>exact hq
theorem rv_outer {α:Type} {F:Fence} {n:Nat} {P:Program} {g:Operand} {ps:Array Tmp} {assign body:Code} {Q:Exit→Act→World→Prop} {a:Act} {w:World}
  (hro:F.round=none) (h1:1≤n) {gf:Nat} {lb:Array Value} (hg:a.eval g=.func (.func gf) #[] lb) (hFg:F.fn gf) (eg:∀ args w,(callFunc gf args).run P w=.ok (.enter gf args) w)
  {V:α→Array Value→(Nat→Prop)→World→Prop} {D:Nat→Prop} {xs:List α} {w0:World} (hseq:SeqC F (n - 1) P gf lb V D xs w0) (hD0:Fr D w0 w) (hDl:∀ k,D k→k < w.heap.size)
  (hps:∀ x vs O W,V x vs O W→vs.size=ps.size) {C0:Nat→Prop} (hC0:∀ k,C0 k→k < w.heap.size∧¬ D k)
  (I:List α→(Nat→Prop)→World→Prop) (Ix:Code→List α→(Nat→Prop)→World→Prop) (hI:Frames D I) (hIx:∀ c,Frames D (Ix c)) (h0:I [] C0 w)
  (hround:RvRoundOk xs D F (n - 1 - 1) P ps assign body a.tmps V I Ix w.heap.size)
  (hdone:∀ (C':Nat→Prop) (W':World),Fr (fun k=>¬ C0 k) w W'→(∀ k,C' k→C0 k∨(w.heap.size+2≤k∧k < W'.heap.size))→I xs C' W'→W'.heap[w.heap.size]?=some (.deferred (some []))→Q .normal { a with defers:={ target:=.collected w.heap.size,args:=#[] }::a.defers } W')
  (hstop:∀ (c:Code) (pre:List α) (C':Nat→Prop) (W':World),pre <+: xs→Fr (fun k=>¬ C0 k) w W'→(∀ k,C' k→C0 k∨(w.heap.size+2≤k∧k < W'.heap.size))→Ix c pre C' W'→W'.heap[w.heap.size]?=some (.deferred (some []))→c.wpIn F n P Q { a with defers:={ target:=.collected w.heap.size,args:=#[] }::a.defers } W') :
  (Code.rangeFunc g ps assign body).wpIn F n P Q a w:=by
 refine wpIn_rangeFunc ?_
 intro fn hfn
 rw [hro]
 obtain ⟨r,hr⟩:∃ r:Loop,r={ state:=.ready,pending:=none,fn,tmps:=a.tmps,params:=ps,assign,body,defers:=w.heap.size }:=⟨_,rfl⟩
 obtain ⟨W1,hW1⟩:∃ W1,(w.alloc (.deferred (some []))).alloc (.loop r)=W1:=⟨_,rfl⟩
 have sz:W1.heap.size=w.heap.size+2:=by rw [← hW1];simp
 have hb1:Below w.heap.size w W1:=by rw [← hW1];exact ((Below.refl _ w).alloc (Nat.le_refl _) _).alloc (by simp) _
 have hL1:W1.heap[w.heap.size+1]?=some (.loop r):=by
  rw [← hW1];have:=World.alloc_heap_new (w.alloc (.deferred (some []))) (.loop r);rwa [World.size_alloc] at this
 have hK1:W1.heap[w.heap.size]?=some (.deferred (some [])):=by
  rw [← hW1];exact (Below.heap_alloc _ _ _ (by simp)).trans (World.alloc_heap_new w _)
 refine ⟨w.heap.size+1,[{ target:=.collected w.heap.size,args:=#[] }],W1,{ target:=.fn (.func gf) lb,args:=#[.func (.yield (w.heap.size+1)) #[] #[]] },W1,gf,#[.func (.yield (w.heap.size+1)) #[] #[]]++lb,W1,?_,?_,?_,?_,fun _=>h1,?_⟩
 ·rw [← hW1,hr];exact run_enterLoop_outer _ _ _ _ _
 ·simp only [resolve,hg]
  simp [go_sem]
 ·intro f' hf'
  simp [Target.leads] at hf'
  subst hf'
  exact hFg
 ·simp [invoke,go_sem,eg]
 ·have hst:r.state=.ready:=by rw [hr]
  have hpe:r.pending=none:=by rw [hr]
  have bk:RvBook I (w.heap.size+1) r (fun k=>if k=w.heap.size then some (.deferred (some [])) else none) [] (fun k=>C0 k∨k=w.heap.size+1∨((fun k=>if k=w.heap.size then some (.deferred (some [])) else none:Nat→Option Obj) k).isSome=true) W1:=by
   refine ⟨⟨C0,fun k=>Iff.rfl,fun h=>by have:=(hC0 _ h).1;omega,fun k hk=>?_,hI _ _ _ _ h0 (.of_below hb1)⟩,hL1,fun k o ho=>?_⟩
   ·have:=(hC0 k hk).1;exact if_neg (by omega)
   ·by_cases e:k=w.heap.size
    ·subst e;rw [if_pos rfl] at ho;cases ho;exact hK1
    ·rw [if_neg e] at ho;cases ho
  refine (hseq (w.heap.size+1) (RvBook I (w.heap.size+1) r (fun k=>if k=w.heap.size then some (.deferred (some [])) else none)) (fun pre C W=>∃ c,RvBook (Ix c) (w.heap.size+1) { r with state:=.done,pending:=some c } (fun k=>if k=w.heap.size then some (.deferred (some [])) else none) pre C W) _ W1 (hD0.trans (.of_below hb1)) (fun k hk=>?_) (RvBook.frames hI _ _ _) (fun pre C W W' ⟨c,hc⟩ hf=>⟨c,RvBook.frames (hIx c) _ _ _ _ _ _ _ hc hf⟩) (fun pre C x vs O W hpx hJ hV hd=>?_) bk).mono ?_
  ·rcases hk with hk | rfl | hk
   ·exact ⟨by have:=(hC0 k hk).1;omega,(hC0 k hk).2⟩
   ·exact ⟨by omega,fun h=>by have:=hDl _ h;omega⟩
   ·dsimp only at hk
    by_cases e:k=w.heap.size
    ·exact ⟨by omega,fun h=>by have:=hDl _ h;omega⟩
    ·rw [if_neg e] at hk;cases hk
  ·have hrp:RvRoundOk xs D F (n - 1 - 1) P r.params r.assign r.body r.tmps V I Ix w.heap.size:=by rw [hr];exact hround
   exact rv_round hst hpe (by rw [hr];exact hfn) (by omega) (by simp) (fun h=>by have:=hDl _ h;omega) hI hIx (by rw [hr];exact hps) hrp pre C x vs O W hpx hJ hV hd
  ·have key:∀ (I':List α→(Nat→Prop)→World→Prop) (hI':Frames D I') (r' r'':Loop) (pre:List α) (C':Nat→Prop) (W2:World),Fr (fun k=>¬ (C0 k∨k=w.heap.size+1∨((fun k=>if k=w.heap.size then some (.deferred (some [])) else none:Nat→Option Obj) k).isSome=true)) W1 W2→Adds (fun k=>C0 k∨k=w.heap.size+1∨((fun k=>if k=w.heap.size then some (.deferred (some [])) else none:Nat→Option Obj) k).isSome=true) (fun _=>False) C' W1 W2→RvBook I' (w.heap.size+1) r' (fun k=>if k=w.heap.size then some (.deferred (some [])) else none) pre C' W2 →
     ∃ C,Fr (fun k=>¬ C0 k) w (W2.putObj (w.heap.size+1) (.loop r''))∧(∀ k,C k→C0 k∨(w.heap.size+2≤k∧k < (W2.putObj (w.heap.size+1) (.loop r'')).heap.size))∧I' pre C (W2.putObj (w.heap.size+1) (.loop r''))∧(W2.putObj (w.heap.size+1) (.loop r'')).heap[w.heap.size]?=some (.deferred (some [])):=by
    rintro I' hI' r' r'' pre C' W2 hf hA ⟨⟨C,hC,hCl,hCE,hi⟩,hrc,hmo⟩
    refine ⟨C,?_,fun k hk=>?_,hI' _ _ _ _ hi ((Fr.refl _ W2).putObj _ (fun h=>h.elim hCl (fun h=>by have:=hDl _ h;omega))),(World.putObj_heap_other (by omega)).trans (hmo _ _ (if_pos rfl))⟩
    ·refine ⟨hf.os.trans hb1.os,hf.tape.trans hb1.tape,hf.output.trans hb1.output,by have:=hf.size;simp;omega,fun k hk hc=>?_⟩
     rw [World.putObj_heap_other (by omega),hf.same k (by omega) (fun h=>?_),hb1.block k hk]
     rcases h with h | h | h
     ·exact hc h
     ·omega
     ·dsimp only at h;rw [if_neg (by omega)] at h;cases h
    ·rcases hA k ((hC k).2 (Or.inl hk)) with h | h | h
     ·rcases h with h | rfl | h
      ·exact Or.inl h
      ·exact absurd hk hCl
      ·have:=hCE k hk
       (try dsimp only at this h)
       first | (rw [this] at h;cases h) | cases h
     ·exact h.elim
     ·exact Or.inr ⟨by omega,by simpa using h.2⟩
   rintro e W2 ⟨⟨v,rfl⟩,hf,C',hA,(hJ | ⟨pre,hp,c,hJ⟩)⟩
   ·obtain ⟨C,k1,k2,k3,k4⟩:=key I hI r { r with state:=.exhausted,pending:=none } xs C' W2 hf hA hJ
    exact ⟨none,_,by have:=run_endLoop (P:=P) hJ.rcd (by rw [hst];simp);rw [hpe] at this;exact this,hdone C _ k1 k2 k3 k4⟩
   ·obtain ⟨C,k1,k2,k3,k4⟩:=key (Ix c) (hIx c) _ { r with state:=.exhausted,pending:=some c } pre C' W2 hf hA hJ
    exact ⟨some c,_,run_endLoop (P:=P) hJ.rcd (by simp),hstop c pre C _ hp k1 k2 k3 k4⟩
theorem rv_inner {α:Type} {F:Fence} {n:Nat} {P:Program} {g:Operand} {ps:Array Tmp} {assign body:Code} {Q:Exit→Act→World→Prop} {a:Act} {w:World}
  {l₀:Nat} {r₀:Loop} (hro:F.round=some l₀) (hl₀:w.heap[l₀]?=some (.loop r₀)) (h1:1≤n) {gf:Nat} {lb:Array Value} (hg:a.eval g=.func (.func gf) #[] lb) (hFg:F.fn gf) (eg:∀ args w,(callFunc gf args).run P w=.ok (.enter gf args) w)
  {V:α→Array Value→(Nat→Prop)→World→Prop} {D:Nat→Prop} {xs:List α} {w0:World} (hseq:SeqC F (n - 1) P gf lb V D xs w0) (hD0:Fr D w0 w) (hDl:∀ k,D k→k < w.heap.size)
  (hps:∀ x vs O W,V x vs O W→vs.size=ps.size) {C0:Nat→Prop} (hC0:∀ k,C0 k→k < w.heap.size∧¬ D k)
  (I:List α→(Nat→Prop)→World→Prop) (Ix:Code→List α→(Nat→Prop)→World→Prop) (hI:Frames D I) (hIx:∀ c,Frames D (Ix c)) (h0:I [] C0 w)
  (hround:RvRoundOk xs D F (n - 1 - 1) P ps assign body a.tmps V I Ix w.heap.size)
  (hdone:∀ (C':Nat→Prop) (W':World),Fr (fun k=>¬ C0 k) w W'→(∀ k,C' k→C0 k∨(w.heap.size+1≤k∧k < W'.heap.size))→I xs C' W'→Q .normal a W')
  (hstop:∀ (c:Code) (pre:List α) (C':Nat→Prop) (W':World),pre <+: xs→Fr (fun k=>¬ C0 k) w W'→(∀ k,C' k→C0 k∨(w.heap.size+1≤k∧k < W'.heap.size))→Ix c pre C' W'→c.wpIn F n P Q a W') :
  (Code.rangeFunc g ps assign body).wpIn F n P Q a w:=by
 refine wpIn_rangeFunc ?_
 intro fn hfn
 rw [hro]
 obtain ⟨r,hr⟩:∃ r:Loop,r={ state:=.ready,pending:=none,fn,tmps:=a.tmps,params:=ps,assign,body,defers:=r₀.defers }:=⟨_,rfl⟩
 obtain ⟨W1,hW1⟩:∃ W1,w.alloc (.loop r)=W1:=⟨_,rfl⟩
 have sz:W1.heap.size=w.heap.size+1:=by rw [← hW1];simp
 have hb1:Below w.heap.size w W1:=by rw [← hW1];exact (Below.refl _ w).alloc (Nat.le_refl _) _
 have hL1:W1.heap[w.heap.size]?=some (.loop r):=by
  rw [← hW1];exact World.alloc_heap_new w _
 refine ⟨w.heap.size,[],W1,{ target:=.fn (.func gf) lb,args:=#[.func (.yield (w.heap.size)) #[] #[]] },W1,gf,#[.func (.yield (w.heap.size)) #[] #[]]++lb,W1,?_,?_,?_,?_,fun _=>h1,?_⟩
 ·rw [← hW1,hr];exact run_enterLoop_inner hl₀ _ _ _ _ _
 ·simp only [resolve,hg]
  simp [go_sem]
 ·intro f' hf'
  simp [Target.leads] at hf'
  subst hf'
  exact hFg
 ·simp [invoke,go_sem,eg]
 ·have hst:r.state=.ready:=by rw [hr]
  have hpe:r.pending=none:=by rw [hr]
  have bk:RvBook I (w.heap.size) r (fun _=>none) [] (fun k=>C0 k∨k=w.heap.size∨((fun _=>none:Nat→Option Obj) k).isSome=true) W1:=by
   refine ⟨⟨C0,fun k=>Iff.rfl,fun h=>by have:=(hC0 _ h).1;omega,fun k hk=>?_,hI _ _ _ _ h0 (.of_below hb1)⟩,hL1,fun k o ho=>?_⟩
   ·rfl
   ·cases ho
  refine (hseq (w.heap.size) (RvBook I (w.heap.size) r (fun _=>none)) (fun pre C W=>∃ c,RvBook (Ix c) (w.heap.size) { r with state:=.done,pending:=some c } (fun _=>none) pre C W) _ W1 (hD0.trans (.of_below hb1)) (fun k hk=>?_) (RvBook.frames hI _ _ _) (fun pre C W W' ⟨c,hc⟩ hf=>⟨c,RvBook.frames (hIx c) _ _ _ _ _ _ _ hc hf⟩) (fun pre C x vs O W hpx hJ hV hd=>?_) bk).mono ?_
  ·rcases hk with hk | rfl | hk
   ·exact ⟨by have:=(hC0 k hk).1;omega,(hC0 k hk).2⟩
   ·exact ⟨by omega,fun h=>by have:=hDl _ h;omega⟩
   ·cases hk
  ·have hrp:RvRoundOk xs D F (n - 1 - 1) P r.params r.assign r.body r.tmps V I Ix w.heap.size:=by rw [hr];exact hround
   exact rv_round hst hpe (by rw [hr];exact hfn) (by omega) (by simp) (fun h=>by have:=hDl _ h;omega) hI hIx (by rw [hr];exact hps) hrp pre C x vs O W hpx hJ hV hd
  ·have key:∀ (I':List α→(Nat→Prop)→World→Prop) (hI':Frames D I') (r' r'':Loop) (pre:List α) (C':Nat→Prop) (W2:World),Fr (fun k=>¬ (C0 k∨k=w.heap.size∨((fun _=>none:Nat→Option Obj) k).isSome=true)) W1 W2→Adds (fun k=>C0 k∨k=w.heap.size∨((fun _=>none:Nat→Option Obj) k).isSome=true) (fun _=>False) C' W1 W2→RvBook I' (w.heap.size) r' (fun _=>none) pre C' W2 →
     ∃ C,Fr (fun k=>¬ C0 k) w (W2.putObj (w.heap.size) (.loop r''))∧(∀ k,C k→C0 k∨(w.heap.size+1≤k∧k < (W2.putObj (w.heap.size) (.loop r'')).heap.size))∧I' pre C (W2.putObj (w.heap.size) (.loop r'')):=by
    rintro I' hI' r' r'' pre C' W2 hf hA ⟨⟨C,hC,hCl,hCE,hi⟩,hrc,hmo⟩
    refine ⟨C,?_,fun k hk=>?_,hI' _ _ _ _ hi ((Fr.refl _ W2).putObj _ (fun h=>h.elim hCl (fun h=>by have:=hDl _ h;omega)))⟩
    ·refine ⟨hf.os.trans hb1.os,hf.tape.trans hb1.tape,hf.output.trans hb1.output,by have:=hf.size;simp;omega,fun k hk hc=>?_⟩
     rw [World.putObj_heap_other (by omega),hf.same k (by omega) (fun h=>?_),hb1.block k hk]
     rcases h with h | h | h
     ·exact hc h
     ·omega
     ·cases h
    ·rcases hA k ((hC k).2 (Or.inl hk)) with h | h | h
     ·rcases h with h | rfl | h
      ·exact Or.inl h
      ·exact absurd hk hCl
      ·have:=hCE k hk
       (try dsimp only at this h)
       first | (rw [this] at h;cases h) | cases h
     ·exact h.elim
     ·exact Or.inr ⟨by omega,by simpa using h.2⟩
   rintro e W2 ⟨⟨v,rfl⟩,hf,C',hA,(hJ | ⟨pre,hp,c,hJ⟩)⟩
   ·obtain ⟨C,k1,k2,k3⟩:=key I hI r { r with state:=.exhausted,pending:=none } xs C' W2 hf hA hJ
    exact ⟨none,_,by have:=run_endLoop (P:=P) hJ.rcd (by rw [hst];simp);rw [hpe] at this;exact this,hdone C _ k1 k2 k3⟩
   ·obtain ⟨C,k1,k2,k3⟩:=key (Ix c) (hIx c) _ { r with state:=.exhausted,pending:=some c } pre C' W2 hf hA hJ
    exact ⟨some c,_,run_endLoop (P:=P) hJ.rcd (by simp),hstop c pre C _ hp k1 k2 k3⟩
end
section
open Go.RowKit Go.Shelf
attribute [local go_sem] Oper.semAt_some
theorem yieldAt_any {m m':Nat} {P:Program} {l:Nat} {vs:Array Value} {W:World} {R:Ending→World→Prop} (h:YieldAt Fence.wide m P l vs W R):YieldAt Fence.wide m' P l vs W R:=by
 obtain ⟨fn,tmps,assign,body,hy,hR⟩:=h
 exact ⟨fn,tmps,assign,body,hy,hR.1,fun c cs _=>hR.2 c cs (room_wide _)⟩
structure VOk {α:Type} (V:α→Array Value→(Nat→Prop)→World→Prop):Prop where
 form:∀ x vs O W,V x vs O W→∃ a1 n1 c1 a2 n2 c2,vs=#[.agg #[.slice a1 n1 c1,.slice a2 n2 c2]]
 fr:∀ x vs O W W',V x vs O W→Fr O W W'→V x vs O W'
 lt:∀ x vs O W k,V x vs O W→O k→k < W.heap.size
def ChoiceC {α:Type} (V:α→Array Value→(Nat→Prop)→World→Prop) (D:Nat→Prop) (cf:Nat) (lc:Array Value) (ch:α→List α) (w:World):Prop :=
 (∀ args w,(callFunc cf args).run Tryz.prog w=.ok (.enter cf args) w)∧∀ x vs O W,Fr D w W→V x vs O W→(∀ k,O k→¬ D k) →
  Calls Tryz.prog cf (vs++lc) W fun e W'=>∃ hf lh,e=.returned (.func (.func hf) #[] lh)∧(∀ args w,(callFunc hf args).run Tryz.prog w=.ok (.enter hf args) w)∧Below W.heap.size W W'∧∀ n,SeqC Fence.wide n Tryz.prog hf lh V (fun k=>D k∨O k∨(W.heap.size≤k∧k < W'.heap.size)) (ch x) W'
theorem flatMap_pre {α:Type} {ch:α→List α} {xs pre pre':List α} {x y:α} (h:pre++[x] <+: xs) (h':pre'++[y] <+: ch x):(pre.flatMap ch++pre')++[y] <+: xs.flatMap ch:=by
 obtain ⟨t,rfl⟩:=h
 obtain ⟨t',ht⟩:=h'
 refine ⟨t'++t.flatMap ch,?_⟩
 rw [List.flatMap_append,List.flatMap_append,List.flatMap_cons,List.flatMap_nil,List.append_nil,← ht]
 simp
structure EachI {α:Type} (J:List α→(Nat→Prop)→World→Prop) (l Y:Nat) (D:Nat→Prop) (w:World) (p:List α) (C':Nat→Prop) (W':World):Prop where
 ex:∃ Cj,(∀ k,C' k↔Cj k∨k=Y)∧¬ Cj Y∧J p Cj W'
 box:Boxed W' Y 168 (.func (.yield l) #[] #[])
 fr:Fr D w W'
 bd:∀ k,C' k→k < W'.heap.size∧¬ D k
structure EachX {α:Type} (Jx:List α→(Nat→Prop)→World→Prop) (Y:Nat) (c:Code) (p:List α) (C':Nat→Prop) (W':World):Prop where
 ret:c=.ret
 ex:∃ Cj p2,(∀ k,C' k↔Cj k∨k=Y)∧¬ Cj Y∧p2 <+: p∧Jx p2 Cj W'
theorem EachI.frames {α:Type} {J:List α→(Nat→Prop)→World→Prop} {l Y:Nat} {D D':Nat→Prop} {w:World} (hJ:Frames D J) (hD:∀ k,D k→D' k) {β:Type} (f:β→List α):Frames D' (fun p=>EachI J l Y D w (f p)):=by
 rintro p C' A B ⟨⟨Cj,h1,h2,h3⟩,h4,h5,h6⟩ hf
 exact ⟨⟨Cj,h1,h2,hJ _ _ _ _ h3 (hf.mono fun k _ hk=>hk.imp (fun h=>(h1 k).2 (Or.inl h)) (hD k))⟩,hf.heap (Or.inl ((h1 Y).2 (Or.inr rfl))) h4,h5.trans (hf.mono fun k _ hk=>Or.inr (hD k hk)),fun k hk=>⟨Nat.lt_of_lt_of_le (h6 k hk).1 hf.size,(h6 k hk).2⟩⟩
theorem EachX.frames {α:Type} {Jx:List α→(Nat→Prop)→World→Prop} {Y:Nat} {D D':Nat→Prop} (hJx:Frames D Jx) (hD:∀ k,D k→D' k) {β:Type} (f:β→List α) (c:Code):Frames D' (fun p=>EachX Jx Y c (f p)):=by
 rintro p C' A B ⟨e,Cj,p2,h1,h2,h3,h4⟩ hf
 exact ⟨e,Cj,p2,h1,h2,h3,hJx _ _ _ _ h4 (hf.mono fun k _ hk=>hk.imp (fun h=>(h1 k).2 (Or.inl h)) (hD k))⟩
set_option maxRecDepth 100000 in
set_option maxHeartbeats 4000000 in
theorem each_seq {α:Type} {V:α→Array Value→(Nat→Prop)→World→Prop} (hV:VOk V) {D:Nat→Prop} {gf cf:Nat} {lb lc:Array Value} {xs:List α} {ch:α→List α} {w:World} {bw bc:Nat}
  (hbw:w.cell? ⟨bw,0,none⟩=some (.func (.func gf) #[] lb)) (hbc:w.cell? ⟨bc,0,none⟩=some (.func (.func cf) #[] lc)) (hDw:D bw) (hDc:D bc) (hDl:∀ k,D k→k < w.heap.size)
  (eg:∀ args w,(callFunc gf args).run Tryz.prog w=.ok (.enter gf args) w) (hseq:∀ n,SeqC Fence.wide n Tryz.prog gf lb V D xs w) (hch:ChoiceC V D cf lc ch w) (n:Nat) :
  SeqC Fence.wide n Tryz.prog 128 #[.pointer (some ⟨bw,0,none⟩),.pointer (some ⟨bc,0,none⟩)] V D (xs.flatMap ch) w:=by
 intro l J Jx C W hW hC hJ hJx hY h0
 refine callsIn_wide.2 (callsIn_wide (n:=9) |>.1 ?_)
 refine callsIn_of_wp_marks Tryz.func128 rfl trivial ?_ rfl
 simp only [Tryz.ntmps128,List.size_toArray,List.length_cons,List.length_nil,Nat.reduceAdd,Nat.reduceSub,Array.replicate_succ,Array.replicate_zero,List.push_toArray,List.append_toArray,List.nil_append,List.cons_append]
 have b0:Below W.heap.size W (W.alloc (.cells #[.func (.yield l) #[] #[]] 168)):=(Below.refl _ W).alloc (Nat.le_refl _) _
 have hW0:Fr D w (W.alloc (.cells #[.func (.yield l) #[] #[]] 168)):=hW.trans (.of_below b0)
 have bY:=Boxed.new W 168 (.func (.yield l) #[] #[])
 have cw:=hW0.cell hDw hbw
 have sz0:(W.alloc (.cells #[.func (.yield l) #[] #[]] 168)).heap.size=W.heap.size+1:=by simp
 have hwl:w.heap.size≤W.heap.size:=hW.size
 have hDW:∀ k,D k→k < W.heap.size:=fun k hk=>by have:=hDl k hk;omega
 gi_wp2
 obtain ⟨Y,hYe⟩:∃ Y,W.heap.size=Y:=⟨_,rfl⟩
 rw [hYe] at b0 bY sz0 hwl hDW ⊢
 generalize hW0e:W.alloc (.cells #[.func (.yield l) #[] #[]] 168)=W0 at *
 have h0':J [] C W0:=hJ _ _ _ _ h0 (.of_below (by rw [hYe];exact b0))
 clear cw
 refine rv_outer (n:=9) (a:=_) (D:=D) (xs:=xs) (w0:=w) (C0:=fun k=>C k∨k=Y) rfl (by omega) (gf:=gf) (lb:=lb) rfl trivial eg (hseq 8) hW0 (fun k hk=>by have:=hDW k hk;omega) (V:=V)
  (fun x vs O W h=>by obtain ⟨_,_,_,_,_,_,rfl⟩:=hV.form x vs O W h;rfl) (fun k hk=>?c0)
  (fun pre=>EachI J l Y D w (pre.flatMap ch))
  (fun c pre=>EachX Jx Y c (pre.flatMap ch))
  ?hI ?hIx ?h0 ?round ?done ?stop
 case c0 =>
  rcases hk with hk | rfl
  ·exact ⟨by have:=(hC k hk).1;omega,(hC k hk).2⟩
  ·exact ⟨by omega,fun h=>by have:=hDW _ h;omega⟩
 case hI=>exact EachI.frames hJ (fun _ h=>h) (fun pre:List α=>pre.flatMap ch)
 case hIx=>exact fun c=>EachX.frames hJx (fun _ h=>h) (fun pre:List α=>pre.flatMap ch) c
 case h0=>exact ⟨⟨C,fun k=>Iff.rfl,fun h=>by have:=(hC Y h).1;omega,h0'⟩,bY,hW0,fun k hk=>by
   rcases hk with hk | rfl
   ·exact ⟨by have:=(hC k hk).1;omega,(hC k hk).2⟩
   ·exact ⟨by omega,fun h=>by have:=hDW _ h;omega⟩⟩
 case round =>
  rintro l1 pre C1 x vs O W1 hb ⟨r1,hr1⟩ hCl hOl hpx ⟨⟨Cj,hCj,hCjY,hj⟩,bY1,hF1,hB1⟩ hVx hO
  obtain ⟨a1,n1,c1,a2,n2,c2,rfl⟩:=hV.form _ _ _ _ hVx
  have hl1:l1 < W1.heap.size:=(Array.getElem?_eq_some_iff.1 hr1).1
  gi_wp2
  refine ⟨.of_below ((Below.refl _ W1).alloc (Nat.le_refl _) _),fun Wb hfb=>?_⟩
  intro hrb0
  obtain ⟨rb,hrb⟩:=hrb0
  have hYl:Y < l1:=by omega
  have hDl1:∀ k,D k→k≠l1:=fun k hk=>by have:=hDW k hk;omega
  have hW1b:Fr (fun k=>k≠l1) W1 Wb:=(Fr.of_below ((Below.refl _ W1).alloc (Nat.le_refl _) _)).trans hfb
  have hFb:Fr D w Wb:=hF1.trans (hW1b.mono fun k _ hk=>hDl1 k hk)
  have cc:=hFb.cell hDc hbc
  have bYb:Boxed Wb Y 168 (.func (.yield l) #[] #[]):=hW1b.heap (by omega) bY1
  have cx0:Wb.cell? ⟨W1.heap.size,0,none⟩=some (.slice a1 n1 c1):=hfb.cell (by show W1.heap.size≠l1;omega) (by simp)
  have cx1:Wb.cell? ⟨W1.heap.size,1,none⟩=some (.slice a2 n2 c2):=hfb.cell (by show W1.heap.size≠l1;omega) (by simp)
  have hVb:=hV.fr _ _ _ _ _ hVx (hW1b.mono fun k _ hk e=>hOl (e▸hk))
  have hCh:=hch.2 x _ O Wb hFb hVb (fun k hk=>(hO k hk).2)
  have ec:=hch.1
  gi_wp2
  refine ⟨trivial,(CallsIn.inRound l1 (callsIn_wide.2 hCh)).mono ?_⟩
  rintro e W5 ⟨hf,lh,rfl,ef,b5,hsq⟩
  have hlb:l1 < Wb.heap.size:=(Array.getElem?_eq_some_iff.1 hrb).1
  have hr5:W5.heap[l1]?=some (.loop rb):=(b5.block l1 hlb).trans hrb
  have hYb:Y < Wb.heap.size:=by omega
  have bY5:Boxed W5 Y 168 (.func (.yield l) #[] #[]):=(b5.block Y hYb).trans bYb
  have hF5:Fr D w W5:=hFb.trans (.of_below b5)
  have s1b:=hW1b.size
  have sb5:=b5.size
  have hj5:J (pre.flatMap ch) Cj W5:=hJ _ _ _ _ hj ((hW1b.mono fun k _ hk e=>by
   rcases hk with hk | hk
   ·exact hCl (e▸(hCj k).2 (Or.inl hk))
   ·exact hDl1 k hk e).trans (.of_below b5))
  gi_wp2
  refine rv_inner (n:=7) (l₀:=l1) (r₀:=rb) (D:=fun k=>D k∨O k∨(Wb.heap.size≤k∧k < W5.heap.size)) (xs:=ch x) (w0:=W5) (C0:=C1) rfl hr5 (by omega) (gf:=hf) (lb:=lh) rfl trivial ef ((hsq 6).inRound l1) (Fr.refl _ W5) (fun k hk=>?d2) (V:=V)
   (fun x vs O W h=>by obtain ⟨_,_,_,_,_,_,rfl⟩:=hV.form x vs O W h;rfl) (fun k hk=>?c2)
   (fun pre'=>EachI J l Y D w (pre.flatMap ch++pre'))
   (fun c pre'=>EachX Jx Y c (pre.flatMap ch++pre'))
   ?hI2 ?hIx2 ?h02 ?round2 ?done2 ?stop2
  case d2 =>
   rcases hk with hk | hk | hk
   ·have:=hDW k hk;omega
   ·have:=hV.lt _ _ _ _ k hVb hk;omega
   ·exact hk.2
  case c2 =>
   have h1:=hB1 k hk
   refine ⟨by omega,?_⟩
   rintro (h | h | h)
   ·exact h1.2 h
   ·exact (hO k h).1 hk
   ·omega
  case hI2=>exact EachI.frames hJ (fun _ h=>Or.inl h) (fun pre':List α=>pre.flatMap ch++pre')
  case hIx2=>exact fun c=>EachX.frames hJx (fun _ h=>Or.inl h) (fun pre':List α=>pre.flatMap ch++pre') c
  case h02=>exact ⟨⟨Cj,hCj,hCjY,by rw [List.append_nil];exact hj5⟩,bY5,hF5,fun k hk=>⟨by have:=(hB1 k hk).1;omega,(hB1 k hk).2⟩⟩
  case round2 =>
   rintro l2 pre' C2 y vs2 O2 W6 hb2 ⟨r2,hr2⟩ hCl2 hOl2 hpy ⟨⟨Cj2,hCj2,hCjY2,hj2⟩,bY2,hF2,hB2⟩ hVy hO2
   obtain ⟨d1,m1,e1,d2,m2,e2,rfl⟩:=hV.form _ _ _ _ hVy
   have hl2:l2 < W6.heap.size:=(Array.getElem?_eq_some_iff.1 hr2).1
   gi_wp2
   refine ⟨.of_below ((Below.refl _ W6).alloc (Nat.le_refl _) _),fun Wc hfc=>?_⟩
   intro rc hrc
   have hYl2:Y < l2:=by omega
   have hDl2:∀ k,D k→k≠l2:=fun k hk=>by have:=hDW k hk;omega
   have hW6c:Fr (fun k=>k≠l2) W6 Wc:=(Fr.of_below ((Below.refl _ W6).alloc (Nat.le_refl _) _)).trans hfc
   have bYc:Boxed Wc Y 168 (.func (.yield l) #[] #[]):=hW6c.heap (by omega) bY2
   have cY:=bYc.cell
   have cy0:Wc.cell? ⟨W6.heap.size,0,none⟩=some (.slice d1 m1 e1):=hfc.cell (by show W6.heap.size≠l2;omega) (by simp)
   have cy1:Wc.cell? ⟨W6.heap.size,1,none⟩=some (.slice d2 m2 e2):=hfc.cell (by show W6.heap.size≠l2;omega) (by simp)
   have hVc:=hV.fr _ _ _ _ _ hVy (hW6c.mono fun k _ hk e=>hOl2 (e▸hk))
   have hjc:J (pre.flatMap ch++pre') Cj2 Wc:=hJ _ _ _ _ hj2 (hW6c.mono fun k _ hk e=>by
    rcases hk with hk | hk
    ·exact hCl2 (e▸(hCj2 k).2 (Or.inl hk))
    ·exact hDl2 k hk e)
   obtain ⟨fn,tmps,assign,body,hy,hR⟩:=yieldAt_any (m':=4) (hY _ Cj2 y _ O2 Wc (flatMap_pre hpx hpy) hjc hVc (fun k hk=>⟨fun h=>(hO2 k hk).1 ((hCj2 k).2 (Or.inl h)),fun h=>(hO2 k hk).2 (Or.inl h)⟩))
   have s6c:=hW6c.size
   have hFc:Fr D w Wc:=hF2.trans (hW6c.mono fun k _ hk=>hDl2 k hk)
   have hYc:Y < Wc.heap.size:=by omega
   have fin:∀ (C7:Nat→Prop) (W7:World),Fr (fun k=>¬ Cj2 k∧¬ O2 k) Wc W7→Adds Cj2 O2 C7 Wc W7→Fr (fun k=>¬ C2 k∧¬ O2 k) Wc W7∧Adds C2 O2 (fun k=>C7 k∨k=Y) W6 W7∧¬ C7 Y∧Boxed W7 Y 168 (.func (.yield l) #[] #[])∧Fr D w W7∧∀ k,(C7 k∨k=Y)→k < W7.heap.size∧¬ D k:=by
    intro C7 W7 hf7 hA7
    have hOY:¬ O2 Y:=fun h=>(hO2 Y h).1 ((hCj2 Y).2 (Or.inr rfl))
    have hCY:¬ C7 Y:=fun h=>by
     rcases hA7 Y h with h | h | h
     ·exact hCjY2 h
     ·exact hOY h
     ·omega
    have sc7:=hf7.size
    refine ⟨hf7.mono fun k _ hk=>⟨fun h=>hk.1 ((hCj2 k).2 (Or.inl h)),hk.2⟩,fun k hk=>?_,hCY,hf7.heap ⟨hCjY2,hOY⟩ bYc,hFc.trans (hf7.mono fun k _ hk=>⟨fun h=>(hB2 k ((hCj2 k).2 (Or.inl h))).2 hk,fun h=>(hO2 k h).2 (Or.inl hk)⟩),fun k hk=>?_⟩
    ·rcases hk with hk | rfl
     ·rcases hA7 k hk with h | h | h
      ·exact Or.inl ((hCj2 k).2 (Or.inl h))
      ·exact Or.inr (Or.inl h)
      ·exact Or.inr (Or.inr ⟨by omega,h.2⟩)
     ·exact Or.inl ((hCj2 k).2 (Or.inr rfl))
    ·rcases hk with hk | rfl
     ·rcases hA7 k hk with h | h | h
      ·have:=hB2 k ((hCj2 k).2 (Or.inl h))
       exact ⟨by omega,this.2⟩
      ·exact ⟨by have:=hV.lt _ _ _ _ k hVc h;omega,fun hd=>(hO2 k h).2 (Or.inl hd)⟩
      ·exact ⟨h.2,fun hd=>by have:=hDW k hd;omega⟩
     ·exact ⟨by omega,fun hd=>by have:=hDW k hd;omega⟩
   gi_wp2
   refine (show RoundIn ((Fence.wide.inRound l1).inRound l2) 4 Tryz.prog l fn tmps assign body Wc _ from hR).mono ?_
   rintro e W7 ⟨hf7,C7,hA7,(⟨rfl,hj7⟩ | ⟨rfl,hj7⟩)⟩
   ·obtain ⟨k1,k2,k3,k4,k5,k6⟩:=fin C7 W7 hf7 hA7
    gi_wp2
    exact ⟨k1,_,k2,⟨C7,fun k=>Iff.rfl,k3,by rw [← List.append_assoc];exact hj7⟩,k4,k5,k6⟩
   ·obtain ⟨k1,k2,k3,k4,k5,k6⟩:=fin C7 W7 hf7 hA7
    gi_wp2
    exact ⟨k1,_,k2,rfl,C7,_,fun k=>Iff.rfl,k3,by rw [← List.append_assoc];exact List.prefix_rfl,hj7⟩
  case done2 =>
   rintro C' W' hf' hb' ⟨⟨Cj',h1,h2,h3⟩,h4,h5,h6⟩
   gi_wp2
   refine ⟨(Fr.of_below b5).trans (hf'.mono fun k _ hk=>hk.1),C',fun k hk=>?_,⟨Cj',h1,h2,by rw [List.flatMap_append,List.flatMap_cons,List.flatMap_nil,List.append_nil];exact h3⟩,h4,h5,h6⟩
   rcases hb' k hk with h | h
   ·exact Or.inl h
   ·exact Or.inr (Or.inr ⟨by omega,h.2⟩)
  case stop2 =>
   rintro c p C' W' hp hf' hb' ⟨rfl,Cj',p2,h1,h2,h3,h4⟩
   gi_wp2
   refine ⟨(Fr.of_below b5).trans (hf'.mono fun k _ hk=>hk.1),C',fun k hk=>?_,rfl,Cj',p2,h1,h2,?_,h4⟩
   ·rcases hb' k hk with h | h
    ·exact Or.inl h
    ·exact Or.inr (Or.inr ⟨by omega,h.2⟩)
   ·rw [List.flatMap_append,List.flatMap_cons,List.flatMap_nil,List.append_nil]
    exact h3.trans ((List.prefix_append_right_inj _).2 hp)
 case done =>
  rintro C' W' hf' hb' ⟨⟨Cj',h1,h2,h3⟩,h4,h5,h6⟩ hK
  have hNo:∀ k,Cj' k→k≠W0.heap.size:=fun k hk e=>by
   rcases hb' k ((h1 k).2 (Or.inl hk)) with (h | h) | h
   ·have:=(hC k h).1;omega
   ·omega
   ·omega
  have fW:Fr (fun k=>¬ C k) W (W'.putObj W0.heap.size (.deferred none)):=by
   refine ⟨hf'.os.trans b0.os,hf'.tape.trans b0.tape,hf'.output.trans b0.output,by have:=hf'.size;simp;omega,fun k hk hc=>?_⟩
   rw [World.putObj_heap_other (by omega),hf'.same k (by omega) (fun h=>h.elim hc (by omega)),b0.block k (by omega)]
  have fA:Adds C (fun _=>False) Cj' W (W'.putObj W0.heap.size (.deferred none)):=fun k hk=>by
   rcases hb' k ((h1 k).2 (Or.inl hk)) with (h | rfl) | h
   ·exact Or.inl h
   ·exact absurd hk h2
   ·exact Or.inr (Or.inr ⟨by omega,by simpa using h.2⟩)
  have fP:Fr (fun k=>Cj' k∨D k) W' (W'.putObj W0.heap.size (.deferred none)):=(Fr.refl _ W').putObj _ (fun h=>h.elim (fun h=>hNo _ h rfl) (fun h=>by have:=hDW _ h;omega))
  gi_wp2
  refine ⟨by simp,.inl ⟨_,_,rfl,run_takeDeferred hK,?_⟩⟩
  exact ⟨_,results_none rfl _ _ _,⟨_,rfl⟩,fW,Cj',fA,Or.inl (hJ _ _ _ _ h3 fP)⟩
 case stop =>
  rintro c p C' W' hp hf' hb' ⟨rfl,Cj',p2,h1,h2,h3,h4⟩ hK
  have hNo:∀ k,Cj' k→k≠W0.heap.size:=fun k hk e=>by
   rcases hb' k ((h1 k).2 (Or.inl hk)) with (h | h) | h
   ·have:=(hC k h).1;omega
   ·omega
   ·omega
  have fW:Fr (fun k=>¬ C k) W (W'.putObj W0.heap.size (.deferred none)):=by
   refine ⟨hf'.os.trans b0.os,hf'.tape.trans b0.tape,hf'.output.trans b0.output,by have:=hf'.size;simp;omega,fun k hk hc=>?_⟩
   rw [World.putObj_heap_other (by omega),hf'.same k (by omega) (fun h=>h.elim hc (by omega)),b0.block k (by omega)]
  have fA:Adds C (fun _=>False) Cj' W (W'.putObj W0.heap.size (.deferred none)):=fun k hk=>by
   rcases hb' k ((h1 k).2 (Or.inl hk)) with (h | rfl) | h
   ·exact Or.inl h
   ·exact absurd hk h2
   ·exact Or.inr (Or.inr ⟨by omega,by simpa using h.2⟩)
  have fP:Fr (fun k=>Cj' k∨D k) W' (W'.putObj W0.heap.size (.deferred none)):=(Fr.refl _ W').putObj _ (fun h=>h.elim (fun h=>hNo _ h rfl) (fun h=>by have:=hDW _ h;omega))
  have hpp:p2 <+: xs.flatMap ch:=h3.trans (by
   obtain ⟨q,rfl⟩:=hp
   rw [List.flatMap_append]
   exact List.prefix_append _ _)
  gi_wp2
  refine ⟨by simp,.inl ⟨_,_,rfl,run_takeDeferred hK,?_⟩⟩
  exact ⟨_,results_none rfl _ _ _,⟨_,rfl⟩,fW,Cj',fA,Or.inr ⟨p2,hpp,hJx _ _ _ _ h4 fP⟩⟩
end
section
open Go.RowKit
theorem own_fr {W W':World} {O:Nat→Prop} {B:Nat} {e:TypeId} {z:Nat} {v:Value} {n:Nat} {xs:List Value} (h:W.ownsRow B e z v n xs) (hf:Fr O W W') (hO:∀ k,v.ownBlock=some k→O k):W'.ownsRow B e z v n xs:=by
 obtain ⟨h1,h2⟩:=h
 refine ⟨h1,?_⟩
 rcases h2 with h2 | ⟨g,cap,cur,hv,hg,hh,r⟩
 ·exact .inl h2
 ·exact .inr ⟨g,cap,cur,hv,hg,hf.heap (hO g (by rw [hv];rfl)) hh,r⟩
theorem own_base {W:World} {B B':Nat} {e:TypeId} {z:Nat} {v:Value} {n:Nat} {xs:List Value} (h:W.ownsRow B e z v n xs) (hB:∀ k,v.ownBlock=some k→B'≤k):W.ownsRow B' e z v n xs:=by
 obtain ⟨h1,h2⟩:=h
 refine ⟨h1,?_⟩
 rcases h2 with h2 | ⟨g,cap,cur,hv,hg,hh,r⟩
 ·exact .inl h2
 ·exact .inr ⟨g,cap,cur,hv,hB g (by rw [hv];rfl),hh,r⟩
def Blks (fv ov:Value) (cs:List Value) (k:Nat):Prop:=fv.ownBlock=some k∨ov.ownBlock=some k∨∃ u∈cs,u.ownBlock=some k
theorem Xw.mem {W:World} {B:Nat} {fv ov:Value} {l:List Int} {cs:List Value} {rows:List (List Int)} (h:Xw W B fv ov l cs rows) {u:Value} (hu:u∈cs):∃ r,W.ownsRow B 3 1 u r.length (nums r):=by
 obtain ⟨i,hi,e⟩:=List.mem_iff_getElem.1 hu
 have hl:cs.length=rows.length:=by have:=h.ord.1;omega
 obtain ⟨u',e1,e2,_⟩:=h.row i (by omega)
 rw [List.getElem?_eq_getElem hi,e] at e1
 rw [Option.some.inj e1]
 exact ⟨_,e2⟩
theorem Xw.fr {W W':World} {O:Nat→Prop} {B:Nat} {fv ov:Value} {l:List Int} {cs:List Value} {rows:List (List Int)} (h:Xw W B fv ov l cs rows) (hf:Fr O W W') (hO:∀ k,Blks fv ov cs k→O k):Xw W' B fv ov l cs rows :=
 ⟨own_fr h.from_ hf (fun k hk=>hO k (Or.inl hk)),own_fr h.ord hf (fun k hk=>hO k (Or.inr (Or.inl hk))),fun i hi=>by
  obtain ⟨u,e1,e2,e3⟩:=h.row i hi
  exact ⟨u,e1,own_fr e2 hf (fun k hk=>hO k (Or.inr (Or.inr ⟨u,List.mem_of_getElem? e1,hk⟩))),e3⟩,h.apart,h.each⟩
theorem Xw.blk_lt {W:World} {B:Nat} {fv ov:Value} {l:List Int} {cs:List Value} {rows:List (List Int)} (h:Xw W B fv ov l cs rows) {k:Nat} (hk:Blks fv ov cs k):B≤k∧k < W.heap.size:=by
 rcases hk with hk | hk | ⟨u,hu,hk⟩
 ·exact h.from_.lt k hk
 ·exact h.ord.lt k hk
 ·obtain ⟨r,hr⟩:=h.mem hu
  exact hr.lt k hk
theorem Xw.base {W:World} {B B':Nat} {fv ov:Value} {l:List Int} {cs:List Value} {rows:List (List Int)} (h:Xw W B fv ov l cs rows) (hB:∀ k,Blks fv ov cs k→B'≤k):Xw W B' fv ov l cs rows :=
 ⟨own_base h.from_ (fun k hk=>hB k (Or.inl hk)),own_base h.ord (fun k hk=>hB k (Or.inr (Or.inl hk))),fun i hi=>by
  obtain ⟨u,e1,e2,e3⟩:=h.row i hi
  exact ⟨u,e1,own_base e2 (fun k hk=>hB k (Or.inr (Or.inr ⟨u,List.mem_of_getElem? e1,hk⟩))),e3⟩,h.apart,h.each⟩
structure WayV (Q:M.Wy→Prop) (x:M.Wy) (vs:Array Value) (O:Nat→Prop) (W:World):Prop where
 ex:∃ fv ov cs,vs=#[.agg #[fv,ov]]∧Xw W 0 fv ov x.1 cs x.2∧∀ k,O k↔Blks fv ov cs k
 ok:Q x
theorem WayV.vok (Q:M.Wy→Prop):VOk (WayV Q):=by
 refine ⟨?_,?_,?_⟩
 ·rintro x vs O W ⟨⟨fv,ov,cs,rfl,hx,hO⟩,_⟩
  obtain ⟨a1,c1,rfl⟩:=own_slx hx.from_
  obtain ⟨a2,c2,rfl⟩:=own_slx hx.ord
  exact ⟨_,_,_,_,_,_,rfl⟩
 ·rintro x vs O W W' ⟨⟨fv,ov,cs,rfl,hx,hO⟩,hq⟩ hf
  exact ⟨⟨fv,ov,cs,rfl,hx.fr hf (fun k hk=>(hO k).2 hk),hO⟩,hq⟩
 ·rintro x vs O W k ⟨⟨fv,ov,cs,rfl,hx,hO⟩,hq⟩ hk
  exact (hx.blk_lt ((hO k).1 hk)).2
theorem WyAns.way {w w':World} {fv ov:Value} {l:List Int} {rows:List (List Int)} (h:WyAns w w' fv ov l rows) {Q:M.Wy→Prop} (hq:Q (l,rows)):∃ O:Nat→Prop,WayV Q (l,rows) #[.agg #[fv,ov]] O w'∧∀ k,O k→w.heap.size≤k∧k < w'.heap.size:=by
 obtain ⟨cs,hx⟩:=h.ex
 exact ⟨Blks fv ov cs,⟨⟨fv,ov,cs,rfl,hx.base (fun _ _=>Nat.zero_le _),fun _=>Iff.rfl⟩,hq⟩,fun k hk=>hx.blk_lt hk⟩
theorem Xw.reads {W:World} {B:Nat} {fv ov:Value} {l:List Int} {cs:List Value} {rows:List (List Int)} (h:Xw W B fv ov l cs rows):∃ a1 b1 c1 a2 b2 c2,fv=.slice a1 l.length c1∧ov=.slice a2 rows.length c2∧IntS W a1 b1 0 l∧IntSS W a2 b2 0 rows:=by
 obtain ⟨a1,b1,c1,rfl,i1,_⟩:=own_ints h.from_
 obtain ⟨a2,c2,rfl⟩:=own_slx h.ord
 rcases h.ord.2 with ⟨hv,hn⟩ | ⟨g,cap,cur,hv,hg,hh,hc,r⟩
 ·have:rows=[]:=List.length_eq_zero_iff.1 hn
  subst this
  exact ⟨a1,b1,c1,a2,0,c2,rfl,rfl,i1,⟨fun h=>absurd h (Nat.lt_irrefl _),fun i hi=>absurd hi (Nat.not_lt_zero _)⟩⟩
 ·simp only [Value.slice.injEq] at hv
  obtain ⟨rfl,_,rfl⟩:=hv
  refine ⟨a1,b1,c1,_,g,c2,rfl,rfl,i1,⟨fun _=>rfl,fun i hi=>?_⟩⟩
  obtain ⟨u,e1,e2,_⟩:=h.row i hi
  obtain ⟨a',b',c',rfl,i',_⟩:=own_ints e2
  have hcell:=h.ord.cells (g:=g) rfl i _ e1
  rw [Go.WideShapes.add_plain] at hcell
  exact ⟨a',b',0,c',hcell,i'⟩
end
section
open Go.RowKit Go.Shelf
attribute [local go_sem] Oper.semAt_some
theorem IntS.fr {w W:World} {D:Nat→Prop} {a:Option Addr} {b o:Nat} {l:List Int} (h:IntS w a b o l) (hf:Fr D w W) (hD:0 < l.length→D b):IntS W a b o l :=
 ⟨h.addr,fun i hi=>hf.cell (p:=⟨b,o+i,none⟩) (hD (by omega)) (h.row i hi)⟩
theorem DeS.fr {w W:World} {D:Nat→Prop} {va:Option Addr} {g:Nat} {l:List M.De} (h:DeS w va g l) (hf:Fr D w W) (hD:0 < l.length→D g):DeS W va g l :=
 ⟨h.addr,fun n hn j hj=>by
  have hs:(l[n].cells)[j]?=some ((l[n].cells)[j]'(by rw [M.De.len];exact hj)):=List.getElem?_eq_getElem _
  exact (hf.cell (p:=⟨g,n * 7+j,none⟩) (hD (by omega)) ((h.row n hn j hj).trans hs)).trans hs.symm⟩
structure FromD (D:Nat→Prop) (w:World) (Q:M.Wy→Prop) (ds:List M.De) (at_:Nat) (x:M.Wy) (sb xb ab lb:Nat):Prop where
 s:∃ sa sg sc,w.cell? ⟨sb,0,none⟩=some (.slice sa (M.srcs ds at_).length sc)∧IntS w sa sg 0 (M.srcs ds at_)∧D sg
 a:w.cell? ⟨ab,0,none⟩=some (.int .i64 at_)
 l:∃ va g c,w.cell? ⟨lb,0,none⟩=some (.slice va ds.length c)∧DeS w va g ds∧(0 < ds.length→D g)
 x:∃ fv ov cs,w.cell? ⟨xb,0,none⟩=some fv∧w.cell? ⟨xb,1,none⟩=some ov∧Xw w 0 fv ov x.1 cs x.2∧∀ k,Blks fv ov cs k→D k
 ds:D sb
 dx:D xb
 da:D ab
 dl:D lb
structure FromI {α:Type} (J:List α→(Nat→Prop)→World→Prop) (C D:Nat→Prop) (w W:World) (p:List α) (C':Nat→Prop) (wr:World):Prop where
 j:J p C' wr
 fc:Fr (fun k=>¬ C k) W wr
 ad:Adds C (fun _=>False) C' W wr
 fd:Fr D w wr
 bd:∀ k,C' k→k < wr.heap.size∧¬ D k
theorem FromI.below {α:Type} {J:List α→(Nat→Prop)→World→Prop} {C D:Nat→Prop} {w W:World} {p:List α} {C':Nat→Prop} {wr w':World} (h:FromI J C D w W p C' wr) (hJ:Frames D J) (hb:Below wr.heap.size wr w'):FromI J C D w W p C' w' :=
 ⟨hJ _ _ _ _ h.j (.of_below hb),h.fc.trans (.of_below hb),fun k hk=>(h.ad k hk).imp id (fun h=>h.imp id (fun h=>⟨h.1,Nat.lt_of_lt_of_le h.2 hb.size⟩)),h.fd.trans (.of_below hb),fun k hk=>⟨Nat.lt_of_lt_of_le (h.bd k hk).1 hb.size,(h.bd k hk).2⟩⟩
theorem FromI.round {α:Type} {J J':List α→(Nat→Prop)→World→Prop} {C D O:Nat→Prop} {w W:World} {p p':List α} {C' C2:Nat→Prop} {wr w':World} (h:FromI J C D w W p C' wr) (hW:W.heap.size≤wr.heap.size) (hDw:∀ k,D k→k < wr.heap.size) (hO:∀ k,O k→¬ D k∧W.heap.size≤k∧k < wr.heap.size) (hf:Fr (fun k=>¬ C' k∧¬ O k) wr w') (hA:Adds C' O C2 wr w') (hj:J' p' C2 w'):FromI J' C D w W p' C2 w':=by
 have hs:=hf.size
 refine ⟨hj,⟨hf.os.trans h.fc.os,hf.tape.trans h.fc.tape,hf.output.trans h.fc.output,by omega,fun k hk hc=>?_⟩,fun k hk=>?_,⟨hf.os.trans h.fd.os,hf.tape.trans h.fd.tape,hf.output.trans h.fd.output,Nat.le_trans h.fd.size hs,fun k hk hd=>?_⟩,fun k hk=>?_⟩
 ·rw [hf.same k (by omega) ⟨fun hc'=>(h.ad k hc').elim hc (fun h=>h.elim id (fun h=>by omega)),fun ho=>by have:=(hO k ho).2.1;omega⟩]
  exact h.fc.same k hk hc
 ·rcases hA k hk with h1 | h1 | h1
  ·rcases h.ad k h1 with h2 | h2 | h2
   ·exact Or.inl h2
   ·exact h2.elim
   ·exact Or.inr (Or.inr ⟨h2.1,by omega⟩)
  ·have:=hO k h1
   exact Or.inr (Or.inr ⟨this.2.1,by omega⟩)
  ·exact Or.inr (Or.inr ⟨by omega,h1.2⟩)
 ·rw [hf.same k (hDw k hd) ⟨fun hc'=>(h.bd k hc').2 hd,fun ho=>(hO k ho).1 hd⟩]
  exact h.fd.same k hk hd
 ·rcases hA k hk with h1 | h1 | h1
  ·have:=h.bd k h1
   exact ⟨by omega,this.2⟩
  ·have:=hO k h1
   exact ⟨by omega,this.1⟩
  ·exact ⟨h1.2,fun hd=>by have:=hDw k hd;omega⟩
theorem Xw.put {w:World} {base fb fc n k:Nat} {ov:Value} {l:List Int} {cs:List Value} {rows:List (List Int)} (v:Int) (h:Xw w base (.slice (some ⟨fb,0,none⟩) n fc) ov l cs rows):Xw (w.setCell ⟨fb,k,none⟩ (.int .i64 v)) base (.slice (some ⟨fb,0,none⟩) n fc) ov (l.set k v) cs rows:=by
 obtain ⟨fa,fc',ef⟩:=own_slx h.from_
 simp only [Value.slice.injEq] at ef
 obtain ⟨_,rfl,_⟩:=ef
 have hg:=grown_set w fb k (.int .i64 v)
 have e:nums (l.set k v)=(nums l).set k (.int .i64 v):=by simp [nums,List.map_set]
 refine ⟨?_,h.ord.kept hg ?_,fun i hi=>?_,h.apart,h.each⟩
 ·rw [List.length_set,e]
  exact (h.from_.stored k (.int .i64 v)).1
 ·cases ho:ov.ownBlock with
  | none=>exact .inl rfl
  | some g=>exact .inr (fun e'=>h.apart fb rfl (ho.trans e'))
 ·obtain ⟨u,e1,e2,e3,e4⟩:=h.row i hi
  refine ⟨u,e1,e2.kept hg ?_,e3,e4⟩
  cases ho:u.ownBlock with
  | none=>exact .inl rfl
  | some g=>exact .inr (fun e'=>e4 g ho (show some fb=some g from e'.symm))
def M.fromP (ds:List M.De) (at_:Nat) (x:M.Wy) (n:Nat):List M.Wy:=((M.srcs ds at_).take n).flatMap fun f=>if M.ends ds (x.1.set at_ f) then [(x.1.set at_ f,x.2)] else []
theorem M.fromP_step (ds:List M.De) (at_:Nat) (x:M.Wy) (n:Nat) (h:n < (M.srcs ds at_).length):M.fromP ds at_ x (n+1)=M.fromP ds at_ x n++if M.ends ds (x.1.set at_ (M.srcs ds at_)[n]) then [(x.1.set at_ (M.srcs ds at_)[n],x.2)] else []:=by
 unfold M.fromP
 rw [List.take_succ_eq_append_getElem h,List.flatMap_append,List.flatMap_cons,List.flatMap_nil,List.append_nil]
theorem M.fromP_pre (ds:List M.De) (at_:Nat) (x:M.Wy) (n:Nat):M.fromP ds at_ x n <+: M.chF ds at_ x:=by
 unfold M.fromP M.chF
 conv=>rhs;rw [← List.take_append_drop n (M.srcs ds at_),List.flatMap_append]
 exact List.prefix_append _ _
theorem M.fromP_all (ds:List M.De) (at_:Nat) (x:M.Wy) (n:Nat) (h:(M.srcs ds at_).length≤n):M.fromP ds at_ x n=M.chF ds at_ x:=by
 unfold M.fromP M.chF
 rw [List.take_of_length_le h]
set_option maxRecDepth 100000 in
set_option maxHeartbeats 4000000 in
theorem from_seq {D:Nat→Prop} {w:World} {Q:M.Wy→Prop} {ds:List M.De} {at_:Nat} {x:M.Wy} {sb xb ab lb:Nat} (h:FromD D w Q ds at_ x sb xb ab lb) (hDl:∀ k,D k→k < w.heap.size) (hat:at_ < ds.length) (hdl:ds.length≤1000) (hx1:x.1.length=ds.length) (hx2:x.2.length≤1000) (hx3:∀ r∈x.2,r.length≤1000)
  (hin:∀ f∈M.srcs ds at_,M.In ds (x.1.set at_ f)) (hq:∀ f∈M.srcs ds at_,Q (x.1.set at_ f,x.2)) (n:Nat) :
  SeqC Fence.wide n Tryz.prog 163 #[.pointer (some ⟨sb,0,none⟩),.pointer (some ⟨xb,0,none⟩),.pointer (some ⟨ab,0,none⟩),.pointer (some ⟨lb,0,none⟩)] (WayV Q) D (M.chF ds at_ x) w:=by
 intro l J Jx C W hW hC hJ hJx hY h0
 have hsl:(M.srcs ds at_).length≤1001:=by
  have:=M.wrs_len ((ds[at_]?.map fun x=>x.d.p).getD 0) ds 0
  simp only [M.srcs,List.length_cons]
  omega
 have hwW:=hW.size
 have HX1:Hid (x.1.length=ds.length):=hx1
 have hx1l:x.1.length≤1000:=by omega
 have hat1:at_ < x.1.length:=by omega
 clear hx1
 refine callsIn_wide.2 (callsIn_wide (n:=9) |>.1 ?_)
 refine callsIn_of_wp Tryz.func163 rfl trivial ?_ rfl
 simp only [Tryz.ntmps163,List.size_toArray,List.length_cons,List.length_nil,Nat.reduceAdd,Nat.reduceSub,Array.replicate_succ,Array.replicate_zero,List.push_toArray,List.append_toArray,List.nil_append,List.cons_append]
 obtain ⟨sa,sg,sc,s0,s2,s3⟩:=h.s
 have s1:=hW.cell h.ds s0
 gi_wp2
 gi_loopw [11] (fun s11 wr=>∃ (n:Nat) (C':Nat→Prop),s11=.int .i64 n∧n≤(M.srcs ds at_).length∧FromI J C D w W (M.fromP ds at_ x n) C' wr) (fun s11 _=>(M.srcs ds at_).length - (intOf s11).toNat)
 case atStart=>exact ⟨0,C,rfl,Nat.zero_le _,h0,Fr.refl _ _,fun k hk=>Or.inl hk,hW,hC⟩
 case round =>
  obtain ⟨n,C',rfl,hn,hI⟩:=hrel
  by_cases hlt:n < (M.srcs ds at_).length
  ·have sI:=s2.fr hI.fd (fun _=>s3)
   obtain rfl:=sI.addr (by omega)
   have sc0:=sI.row n hlt
   rw [Nat.zero_add] at sc0
   have hpre:=M.fromP_pre ds at_ x (n+1)
   have hstep:=M.fromP_step ds at_ x n hlt
   have hfin:=hin _ (List.getElem_mem hlt)
   have hfq:=hq _ (List.getElem_mem hlt)
   generalize (M.srcs ds at_)[n]=f at *
   have i1:(n:Int) < (M.srcs ds at_).length:=by omega
   obtain ⟨fv,ov,cs,x1,x2,x3,x4⟩:=h.x
   obtain ⟨a1,b1,c1,a2,b2,c2,rfl,rfl,r1,r2⟩:=(x3.fr hI.fd x4).reads
   have cx0:=hI.fd.cell h.dx x1
   have cx1:=hI.fd.cell h.dx x2
   have ca:=hI.fd.cell h.da h.a
   obtain ⟨va,g,lc,l1,l2,l3⟩:=h.l
   have cl:=hI.fd.cell h.dl l1
   have dl2:=DeS.fr l2 hI.fd l3
   have CX:=copyExec_any a1 b1 0 c1 x.1 a2 b2 0 c2 x.2 wr (by omega) (by omega) (fun t ht=>by have:=hx3 t ht;omega) r1 r2
   have hsw:=hI.fc.size
   gi_wp2_with fail
   refine ⟨trivial,(callsIn_wide.2 CX).mono ?_⟩
   rintro e w1 ⟨fv',ov',rfl,hA⟩
   have bw1:=hA.bel
   obtain ⟨cs',hx'⟩:=hA.ex
   obtain ⟨oa,oc,rfl⟩:=own_slx hx'.ord
   obtain ⟨fb,fc,rfl,hfb1,hfb2⟩:=hx'.from_.form (by omega)
   have lab:ab < wr.heap.size:=World.block_lt_of_cell? _ _ ca
   have llb:lb < wr.heap.size:=World.block_lt_of_cell? _ _ cl
   have hat':(at_:Int) < x.1.length:=by omega
   have hat0:¬ (at_:Int) < 0:=by omega
   have bB:=below1 w1 (.cells #[.slice (some ⟨fb,0,none⟩) x.1.length fc,.slice oa x.2.length oc] 122)
   have bwB:=bw1.trans (bB.mono bw1.size)
   have sY:SlotX (w1.alloc (.cells #[.slice (some ⟨fb,0,none⟩) x.1.length fc,.slice oa x.2.length oc] 122)) w1.heap.size (.slice (some ⟨fb,0,none⟩) x.1.length fc) (.slice oa x.2.length oc):=⟨heap_alloc_new _ _⟩
   have hxB:=hx'.below bB
   have caB:=(bwB.cell (p:=⟨ab,0,none⟩) lab).trans ca
   have clB:=(bwB.cell (p:=⟨lb,0,none⟩) llb).trans cl
   have rB:(w1.alloc (.cells #[.slice (some ⟨fb,0,none⟩) x.1.length fc,.slice oa x.2.length oc] 122)).cell? ⟨fb,at_,none⟩=some (.int .i64 x.1[at_]):=by
    have:=hxB.from_.cells (g:=fb) rfl at_ (.int .i64 x.1[at_]) (by simp [nums,hat1])
    rwa [Go.WideShapes.add_plain,Nat.zero_add] at this
   have zB:(w1.alloc (.cells #[.slice (some ⟨fb,0,none⟩) x.1.length fc,.slice oa x.2.length oc] 122)).frozen? ⟨fb,at_,none⟩=false:=by
    rcases hxB.from_.2 with ⟨hv,_⟩ | ⟨g',cap,cur,hv,_,hh,_⟩
    ·cases hv
    ·simp only [Value.slice.injEq,Option.some.injEq,Addr.mk.injEq] at hv
     obtain ⟨⟨rfl,_⟩,_⟩:=hv
     simp [World.frozen?,hh]
   have hYf:w1.heap.size≠fb:=by omega
   have y0:=sY.c0
   have y1:=sY.c1
   have bws:Below wr.heap.size wr (w1.setCell ⟨fb,at_,none⟩ (.int .i64 f)):=bw1.setCell hfb1 _
   have bB2:=below1 (w1.setCell ⟨fb,at_,none⟩ (.int .i64 f)) (.cells #[.slice (some ⟨fb,0,none⟩) x.1.length fc,.slice oa x.2.length oc] 122)
   have bw2:=bws.trans (bB2.mono bws.size)
   have xP:=(hx'.put (k:=at_) f).below bB2
   have sY2:SlotX ((w1.setCell ⟨fb,at_,none⟩ (.int .i64 f)).alloc (.cells #[.slice (some ⟨fb,0,none⟩) x.1.length fc,.slice oa x.2.length oc] 122)) w1.heap.size (.slice (some ⟨fb,0,none⟩) x.1.length fc) (.slice oa x.2.length oc):=⟨by have:=heap_alloc_new (w1.setCell ⟨fb,at_,none⟩ (.int .i64 f)) (.cells #[.slice (some ⟨fb,0,none⟩) x.1.length fc,.slice oa x.2.length oc] 122);rwa [World.size_setCell] at this⟩
   have cl2:=(bw2.cell (p:=⟨lb,0,none⟩) llb).trans cl
   have z0:=sY2.c0
   have z1:=sY2.c1
   clear cx0 cx1 sc0 clB bB sY hxB
   gi_wp2_with fail
   generalize (w1.setCell ⟨fb,at_,none⟩ (.int .i64 f)).alloc (.cells #[.slice (some ⟨fb,0,none⟩) x.1.length fc,.slice oa x.2.length oc] 122)=w2 at *
   have xf:=xP.from_
   rw [List.length_set] at xf
   obtain ⟨iF,_⟩:=own_at xf rfl
   have CE:=copiesEnd_any va g lc ds (some ⟨fb,0,none⟩) fb 0 fc (x.1.set at_ f) w2 (by rw [List.length_set];exact HX1.out) hfin (by omega) (dl2.bel bw2 (Nat.le_refl _)) iF
   rw [List.length_set] at CE
   refine ⟨trivial,(callsIn_wide.2 CE).mono ?_⟩
   rintro e w3 ⟨rfl,b3⟩
   have bw3:=bw2.trans (b3.mono bw2.size)
   have hI3:=hI.below hJ bw3
   have sY3:=sY2.of (b3.block _ sY2.lt)
   have sz3:=bw3.size
   clear z0 z1 y0 y1 rB zB caB cl2 CE CX xf iF
   have z0:=sY3.c0
   have z1:=sY3.c1
   cases hE:M.ends ds (x.1.set at_ f)
   ·have hst2:M.fromP ds at_ x (n+1)=M.fromP ds at_ x n:=by rw [hstep,hE];simp
    clear hE
    gi_wp2_with fail
    refine ⟨fun _ h=>(by cases h),?_⟩
    gi_wp2_with fail
    go_roundw
    case rel=>exact ⟨n+1,C',by go_num,by omega,by rw [hst2];exact hI3⟩
    case measure=>simp [intOf];omega
   ·obtain ⟨O,hWV,hO⟩:=(WyAns.mk ⟨cs',xP.below b3⟩ bw3:WyAns wr w3 _ _ _ _).way hfq
    have hst2:M.fromP ds at_ x (n+1)=M.fromP ds at_ x n++[(x.1.set at_ f,x.2)]:=by rw [hstep,hE];simp
    obtain ⟨fn,tmps,assign,body,hy,hR⟩:=yieldAt_any (m':=8) (hY _ C' _ _ O w3 (by rw [← hst2];exact hpre) hI3.j hWV (fun k hk=>⟨fun hc=>by have:=(hI.bd k hc).1;have:=(hO k hk).1;omega,fun hd=>by have:=hDl k hd;have:=(hO k hk).1;have:=hI.fd.size;omega⟩))
    have key:∀ (J':List M.Wy→(Nat→Prop)→World→Prop) (C4:Nat→Prop) (w4:World),Fr (fun k=>¬ C' k∧¬ O k) w3 w4→Adds C' O C4 w3 w4→J' (M.fromP ds at_ x n++[(x.1.set at_ f,x.2)]) C4 w4→FromI J' C D w W (M.fromP ds at_ x (n+1)) C4 w4:=fun J' C4 w4 hf hA hj=>by
     rw [hst2]
     exact hI3.round (by omega) (fun k hd=>by have:=hDl k hd;have:=hI.fd.size;omega) (fun k hk=>⟨fun hd=>by have:=hDl k hd;have:=(hO k hk).1;have:=hI.fd.size;omega,by have:=(hO k hk).1;omega,(hO k hk).2⟩) hf hA hj
    clear hE hst2 hstep
    gi_wp2_with fail
    refine hR.mono ?_
    rintro e w4 ⟨hf4,C4,hA4,(⟨rfl,hj4⟩ | ⟨rfl,hj4⟩)⟩
    ·have hI4:=key J C4 w4 hf4 hA4 hj4
     gi_wp2_with fail
     go_roundw
     case rel=>exact ⟨n+1,C4,by go_num,by omega,hI4⟩
     case measure=>simp [intOf];omega
    ·have hI4:=key Jx C4 w4 hf4 hA4 hj4
     gi_wp2_with fail
     refine bodyPost_ret (results_none rfl _ _ _) rfl ?_
     exact ⟨⟨_,rfl⟩,hI4.fc,C4,hI4.ad,Or.inr ⟨_,hpre,hI4.j⟩⟩
  ·have hkn:¬ (n:Int) < (M.srcs ds at_).length:=by omega
   gi_wp2
   go_end0
   exact ⟨⟨_,rfl⟩,hI.fc,C',hI.ad,Or.inl (by rw [← M.fromP_all ds at_ x n (by omega)];exact hI.j)⟩
end
section
open Go.RowKit Go.Shelf
theorem M.nodup_lt:∀ (N:Nat) (l:List Int),l.Nodup→(∀ v∈l,0≤v∧v < N)→l.length≤N
 | 0,l,_,h=>by
  cases l with
  | nil=>exact Nat.le_refl _
  | cons v l=>have:=h v (by simp);omega
 | N+1,l,hn,h=>by
  have h1:=M.nodup_lt N (l.erase N) (hn.erase _) (fun v hv=>by
   have hm:=List.mem_of_mem_erase hv
   have hne:v≠N:=fun e=>by rw [e] at hv;exact hn.not_mem_erase hv
   have:=h v hm
   omega)
  have h2:l.length≤(l.erase (N:Int)).length+1:=by rw [List.length_erase];split<;>omega
  omega
structure WyOk (ds:List M.De) (x:M.Wy):Prop where
 len:x.1.length=ds.length
 inn:M.In ds x.1
 ord:x.2.length=3
 rows:∀ r∈x.2,r.Nodup∧∀ v∈r,0≤v∧v < ds.length
theorem WyOk.row_le {ds:List M.De} {x:M.Wy} (h:WyOk ds x):∀ r∈x.2,r.length≤ds.length:=fun r hr=>M.nodup_lt _ r (h.rows r hr).1 (h.rows r hr).2
theorem M.srcs_lt {ds:List M.De} {at_:Nat} {f:Int} (h:f∈M.srcs ds at_):f < ds.length:=by
 simp only [M.srcs,List.mem_cons] at h
 rcases h with rfl | h
 ·omega
 ·obtain ⟨i,hi,e,_⟩:=M.mem_wrs.1 h
  omega
theorem WyOk.setFrom {ds:List M.De} {x:M.Wy} (h:WyOk ds x) {at_:Nat} {f:Int} (hf:f∈M.srcs ds at_):WyOk ds (x.1.set at_ f,x.2):=by
 refine ⟨by rw [List.length_set];exact h.len,fun n hn=>?_,h.ord,h.rows⟩
 have h1:=h.inn n hn
 unfold M.valFrom at h1 ⊢
 rw [List.getElem?_eq_getElem hn] at h1 ⊢
 dsimp only at h1 ⊢
 by_cases hr:ds[n].reads=true
 ·rw [if_pos hr] at h1 ⊢
  rw [List.getD_eq_getElem?_getD] at h1 ⊢
  by_cases e:at_=n
  ·subst e
   rw [List.getElem?_set_self (by rw [h.len];exact hn)]
   exact M.srcs_lt hf
  ·rw [List.getElem?_set_ne e]
   exact h1
 ·rw [if_neg hr] at h1 ⊢
  exact h1
set_option maxRecDepth 100000 in
set_option maxHeartbeats 1000000 in
theorem from_choice {D:Nat→Prop} {w:World} {ds:List M.De} {at_ sb ab lb:Nat} (hs:∃ sa sg sc,w.cell? ⟨sb,0,none⟩=some (.slice sa (M.srcs ds at_).length sc)∧IntS w sa sg 0 (M.srcs ds at_)∧D sg)
  (ha:w.cell? ⟨ab,0,none⟩=some (.int .i64 at_)) (hl:∃ va g c,w.cell? ⟨lb,0,none⟩=some (.slice va ds.length c)∧DeS w va g ds∧(0 < ds.length→D g)) (ds1:D sb) (da:D ab) (dl:D lb) (hDl:∀ k,D k→k < w.heap.size) (hat:at_ < ds.length) (hdl:ds.length≤1000) :
  ChoiceC (WayV (WyOk ds)) D 162 #[.pointer (some ⟨sb,0,none⟩),.pointer (some ⟨ab,0,none⟩),.pointer (some ⟨lb,0,none⟩)] (M.chF ds at_) w:=by
 refine ⟨enters_of Tryz.func162 (by kernel_rfl) rfl,fun x vs O W hW hV hO=>?_⟩
 obtain ⟨⟨fv,ov,cs,rfl,hx,hOk⟩,hq⟩:=hV
 have hmf:∀ (fn:Fn) (first cap:Array Value) (w:World),(Instr.makeFunc fn first cap).run Tryz.prog w=.ok (.func fn first cap) w:=fun _ _ _ _=>rfl
 obtain ⟨a1,c1,rfl⟩:=own_slx hx.from_
 obtain ⟨a2,c2,rfl⟩:=own_slx hx.ord
 have b1:=below1 W (.cells #[.slice a1 x.1.length c1,.slice a2 x.2.length c2] 122)
 have sX:SlotX (W.alloc (.cells #[.slice a1 x.1.length c1,.slice a2 x.2.length c2] 122)) W.heap.size (.slice a1 x.1.length c1) (.slice a2 x.2.length c2):=⟨heap_alloc_new _ _⟩
 have sz:(W.alloc (.cells #[.slice a1 x.1.length c1,.slice a2 x.2.length c2] 122)).heap.size=W.heap.size+1:=by simp
 have hF:FromD (fun k=>D k∨O k∨(W.heap.size≤k∧k < (W.alloc (.cells #[.slice a1 x.1.length c1,.slice a2 x.2.length c2] 122)).heap.size)) (W.alloc (.cells #[.slice a1 x.1.length c1,.slice a2 x.2.length c2] 122)) (WyOk ds) ds at_ x sb W.heap.size ab lb:=by
  have hf:Fr D w (W.alloc (.cells #[.slice a1 x.1.length c1,.slice a2 x.2.length c2] 122)):=hW.trans (.of_below b1)
  obtain ⟨sa,sg,sc,s1,s2,s3⟩:=hs
  obtain ⟨va,g,c,l1,l2,l3⟩:=hl
  exact ⟨⟨sa,sg,sc,hf.cell ds1 s1,s2.fr hf (fun _=>s3),Or.inl s3⟩,hf.cell da ha,⟨va,g,c,hf.cell dl l1,DeS.fr l2 hf l3,fun h=>Or.inl (l3 h)⟩,⟨_,_,cs,sX.c0,sX.c1,hx.below b1,fun k hk=>Or.inr (Or.inl ((hOk k).2 hk))⟩,Or.inl ds1,Or.inr (Or.inr ⟨Nat.le_refl _,by omega⟩),Or.inl da,Or.inl dl⟩
 have hseq:=fun n=>from_seq (n:=n) hF (fun k hk=>by
  rcases hk with hk | hk | hk
  ·have:=hDl k hk;have:=hW.size;omega
  ·have:=(hx.blk_lt ((hOk k).1 hk)).2;omega
  ·exact hk.2) hat hdl hq.len (by have:=hq.ord;omega) (fun r hr=>by have:=hq.row_le r hr;omega) (fun f hf=>(hq.setFrom hf).inn) (fun f hf=>hq.setFrom hf)
 go_enter Tryz.func162,Tryz.ntmps162
 go_wp2_with fail
 go_ret
 exact ⟨_,_,rfl,enters_of Tryz.func163 (by kernel_rfl) rfl,b1,hseq⟩
end
section
open Go.RowKit Go.Shelf
structure CfAns (w w':World) (ds:List M.De) (at_:Nat) (va:Option Addr) (c A:Nat):Prop where
 bel:Below w.heap.size w w'
 l:w'.cell? ⟨w.heap.size,0,none⟩=some (.slice va ds.length c)
 a:w'.cell? ⟨w.heap.size+1,0,none⟩=some (.int .i64 at_)
 ge:w.heap.size≤A
 s:∃ sa sg sc,w'.cell? ⟨A,0,none⟩=some (.slice sa (M.srcs ds at_).length sc)∧IntS w' sa sg 0 (M.srcs ds at_)∧w.heap.size≤sg∧sg < w'.heap.size
set_option maxHeartbeats 1000000 in
set_option maxRecDepth 100000 in
set_option linter.unusedSimpArgs false in
theorem chooseFrom_any (va:Option Addr) (g c:Nat) (ds:List M.De) (at_:Nat) (w:World) (hat:at_ < ds.length) (hdl:ds.length≤1000) (h:DeS w va g ds) :
  Calls Tryz.prog 125 #[.slice va ds.length c,.int .i64 at_] w fun e w'=>∃ A,e=.returned (.func (.func 162) #[] #[.pointer (some ⟨A,0,none⟩),.pointer (some ⟨w.heap.size+1,0,none⟩),.pointer (some ⟨w.heap.size,0,none⟩)])∧CfAns w w' ds at_ va c A:=by
 obtain ⟨i0,hi,hz0,hz1,hz2⟩:=info_parts Tryz.infoInt
 obtain rfl:=h.addr (by omega)
 have b2:=below2 w (.cells #[.slice (some ⟨g,0,none⟩) ds.length c] 116) (.cells #[.int .i64 at_] 3)
 have k0:((w.alloc (.cells #[.slice (some ⟨g,0,none⟩) ds.length c] 116)).alloc (.cells #[.int .i64 at_] 3)).cell? ⟨w.heap.size,0,none⟩=some (.slice (some ⟨g,0,none⟩) ds.length c):=by simp [go_sem]
 have k1:((w.alloc (.cells #[.slice (some ⟨g,0,none⟩) ds.length c] 116)).alloc (.cells #[.int .i64 at_] 3)).cell? ⟨w.heap.size+1,0,none⟩=some (.int .i64 at_):=by simp [go_sem]
 have sz:((w.alloc (.cells #[.slice (some ⟨g,0,none⟩) ds.length c] 116)).alloc (.cells #[.int .i64 at_] 3)).heap.size=w.heap.size+1+1:=by simp
 go_enter Tryz.func125,Tryz.ntmps125
 go_wp2_with fail
 generalize (w.alloc (.cells #[.slice (some ⟨g,0,none⟩) ds.length c] 116)).alloc (.cells #[.int .i64 at_] 3)=W0 at *
 have hd0:=h.bel b2 (Nat.le_refl _)
 have hx:=DeS.at hd0 hat
 have hsr:M.srcs ds at_=-1::M.wrs (ds[at_]).d.p 0 ds:=by simp [M.srcs,List.getElem?_eq_getElem hat]
 have hwl:=M.wrs_len (ds[at_]).d.p ds 0
 obtain ⟨_,_,_,_,c4,_,_⟩:=hx
 generalize ds[at_]=x at *
 have lg:g < W0.heap.size:=World.block_lt_of_cell? _ _ c4
 have hat':(at_:Int) < ds.length:=by omega
 have hat0:¬ (at_:Int) < 0:=by omega
 have HS:Hid (∀ W:World,Below W0.heap.size W0 W→W.cell? ⟨w.heap.size,0,none⟩=some (.slice (some ⟨g,0,none⟩) ds.length c)∧W.cell? ⟨w.heap.size+1,0,none⟩=some (.int .i64 at_)∧W.cell? ⟨g,at_ * 7+4,none⟩=some (.int .i64 x.d.p)):=fun W hb=>⟨(hb.cell (p:=⟨w.heap.size,0,none⟩) (by show w.heap.size < _;omega)).trans k0,(hb.cell (p:=⟨w.heap.size+1,0,none⟩) (by show w.heap.size+1 < _;omega)).trans k1,(hb.cell (p:=⟨g,at_ * 7+4,none⟩) lg).trans c4⟩
 have HC:Hid (∀ W:World,Below W0.heap.size W0 W→Calls Tryz.prog 126 #[.slice (some ⟨g,0,none⟩) ds.length c,.int .i64 x.d.p] W fun e w'=>∃ v,e=.returned v∧w'.ownsRow W.heap.size 3 1 v (M.wrs x.d.p 0 ds).length (nums (M.wrs x.d.p 0 ds))∧Below W.heap.size W w'):=fun W hb=>writers_any (some ⟨g,0,none⟩) g c ds x.d.p W (by omega) (hd0.bel hb (Nat.le_refl _))
 have HF:Hid (∀ (W:World) (A:Nat) (v:Value),Below W0.heap.size W0 W→Slot1 W A (.slice none 0 0)→w.heap.size+1+1≤A→W.ownsRow (w.heap.size+1+1) 3 1 v (1+(M.wrs x.d.p 0 ds).length) ([.int .i64 (-1)]++nums (M.wrs x.d.p 0 ds))→v.ownBlock≠some A→CfAns w (W.setCell ⟨A,0,none⟩ v) ds at_ (some ⟨g,0,none⟩) c A):=fun W A v hb hs hA ho hne=>by
  obtain ⟨q1,q2,_⟩:=HS.out W hb
  have bw:=b2.trans (hb.mono (by omega))
  have hl:1+(M.wrs x.d.p 0 ds).length=(M.srcs ds at_).length:=by rw [hsr];simp;omega
  have hn:([.int .i64 (-1)]++nums (M.wrs x.d.p 0 ds):List Value)=nums (M.srcs ds at_):=by rw [hsr];simp [nums]
  rw [hl,hn] at ho
  have hp:0 < (M.srcs ds at_).length:=by omega
  obtain ⟨g',cap,rfl,hg1,hg2⟩:=ho.form hp
  obtain ⟨ii,_⟩:=own_at ho rfl
  have hgA:A≠g':=fun e=>hne (by rw [e];rfl)
  refine ⟨bw.setCell (by show w.heap.size≤A;omega) _,?_,?_,by omega,some ⟨g',0,none⟩,g',cap,(hs.set _).c,ii.far (fun _ e=>hgA e.symm),by omega,by rw [World.size_setCell];exact hg2⟩
  ·rw [World.cell?_setCell_other _ _ _ _ (fun e=>by have:=congrArg Addr.block e;simp at this;omega)];exact q1
  ·rw [World.cell?_setCell_other _ _ _ _ (fun e=>by have:=congrArg Addr.block e;simp at this;omega)];exact q2
 clear k0 k1 c4
 refine wp_region_held_drew (S:=fun w'=>Below W0.heap.size W0 w') (by kernel_rfl) (Below.refl _ _).drew (fun hH=>?_)
 refine tk 1 7 (.slice (some ⟨g,0,none⟩) ds.length c) hH rfl rfl (by intro w' hSw;obtain ⟨q1,q2,q3⟩:=HS.out w' hSw;go_simp) ?_
 simp only [Act.put,zqa,zqb,zqc]
 refine tk 2 8 (.slice (some ⟨g,0,none⟩) ds.length c) hH rfl rfl (by intro w' hSw;obtain ⟨q1,q2,q3⟩:=HS.out w' hSw;go_simp) ?_
 simp only [Act.put,zqa,zqb,zqc]
 refine tk 3 9 (.int .i64 at_) hH rfl rfl (by intro w' hSw;obtain ⟨q1,q2,q3⟩:=HS.out w' hSw;go_simp) ?_
 simp only [Act.put,zqa,zqb,zqc]
 refine tk 4 10 (.pointer (some ⟨g,at_ * 7,none⟩)) hH rfl rfl (by intro w' hSw;go_simp) ?_
 simp only [Act.put,zqa,zqb,zqc]
 refine tk 5 11 (.pointer (some ⟨g,at_ * 7+3,none⟩)) hH rfl rfl (by intro w' hSw;go_simp) ?_
 simp only [Act.put,zqa,zqb,zqc]
 refine tk 6 12 (.pointer (some ⟨g,at_ * 7+4,none⟩)) hH rfl rfl (by intro w' hSw;go_simp) ?_
 simp only [Act.put,zqa,zqb,zqc]
 refine tk 7 13 (.int .i64 x.d.p) hH rfl rfl (by intro w' hSw;obtain ⟨q1,q2,q3⟩:=HS.out w' hSw;go_simp) ?_
 simp only [Act.put,zqa,zqb,zqc]
 have bD:Below W0.heap.size W0 W0.drew:=hH
 generalize W0.drew=W at *
 refine wpAnyH_ready (rs:=[0,8,10]) (by kernel_rfl) (by simp) ?_
 refine AllReadyH.cons rfl (fun K' hK=>?_) (AllReadyH.cons rfl (fun K' hK=>?_) (AllReadyH.cons rfl (fun K' hK=>?_) AllReadyH.nil))
 ·rw [if_pos (by rfl)]
  go_simp
  have bN:=below1 W (.cells #[.int .i64 (-1)] 3)
  have bE:=bD.trans (bN.mono bD.size)
  refine hK.out _ _ bE (fun _=>?_)
  clear hK K'
  have ls:=bD.size
  have oB:(W.alloc (.cells #[.int .i64 (-1)] 3)).ownsRow (w.heap.size+1+1) 3 1 (.slice (some ⟨W.heap.size,0,none⟩) 1 1) 1 [.int .i64 (-1)]:=⟨rfl,Or.inr ⟨W.heap.size,1,#[.int .i64 (-1)],rfl,by omega,heap_alloc_new _ _,by omega,by unfold maxLen;omega,rfl,rfl⟩⟩
  generalize W.alloc (.cells #[.int .i64 (-1)] 3)=W1 at *
  generalize W.heap.size=gB at *
  clear bD bN
  have bD:=bE
  clear bE
  clear ls
  refine wpAnyH_ready (rs:=[8,10]) (by kernel_rfl) (by simp) ?_
  refine AllReadyH.cons rfl (fun K' hK=>?_) (AllReadyH.cons rfl (fun K' hK=>?_) AllReadyH.nil)
  ·refine sg 14 rfl 126 #[.tmp 7,.tmp 13] rfl #[.slice (some ⟨g,0,none⟩) ds.length c,.int .i64 x.d.p] (fun _ _=>rfl) (HC.out W1 bD) ?_
   rintro e W2 ⟨vw,rfl,oW0,bN⟩
   obtain ⟨aw,cw,rfl⟩:=own_slx oW0
   refine ⟨_,rfl,?_⟩
   simp only [Act.put,zqa,zqb,zqc]
   have bE:=bD.trans (bN.mono bD.size)
   refine hK.out _ _ bE (fun _=>?_)
   clear hK K'
   have ls:=bD.size
   have oW:=own_mono oW0 (show w.heap.size+1+1≤_ by omega)
   clear oW0
   have oB2:=ownsRow_below oB bN
   clear oB
   have oB:=oB2
   clear oB2
   clear bD bN ls
   have bD:=bE
   clear bE
   refine wpAnyH_ready (rs:=[9,10]) (by kernel_rfl) (by simp) ?_
   refine AllReadyH.cons rfl (fun K' hK=>?_) (AllReadyH.cons rfl (fun K' hK=>?_) AllReadyH.nil)
   ·obtain ⟨aw2,bw,cw2,ew,iw,hcw⟩:=own_ints oW
    simp only [Value.slice.injEq] at ew
    obtain ⟨rfl,_,rfl⟩:=ew
    have ls:=bD.size
    refine step_append_ints (by rfl) (.tmp 6) (.tmp 14) 31 (by rfl) (w.heap.size+1+1) 3 i0 Tryz.underlying31 hi hz0 hz1 hz2 (.slice (some ⟨gB,0,none⟩) 1 1) 1 [.int .i64 (-1)] (by rfl) oB (by omega) aw bw 0 cw (M.wrs x.d.p 0 ds) (by rfl) iw (by omega) hcw.1 ?_
    intro v5 W3 oP hg5 hat5
    simp only [Act.put,zqa,zqb,zqc]
    have gge:=(oB.lt gB rfl).1
    have bE:Below W0.heap.size W0 W3:=below_grown bD hg5 (fun k hk=>by have:gB=k:=Option.some.inj hk;omega) (by omega)
    refine hK.out _ _ bE (fun _=>?_)
    clear hK K'
    obtain ⟨av,cv,hv5⟩:=own_slx oP
    subst hv5
    obtain ⟨nv,hnv⟩:∃ nv,1+(M.wrs x.d.p 0 ds).length=nv:=⟨_,rfl⟩
    rw [hnv] at oP ⊢
    clear hg5 hat5 oB oW iw hcw bD ls gge
    have bD:=bE
    clear bE
    refine ry 10 rfl (fun K' hK=>?_)
    ·rw [if_pos (by rfl)]
     go_simp
     have bN:=below1 W3 (.cells #[.slice none 0 0] 31)
     have bE:=bD.trans (bN.mono bD.size)
     refine hK.out _ _ bE (fun _=>?_)
     clear hK K'
     have ls:=bD.size
     have sA2:=Slot1.new W3 (.slice none 0 0) 31
     have nA:(Value.slice av nv cv).ownBlock≠some W3.heap.size:=fun e=>by have:=(oP.lt _ e).2;omega
     have oP2:=ownsRow_below oP bN
     generalize W3.alloc (.cells #[.slice none 0 0] 31)=W4 at *
     generalize W3.heap.size=A at *
     clear bD bN
     have bD:=bE
     clear bE
     have sA:=sA2
     clear sA2
     clear oP
     have oP:=oP2
     clear oP2
     have geA:w.heap.size+1+1≤A:=by omega
     clear ls
     refine ry 11 rfl (fun K' hK=>?_)
     ·have sc:=sA.c
      have sz1:=sA.fz
      have fin:=HF.out W4 A _ bD sA geA (by rw [hnv];exact oP) nA
      rw [if_pos (by rfl)]
      go_simp
      refine hK.out _ _ (bD.setCell (by show W0.heap.size≤A;omega) _) (fun _=>?_)
      clear hK K'
      refine wpAnyH_done (by kernel_rfl) ?_ _
      clear sc sz1
      go_wp2_with fail
      go_ret
      exact ⟨_,rfl,fin⟩
   ·rw [if_pos (by rfl)]
    go_simp
    have bN:=below1 W2 (.cells #[.slice none 0 0] 31)
    have bE:=bD.trans (bN.mono bD.size)
    refine hK.out _ _ bE (fun _=>?_)
    clear hK K'
    have ls:=bD.size
    have sA2:=Slot1.new W2 (.slice none 0 0) 31
    have neAB:W2.heap.size≠gB:=by have:=(oB.lt gB rfl).2;omega
    have oB2:=ownsRow_below oB bN
    have oW2:=ownsRow_below oW bN
    generalize W2.alloc (.cells #[.slice none 0 0] 31)=W3 at *
    generalize W2.heap.size=A at *
    clear bD bN
    have bD:=bE
    clear bE
    have sA:=sA2
    clear sA2
    clear oB
    have oB:=oB2
    clear oB2
    clear oW
    have oW:=oW2
    clear oW2
    have geA:w.heap.size+1+1≤A:=by omega
    clear ls
    refine ry 9 rfl (fun K' hK=>?_)
    ·obtain ⟨aw2,bw,cw2,ew,iw,hcw⟩:=own_ints oW
     simp only [Value.slice.injEq] at ew
     obtain ⟨rfl,_,rfl⟩:=ew
     have ls:=bD.size
     refine step_append_ints (by rfl) (.tmp 6) (.tmp 14) 31 (by rfl) (w.heap.size+1+1) 3 i0 Tryz.underlying31 hi hz0 hz1 hz2 (.slice (some ⟨gB,0,none⟩) 1 1) 1 [.int .i64 (-1)] (by rfl) oB (by omega) aw bw 0 cw (M.wrs x.d.p 0 ds) (by rfl) iw (by omega) hcw.1 ?_
     intro v5 W4 oP hg5 hat5
     simp only [Act.put,zqa,zqb,zqc]
     have gge:=(oB.lt gB rfl).1
     have bE:Below W0.heap.size W0 W4:=below_grown bD hg5 (fun k hk=>by have:gB=k:=Option.some.inj hk;omega) (by omega)
     refine hK.out _ _ bE (fun _=>?_)
     clear hK K'
     obtain ⟨av,cv,hv5⟩:=own_slx oP
     have lA:=sA.lt
     have nA:v5.ownBlock≠some A:=fun e=>by
      rcases hat5 with e5 | e5
      ·rw [e5] at e;have:gB=A:=Option.some.inj e;omega
      ·rw [e5] at e;have:=Option.some.inj e;omega
     have sA2:=sA.apart hg5 (fun e=>by have:gB=A:=Option.some.inj e;omega)
     clear sA lA
     have sA:=sA2
     clear sA2
     subst hv5
     obtain ⟨nv,hnv⟩:∃ nv,1+(M.wrs x.d.p 0 ds).length=nv:=⟨_,rfl⟩
     rw [hnv] at oP ⊢
     rw [hnv] at nA
     clear hg5 hat5 oB oW iw hcw bD ls gge
     have bD:=bE
     clear bE
     refine ry 11 rfl (fun K' hK=>?_)
     ·have sc:=sA.c
      have sz1:=sA.fz
      have fin:=HF.out W4 A _ bD sA geA (by rw [hnv];exact oP) nA
      rw [if_pos (by rfl)]
      go_simp
      refine hK.out _ _ (bD.setCell (by show W0.heap.size≤A;omega) _) (fun _=>?_)
      clear hK K'
      refine wpAnyH_done (by kernel_rfl) ?_ _
      clear sc sz1
      go_wp2_with fail
      go_ret
      exact ⟨_,rfl,fin⟩
  ·rw [if_pos (by rfl)]
   go_simp
   have bN:=below1 W1 (.cells #[.slice none 0 0] 31)
   have bE:=bD.trans (bN.mono bD.size)
   refine hK.out _ _ bE (fun _=>?_)
   clear hK K'
   have ls:=bD.size
   have sA2:=Slot1.new W1 (.slice none 0 0) 31
   have neAB:W1.heap.size≠gB:=by have:=(oB.lt gB rfl).2;omega
   have oB2:=ownsRow_below oB bN
   generalize W1.alloc (.cells #[.slice none 0 0] 31)=W2 at *
   generalize W1.heap.size=A at *
   clear bD bN
   have bD:=bE
   clear bE
   have sA:=sA2
   clear sA2
   clear oB
   have oB:=oB2
   clear oB2
   have geA:w.heap.size+1+1≤A:=by omega
   clear ls
   refine ry 8 rfl (fun K' hK=>?_)
   ·refine sg 14 rfl 126 #[.tmp 7,.tmp 13] rfl #[.slice (some ⟨g,0,none⟩) ds.length c,.int .i64 x.d.p] (fun _ _=>rfl) (HC.out W2 bD) ?_
    rintro e W3 ⟨vw,rfl,oW0,bN⟩
    obtain ⟨aw,cw,rfl⟩:=own_slx oW0
    refine ⟨_,rfl,?_⟩
    simp only [Act.put,zqa,zqb,zqc]
    have bE:=bD.trans (bN.mono bD.size)
    refine hK.out _ _ bE (fun _=>?_)
    clear hK K'
    have ls:=bD.size
    have oW:=own_mono oW0 (show w.heap.size+1+1≤_ by omega)
    clear oW0
    have oB2:=ownsRow_below oB bN
    clear oB
    have oB:=oB2
    clear oB2
    have sA2:=sA.bl' bN
    clear sA
    have sA:=sA2
    clear sA2
    clear bD bN ls
    have bD:=bE
    clear bE
    refine ry 9 rfl (fun K' hK=>?_)
    ·obtain ⟨aw2,bw,cw2,ew,iw,hcw⟩:=own_ints oW
     simp only [Value.slice.injEq] at ew
     obtain ⟨rfl,_,rfl⟩:=ew
     have ls:=bD.size
     refine step_append_ints (by rfl) (.tmp 6) (.tmp 14) 31 (by rfl) (w.heap.size+1+1) 3 i0 Tryz.underlying31 hi hz0 hz1 hz2 (.slice (some ⟨gB,0,none⟩) 1 1) 1 [.int .i64 (-1)] (by rfl) oB (by omega) aw bw 0 cw (M.wrs x.d.p 0 ds) (by rfl) iw (by omega) hcw.1 ?_
     intro v5 W4 oP hg5 hat5
     simp only [Act.put,zqa,zqb,zqc]
     have gge:=(oB.lt gB rfl).1
     have bE:Below W0.heap.size W0 W4:=below_grown bD hg5 (fun k hk=>by have:gB=k:=Option.some.inj hk;omega) (by omega)
     refine hK.out _ _ bE (fun _=>?_)
     clear hK K'
     obtain ⟨av,cv,hv5⟩:=own_slx oP
     have lA:=sA.lt
     have nA:v5.ownBlock≠some A:=fun e=>by
      rcases hat5 with e5 | e5
      ·rw [e5] at e;have:gB=A:=Option.some.inj e;omega
      ·rw [e5] at e;have:=Option.some.inj e;omega
     have sA2:=sA.apart hg5 (fun e=>by have:gB=A:=Option.some.inj e;omega)
     clear sA lA
     have sA:=sA2
     clear sA2
     subst hv5
     obtain ⟨nv,hnv⟩:∃ nv,1+(M.wrs x.d.p 0 ds).length=nv:=⟨_,rfl⟩
     rw [hnv] at oP ⊢
     rw [hnv] at nA
     clear hg5 hat5 oB oW iw hcw bD ls gge
     have bD:=bE
     clear bE
     refine ry 11 rfl (fun K' hK=>?_)
     ·have sc:=sA.c
      have sz1:=sA.fz
      have fin:=HF.out W4 A _ bD sA geA (by rw [hnv];exact oP) nA
      rw [if_pos (by rfl)]
      go_simp
      refine hK.out _ _ (bD.setCell (by show W0.heap.size≤A;omega) _) (fun _=>?_)
      clear hK K'
      refine wpAnyH_done (by kernel_rfl) ?_ _
      clear sc sz1
      go_wp2_with fail
      go_ret
      exact ⟨_,rfl,fin⟩
 ·refine sg 14 rfl 126 #[.tmp 7,.tmp 13] rfl #[.slice (some ⟨g,0,none⟩) ds.length c,.int .i64 x.d.p] (fun _ _=>rfl) (HC.out W bD) ?_
  rintro e W1 ⟨vw,rfl,oW0,bN⟩
  obtain ⟨aw,cw,rfl⟩:=own_slx oW0
  refine ⟨_,rfl,?_⟩
  simp only [Act.put,zqa,zqb,zqc]
  have bE:=bD.trans (bN.mono bD.size)
  refine hK.out _ _ bE (fun _=>?_)
  clear hK K'
  have ls:=bD.size
  have oW:=own_mono oW0 (show w.heap.size+1+1≤_ by omega)
  clear oW0
  clear bD bN ls
  have bD:=bE
  clear bE
  refine wpAnyH_ready (rs:=[0,10]) (by kernel_rfl) (by simp) ?_
  refine AllReadyH.cons rfl (fun K' hK=>?_) (AllReadyH.cons rfl (fun K' hK=>?_) AllReadyH.nil)
  ·rw [if_pos (by rfl)]
   go_simp
   have bN:=below1 W1 (.cells #[.int .i64 (-1)] 3)
   have bE:=bD.trans (bN.mono bD.size)
   refine hK.out _ _ bE (fun _=>?_)
   clear hK K'
   have ls:=bD.size
   have oB:(W1.alloc (.cells #[.int .i64 (-1)] 3)).ownsRow (w.heap.size+1+1) 3 1 (.slice (some ⟨W1.heap.size,0,none⟩) 1 1) 1 [.int .i64 (-1)]:=⟨rfl,Or.inr ⟨W1.heap.size,1,#[.int .i64 (-1)],rfl,by omega,heap_alloc_new _ _,by omega,by unfold maxLen;omega,rfl,rfl⟩⟩
   have oW2:=ownsRow_below oW bN
   generalize W1.alloc (.cells #[.int .i64 (-1)] 3)=W2 at *
   generalize W1.heap.size=gB at *
   clear bD bN
   have bD:=bE
   clear bE
   clear oW
   have oW:=oW2
   clear oW2
   clear ls
   refine wpAnyH_ready (rs:=[9,10]) (by kernel_rfl) (by simp) ?_
   refine AllReadyH.cons rfl (fun K' hK=>?_) (AllReadyH.cons rfl (fun K' hK=>?_) AllReadyH.nil)
   ·obtain ⟨aw2,bw,cw2,ew,iw,hcw⟩:=own_ints oW
    simp only [Value.slice.injEq] at ew
    obtain ⟨rfl,_,rfl⟩:=ew
    have ls:=bD.size
    refine step_append_ints (by rfl) (.tmp 6) (.tmp 14) 31 (by rfl) (w.heap.size+1+1) 3 i0 Tryz.underlying31 hi hz0 hz1 hz2 (.slice (some ⟨gB,0,none⟩) 1 1) 1 [.int .i64 (-1)] (by rfl) oB (by omega) aw bw 0 cw (M.wrs x.d.p 0 ds) (by rfl) iw (by omega) hcw.1 ?_
    intro v5 W3 oP hg5 hat5
    simp only [Act.put,zqa,zqb,zqc]
    have gge:=(oB.lt gB rfl).1
    have bE:Below W0.heap.size W0 W3:=below_grown bD hg5 (fun k hk=>by have:gB=k:=Option.some.inj hk;omega) (by omega)
    refine hK.out _ _ bE (fun _=>?_)
    clear hK K'
    obtain ⟨av,cv,hv5⟩:=own_slx oP
    subst hv5
    obtain ⟨nv,hnv⟩:∃ nv,1+(M.wrs x.d.p 0 ds).length=nv:=⟨_,rfl⟩
    rw [hnv] at oP ⊢
    clear hg5 hat5 oB oW iw hcw bD ls gge
    have bD:=bE
    clear bE
    refine ry 10 rfl (fun K' hK=>?_)
    ·rw [if_pos (by rfl)]
     go_simp
     have bN:=below1 W3 (.cells #[.slice none 0 0] 31)
     have bE:=bD.trans (bN.mono bD.size)
     refine hK.out _ _ bE (fun _=>?_)
     clear hK K'
     have ls:=bD.size
     have sA2:=Slot1.new W3 (.slice none 0 0) 31
     have nA:(Value.slice av nv cv).ownBlock≠some W3.heap.size:=fun e=>by have:=(oP.lt _ e).2;omega
     have oP2:=ownsRow_below oP bN
     generalize W3.alloc (.cells #[.slice none 0 0] 31)=W4 at *
     generalize W3.heap.size=A at *
     clear bD bN
     have bD:=bE
     clear bE
     have sA:=sA2
     clear sA2
     clear oP
     have oP:=oP2
     clear oP2
     have geA:w.heap.size+1+1≤A:=by omega
     clear ls
     refine ry 11 rfl (fun K' hK=>?_)
     ·have sc:=sA.c
      have sz1:=sA.fz
      have fin:=HF.out W4 A _ bD sA geA (by rw [hnv];exact oP) nA
      rw [if_pos (by rfl)]
      go_simp
      refine hK.out _ _ (bD.setCell (by show W0.heap.size≤A;omega) _) (fun _=>?_)
      clear hK K'
      refine wpAnyH_done (by kernel_rfl) ?_ _
      clear sc sz1
      go_wp2_with fail
      go_ret
      exact ⟨_,rfl,fin⟩
   ·rw [if_pos (by rfl)]
    go_simp
    have bN:=below1 W2 (.cells #[.slice none 0 0] 31)
    have bE:=bD.trans (bN.mono bD.size)
    refine hK.out _ _ bE (fun _=>?_)
    clear hK K'
    have ls:=bD.size
    have sA2:=Slot1.new W2 (.slice none 0 0) 31
    have neAB:W2.heap.size≠gB:=by have:=(oB.lt gB rfl).2;omega
    have oB2:=ownsRow_below oB bN
    have oW2:=ownsRow_below oW bN
    generalize W2.alloc (.cells #[.slice none 0 0] 31)=W3 at *
    generalize W2.heap.size=A at *
    clear bD bN
    have bD:=bE
    clear bE
    have sA:=sA2
    clear sA2
    clear oB
    have oB:=oB2
    clear oB2
    clear oW
    have oW:=oW2
    clear oW2
    have geA:w.heap.size+1+1≤A:=by omega
    clear ls
    refine ry 9 rfl (fun K' hK=>?_)
    ·obtain ⟨aw2,bw,cw2,ew,iw,hcw⟩:=own_ints oW
     simp only [Value.slice.injEq] at ew
     obtain ⟨rfl,_,rfl⟩:=ew
     have ls:=bD.size
     refine step_append_ints (by rfl) (.tmp 6) (.tmp 14) 31 (by rfl) (w.heap.size+1+1) 3 i0 Tryz.underlying31 hi hz0 hz1 hz2 (.slice (some ⟨gB,0,none⟩) 1 1) 1 [.int .i64 (-1)] (by rfl) oB (by omega) aw bw 0 cw (M.wrs x.d.p 0 ds) (by rfl) iw (by omega) hcw.1 ?_
     intro v5 W4 oP hg5 hat5
     simp only [Act.put,zqa,zqb,zqc]
     have gge:=(oB.lt gB rfl).1
     have bE:Below W0.heap.size W0 W4:=below_grown bD hg5 (fun k hk=>by have:gB=k:=Option.some.inj hk;omega) (by omega)
     refine hK.out _ _ bE (fun _=>?_)
     clear hK K'
     obtain ⟨av,cv,hv5⟩:=own_slx oP
     have lA:=sA.lt
     have nA:v5.ownBlock≠some A:=fun e=>by
      rcases hat5 with e5 | e5
      ·rw [e5] at e;have:gB=A:=Option.some.inj e;omega
      ·rw [e5] at e;have:=Option.some.inj e;omega
     have sA2:=sA.apart hg5 (fun e=>by have:gB=A:=Option.some.inj e;omega)
     clear sA lA
     have sA:=sA2
     clear sA2
     subst hv5
     obtain ⟨nv,hnv⟩:∃ nv,1+(M.wrs x.d.p 0 ds).length=nv:=⟨_,rfl⟩
     rw [hnv] at oP ⊢
     rw [hnv] at nA
     clear hg5 hat5 oB oW iw hcw bD ls gge
     have bD:=bE
     clear bE
     refine ry 11 rfl (fun K' hK=>?_)
     ·have sc:=sA.c
      have sz1:=sA.fz
      have fin:=HF.out W4 A _ bD sA geA (by rw [hnv];exact oP) nA
      rw [if_pos (by rfl)]
      go_simp
      refine hK.out _ _ (bD.setCell (by show W0.heap.size≤A;omega) _) (fun _=>?_)
      clear hK K'
      refine wpAnyH_done (by kernel_rfl) ?_ _
      clear sc sz1
      go_wp2_with fail
      go_ret
      exact ⟨_,rfl,fin⟩
  ·rw [if_pos (by rfl)]
   go_simp
   have bN:=below1 W1 (.cells #[.slice none 0 0] 31)
   have bE:=bD.trans (bN.mono bD.size)
   refine hK.out _ _ bE (fun _=>?_)
   clear hK K'
   have ls:=bD.size
   have sA2:=Slot1.new W1 (.slice none 0 0) 31
   have oW2:=ownsRow_below oW bN
   generalize W1.alloc (.cells #[.slice none 0 0] 31)=W2 at *
   generalize W1.heap.size=A at *
   clear bD bN
   have bD:=bE
   clear bE
   have sA:=sA2
   clear sA2
   clear oW
   have oW:=oW2
   clear oW2
   have geA:w.heap.size+1+1≤A:=by omega
   clear ls
   refine ry 0 rfl (fun K' hK=>?_)
   ·rw [if_pos (by rfl)]
    go_simp
    have bN:=below1 W2 (.cells #[.int .i64 (-1)] 3)
    have bE:=bD.trans (bN.mono bD.size)
    refine hK.out _ _ bE (fun _=>?_)
    clear hK K'
    have ls:=bD.size
    have oB:(W2.alloc (.cells #[.int .i64 (-1)] 3)).ownsRow (w.heap.size+1+1) 3 1 (.slice (some ⟨W2.heap.size,0,none⟩) 1 1) 1 [.int .i64 (-1)]:=⟨rfl,Or.inr ⟨W2.heap.size,1,#[.int .i64 (-1)],rfl,by omega,heap_alloc_new _ _,by omega,by unfold maxLen;omega,rfl,rfl⟩⟩
    have sA2:=sA.bl' bN
    have neAB:A≠W2.heap.size:=by have:=sA.lt;omega
    have oW2:=ownsRow_below oW bN
    generalize W2.alloc (.cells #[.int .i64 (-1)] 3)=W3 at *
    generalize W2.heap.size=gB at *
    clear bD bN
    have bD:=bE
    clear bE
    clear sA
    have sA:=sA2
    clear sA2
    clear oW
    have oW:=oW2
    clear oW2
    clear ls
    refine ry 9 rfl (fun K' hK=>?_)
    ·obtain ⟨aw2,bw,cw2,ew,iw,hcw⟩:=own_ints oW
     simp only [Value.slice.injEq] at ew
     obtain ⟨rfl,_,rfl⟩:=ew
     have ls:=bD.size
     refine step_append_ints (by rfl) (.tmp 6) (.tmp 14) 31 (by rfl) (w.heap.size+1+1) 3 i0 Tryz.underlying31 hi hz0 hz1 hz2 (.slice (some ⟨gB,0,none⟩) 1 1) 1 [.int .i64 (-1)] (by rfl) oB (by omega) aw bw 0 cw (M.wrs x.d.p 0 ds) (by rfl) iw (by omega) hcw.1 ?_
     intro v5 W4 oP hg5 hat5
     simp only [Act.put,zqa,zqb,zqc]
     have gge:=(oB.lt gB rfl).1
     have bE:Below W0.heap.size W0 W4:=below_grown bD hg5 (fun k hk=>by have:gB=k:=Option.some.inj hk;omega) (by omega)
     refine hK.out _ _ bE (fun _=>?_)
     clear hK K'
     obtain ⟨av,cv,hv5⟩:=own_slx oP
     have lA:=sA.lt
     have nA:v5.ownBlock≠some A:=fun e=>by
      rcases hat5 with e5 | e5
      ·rw [e5] at e;have:gB=A:=Option.some.inj e;omega
      ·rw [e5] at e;have:=Option.some.inj e;omega
     have sA2:=sA.apart hg5 (fun e=>by have:gB=A:=Option.some.inj e;omega)
     clear sA lA
     have sA:=sA2
     clear sA2
     subst hv5
     obtain ⟨nv,hnv⟩:∃ nv,1+(M.wrs x.d.p 0 ds).length=nv:=⟨_,rfl⟩
     rw [hnv] at oP ⊢
     rw [hnv] at nA
     clear hg5 hat5 oB oW iw hcw bD ls gge
     have bD:=bE
     clear bE
     refine ry 11 rfl (fun K' hK=>?_)
     ·have sc:=sA.c
      have sz1:=sA.fz
      have fin:=HF.out W4 A _ bD sA geA (by rw [hnv];exact oP) nA
      rw [if_pos (by rfl)]
      go_simp
      refine hK.out _ _ (bD.setCell (by show W0.heap.size≤A;omega) _) (fun _=>?_)
      clear hK K'
      refine wpAnyH_done (by kernel_rfl) ?_ _
      clear sc sz1
      go_wp2_with fail
      go_ret
      exact ⟨_,rfl,fin⟩
 ·rw [if_pos (by rfl)]
  go_simp
  have bN:=below1 W (.cells #[.slice none 0 0] 31)
  have bE:=bD.trans (bN.mono bD.size)
  refine hK.out _ _ bE (fun _=>?_)
  clear hK K'
  have ls:=bD.size
  have sA2:=Slot1.new W (.slice none 0 0) 31
  generalize W.alloc (.cells #[.slice none 0 0] 31)=W1 at *
  generalize W.heap.size=A at *
  clear bD bN
  have bD:=bE
  clear bE
  have sA:=sA2
  clear sA2
  have geA:w.heap.size+1+1≤A:=by omega
  clear ls
  refine wpAnyH_ready (rs:=[0,8]) (by kernel_rfl) (by simp) ?_
  refine AllReadyH.cons rfl (fun K' hK=>?_) (AllReadyH.cons rfl (fun K' hK=>?_) AllReadyH.nil)
  ·rw [if_pos (by rfl)]
   go_simp
   have bN:=below1 W1 (.cells #[.int .i64 (-1)] 3)
   have bE:=bD.trans (bN.mono bD.size)
   refine hK.out _ _ bE (fun _=>?_)
   clear hK K'
   have ls:=bD.size
   have oB:(W1.alloc (.cells #[.int .i64 (-1)] 3)).ownsRow (w.heap.size+1+1) 3 1 (.slice (some ⟨W1.heap.size,0,none⟩) 1 1) 1 [.int .i64 (-1)]:=⟨rfl,Or.inr ⟨W1.heap.size,1,#[.int .i64 (-1)],rfl,by omega,heap_alloc_new _ _,by omega,by unfold maxLen;omega,rfl,rfl⟩⟩
   have sA2:=sA.bl' bN
   have neAB:A≠W1.heap.size:=by have:=sA.lt;omega
   generalize W1.alloc (.cells #[.int .i64 (-1)] 3)=W2 at *
   generalize W1.heap.size=gB at *
   clear bD bN
   have bD:=bE
   clear bE
   clear sA
   have sA:=sA2
   clear sA2
   clear ls
   refine ry 8 rfl (fun K' hK=>?_)
   ·refine sg 14 rfl 126 #[.tmp 7,.tmp 13] rfl #[.slice (some ⟨g,0,none⟩) ds.length c,.int .i64 x.d.p] (fun _ _=>rfl) (HC.out W2 bD) ?_
    rintro e W3 ⟨vw,rfl,oW0,bN⟩
    obtain ⟨aw,cw,rfl⟩:=own_slx oW0
    refine ⟨_,rfl,?_⟩
    simp only [Act.put,zqa,zqb,zqc]
    have bE:=bD.trans (bN.mono bD.size)
    refine hK.out _ _ bE (fun _=>?_)
    clear hK K'
    have ls:=bD.size
    have oW:=own_mono oW0 (show w.heap.size+1+1≤_ by omega)
    clear oW0
    have oB2:=ownsRow_below oB bN
    clear oB
    have oB:=oB2
    clear oB2
    have sA2:=sA.bl' bN
    clear sA
    have sA:=sA2
    clear sA2
    clear bD bN ls
    have bD:=bE
    clear bE
    refine ry 9 rfl (fun K' hK=>?_)
    ·obtain ⟨aw2,bw,cw2,ew,iw,hcw⟩:=own_ints oW
     simp only [Value.slice.injEq] at ew
     obtain ⟨rfl,_,rfl⟩:=ew
     have ls:=bD.size
     refine step_append_ints (by rfl) (.tmp 6) (.tmp 14) 31 (by rfl) (w.heap.size+1+1) 3 i0 Tryz.underlying31 hi hz0 hz1 hz2 (.slice (some ⟨gB,0,none⟩) 1 1) 1 [.int .i64 (-1)] (by rfl) oB (by omega) aw bw 0 cw (M.wrs x.d.p 0 ds) (by rfl) iw (by omega) hcw.1 ?_
     intro v5 W4 oP hg5 hat5
     simp only [Act.put,zqa,zqb,zqc]
     have gge:=(oB.lt gB rfl).1
     have bE:Below W0.heap.size W0 W4:=below_grown bD hg5 (fun k hk=>by have:gB=k:=Option.some.inj hk;omega) (by omega)
     refine hK.out _ _ bE (fun _=>?_)
     clear hK K'
     obtain ⟨av,cv,hv5⟩:=own_slx oP
     have lA:=sA.lt
     have nA:v5.ownBlock≠some A:=fun e=>by
      rcases hat5 with e5 | e5
      ·rw [e5] at e;have:gB=A:=Option.some.inj e;omega
      ·rw [e5] at e;have:=Option.some.inj e;omega
     have sA2:=sA.apart hg5 (fun e=>by have:gB=A:=Option.some.inj e;omega)
     clear sA lA
     have sA:=sA2
     clear sA2
     subst hv5
     obtain ⟨nv,hnv⟩:∃ nv,1+(M.wrs x.d.p 0 ds).length=nv:=⟨_,rfl⟩
     rw [hnv] at oP ⊢
     rw [hnv] at nA
     clear hg5 hat5 oB oW iw hcw bD ls gge
     have bD:=bE
     clear bE
     refine ry 11 rfl (fun K' hK=>?_)
     ·have sc:=sA.c
      have sz1:=sA.fz
      have fin:=HF.out W4 A _ bD sA geA (by rw [hnv];exact oP) nA
      rw [if_pos (by rfl)]
      go_simp
      refine hK.out _ _ (bD.setCell (by show W0.heap.size≤A;omega) _) (fun _=>?_)
      clear hK K'
      refine wpAnyH_done (by kernel_rfl) ?_ _
      clear sc sz1
      go_wp2_with fail
      go_ret
      exact ⟨_,rfl,fin⟩
  ·refine sg 14 rfl 126 #[.tmp 7,.tmp 13] rfl #[.slice (some ⟨g,0,none⟩) ds.length c,.int .i64 x.d.p] (fun _ _=>rfl) (HC.out W1 bD) ?_
   rintro e W2 ⟨vw,rfl,oW0,bN⟩
   obtain ⟨aw,cw,rfl⟩:=own_slx oW0
   refine ⟨_,rfl,?_⟩
   simp only [Act.put,zqa,zqb,zqc]
   have bE:=bD.trans (bN.mono bD.size)
   refine hK.out _ _ bE (fun _=>?_)
   clear hK K'
   have ls:=bD.size
   have oW:=own_mono oW0 (show w.heap.size+1+1≤_ by omega)
   clear oW0
   have sA2:=sA.bl' bN
   clear sA
   have sA:=sA2
   clear sA2
   clear bD bN ls
   have bD:=bE
   clear bE
   refine ry 0 rfl (fun K' hK=>?_)
   ·rw [if_pos (by rfl)]
    go_simp
    have bN:=below1 W2 (.cells #[.int .i64 (-1)] 3)
    have bE:=bD.trans (bN.mono bD.size)
    refine hK.out _ _ bE (fun _=>?_)
    clear hK K'
    have ls:=bD.size
    have oB:(W2.alloc (.cells #[.int .i64 (-1)] 3)).ownsRow (w.heap.size+1+1) 3 1 (.slice (some ⟨W2.heap.size,0,none⟩) 1 1) 1 [.int .i64 (-1)]:=⟨rfl,Or.inr ⟨W2.heap.size,1,#[.int .i64 (-1)],rfl,by omega,heap_alloc_new _ _,by omega,by unfold maxLen;omega,rfl,rfl⟩⟩
    have sA2:=sA.bl' bN
    have neAB:A≠W2.heap.size:=by have:=sA.lt;omega
    have oW2:=ownsRow_below oW bN
    generalize W2.alloc (.cells #[.int .i64 (-1)] 3)=W3 at *
    generalize W2.heap.size=gB at *
    clear bD bN
    have bD:=bE
    clear bE
    clear sA
    have sA:=sA2
    clear sA2
    clear oW
    have oW:=oW2
    clear oW2
    clear ls
    refine ry 9 rfl (fun K' hK=>?_)
    ·obtain ⟨aw2,bw,cw2,ew,iw,hcw⟩:=own_ints oW
     simp only [Value.slice.injEq] at ew
     obtain ⟨rfl,_,rfl⟩:=ew
     have ls:=bD.size
     refine step_append_ints (by rfl) (.tmp 6) (.tmp 14) 31 (by rfl) (w.heap.size+1+1) 3 i0 Tryz.underlying31 hi hz0 hz1 hz2 (.slice (some ⟨gB,0,none⟩) 1 1) 1 [.int .i64 (-1)] (by rfl) oB (by omega) aw bw 0 cw (M.wrs x.d.p 0 ds) (by rfl) iw (by omega) hcw.1 ?_
     intro v5 W4 oP hg5 hat5
     simp only [Act.put,zqa,zqb,zqc]
     have gge:=(oB.lt gB rfl).1
     have bE:Below W0.heap.size W0 W4:=below_grown bD hg5 (fun k hk=>by have:gB=k:=Option.some.inj hk;omega) (by omega)
     refine hK.out _ _ bE (fun _=>?_)
     clear hK K'
     obtain ⟨av,cv,hv5⟩:=own_slx oP
     have lA:=sA.lt
     have nA:v5.ownBlock≠some A:=fun e=>by
      rcases hat5 with e5 | e5
      ·rw [e5] at e;have:gB=A:=Option.some.inj e;omega
      ·rw [e5] at e;have:=Option.some.inj e;omega
     have sA2:=sA.apart hg5 (fun e=>by have:gB=A:=Option.some.inj e;omega)
     clear sA lA
     have sA:=sA2
     clear sA2
     subst hv5
     obtain ⟨nv,hnv⟩:∃ nv,1+(M.wrs x.d.p 0 ds).length=nv:=⟨_,rfl⟩
     rw [hnv] at oP ⊢
     rw [hnv] at nA
     clear hg5 hat5 oB oW iw hcw bD ls gge
     have bD:=bE
     clear bE
     refine ry 11 rfl (fun K' hK=>?_)
     ·have sc:=sA.c
      have sz1:=sA.fz
      have fin:=HF.out W4 A _ bD sA geA (by rw [hnv];exact oP) nA
      rw [if_pos (by rfl)]
      go_simp
      refine hK.out _ _ (bD.setCell (by show W0.heap.size≤A;omega) _) (fun _=>?_)
      clear hK K'
      refine wpAnyH_done (by kernel_rfl) ?_ _
      clear sc sz1
      go_wp2_with fail
      go_ret
      exact ⟨_,rfl,fin⟩
end
section
open Go.RowKit Go.Shelf
attribute [local go_sem] Oper.semAt_some
structure NextD (D:Nat→Prop) (w:World) (ws:List Int) (p:Nat) (x:M.Wy) (wb xb pb:Nat):Prop where
 s:∃ sa sg sc,w.cell? ⟨wb,0,none⟩=some (.slice sa ws.length sc)∧IntS w sa sg 0 ws∧(0 < ws.length→D sg)
 p:w.cell? ⟨pb,0,none⟩=some (.int .i64 p)
 x:∃ fv ov cs,w.cell? ⟨xb,0,none⟩=some fv∧w.cell? ⟨xb,1,none⟩=some ov∧Xw w 0 fv ov x.1 cs x.2∧∀ k,Blks fv ov cs k→D k
 ds:D wb
 dx:D xb
 dp:D pb
def M.nextP (p:Nat) (ws:List Int) (x:M.Wy) (n:Nat):List M.Wy:=M.chN p (ws.take n) x
theorem M.nextP_step (p:Nat) (ws:List Int) (x:M.Wy) (n:Nat) (h:n < ws.length):M.nextP p ws x (n+1)=M.nextP p ws x n++if M.has (x.2.getD p []) ws[n] then [] else [(x.1,x.2.set p (x.2.getD p []++[ws[n]]))]:=by
 unfold M.nextP M.chN
 rw [List.take_succ_eq_append_getElem h,List.flatMap_append,List.flatMap_cons,List.flatMap_nil,List.append_nil]
theorem M.nextP_pre (p:Nat) (ws:List Int) (x:M.Wy) (n:Nat):M.nextP p ws x n <+: M.chN p ws x:=by
 unfold M.nextP M.chN
 conv=>rhs;rw [← List.take_append_drop n ws,List.flatMap_append]
 exact List.prefix_append _ _
theorem M.nextP_all (p:Nat) (ws:List Int) (x:M.Wy) (n:Nat) (h:ws.length≤n):M.nextP p ws x n=M.chN p ws x:=by
 unfold M.nextP
 rw [List.take_of_length_le h]
set_option maxRecDepth 100000 in
set_option maxHeartbeats 4000000 in
theorem next_seq {D:Nat→Prop} {w:World} {ds:List M.De} {ws:List Int} {p:Nat} {x:M.Wy} {wb xb pb:Nat} (h:NextD D w ws p x wb xb pb) (hDl:∀ k,D k→k < w.heap.size) (hp:p < 3) (hdl:ds.length≤1000) (hwl:ws.length≤1000) (hq:WyOk ds x) (hws:∀ v∈ws,0≤v∧v < ds.length) (n:Nat) :
  SeqC Fence.wide n Tryz.prog 168 #[.pointer (some ⟨wb,0,none⟩),.pointer (some ⟨xb,0,none⟩),.pointer (some ⟨pb,0,none⟩)] (WayV (WyOk ds)) D (M.chN p ws x) w:=by
 intro l J Jx C W hW hC hJ hJx hY h0
 have hwW:=hW.size
 have hx1l:x.1.length≤1000:=by have:=hq.len;omega
 have hx2l:x.2.length≤1000:=by have:=hq.ord;omega
 have hp2:p < x.2.length:=by have:=hq.ord;omega
 have hx3:∀ r∈x.2,r.length≤1000:=fun r hr=>by have:=hq.row_le r hr;omega
 have HQ:Hid (WyOk ds x):=hq
 clear hq
 refine callsIn_wide.2 (callsIn_wide (n:=9) |>.1 ?_)
 refine callsIn_of_wp Tryz.func168 rfl trivial ?_ rfl
 simp only [Tryz.ntmps168,List.size_toArray,List.length_cons,List.length_nil,Nat.reduceAdd,Nat.reduceSub,Array.replicate_succ,Array.replicate_zero,List.push_toArray,List.append_toArray,List.nil_append,List.cons_append]
 obtain ⟨sa,sg,sc,s0,s2,s3⟩:=h.s
 have s1:=hW.cell h.ds s0
 gi_wp2
 gi_loopw [10] (fun s10 wr=>∃ (n:Nat) (C':Nat→Prop),s10=.int .i64 n∧n≤ws.length∧FromI J C D w W (M.nextP p ws x n) C' wr) (fun s10 _=>ws.length - (intOf s10).toNat)
 case atStart=>exact ⟨0,C,rfl,Nat.zero_le _,by simpa [M.nextP,M.chN] using h0,Fr.refl _ _,fun k hk=>Or.inl hk,hW,hC⟩
 case round =>
  obtain ⟨n,C',rfl,hn,hI⟩:=hrel
  by_cases hlt:n < ws.length
  ·have sI:=s2.fr hI.fd s3
   obtain rfl:=sI.addr (by omega)
   have sc0:=sI.row n hlt
   rw [Nat.zero_add] at sc0
   have hpre:=M.nextP_pre p ws x (n+1)
   have hstep:=M.nextP_step p ws x n hlt
   have hfw:=hws _ (List.getElem_mem hlt)
   generalize ws[n]=f at *
   have i1:(n:Int) < ws.length:=by omega
   obtain ⟨fv,ov,cs,x1,x2,x3,x4⟩:=h.x
   obtain ⟨a1,b1,c1,a2,b2,c2,rfl,rfl,r1,r2⟩:=(x3.fr hI.fd x4).reads
   obtain rfl:=r2.addr (by omega)
   have cx0:=hI.fd.cell h.dx x1
   have cx1:=hI.fd.cell h.dx x2
   have cp:=hI.fd.cell h.dp h.p
   obtain ⟨ra,rb,ro,rc,cr,ri⟩:=r2.row p hp2
   rw [Nat.zero_add] at cr
   have hrl:=hx3 _ (List.getElem_mem hp2)
   have eg:x.2.getD p []=x.2[p]:=by rw [List.getD_eq_getElem?_getD,List.getElem?_eq_getElem hp2];rfl
   have hp':(p:Int) < x.2.length:=by omega
   have CC:=containsI_any ra rb ro rc x.2[p] f wr (by omega) ri
   have CX:=copyExec_any a1 b1 0 c1 x.1 (some ⟨b2,0,none⟩) b2 0 c2 x.2 wr (by omega) (by omega) (fun t ht=>by have:=hx3 t ht;omega) r1 r2
   have hsw:=hI.fc.size
   gi_wp2_with fail
   refine ⟨trivial,(callsIn_wide.2 CC).mono ?_⟩
   rintro e w0 ⟨rfl,e0⟩
   obtain rfl:wr=w0:=e0.symm
   cases hE:M.has x.2[p] f
   rotate_left
   ·have hst2:M.nextP p ws x (n+1)=M.nextP p ws x n:=by rw [hstep,eg,hE];simp
    clear hE
    gi_wp2_with fail
    go_roundw
    case rel=>exact ⟨n+1,C',by go_num,by omega,by rw [hst2];exact hI⟩
    case measure=>simp [intOf];omega
   have hst2:M.nextP p ws x (n+1)=M.nextP p ws x n++[(x.1,x.2.set p (x.2[p]++[f]))]:=by rw [hstep,eg,hE];simp
   have hQx:WyOk ds (x.1,x.2.set p (x.2[p]++[f])):=by
    refine ⟨HQ.out.len,HQ.out.inn,by rw [List.length_set];exact HQ.out.ord,fun t ht=>?_⟩
    rcases List.mem_or_eq_of_mem_set ht with h1 | rfl
    ·exact HQ.out.rows t h1
    ·obtain ⟨q1,q2⟩:=HQ.out.rows _ (List.getElem_mem hp2)
     refine ⟨?_,fun v hv=>?_⟩
     ·rw [List.nodup_append]
      refine ⟨q1,by simp,fun a ha b hb e=>?_⟩
      rw [List.mem_singleton] at hb
      subst hb
      subst e
      have:M.has x.2[p] a=true:=by simpa [M.has] using ha
      rw [hE] at this
      cases this
     ·rcases List.mem_append.1 hv with h1 | h1
      ·exact q2 v h1
      ·rw [List.mem_singleton.1 h1];exact hfw
   clear hE hstep
   gi_wp2_with fail
   refine ⟨trivial,(callsIn_wide.2 CX).mono ?_⟩
   rintro e w1 ⟨fv',ov',rfl,hA⟩
   have bw1:=hA.bel
   obtain ⟨cs',hx'⟩:=hA.ex
   obtain ⟨fa,fc,rfl⟩:=own_slx hx'.from_
   obtain ⟨ob,oc,rfl,hob1,hob2⟩:=hx'.ord.form (by omega)
   have lpb:pb < wr.heap.size:=World.block_lt_of_cell? _ _ cp
   have bB:=below1 w1 (.cells #[.slice fa x.1.length fc,.slice (some ⟨ob,0,none⟩) x.2.length oc] 122)
   have bwB:=bw1.trans (bB.mono bw1.size)
   have sY:SlotX (w1.alloc (.cells #[.slice fa x.1.length fc,.slice (some ⟨ob,0,none⟩) x.2.length oc] 122)) w1.heap.size (.slice fa x.1.length fc) (.slice (some ⟨ob,0,none⟩) x.2.length oc):=⟨heap_alloc_new _ _⟩
   have hxB:=hx'.below bB
   have cpB:=(bwB.cell (p:=⟨pb,0,none⟩) lpb).trans cp
   clear cx0 cx1 sc0 cr CC CX
   gi_wp2_with fail
   obtain ⟨u,e1,e2w,e3,e4⟩:=hx'.row p hp2
   have e2:=ownsRow_below e2w bB
   obtain ⟨ua,uc,rfl⟩:=own_slx e2
   have oX:(Value.slice ua x.2[p].length uc).ownBlock≠some w1.heap.size:=fun e=>by have:=(e2w.lt _ e).2;omega
   clear e2w
   have cro:=hxB.ord.cells (g:=ob) rfl p _ e1
   rw [Go.WideShapes.add_plain,Nat.zero_add] at cro
   have y1:=sY.c1
   have lX:=sY.lt
   have hXge:wr.heap.size≤w1.heap.size:=bw1.size
   have lpB:pb < (w1.alloc (.cells #[.slice fa x.1.length fc,.slice (some ⟨ob,0,none⟩) x.2.length oc] 122)).heap.size:=by simp;omega
   have lob:ob < (w1.alloc (.cells #[.slice fa x.1.length fc,.slice (some ⟨ob,0,none⟩) x.2.length oc] 122)).heap.size:=by simp;omega
   have lwr:wr.heap.size≤(w1.alloc (.cells #[.slice fa x.1.length fc,.slice (some ⟨ob,0,none⟩) x.2.length oc] 122)).heap.size:=by simp;omega
   generalize w1.alloc (.cells #[.slice fa x.1.length fc,.slice (some ⟨ob,0,none⟩) x.2.length oc] 122)=WB at *
   generalize hXe:w1.heap.size=X at *
   have hp0:¬ (p:Int) < 0:=by omega
   obtain ⟨i0,hi,hz0,hz1,hz2⟩:=info_parts Tryz.infoInt
   generalize hR:x.2[p]=r at *
   refine wpIn_wide.2 ?_
   refine wp_region_held_drew (S:=fun w'=>w'.cell? ⟨X,1,none⟩=some (.slice (some ⟨ob,0,none⟩) x.2.length oc)∧w'.cell? ⟨pb,0,none⟩=some (.int .i64 p)) (by kernel_rfl) ⟨y1,cpB⟩ (fun hH=>?_)
   refine tk 0 23 (.pointer (some ⟨X,1,none⟩)) hH rfl rfl (by intro w' hSw;go_simp) ?_
   simp only [Act.put,zqa,zqb,zqc]
   refine tk 1 24 (.slice (some ⟨ob,0,none⟩) x.2.length oc) hH rfl rfl (by intro w' hSw;have hc:=hSw.1;go_simp) ?_
   simp only [Act.put,zqa,zqb,zqc]
   refine tk 2 25 (.int .i64 p) hH rfl rfl (by intro w' hSw;have hc:=hSw.2;go_simp) ?_
   simp only [Act.put,zqa,zqb,zqc]
   refine tk 3 26 (.pointer (some ⟨X,1,none⟩)) hH rfl rfl (by intro w' hSw;go_simp) ?_
   simp only [Act.put,zqa,zqb,zqc]
   refine tk 4 27 (.slice (some ⟨ob,0,none⟩) x.2.length oc) hH rfl rfl (by intro w' hSw;have hc:=hSw.1;go_simp) ?_
   simp only [Act.put,zqa,zqb,zqc]
   refine tk 5 28 (.int .i64 p) hH rfl rfl (by intro w' hSw;have hc:=hSw.2;go_simp) ?_
   simp only [Act.put,zqa,zqb,zqc]
   refine tk 6 29 (.pointer (some ⟨ob,p,none⟩)) hH rfl rfl (by intro w' hSw;go_simp) ?_
   simp only [Act.put,zqa,zqb,zqc]
   refine tk 8 31 (.int .i64 f) hH rfl rfl (by intro w' hSw;go_simp) ?_
   simp only [Act.put,zqa,zqb,zqc]
   have bal:Below WB.heap.size WB (WB.alloc (.cells #[.int .i64 f] 3)).drew:=((Below.refl _ WB).alloc (Nat.le_refl _) _).drew
   have S1:(WB.alloc (.cells #[.int .i64 f] 3)).drew.cell? ⟨X,1,none⟩=some (.slice (some ⟨ob,0,none⟩) x.2.length oc)∧(WB.alloc (.cells #[.int .i64 f] 3)).drew.cell? ⟨pb,0,none⟩=some (.int .i64 p):=⟨(bal.cell (p:=⟨X,1,none⟩) lX).trans y1,(bal.cell (p:=⟨pb,0,none⟩) lpB).trans cpB⟩
   have S1r:(WB.alloc (.cells #[.int .i64 f] 3)).drew.cell? ⟨ob,p,none⟩=some (.slice ua r.length uc):=(bal.cell (p:=⟨ob,p,none⟩) lob).trans cro
   have eu:=ownsRow_below e2 bal
   have oP:(Value.slice ua r.length uc).ownBlock≠some pb:=fun e=>by have:=(e2.lt pb e).1;omega
   have oO:(Value.slice ua r.length uc).ownBlock≠some ob:=fun e=>e3 ob e rfl
   have hlal:∀ k,k < WB.heap.size→k < (WB.alloc (.cells #[.int .i64 f] 3)).drew.heap.size:=fun k hk=>by show k < (WB.alloc (.cells #[.int .i64 f] 3)).heap.size;simp;omega
   have FIN:Hid (∀ (g5 cap5:Nat) (w5:World),w5.ownsRow wr.heap.size 3 1 (.slice (some ⟨g5,0,none⟩) (r.length+1) cap5) (r.length+1) (nums r++[.int .i64 f])→(WB.alloc (.cells #[.int .i64 f] 3)).drew.grownBy w5 (Value.slice ua r.length uc).ownBlock→((Value.slice ua r.length uc).ownBlock=some g5∨g5=WB.heap.size+1) →
     (w5.cell? ⟨X,1,none⟩=some (.slice (some ⟨ob,0,none⟩) x.2.length oc)∧w5.cell? ⟨pb,0,none⟩=some (.int .i64 p))∧w5.cell? ⟨ob,p,none⟩=some (.slice ua r.length uc)∧w5.frozen? ⟨ob,p,none⟩=false∧((w5.setCell ⟨ob,p,none⟩ (.slice (some ⟨g5,0,none⟩) (r.length+1) cap5)).cell? ⟨X,1,none⟩=some (.slice (some ⟨ob,0,none⟩) x.2.length oc)∧(w5.setCell ⟨ob,p,none⟩ (.slice (some ⟨g5,0,none⟩) (r.length+1) cap5)).cell? ⟨pb,0,none⟩=some (.int .i64 p))∧(w5.setCell ⟨ob,p,none⟩ (.slice (some ⟨g5,0,none⟩) (r.length+1) cap5)).cell? ⟨X,0,none⟩=some (.slice fa x.1.length fc) ∧
      WyAns wr (w5.setCell ⟨ob,p,none⟩ (.slice (some ⟨g5,0,none⟩) (r.length+1) cap5)) (.slice fa x.1.length fc) (.slice (some ⟨ob,0,none⟩) x.2.length oc) x.1 (x.2.set p (r++[f]))):=by
    intro g5 cap5 w5 ho hg hat
    have hxA:=hxB.below bal
    have hown:w5.ownsRow wr.heap.size 3 1 (.slice (some ⟨g5,0,none⟩) (r++[f]).length cap5) (r++[f]).length (nums (r++[f])):=by rw [List.length_append];simpa [nums] using ho
    have px:=hxA.putRow hp2 e1 hown hg (hat.imp id (fun e=>by rw [e];show _=(WB.alloc (.cells #[.int .i64 f] 3)).heap.size;simp))
    rw [List.length_append] at px
    have cX:=(hg.cell_far ⟨X,1,none⟩ (hlal _ lX) (fun e=>oX e.symm)).trans S1.1
    have cX0:=(hg.cell_far ⟨X,0,none⟩ (hlal _ lX) (fun e=>oX e.symm)).trans ((bal.cell (p:=⟨X,0,none⟩) lX).trans sY.c0)
    have cP:=(hg.cell_far ⟨pb,0,none⟩ (hlal _ lpB) (fun e=>oP e.symm)).trans S1.2
    have cO:=(hg.cell_far ⟨ob,p,none⟩ (hlal _ lob) (fun e=>oO e.symm)).trans S1r
    have fO:w5.frozen? ⟨ob,p,none⟩=false:=by
     rw [World.frozen?_of_block (w:=(WB.alloc (.cells #[.int .i64 f] 3)).drew) (a:=⟨ob,p,none⟩) (hg.block ob (hlal _ lob) (fun e=>oO e.symm)),bal.frozen (p:=⟨ob,p,none⟩) lob]
     rcases hxB.ord.2 with ⟨hv,_⟩ | ⟨g',cap,cur,hv,_,hh,_⟩
     ·cases hv
     ·simp only [Value.slice.injEq,Option.some.injEq,Addr.mk.injEq] at hv
      obtain ⟨⟨rfl,_⟩,_⟩:=hv
      simp [World.frozen?,hh]
    have nX:ob≠X:=by omega
    have nP:ob≠pb:=by omega
    refine ⟨⟨cX,cP⟩,cO,fO,⟨by rw [World.cell?_setCell_other _ _ _ _ (fun e=>nX (congrArg Addr.block e))];exact cX,by rw [World.cell?_setCell_other _ _ _ _ (fun e=>nP (congrArg Addr.block e))];exact cP⟩,by rw [World.cell?_setCell_other _ _ _ _ (fun e=>nX (congrArg Addr.block e))];exact cX0,⟨_,px⟩,?_⟩
    exact ((bwB.trans (bal.mono lwr)).grown hg (Nat.le_trans lwr bal.size) (fun k hk=>(e2.lt k hk).1)).setCell hob1 _
   refine wpAnyH_ready (rs:=[7,9]) (by kernel_rfl) (by simp) ?_
   refine AllReadyH.cons rfl (fun K' hK=>?_) (AllReadyH.cons rfl (fun K' hK=>?_) AllReadyH.nil)
   ·have xx:=cro
    rw [if_pos (by rfl)]
    go_simp
    refine hK.out _ _ hH (fun _=>?_)
    clear hK K' xx
    refine ry 9 rfl (fun K' hK=>?_)
    rw [if_pos (by rfl)]
    go_simp
    refine hK.out _ _ S1 (fun _=>?_)
    clear hK K'
    refine ry 10 rfl (fun K' hK=>?_)
    refine step_append_lies _ (by rfl) (.tmp 30) (.tmp 32) 31 (by rfl) wr.heap.size 3 i0 _ 1 8 Tryz.underlying31 hi hz0 hz1 hz2 rfl (by decide) (.slice ua r.length uc) r.length (nums r) (by rfl) eu ⟨WB.heap.size,0,none⟩ 1 1 [.int .i64 f] (by rfl) (by rfl) (World.news_of_block (cs:=#[.int .i64 f]) (t:=3) (fr:=(0,0)) (heap_alloc_new WB _)) (by simp [Value.oneCell']) (by omega) (by unfold maxLen;omega) (by omega) (Nat.le_trans lwr bal.size) (WB.heap.size+1) (by show (WB.alloc (.cells #[.int .i64 f] 3)).heap.size=_;simp) ?_
    intro g5 cap5 w5 hown5 hg5 hat5 hlt5
    obtain ⟨S5,xc,xz,S6,xX,hW⟩:=FIN.out g5 cap5 w5 hown5 hg5 hat5
    go_simp
    refine hK.out _ _ S5 (fun hH5=>?_)
    clear hK K'
    refine tk 11 34 (.pointer (some ⟨ob,p,none⟩)) hH5 rfl rfl (by intro w' hSw;go_simp) ?_
    simp only [Act.put,zqa,zqb,zqc]
    refine ry 12 rfl (fun K' hK=>?_)
    rw [if_pos (by rfl)]
    go_simp
    refine hK.out _ _ S6 (fun _=>?_)
    clear hK K' xc xz
    refine wpAnyH_done (by kernel_rfl) ?_ _
    have xX1:=S6.1
    clear FIN S5
    generalize w5.setCell ⟨ob,p,none⟩ (.slice (some ⟨g5,0,none⟩) (r.length+1) cap5)=w6 at *
    have bw6:=hW.bel
    have hI6:=hI.below hJ bw6
    obtain ⟨O,hWV,hO⟩:=hW.way hQx
    obtain ⟨fn,tmps,assign,body,hy,hR6⟩:=yieldAt_any (m':=8) (hY _ C' _ _ O w6 (by rw [← hst2];exact hpre) hI6.j hWV (fun k hk=>⟨fun hc=>by have:=(hI.bd k hc).1;have:=(hO k hk).1;omega,fun hd=>by have:=hDl k hd;have:=(hO k hk).1;have:=hI.fd.size;omega⟩))
    have key:∀ (J':List M.Wy→(Nat→Prop)→World→Prop) (C4:Nat→Prop) (w4:World),Fr (fun k=>¬ C' k∧¬ O k) w6 w4→Adds C' O C4 w6 w4→J' (M.nextP p ws x n++[(x.1,x.2.set p (r++[f]))]) C4 w4→FromI J' C D w W (M.nextP p ws x (n+1)) C4 w4:=fun J' C4 w4 hf hA hj=>by
     rw [hst2]
     have:=bw6.size
     exact hI6.round (by omega) (fun k hd=>by have:=hDl k hd;have:=hI.fd.size;omega) (fun k hk=>⟨fun hd=>by have:=hDl k hd;have:=(hO k hk).1;have:=hI.fd.size;omega,by have:=(hO k hk).1;omega,(hO k hk).2⟩) hf hA hj
    gi_wp2_with fail
    refine hR6.mono ?_
    rintro e w7 ⟨hf4,C4,hA4,(⟨rfl,hj4⟩ | ⟨rfl,hj4⟩)⟩
    ·have hI4:=key J C4 w7 hf4 hA4 hj4
     gi_wp2_with fail
     go_roundw
     case rel=>exact ⟨n+1,C4,by go_num,by omega,hI4⟩
     case measure=>simp [intOf];omega
    ·have hI4:=key Jx C4 w7 hf4 hA4 hj4
     gi_wp2_with fail
     refine bodyPost_ret (results_none rfl _ _ _) rfl ?_
     exact ⟨⟨_,rfl⟩,hI4.fc,C4,hI4.ad,Or.inr ⟨_,hpre,hI4.j⟩⟩
   ·rw [if_pos (by rfl)]
    go_simp
    refine hK.out _ _ S1 (fun _=>?_)
    clear hK K'
    refine ry 7 rfl (fun K' hK=>?_)
    have xx:=S1r
    rw [if_pos (by rfl)]
    go_simp
    refine hK.out _ _ S1 (fun _=>?_)
    clear hK K' xx
    refine ry 10 rfl (fun K' hK=>?_)
    refine step_append_lies _ (by rfl) (.tmp 30) (.tmp 32) 31 (by rfl) wr.heap.size 3 i0 _ 1 8 Tryz.underlying31 hi hz0 hz1 hz2 rfl (by decide) (.slice ua r.length uc) r.length (nums r) (by rfl) eu ⟨WB.heap.size,0,none⟩ 1 1 [.int .i64 f] (by rfl) (by rfl) (World.news_of_block (cs:=#[.int .i64 f]) (t:=3) (fr:=(0,0)) (heap_alloc_new WB _)) (by simp [Value.oneCell']) (by omega) (by unfold maxLen;omega) (by omega) (Nat.le_trans lwr bal.size) (WB.heap.size+1) (by show (WB.alloc (.cells #[.int .i64 f] 3)).heap.size=_;simp) ?_
    intro g5 cap5 w5 hown5 hg5 hat5 hlt5
    obtain ⟨S5,xc,xz,S6,xX,hW⟩:=FIN.out g5 cap5 w5 hown5 hg5 hat5
    go_simp
    refine hK.out _ _ S5 (fun hH5=>?_)
    clear hK K'
    refine tk 11 34 (.pointer (some ⟨ob,p,none⟩)) hH5 rfl rfl (by intro w' hSw;go_simp) ?_
    simp only [Act.put,zqa,zqb,zqc]
    refine ry 12 rfl (fun K' hK=>?_)
    rw [if_pos (by rfl)]
    go_simp
    refine hK.out _ _ S6 (fun _=>?_)
    clear hK K' xc xz
    refine wpAnyH_done (by kernel_rfl) ?_ _
    have xX1:=S6.1
    clear FIN S5
    generalize w5.setCell ⟨ob,p,none⟩ (.slice (some ⟨g5,0,none⟩) (r.length+1) cap5)=w6 at *
    have bw6:=hW.bel
    have hI6:=hI.below hJ bw6
    obtain ⟨O,hWV,hO⟩:=hW.way hQx
    obtain ⟨fn,tmps,assign,body,hy,hR6⟩:=yieldAt_any (m':=8) (hY _ C' _ _ O w6 (by rw [← hst2];exact hpre) hI6.j hWV (fun k hk=>⟨fun hc=>by have:=(hI.bd k hc).1;have:=(hO k hk).1;omega,fun hd=>by have:=hDl k hd;have:=(hO k hk).1;have:=hI.fd.size;omega⟩))
    have key:∀ (J':List M.Wy→(Nat→Prop)→World→Prop) (C4:Nat→Prop) (w4:World),Fr (fun k=>¬ C' k∧¬ O k) w6 w4→Adds C' O C4 w6 w4→J' (M.nextP p ws x n++[(x.1,x.2.set p (r++[f]))]) C4 w4→FromI J' C D w W (M.nextP p ws x (n+1)) C4 w4:=fun J' C4 w4 hf hA hj=>by
     rw [hst2]
     have:=bw6.size
     exact hI6.round (by omega) (fun k hd=>by have:=hDl k hd;have:=hI.fd.size;omega) (fun k hk=>⟨fun hd=>by have:=hDl k hd;have:=(hO k hk).1;have:=hI.fd.size;omega,by have:=(hO k hk).1;omega,(hO k hk).2⟩) hf hA hj
    gi_wp2_with fail
    refine hR6.mono ?_
    rintro e w7 ⟨hf4,C4,hA4,(⟨rfl,hj4⟩ | ⟨rfl,hj4⟩)⟩
    ·have hI4:=key J C4 w7 hf4 hA4 hj4
     gi_wp2_with fail
     go_roundw
     case rel=>exact ⟨n+1,C4,by go_num,by omega,hI4⟩
     case measure=>simp [intOf];omega
    ·have hI4:=key Jx C4 w7 hf4 hA4 hj4
     gi_wp2_with fail
     refine bodyPost_ret (results_none rfl _ _ _) rfl ?_
     exact ⟨⟨_,rfl⟩,hI4.fc,C4,hI4.ad,Or.inr ⟨_,hpre,hI4.j⟩⟩
  ·have hkn:¬ (n:Int) < ws.length:=by omega
   gi_wp2
   go_end0
   exact ⟨⟨_,rfl⟩,hI.fc,C',hI.ad,Or.inl (by rw [← M.nextP_all p ws x n (by omega)];exact hI.j)⟩
end
section
open Go.RowKit Go.Shelf
set_option maxRecDepth 100000 in
set_option maxHeartbeats 1000000 in
theorem next_choice {D:Nat→Prop} {w:World} {ds:List M.De} {ws:List Int} {p wb pb:Nat} (hs:∃ sa sg sc,w.cell? ⟨wb,0,none⟩=some (.slice sa ws.length sc)∧IntS w sa sg 0 ws∧(0 < ws.length→D sg))
  (hp0:w.cell? ⟨pb,0,none⟩=some (.int .i64 p)) (ds1:D wb) (dp:D pb) (hDl:∀ k,D k→k < w.heap.size) (hp:p < 3) (hdl:ds.length≤1000) (hwl:ws.length≤1000) (hws:∀ v∈ws,0≤v∧v < ds.length) :
  ChoiceC (WayV (WyOk ds)) D 167 #[.pointer (some ⟨wb,0,none⟩),.pointer (some ⟨pb,0,none⟩)] (M.chN p ws) w:=by
 refine ⟨enters_of Tryz.func167 (by kernel_rfl) rfl,fun x vs O W hW hV hO=>?_⟩
 obtain ⟨⟨fv,ov,cs,rfl,hx,hOk⟩,hq⟩:=hV
 have hmf:∀ (fn:Fn) (first cap:Array Value) (w:World),(Instr.makeFunc fn first cap).run Tryz.prog w=.ok (.func fn first cap) w:=fun _ _ _ _=>rfl
 obtain ⟨a1,c1,rfl⟩:=own_slx hx.from_
 obtain ⟨a2,c2,rfl⟩:=own_slx hx.ord
 have b1:=below1 W (.cells #[.slice a1 x.1.length c1,.slice a2 x.2.length c2] 122)
 have sX:SlotX (W.alloc (.cells #[.slice a1 x.1.length c1,.slice a2 x.2.length c2] 122)) W.heap.size (.slice a1 x.1.length c1) (.slice a2 x.2.length c2):=⟨heap_alloc_new _ _⟩
 have sz:(W.alloc (.cells #[.slice a1 x.1.length c1,.slice a2 x.2.length c2] 122)).heap.size=W.heap.size+1:=by simp
 have hF:NextD (fun k=>D k∨O k∨(W.heap.size≤k∧k < (W.alloc (.cells #[.slice a1 x.1.length c1,.slice a2 x.2.length c2] 122)).heap.size)) (W.alloc (.cells #[.slice a1 x.1.length c1,.slice a2 x.2.length c2] 122)) ws p x wb W.heap.size pb:=by
  have hf:Fr D w (W.alloc (.cells #[.slice a1 x.1.length c1,.slice a2 x.2.length c2] 122)):=hW.trans (.of_below b1)
  obtain ⟨sa,sg,sc,s1,s2,s3⟩:=hs
  exact ⟨⟨sa,sg,sc,hf.cell ds1 s1,s2.fr hf s3,fun h=>Or.inl (s3 h)⟩,hf.cell dp hp0,⟨_,_,cs,sX.c0,sX.c1,hx.below b1,fun k hk=>Or.inr (Or.inl ((hOk k).2 hk))⟩,Or.inl ds1,Or.inr (Or.inr ⟨Nat.le_refl _,by omega⟩),Or.inl dp⟩
 have hseq:=fun n=>next_seq (n:=n) hF (fun k hk=>by
  rcases hk with hk | hk | hk
  ·have:=hDl k hk;have:=hW.size;omega
  ·have:=(hx.blk_lt ((hOk k).1 hk)).2;omega
  ·exact hk.2) hp hdl hwl hq hws
 go_enter Tryz.func167,Tryz.ntmps167
 go_wp2_with fail
 go_ret
 exact ⟨_,_,rfl,enters_of Tryz.func168 (by kernel_rfl) rfl,b1,hseq⟩
set_option maxHeartbeats 400000 in
theorem chooseInEach_any (gf cf:Nat) (lb lc:Array Value) (w:World) :
  Calls Tryz.prog 81 #[.func (.func gf) #[] lb,.func (.func cf) #[] lc] w fun e w'=>e=.returned (.func (.func 128) #[] #[.pointer (some ⟨w.heap.size,0,none⟩),.pointer (some ⟨w.heap.size+1,0,none⟩)])∧Below w.heap.size w w'∧w'.heap.size=w.heap.size+2∧w'.cell? ⟨w.heap.size,0,none⟩=some (.func (.func gf) #[] lb)∧w'.cell? ⟨w.heap.size+1,0,none⟩=some (.func (.func cf) #[] lc):=by
 have hmf:∀ (fn:Fn) (first cap:Array Value) (w:World),(Instr.makeFunc fn first cap).run Tryz.prog w=.ok (.func fn first cap) w:=fun _ _ _ _=>rfl
 go_enter Tryz.func81,Tryz.ntmps81
 go_wp2_with fail
 go_ret
 exact ⟨rfl,below2 _ _ _,by simp,by simp,by simp⟩
set_option maxHeartbeats 400000 in
theorem chooseNext_any (p:Int) (sa:Option Addr) (n sc:Nat) (w:World) :
  Calls Tryz.prog 127 #[.int .i64 p,.slice sa n sc] w fun e w'=>e=.returned (.func (.func 167) #[] #[.pointer (some ⟨w.heap.size+1,0,none⟩),.pointer (some ⟨w.heap.size,0,none⟩)])∧Below w.heap.size w w'∧w'.heap.size=w.heap.size+2∧w'.cell? ⟨w.heap.size,0,none⟩=some (.int .i64 p)∧w'.cell? ⟨w.heap.size+1,0,none⟩=some (.slice sa n sc):=by
 have hmf:∀ (fn:Fn) (first cap:Array Value) (w:World),(Instr.makeFunc fn first cap).run Tryz.prog w=.ok (.func fn first cap) w:=fun _ _ _ _=>rfl
 go_enter Tryz.func127,Tryz.ntmps127
 go_wp2_with fail
 go_ret
 exact ⟨rfl,below2 _ _ _,by simp,by simp,by simp⟩
end
section
open Go.RowKit Go.Shelf
inductive ChRaw (P:Nat→Prop) (ds:List M.De) (va:Option Addr) (W:World):Value→(M.Wy→List M.Wy)→Prop where
 | from_ (at_ sb ab lb c:Nat) (sa:Option Addr) (sg sc:Nat) (h1:at_ < ds.length) (h2:W.cell? ⟨lb,0,none⟩=some (.slice va ds.length c)) (h3:W.cell? ⟨ab,0,none⟩=some (.int .i64 at_)) (h4:W.cell? ⟨sb,0,none⟩=some (.slice sa (M.srcs ds at_).length sc)) (h5:IntS W sa sg 0 (M.srcs ds at_)) (h6:P sb∧P ab∧P lb∧P sg∧sg < W.heap.size) :
  ChRaw P ds va W (.func (.func 162) #[] #[.pointer (some ⟨sb,0,none⟩),.pointer (some ⟨ab,0,none⟩),.pointer (some ⟨lb,0,none⟩)]) (M.chF ds at_)
 | next_ (p wb pb:Nat) (sa:Option Addr) (sg sc:Nat) (h1:p < 3) (h2:W.cell? ⟨wb,0,none⟩=some (.slice sa (M.wrs p 0 ds).length sc)) (h3:W.cell? ⟨pb,0,none⟩=some (.int .i64 p)) (h4:IntS W sa sg 0 (M.wrs p 0 ds)) (h5:P wb∧P pb∧(0 < (M.wrs p 0 ds).length→P sg∧sg < W.heap.size)) :
  ChRaw P ds va W (.func (.func 167) #[] #[.pointer (some ⟨wb,0,none⟩),.pointer (some ⟨pb,0,none⟩)]) (M.chN p (M.wrs p 0 ds))
theorem ChRaw.keep {P P':Nat→Prop} {ds:List M.De} {va:Option Addr} {W W':World} {f:Value} {ch:M.Wy→List M.Wy} (h:ChRaw P ds va W f ch) (hs:W.heap.size≤W'.heap.size) (hk:∀ k,k < W.heap.size→P k→W'.heap[k]?=W.heap[k]?∧P' k):ChRaw P' ds va W' f ch:=by
 have lt:∀ {b i:Nat} {v:Value},W.cell? ⟨b,i,none⟩=some v→b < W.heap.size:=fun hv=>World.block_lt_of_cell? _ _ hv
 have cc:∀ {b i:Nat} {v:Value},P b→W.cell? ⟨b,i,none⟩=some v→W'.cell? ⟨b,i,none⟩=some v:=fun hp hv=>(World.cell?_of_block (hk _ (lt hv) hp).1).trans hv
 have ii:∀ {a:Option Addr} {b:Nat} {l:List Int},IntS W a b 0 l→(0 < l.length→P b)→IntS W' a b 0 l:=fun hI hp=>⟨hI.addr,fun i hi=>cc (hp (by omega)) (hI.row i hi)⟩
 cases h with
 | from_ at_ sb ab lb c sa sg sc h1 h2 h3 h4 h5 h6 =>
  obtain ⟨p1,p2,p3,p4,p5⟩:=h6
  exact .from_ at_ sb ab lb c sa sg sc h1 (cc p3 h2) (cc p2 h3) (cc p1 h4) (ii h5 (fun _=>p4)) ⟨(hk _ (lt h4) p1).2,(hk _ (lt h3) p2).2,(hk _ (lt h2) p3).2,(hk _ p5 p4).2,by omega⟩
 | next_ p wb pb sa sg sc h1 h2 h3 h4 h5 =>
  obtain ⟨p1,p2,p3⟩:=h5
  exact .next_ p wb pb sa sg sc h1 (cc p1 h2) (cc p2 h3) (ii h4 (fun h=>(p3 h).1)) ⟨(hk _ (lt h2) p1).2,(hk _ (lt h3) p2).2,fun h=>⟨(hk _ (p3 h).2 (p3 h).1).2,by have:=(p3 h).2;omega⟩⟩
theorem ChRaw.below {P:Nat→Prop} {ds:List M.De} {va:Option Addr} {W W':World} {f:Value} {ch:M.Wy→List M.Wy} (h:ChRaw P ds va W f ch) (hb:Below W.heap.size W W'):ChRaw P ds va W' f ch :=
 h.keep hb.size fun k hk hp=>⟨hb.block k hk,hp⟩
theorem ChRaw.choice {P:Nat→Prop} {ds:List M.De} {va:Option Addr} {g:Nat} {W:World} {f:Value} {ch:M.Wy→List M.Wy} (h:ChRaw P ds va W f ch) (hd:DeS W va g ds) (hdl:ds.length≤1000) {D:Nat→Prop} (hD:∀ k,P k→k < W.heap.size→D k) (hg:0 < ds.length→D g) (hDl:∀ k,D k→k < W.heap.size) :
  ∃ cf lc,f=.func (.func cf) #[] lc∧ChoiceC (WayV (WyOk ds)) D cf lc ch W:=by
 have lt:∀ {b:Nat} {v:Value},W.cell? ⟨b,0,none⟩=some v→b < W.heap.size:=fun hv=>World.block_lt_of_cell? _ _ hv
 cases h with
 | from_ at_ sb ab lb c sa sg sc h1 h2 h3 h4 h5 h6=>exact ⟨_,_,rfl,from_choice ⟨sa,sg,sc,h4,h5,hD _ h6.2.2.2.1 h6.2.2.2.2⟩ h3 ⟨va,g,c,h2,hd,hg⟩ (hD _ h6.1 (lt h4)) (hD _ h6.2.1 (lt h3)) (hD _ h6.2.2.1 (lt h2)) hDl h1 hdl⟩
 | next_ p wb pb sa sg sc h1 h2 h3 h4 h5 =>
  refine ⟨_,_,rfl,next_choice ⟨sa,sg,sc,h2,h4,fun h=>hD _ (h5.2.2 h).1 (h5.2.2 h).2⟩ h3 (hD _ h5.1 (lt h2)) (hD _ h5.2.1 (lt h3)) hDl h1 hdl ?_ ?_⟩
  ·have:=M.wrs_len (p:Int) ds 0;omega
  ·intro v hv
   obtain ⟨i,hi,e,_⟩:=M.mem_wrs.1 hv
   omega
structure ChL (w wr:World) (ds:List M.De) (va:Option Addr) (v:Value) (ps:List (Value × (M.Wy→List M.Wy))):Prop where
 told:Told w wr 173 1 v ps.length (ps.map fun q=>q.1)
 raw:∀ q∈ps,ChRaw (fun k=>w.heap.size≤k∧v.ownBlock≠some k) ds va wr q.1 q.2
theorem ChL.below {w wr w1:World} {ds:List M.De} {va:Option Addr} {v:Value} {ps:List (Value × (M.Wy→List M.Wy))} (h:ChL w wr ds va v ps) (hb:Below wr.heap.size wr w1):ChL w w1 ds va v ps:=⟨h.told.below hb,fun q hq=>(h.raw q hq).below hb⟩
theorem ChL.snoc {w wr w3:World} {ds:List M.De} {va:Option Addr} {v:Value} {ps:List (Value × (M.Wy→List M.Wy))} {o:Obj} (h:ChL w wr ds va v ps) {g' cap:Nat} {f:Value} {ch:M.Wy→List M.Wy} (hf:ChRaw (fun k=>w.heap.size≤k∧v.ownBlock≠some k) ds va wr f ch)
  (ho:w3.ownsRow w.heap.size 173 1 (.slice (some ⟨g',0,none⟩) (ps.length+1) cap) (ps.length+1) (ps.map (fun q=>q.1)++[f])) (hg:(wr.alloc o).grownBy w3 v.ownBlock) (hat:v.ownBlock=some g'∨g'=wr.heap.size+1):ChL w w3 ds va (.slice (some ⟨g',0,none⟩) (ps.length+1) cap) (ps++[(f,ch)]):=by
 have hs:wr.heap.size≤w3.heap.size:=by have:=hg.size;simp at this;omega
 have kp:∀ {f:Value} {ch:M.Wy→List M.Wy},ChRaw (fun k=>w.heap.size≤k∧v.ownBlock≠some k) ds va wr f ch→ChRaw (fun k=>w.heap.size≤k∧(Value.slice (some ⟨g',0,none⟩) (ps.length+1) cap).ownBlock≠some k) ds va w3 f ch:=fun h=>h.keep hs fun k hk hp=>by
  refine ⟨(hg.block k (by simp;omega) (fun e=>hp.2 e.symm)).trans ((below1 wr o).block k hk),hp.1,fun e=>?_⟩
  have e':g'=k:=Option.some.inj e
  subst e'
  rcases hat with e2 | e2
  ·exact hp.2 e2
  ·omega
 refine ⟨?_,fun q hq=>?_⟩
 ·rw [List.length_append,List.map_append]
  exact h.told.snoc ho hg
 ·rcases List.mem_append.1 hq with hq | hq
  ·exact kp (h.raw q hq)
  ·rw [List.mem_singleton.1 hq];exact kp hf
theorem Tryz.infoWc:(Tryz.prog.info? 173).map (fun i=>(i.zero,i.size,i.bytes))=some (some .nilFunc,1,8):=by kernel_rfl
namespace M
def chPl (ds:List De):Nat→List (Wy→List Wy)
 | 0=>[]
 | p+1=>chPl ds p++chNs ds p
theorem wchoices_eq (ds:List De):wchoices ds=chFs ds 0 ds++chPl ds 3:=by simp [wchoices,chPl]
theorem chFs_step {ds:List De} {n:Nat} {acc:List (Wy→List Wy)} (h:chFs ds 0 ds=acc++chFs ds n (ds.drop n)) (hn:n < ds.length):chFs ds 0 ds=(if ds[n].reads then acc++[chF ds n] else acc)++chFs ds (n+1) (ds.drop (n+1)):=by
 rw [h,← List.getElem_cons_drop hn]
 simp only [chFs]
 split<;>simp
theorem chFs_fin {ds:List De} {n:Nat} {acc:List (Wy→List Wy)} (h:chFs ds 0 ds=acc++chFs ds n (ds.drop n)) (hn:ds.length≤n):chFs ds 0 ds=acc:=by
 rw [h,List.drop_eq_nil_of_le hn];simp [chFs]
end M
structure WsI (w wr:World) (ds:List M.De) (va:Option Addr) (v:Value) (ps:List (Value × (M.Wy→List M.Wy))) (p:Nat) (a2:Option Addr) (sg:Nat):Prop where
 chl:ChL w wr ds va v ps
 ints:IntS wr a2 sg 0 (M.wrs p 0 ds)
 far:0 < (M.wrs p 0 ds).length→w.heap.size≤sg∧v.ownBlock≠some sg
theorem WsI.below {w wr w1:World} {ds:List M.De} {va:Option Addr} {v:Value} {ps:List (Value × (M.Wy→List M.Wy))} {p:Nat} {a2:Option Addr} {sg:Nat} (h:WsI w wr ds va v ps p a2 sg) (hb:Below wr.heap.size wr w1):WsI w w1 ds va v ps p a2 sg:=⟨h.chl.below hb,h.ints.below hb (Nat.le_refl _),h.far⟩
theorem WsI.snoc {w wr w3:World} {ds:List M.De} {va:Option Addr} {v:Value} {ps:List (Value × (M.Wy→List M.Wy))} {p:Nat} {a2:Option Addr} {sg:Nat} {o:Obj} (h:WsI w wr ds va v ps p a2 sg) {g' cap:Nat} {f:Value} {ch:M.Wy→List M.Wy} (hf:ChRaw (fun k=>w.heap.size≤k∧v.ownBlock≠some k) ds va wr f ch)
  (ho:w3.ownsRow w.heap.size 173 1 (.slice (some ⟨g',0,none⟩) (ps.length+1) cap) (ps.length+1) (ps.map (fun q=>q.1)++[f])) (hg:(wr.alloc o).grownBy w3 v.ownBlock) (hat:v.ownBlock=some g'∨g'=wr.heap.size+1):WsI w w3 ds va (.slice (some ⟨g',0,none⟩) (ps.length+1) cap) (ps++[(f,ch)]) p a2 sg:=by
 refine ⟨h.chl.snoc hf ho hg hat,⟨h.ints.addr,fun i hi=>?_⟩,fun hp=>⟨(h.far hp).1,fun e=>?_⟩⟩
 ·have hc:=h.ints.row i hi
  have hlt:=World.block_lt_of_cell? _ _ hc
  have hlt':sg < wr.heap.size:=hlt
  exact hg.cell (((below1 wr o).cell (p:=⟨sg,0+i,none⟩) hlt).trans hc) (fun e=>(h.far (by omega)).2 e.symm)
 ·have e':g'=sg:=Option.some.inj e
  subst e'
  rcases hat with e2 | e2
  ·exact (h.far hp).2 e2
  ·have:=World.block_lt_of_cell? _ _ (h.ints.row 0 hp)
   have:g' < wr.heap.size:=this
   omega
structure ChsAns (w w':World) (ds:List M.De) (va:Option Addr) (v:Value):Prop where
 ex:∃ ps:List (Value × (M.Wy→List M.Wy)),M.wchoices ds=ps.map (fun q=>q.2)∧ps.length≤4000∧ChL w w' ds va v ps
set_option maxHeartbeats 1000000 in
set_option maxRecDepth 100000 in
theorem choices_any (va:Option Addr) (g c:Nat) (ds:List M.De) (w:World) (hdl:ds.length≤1000) (h:DeS w va g ds) :
  Calls Tryz.prog 80 #[.slice va ds.length c] w fun e w'=>∃ v,e=.returned v∧ChsAns w w' ds va v:=by
 obtain ⟨i0,hi,hz0,hz1,hz2⟩:=info_parts Tryz.infoWc
 go_enter Tryz.func80,Tryz.ntmps80
 go_wp2_with fail
 go_loopw [3,10] (fun s3 s10 wr=>∃ (n:Nat) (ps:List (Value × (M.Wy→List M.Wy))) (v:Value),s3=v∧s10=.int .i64 n∧n≤ds.length∧ps.length≤n∧Hid (M.chFs ds 0 ds=ps.map (fun q=>q.2)++M.chFs ds n (ds.drop n))∧ChL w wr ds va v ps) (fun _ s10 _=>ds.length - (intOf s10).toNat)
 case atStart=>exact ⟨0,[],.slice none 0 0,rfl,rfl,Nat.zero_le _,Nat.le_refl _,by show _=_;rfl,Told.start _ _ _ _ (Below.refl _ _),fun q hq=>by cases hq⟩
 case round =>
  obtain ⟨n,ps,v,rfl,rfl,hn,hps,HW,A⟩:=hrel
  by_cases hlt:n < ds.length
  ·obtain ⟨rfl⟩:=h.addr (by omega)
   have hx:=DeS.at (h.bel A.told.bel (Nat.le_refl _)) hlt
   have HW2:=M.chFs_step HW.out hlt
   have HW2:Hid (M.chFs ds 0 ds=(if (ds[n]).reads then ps.map (fun q=>q.2)++[M.chF ds n] else ps.map (fun q=>q.2))++M.chFs ds (n+1) (ds.drop (n+1))):=HW2
   clear HW
   generalize ds[n]=x at *
   obtain ⟨c0,c1,c2,c3,c4,c5,c6⟩:=hx
   have i1:(n:Int) < ds.length:=by omega
   have lg:g < wr.heap.size:=World.block_lt_of_cell? _ _ c0
   have A2:=A.below (below2 wr (.cells #[.int .i64 (x.t:Int),.int .i64 (x.i:Int),.bool x.last,.int .i64 x.d.k,.int .i64 x.d.p,.int .i64 x.d.v,.int .i64 x.lr] 167) (.cells #[.int .i64 (x.t:Int),.int .i64 (x.i:Int),.bool x.last,.int .i64 x.d.k,.int .i64 x.d.p,.int .i64 x.d.v,.int .i64 x.lr] 167))
   obtain ⟨av,cv,hav⟩:=own_slx A2.told.own
   subst hav
   cases ht:x.reads
   ·go_wp2_with (go_at_call 86;refine (deReads_any x _).mono ?_;rw [ht];rintro e w' ⟨rfl,rfl⟩)
    exact ⟨⟨n+1,ps,_,rfl,by go_num,by omega,by omega,by show _=_;have:=HW2.out;rw [ht] at this;exact this,A2⟩,by simp [intOf];omega⟩
   ·go_wp2_with (go_at_call 86;refine (deReads_any x _).mono ?_;rw [ht];rintro e w' ⟨rfl,rfl⟩)
    generalize (wr.alloc (.cells #[.int .i64 (x.t:Int),.int .i64 (x.i:Int),.bool x.last,.int .i64 x.d.k,.int .i64 x.d.p,.int .i64 x.d.v,.int .i64 x.lr] 167)).alloc (.cells #[.int .i64 (x.t:Int),.int .i64 (x.i:Int),.bool x.last,.int .i64 x.d.k,.int .i64 x.d.p,.int .i64 x.d.v,.int .i64 x.lr] 167)=W2 at *
    clear c0 c1 c2 c3 c4 c5 c6 lg A
    have hb2:=A2.told.bel
    refine (chooseFrom_any (some ⟨g,0,none⟩) g c ds n W2 hlt hdl (h.bel hb2 (Nat.le_refl _))).mono ?_
    rintro e W3 ⟨A,rfl,hA⟩
    have A3:=A2.below hA.bel
    have s23:=hA.bel.size
    have raw:ChRaw (fun k=>w.heap.size≤k∧(Value.slice av ps.length cv).ownBlock≠some k) ds (some ⟨g,0,none⟩) W3 (Value.func (.func 162) #[] #[.pointer (some ⟨A,0,none⟩),.pointer (some ⟨W2.heap.size+1,0,none⟩),.pointer (some ⟨W2.heap.size,0,none⟩)]) (M.chF ds n):=by
     obtain ⟨sa,sg,sc,k1,k2,k3,k4⟩:=hA.s
     have hs2:=hb2.size
     have hge:=hA.ge
     have far:∀ k,W2.heap.size≤k→w.heap.size≤k∧(Value.slice av ps.length cv).ownBlock≠some k:=fun k hk=>⟨by omega,fun e=>by have:=(A2.told.own.lt k e).2;omega⟩
     exact .from_ n A (W2.heap.size+1) W2.heap.size c sa sg sc hlt hA.l hA.a k1 k2 ⟨far _ hge,far _ (by omega),far _ (Nat.le_refl _),far _ k3,k4⟩
    clear A2 hA
    have hb3:=A3.told.bel
    have sb3:=hb3.size
    go_wp2_with (at_builtin;refine wpList_append_lies _ rfl (.tmp 17) (.tmp 21) 170 rfl w.heap.size 173 i0 _ 1 8 Tryz.underlying170 hi hz0 hz1 hz2 rfl (by decide) _ _ _ rfl (A3.told.own.alloc _) ⟨W3.heap.size,0,none⟩ 1 1 [(Value.func (.func 162) #[] #[.pointer (some ⟨A,0,none⟩),.pointer (some ⟨W2.heap.size+1,0,none⟩),.pointer (some ⟨W2.heap.size,0,none⟩)])] rfl rfl (World.news_of_block (cs:=#[(Value.func (.func 162) #[] #[.pointer (some ⟨A,0,none⟩),.pointer (some ⟨W2.heap.size+1,0,none⟩),.pointer (some ⟨W2.heap.size,0,none⟩)])]) (t:=173) (fr:=(0,0)) (heap_alloc_new W3 _)) (by simp [Value.oneCell']) (by omega) (by unfold maxLen;omega) (by omega) (by simp;omega) (W3.heap.size+1) (by simp) ?_)
    intro g6 cap6 w6 hown6 hg6 hat6 hlt6
    have A6:=A3.snoc raw hown6 hg6 hat6
    clear hown6 hg6 hat6 hlt6 raw A3
    go_wp2_with fail
    exact ⟨⟨n+1,_,_,rfl,by go_num,by omega,by rw [List.length_append,List.length_singleton];omega,by show _=_;have:=HW2.out;rw [ht] at this;rw [List.map_append];exact this,A6⟩,by simp [intOf];omega⟩
  ·have HF:Hid (M.chFs ds 0 ds=ps.map (fun q=>q.2)):=M.chFs_fin HW.out (by omega)
   clear HW
   have hdn:ps.length≤ds.length:=by omega
   obtain ⟨av,cv,hav⟩:=own_slx A.told.own
   subst hav
   go_wp2_with fail
   go_loopw [3,24] (fun s3 s24 wr=>∃ (p:Nat) (ps:List (Value × (M.Wy→List M.Wy))) (v:Value),s3=v∧s24=.int .i64 p∧p≤3∧ps.length≤1000+p * 1000∧Hid (M.chFs ds 0 ds++M.chPl ds p=ps.map (fun q=>q.2))∧ChL w wr ds va v ps) (fun _ s24 _=>3 - (intOf s24).toNat)
   case atStart=>exact ⟨0,ps,_,rfl,rfl,by omega,by omega,by show _=_;rw [M.chPl,List.append_nil];exact HF.out,A⟩
   case round =>
    clear A HF hdn hps hlt
    obtain ⟨p,ps,v,rfl,rfl,hp,hpl,HW,A⟩:=hrel
    obtain ⟨av,cv,hav⟩:=own_slx A.told.own
    subst hav
    by_cases hlt:p < 3
    ·have i1:(p:Int) < 3:=by omega
     have hb:=A.told.bel
     go_wp2_with fail
     refine (writers_any va g c ds p wr (by omega) (h.bel hb (Nat.le_refl _))).mono ?_
     rintro e W2 ⟨v2,rfl,ho2,b2⟩
     obtain ⟨a2,c2,rfl⟩:=own_slx ho2
     have A2:=A.below b2
     have hws:=M.wrs_len (p:Int) ds 0
     have O2:∃ sg,IntS W2 a2 sg 0 (M.wrs p 0 ds)∧(0 < (M.wrs p 0 ds).length→wr.heap.size≤sg∧sg < W2.heap.size):=by
      obtain ⟨a3,sg,c3,e3,k1,_,k3⟩:=own_ints ho2
      simp only [Value.slice.injEq] at e3
      obtain ⟨rfl,_,rfl⟩:=e3
      refine ⟨sg,k1,fun hp=>⟨k3 hp,?_⟩⟩
      exact World.block_lt_of_cell? _ _ (k1.row 0 hp)
     obtain ⟨sg,iS,lS⟩:=O2
     have farS:0 < (M.wrs p 0 ds).length→w.heap.size≤sg∧(Value.slice av ps.length cv).ownBlock≠some sg:=fun hp=>⟨by have:=(lS hp).1;have:=hb.size;omega,fun e=>by have:=(A.told.own.lt sg e).2;have:=(lS hp).1;omega⟩
     have HCN:Hid (M.chNs ds p=List.replicate (M.wrs p 0 ds).length (M.chN p (M.wrs p 0 ds))):=M.chNs_rep ds p
     have hsg:0 < (M.wrs p 0 ds).length→sg < W2.heap.size:=fun hp=>(lS hp).2
     clear ho2 b2 A lS hb
     have S2:WsI w W2 ds va (.slice av ps.length cv) ps p a2 sg:=⟨A2,iS,farS⟩
     clear A2 iS farS hsg
     go_wp2_with fail
     go_loopw [3,32] (fun s3 s32 wr=>∃ (m:Nat) (ps:List (Value × (M.Wy→List M.Wy))) (v:Value),s3=v∧s32=.int .i64 m∧m≤(M.wrs p 0 ds).length∧ps.length≤1000+p * 1000+m∧Hid ((M.chFs ds 0 ds++M.chPl ds p)++List.replicate m (M.chN p (M.wrs p 0 ds))=ps.map (fun q=>q.2))∧WsI w wr ds va v ps p a2 sg) (fun _ s32 _=>(M.wrs p 0 ds).length - (intOf s32).toNat)
     case atStart=>exact ⟨0,ps,_,rfl,rfl,Nat.zero_le _,by omega,by show _=_;rw [List.replicate_zero,List.append_nil];exact HW.out,S2⟩
     case round =>
      clear S2 HW hpl
      obtain ⟨m,ps,v,rfl,rfl,hm,hpl,HW,S⟩:=hrel
      obtain ⟨av,cv,hav⟩:=own_slx S.chl.told.own
      subst hav
      by_cases hmn:m < (M.wrs p 0 ds).length
      ·have i2:(m:Int) < (M.wrs p 0 ds).length:=by omega
       have hws3:=S.chl.told.bel.size
       go_wp2_with fail
       refine (chooseNext_any p a2 (M.wrs p 0 ds).length c2 _).mono ?_
       rintro e W3 ⟨rfl,b3,sz3,k1,k2⟩
       have S3:=S.below b3
       have raw:ChRaw (fun k=>w.heap.size≤k∧(Value.slice av ps.length cv).ownBlock≠some k) ds va W3 (Value.func (.func 167) #[] #[.pointer (some ⟨wr.heap.size+1,0,none⟩),.pointer (some ⟨wr.heap.size,0,none⟩)]) (M.chN p (M.wrs p 0 ds)):=by
        have far:∀ k,wr.heap.size≤k→w.heap.size≤k∧(Value.slice av ps.length cv).ownBlock≠some k:=fun k hk=>⟨by omega,fun e=>by have:=(S.chl.told.own.lt k e).2;omega⟩
        exact .next_ p _ _ a2 sg c2 hlt k2 k1 S3.ints ⟨far _ (by omega),far _ (Nat.le_refl _),fun hp=>⟨S3.far hp,World.block_lt_of_cell? _ _ (S3.ints.row 0 hp)⟩⟩
       have sb3:=S3.chl.told.bel.size
       clear S k1 k2 sz3
       go_wp2_with (at_builtin;refine wpList_append_lies _ rfl (.tmp 34) (.tmp 38) 170 rfl w.heap.size 173 i0 _ 1 8 Tryz.underlying170 hi hz0 hz1 hz2 rfl (by decide) _ _ _ rfl (S3.chl.told.own.alloc _) ⟨W3.heap.size,0,none⟩ 1 1 [(Value.func (.func 167) #[] #[.pointer (some ⟨wr.heap.size+1,0,none⟩),.pointer (some ⟨wr.heap.size,0,none⟩)])] rfl rfl (World.news_of_block (cs:=#[(Value.func (.func 167) #[] #[.pointer (some ⟨wr.heap.size+1,0,none⟩),.pointer (some ⟨wr.heap.size,0,none⟩)])]) (t:=173) (fr:=(0,0)) (heap_alloc_new W3 _)) (by simp [Value.oneCell']) (by omega) (by unfold maxLen;omega) (by omega) (by simp;omega) (W3.heap.size+1) (by simp) ?_)
       intro g6 cap6 w6 hown6 hg6 hat6 hlt6
       have S6:=S3.snoc raw hown6 hg6 hat6
       clear hown6 hg6 hat6 hlt6 raw S3
       go_wp2_with fail
       exact ⟨⟨m+1,_,_,rfl,by go_num,by omega,by rw [List.length_append,List.length_singleton];omega,by show _=_;rw [List.map_append,List.replicate_succ',← List.append_assoc,HW.out];rfl,S6⟩,by simp [intOf];omega⟩
      ·have i2:¬ (m:Int) < (M.wrs p 0 ds).length:=by omega
       have hme:m=(M.wrs p 0 ds).length:=by omega
       have HW3:Hid (M.chFs ds 0 ds++M.chPl ds (p+1)=ps.map (fun q=>q.2)):=by
        show _=_
        rw [M.chPl,← List.append_assoc,HCN.out,← hme];exact HW.out
       clear hme HW
       go_wp2_with fail
       exact ⟨⟨p+1,ps,_,rfl,by go_num,by omega,by omega,HW3,S.chl⟩,by simp [intOf];omega⟩
    ·have i1:¬ (p:Int) < 3:=by omega
     have hp3:p=3:=by omega
     subst hp3
     go_wp2_with fail
     go_ret
     exact ⟨_,rfl,ps,by rw [M.wchoices_eq];exact HW.out,by omega,A⟩
end
section
open Go.RowKit Go.Shelf
attribute [local go_sem] Oper.semAt_some
theorem WyOk.first {ds:List M.De} (hc:∀ (n:Nat) (x:M.De),ds[n]?=some x→x.lr < ds.length):WyOk ds (M.firstW ds):=by
 refine ⟨by simp [M.firstW,M.init],fun n hn=>?_,rfl,fun r hr=>?_⟩
 ·unfold M.valFrom
  rw [List.getElem?_eq_getElem hn]
  dsimp only [M.firstW]
  split
  ·rename_i hr
   rw [List.getD_eq_getElem?_getD]
   simp only [M.init,List.getElem?_map,List.getElem?_eq_getElem hn,Option.map_some,Option.getD_some]
   split<;>omega
  ·split
   ·exact hc n _ (List.getElem?_eq_getElem hn)
   ·omega
 ·simp [M.firstW] at hr
  subst hr
  exact ⟨List.nodup_nil,fun v hv=>by cases hv⟩
set_option maxRecDepth 100000 in
set_option maxHeartbeats 1000000 in
theorem first_seq {D:Nat→Prop} {w:World} {ds:List M.De} {lb:Nat} (hl:∃ va g c,w.cell? ⟨lb,0,none⟩=some (.slice va ds.length c)∧DeS w va g ds∧(0 < ds.length→D g)) (dl:D lb) (hDl:∀ k,D k→k < w.heap.size) (hdl:ds.length≤1000) (hq:WyOk ds (M.firstW ds)) (n:Nat) :
  SeqC Fence.wide n Tryz.prog 78 #[.pointer (some ⟨lb,0,none⟩)] (WayV (WyOk ds)) D [M.firstW ds] w:=by
 intro l J Jx C W hW hC hJ hJx hY h0
 refine callsIn_wide.2 (callsIn_wide (n:=9) |>.1 ?_)
 refine callsIn_of_wp Tryz.func78 rfl trivial ?_ rfl
 simp only [Tryz.ntmps78,List.size_toArray,List.length_cons,List.length_nil,Nat.reduceAdd,Nat.reduceSub,Array.replicate_succ,Array.replicate_zero,List.push_toArray,List.append_toArray,List.nil_append,List.cons_append]
 obtain ⟨va,g,c,l1,l2,l3⟩:=hl
 have cl:=hW.cell dl l1
 have CF:=firstWay_any va g c ds W hdl (DeS.fr l2 hW l3)
 have hws:=hW.size
 gi_wp2_with fail
 refine ⟨trivial,(callsIn_wide.2 CF).mono ?_⟩
 rintro e w1 ⟨fv,ov,rfl,hA⟩
 have b1:=hA.bel
 have s1:=b1.size
 obtain ⟨O,hWV,hO⟩:=hA.way hq
 obtain ⟨fn,tmps,assign,body,hy,hR⟩:=yieldAt_any (m':=8) (hY [] C _ _ O w1 (List.prefix_refl _) (hJ _ _ _ _ h0 (.of_below b1)) hWV (fun k hk=>⟨fun hc=>by have:=(hC k hc).1;have:=(hO k hk).1;omega,fun hd=>by have:=hDl k hd;have:=(hO k hk).1;omega⟩))
 have key:∀ (C4:Nat→Prop) (w4:World),Fr (fun k=>¬ C k∧¬ O k) w1 w4→Adds C O C4 w1 w4→Fr (fun k=>¬ C k) W w4∧Adds C (fun _=>False) C4 W w4:=fun C4 w4 hf hA=>by
  have hs:=hf.size
  refine ⟨⟨hf.os.trans b1.os,hf.tape.trans b1.tape,hf.output.trans b1.output,by omega,fun k hk hc=>?_⟩,fun k hk=>?_⟩
  ·rw [hf.same k (by omega) ⟨hc,fun ho=>by have:=(hO k ho).1;omega⟩]
   exact b1.block k hk
  ·rcases hA k hk with h | h | h
   ·exact Or.inl h
   ·have:=hO k h;exact Or.inr (Or.inr ⟨this.1,by omega⟩)
   ·exact Or.inr (Or.inr ⟨by omega,h.2⟩)
 gi_wp2_with fail
 refine hR.mono ?_
 rintro e w4 ⟨hf4,C4,hA4,(⟨rfl,hj4⟩ | ⟨rfl,hj4⟩)⟩
 ·obtain ⟨k1,k2⟩:=key C4 w4 hf4 hA4
  gi_wp2_with fail
  go_end0
  exact ⟨⟨_,rfl⟩,k1,C4,k2,Or.inl hj4⟩
 ·obtain ⟨k1,k2⟩:=key C4 w4 hf4 hA4
  gi_wp2_with fail
  go_end0
  exact ⟨⟨_,rfl⟩,k1,C4,k2,Or.inr ⟨_,List.prefix_refl _,hj4⟩⟩
end
section
open Go.RowKit Go.Shelf
theorem ChRaw.form {P:Nat→Prop} {ds:List M.De} {va:Option Addr} {W:World} {f:Value} {ch:M.Wy→List M.Wy} (h:ChRaw P ds va W f ch):∃ cf lc,f=.func (.func cf) #[] lc:=by
 cases h with
 | from_=>exact ⟨_,_,rfl⟩
 | next_=>exact ⟨_,_,rfl⟩
inductive ItRaw (P:Nat→Prop) (ds:List M.De) (va:Option Addr) (W:World):Value→List (M.Wy→List M.Wy)→Prop where
 | first (lb c:Nat) (h1:W.cell? ⟨lb,0,none⟩=some (.slice va ds.length c)) (h2:P lb):ItRaw P ds va W (.func (.func 78) #[] #[.pointer (some ⟨lb,0,none⟩)]) []
 | each (bw bc:Nat) (f fc:Value) (chs:List (M.Wy→List M.Wy)) (ch:M.Wy→List M.Wy) (hf:ItRaw P ds va W f chs) (hc:ChRaw P ds va W fc ch) (h1:W.cell? ⟨bw,0,none⟩=some f) (h2:W.cell? ⟨bc,0,none⟩=some fc) (h3:P bw∧P bc) :
  ItRaw P ds va W (.func (.func 128) #[] #[.pointer (some ⟨bw,0,none⟩),.pointer (some ⟨bc,0,none⟩)]) (chs++[ch])
theorem ItRaw.bel {P:Nat→Prop} {ds:List M.De} {va:Option Addr} {W W':World} {f:Value} {chs:List (M.Wy→List M.Wy)} (h:ItRaw P ds va W f chs) (hb:Below W.heap.size W W'):ItRaw P ds va W' f chs:=by
 have cc:∀ {p:Addr} {v:Value},W.cell? p=some v→W'.cell? p=some v:=fun hv=>(hb.cell (World.block_lt_of_cell? _ _ hv)).trans hv
 induction h with
 | first lb c h1 h2=>exact .first lb c (cc h1) h2
 | each bw bc f fc chs ch hf hc h1 h2 h3 ih=>exact .each bw bc f fc chs ch ih (hc.below hb) (cc h1) (cc h2) h3
theorem ItRaw.form {P:Nat→Prop} {ds:List M.De} {va:Option Addr} {W:World} {f:Value} {chs:List (M.Wy→List M.Wy)} (h:ItRaw P ds va W f chs):∃ gf lb,f=.func (.func gf) #[] lb:=by
 cases h with
 | first=>exact ⟨_,_,rfl⟩
 | each=>exact ⟨_,_,rfl⟩
theorem ItRaw.seq {P:Nat→Prop} {ds:List M.De} {va:Option Addr} {g:Nat} {W:World} {f:Value} {chs:List (M.Wy→List M.Wy)} (h:ItRaw P ds va W f chs) (hd:DeS W va g ds) (hdl:ds.length≤1000) (hq:WyOk ds (M.firstW ds)) {D:Nat→Prop} (hD:∀ k,P k→k < W.heap.size→D k) (hg:0 < ds.length→D g) (hDl:∀ k,D k→k < W.heap.size) :
  ∃ gf lb,f=.func (.func gf) #[] lb∧(∀ args w,(callFunc gf args).run Tryz.prog w=.ok (.enter gf args) w)∧∀ n,SeqC Fence.wide n Tryz.prog gf lb (WayV (WyOk ds)) D (M.runC chs (M.firstW ds)) W:=by
 have lt:∀ {b:Nat} {v:Value},W.cell? ⟨b,0,none⟩=some v→b < W.heap.size:=fun hv=>World.block_lt_of_cell? _ _ hv
 induction h with
 | first lb c h1 h2=>exact ⟨_,_,rfl,enters_of Tryz.func78 (by kernel_rfl) rfl,fun n=>first_seq ⟨va,g,c,h1,hd,hg⟩ (hD _ h2 (lt h1)) hDl hdl hq n⟩
 | each bw bc f fc chs ch hf hc h1 h2 h3 ih =>
  obtain ⟨gf,lb,rfl,eg,hs⟩:=ih
  obtain ⟨cf,lc,rfl,hch⟩:=hc.choice hd hdl hD hg hDl
  refine ⟨_,_,rfl,enters_of Tryz.func128 (by kernel_rfl) rfl,fun n=>?_⟩
  rw [M.runC_snoc]
  exact each_seq (WayV.vok _) h1 h2 (hD _ h3.1 (lt h1)) (hD _ h3.2 (lt h2)) hDl eg hs hch n
structure WsAns (w w':World) (ds:List M.De) (va:Option Addr) (f:Value):Prop where
 it:ItRaw (fun k=>w.heap.size≤k) ds va w' f (M.wchoices ds)
 bel:Below w.heap.size w w'
set_option maxHeartbeats 1000000 in
set_option maxRecDepth 100000 in
theorem ways_any (va:Option Addr) (g c:Nat) (ds:List M.De) (w:World) (hdl:ds.length≤1000) (h:DeS w va g ds) :
  Calls Tryz.prog 53 #[.slice va ds.length c] w fun e w'=>∃ f,e=.returned f∧WsAns w w' ds va f:=by
 have hmf:∀ (fn:Fn) (first cap:Array Value) (w:World),(Instr.makeFunc fn first cap).run Tryz.prog w=.ok (.func fn first cap) w:=fun _ _ _ _=>rfl
 have b1:=below1 w (.cells #[.slice va ds.length c] 116)
 have k1:(w.alloc (.cells #[.slice va ds.length c] 116)).cell? ⟨w.heap.size,0,none⟩=some (.slice va ds.length c):=by simp
 have sz1:(w.alloc (.cells #[.slice va ds.length c] 116)).heap.size=w.heap.size+1:=by simp
 go_enter Tryz.func53,Tryz.ntmps53
 go_wp2_with fail
 generalize w.alloc (.cells #[.slice va ds.length c] 116)=W0 at *
 refine (choices_any va g c ds W0 hdl (h.bel b1 (Nat.le_refl _))).mono ?_
 rintro e W1 ⟨v,rfl,ps,hps,hpl,hL⟩
 have it0:ItRaw (fun k=>w.heap.size≤k) ds va W1 (.func (.func 78) #[] #[.pointer (some ⟨w.heap.size,0,none⟩)]) []:=.first w.heap.size c ((hL.told.bel.cell (p:=⟨w.heap.size,0,none⟩) (by show w.heap.size < _;omega)).trans k1) (Nat.le_refl _)
 have bw1:Below w.heap.size w W1:=b1.trans (hL.told.bel.mono (by omega))
 have raw:∀ q∈ps,ChRaw (fun k=>w.heap.size≤k) ds va W1 q.1 q.2:=fun q hq=>(hL.raw q hq).keep (Nat.le_refl _) fun k _ hp=>⟨rfl,by have:=hp.1;omega⟩
 have rows:∃ a gv cv,v=.slice a ps.length cv∧(0 < ps.length→a=some ⟨gv,0,none⟩)∧∀ i (h:i < ps.length),W1.cell? ⟨gv,i,none⟩=some ps[i].1:=by
  rcases hL.told.own.2 with ⟨hv,hn⟩ | ⟨gv,cap,cur,hv,hg,hh,hc,r⟩
  ·exact ⟨none,0,0,by rw [hv,hn],fun h=>by omega,fun i hi=>by omega⟩
  ·refine ⟨_,gv,cap,hv,fun _=>rfl,fun i hi=>?_⟩
   have:=hL.told.own.cells (g:=gv) (by rw [hv];rfl) i ps[i].1 (by simp [hi])
   rwa [Go.WideShapes.add_plain,Nat.zero_add] at this
 obtain ⟨a,gv,cv,rfl,had,hrow⟩:=rows
 have HPS:Hid (M.wchoices ds=ps.map (fun q=>q.2)):=hps
 clear hps hL k1 sz1 b1
 go_wp2_with fail
 go_loopw [3,10] (fun s3 s10 wr=>∃ (n:Nat) (f:Value),s3=f∧s10=.int .i64 n∧n≤ps.length∧ItRaw (fun k=>w.heap.size≤k) ds va wr f ((ps.take n).map (fun q=>q.2))∧Below W1.heap.size W1 wr) (fun _ s10 _=>ps.length - (intOf s10).toNat)
 case atStart=>exact ⟨0,_,rfl,rfl,Nat.zero_le _,it0,Below.refl _ _⟩
 case round =>
  obtain ⟨n,f,rfl,rfl,hn,hit,hb⟩:=hrel
  obtain ⟨gf,lb,hfe⟩:=hit.form
  subst hfe
  by_cases hlt:n < ps.length
  ·obtain rfl:=had (by omega)
   have hc:=hrow n hlt
   have hcl:=World.block_lt_of_cell? _ _ hc
   have hq:=(raw _ (List.getElem_mem hlt)).below hb
   have HT:Hid ((ps.take (n+1)).map (fun q=>q.2)=(ps.take n).map (fun q=>q.2)++[ps[n].2]):=by show _=_;rw [List.take_succ_eq_append_getElem hlt,List.map_append];rfl
   obtain ⟨cf,lc,hfc⟩:=hq.form
   rw [hfc] at hc hq
   have hc':=(hb.cell (p:=⟨gv,n,none⟩) hcl).trans hc
   generalize ps[n].2=ch at *
   clear hfc hc
   have i1:(n:Int) < ps.length:=by omega
   go_wp2_with fail
   refine (chooseInEach_any gf cf lb lc wr).mono ?_
   rintro e W2 ⟨rfl,b2,sz2,k1,k2⟩
   have hit2:=ItRaw.each (wr.heap.size) (wr.heap.size+1) _ _ _ _ (hit.bel b2) (hq.below b2) k1 k2 ⟨by have:=bw1.size;have:=hb.size;omega,by have:=bw1.size;have:=hb.size;omega⟩
   have hb2:=hb.trans (b2.mono hb.size)
   clear sz2 k1 k2 b2 hit hq
   go_wp2_with fail
   exact ⟨⟨n+1,_,rfl,by go_num,by omega,by rw [HT.out];exact hit2,hb2⟩,by simp [intOf];omega⟩
  ·have hne:n=ps.length:=by omega
   rw [hne,List.take_length,← HPS.out] at hit
   have i1:¬ (n:Int) < ps.length:=by omega
   clear hne
   go_wp2_with fail
   go_ret
   exact ⟨_,rfl,hit,bw1.trans (hb.mono bw1.size)⟩
end
section
open Go.RowKit
theorem uponIn_of {l n:Nat} {P:Program} {o:Oper} {a:Act} {next next':Act→World→Prop} {Q:Exit→Act→World→Prop} (hn:∀ a w,next a w→next' a w) :
  ∀ r:Result Next,o.upon P a next Q r→o.uponIn (Fence.wide.inRound l) n P a next' Q r:=by
 intro r h
 cases r with
 | ok x w =>
  cases x with
  | value v=>exact hn _ _ h
  | skip=>exact hn _ _ h
  | defer d=>exact hn _ _ h
  | enter f args =>
   refine ⟨(fun hx=>by cases hx),CallsIn.inRound l (callsIn_wide.2 (Calls.mono h ?_))⟩
   intro e w' he
   cases e with
   | returned v=>exact hn _ _ he
   | panicked c=>exact he
   | outgrown=>exact he
  | row row args =>
   refine ⟨(fun hx=>by cases hx),fun c cs _=>?_⟩
   obtain ⟨v,w',hv,hs⟩:=h c cs
   exact ⟨v,w',hn _ _ hv,stepsIn_wide.2 hs⟩
  | _=>exact h.elim
 | halt x w =>
  cases x with
  | panic v=>exact h
  | _=>exact h.elim
theorem wpOpsIn_of {l n:Nat} {P:Program} {ops:Array Oper} {Q:Exit→Act→World→Prop} (hd:∀ (i:Nat) (o:Oper),ops[i]?=some o→∀ c,o.op≠.defer c) (hl:¬ LetsOut Q) :
  ∀ (sched:List Nat) (a:Act) (w:World),wpOps P ops Q sched a w→wpOpsIn (Fence.wide.inRound l) n P ops Q sched a w
 | [],a,w,h=>h
 | i::rest,a,w,h=>by
  unfold wpOps at h
  unfold wpOpsIn
  cases ho:ops[i]? with
  | none =>
   rw [ho] at h
   exact wpOpsIn_of hd hl rest a w h
  | some o =>
   rw [ho] at h
   dsimp only at h ⊢
   by_cases hw:Region.wanted o (yielded ops a.tmps)=true
   ·rw [if_pos hw] at h ⊢
    rcases h with h | h
    ·refine ⟨fun f _=>trivial,?_⟩
     rw [Oper.semAt_plain _ _ _ (hd i o ho)]
     exact uponIn_of (fun a w h=>wpOpsIn_of hd hl rest a w h) _ h
    ·exact absurd h.2 hl
   ·rw [if_neg hw] at h ⊢
    exact ⟨fun f _=>trivial,wpOpsIn_of hd hl rest _ w h⟩
theorem wpIn_region_round {l n:Nat} {P:Program} {id:Nat} {ops:Array Oper} {Q:Exit→Act→World→Prop} {S:World→Prop} {a:Act} {w:World} (hd:∀ (i:Nat) (o:Oper),ops[i]?=some o→∀ c,o.op≠.defer c) (hl:¬ LetsOut Q) (hm:P.follows .mixedOrders=true) (hS:S w.drew)
  (h:S w.drew→wpAnyH P .any ops Q S ops.size (Array.replicate ops.size false) a w.drew):(Code.region id ops true).wpIn (Fence.wide.inRound l) n P Q a w :=
 wpIn_region_draw fun t=>by
  simp only [Region.schedule,hm,Bool.true_or,if_true]
  exact wpOpsIn_of hd hl _ _ _ (wpAny_sound ops.size t _ a _ (wpAny_of_held _ _ _ _ (h hS)))
def noDefer (o:Oper):Bool:=match o.op with | .defer _=>false | _=>true
theorem wpIn_region_round' {l n:Nat} {P:Program} {id:Nat} {ops:Array Oper} {Q:Exit→Act→World→Prop} {S:World→Prop} {a:Act} {w:World} (hd:ops.all noDefer=true) (hl:¬ LetsOut Q) (hm:P.follows .mixedOrders=true) (hS:S w.drew)
  (h:S w.drew→wpAnyH P .any ops Q S ops.size (Array.replicate ops.size false) a w.drew):(Code.region id ops true).wpIn (Fence.wide.inRound l) n P Q a w :=
 wpIn_region_round (fun i o ho c hc=>by
  have hx:=Array.all_eq_true.1 hd i (Array.getElem?_eq_some_iff.1 ho).1
  rw [(Array.getElem?_eq_some_iff.1 ho).2] at hx
  unfold noDefer at hx
  rw [hc] at hx
  cases hx) hl hm hS h
end
end Go.Proofs.YtnddmlgnngdaoaaGreatDoor
