/- The plain mathematics of putting in order: each once, in order, and nothing else: there is one such list. No condition. And what goes with it: SoMath, SoMem, SoCo, SoLay, SoSt, SoNl, SoIn, SoSo, SoFi. -/
import Derived.Deep.Slices
import Derived.Laws.AppendOwnNone
import Derived.Shelf.SlSortCmp.NoneTotal
import Derived.Test.YtnddmlgnngdaoaaGreatDoorRows
import Derived.Test.YtnddmlgnngdaoaaGreatDoorQsag
namespace Go.Proofs.YtnddmlgnngdaoaaGreatDoor
section
abbrev Ky:=List Int × List Int
namespace M
def cmpK (a b:Ky):Int:=cmpS a.1 a.2 b.1 b.2
theorem cmpK_self (a:Ky):cmpK a a=0:=cmpS_self _ _
theorem cmpK_zero {a b:Ky} (h:cmpK a b=0):a=b:=by
 obtain ⟨h1,h2⟩:=cmpS_zero h
 exact Prod.ext h1 h2
theorem cmpK_neg (a b:Ky):cmpK b a=- cmpK a b:=cmpS_neg _ _ _ _
theorem cmpK_trans {a b c:Ky} (h:cmpK a b < 0) (k:cmpK b c < 0):cmpK a c < 0:=cmpS_trans h k
theorem cmpK_le_trans {a b c:Ky} (h:cmpK a b≤0) (k:cmpK b c≤0):cmpK a c≤0:=by
 by_cases h0:cmpK a b=0
 ·rw [cmpK_zero h0];exact k
 ·by_cases k0:cmpK b c=0
  ·rw [← cmpK_zero k0];exact h
  ·exact Int.le_of_lt (cmpK_trans (show cmpK a b < 0 by omega) (show cmpK b c < 0 by omega))
def Asc (l:List Ky):Prop:=l.Pairwise fun a b=>cmpK a b < 0
def Ord (l:List Ky):Prop:=l.Pairwise fun a b=>cmpK a b≤0
theorem Asc.unique:∀ {l m:List Ky},Asc l→Asc m→(∀ x,x∈l↔x∈m)→l=m
 | [],[],_,_,_=>rfl
 | [],y::m,_,_,h=>absurd ((h y).2 (by simp)) (by simp)
 | x::l,[],_,_,h=>absurd ((h x).1 (by simp)) (by simp)
 | x::l,y::m,hl,hm,h=>by
  have hl':=List.pairwise_cons.1 hl
  have hm':=List.pairwise_cons.1 hm
  have hxy:x=y:=by
   rcases List.mem_cons.1 ((h x).1 (by simp)) with e | hx
   ·exact e
   ·rcases List.mem_cons.1 ((h y).2 (by simp)) with e | hy
    ·exact e.symm
    ·have h1:=hm'.1 x hx
     have h2:=hl'.1 y hy
     have:=cmpK_neg x y
     omega
  subst hxy
  have:∀ z,z∈l↔z∈m:=fun z=>by
   constructor
   ·intro hz
    rcases List.mem_cons.1 ((h z).1 (by simp [hz])) with e | hm2
    ·subst e
     have:=hl'.1 z hz
     rw [cmpK_self] at this
     omega
    ·exact hm2
   ·intro hz
    rcases List.mem_cons.1 ((h z).2 (by simp [hz])) with e | hl2
    ·subst e
     have:=hm'.1 z hz
     rw [cmpK_self] at this
     omega
    ·exact hl2
  rw [Asc.unique hl'.2 hm'.2 this]
def putIn:List Ky→Ky→List Ky
 | [],k=>[k]
 | x::l,k=>if cmpK x k=0 then x::l else if 0 < cmpK x k then k::x::l else x::putIn l k
theorem mem_putIn (l:List Ky) (k x:Ky):x∈putIn l k↔x=k∨x∈l:=by
 induction l with
 | nil=>simp [putIn]
 | cons y l ih =>
  rw [putIn]
  by_cases h0:cmpK y k=0
  ·rw [if_pos h0]
   have:=cmpK_zero h0
   subst this
   simp
  ·rw [if_neg h0]
   by_cases h1:0 < cmpK y k
   ·rw [if_pos h1];simp
   ·rw [if_neg h1]
    simp only [List.mem_cons,ih]
    constructor
    ·rintro (h | h | h)
     ·exact Or.inr (Or.inl h)
     ·exact Or.inl h
     ·exact Or.inr (Or.inr h)
    ·rintro (h | h | h)
     ·exact Or.inr (Or.inl h)
     ·exact Or.inl h
     ·exact Or.inr (Or.inr h)
theorem asc_putIn {l:List Ky} (h:Asc l) (k:Ky):Asc (putIn l k):=by
 induction l with
 | nil=>simp [putIn,Asc]
 | cons y l ih =>
  have h':=List.pairwise_cons.1 h
  rw [putIn]
  by_cases h0:cmpK y k=0
  ·rw [if_pos h0];exact h
  ·rw [if_neg h0]
   by_cases h1:0 < cmpK y k
   ·rw [if_pos h1]
    refine List.pairwise_cons.2 ⟨fun z hz=>?_,h⟩
    have hky:cmpK k y < 0:=by have:=cmpK_neg y k;omega
    rcases List.mem_cons.1 hz with e | hz
    ·rw [e];exact hky
    ·exact cmpK_trans hky (h'.1 z hz)
   ·rw [if_neg h1]
    refine List.pairwise_cons.2 ⟨fun z hz=>?_,ih h'.2⟩
    rcases (mem_putIn l k z).1 hz with e | hz
    ·rw [e];omega
    ·exact h'.1 z hz
def sortK (l:List Ky):List Ky:=l.foldl putIn []
theorem foldl_mem (l:List Ky):∀ (a:List Ky) (x:Ky),x∈l.foldl putIn a↔x∈a∨x∈l:=by
 induction l with
 | nil=>intro a x;simp
 | cons y l ih =>
  intro a x
  rw [List.foldl_cons,ih,mem_putIn]
  simp only [List.mem_cons]
  constructor
  ·rintro ((h | h) | h)
   ·exact Or.inr (Or.inl h)
   ·exact Or.inl h
   ·exact Or.inr (Or.inr h)
  ·rintro (h | h | h)
   ·exact Or.inl (Or.inr h)
   ·exact Or.inl (Or.inl h)
   ·exact Or.inr h
theorem foldl_asc (l:List Ky):∀ (a:List Ky),Asc a→Asc (l.foldl putIn a):=by
 induction l with
 | nil=>intro a h;exact h
 | cons y l ih=>intro a h;exact ih _ (asc_putIn h y)
theorem mem_sortK (l:List Ky) (x:Ky):x∈sortK l↔x∈l:=by rw [sortK,foldl_mem];simp
theorem asc_sortK (l:List Ky):Asc (sortK l):=foldl_asc l [] List.Pairwise.nil
theorem sortK_unique {l m:List Ky} (hm:Asc m) (h:∀ x,x∈m↔x∈l):m=sortK l :=
 Asc.unique hm (asc_sortK l) fun x=>by rw [mem_sortK,h x]
def thinFrom (p:Ky):List Ky→List Ky
 | []=>[]
 | y::l=>if cmpK y p=0 then thinFrom y l else y::thinFrom y l
def thin:List Ky→List Ky
 | []=>[]
 | x::l=>x::thinFrom x l
theorem mem_thinFrom (l:List Ky):∀ (p x:Ky),(x=p∨x∈thinFrom p l)↔(x=p∨x∈l):=by
 induction l with
 | nil=>intro p x;simp [thinFrom]
 | cons y l ih =>
  intro p x
  rw [thinFrom]
  by_cases h0:cmpK y p=0
  ·rw [if_pos h0]
   have e:=cmpK_zero h0
   subst e
   rw [ih]
   simp
  ·rw [if_neg h0]
   have:=ih y x
   simp only [List.mem_cons]
   rw [this]
theorem mem_thin (l:List Ky) (x:Ky):x∈thin l↔x∈l:=by
 cases l with
 | nil=>simp [thin]
 | cons y l=>rw [thin,List.mem_cons,List.mem_cons];exact mem_thinFrom l y x
theorem asc_thinFrom (l:List Ky):∀ (p:Ky),Ord (p::l)→Asc (p::thinFrom p l):=by
 induction l with
 | nil=>intro p _;simp [thinFrom,Asc]
 | cons y l ih =>
  intro p h
  have h':=List.pairwise_cons.1 h
  rw [thinFrom]
  by_cases h0:cmpK y p=0
  ·rw [if_pos h0]
   have e:=cmpK_zero h0
   subst e
   exact ih y h'.2
  ·rw [if_neg h0]
   have hy:=ih y h'.2
   have hpy:cmpK p y < 0:=by
    have h1:=h'.1 y (by simp)
    have h2:=cmpK_neg y p
    omega
   refine List.pairwise_cons.2 ⟨fun z hz=>?_,hy⟩
   rcases List.mem_cons.1 hz with e | hz
   ·rw [e];exact hpy
   ·exact cmpK_trans hpy ((List.pairwise_cons.1 hy).1 z hz)
theorem asc_thin {l:List Ky} (h:Ord l):Asc (thin l):=by
 cases l with
 | nil=>exact List.Pairwise.nil
 | cons y l=>exact asc_thinFrom l y h
theorem thin_sortK {l m:List Ky} (h:Ord m) (hp:∀ x,x∈m↔x∈l):thin m=sortK l :=
 sortK_unique (asc_thin h) fun x=>by rw [mem_thin,hp x]
end M
end
section
open Go.RowKit
def Sn.ky (s:Sn):Ky:=(s.l1,s.l2)
structure SR (W:World) (g:Nat) (ss:List Sn):Prop where
 c:∀ i (h:i < ss.length),W.cell? ⟨g,i * 2,none⟩=some (.slice ss[i].a1 ss[i].l1.length ss[i].c1)∧W.cell? ⟨g,i * 2+1,none⟩=some (.slice ss[i].a2 ss[i].l2.length ss[i].c2)
 fz:∀ j,W.frozen? ⟨g,j,none⟩=false
structure Off (W:World) (g:Nat) (s:Sn):Prop where
 at_:s.At W
 le:s.Le 1048576
 n1:0 < s.l1.length→s.b1≠g
 n2:0 < s.l2.length→s.b2≠g
theorem SR.lt {W:World} {g:Nat} {ss:List Sn} (h:SR W g ss) (hl:0 < ss.length):g < W.heap.size:=World.block_lt_of_cell? _ _ (h.c 0 hl).1
theorem SR.below {W W':World} {g:Nat} {ss:List Sn} (h:SR W g ss) (hb:Below W.heap.size W W') (hl:g < W.heap.size):SR W' g ss :=
 ⟨fun i hi=>⟨(hb.cell (p:=⟨g,i * 2,none⟩) hl).trans (h.c i hi).1,(hb.cell (p:=⟨g,i * 2+1,none⟩) hl).trans (h.c i hi).2⟩,fun j=>(hb.frozen (p:=⟨g,j,none⟩) hl).trans (h.fz j)⟩
theorem Off.below {W W':World} {g:Nat} {s:Sn} (h:Off W g s) (hb:Below W.heap.size W W'):Off W' g s:=⟨h.at_.below hb (Nat.le_refl _),h.le,h.n1,h.n2⟩
theorem Off.far {W:World} {g i:Nat} {s:Sn} {u:Value} (h:Off W g s):Off (W.setCell ⟨g,i,none⟩ u) g s:=⟨h.at_.far h.n1 h.n2,h.le,h.n1,h.n2⟩
theorem IntS.offB {w w':World} {a:Option Addr} {g b o:Nat} {l:List Int} (h:IntS w a b o l) (hb:But g w w') (hne:0 < l.length→b≠g):IntS w' a b o l :=
 ⟨h.addr,fun i hi=>by rw [hb.cell (p:=⟨b,o+i,none⟩) (h.lt (by omega)) (hne (by omega))];exact h.row i hi⟩
theorem Off.but {W W':World} {g:Nat} {s:Sn} (h:Off W g s) (hb:But g W W'):Off W' g s :=
 ⟨⟨h.at_.reads.offB hb h.n1,h.at_.last.offB hb h.n2⟩,h.le,h.n1,h.n2⟩
theorem SR.set {W:World} {g:Nat} {ss:List Sn} (h:SR W g ss) {k:Nat} (hk:k < ss.length) (s:Sn) :
  SR ((W.setCell ⟨g,k * 2,none⟩ (.slice s.a1 s.l1.length s.c1)).setCell ⟨g,k * 2+1,none⟩ (.slice s.a2 s.l2.length s.c2)) g (ss.set k s):=by
 refine ⟨fun i hi=>?_,fun j=>by rw [World.frozen?_setCell,World.frozen?_setCell];exact h.fz j⟩
 have hi':i < ss.length:=by simpa using hi
 by_cases e:i=k
 ·subst e
  rw [List.getElem_set_self]
  refine ⟨?_,World.cell?_setCell_same _ _ _ ((World.cell?_setCell_other _ _ _ _ (fun e=>by simp at e)).trans (h.c i hk).2)⟩
  rw [World.cell?_setCell_other _ _ _ _ (fun e=>by simp at e)]
  exact World.cell?_setCell_same _ _ _ (h.c i hk).1
 ·rw [List.getElem_set_ne (fun h=>e h.symm)]
  refine ⟨?_,?_⟩
  ·rw [World.cell?_setCell_other _ _ _ _ (fun e=>by simp at e;try omega),World.cell?_setCell_other _ _ _ _ (fun e=>by simp at e;try omega)]
   exact (h.c i hi').1
  ·rw [World.cell?_setCell_other _ _ _ _ (fun e=>by simp at e;try omega),World.cell?_setCell_other _ _ _ _ (fun e=>by simp at e;try omega)]
   exact (h.c i hi').2
theorem run_clear_pairs {P:Program} (w:World) (t e:TypeId) (z:Value) (u v:Value) (ht:P.underlying t=some (.slice e)) (hv:∀ w,(zeroValue e).run P w=.ok z w) (hz:z.cells=#[u,v]) (h1:u.oneCell'=true) (h2:v.oneCell'=true) (b o n c:Nat) (hn:0 < n)
  (hc:∀ j,j < n * 2→(w.cell? ⟨b,o+j,none⟩).isSome=true) (hf:∀ j,j < n * 2→w.frozen? ⟨b,o+j,none⟩=false) :
  ∃ zs:List Value,zs.length=n * 2∧∀ ty,(Builtin.clear_ #[t] ty #[.slice (some ⟨b,o,none⟩) n c]).run P w=.ok (.tuple #[]) (w.setCells b o zs):=by
 obtain ⟨zs,hzs⟩:∃ zs,(Builtin.zeroCells z.cells n).toList=zs:=⟨_,rfl⟩
 have hl:zs.length=n * 2:=by rw [← hzs,hz];simp [Builtin.zeroCells]
 have hone:∀ x∈zs,x.oneCell'=true:=by
  rw [← hzs,hz]
  intro x hx
  simp [Builtin.zeroCells] at hx
  obtain ⟨i,_,rfl⟩:=hx
  rcases Nat.mod_two_eq_zero_or_one i with e | e
  ·simp [e,h1]
  ·simp [e,h2]
 have hst:=run_storeCells_cells (P:=P) b o zs 0 w (by rw [hl];simpa using hc) (by rw [hl];simpa using hf) hone
 simp only [Nat.add_zero] at hst
 obtain ⟨m,rfl⟩:∃ m,n=m+1:=⟨n - 1,by omega⟩
 exact ⟨zs,hl,fun ty=>by simp [Builtin.clear_,run_underlying ht,hv,hzs,hst]⟩
end
section
open Go.RowKit
set_option maxHeartbeats 400000 in
theorem eqClosure_any (s t:Sn) (cb:Nat) (w:World) (hs:s.Le 1048576) (ht:t.Le 1048576) (hsa:s.At w) (hta:t.At w) (k0:w.cell? ⟨cb,0,none⟩=some (.func (.func 89) #[] #[])) :
  Calls Tryz.prog 140 #[.agg #[.slice s.a1 s.l1.length s.c1,.slice s.a2 s.l2.length s.c2],.agg #[.slice t.a1 t.l1.length t.c1,.slice t.a2 t.l2.length t.c2],.pointer (some ⟨cb,0,none⟩)] w fun e w'=>e=.returned (.bool (M.cmpS s.l1 s.l2 t.l1 t.l2==0))∧Grown w w':=by
 have hg:=alloc2 w (.cells #[.slice s.a1 s.l1.length s.c1,.slice s.a2 s.l2.length s.c2] 33) (.cells #[.slice t.a1 t.l1.length t.c1,.slice t.a2 t.l2.length t.c2] 33)
 have C:=compareSeen_any s t _ hs ht (hsa.grown hg) (hta.grown hg)
 have hcb:cb < w.heap.size:=World.block_lt_of_cell? _ _ k0
 go_enter Tryz.func140,Tryz.ntmps140
 go_wp2_with (go_at_call 89;refine C.mono ?_;rintro e w' ⟨rfl,hg'⟩)
 go_ret
 exact ⟨rfl,hg.trans hg'⟩
theorem calls_bel {P:Program} {f:FuncId} {args:Array Value} {W:World} {v:Value} (h:Calls P f args W fun e w'=>e=.returned v∧Grown W w'):Calls P f args W fun e w'=>e=.returned v∧Below W.heap.size W w':=h.mono fun _ _ ⟨he,hg⟩=>⟨he,hg.bel⟩
def kys (ss:List Sn):List Ky:=ss.map Sn.ky
theorem Tryz.infoSeen:(Tryz.prog.info? 33).map (fun i=>(i.zero,i.size,i.bytes))=some (some (.agg #[.slice none 0 0,.slice none 0 0]),2,48):=by kernel_rfl
theorem But.setCells {g:Nat} {w0 w:World} (h:But g w0 w) (o:Nat) (vs:List Value):But g w0 (w.setCells g o vs):=by
 induction vs generalizing o w with
 | nil=>exact h
 | cons v vs ih=>exact ih (h.setCell (p:=⟨g,o,none⟩) (Or.inr rfl) v) (o+1)
theorem kys_len (ss:List Sn):(kys ss).length=ss.length:=by simp [kys]
theorem kys_get (ss:List Sn) {n:Nat} (h:n < ss.length) (h':n < (kys ss).length):(kys ss)[n]=ss[n].ky:=by simp [kys]
theorem kys_take_succ {ss:List Sn} {n:Nat} (h:n < ss.length):kys (ss.take (n+1))=kys (ss.take n)++[(kys ss)[n]'(by rw [kys_len];exact h)]:=by
 have e:=kys_get ss h (by rw [kys_len];exact h)
 rw [e,kys,List.take_succ_eq_append_getElem h,List.map_append]
 rfl
namespace M
structure Thin (ks kept:List Ky) (n:Nat):Prop where
 pos:0 < n
 le:n≤ks.length
 eq:thin ks=kept++thinFrom (ks[n - 1]'(by omega)) (ks.drop n)
theorem Thin.start {ks:List Ky} (h:0 < ks.length):Thin ks (ks.take 1) 1:=by
 refine ⟨by omega,by omega,?_⟩
 match ks,h with
 | x::l,_=>rfl
theorem Thin.keep {ks kept:List Ky} {n:Nat} (h:Thin ks kept n) (hn:n < ks.length) (hne:cmpK ks[n] (ks[n - 1]'(by omega))≠0):Thin ks (kept++[ks[n]]) (n+1):=by
 refine ⟨by omega,by omega,?_⟩
 rw [h.eq,← List.getElem_cons_drop hn,thinFrom,if_neg hne]
 simp
theorem Thin.drop {ks kept:List Ky} {n:Nat} (h:Thin ks kept n) (hn:n < ks.length) (he:cmpK ks[n] (ks[n - 1]'(by omega))=0):Thin ks kept (n+1):=by
 refine ⟨by omega,by omega,?_⟩
 rw [h.eq,← List.getElem_cons_drop hn,thinFrom,if_pos he]
 simp
theorem Thin.fin {ks kept:List Ky} {n:Nat} (h:Thin ks kept n) (hn:ks.length≤n):thin ks=kept:=by
 rw [h.eq,List.drop_eq_nil_of_le hn];simp [thinFrom]
end M
theorem Tryz.zeroSeen:∀ w,(zeroValue 33).run Tryz.prog w=.ok (.agg #[.slice none 0 0,.slice none 0 0]) w:=fun w=>by
 obtain ⟨i0,hi,hz0,_,_⟩:=info_parts Tryz.infoSeen
 simp [zeroValue,typeInfo,hi,hz0]
set_option maxHeartbeats 4000000 in
set_option maxRecDepth 100000 in
theorem compact_any (g cap:Nat) (ss:List Sn) (cb:Nat) (w:World) (hn:ss.length≤1048576) (hcap:ss.length≤cap) (h:SR w g ss) (hgd:∀ s∈ss,Off w g s) (k0:w.cell? ⟨cb,0,none⟩=some (.func (.func 89) #[] #[])) (hne:cb≠g) :
  Calls Tryz.prog 139 #[.slice (some ⟨g,0,none⟩) ss.length cap,.func (.func 140) #[] #[.pointer (some ⟨cb,0,none⟩)]] w fun e w'=>∃ tt:List Sn,e=.returned (.slice (some ⟨g,0,none⟩) tt.length cap)∧tt.length≤ss.length∧SR w' g tt∧(∀ s∈tt,Off w' g s)∧kys tt=M.thin (kys ss)∧But g w w':=by
 by_cases h2:ss.length < 2
 ·have h2':(ss.length:Int) < 2:=by omega
  go_enter Tryz.func139,Tryz.ntmps139
  go_wp2_with fail
  go_ret
  refine ⟨ss,rfl,Nat.le_refl _,h,hgd,?_,But.refl _ _⟩
  match ss,h2 with
  | [],_=>rfl
  | [x],_=>rfl
 ·have h2':¬ (ss.length:Int) < 2:=by omega
  have hlg:g < w.heap.size:=h.lt (by omega)
  have hlc:cb < w.heap.size:=World.block_lt_of_cell? _ _ k0
  go_enter Tryz.func139,Tryz.ntmps139
  go_wp2_with fail
  go_loopw [5] (fun s5 wr=>∃ n:Nat,s5=.int .i64 n∧0 < n∧n≤ss.length∧M.Thin (kys ss) (kys (ss.take n)) n∧Below w.heap.size w wr) (fun s5 _=>ss.length - (intOf s5).toNat)
  case atStart=>exact ⟨1,rfl,by omega,by omega,by have:=M.Thin.start (ks:=kys ss) (by rw [kys_len];omega);simpa [kys,List.map_take] using this,Below.refl _ _⟩
  case round =>
   obtain ⟨n,rfl,h0,hnl,hpass,hb⟩:=hrel
   have HP:Hid (M.Thin (kys ss) (kys (ss.take n)) n):=hpass
   clear hpass
   obtain ⟨n1,hn1⟩:∃ n1,n=n1+1:=⟨n - 1,by omega⟩
   by_cases hlt:n < ss.length
   ·have hSR:=h.below hb hlg
    have hlt1:n1 < ss.length:=by omega
    have o1:=(hgd _ (List.getElem_mem hlt)).below hb
    have o2:=(hgd _ (List.getElem_mem hlt1)).below hb
    obtain ⟨c1,c2⟩:=hSR.c n hlt
    obtain ⟨d1,d2⟩:=hSR.c n1 hlt1
    have kr:=(hb.cell (p:=⟨cb,0,none⟩) hlc).trans k0
    obtain ⟨s,hs⟩:∃ s,ss[n]=s:=⟨_,rfl⟩
    obtain ⟨t,ht⟩:∃ t,ss[n1]=t:=⟨_,rfl⟩
    rw [hs] at o1 c1 c2
    rw [ht] at o2 d1 d2
    have C:=fun p:BelowOf wr=>calls_bel (eqClosure_any s t cb p.x o1.le o2.le (o1.at_.below p.h (Nat.le_refl _)) (o2.at_.below p.h (Nat.le_refl _)) ((p.h.cell (p:=⟨cb,0,none⟩) (World.block_lt_of_cell? _ _ kr)).trans kr))
    obtain ⟨q,hq⟩:∃ q,(M.cmpS s.l1 s.l2 t.l1 t.l2==0)=q:=⟨_,rfl⟩
    rw [hq] at C
    have HS:Hid (ss[n]=s):=hs
    have HT:Hid (ss[n1]=t):=ht
    have HQ:Hid ((M.cmpK s.ky t.ky==0)=q):=hq
    clear hq hs ht
    have K1:=BelowOf.cell c1
    have K2:=BelowOf.cell c2
    have K3:=BelowOf.cell d1
    have K4:=BelowOf.cell d2
    have i1:(n:Int) < ss.length:=by omega
    have i2:(n1:Int) < ss.length:=by omega
    have i3:(n:Int) - 1=n1:=by omega
    have i4:IntKind.i64.wrap (n1:Int)=n1:=by rw [IntKind.wrap_i64];omega
    have HN:Hid (n=n1+1):=hn1
    clear hn1
    cases q
    ·go_wp2_with fail
     haveI:Inhabited (BelowOf wr):=⟨belOf wr⟩
     refine wp_region_quiet_bel (by kernel_rfl) (by kernel_rfl) ?_
     repeat (quiet_step (first | (go_at_call 140;exact Calls.bel_of (C _))))
     refine wpQuiet_nil ?_
     rintro _ ⟨⟨wq,hwq⟩,rfl⟩
     go_wp2_with fail
     exact ⟨⟨n+1,by go_num,by omega,by omega,by
      rw [kys_take_succ hlt]
      exact HP.out.keep (by rw [kys_len];exact hlt) (by
       have e:=HN.out
       subst e
       rw [kys_get ss hlt,kys_get ss (show n1+1 - 1 < ss.length by omega)]
       simp only [Nat.add_sub_cancel,HS.out,HT.out]
       simpa using HQ.out),hb.trans (hwq.mono hb.size)⟩,by simp [intOf];omega⟩
    ·go_wp2_with fail
     haveI:Inhabited (BelowOf wr):=⟨belOf wr⟩
     refine wp_region_quiet_bel (by kernel_rfl) (by kernel_rfl) ?_
     repeat (quiet_step (first | (go_at_call 140;exact Calls.bel_of (C _))))
     refine wpQuiet_nil ?_
     rintro _ ⟨⟨wq,hwq⟩,rfl⟩
     have i5:n≤cap:=by omega
     have hbq:=hb.trans (hwq.mono hb.size)
     have HT2:Hid (M.Thin (kys ss) (kys (ss.take n)) (n+1)):=HP.out.drop (by rw [kys_len];exact hlt) (by
       have e:=HN.out
       subst e
       rw [kys_get ss hlt,kys_get ss (show n1+1 - 1 < ss.length by omega)]
       simp only [Nat.add_sub_cancel,HS.out,HT.out]
       simpa using HQ.out)
     go_wp2_with fail
     obtain ⟨N2,hN2⟩:∃ N2,ss.length - n=N2:=⟨_,rfl⟩
     obtain ⟨cp,hcp⟩:∃ cp,cap - n=cp:=⟨_,rfl⟩
     rw [hN2,hcp]
     have hN2':ss.length=n+N2:=by omega
     have HNN:Hid (ss.length=n+N2):=hN2'
     have hN2p:0 < N2:=by omega
     have hN2b:N2≤1048576:=by omega
     clear hN2 hN2' C K1 K2 K3 K4 c1 c2 d1 d2 o1 o2 kr hSR i1 i2 i3 i4 i5 HS HT HQ HP hwq
     go_loopw [5,7] (fun s5 s7 wz=>∃ (kk m:Nat) (rr:List Sn),s5=.int .i64 kk∧s7=.int .i64 m∧0 < m∧m≤N2∧n≤kk∧kk < n+m∧Hid (rr.length=ss.length)∧SR wz g rr∧Hid (∀ j (_:n+m - 1≤j) (h1:j < rr.length) (h2:j < ss.length),rr[j]=ss[j])∧Hid (∀ s∈rr,s∈ss)∧Hid (M.Thin (kys ss) (kys (rr.take kk)) (n+m))∧But g w wz) (fun _ s7 _=>N2 - (intOf s7).toNat)
     case atStart=>exact ⟨n,1,ss,rfl,rfl,by omega,by omega,by omega,by omega,rfl,h.below hbq hlg,fun j _ _ _=>rfl,fun s hs=>hs,HT2.out,But.of hbq⟩
     case round =>
      obtain ⟨kk,m,rr,rfl,rfl,hm0,hmN,hnk,hkm,Hlen,hR,Hold,Hin,Hthin,hbz⟩:=hrel
      obtain ⟨m1,hm1⟩:∃ m1,m=m1+1:=⟨m - 1,by omega⟩
      have hlR:rr.length=n+N2:=Hlen.out.trans HNN.out
      by_cases hmlt:m < N2
      ·have hj:n+m < rr.length:=by omega
       have hj':n+m < ss.length:=by have:=HNN.out;omega
       have hj1:n+m1 < rr.length:=by omega
       have hj1':n+m1 < ss.length:=by omega
       obtain ⟨c1,c2⟩:=hR.c (n+m) hj
       obtain ⟨d1,d2⟩:=hR.c (n+m1) hj1
       have eq1:=Hold.out (n+m) (by omega) hj hj'
       have eq2:=Hold.out (n+m1) (by omega) hj1 hj1'
       obtain ⟨s,hs⟩:∃ s,rr[n+m]=s:=⟨_,rfl⟩
       obtain ⟨t,ht⟩:∃ t,rr[n+m1]=t:=⟨_,rfl⟩
       have o1:=(hgd _ (Hin.out _ (List.getElem_mem hj))).but hbz
       have o2:=(hgd _ (Hin.out _ (List.getElem_mem hj1))).but hbz
       rw [hs,Nat.add_mul] at c1 c2
       rw [ht,Nat.add_mul] at d1 d2
       rw [hs] at o1 eq1
       rw [ht] at o2 eq2
       have hsin:s∈ss:=by rw [eq1];exact List.getElem_mem hj'
       have kr:=(hbz.cell (p:=⟨cb,0,none⟩) hlc hne).trans k0
       have C:=fun p:BelowOf wr=>calls_bel (eqClosure_any s t cb p.x o1.le o2.le (o1.at_.below p.h (Nat.le_refl _)) (o2.at_.below p.h (Nat.le_refl _)) ((p.h.cell (p:=⟨cb,0,none⟩) (World.block_lt_of_cell? _ _ kr)).trans kr))
       obtain ⟨q,hq⟩:∃ q,(M.cmpS s.l1 s.l2 t.l1 t.l2==0)=q:=⟨_,rfl⟩
       rw [hq] at C
       have hkn:n+m < (kys ss).length:=by rw [kys_len];exact hj'
       have hkn1:n+m - 1 < (kys ss).length:=by omega
       have hq':(M.cmpK ((kys ss)[n+m]'hkn) ((kys ss)[n+m - 1]'hkn1)==0)=q:=by
        have e:=hm1
        subst e
        rw [kys_get ss hj',kys_get ss (show n+(m1+1) - 1 < ss.length by omega)]
        simp only [show n+(m1+1) - 1=n+m1 by omega]
        rw [← eq1,← eq2]
        exact hq
       have HQ:Hid ((M.cmpK ((kys ss)[n+m]'hkn) ((kys ss)[n+m - 1]'hkn1)==0)=q):=hq'
       clear hq'
       have HE:Hid (s=ss[n+m]):=eq1
       clear hq hs ht eq1 eq2
       have K1:=BelowOf.cell c1
       have K2:=BelowOf.cell c2
       have K3:=BelowOf.cell d1
       have K4:=BelowOf.cell d2
       have i1:(m:Int) < N2:=by omega
       have i2:(m1:Int) < N2:=by omega
       have i3:(m:Int) - 1=m1:=by omega
       have i4:IntKind.i64.wrap (m1:Int)=m1:=by rw [IntKind.wrap_i64];omega
       have HM:Hid (m=m1+1):=hm1
       have HLR:Hid (rr.length=n+N2):=hlR
       have hkkl:kk < ss.length:=by have:=HNN.out;omega
       have i5:(kk:Int) < ss.length:=by omega
       clear hm1 hlR
       cases q
       ·go_wp2_with fail
        haveI:Inhabited (BelowOf wr):=⟨belOf wr⟩
        refine wp_region_quiet_bel (by kernel_rfl) (by kernel_rfl) ?_
        repeat (quiet_step (first | (go_at_call 140;exact Calls.bel_of (C _))))
        refine wpQuiet_nil ?_
        rintro wq2 ⟨⟨wq,hwq2⟩,ew⟩
        change wq2=wq at ew
        subst ew
        have hRq:=hR.below hwq2 (Nat.lt_of_lt_of_le hlg hbz.size)
        have e1:wq2.cell? ⟨g,n * 2+m * 2,none⟩=some (.slice s.a1 s.l1.length s.c1):=(BelowOf.cell c1) ⟨wq2,hwq2⟩
        have e2:wq2.cell? ⟨g,n * 2+m * 2+1,none⟩=some (.slice s.a2 s.l2.length s.c2):=(BelowOf.cell c2) ⟨wq2,hwq2⟩
        obtain ⟨f1,f2⟩:=hRq.c kk (by have:=HLR.out;omega)
        have ff:=hRq.fz
        go_wp2_with fail
        exact ⟨⟨kk+1,m+1,rr.set kk s,by go_num,by go_num,by omega,by omega,by omega,by omega,(List.length_set ..).trans Hlen.out,hRq.set (by have:=HLR.out;omega) s,
         fun j h1 h2 h3=>by rw [List.getElem_set_ne (by omega)];exact Hold.out j (by omega) (by simpa using h2) h3,
         fun x hx=>by
          rcases List.mem_or_eq_of_mem_set hx with h | h
          ·exact Hin.out x h
          ·rw [h];exact hsin,
         by
          have ht:=Hthin.out.keep hkn (by simpa using HQ.out)
          have e1:(rr.set kk s).take (kk+1)=rr.take kk++[s]:=by
           rw [List.take_succ_eq_append_getElem (by rw [List.length_set,HLR.out];omega),List.getElem_set_self,List.take_set_of_le (Nat.le_refl _)]
          have e2:kys ((rr.set kk s).take (kk+1))=kys (rr.take kk)++[(kys ss)[n+m]'hkn]:=by
           rw [e1,kys_get ss hj',← HE.out];simp [kys]
          rw [e2]
          exact ht,
         ((hbz.trans (But.of hwq2)).setCell (Or.inr rfl) _).setCell (Or.inr rfl) _⟩,by simp [intOf];omega⟩
       ·go_wp2_with fail
        haveI:Inhabited (BelowOf wr):=⟨belOf wr⟩
        refine wp_region_quiet_bel (by kernel_rfl) (by kernel_rfl) ?_
        repeat (quiet_step (first | (go_at_call 140;exact Calls.bel_of (C _))))
        refine wpQuiet_nil ?_
        rintro _ ⟨⟨wq2,hwq2⟩,rfl⟩
        go_wp2_with fail
        exact ⟨⟨kk,m+1,rr,rfl,by go_num,by omega,by omega,by omega,by omega,Hlen,hR.below hwq2 (Nat.lt_of_lt_of_le hlg hbz.size),fun j h1 h2 h3=>Hold.out j (by omega) h2 h3,Hin,Hthin.out.drop hkn (by simpa using HQ.out),hbz.trans (But.of hwq2)⟩,by simp [intOf];omega⟩
      ·obtain rfl:m=N2:=by omega
       have hNN:=HNN.out
       have hkl:kk < ss.length:=by omega
       obtain ⟨zs,hzl,hcl⟩:=run_clear_pairs (P:=Tryz.prog) wr 78 33 (.agg #[.slice none 0 0,.slice none 0 0]) (.slice none 0 0) (.slice none 0 0) Tryz.underlying78 Tryz.zeroSeen rfl rfl rfl g (kk * 2) (ss.length - kk) (cap - kk) (by omega) (fun j hj=>by
        obtain ⟨e1,e2⟩:=hR.c (kk+j / 2) (by omega)
        rcases Nat.mod_two_eq_zero_or_one j with h | h
        ·rw [show kk * 2+j=(kk+j / 2) * 2 by omega,e1];rfl
        ·rw [show kk * 2+j=(kk+j / 2) * 2+1 by omega,e2];rfl) (fun j _=>hR.fz _)
       have HNN':Hid (ss.length=n+m):=hNN
       have i5:kk≤cap:=by omega
       have i6:kk≤ss.length:=by omega
       have i7:¬ cap=kk:=by omega
       clear hNN hlR hm1
       go_wp2_with fail
       go_ret
       have hkr:kk≤rr.length:=by rw [Hlen.out];omega
       have hbs:=hbz.setCells (kk * 2) zs
       refine ⟨rr.take kk,by rw [show (rr.take kk).length=kk by rw [List.length_take];exact Nat.min_eq_left hkr];rfl,by rw [List.length_take];omega,⟨fun i hi=>?_,fun j=>by rw [World.frozen?_setCells];exact hR.fz j⟩,fun s hs=>(hgd s (Hin.out s (List.mem_of_mem_take hs))).but hbs,?_,hbs⟩
       ·have hik:i < kk:=by simp at hi;omega
        have hc:=hR.c i (by omega)
        rw [List.getElem_take,World.cell?_setCells_out _ _ _ _ _ (fun _ _=>Or.inl (by show i * 2 < kk * 2;omega)),World.cell?_setCells_out _ _ _ _ _ (fun _ _=>Or.inl (by show i * 2+1 < kk * 2;omega))]
        exact hc
       ·exact (Hthin.out.fin (by rw [kys_len];exact Nat.le_of_eq HNN'.out)).symm
   ·go_wp2_with fail
    go_ret
    refine ⟨ss,rfl,Nat.le_refl _,h.below hb hlg,fun s hs=>(hgd s hs).below hb,?_,But.of hb⟩
    have:=HP.out.fin (by rw [kys_len];omega)
    rw [this,List.take_of_length_le (by omega)]
end
section
open Go.Shelf Go.Proofs
def Tryz.laysSortSn_ren:Go.Shelf.Ren:=⟨fun | 6=>138 | 15=>182 | 14=>181 | 28=>206 | 29=>146 | 20=>198 | 21=>199 | 22=>200 | 23=>201 | 24=>202 | 25=>203 | 26=>204 | 27=>205 | 46=>211 | 47=>212 | 48=>213 | 49=>214 | 50=>215 | 57=>220 | n=>n,fun | 22=>78 | 24=>33 | 25=>130 | 3=>3 | 39=>191 | 0=>0 | 53=>134 | 55=>155 | 4=>4 | 46=>265 | 45=>264 | 50=>226 | 5=>5 | 9=>9 | 66=>272 | 70=>275 | 76=>277 | 77=>23 | n=>n,fun | n=>n⟩
theorem Tryz.laysSortSn:Go.Proofs.SlLaysF0.n6 Tryz.prog Tryz.laysSortSn_ren:={
 mixed:=by kernel_rfl
 f6:=⟨Tryz.f138.name,by decide,Tryz.func138.trans (congrArg some (by kernel_rfl))⟩
 f14:=⟨Tryz.f181.name,by decide,Tryz.func181.trans (congrArg some (by kernel_rfl))⟩
 f15:=Tryz.func182.trans (congrArg some (by kernel_rfl))
 f20:=⟨Tryz.f198.name,by decide,Tryz.func198.trans (congrArg some (by kernel_rfl))⟩
 f21:=⟨Tryz.f199.name,by decide,Tryz.func199.trans (congrArg some (by kernel_rfl))⟩
 f22:=⟨Tryz.f200.name,by decide,Tryz.func200.trans (congrArg some (by kernel_rfl))⟩
 f23:=⟨Tryz.f201.name,by decide,Tryz.func201.trans (congrArg some (by kernel_rfl))⟩
 f24:=⟨Tryz.f202.name,by decide,Tryz.func202.trans (congrArg some (by kernel_rfl))⟩
 f25:=⟨Tryz.f203.name,by decide,Tryz.func203.trans (congrArg some (by kernel_rfl))⟩
 f26:=⟨Tryz.f204.name,by decide,Tryz.func204.trans (congrArg some (by kernel_rfl))⟩
 f27:=⟨Tryz.f205.name,by decide,Tryz.func205.trans (congrArg some (by kernel_rfl))⟩
 f28:=Tryz.func206.trans (congrArg some (by kernel_rfl))
 f29:=Tryz.func146.trans (congrArg some (by kernel_rfl))
 f46:=⟨Tryz.f211.name,by decide,Tryz.func211.trans (congrArg some (by kernel_rfl))⟩
 f47:=Tryz.func212.trans (congrArg some (by kernel_rfl))
 f48:=Tryz.func213.trans (congrArg some (by kernel_rfl))
 f49:=⟨Tryz.f214.name,by decide,Tryz.func214.trans (congrArg some (by kernel_rfl))⟩
 f50:=⟨Tryz.f215.name,by decide,Tryz.func215.trans (congrArg some (by kernel_rfl))⟩
 f57:=⟨Tryz.f220.name,by decide,Tryz.func220.trans (congrArg some (by kernel_rfl))⟩
 t0:=Tryz.underlying0
 a0:=Tryz.isAgg0
 z0:=Tryz.sizeOf0
 v0:=Tryz.zeroValue0
 t3:=Tryz.underlying3
 a3:=Tryz.isAgg3
 z3:=Tryz.sizeOf3
 v3:=Tryz.zeroValue3
 t4:=Tryz.underlying4
 a4:=Tryz.isAgg4
 z4:=Tryz.sizeOf4
 v4:=Tryz.zeroValue4
 t5:=Tryz.underlying5
 a5:=Tryz.isAgg5
 z5:=Tryz.sizeOf5
 v5:=Tryz.zeroValue5
 t9:=Tryz.underlying9
 a9:=Tryz.isAgg9
 z9:=Tryz.sizeOf9
 v9:=Tryz.zeroValue9
 t22:=Tryz.underlying78
 a22:=Tryz.isAgg78
 z22:=Tryz.sizeOf78
 v22:=Tryz.zeroValue78
 t25:=Tryz.underlying130
 a25:=Tryz.isAgg130
 z25:=Tryz.sizeOf130
 v25:=Tryz.zeroValue130
 t39:=Tryz.underlying191
 a39:=Tryz.isAgg191
 z39:=Tryz.sizeOf191
 v39:=Tryz.zeroValue191
 t45:=Tryz.underlying264
 a45:=Tryz.isAgg264
 z45:=Tryz.sizeOf264
 v45:=Tryz.zeroValue264
 t46:=Tryz.underlying265
 a46:=Tryz.isAgg265
 z46:=Tryz.sizeOf265
 v46:=Tryz.zeroValue265
 t50:=Tryz.underlying226
 a50:=Tryz.isAgg226
 z50:=Tryz.sizeOf226
 v50:=Tryz.zeroValue226
 t53:=Tryz.underlying134
 a53:=Tryz.isAgg134
 z53:=Tryz.sizeOf134
 v53:=Tryz.zeroValue134
 t55:=Tryz.underlying155
 a55:=Tryz.isAgg155
 z55:=Tryz.sizeOf155
 v55:=Tryz.zeroValue155
 t66:=Tryz.underlying272
 a66:=Tryz.isAgg272
 z66:=Tryz.sizeOf272
 v66:=Tryz.zeroValue272
 t70:=Tryz.underlying275
 a70:=Tryz.isAgg275
 z70:=Tryz.sizeOf275
 v70:=Tryz.zeroValue275
 t76:=Tryz.underlying277
 a76:=Tryz.isAgg277
 z76:=Tryz.sizeOf277
 v76:=Tryz.zeroValue277
 t77:=Tryz.underlying23
 a77:=Tryz.isAgg23
 z77:=Tryz.sizeOf23
 v77:=Tryz.zeroValue23 }
end
section
open Go.RowKit Go.Sort
abbrev OffIn (w:World) (g:Nat):={ s:Sn // Off w g s }
def offOf (w:World) (g:Nat):OffIn w g:=⟨⟨none,0,0,0,[],none,0,0,0,[]⟩,⟨⟨IntS.nil _ _ _ _,IntS.nil _ _ _ _⟩,⟨Nat.zero_le _,Nat.zero_le _⟩,fun h=>absurd h (Nat.lt_irrefl _),fun h=>absurd h (Nat.lt_irrefl _)⟩⟩
def encS {w:World} {g:Nat} (x:OffIn w g):List Value:=[.slice x.1.a1 x.1.l1.length x.1.c1,.slice x.1.a2 x.1.l2.length x.1.c2]
def cfS {w:World} {g:Nat} (x y:OffIn w g):Int:=M.cmpS x.1.l1 x.1.l2 y.1.l1 y.1.l2
theorem swoS {w:World} {g:Nat}:SWO (ltOf (cfS (w:=w) (g:=g))):=by
 refine ⟨fun x=>?_,fun x y z h1 h2=>?_,fun x y z h1 h2=>?_⟩
 ·have:=M.cmpK_self x.1.ky
  show decide (M.cmpK x.1.ky x.1.ky < 0)=false
  rw [this];rfl
 ·simp only [ltOf,decide_eq_true_eq] at *
  exact M.cmpS_trans h1 h2
 ·simp only [ltOf,decide_eq_false_iff_not,Int.not_lt] at *
  have a1:M.cmpK y.1.ky x.1.ky≤0:=by rw [M.cmpK_neg x.1.ky y.1.ky];have:0≤M.cmpK x.1.ky y.1.ky:=h1;omega
  have a2:M.cmpK z.1.ky y.1.ky≤0:=by rw [M.cmpK_neg y.1.ky z.1.ky];have:0≤M.cmpK y.1.ky z.1.ky:=h2;omega
  have a3:=M.cmpK_le_trans a2 a1
  have a4:=M.cmpK_neg x.1.ky z.1.ky
  show 0≤M.cmpK x.1.ky z.1.ky
  omega
theorem sortW_but {α:Type} [Inhabited α] (enc:α→List Value) (w:World) (g m:Nat) (d:Array α) (os:Array Obj):But g w (sortWorldK enc 2 w g 0 m d os):=by
 refine ⟨rfl,rfl,rfl,by simp [sortWorldK,putRowK],fun k hk hne=>?_⟩
 unfold sortWorldK
 rw [heap_grow_old _ _ (by simpa [putRowK] using hk)]
 show ((Sort.ahead w m).heap.modify g _)[k]?=_
 rw [Array.getElem?_modify,if_neg (fun e=>hne e.symm)]
 rfl
set_option maxHeartbeats 1000000 in
set_option maxRecDepth 100000 in
theorem sort_any (g cap:Nat) (ss:List Sn) (w:World) (hn:ss.length≤1048576) (hl:0 < ss.length) (h:SR w g ss) (hgd:∀ s∈ss,Off w g s) :
  Calls Tryz.prog 138 #[.slice (some ⟨g,0,none⟩) ss.length cap,.func (.func 89) #[] #[]] w fun e w'=>e=.returned (.tuple #[])∧∃ tt:List Sn,tt.length=ss.length∧tt.Perm ss∧M.Ord (kys tt)∧SR w' g tt∧(∀ s∈tt,Off w' g s)∧But g w w':=by
 have hg:=h.lt hl
 haveI:Inhabited (OffIn w g):=⟨offOf w g⟩
 obtain ⟨d,hd⟩:∃ d:Array (OffIn w g),d=(ss.attachWith (Off w g) hgd).toArray:=⟨_,rfl⟩
 have hds:d.size=ss.length:=by rw [hd];simp
 have hdl:d.toList.map Subtype.val=ss:=by rw [hd];simp
 have hget:∀ i (hi:i < ss.length),(d[i]!).1=ss[i]:=fun i hi=>by
  rw [getElem!_pos d i (by omega)]
  subst hd
  simp
 have hH:HoldsK (encS (w:=w) (g:=g)) 2 w g 0 d:=fun j hj=>by
  have hj':j < d.size * 2:=by simpa using hj
  refine ⟨?_,h.fz _⟩
  rw [Nat.zero_add]
  have hc:=h.c (j / 2) (by omega)
  have e:=hget (j / 2) (by omega)
  show _=some (id (flatK encS 2 d)[j]!)
  rw [get_flatK _ _ _ _ hj']
  simp only [encS,e,id]
  rcases Nat.mod_two_eq_zero_or_one j with hm | hm
  ·rw [hm]
   have:j=j / 2 * 2:=by omega
   rw [show w.cell? ⟨g,j,none⟩=w.cell? ⟨g,j / 2 * 2,none⟩ by rw [← this],hc.1];rfl
  ·rw [hm]
   have:j=j / 2 * 2+1:=by omega
   rw [show w.cell? ⟨g,j,none⟩=w.cell? ⟨g,j / 2 * 2+1,none⟩ by rw [← this],hc.2];rfl
 have eg:∀ args w,(callFunc 89 args).run Tryz.prog w=.ok (.enter 89 args) w:=enters_of Tryz.func89 (by kernel_rfl) rfl
 have hcmp:CmpLays Tryz.prog 89 #[] (encS (w:=w) (g:=g)) 2 cfS g 0 d.size w:=fun m os dk _ x y=>by
  have hb:=sortW_but (encS (w:=w) (g:=g)) w g m dk os
  refine (compareSeen_any x.1 y.1 _ x.2.le y.2.le (x.2.but hb).at_ (y.2.but hb).at_).mono ?_
  rintro e w' ⟨rfl,hgr⟩
  exact ⟨rfl,hgr.grow⟩
 have hcon:=AnyQ.slices_SortFunc Tryz.laysSortSn 2 Tryz.isAgg33 Tryz.sizeOf33 (encS (w:=w) (g:=g)) (fun _=>rfl) (fun x v hv=>by simp [encS] at hv;rcases hv with rfl | rfl<;>rfl) cfS swoS 89 #[] g 0 cap d w eg hcmp hH hg (by omega)
 rw [hds] at hcon
 refine hcon.mono ?_
 rintro e w' ⟨rfl,d',n,os,hperm,hsorted,rfl⟩
 obtain ⟨hsz,_,hpm⟩:=hperm
 have hsz':d'.size=ss.length:=hsz.trans hds
 have hb:=sortW_but (encS (w:=w) (g:=g)) w g n d' os
 have hget':∀ i (hi:i < ss.length) (hi':i < (d'.toList.map Subtype.val).length),(d'.toList.map Subtype.val)[i]=(d'[i]!).1:=fun i hi hi'=>by
  rw [getElem!_pos d' i (by omega)]
  simp
 refine ⟨rfl,d'.toList.map Subtype.val,by simp [hsz'],?_,?_,⟨fun i hi=>?_,fun j=>?_⟩,?_,hb⟩
 ·have e1:(d'.extract 0 ss.length).toList=d'.toList:=by rw [← hsz'];simp
  have e2:(d.extract 0 ss.length).toList=d.toList:=by rw [← hds];simp
  rw [e1,e2] at hpm
  have:=hpm.map Subtype.val
  rwa [hdl] at this
 ·unfold M.Ord kys
  rw [List.pairwise_iff_getElem]
  intro i j hi hj hij
  simp only [List.length_map,Array.length_toList] at hi hj
  have hs:=hsorted i j (Nat.zero_le _) hij (by omega)
  simp only [ltOf,decide_eq_false_iff_not,Int.not_lt] at hs
  rw [getElem!_pos d' i (by omega),getElem!_pos d' j (by omega)] at hs
  simp only [List.getElem_map,Array.getElem_toList]
  have hn2:=M.cmpK_neg (d'[j].1.ky) (d'[i].1.ky)
  have hs':0≤M.cmpK d'[j].1.ky d'[i].1.ky:=hs
  omega
 ·have hi':i < ss.length:=by simpa [hsz'] using hi
  rw [hget' i hi' hi]
  have hH':HoldsK (encS (w:=w) (g:=g)) 2 (sortWorldK encS 2 w g 0 n d' os) g 0 d':=by
   unfold sortWorldK
   exact holdsK_grow _ _ _ _ _ _ _ (by simpa [putRowK] using hg) (holdsK_putRowK _ _ _ _ _ d d' (holdsK_ahead _ _ _ _ _ _ _ hH) hsz)
  have c0:=(hH' (i * 2) (by simp;omega)).1
  have c1:=(hH' (i * 2+1) (by simp;omega)).1
  rw [Nat.zero_add] at c0 c1
  refine ⟨c0.trans ?_,c1.trans ?_⟩
  ·rw [get_flatK _ _ _ _ (by omega),show i * 2 / 2=i by omega,show i * 2 % 2=0 by omega];rfl
  ·rw [get_flatK _ _ _ _ (by omega),show (i * 2+1) / 2=i by omega,show (i * 2+1) % 2=1 by omega];rfl
 ·unfold sortWorldK
  rw [frozen?_grow _ _ _ (by simpa [putRowK] using hg)]
  show (putRow id _ _ _ _).frozen? _=_
  rw [frozen?_putRow]
  exact h.fz j
 ·intro s hs
  obtain ⟨x,_,rfl⟩:=List.mem_map.1 hs
  exact x.2.but hb
end
section
open Go.RowKit Go.Deep
theorem run_append_nil0 {P:Program} (w:World) (t ty e:TypeId) (i:TypeInfo) (ht:P.underlying t=some (.slice e)) (hi:P.info? e=some i) (a:Option Addr) (c:Nat) :
  (Builtin.append_ #[t,t] ty #[.slice none 0 0,.slice a 0 c]).run P w=.ok (.slice none 0 0) w:=by
 cases a
 ·simp [Builtin.append_,run_underlying ht,sizeOf,typeInfo,hi,Builtin.lenOf,Builtin.firstCells]
 ·simp [Builtin.append_,run_underlying ht,sizeOf,typeInfo,hi,Builtin.lenOf,Builtin.firstCells,loadCells,loadCellsFrom]
theorem wpList_append_nil0 {P:Program} {w:World} {ops:Array Oper} {rest:List Oper} {o:Oper} {a:Act} {Q:Exit→Act→World→Prop} (hgd:o.guard=none) (s x:Operand) (t:TypeId)
  (ho:o.op=.call { callee:=.builtin .append,args:=#[s,x],argTypes:=#[t,t] }) (e:TypeId) (i:TypeInfo) (ht:P.underlying t=some (.slice e)) (hi:P.info? e=some i)
  (hs:a.eval s=.slice none 0 0) (b:Option Addr) (c:Nat) (hx:a.eval x=.slice b 0 c)
  (h:wpList P ops Q rest (a.put o.dst (.slice none 0 0)) w):wpList P ops Q (o::rest) a w:=by
 refine wpList_plain hgd fun K hK=>?_
 have hrun:=run_append_nil0 (P:=P) w t o.type e i ht hi b c
 unfold Oper.wp
 simp [execOp,ho,resolve,invoke,builtin,hs,hx,hrun,Result.andThen]
 exact hK _ _ h
set_option maxHeartbeats 1000000 in
theorem newListI_any (a:Option Addr) (b o c:Nat) (l:List Int) (w:World) (hl:l.length≤1048576) (h:IntS w a b o l) :
  Calls Tryz.prog 77 #[.slice a l.length c] w fun e w'=>∃ a' g c',e=.returned (.slice a' l.length c')∧IntS w' a' g 0 l∧w.heap.size≤g∧l.length≤c'∧(0 < l.length→∀ j,w'.frozen? ⟨g,j,none⟩=false)∧Below w.heap.size w w':=by
 obtain ⟨i0,hi,hz0,hz1,hz2⟩:=info_parts Tryz.infoInt
 rcases Nat.eq_zero_or_pos l.length with h0 | hpos
 ·have hl0:l=[]:=List.length_eq_zero_iff.1 h0
  subst hl0
  rw [List.length_nil]
  go_enter Tryz.func77,Tryz.ntmps77
  go_wp2_with (at_builtin;refine wpList_append_nil0 rfl (.const (.slice none 0 0)) (.tmp 3) 31 rfl 3 i0 Tryz.underlying31 hi rfl a c rfl ?_)
  go_wp2_with fail
  go_ret
  exact ⟨none,w.heap.size,0,rfl,IntS.nil _ _ _ _,Nat.le_refl _,Nat.zero_le _,fun h=>absurd h (Nat.lt_irrefl _),Below.refl _ _⟩
 ·obtain ⟨rfl⟩:=h.addr hpos
  go_enter Tryz.func77,Tryz.ntmps77
  go_wp2_with (at_builtin;refine wpList_append_lies _ rfl (.const (.slice none 0 0)) (.tmp 3) 31 rfl w.heap.size 3 i0 _ 1 8 Tryz.underlying31 hi hz0 hz1 hz2 rfl (by decide) _ 0 [] rfl (World.ownsRow_nil _ _ _ _) ⟨b,o,none⟩ l.length c (nums l) rfl (by simp [nums]) ?c1 ?c2 hpos (by unfold maxLen;omega) (by omega) (Nat.le_refl _) w.heap.size rfl ?_)
  case c1 =>
   intro j u hj
   have hjl:j < l.length:=by
    have:=(List.getElem?_eq_some_iff.1 hj).1
    simpa [nums] using this
   rw [Go.WideShapes.add_plain,h.row j hjl]
   simpa [nums,hjl] using hj
  case c2=>intro u hu;simp [nums] at hu;obtain ⟨_,_,rfl⟩:=hu;rfl
  intro g cap w1 hown hg hat hlt
  have hb:Below w.heap.size w w1:=⟨hg.os,hg.tape,hg.output,hg.size,fun k hk=>hg.block k hk (fun e=>by simp [Value.ownBlock] at e)⟩
  have hown':w1.ownsRow w.heap.size 3 1 (.slice (some ⟨g,0,none⟩) l.length cap) l.length (nums l):=by simpa using hown
  have hcap:=own_cap hown'
  have hfr:=own_fzS hown'
  obtain ⟨a9,g9,c9,e9,i9,ge9,_⟩:=own_nums hown'
  simp only [Value.slice.injEq] at e9
  obtain ⟨rfl,_,rfl⟩:=e9
  have hgg:g=g9:=by have:=i9.addr hpos;simp at this;exact this
  subst hgg
  go_wp2_with fail
  go_ret
  exact ⟨_,g,cap,by first | rfl | simp,i9,ge9,hcap,fun _=>hfr,hb⟩
theorem KS.sns {w:World} {a:Option Addr} {b o:Nat} {ks:List Key} (h:KS w a b o ks):∃ ss:List Sn,kys ss=ks∧∀ i (hi:i < ss.length),w.cell? ⟨b,o+i * 2,none⟩=some (.slice ss[i].a1 ss[i].l1.length ss[i].c1)∧w.cell? ⟨b,o+i * 2+1,none⟩=some (.slice ss[i].a2 ss[i].l2.length ss[i].c2)∧ss[i].At w:=by
 haveI:Inhabited Sn:=⟨⟨none,0,0,0,[],none,0,0,0,[]⟩⟩
 have key:∀ i,i < ks.length→∃ s:Sn,s.ky=ks.getD i ([],[])∧w.cell? ⟨b,o+i * 2,none⟩=some (.slice s.a1 s.l1.length s.c1)∧w.cell? ⟨b,o+i * 2+1,none⟩=some (.slice s.a2 s.l2.length s.c2)∧s.At w:=fun i hi=>by
  obtain ⟨s,h1,h2,c1,c2,ha⟩:=h.row i hi
  refine ⟨s,?_,c1,c2,ha⟩
  rw [List.getD_eq_getElem?_getD,List.getElem?_eq_getElem hi]
  exact Prod.ext h1 h2
 obtain ⟨f,hf⟩:=choose_lt (α:=Sn) key
 refine ⟨(List.range ks.length).map f,?_,fun i hi=>?_⟩
 ·apply List.ext_getElem
  ·simp [kys]
  ·intro i h1 h2
   simp only [kys,List.getElem_map,List.getElem_range]
   rw [(hf i h2).1,List.getD_eq_getElem?_getD,List.getElem?_eq_getElem h2];rfl
 ·simp only [List.length_map,List.length_range] at hi
  simp only [List.getElem_map,List.getElem_range]
  exact (hf i hi).2
end
section
open Go.RowKit
structure Fresh (B:Nat) (w:World) (s:Sn):Prop where
 at_:s.At w
 g1:B≤s.b1
 g2:B≤s.b2
set_option maxHeartbeats 1000000 in
set_option maxRecDepth 100000 in
theorem copySeen_any (s:Sn) (w:World) (hs:s.Le 1048576) (hsa:s.At w) :
  Calls Tryz.prog 90 #[.agg #[.slice s.a1 s.l1.length s.c1,.slice s.a2 s.l2.length s.c2]] w fun e w'=>∃ t:Sn,e=.returned (.agg #[.slice t.a1 t.l1.length t.c1,.slice t.a2 t.l2.length t.c2])∧t.l1=s.l1∧t.l2=s.l2∧Fresh w.heap.size w' t∧Own2 w' t∧Below w.heap.size w w':=by
 go_enter Tryz.func90,Tryz.ntmps90
 go_wp2_with fail
 have hb2:=below2 w (.cells #[.slice s.a1 s.l1.length s.c1,.slice s.a2 s.l2.length s.c2] 33) (.cells #[.slice none 0 0,.slice none 0 0] 33)
 have k0:((w.alloc (.cells #[.slice s.a1 s.l1.length s.c1,.slice s.a2 s.l2.length s.c2] 33)).alloc (.cells #[.slice none 0 0,.slice none 0 0] 33)).cell? ⟨w.heap.size,0,none⟩=some (.slice s.a1 s.l1.length s.c1):=by simp
 have k1:((w.alloc (.cells #[.slice s.a1 s.l1.length s.c1,.slice s.a2 s.l2.length s.c2] 33)).alloc (.cells #[.slice none 0 0,.slice none 0 0] 33)).cell? ⟨w.heap.size,1,none⟩=some (.slice s.a2 s.l2.length s.c2):=by simp
 have hR:Slot2 ((w.alloc (.cells #[.slice s.a1 s.l1.length s.c1,.slice s.a2 s.l2.length s.c2] 33)).alloc (.cells #[.slice none 0 0,.slice none 0 0] 33)) (w.heap.size+1) (.slice none 0 0) (.slice none 0 0):=⟨alloc_new _ _ _ (by simp only [World.size_alloc])⟩
 have hsz:((w.alloc (.cells #[.slice s.a1 s.l1.length s.c1,.slice s.a2 s.l2.length s.c2] 33)).alloc (.cells #[.slice none 0 0,.slice none 0 0] 33)).heap.size=w.heap.size+1+1:=by simp only [World.size_alloc]
 generalize (w.alloc (.cells #[.slice s.a1 s.l1.length s.c1,.slice s.a2 s.l2.length s.c2] 33)).alloc (.cells #[.slice none 0 0,.slice none 0 0] 33)=W at *
 have hsW:=(hsa.below hb2 (Nat.le_refl _)).below (Below.refl W.heap.size W).drew (Nat.le_refl _)
 have lt0:w.heap.size < W.heap.size:=by omega
 have lt1:w.heap.size+1 < W.heap.size:=by omega
 have hbd:Below W.heap.size W W.drew:=(Below.refl W.heap.size W).drew
 have C1:=newListI_any s.a1 s.b1 s.o1 s.c1 s.l1 W.drew hs.reads hsW.reads
 go_region_held3 (fun w'=>w'.cell? ⟨w.heap.size,0,none⟩=some (.slice s.a1 s.l1.length s.c1)∧w'.cell? ⟨w.heap.size,1,none⟩=some (.slice s.a2 s.l2.length s.c2)) (go_keep) (first
  | (go_at_call_of 77 (Value.slice s.a1 s.l1.length s.c1);refine C1.mono ?_;rintro e w1 ⟨x1,y1,z1,rfl,n1,ge1,cp1,fr1,b1⟩;have B1:=hbd.trans b1;have Y0:=(B1.cell (p:=⟨w.heap.size,0,none⟩) lt0).trans k0;have Y1:=(B1.cell (p:=⟨w.heap.size,1,none⟩) lt0).trans k1)
  | (go_at_call_of 77 (Value.slice s.a2 s.l2.length s.c2);refine (newListI_any s.a2 s.b2 s.o2 s.c2 s.l2 _ hs.last (hsW.below b1 (Nat.le_refl _)).last).mono ?_;rintro e w2 ⟨x2,y2,z2,rfl,n2,ge2,cp2,fr2,b2⟩;have B2:=B1.trans (b2.mono B1.size);have Z0:=(B2.cell (p:=⟨w.heap.size,0,none⟩) lt0).trans k0;have Z1:=(B2.cell (p:=⟨w.heap.size,1,none⟩) lt0).trans k1;have hR2:=hR.of (B2.block (w.heap.size+1) lt1);have R0:=hR2.c0;have R1:=hR2.c1;have Rf:=hR2.fz))
 have g1:w.heap.size+1+1≤y1:=by rw [← hsz];exact ge1
 have g2:w.heap.size+1+1≤y2:=Nat.le_trans (by rw [← hsz];exact B1.size) ge2
 have hR3:=(hR2.set0 (.slice x1 s.l1.length z1)).set1 (.slice x2 s.l2.length z2)
 have hF1:IntS ((w2.setCell ⟨w.heap.size+1,0,none⟩ (.slice x1 s.l1.length z1)).setCell ⟨w.heap.size+1,1,none⟩ (.slice x2 s.l2.length z2)) x1 y1 0 s.l1:=((n1.below b2 (Nat.le_refl _)).far (fun _=>by omega)).far (fun _=>by omega)
 have hF2:IntS ((w2.setCell ⟨w.heap.size+1,0,none⟩ (.slice x1 s.l1.length z1)).setCell ⟨w.heap.size+1,1,none⟩ (.slice x2 s.l2.length z2)) x2 y2 0 s.l2:=(n2.far (fun _=>by omega)).far (fun _=>by omega)
 have hbF:Below w.heap.size w ((w2.setCell ⟨w.heap.size+1,0,none⟩ (.slice x1 s.l1.length z1)).setCell ⟨w.heap.size+1,1,none⟩ (.slice x2 s.l2.length z2)):=((hb2.trans (B2.mono (by omega))).setCell (by show w.heap.size≤w.heap.size+1;omega) _).setCell (by show w.heap.size≤w.heap.size+1;omega) _
 have hO:Own2 ((w2.setCell ⟨w.heap.size+1,0,none⟩ (.slice x1 s.l1.length z1)).setCell ⟨w.heap.size+1,1,none⟩ (.slice x2 s.l2.length z2)) ⟨x1,y1,0,z1,s.l1,x2,y2,0,z2,s.l2⟩:=by
  refine Own2.far (Own2.far ⟨fun h1 _=>?_,fun b hk j=>?_⟩)
  ·have:=n1.lt h1
   show y1≠y2
   omega
  ·rcases hk with ⟨h0,rfl⟩ | ⟨h0,rfl⟩
   ·exact (b2.frozen (p:=⟨_,j,none⟩) (n1.lt h0)).trans (fr1 h0 j)
   ·exact fr2 h0 j
 have q0:=hR3.c0
 have q1:=hR3.c1
 clear Z0 Z1 Y0 Y1 R0 R1 Rf C1 k0 k1 hR hR2
 generalize (w2.setCell ⟨w.heap.size+1,0,none⟩ (.slice x1 s.l1.length z1)).setCell ⟨w.heap.size+1,1,none⟩ (.slice x2 s.l2.length z2)=F at *
 go_wp2_with fail
 refine bodyPost_ret (v:=.agg #[.slice x1 s.l1.length z1,.slice x2 s.l2.length z2]) (by simp [results,Tryz.results90,go_sem,q0,q1]) rfl ⟨⟨x1,y1,0,z1,s.l1,x2,y2,0,z2,s.l2⟩,rfl,rfl,rfl,⟨⟨hF1,hF2⟩,by show w.heap.size≤y1;omega,by show w.heap.size≤y2;omega⟩,hO,hbF⟩
def flatS:List Sn→List Value
 | []=>[]
 | s::l=>.slice s.a1 s.l1.length s.c1::.slice s.a2 s.l2.length s.c2::flatS l
theorem flatS_length (l:List Sn):(flatS l).length=l.length * 2:=by
 induction l with
 | nil=>rfl
 | cons s l ih=>simp [flatS,ih];omega
theorem flatS_get (l:List Sn):∀ i (h:i < l.length),(flatS l)[i * 2]?=some (.slice l[i].a1 l[i].l1.length l[i].c1)∧(flatS l)[i * 2+1]?=some (.slice l[i].a2 l[i].l2.length l[i].c2):=by
 induction l with
 | nil=>intro i h;exact absurd h (Nat.not_lt_zero _)
 | cons s l ih =>
  intro i h
  cases i with
  | zero=>exact ⟨rfl,rfl⟩
  | succ i =>
   obtain ⟨h0,h1⟩:=ih i (by simpa using h)
   have e:(i+1) * 2=i * 2+2:=by omega
   rw [e]
   exact ⟨by simpa [flatS] using h0,by simpa [flatS] using h1⟩
theorem flatS_one (l:List Sn):∀ y∈flatS l,y.oneCell'=true:=by
 induction l with
 | nil=>intro y hy;cases hy
 | cons s l ih =>
  intro y hy
  simp only [flatS,List.mem_cons] at hy
  rcases hy with rfl | rfl | hy
  ·rfl
  ·rfl
  ·exact ih y hy
set_option maxHeartbeats 1000000 in
theorem newListS_any (b o c:Nat) (ss:List Sn) (w:World) (hl:ss.length≤1048576) (hpos:0 < ss.length) (hc:∀ i (hi:i < ss.length),w.cell? ⟨b,o+i * 2,none⟩=some (.slice ss[i].a1 ss[i].l1.length ss[i].c1)∧w.cell? ⟨b,o+i * 2+1,none⟩=some (.slice ss[i].a2 ss[i].l2.length ss[i].c2)) :
  Calls Tryz.prog 137 #[.slice (some ⟨b,o,none⟩) ss.length c] w fun e w'=>∃ g cap,e=.returned (.slice (some ⟨g,0,none⟩) ss.length cap)∧SR w' g ss∧w.heap.size≤g∧ss.length≤cap∧Below w.heap.size w w':=by
 obtain ⟨i0,hi,hz0,hz1,hz2⟩:=info_parts Tryz.infoSeen
 go_enter Tryz.func137,Tryz.ntmps137
 go_wp2_with (at_builtin;refine wpList_append_lies _ rfl (.const (.slice none 0 0)) (.tmp 3) 78 rfl w.heap.size 33 i0 _ 2 48 Tryz.underlying78 hi hz0 hz1 hz2 rfl (by decide) _ 0 [] rfl (World.ownsRow_nil _ _ _ _) ⟨b,o,none⟩ ss.length c (flatS ss) rfl (flatS_length ss) ?c1 (flatS_one ss) hpos (by unfold maxLen;omega) (by omega) (Nat.le_refl _) w.heap.size rfl ?_)
 case c1 =>
  intro j u hj
  have hjl:j < ss.length * 2:=by
   have:=(List.getElem?_eq_some_iff.1 hj).1
   rwa [flatS_length] at this
  obtain ⟨q,hq⟩:∃ q,j=q * 2∨j=q * 2+1:=⟨j / 2,by omega⟩
  rcases hq with rfl | rfl
  ·obtain ⟨c1,_⟩:=hc q (by omega)
   obtain ⟨f1,_⟩:=flatS_get ss q (by omega)
   rw [Go.WideShapes.add_plain,c1,← hj,f1]
  ·obtain ⟨_,c2⟩:=hc q (by omega)
   obtain ⟨_,f2⟩:=flatS_get ss q (by omega)
   rw [Go.WideShapes.add_plain,← Nat.add_assoc,c2,← hj,f2]
 intro g cap w1 hown hg hat hlt
 have hb:Below w.heap.size w w1:=⟨hg.os,hg.tape,hg.output,hg.size,fun k hk=>hg.block k hk (fun e=>by simp [Value.ownBlock] at e)⟩
 have hown':w1.ownsRow w.heap.size 33 2 (.slice (some ⟨g,0,none⟩) ss.length cap) ss.length (flatS ss):=by simpa using hown
 have hSR:SR w1 g ss:=⟨fun i hi=>by
  obtain ⟨f1,f2⟩:=flatS_get ss i hi
  have e1:=hown'.cells (g:=g) rfl _ _ f1
  have e2:=hown'.cells (g:=g) rfl _ _ f2
  rw [Go.WideShapes.add_plain,Nat.zero_add] at e1 e2
  exact ⟨e1,e2⟩,fun j=>own_fzS hown' j⟩
 have hge:=own_ge hown' g rfl
 have hcap:=own_capP hown'
 go_wp2_with fail
 go_ret
 exact ⟨g,cap,by first | rfl | simp,hSR,hge,hcap,hb⟩
end
section
open Go.RowKit
set_option maxHeartbeats 1000000 in
theorem inOrder_any (b o c:Nat) (ss:List Sn) (w:World) (hl:ss.length≤1048576) (hpos:0 < ss.length) (hle:∀ s∈ss,s.Le 1048576) (hc:∀ i (hi:i < ss.length),w.cell? ⟨b,o+i * 2,none⟩=some (.slice ss[i].a1 ss[i].l1.length ss[i].c1)∧w.cell? ⟨b,o+i * 2+1,none⟩=some (.slice ss[i].a2 ss[i].l2.length ss[i].c2)∧ss[i].At w) :
  Calls Tryz.prog 88 #[.slice (some ⟨b,o,none⟩) ss.length c,.func (.func 89) #[] #[]] w fun e w'=>∃ g cap,∃ tt:List Sn,e=.returned (.slice (some ⟨g,0,none⟩) tt.length cap)∧SR w' g tt∧(∀ s∈tt,Off w' g s)∧kys tt=M.sortK (kys ss)∧tt.length≤ss.length∧tt.length≤cap∧w.heap.size≤g∧Below w.heap.size w w':=by
 have hb0:=below1 w (.cells #[.func (.func 89) #[] #[]] 130)
 go_enter Tryz.func88,Tryz.ntmps88
 go_wp2_with fail
 have hcr:∀ i (hi:i < ss.length),(w.alloc (.cells #[.func (.func 89) #[] #[]] 130)).cell? ⟨b,o+i * 2,none⟩=some (.slice ss[i].a1 ss[i].l1.length ss[i].c1)∧(w.alloc (.cells #[.func (.func 89) #[] #[]] 130)).cell? ⟨b,o+i * 2+1,none⟩=some (.slice ss[i].a2 ss[i].l2.length ss[i].c2):=fun i hi=>by
  obtain ⟨c1,c2,_⟩:=hc i hi
  exact ⟨(hb0.cell (p:=⟨b,o+i * 2,none⟩) (World.block_lt_of_cell? _ _ c1)).trans c1,(hb0.cell (p:=⟨b,o+i * 2+1,none⟩) (World.block_lt_of_cell? _ _ c2)).trans c2⟩
 have k0:(w.alloc (.cells #[.func (.func 89) #[] #[]] 130)).cell? ⟨w.heap.size,0,none⟩=some (.func (.func 89) #[] #[]):=by simp
 have hsz:(w.alloc (.cells #[.func (.func 89) #[] #[]] 130)).heap.size=w.heap.size+1:=by simp only [World.size_alloc]
 generalize w.alloc (.cells #[.func (.func 89) #[] #[]] 130)=W at *
 refine (newListS_any b o c ss W hl hpos hcr).mono ?_
 rintro e w1 ⟨g,cap,rfl,hSR,hge,hcap,hb1⟩
 have hbw1:Below w.heap.size w w1:=hb0.trans (hb1.mono (by omega))
 have hoff:∀ s∈ss,Off w1 g s:=fun s hs=>by
  obtain ⟨i,hi,rfl⟩:=List.getElem_of_mem hs
  have ha:=(hc i hi).2.2
  exact ⟨ha.below hbw1 (Nat.le_refl _),hle _ hs,fun h=>by have:=ha.reads.lt h;omega,fun h=>by have:=ha.last.lt h;omega⟩
 have k1:=(hb1.cell (p:=⟨w.heap.size,0,none⟩) (by show w.heap.size < W.heap.size;omega)).trans k0
 have hS:=sort_any g cap ss w1 hl hpos hSR hoff
 clear hcr k0 hc
 go_wp2_with fail
 refine hS.mono ?_
 rintro e w2 ⟨rfl,tt,htl,hperm,hord,hSR2,hoff2,hbut2⟩
 have k2:=(hbut2.cell (p:=⟨w.heap.size,0,none⟩) (World.block_lt_of_cell? _ _ k1) (by show w.heap.size≠g;omega)).trans k1
 have hC:=compact_any g cap tt w.heap.size w2 (by omega) (by omega) hSR2 hoff2 k2 (by omega)
 rw [htl] at hC
 have HL:Hid (tt.length=ss.length):=htl
 clear htl hS
 go_wp2_with fail
 refine hC.mono ?_
 rintro e w3 ⟨uu,rfl,hul,hSR3,hoff3,hk3,hbut3⟩
 go_wp2_with fail
 go_ret
 refine ⟨g,cap,uu,rfl,hSR3,hoff3,?_,?_,?_,by omega,But.below hbw1 (hbut2.trans hbut3) (by omega)⟩
 ·rw [hk3]
  exact M.thin_sortK hord fun x=>by
   have:=(hperm.map Sn.ky).mem_iff (a:=x)
   exact this
 ·have:=HL.out;omega
 ·have:=HL.out;omega
theorem inOrder_nil (a:Option Addr) (c:Nat) (w:World) :
  Calls Tryz.prog 88 #[.slice a 0 c,.func (.func 89) #[] #[]] w fun e w'=>e=.returned (.slice none 0 0)∧Below w.heap.size w w':=by
 obtain ⟨i0,hi,_,_,_⟩:=info_parts Tryz.infoSeen
 have hN:∀ W,Calls Tryz.prog 137 #[.slice a 0 c] W fun e w'=>e=.returned (.slice none 0 0)∧w'=W:=fun W=>by
  go_enter Tryz.func137,Tryz.ntmps137
  go_wp2_with (at_builtin;refine wpList_append_nil0 rfl (.const (.slice none 0 0)) (.tmp 3) 78 rfl 33 i0 Tryz.underlying78 hi rfl a c rfl ?_)
  go_wp2_with fail
  go_ret
  exact ⟨rfl,rfl⟩
 have hS:∀ fv W,Calls Tryz.prog 138 #[.slice none 0 0,fv] W fun e w'=>e=.returned (.tuple #[])∧w'=W:=fun fv W=>AnyF.slices_SortFunc_none Tryz.laysSortSn none 0 fv W
 have hC:∀ fv W,Calls Tryz.prog 139 #[.slice none 0 0,fv] W fun e w'=>e=.returned (.slice none 0 0)∧w'=W:=fun fv W=>by
  go_enter Tryz.func139,Tryz.ntmps139
  go_wp2_with fail
  go_ret
  exact ⟨rfl,rfl⟩
 go_enter Tryz.func88,Tryz.ntmps88
 go_wp2_with fail
 refine (hN _).mono ?_
 rintro e w1 ⟨rfl,rfl⟩
 go_wp2_with fail
 refine (hS _ _).mono ?_
 rintro e w1 ⟨rfl,rfl⟩
 go_wp2_with fail
 refine (hC _ _).mono ?_
 rintro e w1 ⟨rfl,rfl⟩
 go_wp2_with fail
 go_ret
 exact ⟨rfl,below1 _ _⟩
end
section
open Go.RowKit
structure NewL (B:Nat) (w:World) (a:Option Addr) (g:Nat) (uu:List Sn):Prop where
 addr:0 < uu.length→a=some ⟨g,0,none⟩
 ge:0 < uu.length→B≤g
 sr:0 < uu.length→SR w g uu
 off:∀ s∈uu,Off w g s
 fresh:∀ s∈uu,B≤s.b1∧B≤s.b2
 sep:Sep uu
 own:∀ s∈uu,Own2 w s
theorem NewL.ks {B:Nat} {w:World} {a:Option Addr} {g:Nat} {uu:List Sn} (h:NewL B w a g uu):KS w a g 0 (kys uu):=by
 refine ⟨fun hl=>h.addr (by simpa [kys] using hl),fun i hi=>?_⟩
 have hi':i < uu.length:=by simpa [kys] using hi
 obtain ⟨c1,c2⟩:=(h.sr (by omega)).c i hi'
 refine ⟨uu[i],by simp [kys,Sn.ky],by simp [kys,Sn.ky],by rw [Nat.zero_add];exact c1,by rw [Nat.zero_add];exact c2,(h.off _ (List.getElem_mem hi')).at_⟩
set_option maxHeartbeats 1000000 in
set_option maxRecDepth 100000 in
theorem iseenSort_any (a:Option Addr) (b o c:Nat) (ks:List Key) (w:World) (hl:ks.length≤1048576) (hls:KLe ks 1048576) (h:KS w a b o ks) :
  Calls Tryz.prog 56 #[.slice a ks.length c] w fun e w'=>∃ a' g c',∃ uu:List Sn,e=.returned (.slice a' uu.length c')∧kys uu=M.sortK ks∧NewL w.heap.size w' a' g uu∧uu.length≤ks.length∧uu.length≤c'∧Below w.heap.size w w':=by
 rcases Nat.eq_zero_or_pos ks.length with h0 | hpos
 ·have hk0:ks=[]:=List.length_eq_zero_iff.1 h0
  subst hk0
  rw [List.length_nil]
  go_enter Tryz.func56,Tryz.ntmps56
  go_wp2_with fail
  refine (inOrder_nil a c _).mono ?_
  rintro e w1 ⟨rfl,hb1⟩
  go_wp2_with fail
  go_loopw [10] (fun s10 wr=>s10=.int .i64 0∧wr=w1) (fun _ _=>0)
  case atStart=>exact ⟨rfl,rfl⟩
  case round =>
   obtain ⟨rfl,rfl⟩:=hrel
   go_wp2_with fail
   go_ret
   exact ⟨none,0,0,[],rfl,rfl,⟨fun h=>absurd h (Nat.lt_irrefl _),fun h=>absurd h (Nat.lt_irrefl _),fun h=>absurd h (Nat.lt_irrefl _),fun s hs=>absurd hs (by simp),fun s hs=>absurd hs (by simp),⟨fun i _ hi=>absurd hi (Nat.not_lt_zero _),fun s hs=>absurd hs (by simp)⟩,fun s hs=>absurd hs (by simp)⟩,Nat.le_refl _,Nat.le_refl _,hb1⟩
 ·obtain ⟨rfl⟩:=h.addr hpos
  obtain ⟨ss,hks,hcs⟩:=h.sns
  have hsl:ss.length=ks.length:=by rw [← hks,kys_len]
  have hle:∀ s∈ss,s.Le 1048576:=fun s hs=>by
   have:=hls s.ky (by rw [← hks];exact List.mem_map.2 ⟨s,hs,rfl⟩)
   exact ⟨this.1,this.2⟩
  have C0:=inOrder_any b o c ss w (by omega) (by omega) hle hcs
  rw [hsl,hks] at C0
  go_enter Tryz.func56,Tryz.ntmps56
  go_wp2_with fail
  refine C0.mono ?_
  rintro e w1 ⟨g,cap,uu,rfl,hSR,hoff,hku,hul,hcap,hge,hb1⟩
  clear C0 hcs hls h
  obtain ⟨N,hN⟩:∃ N,uu.length=N:=⟨_,rfl⟩
  have hNb:N≤1048576:=by omega
  rw [hN]
  rw [hN] at hul hcap
  have hg1:0 < N→g < w1.heap.size:=fun hp=>hSR.lt (by omega)
  go_wp2_with fail
  go_loopw [10] (fun s10 wr=>∃ (n:Nat) (vv:List Sn),s10=.int .i64 n∧n≤N∧Hid (vv.length=N)∧Hid (kys vv=M.sortK ks)∧SR wr g vv∧Hid (∀ s∈vv,Off wr g s)∧Hid (∀ i (_:i < n) (h1:i < vv.length),w.heap.size≤vv[i].b1∧w.heap.size≤vv[i].b2)∧Hid (∀ i j (_:i < n) (_:j < n) (hi:i < vv.length) (hj:j < vv.length),i≠j→∀ b,vv[i].blk b→¬ vv[j].blk b)∧Hid (∀ i (_:i < n) (hi:i < vv.length),Own2 wr vv[i])∧Below w.heap.size w wr∧(0 < N→g < wr.heap.size)) (fun s10 _=>N - (intOf s10).toNat)
  case atStart=>exact ⟨0,uu,rfl,Nat.zero_le _,hN,hku,hSR,hoff,fun i h=>absurd h (Nat.not_lt_zero _),fun i _ h=>absurd h (Nat.not_lt_zero _),fun i h=>absurd h (Nat.not_lt_zero _),hb1,hg1⟩
  case round =>
   obtain ⟨n,vv,rfl,hnN,Hlen,Hky,hR,Hoff,Hfr,Hsp,How,hb,hgr⟩:=hrel
   clear hSR hoff hb1 hg1
   by_cases hlt:n < N
   ·have hnv:n < vv.length:=by rw [Hlen.out];exact hlt
    obtain ⟨c1,c2⟩:=hR.c n hnv
    have ho:=Hoff.out _ (List.getElem_mem hnv)
    obtain ⟨s,hs⟩:∃ s,vv[n]=s:=⟨_,rfl⟩
    rw [hs] at c1 c2 ho
    have HS:Hid (vv[n]=s):=hs
    clear hs
    have i1:(n:Int) < N:=by omega
    have hgl:=hgr (by omega)
    have fz:=hR.fz
    go_wp2_with fail
    have hbx:=below1 wr (.cells #[.slice s.a1 s.l1.length s.c1,.slice s.a2 s.l2.length s.c2] 33)
    refine (copySeen_any s _ ho.le (ho.at_.below hbx (Nat.le_refl _))).mono ?_
    rintro e w2 ⟨t,rfl,ht1,ht2,htf,hto,hb2⟩
    have hbr2:Below wr.heap.size wr w2:=hbx.trans (hb2.mono (by simp))
    have hR2:=hR.below hbr2 hgl
    obtain ⟨d1,d2⟩:=hR2.c n hnv
    have fz2:=hR2.fz
    have htg:wr.heap.size+1≤t.b1∧wr.heap.size+1≤t.b2:=⟨by have:=htf.g1;simpa using this,by have:=htf.g2;simpa using this⟩
    have hsz:=hb.size
    have hot:Off w2 g t:=⟨htf.at_,⟨by rw [ht1];exact ho.le.reads,by rw [ht2];exact ho.le.last⟩,fun _=>by omega,fun _=>by omega⟩
    have HT1:Hid (t.l1=s.l1):=ht1
    have HT2:Hid (t.l2=s.l2):=ht2
    clear ht1 ht2
    go_wp2_with fail
    refine ⟨⟨n+1,vv.set n t,by go_num,by omega,(List.length_set ..).trans Hlen.out,?_,hR2.set hnv t,?_,?_,?_,?_,?_,?_⟩,by simp [intOf];omega⟩
    ·show kys (vv.set n t)=M.sortK ks
     have e:t.ky=vv[n].ky:=by rw [HS.out];exact Prod.ext HT1.out HT2.out
     rw [← Hky.out,kys,List.map_set,e,kys]
     have:vv[n].ky=(vv.map Sn.ky)[n]'(by simpa using hnv):=by simp
     rw [this,List.set_getElem_self]
    ·intro s' hs'
     rcases List.mem_or_eq_of_mem_set hs' with h | rfl
     ·exact ((Hoff.out s' h).below hbr2).far.far
     ·exact hot.far.far
    ·intro i hi h1
     by_cases e:i=n
     ·subst e
      rw [List.getElem_set_self]
      omega
     ·rw [List.getElem_set_ne (fun h=>e h.symm)]
      exact Hfr.out i (by omega) (by simpa using h1)
    ·have new:∀ b,t.blk b→wr.heap.size≤b:=fun b hk=>by
      rcases hk with ⟨_,rfl⟩ | ⟨_,rfl⟩<;>omega
     have old:∀ i (hi:i < vv.length),∀ b,vv[i].blk b→b < wr.heap.size:=fun i hi b hk=>Sn.blk_lt (Hoff.out _ (List.getElem_mem hi)).at_ hk
     intro i j hi hj hi2 hj2 hij b hk hk'
     have hi3:i < vv.length:=by simpa using hi2
     have hj3:j < vv.length:=by simpa using hj2
     by_cases ei:i=n
     ·subst ei
      rw [List.getElem_set_self] at hk
      rw [List.getElem_set_ne hij] at hk'
      have:=new b hk
      have:=old j hj3 b hk'
      omega
     ·rw [List.getElem_set_ne (fun h=>ei h.symm)] at hk
      by_cases ej:j=n
      ·subst ej
       rw [List.getElem_set_self] at hk'
       have:=new b hk'
       have:=old i hi3 b hk
       omega
      ·rw [List.getElem_set_ne (fun h=>ej h.symm)] at hk'
       exact Hsp.out i j (by omega) (by omega) hi3 hj3 hij b hk hk'
    ·intro i hi hi2
     have hi3:i < vv.length:=by simpa using hi2
     by_cases ei:i=n
     ·subst ei
      rw [List.getElem_set_self]
      exact hto.far.far
     ·rw [List.getElem_set_ne (fun h=>ei h.symm)]
      exact ((How.out i (by omega) hi3).below (Hoff.out _ (List.getElem_mem hi3)).at_ hbr2).far.far
    ·exact ((hb.trans (hbr2.mono hb.size)).setCell (by show w.heap.size≤g;omega) _).setCell (by show w.heap.size≤g;omega) _
    ·intro _
     have:=hbr2.size
     simp [World.setCell]
     omega
   ·obtain rfl:n=N:=by omega
    go_wp2_with fail
    go_ret
    refine ⟨some ⟨g,0,none⟩,g,cap,vv,by rw [Hlen.out];rfl,Hky.out,⟨fun _=>rfl,fun _=>hge,fun _=>hR,Hoff.out,fun s hs=>?_,⟨fun i j hi hj hij=>Hsp.out i j (by rw [← Hlen.out];exact hi) (by rw [← Hlen.out];exact hj) hi hj hij,fun s hs=>?_⟩,fun s hs=>?_⟩,by rw [Hlen.out];omega,by rw [Hlen.out];omega,hb⟩
    all_goals obtain ⟨i,hi,rfl⟩:=List.getElem_of_mem hs
    ·exact Hfr.out i (by rw [← Hlen.out];exact hi) hi
    ·exact (How.out i (by rw [← Hlen.out];exact hi) hi).ne
    ·exact How.out i (by rw [← Hlen.out];exact hi) hi
end
end Go.Proofs.YtnddmlgnngdaoaaGreatDoor
