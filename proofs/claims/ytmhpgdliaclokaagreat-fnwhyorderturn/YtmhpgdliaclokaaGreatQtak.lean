/- A program that is being read: its threads in rows of the call's own, no two of them in one. No condition. And what goes with it: RdM, RowMore, MathN, ArrOp, SxVal, SoMath, SoMem, SoCo, SoIn, Reads, SqMath, Front0, OpenBy. -/
import Derived.Deep.Slices
import Derived.Laws.EntriesVeiled
import Derived.OpenShut
import Derived.ProofKit
import Derived.Shelf.SlSortCmp.NoneTotal
import Derived.Test.YtmhpgdliaclokaaGreatRows
import Derived.Test.YtmhpgdliaclokaaGreatQtah
import Derived.Test.YtmhpgdliaclokaaGreatQtaj
namespace Go.Proofs.YtmhpgdliaclokaaGreat
section
open Go.RowKit
structure Rdg (w:World) (B:Nat) (v:Value) (ll:List (List M.D)) (vs:List Value):Prop where
 b:Build w B v ll vs
 ap:∀ i j (hi:i < vs.length) (hj:j < vs.length),i≠j→∀ k,vs[i].ownBlock=some k→vs[j].ownBlock≠some k
theorem Rdg.below {w w':World} {B:Nat} {v:Value} {ll:List (List M.D)} {vs:List Value} (h:Rdg w B v ll vs) (hb:Below w.heap.size w w'):Rdg w' B v ll vs :=
 ⟨⟨ownsRow_below h.b.outer hb,h.b.len,fun i h1 h2=>ownsRow_below (h.b.inner i h1 h2) hb⟩,h.ap⟩
theorem Rdg.far {w:World} {B:Nat} {v:Value} {ll:List (List M.D)} {vs:List Value} (h:Rdg w B v ll vs) {b i:Nat} (hb:b < B) (u:Value):Rdg (w.setCell ⟨b,i,none⟩ u) B v ll vs:=⟨h.b.far hb u,h.ap⟩
theorem Rdg.nil (w:World) (B:Nat):Rdg w B (.slice none 0 0) [] []:=⟨Build.nil w B,fun _ _ h=>absurd h (Nat.not_lt_zero _)⟩
theorem Rdg.mono {w:World} {B B':Nat} {v:Value} {ll:List (List M.D)} {vs:List Value} (h:Rdg w B v ll vs) (hB:B'≤B):Rdg w B' v ll vs:=⟨h.b.mono hB,h.ap⟩
theorem Rdg.snocT {w w':World} {B:Nat} {v v' x:Value} {ll:List (List M.D)} {vs:List Value} {l:List M.D} (h:Rdg w B v ll vs) (hx:w.ownsRow B 94 3 x l.length (flat l)) (hap:∀ i (hi:i < vs.length) k,vs[i].ownBlock=some k→x.ownBlock≠some k)
  (ho:w'.ownsRow B 97 1 v' (ll.length+1) (vs++[x])) (hg:w.grownBy w' v.ownBlock):Rdg w' B v' (ll++[l]) (vs++[x]):=by
 refine ⟨h.b.snoc hx ho hg,fun i j hi hj hne k hk=>?_⟩
 by_cases h1:i < vs.length
 ·rw [List.getElem_append_left h1] at hk
  by_cases h2:j < vs.length
  ·rw [List.getElem_append_left h2]
   exact h.ap i j h1 h2 hne k hk
  ·rw [List.getElem_append_right (by omega)]
   have:j - vs.length=0:=by simp at hj;omega
   simp only [this,List.getElem_cons_zero]
   exact hap i h1 k hk
 ·rw [List.getElem_append_right (by omega)] at hk
  have:i - vs.length=0:=by simp at hi;omega
  simp only [this,List.getElem_cons_zero] at hk
  have h2:j < vs.length:=by simp at hi hj;omega
  rw [List.getElem_append_left h2]
  exact fun e=>hap j h2 k e hk
end
section
open Go.RowKit
theorem Slot1.apart {w w':World} {b:Nat} {x:Value} {row:Option Nat} (h:Slot1 w b x) (hg:w.grownBy w' row) (hr:row≠some b):Slot1 w' b x:=by
 have hne:some b≠row:=fun e=>hr e.symm
 exact ⟨hg.cell h.c hne,(World.frozen?_of_block (w:=w) (hg.block b h.lt hne)).trans h.fz⟩
end
section
open Go.RowKit
def M.tot (f:Int→Bool):List (List M.D)→Nat
 | []=>0
 | t::l=>M.cnt f t+M.tot f l
def M.nreads (ll:List (List M.D)):Int:=if M.prog ll then (M.tot M.reads ll:Int) else -1
theorem M.from_le {ll:List (List M.D)}:∀ {a u:Nat},M.progFrom a u ll=true→∀ t∈ll,t.length≤7:=by
 induction ll with
 | nil=>intro a u _ t ht;simp at ht
 | cons t l ih =>
  intro a u h t' ht'
  by_cases hb:M.thread t=true
  ·simp only [M.progFrom,hb,if_true] at h
   rcases List.mem_cons.1 ht' with rfl | hm
   ·exact M.thread_le hb
   ·exact ih h t' hm
  ·simp [M.progFrom,hb] at h
theorem M.prog_le {ll:List (List M.D)} (h:M.prog ll=true):ll.length≤3∧∀ t∈ll,t.length≤7:=by
 simp only [M.prog,Bool.and_eq_true,decide_eq_true_eq] at h
 exact ⟨h.1,M.from_le h.2⟩
theorem M.tot_step {f:Int→Bool} {l:List (List M.D)} {m n:Nat} {t:List M.D} (hp:M.tot f l=m+M.tot f (l.drop n)) (hd:l.drop n=t::l.drop (n+1)):M.tot f l=(m+M.cnt f t)+M.tot f (l.drop (n+1)):=by
 rw [hp,hd,M.tot];omega
theorem M.tot_fin {f:Int→Bool} {l:List (List M.D)} {m n:Nat} (hp:M.tot f l=m+M.tot f (l.drop n)) (hn:l.length≤n):m=M.tot f l:=by
 rw [hp,List.drop_eq_nil_of_le hn];rfl
theorem M.nreads_ok {ll:List (List M.D)} (h:M.prog ll=true):M.nreads ll=M.tot M.reads ll:=by simp [M.nreads,h]
theorem M.nreads_no {ll:List (List M.D)} (h:M.prog ll=false):M.nreads ll=-1:=by simp [M.nreads,h]
end
section
open Go.RowKit
theorem wpList_index_one {P:Program} {w:World} {ops:Array Oper} {rest:List Oper} {op:Oper} {a:Act} {Q:Exit→Act→World→Prop} (hgd:op.guard=none) (ty:TypeId) (x y:Operand) (ho:op.op=.index ty x y)
  (c:Array Value) (i n:Nat) (e:TypeId) (d:TypeDesc) (v:Value) (hx:a.eval x=.agg c) (hy:a.eval y=.int .i64 i) (hu:P.underlying ty=some (.array n e)) (hin:i < n) (hue:P.underlying e=some d) (hd:d.isRow=false) (hi:(P.info? e).map (·.size)=some 1) (hv:c[i]?=some v)
  (h:wpList P ops Q rest (a.put op.dst v) w):wpList P ops Q (op::rest) a w:=by
 refine wpList_plain hgd fun _ hK=>?_
 have hagg:(isAgg e).run P w=.ok false w:=by
  unfold isAgg
  rw [Sem.run_bind,run_underlying hue w]
  cases d<;>simp_all
 cases hq:P.info? e with
 | none=>simp [hq] at hi
 | some j =>
  have hs:j.size=1:=by simpa [hq] using hi
  unfold Oper.wp execOp
  simp [ho,hx,hy,Instr.index,asIntOf,run_underlying hu,part,hagg,sizeOf,typeInfo,hq,hs,hin,hv]
  exact hK _ _ h
end
section
open Go.RowKit
theorem M.orig_lt {ds:List M.De} {l:List Int} (hin:M.In ds l):∀ (m n q:Nat),n < ds.length→M.orig ds l m n=some q→q < ds.length:=by
 intro m
 induction m with
 | zero=>intro n q _ h;simp [M.orig] at h
 | succ m ih =>
  intro n q hn h
  rw [M.orig] at h
  split at h
  ·obtain rfl:=Option.some.inj h;exact hn
  ·have:=hin n hn
   exact ih _ q (by omega) h
set_option maxHeartbeats 400000 in
theorem value_any (va:Option Addr) (g c:Nat) (ds:List M.De) (a:Option Addr) (b o c2:Nat) (l:List Int) (n q:Nat) (w:World) (hn:n < ds.length) (HLL:Hid (l.length=ds.length)) (hin:M.In ds l) (ho:M.orig ds l ds.length n=some q) (hq:q < ds.length) (hl:ds.length≤1048576) (h:DeS w va g ds) (h2:IntS w a b o l) :
  Calls Tryz.prog 124 #[.slice va ds.length c,.slice a l.length c2,.int .i64 n] w fun e w'=>e=.returned (.int .i64 ds[q].d.v)∧Below w.heap.size w w':=by
 have C:=origin_any va g c ds a b o c2 l n w hn HLL.out hin hl h h2
 rw [ho] at C
 change Calls _ _ _ _ fun e w'=>e=.returned (.tuple #[.int .i64 q,.bool true])∧_ at C
 obtain ⟨rfl⟩:=h.addr (by omega)
 have i1:(q:Int) < ds.length:=by omega
 go_enter Tryz.func124,Tryz.ntmps124
 go_wp2_with (go_at_call 173;refine C.mono ?_;rintro e w1 ⟨rfl,hb1⟩;obtain ⟨_,_,_,_,_,c5,_⟩:=DeS.at (h.bel hb1 (Nat.le_refl _)) hq)
 go_ret
 exact ⟨rfl,hb1⟩
theorem M.val_of_orig {ds:List M.De} {l:List Int} (hin:M.In ds l) (hll:l.length=ds.length) (hz:∀ x∈ds,x.reads=true∨x.d.k=3→x.d.v=0):∀ (m n q:Nat),n < ds.length→(hq:q < ds.length)→M.orig ds l m n=some q→M.val ds l m n=ds[q].d.v:=by
 intro m
 induction m with
 | zero=>intro n q _ _ h;simp [M.orig] at h
 | succ m ih =>
  intro n q hn hq h
  have hi:=hin n hn
  have hvf:M.valFrom ds l n=if ds[n].reads then l[n] else if ds[n].d.k==3 then ds[n].lr else -1:=by
   simp [M.valFrom,hn,show n < l.length by omega]
  rw [M.val_at ds l m n hn (by omega)]
  rw [M.orig] at h
  have step:∀ f:Int,M.valFrom ds l n=f→(ds[n].reads=true∨ds[n].d.k=3)→M.val ds l m f=ds[q].d.v:=by
   intro f hf hk
   rw [hf] at h hi
   by_cases h0:f < 0
   ·rw [if_pos h0] at h
    obtain rfl:=Option.some.inj h
    rw [M.val_neg _ _ _ h0,hz _ (List.getElem_mem hn) hk]
   ·rw [if_neg h0] at h
    obtain ⟨k,rfl⟩:∃ k:Nat,f=k:=⟨f.toNat,by omega⟩
    rw [Int.toNat_natCast] at h
    exact ih k q (by omega) hq h
  by_cases hr:ds[n].reads=true
  ·rw [if_pos hr]
   rw [if_pos hr] at hvf
   exact step _ hvf (Or.inl hr)
  ·rw [if_neg hr]
   rw [if_neg hr] at hvf
   by_cases h3:(ds[n].d.k==3)=true
   ·rw [if_pos h3]
    rw [if_pos h3] at hvf
    exact step _ hvf (Or.inr (by simpa using h3))
   ·rw [if_neg h3]
    rw [if_neg h3] at hvf
    rw [hvf,if_pos (by omega)] at h
    obtain rfl:=Option.some.inj h
    rfl
end
section
abbrev Ky:=List Int × List Int
namespace M
def cmpK (a b:Ky):Int:=cmpS a.1 a.2 b.1 b.2
theorem cmpK_zero {a b:Ky} (h:cmpK a b=0):a=b:=by
 obtain ⟨h1,h2⟩:=cmpS_zero h
 exact Prod.ext h1 h2
theorem cmpK_neg (a b:Ky):cmpK b a=- cmpK a b:=cmpS_neg _ _ _ _
theorem cmpK_trans {a b c:Ky} (h:cmpK a b < 0) (k:cmpK b c < 0):cmpK a c < 0:=cmpS_trans h k
def Asc (l:List Ky):Prop:=l.Pairwise fun a b=>cmpK a b < 0
def putIn:List Ky→Ky→List Ky
 | [],k=>[k]
 | x::l,k=>if cmpK x k=0 then x::l else if 0 < cmpK x k then k::x::l else x::putIn l k
theorem mem_putIn (l:List Ky) (k x:Ky):x∈putIn l k↔x=k∨x∈l:=by
 induction l with
 | nil=>simp [putIn]
 | cons y l ih =>
  rw [putIn]
  by_cases h0:cmpK y k=0
  ·rw [if_pos h0]
   have:=cmpK_zero h0
   subst this
   simp
  ·rw [if_neg h0]
   by_cases h1:0 < cmpK y k
   ·rw [if_pos h1];simp
   ·rw [if_neg h1]
    simp only [List.mem_cons,ih]
    constructor
    ·rintro (h | h | h)
     ·exact Or.inr (Or.inl h)
     ·exact Or.inl h
     ·exact Or.inr (Or.inr h)
    ·rintro (h | h | h)
     ·exact Or.inr (Or.inl h)
     ·exact Or.inl h
     ·exact Or.inr (Or.inr h)
theorem asc_putIn {l:List Ky} (h:Asc l) (k:Ky):Asc (putIn l k):=by
 induction l with
 | nil=>simp [putIn,Asc]
 | cons y l ih =>
  have h':=List.pairwise_cons.1 h
  rw [putIn]
  by_cases h0:cmpK y k=0
  ·rw [if_pos h0];exact h
  ·rw [if_neg h0]
   by_cases h1:0 < cmpK y k
   ·rw [if_pos h1]
    refine List.pairwise_cons.2 ⟨fun z hz=>?_,h⟩
    have hky:cmpK k y < 0:=by have:=cmpK_neg y k;omega
    rcases List.mem_cons.1 hz with e | hz
    ·rw [e];exact hky
    ·exact cmpK_trans hky (h'.1 z hz)
   ·rw [if_neg h1]
    refine List.pairwise_cons.2 ⟨fun z hz=>?_,ih h'.2⟩
    rcases (mem_putIn l k z).1 hz with e | hz
    ·rw [e];omega
    ·exact h'.1 z hz
def sortK (l:List Ky):List Ky:=l.foldl putIn []
theorem foldl_mem (l:List Ky):∀ (a:List Ky) (x:Ky),x∈l.foldl putIn a↔x∈a∨x∈l:=by
 induction l with
 | nil=>intro a x;simp
 | cons y l ih =>
  intro a x
  rw [List.foldl_cons,ih,mem_putIn]
  simp only [List.mem_cons]
  constructor
  ·rintro ((h | h) | h)
   ·exact Or.inr (Or.inl h)
   ·exact Or.inl h
   ·exact Or.inr (Or.inr h)
  ·rintro (h | h | h)
   ·exact Or.inl (Or.inr h)
   ·exact Or.inl (Or.inl h)
   ·exact Or.inr h
theorem foldl_asc (l:List Ky):∀ (a:List Ky),Asc a→Asc (l.foldl putIn a):=by
 induction l with
 | nil=>intro a h;exact h
 | cons y l ih=>intro a h;exact ih _ (asc_putIn h y)
theorem mem_sortK (l:List Ky) (x:Ky):x∈sortK l↔x∈l:=by rw [sortK,foldl_mem];simp
end M
end
section
open Go.RowKit
def Sn.ky (s:Sn):Ky:=(s.l1,s.l2)
structure SR (W:World) (g:Nat) (ss:List Sn):Prop where
 c:∀ i (h:i < ss.length),W.cell? ⟨g,i * 2,none⟩=some (.slice ss[i].a1 ss[i].l1.length ss[i].c1)∧W.cell? ⟨g,i * 2+1,none⟩=some (.slice ss[i].a2 ss[i].l2.length ss[i].c2)
 fz:∀ j,W.frozen? ⟨g,j,none⟩=false
theorem SR.below {W W':World} {g:Nat} {ss:List Sn} (h:SR W g ss) (hb:Below W.heap.size W W') (hl:g < W.heap.size):SR W' g ss :=
 ⟨fun i hi=>⟨(hb.cell (p:=⟨g,i * 2,none⟩) hl).trans (h.c i hi).1,(hb.cell (p:=⟨g,i * 2+1,none⟩) hl).trans (h.c i hi).2⟩,fun j=>(hb.frozen (p:=⟨g,j,none⟩) hl).trans (h.fz j)⟩
end
section
open Go.RowKit
theorem calls_bel {P:Program} {f:FuncId} {args:Array Value} {W:World} {v:Value} (h:Calls P f args W fun e w'=>e=.returned v∧Grown W w'):Calls P f args W fun e w'=>e=.returned v∧Below W.heap.size W w':=h.mono fun _ _ ⟨he,hg⟩=>⟨he,hg.bel⟩
def kys (ss:List Sn):List Ky:=ss.map Sn.ky
theorem Tryz.infoSeen:(Tryz.prog.info? 45).map (fun i=>(i.zero,i.size,i.bytes))=some (some (.agg #[.slice none 0 0,.slice none 0 0]),2,48):=by kernel_rfl
theorem kys_len (ss:List Sn):(kys ss).length=ss.length:=by simp [kys]
theorem kys_get (ss:List Sn) {n:Nat} (h:n < ss.length) (h':n < (kys ss).length):(kys ss)[n]=ss[n].ky:=by simp [kys]
namespace M
end M
end
section
open Go.RowKit
def flatS:List Sn→List Value
 | []=>[]
 | s::l=>.slice s.a1 s.l1.length s.c1::.slice s.a2 s.l2.length s.c2::flatS l
theorem flatS_append (l m:List Sn):flatS (l++m)=flatS l++flatS m:=by
 induction l with
 | nil=>rfl
 | cons s l ih=>simp [flatS,ih]
theorem flatS_get (l:List Sn):∀ i (h:i < l.length),(flatS l)[i * 2]?=some (.slice l[i].a1 l[i].l1.length l[i].c1)∧(flatS l)[i * 2+1]?=some (.slice l[i].a2 l[i].l2.length l[i].c2):=by
 induction l with
 | nil=>intro i h;exact absurd h (Nat.not_lt_zero _)
 | cons s l ih =>
  intro i h
  cases i with
  | zero=>exact ⟨rfl,rfl⟩
  | succ i =>
   obtain ⟨h0,h1⟩:=ih i (by simpa using h)
   have e:(i+1) * 2=i * 2+2:=by omega
   rw [e]
   exact ⟨by simpa [flatS] using h0,by simpa [flatS] using h1⟩
end
section
open Go.RowKit
set_option maxHeartbeats 400000 in
theorem cntReads_any (a:Option Addr) (b o c:Nat) (l:List M.D) (w:World) (hl:l.length≤1048576) (h:DoS w a b o l) :
  Calls Tryz.prog 103 #[.slice a l.length c,.func (.func 86) #[] #[]] w fun e w'=>e=.returned (.int .i64 (M.cnt M.reads l))∧Below w.heap.size w w':=by
 go_enter Tryz.func103,Tryz.ntmps103
 go_wp2_with fail
 go_loopw [5,10] (fun s5 s10 wr=>∃ m n:Nat,s5=.int .i64 m∧s10=.int .i64 n∧n≤l.length∧m≤n∧M.cnt M.reads l=m+M.cnt M.reads (l.drop n)∧Below w.heap.size w wr) (fun _ s10 _=>l.length - (intOf s10).toNat)
 case atStart=>exact ⟨0,0,rfl,rfl,Nat.zero_le _,Nat.le_refl _,by simp,Below.refl _ _⟩
 case round =>
  obtain ⟨m,n,rfl,rfl,hn,hmn,hpass,hbel⟩:=hrel
  have HP:Hid (M.cnt M.reads l=m+M.cnt M.reads (l.drop n)):=hpass
  clear hpass
  by_cases hlt:n < l.length
  ·obtain ⟨rfl⟩:=h.addr (by omega)
   have hd:=(h.row n hlt).below hbel (Nat.le_refl _)
   have HD:Hid (l.drop n=l[n]::l.drop (n+1)):=M.drop_at l n hlt
   generalize l[n]=d at hd HD
   obtain ⟨k,p,v⟩:=d
   obtain ⟨ck,cp,cv⟩:=hd
   cases hu:M.reads k
   ·go_wp2_with (go_at_call 86;refine (reads_any _ _).mono ?_;rintro e w1 ⟨rfl,rfl⟩)
    exact ⟨⟨m,n+1,rfl,by go_num,by omega,by omega,M.cnt_step HP.out HD.out (by simp [hu]),hbel.alloc hbel.size _⟩,by simp [intOf];omega⟩
   ·go_wp2_with (go_at_call 86;refine (reads_any _ _).mono ?_;rintro e w1 ⟨rfl,rfl⟩)
    exact ⟨⟨m+1,n+1,by go_num,by go_num,by omega,by omega,M.cnt_step HP.out HD.out (by simp [hu]),hbel.alloc hbel.size _⟩,by simp [intOf];omega⟩
  ·go_wp2_with fail
   go_ret
   exact ⟨ret_int (by rw [M.cnt_fin HP.out (by omega)]),hbel⟩
set_option maxHeartbeats 400000 in
theorem ireads_any (a:Option Addr) (b o c:Nat) (ll:List (List M.D)) (w:World) (hl:ll.length≤1048576) (hls:∀ t∈ll,t.length≤1048576) (h:DoSS w a b o ll) :
  Calls Tryz.prog 115 #[.agg #[.slice a ll.length c]] w fun e w'=>e=.returned (.int .i64 (M.nreads ll))∧Below w.heap.size w w':=by
 cases hp:M.prog ll
 ·go_enter Tryz.func115,Tryz.ntmps115
  go_wp2_with (go_at_call 47;refine (iprog_any a b o c ll _ hl hls (h.below (below1 w _) (Nat.le_refl _))).mono ?_;rintro e w1 ⟨rfl,hb1⟩)
  go_ret
  exact ⟨ret_int (M.nreads_no hp).symm,(below1 w _).trans (hb1.mono (by simp))⟩
 ·obtain ⟨h3,h7⟩:=M.prog_le hp
  go_enter Tryz.func115,Tryz.ntmps115
  go_wp2_with (go_at_call 47;refine (iprog_any a b o c ll _ hl hls (h.below (below1 w _) (Nat.le_refl _))).mono ?_;rintro e w1 ⟨rfl,hb1⟩;obtain ⟨hc1,hf1⟩:=bcell hb1)
  have hs1:=(h.below (below1 w _) (Nat.le_refl _)).below hb1 (Nat.le_refl _)
  have hbw:Below w.heap.size w w1:=(below1 w _).trans (hb1.mono (by simp))
  clear hb1 hc1 hf1 h
  go_loopw [3,12] (fun s3 s12 wr=>∃ m n:Nat,s3=.int .i64 m∧s12=.int .i64 n∧n≤ll.length∧m≤7 * n∧M.tot M.reads ll=m+M.tot M.reads (ll.drop n)∧Below w1.heap.size w1 wr) (fun _ s12 _=>ll.length - (intOf s12).toNat)
  case atStart=>exact ⟨0,0,rfl,rfl,Nat.zero_le _,Nat.le_refl _,by simp,Below.refl _ _⟩
  case round =>
   obtain ⟨m,n,rfl,rfl,hn,hmn,hpass,hbel⟩:=hrel
   have HP:Hid (M.tot M.reads ll=m+M.tot M.reads (ll.drop n)):=hpass
   clear hpass
   by_cases hlt:n < ll.length
   ·obtain ⟨rfl⟩:=hs1.addr (by omega)
    obtain ⟨a',b',o',c',hc,hd⟩:=(hs1.below hbel (Nat.le_refl _)).row n hlt
    have HD:Hid (ll.drop n=ll[n]::ll.drop (n+1)):=M.drop_at' ll n hlt
    have hlt':=hls _ (List.getElem_mem hlt)
    have hlt7:=h7 _ (List.getElem_mem hlt)
    generalize ll[n]=t at hd hc HD hlt' hlt7
    have hcn:=M.cnt_le M.reads t
    go_wp2_with (go_at_call 103;refine (cntReads_any a' b' o' c' t _ hlt' hd).mono ?_;rintro e w2 ⟨rfl,hb2⟩)
    exact ⟨⟨m+M.cnt M.reads t,n+1,by go_num,by go_num,by omega,by omega,M.tot_step HP.out HD.out,hbel.trans (hb2.mono hbel.size)⟩,by simp [intOf];omega⟩
   ·go_wp2_with fail
    go_ret
    exact ⟨ret_int (by rw [M.nreads_ok hp,M.tot_fin HP.out (by omega)]),hbw.trans (hbel.mono hbw.size)⟩
set_option maxHeartbeats 1000000 in
theorem sreads_any (a:Option Addr) (b o c:Nat) (ll:List (List M.D)) (w:World) (hl:ll.length≤1048576) (hls:∀ t∈ll,t.length≤1048576) (h:DoSS w a b o ll) :
  Calls Tryz.prog 163 #[.agg #[.slice a ll.length c]] w fun e w'=>e=.returned (.int .i64 (M.nreads ll))∧Below w.heap.size w w':=by
 cases hp:M.prog ll
 ·go_enter Tryz.func163,Tryz.ntmps163
  go_wp2_with (go_at_call 109;refine (sprog_any a b o c ll _ hl hls (h.below (below1 w _) (Nat.le_refl _))).mono ?_;rintro e w1 ⟨rfl,hb1⟩)
  go_ret
  exact ⟨ret_int (M.nreads_no hp).symm,(below1 w _).trans (hb1.mono (by simp))⟩
 ·obtain ⟨h3,h7⟩:=M.prog_le hp
  go_enter Tryz.func163,Tryz.ntmps163
  go_wp2_with (go_at_call 109;refine (sprog_any a b o c ll _ hl hls (h.below (below1 w _) (Nat.le_refl _))).mono ?_;rintro e w1 ⟨rfl,hb1⟩;obtain ⟨hc1,hf1⟩:=bcell hb1)
  have hs1:=(h.below (below1 w _) (Nat.le_refl _)).below hb1 (Nat.le_refl _)
  have hbw:Below w.heap.size w w1:=(below1 w _).trans (hb1.mono (by simp))
  have hbox1:w1.cell? ⟨w.heap.size,0,none⟩=some (.slice a ll.length c):=by rw [hc1 _ _ (by simp)];simp
  have hlt1:w.heap.size < w1.heap.size:=World.block_lt_of_cell? _ _ hbox1
  clear hb1 hc1 hf1 h
  go_loopw [3,4] (fun s3 s4 wr=>∃ m n:Nat,s3=.int .i64 m∧s4=.int .i64 n∧n≤ll.length∧m≤7 * n∧M.tot M.reads ll=m+M.tot M.reads (ll.drop n)∧Below w1.heap.size w1 wr) (fun _ s4 _=>ll.length - (intOf s4).toNat)
  case atStart=>exact ⟨0,0,rfl,rfl,Nat.zero_le _,Nat.le_refl _,by simp,Below.refl _ _⟩
  case round =>
   obtain ⟨m,n,rfl,rfl,hn,hmn,hpass,hbel⟩:=hrel
   have HP:Hid (M.tot M.reads ll=m+M.tot M.reads (ll.drop n)):=hpass
   clear hpass
   have hbox:wr.cell? ⟨w.heap.size,0,none⟩=some (.slice a ll.length c):=(hbel.cell (p:=⟨w.heap.size,0,none⟩) hlt1).trans hbox1
   by_cases hlt:n < ll.length
   ·obtain ⟨rfl⟩:=hs1.addr (by omega)
    obtain ⟨a',b',o',c',hc,hd⟩:=(hs1.below hbel (Nat.le_refl _)).row n hlt
    have HD:Hid (ll.drop n=ll[n]::ll.drop (n+1)):=M.drop_at' ll n hlt
    have hlt':=hls _ (List.getElem_mem hlt)
    have hlt7:=h7 _ (List.getElem_mem hlt)
    generalize ll[n]=t at hd hc HD hlt' hlt7
    have hcn:=M.cnt_le M.reads t
    have hbl:b < wr.heap.size:=World.block_lt_of_cell? _ _ hc
    have hltr:w.heap.size < wr.heap.size:=World.block_lt_of_cell? _ _ hbox
    go_wp2_with fail
    go_loopw [3,5] (fun s3 s5 wi=>∃ q k:Nat,s3=.int .i64 (m+q)∧s5=.int .i64 k∧k≤t.length∧q≤k∧M.cnt M.reads t=q+M.cnt M.reads (t.drop k)∧Below wr.heap.size wr wi) (fun _ s5 _=>t.length - (intOf s5).toNat)
    case atStart=>exact ⟨0,0,by simp,rfl,Nat.zero_le _,Nat.le_refl _,by simp,Below.refl _ _⟩
    case round =>
     obtain ⟨q,k,rfl,rfl,hk,hqk,hpass,hbi⟩:=hrel
     have HP2:Hid (M.cnt M.reads t=q+M.cnt M.reads (t.drop k)):=hpass
     clear hpass
     have hboxi:=(hbi.cell (p:=⟨w.heap.size,0,none⟩) hltr).trans hbox
     have hci:=(hbi.cell (p:=⟨b,o+n,none⟩) hbl).trans hc
     clear hbox hc
     by_cases hkt:k < t.length
     ·obtain ⟨rfl⟩:=hd.addr (by omega)
      have hdk:=(hd.row k hkt).below hbi (Nat.le_refl _)
      have HK:Hid (t.drop k=t[k]::t.drop (k+1)):=M.drop_at t k hkt
      generalize t[k]=d at hdk HK
      obtain ⟨kk,p,v⟩:=d
      obtain ⟨ck,cp,cv⟩:=hdk
      cases hr:M.reads kk
      ·go_wp2_with (go_at_call 76;refine (l1Reads_any ⟨_,_,_⟩ _).mono ?_;rintro e w2 ⟨rfl,rfl⟩)
       exact ⟨⟨q,k+1,rfl,by go_num,by omega,by omega,M.cnt_step HP2.out HK.out (by simp [hr]),hbi.alloc hbi.size _⟩,by simp [intOf];omega⟩
      ·go_wp2_with (go_at_call 76;refine (l1Reads_any ⟨_,_,_⟩ _).mono ?_;rintro e w2 ⟨rfl,rfl⟩)
       exact ⟨⟨q+1,k+1,by go_num,by go_num,by omega,by omega,M.cnt_step HP2.out HK.out (by simp [hr]),hbi.alloc hbi.size _⟩,by simp [intOf];omega⟩
     ·go_wp2_with fail
      have hm:=M.cnt_fin HP2.out (by omega)
      exact ⟨⟨m+q,n+1,by go_num,by go_num,by omega,by omega,by rw [hm];exact M.tot_step HP.out HD.out,hbel.trans (hbi.mono hbel.size)⟩,by simp [intOf];omega⟩
   ·go_wp2_with fail
    go_ret
    exact ⟨ret_int (by rw [M.nreads_ok hp,M.tot_fin HP.out (by omega)]),hbw.trans (hbel.mono hbw.size)⟩
end
section
namespace M
theorem deD_k (t i:Nat) (lr:Int) (n:Nat) (d:D):∀ x∈deD t i lr n d,x.d=d:=by
 intro x hx
 unfold deD at hx
 split at hx
 ·rcases List.mem_cons.1 hx with rfl | hx
  ·rfl
  ·rw [List.mem_singleton.1 hx]
 ·rw [List.mem_singleton.1 hx]
end M
end
section
open Go.ChangeShapes Go.WideShapes Go.ChangeAt Go.RowKit Go.Deep
theorem Tryz.own:ownKnob Tryz.prog.godebug=none:=by kernel_rfl
theorem Tryz.laidOut:laidOutB Tryz.prog=true:=by kernel_rfl
end
section
open Go.ChangeShapes Go.WideShapes Go.ChangeAt Go.RowKit Go.Deep
theorem Tryz.cellsByte:Tryz.prog.cellsOf 5=1:=by kernel_rfl
def Code8 (w:World) (u:Value):Prop:=∃ ca cb co L C,∃ x:Nat→Int,u=.slice ca L C∧L≤C∧(0 < L→ca=some ⟨cb,co,none⟩)∧∀ i,i < L→w.cell? ⟨cb,co+i,none⟩=some (.int .u8 (x i))∧0≤x i∧x i≤255
section
variable {H : Type} {enc : TypeId × Value → H} {w : World} {base : Nat} {spare : Nat → Bool} {held : Bool}
set_option maxRecDepth 100000 in
theorem open_code {fuel:Nat} {u:Value} {x:DataW H × List MemPlace} (h:DataW.trod enc Tryz.prog w base spare held fuel 22 [u]=some x):Code8 w u:=by
 rcases open_ints Tryz.underlying22 Tryz.underlying5 Tryz.cellsByte h with ⟨hcs,_⟩ | ⟨a,len,cap,zs,hcs,_,hl,hm,hmm,_,hel,hwf⟩
 ·simp at hcs
  exact ⟨none,0,0,0,0,fun _=>0,hcs,Nat.le_refl _,fun h=>absurd h (Nat.lt_irrefl _),fun i hi=>absurd hi (Nat.not_lt_zero _)⟩
 ·simp at hcs
  obtain ⟨gb,go,gs⟩:=a
  have hlm:len≤zs.length:=by rw [hmm];split<;>omega
  rcases Nat.eq_zero_or_pos len with h0 | hpos
  ·subst h0
   exact ⟨_,0,0,0,cap,fun _=>0,hcs,Nat.zero_le _,fun h=>absurd h (Nat.lt_irrefl _),fun i hi=>absurd hi (Nat.not_lt_zero _)⟩
  ·have hgs:gs=none:=by simpa [Addr.add] using World.cell?_spot (hel 0 (by omega))
   subst hgs
   refine ⟨_,gb,go,len,cap,fun i=>zs.getD i 0,hcs,hl,fun _=>rfl,fun i hi=>?_⟩
   have h1:=hel i (by omega)
   rw [add_plain] at h1
   have hw:=hwf (zs.getD i 0) (by rw [List.getD_eq_getElem?_getD,List.getElem?_eq_getElem (by omega)];exact List.getElem_mem _)
   exact ⟨h1,bounds_u8 hw⟩
end
end
end Go.Proofs.YtmhpgdliaclokaaGreat
