/- The law FnExactSeenLess, walked: it answers true, and leaves all as it was. Of lists of at most 9223372036854775807 numbers: more than a machine holds. And what goes with it: LawLess, LawSeenOk, SxVal, SoMath. -/
import Derived.Deep.OwnRows
import Derived.Test.YtegommoflmmahaaGreatRows
import Derived.Test.YtegommoflmmahaaGreatQuar
namespace Go.Proofs.YtegommoflmmahaaGreat
section
open Go.RowKit
theorem eqSeen_new {w:World} {B B' g1 g2 g3 g4:Nat} {l1 l2:List Int} (h:NewSn w B g1 g2 l1 l2) (h':NewSn w B' g3 g4 l1 l2) (h1:l1.length≤1048576) (h2:l2.length≤1048576) :
  Calls Tryz.prog 31 #[.agg #[.slice (some ⟨g1,0,none⟩) l1.length l1.length,.slice (some ⟨g2,0,none⟩) l2.length l2.length],.agg #[.slice (some ⟨g3,0,none⟩) l1.length l1.length,.slice (some ⟨g4,0,none⟩) l2.length l2.length]] w fun e w'=>e=.returned (.bool true)∧Grown w w' :=
 eqSeen_same (newSn g1 g2 l1 l2) (newSn g3 g4 l1 l2) w ⟨h1,h2⟩ rfl rfl h.at h'.at
end
section
open Go.RowKit
structure StP (w W:World) (a:Option Addr) (b o c:Nat) (ll:List (List M.D)) (t:Sn):Prop where
 bel:Below w.heap.size w W
 lt:w.heap.size+1 < W.heap.size
 p0:W.cell? ⟨w.heap.size,0,none⟩=some (.slice a ll.length c)
 q0:W.cell? ⟨w.heap.size+1,0,none⟩=some (.slice t.a1 t.l1.length t.c1)
 q1:W.cell? ⟨w.heap.size+1,1,none⟩=some (.slice t.a2 t.l2.length t.c2)
 sa:DoSS W a b o ll
 ta:t.At W
theorem StP.below {w W W':World} {a:Option Addr} {b o c:Nat} {ll:List (List M.D)} {t:Sn} (h:StP w W a b o c ll t) (hb:Below W.heap.size W W'):StP w W' a b o c ll t:=by
 have hl:=h.lt
 exact ⟨h.bel.trans (hb.mono h.bel.size),Nat.lt_of_lt_of_le hl hb.size,(hb.cell (p:=⟨w.heap.size,0,none⟩) (by show w.heap.size < _;omega)).trans h.p0,
  (hb.cell (p:=⟨w.heap.size+1,0,none⟩) hl).trans h.q0,(hb.cell (p:=⟨w.heap.size+1,1,none⟩) hl).trans h.q1,h.sa.below hb (Nat.le_refl _),h.ta.below hb (Nat.le_refl _)⟩
end
section
open Go.RowKit
theorem M.orig_lt {ds:List M.De} {l:List Int} (hin:M.In ds l):∀ (m n q:Nat),n < ds.length→M.orig ds l m n=some q→q < ds.length:=by
 intro m
 induction m with
 | zero=>intro n q _ h;simp [M.orig] at h
 | succ m ih =>
  intro n q hn h
  rw [M.orig] at h
  split at h
  ·obtain rfl:=Option.some.inj h;exact hn
  ·have:=hin n hn
   exact ih _ q (by omega) h
set_option maxHeartbeats 400000 in
theorem value_any (va:Option Addr) (g c:Nat) (ds:List M.De) (a:Option Addr) (b o c2:Nat) (l:List Int) (n q:Nat) (w:World) (hn:n < ds.length) (HLL:Hid (l.length=ds.length)) (hin:M.In ds l) (ho:M.orig ds l ds.length n=some q) (hq:q < ds.length) (hl:ds.length≤1048576) (h:DeS w va g ds) (h2:IntS w a b o l) :
  Calls Tryz.prog 104 #[.slice va ds.length c,.slice a l.length c2,.int .i64 n] w fun e w'=>e=.returned (.int .i64 ds[q].d.v)∧Below w.heap.size w w':=by
 have C:=origin_any va g c ds a b o c2 l n w hn HLL.out hin hl h h2
 rw [ho] at C
 change Calls _ _ _ _ fun e w'=>e=.returned (.tuple #[.int .i64 q,.bool true])∧_ at C
 obtain ⟨rfl⟩:=h.addr (by omega)
 have i1:(q:Int) < ds.length:=by omega
 go_enter Tryz.func104,Tryz.ntmps104
 go_wp2_with (go_at_call 148;refine C.mono ?_;rintro e w1 ⟨rfl,hb1⟩;obtain ⟨_,_,_,_,_,c5,_⟩:=DeS.at (h.bel hb1 (Nat.le_refl _)) hq)
 go_ret
 exact ⟨rfl,hb1⟩
theorem M.val_of_orig {ds:List M.De} {l:List Int} (hin:M.In ds l) (hll:l.length=ds.length) (hz:∀ x∈ds,x.reads=true∨x.d.k=3→x.d.v=0):∀ (m n q:Nat),n < ds.length→(hq:q < ds.length)→M.orig ds l m n=some q→M.val ds l m n=ds[q].d.v:=by
 intro m
 induction m with
 | zero=>intro n q _ _ h;simp [M.orig] at h
 | succ m ih =>
  intro n q hn hq h
  have hi:=hin n hn
  have hvf:M.valFrom ds l n=if ds[n].reads then l[n] else if ds[n].d.k==3 then ds[n].lr else -1:=by
   simp [M.valFrom,hn,show n < l.length by omega]
  rw [M.val_at ds l m n hn (by omega)]
  rw [M.orig] at h
  have step:∀ f:Int,M.valFrom ds l n=f→(ds[n].reads=true∨ds[n].d.k=3)→M.val ds l m f=ds[q].d.v:=by
   intro f hf hk
   rw [hf] at h hi
   by_cases h0:f < 0
   ·rw [if_pos h0] at h
    obtain rfl:=Option.some.inj h
    rw [M.val_neg _ _ _ h0,hz _ (List.getElem_mem hn) hk]
   ·rw [if_neg h0] at h
    obtain ⟨k,rfl⟩:∃ k:Nat,f=k:=⟨f.toNat,by omega⟩
    rw [Int.toNat_natCast] at h
    exact ih k q (by omega) hq h
  by_cases hr:ds[n].reads=true
  ·rw [if_pos hr]
   rw [if_pos hr] at hvf
   exact step _ hvf (Or.inl hr)
  ·rw [if_neg hr]
   rw [if_neg hr] at hvf
   by_cases h3:(ds[n].d.k==3)=true
   ·rw [if_pos h3]
    rw [if_pos h3] at hvf
    exact step _ hvf (Or.inr (by simpa using h3))
   ·rw [if_neg h3]
    rw [if_neg h3] at hvf
    rw [hvf,if_pos (by omega)] at h
    obtain rfl:=Option.some.inj h
    rfl
end
section
abbrev Ky:=List Int × List Int
namespace M
def cmpK (a b:Ky):Int:=cmpS a.1 a.2 b.1 b.2
theorem cmpK_zero {a b:Ky} (h:cmpK a b=0):a=b:=by
 obtain ⟨h1,h2⟩:=cmpS_zero h
 exact Prod.ext h1 h2
def putIn:List Ky→Ky→List Ky
 | [],k=>[k]
 | x::l,k=>if cmpK x k=0 then x::l else if 0 < cmpK x k then k::x::l else x::putIn l k
theorem mem_putIn (l:List Ky) (k x:Ky):x∈putIn l k↔x=k∨x∈l:=by
 induction l with
 | nil=>simp [putIn]
 | cons y l ih =>
  rw [putIn]
  by_cases h0:cmpK y k=0
  ·rw [if_pos h0]
   have:=cmpK_zero h0
   subst this
   simp
  ·rw [if_neg h0]
   by_cases h1:0 < cmpK y k
   ·rw [if_pos h1];simp
   ·rw [if_neg h1]
    simp only [List.mem_cons,ih]
    constructor
    ·rintro (h | h | h)
     ·exact Or.inr (Or.inl h)
     ·exact Or.inl h
     ·exact Or.inr (Or.inr h)
    ·rintro (h | h | h)
     ·exact Or.inr (Or.inl h)
     ·exact Or.inl h
     ·exact Or.inr (Or.inr h)
def sortK (l:List Ky):List Ky:=l.foldl putIn []
theorem foldl_mem (l:List Ky):∀ (a:List Ky) (x:Ky),x∈l.foldl putIn a↔x∈a∨x∈l:=by
 induction l with
 | nil=>intro a x;simp
 | cons y l ih =>
  intro a x
  rw [List.foldl_cons,ih,mem_putIn]
  simp only [List.mem_cons]
  constructor
  ·rintro ((h | h) | h)
   ·exact Or.inr (Or.inl h)
   ·exact Or.inl h
   ·exact Or.inr (Or.inr h)
  ·rintro (h | h | h)
   ·exact Or.inl (Or.inr h)
   ·exact Or.inl (Or.inl h)
   ·exact Or.inr h
theorem mem_sortK (l:List Ky) (x:Ky):x∈sortK l↔x∈l:=by rw [sortK,foldl_mem];simp
end M
end
end Go.Proofs.YtegommoflmmahaaGreat
