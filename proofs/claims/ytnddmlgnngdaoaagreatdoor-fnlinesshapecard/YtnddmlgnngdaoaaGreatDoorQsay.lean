/- How many ways there are at most, more sharply; and rows of things of two cells. No condition. impl's ways: what an event reads or writes. Of at most 1048576 events. -/
import Derived.Test.YtnddmlgnngdaoaaGreatDoorRows
import Derived.Test.YtnddmlgnngdaoaaGreatDoorQsaw
import Derived.Test.YtnddmlgnngdaoaaGreatDoorQsax
namespace Go.Proofs.YtnddmlgnngdaoaaGreatDoor
section
open Go.RowKit
namespace M
theorem use_split:∀ (ds:List De),rdN ds+(ds.filter fun x=>M.writes x.d.k).length≤useN ds
 | []=>by simp [rdN,useN]
 | x::ds=>by
  have ih:=use_split ds
  have hx:(if x.reads then 1 else 0)+(if M.writes x.d.k then 1 else 0)≤if uses x.d.k then 1 else 0:=by
   simp only [De.reads,uses,writes,stores,reads]
   by_cases h2:x.d.k=2
   ·simp [h2]
   ·by_cases h5:x.d.k=5
    ·simp [h5]
    ·simp [h2,h5]
  unfold rdN useN at *
  simp only [List.filter_cons]
  split<;>split<;>split<;>simp_all<;>omega
theorem ways_le2 {ll:List (List D)} (h:prog ll=true):(ways (deeds ll)).length≤117649:=by
 have hu:=use6 h
 have hs:=use_split (deeds ll)
 have hw3:=wrs_three 0 (deeds ll)
 have hf:=fromsOf_len (deeds ll) 7 (fun p=>by have:=wr6 hu p;omega) (deeds ll).length [] (by simp)
 simp only [List.length_nil,List.drop_zero] at hf
 have hr:=fun p:Int=>rows6 h p
 have ho:(ordersOf (deeds ll)).length≤6 ^ ((wrs 0 0 (deeds ll)).length+(wrs 1 0 (deeds ll)).length+(wrs 2 0 (deeds ll)).length):=by
  unfold ordersOf
  rw [addPlace_len,addPlace_len,addPlace_len]
  simp only [List.length_singleton,Nat.one_mul]
  rw [Nat.pow_add,Nat.pow_add]
  exact Nat.mul_le_mul (Nat.mul_le_mul (hr 0) (hr 1)) (hr 2)
 have key:∀ (fs:List (List Int)),(fs.flatMap fun f=>if ends (deeds ll) f then (ordersOf (deeds ll)).map fun o=>(f,o) else []).length≤fs.length * (ordersOf (deeds ll)).length:=fun fs=>flatMap_le _ _ fs (fun f _=>by
  split
  ·simp
  ·simp)
 rw [ways_eq (cop_deeds ll)]
 unfold allWays
 refine Nat.le_trans (key _) ?_
 have h67:6 ^ ((wrs 0 0 (deeds ll)).length+(wrs 1 0 (deeds ll)).length+(wrs 2 0 (deeds ll)).length)≤7 ^ ((wrs 0 0 (deeds ll)).length+(wrs 1 0 (deeds ll)).length+(wrs 2 0 (deeds ll)).length):=Nat.pow_le_pow_left (by omega) _
 refine Nat.le_trans (Nat.mul_le_mul hf (Nat.le_trans ho h67)) ?_
 rw [← Nat.pow_add]
 exact Nat.le_trans (Nat.pow_le_pow_right (by omega) (show _≤6 by omega)) (by decide)
end M
theorem IntS.fr' {w W:World} {D:Nat→Prop} {a:Option Addr} {b o:Nat} {l:List Int} (h:IntS w a b o l) (hf:Fr D w W) (hD:0 < l.length→D b):IntS W a b o l :=
 ⟨h.addr,fun i hi=>hf.cell (p:=⟨b,o+i,none⟩) (hD (by omega)) (h.row i hi)⟩
theorem own_twoS {w:World} {base n:Nat} {e:TypeId} {v:Value} {xs:List Value} (h:w.ownsRow base e 2 v n xs):∃ a g c,v=.slice a n c∧(0 < n→a=some ⟨g,0,none⟩)∧∀ j u,xs[j]?=some u→w.cell? ⟨g,j,none⟩=some u:=by
 rcases h.2 with ⟨hv,hn⟩ | ⟨g,cap,cur,hv,hg,hh,hc,r⟩
 ·have hx:xs=[]:=List.length_eq_zero_iff.1 (by rw [h.1,hn])
  subst hx
  exact ⟨none,0,0,by rw [hv,hn],fun h=>absurd h (by omega),fun j u hj=>(by simp at hj)⟩
 ·refine ⟨_,g,cap,hv,fun _=>rfl,fun j u hj=>?_⟩
  have:=h.cells (g:=g) (by rw [hv];rfl) j u hj
  rwa [Go.WideShapes.add_plain,Nat.zero_add] at this
end
section
open Go.RowKit
theorem M.orig_lt {ds:List M.De} {l:List Int} (hin:M.In ds l):∀ (m n q:Nat),n < ds.length→M.orig ds l m n=some q→q < ds.length:=by
 intro m
 induction m with
 | zero=>intro n q _ h;simp [M.orig] at h
 | succ m ih =>
  intro n q hn h
  rw [M.orig] at h
  split at h
  ·obtain rfl:=Option.some.inj h;exact hn
  ·have:=hin n hn
   exact ih _ q (by omega) h
set_option maxHeartbeats 400000 in
theorem value_any (va:Option Addr) (g c:Nat) (ds:List M.De) (a:Option Addr) (b o c2:Nat) (l:List Int) (n q:Nat) (w:World) (hn:n < ds.length) (HLL:Hid (l.length=ds.length)) (hin:M.In ds l) (ho:M.orig ds l ds.length n=some q) (hq:q < ds.length) (hl:ds.length≤1048576) (h:DeS w va g ds) (h2:IntS w a b o l) :
  Calls Tryz.prog 87 #[.slice va ds.length c,.slice a l.length c2,.int .i64 n] w fun e w'=>e=.returned (.int .i64 ds[q].d.v)∧Below w.heap.size w w':=by
 have C:=origin_any va g c ds a b o c2 l n w hn HLL.out hin hl h h2
 rw [ho] at C
 change Calls _ _ _ _ fun e w'=>e=.returned (.tuple #[.int .i64 q,.bool true])∧_ at C
 obtain ⟨rfl⟩:=h.addr (by omega)
 have i1:(q:Int) < ds.length:=by omega
 go_enter Tryz.func87,Tryz.ntmps87
 go_wp2_with (go_at_call 136;refine C.mono ?_;rintro e w1 ⟨rfl,hb1⟩;obtain ⟨_,_,_,_,_,c5,_⟩:=DeS.at (h.bel hb1 (Nat.le_refl _)) hq)
 go_ret
 exact ⟨rfl,hb1⟩
theorem M.val_of_orig {ds:List M.De} {l:List Int} (hin:M.In ds l) (hll:l.length=ds.length) (hz:∀ x∈ds,x.reads=true∨x.d.k=3→x.d.v=0):∀ (m n q:Nat),n < ds.length→(hq:q < ds.length)→M.orig ds l m n=some q→M.val ds l m n=ds[q].d.v:=by
 intro m
 induction m with
 | zero=>intro n q _ _ h;simp [M.orig] at h
 | succ m ih =>
  intro n q hn hq h
  have hi:=hin n hn
  have hvf:M.valFrom ds l n=if ds[n].reads then l[n] else if ds[n].d.k==3 then ds[n].lr else -1:=by
   simp [M.valFrom,hn,show n < l.length by omega]
  rw [M.val_at ds l m n hn (by omega)]
  rw [M.orig] at h
  have step:∀ f:Int,M.valFrom ds l n=f→(ds[n].reads=true∨ds[n].d.k=3)→M.val ds l m f=ds[q].d.v:=by
   intro f hf hk
   rw [hf] at h hi
   by_cases h0:f < 0
   ·rw [if_pos h0] at h
    obtain rfl:=Option.some.inj h
    rw [M.val_neg _ _ _ h0,hz _ (List.getElem_mem hn) hk]
   ·rw [if_neg h0] at h
    obtain ⟨k,rfl⟩:∃ k:Nat,f=k:=⟨f.toNat,by omega⟩
    rw [Int.toNat_natCast] at h
    exact ih k q (by omega) hq h
  by_cases hr:ds[n].reads=true
  ·rw [if_pos hr]
   rw [if_pos hr] at hvf
   exact step _ hvf (Or.inl hr)
  ·rw [if_neg hr]
   rw [if_neg hr] at hvf
   by_cases h3:(ds[n].d.k==3)=true
   ·rw [if_pos h3]
    rw [if_pos h3] at hvf
    exact step _ hvf (Or.inr (by simpa using h3))
   ·rw [if_neg h3]
    rw [if_neg h3] at hvf
    rw [hvf,if_pos (by omega)] at h
    obtain rfl:=Option.some.inj h
    rfl
end
end Go.Proofs.YtnddmlgnngdaoaaGreatDoor
