/- The plain mathematics of what was seen: how numbers, and what was seen, are compared. No condition. How numbers, and what was seen, lie in memory; what it is that a call has only laid blocks and drawn. No condition. Numbers, rows of the call's own and boxes of two cells, while other blocks turn. No condition. -/
import Derived.Deep.AppendLies
import Derived.Deep.RegionHeld3
import Derived.Sort.Grow
import Derived.Test.YtdningnhbplfiaaGreatRows
import Derived.Test.YtdningnhbplfiaaGreatQraa
namespace Go.Proofs.YtdningnhbplfiaaGreat
section
namespace M
def vals (l:List Int):Bool:=l.all fun v=>decide (0≤v)&&decide (v≤3)
end M
end
section
open Go.RowKit
structure IntS (w:World) (a:Option Addr) (b o:Nat) (l:List Int):Prop where
 addr:0 < l.length→a=some ⟨b,o,none⟩
 row:∀ i (h:i < l.length),w.cell? ⟨b,o+i,none⟩=some (.int .i64 l[i])
theorem IntS.lt {w:World} {a:Option Addr} {b o:Nat} {l:List Int} (h:IntS w a b o l) (hl:0 < l.length):b < w.heap.size:=World.block_lt_of_cell? _ _ (h.row 0 hl)
theorem IntS.below {w w':World} {a:Option Addr} {B b o:Nat} {l:List Int} (h:IntS w a b o l) (hb:Below B w w') (hB:w.heap.size≤B):IntS w' a b o l :=
 ⟨h.addr,fun i hi=>by rw [hb.cell (p:=⟨b,o+i,none⟩) (Nat.lt_of_lt_of_le (h.lt (by omega)) hB)];exact h.row i hi⟩
theorem IntS.nil (w:World) (a:Option Addr) (b o:Nat):IntS w a b o []:=⟨fun h=>absurd h (Nat.lt_irrefl _),fun _ hi=>absurd hi (Nat.not_lt_zero _)⟩
structure Grown (w w':World):Prop where
 bel:Below w.heap.size w w'
 drawn:w.drawn≤w'.drawn
theorem Grown.refl (w:World):Grown w w:=⟨Below.refl _ _,Nat.le_refl _⟩
theorem Grown.drewN {a b:World} (h:Grown a b) (n:Nat):Grown a (b.drewN n):=⟨h.bel.trans ⟨rfl,rfl,rfl,Nat.le_refl _,fun _ _=>rfl⟩,Nat.le_trans h.drawn (Nat.le_add_right _ _)⟩
end
section
open Go.RowKit
theorem own_ge {w:World} {base:Nat} {e:TypeId} {size:Nat} {v:Value} {n:Nat} {xs:List Value} (h:w.ownsRow base e size v n xs):∀ k,v.ownBlock=some k→base≤k:=fun k hk=>(h.lt k hk).1
theorem below_grown {B:Nat} {w0 w w':World} {row:Option Nat} (h:Below B w0 w) (hg:w.grownBy w' row) (hr:∀ k,row=some k→B≤k) (hB:B≤w.heap.size:=by simp):Below B w0 w' :=
 ⟨hg.os.trans h.os,hg.tape.trans h.tape,hg.output.trans h.output,Nat.le_trans h.size hg.size,fun k hk=>(hg.block k (by omega) (fun e=>by have:=hr k e.symm;omega)).trans (h.block k hk)⟩
theorem ownsRow_below {w w':World} {base:Nat} {e:TypeId} {size:Nat} {v:Value} {n:Nat} {xs:List Value} (h:w.ownsRow base e size v n xs) (hb:Below w.heap.size w w'):w'.ownsRow base e size v n xs:=by
 obtain ⟨h1,h2⟩:=h
 refine ⟨h1,?_⟩
 rcases h2 with h2 | ⟨g,cap,cur,hv,hg,hh,r⟩
 ·exact Or.inl h2
 ·refine Or.inr ⟨g,cap,cur,hv,hg,?_,r⟩
  rw [hb.block g (by by_cases hlt:g < w.heap.size;exact hlt;rw [Array.getElem?_eq_none (by omega)] at hh;cases hh)]
  exact hh
def nums (l:List Int):List Value:=l.map (.int .i64)
theorem own_nums {w:World} {base:Nat} {v:Value} {l:List Int} (h:w.ownsRow base 3 1 v l.length (nums l)):∃ a g c,v=.slice a l.length c∧IntS w a g 0 l∧base≤g∧(a=none→c=0):=by
 rcases h.2 with ⟨hv,hn⟩ | ⟨g,cap,cur,hv,hg,hh,r⟩
 ·have:l=[]:=List.length_eq_zero_iff.1 hn
  subst this
  exact ⟨none,base,0,hv,IntS.nil _ _ _ _,Nat.le_refl _,fun _=>rfl⟩
 ·refine ⟨_,g,cap,hv,⟨fun _=>rfl,fun i hi=>?_⟩,hg,fun h=>by cases h⟩
  have hc:=h.cells (g:=g) (by rw [hv];rfl) i (.int .i64 l[i]) (by simp [nums,hi])
  rwa [Go.WideShapes.add_plain] at hc
theorem three {m:List Int} (h:m.length=3):∃ x y z,m=[x,y,z]:=by
 match m,h with
 | [x,y,z],_=>exact ⟨x,y,z,rfl⟩
theorem alloc_new (w:World) (o:Obj) (n:Nat) (hn:n=w.heap.size):(w.alloc o).heap[n]?=some o:=by subst hn;exact heap_alloc_new w o
theorem alloc_old (w:World) (o:Obj) (k:Nat) (hk:k < w.heap.size):(w.alloc o).heap[k]?=w.heap[k]?:=(below1 w o).block k hk
theorem Tryz.infoInt:(Tryz.prog.info? 3).map (fun i=>(i.zero,i.size,i.bytes))=some (some (.int .i64 0),1,8):=by kernel_rfl
theorem own_fzS {w:World} {B g n cap:Nat} {e:TypeId} {size:Nat} {xs:List Value} (h:w.ownsRow B e size (.slice (some ⟨g,0,none⟩) n cap) n xs) (i:Nat):w.frozen? ⟨g,i,none⟩=false:=by
 rcases h.2 with ⟨hv,_⟩ | ⟨g',cap',cur,hv,_,hh,_⟩
 ·simp at hv
 ·simp at hv
  obtain ⟨rfl,_⟩:=hv
  simp [World.frozen?,hh]
end
end Go.Proofs.YtdningnhbplfiaaGreat
