/- The plain mathematics of what was seen: how numbers, and what was seen, are compared. No condition. How numbers, and what was seen, lie in memory; what it is that a call has only laid blocks and drawn. No condition. Numbers, rows of the call's own and boxes of two cells, while other blocks turn. No condition. -/
import Derived.Deep.AppendLies
import Derived.Deep.RegionHeld3
import Derived.Sort.Grow
import Derived.Test.YtnddmlgnngdaoaaRows
import Derived.Test.YtnddmlgnngdaoaaQjaa
namespace Go.Proofs.Ytnddmlgnngdaoaa
section
namespace M
def vals (l:List Int):Bool:=l.all fun v=>decide (0≤v)&&decide (v≤3)
end M
end
section
open Go.RowKit
structure IntS (w:World) (a:Option Addr) (b o:Nat) (l:List Int):Prop where
 addr:0 < l.length→a=some ⟨b,o,none⟩
 row:∀ i (h:i < l.length),w.cell? ⟨b,o+i,none⟩=some (.int .i64 l[i])
theorem IntS.lt {w:World} {a:Option Addr} {b o:Nat} {l:List Int} (h:IntS w a b o l) (hl:0 < l.length):b < w.heap.size:=World.block_lt_of_cell? _ _ (h.row 0 hl)
theorem IntS.below {w w':World} {a:Option Addr} {B b o:Nat} {l:List Int} (h:IntS w a b o l) (hb:Below B w w') (hB:w.heap.size≤B):IntS w' a b o l :=
 ⟨h.addr,fun i hi=>by rw [hb.cell (p:=⟨b,o+i,none⟩) (Nat.lt_of_lt_of_le (h.lt (by omega)) hB)];exact h.row i hi⟩
theorem IntS.nil (w:World) (a:Option Addr) (b o:Nat):IntS w a b o []:=⟨fun h=>absurd h (Nat.lt_irrefl _),fun _ hi=>absurd hi (Nat.not_lt_zero _)⟩
structure Grown (w w':World):Prop where
 bel:Below w.heap.size w w'
 drawn:w.drawn≤w'.drawn
theorem Grown.refl (w:World):Grown w w:=⟨Below.refl _ _,Nat.le_refl _⟩
theorem Grown.drewN {a b:World} (h:Grown a b) (n:Nat):Grown a (b.drewN n):=⟨h.bel.trans ⟨rfl,rfl,rfl,Nat.le_refl _,fun _ _=>rfl⟩,Nat.le_trans h.drawn (Nat.le_add_right _ _)⟩
structure Sn where
 a1:Option Addr
 b1:Nat
 o1:Nat
 c1:Nat
 l1:List Int
 a2:Option Addr
 b2:Nat
 o2:Nat
 c2:Nat
 l2:List Int
structure Sn.At (s:Sn) (w:World):Prop where
 reads:IntS w s.a1 s.b1 s.o1 s.l1
 last:IntS w s.a2 s.b2 s.o2 s.l2
structure Sn.Le (s:Sn) (n:Nat):Prop where
 reads:s.l1.length≤n
 last:s.l2.length≤n
theorem Sn.At.below {s:Sn} {w w':World} {B:Nat} (h:s.At w) (hb:Below B w w') (hB:w.heap.size≤B):s.At w':=⟨h.reads.below hb hB,h.last.below hb hB⟩
end
section
open Go.RowKit
theorem own_ge {w:World} {base:Nat} {e:TypeId} {size:Nat} {v:Value} {n:Nat} {xs:List Value} (h:w.ownsRow base e size v n xs):∀ k,v.ownBlock=some k→base≤k:=fun k hk=>(h.lt k hk).1
theorem below_grown {B:Nat} {w0 w w':World} {row:Option Nat} (h:Below B w0 w) (hg:w.grownBy w' row) (hr:∀ k,row=some k→B≤k) (hB:B≤w.heap.size:=by simp):Below B w0 w' :=
 ⟨hg.os.trans h.os,hg.tape.trans h.tape,hg.output.trans h.output,Nat.le_trans h.size hg.size,fun k hk=>(hg.block k (by omega) (fun e=>by have:=hr k e.symm;omega)).trans (h.block k hk)⟩
theorem ownsRow_below {w w':World} {base:Nat} {e:TypeId} {size:Nat} {v:Value} {n:Nat} {xs:List Value} (h:w.ownsRow base e size v n xs) (hb:Below w.heap.size w w'):w'.ownsRow base e size v n xs:=by
 obtain ⟨h1,h2⟩:=h
 refine ⟨h1,?_⟩
 rcases h2 with h2 | ⟨g,cap,cur,hv,hg,hh,r⟩
 ·exact Or.inl h2
 ·refine Or.inr ⟨g,cap,cur,hv,hg,?_,r⟩
  rw [hb.block g (by by_cases hlt:g < w.heap.size;exact hlt;rw [Array.getElem?_eq_none (by omega)] at hh;cases hh)]
  exact hh
def nums (l:List Int):List Value:=l.map (.int .i64)
theorem nums_length (l:List Int):(nums l).length=l.length:=by simp [nums]
structure Slot2 (w:World) (b:Nat) (x y:Value):Prop where
 blk:w.heap[b]?=some (.cells #[x,y] 28 (0,0))
theorem Slot2.lt {w:World} {b:Nat} {x y:Value} (h:Slot2 w b x y):b < w.heap.size:=by
 by_cases hb:b < w.heap.size
 ·exact hb
 ·have:=h.blk;rw [Array.getElem?_eq_none (by omega)] at this;cases this
theorem Slot2.c0 {w:World} {b:Nat} {x y:Value} (h:Slot2 w b x y):w.cell? ⟨b,0,none⟩=some x:=by simp [World.cell?,h.blk]
theorem Slot2.c1 {w:World} {b:Nat} {x y:Value} (h:Slot2 w b x y):w.cell? ⟨b,1,none⟩=some y:=by simp [World.cell?,h.blk]
theorem Slot2.fz {w:World} {b:Nat} {x y:Value} (h:Slot2 w b x y) (i:Nat):w.frozen? ⟨b,i,none⟩=false:=by simp [World.frozen?,h.blk]
theorem Slot2.of {w w':World} {b:Nat} {x y:Value} (h:Slot2 w b x y) (hb:w'.heap[b]?=w.heap[b]?):Slot2 w' b x y:=⟨hb.trans h.blk⟩
theorem Slot2.grown {w w':World} {b B n:Nat} {x y v:Value} {xs:List Value} (h:Slot2 w b x y) (hg:w.grownBy w' v.ownBlock) (ho:w.ownsRow B 3 1 v n xs):Slot2 w' b x y:=by
 refine h.of (hg.block b h.lt fun e=>?_)
 rcases ho.2 with ⟨hv,_⟩ | ⟨g,cap,cur,hv,_,hh,_⟩
 ·rw [hv] at e;simp [Value.ownBlock] at e
 ·rw [hv] at e
  simp [Value.ownBlock] at e
  subst e
  rw [h.blk] at hh
  simp at hh
theorem Slot2.far {w:World} {b b' i:Nat} {x y:Value} (h:Slot2 w b x y) (hne:b'≠b) (u:Value):Slot2 (w.setCell ⟨b',i,none⟩ u) b x y:=h.of (Below.heap_setCell _ _ _ _ (fun e=>hne e.symm))
theorem Slot2.set0 {w:World} {b:Nat} {x y:Value} (h:Slot2 w b x y) (u:Value):Slot2 (w.setCell ⟨b,0,none⟩ u) b u y:=⟨heap_setCell_same w b 0 #[x,y] _ u h.blk⟩
theorem Slot2.set1 {w:World} {b:Nat} {x y:Value} (h:Slot2 w b x y) (u:Value):Slot2 (w.setCell ⟨b,1,none⟩ u) b x u:=⟨heap_setCell_same w b 1 #[x,y] _ u h.blk⟩
theorem own_slot {w:World} {b i B n:Nat} {x y v:Value} {xs:List Value} (ho:w.ownsRow B 3 1 v n xs) (h:Slot2 w b x y) (u:Value):(w.setCell ⟨b,i,none⟩ u).ownsRow B 3 1 v n xs:=by
 refine ⟨ho.1,?_⟩
 rcases ho.2 with h0 | ⟨g,cap,cur,hv,hg,hh,r⟩
 ·exact Or.inl h0
 ·refine Or.inr ⟨g,cap,cur,hv,hg,?_,r⟩
  rw [Below.heap_setCell _ _ _ _ (fun e=>?_)]
  ·exact hh
  ·simp at e
   subst e
   rw [h.blk] at hh
   simp at hh
theorem own_nums {w:World} {base:Nat} {v:Value} {l:List Int} (h:w.ownsRow base 3 1 v l.length (nums l)):∃ a g c,v=.slice a l.length c∧IntS w a g 0 l∧base≤g∧(a=none→c=0):=by
 rcases h.2 with ⟨hv,hn⟩ | ⟨g,cap,cur,hv,hg,hh,r⟩
 ·have:l=[]:=List.length_eq_zero_iff.1 hn
  subst this
  exact ⟨none,base,0,hv,IntS.nil _ _ _ _,Nat.le_refl _,fun _=>rfl⟩
 ·refine ⟨_,g,cap,hv,⟨fun _=>rfl,fun i hi=>?_⟩,hg,fun h=>by cases h⟩
  have hc:=h.cells (g:=g) (by rw [hv];rfl) i (.int .i64 l[i]) (by simp [nums,hi])
  rwa [Go.WideShapes.add_plain] at hc
theorem alloc_new (w:World) (o:Obj) (n:Nat) (hn:n=w.heap.size):(w.alloc o).heap[n]?=some o:=by subst hn;exact heap_alloc_new w o
theorem alloc_old (w:World) (o:Obj) (k:Nat) (hk:k < w.heap.size):(w.alloc o).heap[k]?=w.heap[k]?:=(below1 w o).block k hk
theorem Try.infoInt:(Try.prog.info? 3).map (fun i=>(i.zero,i.size,i.bytes))=some (some (.int .i64 0),1,8):=by kernel_rfl
def Sn.blk (s:Sn) (b:Nat):Prop:=(0 < s.l1.length∧b=s.b1)∨(0 < s.l2.length∧b=s.b2)
theorem Sn.blk_lt {s:Sn} {w:World} {b:Nat} (h:s.At w) (hb:s.blk b):b < w.heap.size:=by
 rcases hb with ⟨h0,rfl⟩ | ⟨h0,rfl⟩
 ·exact h.reads.lt h0
 ·exact h.last.lt h0
structure Own2 (w:World) (s:Sn):Prop where
 ne:0 < s.l1.length→0 < s.l2.length→s.b1≠s.b2
 fz:∀ b,s.blk b→∀ j,w.frozen? ⟨b,j,none⟩=false
theorem Own2.below {w w':World} {s:Sn} (h:Own2 w s) (ha:s.At w) (hb:Below w.heap.size w w'):Own2 w' s :=
 ⟨h.ne,fun b hk j=>(hb.frozen (p:=⟨b,j,none⟩) (Sn.blk_lt ha hk)).trans (h.fz b hk j)⟩
end
end Go.Proofs.Ytnddmlgnngdaoaa
