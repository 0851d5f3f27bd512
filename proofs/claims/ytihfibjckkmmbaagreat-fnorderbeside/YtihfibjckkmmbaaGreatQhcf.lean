/- A box of two rows of numbers that grow: memory. No condition. -/
import Derived.Below
import Derived.BigQuiet
import Derived.Deep.AppendLies
import Derived.Deep.MidRow
import Derived.Deep.Quiet
import Derived.Deep.QuietTactic
import Derived.Deep.RegionHeld3
import Derived.Deep.RegionLaw
import Derived.Deep.RegionWith
import Derived.Deep.Slices
import Derived.Deep.WholeRow
import Derived.Handy
import Derived.Laws.AppendOwn
import Derived.Laws.AppendOwnNone
import Derived.Laws.EntriesVeiled
import Derived.Laws.IdiomCopy
import Derived.Laws.OwnMore
import Derived.LoopIn
import Derived.LoopN
import Derived.LoopNIn
import Derived.Maps.AppendAt
import Derived.OwnWalkIn
import Derived.RangeFuncBound
import Derived.RangeFuncLeaves
import Derived.RangeFuncNested
import Derived.Shelf.Abstract
import Derived.Shelf.SlSortCmp.NoneTotal
import Derived.Sort.Grow
import Derived.TacticsInMore
import Derived.WalkKit
import Derived.WalkLawsBesides
import Derived.WalkSpells
import Derived.Deep.OwnRows
import Derived.Test.YtihfibjckkmmbaaGreatRows
import Derived.Test.YtihfibjckkmmbaaGreatQhag
namespace Go.Proofs.YtihfibjckkmmbaaGreat
open Go.RowKit
structure VcB (W:World) (S:Nat) (v1 v2:Value) (l1 l2:List Int) (w':World):Prop where
 bel:Below W.heap.size W w'
 ge:W.heap.size≤S
 lt:S < w'.heap.size
 s0:w'.cell? ⟨S,0,none⟩=some v1
 s1:w'.cell? ⟨S,1,none⟩=some v2
 fz:∀ j,w'.frozen? ⟨S,j,none⟩=false
 own1:w'.ownsRow W.heap.size 3 1 v1 l1.length (nums l1)
 own2:w'.ownsRow W.heap.size 3 1 v2 l2.length (nums l2)
 n1:v1.ownBlock≠some S
 n2:v2.ownBlock≠some S
 n12:∀ k,v1.ownBlock=some k→v2.ownBlock≠some k
theorem VcB.drew {W w':World} {S:Nat} {v1 v2:Value} {l1 l2:List Int} (h:VcB W S v1 v2 l1 l2 w'):VcB W S v1 v2 l1 l2 w'.drew:=⟨h.bel.drew,h.ge,h.lt,h.s0,h.s1,h.fz,h.own1,h.own2,h.n1,h.n2,h.n12⟩
theorem setCell_grown (w:World) (S j:Nat) (u:Value):w.grownBy (w.setCell ⟨S,j,none⟩ u) (some S):=⟨rfl,rfl,rfl,by simp,fun k _ hk=>heap_setCell_other w ⟨S,j,none⟩ k u (fun e=>hk (by simp [e]))⟩
theorem VcB.push1 {W w' w5:World} {S g c:Nat} {v1 v2:Value} {l1 l2:List Int} {y:Int} {o:Obj} (h:VcB W S v1 v2 l1 l2 w') (ho:w5.ownsRow W.heap.size 3 1 (.slice (some ⟨g,0,none⟩) (l1.length+1) c) (l1.length+1) (nums l1++[.int .i64 y])) (hg:(w'.alloc o).grownBy w5 v1.ownBlock) (hat:v1.ownBlock=some g∨g=w'.heap.size+1) :
  Below W.heap.size W w5∧w5.cell? ⟨S,0,none⟩=some v1∧w5.frozen? ⟨S,0,none⟩=false∧VcB W S (.slice (some ⟨g,0,none⟩) (l1.length+1) c) v2 (l1++[y]) l2 (w5.setCell ⟨S,0,none⟩ (.slice (some ⟨g,0,none⟩) (l1.length+1) c)):=by
 have hS:w5.heap[S]?=w'.heap[S]?:=(hg.block S (by have:=h.lt;simp;omega) (fun e=>h.n1 e.symm)).trans ((below1 w' o).block S h.lt)
 have hsz:w'.heap.size+1≤w5.heap.size:=by have:=hg.size;simpa using this
 have hge:=h.ge
 have hlt:=h.lt
 have hbw:=h.bel.size
 have b5:Below W.heap.size W w5:=below_grown (h.bel.alloc h.bel.size o) hg (fun k hk=>(h.own1.lt k hk).1) (by simp;omega)
 have c0:w5.cell? ⟨S,0,none⟩=some v1:=(World.cell?_of_block (w:=w') hS).trans h.s0
 have c1:w5.cell? ⟨S,1,none⟩=some v2:=(World.cell?_of_block (w:=w') hS).trans h.s1
 have fz:∀ j,w5.frozen? ⟨S,j,none⟩=false:=fun j=>(World.frozen?_of_block (w:=w') hS).trans (h.fz j)
 have gS:g≠S:=by
  rcases hat with e | e
  ·intro e2;exact h.n1 (e2▸e)
  ·omega
 have g12:∀ k,v2.ownBlock=some k→g≠k:=fun k hk=>by
  rcases hat with e | e
  ·intro e2
   exact h.n12 k (e2▸e) hk
  ·have:=(h.own2.lt k hk).2;omega
 have hk:w5.ownsRow W.heap.size 3 1 v2 l2.length (nums l2):=(h.own2.alloc o).kept hg (by
  cases hv:v2.ownBlock with
  | none=>exact .inl rfl
  | some k =>
   right
   intro e
   exact h.n12 k e.symm hv)
 have G:=setCell_grown w5 S 0 (.slice (some ⟨g,0,none⟩) (l1.length+1) c)
 refine ⟨b5,c0,fz 0,b5.setCell h.ge _,h.ge,by simp;omega,?_,?_,fun j=>by rw [World.frozen?_setCell];exact fz j,?_,?_,?_,?_,?_⟩
 ·exact World.cell?_setCell_same _ _ _ c0
 ·rw [World.cell?_setCell_other _ _ _ _ (fun e=>by simp at e)];exact c1
 ·rw [nums_snoc,List.length_append]
  exact ho.kept G (.inr (fun e=>gS (Option.some.inj e)))
 ·exact hk.kept G (.inr h.n2)
 ·exact fun e=>gS (Option.some.inj e)
 ·exact h.n2
 ·intro k e e2
  exact g12 k e2 (Option.some.inj e)
theorem VcB.push2 {W w' w5:World} {S g c:Nat} {v1 v2:Value} {l1 l2:List Int} {y:Int} {o:Obj} (h:VcB W S v1 v2 l1 l2 w') (ho:w5.ownsRow W.heap.size 3 1 (.slice (some ⟨g,0,none⟩) (l2.length+1) c) (l2.length+1) (nums l2++[.int .i64 y])) (hg:(w'.alloc o).grownBy w5 v2.ownBlock) (hat:v2.ownBlock=some g∨g=w'.heap.size+1) :
  Below W.heap.size W w5∧w5.cell? ⟨S,1,none⟩=some v2∧w5.frozen? ⟨S,1,none⟩=false∧VcB W S v1 (.slice (some ⟨g,0,none⟩) (l2.length+1) c) l1 (l2++[y]) (w5.setCell ⟨S,1,none⟩ (.slice (some ⟨g,0,none⟩) (l2.length+1) c)):=by
 have hS:w5.heap[S]?=w'.heap[S]?:=(hg.block S (by have:=h.lt;simp;omega) (fun e=>h.n2 e.symm)).trans ((below1 w' o).block S h.lt)
 have hsz:w'.heap.size+1≤w5.heap.size:=by have:=hg.size;simpa using this
 have hge:=h.ge
 have hlt:=h.lt
 have hbw:=h.bel.size
 have b5:Below W.heap.size W w5:=below_grown (h.bel.alloc h.bel.size o) hg (fun k hk=>(h.own2.lt k hk).1) (by simp;omega)
 have c0:w5.cell? ⟨S,0,none⟩=some v1:=(World.cell?_of_block (w:=w') hS).trans h.s0
 have c1:w5.cell? ⟨S,1,none⟩=some v2:=(World.cell?_of_block (w:=w') hS).trans h.s1
 have fz:∀ j,w5.frozen? ⟨S,j,none⟩=false:=fun j=>(World.frozen?_of_block (w:=w') hS).trans (h.fz j)
 have gS:g≠S:=by
  rcases hat with e | e
  ·intro e2;exact h.n2 (e2▸e)
  ·omega
 have g12:∀ k,v1.ownBlock=some k→g≠k:=fun k hk=>by
  rcases hat with e | e
  ·intro e2
   exact h.n12 k hk (e2▸e)
  ·have:=(h.own1.lt k hk).2;omega
 have hk:w5.ownsRow W.heap.size 3 1 v1 l1.length (nums l1):=(h.own1.alloc o).kept hg (by
  cases hv:v1.ownBlock with
  | none=>exact .inl rfl
  | some k =>
   right
   intro e
   exact h.n12 k hv e.symm)
 have G:=setCell_grown w5 S 1 (.slice (some ⟨g,0,none⟩) (l2.length+1) c)
 refine ⟨b5,c1,fz 1,b5.setCell h.ge _,h.ge,by simp;omega,?_,?_,fun j=>by rw [World.frozen?_setCell];exact fz j,?_,?_,?_,?_,?_⟩
 ·rw [World.cell?_setCell_other _ _ _ _ (fun e=>by simp at e)];exact c0
 ·exact World.cell?_setCell_same _ _ _ c1
 ·exact hk.kept G (.inr h.n1)
 ·rw [nums_snoc,List.length_append]
  exact ho.kept G (.inr (fun e=>gS (Option.some.inj e)))
 ·exact h.n1
 ·exact fun e=>gS (Option.some.inj e)
 ·intro k e e2
  exact g12 k e (Option.some.inj e2)
end Go.Proofs.YtihfibjckkmmbaaGreat
