/- A program that is being read: its threads in rows of the call's own, no two of them in one. No condition. What an order allows of small programs: a thread more that does nothing, one place alone, one thread alone, one step of each. Plainly. No condition but what is said. What an order allows of a program with walls put in: no more; strictly just as much. Plainly. No condition but what is said. -/
import Derived.Below
import Derived.BigQuiet
import Derived.Deep.AppendLies
import Derived.Deep.CutRange
import Derived.Deep.MidRow
import Derived.Deep.Quiet
import Derived.Deep.QuietTactic
import Derived.Deep.RegionHeld3
import Derived.Deep.RegionLaw
import Derived.Deep.RegionWith
import Derived.Deep.Slices
import Derived.Deep.WholeRow
import Derived.Handy
import Derived.Laws.AppendOwn
import Derived.Laws.AppendOwnNone
import Derived.Laws.EntriesVeiled
import Derived.Laws.IdiomCopy
import Derived.Laws.OwnMore
import Derived.LoopIn
import Derived.LoopN
import Derived.LoopNIn
import Derived.Maps.OwnIn
import Derived.OwnWalkIn
import Derived.RangeFuncBound
import Derived.RangeFuncLeaves
import Derived.RangeFuncNested
import Derived.Shelf.Abstract
import Derived.Shelf.SlSortCmp.NoneTotal
import Derived.Sort.Grow
import Derived.TacticsInMore
import Derived.WalkKit
import Derived.WalkLawsBesides
import Derived.WalkSpells
import Derived.Deep.OwnRows
import Derived.Test.YtjjkicffhpcngaaGreatRows
import Derived.Test.YtjjkicffhpcngaaGreatBYay
namespace Go.Proofs.YtjjkicffhpcngaaGreat
open Go.RowKit
structure Rdg (w:World) (B:Nat) (v:Value) (ll:List (List M.D)) (vs:List Value):Prop where
 b:Build w B v ll vs
 ap:∀ i j (hi:i < vs.length) (hj:j < vs.length),i≠j→∀ k,vs[i].ownBlock=some k→vs[j].ownBlock≠some k
theorem Rdg.below {w w':World} {B:Nat} {v:Value} {ll:List (List M.D)} {vs:List Value} (h:Rdg w B v ll vs) (hb:Below w.heap.size w w'):Rdg w' B v ll vs :=
 ⟨⟨ownsRow_below h.b.outer hb,h.b.len,fun i h1 h2=>ownsRow_below (h.b.inner i h1 h2) hb⟩,h.ap⟩
theorem Rdg.far {w:World} {B:Nat} {v:Value} {ll:List (List M.D)} {vs:List Value} (h:Rdg w B v ll vs) {b i:Nat} (hb:b < B) (u:Value):Rdg (w.setCell ⟨b,i,none⟩ u) B v ll vs:=⟨h.b.far hb u,h.ap⟩
theorem Rdg.nil (w:World) (B:Nat):Rdg w B (.slice none 0 0) [] []:=⟨Build.nil w B,fun _ _ h=>absurd h (Nat.not_lt_zero _)⟩
theorem Rdg.snocT {w w':World} {B:Nat} {v v' x:Value} {ll:List (List M.D)} {vs:List Value} {l:List M.D} (h:Rdg w B v ll vs) (hx:w.ownsRow B 43 3 x l.length (flat l)) (hap:∀ i (hi:i < vs.length) k,vs[i].ownBlock=some k→x.ownBlock≠some k)
  (ho:w'.ownsRow B 41 1 v' (ll.length+1) (vs++[x])) (hg:w.grownBy w' v.ownBlock):Rdg w' B v' (ll++[l]) (vs++[x]):=by
 refine ⟨h.b.snoc hx ho hg,fun i j hi hj hne k hk=>?_⟩
 by_cases h1:i < vs.length
 ·rw [List.getElem_append_left h1] at hk
  by_cases h2:j < vs.length
  ·rw [List.getElem_append_left h2]
   exact h.ap i j h1 h2 hne k hk
  ·rw [List.getElem_append_right (by omega)]
   have:j - vs.length=0:=by simp at hj;omega
   simp only [this,List.getElem_cons_zero]
   exact hap i h1 k hk
 ·rw [List.getElem_append_right (by omega)] at hk
  have:i - vs.length=0:=by simp at hi;omega
  simp only [this,List.getElem_cons_zero] at hk
  have h2:j < vs.length:=by simp at hi hj;omega
  rw [List.getElem_append_left h2]
  exact fun e=>hap j h2 k e hk
end Go.Proofs.YtjjkicffhpcngaaGreat
namespace Go.Proofs.YtjjkicffhpcngaaGreat
namespace M
theorem sat_map {L L':List Lk} {f:Nat→Nat} {cs cs':List Ch} (h:∀ l∈L,Leads L' (f l.1) (f l.2)) (hc:∀ c∈cs,((f c.1.1,f c.1.2),(f c.2.1,f c.2.2))∈cs') (hs:Sat L' cs'):Sat L cs:=by
 obtain ⟨S',h1,h2⟩:=sat_iff.1 hs
 refine sat_iff.2 ⟨(cs.flatMap fun c=>[c.1,c.2]).filter fun l=>decide ((f l.1,f l.2)∈S'),fun c hcc=>?_,fun hr=>h2 (round_map (f:=f) (fun l hl=>?_) hr)⟩
 ·rcases h1 _ (hc c hcc) with h3 | h3
  ·left
   exact List.mem_filter.2 ⟨List.mem_flatMap.2 ⟨c,hcc,by simp⟩,by simpa using h3⟩
  ·right
   exact List.mem_filter.2 ⟨List.mem_flatMap.2 ⟨c,hcc,by simp⟩,by simpa using h3⟩
 ·rcases List.mem_append.1 hl with hl | hl
  ·have:=(List.mem_filter.1 hl).2
   exact .one (List.mem_append.2 (.inl (by simpa using this)))
  ·exact (h l hl).sub fun x hx=>List.mem_append.2 (.inr hx)
end M
end Go.Proofs.YtjjkicffhpcngaaGreat
namespace Go.Proofs.YtjjkicffhpcngaaGreat
namespace M
section
variable {ds es : List De} {pos back : List Nat}
theorem mem_choices {ds:List De} {c:Ch}:c∈choices ds↔∃ (w r:Nat) (x y:De),ds[w]?=some x∧x.d.k=9∧x.last=false∧ds[r]?=some y∧y.d.k=7∧c=((outOf ds r,w+1),(w,r)):=by
 simp only [choices,List.mem_flatMap,choicesAt,List.mem_map,List.mem_filter,List.mem_range]
 constructor
 ·rintro ⟨w,⟨hw,hwt⟩,r,⟨hr,hk⟩,rfl⟩
  unfold waitsAt at hwt
  rw [List.getElem?_eq_getElem hw] at hwt
  rw [kAt_eq hr] at hk
  simp only [Bool.and_eq_true,beq_iff_eq,Bool.not_eq_true'] at hwt
  exact ⟨w,r,ds[w],ds[r],List.getElem?_eq_getElem hw,hwt.1,hwt.2,List.getElem?_eq_getElem hr,by simpa using hk,rfl⟩
 ·rintro ⟨w,r,x,y,hx,h9,hf,hy,h7,rfl⟩
  refine ⟨w,⟨lt_of_get hx,?_⟩,r,⟨lt_of_get hy,?_⟩,rfl⟩
  ·unfold waitsAt;rw [hx];simp [h9,hf]
  ·unfold kAt;rw [hy];simp [h7]
end
end M
end Go.Proofs.YtjjkicffhpcngaaGreat
