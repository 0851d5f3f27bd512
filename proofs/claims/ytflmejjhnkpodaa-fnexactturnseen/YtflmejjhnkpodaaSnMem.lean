/- How numbers, and what was seen, lie in memory; what it is that a call has only laid blocks and drawn. No condition. -/
import Derived.Test.YtflmejjhnkpodaaBase
import Derived.Test.YtflmejjhnkpodaaSnMath
import Derived.Sort.Grow
namespace Go.Proofs.Ytflmejjhnkpodaa
open Go.RowKit

/-- A value is a slice of numbers. -/
structure IntS (w : World) (a : Option Addr) (b o : Nat) (l : List Int) : Prop where
  addr : 0 < l.length → a = some ⟨b, o, none⟩
  row : ∀ i (h : i < l.length), w.cell? ⟨b, o + i, none⟩ = some (.int .i64 l[i])

theorem IntS.lt {w : World} {a : Option Addr} {b o : Nat} {l : List Int} (h : IntS w a b o l) (hl : 0 < l.length) : b < w.heap.size := World.block_lt_of_cell? _ _ (h.row 0 hl)
theorem IntS.below {w w' : World} {a : Option Addr} {B b o : Nat} {l : List Int} (h : IntS w a b o l) (hb : Below B w w') (hB : w.heap.size ≤ B) : IntS w' a b o l :=
  ⟨h.addr, fun i hi => by rw [hb.cell (p := ⟨b, o + i, none⟩) (Nat.lt_of_lt_of_le (h.lt (by omega)) hB)]; exact h.row i hi⟩
theorem IntS.nil (w : World) (a : Option Addr) (b o : Nat) : IntS w a b o [] := ⟨fun h => absurd h (Nat.lt_irrefl _), fun _ hi => absurd hi (Nat.not_lt_zero _)⟩

/-- A call has only laid blocks, and drawn. -/
structure Grown (w w' : World) : Prop where
  bel : Below w.heap.size w w'
  drawn : w.drawn ≤ w'.drawn

theorem Grown.refl (w : World) : Grown w w := ⟨Below.refl _ _, Nat.le_refl _⟩
theorem Grown.trans {a b c : World} (h : Grown a b) (k : Grown b c) : Grown a c := ⟨h.bel.trans (k.bel.mono h.bel.size), Nat.le_trans h.drawn k.drawn⟩
theorem Grown.alloc {a b : World} (h : Grown a b) (o : Obj) : Grown a (b.alloc o) := ⟨h.bel.alloc h.bel.size o, h.drawn⟩
theorem Grown.drewN {a b : World} (h : Grown a b) (n : Nat) : Grown a (b.drewN n) := ⟨h.bel.trans ⟨rfl, rfl, rfl, Nat.le_refl _, fun _ _ => rfl⟩, Nat.le_trans h.drawn (Nat.le_add_right _ _)⟩
theorem Grown.drew {a b : World} (h : Grown a b) : Grown a b.drew := h.drewN 1
theorem Grown.grow {w w' : World} (h : Grown w w') : ∃ q os, w' = Sort.grow (w.drewN q) os := by
  obtain ⟨⟨ho, ht, hu, hs, hb⟩, hd⟩ := h
  refine ⟨w'.drawn - w.drawn, w'.heap.extract w.heap.size w'.heap.size, ?_⟩
  obtain ⟨heap, tape, drawn, os, output⟩ := w
  obtain ⟨heap', tape', drawn', os', output'⟩ := w'
  simp only at ho ht hu hs hb hd
  subst ho; subst ht; subst hu
  simp only [Sort.grow, World.drewN, World.mk.injEq, true_and, and_true]
  refine ⟨?_, by omega⟩
  apply Array.ext_getElem?
  intro i
  rw [Array.getElem?_append]
  by_cases hi : i < heap.size
  · rw [if_pos hi]; exact hb i hi
  · rw [if_neg hi, Array.getElem?_extract]
    by_cases h2 : i < heap'.size
    · rw [if_pos (by omega)]; congr 1; omega
    · rw [if_neg (by omega)]; exact Array.getElem?_eq_none (by omega)

/-- What was seen, as a value: two slices of numbers. -/
structure Sn where
  a1 : Option Addr
  b1 : Nat
  o1 : Nat
  c1 : Nat
  l1 : List Int
  a2 : Option Addr
  b2 : Nat
  o2 : Nat
  c2 : Nat
  l2 : List Int

/-- .. and it lies so in memory. -/
structure Sn.At (s : Sn) (w : World) : Prop where
  reads : IntS w s.a1 s.b1 s.o1 s.l1
  last : IntS w s.a2 s.b2 s.o2 s.l2
/-- It is no longer than that. -/
structure Sn.Le (s : Sn) (n : Nat) : Prop where
  reads : s.l1.length ≤ n
  last : s.l2.length ≤ n

theorem Sn.At.below {s : Sn} {w w' : World} {B : Nat} (h : s.At w) (hb : Below B w w') (hB : w.heap.size ≤ B) : s.At w' := ⟨h.reads.below hb hB, h.last.below hb hB⟩
theorem Sn.At.grown {s : Sn} {w w' : World} (h : s.At w) (hg : Grown w w') : s.At w' := h.below hg.bel (Nat.le_refl _)
theorem Sn.Le.mono {s : Sn} {n m : Nat} (h : s.Le n) (hm : n ≤ m) : s.Le m := ⟨Nat.le_trans h.reads hm, Nat.le_trans h.last hm⟩

end Go.Proofs.Ytflmejjhnkpodaa
