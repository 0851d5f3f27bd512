/- A row of what was seen, in a block of the call's own. No condition. -/
import Derived.Test.YtkbjdhjcbhdpmabSoMath
import Derived.Test.YtkbjdhjcbhdpmabSnSee
import Derived.Test.YtkbjdhjcbhdpmabSnFar
import Derived.Laws.AppendOwnNone
import Derived.Laws.IdiomCopy
namespace Go.Proofs.Ytkbjdhjcbhdpmab
open Go.RowKit

/-- The numbers of one that was seen. -/
def Sn.ky (s : Sn) : Ky := (s.l1, s.l2)
/-- Its first value, its second. -/
def Sn.v1 (s : Sn) : Value := .slice s.a1 s.l1.length s.c1
def Sn.v2 (s : Sn) : Value := .slice s.a2 s.l2.length s.c2

/-- The row's cells hold these. -/
structure SR (W : World) (g : Nat) (ss : List Sn) : Prop where
  c : ∀ i (h : i < ss.length), W.cell? ⟨g, i * 2, none⟩ = some (.slice ss[i].a1 ss[i].l1.length ss[i].c1) ∧ W.cell? ⟨g, i * 2 + 1, none⟩ = some (.slice ss[i].a2 ss[i].l2.length ss[i].c2)
  fz : ∀ j, W.frozen? ⟨g, j, none⟩ = false
/-- One that was seen lies outside a block. -/
structure Off (W : World) (g : Nat) (s : Sn) : Prop where
  at_ : s.At W
  le : s.Le 1048576
  n1 : 0 < s.l1.length → s.b1 ≠ g
  n2 : 0 < s.l2.length → s.b2 ≠ g

theorem SR.lt {W : World} {g : Nat} {ss : List Sn} (h : SR W g ss) (hl : 0 < ss.length) : g < W.heap.size := World.block_lt_of_cell? _ _ (h.c 0 hl).1
theorem SR.below {W W' : World} {g : Nat} {ss : List Sn} (h : SR W g ss) (hb : Below W.heap.size W W') (hl : g < W.heap.size) : SR W' g ss :=
  ⟨fun i hi => ⟨(hb.cell (p := ⟨g, i * 2, none⟩) hl).trans (h.c i hi).1, (hb.cell (p := ⟨g, i * 2 + 1, none⟩) hl).trans (h.c i hi).2⟩, fun j => (hb.frozen (p := ⟨g, j, none⟩) hl).trans (h.fz j)⟩
theorem SR.take {W : World} {g : Nat} {ss : List Sn} (h : SR W g ss) (n : Nat) : SR W g (ss.take n) :=
  ⟨fun i hi => by rw [List.getElem_take]; exact h.c i (by simp at hi; omega), h.fz⟩
theorem Off.below {W W' : World} {g : Nat} {s : Sn} (h : Off W g s) (hb : Below W.heap.size W W') : Off W' g s := ⟨h.at_.below hb (Nat.le_refl _), h.le, h.n1, h.n2⟩
theorem Off.far {W : World} {g i : Nat} {s : Sn} {u : Value} (h : Off W g s) : Off (W.setCell ⟨g, i, none⟩ u) g s := ⟨h.at_.far h.n1 h.n2, h.le, h.n1, h.n2⟩
theorem IntS.offB {w w' : World} {a : Option Addr} {g b o : Nat} {l : List Int} (h : IntS w a b o l) (hb : But g w w') (hne : 0 < l.length → b ≠ g) : IntS w' a b o l :=
  ⟨h.addr, fun i hi => by rw [hb.cell (p := ⟨b, o + i, none⟩) (h.lt (by omega)) (hne (by omega))]; exact h.row i hi⟩
theorem Off.but {W W' : World} {g : Nat} {s : Sn} (h : Off W g s) (hb : But g W W') : Off W' g s :=
  ⟨⟨h.at_.reads.offB hb h.n1, h.at_.last.offB hb h.n2⟩, h.le, h.n1, h.n2⟩

/-- One stored anew. -/
theorem SR.set {W : World} {g : Nat} {ss : List Sn} (h : SR W g ss) {k : Nat} (hk : k < ss.length) (s : Sn) :
    SR ((W.setCell ⟨g, k * 2, none⟩ (.slice s.a1 s.l1.length s.c1)).setCell ⟨g, k * 2 + 1, none⟩ (.slice s.a2 s.l2.length s.c2)) g (ss.set k s) := by
  refine ⟨fun i hi => ?_, fun j => by rw [World.frozen?_setCell, World.frozen?_setCell]; exact h.fz j⟩
  have hi' : i < ss.length := by simpa using hi
  by_cases e : i = k
  · subst e
    rw [List.getElem_set_self]
    refine ⟨?_, World.cell?_setCell_same _ _ _ ((World.cell?_setCell_other _ _ _ _ (fun e => by simp at e)).trans (h.c i hk).2)⟩
    rw [World.cell?_setCell_other _ _ _ _ (fun e => by simp at e)]
    exact World.cell?_setCell_same _ _ _ (h.c i hk).1
  · rw [List.getElem_set_ne (fun h => e h.symm)]
    refine ⟨?_, ?_⟩
    · rw [World.cell?_setCell_other _ _ _ _ (fun e => by simp at e; try omega), World.cell?_setCell_other _ _ _ _ (fun e => by simp at e; try omega)]
      exact (h.c i hi').1
    · rw [World.cell?_setCell_other _ _ _ _ (fun e => by simp at e; try omega), World.cell?_setCell_other _ _ _ _ (fun e => by simp at e; try omega)]
      exact (h.c i hi').2

/-- The builtin clear, at elements of two cells. -/
theorem run_clear_pairs {P : Program} (w : World) (t e : TypeId) (z : Value) (u v : Value) (ht : P.underlying t = some (.slice e)) (hv : ∀ w, (zeroValue e).run P w = .ok z w) (hz : z.cells = #[u, v]) (h1 : u.oneCell' = true) (h2 : v.oneCell' = true) (b o n c : Nat) (hn : 0 < n)
    (hc : ∀ j, j < n * 2 → (w.cell? ⟨b, o + j, none⟩).isSome = true) (hf : ∀ j, j < n * 2 → w.frozen? ⟨b, o + j, none⟩ = false) :
    ∃ zs : List Value, zs.length = n * 2 ∧ ∀ ty, (Builtin.clear_ #[t] ty #[.slice (some ⟨b, o, none⟩) n c]).run P w = .ok (.tuple #[]) (w.setCells b o zs) := by
  obtain ⟨zs, hzs⟩ : ∃ zs, (Builtin.zeroCells z.cells n).toList = zs := ⟨_, rfl⟩
  have hl : zs.length = n * 2 := by rw [← hzs, hz]; simp [Builtin.zeroCells]
  have hone : ∀ x ∈ zs, x.oneCell' = true := by
    rw [← hzs, hz]
    intro x hx
    simp [Builtin.zeroCells] at hx
    obtain ⟨i, _, rfl⟩ := hx
    rcases Nat.mod_two_eq_zero_or_one i with e | e
    · simp [e, h1]
    · simp [e, h2]
  have hst := run_storeCells_cells (P := P) b o zs 0 w (by rw [hl]; simpa using hc) (by rw [hl]; simpa using hf) hone
  simp only [Nat.add_zero] at hst
  obtain ⟨m, rfl⟩ : ∃ m, n = m + 1 := ⟨n - 1, by omega⟩
  exact ⟨zs, hl, fun ty => by simp [Builtin.clear_, run_underlying ht, hv, hzs, hst]⟩

end Go.Proofs.Ytkbjdhjcbhdpmab
