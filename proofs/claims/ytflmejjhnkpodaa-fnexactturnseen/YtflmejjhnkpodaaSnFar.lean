/- Numbers, rows of the call's own and boxes of two cells, while other blocks turn. No condition. -/
import Derived.Test.YtflmejjhnkpodaaBut
import Derived.Test.YtflmejjhnkpodaaSnMem
import Derived.Deep.AppendLies
import Derived.Deep.RegionHeld3
namespace Go.Proofs.Ytflmejjhnkpodaa
open Go.RowKit

theorem But.grown {rb : Nat} {w0 w w' : World} {row : Option Nat} (h : But rb w0 w) (hg : w.grownBy w' row) (hr : ∀ k, row = some k → w0.heap.size ≤ k) : But rb w0 w' :=
  ⟨hg.os.trans h.os, hg.tape.trans h.tape, hg.output.trans h.output, Nat.le_trans h.size hg.size, fun k hk hne => (hg.block k (Nat.lt_of_lt_of_le hk h.size) (fun e => by have := hr k e.symm; omega)).trans (h.block k hk hne)⟩
theorem own_ge {w : World} {base : Nat} {e : TypeId} {size : Nat} {v : Value} {n : Nat} {xs : List Value} (h : w.ownsRow base e size v n xs) : ∀ k, v.ownBlock = some k → base ≤ k := fun k hk => (h.lt k hk).1
theorem snoc_len {α : Type} (l : List α) (x : α) : (l ++ [x]).length = l.length + 1 := by simp

theorem below_grown {B : Nat} {w0 w w' : World} {row : Option Nat} (h : Below B w0 w) (hg : w.grownBy w' row) (hr : ∀ k, row = some k → B ≤ k) (hB : B ≤ w.heap.size := by simp) : Below B w0 w' :=
  ⟨hg.os.trans h.os, hg.tape.trans h.tape, hg.output.trans h.output, Nat.le_trans h.size hg.size, fun k hk => (hg.block k (by omega) (fun e => by have := hr k e.symm; omega)).trans (h.block k hk)⟩
theorem ownsRow_below {w w' : World} {base : Nat} {e : TypeId} {size : Nat} {v : Value} {n : Nat} {xs : List Value} (h : w.ownsRow base e size v n xs) (hb : Below w.heap.size w w') : w'.ownsRow base e size v n xs := by
  obtain ⟨h1, h2⟩ := h
  refine ⟨h1, ?_⟩
  rcases h2 with h2 | ⟨g, cap, cur, hv, hg, hh, r⟩
  · exact Or.inl h2
  · refine Or.inr ⟨g, cap, cur, hv, hg, ?_, r⟩
    rw [hb.block g (by by_cases hlt : g < w.heap.size; exact hlt; rw [Array.getElem?_eq_none (by omega)] at hh; cases hh)]
    exact hh

theorem ownsRow_ne {w : World} {B g n c b i : Nat} {e : TypeId} {size : Nat} {xs : List Value} {u : Value} (h : w.ownsRow B e size (.slice (some ⟨g, 0, none⟩) n c) n xs) (hne : g ≠ b) : (w.setCell ⟨b, i, none⟩ u).ownsRow B e size (.slice (some ⟨g, 0, none⟩) n c) n xs := by
  obtain ⟨h1, h2⟩ := h
  refine ⟨h1, ?_⟩
  rcases h2 with h2 | ⟨g', cap, cur, hv, hg, hh, r⟩
  · exact Or.inl h2
  · have : g' = g := by simp at hv; exact hv.1.symm
    subst this
    exact Or.inr ⟨g', cap, cur, hv, hg, (Below.heap_setCell _ _ _ _ hne).trans hh, r⟩
/-- The cells of numbers. -/
def nums (l : List Int) : List Value := l.map (.int .i64)
theorem nums_length (l : List Int) : (nums l).length = l.length := by simp [nums]

/-- A box of what was seen. -/
structure Slot2 (w : World) (b : Nat) (x y : Value) : Prop where
  blk : w.heap[b]? = some (.cells #[x, y] 28 (0, 0))
theorem Slot2.lt {w : World} {b : Nat} {x y : Value} (h : Slot2 w b x y) : b < w.heap.size := by
  by_cases hb : b < w.heap.size
  · exact hb
  · have := h.blk; rw [Array.getElem?_eq_none (by omega)] at this; cases this
theorem Slot2.c0 {w : World} {b : Nat} {x y : Value} (h : Slot2 w b x y) : w.cell? ⟨b, 0, none⟩ = some x := by simp [World.cell?, h.blk]
theorem Slot2.c1 {w : World} {b : Nat} {x y : Value} (h : Slot2 w b x y) : w.cell? ⟨b, 1, none⟩ = some y := by simp [World.cell?, h.blk]
theorem Slot2.fz {w : World} {b : Nat} {x y : Value} (h : Slot2 w b x y) (i : Nat) : w.frozen? ⟨b, i, none⟩ = false := by simp [World.frozen?, h.blk]
theorem Slot2.of {w w' : World} {b : Nat} {x y : Value} (h : Slot2 w b x y) (hb : w'.heap[b]? = w.heap[b]?) : Slot2 w' b x y := ⟨hb.trans h.blk⟩
theorem Slot2.but {w w' : World} {b rb : Nat} {x y : Value} (h : Slot2 w b x y) (hb : But rb w w') (hne : b ≠ rb) : Slot2 w' b x y := h.of (hb.block b h.lt hne)
theorem Slot2.grown {w w' : World} {b B n : Nat} {x y v : Value} {xs : List Value} (h : Slot2 w b x y) (hg : w.grownBy w' v.ownBlock) (ho : w.ownsRow B 3 1 v n xs) : Slot2 w' b x y := by
  refine h.of (hg.block b h.lt fun e => ?_)
  rcases ho.2 with ⟨hv, _⟩ | ⟨g, cap, cur, hv, _, hh, _⟩
  · rw [hv] at e; simp [Value.ownBlock] at e
  · rw [hv] at e
    simp [Value.ownBlock] at e
    subst e
    rw [h.blk] at hh
    simp at hh
theorem Slot2.far {w : World} {b b' i : Nat} {x y : Value} (h : Slot2 w b x y) (hne : b' ≠ b) (u : Value) : Slot2 (w.setCell ⟨b', i, none⟩ u) b x y := h.of (Below.heap_setCell _ _ _ _ (fun e => hne e.symm))
theorem Slot2.set0 {w : World} {b : Nat} {x y : Value} (h : Slot2 w b x y) (u : Value) : Slot2 (w.setCell ⟨b, 0, none⟩ u) b u y := ⟨heap_setCell_same w b 0 #[x, y] _ u h.blk⟩
theorem Slot2.set1 {w : World} {b : Nat} {x y : Value} (h : Slot2 w b x y) (u : Value) : Slot2 (w.setCell ⟨b, 1, none⟩ u) b x u := ⟨heap_setCell_same w b 1 #[x, y] _ u h.blk⟩
/-- A row of numbers is not touched by a store into a box. -/
theorem own_slot {w : World} {b i B n : Nat} {x y v : Value} {xs : List Value} (ho : w.ownsRow B 3 1 v n xs) (h : Slot2 w b x y) (u : Value) : (w.setCell ⟨b, i, none⟩ u).ownsRow B 3 1 v n xs := by
  refine ⟨ho.1, ?_⟩
  rcases ho.2 with h0 | ⟨g, cap, cur, hv, hg, hh, r⟩
  · exact Or.inl h0
  · refine Or.inr ⟨g, cap, cur, hv, hg, ?_, r⟩
    rw [Below.heap_setCell _ _ _ _ (fun e => ?_)]
    · exact hh
    · simp at e
      subst e
      rw [h.blk] at hh
      simp at hh

/-- A row of numbers, read. -/
theorem own_nums {w : World} {base : Nat} {v : Value} {l : List Int} (h : w.ownsRow base 3 1 v l.length (nums l)) : ∃ a g c, v = .slice a l.length c ∧ IntS w a g 0 l ∧ base ≤ g ∧ (a = none → c = 0) := by
  rcases h.2 with ⟨hv, hn⟩ | ⟨g, cap, cur, hv, hg, hh, r⟩
  · have : l = [] := List.length_eq_zero_iff.1 hn
    subst this
    exact ⟨none, base, 0, hv, IntS.nil _ _ _ _, Nat.le_refl _, fun _ => rfl⟩
  · refine ⟨_, g, cap, hv, ⟨fun _ => rfl, fun i hi => ?_⟩, hg, fun h => by cases h⟩
    have hc := h.cells (g := g) (by rw [hv]; rfl) i (.int .i64 l[i]) (by simp [nums, hi])
    rwa [Go.WideShapes.add_plain] at hc

/-- A row of an older block is not the one that grows. -/
theorem own_below {v v' : Value} {B2 : Nat} (h : ∀ k, v.ownBlock = some k → k < B2) (h' : ∀ k, v'.ownBlock = some k → B2 ≤ k) : v.ownBlock = none ∨ v.ownBlock ≠ v'.ownBlock := by
  cases hv : v.ownBlock with
  | none => exact Or.inl rfl
  | some k =>
    refine Or.inr fun e => ?_
    have h1 := h k hv
    have h2 := h' k e.symm
    omega
theorem own_above {v v' : Value} {B2 : Nat} (h : ∀ k, v.ownBlock = some k → k < B2) (h' : ∀ k, v'.ownBlock = some k → B2 ≤ k) : v'.ownBlock = none ∨ v'.ownBlock ≠ v.ownBlock := by
  cases hv : v'.ownBlock with
  | none => exact Or.inl rfl
  | some k =>
    refine Or.inr fun e => ?_
    have h1 := h' k hv
    have h2 := h k e.symm
    omega
theorem three {m : List Int} (h : m.length = 3) : ∃ x y z, m = [x, y, z] := by
  match m, h with
  | [x, y, z], _ => exact ⟨x, y, z, rfl⟩
theorem own_cap {w : World} {base g n cap : Nat} {e : TypeId} {size : Nat} {xs : List Value} (h : w.ownsRow base e size (.slice (some ⟨g, 0, none⟩) n cap) n xs) : n ≤ cap := by
  rcases h.2 with ⟨hv, _⟩ | ⟨g', cap', cur, hv, _, _, hc, _⟩
  · simp at hv
  · simp at hv
    obtain ⟨_, rfl⟩ := hv
    exact hc
theorem pick2 (q : Nat) (h : q < 2) : ∃ x : Int, (#[Value.int .i64 (-1), Value.int .i64 4] : Array Value)[q]? = some (.int .i64 x) := by
  match q, h with
  | 0, _ => exact ⟨-1, rfl⟩
  | 1, _ => exact ⟨4, rfl⟩
theorem pick2_alloc (w : World) (t : TypeId) {q : Nat} {x : Int} (h : (#[Value.int .i64 (-1), Value.int .i64 4] : Array Value)[q]? = some (.int .i64 x)) : (w.alloc (.cells #[.int .i64 (-1), .int .i64 4] t)).cell? ⟨w.heap.size, q, none⟩ = some (.int .i64 x) := by
  exact (World.cell?_alloc_new w _ t q).trans h
theorem alloc_new (w : World) (o : Obj) (n : Nat) (hn : n = w.heap.size) : (w.alloc o).heap[n]? = some o := by subst hn; exact heap_alloc_new w o
theorem alloc_old (w : World) (o : Obj) (k : Nat) (hk : k < w.heap.size) : (w.alloc o).heap[k]? = w.heap[k]? := (below1 w o).block k hk

theorem Try.infoInt : (Try.prog.info? 3).map (fun i => (i.zero, i.size, i.bytes)) = some (some (.int .i64 0), 1, 8) := by kernel_rfl

theorem IntS.but {w w' : World} {a : Option Addr} {rb b o : Nat} {l : List Int} (h : IntS w a b o l) (hb : But rb w w') (hne : b ≠ rb) : IntS w' a b o l :=
  ⟨h.addr, fun i hi => by rw [hb.cell (p := ⟨b, o + i, none⟩) (h.lt (by omega)) hne]; exact h.row i hi⟩
theorem Sn.At.but {s : Sn} {w w' : World} {rb : Nat} (h : s.At w) (hb : But rb w w') (h1 : s.b1 ≠ rb) (h2 : s.b2 ≠ rb) : s.At w' := ⟨h.reads.but hb h1, h.last.but hb h2⟩

theorem IntS.far {w : World} {a : Option Addr} {b o B i : Nat} {l : List Int} {u : Value} (h : IntS w a b o l) (hb : 0 < l.length → b ≠ B) : IntS (w.setCell ⟨B, i, none⟩ u) a b o l :=
  ⟨h.addr, fun j hj => by rw [World.cell?_setCell_other _ _ _ _ (fun e => hb (by omega) (congrArg Addr.block e).symm)]; exact h.row j hj⟩
theorem Sn.At.far {s : Sn} {w : World} {B i : Nat} {u : Value} (h : s.At w) (h1 : 0 < s.l1.length → s.b1 ≠ B) (h2 : 0 < s.l2.length → s.b2 ≠ B) : s.At (w.setCell ⟨B, i, none⟩ u) := ⟨h.reads.far h1, h.last.far h2⟩

theorem IntS.kept {w w' : World} {a : Option Addr} {b o : Nat} {l : List Int} {row : Option Nat} (h : IntS w a b o l) (hg : w.grownBy w' row) (hne : 0 < l.length → some b ≠ row) : IntS w' a b o l :=
  ⟨h.addr, fun i hi => hg.cell (h.row i hi) (hne (by omega))⟩
theorem Sn.At.kept {s : Sn} {w w' : World} {row : Option Nat} (h : s.At w) (hg : w.grownBy w' row) (h1 : 0 < s.l1.length → some s.b1 ≠ row) (h2 : 0 < s.l2.length → some s.b2 ≠ row) : s.At w' := ⟨h.reads.kept hg h1, h.last.kept hg h2⟩


theorem own_fzS {w : World} {B g n cap : Nat} {e : TypeId} {size : Nat} {xs : List Value} (h : w.ownsRow B e size (.slice (some ⟨g, 0, none⟩) n cap) n xs) (i : Nat) : w.frozen? ⟨g, i, none⟩ = false := by
  rcases h.2 with ⟨hv, _⟩ | ⟨g', cap', cur, hv, _, hh, _⟩
  · simp at hv
  · simp at hv
    obtain ⟨rfl, _⟩ := hv
    simp [World.frozen?, hh]
theorem own_capP {w : World} {base g n cap : Nat} {e : TypeId} {size : Nat} {xs : List Value} (h : w.ownsRow base e size (.slice (some ⟨g, 0, none⟩) n cap) n xs) : n ≤ cap := by
  rcases h.2 with ⟨hv, _⟩ | ⟨g', cap', cur, hv, _, _, hc, _⟩
  · simp at hv
  · simp at hv
    obtain ⟨_, rfl⟩ := hv
    exact hc

/-- A block of one that was seen. -/
def Sn.blk (s : Sn) (b : Nat) : Prop := (0 < s.l1.length ∧ b = s.b1) ∨ (0 < s.l2.length ∧ b = s.b2)
theorem Sn.blk_lt {s : Sn} {w : World} {b : Nat} (h : s.At w) (hb : s.blk b) : b < w.heap.size := by
  rcases hb with ⟨h0, rfl⟩ | ⟨h0, rfl⟩
  · exact h.reads.lt h0
  · exact h.last.lt h0
/-- Its two lists lie apart, and may be written. -/
structure Own2 (w : World) (s : Sn) : Prop where
  ne : 0 < s.l1.length → 0 < s.l2.length → s.b1 ≠ s.b2
  fz : ∀ b, s.blk b → ∀ j, w.frozen? ⟨b, j, none⟩ = false
theorem Own2.below {w w' : World} {s : Sn} (h : Own2 w s) (ha : s.At w) (hb : Below w.heap.size w w') : Own2 w' s :=
  ⟨h.ne, fun b hk j => (hb.frozen (p := ⟨b, j, none⟩) (Sn.blk_lt ha hk)).trans (h.fz b hk j)⟩
theorem Own2.far {w : World} {s : Sn} {p : Addr} {u : Value} (h : Own2 w s) : Own2 (w.setCell p u) s := ⟨h.ne, fun b hk j => by rw [World.frozen?_setCell]; exact h.fz b hk j⟩
/-- No two lists of these share memory. -/
structure Sep (uu : List Sn) : Prop where
  far : ∀ i j (hi : i < uu.length) (hj : j < uu.length), i ≠ j → ∀ b, uu[i].blk b → ¬ uu[j].blk b
  ne : ∀ s ∈ uu, 0 < s.l1.length → 0 < s.l2.length → s.b1 ≠ s.b2

end Go.Proofs.Ytflmejjhnkpodaa
