/- A way that was drawn, in memory, and what is written into one. No condition. spec.l71Exec: a drawn program, and one way in which all may have been, mostly. spec.DrawExecSeen and spec.DrawExecOk: a drawn program, and a way. Of codes of at most 1048576 bytes. A program and a way in two boxes of a law. No condition. impl's ways: what an event reads or writes. Of at most 1048576 events. impl's ExecOk: whether a way is told just so. Of at most 1048576 threads, steps, numbers and rows. What is seen in a way: plainly, and impl.ExecSeen. Of at most 1048576 threads, steps, numbers and rows. spec.ExecSeen: what is seen in a way. Of at most 1048576 threads, steps, numbers and rows. How many numbers are seen in a way. No condition. How impl and spec compare what was seen: cmp.Compare, slices.Compare, cmp.Or, impl.compareSeen; spec.l2Comp, l2Seen. Of lists of at most 1048576 numbers. impl.compareSeen; spec.l2Comp, l2Seen. Of lists of at most 1048576 numbers. impl's and spec's ProgReads: how many reads a program has. Of programs of at most 1048576 threads, each of at most 1048576 steps. impl's and spec's SeenOk. Of programs of at most 1048576 threads, each of at most 1048576 steps, and of lists of at most 1048576 numbers. What is seen in a way that is ok may be seen of the program: plainly. No condition. impl's and spec's SeenLess. Of lists of at most 1048576 numbers. The order of what was seen is one: two are the same, or one stands ahead; what stands ahead of what stands ahead stands ahead. No condition. The laws' own comparing: laws.lpInts, lpSame. Of lists of at most 1048576 numbers. The law FnExecSeen, walked: it answers true, and leaves all as it was. Of whatever code. -/
import Derived.Test.YtdpnnghomfaleaaBnYa
import Derived.Test.YtdpnnghomfaleaaDrAn
import Derived.Test.YtdpnnghomfaleaaDrOp
import Derived.Test.YtdpnnghomfaleaaOkEnd
import Derived.Test.YtdpnnghomfaleaaOsVal
import Derived.Test.YtdpnnghomfaleaaOkFrom
import Derived.Test.YtdpnnghomfaleaaOkOrd
import Derived.Deep.RegionHeld3
import Derived.Test.YtdpnnghomfaleaaStepGo
import Derived.Deep.OwnRows
import Derived.Test.YtdpnnghomfaleaaOsOk
import Derived.Test.YtdpnnghomfaleaaSnMem
import Derived.Deep.RegionWith
import Derived.Deep.QuietTactic
import Derived.BigQuiet
import Derived.Test.YtdpnnghomfaleaaSProg
import Derived.Test.YtdpnnghomfaleaaMathN
import Derived.Test.YtdpnnghomfaleaaQuietB
import Derived.Test.YtdpnnghomfaleaaSnMath

namespace Go.Proofs.Ytdpnnghomfaleaa
open Go.RowKit

theorem But.grows {rb : Nat} {w w' : World} (h : But rb w w') : w.grownBy w' (some rb) := ⟨h.os, h.tape, h.output, h.size, fun k hk hne => h.block k hk (fun e => hne (by rw [e]))⟩
theorem Off1.symm {u v : Value} (h : Off1 u v.ownBlock) : Off1 v u.ownBlock := fun k hk e => h k e hk
theorem Xw.but {w w' : World} {base rb : Nat} {fv ov : Value} {l : List Int} {cs : List Value} {rows : List (List Int)} (h : Xw w base fv ov l cs rows) (hb : But rb w w') (hr : rb < base) : Xw w' base fv ov l cs rows :=
  h.grown hb.grows (h.off (fun k hk => by have : rb = k := Option.some.inj hk; omega))

/-- A way that can be read, all in blocks that are told by P. -/
structure WyP (P : Nat → Prop) (w : World) (fv ov : Value) (l : List Int) (rows : List (List Int)) : Prop where
  f : ∃ fa fb fc, fv = .slice fa l.length fc ∧ IntS w fa fb 0 l ∧ (0 < l.length → P fb)
  o : ∃ ra rb rc, ov = .slice ra rows.length rc ∧ (0 < rows.length → ra = some ⟨rb, 0, none⟩ ∧ P rb) ∧ ∀ i (h : i < rows.length), ∃ a' b' c', w.cell? ⟨rb, i, none⟩ = some (.slice a' rows[i].length c') ∧ IntS w a' b' 0 rows[i] ∧ (0 < rows[i].length → P b')
theorem WyP.keep {P P' : Nat → Prop} {w w' : World} {fv ov : Value} {l : List Int} {rows : List (List Int)} (h : WyP P w fv ov l rows) (hP : ∀ b, P b → P' b) (k : ∀ p u, P p.block → w.cell? p = some u → w'.cell? p = some u) : WyP P' w' fv ov l rows := by
  obtain ⟨⟨fa, fb, fc, e1, e2, e3⟩, ⟨ra, rb, rc, d1, d2, d3⟩⟩ := h
  refine ⟨⟨fa, fb, fc, e1, ⟨e2.addr, fun i hi => k _ _ (e3 (by omega)) (e2.row i hi)⟩, fun h => hP _ (e3 h)⟩, ⟨ra, rb, rc, d1, fun h => ⟨(d2 h).1, hP _ (d2 h).2⟩, fun i hi => ?_⟩⟩
  obtain ⟨a', b', c', g1, g2, g3⟩ := d3 i hi
  exact ⟨a', b', c', k _ _ (d2 (by omega)).2 g1, ⟨g2.addr, fun j hj => k _ _ (g3 (by omega)) (g2.row j hj)⟩, fun h => hP _ (g3 h)⟩
theorem WyP.set {P P' : Nat → Prop} {w : World} {fv ov : Value} {l : List Int} {rows : List (List Int)} {B i : Nat} {u : Value} (h : WyP P w fv ov l rows) (hP : ∀ b, P b → P' b ∧ b ≠ B) : WyP P' (w.setCell ⟨B, i, none⟩ u) fv ov l rows :=
  h.keep (fun b hb => (hP b hb).1) (fun p _ hp hc => (World.cell?_setCell_other _ _ _ _ (fun e => (hP _ hp).2 (by rw [← e]))).trans hc)
theorem WyP.ss {P : Nat → Prop} {w : World} {fv ov : Value} {l : List Int} {rows : List (List Int)} (h : WyP P w fv ov l rows) : ∃ fa fb fc ra rb rc, fv = .slice fa l.length fc ∧ ov = .slice ra rows.length rc ∧ IntS w fa fb 0 l ∧ IntSS w ra rb 0 rows := by
  obtain ⟨⟨fa, fb, fc, e1, e2, e3⟩, ⟨ra, rb, rc, d1, d2, d3⟩⟩ := h
  exact ⟨fa, fb, fc, ra, rb, rc, e1, d1, e2, ⟨fun h => (d2 h).1, fun i hi => by
    obtain ⟨a', b', c', g1, g2, g3⟩ := d3 i hi
    exact ⟨a', b', 0, c', by rw [Nat.zero_add]; exact g1, g2⟩⟩⟩

/-- Where a row of one's own lies. -/
theorem own_where {w : World} {base n : Nat} {e : TypeId} {v : Value} {xs : List Value} (h : w.ownsRow base e 1 v n xs) : ∃ a g c, v = .slice a n c ∧ (0 < n → a = some ⟨g, 0, none⟩ ∧ v.ownBlock = some g) ∧ ∀ j u, xs[j]? = some u → w.cell? ⟨g, j, none⟩ = some u := by
  rcases h.2 with ⟨hv, hn⟩ | ⟨g, cap, cur, hv, hg, hh, hc, r⟩
  · have hx : xs = [] := List.length_eq_zero_iff.1 (by rw [h.1, hn])
    subst hx
    exact ⟨none, 0, 0, by rw [hv, hn], fun h => absurd h (by omega), fun j u hj => (by simp at hj)⟩
  · refine ⟨_, g, cap, hv, fun _ => ⟨rfl, by rw [hv]; rfl⟩, fun j u hj => ?_⟩
    have := h.cells (g := g) (by rw [hv]; rfl) j u hj
    rwa [Go.WideShapes.add_plain, Nat.zero_add] at this
theorem own_ints2 {w : World} {base : Nat} {e : TypeId} {v : Value} {l : List Int} (h : w.ownsRow base e 1 v l.length (nums l)) : ∃ a g c, v = .slice a l.length c ∧ IntS w a g 0 l ∧ (0 < l.length → v.ownBlock = some g) := by
  obtain ⟨a, g, c, e1, e2, e3⟩ := own_where h
  exact ⟨a, g, c, e1, ⟨fun h => (e2 h).1, fun i hi => by rw [Nat.zero_add]; exact e3 i _ (by simp [nums, hi])⟩, fun h => (e2 h).2⟩

/-- A way in rows of its own, off from a block, is one that can be read. -/
theorem Xw.wy {w : World} {base X : Nat} {fv ov : Value} {l : List Int} {cs : List Value} {rows : List (List Int)} (h : Xw w base fv ov l cs rows) (ho : Xoff fv ov cs (some X)) : WyP (fun b => base ≤ b ∧ b ≠ X) w fv ov l rows := by
  obtain ⟨fa, fb, fc, e1, e2, e3⟩ := own_ints2 h.from_
  obtain ⟨ra, rb, rc, d1, d2, d3⟩ := own_where h.ord
  have key : ∀ {v : Value} {g : Nat} {e : TypeId} {n : Nat} {xs : List Value}, w.ownsRow base e 1 v n xs → Off1 v (some X) → v.ownBlock = some g → base ≤ g ∧ g ≠ X := fun hv hof hb => ⟨(hv.lt _ hb).1, fun e => hof _ hb (by rw [e])⟩
  refine ⟨⟨fa, fb, fc, e1, e2, fun hl => key h.from_ ho.from_ (e3 hl)⟩, ⟨ra, rb, rc, d1, fun hl => ⟨(d2 hl).1, key h.ord ho.ord (d2 hl).2⟩, fun i hi => ?_⟩⟩
  obtain ⟨u, g1, g2, _, _⟩ := h.row i hi
  obtain ⟨a', b', c', f1, f2, f3⟩ := own_ints2 g2
  exact ⟨a', b', c', by rw [← f1]; exact d3 i u g1, f2, fun hl => key g2 (ho.row u (List.mem_of_getElem? g1)) (f3 hl)⟩

/-- Two ways to be off. -/
theorem Off1.some {v : Value} {row : Option Nat} {g : Nat} (h : Off1 v row) (hg : v.ownBlock = some g) : row ≠ some g := h g hg

/-- A number of From is written. -/
theorem Xw.setFrom {w : World} {base X fb fc n k : Nat} {ov : Value} {l : List Int} {cs : List Value} {rows : List (List Int)} {v : Int} (h : Xw w base (.slice (some ⟨fb, 0, none⟩) n fc) ov l cs rows) (ho : Xoff (.slice (some ⟨fb, 0, none⟩) n fc) ov cs (some X)) (hk : k < l.length) : WyP (fun b => base ≤ b ∧ b ≠ X) (w.setCell ⟨fb, k, none⟩ (.int .i64 v)) (.slice (some ⟨fb, 0, none⟩) n fc) ov (l.set k v) rows := by
  obtain ⟨⟨fa, fb', fc', e1, e2, e3⟩, _⟩ := h.wy ho
  simp only [Value.slice.injEq] at e1
  obtain ⟨rfl, rfl, rfl⟩ := e1
  have e4 := e2.addr (by omega)
  obtain ⟨rfl⟩ : fb = fb' := by simpa using e4
  have hg := grown_set w fb k (.int .i64 v)
  have hord : Off1 ov (some fb) := fun q hq e => h.apart fb rfl (by rw [hq]; exact e.symm)
  have ord' := hord.kept h.ord hg
  obtain ⟨ra, rb, rc, d1, d2, d3⟩ := own_where ord'
  have key : ∀ {v : Value} {g : Nat} {e : TypeId} {n : Nat} {xs : List Value}, w.ownsRow base e 1 v n xs → Off1 v (some X) → v.ownBlock = some g → base ≤ g ∧ g ≠ X := fun hv hof hb => ⟨(hv.lt _ hb).1, fun e => hof _ hb (by rw [e])⟩
  refine ⟨⟨some ⟨fb, 0, none⟩, fb, fc, by rw [List.length_set], ⟨fun _ => rfl, fun i hi => ?_⟩, fun hl => e3 (by simpa using hl)⟩, ⟨ra, rb, rc, d1, fun hl => ⟨(d2 hl).1, key h.ord ho.ord (d2 hl).2⟩, fun i hi => ?_⟩⟩
  · have hi' : i < l.length := by simpa using hi
    have c0 := e2.row i hi'
    rw [List.getElem_set]
    by_cases hik : k = i
    · subst hik
      rw [if_pos rfl, Nat.zero_add] at *
      exact World.cell?_setCell_same _ _ _ c0
    · rw [if_neg hik, World.cell?_setCell_other _ _ _ _ (fun e => by have := congrArg Addr.off e; simp at this; omega)]
      exact c0
  · obtain ⟨u, g1, g2, _, g4⟩ := h.row i hi
    have g5 : Off1 u (some fb) := g4
    have g2' := g5.kept g2 hg
    obtain ⟨a', b', c', f1, f2, f3⟩ := own_ints2 g2'
    exact ⟨a', b', c', by rw [← f1]; exact d3 i u g1, f2, fun hl => key g2 (ho.row u (List.mem_of_getElem? g1)) (f3 hl)⟩

/-- A number is appended to From. -/
theorem Xw.addFrom {w W w' : World} {base X g cap : Nat} {fv ov : Value} {l : List Int} {cs : List Value} {rows : List (List Int)} {v : Int} (h : Xw w base fv ov l cs rows) (ho : Xoff fv ov cs (some X)) (hX : X < w.heap.size) (hb : Below w.heap.size w W) (hown : w'.ownsRow base 3 1 (.slice (some ⟨g, 0, none⟩) (l.length + 1) cap) (l.length + 1) (nums l ++ [.int .i64 v])) (hg : W.grownBy w' fv.ownBlock) (hat : fv.ownBlock = some g ∨ g = W.heap.size) : WyP (fun b => base ≤ b ∧ b ≠ X) w' (.slice (some ⟨g, 0, none⟩) (l.length + 1) cap) ov (l ++ [v]) rows := by
  have hW := h.below hb
  have ord' := h.apart.symm.kept hW.ord hg
  obtain ⟨ra, rb, rc, d1, d2, d3⟩ := own_where ord'
  have key : ∀ {v : Value} {g : Nat} {e : TypeId} {n : Nat} {xs : List Value}, w.ownsRow base e 1 v n xs → Off1 v (some X) → v.ownBlock = some g → base ≤ g ∧ g ≠ X := fun hv hof hb => ⟨(hv.lt _ hb).1, fun e => hof _ hb (by rw [e])⟩
  obtain ⟨hI, hge⟩ := own_at (l := l ++ [v]) hown (by simp [nums])
  refine ⟨⟨_, g, cap, by rw [List.length_append]; rfl, hI, fun _ => ⟨hge, ?_⟩⟩, ⟨ra, rb, rc, d1, fun hl => ⟨(d2 hl).1, key h.ord ho.ord (d2 hl).2⟩, fun i hi => ?_⟩⟩
  · intro e
    rcases hat with e1 | e1
    · exact ho.from_ g e1 (by rw [e])
    · have := hb.size; omega
  · obtain ⟨u, g1, g2, _, g4⟩ := hW.row i hi
    obtain ⟨u', h1, h2, _, _⟩ := h.row i hi
    rw [g1] at h1
    obtain ⟨rfl⟩ := h1
    have g2' := g4.kept g2 hg
    obtain ⟨a', b', c', f1, f2, f3⟩ := own_ints2 g2'
    exact ⟨a', b', c', by rw [← f1]; exact d3 i u g1, f2, fun hl => key h2 (ho.row u (List.mem_of_getElem? g1)) (f3 hl)⟩

/-- A number is appended to the first row of Order. -/
theorem Xw.addOrder {w W w' : World} {base X g cap ob oc m : Nat} {fv u0 : Value} {l r0 : List Int} {us : List Value} {rs : List (List Int)} {v : Int} (h : Xw w base fv (.slice (some ⟨ob, 0, none⟩) m oc) l (u0 :: us) (r0 :: rs)) (ho : Xoff fv (.slice (some ⟨ob, 0, none⟩) m oc) (u0 :: us) (some X)) (hX : X < w.heap.size) (hb : Below w.heap.size w W) (hown : w'.ownsRow base 3 1 (.slice (some ⟨g, 0, none⟩) (r0.length + 1) cap) (r0.length + 1) (nums r0 ++ [.int .i64 v])) (hg : W.grownBy w' u0.ownBlock) (hat : u0.ownBlock = some g ∨ g = W.heap.size) :
    WyP (fun b => base ≤ b ∧ b ≠ X) (w'.setCell ⟨ob, 0, none⟩ (.slice (some ⟨g, 0, none⟩) (r0.length + 1) cap)) fv (.slice (some ⟨ob, 0, none⟩) m oc) l ((r0 ++ [v]) :: rs) := by
  have hW := h.below hb
  have key : ∀ {v : Value} {g : Nat} {e : TypeId} {n : Nat} {xs : List Value}, w.ownsRow base e 1 v n xs → Off1 v (some X) → v.ownBlock = some g → base ≤ g ∧ g ≠ X := fun hv hof hb => ⟨(hv.lt _ hb).1, fun e => hof _ hb (by rw [e])⟩
  obtain ⟨u1, p1, p2, p3, p4⟩ := h.row 0 (by simp)
  obtain ⟨rfl⟩ : u0 = u1 := by simpa using p1
  have hobl : ob < w.heap.size := (h.ord.lt ob rfl).2
  have ord' := (Off1.symm p3).kept hW.ord hg
  have from' := (Off1.symm p4).kept hW.from_ hg
  have hs := grown_set w' ob 0 (.slice (some ⟨g, 0, none⟩) (r0.length + 1) cap)
  have from'' := (show Off1 fv (some ob) from h.apart).kept from' hs
  obtain ⟨fa, fb, fc, e1, e2, e3⟩ := own_ints2 from''
  obtain ⟨ra, rb, rc, d1, d2, d3⟩ := own_where ord'
  have ed := (d2 (by simp)).1
  simp only [Value.slice.injEq] at d1
  obtain ⟨rfl, hm, rfl⟩ := d1
  obtain ⟨rfl⟩ : ob = rb := by simpa using ed
  have hgo : g ≠ ob := fun e => by
    rcases hat with e1 | e1
    · exact p3 g e1 (by rw [e]; rfl)
    · have := hb.size; omega
  have hgX : g ≠ X := fun e => by
    rcases hat with e1 | e1
    · exact ho.row u0 (by simp) g e1 (by rw [e])
    · have := hb.size; omega
  obtain ⟨hI, hge⟩ := own_at (l := r0 ++ [v]) hown (by simp [nums])
  refine ⟨⟨fa, fb, fc, e1, e2, fun hl => key h.from_ ho.from_ (e3 hl)⟩, ⟨_, ob, oc, by rw [hm]; rfl, fun _ => ⟨rfl, key h.ord ho.ord rfl⟩, fun i hi => ?_⟩⟩
  rcases i with _ | i
  · refine ⟨some ⟨g, 0, none⟩, g, cap, ?_, hI.far (fun _ => hgo), fun _ => ⟨hge, hgX⟩⟩
    rw [World.cell?_setCell_same _ _ _ (d3 0 u0 (by simp))]
    simp
  · obtain ⟨u, g1, g2, g3, _⟩ := hW.row (i + 1) (by simpa using hi)
    obtain ⟨u', h1, h2, _, _⟩ := h.row (i + 1) (by simpa using hi)
    rw [g1] at h1
    obtain ⟨rfl⟩ := h1
    have o1 : Off1 u u0.ownBlock := h.each (i + 1) 0 u u0 (by omega) g1 (by simp)
    have g2' := (show Off1 u (some ob) from g3).kept (o1.kept g2 hg) hs
    obtain ⟨a', b', c', f1, f2, f3⟩ := own_ints2 g2'
    refine ⟨a', b', c', ?_, f2, fun hl => key h2 (ho.row u (List.mem_of_getElem? g1)) (f3 hl)⟩
    rw [World.cell?_setCell_other _ _ _ _ (fun e => by have := congrArg Addr.off e; simp at this), d3 (i + 1) u g1, f1]
    rfl
end Go.Proofs.Ytdpnnghomfaleaa

namespace Go.Proofs.Ytdpnnghomfaleaa
open Go.RowKit

/-- A box of two cells. -/
structure BxX (w : World) (b : Nat) (x y : Value) : Prop where
  c0 : w.cell? ⟨b, 0, none⟩ = some x
  c1 : w.cell? ⟨b, 1, none⟩ = some y
  fz : ∀ i, w.frozen? ⟨b, i, none⟩ = false
theorem BxX.lt {w : World} {b : Nat} {x y : Value} (h : BxX w b x y) : b < w.heap.size := World.block_lt_of_cell? _ _ h.c0
theorem BxX.of {w w' : World} {b : Nat} {x y : Value} (h : BxX w b x y) (hb : w'.heap[b]? = w.heap[b]?) : BxX w' b x y :=
  ⟨(World.cell?_of_block (a := ⟨b, 0, none⟩) hb).trans h.c0, (World.cell?_of_block (a := ⟨b, 1, none⟩) hb).trans h.c1, fun i => (World.frozen?_of_block (a := ⟨b, i, none⟩) hb).trans (h.fz i)⟩
theorem BxX.but {w w' : World} {b rb : Nat} {x y : Value} (h : BxX w b x y) (hb : But rb w w') (hne : b ≠ rb) : BxX w' b x y := h.of (hb.block b h.lt hne)
theorem BxX.bel {w w' : World} {b B : Nat} {x y : Value} (h : BxX w b x y) (hb : Below B w w') (hB : b < B) : BxX w' b x y := h.of (hb.block b hB)
theorem BxX.apart {w w' : World} {b : Nat} {x y : Value} {row : Option Nat} (h : BxX w b x y) (hg : w.grownBy w' row) (hne : row ≠ some b) : BxX w' b x y := h.of (hg.block b h.lt (fun e => hne e.symm))
theorem BxX.far {w : World} {b b' i : Nat} {x y : Value} (h : BxX w b x y) (hne : b' ≠ b) (u : Value) : BxX (w.setCell ⟨b', i, none⟩ u) b x y := h.of (Below.heap_setCell _ _ _ _ (fun e => hne e.symm))
theorem BxX.set0 {w : World} {b : Nat} {x y : Value} (h : BxX w b x y) (u : Value) : BxX (w.setCell ⟨b, 0, none⟩ u) b u y :=
  ⟨World.cell?_setCell_same _ _ _ h.c0, (World.cell?_setCell_other _ _ _ _ (fun e => by have := congrArg Addr.off e; simp at this)).trans h.c1, fun i => by rw [World.frozen?_setCell]; exact h.fz i⟩
theorem BxX.new (w : World) (x y : Value) (t : TypeId) : BxX (w.alloc (.cells #[x, y] t)) w.heap.size x y := ⟨by simp, by simp, fun i => by simp⟩
theorem Slot1.ofB {w w' : World} {b : Nat} {x : Value} (h : Slot1 w b x) (hb : w'.heap[b]? = w.heap[b]?) : Slot1 w' b x :=
  ⟨(World.cell?_of_block (a := ⟨b, 0, none⟩) hb).trans h.c, (World.frozen?_of_block (a := ⟨b, 0, none⟩) hb).trans h.fz⟩

/-- A program and a way that were drawn. -/
def ExDrawn (N : Nat) (w : World) (v : Value) : Prop := ∃ (a : Option Addr) (g c : Nat) (mm : List (List M.D)) (fv ov : Value) (l : List Int) (rows : List (List Int)), v = .tuple #[.agg #[.slice a mm.length c], .agg #[fv, ov]] ∧ DoSN N w a g 0 mm ∧ Small mm c ∧ WyP (fun b => N ≤ b) w fv ov l rows ∧ l.length ≤ 43 ∧ rows.length = 3 ∧ ∀ r ∈ rows, r.length ≤ 7
/-- What comes of the return. -/
theorem ex_end {w We : World} {B rb p' Q : Nat} {a : Option Addr} {g c : Nat} {mm : List (List M.D)} {fv ov : Value} {l : List Int} {rows : List (List Int)} (hQ : w.heap.size + 1 = Q) (hB : B ≤ rb) (hlt : rb < w.heap.size) (sn : DoSN (w.heap.size + 2) We a g 0 mm) (hsm : Small mm c) (wy : WyP (fun b => w.heap.size + 2 ≤ b) We fv ov l rows) (h1 : l.length ≤ 43) (h2 : rows.length = 3) (h3 : ∀ r ∈ rows, r.length ≤ 7) (rd : Rdr We B rb p') (but : But rb w We) :
    ExDrawn (w.heap.size + 2) (((We.setCell ⟨w.heap.size, 0, none⟩ (.slice a mm.length c)).setCell ⟨Q, 0, none⟩ fv).setCell ⟨Q, 1, none⟩ ov) (.tuple #[.agg #[.slice a mm.length c], .agg #[fv, ov]]) ∧ Rdr (((We.setCell ⟨w.heap.size, 0, none⟩ (.slice a mm.length c)).setCell ⟨Q, 0, none⟩ fv).setCell ⟨Q, 1, none⟩ ov) B rb p' ∧ But rb w (((We.setCell ⟨w.heap.size, 0, none⟩ (.slice a mm.length c)).setCell ⟨Q, 0, none⟩ fv).setCell ⟨Q, 1, none⟩ ov) :=
  ⟨⟨a, g, c, mm, fv, ov, l, rows, rfl, ((sn.far (by omega)).far (by omega)).far (by omega), hsm, ((wy.set (P' := fun b => w.heap.size + 2 ≤ b) (fun b hb => ⟨hb, by omega⟩)).set (P' := fun b => w.heap.size + 2 ≤ b) (fun b hb => ⟨hb, by omega⟩)).set (fun b hb => ⟨hb, by omega⟩), h1, h2, h3⟩,
    ((rd.setCell (by omega) (by omega) _).setCell (by omega) (by omega) _).setCell (by omega) (by omega) _,
    ((but.setCell (Or.inl (Nat.le_refl _)) _).setCell (Or.inl (by show w.heap.size ≤ Q; omega)) _).setCell (Or.inl (by show w.heap.size ≤ Q; omega)) _⟩
theorem ExDrawn.drew {N : Nat} {w : World} {v : Value} (h : ExDrawn N w v) : ExDrawn N w.drew v := by
  obtain ⟨a, g, c, mm, fv, ov, l, rows, e, h1, h2, h3, h4⟩ := h
  exact ⟨a, g, c, mm, fv, ov, l, rows, e, ⟨h1.addr, h1.ge, fun i hi => by obtain ⟨a', b', o', c', q1, q2, q3⟩ := h1.row i hi; exact ⟨a', b', o', c', q1, ⟨q2.addr, fun j hj => ⟨(q2.row j hj).k, (q2.row j hj).p, (q2.row j hj).v⟩⟩, q3⟩⟩, h2, h3.keep (fun _ h => h) (fun p u _ hc => hc), h4⟩
theorem ex_fin {w We : World} {B rb p' Q : Nat} {a : Option Addr} {g c : Nat} {mm : List (List M.D)} {fv ov x y z : Value} {l : List Int} {rows : List (List Int)} (hQ : w.heap.size + 1 = Q) (hB : B ≤ rb) (hlt : rb < w.heap.size) (R : Slot1 We w.heap.size x) (q : BxX We Q y z) (sn : DoSN (w.heap.size + 2) We a g 0 mm) (hsm : Small mm c) (wy : WyP (fun b => w.heap.size + 2 ≤ b) We fv ov l rows) (h1 : l.length ≤ 43) (h2 : rows.length = 3) (h3 : ∀ r ∈ rows, r.length ≤ 7) (rd : Rdr We B rb p') (but : But rb w We) :
    ((((We.setCell ⟨w.heap.size, 0, none⟩ (.slice a mm.length c)).setCell ⟨Q, 0, none⟩ fv).setCell ⟨Q, 1, none⟩ ov).cell? ⟨w.heap.size, 0, none⟩ = some (.slice a mm.length c) ∧ (((We.setCell ⟨w.heap.size, 0, none⟩ (.slice a mm.length c)).setCell ⟨Q, 0, none⟩ fv).setCell ⟨Q, 1, none⟩ ov).cell? ⟨Q, 0, none⟩ = some fv ∧ (((We.setCell ⟨w.heap.size, 0, none⟩ (.slice a mm.length c)).setCell ⟨Q, 0, none⟩ fv).setCell ⟨Q, 1, none⟩ ov).cell? ⟨Q, 1, none⟩ = some ov) ∧ ExDrawn (w.heap.size + 2) (((We.setCell ⟨w.heap.size, 0, none⟩ (.slice a mm.length c)).setCell ⟨Q, 0, none⟩ fv).setCell ⟨Q, 1, none⟩ ov).drew (.tuple #[.agg #[.slice a mm.length c], .agg #[fv, ov]]) ∧ Rdr (((We.setCell ⟨w.heap.size, 0, none⟩ (.slice a mm.length c)).setCell ⟨Q, 0, none⟩ fv).setCell ⟨Q, 1, none⟩ ov).drew B rb p' ∧ But rb w (((We.setCell ⟨w.heap.size, 0, none⟩ (.slice a mm.length c)).setCell ⟨Q, 0, none⟩ fv).setCell ⟨Q, 1, none⟩ ov).drew := by
  have q6 := (q.far (i := 0) (b' := w.heap.size) (by omega) (.slice a mm.length c)).set0 fv
  obtain ⟨E1, E2, E3⟩ := ex_end hQ hB hlt sn hsm wy h1 h2 h3 rd but
  exact ⟨⟨(((R.set (.slice a mm.length c)).far (i := 0) (b' := Q) (by omega) fv).far (i := 1) (b' := Q) (by omega) ov).c, (World.cell?_setCell_other _ ⟨Q, 1, none⟩ ⟨Q, 0, none⟩ ov (fun e => by have := congrArg Addr.off e; simp at this)).trans q6.c0, World.cell?_setCell_same _ ⟨Q, 1, none⟩ ov q6.c1⟩, E1.drew, E2.drew, E3.drew⟩
/-- Blocks below a bound are as they were. -/
theorem Rdr.belE {w w' : World} {B rb p E : Nat} (h : Rdr w B rb p) (hb : Below E w w') (h1 : rb < E) (h2 : B ≤ E) : Rdr w' B rb p := by
  obtain ⟨ca, cb, co, L, C, x, h⟩ := h
  exact ⟨ca, cb, co, L, C, x, (hb.cell (p := ⟨rb, 0, none⟩) h1).trans h.s, (hb.cell (p := ⟨rb, 1, none⟩) h1).trans h.p, (hb.frozen (p := ⟨rb, 1, none⟩) h1).trans h.fz, h.ad, h.le,
    fun i hi => ⟨(hb.cell (p := ⟨cb, co + i, none⟩) (by have := h.ne (by omega); show cb < E; omega)).trans (h.cells i hi).1, (h.cells i hi).2⟩, h.ne, h.ge⟩
theorem But.belE {w w1 w' : World} {rb E : Nat} (h : But rb w w1) (hb : Below E w1 w') (hE : w.heap.size ≤ E) : But rb w w' :=
  ⟨hb.os.trans h.os, hb.tape.trans h.tape, hb.output.trans h.output, Nat.le_trans h.size hb.size, fun k hk hne => (hb.block k (by omega)).trans (h.block k hk hne)⟩
theorem DoSN.butE {N : Nat} {w w' : World} {a : Option Addr} {rb b o : Nat} {ll : List (List M.D)} (h : DoSN N w a b o ll) (hb : But rb w w') (hr : rb < N) : DoSN N w' a b o ll := h.but hb hr
theorem list_three {α : Type} : ∀ {l : List α}, l.length = 3 → ∃ a b c, l = [a, b, c]
  | [a, b, c], _ => ⟨a, b, c, rfl⟩
/-- Where a list of ways lies. -/
theorem RX.form {w : World} {base n : Nat} {v : Value} {cs : List Value} (h : RX w base v cs n) : ∃ va gl cl, v = .slice va n cl ∧ (0 < n → va = some ⟨gl, 0, none⟩ ∧ base ≤ gl) ∧ ∀ j u, cs[j]? = some u → w.cell? ⟨gl, j, none⟩ = some u := by
  rcases h.own.2 with ⟨hv, hn⟩ | ⟨g, cap, cur, hv, hg, hh, hc, r⟩
  · have hx : cs = [] := List.length_eq_zero_iff.1 (by rw [h.own.1, hn])
    subst hx
    exact ⟨none, 0, 0, by rw [hv, hn], fun h => absurd h (by omega), fun j u hj => (by simp at hj)⟩
  · refine ⟨_, g, cap, hv, fun _ => ⟨rfl, hg⟩, fun j u hj => ?_⟩
    have := h.own.cells (g := g) (by rw [hv]; rfl) j u hj
    rwa [Go.WideShapes.add_plain, Nat.zero_add] at this

set_option maxHeartbeats 4000000 in
set_option maxRecDepth 100000 in
theorem l71Exec_any (B rb p : Nat) (w : World) (hp : p ≤ 1000) (h : Rdr w B rb p) :
    Calls Try.prog 54 #[.pointer (some ⟨rb, 0, none⟩)] w fun e w' => ∃ v, e = .returned v ∧ ExDrawn (w.heap.size + 2) w' v ∧ ∃ p' : Nat, p' ≤ p + 10200 ∧ Rdr w' B rb p' ∧ But rb w w' := by
  obtain ⟨i0, hi, hz0, hz1, hz2⟩ := info_parts Try.infoInt
  have hlt := h.lt
  have hge := h.ge
  have hb0 := below2 w (.cells #[.slice none 0 0] 34) (.cells #[.slice none 0 0, .slice none 0 0] 36)
  have hR0 : Slot1 ((w.alloc (.cells #[.slice none 0 0] 34)).alloc (.cells #[.slice none 0 0, .slice none 0 0] 36)) w.heap.size (.slice none 0 0) := (Slot1.new w _ _).ofB (alloc_old _ _ _ (by simp))
  have hQ0 : BxX ((w.alloc (.cells #[.slice none 0 0] 34)).alloc (.cells #[.slice none 0 0, .slice none 0 0] 36)) (w.heap.size + 1) (.slice none 0 0) (.slice none 0 0) := by
    have := BxX.new (w.alloc (.cells #[.slice none 0 0] 34)) (.slice none 0 0) (.slice none 0 0) 36
    rwa [World.size_alloc] at this
  have hsz0 : ((w.alloc (.cells #[.slice none 0 0] 34)).alloc (.cells #[.slice none 0 0, .slice none 0 0] 36)).heap.size = w.heap.size + 2 := by simp
  have hr0 := h.below hb0 (Nat.le_refl _)
  go_enter Try.func54, Try.ntmps54
  go_wp2_with fail
  generalize (w.alloc (.cells #[.slice none 0 0] 34)).alloc (.cells #[.slice none 0 0, .slice none 0 0] 36) = W0 at *
  obtain ⟨Q, hQe⟩ : ∃ Q, w.heap.size + 1 = Q := ⟨_, rfl⟩
  rw [hQe] at hQ0 ⊢
  refine (l71Any_any B rb p W0 hp hr0).mono ?_
  rintro e w1 ⟨a, g, c, mm, rfl, hsn1, hsm, p1, hp1, hr1, hb1⟩
  have hR1 := hR0.but hb1 (by omega)
  have hQ1 := hQ0.but hb1 (by omega)
  have hbw1 : But rb w w1 := (But.of hb0).trans hb1
  have hsz1 := hb1.size
  have hsn1' := hsn1.mono (N' := w.heap.size + 2) (by omega)
  clear hR0 hQ0 hb0 hr0 hb1 hsn1
  have hal := below1 w1 (.cells #[.slice a mm.length c] 34)
  have hP2 := Slot1.new w1 (.slice a mm.length c) 34
  have hR2 := hR1.but (But.of (rb := rb) hal) (by omega)
  have hQ2 := hQ1.but (But.of (rb := rb) hal) (by omega)
  have hsn2 := hsn1'.but (But.of (rb := rb) hal) (by omega)
  have hr2 := hr1.below hal (Nat.le_refl _)
  have hbw2 := hbw1.trans (But.of hal)
  have lP := hP2.lt
  clear hR1 hQ1 hsn1' hr1 hbw1 hal
  go_wp2_with fail
  generalize w1.alloc (.cells #[.slice a mm.length c] 34) = w2 at *
  generalize w1.heap.size = P at *
  have hl3 : mm.length ≤ 1048576 := by have := hsm.three; omega
  have hls3 : ∀ t ∈ mm, t.length ≤ 1048576 := fun t ht => by have := hsm.steps t ht; omega
  refine (sexecAll_any a g 0 c mm w2 hl3 hls3 hsn2.ss).mono ?_
  rintro e w3 ⟨v, cs, n, rfl, hRX, hn, hb3⟩
  have hP3 := hP2.but (But.of (rb := rb) hb3) (by omega)
  have hR3 := hR2.but (But.of (rb := rb) hb3) (by omega)
  have hQ3 := hQ2.but (But.of (rb := rb) hb3) (by omega)
  have hsn3 := hsn2.but (But.of (rb := rb) hb3) (by omega)
  have hr3 := hr2.below hb3 (Nat.le_refl _)
  have hbw3 := hbw2.trans (But.of hb3)
  have hbt3 : But rb w2 w3 := But.of hb3
  have hsz3 := hb3.size
  obtain ⟨va, gl, cl, rfl, hva, hcells⟩ := hRX.form
  clear hP2 hR2 hQ2 hr2 hbw2 hb3 hl3 hls3
  by_cases hn0 : n = 0
  · subst hn0
    have P3 := hP3.c
    have R3 := hR3.c
    have R3f := hR3.fz
    have Q30 := hQ3.c0
    have Q31 := hQ3.c1
    have Q3f := hQ3.fz
    have lR := hR3.lt
    have lQ := hQ3.lt
    have lP3 := hP3.lt
    have nRQ : w.heap.size ≠ Q := by omega
    have nQR : Q ≠ w.heap.size := by omega
    have hb5 : Below w3.heap.size w3 (((((w3.alloc (.cells #[.int .i64 (-2)] 3)).alloc (.cells #[] 3)).alloc (.cells #[] 3)).alloc (.cells #[] 3)).alloc (.cells #[.slice (some ⟨w3.heap.size + 1, 0, none⟩) 0 0, .slice (some ⟨w3.heap.size + 1 + 1, 0, none⟩) 0 0, .slice (some ⟨w3.heap.size + 1 + 1 + 1, 0, none⟩) 0 0] 25)) := bel_al (bel_al (bel_al (bel_al (bel_al (Below.refl _ _) _) _) _) _) _
    have hR5 := hR3.ofB (hb5.block _ lR)
    have hQ5 := hQ3.bel hb5 lQ
    have R5 := hR5.c
    have R5f := hR5.fz
    have Q50 := hQ5.c0
    have Q51 := hQ5.c1
    have Q5f := hQ5.fz
    have hsn5 := hsn3.but (But.of (rb := rb) hb5) (by omega)
    have hr5 := hr3.below hb5 (Nat.le_refl _)
    have hbw5 := hbw3.trans (But.of hb5)
    have hwy5 : WyP (fun b => w.heap.size + 2 ≤ b) (((((w3.alloc (.cells #[.int .i64 (-2)] 3)).alloc (.cells #[] 3)).alloc (.cells #[] 3)).alloc (.cells #[] 3)).alloc (.cells #[.slice (some ⟨w3.heap.size + 1, 0, none⟩) 0 0, .slice (some ⟨w3.heap.size + 1 + 1, 0, none⟩) 0 0, .slice (some ⟨w3.heap.size + 1 + 1 + 1, 0, none⟩) 0 0] 25)) (.slice (some ⟨w3.heap.size, 0, none⟩) 1 1) (.slice (some ⟨w3.heap.size + 1 + 1 + 1 + 1, 0, none⟩) 3 3) [-2] [[], [], []] := by
      have c5 : (((((w3.alloc (.cells #[.int .i64 (-2)] 3)).alloc (.cells #[] 3)).alloc (.cells #[] 3)).alloc (.cells #[] 3)).alloc (.cells #[.slice (some ⟨w3.heap.size + 1, 0, none⟩) 0 0, .slice (some ⟨w3.heap.size + 1 + 1, 0, none⟩) 0 0, .slice (some ⟨w3.heap.size + 1 + 1 + 1, 0, none⟩) 0 0] 25)).cell? ⟨w3.heap.size, 0, none⟩ = some (.int .i64 (-2)) := ((below1 _ _).cell (p := ⟨w3.heap.size, 0, none⟩) (by simp; omega)).trans (((below1 _ _).cell (p := ⟨w3.heap.size, 0, none⟩) (by simp; omega)).trans (((below1 _ _).cell (p := ⟨w3.heap.size, 0, none⟩) (by simp; omega)).trans (((below1 _ _).cell (p := ⟨w3.heap.size, 0, none⟩) (by simp)).trans (by simp))))
      refine ⟨⟨_, w3.heap.size, 1, rfl, ⟨fun _ => rfl, fun i hi => ?_⟩, fun _ => by omega⟩, ⟨_, w3.heap.size + 1 + 1 + 1 + 1, 3, rfl, fun _ => ⟨rfl, by omega⟩, fun i hi => ?_⟩⟩
      · obtain ⟨rfl⟩ : i = 0 := by simp at hi; omega
        exact c5
      · have h5 := alloc_new ((((w3.alloc (.cells #[.int .i64 (-2)] 3)).alloc (.cells #[] 3)).alloc (.cells #[] 3)).alloc (.cells #[] 3)) (.cells #[.slice (some ⟨w3.heap.size + 1, 0, none⟩) 0 0, .slice (some ⟨w3.heap.size + 1 + 1, 0, none⟩) 0 0, .slice (some ⟨w3.heap.size + 1 + 1 + 1, 0, none⟩) 0 0] 25) (w3.heap.size + 1 + 1 + 1 + 1) (by simp)
        have hi3 : i = 0 ∨ i = 1 ∨ i = 2 := by simp at hi; omega
        rcases hi3 with rfl | rfl | rfl
        · exact ⟨_, 0, 0, (by unfold World.cell?; rw [h5]; rfl), IntS.nil _ _ _ _, fun h => absurd h (Nat.lt_irrefl _)⟩
        · exact ⟨_, 0, 0, (by unfold World.cell?; rw [h5]; rfl), IntS.nil _ _ _ _, fun h => absurd h (Nat.lt_irrefl _)⟩
        · exact ⟨_, 0, 0, (by unfold World.cell?; rw [h5]; rfl), IntS.nil _ _ _ _, fun h => absurd h (Nat.lt_irrefl _)⟩
    have E5 := ex_end hQe hge hlt hsn5 hsm hwy5 (by simp) rfl (by intro r hr; simp at hr; rw [hr]; simp) hr5 hbw5
    clear hsn5 hr5 hbw5 hwy5 hRX hcells
    go_wp2_with fail
    have R6 := (((hR5.set (.slice a mm.length c)).far (i := 0) (b' := Q) (by omega) (.slice (some ⟨w3.heap.size, 0, none⟩) 1 1)).far (i := 1) (b' := Q) (by omega) (.slice (some ⟨w3.heap.size + 1 + 1 + 1 + 1, 0, none⟩) 3 3)).c
    have hQ6 := (hQ5.far (i := 0) (b' := w.heap.size) (by omega) (.slice a mm.length c)).set0 (.slice (some ⟨w3.heap.size, 0, none⟩) 1 1)
    have Q60 := (World.cell?_setCell_other _ ⟨Q, 1, none⟩ ⟨Q, 0, none⟩ (.slice (some ⟨w3.heap.size + 1 + 1 + 1 + 1, 0, none⟩) 3 3) (fun e => by have := congrArg Addr.off e; simp at this)).trans hQ6.c0
    have Q61 := World.cell?_setCell_same _ ⟨Q, 1, none⟩ (.slice (some ⟨w3.heap.size + 1 + 1 + 1 + 1, 0, none⟩) 3 3) hQ6.c1
    obtain ⟨E1, E2, E3⟩ := E5
    refine bodyPost_ret (v := .tuple #[.agg #[.slice a mm.length c], .agg #[.slice (some ⟨w3.heap.size, 0, none⟩) 1 1, .slice (some ⟨w3.heap.size + 1 + 1 + 1 + 1, 0, none⟩) 3 3]]) (by simp [results, Try.results54, go_sem, R6, Q60, Q61]) rfl ⟨_, rfl, E1, p1, by omega, E2, E3⟩
  · have hnp : 0 < n := by omega
    have hnb : ((n : Int) == 0) = false := by simp [hn0]
    obtain ⟨rfl, hgl⟩ := hva hnp
    go_wp2_with fail
    refine (pick_big B rb p1 n _ (by omega) (by omega) (by omega) hr3).mono ?_
    rintro e w4 ⟨r4, rfl, r40, r41, hr4, hb4⟩
    obtain ⟨k, rfl⟩ := Int.eq_ofNat_of_zero_le r40
    have hk : k < n := by omega
    obtain ⟨fv, ov, l, rc, rows, e1, e2, hX, hl42, h3, h6, hoff⟩ := hRX.row k hk
    have lgl := World.block_lt_of_cell? _ _ (hcells _ _ e1)
    have c0 := (hb4.cell (p := ⟨gl, k * 2, none⟩) lgl (by show gl ≠ rb; omega)).trans (hcells _ _ e1)
    have c1 := (hb4.cell (p := ⟨gl, k * 2 + 1, none⟩) lgl (by show gl ≠ rb; omega)).trans (hcells _ _ e2)
    have hX4 := hX.but hb4 (by omega)
    have hP4 := hP3.but hb4 (by omega)
    have hR4 := hR3.but hb4 (by omega)
    have hQ4 := hQ3.but hb4 (by omega)
    have hsn4 := hsn3.but hb4 (by omega)
    have hbw4 := hbw3.trans hb4
    have hbt4 := hbt3.trans hb4
    have hsz4 := hb4.size
    have i4 : (k : Int) < n := by omega
    clear hRX hcells hX hP3 hR3 hQ3 hsn3 hr3 hbw3 hb4 r40 r41 e1 e2 hoff hva
    obtain ⟨r0, r1, r2, rfl⟩ := list_three h3
    obtain ⟨u0, u1, u2, rfl⟩ := list_three (show rc.length = 3 by have := hX4.ord.1; simp at this; omega)
    have hord : w4.ownsRow w2.heap.size 25 1 ov 3 [u0, u1, u2] := hX4.ord
    obtain ⟨fa, fb, fc, rfl, hfI, hfo⟩ := own_ints2 hX4.from_
    obtain ⟨oa, ob, oc, rfl, hoo, hocell⟩ := own_where hord
    obtain ⟨rfl, -⟩ := hoo (by omega)
    have k0 := hocell 0 u0 rfl
    clear hocell hord hoo h3
    have hoffX := hX4.new (Nat.le_refl w4.heap.size)
    have hbX := below1 w4 (.cells #[.slice fa l.length fc, .slice (some ⟨ob, 0, none⟩) 3 oc] 36)
    have hB5 := BxX.new w4 (.slice fa l.length fc) (.slice (some ⟨ob, 0, none⟩) 3 oc) 36
    have hX5 := hX4.below hbX
    have hP5 := hP4.but (But.of (rb := rb) hbX) (by omega)
    have hR5 := hR4.but (But.of (rb := rb) hbX) (by omega)
    have hQ5 := hQ4.but (But.of (rb := rb) hbX) (by omega)
    have hsn5 := hsn4.but (But.of (rb := rb) hbX) (by omega)
    have hr5 := hr4.below hbX (Nat.le_refl _)
    have hbw5 := hbw4.trans (But.of hbX)
    have hbt5 := hbt4.trans (But.of hbX)
    have hobX := (hX4.ord.lt ob rfl).2
    have hsz5 := hbX.size
    go_wp2_with fail
    clear hX4 hP4 hR4 hQ4 hsn4 hr4 hbw4 c0 c1 k0 hbX hfI
    generalize w4.alloc (.cells #[.slice fa l.length fc, .slice (some ⟨ob, 0, none⟩) 3 oc] 36) = w5 at *
    generalize w4.heap.size = X at *
    refine (pick_rdr B rb (p1 + 1) 12 _ (by omega) (by omega) (by omega) hr5).mono ?_
    rintro e w6 ⟨r6, rfl, r60, r61, hr6, hb6⟩
    have hX6 := hX5.but hb6 (by omega)
    have hP6 := hP5.but hb6 (by omega)
    have hR6 := hR5.but hb6 (by omega)
    have hQ6 := hQ5.but hb6 (by omega)
    have hB6 := hB5.but hb6 (by omega)
    have hsn6 := hsn5.but hb6 (by omega)
    have hbw6 := hbw5.trans hb6
    have hbt6 := hbt5.trans hb6
    have hsz6 := hb6.size
    have lX := hB6.lt
    clear hX5 hP5 hR5 hQ5 hB5 hsn5 hr5 hbw5 hb6
    have P6 := hP6.c
    have R6 := hR6.c
    have R6f := hR6.fz
    have Q60 := hQ6.c0
    have Q61 := hQ6.c1
    have Q6f := hQ6.fz
    have X60 := hB6.c0
    have X61 := hB6.c1
    have X6f := hB6.fz
    have nRQ : w.heap.size ≠ Q := by omega
    have nQR : Q ≠ w.heap.size := by omega
    by_cases h60 : r6 = 0
    · subst h60
      rcases Nat.eq_zero_or_pos l.length with hl0 | hl0
      · have i0' : ¬ (0 : Int) < l.length := by omega
        clear hl0
        go_wp2_with fail
        go_region
        go_wp2_with fail
        obtain ⟨⟨F1, F2, F3⟩, E1, E2, E3⟩ := ex_fin hQe hge hlt hR6 hQ6 hsn6 hsm ((hX6.wy hoffX).keep (fun b hb => by have := hb.1; omega) (fun _ _ _ hc => hc)) (by omega) rfl (fun r hr => by have := h6 r hr; omega) hr6 hbw6
        refine bodyPost_ret (v := .tuple #[.agg #[.slice a mm.length c], .agg #[.slice fa l.length fc, .slice (some ⟨ob, 0, none⟩) 3 oc]]) (by simp [results, Try.results54, go_sem, F1, F2, F3]) rfl ⟨_, rfl, E1, p1 + 1 + 1, by omega, E2, E3⟩
      · have i0' : (0 : Int) < l.length := by omega
        obtain ⟨fa', fb', fc', ef, hfI, hfo'⟩ := own_ints2 hX6.from_
        simp only [Value.slice.injEq] at ef
        obtain ⟨rfl, -, rfl⟩ := ef
        obtain ⟨rfl⟩ := hfI.addr hl0
        have hfge : w2.heap.size ≤ fb' := (hX6.from_.lt fb' rfl).1
        have hnX : fb' ≠ X := fun e => hoffX.from_ fb' rfl (by rw [e])
        clear hfo hfo'
        go_wp2_with fail
        go_region_held3 (fun z => z.cell? ⟨X, 0, none⟩ = some (.slice (some ⟨fb', 0, none⟩) l.length fc)) (go_keep) (first
          | (go_at_call_of 82 (Value.int IntKind.i64 (l.length : Int)); refine (pick_rdr B rb (p1 + 1 + 1) l.length _ (by omega) (by omega) (by omega) hr6.drew).mono ?_; rintro e w7 ⟨r7, rfl, r70, r71, hr7, hb7⟩; (obtain ⟨k7, rfl⟩ := Int.eq_ofNat_of_zero_le r70); (have b7 : But rb w6 w7 := (But.refl rb w6).drew.trans hb7); have Y7 := (hB6.but b7 (by omega)).c0; (have hk7 : k7 < l.length := by omega))
          | (go_at_call_of 82 (Value.int IntKind.i64 7); refine (pick_rdr B rb (p1 + 1 + 1 + 1) 7 _ (by omega) (by omega) (by omega) hr7).mono ?_; rintro e w8 ⟨r8, rfl, r80, r81, hr8, hb8⟩; (have b8 : But rb w6 w8 := b7.trans hb8); have hB8 := hB6.but b8 (by omega); have Y8 := hB8.c0; have hX8 := hX6.but b8 (by omega); (have K8 : w8.cell? ⟨fb', k7, none⟩ = some (.int .i64 l[k7]) := by rw [b8.cell (p := ⟨fb', k7, none⟩) (hfI.lt hl0) (by show fb' ≠ rb; omega)]; have := hfI.row k7 hk7; rwa [Nat.zero_add] at this); have F8 := own_fz hX8.from_ k7))
        all_goals
          have hR8 := hR6.but b8 (by omega)
          have hQ8 := hQ6.but b8 (by omega)
          have hP8 := hP6.but b8 (by omega)
          have b28 := hbt6.trans b8
          have bw8 := hbw6.trans b8
          go_wp2_with fail
          have hbe : Below w2.heap.size w8 (w8.setCell ⟨fb', k7, none⟩ (.int .i64 (IntKind.i64.wrap (r8 - 3)))) := (Below.refl _ _).setCell (p := ⟨fb', k7, none⟩) hfge _
          have hRe := hR8.ofB (hbe.block w.heap.size (by omega))
          have hQe' := hQ8.bel hbe (by omega)
          have hPe := hP8.ofB (hbe.block P (by omega))
          have hBe := (hB8.far (b' := fb') (i := k7) hnX (.int .i64 (IntKind.i64.wrap (r8 - 3))))
          have hwye := ((hX8.setFrom (v := IntKind.i64.wrap (r8 - 3)) hoffX hk7).keep (fun b hb => by have := hb.1; omega) (fun _ _ _ hc => hc) : WyP (fun b => w.heap.size + 2 ≤ b) _ _ _ _ _)
          have hsne := hsn2.but (b28.belE hbe (Nat.le_refl _)) (by omega)
          have hrde := hr8.belE hbe (by omega) (by omega)
          have hbwe := bw8.belE hbe (by omega)
          have e1 := hPe.c
          have e2 := hRe.c
          have e3 := hRe.fz
          have e4 := hQe'.c0
          have e5 := hQe'.c1
          have e6 := hQe'.fz
          have e7 := hBe.c0
          have e8 := hBe.c1
          generalize (w8.setCell ⟨fb', k7, none⟩ (.int .i64 (IntKind.i64.wrap (r8 - 3)))) = We at *
          go_region
          go_wp2_with fail
          obtain ⟨⟨F1, F2, F3⟩, E1, E2, E3⟩ := ex_fin hQe hge hlt hRe hQe' hsne hsm hwye (by rw [List.length_set]; omega) rfl (fun r hr => by have := h6 r hr; omega) hrde hbwe
          refine bodyPost_ret (v := .tuple #[.agg #[.slice a mm.length c], .agg #[.slice (some ⟨fb', 0, none⟩) l.length fc, .slice (some ⟨ob, 0, none⟩) 3 oc]]) (by simp [results, Try.results54, go_sem, F1, F2, F3]) rfl ⟨_, rfl, E1, p1 + 1 + 1 + 1 + 1, by omega, E2, E3⟩
    · have b60 : (r6 == 0) = false := by simp [h60]
      by_cases h61 : r6 = 1
      · subst h61
        obtain ⟨u0', e0', hrow0, hu0o, hu0f⟩ := hX6.row 0 (by simp)
        obtain ⟨rfl⟩ : u0 = u0' := by simpa using e0'
        have hrow0' : w6.ownsRow w2.heap.size 3 1 u0 r0.length (nums r0) := hrow0
        obtain ⟨a0, b0, cc0, rfl, -, -⟩ := own_ints2 hrow0'
        obtain ⟨_, ob', _, eo, hoo, hocell⟩ := own_where hX6.ord
        obtain ⟨rfl⟩ : ob = ob' := by have := (hoo (by simp)).2; simpa [Value.ownBlock] using this
        have k06 := hocell 0 _ rfl
        have f06 := fun j => own_fz hX6.ord j
        have hr06 : r0.length ≤ 6 := h6 r0 (by simp)
        have hal := below1 w6 (.cells #[.int .i64 0] 3)
        have hu0ge : ∀ q, (Value.slice a0 r0.length cc0).ownBlock = some q → w2.heap.size ≤ q := own_ge hrow0'
        have hobge : w2.heap.size ≤ ob := (hX6.ord.lt ob rfl).1
        have hobl : ob < w6.heap.size := (hX6.ord.lt ob rfl).2
        have hnX : (Value.slice a0 r0.length cc0).ownBlock ≠ some X := fun e => hoffX.row _ (by simp) X e rfl
        have hnO : (Value.slice a0 r0.length cc0).ownBlock ≠ some ob := fun e => hu0o ob e rfl
        have hobX' : ob ≠ X := by omega
        have k0a := (hal.cell (p := ⟨ob, 0, none⟩) hobl).trans k06
        have x1a := (hal.cell (p := ⟨X, 1, none⟩) lX).trans X61
        have h7r : ∀ r ∈ [r0 ++ [0], r1, r2], r.length ≤ 7 := fun r hr => by
          simp only [List.mem_cons, List.not_mem_nil, or_false] at hr
          rcases hr with e | e | e
          · rw [e]; simp; omega
          · rw [e]; have := h6 r1 (by simp); omega
          · rw [e]; have := h6 r2 (by simp); omega
        clear hocell hoo eo
        go_wp2_with fail
        go_region_law (first
          | (refine step_append_lies _ (by rfl) (.tmp 54) (.tmp 55) 25 (by rfl) w2.heap.size 3 i0 _ 1 8 Try.underlying25 hi hz0 hz1 hz2 rfl (by omega) (.slice a0 r0.length cc0) r0.length (nums r0) (by rfl) (hrow0'.alloc _) ⟨w6.heap.size, 0, none⟩ 1 1 [.int .i64 0] (by rfl) (by rfl) (World.news_of_block (cs := #[.int .i64 0]) (t := 3) (fr := (0, 0)) (heap_alloc_new w6 _)) (by simp [Value.oneCell']) (by omega) (by unfold maxLen; omega) (by omega) (by (try simp); omega) (w6.heap.size + 1) (by simp) ?_; intro g7 cap7 w7 hown7 hgd hat7 hlt7; (have hg7 : (w6.alloc (.cells #[.int .i64 0] 3)).grownBy w7 (Value.slice a0 r0.length cc0).ownBlock := ⟨hgd.os, hgd.tape, hgd.output, hgd.size, hgd.block⟩); have hwy7 := hX6.addOrder hoffX lX hal hown7 hg7 (by simpa using hat7); have k07 := (hg7.cell_far ⟨ob, 0, none⟩ (Nat.lt_of_lt_of_le hobl hal.size) (fun e => hnO e.symm)).trans k0a; have x17 := (hg7.cell_far ⟨X, 1, none⟩ (Nat.lt_of_lt_of_le lX hal.size) (fun e => hnX e.symm)).trans x1a; have f07 := fun j => (World.frozen?_of_block (a := ⟨ob, j, none⟩) (hg7.block ob (Nat.lt_of_lt_of_le hobl hal.size) (fun e => hnO e.symm))).trans ((hal.frozen (p := ⟨ob, j, none⟩) hobl).trans (f06 j))))
        all_goals
          go_wp2_with fail
          have hbe : Below w2.heap.size w6 (w7.setCell ⟨ob, 0, none⟩ (.slice (some ⟨g7, 0, none⟩) (r0.length + 1) cap7)) := ((below_grown (hal.mono (by omega)) hg7 hu0ge (by simp; omega)).setCell (p := ⟨ob, 0, none⟩) hobge _)
          have hRe := hR6.ofB (hbe.block w.heap.size (by omega))
          have hQe' := hQ6.bel hbe (by omega)
          have hPe := hP6.ofB (hbe.block P (by omega))
          have hBe := (((hB6.of (hal.block X lX)).apart hg7 hnX).far (b' := ob) (i := 0) hobX' (.slice (some ⟨g7, 0, none⟩) (r0.length + 1) cap7))
          have hwye := (hwy7.keep (fun b hb => by have := hb.1; omega) (fun _ _ _ hc => hc) : WyP (fun b => w.heap.size + 2 ≤ b) _ _ _ _ _)
          have hsne := hsn2.but (hbt6.belE hbe (Nat.le_refl _)) (by omega)
          have hrde := hr6.belE hbe (by omega) (by omega)
          have hbwe := hbw6.belE hbe (by omega)
          have e1 := hPe.c
          have e2 := hRe.c
          have e3 := hRe.fz
          have e4 := hQe'.c0
          have e5 := hQe'.c1
          have e6 := hQe'.fz
          have e7 := hBe.c0
          have e8 := hBe.c1
          generalize (w7.setCell ⟨ob, 0, none⟩ (.slice (some ⟨g7, 0, none⟩) (r0.length + 1) cap7)) = We at *
          go_region
          go_wp2_with fail
          obtain ⟨⟨F1, F2, F3⟩, E1, E2, E3⟩ := ex_fin hQe hge hlt hRe hQe' hsne hsm hwye (by omega) rfl h7r hrde hbwe
          refine bodyPost_ret (v := .tuple #[.agg #[.slice a mm.length c], .agg #[.slice fa l.length fc, .slice (some ⟨ob, 0, none⟩) 3 oc]]) (by simp [results, Try.results54, go_sem, F1, F2, F3]) rfl ⟨_, rfl, E1, p1 + 1 + 1, by omega, E2, E3⟩
      · have b61 : (r6 == 1) = false := by simp [h61]
        by_cases h62 : r6 = 2
        · subst h62
          have hal := below1 w6 (.cells #[.int .i64 (-2)] 3)
          have hfge : ∀ q, (Value.slice fa l.length fc).ownBlock = some q → w2.heap.size ≤ q := own_ge hX6.from_
          have hnX : (Value.slice fa l.length fc).ownBlock ≠ some X := fun e => hoffX.from_ X e rfl
          go_wp2_with (at_builtin; refine wpList_append_lies _ rfl (.tmp 61) (.tmp 62) 25 rfl w2.heap.size 3 i0 _ 1 8 Try.underlying25 hi hz0 hz1 hz2 rfl (by decide) (.slice fa l.length fc) l.length (nums l) rfl (hX6.from_.alloc _) ⟨w6.heap.size, 0, none⟩ 1 1 [.int .i64 (-2)] rfl rfl (World.news_of_block (cs := #[.int .i64 (-2)]) (t := 3) (fr := (0, 0)) (heap_alloc_new w6 _)) (by simp [Value.oneCell']) (by omega) (by unfold maxLen; omega) (by omega) (by simp; omega) (w6.heap.size + 1) (by simp) ?_)
          intro g7 cap7 w7 hown7 hg7 hat7 hlt7
          have hwy7 := hX6.addFrom hoffX lX hal hown7 hg7 (by simpa using hat7)
          have hB7 := (hB6.of (hal.block X lX)).apart hg7 hnX
          have x70 := hB7.c0
          have x7f := hB7.fz
          go_wp2_with fail
          have hbe : Below w2.heap.size w6 (w7.setCell ⟨X, 0, none⟩ (.slice (some ⟨g7, 0, none⟩) (l.length + 1) cap7)) := ((below_grown (hal.mono (by omega)) hg7 hfge (by simp; omega)).setCell (p := ⟨X, 0, none⟩) (by show w2.heap.size ≤ X; omega) _)
          have hRe := hR6.ofB (hbe.block w.heap.size (by omega))
          have hQe' := hQ6.bel hbe (by omega)
          have hPe := hP6.ofB (hbe.block P (by omega))
          have hBe := ((hB6.of (hal.block X lX)).apart hg7 hnX).set0 (.slice (some ⟨g7, 0, none⟩) (l.length + 1) cap7)
          have hwye := (hwy7.set (P' := fun b => w.heap.size + 2 ≤ b) (B := X) (i := 0) (u := .slice (some ⟨g7, 0, none⟩) (l.length + 1) cap7) (fun b hb => ⟨by have := hb.1; omega, hb.2⟩))
          have hsne := hsn2.but (hbt6.belE hbe (Nat.le_refl _)) (by omega)
          have hrde := hr6.belE hbe (by omega) (by omega)
          have hbwe := hbw6.belE hbe (by omega)
          have e1 := hPe.c
          have e2 := hRe.c
          have e3 := hRe.fz
          have e4 := hQe'.c0
          have e5 := hQe'.c1
          have e6 := hQe'.fz
          have e7 := hBe.c0
          have e8 := hBe.c1
          generalize (w7.setCell ⟨X, 0, none⟩ (.slice (some ⟨g7, 0, none⟩) (l.length + 1) cap7)) = We at *
          go_region
          go_wp2_with fail
          obtain ⟨⟨F1, F2, F3⟩, E1, E2, E3⟩ := ex_fin hQe hge hlt hRe hQe' hsne hsm hwye (by simp; omega) rfl (fun r hr => by have := h6 r hr; omega) hrde hbwe
          refine bodyPost_ret (v := .tuple #[.agg #[.slice a mm.length c], .agg #[.slice (some ⟨g7, 0, none⟩) (l.length + 1) cap7, .slice (some ⟨ob, 0, none⟩) 3 oc]]) (by simp [results, Try.results54, go_sem, F1, F2, F3]) rfl ⟨_, rfl, E1, p1 + 1 + 1, by omega, E2, E3⟩
        · have b62 : (r6 == 2) = false := by simp [h62]
          go_wp2_with fail
          go_region
          go_wp2_with fail
          obtain ⟨⟨F1, F2, F3⟩, E1, E2, E3⟩ := ex_fin hQe hge hlt hR6 hQ6 hsn6 hsm ((hX6.wy hoffX).keep (fun b hb => by have := hb.1; omega) (fun _ _ _ hc => hc)) (by omega) rfl (fun r hr => by have := h6 r hr; omega) hr6 hbw6
          refine bodyPost_ret (v := .tuple #[.agg #[.slice a mm.length c], .agg #[.slice fa l.length fc, .slice (some ⟨ob, 0, none⟩) 3 oc]]) (by simp [results, Try.results54, go_sem, F1, F2, F3]) rfl ⟨_, rfl, E1, p1 + 1 + 1, by omega, E2, E3⟩
end Go.Proofs.Ytdpnnghomfaleaa

namespace Go.Proofs.Ytdpnnghomfaleaa
open Go.RowKit

set_option maxHeartbeats 1000000 in
set_option maxRecDepth 100000 in
theorem DrawExecSeen_any (ca : Option Addr) (cb co L C : Nat) (x : Nat → Int) (w : World) (hL : L ≤ C) (had : 0 < L → ca = some ⟨cb, co, none⟩) (hc : ∀ i, i < L → w.cell? ⟨cb, co + i, none⟩ = some (.int .u8 (x i)) ∧ 0 ≤ x i ∧ x i ≤ 255) (hLb : L ≤ 1048576) :
    Calls Try.prog 24 #[.slice ca L C] w fun e w' => ∃ v, e = .returned v ∧ ExDrawn (w.heap.size + 2) w' v ∧ Below w.heap.size w w' := by
  have hb0 := below2 w (.cells #[.slice none 0 0] 34) (.cells #[.slice none 0 0, .slice none 0 0] 36)
  have hR0 : Slot1 ((w.alloc (.cells #[.slice none 0 0] 34)).alloc (.cells #[.slice none 0 0, .slice none 0 0] 36)) w.heap.size (.slice none 0 0) := (Slot1.new w _ _).ofB (alloc_old _ _ _ (by simp))
  have hQ0 : BxX ((w.alloc (.cells #[.slice none 0 0] 34)).alloc (.cells #[.slice none 0 0, .slice none 0 0] 36)) (w.heap.size + 1) (.slice none 0 0) (.slice none 0 0) := by
    have := BxX.new (w.alloc (.cells #[.slice none 0 0] 34)) (.slice none 0 0) (.slice none 0 0) 36
    rwa [World.size_alloc] at this
  have hsz0 : ((w.alloc (.cells #[.slice none 0 0] 34)).alloc (.cells #[.slice none 0 0, .slice none 0 0] 36)).heap.size = w.heap.size + 1 + 1 := by simp
  go_enter Try.func24, Try.ntmps24
  go_wp2_with fail
  generalize (w.alloc (.cells #[.slice none 0 0] 34)).alloc (.cells #[.slice none 0 0, .slice none 0 0] 36) = W0 at *
  obtain ⟨Q, hQe⟩ : ∃ Q, w.heap.size + 1 = Q := ⟨_, rfl⟩
  rw [hQe] at hQ0 hsz0 ⊢
  refine (l6Open_any ca cb co L C x _ hL had (fun i hi => ⟨by rw [hb0.cell (p := ⟨cb, co + i, none⟩) (World.block_lt_of_cell? _ _ (hc i hi).1)]; exact (hc i hi).1, (hc i hi).2⟩) hLb).mono ?_
  rintro e w1 ⟨rfl, hr1, hb1⟩
  rw [hsz0] at hr1 ⊢
  obtain ⟨rb, hrb⟩ : ∃ rb, Q + 1 = rb := ⟨_, rfl⟩
  rw [hrb] at hr1 ⊢
  have hb1w : Below w.heap.size w w1 := hb0.trans (hb1.mono (by omega))
  have hR1 := hR0.but (But.of (rb := rb) hb1) (by omega)
  have hQ1 := hQ0.but (But.of (rb := rb) hb1) (by omega)
  have hlt1 := hr1.lt
  clear hc had hb0 hb1 hR0 hQ0
  go_wp2_with fail
  refine (l71Exec_any _ rb 0 _ (by omega) hr1).mono ?_
  rintro e w2 ⟨v, rfl, ⟨a, g, c, mm, fv, ov, l, rows, rfl, hsn, hsm, hwy, h1, h2, h3⟩, p2, hp2, hr2, hb2⟩
  have hR2 := hR1.but hb2 (by omega)
  have hQ2 := hQ1.but hb2 (by omega)
  have hbw : Below w.heap.size w w2 := But.below hb1w hb2 (by omega)
  obtain ⟨⟨fa, fb, fc, rfl, hfI, hfP⟩, ⟨ra, rbb, rc, rfl, hra, hrr⟩⟩ := hwy
  have hwy : WyP (fun b => w1.heap.size + 2 ≤ b) w2 (.slice fa l.length fc) (.slice ra rows.length rc) l rows := ⟨⟨fa, fb, fc, rfl, hfI, hfP⟩, ⟨ra, rbb, rc, rfl, hra, hrr⟩⟩
  have hF := ((hwy.set (P' := fun b => w1.heap.size + 2 ≤ b) (B := w.heap.size) (i := 0) (u := .slice a mm.length c) (fun b hb => ⟨hb, by omega⟩)).set (P' := fun b => w1.heap.size + 2 ≤ b) (B := Q) (i := 0) (u := .slice fa l.length fc) (fun b hb => ⟨hb, by omega⟩)).set (P' := fun b => w.heap.size + 2 ≤ b) (B := Q) (i := 1) (u := .slice ra rows.length rc) (fun b hb => ⟨by omega, by omega⟩)
  have hS := (((hsn.far (B := w.heap.size) (i := 0) (u := .slice a mm.length c) (by omega)).far (B := Q) (i := 0) (u := .slice fa l.length fc) (by omega)).far (B := Q) (i := 1) (u := .slice ra rows.length rc) (by omega)).mono (N' := w.heap.size + 2) (by omega)
  have q6 := (hQ2.far (i := 0) (b' := w.heap.size) (by omega) (.slice a mm.length c)).set0 (.slice fa l.length fc)
  have F1 := (((hR2.set (.slice a mm.length c)).far (i := 0) (b' := Q) (by omega) (.slice fa l.length fc)).far (i := 1) (b' := Q) (by omega) (.slice ra rows.length rc)).c
  have F2 := (World.cell?_setCell_other _ ⟨Q, 1, none⟩ ⟨Q, 0, none⟩ (.slice ra rows.length rc) (fun e => by have := congrArg Addr.off e; simp at this)).trans q6.c0
  have F3 := World.cell?_setCell_same _ ⟨Q, 1, none⟩ (.slice ra rows.length rc) q6.c1
  have s0 := hR2.c
  have sf := hR2.fz
  have t0 := hQ2.c0
  have t1 := hQ2.c1
  have tf := hQ2.fz
  have nRQ : w.heap.size ≠ Q := by omega
  have nQR : Q ≠ w.heap.size := by omega
  clear hwy hfI hfP hra hrr hsn
  have hq3 : Hid (rows.length = 3) := h2
  clear h2
  go_wp2_with fail
  refine bodyPost_ret (v := .tuple #[.agg #[.slice a mm.length c], .agg #[.slice fa l.length fc, .slice ra rows.length rc]]) (by simp [results, Try.results24, go_sem, F1, F2, F3]) rfl ⟨_, rfl, ⟨a, g, c, mm, _, _, l, rows, rfl, hS, hsm, hF, h1, hq3.out, h3⟩, ((hbw.setCell (p := ⟨w.heap.size, 0, none⟩) (Nat.le_refl _) _).setCell (p := ⟨Q, 0, none⟩) (by show w.heap.size ≤ Q; omega) _).setCell (p := ⟨Q, 1, none⟩) (by show w.heap.size ≤ Q; omega) _⟩
end Go.Proofs.Ytdpnnghomfaleaa

namespace Go.Proofs.Ytdpnnghomfaleaa
open Go.RowKit

structure BxW (w W : World) (P X : Nat) (a : Option Addr) (g c : Nat) (mm : List (List M.D)) (fa : Option Addr) (fb fc : Nat) (l : List Int) (ra : Option Addr) (rb rc : Nat) (rows : List (List Int)) : Prop where
  bel : Below w.heap.size w W
  p : Slot1 W P (.slice a mm.length c)
  x : BxX W X (.slice fa l.length fc) (.slice ra rows.length rc)
  ss : DoSS W a g 0 mm
  f : IntS W fa fb 0 l
  o : IntSS W ra rb 0 rows
theorem BxW.below {w W W' : World} {P X : Nat} {a : Option Addr} {g c : Nat} {mm : List (List M.D)} {fa : Option Addr} {fb fc : Nat} {l : List Int} {ra : Option Addr} {rb rc : Nat} {rows : List (List Int)} (h : BxW w W P X a g c mm fa fb fc l ra rb rc rows) (hb : Below W.heap.size W W') : BxW w W' P X a g c mm fa fb fc l ra rb rc rows :=
  ⟨h.bel.trans (hb.mono h.bel.size), h.p.ofB (hb.block P h.p.lt), h.x.of (hb.block X h.x.lt), h.ss.below hb (Nat.le_refl _), h.f.below hb (Nat.le_refl _), h.o.below hb (Nat.le_refl _)⟩
theorem BxW.new {w w1 : World} {a : Option Addr} {g c : Nat} {mm : List (List M.D)} {fa : Option Addr} {fb fc : Nat} {l : List Int} {ra : Option Addr} {rb rc : Nat} {rows : List (List Int)} (hb : Below w.heap.size w w1) (hs : DoSS w1 a g 0 mm) (hf : IntS w1 fa fb 0 l) (ho : IntSS w1 ra rb 0 rows) :
    BxW w ((w1.alloc (.cells #[.slice a mm.length c] 34)).alloc (.cells #[.slice fa l.length fc, .slice ra rows.length rc] 36)) w1.heap.size (w1.heap.size + 1) a g c mm fa fb fc l ra rb rc rows := by
  have h2 := below2 w1 (.cells #[.slice a mm.length c] 34) (.cells #[.slice fa l.length fc, .slice ra rows.length rc] 36)
  have hx := BxX.new (w1.alloc (.cells #[.slice a mm.length c] 34)) (.slice fa l.length fc) (.slice ra rows.length rc) 36
  rw [World.size_alloc] at hx
  exact ⟨hb.trans (h2.mono hb.size), (Slot1.new w1 _ _).ofB (alloc_old _ _ _ (by simp)), hx, hs.below h2 (Nat.le_refl _), hf.below h2 (Nat.le_refl _), ho.below h2 (Nat.le_refl _)⟩
end Go.Proofs.Ytdpnnghomfaleaa

namespace Go.Proofs.Ytdpnnghomfaleaa
open Go.RowKit

theorem M.orig_lt {ds : List M.De} {l : List Int} (hin : M.In ds l) : ∀ (m n q : Nat), n < ds.length → M.orig ds l m n = some q → q < ds.length := by
  intro m
  induction m with
  | zero => intro n q _ h; simp [M.orig] at h
  | succ m ih =>
    intro n q hn h
    rw [M.orig] at h
    split at h
    · obtain rfl := Option.some.inj h; exact hn
    · have := hin n hn
      exact ih _ q (by omega) h

set_option maxHeartbeats 400000 in
theorem value_any (va : Option Addr) (g c : Nat) (ds : List M.De) (a : Option Addr) (b o c2 : Nat) (l : List Int) (n q : Nat) (w : World) (hn : n < ds.length) (HLL : Hid (l.length = ds.length)) (hin : M.In ds l) (ho : M.orig ds l ds.length n = some q) (hq : q < ds.length) (hl : ds.length ≤ 1048576) (h : DeS w va g ds) (h2 : IntS w a b o l) :
    Calls Try.prog 78 #[.slice va ds.length c, .slice a l.length c2, .int .i64 n] w fun e w' => e = .returned (.int .i64 ds[q].d.v) ∧ Below w.heap.size w w' := by
  have C := origin_any va g c ds a b o c2 l n w hn HLL.out hin hl h h2
  rw [ho] at C
  change Calls _ _ _ _ fun e w' => e = .returned (.tuple #[.int .i64 q, .bool true]) ∧ _ at C
  obtain ⟨rfl⟩ := h.addr (by omega)
  have i1 : (q : Int) < ds.length := by omega
  go_enter Try.func78, Try.ntmps78
  go_wp2_with (go_at_call 93; refine C.mono ?_; rintro e w1 ⟨rfl, hb1⟩; obtain ⟨_, _, _, _, _, c5, _⟩ := DeS.at (h.bel hb1 (Nat.le_refl _)) hq)
  go_ret
  exact ⟨rfl, hb1⟩

/-- Both read the same of an event. -/
theorem M.val_of_orig {ds : List M.De} {l : List Int} (hin : M.In ds l) (hll : l.length = ds.length) (hz : ∀ x ∈ ds, x.reads = true ∨ x.d.k = 3 → x.d.v = 0) : ∀ (m n q : Nat), n < ds.length → (hq : q < ds.length) → M.orig ds l m n = some q → M.val ds l m n = ds[q].d.v := by
  intro m
  induction m with
  | zero => intro n q _ _ h; simp [M.orig] at h
  | succ m ih =>
    intro n q hn hq h
    have hi := hin n hn
    have hvf : M.valFrom ds l n = if ds[n].reads then l[n] else if ds[n].d.k == 3 then ds[n].lr else -1 := by
      simp [M.valFrom, hn, show n < l.length by omega]
    rw [M.val_at ds l m n hn (by omega)]
    rw [M.orig] at h
    have step : ∀ f : Int, M.valFrom ds l n = f → (ds[n].reads = true ∨ ds[n].d.k = 3) → M.val ds l m f = ds[q].d.v := by
      intro f hf hk
      rw [hf] at h hi
      by_cases h0 : f < 0
      · rw [if_pos h0] at h
        obtain rfl := Option.some.inj h
        rw [M.val_neg _ _ _ h0, hz _ (List.getElem_mem hn) hk]
      · rw [if_neg h0] at h
        obtain ⟨k, rfl⟩ : ∃ k : Nat, f = k := ⟨f.toNat, by omega⟩
        rw [Int.toNat_natCast] at h
        exact ih k q (by omega) hq h
    by_cases hr : ds[n].reads = true
    · rw [if_pos hr]
      rw [if_pos hr] at hvf
      exact step _ hvf (Or.inl hr)
    · rw [if_neg hr]
      rw [if_neg hr] at hvf
      by_cases h3 : (ds[n].d.k == 3) = true
      · rw [if_pos h3]
        rw [if_pos h3] at hvf
        exact step _ hvf (Or.inr (by simpa using h3))
      · rw [if_neg h3]
        rw [if_neg h3] at hvf
        rw [hvf, if_pos (by omega)] at h
        obtain rfl := Option.some.inj h
        rfl

end Go.Proofs.Ytdpnnghomfaleaa

namespace Go.Proofs.Ytdpnnghomfaleaa
open Go.RowKit

set_option maxHeartbeats 1000000 in
theorem wayOk_any (va : Option Addr) (g c : Nat) (ll : List (List M.D)) (fa : Option Addr) (fb fo fc : Nat) (l : List Int) (ra : Option Addr) (rb ro rc : Nat) (rows : List (List Int)) (w : World) (hl : (M.deeds ll).length ≤ 1048576) (hl1 : l.length ≤ 1048576) (hl2 : rows.length ≤ 1048576) (hls : ∀ r ∈ rows, r.length ≤ 1048576) (h : DeS w va g (M.deeds ll)) (hf : IntS w fa fb fo l) (hr : IntSS w ra rb ro rows) :
    Calls Try.prog 44 #[.slice va (M.deeds ll).length c, .agg #[.slice fa l.length fc, .slice ra rows.length rc]] w fun e w' => e = .returned (.bool (M.wayOk (M.deeds ll) l rows)) ∧ Below w.heap.size w w' := by
  have hb1 := below1 w (.cells #[.slice fa l.length fc, .slice ra rows.length rc] 36)
  have k0 : (w.alloc (.cells #[.slice fa l.length fc, .slice ra rows.length rc] 36)).cell? ⟨w.heap.size, 0, none⟩ = some (.slice fa l.length fc) := by simp
  have k1 : (w.alloc (.cells #[.slice fa l.length fc, .slice ra rows.length rc] 36)).cell? ⟨w.heap.size, 1, none⟩ = some (.slice ra rows.length rc) := by simp
  have hd1 := h.bel hb1 (Nat.le_refl _)
  have hf1 := hf.below hb1 (Nat.le_refl _)
  have hr1 := hr.below hb1 (Nat.le_refl _)
  go_enter Try.func44, Try.ntmps44
  go_wp2_with fail
  generalize w.alloc (.cells #[.slice fa l.length fc, .slice ra rows.length rc] 36) = W at *
  have lt0 : w.heap.size < W.heap.size := World.block_lt_of_cell? _ _ k0
  clear h hf hr
  have C1 := fromOk_any va g c (M.deeds ll) fa fb fo fc l W hl hl1 hd1 hf1
  cases h1 : M.fromOk (M.deeds ll) l
  · rw [h1] at C1
    refine C1.mono ?_
    rintro e w1 ⟨rfl, hb2⟩
    go_wp2_with fail
    go_ret
    exact ⟨ret_bool (by simp [M.wayOk, h1]), hb1.trans (hb2.mono hb1.size)⟩
  · rw [h1] at C1
    have HIN : M.In (M.deeds ll) l := M.in_of h1
    have HLN : Hid (l.length = (M.deeds ll).length) := by
      show _ = _
      simp only [M.fromOk, Bool.and_eq_true, decide_eq_true_eq] at h1
      exact h1.1
    refine C1.mono ?_
    rintro e w1 ⟨rfl, hb2⟩
    have k0' := (hb2.cell (p := ⟨w.heap.size, 0, none⟩) lt0).trans k0
    have k1' := (hb2.cell (p := ⟨w.heap.size, 1, none⟩) lt0).trans k1
    have lt1 := Nat.lt_of_lt_of_le lt0 hb2.size
    go_wp2_with fail
    have C2 := orderOk_any va g c (M.deeds ll) ra rb ro rc rows w1 hl hl2 hls (hd1.bel hb2 (Nat.le_refl _)) (hr1.below hb2 (Nat.le_refl _))
    have hb12 := hb1.trans (hb2.mono hb1.size)
    clear k0 k1 C1
    cases h2 : M.orderOk (M.deeds ll) rows
    · rw [h2] at C2
      refine C2.mono ?_
      rintro e w2 ⟨rfl, hb3⟩
      go_wp2_with fail
      go_ret
      exact ⟨ret_bool (by simp [M.wayOk, h1, h2]), hb12.trans (hb3.mono hb12.size)⟩
    · rw [h2] at C2
      refine C2.mono ?_
      rintro e w2 ⟨rfl, hb3⟩
      have k0'' := (hb3.cell (p := ⟨w.heap.size, 0, none⟩) lt1).trans k0'
      have hb123 := hb12.trans (hb3.mono hb12.size)
      have C3 := copiesEnd_any va g c (M.deeds ll) fa fb fo fc l w2 HLN.out HIN hl ((hd1.bel hb2 (Nat.le_refl _)).bel hb3 (Nat.le_refl _)) ((hf1.below hb2 (Nat.le_refl _)).below hb3 (Nat.le_refl _))
      clear k0' k1'
      go_wp2_with fail
      refine C3.mono ?_
      rintro e w3 ⟨rfl, hb4⟩
      go_wp2_with fail
      go_ret
      exact ⟨ret_bool (by simp [M.wayOk, h1, h2]), hb123.trans (hb4.mono hb123.size)⟩

set_option maxHeartbeats 1000000 in
set_option maxRecDepth 100000 in
theorem iexecOk_any (a : Option Addr) (b o c : Nat) (ll : List (List M.D)) (fa : Option Addr) (fb fo fc : Nat) (l : List Int) (ra : Option Addr) (rb ro rc : Nat) (rows : List (List Int)) (w : World) (hl : ll.length ≤ 1048576) (hls : ∀ t ∈ ll, t.length ≤ 1048576) (hl1 : l.length ≤ 1048576) (hl2 : rows.length ≤ 1048576) (hrs : ∀ r ∈ rows, r.length ≤ 1048576) (h : DoSS w a b o ll) (hf : IntS w fa fb fo l) (hr : IntSS w ra rb ro rows) :
    Calls Try.prog 14 #[.agg #[.slice a ll.length c], .agg #[.slice fa l.length fc, .slice ra rows.length rc]] w fun e w' => e = .returned (.bool (M.execOk ll l rows)) ∧ Below w.heap.size w w' := by
  have hb1 := below2 w (.cells #[.slice a ll.length c] 34) (.cells #[.slice fa l.length fc, .slice ra rows.length rc] 36)
  have kp : ((w.alloc (.cells #[.slice a ll.length c] 34)).alloc (.cells #[.slice fa l.length fc, .slice ra rows.length rc] 36)).cell? ⟨w.heap.size, 0, none⟩ = some (.slice a ll.length c) := by simp
  have k0 : ((w.alloc (.cells #[.slice a ll.length c] 34)).alloc (.cells #[.slice fa l.length fc, .slice ra rows.length rc] 36)).cell? ⟨w.heap.size + 1, 0, none⟩ = some (.slice fa l.length fc) := by simp
  have k1 : ((w.alloc (.cells #[.slice a ll.length c] 34)).alloc (.cells #[.slice fa l.length fc, .slice ra rows.length rc] 36)).cell? ⟨w.heap.size + 1, 1, none⟩ = some (.slice ra rows.length rc) := by simp
  have hp1 := h.below hb1 (Nat.le_refl _)
  have hf1 := hf.below hb1 (Nat.le_refl _)
  have hr1 := hr.below hb1 (Nat.le_refl _)
  go_enter Try.func14, Try.ntmps14
  go_wp2_with fail
  generalize (w.alloc (.cells #[.slice a ll.length c] 34)).alloc (.cells #[.slice fa l.length fc, .slice ra rows.length rc] 36) = W at *
  have lt0 : w.heap.size + 1 < W.heap.size := World.block_lt_of_cell? _ _ k0
  clear h hf hr
  cases hp : M.prog ll
  · have KP := BelowOf.cell kp
    have C := fun q : BelowOf W => iprog_any a b o c ll q.x hl hls (hp1.below q.h (Nat.le_refl _))
    rw [hp] at C
    haveI : Inhabited (BelowOf W) := ⟨belOf W⟩
    refine wp_region_quiet_bel (by kernel_rfl) (by kernel_rfl) ?_
    iterate 3 (quiet_step (first | (go_at_call 42; exact Calls.bel_of (C _))))
    iterate 4 go_big_quiet_skip
    iterate 2 (quiet_step (fail))
    refine wpQuiet_nil ?_
    rintro _ ⟨⟨wq, hwq⟩, rfl⟩
    go_wp2_with fail
    go_ret
    exact ⟨ret_bool (by simp [M.execOk, hp]), hb1.trans (hwq.mono hb1.size)⟩
  · obtain ⟨h3, h7⟩ := M.prog_bounds hp
    have hdl := M.deeds_len h3 h7
    have hp2 := hp1.below (Below.refl W.heap.size W).drew (Nat.le_refl _)
    have C1 := iprog_any a b o c ll W.drew hl hls hp2
    rw [hp] at C1
    go_region_held3 (fun w' => w'.cell? ⟨w.heap.size, 0, none⟩ = some (.slice a ll.length c) ∧ w'.cell? ⟨w.heap.size + 1, 0, none⟩ = some (.slice fa l.length fc) ∧ w'.cell? ⟨w.heap.size + 1, 1, none⟩ = some (.slice ra rows.length rc)) (go_keep) (first
      | (go_at_call 42; refine C1.mono ?_; rintro e w1 ⟨rfl, hb2⟩; have Y0 := (hb2.cell (p := ⟨w.heap.size, 0, none⟩) (Nat.lt_of_succ_lt lt0)).trans kp; have Y1 := (hb2.cell (p := ⟨w.heap.size + 1, 0, none⟩) lt0).trans k0; have Y2 := (hb2.cell (p := ⟨w.heap.size + 1, 1, none⟩) lt0).trans k1; have ltY := Nat.lt_of_lt_of_le lt0 hb2.size)
      | (go_at_call 43; refine (deedsOf_any a b o c ll _ h3 h7 (hp2.below hb2 (Nat.le_refl _))).mono ?_; rintro e w2 ⟨v2, rfl, hown, hb3⟩; obtain ⟨va, g, cap, rfl, hrs2, _, _⟩ := own_rs M.De.len hown; have Z0 := (hb3.cell (p := ⟨w.heap.size, 0, none⟩) (Nat.lt_of_succ_lt ltY)).trans Y0; have Z1 := (hb3.cell (p := ⟨w.heap.size + 1, 0, none⟩) ltY).trans Y1; have Z2 := (hb3.cell (p := ⟨w.heap.size + 1, 1, none⟩) ltY).trans Y2; have ltZ := Nat.lt_of_lt_of_le ltY hb3.size)
      | (go_at_call 44; refine (wayOk_any va g cap ll fa fb fo fc l ra rb ro rc rows w2 (by omega) hl1 hl2 hrs hrs2 (((hf1.below (Below.refl _ _).drew (Nat.le_refl _)).below hb2 (Nat.le_refl _)).below hb3 (Nat.le_refl _)) (((hr1.below (Below.refl _ _).drew (Nat.le_refl _)).below hb2 (Nat.le_refl _)).below hb3 (Nat.le_refl _))).mono ?_; rintro e w3 ⟨rfl, hb4⟩; have X0 := (hb4.cell (p := ⟨w.heap.size, 0, none⟩) (Nat.lt_of_succ_lt ltZ)).trans Z0; have X1 := (hb4.cell (p := ⟨w.heap.size + 1, 0, none⟩) ltZ).trans Z1; have X2 := (hb4.cell (p := ⟨w.heap.size + 1, 1, none⟩) ltZ).trans Z2))
    go_wp2_with fail
    go_ret
    have hb5 := ((Below.refl W.heap.size W).drew.trans hb2).trans (hb3.mono hb2.size)
    exact ⟨ret_bool (by simp [M.execOk, hp]), hb1.trans ((hb5.trans (hb4.mono hb5.size)).mono hb1.size)⟩

end Go.Proofs.Ytdpnnghomfaleaa

namespace Go.Proofs.Ytdpnnghomfaleaa
open Go.RowKit
namespace M

theorem orig_mono {ds : List De} {l : List Int} : ∀ (m k n q : Nat), m ≤ k → orig ds l m n = some q → orig ds l k n = some q := by
  intro m
  induction m with
  | zero => intro k n q _ h; simp [orig] at h
  | succ m ih =>
    intro k n q hk h
    obtain ⟨k, rfl⟩ : ∃ k', k = k' + 1 := ⟨k - 1, by omega⟩
    rw [orig] at h ⊢
    split at h
    · rename_i h0; rw [if_pos h0]; exact h
    · rename_i h0; rw [if_neg h0]; exact ih k _ q (by omega) h

/-- The value of an event. -/
def vl (ds : List De) (l : List Int) (i : Int) : Int := val ds l (2 * ds.length + 2) i
theorem endsAt_get {ds : List De} {l : List Int} : ∀ (xs : List De) (n : Nat), endsAt ds l n xs = true → ∀ i, i < xs.length → (orig ds l ds.length (n + i)).isSome = true := by
  intro xs
  induction xs with
  | nil => intro n _ i h; exact absurd h (Nat.not_lt_zero _)
  | cons x xs ih =>
    intro n h i hi
    simp only [endsAt, Bool.and_eq_true] at h
    cases i with
    | zero => exact h.1
    | succ i =>
      have := ih (n + 1) h.2 i (by simpa using hi)
      rwa [show n + 1 + i = n + (i + 1) from by omega] at this
theorem vl_of {ds : List De} {l : List Int} (hin : In ds l) (hll : l.length = ds.length) (hz : ∀ x ∈ ds, x.reads = true ∨ x.d.k = 3 → x.d.v = 0) (he : ends ds l = true) (n : Nat) (hn : n < ds.length) :
    ∃ q, ∃ hq : q < ds.length, orig ds l ds.length n = some q ∧ vl ds l n = ds[q].d.v := by
  have h := endsAt_get ds 0 he n hn
  rw [Nat.zero_add] at h
  obtain ⟨q, hq⟩ := Option.isSome_iff_exists.1 h
  have hql := orig_lt hin _ _ _ hn hq
  exact ⟨q, hql, hq, val_of_orig hin hll hz _ n q hn hql (orig_mono _ _ _ _ (by omega) hq)⟩

/-- The values of all reads from one on. -/
def rdAt (ds : List De) (l : List Int) : Nat → List De → List Int
  | _, [] => []
  | n, x :: xs => if x.reads then vl ds l n :: rdAt ds l (n + 1) xs else rdAt ds l (n + 1) xs
theorem rd_step {ds : List De} {l : List Int} {acc : List Int} {n : Nat} (h : rdAt ds l 0 ds = acc ++ rdAt ds l n (ds.drop n)) (hn : n < ds.length) : rdAt ds l 0 ds = (if (ds[n]).reads then acc ++ [vl ds l n] else acc) ++ rdAt ds l (n + 1) (ds.drop (n + 1)) := by
  rw [h, ← List.getElem_cons_drop hn, rdAt]
  split <;> simp
theorem rd_fin {ds : List De} {l : List Int} {acc : List Int} {n : Nat} (h : rdAt ds l 0 ds = acc ++ rdAt ds l n (ds.drop n)) (hn : ds.length ≤ n) : rdAt ds l 0 ds = acc := by
  rw [h, List.drop_eq_nil_of_le hn]; simp [rdAt]
theorem rd_len (ds : List De) (l : List Int) (xs : List De) : ∀ n, (rdAt ds l n xs).length ≤ xs.length := by
  induction xs with
  | nil => intro n; simp [rdAt]
  | cons x xs ih =>
    intro n
    have := ih (n + 1)
    unfold rdAt
    split <;> simp <;> omega
def seenR (ds : List De) (l : List Int) : List Int := rdAt ds l 0 ds
/-- What is there at last, of a row of those who wrote there. -/
def lastOf (ds : List De) (l : List Int) (row : List Int) : Int := vl ds l (row.getLastD (-1))
theorem last_nil (ds : List De) (l : List Int) : lastOf ds l [] = 0 := by simp [lastOf, vl, val]
theorem last_some (ds : List De) (l : List Int) {row : List Int} (h : 0 < row.length) : lastOf ds l row = vl ds l (row[row.length - 1]) := by
  obtain ⟨i, row, rfl⟩ : ∃ i r, row = i :: r := by cases row with
    | nil => exact absurd h (Nat.lt_irrefl _)
    | cons i r => exact ⟨i, r, rfl⟩
  rw [lastOf]
  congr 1
  rw [List.getLastD_eq_getLast?, List.getLast?_eq_getElem?, List.getElem?_eq_getElem (by simp)]
  rfl
def seenL (ds : List De) (l : List Int) (rows : List (List Int)) : List Int := rows.map (lastOf ds l)

end M

/-- What is seen, laid anew: all its blocks are new ones, from B on. -/
structure NewS (B : Nat) (w : World) (s : Sn) : Prop where
  at_ : s.At w
  ge1 : B ≤ s.b1
  ge2 : B ≤ s.b2
  own : Own2 w s

theorem value_vl (va : Option Addr) (g c : Nat) (ds : List M.De) (a : Option Addr) (b o c2 : Nat) (l : List Int) (n : Nat) (w : World) (hn : n < ds.length) (HLL : Hid (l.length = ds.length)) (hin : M.In ds l) (hz : ∀ x ∈ ds, x.reads = true ∨ x.d.k = 3 → x.d.v = 0) (he : M.ends ds l = true) (hl : ds.length ≤ 1048576) (h : DeS w va g ds) (h2 : IntS w a b o l) :
    Calls Try.prog 78 #[.slice va ds.length c, .slice a l.length c2, .int .i64 n] w fun e w' => e = .returned (.int .i64 (M.vl ds l n)) ∧ Below w.heap.size w w' := by
  obtain ⟨q, hq, ho, hv⟩ := M.vl_of hin HLL.out hz he n hn
  rw [hv]
  exact value_any va g c ds a b o c2 l n q w hn HLL hin ho hq hl h h2

theorem Try.infoIntR : (Try.prog.info? 3).map (fun i => (i.zero, i.size, i.bytes)) = some (some (.int .i64 0), 1, 8) := by kernel_rfl

theorem own_far {w : World} {b i B n : Nat} {v : Value} {xs : List Value} (ho : w.ownsRow B 3 1 v n xs) (hb : b < B) (u : Value) : (w.setCell ⟨b, i, none⟩ u).ownsRow B 3 1 v n xs := by
  refine ⟨ho.1, ?_⟩
  rcases ho.2 with h0 | ⟨g, cap, cur, hv, hg, hh, r⟩
  · exact Or.inl h0
  · exact Or.inr ⟨g, cap, cur, hv, hg, (Below.heap_setCell _ _ _ _ (fun e => by simp at e; omega)).trans hh, r⟩

/-- While what is seen is told: the way's box, the answer's, the row of what is there at last, the box of what is told. -/
structure SxA (w wr : World) (e1 e2 v : Value) (acc : List Int) (f : Nat → Int) : Prop where
  bel : Below w.heap.size w wr
  x0 : wr.cell? ⟨w.heap.size, 0, none⟩ = some e1
  x1 : wr.cell? ⟨w.heap.size, 1, none⟩ = some e2
  res : Slot2 wr (w.heap.size + 1) (.slice none 0 0) (.slice none 0 0)
  row : wr.rowIs (w.heap.size + 1 + 1) 3 3 (fun i => .int .i64 (f i))
  s : Slot2 wr (w.heap.size + 1 + 1 + 1) v (.slice (some ⟨w.heap.size + 1 + 1, 0, none⟩) 3 3)
  own : wr.ownsRow (w.heap.size + 1 + 1 + 1 + 1) 3 1 v acc.length (nums acc)
theorem SxA.lt {w wr : World} {e1 e2 v : Value} {acc : List Int} {f : Nat → Int} (h : SxA w wr e1 e2 v acc f) : w.heap.size + 1 + 1 + 1 < wr.heap.size := h.s.lt
theorem SxA.below {w wr w1 : World} {e1 e2 v : Value} {acc : List Int} {f : Nat → Int} (h : SxA w wr e1 e2 v acc f) (hb : Below wr.heap.size wr w1) : SxA w w1 e1 e2 v acc f := by
  have hl := h.lt
  exact ⟨h.bel.trans (hb.mono h.bel.size), (hb.cell (p := ⟨w.heap.size, 0, none⟩) (by show w.heap.size < _; omega)).trans h.x0, (hb.cell (p := ⟨w.heap.size, 1, none⟩) (by show w.heap.size < _; omega)).trans h.x1,
    h.res.of (hb.block _ (by omega)), h.row.of_block (hb.block _ (by omega)), h.s.of (hb.block _ hl), ownsRow_below h.own hb⟩
theorem SxA.snoc {w wr w3 : World} {e1 e2 v v' : Value} {acc acc' : List Int} {f : Nat → Int} {o : Obj} (h : SxA w wr e1 e2 v acc f) (hg : (wr.alloc o).grownBy w3 v.ownBlock) (ho : w3.ownsRow (w.heap.size + 1 + 1 + 1 + 1) 3 1 v' acc'.length (nums acc')) :
    SxA w (w3.setCell ⟨w.heap.size + 1 + 1 + 1, 0, none⟩ v') e1 e2 v' acc' f := by
  have h1 := h.below (below1 wr o)
  have hl := h1.lt
  have hge := own_ge h.own
  have blk : ∀ k, k < w.heap.size + 1 + 1 + 1 + 1 → w3.heap[k]? = (wr.alloc o).heap[k]? := fun k hk => hg.block k (by omega) (fun e => by have := hge k e.symm; omega)
  have hs := h1.s.of (blk _ (by omega))
  refine ⟨(below_grown h1.bel hg (fun k hk => by have := hge k hk; omega) (by omega)).setCell (by show w.heap.size ≤ w.heap.size + 1 + 1 + 1; omega) _, ?_, ?_, (h1.res.of (blk _ (by omega))).far (by omega) _, (h1.row.of_block (blk _ (by omega))).setOther (by show _ ≠ w.heap.size + 1 + 1 + 1; omega) _, hs.set0 _, own_slot ho hs _⟩
  · rw [World.cell?_setCell_other _ _ _ _ (fun e => by have := congrArg Addr.block e; simp at this; omega)]
    exact (World.cell?_of_block (blk _ (by show w.heap.size < _; omega))).trans h1.x0
  · rw [World.cell?_setCell_other _ _ _ _ (fun e => by have := congrArg Addr.block e; simp at this; omega)]
    exact (World.cell?_of_block (blk _ (by show w.heap.size < _; omega))).trans h1.x1
theorem SxA.store {w wr : World} {e1 e2 v : Value} {acc : List Int} {f : Nat → Int} (h : SxA w wr e1 e2 v acc f) (n : Nat) (x : Int) :
    SxA w (wr.setCell ⟨w.heap.size + 1 + 1, n, none⟩ (.int .i64 x)) e1 e2 v acc (fun j => if j = n then x else f j) := by
  refine ⟨h.bel.setCell (by show w.heap.size ≤ w.heap.size + 1 + 1; omega) _, ?_, ?_, h.res.far (by omega) _, (h.row.set n (.int .i64 x)).congr (fun i _ => ?_), h.s.far (by omega) _, own_far h.own (by omega) _⟩
  · rw [World.cell?_setCell_other _ _ _ _ (fun e => by have := congrArg Addr.block e; simp at this; omega)]; exact h.x0
  · rw [World.cell?_setCell_other _ _ _ _ (fun e => by have := congrArg Addr.block e; simp at this; omega)]; exact h.x1
  · by_cases e : i = n <;> simp [e]

set_option maxHeartbeats 1000000 in
set_option maxRecDepth 100000 in
theorem iseen_any (va : Option Addr) (g c : Nat) (ds : List M.De) (fa : Option Addr) (fb fo fc : Nat) (l : List Int) (ra : Option Addr) (rb ro rc : Nat) (rows : List (List Int)) (w : World) (HLL : Hid (l.length = ds.length)) (hin : M.In ds l) (hz : ∀ x ∈ ds, x.reads = true ∨ x.d.k = 3 → x.d.v = 0) (he : M.ends ds l = true) (hl : ds.length ≤ 1048576) (HR3 : Hid (rows.length = 3)) (hrl : ∀ r ∈ rows, r.length ≤ 1048576) (hrm : ∀ r ∈ rows, ∀ x ∈ r, 0 ≤ x ∧ x < ds.length) (h : DeS w va g ds) (hf : IntS w fa fb fo l) (hr : IntSS w ra rb ro rows) :
    Calls Try.prog 49 #[.slice va ds.length c, .agg #[.slice fa l.length fc, .slice ra rows.length rc]] w fun e w' => ∃ s : Sn, e = .returned (.agg #[.slice s.a1 s.l1.length s.c1, .slice s.a2 s.l2.length s.c2]) ∧ s.l1 = M.seenR ds l ∧ s.l2 = M.seenL ds l rows ∧ NewS w.heap.size w' s ∧ Below w.heap.size w w' := by
  have hmk : ∀ w : World, (Instr.makeSlice 25 (.int .i64 3) (.int .i64 3)).run Try.prog w = .ok (.slice (some ⟨w.heap.size, 0, none⟩) 3 3) (w.alloc (.cells #[.int .i64 0, .int .i64 0, .int .i64 0] 3)) := fun w => by
    have := run_make_row' (P := Try.prog) 25 3 (.int .i64 0) 8 Try.underlying25 Try.infoIntR rfl .i64 .i64 3 (by omega) (by omega) w
    rw [show madeCells #[Value.int .i64 0] 3 = #[.int .i64 0, .int .i64 0, .int .i64 0] from by kernel_rfl] at this
    exact this
  obtain ⟨i0, hi, hz0, hz1, hz2⟩ := info_parts Try.infoInt
  go_enter Try.func49, Try.ntmps49
  go_wp2_with fail
  have A0 : SxA w ((((w.alloc (.cells #[.slice fa l.length fc, .slice ra rows.length rc] 36)).alloc (.cells #[.slice none 0 0, .slice none 0 0] 42)).alloc (.cells #[.int .i64 0, .int .i64 0, .int .i64 0] 3)).alloc (.cells #[.slice none 0 0, .slice (some ⟨w.heap.size + 1 + 1, 0, none⟩) 3 3] 42)) (.slice fa l.length fc) (.slice ra rows.length rc) (.slice none 0 0) [] (fun _ => 0) := by
    refine ⟨(below3 w _ _ _).alloc (by simp; omega) _, by simp [go_sem], by simp [go_sem], ⟨?_⟩, ?_, ⟨alloc_new _ _ _ (by simp)⟩, World.ownsRow_nil _ _ _ _⟩
    · rw [alloc_old _ _ _ (by simp), alloc_old _ _ _ (by simp)]; exact alloc_new _ _ _ (by simp)
    · refine World.rowIs.alloc ?_ _
      have := World.rowIs_alloc ((w.alloc (.cells #[.slice fa l.length fc, .slice ra rows.length rc] 36)).alloc (.cells #[.slice none 0 0, .slice none 0 0] 42)) #[.int .i64 0, .int .i64 0, .int .i64 0] 3 (fun _ => .int .i64 0) (fun i hi => by
        match i, hi with
        | 0, _ => rfl
        | 1, _ => rfl
        | 2, _ => rfl)
      simpa using this
  generalize ((((w.alloc (.cells #[.slice fa l.length fc, .slice ra rows.length rc] 36)).alloc (.cells #[.slice none 0 0, .slice none 0 0] 42)).alloc (.cells #[.int .i64 0, .int .i64 0, .int .i64 0] 3)).alloc (.cells #[.slice none 0 0, .slice (some ⟨w.heap.size + 1 + 1, 0, none⟩) 3 3] 42)) = W0 at *
  clear hmk
  have hev : ∀ args w, (callFunc 78 args).run Try.prog w = .ok (.enter 78 args) w := enters_of Try.func78 (by kernel_rfl) rfl
  go_loopw [14] (fun s14 wr => ∃ (n : Nat) (acc : List Int) (v : Value), s14 = .int .i64 n ∧ n ≤ ds.length ∧ acc.length ≤ n ∧ Hid (M.rdAt ds l 0 ds = acc ++ M.rdAt ds l n (ds.drop n)) ∧ SxA w wr (.slice fa l.length fc) (.slice ra rows.length rc) v acc (fun _ => 0)) (fun s14 _ => ds.length - (intOf s14).toNat)
  case atStart => exact ⟨0, [], _, rfl, Nat.zero_le _, Nat.le_refl _, by show _ = _; rfl, A0⟩
  case round =>
    clear A0
    obtain ⟨n, acc, v, rfl, hn, hacc, HW, A⟩ := hrel
    by_cases hlt : n < ds.length
    · obtain ⟨rfl⟩ := h.addr (by omega)
      have hx := DeS.at (h.bel A.bel (Nat.le_refl _)) hlt
      have HW2 : Hid (M.rdAt ds l 0 ds = (if (ds[n]).reads then acc ++ [M.vl ds l n] else acc) ++ M.rdAt ds l (n + 1) (ds.drop (n + 1))) := M.rd_step HW.out hlt
      clear HW
      generalize ds[n] = x at *
      obtain ⟨c0, c1, c2, c3, c4, c5, c6⟩ := hx
      have i1 : (n : Int) < ds.length := by omega
      have lg : g < wr.heap.size := World.block_lt_of_cell? _ _ c0
      have A2 := A.below (below2 wr (.cells #[.int .i64 (x.t : Int), .int .i64 (x.i : Int), .bool x.last, .int .i64 x.d.k, .int .i64 x.d.p, .int .i64 x.d.v, .int .i64 x.lr] 89) (.cells #[.int .i64 (x.t : Int), .int .i64 (x.i : Int), .bool x.last, .int .i64 x.d.k, .int .i64 x.d.p, .int .i64 x.d.v, .int .i64 x.lr] 89))
      cases ht : x.reads
      · go_wp2_with (go_at_call 77; refine (deReads_any x _).mono ?_; rw [ht]; rintro e w' ⟨rfl, rfl⟩)
        exact ⟨⟨n + 1, acc, v, by go_num, by omega, by omega, by show _ = _; have := HW2.out; rw [ht] at this; exact this, A2⟩, by simp [intOf]; omega⟩
      · go_wp2_with (go_at_call 77; refine (deReads_any x _).mono ?_; rw [ht]; rintro e w' ⟨rfl, rfl⟩)
        generalize (wr.alloc (.cells #[.int .i64 (x.t : Int), .int .i64 (x.i : Int), .bool x.last, .int .i64 x.d.k, .int .i64 x.d.p, .int .i64 x.d.v, .int .i64 x.lr] 89)).alloc (.cells #[.int .i64 (x.t : Int), .int .i64 (x.i : Int), .bool x.last, .int .i64 x.d.k, .int .i64 x.d.p, .int .i64 x.d.v, .int .i64 x.lr] 89) = W2 at *
        clear c0 c1 c2 c3 c4 c5 c6 lg A
        have cS := A2.s.c0
        have cX := A2.x0
        have lS := A2.lt
        have fS := A2.s.fz
        go_region_law (first
          | (refine step_go3 (by rfl) 78 _ _ _ _ (by rfl) _ _ _ (by rfl) (by rfl) (by rfl) hev (value_vl (some ⟨g, 0, none⟩) g c ds fa fb fo fc l n W2.drew hlt HLL hin hz he hl (h.bel A2.bel.drew (Nat.le_refl _)) (hf.below A2.bel.drew (Nat.le_refl _))) ?_; rintro e w2 ⟨rfl, hb2⟩; have A3 := A2.below ((Below.refl _ _).drew.trans hb2); have cS2 := A3.s.c0; have fS2 := A3.s.fz; have lS2 := A3.lt; refine ⟨_, rfl, ?_⟩)
          | (refine step_append_lies _ (by rfl) _ _ _ (by rfl) (w.heap.size + 1 + 1 + 1 + 1) 3 i0 _ 1 8 Try.underlying25 hi hz0 hz1 hz2 rfl (by omega) v acc.length (nums acc) (by rfl) (A3.own.alloc _) ⟨w2.heap.size, 0, none⟩ 1 1 [.int .i64 (M.vl ds l n)] (by rfl) (by rfl) (World.news_of_block (cs := #[.int .i64 (M.vl ds l n)]) (t := 3) (fr := (0, 0)) (heap_alloc_new w2 _)) (by simp [Value.oneCell']) (by omega) (by unfold maxLen; omega) (by omega) (by simp only [World.size_alloc]; omega) (w2.heap.size + 1) (by simp) ?_; intro g3 cap w3 hown3 hgr hat hltg; have hown3' : w3.ownsRow (w.heap.size + 1 + 1 + 1 + 1) 3 1 (.slice (some ⟨g3, 0, none⟩) (acc.length + 1) cap) (acc ++ [M.vl ds l n]).length (nums (acc ++ [M.vl ds l n])) := (by rw [List.length_append]; simpa [nums] using hown3); have A4 := A3.snoc hgr hown3'; have hge := own_ge A3.own; have cS3 : w3.cell? ⟨w.heap.size + 1 + 1 + 1, 0, none⟩ = some v := hgr.cell (((below1 w2 (.cells #[.int .i64 (M.vl ds l n)] 3)).cell (p := ⟨w.heap.size + 1 + 1 + 1, 0, none⟩) lS2).trans cS2) (fun e => by have : w.heap.size + 1 + 1 + 1 + 1 ≤ w.heap.size + 1 + 1 + 1 := hge _ e.symm; omega); have fS3 : ∀ i, w3.frozen? ⟨w.heap.size + 1 + 1 + 1, i, none⟩ = false := fun i => (hgr.frozen_far ⟨w.heap.size + 1 + 1 + 1, i, none⟩ (by simp only [World.size_alloc]; omega) (fun e => by have : w.heap.size + 1 + 1 + 1 + 1 ≤ w.heap.size + 1 + 1 + 1 := hge _ e.symm; omega)).trans (((below1 w2 (.cells #[.int .i64 (M.vl ds l n)] 3)).frozen (p := ⟨w.heap.size + 1 + 1 + 1, i, none⟩) lS2).trans (fS2 i)); clear hge hown3 hown3' hgr hat hltg))
        all_goals
          go_wp2_with fail
          exact ⟨⟨n + 1, acc ++ [M.vl ds l n], _, by go_num, by omega, by simp; omega, by show _ = _; have := HW2.out; rw [ht] at this; exact this, A4⟩, by simp [intOf]; omega⟩
    · have HF : Hid (M.seenR ds l = acc) := M.rd_fin HW.out (by omega)
      clear HW
      have cX := A.x1
      go_wp2_with fail
      go_loopw [35] (fun s35 wr => ∃ (n : Nat) (f : Nat → Int), s35 = .int .i64 n ∧ n ≤ rows.length ∧ Hid (∀ j, f j = if j < n then M.lastOf ds l (rows.getD j []) else 0) ∧ SxA w wr (.slice fa l.length fc) (.slice ra rows.length rc) v acc f) (fun s35 _ => rows.length - (intOf s35).toNat)
      case atStart => exact ⟨0, fun _ => 0, rfl, Nat.zero_le _, (fun j => by simp), A⟩
      case round =>
        clear A cX hn hacc hlt
        obtain ⟨n, f, rfl, hn, HW, A⟩ := hrel
        by_cases hlt : n < rows.length
        · obtain ⟨rfl⟩ := hr.addr (by omega)
          obtain ⟨a', b', o', c', hc, hd⟩ := (hr.below A.bel (Nat.le_refl _)).row n hlt
          have hlr := hrl _ (List.getElem_mem hlt)
          have hmr := hrm _ (List.getElem_mem hlt)
          have HG : Hid (rows.getD n [] = rows[n]) := by show _ = _; rw [List.getD_eq_getElem?_getD, List.getElem?_eq_getElem hlt]; rfl
          have H3 : n < 3 := by have := HR3.out; omega
          generalize rows[n] = row at *
          by_cases h0 : 0 < row.length
          · have HX : Hid (M.lastOf ds l row = M.vl ds l row[row.length - 1]) := M.last_some ds l h0
            have hmx := hmr _ (List.getElem_mem (l := row) (n := row.length - 1) (by omega))
            have hcx := hd.row (row.length - 1) (by omega)
            obtain ⟨rfl⟩ := hd.addr h0
            generalize row[row.length - 1] = y at *
            obtain ⟨m, rfl⟩ : ∃ m : Nat, y = m := ⟨y.toNat, by omega⟩
            have hm : m < ds.length := by omega
            obtain ⟨k, hk⟩ : ∃ k, row.length = k + 1 := ⟨row.length - 1, by omega⟩
            have HK : Hid (row.length = k + 1) := hk
            rw [hk, Nat.add_sub_cancel] at hcx
            rw [hk] at hc hlr
            clear hk h0 hmx
            have cS := A.s.c1
            have cX := A.x0
            have lS := A.lt
            have cR := A.row.cell H3
            have fR := A.row.frozen
            have k1 : (k : Int) < (k : Int) + 1 := by omega
            have k2 : IntKind.i64.wrap (k : Int) = k := by rw [IntKind.wrap_i64]; omega
            have n3 : (n : Int) < 3 := by omega
            have ln : (n : Int) < rows.length := by omega
            go_wp2_with fail
            go_region_law (refine step_go3 (by rfl) 78 _ _ _ _ (by rfl) _ _ _ (by rfl) (by rfl) (by rfl) hev (value_vl va g c ds fa fb fo fc l m wr.drew hm HLL hin hz he hl (h.bel A.bel.drew (Nat.le_refl _)) (hf.below A.bel.drew (Nat.le_refl _))) ?_; rintro e w2 ⟨rfl, hb2⟩; have A3 := A.below ((Below.refl _ _).drew.trans hb2); have cS2 := A3.s.c1; have lS2 := A3.lt; have cR2 := A3.row.cell H3; have fR2 := A3.row.frozen; refine ⟨_, rfl, ?_⟩)
            all_goals
              have A4 := A3.store n (M.vl ds l m)
              go_wp2_with fail
              refine ⟨⟨n + 1, _, by go_num, by omega, (fun j => ?_), A4⟩, by simp [intOf]; omega⟩
              show (if j = n then M.vl ds l m else f j) = _
              by_cases e : j = n
              · subst e
                rw [if_pos rfl, if_pos (by omega), HG.out, HX.out]
              · rw [if_neg e, HW.out j]
                by_cases e2 : j < n
                · rw [if_pos e2, if_pos (by omega)]
                · rw [if_neg e2, if_neg (by omega)]
          · obtain rfl : row = [] := List.length_eq_zero_iff.1 (by omega)
            have ln : (n : Int) < rows.length := by omega
            rw [List.length_nil] at hc
            go_wp2_with fail
            refine ⟨⟨n + 1, f, by go_num, by omega, (fun j => ?_), A⟩, by simp [intOf]; omega⟩
            rw [HW.out j]
            by_cases e : j = n
            · subst e
              rw [if_neg (by omega), if_pos (by omega), HG.out, M.last_nil]
            · by_cases e2 : j < n
              · rw [if_pos e2, if_pos (by omega)]
              · rw [if_neg e2, if_neg (by omega)]
        · obtain ⟨a1, g1, c1, rfl, i1, ge1, nc1⟩ := own_nums A.own
          have x0 := A.s.c0
          have x1 := A.s.c1
          have lS := A.lt
          have y0 := A.res.c0
          have y1 := A.res.c1
          have yf := A.res.fz
          go_wp2_with fail
          have hl3 : (M.seenL ds l rows).length = 3 := by rw [M.seenL, List.length_map]; exact HR3.out
          have i2 : IntS wr (some ⟨w.heap.size + 1 + 1, 0, none⟩) (w.heap.size + 1 + 1) 0 (M.seenL ds l rows) := ⟨fun _ => rfl, fun i hi => by
            have hir : i < rows.length := by simpa [M.seenL] using hi
            have := A.row.cell (i := i) (by omega)
            rw [HW.out i, if_pos (by omega), List.getD_eq_getElem?_getD, List.getElem?_eq_getElem hir] at this
            rw [Nat.zero_add, this]
            simp [M.seenL]⟩
          refine bodyPost_ret (v := .agg #[.slice a1 acc.length c1, .slice (some ⟨w.heap.size + 1 + 1, 0, none⟩) 3 3]) (by simp [results, Try.results49, go_sem, y0, y1]) rfl ⟨⟨a1, g1, 0, c1, acc, some ⟨w.heap.size + 1 + 1, 0, none⟩, w.heap.size + 1 + 1, 0, 3, M.seenL ds l rows⟩, ?_, HF.out.symm, rfl, ⟨⟨?_, ?_⟩, by show w.heap.size ≤ g1; omega, by show w.heap.size ≤ w.heap.size + 1 + 1; omega, ⟨fun _ _ => by show g1 ≠ w.heap.size + 1 + 1; omega, ?_⟩⟩, ?_⟩
          · rw [hl3]
          · exact (i1.far (by omega)).far (by omega)
          · exact (i2.far (by omega)).far (by omega)
          · intro b hb j
            rw [World.frozen?_setCell, World.frozen?_setCell]
            rcases hb with ⟨h0, e⟩ | ⟨_, e⟩
            · have e' : b = g1 := e
              subst e'
              obtain ⟨rfl⟩ := i1.addr h0
              exact own_fzS A.own j
            · have e' : b = w.heap.size + 1 + 1 := e
              subst e'
              exact A.row.frozen j
          · exact (A.bel.setCell (by show w.heap.size ≤ w.heap.size + 1; omega) _).setCell (by show w.heap.size ≤ w.heap.size + 1; omega) _


namespace M
/-- What is seen in a way. -/
def execSeen (ll : List (List D)) (l : List Int) (rows : List (List Int)) : List Int × List Int := if execOk ll l rows then (seenR (deeds ll) l, seenL (deeds ll) l rows) else ([], [])
/-- What is known of a way that is ok. -/
structure Way (ll : List (List D)) (l : List Int) (rows : List (List Int)) : Prop where
  prog : prog ll = true
  len : Hid (l.length = (deeds ll).length)
  inn : In (deeds ll) l
  fin : ends (deeds ll) l = true
  three : Hid (rows.length = 3)
  mem : ∀ r ∈ rows, ∀ x ∈ r, 0 ≤ x ∧ x < (deeds ll).length
  zero : ∀ x ∈ deeds ll, x.reads = true ∨ x.d.k = 3 → x.d.v = 0
theorem deed_z {ll : List (List D)} (h : prog ll = true) : ∀ x ∈ deeds ll, x.reads = true ∨ x.d.k = 3 → x.d.v = 0 := by
  intro x hx hk
  have := deed_do h x hx
  simp only [doOk, Bool.and_eq_true, valOk] at this
  have hv := this.2
  rw [if_neg ?_] at hv
  · simpa using hv
  · rcases hk with hk | hk
    · simp only [De.reads, reads, Bool.or_eq_true, beq_iff_eq] at hk
      rcases hk with hk | hk <;> simp [stores, hk]
    · simp [stores, hk]
theorem way_of {ll : List (List D)} {l : List Int} {rows : List (List Int)} (h : execOk ll l rows = true) : Way ll l rows := by
  simp only [execOk, wayOk, Bool.and_eq_true] at h
  obtain ⟨hp, hf, ho, he⟩ := h
  have hlen : l.length = (deeds ll).length := by
    simp only [fromOk, Bool.and_eq_true, decide_eq_true_eq] at hf
    exact hf.1
  simp only [orderOk, Bool.and_eq_true, decide_eq_true_eq] at ho
  refine ⟨hp, hlen, in_of hf, he, ho.1, fun r hr x hx => ?_, deed_z hp⟩
  obtain ⟨n, hn, rfl⟩ := List.getElem_of_mem hr
  obtain ⟨i, hi, e, _⟩ := mem_wrs.1 ((isRow_mem (orderAt_get ho.2 n hn) x).1 hx)
  omega
end M

set_option maxHeartbeats 1000000 in
set_option maxRecDepth 100000 in
theorem iexecSeen_any (a : Option Addr) (b o c : Nat) (ll : List (List M.D)) (fa : Option Addr) (fb fo fc : Nat) (l : List Int) (ra : Option Addr) (rb ro rc : Nat) (rows : List (List Int)) (w : World) (hl : ll.length ≤ 1048576) (hls : ∀ t ∈ ll, t.length ≤ 1048576) (hl1 : l.length ≤ 1048576) (hl2 : rows.length ≤ 1048576) (hrs : ∀ r ∈ rows, r.length ≤ 1048576) (h : DoSS w a b o ll) (hf : IntS w fa fb fo l) (hr : IntSS w ra rb ro rows) :
    Calls Try.prog 18 #[.agg #[.slice a ll.length c], .agg #[.slice fa l.length fc, .slice ra rows.length rc]] w fun e w' => ∃ s : Sn, e = .returned (.tuple #[.agg #[.slice s.a1 s.l1.length s.c1, .slice s.a2 s.l2.length s.c2], .bool (M.execOk ll l rows)]) ∧ s.l1 = (M.execSeen ll l rows).1 ∧ s.l2 = (M.execSeen ll l rows).2 ∧ NewS w.heap.size w' s ∧ Below w.heap.size w w' := by
  have hb1 := below3 w (.cells #[.slice a ll.length c] 34) (.cells #[.slice fa l.length fc, .slice ra rows.length rc] 36) (.cells #[.slice none 0 0, .slice none 0 0] 42)
  have kp : (((w.alloc (.cells #[.slice a ll.length c] 34)).alloc (.cells #[.slice fa l.length fc, .slice ra rows.length rc] 36)).alloc (.cells #[.slice none 0 0, .slice none 0 0] 42)).cell? ⟨w.heap.size, 0, none⟩ = some (.slice a ll.length c) := by simp [go_sem]
  have k0 : (((w.alloc (.cells #[.slice a ll.length c] 34)).alloc (.cells #[.slice fa l.length fc, .slice ra rows.length rc] 36)).alloc (.cells #[.slice none 0 0, .slice none 0 0] 42)).cell? ⟨w.heap.size + 1, 0, none⟩ = some (.slice fa l.length fc) := by simp [go_sem]
  have k1 : (((w.alloc (.cells #[.slice a ll.length c] 34)).alloc (.cells #[.slice fa l.length fc, .slice ra rows.length rc] 36)).alloc (.cells #[.slice none 0 0, .slice none 0 0] 42)).cell? ⟨w.heap.size + 1, 1, none⟩ = some (.slice ra rows.length rc) := by simp [go_sem]
  have r0 : Slot2 (((w.alloc (.cells #[.slice a ll.length c] 34)).alloc (.cells #[.slice fa l.length fc, .slice ra rows.length rc] 36)).alloc (.cells #[.slice none 0 0, .slice none 0 0] 42)) (w.heap.size + 1 + 1) (.slice none 0 0) (.slice none 0 0) := ⟨alloc_new _ _ _ (by simp)⟩
  have hp1 := h.below hb1 (Nat.le_refl _)
  have hf1 := hf.below hb1 (Nat.le_refl _)
  have hr1 := hr.below hb1 (Nat.le_refl _)
  obtain ⟨ok, hok⟩ : ∃ r, M.execOk ll l rows = r := ⟨_, rfl⟩
  have HOK : Hid (M.execOk ll l rows = ok) := hok
  have HES : Hid (M.execSeen ll l rows = if ok then (M.seenR (M.deeds ll) l, M.seenL (M.deeds ll) l rows) else ([], [])) := by show _ = _; rw [M.execSeen, hok]
  rw [hok]
  clear hok
  go_enter Try.func18, Try.ntmps18
  go_wp2_with fail
  generalize (((w.alloc (.cells #[.slice a ll.length c] 34)).alloc (.cells #[.slice fa l.length fc, .slice ra rows.length rc] 36)).alloc (.cells #[.slice none 0 0, .slice none 0 0] 42)) = W at *
  have lt0 := r0.lt
  clear h hf hr
  have C1 := iexecOk_any a b o c ll fa fb fo fc l ra rb ro rc rows W hl hls hl1 hl2 hrs hp1 hf1 hr1
  rw [HOK.out] at C1
  cases ok
  · refine C1.mono ?_
    rintro e w1 ⟨rfl, hb2⟩
    have r1 := r0.of (hb2.block _ lt0)
    have y0 := r1.c0
    have y1 := r1.c1
    have yf := r1.fz
    go_wp2_with fail
    have hb12 := hb1.trans (hb2.mono hb1.size)
    refine bodyPost_ret (v := .tuple #[.agg #[.slice none 0 0, .slice none 0 0], .bool false]) (by simp [results, Try.results18, go_sem, y0, y1]) rfl ⟨⟨none, w.heap.size, 0, 0, [], none, w.heap.size, 0, 0, []⟩, rfl, by rw [HES.out]; rfl, by rw [HES.out]; rfl, ⟨⟨IntS.nil _ _ _ _, IntS.nil _ _ _ _⟩, Nat.le_refl _, Nat.le_refl _, ⟨fun h => absurd h (Nat.lt_irrefl _), fun b hb => ?_⟩⟩, ?_⟩
    · rcases hb with ⟨h0, _⟩ | ⟨h0, _⟩ <;> exact absurd h0 (Nat.lt_irrefl _)
    · exact (hb12.setCell (by show w.heap.size ≤ w.heap.size + 1 + 1; omega) _).setCell (by show w.heap.size ≤ w.heap.size + 1 + 1; omega) _
  · have hW := M.way_of HOK.out
    obtain ⟨h3, h7⟩ := M.prog_bounds hW.prog
    have hdl := M.deeds_len h3 h7
    refine C1.mono ?_
    rintro e w1 ⟨rfl, hb2⟩
    have kp1 := (hb2.cell (p := ⟨w.heap.size, 0, none⟩) (by show w.heap.size < _; omega)).trans kp
    have k01 := (hb2.cell (p := ⟨w.heap.size + 1, 0, none⟩) (by show w.heap.size + 1 < _; omega)).trans k0
    have k11 := (hb2.cell (p := ⟨w.heap.size + 1, 1, none⟩) (by show w.heap.size + 1 < _; omega)).trans k1
    have r1 := r0.of (hb2.block _ lt0)
    have lt1 := r1.lt
    have hb12 := hb1.trans (hb2.mono hb1.size)
    have hp2 := (hp1.below hb2 (Nat.le_refl _)).below (Below.refl w1.heap.size w1).drew (Nat.le_refl _)
    have hf2 := (hf1.below hb2 (Nat.le_refl _)).below (Below.refl w1.heap.size w1).drew (Nat.le_refl _)
    have hr2 := (hr1.below hb2 (Nat.le_refl _)).below (Below.refl w1.heap.size w1).drew (Nat.le_refl _)
    clear kp k0 k1 r0 lt0 C1 hp1 hf1 hr1 hb2 hb1
    go_wp2_with fail
    have N0 : w.heap.size + 1 + 1 ≠ w.heap.size := by omega
    have N1 : w.heap.size + 1 + 1 ≠ w.heap.size + 1 := by omega
    have C2 := deedsOf_any a b o c ll w1.drew h3 h7 hp2
    go_region_held3 (fun w' => w'.cell? ⟨w.heap.size, 0, none⟩ = some (.slice a ll.length c) ∧ w'.cell? ⟨w.heap.size + 1, 0, none⟩ = some (.slice fa l.length fc) ∧ w'.cell? ⟨w.heap.size + 1, 1, none⟩ = some (.slice ra rows.length rc)) (go_keep) (first
      | (go_at_call 43; refine C2.mono ?_; rintro e w2 ⟨v2, rfl, hown, hb3⟩; obtain ⟨va, g, cap, rfl, hrs2, _, _⟩ := own_rs M.De.len hown; have Z0 := (hb3.cell (p := ⟨w.heap.size, 0, none⟩) (show w.heap.size < w1.heap.size by omega)).trans kp1; have Z1 := (hb3.cell (p := ⟨w.heap.size + 1, 0, none⟩) (show w.heap.size + 1 < w1.heap.size by omega)).trans k01; have Z2 := (hb3.cell (p := ⟨w.heap.size + 1, 1, none⟩) (show w.heap.size + 1 < w1.heap.size by omega)).trans k11; have r2 := r1.of (hb3.block _ lt1); have lt2 := r2.lt)
      | (go_at_call 49; refine (iseen_any va g cap (M.deeds ll) fa fb fo fc l ra rb ro rc rows w2 hW.len hW.inn hW.zero hW.fin (by omega) hW.three hrs hW.mem hrs2 (hf2.below hb3 (Nat.le_refl _)) (hr2.below hb3 (Nat.le_refl _))).mono ?_; rintro e w3 ⟨s, rfl, hs1, hs2, hnew, hb4⟩; have HS1 : Hid (s.l1 = M.seenR (M.deeds ll) l) := hs1; have HS2 : Hid (s.l2 = M.seenL (M.deeds ll) l rows) := hs2; clear hs1 hs2; have X0 := (hb4.cell (p := ⟨w.heap.size, 0, none⟩) (show w.heap.size < w2.heap.size by omega)).trans Z0; have X1 := (hb4.cell (p := ⟨w.heap.size + 1, 0, none⟩) (show w.heap.size + 1 < w2.heap.size by omega)).trans Z1; have X2 := (hb4.cell (p := ⟨w.heap.size + 1, 1, none⟩) (show w.heap.size + 1 < w2.heap.size by omega)).trans Z2; have r3 := r2.of (hb4.block _ lt2); have y0 := r3.c0; have y1 := r3.c1; have yf := r3.fz))
    go_wp2_with fail
    have hlt3 := r3.lt
    have hne : ∀ bb, w2.heap.size ≤ bb → bb ≠ w.heap.size + 1 + 1 := fun bb hb => by omega
    have hb3' : Below w.heap.size w w2 := hb12.trans (((Below.refl _ _).drew.trans hb3).mono hb12.size)
    have hb4' := hb3'.trans (hb4.mono hb3'.size)
    have hg1 := hnew.ge1
    have hg2 := hnew.ge2
    have hsz := hb3'.size
    refine bodyPost_ret (v := .tuple #[.agg #[.slice s.a1 s.l1.length s.c1, .slice s.a2 s.l2.length s.c2], .bool true]) (by simp [results, Try.results18, go_sem, y0, y1]) rfl ⟨s, rfl, by rw [HES.out]; exact HS1.out, by rw [HES.out]; exact HS2.out, ⟨⟨?_, ?_⟩, by omega, by omega, hnew.own.far.far⟩, ?_⟩
    · exact (hnew.at_.reads.far (fun _ => hne _ hg1)).far (fun _ => hne _ hg1)
    · exact (hnew.at_.last.far (fun _ => hne _ hg2)).far (fun _ => hne _ hg2)
    · exact (hb4'.setCell (by show w.heap.size ≤ w.heap.size + 1 + 1; omega) _).setCell (by show w.heap.size ≤ w.heap.size + 1 + 1; omega) _

end Go.Proofs.Ytdpnnghomfaleaa

namespace Go.Proofs.Ytdpnnghomfaleaa
open Go.RowKit

/-- While what is seen is told: the boxes of the program and of the way, the answer's, the box of what is told. -/
structure SxC (w wr : World) (p x0 x1 v v2 : Value) : Prop where
  bel : Below w.heap.size w wr
  p0 : wr.cell? ⟨w.heap.size, 0, none⟩ = some p
  x0 : wr.cell? ⟨w.heap.size + 1, 0, none⟩ = some x0
  x1 : wr.cell? ⟨w.heap.size + 1, 1, none⟩ = some x1
  res : Slot2 wr (w.heap.size + 1 + 1) (.slice none 0 0) (.slice none 0 0)
  s : Slot2 wr (w.heap.size + 1 + 1 + 1 + 1) v v2
theorem SxC.lt {w wr : World} {p x0 x1 v v2 : Value} (h : SxC w wr p x0 x1 v v2) : w.heap.size + 1 + 1 + 1 + 1 < wr.heap.size := h.s.lt
theorem SxC.below {w wr w1 : World} {p x0 x1 v v2 : Value} (h : SxC w wr p x0 x1 v v2) (hb : Below wr.heap.size wr w1) : SxC w w1 p x0 x1 v v2 := by
  have hl := h.lt
  exact ⟨h.bel.trans (hb.mono h.bel.size), (hb.cell (p := ⟨w.heap.size, 0, none⟩) (by show w.heap.size < _; omega)).trans h.p0, (hb.cell (p := ⟨w.heap.size + 1, 0, none⟩) (by show w.heap.size + 1 < _; omega)).trans h.x0, (hb.cell (p := ⟨w.heap.size + 1, 1, none⟩) (by show w.heap.size + 1 < _; omega)).trans h.x1,
    h.res.of (hb.block _ (by omega)), h.s.of (hb.block _ hl)⟩
theorem SxC.grown {w wr w3 : World} {p x0 x1 v v2 u : Value} {n : Nat} {xs : List Value} (h : SxC w wr p x0 x1 v v2) (ho : wr.ownsRow (w.heap.size + 1 + 1 + 1) 3 1 u n xs) (hg : wr.grownBy w3 u.ownBlock) : SxC w w3 p x0 x1 v v2 := by
  have hl := h.lt
  have hge := own_ge ho
  have blk : ∀ k, k < w.heap.size + 1 + 1 + 1 → w3.heap[k]? = wr.heap[k]? := fun k hk => hg.block k (by omega) (fun e => by have := hge k e.symm; omega)
  exact ⟨below_grown h.bel hg (fun k hk => by have := hge k hk; omega) (by omega), (World.cell?_of_block (blk _ (by show w.heap.size < _; omega))).trans h.p0, (World.cell?_of_block (blk _ (by show w.heap.size + 1 < _; omega))).trans h.x0, (World.cell?_of_block (blk _ (by show w.heap.size + 1 < _; omega))).trans h.x1, h.res.grown hg ho, h.s.grown hg ho⟩
theorem SxC.set0 {w wr : World} {p x0 x1 v v2 : Value} (h : SxC w wr p x0 x1 v v2) (u : Value) : SxC w (wr.setCell ⟨w.heap.size + 1 + 1 + 1 + 1, 0, none⟩ u) p x0 x1 u v2 := by
  refine ⟨h.bel.setCell (by show w.heap.size ≤ w.heap.size + 1 + 1 + 1 + 1; omega) _, ?_, ?_, ?_, h.res.far (by omega) _, h.s.set0 _⟩
  · rw [World.cell?_setCell_other _ _ _ _ (fun e => by have := congrArg Addr.block e; simp at this; omega)]; exact h.p0
  · rw [World.cell?_setCell_other _ _ _ _ (fun e => by have := congrArg Addr.block e; simp at this; omega)]; exact h.x0
  · rw [World.cell?_setCell_other _ _ _ _ (fun e => by have := congrArg Addr.block e; simp at this; omega)]; exact h.x1
theorem SxC.set1 {w wr : World} {p x0 x1 v v2 : Value} (h : SxC w wr p x0 x1 v v2) (u : Value) : SxC w (wr.setCell ⟨w.heap.size + 1 + 1 + 1 + 1, 1, none⟩ u) p x0 x1 v u := by
  refine ⟨h.bel.setCell (by show w.heap.size ≤ w.heap.size + 1 + 1 + 1 + 1; omega) _, ?_, ?_, ?_, h.res.far (by omega) _, h.s.set1 _⟩
  · rw [World.cell?_setCell_other _ _ _ _ (fun e => by have := congrArg Addr.block e; simp at this; omega)]; exact h.p0
  · rw [World.cell?_setCell_other _ _ _ _ (fun e => by have := congrArg Addr.block e; simp at this; omega)]; exact h.x0
  · rw [World.cell?_setCell_other _ _ _ _ (fun e => by have := congrArg Addr.block e; simp at this; omega)]; exact h.x1

theorem step_go5 {P : Program} {ops : Array Oper} {o : Oper} {a : Act} {w : World} {K : Act → World → Prop} {Q : Exit → Act → World → Prop} {E : Prop}
    (hg : o.guard = none) (f : FuncId) (x1 x2 x3 x4 x5 : Operand) (ts : Array TypeId) (hop : o.op = Op.call { callee := Callee.value (Operand.func f), args := #[x1, x2, x3, x4, x5], argTypes := ts })
    (v1 v2 v3 v4 v5 : Value) (h1 : a.eval x1 = v1) (h2 : a.eval x2 = v2) (h3 : a.eval x3 = v3) (h4 : a.eval x4 = v4) (h5 : a.eval x5 = v5) (he : ∀ args w, (callFunc f args).run P w = .ok (.enter f args) w) {R : Ending → World → Prop} (hc : Calls P f #[v1, v2, v3, v4, v5] w R)
    (hK : ∀ e w', R e w' → ∃ v, e = .returned v ∧ K (a.put o.dst v) w') :
    if Region.wanted o (yielded ops a.tmps) = true then Oper.wp P o a w K Q else E :=
  step_go hg f #[x1, x2, x3, x4, x5] ts hop #[v1, v2, v3, v4, v5] (by simp [h1, h2, h3, h4, h5]) he hc hK

set_option maxHeartbeats 2000000 in
set_option maxRecDepth 100000 in
theorem l12Seen_any (a : Option Addr) (b o c : Nat) (ll : List (List M.D)) (va : Option Addr) (g cc : Nat) (fa : Option Addr) (fb fo fc : Nat) (l : List Int) (ra : Option Addr) (rb ro rc : Nat) (rows : List (List Int)) (w : World) (hl : ll.length ≤ 1048576) (hls : ∀ t ∈ ll, t.length ≤ 1048576) (hdl : (M.deeds ll).length ≤ 42) (HLL : Hid (l.length = (M.deeds ll).length)) (hin : M.In (M.deeds ll) l) (HR3 : Hid (rows.length = 3)) (hrl : ∀ r ∈ rows, r.length ≤ 1048576) (hrm : ∀ r ∈ rows, ∀ x ∈ r, 0 ≤ x ∧ x < (M.deeds ll).length) (h : DoSS w a b o ll) (hd : DvS w va g (M.deeds ll)) (hf : IntS w fa fb fo l) (hr : IntSS w ra rb ro rows) :
    Calls Try.prog 48 #[.agg #[.slice a ll.length c], .slice va (M.deeds ll).length cc, .agg #[.slice fa l.length fc, .slice ra rows.length rc]] w fun e w' => ∃ s : Sn, e = .returned (.agg #[.slice s.a1 s.l1.length s.c1, .slice s.a2 s.l2.length s.c2]) ∧ s.l1 = M.seenR (M.deeds ll) l ∧ s.l2 = M.seenL (M.deeds ll) l rows ∧ s.At w' ∧ w.heap.size ≤ s.b1 ∧ w.heap.size ≤ s.b2 ∧ Below w.heap.size w w' := by
  obtain ⟨i0, hi, hz0, hz1, hz2⟩ := info_parts Try.infoInt
  have CV := l12Val_any a b o c ll va g cc fa fb fo fc l (.slice ra rows.length rc) hl hls hdl HLL hin (2 * (M.deeds ll).length + 2)
  rw [show ((2 * (M.deeds ll).length + 2 : Nat) : Int) = 2 * ((M.deeds ll).length : Int) + 2 from by omega] at CV
  have hof := M.ofEv (ll := ll)
  have CV : ∀ (i : Int) (w : World), i < (M.deeds ll).length → DoSS w a b o ll → DvS w va g (M.deeds ll) → IntS w fa fb fo l →
    Calls Try.prog 67 #[.agg #[.slice a ll.length c], .slice va (M.deeds ll).length cc, .agg #[.slice fa l.length fc, .slice ra rows.length rc], .int .i64 i, .int .i64 (2 * ((M.deeds ll).length : Int) + 2)] w fun e w' => e = .returned (.int .i64 (M.vl (M.deeds ll) l i)) ∧ Below w.heap.size w w' := fun i w hi h1 h2 h3 => CV i w (by omega) hi h1 h2 h3
  generalize M.deeds ll = ds at *
  go_enter Try.func48, Try.ntmps48
  go_wp2_with fail
  have A0 : SxC w (((((w.alloc (.cells #[.slice a ll.length c] 34)).alloc (.cells #[.slice fa l.length fc, .slice ra rows.length rc] 36)).alloc (.cells #[.slice none 0 0, .slice none 0 0] 42)).alloc (.cells #[] 3)).alloc (.cells #[.slice (some ⟨w.heap.size + 1 + 1 + 1, 0, none⟩) 0 0, .slice none 0 0] 42)) (.slice a ll.length c) (.slice fa l.length fc) (.slice ra rows.length rc) (.slice (some ⟨w.heap.size + 1 + 1 + 1, 0, none⟩) 0 0) (.slice none 0 0) := by
    refine ⟨((below3 w _ _ _).alloc (by simp; omega) _).alloc (by simp; omega) _, by simp [go_sem], by simp [go_sem], by simp [go_sem], ⟨?_⟩, ⟨alloc_new _ _ _ (by simp)⟩⟩
    rw [alloc_old _ _ _ (by simp), alloc_old _ _ _ (by simp)]; exact alloc_new _ _ _ (by simp)
  have O0 : (((((w.alloc (.cells #[.slice a ll.length c] 34)).alloc (.cells #[.slice fa l.length fc, .slice ra rows.length rc] 36)).alloc (.cells #[.slice none 0 0, .slice none 0 0] 42)).alloc (.cells #[] 3)).alloc (.cells #[.slice (some ⟨w.heap.size + 1 + 1 + 1, 0, none⟩) 0 0, .slice none 0 0] 42)).ownsRow (w.heap.size + 1 + 1 + 1) 3 1 (.slice (some ⟨w.heap.size + 1 + 1 + 1, 0, none⟩) 0 0) 0 (nums []) :=
    ⟨rfl, Or.inr ⟨_, 0, #[], rfl, Nat.le_refl _, by rw [alloc_old _ _ _ (by simp)]; exact alloc_new _ _ _ (by simp), Nat.le_refl _, Nat.zero_le _, rfl, rfl⟩⟩
  generalize (((((w.alloc (.cells #[.slice a ll.length c] 34)).alloc (.cells #[.slice fa l.length fc, .slice ra rows.length rc] 36)).alloc (.cells #[.slice none 0 0, .slice none 0 0] 42)).alloc (.cells #[] 3)).alloc (.cells #[.slice (some ⟨w.heap.size + 1 + 1 + 1, 0, none⟩) 0 0, .slice none 0 0] 42)) = W0 at *
  have hev : ∀ args w, (callFunc 67 args).run Try.prog w = .ok (.enter 67 args) w := enters_of Try.func67 (by kernel_rfl) rfl
  go_loopw [8] (fun s8 wr => ∃ (n : Nat) (acc : List Int) (v : Value), s8 = .int .i64 n ∧ n ≤ ds.length ∧ acc.length ≤ n ∧ Hid (M.rdAt ds l 0 ds = acc ++ M.rdAt ds l n (ds.drop n)) ∧ SxC w wr (.slice a ll.length c) (.slice fa l.length fc) (.slice ra rows.length rc) v (.slice none 0 0) ∧ wr.ownsRow (w.heap.size + 1 + 1 + 1) 3 1 v acc.length (nums acc)) (fun s8 _ => ds.length - (intOf s8).toNat)
  case atStart => exact ⟨0, [], _, rfl, Nat.zero_le _, Nat.le_refl _, by show _ = _; rfl, A0, O0⟩
  case round =>
    clear A0 O0
    obtain ⟨n, acc, v, rfl, hn, hacc, HW, A, O⟩ := hrel
    by_cases hlt : n < ds.length
    · obtain ⟨rfl⟩ := hd.addr (by omega)
      have hx := DvS.at (hd.bel A.bel (Nat.le_refl _)) hlt
      have HW2 : Hid (M.rdAt ds l 0 ds = (if (ds[n]).reads then acc ++ [M.vl ds l n] else acc) ++ M.rdAt ds l (n + 1) (ds.drop (n + 1))) := M.rd_step HW.out hlt
      have hox := hof _ (List.getElem_mem hlt)
      clear HW
      generalize ds[n] = x at *
      obtain ⟨c0, c1, c2⟩ := hx
      have i1 : (n : Int) < ds.length := by omega
      have hT := h.below A.bel (Nat.le_refl _)
      have kp := A.p0
      have KP := BelowOf.cell kp
      have K0 := BelowOf.cell c0
      have K1 := BelowOf.cell c1
      have K2 := BelowOf.cell c2
      have C := fun q : BelowOf wr => l12Do_ev a b o c ll x q.x hox hl hls (hT.below q.h (Nat.le_refl _))
      have C2 := fun q : BelowOf wr => l1Reads_bel x.d q.x
      have go : ∀ (r : Bool), M.reads x.d.k = r → True := fun _ _ => trivial
      clear go kp c0 c1 c2
      haveI : Inhabited (BelowOf wr) := ⟨belOf wr⟩
      cases ht : M.reads x.d.k
      · rw [ht] at C2
        go_wp2_with fail
        refine wp_region_quiet_bel (by kernel_rfl) (by kernel_rfl) ?_
        repeat (quiet_step (first | (go_at_call 66; exact Calls.bel_of (C _)) | (go_at_call 62; exact Calls.bel_of (C2 _))))
        refine wpQuiet_nil ?_
        rintro _ ⟨⟨wq, hwq⟩, rfl⟩
        go_wp2_with fail
        exact ⟨⟨n + 1, acc, v, by go_num, by omega, by omega, by show _ = _; have := HW2.out; rw [show x.reads = false from ht] at this; exact this, A.below hwq, ownsRow_below O hwq⟩, by simp [intOf]; omega⟩
      · rw [ht] at C2
        go_wp2_with fail
        refine wp_region_quiet_bel (by kernel_rfl) (by kernel_rfl) ?_
        repeat (quiet_step (first | (go_at_call 66; exact Calls.bel_of (C _)) | (go_at_call 62; exact Calls.bel_of (C2 _))))
        refine wpQuiet_nil ?_
        rintro _ ⟨⟨wq, hwq⟩, rfl⟩
        have A2 := A.below hwq
        have O2 := ownsRow_below O hwq
        clear KP K0 K1 K2 C C2 A O hT
        have cS := A2.s.c0
        have cP := A2.p0
        have cX := A2.x0
        have cY := A2.x1
        have lS := A2.lt
        have fS := A2.s.fz
        have wr1 : IntKind.i64.wrap (2 * (ds.length : Int)) = 2 * ds.length := by rw [IntKind.wrap_i64]; omega
        have wr2 : IntKind.i64.wrap (2 * (ds.length : Int) + 2) = 2 * ds.length + 2 := by rw [IntKind.wrap_i64]; omega
        go_wp2_with fail
        go_region_law (first
          | (refine step_go5 (by rfl) 67 _ _ _ _ _ _ (by rfl) _ _ _ _ _ (by rfl) (by rfl) (by rfl) (by rfl) (by rfl) hev (CV n _ i1 (h.below A2.bel.drew (Nat.le_refl _)) (hd.bel A2.bel.drew (Nat.le_refl _)) (hf.below A2.bel.drew (Nat.le_refl _))) ?_; rintro e w2 ⟨rfl, hb2⟩; have A3 := A2.below ((Below.refl _ _).drew.trans hb2); have O3 := ownsRow_below O2 ((Below.refl _ _).drew.trans hb2); have cS2 := A3.s.c0; have fS2 := A3.s.fz; have lS2 := A3.lt; refine ⟨_, rfl, ?_⟩)
          | (refine step_append_lies _ (by rfl) _ _ _ (by rfl) (w.heap.size + 1 + 1 + 1) 3 i0 _ 1 8 Try.underlying25 hi hz0 hz1 hz2 rfl (by omega) v acc.length (nums acc) (by rfl) (O3.alloc _) ⟨w2.heap.size, 0, none⟩ 1 1 [.int .i64 (M.vl ds l n)] (by rfl) (by rfl) (World.news_of_block (cs := #[.int .i64 (M.vl ds l n)]) (t := 3) (fr := (0, 0)) (heap_alloc_new w2 _)) (by simp [Value.oneCell']) (by omega) (by unfold maxLen; omega) (by omega) (by simp only [World.size_alloc]; omega) (w2.heap.size + 1) (by simp) ?_; intro g3 cap w3 hown3 hgr hat hltg; have A4 := (A3.below (below1 w2 (.cells #[.int .i64 (M.vl ds l n)] 3))).grown (O3.alloc _) hgr; have hown3' : w3.ownsRow (w.heap.size + 1 + 1 + 1) 3 1 (.slice (some ⟨g3, 0, none⟩) (acc.length + 1) cap) (acc ++ [M.vl ds l n]).length (nums (acc ++ [M.vl ds l n])) := (by rw [List.length_append]; simpa [nums] using hown3); have cS3 := A4.s.c0; have fS3 := A4.s.fz; clear hown3 hgr hat hltg))
        all_goals
          have A5 := A4.set0 (.slice (some ⟨g3, 0, none⟩) (acc.length + 1) cap)
          have O5 := own_slot (i := 0) hown3' A4.s (.slice (some ⟨g3, 0, none⟩) (acc.length + 1) cap)
          go_wp2_with fail
          exact ⟨⟨n + 1, acc ++ [M.vl ds l n], _, by go_num, by omega, by simp; omega, by show _ = _; have := HW2.out; rw [show x.reads = true from ht] at this; exact this, A5, O5⟩, by simp [intOf]; omega⟩
    · have HF : Hid (M.seenR ds l = acc) := M.rd_fin HW.out (by omega)
      have hal : acc.length ≤ 42 := by omega
      clear HW
      have hvlt : ∀ k, v.ownBlock = some k → k < wr.heap.size := fun k hk => (O.lt k hk).2
      have hBS := A.lt
      obtain ⟨B2, hB2⟩ : ∃ B2, wr.heap.size = B2 := ⟨_, rfl⟩
      rw [hB2] at hvlt hBS
      go_wp2_with fail
      go_loopw [9] (fun s9 wr => ∃ (n : Nat) (acc2 : List Int) (v2 : Value), s9 = .int .i64 n ∧ n ≤ 3 ∧ Hid (acc2 = (rows.take n).map (M.lastOf ds l)) ∧ SxC w wr (.slice a ll.length c) (.slice fa l.length fc) (.slice ra rows.length rc) v v2 ∧ wr.ownsRow (w.heap.size + 1 + 1 + 1) 3 1 v acc.length (nums acc) ∧ wr.ownsRow B2 3 1 v2 acc2.length (nums acc2) ∧ B2 ≤ wr.heap.size) (fun s9 _ => 3 - (intOf s9).toNat)
      case atStart => exact ⟨0, [], _, rfl, by omega, (by show _ = _; simp), A, O, World.ownsRow_nil _ _ _ _, by omega⟩
      case round =>
        clear A O hB2 hn hacc hlt
        obtain ⟨n, acc2, v2, rfl, hn, HW, A, O, O2, hB⟩ := hrel
        by_cases hlt : n < 3
        · have n3 : (n : Int) < 3 := by omega
          have hlr : n < rows.length := by have := HR3.out; omega
          have ln : (n : Int) < rows.length := by omega
          obtain ⟨rfl⟩ := hr.addr (by omega)
          obtain ⟨a', b', o', c', hc, hdr⟩ := (hr.below A.bel (Nat.le_refl _)).row n hlr
          have hlrr := hrl _ (List.getElem_mem hlr)
          have hmr := hrm _ (List.getElem_mem hlr)
          have HW2 : Hid (acc2 ++ [M.lastOf ds l rows[n]] = (rows.take (n + 1)).map (M.lastOf ds l)) := by show _ = _; rw [HW.out, List.take_succ_eq_append_getElem hlr, List.map_append]; rfl
          have hal2 : acc2.length ≤ 3 := by rw [HW.out]; simp; omega
          clear HW
          generalize rows[n] = row at *
          have cX := A.x1
          by_cases h0 : 0 < row.length
          · have HX : Hid (M.lastOf ds l row = M.vl ds l row[row.length - 1]) := M.last_some ds l h0
            have hmx := hmr _ (List.getElem_mem (l := row) (n := row.length - 1) (by omega))
            have hcx := hdr.row (row.length - 1) (by omega)
            obtain ⟨rfl⟩ := hdr.addr h0
            generalize row[row.length - 1] = y at *
            obtain ⟨k, hk⟩ : ∃ k, row.length = k + 1 := ⟨row.length - 1, by omega⟩
            rw [hk, Nat.add_sub_cancel] at hcx
            rw [hk] at hc hlrr
            clear hk h0
            have k1 : (k : Int) < (k : Int) + 1 := by omega
            have k2 : IntKind.i64.wrap (k : Int) = k := by rw [IntKind.wrap_i64]; omega
            go_wp2_with fail
            have KX := BelowOf.cell cX
            have KC := BelowOf.cell hc
            have KY := BelowOf.cell hcx
            clear cX hc hcx
            haveI : Inhabited (BelowOf wr) := ⟨belOf wr⟩
            refine wp_region_quiet_bel (by kernel_rfl) (by kernel_rfl) ?_
            repeat (quiet_step (fail))
            refine wpQuiet_nil ?_
            rintro _ ⟨⟨wq, hwq⟩, rfl⟩
            have A3 := A.below hwq
            have P3 := ownsRow_below O hwq
            have R3 := ownsRow_below O2 hwq
            have hB3 := Nat.le_trans hB hwq.size
            clear KX KC KY A O O2 hB hdr
            have cS := A3.s.c1
            have cP := A3.p0
            have cX := A3.x0
            have cY := A3.x1
            have lS := A3.lt
            have fS := A3.s.fz
            have wr1 : IntKind.i64.wrap (2 * (ds.length : Int)) = 2 * ds.length := by rw [IntKind.wrap_i64]; omega
            have wr2 : IntKind.i64.wrap (2 * (ds.length : Int) + 2) = 2 * ds.length + 2 := by rw [IntKind.wrap_i64]; omega
            go_wp2_with fail
            go_region_law (first
              | (refine step_go5 (by rfl) 67 _ _ _ _ _ _ (by rfl) _ _ _ _ _ (by rfl) (by rfl) (by rfl) (by rfl) (by rfl) hev (CV (y) _ (by omega) (h.below A3.bel.drew (Nat.le_refl _)) (hd.bel A3.bel.drew (Nat.le_refl _)) (hf.below A3.bel.drew (Nat.le_refl _))) ?_; rintro e w2 ⟨rfl, hb2⟩; have hbd := (Below.refl _ _).drew.trans hb2; have A4 := A3.below hbd; have P4 := ownsRow_below P3 hbd; have R4 := ownsRow_below R3 hbd; have hB4 := Nat.le_trans hB3 hbd.size; have cS2 := A4.s.c1; have fS2 := A4.s.fz; have lS2 := A4.lt; refine ⟨_, rfl, ?_⟩)
              | (refine step_append_lies _ (by rfl) _ _ _ (by rfl) B2 3 i0 _ 1 8 Try.underlying25 hi hz0 hz1 hz2 rfl (by omega) v2 acc2.length (nums acc2) (by rfl) (R4.alloc _) ⟨w2.heap.size, 0, none⟩ 1 1 [.int .i64 (M.vl ds l (y))] (by rfl) (by rfl) (World.news_of_block (cs := #[.int .i64 (M.vl ds l (y))]) (t := 3) (fr := (0, 0)) (heap_alloc_new w2 _)) (by simp [Value.oneCell']) (by omega) (by unfold maxLen; omega) (by omega) (by simp only [World.size_alloc]; omega) (w2.heap.size + 1) (by simp) ?_; intro g3 cap w3 hown3 hgr hat hltg; have hge3 := own_ge R4; have A5 := (A4.below (below1 w2 (.cells #[.int .i64 (M.vl ds l (y))] 3))).grown (own_mono (R4.alloc _) (by omega)) hgr; have P5 := (P4.alloc (.cells #[.int .i64 (M.vl ds l (y))] 3)).kept hgr (own_below hvlt hge3); have hB5 : B2 ≤ w3.heap.size := (by have := hgr.size; simp only [World.size_alloc] at this; omega); have hown3' : w3.ownsRow B2 3 1 (.slice (some ⟨g3, 0, none⟩) (acc2.length + 1) cap) (acc2 ++ [M.vl ds l (y)]).length (nums (acc2 ++ [M.vl ds l (y)])) := (by rw [List.length_append]; simpa [nums] using hown3); have cS3 := A5.s.c1; have fS3 := A5.s.fz; clear hown3 hgr hat hltg hge3))
            all_goals
              have A6 := A5.set1 (.slice (some ⟨g3, 0, none⟩) (acc2.length + 1) cap)
              have P6 := own_slot (i := 1) P5 A5.s (.slice (some ⟨g3, 0, none⟩) (acc2.length + 1) cap)
              have R6 := own_slot (i := 1) hown3' A5.s (.slice (some ⟨g3, 0, none⟩) (acc2.length + 1) cap)
              go_wp2_with fail
              exact ⟨⟨n + 1, acc2 ++ [M.vl ds l (y)], _, by go_num, by omega, by show _ = _; have := HW2.out; rw [HX.out] at this; exact this, A6, P6, R6, by rw [World.size_setCell]; exact hB5⟩, by simp [intOf]; omega⟩
          · obtain rfl : row = [] := List.length_eq_zero_iff.1 (by omega)
            have HX : Hid (M.lastOf ds l [] = M.vl ds l (-1)) := by show _ = _; rfl
            rw [List.length_nil] at hc
            go_wp2_with fail
            have A3 := A
            have P3 := O
            have R3 := O2
            have hB3 := hB
            clear A O O2 hB hdr cX hc
            have cS := A3.s.c1
            have cP := A3.p0
            have cX := A3.x0
            have cY := A3.x1
            have lS := A3.lt
            have fS := A3.s.fz
            have wr1 : IntKind.i64.wrap (2 * (ds.length : Int)) = 2 * ds.length := by rw [IntKind.wrap_i64]; omega
            have wr2 : IntKind.i64.wrap (2 * (ds.length : Int) + 2) = 2 * ds.length + 2 := by rw [IntKind.wrap_i64]; omega
            go_wp2_with fail
            go_region_law (first
              | (refine step_go5 (by rfl) 67 _ _ _ _ _ _ (by rfl) _ _ _ _ _ (by rfl) (by rfl) (by rfl) (by rfl) (by rfl) hev (CV (-1) _ (by omega) (h.below A3.bel.drew (Nat.le_refl _)) (hd.bel A3.bel.drew (Nat.le_refl _)) (hf.below A3.bel.drew (Nat.le_refl _))) ?_; rintro e w2 ⟨rfl, hb2⟩; have hbd := (Below.refl _ _).drew.trans hb2; have A4 := A3.below hbd; have P4 := ownsRow_below P3 hbd; have R4 := ownsRow_below R3 hbd; have hB4 := Nat.le_trans hB3 hbd.size; have cS2 := A4.s.c1; have fS2 := A4.s.fz; have lS2 := A4.lt; refine ⟨_, rfl, ?_⟩)
              | (refine step_append_lies _ (by rfl) _ _ _ (by rfl) B2 3 i0 _ 1 8 Try.underlying25 hi hz0 hz1 hz2 rfl (by omega) v2 acc2.length (nums acc2) (by rfl) (R4.alloc _) ⟨w2.heap.size, 0, none⟩ 1 1 [.int .i64 (M.vl ds l (-1))] (by rfl) (by rfl) (World.news_of_block (cs := #[.int .i64 (M.vl ds l (-1))]) (t := 3) (fr := (0, 0)) (heap_alloc_new w2 _)) (by simp [Value.oneCell']) (by omega) (by unfold maxLen; omega) (by omega) (by simp only [World.size_alloc]; omega) (w2.heap.size + 1) (by simp) ?_; intro g3 cap w3 hown3 hgr hat hltg; have hge3 := own_ge R4; have A5 := (A4.below (below1 w2 (.cells #[.int .i64 (M.vl ds l (-1))] 3))).grown (own_mono (R4.alloc _) (by omega)) hgr; have P5 := (P4.alloc (.cells #[.int .i64 (M.vl ds l (-1))] 3)).kept hgr (own_below hvlt hge3); have hB5 : B2 ≤ w3.heap.size := (by have := hgr.size; simp only [World.size_alloc] at this; omega); have hown3' : w3.ownsRow B2 3 1 (.slice (some ⟨g3, 0, none⟩) (acc2.length + 1) cap) (acc2 ++ [M.vl ds l (-1)]).length (nums (acc2 ++ [M.vl ds l (-1)])) := (by rw [List.length_append]; simpa [nums] using hown3); have cS3 := A5.s.c1; have fS3 := A5.s.fz; clear hown3 hgr hat hltg hge3))
            all_goals
              have A6 := A5.set1 (.slice (some ⟨g3, 0, none⟩) (acc2.length + 1) cap)
              have P6 := own_slot (i := 1) P5 A5.s (.slice (some ⟨g3, 0, none⟩) (acc2.length + 1) cap)
              have R6 := own_slot (i := 1) hown3' A5.s (.slice (some ⟨g3, 0, none⟩) (acc2.length + 1) cap)
              go_wp2_with fail
              exact ⟨⟨n + 1, acc2 ++ [M.vl ds l (-1)], _, by go_num, by omega, by show _ = _; have := HW2.out; rw [HX.out] at this; exact this, A6, P6, R6, by rw [World.size_setCell]; exact hB5⟩, by simp [intOf]; omega⟩
        · obtain ⟨a1, g1, c1, rfl, i1, ge1, nc1⟩ := own_nums O
          obtain ⟨a2, g2, c2, rfl, i2, ge2, nc2⟩ := own_nums O2
          have HL : Hid (acc2 = M.seenL ds l rows) := by show _ = _; rw [HW.out, List.take_of_length_le (by have := HR3.out; omega)]; rfl
          have x0 := A.s.c0
          have x1 := A.s.c1
          have lS := A.lt
          have y0 := A.res.c0
          have y1 := A.res.c1
          have yf := A.res.fz
          have n3 : ¬ (n : Int) < 3 := by omega
          go_wp2_with fail
          refine bodyPost_ret (v := .agg #[.slice a1 acc.length c1, .slice a2 acc2.length c2]) (by simp [results, Try.results48, go_sem, y0, y1]) rfl ⟨⟨a1, g1, 0, c1, acc, a2, g2, 0, c2, acc2⟩, rfl, HF.out.symm, HL.out, ⟨?_, ?_⟩, by show w.heap.size ≤ g1; omega, by show w.heap.size ≤ g2; omega, ?_⟩
          · exact (i1.far (by omega)).far (by omega)
          · exact (i2.far (by omega)).far (by omega)
          · exact (A.bel.setCell (by show w.heap.size ≤ w.heap.size + 1 + 1; omega) _).setCell (by show w.heap.size ≤ w.heap.size + 1 + 1; omega) _

set_option maxHeartbeats 1000000 in
set_option maxRecDepth 100000 in
theorem sexecSeen_any (a : Option Addr) (b o c : Nat) (ll : List (List M.D)) (fa : Option Addr) (fb fo fc : Nat) (l : List Int) (ra : Option Addr) (rb ro rc : Nat) (rows : List (List Int)) (w : World) (hl : ll.length ≤ 1048576) (hls : ∀ t ∈ ll, t.length ≤ 1048576) (hl1 : l.length ≤ 1048576) (hrs : ∀ r ∈ rows, r.length ≤ 1048576) (h : DoSS w a b o ll) (hf : IntS w fa fb fo l) (hr : IntSS w ra rb ro rows) :
    Calls Try.prog 17 #[.agg #[.slice a ll.length c], .agg #[.slice fa l.length fc, .slice ra rows.length rc]] w fun e w' => ∃ s : Sn, e = .returned (.tuple #[.agg #[.slice s.a1 s.l1.length s.c1, .slice s.a2 s.l2.length s.c2], .bool (M.execOk ll l rows)]) ∧ s.l1 = (M.execSeen ll l rows).1 ∧ s.l2 = (M.execSeen ll l rows).2 ∧ s.At w' ∧ w.heap.size ≤ s.b1 ∧ w.heap.size ≤ s.b2 ∧ Below w.heap.size w w' := by
  have hb1 := below3 w (.cells #[.slice a ll.length c] 34) (.cells #[.slice fa l.length fc, .slice ra rows.length rc] 36) (.cells #[.slice none 0 0, .slice none 0 0] 42)
  have kp : (((w.alloc (.cells #[.slice a ll.length c] 34)).alloc (.cells #[.slice fa l.length fc, .slice ra rows.length rc] 36)).alloc (.cells #[.slice none 0 0, .slice none 0 0] 42)).cell? ⟨w.heap.size, 0, none⟩ = some (.slice a ll.length c) := by simp [go_sem]
  have k0 : (((w.alloc (.cells #[.slice a ll.length c] 34)).alloc (.cells #[.slice fa l.length fc, .slice ra rows.length rc] 36)).alloc (.cells #[.slice none 0 0, .slice none 0 0] 42)).cell? ⟨w.heap.size + 1, 0, none⟩ = some (.slice fa l.length fc) := by simp [go_sem]
  have k1 : (((w.alloc (.cells #[.slice a ll.length c] 34)).alloc (.cells #[.slice fa l.length fc, .slice ra rows.length rc] 36)).alloc (.cells #[.slice none 0 0, .slice none 0 0] 42)).cell? ⟨w.heap.size + 1, 1, none⟩ = some (.slice ra rows.length rc) := by simp [go_sem]
  have r0 : Slot2 (((w.alloc (.cells #[.slice a ll.length c] 34)).alloc (.cells #[.slice fa l.length fc, .slice ra rows.length rc] 36)).alloc (.cells #[.slice none 0 0, .slice none 0 0] 42)) (w.heap.size + 1 + 1) (.slice none 0 0) (.slice none 0 0) := ⟨alloc_new _ _ _ (by simp)⟩
  have hp1 := h.below hb1 (Nat.le_refl _)
  have hf1 := hf.below hb1 (Nat.le_refl _)
  have hr1 := hr.below hb1 (Nat.le_refl _)
  obtain ⟨ok, hok⟩ : ∃ r, M.execOk ll l rows = r := ⟨_, rfl⟩
  have HOK : Hid (M.execOk ll l rows = ok) := hok
  have HES : Hid (M.execSeen ll l rows = if ok then (M.seenR (M.deeds ll) l, M.seenL (M.deeds ll) l rows) else ([], [])) := by show _ = _; rw [M.execSeen, hok]
  rw [hok]
  clear hok
  go_enter Try.func17, Try.ntmps17
  go_wp2_with fail
  generalize (((w.alloc (.cells #[.slice a ll.length c] 34)).alloc (.cells #[.slice fa l.length fc, .slice ra rows.length rc] 36)).alloc (.cells #[.slice none 0 0, .slice none 0 0] 42)) = W at *
  have lt0 := r0.lt
  clear h hf hr
  have C1 := sexecOk_any a b o c ll fa fb fo fc l ra rb ro rc rows W hl hls hl1 hrs hp1 hf1 hr1
  rw [HOK.out] at C1
  cases ok
  · refine C1.mono ?_
    rintro e w1 ⟨rfl, hb2⟩
    have r1 := r0.of (hb2.block _ lt0)
    have y0 := r1.c0
    have y1 := r1.c1
    have yf := r1.fz
    go_wp2_with fail
    have hb12 := hb1.trans (hb2.mono hb1.size)
    refine bodyPost_ret (v := .tuple #[.agg #[.slice none 0 0, .slice none 0 0], .bool false]) (by simp [results, Try.results17, go_sem, y0, y1]) rfl ⟨⟨none, w.heap.size, 0, 0, [], none, w.heap.size, 0, 0, []⟩, rfl, by rw [HES.out]; rfl, by rw [HES.out]; rfl, ⟨IntS.nil _ _ _ _, IntS.nil _ _ _ _⟩, Nat.le_refl _, Nat.le_refl _, ?_⟩
    exact (hb12.setCell (by show w.heap.size ≤ w.heap.size + 1 + 1; omega) _).setCell (by show w.heap.size ≤ w.heap.size + 1 + 1; omega) _
  · have hW := M.way_of HOK.out
    obtain ⟨h3, h7⟩ := M.prog_bounds hW.prog
    have hdl := M.deeds_len h3 h7
    have HE : Hid (M.evAll ll = (M.deeds ll).map M.De.ev) := by show _ = _; simp [M.evAll, hW.prog, M.events]
    refine C1.mono ?_
    rintro e w1 ⟨rfl, hb2⟩
    have kp1 := (hb2.cell (p := ⟨w.heap.size, 0, none⟩) (by show w.heap.size < _; omega)).trans kp
    have k01 := (hb2.cell (p := ⟨w.heap.size + 1, 0, none⟩) (by show w.heap.size + 1 < _; omega)).trans k0
    have k11 := (hb2.cell (p := ⟨w.heap.size + 1, 1, none⟩) (by show w.heap.size + 1 < _; omega)).trans k1
    have r1 := r0.of (hb2.block _ lt0)
    have lt1 := r1.lt
    have hb12 := hb1.trans (hb2.mono hb1.size)
    have hp2 := (hp1.below hb2 (Nat.le_refl _)).below (Below.refl w1.heap.size w1).drew (Nat.le_refl _)
    have hf2 := (hf1.below hb2 (Nat.le_refl _)).below (Below.refl w1.heap.size w1).drew (Nat.le_refl _)
    have hr2 := (hr1.below hb2 (Nat.le_refl _)).below (Below.refl w1.heap.size w1).drew (Nat.le_refl _)
    clear kp k0 k1 r0 lt0 C1 hp1 hf1 hr1 hb2 hb1
    go_wp2_with fail
    have N0 : w.heap.size + 1 + 1 ≠ w.heap.size := by omega
    have N1 : w.heap.size + 1 + 1 ≠ w.heap.size + 1 := by omega
    have C2 := sexecEvents_any a b o c ll w1.drew hl hls hp2
    go_region_held3 (fun w' => w'.cell? ⟨w.heap.size, 0, none⟩ = some (.slice a ll.length c) ∧ w'.cell? ⟨w.heap.size + 1, 0, none⟩ = some (.slice fa l.length fc) ∧ w'.cell? ⟨w.heap.size + 1, 1, none⟩ = some (.slice ra rows.length rc)) (go_keep) (first
      | (go_at_call 29; refine C2.mono ?_; rintro e w2 ⟨v2, rfl, hown, hb3⟩; obtain ⟨va, g, cap, rfl, hev, _, _⟩ := own_rs M.Ev.len hown; rw [HE.out] at hev; have hd := DvS.of hev; have hle : (M.evAll ll).length = (M.deeds ll).length := (by rw [HE.out, List.length_map]); rw [hle]; clear hle hev hown; have Z0 := (hb3.cell (p := ⟨w.heap.size, 0, none⟩) (show w.heap.size < w1.heap.size by omega)).trans kp1; have Z1 := (hb3.cell (p := ⟨w.heap.size + 1, 0, none⟩) (show w.heap.size + 1 < w1.heap.size by omega)).trans k01; have Z2 := (hb3.cell (p := ⟨w.heap.size + 1, 1, none⟩) (show w.heap.size + 1 < w1.heap.size by omega)).trans k11; have r2 := r1.of (hb3.block _ lt1); have lt2 := r2.lt)
      | (go_at_call 48; refine (l12Seen_any a b o c ll va g cap fa fb fo fc l ra rb ro rc rows w2 hl hls hdl hW.len hW.inn hW.three hrs hW.mem (hp2.below hb3 (Nat.le_refl _)) hd (hf2.below hb3 (Nat.le_refl _)) (hr2.below hb3 (Nat.le_refl _))).mono ?_; rintro e w3 ⟨s, rfl, hs1, hs2, hat, hg1, hg2, hb4⟩; have HS1 : Hid (s.l1 = M.seenR (M.deeds ll) l) := hs1; have HS2 : Hid (s.l2 = M.seenL (M.deeds ll) l rows) := hs2; clear hs1 hs2; have X0 := (hb4.cell (p := ⟨w.heap.size, 0, none⟩) (show w.heap.size < w2.heap.size by omega)).trans Z0; have X1 := (hb4.cell (p := ⟨w.heap.size + 1, 0, none⟩) (show w.heap.size + 1 < w2.heap.size by omega)).trans Z1; have X2 := (hb4.cell (p := ⟨w.heap.size + 1, 1, none⟩) (show w.heap.size + 1 < w2.heap.size by omega)).trans Z2; have r3 := r2.of (hb4.block _ lt2); have y0 := r3.c0; have y1 := r3.c1; have yf := r3.fz))
    go_wp2_with fail
    have hlt3 := r3.lt
    have hne : ∀ bb, w2.heap.size ≤ bb → bb ≠ w.heap.size + 1 + 1 := fun bb hb => by omega
    have hb3' : Below w.heap.size w w2 := hb12.trans (((Below.refl _ _).drew.trans hb3).mono hb12.size)
    have hb4' := hb3'.trans (hb4.mono hb3'.size)
    have hsz := hb3'.size
    refine bodyPost_ret (v := .tuple #[.agg #[.slice s.a1 s.l1.length s.c1, .slice s.a2 s.l2.length s.c2], .bool true]) (by simp [results, Try.results17, go_sem, y0, y1]) rfl ⟨s, rfl, by rw [HES.out]; exact HS1.out, by rw [HES.out]; exact HS2.out, ⟨?_, ?_⟩, by omega, by omega, ?_⟩
    · exact (hat.reads.far (fun _ => hne _ hg1)).far (fun _ => hne _ hg1)
    · exact (hat.last.far (fun _ => hne _ hg2)).far (fun _ => hne _ hg2)
    · exact (hb4'.setCell (by show w.heap.size ≤ w.heap.size + 1 + 1; omega) _).setCell (by show w.heap.size ≤ w.heap.size + 1 + 1; omega) _

end Go.Proofs.Ytdpnnghomfaleaa

namespace Go.Proofs.Ytdpnnghomfaleaa
namespace M
theorem execSeen_le {ll : List (List D)} {l : List Int} {rows : List (List Int)} (h3 : rows.length ≤ 1048576) : (execSeen ll l rows).1.length ≤ 1048576 ∧ (execSeen ll l rows).2.length ≤ 1048576 := by
  unfold execSeen
  split
  · rename_i h
    obtain ⟨a, b⟩ := prog_bounds (way_of h).prog
    have h1 := deeds_len a b
    have h2 := rd_len (deeds ll) l (deeds ll) 0
    simp only [seenR, seenL, List.length_map]
    exact ⟨by omega, h3⟩
  · simp
end M
end Go.Proofs.Ytdpnnghomfaleaa

namespace Go.Proofs.Ytdpnnghomfaleaa
open Go.RowKit

theorem ret_i {a b : Int} (h : a = b) : Ending.returned (.int .i64 a) = .returned (.int .i64 b) := by rw [h]

end Go.Proofs.Ytdpnnghomfaleaa

namespace Go.Proofs.Ytdpnnghomfaleaa
open Go.RowKit

theorem alloc2 (w : World) (x y : Obj) : Grown w ((w.alloc x).alloc y) := ((Grown.refl w).alloc x).alloc y

end Go.Proofs.Ytdpnnghomfaleaa

namespace Go.Proofs.Ytdpnnghomfaleaa
open Go.RowKit

set_option maxHeartbeats 400000 in
theorem cntReads_any (a : Option Addr) (b o c : Nat) (l : List M.D) (w : World) (hl : l.length ≤ 1048576) (h : DoS w a b o l) :
    Calls Try.prog 70 #[.slice a l.length c, .func (.func 72) #[] #[]] w fun e w' => e = .returned (.int .i64 (M.cnt M.reads l)) ∧ Below w.heap.size w w' := by
  go_enter Try.func70, Try.ntmps70
  go_wp2_with fail
  go_loopw [5, 10] (fun s5 s10 wr => ∃ m n : Nat, s5 = .int .i64 m ∧ s10 = .int .i64 n ∧ n ≤ l.length ∧ m ≤ n ∧ M.cnt M.reads l = m + M.cnt M.reads (l.drop n) ∧ Below w.heap.size w wr) (fun _ s10 _ => l.length - (intOf s10).toNat)
  case atStart => exact ⟨0, 0, rfl, rfl, Nat.zero_le _, Nat.le_refl _, by simp, Below.refl _ _⟩
  case round =>
    obtain ⟨m, n, rfl, rfl, hn, hmn, hpass, hbel⟩ := hrel
    have HP : Hid (M.cnt M.reads l = m + M.cnt M.reads (l.drop n)) := hpass
    clear hpass
    by_cases hlt : n < l.length
    · obtain ⟨rfl⟩ := h.addr (by omega)
      have hd := (h.row n hlt).below hbel (Nat.le_refl _)
      have HD : Hid (l.drop n = l[n] :: l.drop (n + 1)) := M.drop_at l n hlt
      generalize l[n] = d at hd HD
      obtain ⟨k, p, v⟩ := d
      obtain ⟨ck, cp, cv⟩ := hd
      cases hu : M.reads k
      · go_wp2_with (go_at_call 72; refine (reads_any _ _).mono ?_; rintro e w1 ⟨rfl, rfl⟩)
        exact ⟨⟨m, n + 1, rfl, by go_num, by omega, by omega, M.cnt_step HP.out HD.out (by simp [hu]), hbel.alloc hbel.size _⟩, by simp [intOf]; omega⟩
      · go_wp2_with (go_at_call 72; refine (reads_any _ _).mono ?_; rintro e w1 ⟨rfl, rfl⟩)
        exact ⟨⟨m + 1, n + 1, by go_num, by go_num, by omega, by omega, M.cnt_step HP.out HD.out (by simp [hu]), hbel.alloc hbel.size _⟩, by simp [intOf]; omega⟩
    · go_wp2_with fail
      go_ret
      exact ⟨ret_int (by rw [M.cnt_fin HP.out (by omega)]), hbel⟩

set_option maxHeartbeats 400000 in
theorem ireads_any (a : Option Addr) (b o c : Nat) (ll : List (List M.D)) (w : World) (hl : ll.length ≤ 1048576) (hls : ∀ t ∈ ll, t.length ≤ 1048576) (h : DoSS w a b o ll) :
    Calls Try.prog 57 #[.agg #[.slice a ll.length c]] w fun e w' => e = .returned (.int .i64 (M.nreads ll)) ∧ Below w.heap.size w w' := by
  cases hp : M.prog ll
  · go_enter Try.func57, Try.ntmps57
    go_wp2_with (go_at_call 42; refine (iprog_any a b o c ll _ hl hls (h.below (below1 w _) (Nat.le_refl _))).mono ?_; rintro e w1 ⟨rfl, hb1⟩)
    go_ret
    exact ⟨ret_int (M.nreads_no hp).symm, (below1 w _).trans (hb1.mono (by simp))⟩
  · obtain ⟨h3, h7⟩ := M.prog_le hp
    go_enter Try.func57, Try.ntmps57
    go_wp2_with (go_at_call 42; refine (iprog_any a b o c ll _ hl hls (h.below (below1 w _) (Nat.le_refl _))).mono ?_; rintro e w1 ⟨rfl, hb1⟩; obtain ⟨hc1, hf1⟩ := bcell hb1)
    have hs1 := (h.below (below1 w _) (Nat.le_refl _)).below hb1 (Nat.le_refl _)
    have hbw : Below w.heap.size w w1 := (below1 w _).trans (hb1.mono (by simp))
    clear hb1 hc1 hf1 h
    go_loopw [3, 12] (fun s3 s12 wr => ∃ m n : Nat, s3 = .int .i64 m ∧ s12 = .int .i64 n ∧ n ≤ ll.length ∧ m ≤ 7 * n ∧ M.tot M.reads ll = m + M.tot M.reads (ll.drop n) ∧ Below w1.heap.size w1 wr) (fun _ s12 _ => ll.length - (intOf s12).toNat)
    case atStart => exact ⟨0, 0, rfl, rfl, Nat.zero_le _, Nat.le_refl _, by simp, Below.refl _ _⟩
    case round =>
      obtain ⟨m, n, rfl, rfl, hn, hmn, hpass, hbel⟩ := hrel
      have HP : Hid (M.tot M.reads ll = m + M.tot M.reads (ll.drop n)) := hpass
      clear hpass
      by_cases hlt : n < ll.length
      · obtain ⟨rfl⟩ := hs1.addr (by omega)
        obtain ⟨a', b', o', c', hc, hd⟩ := (hs1.below hbel (Nat.le_refl _)).row n hlt
        have HD : Hid (ll.drop n = ll[n] :: ll.drop (n + 1)) := M.drop_at' ll n hlt
        have hlt' := hls _ (List.getElem_mem hlt)
        have hlt7 := h7 _ (List.getElem_mem hlt)
        generalize ll[n] = t at hd hc HD hlt' hlt7
        have hcn := M.cnt_le M.reads t
        go_wp2_with (go_at_call 70; refine (cntReads_any a' b' o' c' t _ hlt' hd).mono ?_; rintro e w2 ⟨rfl, hb2⟩)
        exact ⟨⟨m + M.cnt M.reads t, n + 1, by go_num, by go_num, by omega, by omega, M.tot_step HP.out HD.out, hbel.trans (hb2.mono hbel.size)⟩, by simp [intOf]; omega⟩
      · go_wp2_with fail
        go_ret
        exact ⟨ret_int (by rw [M.nreads_ok hp, M.tot_fin HP.out (by omega)]), hbw.trans (hbel.mono hbw.size)⟩

end Go.Proofs.Ytdpnnghomfaleaa

namespace Go.Proofs.Ytdpnnghomfaleaa
open Go.RowKit

set_option maxHeartbeats 400000 in
theorem valsOk_any (a : Option Addr) (b o c : Nat) (l : List Int) (w : World) (hl : l.length ≤ 1048576) (h : IntS w a b o l) :
    Calls Try.prog 58 #[.slice a l.length c] w fun e w' => e = .returned (.bool (M.vals l)) ∧ w' = w := by
  go_enter Try.func58, Try.ntmps58
  go_wp2_with fail
  go_loopw [7] (fun s7 wr => ∃ n : Nat, s7 = .int .i64 n ∧ n ≤ l.length ∧ M.vals l = M.vals (l.drop n) ∧ wr = w) (fun s7 _ => l.length - (intOf s7).toNat)
  case atStart => exact ⟨0, rfl, Nat.zero_le _, rfl, rfl⟩
  case round =>
    obtain ⟨n, rfl, hn, hpass, rfl⟩ := hrel
    have HP : Hid (M.vals l = M.vals (l.drop n)) := hpass
    clear hpass
    by_cases hlt : n < l.length
    · obtain ⟨rfl⟩ := h.addr (by omega)
      have HD : Hid (l.drop n = l[n] :: l.drop (n + 1)) := M.drop_int l n hlt
      have hc := h.row n hlt
      generalize l[n] = x at HD hc
      by_cases h0 : x < 0
      · go_wp2_with fail
        go_ret
        exact ⟨ret_bool (M.vals_bad HP.out HD.out (by omega)).symm, rfl⟩
      · have h0' : decide (x < 0) = false := by simpa using h0
        by_cases h3 : 3 < x
        · go_wp2_with fail
          go_ret
          exact ⟨ret_bool (M.vals_bad HP.out HD.out (by omega)).symm, rfl⟩
        · go_wp2_with fail
          exact ⟨⟨n + 1, by go_num, by omega, M.vals_ok HP.out HD.out (by omega) (by omega), trivial⟩, by simp [intOf]; omega⟩
    · go_wp2_with fail
      go_ret
      exact ⟨ret_bool (M.vals_fin HP.out (by omega)).symm, rfl⟩

namespace M
/-- What was seen can be of a program. -/
def seenOk (ll : List (List D)) (l1 l2 : List Int) : Bool := decide ((l1.length : Int) = nreads ll) && (decide (l2.length = 3) && (vals l1 && vals l2))
theorem seenOk_1 {ll : List (List D)} {l1 l2 : List Int} (h : ¬ (l1.length : Int) = nreads ll) : seenOk ll l1 l2 = false := by simp [seenOk, h]
theorem seenOk_2 {ll : List (List D)} {l1 l2 : List Int} (h : ¬ l2.length = 3) : seenOk ll l1 l2 = false := by simp [seenOk, h]
theorem seenOk_3 {ll : List (List D)} {l1 l2 : List Int} (h : vals l1 = false) : seenOk ll l1 l2 = false := by simp [seenOk, h]
theorem seenOk_4 {ll : List (List D)} {l1 l2 : List Int} (h : (l1.length : Int) = nreads ll) (h2 : l2.length = 3) (h3 : vals l1 = true) : seenOk ll l1 l2 = vals l2 := by simp [seenOk, h, h2, h3]
end M

set_option maxHeartbeats 1000000 in
set_option maxRecDepth 100000 in
theorem iseenOk_any (a : Option Addr) (b o c : Nat) (ll : List (List M.D)) (s : Sn) (w : World) (hl : ll.length ≤ 1048576) (hls : ∀ t ∈ ll, t.length ≤ 1048576) (hs : s.Le 1048576) (h : DoSS w a b o ll) (sa : s.At w) :
    Calls Try.prog 26 #[.agg #[.slice a ll.length c], .agg #[.slice s.a1 s.l1.length s.c1, .slice s.a2 s.l2.length s.c2]] w fun e w' => e = .returned (.bool (M.seenOk ll s.l1 s.l2)) ∧ Below w.heap.size w w' := by
  have hb2 := below2 w (.cells #[.slice a ll.length c] 34) (.cells #[.slice s.a1 s.l1.length s.c1, .slice s.a2 s.l2.length s.c2] 42)
  obtain ⟨hs1, hs2⟩ := hs
  obtain ⟨r, hr⟩ : ∃ r, M.nreads ll = r := ⟨_, rfl⟩
  go_enter Try.func26, Try.ntmps26
  go_wp2_with fail
  have k0 : ((w.alloc (.cells #[.slice a ll.length c] 34)).alloc (.cells #[.slice s.a1 s.l1.length s.c1, .slice s.a2 s.l2.length s.c2] 42)).cell? ⟨w.heap.size, 0, none⟩ = some (.slice a ll.length c) := by simp
  have k1 : ((w.alloc (.cells #[.slice a ll.length c] 34)).alloc (.cells #[.slice s.a1 s.l1.length s.c1, .slice s.a2 s.l2.length s.c2] 42)).cell? ⟨w.heap.size + 1, 0, none⟩ = some (.slice s.a1 s.l1.length s.c1) := by simp
  have k2 : ((w.alloc (.cells #[.slice a ll.length c] 34)).alloc (.cells #[.slice s.a1 s.l1.length s.c1, .slice s.a2 s.l2.length s.c2] 42)).cell? ⟨w.heap.size + 1, 1, none⟩ = some (.slice s.a2 s.l2.length s.c2) := by simp
  generalize (w.alloc (.cells #[.slice a ll.length c] 34)).alloc (.cells #[.slice s.a1 s.l1.length s.c1, .slice s.a2 s.l2.length s.c2] 42) = W at *
  have hlt : w.heap.size + 1 < W.heap.size := World.block_lt_of_cell? _ _ k1
  have C1 := fun p : BelowOf W => ireads_any a b o c ll p.x hl hls ((h.below hb2 (Nat.le_refl _)).below p.h (Nat.le_refl _))
  rw [hr] at C1
  have saW := sa.below hb2 (Nat.le_refl _)
  have C2 := fun p : BelowOf W => valsOk_any s.a1 s.b1 s.o1 s.c1 s.l1 p.x hs1 (saW.below p.h (Nat.le_refl _)).reads
  have C3 := fun p : BelowOf W => valsOk_any s.a2 s.b2 s.o2 s.c2 s.l2 p.x hs2 (saW.below p.h (Nat.le_refl _)).last
  have K0 := BelowOf.cell k0
  have K1 := BelowOf.cell k1
  have K2 := BelowOf.cell k2
  clear k0 k1 k2 h sa saW
  by_cases g1 : (s.l1.length : Int) = r
  · by_cases g2 : s.l2.length = 3
    · cases g3 : M.vals s.l1
      · rw [g3] at C2
        rw [g2] at K2 C3
        haveI : Inhabited (BelowOf W) := ⟨belOf W⟩
        refine wp_region_quiet_bel (by kernel_rfl) (by kernel_rfl) ?_
        repeat (quiet_step (first | (go_at_call 57; exact Calls.bel_of (C1 _)) | (go_at_call_of 58 (Value.slice s.a1 s.l1.length s.c1); exact Calls.bel_of_same (C2 _))))
        refine wpQuiet_nil ?_
        rintro _ ⟨⟨wq, hwq⟩, rfl⟩
        go_wp2_with fail
        go_ret
        exact ⟨ret_bool (M.seenOk_3 g3).symm, hb2.trans (hwq.mono hb2.size)⟩
      · rw [g3] at C2
        rw [g2] at K2 C3
        generalize hv : M.vals s.l2 = v at C3
        haveI : Inhabited (BelowOf W) := ⟨belOf W⟩
        refine wp_region_quiet_bel (by kernel_rfl) (by kernel_rfl) ?_
        repeat (quiet_step (first | (go_at_call 57; exact Calls.bel_of (C1 _)) | (go_at_call_of 58 (Value.slice s.a1 s.l1.length s.c1); exact Calls.bel_of_same (C2 _)) | (go_at_call_of 58 (Value.slice s.a2 3 s.c2); exact Calls.bel_of_same (C3 _))))
        refine wpQuiet_nil ?_
        rintro _ ⟨⟨wq, hwq⟩, rfl⟩
        go_wp2_with fail
        go_ret
        exact ⟨ret_bool (by rw [M.seenOk_4 (by rw [hr]; exact g1) g2 g3, hv]), hb2.trans (hwq.mono hb2.size)⟩
    · have g2' : ((s.l2.length : Int) == 3) = false := by simp; omega
      haveI : Inhabited (BelowOf W) := ⟨belOf W⟩
      refine wp_region_quiet_bel (by kernel_rfl) (by kernel_rfl) ?_
      repeat (quiet_step (first | (go_at_call 57; exact Calls.bel_of (C1 _))))
      refine wpQuiet_nil ?_
      rintro _ ⟨⟨wq, hwq⟩, rfl⟩
      go_wp2_with fail
      go_ret
      exact ⟨ret_bool (M.seenOk_2 g2).symm, hb2.trans (hwq.mono hb2.size)⟩
  · have g1' : ((s.l1.length : Int) == r) = false := by simpa using g1
    haveI : Inhabited (BelowOf W) := ⟨belOf W⟩
    refine wp_region_quiet_bel (by kernel_rfl) (by kernel_rfl) ?_
    repeat (quiet_step (first | (go_at_call 57; exact Calls.bel_of (C1 _))))
    refine wpQuiet_nil ?_
    rintro _ ⟨⟨wq, hwq⟩, rfl⟩
    go_wp2_with fail
    go_ret
    exact ⟨ret_bool (M.seenOk_1 (by rw [hr]; exact g1)).symm, hb2.trans (hwq.mono hb2.size)⟩

end Go.Proofs.Ytdpnnghomfaleaa

namespace Go.Proofs.Ytdpnnghomfaleaa
namespace M

theorem rdN_append (l m : List De) : rdN (l ++ m) = rdN l + rdN m := by simp [rdN]
theorem rdN_deD (t i : Nat) (lr : Int) (n : Nat) (d : D) : rdN (deD t i lr n d) = if reads d.k then 1 else 0 := by
  unfold deD rdN
  by_cases h : d.k == 9
  · have h9 : d.k = 9 := by simpa using h
    have hu : reads d.k = false := by rw [h9]; decide
    rw [if_pos h]; simp [De.reads, hu]
  · rw [if_neg h]
    cases hu : reads d.k <;> simp [De.reads, hu]
theorem rdN_deT (t : Nat) : ∀ (l : List D) (i : Nat) (lr : Int) (n : Nat), rdN (deT t i lr n l) = cnt reads l
  | [], _, _, _ => by simp [deT, rdN, cnt]
  | d :: l, i, lr, n => by
    rw [deT, rdN_append, rdN_deD, rdN_deT t l, cnt_cons]
theorem rdN_deF : ∀ (ll : List (List D)) (t n : Nat), rdN (deF t n ll) = tot reads ll
  | [], _, _ => by simp [deF, rdN, tot]
  | l :: ll, t, n => by rw [deF, rdN_append, rdN_deT, rdN_deF ll, tot]
theorem rdAt_len (ds : List De) (l : List Int) : ∀ (xs : List De) (n : Nat), (rdAt ds l n xs).length = rdN xs
  | [], _ => by simp [rdAt, rdN]
  | x :: xs, n => by
    have ih := rdAt_len ds l xs (n + 1)
    unfold rdAt
    cases hx : x.reads
    · simpa [rdN, hx] using ih
    · simp [rdN, hx]; simpa [rdN] using ih
theorem deed_v3 {ll : List (List D)} (h : prog ll = true) : ∀ x ∈ deeds ll, 0 ≤ x.d.v ∧ x.d.v ≤ 3 := by
  intro x hx
  have := deed_do h x hx
  simp only [doOk, Bool.and_eq_true, valOk] at this
  have hv := this.2
  split at hv
  · simp at hv; omega
  · simp at hv; omega
theorem vl_in {ll : List (List D)} {l : List Int} {rows : List (List Int)} (h : Way ll l rows) (n : Nat) (hn : n < (deeds ll).length) : 0 ≤ vl (deeds ll) l n ∧ vl (deeds ll) l n ≤ 3 := by
  obtain ⟨q, hq, _, e⟩ := vl_of h.inn h.len.out h.zero h.fin n hn
  rw [e]
  exact deed_v3 h.prog _ (List.getElem_mem hq)
theorem rdAt_in {ll : List (List D)} {l : List Int} {rows : List (List Int)} (h : Way ll l rows) : ∀ (xs : List De) (n : Nat), n + xs.length ≤ (deeds ll).length → vals (rdAt (deeds ll) l n xs) = true
  | [], _, _ => by simp [rdAt, vals]
  | x :: xs, n, hn => by
    simp only [List.length_cons] at hn
    have ih := rdAt_in h xs (n + 1) (by omega)
    have hv := vl_in h n (by omega)
    unfold rdAt
    split
    · simp only [vals, List.all_cons, Bool.and_eq_true, decide_eq_true_eq] at ih ⊢
      exact ⟨hv, ih⟩
    · exact ih
theorem last_in {ll : List (List D)} {l : List Int} {rows : List (List Int)} (h : Way ll l rows) : ∀ (rs : List (List Int)), (∀ r ∈ rs, r ∈ rows) → vals (seenL (deeds ll) l rs) = true
  | [], _ => by simp [seenL, vals]
  | r :: rs, hr => by
    have ih := last_in h rs (fun x hx => hr x (List.mem_cons_of_mem _ hx))
    have hv : 0 ≤ lastOf (deeds ll) l r ∧ lastOf (deeds ll) l r ≤ 3 := by
      rcases Nat.eq_zero_or_pos r.length with h0 | h0
      · rw [List.length_eq_zero_iff.1 h0, last_nil]; omega
      · rw [last_some _ _ h0]
        obtain ⟨m0, m1⟩ := h.mem r (hr r (List.mem_cons_self ..)) _ (List.getElem_mem (show r.length - 1 < r.length by omega))
        obtain ⟨q, hq⟩ := Int.eq_ofNat_of_zero_le m0
        rw [hq] at m1 ⊢
        exact vl_in h q (by omega)
    simp only [seenL, List.map_cons, vals, List.all_cons, Bool.and_eq_true, decide_eq_true_eq] at ih ⊢
    exact ⟨hv, ih⟩
/-- What is seen in a way that is ok may be seen. -/
theorem exec_seenOk {ll : List (List D)} {l : List Int} {rows : List (List Int)} (h : execOk ll l rows = true) : seenOk ll (execSeen ll l rows).1 (execSeen ll l rows).2 = true := by
  have W := way_of h
  have e : execSeen ll l rows = (seenR (deeds ll) l, seenL (deeds ll) l rows) := by simp [execSeen, h]
  have h1 : ((seenR (deeds ll) l).length : Int) = nreads ll := by
    rw [nreads_ok W.prog, seenR, rdAt_len, deeds, rdN_deF]
  have h2 : (seenL (deeds ll) l rows).length = 3 := by rw [seenL, List.length_map, W.three.out]
  have h3 : vals (seenR (deeds ll) l) = true := rdAt_in W _ _ (by simp)
  have h4 : vals (seenL (deeds ll) l rows) = true := last_in W rows (fun _ h => h)
  rw [e]
  simp only [seenOk, h1, h2, h3, h4, decide_true, Bool.and_true]
end M
end Go.Proofs.Ytdpnnghomfaleaa

namespace Go.Proofs.Ytdpnnghomfaleaa
open Go.RowKit

end Go.Proofs.Ytdpnnghomfaleaa

namespace Go.Proofs.Ytdpnnghomfaleaa
namespace M

theorem comp_self (l : List Int) : comp l l = 0 := by
  induction l with
  | nil => rfl
  | cons x l ih => rw [comp, if_neg (by omega), if_neg (by omega)]; exact ih
theorem comp_zero : ∀ l m : List Int, comp l m = 0 → l = m
  | [], [], _ => rfl
  | [], _ :: _, h => by rw [comp] at h; cases h
  | _ :: _, [], h => by rw [comp] at h; cases h
  | x :: l, y :: m, h => by
    rw [comp] at h
    by_cases h1 : x < y
    · rw [if_pos h1] at h; cases h
    · rw [if_neg h1] at h
      by_cases h2 : y < x
      · rw [if_pos h2] at h; cases h
      · rw [if_neg h2] at h
        rw [comp_zero l m h, show x = y by omega]
theorem comp_neg : ∀ l m : List Int, comp m l = - comp l m
  | [], [] => rfl
  | [], _ :: _ => rfl
  | _ :: _, [] => rfl
  | x :: l, y :: m => by
    rw [comp, comp]
    by_cases h1 : x < y
    · rw [if_pos h1, if_neg (by omega), if_pos h1]; rfl
    · by_cases h2 : y < x
      · rw [if_pos h2, if_neg h1, if_pos h2]
      · rw [if_neg h2, if_neg h1, if_neg h1, if_neg h2]; exact comp_neg l m
theorem comp_trans : ∀ l m n : List Int, comp l m < 0 → comp m n < 0 → comp l n < 0
  | [], [], _, h, _ => by rw [comp] at h; omega
  | [], _ :: _, [], _, h => by rw [comp] at h; omega
  | [], _ :: _, _ :: _, _, _ => by rw [comp]; omega
  | _ :: _, [], _, h, _ => by rw [comp] at h; omega
  | _ :: _, _ :: _, [], _, h => by rw [comp] at h; omega
  | x :: l, y :: m, z :: n, h, k => by
    rw [comp] at h k ⊢
    by_cases h1 : x < y
    · by_cases k1 : y < z
      · rw [if_pos (by omega)]; omega
      · rw [if_neg k1] at k
        by_cases k2 : z < y
        · rw [if_pos k2] at k; omega
        · rw [if_pos (by omega)]; omega
    · rw [if_neg h1] at h
      by_cases h2 : y < x
      · rw [if_pos h2] at h; omega
      · rw [if_neg h2] at h
        by_cases k1 : y < z
        · rw [if_pos (by omega)]; omega
        · rw [if_neg k1] at k
          by_cases k2 : z < y
          · rw [if_pos k2] at k; omega
          · rw [if_neg k2] at k
            rw [if_neg (by omega), if_neg (by omega)]
            exact comp_trans l m n h k

theorem cmpS_self (a b : List Int) : cmpS a b a b = 0 := by rw [cmpS, comp_self, if_pos rfl, comp_self]
theorem cmpS_zero {a1 a2 b1 b2 : List Int} (h : cmpS a1 a2 b1 b2 = 0) : a1 = b1 ∧ a2 = b2 := by
  unfold cmpS at h
  by_cases h0 : comp a1 b1 = 0
  · rw [if_pos h0] at h; exact ⟨comp_zero _ _ h0, comp_zero _ _ h⟩
  · rw [if_neg h0] at h; exact absurd h h0
theorem cmpS_neg (a1 a2 b1 b2 : List Int) : cmpS b1 b2 a1 a2 = - cmpS a1 a2 b1 b2 := by
  unfold cmpS
  rw [comp_neg a1 b1, comp_neg a2 b2]
  by_cases h0 : comp a1 b1 = 0
  · rw [if_pos h0, if_pos (by omega)]
  · rw [if_neg h0, if_neg (by omega)]
theorem cmpS_trans {a1 a2 b1 b2 c1 c2 : List Int} (h : cmpS a1 a2 b1 b2 < 0) (k : cmpS b1 b2 c1 c2 < 0) : cmpS a1 a2 c1 c2 < 0 := by
  unfold cmpS at h k ⊢
  by_cases h0 : comp a1 b1 = 0
  · rw [if_pos h0] at h
    have e := comp_zero _ _ h0
    subst e
    by_cases k0 : comp a1 c1 = 0
    · rw [if_pos k0] at k ⊢; exact comp_trans _ _ _ h k
    · rw [if_neg k0] at k ⊢; exact k
  · rw [if_neg h0] at h
    by_cases k0 : comp b1 c1 = 0
    · have e := comp_zero _ _ k0
      subst e
      rw [if_neg h0]; exact h
    · rw [if_neg k0] at k
      have ht := comp_trans _ _ _ h k
      rw [if_neg (by omega)]; exact ht

/-- The same numbers. -/
def same : List Int → List Int → Bool
  | [], [] => true
  | x :: l, y :: m => x == y && same l m
  | _, _ => false
theorem same_eq : ∀ l m : List Int, same l m = true ↔ l = m
  | [], [] => by simp [same]
  | [], _ :: _ => by simp [same]
  | _ :: _, [] => by simp [same]
  | x :: l, y :: m => by simp [same, same_eq l m]
def sameS (a1 a2 b1 b2 : List Int) : Bool := same a1 b1 && same a2 b2
theorem sameS_eq (a1 a2 b1 b2 : List Int) : sameS a1 a2 b1 b2 = decide (cmpS a1 a2 b1 b2 = 0) := by
  by_cases h : cmpS a1 a2 b1 b2 = 0
  · obtain ⟨rfl, rfl⟩ := cmpS_zero h
    simp [sameS, h, (same_eq _ _).2]
  · rw [decide_eq_false h]
    by_cases h1 : a1 = b1
    · by_cases h2 : a2 = b2
      · subst h1; subst h2; exact absurd (cmpS_self _ _) h
      · have : same a2 b2 = false := by
          cases e : same a2 b2
          · rfl
          · exact absurd ((same_eq _ _).1 e) h2
        rw [sameS, this, Bool.and_false]
    · have : same a1 b1 = false := by
        cases e : same a1 b1
        · rfl
        · exact absurd ((same_eq _ _).1 e) h1
      rw [sameS, this, Bool.false_and]

theorem same_len {l m : List Int} (h : l.length ≠ m.length) : same l m = false := by
  cases e : same l m
  · rfl
  · exact absurd (congrArg List.length ((same_eq _ _).1 e)) h
theorem same_bad {l m : List Int} {n : Nat} {x y : Int} (hd : l.drop n = x :: l.drop (n + 1)) (hm : m.drop n = y :: m.drop (n + 1)) (hxy : ¬ x = y) : same l m = false := by
  cases e : same l m
  · rfl
  · have := (same_eq _ _).1 e
    subst this
    rw [hd] at hm
    simp at hm
    exact absurd hm hxy
theorem same_fin {l m : List Int} (hl : l.length = m.length) (h : ∀ q (h1 : q < l.length) (h2 : q < m.length), l[q] = m[q]) : same l m = true :=
  (same_eq _ _).2 (List.ext_getElem hl h)

end M
end Go.Proofs.Ytdpnnghomfaleaa

namespace Go.Proofs.Ytdpnnghomfaleaa
open Go.RowKit

set_option maxHeartbeats 400000 in
theorem lpInts_any (a : Option Addr) (b o c : Nat) (l : List Int) (a2 : Option Addr) (b2 o2 c2 : Nat) (m : List Int) (w : World) (hl : l.length ≤ 1048576) (h : IntS w a b o l) (h2 : IntS w a2 b2 o2 m) :
    Calls Try.prog 56 #[.slice a l.length c, .slice a2 m.length c2] w fun e w' => e = .returned (.bool (M.same l m)) ∧ Grown w w' := by
  by_cases hlm : l.length = m.length
  · have hlm' : ((l.length : Int) == m.length) = true := by simp; omega
    have hlm2 : (l.length : Int) = m.length := by omega
    go_enter Try.func56, Try.ntmps56
    go_wp2_with fail
    go_loopw [5] (fun s5 wr => ∃ n : Nat, s5 = .int .i64 n ∧ n ≤ l.length ∧ (∀ q (_ : q < n) (h1 : q < l.length) (h2 : q < m.length), l[q] = m[q]) ∧ Grown w wr) (fun s5 _ => l.length - (intOf s5).toNat)
    case atStart => exact ⟨0, rfl, Nat.zero_le _, fun _ hq _ _ => absurd hq (Nat.not_lt_zero _), Grown.refl _⟩
    case round =>
      obtain ⟨n, rfl, hn, hall, hg⟩ := hrel
      have HA : Hid (∀ q (_ : q < n) (h1 : q < l.length) (h2 : q < m.length), l[q] = m[q]) := hall
      clear hall
      by_cases hlt : n < l.length
      · have hmt : n < m.length := by omega
        obtain ⟨rfl⟩ := h.addr (by omega)
        obtain ⟨rfl⟩ := h2.addr (by omega)
        have hc := (h.below hg.bel (Nat.le_refl _)).row n hlt
        have hc2 := (h2.below hg.bel (Nat.le_refl _)).row n hmt
        have HD : Hid (l.drop n = l[n] :: l.drop (n + 1)) := M.drop_int l n hlt
        have HD2 : Hid (m.drop n = m[n] :: m.drop (n + 1)) := M.drop_int m n hmt
        have i1 : (n : Int) < l.length := by omega
        have i2 : (n : Int) < m.length := by omega
        by_cases hxy : l[n] = m[n]
        · have HX : Hid (l[n] = m[n]) := hxy
          rw [← hxy] at hc2
          clear hxy HD HD2
          generalize l[n] = x at hc hc2
          go_wp2_with fail
          go_quiet (fail)
          go_wp2_with fail
          exact ⟨⟨n + 1, by go_num, by omega, fun q hq h1 h2 => by
            by_cases e : q = n
            · subst e; exact HX.out
            · exact HA.out q (by omega) h1 h2, hg.drewN _⟩, by simp [intOf]; omega⟩
        · generalize l[n] = x at hc hxy HD
          generalize m[n] = y at hc2 hxy HD2
          have hxy' : (x == y) = false := by simpa using hxy
          go_wp2_with fail
          go_quiet (fail)
          go_wp2_with fail
          go_ret
          exact ⟨ret_bool (M.same_bad HD.out HD2.out hxy).symm, hg.drewN _⟩
      · go_wp2_with fail
        go_ret
        exact ⟨ret_bool (M.same_fin hlm fun q h1 h2 => HA.out q (by omega) h1 h2).symm, hg⟩
  · have hlm' : ((l.length : Int) == m.length) = false := by simp; omega
    have hlm2 : ¬ (l.length : Int) = m.length := by omega
    go_enter Try.func56, Try.ntmps56
    go_wp2_with fail
    go_ret
    exact ⟨ret_bool (M.same_len hlm).symm, Grown.refl _⟩

set_option maxHeartbeats 400000 in
theorem lpSame_any (s t : Sn) (w : World) (hs : s.Le 1048576) (hsa : s.At w) (hta : t.At w) :
    Calls Try.prog 25 #[.agg #[.slice s.a1 s.l1.length s.c1, .slice s.a2 s.l2.length s.c2], .agg #[.slice t.a1 t.l1.length t.c1, .slice t.a2 t.l2.length t.c2]] w fun e w' => e = .returned (.bool (M.sameS s.l1 s.l2 t.l1 t.l2)) ∧ Grown w w' := by
  have hga := hsa.grown (alloc2 w (.cells #[.slice s.a1 s.l1.length s.c1, .slice s.a2 s.l2.length s.c2] 42) (.cells #[.slice t.a1 t.l1.length t.c1, .slice t.a2 t.l2.length t.c2] 42))
  have hgb := hta.grown (alloc2 w (.cells #[.slice s.a1 s.l1.length s.c1, .slice s.a2 s.l2.length s.c2] 42) (.cells #[.slice t.a1 t.l1.length t.c1, .slice t.a2 t.l2.length t.c2] 42))
  have C1 := lpInts_any s.a1 s.b1 s.o1 s.c1 s.l1 t.a1 t.b1 t.o1 t.c1 t.l1 _ hs.reads hga.reads hgb.reads
  obtain ⟨r1, hr1⟩ : ∃ r, M.same s.l1 t.l1 = r := ⟨_, rfl⟩
  rw [hr1] at C1
  cases r1
  · go_enter Try.func25, Try.ntmps25
    go_wp2_with fail
    refine C1.mono ?_
    rintro e w1 ⟨rfl, hg1⟩
    go_wp2_with fail
    go_ret
    exact ⟨ret_bool (by simp [M.sameS, hr1]), (alloc2 w _ _).trans hg1⟩
  · go_enter Try.func25, Try.ntmps25
    go_wp2_with fail
    refine C1.mono ?_
    rintro e w1 ⟨rfl, hg1⟩
    obtain ⟨hc1, hf1⟩ := bcell hg1.bel
    have C2 := lpInts_any s.a2 s.b2 s.o2 s.c2 s.l2 t.a2 t.b2 t.o2 t.c2 t.l2 _ hs.last (hga.grown hg1).last (hgb.grown hg1).last
    go_wp2_with fail
    refine C2.mono ?_
    rintro e w2 ⟨rfl, hg2⟩
    go_wp2_with fail
    go_ret
    exact ⟨ret_bool (by simp [M.sameS, hr1]), ((alloc2 w _ _).trans hg1).trans hg2⟩

end Go.Proofs.Ytdpnnghomfaleaa

namespace Go.Proofs.Ytdpnnghomfaleaa
open Go.RowKit

theorem M.same_of {a b c d : List Int} (h1 : a = c) (h2 : b = d) : M.sameS a b c d = true := by
  subst h1; subst h2
  rw [M.sameS_eq, M.cmpS_self]
  rfl

set_option maxHeartbeats 2000000 in
set_option maxRecDepth 100000 in
theorem lawSeenX_any (ca : Option Addr) (cb co L C : Nat) (x : Nat → Int) (w : World) (hL : L ≤ C) (had : 0 < L → ca = some ⟨cb, co, none⟩) (hc : ∀ i, i < L → w.cell? ⟨cb, co + i, none⟩ = some (.int .u8 (x i)) ∧ 0 ≤ x i ∧ x i ≤ 255) :
    Calls Try.prog 5 #[.slice ca L C] w fun e w' => e = .returned (.bool true) ∧ Below w.heap.size w w' := by
  by_cases hLb : L ≤ 1048576
  · go_enter Try.func5, Try.ntmps5
    go_wp2_with fail
    refine (DrawExecSeen_any ca cb co L C x _ hL had hc hLb).mono ?_
    rintro e w1 ⟨v, rfl, ⟨a, g, c, mm, fv, ov, l, rows, rfl, hsn, hsm, hwy, h1, h2, h3⟩, hb1⟩
    obtain ⟨fa, fb, fc, ra, rb, rc, rfl, rfl, hf1, ho1⟩ := hwy.ss
    have h2' : Hid (rows.length = 3) := h2
    have hl3 : mm.length ≤ 1048576 := by have := hsm.three; omega
    have hls : ∀ t ∈ mm, t.length ≤ 1048576 := fun t ht => by have := hsm.steps t ht; omega
    have hl1 : l.length ≤ 1048576 := by omega
    have hl2 : rows.length ≤ 1048576 := by omega
    have hrs : ∀ r ∈ rows, r.length ≤ 1048576 := fun r hr => by have := h3 r hr; omega
    clear had hc h2 hwy
    go_wp2_with fail
    have bx0 := BxW.new (c := c) (fc := fc) (rc := rc) hb1 hsn.ss hf1 ho1
    generalize (w1.alloc (.cells #[.slice a mm.length c] 34)).alloc (.cells #[.slice fa l.length fc, .slice ra rows.length rc] 36) = W0 at *
    obtain ⟨X, hXe⟩ : ∃ X, w1.heap.size + 1 = X := ⟨_, rfl⟩
    rw [hXe] at bx0 ⊢
    generalize w1.heap.size = P at *
    clear hsn hb1 hf1 ho1
    refine (sexecSeen_any a g 0 c mm fa fb 0 fc l ra rb 0 rc rows W0 hl3 hls hl1 hrs bx0.ss bx0.f bx0.o).mono ?_
    rintro e W1 ⟨t, rfl, ht1', ht2', htA, -, -, b1⟩
    have ht1 : Hid (t.l1 = _) := ht1'
    have ht2 : Hid (t.l2 = _) := ht2'
    clear ht1' ht2'
    have bx1 := bx0.below b1
    have p1 := bx1.p.c
    have x10 := bx1.x.c0
    have x11 := bx1.x.c1
    have hal1 := below1 W1 (.cells #[.slice t.a1 t.l1.length t.c1, .slice t.a2 t.l2.length t.c2] 42)
    have bx2 := bx1.below hal1
    have vT := BxX.new W1 (.slice t.a1 t.l1.length t.c1) (.slice t.a2 t.l2.length t.c2) 42
    have htA2 := htA.below hal1 (Nat.le_refl _)
    have q1 := bx2.p.c
    have q20 := bx2.x.c0
    have q21 := bx2.x.c1
    clear b1 bx0
    go_wp2_with fail
    generalize W1.alloc (.cells #[.slice t.a1 t.l1.length t.c1, .slice t.a2 t.l2.length t.c2] 42) = W2 at *
    generalize W1.heap.size = V at *
    refine (iexecSeen_any a g 0 c mm fa fb 0 fc l ra rb 0 rc rows W2 hl3 hls hl1 hl2 hrs bx2.ss bx2.f bx2.o).mono ?_
    rintro e W3 ⟨s, rfl, hs1', hs2', hsN, b3⟩
    have hs1 : Hid (s.l1 = _) := hs1'
    have hs2 : Hid (s.l2 = _) := hs2'
    have hsA := hsN.at_
    have bx3 := bx2.below b3
    have htA3 := htA2.below b3 (Nat.le_refl _)
    have vT3 := vT.of (b3.block V vT.lt)
    have hal3 := below1 W3 (.cells #[.slice s.a1 s.l1.length s.c1, .slice s.a2 s.l2.length s.c2] 42)
    have bx4 := bx3.below hal3
    have vT4 := vT3.of (hal3.block V vT3.lt)
    have vS4 := BxX.new W3 (.slice s.a1 s.l1.length s.c1) (.slice s.a2 s.l2.length s.c2) 42
    have hsA4 := hsA.below hal3 (Nat.le_refl _)
    have htA4 := htA3.below hal3 (Nat.le_refl _)
    have hsLe : s.Le 1048576 := by
      obtain ⟨e1, e2⟩ := M.execSeen_le (ll := mm) (l := l) hl2
      exact ⟨by rw [hs1']; exact e1, by rw [hs2']; exact e2⟩
    have hSO : M.execOk mm l rows = true → M.seenOk mm s.l1 s.l2 = true := fun h => by rw [hs1', hs2']; exact M.exec_seenOk h
    have hsame : M.sameS s.l1 s.l2 t.l1 t.l2 = true := M.same_of (hs1.out.trans ht1.out.symm) (hs2.out.trans ht2.out.symm)
    clear hs1' hs2' hs1 hs2 ht1 ht2 bx1 bx2 b3 hal1 htA htA2 htA3 hsA hsN vT vT3 p1 x10 x11 q1 q20 q21 bx3
    have s40 := vS4.c0
    have s41 := vS4.c1
    have t40 := vT4.c0
    have t41 := vT4.c1
    have e4 := bx4.p.c
    have e40 := bx4.x.c0
    have e41 := bx4.x.c1
    generalize hW4 : W3.alloc (.cells #[.slice s.a1 s.l1.length s.c1, .slice s.a2 s.l2.length s.c2] 42) = W4 at *
    generalize hU : W3.heap.size = U at *
    have C5 := lpSame_any s t W4 hsLe hsA4 htA4
    rw [hsame] at C5
    have C6 : ∀ W, BxW w W P X a g c mm fa fb fc l ra rb rc rows → _ := fun W hb => iexecOk_any a g 0 c mm fa fb 0 fc l ra rb 0 rc rows W hl3 hls hl1 hl2 hrs hb.ss hb.f hb.o
    clear hsame
    cases hE : M.execOk mm l rows
    · rw [hE] at C6
      go_wp2_with fail
      refine C5.mono ?_
      rintro e W5 ⟨rfl, hg5⟩
      have bx5 := bx4.below hg5.bel
      have e5 := bx5.p.c
      have e50 := bx5.x.c0
      have e51 := bx5.x.c1
      have C7 := C6 W5 bx5
      clear e4 e40 e41 s40 s41 t40 t41 C5 C6 hW4 hU
      go_wp2_with fail
      refine C7.mono ?_
      rintro e W6 ⟨rfl, b6⟩
      have bx6 := bx5.below b6
      go_wp2_with fail
      go_ret
      exact ⟨rfl, bx6.bel⟩
    · rw [hE] at C6
      go_wp2_with fail
      refine C5.mono ?_
      rintro e W5 ⟨rfl, hg5⟩
      have bx5 := bx4.below hg5.bel
      have vS5 := vS4.of (hg5.bel.block U vS4.lt)
      have hsA5 := hsA4.below hg5.bel (Nat.le_refl _)
      have e5 := bx5.p.c
      have e50 := bx5.x.c0
      have e51 := bx5.x.c1
      have C7 := C6 W5 bx5
      clear e4 e40 e41 s40 s41 t40 t41 C5 C6 hW4 hU
      go_wp2_with fail
      refine C7.mono ?_
      rintro e W6 ⟨rfl, b6⟩
      have bx6 := bx5.below b6
      have vS6 := vS5.of (b6.block U vS5.lt)
      have hsA6 := hsA5.below b6 (Nat.le_refl _)
      have e6 := bx6.p.c
      have s60 := vS6.c0
      have s61 := vS6.c1
      have C8 := iseenOk_any a g 0 c mm s W6 hl3 hls hsLe bx6.ss hsA6
      rw [hSO hE] at C8
      clear hSO e5 e50 e51 C7
      go_wp2_with fail
      refine C8.mono ?_
      rintro e W7 ⟨rfl, b7⟩
      have bx7 := bx6.below b7
      go_wp2_with fail
      go_ret
      exact ⟨rfl, bx7.bel⟩
  · have hLb' : (1048576 : Int) < L := by omega
    go_enter Try.func5, Try.ntmps5
    go_wp2_with fail
    go_ret
    exact ⟨rfl, Below.refl _ _⟩
end Go.Proofs.Ytdpnnghomfaleaa
