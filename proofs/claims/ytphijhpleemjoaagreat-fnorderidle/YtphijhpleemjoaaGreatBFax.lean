/- A way with a number more in one row, in place. No condition. And what goes with it: WaPut, WaFw, WaCop, WaFull, WaSpec. -/
import Derived.Deep.OwnRows
import Derived.Test.YtphijhpleemjoaaGreatBFap
import Derived.Test.YtphijhpleemjoaaGreatBFau
import Derived.Test.YtphijhpleemjoaaGreatBFav
import Derived.Test.YtphijhpleemjoaaGreatBFaw
namespace Go.Proofs.YtphijhpleemjoaaGreat
open Go.RowKit
theorem Xw.putRow {W w' : World} {B ob n oc p g cap : Nat} {fv u : Value} {l r : List Int} {cs : List Value} {rows : List (List Int)} (h : Xw W B fv (.slice (some ⟨ob, 0, none⟩) n oc) l cs rows) (hp : p < rows.length) (hu : cs[p]? = some u)
  (ho : w'.ownsRow B 3 1 (.slice (some ⟨g, 0, none⟩) r.length cap) r.length (nums r)) (hg : W.grownBy w' u.ownBlock) (hat : u.ownBlock = some g ∨ g = W.heap.size) :
  Xw (w'.setCell ⟨ob, p, none⟩ (.slice (some ⟨g, 0, none⟩) r.length cap)) B fv (.slice (some ⟨ob, 0, none⟩) n oc) l (cs.set p (.slice (some ⟨g, 0, none⟩) r.length cap)) (rows.set p r) := by
 have hl : cs.length = rows.length := by have := h.ord.1; omega
 obtain ⟨on, oc', eo⟩ := own_slx h.ord
 simp only [Value.slice.injEq] at eo
 obtain ⟨_, rfl, _⟩ := eo
 obtain ⟨u0, e1, e2, e3, e4⟩ := h.row p hp
 rw [hu] at e1
 obtain rfl := Option.some.inj e1
 have turn : ∀ {v : Value} {e : TypeId} {m : Nat} {xs : List Value}, W.ownsRow B e 1 v m xs → Off1 v u.ownBlock → Off1 v (some g) := fun hv hoff => by
  rcases hat with e | e
  ·rw [← e]; exact hoff
  ·exact Off1.new hv (by omega)
 have sym : ∀ {v : Value} {k : Option Nat}, Off1 v k → ∀ j, k = some j → v.ownBlock ≠ some j := fun hoff j hj e => hoff j e hj
 have offo : Off1 (.slice (some ⟨ob, 0, none⟩) rows.length oc) u.ownBlock := fun k hk e => e3 k e hk
 have offf : Off1 fv u.ownBlock := fun k hk e => e4 k e hk
 have ho' := offo.kept h.ord hg
 have hf' := offf.kept h.from_ hg
 have gno : g ≠ ob := fun e => turn h.ord offo ob rfl (by rw [e])
 obtain ⟨st, _⟩ := ho'.stored p (.slice (some ⟨g, 0, none⟩) r.length cap)
 have hs := grown_set w' ob p (.slice (some ⟨g, 0, none⟩) r.length cap)
 have keep : ∀ {v : Value} {m : Nat} {xs : List Value}, w'.ownsRow B 3 1 v m xs → Off1 v (some ob) → (w'.setCell ⟨ob, p, none⟩ (.slice (some ⟨g, 0, none⟩) r.length cap)).ownsRow B 3 1 v m xs := fun hv hoff => hoff.kept hv hs
 have hfo : Off1 fv (some ob) := fun k hk e => h.apart k hk (by rw [← e]; rfl)
 refine ⟨keep hf' hfo, ?_, fun i hi => ?_, h.apart, fun i j v v' hij h1 h2 => ?_⟩
 ·rw [List.length_set]
  exact st
 ·rw [List.length_set] at hi
  by_cases e : i = p
  ·subst e
   refine ⟨_, List.getElem?_set_self (by omega), ?_, fun k hk e => gno ?_, fun k hk e => ?_⟩
   ·rw [List.getElem_set_self]
    exact keep ho (fun k hk e => gno (by have h1 : g = k := Option.some.inj hk; have h2 : ob = k := Option.some.inj e; omega))
   ·have h1 : g = k := Option.some.inj hk
    have h2 : ob = k := Option.some.inj e
    omega
   ·have h1 : g = k := Option.some.inj hk
    exact turn h.from_ offf k e (by rw [h1])
  ·obtain ⟨v, f1, f2, f3, f4⟩ := h.row i hi
   have hoff : Off1 v u.ownBlock := h.each i p v u e f1 hu
   refine ⟨v, by rw [List.getElem?_set_ne (fun h => e h.symm)]; exact f1, ?_, f3, f4⟩
   rw [List.getElem_set_ne (fun h => e h.symm)]
   exact keep (hoff.kept f2 hg) (fun k hk e => f3 k hk (by rw [← e]; rfl))
 ·have old : ∀ (a : Nat) (x : Value), cs[a]? = some x → ∃ t, W.ownsRow B 3 1 x (List.length t) (nums t) := fun a x hx => by
   have ha := (List.getElem?_eq_some_iff.1 hx).1
   obtain ⟨v0, f1, f2, _⟩ := h.row a (by omega)
   rw [hx] at f1
   obtain rfl := Option.some.inj f1
   exact ⟨_, f2⟩
  by_cases ei : i = p
  ·subst ei
   rw [List.getElem?_set_self (by omega)] at h1
   obtain rfl := Option.some.inj h1
   rw [List.getElem?_set_ne (fun h => hij h)] at h2
   obtain ⟨t, ht⟩ := old j v' h2
   have := turn ht (h.each j i v' u (fun h => hij h.symm) h2 hu)
   exact fun k hk e => this k e (by have h3 : g = k := Option.some.inj hk; rw [h3])
  ·rw [List.getElem?_set_ne (fun h => ei h.symm)] at h1
   by_cases ej : j = p
   ·subst ej
    rw [List.getElem?_set_self (by omega)] at h2
    obtain rfl := Option.some.inj h2
    obtain ⟨t, ht⟩ := old i v h1
    exact turn ht (h.each i j v u ei h1 hu)
   ·rw [List.getElem?_set_ne (fun h => ej h.symm)] at h2
    exact h.each i j v v' hij h1 h2
end Go.Proofs.YtphijhpleemjoaaGreat
namespace Go.Proofs.YtphijhpleemjoaaGreat
open Go.RowKit
theorem own_farW {w : World} {b i B n : Nat} {v : Value} {xs : List Value} (ho : w.ownsRow B 3 1 v n xs) (hb : b < B) (u : Value) : (w.setCell ⟨b, i, none⟩ u).ownsRow B 3 1 v n xs := by
 refine ⟨ho.1, ?_⟩
 rcases ho.2 with h | ⟨g, cap, cur, hv, hg, hh, r⟩
 ·exact .inl h
 ·exact .inr ⟨g, cap, cur, hv, hg, (Below.heap_setCell _ _ _ _ (by show g ≠ b; omega)).trans hh, r⟩
structure FwI (w wr : World) (fv : Value) (l : List Int) : Prop where
 bel : Below w.heap.size w wr
 res : SlotX wr w.heap.size (.slice none 0 0) (.slice none 0 0)
 row : wr.heap[w.heap.size + 1]? = some (.cells #[.slice none 0 0, .slice none 0 0, .slice none 0 0] 32)
 x : SlotX wr (w.heap.size + 1 + 1) fv (.slice (some ⟨w.heap.size + 1, 0, none⟩) 3 3)
 own : wr.ownsRow (w.heap.size + 1 + 1 + 1) 3 1 fv l.length (nums l)
theorem FwI.lt {w wr : World} {fv : Value} {l : List Int} (h : FwI w wr fv l) : w.heap.size + 1 + 1 < wr.heap.size := h.x.lt
theorem FwI.below {w wr w1 : World} {fv : Value} {l : List Int} (h : FwI w wr fv l) (hb : Below wr.heap.size wr w1) : FwI w w1 fv l := by
 have hl := h.lt
 exact ⟨h.bel.trans (hb.mono h.bel.size), h.res.of (hb.block _ (by omega)), (hb.block _ (by omega)).trans h.row, h.x.of (hb.block _ hl), ownsRow_below h.own hb⟩
theorem FwI.snoc {w wr w3 : World} {fv v' : Value} {l l' : List Int} {o : Obj} (h : FwI w wr fv l) (hg : (wr.alloc o).grownBy w3 fv.ownBlock) (ho : w3.ownsRow (w.heap.size + 1 + 1 + 1) 3 1 v' l'.length (nums l')) :
  FwI w (w3.setCell ⟨w.heap.size + 1 + 1, 0, none⟩ v') v' l' := by
 have h1 := h.below (below1 wr o)
 have hl := h1.lt
 have hge := own_ge h.own
 have blk : ∀ k, k < w.heap.size + 1 + 1 + 1 → w3.heap[k]? = (wr.alloc o).heap[k]? := fun k hk => hg.block k (by omega) (fun e => by have := hge k e.symm; omega)
 have hs := h1.x.of (blk _ (by omega))
 exact ⟨(below_grown h1.bel hg (fun k hk => by have := hge k hk; omega) (by omega)).setCell (by show w.heap.size ≤ w.heap.size + 1 + 1; omega) _, (h1.res.of (blk _ (by omega))).far (by omega) _, (Below.heap_setCell _ _ _ _ (by show w.heap.size + 1 ≠ w.heap.size + 1 + 1; omega)).trans ((blk _ (by omega)).trans h1.row), hs.set0 _, own_farW ho (by omega) _⟩
theorem FwI.ans {w wr : World} {fv : Value} {l : List Int} (h : FwI w wr fv l) : WyAns w ((wr.setCell ⟨w.heap.size, 0, none⟩ fv).setCell ⟨w.heap.size, 1, none⟩ (.slice (some ⟨w.heap.size + 1, 0, none⟩) 3 3)) fv (.slice (some ⟨w.heap.size + 1, 0, none⟩) 3 3) l [[], [], []] := by
 have hn : ∀ (W : World), W.ownsRow w.heap.size 3 1 (.slice none 0 0) ([] : List Int).length (nums []) := fun W => World.ownsRow_nil _ _ _ _
 have hge := own_ge h.own
 have hlt := h.lt
 have ho : ∀ row, Off1 (.slice none 0 0) row := fun row k hk => by cases hk
 refine ⟨⟨[.slice none 0 0, .slice none 0 0, .slice none 0 0], own_mono (own_farW (own_farW h.own (by omega) _) (by omega) _) (by omega), ⟨rfl, Or.inr ⟨w.heap.size + 1, 3, #[.slice none 0 0, .slice none 0 0, .slice none 0 0], rfl, by omega, ?_, by show 3 ≤ 3; omega, by unfold maxLen; omega, rfl, rfl⟩⟩, fun i hi => ⟨.slice none 0 0, ?_, ?_, ho _, ho _⟩, fun k hk e => ?_, fun i j u u' _ hu _ => ?_⟩, ?_⟩
 ·rw [Below.heap_setCell _ _ _ _ (by show w.heap.size + 1 ≠ w.heap.size; omega), Below.heap_setCell _ _ _ _ (by show w.heap.size + 1 ≠ w.heap.size; omega)]
  exact h.row
 ·match i, hi with
  | 0, _ => rfl
  | 1, _ => rfl
  | 2, _ => rfl
 ·match i, hi with
  | 0, _ => exact hn _
  | 1, _ => exact hn _
  | 2, _ => exact hn _
 ·have h1 := hge k hk
  have h2 : w.heap.size + 1 = k := Option.some.inj e
  omega
 ·have : u = .slice none 0 0 := by
   have := List.mem_of_getElem? hu
   simpa using this
  rw [this]; exact ho _
 ·exact (h.bel.setCell (Nat.le_refl _) _).setCell (Nat.le_refl _) _
theorem M.init_step {ds : List M.De} {n : Nat} (h : n < ds.length) : M.init (ds.take (n + 1)) = M.init (ds.take n) ++ [if ds[n].reads then -1 else -2] := by
 rw [List.take_succ_eq_append_getElem h]; unfold M.init; rw [List.map_append]; rfl
set_option maxHeartbeats 1000000 in
set_option maxRecDepth 100000 in
theorem firstWay_any (va : Option Addr) (g c : Nat) (ds : List M.De) (w : World) (hl : ds.length ≤ 1000) (h : DeS w va g ds) :
  Calls Tryz.prog 87 #[.slice va ds.length c] w fun e w' => ∃ fv ov, e = .returned (.agg #[fv, ov]) ∧ WyAns w w' fv ov (M.init ds) [[], [], []] := by
 have hmk : ∀ w : World, (Instr.makeSlice 33 (.int .i64 3) (.int .i64 3)).run Tryz.prog w = .ok (.slice (some ⟨w.heap.size, 0, none⟩) 3 3) (w.alloc (.cells #[.slice none 0 0, .slice none 0 0, .slice none 0 0] 32)) := fun w => by
  have := run_make_row' (P := Tryz.prog) 33 32 (.slice none 0 0) 24 Tryz.underlying33 Tryz.infoRs rfl .i64 .i64 3 (by omega) (by omega) w
  rw [show madeCells #[Value.slice none 0 0] 3 = #[.slice none 0 0, .slice none 0 0, .slice none 0 0] from by kernel_rfl] at this
  exact this
 obtain ⟨i0, hi, hz0, hz1, hz2⟩ := info_parts Tryz.infoInt
 go_enter Tryz.func87, Tryz.ntmps87
 go_wp2_with fail
 have A0 : FwI w (((w.alloc (.cells #[.slice none 0 0, .slice none 0 0] 35)).alloc (.cells #[.slice none 0 0, .slice none 0 0, .slice none 0 0] 32)).alloc (.cells #[.slice none 0 0, .slice (some ⟨w.heap.size + 1, 0, none⟩) 3 3] 35)) (.slice none 0 0) [] := by
  refine ⟨below3 w _ _ _, ⟨?_⟩, ?_, ⟨alloc_new _ _ _ (by simp)⟩, World.ownsRow_nil _ _ _ _⟩
  ·rw [alloc_old _ _ _ (by simp; omega), alloc_old _ _ _ (by simp)]; exact alloc_new _ _ _ (by simp)
  ·rw [alloc_old _ _ _ (by simp)]; exact alloc_new _ _ _ (by simp)
 generalize ((w.alloc (.cells #[.slice none 0 0, .slice none 0 0] 35)).alloc (.cells #[.slice none 0 0, .slice none 0 0, .slice none 0 0] 32)).alloc (.cells #[.slice none 0 0, .slice (some ⟨w.heap.size + 1, 0, none⟩) 3 3] 35) = W0 at *
 clear hmk
 go_loopw [11] (fun s11 wr => ∃ (n : Nat) (acc : List Int) (v : Value), s11 = .int .i64 n ∧ n ≤ ds.length ∧ acc.length ≤ n ∧ Hid (M.init (ds.take n) = acc) ∧ FwI w wr v acc) (fun s11 _ => ds.length - (intOf s11).toNat)
 case atStart => exact ⟨0, [], _, rfl, Nat.zero_le _, Nat.le_refl _, by show _ = _; rfl, A0⟩
 case round =>
  clear A0
  obtain ⟨n, acc, v, rfl, hn, hacc, HW, A⟩ := hrel
  by_cases hlt : n < ds.length
  ·obtain ⟨rfl⟩ := h.addr (by omega)
   have hx := DeS.at (h.bel A.bel (Nat.le_refl _)) hlt
   have HW2 : Hid (M.init (ds.take (n + 1)) = acc ++ [if (ds[n]).reads then -1 else -2]) := by show _ = _; rw [M.init_step hlt, HW.out]
   clear HW
   generalize ds[n] = x at *
   obtain ⟨c0, c1, c2, c3, c4, c5, c6⟩ := hx
   have i1 : (n : Int) < ds.length := by omega
   have lg : g < wr.heap.size := World.block_lt_of_cell? _ _ c0
   have A2 := A.below (below2 wr (.cells #[.int .i64 (x.t : Int), .int .i64 (x.i : Int), .bool x.last, .int .i64 x.d.k, .int .i64 x.d.p, .int .i64 x.d.v, .int .i64 x.lr] 117) (.cells #[.int .i64 (x.t : Int), .int .i64 (x.i : Int), .bool x.last, .int .i64 x.d.k, .int .i64 x.d.p, .int .i64 x.d.v, .int .i64 x.lr] 117))
   obtain ⟨av, cv, hav⟩ := own_slx A2.own
   subst hav
   have cS := A2.x.c0
   have lS := A.lt
   cases ht : x.reads
   ·go_wp2_with (first | (go_at_call 94; refine (deReads_any x _).mono ?_; rw [ht]; rintro e w' ⟨rfl, rfl⟩) | (at_builtin; refine wpList_append_lies _ rfl (.tmp 18) (.tmp 20) 32 rfl (w.heap.size + 1 + 1 + 1) 3 i0 _ 1 8 Tryz.underlying32 hi hz0 hz1 hz2 rfl (by decide) _ _ _ rfl (A2.own.alloc _) ⟨wr.heap.size + 1 + 1, 0, none⟩ 1 1 [.int .i64 (-2)] rfl rfl (World.news_of_block (cs := #[.int .i64 (-2)]) (t := 3) (fr := (0, 0)) (by have := heap_alloc_new ((wr.alloc (.cells #[.int .i64 (x.t : Int), .int .i64 (x.i : Int), .bool x.last, .int .i64 x.d.k, .int .i64 x.d.p, .int .i64 x.d.v, .int .i64 x.lr] 117)).alloc (.cells #[.int .i64 (x.t : Int), .int .i64 (x.i : Int), .bool x.last, .int .i64 x.d.k, .int .i64 x.d.p, .int .i64 x.d.v, .int .i64 x.lr] 117)) (.cells #[.int .i64 (-2)] 3); simpa using this)) (by simp [Value.oneCell']) (by omega) (by unfold maxLen; omega) (by omega) (by simp; omega) (wr.heap.size + 1 + 1 + 1) (by simp) ?_))
    intro g6 cap6 w6 hown6 hg6 hat6 hlt6
    have hown6' : w6.ownsRow (w.heap.size + 1 + 1 + 1) 3 1 (.slice (some ⟨g6, 0, none⟩) (acc.length + 1) cap6) (acc ++ [(-2 : Int)]).length (nums (acc ++ [(-2 : Int)])) := by rw [List.length_append]; simpa [nums] using hown6
    have A4 := A2.snoc hg6 hown6'
    have hge := own_ge A2.own
    have lX : w.heap.size + 1 + 1 < wr.heap.size + 1 + 1 + 1 := by omega
    have cS6 : w6.cell? ⟨w.heap.size + 1 + 1, 0, none⟩ = some (.slice av acc.length cv) := (hg6.cell_far ⟨w.heap.size + 1 + 1, 0, none⟩ (by simp; omega) (fun e => by have : w.heap.size + 1 + 1 + 1 ≤ w.heap.size + 1 + 1 := hge _ e.symm; omega)).trans (((A2.below (below1 _ _)).x).c0)
    have fS6 : ∀ i, w6.frozen? ⟨w.heap.size + 1 + 1, i, none⟩ = false := fun i => (hg6.frozen_far ⟨w.heap.size + 1 + 1, i, none⟩ (by simp; omega) (fun e => by have : w.heap.size + 1 + 1 + 1 ≤ w.heap.size + 1 + 1 := hge _ e.symm; omega)).trans (((A2.below (below1 _ _)).x).fz i)
    clear hown6 hg6 hat6 hlt6 hown6' hge cS
    go_wp2_with fail
    exact ⟨⟨n + 1, acc ++ [(-2 : Int)], _, by go_num, by omega, by simp; omega, by show _ = _; have := HW2.out; rw [ht] at this; exact this, A4⟩, by simp [intOf]; omega⟩
   ·go_wp2_with (first | (go_at_call 94; refine (deReads_any x _).mono ?_; rw [ht]; rintro e w' ⟨rfl, rfl⟩) | (at_builtin; refine wpList_append_lies _ rfl (.tmp 18) (.tmp 20) 32 rfl (w.heap.size + 1 + 1 + 1) 3 i0 _ 1 8 Tryz.underlying32 hi hz0 hz1 hz2 rfl (by decide) _ _ _ rfl (A2.own.alloc _) ⟨wr.heap.size + 1 + 1, 0, none⟩ 1 1 [.int .i64 (-1)] rfl rfl (World.news_of_block (cs := #[.int .i64 (-1)]) (t := 3) (fr := (0, 0)) (by have := heap_alloc_new ((wr.alloc (.cells #[.int .i64 (x.t : Int), .int .i64 (x.i : Int), .bool x.last, .int .i64 x.d.k, .int .i64 x.d.p, .int .i64 x.d.v, .int .i64 x.lr] 117)).alloc (.cells #[.int .i64 (x.t : Int), .int .i64 (x.i : Int), .bool x.last, .int .i64 x.d.k, .int .i64 x.d.p, .int .i64 x.d.v, .int .i64 x.lr] 117)) (.cells #[.int .i64 (-1)] 3); simpa using this)) (by simp [Value.oneCell']) (by omega) (by unfold maxLen; omega) (by omega) (by simp; omega) (wr.heap.size + 1 + 1 + 1) (by simp) ?_))
    intro g6 cap6 w6 hown6 hg6 hat6 hlt6
    have hown6' : w6.ownsRow (w.heap.size + 1 + 1 + 1) 3 1 (.slice (some ⟨g6, 0, none⟩) (acc.length + 1) cap6) (acc ++ [(-1 : Int)]).length (nums (acc ++ [(-1 : Int)])) := by rw [List.length_append]; simpa [nums] using hown6
    have A4 := A2.snoc hg6 hown6'
    have hge := own_ge A2.own
    have lX : w.heap.size + 1 + 1 < wr.heap.size + 1 + 1 + 1 := by omega
    have cS6 : w6.cell? ⟨w.heap.size + 1 + 1, 0, none⟩ = some (.slice av acc.length cv) := (hg6.cell_far ⟨w.heap.size + 1 + 1, 0, none⟩ (by simp; omega) (fun e => by have : w.heap.size + 1 + 1 + 1 ≤ w.heap.size + 1 + 1 := hge _ e.symm; omega)).trans (((A2.below (below1 _ _)).x).c0)
    have fS6 : ∀ i, w6.frozen? ⟨w.heap.size + 1 + 1, i, none⟩ = false := fun i => (hg6.frozen_far ⟨w.heap.size + 1 + 1, i, none⟩ (by simp; omega) (fun e => by have : w.heap.size + 1 + 1 + 1 ≤ w.heap.size + 1 + 1 := hge _ e.symm; omega)).trans (((A2.below (below1 _ _)).x).fz i)
    clear hown6 hg6 hat6 hlt6 hown6' hge cS
    go_wp2_with fail
    exact ⟨⟨n + 1, acc ++ [(-1 : Int)], _, by go_num, by omega, by simp; omega, by show _ = _; have := HW2.out; rw [ht] at this; exact this, A4⟩, by simp [intOf]; omega⟩
  ·have HF : M.init ds = acc := by have := HW.out; rwa [List.take_of_length_le (by omega)] at this
   obtain ⟨av, cv, rfl⟩ := own_slx A.own
   have x0 := A.x.c0
   have x1 := A.x.c1
   have y0 := A.res.c0
   have y1 := A.res.c1
   have yf := A.res.fz
   have hlt := A.lt
   have hans := A.ans
   clear HW
   go_wp2_with fail
   refine bodyPost_ret (v := .agg #[.slice av acc.length cv, .slice (some ⟨w.heap.size + 1, 0, none⟩) 3 3]) (by simp [results, Tryz.results87, go_sem, y0, y1]) rfl ⟨_, _, rfl, ?_⟩
   rw [HF]; exact hans
end Go.Proofs.YtphijhpleemjoaaGreat
namespace Go.Proofs.YtphijhpleemjoaaGreat
namespace M
def LrOk (xs : List De) (lr : Int) : Prop := 0 ≤ lr → ∃ y : De, xs[lr.toNat]? = some y ∧ y.reads = true
def LrAll (ds : List De) : Prop := ∀ (n : Nat) (x : De), ds[n]? = some x → x.lr ≤ n ∧ (x.reads = false → LrOk (ds.take n) x.lr)
theorem LrOk.append {xs : List De} {lr : Int} (h : LrOk xs lr) (ys : List De) : LrOk (xs ++ ys) lr := fun h0 => by
 obtain ⟨y, h1, h2⟩ := h h0
 exact ⟨y, by rw [List.getElem?_append_left (List.getElem?_eq_some_iff.1 h1).1]; exact h1, h2⟩
theorem LrOk.le {xs : List De} {lr : Int} (h : LrOk xs lr) : lr ≤ xs.length := by
 by_cases h0 : 0 ≤ lr
 ·obtain ⟨y, h1, _⟩ := h h0
  have := (List.getElem?_eq_some_iff.1 h1).1
  omega
 ·omega
theorem LrAll.snoc {xs : List De} {x : De} (h : LrAll xs) (hx : x.lr ≤ xs.length ∧ (x.reads = false → LrOk xs x.lr)) : LrAll (xs ++ [x]) := fun n y hy => by
 by_cases hn : n < xs.length
 ·rw [List.getElem?_append_left hn] at hy
  rw [List.take_append_of_le_length (by omega)]
  exact h n y hy
 ·have hlt := (List.getElem?_eq_some_iff.1 hy).1
  simp at hlt
  have e : n = xs.length := by omega
  subst e
  rw [List.getElem?_append_right (Nat.le_refl _)] at hy
  simp at hy
  subst hy
  rw [List.take_left']
  ·exact hx
  ·rfl
theorem lrOf_ok {xs : List De} {lr : Int} (h : LrOk xs lr) (t i : Nat) (b : Bool) (d : D) : (lrOf lr xs.length d ≤ xs.length ∧ ((⟨t, i, b, d, lrOf lr xs.length d⟩ : De).reads = false → LrOk xs (lrOf lr xs.length d))) ∧ LrOk (xs ++ [⟨t, i, b, d, lrOf lr xs.length d⟩]) (lrOf lr xs.length d) := by
 unfold lrOf
 cases hr : reads d.k
 ·simp only [Bool.false_eq_true, if_false]
  exact ⟨⟨h.le, fun _ => h⟩, h.append _⟩
 ·simp only [if_true]
  refine ⟨⟨Int.le_refl _, fun e => ?_⟩, fun _ => ⟨⟨t, i, b, d, xs.length⟩, by simp, ?_⟩⟩
  ·simp [De.reads, hr] at e
  ·simp [De.reads, hr]
theorem LrAll.deD {xs : List De} {lr : Int} (h : LrAll xs) (hl : LrOk xs lr) (t i : Nat) (d : D) : LrAll (xs ++ deD t i lr xs.length d) ∧ LrOk (xs ++ deD t i lr xs.length d) (lrOf lr xs.length d) := by
 obtain ⟨h1, h2⟩ := lrOf_ok hl t i false d
 have a1 := h.snoc (x := ⟨t, i, false, d, lrOf lr xs.length d⟩) h1
 unfold M.deD
 split
 ·rename_i hk
  have hr : reads d.k = false := by
   have : d.k = 9 := by simpa using hk
   simp [reads, this]
  have e : lrOf lr xs.length d = lr := by simp [lrOf, hr]
  rw [e] at h1 h2 a1 ⊢
  have a2 := a1.snoc (x := ⟨t, i, true, d, lr⟩) ⟨h2.le, fun _ => h2⟩
  rw [List.append_assoc] at a2
  exact ⟨a2, hl.append _⟩
 ·exact ⟨a1, h2⟩
theorem LrAll.deT (t : Nat) : ∀ (l : List D) (i : Nat) (lr : Int) (xs : List De), LrAll xs → LrOk xs lr → LrAll (xs ++ deT t i lr xs.length l)
 | [], i, lr, xs, h, hl => by simpa [M.deT] using h
 | d :: l, i, lr, xs, h, hl => by
  obtain ⟨h1, h2⟩ := h.deD hl t i d
  have := LrAll.deT t l (i + 1) _ _ h1 h2
  rw [List.length_append, List.append_assoc] at this
  exact this
theorem LrAll.deF : ∀ (ll : List (List D)) (t : Nat) (xs : List De), LrAll xs → LrAll (xs ++ deF t xs.length ll)
 | [], t, xs, h => by simpa [M.deF] using h
 | l :: ll, t, xs, h => by
  have h1 := LrAll.deT t l 0 (-1) xs h (fun h0 => absurd h0 (by decide))
  have := LrAll.deF ll (t + 1) _ h1
  rw [List.length_append, List.append_assoc] at this
  exact this
theorem lr_all (ll : List (List D)) : LrAll (deeds ll) := by
 have := LrAll.deF ll 0 [] (fun n x h => by simp at h)
 simpa [deeds] using this
theorem cop_deeds (ll : List (List D)) : Cop (deeds ll) := fun n x hx _ hr h0 => by
 obtain ⟨y, h1, h2⟩ := (lr_all ll n x hx).2 hr h0
 have hlt := (List.getElem?_eq_some_iff.1 h1).1
 rw [List.length_take] at hlt
 refine ⟨by omega, y, ?_, h2⟩
 rw [List.getElem?_take_of_lt (by omega)] at h1
 exact h1
theorem lr_lt2 (ll : List (List D)) (n : Nat) (x : De) (hx : (deeds ll)[n]? = some x) : x.lr < (deeds ll).length := by
 have h1 := (lr_all ll n x hx).1
 have h2 := (List.getElem?_eq_some_iff.1 hx).1
 omega
end M
end Go.Proofs.YtphijhpleemjoaaGreat
namespace Go.Proofs.YtphijhpleemjoaaGreat
namespace M
theorem perm_of : ∀ (a b : List Int), a.Nodup → (∀ v ∈ a, v ∈ b) → b.length ≤ a.length → a.Perm b
 | [], b, _, _, hl => by
  have : b = [] := List.length_eq_zero_iff.1 (by simpa using hl)
  rw [this]
 | x :: a, b, hn, hs, hl => by
  have hx := hs x (by simp)
  have hp := List.perm_cons_erase hx
  have hn' := List.nodup_cons.1 hn
  have ih := perm_of a (b.erase x) hn'.2 (fun v hv => (List.mem_erase_of_ne (fun (e : v = x) => hn'.1 (e ▸ hv))).2 (hs v (List.mem_cons_of_mem _ hv))) (by rw [List.length_erase_of_mem hx]; simp at hl; omega)
  exact (ih.cons x).trans hp.symm
theorem mayTell_iff {ds : List De} {x : De} {f : Int} : mayTell ds x f = true ↔ if x.reads then f = -1 ∨ f ∈ wrs x.d.p 0 ds else f = -2 := by
 unfold mayTell
 cases hr : x.reads
 ·simp
 ·simp only [if_true, Bool.or_eq_true, beq_iff_eq]
  refine or_congr Iff.rfl ?_
  rw [mem_wrs]
  constructor
  ·intro h
   simp only [Bool.and_eq_true, decide_eq_true_eq] at h
   obtain ⟨h0, h1, h2⟩ := h
   have hlt : f.toNat < ds.length := by omega
   rw [List.getElem?_eq_getElem hlt] at h2
   exact ⟨f.toNat, hlt, by omega, h2⟩
  ·rintro ⟨i, hi, rfl, ht⟩
   simp only [Bool.and_eq_true, decide_eq_true_eq]
   refine ⟨by omega, by omega, ?_⟩
   have e : (((0 + i : Nat) : Int)).toNat = i := by omega
   rw [e, List.getElem?_eq_getElem hi]
   exact ht
theorem fromsW_succ {ds : List De} {n : Nat} {f r : List Int} (h : f.length < ds.length) : r ∈ fromsOf ds (n + 1) f ↔ ∃ v, mayTell ds ds[f.length] v = true ∧ r ∈ fromsOf ds n (f ++ [v]) := by
 cases hr : De.reads ds[f.length]
 ·rw [froms_no h rfl hr]
  constructor
  ·exact fun h => ⟨-2, by rw [mayTell_iff, hr]; rfl, h⟩
  ·rintro ⟨v, hv, hm⟩
   rw [mayTell_iff, hr] at hv
   have : v = -2 := hv
   rw [← this]; exact hm
 ·rw [froms_yes h rfl hr, List.mem_append, List.mem_flatMap]
  constructor
  ·rintro (h | ⟨v, hv, hm⟩)
   ·exact ⟨-1, by rw [mayTell_iff, hr]; exact Or.inl rfl, h⟩
   ·exact ⟨v, by rw [mayTell_iff, hr]; exact Or.inr hv, hm⟩
  ·rintro ⟨v, hv, hm⟩
   rw [mayTell_iff, hr] at hv
   rcases hv with rfl | hv
   ·exact Or.inl hm
   ·exact Or.inr ⟨v, hv, hm⟩
theorem take_succ_snoc {r f : List Int} {v : Int} (h : f.length < r.length) : r.take (f.length + 1) = f ++ [v] ↔ r.take f.length = f ∧ r.getD f.length 0 = v := by
 rw [List.take_succ_eq_append_getElem h]
 have hl : (r.take f.length).length = f.length := by rw [List.length_take]; omega
 constructor
 ·intro e
  have e1 := List.append_inj e hl
  refine ⟨e1.1, ?_⟩
  have := e1.2
  simp at this
  rw [List.getD_eq_getElem?_getD, List.getElem?_eq_getElem h]
  exact this
 ·rintro ⟨e1, e2⟩
  rw [List.getD_eq_getElem?_getD, List.getElem?_eq_getElem h] at e2
  rw [e1]
  congr 1
  simp at e2
  rw [e2]
theorem mem_froms {ds : List De} : ∀ (n : Nat) (f r : List Int), f.length + n = ds.length → (r ∈ fromsOf ds n f ↔ r.length = ds.length ∧ r.take f.length = f ∧ ∀ i (h : i < ds.length), f.length ≤ i → mayTell ds ds[i] (r.getD i 0) = true)
 | 0, f, r, h => by
  simp only [fromsOf, List.mem_singleton]
  constructor
  ·rintro rfl
   exact ⟨by omega, List.take_of_length_le (Nat.le_refl _), fun i hi hf => by omega⟩
  ·rintro ⟨h1, h2, _⟩
   rw [List.take_of_length_le (by omega)] at h2
   exact h2
 | n + 1, f, r, h => by
  have hlt : f.length < ds.length := by omega
  rw [fromsW_succ hlt]
  constructor
  ·rintro ⟨v, hv, hm⟩
   rw [mem_froms n _ r (by simp; omega)] at hm
   obtain ⟨h1, h2, h3⟩ := hm
   rw [List.length_append, List.length_singleton] at h2 h3
   obtain ⟨e1, e2⟩ := (take_succ_snoc (by omega)).1 h2
   refine ⟨h1, e1, fun i hi hf => ?_⟩
   by_cases e : i = f.length
   ·subst e; rw [e2]; exact hv
   ·exact h3 i hi (by omega)
  ·rintro ⟨h1, h2, h3⟩
   refine ⟨r.getD f.length 0, h3 _ hlt (Nat.le_refl _), ?_⟩
   rw [mem_froms n _ r (by simp; omega)]
   rw [List.length_append, List.length_singleton]
   exact ⟨h1, (take_succ_snoc (by omega)).2 ⟨h2, rfl⟩, fun i hi hf => h3 i hi (by omega)⟩
theorem fromAt_iff {ds : List De} : ∀ (xs : List De) (l : List Int), l.length = xs.length → (fromAt ds xs l = true ↔ ∀ i (h : i < xs.length), mayTell ds xs[i] (l.getD i 0) = true)
 | [], l, h => by simp [fromAt]
 | x :: xs, [], h => by simp at h
 | x :: xs, f :: l, h => by
  simp only [fromAt, Bool.and_eq_true, fromAt_iff xs l (by simpa using h)]
  constructor
  ·rintro ⟨h1, h2⟩ i hi
   cases i with
   | zero => exact h1
   | succ i => exact h2 i (by simpa using hi)
  ·intro h
   exact ⟨h 0 (by simp), fun i hi => h (i + 1) (by simpa using hi)⟩
theorem mem_from {ds : List De} {l : List Int} : l ∈ fromsOf ds ds.length [] ↔ fromOk ds l = true := by
 rw [mem_froms _ _ _ (by simp), fromOk, Bool.and_eq_true, decide_eq_true_eq]
 constructor
 ·rintro ⟨h1, _, h3⟩
  exact ⟨h1, (fromAt_iff ds l h1).2 fun i hi => h3 i hi (Nat.zero_le _)⟩
 ·rintro ⟨h1, h2⟩
  exact ⟨h1, by simp, fun i hi _ => (fromAt_iff ds l h1).1 h2 i hi⟩
theorem mem_rows {ws : List Int} : ∀ (n : Nat) (h r : List Int), r ∈ rowsOf ws n h ↔ ∃ t, r = h ++ t ∧ t.length = n ∧ (∀ v ∈ t, v ∈ ws ∧ v ∉ h) ∧ t.Nodup
 | 0, h, r => by
  simp only [rowsOf, List.mem_singleton]
  constructor
  ·rintro rfl
   exact ⟨[], by simp, rfl, (fun v hv => by cases hv), List.nodup_nil⟩
  ·rintro ⟨t, rfl, ht, _⟩
   rw [List.length_eq_zero_iff.1 ht, List.append_nil]
 | n + 1, h, r => by
  rw [rowsOf, List.mem_flatMap]
  constructor
  ·rintro ⟨v, hv, hm⟩
   by_cases hh : has h v = true
   ·rw [if_pos hh] at hm; cases hm
   ·rw [if_neg hh] at hm
    obtain ⟨t, rfl, h1, h2, h3⟩ := (mem_rows n _ r).1 hm
    have hvh : v ∉ h := fun e => hh (by simpa [has] using e)
    refine ⟨v :: t, by simp, by simp [h1], fun u hu => ?_, List.nodup_cons.2 ⟨fun e => (h2 v e).2 (by simp), h3⟩⟩
    rcases List.mem_cons.1 hu with rfl | hu
    ·exact ⟨hv, hvh⟩
    ·exact ⟨(h2 u hu).1, fun e => (h2 u hu).2 (List.mem_append_left _ e)⟩
  ·rintro ⟨t, rfl, h1, h2, h3⟩
   cases t with
   | nil => simp at h1
   | cons v t =>
    have hv := h2 v (by simp)
    have hn := List.nodup_cons.1 h3
    refine ⟨v, hv.1, ?_⟩
    rw [if_neg (by simpa [has] using hv.2)]
    refine (mem_rows n _ _).2 ⟨t, by simp, by simpa using h1, fun u hu => ⟨(h2 u (List.mem_cons_of_mem _ hu)).1, fun e => ?_⟩, hn.2⟩
    rcases List.mem_append.1 e with e | e
    ·exact (h2 u (List.mem_cons_of_mem _ hu)).2 e
    ·rw [List.mem_singleton.1 e] at hu; exact hn.1 hu
theorem mem_row {ws r : List Int} (hw : ws.Nodup) : r ∈ rowsOf ws ws.length [] ↔ isRow r ws = true := by
 rw [mem_rows, isRow, Bool.and_eq_true, decide_eq_true_eq, List.all_eq_true]
 constructor
 ·rintro ⟨t, e, h1, h2, h3⟩
  rw [List.nil_append] at e
  subst e
  have hp := perm_of r ws h3 (fun v hv => (h2 v hv).1) (by omega)
  exact ⟨h1, fun v hv => by simpa using hp.mem_iff.2 hv⟩
 ·rintro ⟨h1, h2⟩
  have hp := perm_of ws r hw (fun v hv => by simpa using h2 v hv) (by omega)
  exact ⟨r, by simp, h1, fun v hv => ⟨hp.mem_iff.2 hv, by simp⟩, hp.nodup_iff.1 hw⟩
theorem mem_order {ds : List De} {o : List (List Int)} : o ∈ ordersOf ds ↔ orderOk ds o = true := by
 have key : o ∈ ordersOf ds ↔ ∃ r0 r1 r2, o = [r0, r1, r2] ∧ isRow r0 (wrs 0 0 ds) = true ∧ isRow r1 (wrs 1 0 ds) = true ∧ isRow r2 (wrs 2 0 ds) = true := by
  unfold ordersOf addPlace
  simp only [List.mem_flatMap, List.mem_map, List.flatMap_cons, List.flatMap_nil, List.append_nil, List.nil_append]
  constructor
  ·rintro ⟨o2, ⟨o1, ⟨r0, h0, rfl⟩, r1, h1, rfl⟩, r2, h2, rfl⟩
   exact ⟨r0, r1, r2, rfl, (mem_row (nodup_wrs _ _ _)).1 h0, (mem_row (nodup_wrs _ _ _)).1 h1, (mem_row (nodup_wrs _ _ _)).1 h2⟩
  ·rintro ⟨r0, r1, r2, rfl, h0, h1, h2⟩
   exact ⟨[r0, r1], ⟨[r0], ⟨r0, (mem_row (nodup_wrs _ _ _)).2 h0, rfl⟩, r1, (mem_row (nodup_wrs _ _ _)).2 h1, rfl⟩, r2, (mem_row (nodup_wrs _ _ _)).2 h2, rfl⟩
 rw [key, orderOk, Bool.and_eq_true, decide_eq_true_eq]
 constructor
 ·rintro ⟨r0, r1, r2, rfl, h0, h1, h2⟩
  refine ⟨rfl, ?_⟩
  simp only [orderAt, Bool.and_eq_true, and_true]
  exact ⟨h0, h1, h2⟩
 ·rintro ⟨h1, h2⟩
  match o, h1, h2 with
  | [r0, r1, r2], _, h2 =>
   simp only [orderAt, Bool.and_eq_true, and_true] at h2
   exact ⟨r0, r1, r2, rfl, h2.1, h2.2.1, h2.2.2⟩
theorem mem_all {ds : List De} {f : List Int} {o : List (List Int)} : (f, o) ∈ allWays ds ↔ wayOk ds f o = true := by
 unfold allWays wayOk
 rw [List.mem_flatMap, Bool.and_eq_true, Bool.and_eq_true, ← mem_from, ← mem_order]
 constructor
 ·rintro ⟨g, hg, hm⟩
  by_cases he : ends ds g = true
  ·rw [if_pos he, List.mem_map] at hm
   obtain ⟨o', ho, e⟩ := hm
   cases e
   exact ⟨hg, ho, he⟩
  ·rw [if_neg he] at hm; cases hm
 ·rintro ⟨h1, h2, h3⟩
  exact ⟨f, h1, by rw [if_pos h3, List.mem_map]; exact ⟨o, h2, rfl⟩⟩
theorem nodup_from {ds : List De} : ∀ (n : Nat) (f : List Int), f.length + n = ds.length → (fromsOf ds n f).Nodup
 | 0, f, h => by simp [fromsOf]
 | n + 1, f, h => by
  have hlt : f.length < ds.length := by omega
  have ih : ∀ v : Int, (fromsOf ds n (f ++ [v])).Nodup := fun v => nodup_from n _ (by simp; omega)
  have ne : ∀ (u v : Int), u ≠ v → ∀ x ∈ fromsOf ds n (f ++ [u]), ∀ y ∈ fromsOf ds n (f ++ [v]), x ≠ y := fun u v huv x hx y hy e => by
   subst e
   have h1 := fromsOf_pre ds n _ x hx
   have h2 := fromsOf_pre ds n _ x hy
   rw [List.length_append, List.length_singleton] at h1 h2
   rw [h1] at h2
   have := List.append_cancel_left h2
   simp at this
   exact huv this
  cases hr : De.reads ds[f.length]
  ·rw [froms_no hlt rfl hr]; exact ih _
  ·rw [froms_yes hlt rfl hr, List.nodup_append]
   refine ⟨ih _, ?_, fun x hx y hy => ?_⟩
   ·exact List.pairwise_flatMap.2 ⟨fun v _ => ih v, (nodup_wrs _ _ _).imp fun huv x hx y hy => ne _ _ huv x hx y hy⟩
   ·obtain ⟨v, hv, hm⟩ := List.mem_flatMap.1 hy
    refine ne _ _ (fun e => ?_) x hx y hm
    obtain ⟨i, _, e2, _⟩ := mem_wrs.1 hv
    omega
theorem nodup_rows {ws : List Int} (hw : ws.Nodup) : ∀ (n : Nat) (h : List Int), (rowsOf ws n h).Nodup
 | 0, h => by simp [rowsOf]
 | n + 1, h => by
  rw [rowsOf]
  refine List.pairwise_flatMap.2 ⟨fun v _ => ?_, hw.imp fun huv x hx y hy e => ?_⟩
  ·split
   ·exact List.Pairwise.nil
   ·exact nodup_rows hw n _
  ·rename_i a b
   subst e
   split at hx
   ·cases hx
   ·split at hy
    ·cases hy
    ·obtain ⟨t, e1, _⟩ := (mem_rows n _ x).1 hx
     obtain ⟨t', e2, _⟩ := (mem_rows n _ x).1 hy
     rw [e1, List.append_assoc, List.append_assoc] at e2
     have := List.append_cancel_left e2
     simp at this
     exact huv this.1
theorem nodup_add {rows : List (List Int)} {out : List (List (List Int))} (hr : rows.Nodup) (ho : out.Nodup) : (addPlace rows out).Nodup := by
 refine List.pairwise_flatMap.2 ⟨fun o _ => ?_, ho.imp fun hne x hx y hy e => ?_⟩
 ·rw [List.pairwise_map]
  exact hr.imp fun hne e => hne (by have := List.append_cancel_left e; simpa using this)
 ·rename_i a b
  obtain ⟨r, _, rfl⟩ := List.mem_map.1 hx
  obtain ⟨r', _, e'⟩ := List.mem_map.1 hy
  have := congrArg List.dropLast (e.trans e'.symm)
  simp at this
  exact hne this
theorem nodup_all (ds : List De) : (allWays ds).Nodup := by
 have ho : (ordersOf ds).Nodup := nodup_add (nodup_rows (nodup_wrs _ _ _) _ _) (nodup_add (nodup_rows (nodup_wrs _ _ _) _ _) (nodup_add (nodup_rows (nodup_wrs _ _ _) _ _) (by simp)))
 refine List.pairwise_flatMap.2 ⟨fun f _ => ?_, (nodup_from ds.length [] (by simp)).imp fun hne x hx y hy e => ?_⟩
 ·split
  ·rw [List.pairwise_map]
   exact ho.imp fun hne e => hne (by cases e; rfl)
  ·exact List.Pairwise.nil
 ·rename_i a b
  subst e
  split at hx
  ·split at hy
   ·obtain ⟨o, _, rfl⟩ := List.mem_map.1 hx
    obtain ⟨o', _, e'⟩ := List.mem_map.1 hy
    cases e'
    exact hne rfl
   ·cases hy
  ·cases hx
theorem isRow_self (ws : List Int) : isRow ws ws = true := by
 simp [isRow]
end M
end Go.Proofs.YtphijhpleemjoaaGreat
namespace Go.Proofs.YtphijhpleemjoaaGreat
open Go.RowKit
namespace M
theorem use_split : ∀ (ds : List De), rdN ds + (ds.filter fun x => M.writes x.d.k).length ≤ useN ds
 | [] => by simp [rdN, useN]
 | x :: ds => by
  have ih := use_split ds
  have hx : (if x.reads then 1 else 0) + (if M.writes x.d.k then 1 else 0) ≤ if uses x.d.k then 1 else 0 := by
   simp only [De.reads, uses, writes, stores, reads]
   by_cases h2 : x.d.k = 2
   ·simp [h2]
   ·by_cases h5 : x.d.k = 5
    ·simp [h5]
    ·simp [h2, h5]
  unfold rdN useN at *
  simp only [List.filter_cons]
  split <;> split <;> split <;> simp_all <;> omega
theorem ways_le2 {ll : List (List D)} (h : prog ll = true) : (ways (deeds ll)).length ≤ 117649 := by
 have hu := use6 h
 have hs := use_split (deeds ll)
 have hw3 := wrs_three 0 (deeds ll)
 have hf := fromsOf_len (deeds ll) 7 (fun p => by have := wr6 hu p; omega) (deeds ll).length [] (by simp)
 simp only [List.length_nil, List.drop_zero] at hf
 have hr := fun p : Int => rows6 h p
 have ho : (ordersOf (deeds ll)).length ≤ 6 ^ ((wrs 0 0 (deeds ll)).length + (wrs 1 0 (deeds ll)).length + (wrs 2 0 (deeds ll)).length) := by
  unfold ordersOf
  rw [addPlace_len, addPlace_len, addPlace_len]
  simp only [List.length_singleton, Nat.one_mul]
  rw [Nat.pow_add, Nat.pow_add]
  exact Nat.mul_le_mul (Nat.mul_le_mul (hr 0) (hr 1)) (hr 2)
 have key : ∀ (fs : List (List Int)), (fs.flatMap fun f => if ends (deeds ll) f then (ordersOf (deeds ll)).map fun o => (f, o) else []).length ≤ fs.length * (ordersOf (deeds ll)).length := fun fs => flatMap_le _ _ fs (fun f _ => by
  split
  ·simp
  ·simp)
 rw [ways_eq (cop_deeds ll)]
 unfold allWays
 refine Nat.le_trans (key _) ?_
 have h67 : 6 ^ ((wrs 0 0 (deeds ll)).length + (wrs 1 0 (deeds ll)).length + (wrs 2 0 (deeds ll)).length) ≤ 7 ^ ((wrs 0 0 (deeds ll)).length + (wrs 1 0 (deeds ll)).length + (wrs 2 0 (deeds ll)).length) := Nat.pow_le_pow_left (by omega) _
 refine Nat.le_trans (Nat.mul_le_mul hf (Nat.le_trans ho h67)) ?_
 rw [← Nat.pow_add]
 exact Nat.le_trans (Nat.pow_le_pow_right (by omega) (show _ ≤ 6 by omega)) (by decide)
end M
theorem IntS.fr' {w W : World} {D : Nat → Prop} {a : Option Addr} {b o : Nat} {l : List Int} (h : IntS w a b o l) (hf : Fr D w W) (hD : 0 < l.length → D b) : IntS W a b o l :=
 ⟨h.addr, fun i hi => hf.cell (p := ⟨b, o + i, none⟩) (hD (by omega)) (h.row i hi)⟩
theorem own_twoS {w : World} {base n : Nat} {e : TypeId} {v : Value} {xs : List Value} (h : w.ownsRow base e 2 v n xs) : ∃ a g c, v = .slice a n c ∧ (0 < n → a = some ⟨g, 0, none⟩) ∧ ∀ j u, xs[j]? = some u → w.cell? ⟨g, j, none⟩ = some u := by
 rcases h.2 with ⟨hv, hn⟩ | ⟨g, cap, cur, hv, hg, hh, hc, r⟩
 ·have hx : xs = [] := List.length_eq_zero_iff.1 (by rw [h.1, hn])
  subst hx
  exact ⟨none, 0, 0, by rw [hv, hn], fun h => absurd h (by omega), fun j u hj => (by simp at hj)⟩
 ·refine ⟨_, g, cap, hv, fun _ => rfl, fun j u hj => ?_⟩
  have := h.cells (g := g) (by rw [hv]; rfl) j u hj
  rwa [Go.WideShapes.add_plain, Nat.zero_add] at this
end Go.Proofs.YtphijhpleemjoaaGreat
