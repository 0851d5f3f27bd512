/- impl.copyExec: a way in rows of its own. Of ways of at most 1048576 events, and 1048576 rows of as many numbers. impl's all ways, plainly: one choice behind the other; they are spec's, in spec's order. No condition. -/
import Derived.Handy
import Derived.Test.YtphijhpleemjoaaGreatBFat
import Derived.Test.YtphijhpleemjoaaGreatBFau
namespace Go.Proofs.YtphijhpleemjoaaGreat
open Go.RowKit
structure WyAns (w w' : World) (fv ov : Value) (l : List Int) (rows : List (List Int)) : Prop where
 ex : ∃ cs, Xw w' w.heap.size fv ov l cs rows
 bel : Below w.heap.size w w'
structure SlotX (w : World) (b : Nat) (x y : Value) : Prop where
 blk : w.heap[b]? = some (.cells #[x, y] 35)
theorem SlotX.lt {w : World} {b : Nat} {x y : Value} (h : SlotX w b x y) : b < w.heap.size := (Array.getElem?_eq_some_iff.1 h.blk).1
theorem SlotX.c0 {w : World} {b : Nat} {x y : Value} (h : SlotX w b x y) : w.cell? ⟨b, 0, none⟩ = some x := by simp [World.cell?, h.blk]
theorem SlotX.c1 {w : World} {b : Nat} {x y : Value} (h : SlotX w b x y) : w.cell? ⟨b, 1, none⟩ = some y := by simp [World.cell?, h.blk]
theorem SlotX.fz {w : World} {b : Nat} {x y : Value} (h : SlotX w b x y) (i : Nat) : w.frozen? ⟨b, i, none⟩ = false := by simp [World.frozen?, h.blk]
theorem SlotX.of {w w' : World} {b : Nat} {x y : Value} (h : SlotX w b x y) (hb : w'.heap[b]? = w.heap[b]?) : SlotX w' b x y := ⟨hb.trans h.blk⟩
theorem SlotX.far {w : World} {b b' i : Nat} {x y : Value} (h : SlotX w b x y) (hne : b' ≠ b) (u : Value) : SlotX (w.setCell ⟨b', i, none⟩ u) b x y := h.of (Below.heap_setCell _ _ _ _ (fun e => hne e.symm))
theorem SlotX.set0 {w : World} {b : Nat} {x y : Value} (h : SlotX w b x y) (u : Value) : SlotX (w.setCell ⟨b, 0, none⟩ u) b u y := ⟨heap_setCell_same w b 0 #[x, y] _ u h.blk⟩
theorem SlotX.set1 {w : World} {b : Nat} {x y : Value} (h : SlotX w b x y) (u : Value) : SlotX (w.setCell ⟨b, 1, none⟩ u) b x u := ⟨heap_setCell_same w b 1 #[x, y] _ u h.blk⟩
set_option maxHeartbeats 4000000 in
set_option maxRecDepth 100000 in
set_option linter.unusedSimpArgs false in
theorem copyExec_any (a1 : Option Addr) (b1 o1 c1 : Nat) (l : List Int) (a : Option Addr) (b o c : Nat) (ll : List (List Int)) (w : World) (hl1 : l.length ≤ 1048576) (hl : ll.length ≤ 1048576) (hls : ∀ t ∈ ll, t.length ≤ 1048576) (hF : IntS w a1 b1 o1 l) (h : IntSS w a b o ll) :
  Calls Tryz.prog 174 #[.agg #[.slice a1 l.length c1, .slice a ll.length c]] w fun e w' => ∃ fv ov, e = .returned (.agg #[fv, ov]) ∧ WyAns w w' fv ov l ll := by
 obtain ⟨i0, hi, hz0, hz1, hz2⟩ := info_parts Tryz.infoRs
 have b2 := below2 w (.cells #[.slice a1 l.length c1, .slice a ll.length c] 35) (.cells #[.slice none 0 0, .slice none 0 0] 35)
 have hQ0 : SlotX ((w.alloc (.cells #[.slice a1 l.length c1, .slice a ll.length c] 35)).alloc (.cells #[.slice none 0 0, .slice none 0 0] 35)) (w.heap.size + 1) (.slice none 0 0) (.slice none 0 0) := ⟨by have := heap_alloc_new (w.alloc (.cells #[.slice a1 l.length c1, .slice a ll.length c] 35)) (.cells #[.slice none 0 0, .slice none 0 0] 35); rwa [World.size_alloc] at this⟩
 have hP0 : SlotX ((w.alloc (.cells #[.slice a1 l.length c1, .slice a ll.length c] 35)).alloc (.cells #[.slice none 0 0, .slice none 0 0] 35)) w.heap.size (.slice a1 l.length c1) (.slice a ll.length c) := ⟨(Below.heap_alloc _ _ _ (by simp)).trans (heap_alloc_new w _)⟩
 have sz0 : ((w.alloc (.cells #[.slice a1 l.length c1, .slice a ll.length c] 35)).alloc (.cells #[.slice none 0 0, .slice none 0 0] 35)).heap.size = w.heap.size + 2 := by simp
 go_enter Tryz.func174, Tryz.ntmps174
 go_wp2_with fail
 generalize (w.alloc (.cells #[.slice a1 l.length c1, .slice a ll.length c] 35)).alloc (.cells #[.slice none 0 0, .slice none 0 0] 35) = W0 at *
 refine (newListO_any a1 b1 o1 c1 l W0 hl1 (hF.below b2 (Nat.le_refl _))).mono ?_
 rintro e W1 ⟨fv, rfl, hown, bW1⟩
 obtain ⟨fa, fc, rfl⟩ := own_slx hown
 have XB := Xb.start bW1 hown
 rw [sz0] at XB
 have p1 := (hP0.of (bW1.block _ hP0.lt))
 have p2 := (p1.of ((below1 W1 (.cells #[.slice fa l.length fc, .slice none 0 0] 35)).block _ p1.lt))
 have y1 := p2.c1
 clear hown bW1
 go_wp2_with fail
 generalize W1.alloc (.cells #[.slice fa l.length fc, .slice none 0 0] 35) = W2 at *
 generalize W1.heap.size = X at *
 clear p1 y1 p2
 go_loopw [13] (fun s13 wr => ∃ (n : Nat) (v : Value) (cs : List Value), s13 = .int .i64 n ∧ n ≤ ll.length ∧ Xb (w.heap.size + 2) W0 wr X (.slice fa l.length fc) v l cs (ll.take n)) (fun s13 _ => ll.length - (intOf s13).toNat)
 case atStart => exact ⟨0, _, _, rfl, Nat.zero_le _, by simpa using XB⟩
 case round =>
  obtain ⟨n, v, cs, rfl, hn, hX⟩ := hrel
  clear XB
  have hgeX := hX.ge
  have HB : Below w.heap.size w wr := b2.trans (hX.bel.mono (by omega))
  by_cases hlt : n < ll.length
  ·obtain ⟨rfl⟩ := h.addr (by omega)
   obtain ⟨a', b', o', c', hc, hd⟩ := (h.below HB (Nat.le_refl _)).row n hlt
   have ht := hls _ (List.getElem_mem hlt)
   have HW : Hid (ll.take (n + 1) = ll.take n ++ [ll[n]]) := List.take_succ_eq_append_getElem hlt
   have hmm : (ll.take n).length ≤ 1048576 := by simp; omega
   generalize ll[n] = t at *
   generalize ll.take n = mm at *
   have i1 : (n : Int) < ll.length := by omega
   obtain ⟨av, cv, rfl⟩ := own_slx hX.xw.ord
   have x0 := hX.c1
   have lP := hX.lt
   have F4 : Hid (∀ (w4 : World) (v4 : Value), w4.ownsRow wr.heap.size 3 1 v4 t.length (nums t) → Below wr.heap.size wr.drew w4 → ∃ a4 c4, v4 = .slice a4 t.length c4 ∧ Below wr.heap.size wr w4 ∧ Xb (w.heap.size + 2) W0 w4 X (.slice fa l.length fc) (.slice av mm.length cv) l cs mm ∧ w4.ownsRow (w.heap.size + 2) 32 1 (.slice av mm.length cv) mm.length cs) := by
    intro w4 v4 ho hb
    obtain ⟨a4, c4, e⟩ := own_slx ho
    have b4 : Below wr.heap.size wr w4 := (Below.refl _ _).drew.trans hb
    exact ⟨a4, c4, e, b4, hX.below b4, (hX.below b4).xw.ord⟩
   have F5 : Hid (∀ (w4 : World) (a4 : Option Addr) (c4 : Nat), Below wr.heap.size wr w4 → w4.ownsRow wr.heap.size 3 1 (.slice a4 t.length c4) t.length (nums t) → ∀ (g5 cap5 : Nat) (w5 : World), w5.ownsRow (w.heap.size + 2) 32 1 (.slice (some ⟨g5, 0, none⟩) (mm.length + 1) cap5) (mm.length + 1) (cs ++ [.slice a4 t.length c4]) → (w4.alloc (.cells #[.slice a4 t.length c4] 32)).grownBy w5 (Value.slice av mm.length cv).ownBlock → ((Value.slice av mm.length cv).ownBlock = some g5 ∨ g5 = w4.heap.size + 1) →
     Xb (w.heap.size + 2) W0 (w5.setCell ⟨X, 1, none⟩ (.slice (some ⟨g5, 0, none⟩) (mm.length + 1) cap5)) X (.slice fa l.length fc) (.slice (some ⟨g5, 0, none⟩) (mm.length + 1) cap5) l (cs ++ [.slice a4 t.length c4]) (mm ++ [t]) ∧ Below w.heap.size w w5 ∧ w5.cell? ⟨X, 1, none⟩ = some (.slice av mm.length cv) ∧ w5.frozen? ⟨X, 1, none⟩ = false) := by
    intro w4 a4 c4 b4 hx4 g5 cap5 w5 ho hg hat
    have hal := below1 w4 (.cells #[.slice a4 t.length c4] 32)
    have b4a := b4.trans (hal.mono b4.size)
    have hge := own_ge hX.xw.ord
    have hne : some X ≠ (Value.slice av mm.length cv).ownBlock := fun e => hX.off.ord X e.symm rfl
    have hXa := hX.below b4a
    refine ⟨hX.snoc b4a (ownsRow_below hx4 hal) ho hg (by simpa using hat), below_grown (HB.trans (b4a.mono HB.size)) hg (fun j hj => by have := hge j hj; omega) (Nat.le_trans HB.size b4a.size), (hg.cell_far ⟨X, 1, none⟩ hXa.lt hne).trans hXa.c1, (World.frozen?_of_block (w := w4.alloc (.cells #[.slice a4 t.length c4] 32)) (a := ⟨X, 1, none⟩) (hg.block X hXa.lt hne)).trans (hXa.fz 1)⟩
   have CN := newListO_any a' b' o' c' t wr.drew ht (hd.below (Below.refl wr.heap.size wr).drew (Nat.le_refl _))
   go_wp2_with fail
   refine wp_region_held_drew (S := fun w' => Below w.heap.size w w') (by kernel_rfl) HB.drew (fun hH => ?_)
   refine takeD 0 (some 17) (.pointer (some ⟨X, 1, none⟩)) hH rfl rfl (by kernel_rfl) (by kernel_rfl) (by kernel_rfl) (fun _ _ _ h => h) (Or.inl ⟨by rfl, by intro w' hSw; go_simp⟩) ?_
   simp only [Act.put, List.setIfInBounds_toArray, List.set_cons_zero, List.set_cons_succ]
   refine takeD 2 (some 19) (.slice a' t.length c') hH rfl rfl (by kernel_rfl) (by kernel_rfl) (by kernel_rfl) (fun _ _ _ h => h) (Or.inl ⟨by rfl, by intro w' hSw; go_simp⟩) ?_
   simp only [Act.put, List.setIfInBounds_toArray, List.set_cons_zero, List.set_cons_succ]
   refine wpAnyH_ready (rs := [1, 3]) (by kernel_rfl) (by simp) ?_
   refine AllReadyH.cons rfl (fun K' hK => ?_) (AllReadyH.cons rfl (fun K' hK => ?_) AllReadyH.nil)
   ·have xx := x0
    rw [if_pos (by rfl)]
    go_simp
    refine hK.out _ _ hH (fun _ => ?_)
    clear hK K' xx
    refine wpAnyH_ready (rs := [3]) (by kernel_rfl) (by simp) ?_
    refine AllReadyH.cons rfl (fun K' hK => ?_) AllReadyH.nil
    refine step_goV (by rfl) (some 20) rfl 122 #[.tmp 19] _ rfl #[.slice a' t.length c'] (by simp [Act.eval]) (fun _ _ => rfl) CN ?_
    rintro e w4 ⟨v4, rfl, ho4, hb4⟩
    obtain ⟨a4, c4, rfl, b4, hS4, hR4⟩ := F4.out w4 v4 ho4 hb4
    refine ⟨_, rfl, ?_⟩
    simp only [Act.put, List.setIfInBounds_toArray, List.set_cons_zero, List.set_cons_succ]
    refine hK.out _ _ (HB.trans (b4.mono HB.size)) (fun hH4 => ?_)
    clear hK K'
    have hS4a := (hS4.below (below1 w4 (.cells #[.slice a4 t.length c4] 32)))
    have S4a : Below w.heap.size w (w4.alloc (.cells #[.slice a4 t.length c4] 32)) := hH4.alloc hH4.size _
    refine wpAnyH_ready (rs := [4]) (by kernel_rfl) (by simp) ?_
    refine AllReadyH.cons rfl (fun K' hK => ?_) AllReadyH.nil
    rw [if_pos (by rfl)]
    go_simp
    refine hK.out _ _ S4a (fun _ => ?_)
    clear hK K'
    refine wpAnyH_ready (rs := [5]) (by kernel_rfl) (by simp) ?_
    refine AllReadyH.cons rfl (fun K' hK => ?_) AllReadyH.nil
    refine step_append_lies _ (by rfl) (.tmp 18) (.tmp 21) 33 (by rfl) (w.heap.size + 2) 32 i0 _ 1 24 Tryz.underlying33 hi hz0 hz1 hz2 rfl (by decide) (.slice av mm.length cv) mm.length cs (by rfl) (hR4.alloc _) ⟨w4.heap.size, 0, none⟩ 1 1 [.slice a4 t.length c4] (by rfl) (by rfl) (World.news_of_block (cs := #[.slice a4 t.length c4]) (t := 32) (fr := (0, 0)) (heap_alloc_new w4 _)) (by simp [Value.oneCell']) (by omega) (by unfold maxLen; omega) (by omega) (by have := b4.size; simp; omega) (w4.heap.size + 1) (by simp) ?_
    intro g5 cap5 w5 hown5 hg5 hat5 hlt5
    obtain ⟨hx5, b5, xc, xz⟩ := F5.out w4 a4 c4 b4 ho4 g5 cap5 w5 hown5 hg5 hat5
    simp only [Act.put, List.setIfInBounds_toArray, List.set_cons_zero, List.set_cons_succ]
    refine hK.out _ _ b5 (fun hH5 => ?_)
    clear hK K'
    refine takeD 6 (some 23) (.pointer (some ⟨X, 1, none⟩)) hH5 rfl rfl (by kernel_rfl) (by kernel_rfl) (by kernel_rfl) (fun _ _ _ h => h) (Or.inl ⟨by rfl, by intro w' hSw; go_simp⟩) ?_
    simp only [Act.put, List.setIfInBounds_toArray, List.set_cons_zero, List.set_cons_succ]
    refine wpAnyH_ready (rs := [7]) (by kernel_rfl) (by simp) ?_
    refine AllReadyH.cons rfl (fun K' hK => ?_) AllReadyH.nil
    rw [if_pos (by rfl)]
    go_simp
    refine hK.out _ _ (b5.setCell (by show w.heap.size ≤ X; omega) _) (fun _ => ?_)
    clear hK K'
    refine wpAnyH_done (by kernel_rfl) ?_ _
    clear xc xz
    go_wp2_with fail
    exact ⟨⟨n + 1, _, _, by go_num, by omega, by rw [HW.out]; exact hx5⟩, by simp [intOf]; omega⟩
   ·refine step_goV (by rfl) (some 20) rfl 122 #[.tmp 19] _ rfl #[.slice a' t.length c'] (by simp [Act.eval]) (fun _ _ => rfl) CN ?_
    rintro e w4 ⟨v4, rfl, ho4, hb4⟩
    obtain ⟨a4, c4, rfl, b4, hS4, hR4⟩ := F4.out w4 v4 ho4 hb4
    refine ⟨_, rfl, ?_⟩
    simp only [Act.put, List.setIfInBounds_toArray, List.set_cons_zero, List.set_cons_succ]
    refine hK.out _ _ (HB.trans (b4.mono HB.size)) (fun hH4 => ?_)
    clear hK K'
    have hS4a := (hS4.below (below1 w4 (.cells #[.slice a4 t.length c4] 32)))
    have S4a : Below w.heap.size w (w4.alloc (.cells #[.slice a4 t.length c4] 32)) := hH4.alloc hH4.size _
    refine wpAnyH_ready (rs := [1, 4]) (by kernel_rfl) (by simp) ?_
    refine AllReadyH.cons rfl (fun K' hK => ?_) (AllReadyH.cons rfl (fun K' hK => ?_) AllReadyH.nil)
    ·have xx := hS4.c1
     rw [if_pos (by rfl)]
     go_simp
     refine hK.out _ _ hH4 (fun _ => ?_)
     clear hK K' xx
     refine wpAnyH_ready (rs := [4]) (by kernel_rfl) (by simp) ?_
     refine AllReadyH.cons rfl (fun K' hK => ?_) AllReadyH.nil
     rw [if_pos (by rfl)]
     go_simp
     refine hK.out _ _ S4a (fun _ => ?_)
     clear hK K'
     refine wpAnyH_ready (rs := [5]) (by kernel_rfl) (by simp) ?_
     refine AllReadyH.cons rfl (fun K' hK => ?_) AllReadyH.nil
     refine step_append_lies _ (by rfl) (.tmp 18) (.tmp 21) 33 (by rfl) (w.heap.size + 2) 32 i0 _ 1 24 Tryz.underlying33 hi hz0 hz1 hz2 rfl (by decide) (.slice av mm.length cv) mm.length cs (by rfl) (hR4.alloc _) ⟨w4.heap.size, 0, none⟩ 1 1 [.slice a4 t.length c4] (by rfl) (by rfl) (World.news_of_block (cs := #[.slice a4 t.length c4]) (t := 32) (fr := (0, 0)) (heap_alloc_new w4 _)) (by simp [Value.oneCell']) (by omega) (by unfold maxLen; omega) (by omega) (by have := b4.size; simp; omega) (w4.heap.size + 1) (by simp) ?_
     intro g5 cap5 w5 hown5 hg5 hat5 hlt5
     obtain ⟨hx5, b5, xc, xz⟩ := F5.out w4 a4 c4 b4 ho4 g5 cap5 w5 hown5 hg5 hat5
     simp only [Act.put, List.setIfInBounds_toArray, List.set_cons_zero, List.set_cons_succ]
     refine hK.out _ _ b5 (fun hH5 => ?_)
     clear hK K'
     refine takeD 6 (some 23) (.pointer (some ⟨X, 1, none⟩)) hH5 rfl rfl (by kernel_rfl) (by kernel_rfl) (by kernel_rfl) (fun _ _ _ h => h) (Or.inl ⟨by rfl, by intro w' hSw; go_simp⟩) ?_
     simp only [Act.put, List.setIfInBounds_toArray, List.set_cons_zero, List.set_cons_succ]
     refine wpAnyH_ready (rs := [7]) (by kernel_rfl) (by simp) ?_
     refine AllReadyH.cons rfl (fun K' hK => ?_) AllReadyH.nil
     rw [if_pos (by rfl)]
     go_simp
     refine hK.out _ _ (b5.setCell (by show w.heap.size ≤ X; omega) _) (fun _ => ?_)
     clear hK K'
     refine wpAnyH_done (by kernel_rfl) ?_ _
     clear xc xz
     go_wp2_with fail
     exact ⟨⟨n + 1, _, _, by go_num, by omega, by rw [HW.out]; exact hx5⟩, by simp [intOf]; omega⟩
    ·rw [if_pos (by rfl)]
     go_simp
     refine hK.out _ _ S4a (fun _ => ?_)
     clear hK K'
     refine wpAnyH_ready (rs := [1]) (by kernel_rfl) (by simp) ?_
     refine AllReadyH.cons rfl (fun K' hK => ?_) AllReadyH.nil
     have xx := hS4a.c1
     rw [if_pos (by rfl)]
     go_simp
     refine hK.out _ _ S4a (fun _ => ?_)
     clear hK K' xx
     refine wpAnyH_ready (rs := [5]) (by kernel_rfl) (by simp) ?_
     refine AllReadyH.cons rfl (fun K' hK => ?_) AllReadyH.nil
     refine step_append_lies _ (by rfl) (.tmp 18) (.tmp 21) 33 (by rfl) (w.heap.size + 2) 32 i0 _ 1 24 Tryz.underlying33 hi hz0 hz1 hz2 rfl (by decide) (.slice av mm.length cv) mm.length cs (by rfl) (hR4.alloc _) ⟨w4.heap.size, 0, none⟩ 1 1 [.slice a4 t.length c4] (by rfl) (by rfl) (World.news_of_block (cs := #[.slice a4 t.length c4]) (t := 32) (fr := (0, 0)) (heap_alloc_new w4 _)) (by simp [Value.oneCell']) (by omega) (by unfold maxLen; omega) (by omega) (by have := b4.size; simp; omega) (w4.heap.size + 1) (by simp) ?_
     intro g5 cap5 w5 hown5 hg5 hat5 hlt5
     obtain ⟨hx5, b5, xc, xz⟩ := F5.out w4 a4 c4 b4 ho4 g5 cap5 w5 hown5 hg5 hat5
     simp only [Act.put, List.setIfInBounds_toArray, List.set_cons_zero, List.set_cons_succ]
     refine hK.out _ _ b5 (fun hH5 => ?_)
     clear hK K'
     refine takeD 6 (some 23) (.pointer (some ⟨X, 1, none⟩)) hH5 rfl rfl (by kernel_rfl) (by kernel_rfl) (by kernel_rfl) (fun _ _ _ h => h) (Or.inl ⟨by rfl, by intro w' hSw; go_simp⟩) ?_
     simp only [Act.put, List.setIfInBounds_toArray, List.set_cons_zero, List.set_cons_succ]
     refine wpAnyH_ready (rs := [7]) (by kernel_rfl) (by simp) ?_
     refine AllReadyH.cons rfl (fun K' hK => ?_) AllReadyH.nil
     rw [if_pos (by rfl)]
     go_simp
     refine hK.out _ _ (b5.setCell (by show w.heap.size ≤ X; omega) _) (fun _ => ?_)
     clear hK K'
     refine wpAnyH_done (by kernel_rfl) ?_ _
     clear xc xz
     go_wp2_with fail
     exact ⟨⟨n + 1, _, _, by go_num, by omega, by rw [HW.out]; exact hx5⟩, by simp [intOf]; omega⟩
  ·have htk : ll.take n = ll := List.take_of_length_le (by omega)
   rw [htk] at hX
   obtain ⟨av, cv, rfl⟩ := own_slx hX.xw.ord
   have hkn' : ¬ (n : Int) < ll.length := by omega
   have p0 := hX.c0
   have p1 := hX.c1
   have hQ1 : SlotX wr (w.heap.size + 1) (.slice none 0 0) (.slice none 0 0) := hQ0.of (hX.bel.block _ (by omega))
   have q0 := hQ1.c0
   have q1 := hQ1.c1
   have qf := hQ1.fz
   have lQ := hQ1.lt
   have hne : X ≠ w.heap.size + 1 := by omega
   have Q2 := (hQ1.set0 (.slice fa l.length fc)).set1 (.slice av ll.length cv)
   have r0 := Q2.c0
   have r1 := Q2.c1
   have hxo : Xoff (.slice fa l.length fc) (.slice av ll.length cv) cs (some (w.heap.size + 1)) := hX.xw.off (fun k hk => by have : w.heap.size + 1 = k := Option.some.inj hk; omega)
   go_wp2_with fail
   exact bodyPost_ret (v := .agg #[.slice fa l.length fc, .slice av ll.length cv]) (by simp [results, Tryz.results174, go_sem, r0, r1]) rfl ⟨_, _, rfl, ⟨cs, ((hX.xw.grown (grown_set _ _ _ _) hxo).grown (grown_set _ _ _ _) hxo).mono (by omega)⟩, (HB.setCell (by show w.heap.size ≤ w.heap.size + 1; omega) _).setCell (by show w.heap.size ≤ w.heap.size + 1; omega) _⟩
end Go.Proofs.YtphijhpleemjoaaGreat
namespace Go.Proofs.YtphijhpleemjoaaGreat
namespace M
abbrev Wy := List Int × List (List Int)
def runC {α : Type} : List (α → List α) → α → List α
 | [], x => [x]
 | c :: cs, x => (c x).flatMap (runC cs)
theorem runC_append {α : Type} (cs es : List (α → List α)) (x : α) : runC (cs ++ es) x = (runC cs x).flatMap (runC es) := by
 induction cs generalizing x with
 | nil => simp [runC]
 | cons c cs ih =>
  simp only [List.cons_append, runC, List.flatMap_assoc]
  congr 1
  funext y
  exact ih y
theorem runC_snoc {α : Type} (cs : List (α → List α)) (c : α → List α) (x : α) : runC (cs ++ [c]) x = (runC cs x).flatMap c := by
 rw [runC_append]
 congr 1
 funext y
 simp [runC]
def srcs (ds : List De) (at_ : Nat) : List Int := -1 :: wrs (((ds[at_]?).map fun x => x.d.p).getD 0) 0 ds
def chF (ds : List De) (at_ : Nat) (x : Wy) : List Wy := (srcs ds at_).flatMap fun f => if ends ds (x.1.set at_ f) then [(x.1.set at_ f, x.2)] else []
def chN (p : Nat) (ws : List Int) (x : Wy) : List Wy := ws.flatMap fun a => if has (x.2.getD p []) a then [] else [(x.1, x.2.set p (x.2.getD p [] ++ [a]))]
def init (ds : List De) : List Int := ds.map fun x => if x.reads then -1 else -2
theorem init_cons (x : De) (xs : List De) : init (x :: xs) = (if x.reads then -1 else -2) :: init xs := rfl
def firstW (ds : List De) : Wy := (init ds, [[], [], []])
def chFs (ds : List De) : Nat → List De → List (Wy → List Wy)
 | _, [] => []
 | n, x :: xs => if x.reads then chF ds n :: chFs ds (n + 1) xs else chFs ds (n + 1) xs
def chNs (ds : List De) (p : Nat) : List (Wy → List Wy) := (wrs p 0 ds).map fun _ => chN p (wrs p 0 ds)
def wchoices (ds : List De) : List (Wy → List Wy) := chFs ds 0 ds ++ (chNs ds 0 ++ (chNs ds 1 ++ chNs ds 2))
def ways (ds : List De) : List Wy := runC (wchoices ds) (firstW ds)
def allWays (ds : List De) : List Wy := (fromsOf ds ds.length []).flatMap fun f => if ends ds f then (ordersOf ds).map fun o => (f, o) else []
theorem endsAt_iff (ds : List De) (l : List Int) : ∀ (n : Nat) (xs : List De), endsAt ds l n xs = true ↔ ∀ i, i < xs.length → (orig ds l ds.length (n + i)).isSome = true := by
 intro n xs
 induction xs generalizing n with
 | nil => simp [endsAt]
 | cons x xs ih =>
  simp only [endsAt, Bool.and_eq_true, ih, List.length_cons]
  constructor
  ·rintro ⟨h1, h2⟩ i hi
   cases i with
   | zero => exact h1
   | succ i => have := h2 i (by omega); rwa [show n + 1 + i = n + (i + 1) by omega] at this
  ·intro h
   exact ⟨h 0 (by omega), fun i hi => by have := h (i + 1) (by omega); rwa [show n + (i + 1) = n + 1 + i by omega] at this⟩
theorem ends_iff (ds : List De) (l : List Int) : ends ds l = true ↔ ∀ i, i < ds.length → (orig ds l ds.length i).isSome = true := by
 have := endsAt_iff ds l 0 ds
 simpa [ends] using this
theorem valFrom_undo {ds : List De} {g : List Int} {j : Nat} (hg : g.length = ds.length) (at_ : Nat) : valFrom ds (g.take j ++ init (ds.drop j)) at_ = valFrom ds g at_ ∨ valFrom ds (g.take j ++ init (ds.drop j)) at_ < 0 := by
 unfold valFrom
 cases hx : ds[at_]? with
 | none => exact Or.inl rfl
 | some x =>
  have hlt : at_ < ds.length := by
   rw [List.getElem?_eq_some_iff] at hx; exact hx.1
  dsimp only
  by_cases hr : x.reads = true
  ·simp only [hr, if_true]
   by_cases hj : at_ < j
   ·left
    rw [List.getD_eq_getElem?_getD, List.getD_eq_getElem?_getD, List.getElem?_append_left (by rw [List.length_take]; omega), List.getElem?_take_of_lt hj]
   ·right
    have hl : (g.take j).length = j := by rw [List.length_take]; omega
    rw [List.getD_eq_getElem?_getD, List.getElem?_append_right (by omega), hl]
    have e : (init (ds.drop j))[at_ - j]? = some (-1) := by
     simp only [init, List.getElem?_map, List.getElem?_drop]
     rw [show j + (at_ - j) = at_ by omega, hx]
     simp [hr]
    rw [e]
    decide
  ·rw [if_neg hr, if_neg hr]
   exact Or.inl rfl
theorem orig_undo {ds : List De} {g : List Int} {j : Nat} (hg : g.length = ds.length) : ∀ (n at_ : Nat), (orig ds g n at_).isSome = true → (orig ds (g.take j ++ init (ds.drop j)) n at_).isSome = true
 | 0, _, h => h
 | n + 1, at_, h => by
  simp only [orig] at h ⊢
  rcases valFrom_undo (j := j) hg at_ with e | e
  ·rw [e]
   split
   ·rfl
   ·rename_i hn
    rw [if_neg hn] at h
    exact orig_undo hg n _ h
  ·rw [if_pos e]; rfl
theorem ends_undo {ds : List De} {g : List Int} {j : Nat} (hg : g.length = ds.length) (h : ends ds g = true) : ends ds (g.take j ++ init (ds.drop j)) = true := by
 rw [ends_iff] at h ⊢
 exact fun i hi => orig_undo hg _ _ (h i hi)
theorem fromsOf_pre (ds : List De) : ∀ (n : Nat) (f r : List Int), r ∈ fromsOf ds n f → r.take f.length = f
 | 0, f, r, hr => by simp [fromsOf] at hr; simp [hr]
 | n + 1, f, r, hr => by
  have key : ∀ v : Int, r ∈ fromsOf ds n (f ++ [v]) → r.take f.length = f := fun v hv => by
   have := fromsOf_pre ds n (f ++ [v]) r hv
   have e := congrArg (List.take f.length) this
   rw [List.take_take, List.length_append] at e
   simpa using e
  rw [fromsOf] at hr
  by_cases hc : ((ds[f.length]?).map De.reads).getD false = true
  ·rw [if_pos hc, List.mem_append, List.mem_flatMap] at hr
   rcases hr with hv | ⟨v, _, hv⟩
   ·exact key _ hv
   ·exact key _ hv
  ·rw [if_neg hc] at hr
   exact key _ hr
theorem run_from (ds : List De) (o : List (List Int)) : ∀ (n : Nat) (f : List Int), f.length + n = ds.length → ends ds (f ++ init (ds.drop f.length)) = true →
  runC (chFs ds f.length (ds.drop f.length)) (f ++ init (ds.drop f.length), o) = (fromsOf ds n f).flatMap fun g => if ends ds g then [(g, o)] else []
 | 0, f, hl, he => by
  have e : ds.drop f.length = [] := List.drop_eq_nil_of_le (by omega)
  rw [e] at he ⊢
  simp only [init, List.map_nil, List.append_nil] at he
  simp [chFs, runC, fromsOf, init, he]
 | n + 1, f, hl, he => by
  have hlt : f.length < ds.length := by omega
  have e : ds.drop f.length = ds[f.length] :: ds.drop (f.length + 1) := (List.getElem_cons_drop hlt).symm
  have hx : ds[f.length]? = some ds[f.length] := List.getElem?_eq_getElem hlt
  have hap : ∀ v : Int, (f ++ [v]).length = f.length + 1 := fun v => by simp
  rw [e] at he ⊢
  cases hr : De.reads ds[f.length]
  ·rw [froms_no hlt rfl hr]
   have ei : f ++ init (ds[f.length] :: ds.drop (f.length + 1)) = (f ++ [-2]) ++ init (ds.drop (f ++ [-2]).length) := by
    rw [hap, init_cons, hr]; simp
   rw [ei] at he ⊢
   have ih := run_from ds o n (f ++ [-2]) (by rw [hap]; omega) he
   rw [hap] at ih
   simp only [chFs, hr, Bool.false_eq_true, if_false, hap]
   exact ih
  ·rw [froms_yes hlt rfl hr]
   simp only [chFs, hr, if_true, runC]
   have hs : srcs ds f.length = -1 :: wrs (ds[f.length]).d.p 0 ds := by simp [srcs, hx]
   have step : ∀ v : Int, (if ends ds ((f ++ init (ds[f.length] :: ds.drop (f.length + 1))).set f.length v) then [((f ++ init (ds[f.length] :: ds.drop (f.length + 1))).set f.length v, o)] else []).flatMap (runC (chFs ds (f.length + 1) (ds.drop (f.length + 1)))) = (fromsOf ds n (f ++ [v])).flatMap fun g => if ends ds g then [(g, o)] else [] := by
    intro v
    have ei : (f ++ init (ds[f.length] :: ds.drop (f.length + 1))).set f.length v = (f ++ [v]) ++ init (ds.drop (f ++ [v]).length) := by
     rw [hap, init_cons, List.set_append_right _ _ (Nat.le_refl _)]
     simp
    rw [ei]
    by_cases hE : ends ds ((f ++ [v]) ++ init (ds.drop (f ++ [v]).length)) = true
    ·rw [if_pos hE, List.flatMap_cons, List.flatMap_nil, List.append_nil]
     have ih := run_from ds o n (f ++ [v]) (by rw [hap]; omega) hE
     rw [hap] at ih ⊢
     exact ih
    ·rw [if_neg hE, List.flatMap_nil]
     symm
     rw [List.flatMap_eq_nil_iff]
     intro g hg
     rw [if_neg]
     intro hgE
     have hlen := fromsOf_each ds n _ g hg
     have hpre := fromsOf_pre ds n _ g hg
     have := ends_undo (j := (f ++ [v]).length) (by rw [hlen, hap]; omega) hgE
     rw [hpre] at this
     exact hE this
   unfold chF
   simp only []
   rw [hs, List.flatMap_cons, List.flatMap_append, step (-1), List.flatMap_assoc, List.flatMap_append]
   congr 1
   rw [List.flatMap_assoc]
   congr 1
   funext v
   exact step v
theorem run_rows (p : Nat) (ws : List Int) (g : List Int) : ∀ (n : Nat) (o : List (List Int)), p < o.length → runC (List.replicate n (chN p ws)) (g, o) = (rowsOf ws n (o.getD p [])).map fun r => (g, o.set p r)
 | 0, o, hp => by
  simp only [List.replicate_zero, runC, rowsOf, List.map_cons, List.map_nil]
  rw [List.getD_eq_getElem?_getD, List.getElem?_eq_getElem hp, Option.getD_some, List.set_getElem_self]
 | n + 1, o, hp => by
  simp only [List.replicate_succ, runC, rowsOf, chN]
  rw [List.flatMap_assoc, List.map_flatMap]
  congr 1
  funext v
  by_cases hh : has (o.getD p []) v = true
  ·rw [if_pos hh, if_pos hh]; rfl
  ·rw [if_neg hh, if_neg hh, List.flatMap_cons, List.flatMap_nil, List.append_nil]
   rw [run_rows p ws g n _ (by simpa using hp)]
   have e1 : (o.set p (o.getD p [] ++ [v])).getD p [] = o.getD p [] ++ [v] := by
    rw [List.getD_eq_getElem?_getD, List.getElem?_set_self hp]; rfl
   rw [e1]
   congr 1
   funext r
   rw [List.set_set]
theorem chNs_rep (ds : List De) (p : Nat) : chNs ds p = List.replicate (wrs p 0 ds).length (chN p (wrs p 0 ds)) := by
 unfold chNs
 rw [List.map_const']
theorem run_orders (ds : List De) (g : List Int) : runC (chNs ds 0 ++ (chNs ds 1 ++ chNs ds 2)) (g, [[], [], []]) = (ordersOf ds).map fun o => (g, o) := by
 rw [runC_append, chNs_rep ds 0, run_rows 0 _ g _ _ (by simp)]
 unfold ordersOf addPlace
 simp only [List.flatMap_cons, List.flatMap_nil, List.append_nil, List.nil_append, List.flatMap_map, List.map_flatMap, List.map_map, List.flatMap_assoc]
 congr 1
 funext r0
 have e0 : ([[], [], []] : List (List Int)).set 0 r0 = [r0, [], []] := rfl
 rw [e0, runC_append, chNs_rep ds 1, run_rows 1 _ g _ _ (by simp)]
 simp only [List.flatMap_map]
 congr 1
 funext r1
 have e1 : ([r0, [], []] : List (List Int)).set 1 r1 = [r0, r1, []] := rfl
 rw [e1, chNs_rep ds 2, run_rows 2 _ g _ _ (by simp)]
 rfl
def Cop (ds : List De) : Prop := ∀ (n : Nat) (x : De), ds[n]? = some x → x.d.k = 3 → x.reads = false → 0 ≤ x.lr → (x.lr.toNat < n ∧ ∃ y : De, ds[x.lr.toNat]? = some y ∧ y.reads = true)
theorem ends_init {ds : List De} (hc : Cop ds) : ends ds (init ds) = true := by
 rw [ends_iff]
 intro i hi
 have hv : ∀ j x, ds[j]? = some x → x.reads = true → valFrom ds (init ds) j = -1 := fun j x hx hr => by
  simp [valFrom, hx, hr, init, List.getD_eq_getElem?_getD]
 have hx : ds[i]? = some ds[i] := List.getElem?_eq_getElem hi
 obtain ⟨n, hn⟩ : ∃ n, ds.length = n + 1 := ⟨ds.length - 1, by omega⟩
 rw [hn]
 simp only [orig]
 by_cases hneg : valFrom ds (init ds) i < 0
 ·rw [if_pos hneg]; rfl
 ·rw [if_neg hneg]
  have hr : ds[i].reads = false := by
   cases hr : ds[i].reads
   ·rfl
   ·rw [hv i _ hx hr] at hneg; exact absurd (by decide) hneg
  have hk : ds[i].d.k = 3 := by
   by_cases hk : ds[i].d.k = 3
   ·exact hk
   ·have : valFrom ds (init ds) i = -1 := by simp [valFrom, hx, hr, hk]
    rw [this] at hneg; exact absurd (by decide) hneg
  have he : valFrom ds (init ds) i = ds[i].lr := by simp [valFrom, hx, hr, hk]
  rw [he] at hneg ⊢
  obtain ⟨hlt, y, hy, hyr⟩ := hc i _ hx hk hr (by omega)
  obtain ⟨m, rfl⟩ : ∃ m, n = m + 1 := ⟨n - 1, by omega⟩
  simp only [orig]
  rw [if_pos (by rw [hv _ y hy hyr]; decide)]
  rfl
theorem ways_eq {ds : List De} (hc : Cop ds) : ways ds = allWays ds := by
 unfold ways wchoices firstW allWays
 rw [runC_append]
 have h := run_from ds [[], [], []] ds.length [] (by simp) (by simpa using ends_init hc)
 simp only [List.length_nil, List.drop_zero, List.nil_append] at h
 rw [h, List.flatMap_assoc]
 congr 1
 funext f
 by_cases hE : ends ds f = true
 ·simp only [hE, if_true, List.flatMap_cons, List.flatMap_nil, List.append_nil]
  exact run_orders ds f
 ·simp [hE]
end M
end Go.Proofs.YtphijhpleemjoaaGreat
