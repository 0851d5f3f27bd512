/- impl.inOrderOnce and impl.SeenSort: in order, each once. Of at most 1048576, each of at most 1048576 numbers. -/
import Derived.Test.YtkbjdhjcbhdpmabSoIn
namespace Go.Proofs.Ytkbjdhjcbhdpmab
open Go.RowKit

set_option maxHeartbeats 1000000 in
theorem inOrder_any (b o c : Nat) (ss : List Sn) (w : World) (hl : ss.length ≤ 1048576) (hpos : 0 < ss.length) (hle : ∀ s ∈ ss, s.Le 1048576) (hc : ∀ i (hi : i < ss.length), w.cell? ⟨b, o + i * 2, none⟩ = some (.slice ss[i].a1 ss[i].l1.length ss[i].c1) ∧ w.cell? ⟨b, o + i * 2 + 1, none⟩ = some (.slice ss[i].a2 ss[i].l2.length ss[i].c2) ∧ ss[i].At w) :
    Calls Try.prog 19 #[.slice (some ⟨b, o, none⟩) ss.length c, .func (.func 20) #[] #[]] w fun e w' => ∃ g cap, ∃ tt : List Sn, e = .returned (.slice (some ⟨g, 0, none⟩) tt.length cap) ∧ SR w' g tt ∧ (∀ s ∈ tt, Off w' g s) ∧ kys tt = M.sortK (kys ss) ∧ tt.length ≤ ss.length ∧ tt.length ≤ cap ∧ w.heap.size ≤ g ∧ Below w.heap.size w w' := by
  have hb0 := below1 w (.cells #[.func (.func 20) #[] #[]] 42)
  go_enter Try.func19, Try.ntmps19
  go_wp2_with fail
  have hcr : ∀ i (hi : i < ss.length), (w.alloc (.cells #[.func (.func 20) #[] #[]] 42)).cell? ⟨b, o + i * 2, none⟩ = some (.slice ss[i].a1 ss[i].l1.length ss[i].c1) ∧ (w.alloc (.cells #[.func (.func 20) #[] #[]] 42)).cell? ⟨b, o + i * 2 + 1, none⟩ = some (.slice ss[i].a2 ss[i].l2.length ss[i].c2) := fun i hi => by
    obtain ⟨c1, c2, _⟩ := hc i hi
    exact ⟨(hb0.cell (p := ⟨b, o + i * 2, none⟩) (World.block_lt_of_cell? _ _ c1)).trans c1, (hb0.cell (p := ⟨b, o + i * 2 + 1, none⟩) (World.block_lt_of_cell? _ _ c2)).trans c2⟩
  have k0 : (w.alloc (.cells #[.func (.func 20) #[] #[]] 42)).cell? ⟨w.heap.size, 0, none⟩ = some (.func (.func 20) #[] #[]) := by simp
  have hsz : (w.alloc (.cells #[.func (.func 20) #[] #[]] 42)).heap.size = w.heap.size + 1 := by simp only [World.size_alloc]
  generalize w.alloc (.cells #[.func (.func 20) #[] #[]] 42) = W at *
  refine (newListS_any b o c ss W hl hpos hcr).mono ?_
  rintro e w1 ⟨g, cap, rfl, hSR, hge, hcap, hb1⟩
  have hbw1 : Below w.heap.size w w1 := hb0.trans (hb1.mono (by omega))
  have hoff : ∀ s ∈ ss, Off w1 g s := fun s hs => by
    obtain ⟨i, hi, rfl⟩ := List.getElem_of_mem hs
    have ha := (hc i hi).2.2
    exact ⟨ha.below hbw1 (Nat.le_refl _), hle _ hs, fun h => by have := ha.reads.lt h; omega, fun h => by have := ha.last.lt h; omega⟩
  have k1 := (hb1.cell (p := ⟨w.heap.size, 0, none⟩) (by show w.heap.size < W.heap.size; omega)).trans k0
  have hS := sort_any g cap ss w1 hl hpos hSR hoff
  clear hcr k0 hc
  go_wp2_with fail
  refine hS.mono ?_
  rintro e w2 ⟨rfl, tt, htl, hperm, hord, hSR2, hoff2, hbut2⟩
  have k2 := (hbut2.cell (p := ⟨w.heap.size, 0, none⟩) (World.block_lt_of_cell? _ _ k1) (by show w.heap.size ≠ g; omega)).trans k1
  have hC := compact_any g cap tt w.heap.size w2 (by omega) (by omega) hSR2 hoff2 k2 (by omega)
  rw [htl] at hC
  have HL : Hid (tt.length = ss.length) := htl
  clear htl hS
  go_wp2_with fail
  refine hC.mono ?_
  rintro e w3 ⟨uu, rfl, hul, hSR3, hoff3, hk3, hbut3⟩
  go_wp2_with fail
  go_ret
  refine ⟨g, cap, uu, rfl, hSR3, hoff3, ?_, ?_, ?_, by omega, But.below hbw1 (hbut2.trans hbut3) (by omega)⟩
  · rw [hk3]
    exact M.thin_sortK hord fun x => by
      have := (hperm.map Sn.ky).mem_iff (a := x)
      exact this
  · have := HL.out; omega
  · have := HL.out; omega

/-- .. of none: none. -/
theorem inOrder_nil (a : Option Addr) (c : Nat) (w : World) :
    Calls Try.prog 19 #[.slice a 0 c, .func (.func 20) #[] #[]] w fun e w' => e = .returned (.slice none 0 0) ∧ Below w.heap.size w w' := by
  obtain ⟨i0, hi, _, _, _⟩ := info_parts Try.infoSeen
  have hN : ∀ W, Calls Try.prog 30 #[.slice a 0 c] W fun e w' => e = .returned (.slice none 0 0) ∧ w' = W := fun W => by
    go_enter Try.func30, Try.ntmps30
    go_wp2_with (at_builtin; refine wpList_append_nil0 rfl (.const (.slice none 0 0)) (.tmp 3) 24 rfl 35 i0 Try.underlying24 hi rfl a c rfl ?_)
    go_wp2_with fail
    go_ret
    exact ⟨rfl, rfl⟩
  have hS : ∀ fv W, Calls Try.prog 31 #[.slice none 0 0, fv] W fun e w' => e = .returned (.tuple #[]) ∧ w' = W := fun fv W => AnyF.slices_SortFunc_none Try.laysSortSn none 0 fv W
  have hC : ∀ fv W, Calls Try.prog 32 #[.slice none 0 0, fv] W fun e w' => e = .returned (.slice none 0 0) ∧ w' = W := fun fv W => by
    go_enter Try.func32, Try.ntmps32
    go_wp2_with fail
    go_ret
    exact ⟨rfl, rfl⟩
  go_enter Try.func19, Try.ntmps19
  go_wp2_with fail
  refine (hN _).mono ?_
  rintro e w1 ⟨rfl, rfl⟩
  go_wp2_with fail
  refine (hS _ _).mono ?_
  rintro e w1 ⟨rfl, rfl⟩
  go_wp2_with fail
  refine (hC _ _).mono ?_
  rintro e w1 ⟨rfl, rfl⟩
  go_wp2_with fail
  go_ret
  exact ⟨rfl, below1 _ _⟩

end Go.Proofs.Ytkbjdhjcbhdpmab
