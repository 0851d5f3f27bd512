/- spec.DrawSeenText: what was seen, drawn; its numbers are from -1 to 4. Of codes of at most 1048576 bytes. -/
import Derived.Test.YtefmkenljongpaaDoorDrSlF
namespace Go.Proofs.YtefmkenljongpaaDoor
open Go.RowKit

set_option maxHeartbeats 1000000 in
set_option maxRecDepth 100000 in
theorem DrawSeenTextF_any (ca : Option Addr) (cb co L C : Nat) (x : Nat → Int) (w : World) (hL : L ≤ C) (had : 0 < L → ca = some ⟨cb, co, none⟩) (hc : ∀ i, i < L → w.cell? ⟨cb, co + i, none⟩ = some (.int .u8 (x i)) ∧ 0 ≤ x i ∧ x i ≤ 255) (hLb : L ≤ 1048576) :
    Calls Tryd.prog 6 #[.slice ca L C] w fun e w' => ∃ s : Sn, e = .returned (.agg #[.slice s.a1 s.l1.length s.c1, .slice s.a2 s.l2.length s.c2]) ∧ s.At w' ∧ s.Le 30 ∧ (Few s.l1 ∧ Few s.l2) ∧ Below w.heap.size w w' := by
  go_enter Tryd.func6, Tryd.ntmps6
  go_wp2_with fail
  have hb0 := below1 w (.cells #[.slice none 0 0, .slice none 0 0] 25)
  have hR0 : Slot2 (w.alloc (.cells #[.slice none 0 0, .slice none 0 0] 25)) w.heap.size (.slice none 0 0) (.slice none 0 0) := ⟨alloc_new _ _ _ rfl⟩
  have hsz0 : (w.alloc (.cells #[.slice none 0 0, .slice none 0 0] 25)).heap.size = w.heap.size + 1 := by simp only [World.size_alloc]
  generalize w.alloc (.cells #[.slice none 0 0, .slice none 0 0] 25) = W0 at *
  refine (l6Open_any ca cb co L C x _ hL had (fun i hi => ⟨by rw [hb0.cell (p := ⟨cb, co + i, none⟩) (World.block_lt_of_cell? _ _ (hc i hi).1)]; exact (hc i hi).1, (hc i hi).2⟩) hLb).mono ?_
  rintro e w1 ⟨rfl, hr1, hb1⟩
  rw [hsz0] at hr1 ⊢
  obtain ⟨rb, hrb⟩ : ∃ rb, w.heap.size + 1 = rb := ⟨_, rfl⟩
  rw [hrb] at hr1 ⊢
  have hb1w : Below w.heap.size w w1 := hb0.trans (hb1.mono (by omega))
  have hR1 := hR0.but (But.of (rb := rb) hb1) (by omega)
  have hlt1 := hr1.lt
  clear hR0 hb0 hb1 hsz0 hc had
  go_wp2_with fail
  refine (l71Prog_any rb rb 0 _ (by omega) hr1).mono ?_
  rintro e w2 ⟨ll, vs, v, rfl, hB2, hprog, _, _, p2, hp2, hr2, hb2⟩
  obtain ⟨h3, h7⟩ := M.prog_le hprog
  have hnr : M.nreads ll ≤ 21 := by rw [M.nreads_ok hprog]; have := M.tot_le M.reads h3 h7; omega
  have hR2 := hR1.but hb2 (by omega)
  have hsz2 := hb2.size
  obtain ⟨a, g, c, rfl, hd2⟩ := hB2.ss
  clear hr1 hR1
  go_wp2_with fail
  refine (l71SeenF_any rb rb p2 a g 0 c ll _ (by omega) (by omega) (fun t ht => by have := h7 t ht; omega) hnr hr2 hd2).mono ?_
  rintro e w4 ⟨s, rfl, hs4, sle, sf, sb1, sb2, snc, p4, hp4, hr4, hb4⟩
  have hR4 := hR2.but hb4 (by omega)
  have hb4' : Below w.heap.size w w4 := But.below hb1w (hb2.trans hb4) (by omega)
  have y0 := hR4.c0
  have y1 := hR4.c1
  have yf := hR4.fz
  go_wp2_with fail
  have hR5 := (hR4.set0 (.slice s.a1 s.l1.length s.c1)).set1 (.slice s.a2 s.l2.length s.c2)
  have z0 := hR5.c0
  have z1 := hR5.c1
  refine bodyPost_ret (v := .agg #[.slice s.a1 s.l1.length s.c1, .slice s.a2 s.l2.length s.c2]) (by simp [results, Tryd.results6, go_sem, z0, z1]) rfl ⟨s, rfl, ?_, sle, sf, (hb4'.setCell (Nat.le_refl _) _).setCell (Nat.le_refl _) _⟩
  exact ((hs4.far (fun _ => by omega) (fun _ => by omega)).far (fun _ => by omega) (fun _ => by omega))

end Go.Proofs.YtefmkenljongpaaDoor
