/- spec.DrawProgOk: a drawn program, one in two spoilt. Of codes of at most 1048576 bytes. -/
import Derived.Test.YtlblmcplbfoegaaGreatDrAn
import Derived.Test.YtlblmcplbfoegaaGreatDrOp
namespace Go.Proofs.YtlblmcplbfoegaaGreat
open Go.RowKit

set_option maxHeartbeats 1000000 in
set_option maxRecDepth 100000 in
theorem DrawProgOk_any (ca : Option Addr) (cb co L C : Nat) (x : Nat → Int) (w : World) (hL : L ≤ C) (had : 0 < L → ca = some ⟨cb, co, none⟩) (hc : ∀ i, i < L → w.cell? ⟨cb, co + i, none⟩ = some (.int .u8 (x i)) ∧ 0 ≤ x i ∧ x i ≤ 255) (hLb : L ≤ 1048576) :
    Calls Tryz.prog 4 #[.slice ca L C] w fun e w' => ∃ (a : Option Addr) (g c : Nat) (mm : List (List M.D)), e = .returned (.agg #[.slice a mm.length c]) ∧ DoSN (w.heap.size + 1) w' a g 0 mm ∧ Small mm c ∧ Below w.heap.size w w' := by
  go_enter Tryz.func4, Tryz.ntmps4
  go_wp2_with fail
  have hb0 := below1 w (.cells #[.slice none 0 0] 25)
  refine (l6Open_any ca cb co L C x _ hL had (fun i hi => ⟨by rw [hb0.cell (p := ⟨cb, co + i, none⟩) (World.block_lt_of_cell? _ _ (hc i hi).1)]; exact (hc i hi).1, (hc i hi).2⟩) hLb).mono ?_
  rintro e w1 ⟨rfl, hr1, hb1⟩
  simp only [World.size_alloc] at hr1 hb1 ⊢
  have hb1w : Below w.heap.size w w1 := hb0.trans (hb1.mono (by omega))
  have hS1 := (Slot1.new w (.slice none 0 0) 25).but (But.of (rb := w.heap.size + 1) (by simpa only [World.size_alloc] using hb1)) (by omega)
  have hlt := hr1.lt
  clear hc had hb0 hb1
  go_wp2_with fail
  refine (l71Prog_any _ (w.heap.size + 1) 0 _ (by omega) hr1).mono ?_
  rintro e w2 ⟨ll, vs, v, rfl, hB2, hprog, _, hlen, p2, hp2, hr2, hb2⟩
  obtain ⟨h3, h7⟩ := M.prog_le hprog
  have hS2 := hS1.but hb2 (by omega)
  have hbw : Below w.heap.size w w2 := But.below hb1w hb2 (by omega)
  obtain ⟨a, g, c, rfl, _⟩ := hB2.sn
  have hlt2 := hr2.lt
  clear hb2 hb1w
  go_wp2_with fail
  refine (pick_rdr _ (w.heap.size + 1) p2 _ _ (by omega) (by omega) (by omega) (hr2.alloc _)).mono ?_
  rintro e w3 ⟨r3, rfl, r30, r31, hr3, hb3⟩
  have hal := (But.refl (w.heap.size + 1) w2).alloc (.cells #[.slice a ll.length c] 25)
  have hX3 := (Slot1.new w2 (.slice a ll.length c) 25).but hb3 (by omega)
  have hS3 := (hS2.but hal (by omega)).but hb3 (by omega)
  have hB3 := (hB2.but hal (by omega)).but hb3 (by omega)
  have hbw3 : Below w.heap.size w w3 := But.below hbw (hal.trans hb3) (by omega)
  clear hb3 hal hS1 hS2 hB2 hbw hr2 hr1
  by_cases h0 : r3 = 0
  · subst h0
    have x0 := hX3.c
    go_wp2_with fail
    refine (l71Bad_any _ (w1.heap.size + 1) (w.heap.size + 1) (p2 + 1) _ ll vs _ (by omega) hlen h3 h7 hB3 (by omega) hr3).mono ?_
    rintro e w4 ⟨a', g', c', mm, rfl, hsn, hml, hmc, hm14, p4, hp4, hr4, hb4⟩
    have hm0 : 0 < mm.length := by omega
    have hm3 : mm.length ≤ 3 := by omega
    clear hml
    have hS4 := hS3.but hb4 (by omega)
    have s0 := hS4.c
    have sf := hS4.fz
    have hsl := hS4.lt
    go_wp2_with fail
    have s4 := (hS4.set (.slice a' mm.length c')).c
    refine bodyPost_ret (v := .agg #[.slice a' mm.length c']) (by simp [results, Tryz.results4, go_sem, s4]) rfl ⟨a', g', c', mm, rfl, (hsn.far (by omega)).mono (by omega), ⟨hmc, hm0, hm3, hm14⟩, (But.below hbw3 hb4 (by omega)).setCell (Nat.le_refl _) _⟩
  · have h0' : (r3 == 0) = false := by simpa using h0
    obtain ⟨a', g', c', e', hsn⟩ := hB3.sn
    simp only [Value.slice.injEq] at e'
    obtain ⟨rfl, _, rfl⟩ := e'
    have x0 := hX3.c
    have s0 := hS3.c
    have sf := hS3.fz
    have hsl := hS3.lt
    go_wp2_with fail
    have s4 := (hS3.set (.slice a ll.length c)).c
    refine bodyPost_ret (v := .agg #[.slice a ll.length c]) (by simp [results, Tryz.results4, go_sem, s4]) rfl ⟨a, g', c, ll, rfl, (hsn.far (by omega)).mono (by omega), ⟨hB3.cap, hlen, h3, fun t ht => by have := h7 t ht; omega⟩, hbw3.setCell (Nat.le_refl _) _⟩

end Go.Proofs.YtlblmcplbfoegaaGreat
