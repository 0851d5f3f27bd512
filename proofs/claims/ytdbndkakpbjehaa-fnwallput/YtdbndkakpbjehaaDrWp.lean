/- spec.DrawWallPut: a drawn program, and where walls are put. Of codes of at most 1048576 bytes. -/
import Derived.Test.YtdbndkakpbjehaaDrAn
import Derived.Test.YtdbndkakpbjehaaDrOp
import Derived.Test.YtdbndkakpbjehaaWlAll
namespace Go.Proofs.Ytdbndkakpbjehaa
open Go.RowKit

/-- What is drawn: a program, and some gaps. -/
structure WpDrawn (w w' : World) (a : Option Addr) (g c : Nat) (mm : List (List M.D)) (ga : Option Addr) (gg : Nat) (gs : List Int) : Prop where
  sn : DoSN (w.heap.size + 1) w' a g 0 mm
  sm : Small mm c
  gi : IntS w' ga gg 0 gs
  gl : gs.length ≤ 20
  bel : Below w.heap.size w w'

set_option maxHeartbeats 1000000 in
set_option maxRecDepth 100000 in
theorem DrawWallPut_any (ca : Option Addr) (cb co L C : Nat) (x : Nat → Int) (w : World) (hL : L ≤ C) (had : 0 < L → ca = some ⟨cb, co, none⟩) (hc : ∀ i, i < L → w.cell? ⟨cb, co + i, none⟩ = some (.int .u8 (x i)) ∧ 0 ≤ x i ∧ x i ≤ 255) (hLb : L ≤ 1048576) :
    Calls Try.prog 12 #[.slice ca L C] w fun e w' => ∃ (a : Option Addr) (g c : Nat) (mm : List (List M.D)) (ga : Option Addr) (gg gc : Nat) (gs : List Int), e = .returned (.tuple #[.agg #[.slice a mm.length c], .slice ga gs.length gc]) ∧ WpDrawn w w' a g c mm ga gg gs := by
  obtain ⟨i0, hi, hz0, hz1, hz2⟩ := info_parts Try.infoInt
  go_enter Try.func12, Try.ntmps12
  go_wp2_with fail
  have hb0 := below1 w (.cells #[.slice none 0 0] 25)
  refine (l6Open_any ca cb co L C x _ hL had (fun i hi => ⟨by rw [hb0.cell (p := ⟨cb, co + i, none⟩) (World.block_lt_of_cell? _ _ (hc i hi).1)]; exact (hc i hi).1, (hc i hi).2⟩) hLb).mono ?_
  rintro e w1 ⟨rfl, hr1, hb1⟩
  simp only [World.size_alloc] at hr1 hb1 ⊢
  have hb1w : Below w.heap.size w w1 := hb0.trans (hb1.mono (by omega))
  have hS1 := (Slot1.new w (.slice none 0 0) 25).but (But.of (rb := w.heap.size + 1) (by simpa only [World.size_alloc] using hb1)) (by omega)
  have hlt1 := hr1.lt
  clear hc had hb0 hb1
  go_wp2_with fail
  refine (l71Any_any _ (w.heap.size + 1) 0 _ (by omega) hr1).mono ?_
  rintro e w2 ⟨a, g, c, mm, rfl, hsn, hsm, p2, hp2, hr2, hb2⟩
  have hle : ∀ t ∈ mm, t.length ≤ 1048576 := fun t ht => by have := hsm.steps t ht; omega
  have h3 := hsm.three
  have bA := (But.refl (w.heap.size + 1) w2).alloc (.cells #[.slice a mm.length c] 25)
  have hSA := (hS1.but hb2 (by omega)).but bA (by omega)
  have hrA := hr2.alloc (.cells #[.slice a mm.length c] 25)
  have hPA := Slot1.new w2 (.slice a mm.length c) 25
  have hsnA := hsn.but bA (by omega)
  have bwA : Below w.heap.size w (w2.alloc (.cells #[.slice a mm.length c] 25)) := But.below hb1w (hb2.trans bA) (by omega)
  have hl2 : w1.heap.size ≤ w2.heap.size := hb2.size
  have HW : Hid ((w2.alloc (.cells #[.slice a mm.length c] 25)).heap.size = w2.heap.size + 1) := by show _ = _; simp
  clear hS1 hb2 bA hr1 hr2 hsn hb1w
  go_wp2_with fail
  generalize w2.alloc (.cells #[.slice a mm.length c] 25) = WA at *
  obtain ⟨P, hP⟩ : ∃ P, w2.heap.size = P := ⟨_, rfl⟩
  have HW2 : Hid (WA.heap.size = P + 1) := by show _ = _; rw [HW.out, hP]
  rw [hP] at hPA hl2 ⊢
  clear hP HW
  have hE := World.ownsRow_made (base := WA.heap.size) (e := 3) (size := 1) WA #[] 0 (Nat.le_refl _) (Nat.zero_le _) rfl
  have bE := (But.refl (w.heap.size + 1) WA).alloc (.cells #[] 3)
  rw [HW2.out] at hE
  obtain ⟨hg1, hg2⟩ := M.gaps_le mm
  have CG := fun W hW => sgaps_any a g 0 c mm W (by omega) hle hW
  generalize M.gaps mm = G at *
  have hrE := hrA.alloc (.cells #[] 3)
  go_loopw [6, 7] (fun s6 s7 wr => ∃ (n p : Nat) (gs : List Int), s7 = .int .i64 n ∧ n ≤ G.toNat ∧ p ≤ 10100 + n ∧ gs.length ≤ n ∧ wr.ownsRow (P + 1) 3 1 s6 gs.length (nums gs) ∧ Rdr wr (w.heap.size + 1) (w.heap.size + 1) p ∧ But (w.heap.size + 1) WA wr) (fun _ s7 _ => G.toNat - (intOf s7).toNat)
  case atStart => exact ⟨0, p2, [], rfl, Nat.zero_le _, by omega, Nat.le_refl _, hE, hrE, bE⟩
  case round =>
    obtain ⟨n, p, gs, rfl, hn, hp, hgn, hown, hr, hbut⟩ := hrel
    have hPr := hPA.but hbut (by omega)
    have hSr := hSA.but hbut (by omega)
    have hsnr := hsnA.but hbut (by omega)
    have hbs : P + 1 ≤ wr.heap.size := by have := hbut.size; have := HW2.out; omega
    have x0 := hPr.c
    have hGC := CG wr hsnr.ss
    have hge := own_ge hown
    by_cases hlt : (n : Int) < G
    · go_wp2_with (first | (go_at_call 11; refine hGC.mono ?_; rintro e w3 ⟨rfl, b3⟩))
      refine (pick_rdr (w.heap.size + 1) (w.heap.size + 1) p 2 w3 (by omega) (by omega) (by omega) (hr.below b3 (Nat.le_refl _))).mono ?_
      rintro e w4 ⟨q, rfl, q0, q1, hr4, hb4⟩
      have hb34 : But (w.heap.size + 1) WA w4 := (hbut.trans (But.of b3)).trans hb4
      have hown4 := ownsRow_but (ownsRow_below hown b3) hb4 (by omega)
      have hbs4 : P + 1 ≤ w4.heap.size := by have := b3.size; have := hb4.size; omega
      clear hown hbut hb4 hr
      by_cases hq : q = 0
      · subst hq
        go_wp2_with (at_builtin; refine wpList_append_own _ rfl (.tmp 22) (.tmp 24) 30 rfl _ 3 i0 _ 1 8 Try.underlying30 hi hz0 hz1 hz2 rfl (by decide) _ _ _ rfl (hown4.alloc _) ⟨w4.heap.size, 0, none⟩ 1 1 [.int .i64 n] rfl rfl (cells_new1 _ _ _ _ (by simp)) (one1 _) (by unfold maxLen; omega) (by omega) (by simp; omega) ?_)
        intro v5 w5 hown5 hg5 _
        have hr5 := (hr4.alloc _).grown hg5 (fun k hk => ⟨by have := hge k hk; omega, by have := hge k hk; omega⟩)
        have hb5 := (hb34.alloc _).grown hg5 (fun k hk => by have := hge k hk; have := HW2.out; omega)
        have hown6 : w5.ownsRow (P + 1) 3 1 v5 (gs ++ [(n : Int)]).length (nums (gs ++ [(n : Int)])) := by rw [nums_snoc, List.length_append]; exact hown5
        clear hown5 hg5 hown4 hb34 hr4
        go_wp2_with fail
        exact ⟨⟨n + 1, p + 1, gs ++ [(n : Int)], by go_num, by omega, by omega, by simp; omega, hown6, hr5, hb5⟩, by simp [intOf]; omega⟩
      · have hq' : (q == 0) = false := by simpa using hq
        go_wp2_with fail
        exact ⟨⟨n + 1, p + 1, gs, by go_num, by omega, by omega, by omega, hown4, hr4, hb34⟩, by simp [intOf]; omega⟩
    · have hgl : gs.length ≤ 18 := by omega
      have hpb : p ≤ 10200 := by omega
      have hnn : ¬ (n : Int) < G := by omega
      go_wp2_with (first | (go_at_call 11; refine hGC.mono ?_; rintro e w3 ⟨rfl, b3⟩))
      refine (pick_rdr (w.heap.size + 1) (w.heap.size + 1) p 16 w3 (by omega) (by omega) (by omega) (hr.below b3 (Nat.le_refl _))).mono ?_
      rintro e w4 ⟨q, rfl, q0, q1, hr4, hb4⟩
      have hb34 : But (w.heap.size + 1) WA w4 := (hbut.trans (But.of b3)).trans hb4
      have hown4 := ownsRow_but (ownsRow_below hown b3) hb4 (by omega)
      have hbs4 : P + 1 ≤ w4.heap.size := by have := b3.size; have := hb4.size; omega
      clear hown hbut hb4 hr hsnr hSr hPr x0 hGC hn
      have FIN : Hid (∀ (W : World) (v : Value) (gs : List Int), gs.length ≤ 20 → W.ownsRow (P + 1) 3 1 v gs.length (nums gs) → But (w.heap.size + 1) WA W → ∃ (ga : Option Addr) (gg gc : Nat), v = .slice ga gs.length gc ∧ Slot1 W P (.slice a mm.length c) ∧ Slot1 W w.heap.size (.slice none 0 0) ∧ w.heap.size < W.heap.size ∧ WpDrawn w (W.setCell ⟨w.heap.size, 0, none⟩ (.slice a mm.length c)) a g c mm ga gg gs) := by
        intro W v gs hl ho hb
        obtain ⟨ga, gg, gc, rfl, hI, hgg, _⟩ := own_nums ho
        have hS := hSA.but hb (by omega)
        exact ⟨ga, gg, gc, rfl, hPA.but hb (by omega), hS, hS.lt, (hsnA.but hb (by omega)).mono (by omega) |>.far (by omega), hsm, hI.far (fun _ => by omega), hl, (But.below bwA hb (by omega)).setCell (Nat.le_refl _) _⟩
      by_cases hq : q = 0
      · subst hq
        go_wp2_with fail
        refine (pick_rdr (w.heap.size + 1) (w.heap.size + 1) (p + 1) 9 w4 (by omega) (by omega) (by omega) hr4).mono ?_
        rintro e w5 ⟨r, rfl, r0, r1, hr5, hb5⟩
        have hb45 := hb34.trans hb5
        have hown5 := ownsRow_but hown4 hb5 (by omega)
        have hbs5 : P + 1 ≤ w5.heap.size := by have := hb5.size; omega
        clear hown4 hb34 hb5 hr4
        go_wp2_with (at_builtin; refine wpList_append_own _ rfl (.tmp 30) (.tmp 34) 30 rfl _ 3 i0 _ 1 8 Try.underlying30 hi hz0 hz1 hz2 rfl (by decide) _ _ _ rfl (hown5.alloc _) ⟨w5.heap.size, 0, none⟩ 1 1 [.int .i64 (r - 1)] rfl rfl (cells_new1 _ _ _ _ (by simp)) (one1 _) (by unfold maxLen; omega) (by omega) (by simp; omega) ?_)
        intro v6 w6 hown6 hg6 _
        have hb6 := (hb45.alloc _).grown hg6 (fun k hk => by have := hge k hk; have := HW2.out; omega)
        have hown7 : w6.ownsRow (P + 1) 3 1 v6 (gs ++ [r - 1]).length (nums (gs ++ [r - 1])) := by rw [nums_snoc, List.length_append]; exact hown6
        obtain ⟨ga, gg, gc, rfl, hPf, hSf, lf, hD⟩ := FIN.out w6 v6 (gs ++ [r - 1]) (by simp; omega) hown7 hb6
        clear hown6 hg6 hown5 hown7
        have p0 := hPf.c
        have s0 := hSf.c
        have sf := hSf.fz
        go_wp2_with fail
        have s4 := (hSf.set (.slice a mm.length c)).c
        exact bodyPost_ret (v := .tuple #[.agg #[.slice a mm.length c], .slice ga (gs ++ [r - 1]).length gc]) (by simp [results, Try.results12, go_sem, s4]) rfl ⟨a, g, c, mm, ga, gg, gc, gs ++ [r - 1], rfl, hD⟩
      · have hq' : (q == 0) = false := by simpa using hq
        by_cases hq1 : q = 1
        · subst hq1
          obtain ⟨ga, gg, gc, rfl, hI, hgg, _⟩ := own_nums hown4
          by_cases hg0 : 0 < gs.length
          · have hg0' : (0 : Int) < gs.length := by omega
            obtain ⟨rfl⟩ := hI.addr hg0
            have hx := hI.row 0 hg0
            rw [Nat.zero_add] at hx
            generalize gs[0] = y at hx
            go_wp2_with (at_builtin; refine wpList_append_own _ rfl (.tmp 41) (.tmp 45) 30 rfl _ 3 i0 _ 1 8 Try.underlying30 hi hz0 hz1 hz2 rfl (by decide) _ _ _ rfl (hown4.alloc _) ⟨w4.heap.size, 0, none⟩ 1 1 [.int .i64 y] rfl rfl (cells_new1 _ _ _ _ (by simp)) (one1 _) (by unfold maxLen; omega) (by omega) (by simp; omega) ?_)
            intro v6 w6 hown6 hg6 _
            have hb6 := (hb34.alloc _).grown hg6 (fun k hk => by have := hge k hk; have := HW2.out; omega)
            have hown7 : w6.ownsRow (P + 1) 3 1 v6 (gs ++ [y]).length (nums (gs ++ [y])) := by rw [nums_snoc, List.length_append]; exact hown6
            obtain ⟨ga, gg, gc, rfl, hPf, hSf, lf, hD⟩ := FIN.out w6 v6 (gs ++ [y]) (by simp; omega) hown7 hb6
            clear hown6 hg6 hown7
            have p0 := hPf.c
            have s0 := hSf.c
            have sf := hSf.fz
            go_wp2_with fail
            have s4 := (hSf.set (.slice a mm.length c)).c
            exact bodyPost_ret (v := .tuple #[.agg #[.slice a mm.length c], .slice ga (gs ++ [y]).length gc]) (by simp [results, Try.results12, go_sem, s4]) rfl ⟨a, g, c, mm, ga, gg, gc, gs ++ [y], rfl, hD⟩
          · have hg0' : ¬ (0 : Int) < gs.length := by omega
            obtain ⟨ga, gg, gc, e8, hPf, hSf, lf, hD⟩ := FIN.out w4 _ gs (by omega) hown4 hb34
            obtain ⟨rfl, _, rfl⟩ := Value.slice.inj e8
            have p0 := hPf.c
            have s0 := hSf.c
            have sf := hSf.fz
            go_wp2_with fail
            have s4 := (hSf.set (.slice a mm.length c)).c
            exact bodyPost_ret (by simp [results, Try.results12, go_sem, s4]; rfl) rfl ⟨a, g, c, mm, _, gg, _, gs, rfl, hD⟩
        · have hq1' : (q == 1) = false := by simpa using hq1
          obtain ⟨ga, gg, gc, rfl, hPf, hSf, lf, hD⟩ := FIN.out w4 _ gs (by omega) hown4 hb34
          have p0 := hPf.c
          have s0 := hSf.c
          have sf := hSf.fz
          go_wp2_with fail
          have s4 := (hSf.set (.slice a mm.length c)).c
          exact bodyPost_ret (v := .tuple #[.agg #[.slice a mm.length c], .slice ga gs.length gc]) (by simp [results, Try.results12, go_sem, s4]) rfl ⟨a, g, c, mm, ga, gg, gc, gs, rfl, hD⟩

end Go.Proofs.Ytdbndkakpbjehaa
