/- spec.DrawTurnSeen: a drawn program, what was seen, and a row. Of codes of at most 1048576 bytes. -/
import Derived.Test.YtjdpoemlcchfcaaDrAn
import Derived.Test.YtjdpoemlcchfcaaDrOp
import Derived.Test.YtjdpoemlcchfcaaDrRow
import Derived.Test.YtjdpoemlcchfcaaDrSn
import Derived.Test.YtjdpoemlcchfcaaTnBase
import Derived.Test.YtjdpoemlcchfcaaWide
import Derived.Test.YtjdpoemlcchfcaaTnCp
namespace Go.Proofs.Ytjdpoemlcchfcaa
open Go.RowKit

theorem IntS.farx {w : World} {a : Option Addr} {b o B i : Nat} {l : List Int} {u : Value} (h : IntS w a b o l) (hb : b ≠ B) : IntS (w.setCell ⟨B, i, none⟩ u) a b o l :=
  ⟨h.addr, fun j hj => by rw [World.cell?_setCell_other _ _ _ _ (fun e => hb (congrArg Addr.block e).symm)]; exact h.row j hj⟩
theorem M.tot_21 {ll : List (List M.D)} (f : Int → Bool) (h3 : ll.length ≤ 3) (h7 : ∀ t ∈ ll, t.length ≤ 7) : M.tot f ll ≤ 21 := by
  have key : ∀ l : List (List M.D), (∀ t ∈ l, t.length ≤ 7) → M.tot f l ≤ 7 * l.length := fun l => by
    induction l with
    | nil => intro _; simp [M.tot]
    | cons t l ih =>
      intro h
      have h1 := ih (fun t ht => h t (by simp [ht]))
      have h2 := h t (by simp)
      have h3 := M.cnt_le f t
      simp only [M.tot, List.length_cons]
      omega
  have := key ll h7
  omega
theorem M.nreads_21 (ll : List (List M.D)) : M.nreads ll ≤ 21 := by
  cases hp : M.prog ll
  · rw [M.nreads_no hp]; omega
  · obtain ⟨h3, h7⟩ := M.prog_le hp
    rw [M.nreads_ok hp]; have := M.tot_21 M.reads h3 h7; omega
/-- What is drawn: a program, what was seen, and a row. -/
structure TsDrawn (w w' : World) (a : Option Addr) (g c : Nat) (mm : List (List M.D)) (s : Sn) (ga : Option Addr) (gg : Nat) (gs : List Int) : Prop where
  sn : DoSN (w.heap.size + 2) w' a g 0 mm
  sm : Small mm c
  at_ : s.At w'
  le : s.Le 30
  cap : s.l1.length ≤ s.c1
  gi : IntS w' ga gg 0 gs
  gl : gs.length ≤ 20
  bel : Below w.heap.size w w'

set_option maxHeartbeats 1000000 in
set_option maxRecDepth 100000 in
set_option linter.unusedSimpArgs false in
theorem DrawTurnSeen_any (ca : Option Addr) (cb co L C : Nat) (x : Nat → Int) (w : World) (hL : L ≤ C) (had : 0 < L → ca = some ⟨cb, co, none⟩) (hc : ∀ i, i < L → w.cell? ⟨cb, co + i, none⟩ = some (.int .u8 (x i)) ∧ 0 ≤ x i ∧ x i ≤ 255) (hLb : L ≤ 1048576) :
    Calls Try.prog 5 #[.slice ca L C] w fun e w' => ∃ (a : Option Addr) (g c : Nat) (mm : List (List M.D)) (s : Sn) (ga : Option Addr) (gg gc : Nat) (gs : List Int), e = .returned (.tuple #[.agg #[.slice a mm.length c], .agg #[.slice s.a1 s.l1.length s.c1, .slice s.a2 s.l2.length s.c2], .slice ga gs.length gc]) ∧ TsDrawn w w' a g c mm s ga gg gs := by
  go_enter Try.func5, Try.ntmps5
  go_wp2_with fail
  have hb0 := below2 w (.cells #[.slice none 0 0] 25) (.cells #[.slice none 0 0, .slice none 0 0] 28)
  refine (l6Open_any ca cb co L C x _ hL had (fun i hi => ⟨by rw [hb0.cell (p := ⟨cb, co + i, none⟩) (World.block_lt_of_cell? _ _ (hc i hi).1)]; exact (hc i hi).1, (hc i hi).2⟩) hLb).mono ?_
  rintro e w1 ⟨rfl, hr1, hb1⟩
  simp only [World.size_alloc] at hr1 hb1 ⊢
  have hb1w : Below w.heap.size w w1 := hb0.trans (hb1.mono (by omega))
  have hS1 := ((Slot1.new w (.slice none 0 0) 25).bl' (below1 _ (.cells #[.slice none 0 0, .slice none 0 0] 28))).but (But.of (rb := w.heap.size + 1 + 1) (by simpa only [World.size_alloc] using hb1)) (by omega)
  have hZ0 : Slot2 ((w.alloc (.cells #[.slice none 0 0] 25)).alloc (.cells #[.slice none 0 0, .slice none 0 0] 28)) (w.heap.size + 1) (.slice none 0 0) (.slice none 0 0) := ⟨alloc_new _ _ _ (by simp only [World.size_alloc])⟩
  have hZ1 := hZ0.but (But.of (rb := w.heap.size + 1 + 1) (by simpa only [World.size_alloc] using hb1)) (by omega)
  have hlt1 := hr1.lt
  clear hc had hb0 hb1 hZ0
  go_wp2_with fail
  refine (l71Any_any _ (w.heap.size + 1 + 1) 0 _ (by omega) hr1).mono ?_
  rintro e w2 ⟨a, g, c, mm, rfl, hsn, hsm, p2, hp2, hr2, hb2⟩
  have hS2 := hS1.but hb2 (by omega)
  have hZ2 := hZ1.but hb2 (by omega)
  have bw2 := But.below hb1w hb2 (by omega)
  have hl2 : w1.heap.size ≤ w2.heap.size := hb2.size
  have hsn2 := hsn.mono (show w.heap.size + 1 + 1 + 1 ≤ w1.heap.size + 1 by omega)
  have bA := (But.refl (w.heap.size + 1 + 1) w2).alloc (.cells #[.slice a mm.length c] 25)
  have hSA := hS2.but bA (by omega)
  have hZA := hZ2.but bA (by omega)
  have hrA := hr2.alloc (.cells #[.slice a mm.length c] 25)
  have hPA := Slot1.new w2 (.slice a mm.length c) 25
  have hsnA := hsn2.but bA (by omega)
  have bwA : Below w.heap.size w (w2.alloc (.cells #[.slice a mm.length c] 25)) := But.below bw2 bA (by omega)
  have hszA : (w2.alloc (.cells #[.slice a mm.length c] 25)).heap.size = w2.heap.size + 1 := by simp
  clear hS1 hS2 hZ1 hZ2 hb2 bA hr1 hr2 hsn hsn2 hb1w bw2
  go_wp2_with fail
  generalize w2.alloc (.cells #[.slice a mm.length c] 25) = WA at *
  obtain ⟨P, hP⟩ : ∃ P, w2.heap.size = P := ⟨_, rfl⟩
  rw [hP] at hPA hl2 hszA ⊢
  have HW : Hid (WA.heap.size = P + 1) := hszA
  clear hP hszA
  have CS := l71Seen_cap (w.heap.size + 1 + 1) (w.heap.size + 1 + 1) p2 a g 0 c mm WA.drew (by omega) (by have := hsm.three; omega) (fun t ht => by have := hsm.steps t ht; omega) (M.nreads_21 mm) hrA.drew (hsnA.ss.below (Below.refl WA.heap.size WA).drew (Nat.le_refl _))
  have p0 := hPA.c
  refine wp_region_held_drew (S := fun w' => w'.cell? ⟨P, 0, none⟩ = some (.slice a mm.length c)) (by kernel_rfl) (by exact p0) (fun hH => ?_)
  refine takeD 0 (some 11) (.agg #[.slice a mm.length c]) hH rfl rfl (by kernel_rfl) (by kernel_rfl) (by kernel_rfl) (fun _ _ _ h => h) (Or.inl ⟨by rfl, by intro w' hSw; have hc := hSw; go_simp⟩) ?_
  simp only [Act.put, List.setIfInBounds_toArray, List.set_cons_zero, List.set_cons_succ]
  refine takeD 1 (some 12) (.pointer (some ⟨w.heap.size + 1 + 1, 0, none⟩)) hH rfl rfl (by kernel_rfl) (by kernel_rfl) (by kernel_rfl) (fun _ _ _ h => h) (Or.inl ⟨by rfl, by intro w' hSw; go_simp⟩) ?_
  simp only [Act.put, List.setIfInBounds_toArray, List.set_cons_zero, List.set_cons_succ]
  refine takeD 2 (some 13) (.agg #[.slice a mm.length c]) hH rfl rfl (by kernel_rfl) (by kernel_rfl) (by kernel_rfl) (fun _ _ _ h => h) (Or.inl ⟨by rfl, by intro w' hSw; have hc := hSw; go_simp⟩) ?_
  simp only [Act.put, List.setIfInBounds_toArray, List.set_cons_zero, List.set_cons_succ]
  refine takeD 4 (some 15) (.pointer (some ⟨w.heap.size + 1 + 1, 0, none⟩)) hH rfl rfl (by kernel_rfl) (by kernel_rfl) (by kernel_rfl) (fun _ _ _ h => h) (Or.inl ⟨by rfl, by intro w' hSw; go_simp⟩) ?_
  simp only [Act.put, List.setIfInBounds_toArray, List.set_cons_zero, List.set_cons_succ]
  refine takeD 5 (some 16) (.pointer (some ⟨P, 0, none⟩)) hH rfl rfl (by kernel_rfl) (by kernel_rfl) (by kernel_rfl) (fun _ _ _ h => h) (Or.inl ⟨by rfl, by intro w' hSw; go_simp⟩) ?_
  simp only [Act.put, List.setIfInBounds_toArray, List.set_cons_zero, List.set_cons_succ]
  refine takeD 6 (some 17) (.slice a mm.length c) hH rfl rfl (by kernel_rfl) (by kernel_rfl) (by kernel_rfl) (fun _ _ _ h => h) (Or.inl ⟨by rfl, by intro w' hSw; have hc := hSw; go_simp⟩) ?_
  simp only [Act.put, List.setIfInBounds_toArray, List.set_cons_zero, List.set_cons_succ]
  refine takeD 7 (some 18) (.int .i64 mm.length) hH rfl rfl (by kernel_rfl) (by kernel_rfl) (by kernel_rfl) (fun _ _ _ h => h) (Or.inl ⟨by rfl, by intro w' hSw; go_simp⟩) ?_
  simp only [Act.put, List.setIfInBounds_toArray, List.set_cons_zero, List.set_cons_succ]
  refine wpAnyH_ready (rs := [3]) (by kernel_rfl) (by simp) ?_
  refine AllReadyH.cons rfl (fun K' hK => ?_) AllReadyH.nil
  refine step_goV (by rfl) (some 14) rfl 26 #[.tmp 12, .tmp 13] _ rfl #[.pointer (some ⟨w.heap.size + 1 + 1, 0, none⟩), .agg #[.slice a mm.length c]] (by simp [Act.eval]) (fun _ _ => rfl) CS ?_
  rintro e w3 ⟨s, rfl, hs3, sle, sb1, sb2, scp, p3, hp3, hr3, hb3⟩
  have hb3' : But (w.heap.size + 1 + 1) WA w3 := (But.refl _ _).drew.trans hb3
  have hP3 := hPA.but hb3' (by omega)
  have hS3 := hSA.but hb3' (by omega)
  have hZ3 := hZA.but hb3' (by omega)
  have bw3 := But.below bwA hb3' (by omega)
  have hsn3 := hsnA.but hb3' (by omega)
  have sb1' : P + 1 ≤ s.b1 := by have := HW.out; have e : WA.drew.heap.size = WA.heap.size := rfl; omega
  have sb2' : P + 1 ≤ s.b2 := by have := HW.out; have e : WA.drew.heap.size = WA.heap.size := rfl; omega
  have sz3 : P + 1 ≤ w3.heap.size := by have := HW.out; have := hb3'.size; omega
  have CR := l71Row_any (w.heap.size + 1 + 1) (w.heap.size + 1 + 1) p3 mm.length w3 hsm.pos hsm.three (by omega) hr3
  refine ⟨_, rfl, ?_⟩
  simp only [Act.put, List.setIfInBounds_toArray, List.set_cons_zero, List.set_cons_succ]
  refine hK.out _ _ hP3.c (fun hH3 => ?_)
  clear hK K'
  refine wpAnyH_ready (rs := [8]) (by kernel_rfl) (by simp) ?_
  refine AllReadyH.cons rfl (fun K' hK => ?_) AllReadyH.nil
  refine step_goV (by rfl) (some 19) rfl 27 #[.tmp 15, .tmp 18] _ rfl #[.pointer (some ⟨w.heap.size + 1 + 1, 0, none⟩), .int .i64 mm.length] (by simp [Act.eval]) (fun _ _ => rfl) CR ?_
  rintro e w4 ⟨v4, rfl, gs, hown, hgl, p4, hp4, hr4, hb4⟩
  obtain ⟨ga, gg, gc, rfl, hI, hgg, _⟩ := own_nums hown
  have hP4 := hP3.but hb4 (by omega)
  have hS4 := hS3.but hb4 (by omega)
  have hZ4 := hZ3.but hb4 (by omega)
  have bw4 := But.below bw3 hb4 (by omega)
  have hsn4 := hsn3.but hb4 (by omega)
  have hs4 := hs3.but hb4 (by omega) (by omega)
  have hgg' : P + 1 ≤ gg := by omega
  have hnP : P ≠ w.heap.size := by omega
  have hnP' : P ≠ w.heap.size + 1 := by omega
  refine ⟨_, rfl, ?_⟩
  simp only [Act.put, List.setIfInBounds_toArray, List.set_cons_zero, List.set_cons_succ]
  refine hK.out _ _ hP4.c (fun hH4 => ?_)
  clear hK K'
  refine wpAnyH_ready (rs := [9]) (by kernel_rfl) (by simp) ?_
  refine AllReadyH.cons rfl (fun K' hK => ?_) AllReadyH.nil
  have xc := hS4.c
  have xz := hS4.fz
  rw [if_pos (by rfl)]
  go_simp
  have hP5 := hP4.far (i := 0) (fun e => hnP e.symm) (.slice a mm.length c)
  have hZ5 := hZ4.far (i := 0) (b' := w.heap.size) (by omega) (.slice a mm.length c)
  have hS5 := hS4.set (.slice a mm.length c)
  refine hK.out _ _ hP5.c (fun hH5 => ?_)
  clear hK K' xc xz
  refine wpAnyH_ready (rs := [10]) (by kernel_rfl) (by simp) ?_
  refine AllReadyH.cons rfl (fun K' hK => ?_) AllReadyH.nil
  have xc := hZ5.c0
  have xd := hZ5.c1
  have xz := hZ5.fz
  rw [if_pos (by rfl)]
  go_simp
  refine hK.out _ _ ((hP5.far (fun e => hnP' e.symm) _).far (fun e => hnP' e.symm) _).c (fun hH6 => ?_)
  clear hK K' xc xd xz
  refine takeD 11 (some 4) (.slice ga gs.length gc) hH6 rfl rfl (by kernel_rfl) (by kernel_rfl) (by kernel_rfl) (fun _ _ _ h => h) (Or.inl ⟨by rfl, by intro w' hSw; go_simp⟩) ?_
  simp only [Act.put, List.setIfInBounds_toArray, List.set_cons_zero, List.set_cons_succ]
  refine wpAnyH_done (by kernel_rfl) ?_ _
  have hZ6 := (hZ5.set0 (.slice s.a1 s.l1.length s.c1)).set1 (.slice s.a2 s.l2.length s.c2)
  have hS6 := (hS5.far (b' := w.heap.size + 1) (i := 0) (by omega) (.slice s.a1 s.l1.length s.c1)).far (b' := w.heap.size + 1) (i := 1) (by omega) (.slice s.a2 s.l2.length s.c2)
  have q0 := hS6.c
  have q1 := hZ6.c0
  have q2 := hZ6.c1
  go_wp2_with fail
  refine bodyPost_ret (v := .tuple #[.agg #[.slice a mm.length c], .agg #[.slice s.a1 s.l1.length s.c1, .slice s.a2 s.l2.length s.c2], .slice ga gs.length gc]) (by simp [results, Try.results5, go_sem, q0, q1, q2]) rfl ⟨a, g, c, mm, s, ga, gg, gc, gs, rfl, ⟨((((hsn4.mono (by omega)).far (by omega)).far (by omega)).far (by omega)), hsm, ((hs4.far (fun _ => by omega) (fun _ => by omega)).far (fun _ => by omega) (fun _ => by omega)).far (fun _ => by omega) (fun _ => by omega), sle, scp.2, ((hI.farx (by omega)).farx (by omega)).farx (by omega), by omega, ((bw4.setCell (Nat.le_refl _) _).setCell (by show w.heap.size ≤ w.heap.size + 1; omega) _).setCell (by show w.heap.size ≤ w.heap.size + 1; omega) _⟩⟩

end Go.Proofs.Ytjdpoemlcchfcaa
