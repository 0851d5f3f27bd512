/- spec.DrawSeenIn: what was seen, drawn several times, and once. Of codes of at most 1048576 bytes. -/
import Derived.Test.YtfekeknnphoelabDrSs
import Derived.Test.YtfekeknnphoelabDrOp
namespace Go.Proofs.Ytfekeknnphoelab
open Go.RowKit

theorem SR.ks {w : World} {g : Nat} {ss : List Sn} (h : SR w g ss) (ho : ∀ s ∈ ss, Off w g s) : KS w (some ⟨g, 0, none⟩) g 0 (kys ss) := by
  refine ⟨fun _ => rfl, fun i hi => ?_⟩
  have hi' : i < ss.length := by simpa [kys] using hi
  obtain ⟨c1, c2⟩ := h.c i hi'
  exact ⟨ss[i], by simp [kys, Sn.ky], by simp [kys, Sn.ky], by rw [Nat.zero_add]; exact c1, by rw [Nat.zero_add]; exact c2, (ho _ (List.getElem_mem hi')).at_⟩
theorem kle_of {w : World} {g : Nat} {ss : List Sn} (ho : ∀ s ∈ ss, Off w g s) : KLe (kys ss) 1048576 := fun k hk => by
  obtain ⟨s, hs, rfl⟩ := List.mem_map.1 hk
  exact ⟨(ho s hs).le.reads, (ho s hs).le.last⟩
/-- A row and what lies in it, behind a store elsewhere. -/
theorem SR.far {W : World} {g b i : Nat} {ss : List Sn} {u : Value} (h : SR W g ss) (hne : g ≠ b) : SR (W.setCell ⟨b, i, none⟩ u) g ss :=
  ⟨fun j hj => ⟨(World.cell?_setCell_other _ _ _ _ (fun e => hne (congrArg Addr.block e).symm)).trans (h.c j hj).1, (World.cell?_setCell_other _ _ _ _ (fun e => hne (congrArg Addr.block e).symm)).trans (h.c j hj).2⟩, fun j => by rw [World.frozen?_setCell]; exact h.fz j⟩
theorem Off.elsewhere {W : World} {g b i : Nat} {s : Sn} {u : Value} (h : Off W g s) (h1 : 0 < s.l1.length → s.b1 ≠ b) (h2 : 0 < s.l2.length → s.b2 ≠ b) : Off (W.setCell ⟨b, i, none⟩ u) g s := ⟨h.at_.far h1 h2, h.le, h.n1, h.n2⟩

set_option maxHeartbeats 4000000 in
set_option maxRecDepth 100000 in
theorem DrawSeenIn_any (ca : Option Addr) (cb co L C : Nat) (x : Nat → Int) (w : World) (hL : L ≤ C) (had : 0 < L → ca = some ⟨cb, co, none⟩) (hc : ∀ i, i < L → w.cell? ⟨cb, co + i, none⟩ = some (.int .u8 (x i)) ∧ 0 ≤ x i ∧ x i ≤ 255) (hLb : L ≤ 1048576) :
    Calls Try.prog 14 #[.slice ca L C] w fun e w' => ∃ (g cap : Nat) (ss : List Sn) (s : Sn), e = .returned (.tuple #[.slice (some ⟨g, 0, none⟩) ss.length cap, .agg #[.slice s.a1 s.l1.length s.c1, .slice s.a2 s.l2.length s.c2]]) ∧ SR w' g ss ∧ (∀ t ∈ ss, Off w' g t) ∧ s.At w' ∧ s.Le 1048576 ∧ ss.length ≤ 12 ∧ g < w'.heap.size ∧ Below w.heap.size w w' := by
  go_enter Try.func14, Try.ntmps14
  go_wp2_with fail
  have hb0 := below1 w (.cells #[.slice none 0 0, .slice none 0 0] 30)
  have hc0 : ∀ i, i < L → (w.alloc (.cells #[.slice none 0 0, .slice none 0 0] 30)).cell? ⟨cb, co + i, none⟩ = some (.int .u8 (x i)) ∧ 0 ≤ x i ∧ x i ≤ 255 := fun i hi => ⟨(hb0.cell (p := ⟨cb, co + i, none⟩) (World.block_lt_of_cell? _ _ (hc i hi).1)).trans (hc i hi).1, (hc i hi).2⟩
  have hR0 : Slot2 (w.alloc (.cells #[.slice none 0 0, .slice none 0 0] 30)) w.heap.size (.slice none 0 0) (.slice none 0 0) := ⟨alloc_new _ _ _ rfl⟩
  have hsz : (w.alloc (.cells #[.slice none 0 0, .slice none 0 0] 30)).heap.size = w.heap.size + 1 := by simp only [World.size_alloc]
  generalize w.alloc (.cells #[.slice none 0 0, .slice none 0 0] 30) = W0 at *
  refine (l6Open_any ca cb co L C x _ hL had hc0 hLb).mono ?_
  rintro e w1 ⟨rfl, hr1, hb1⟩
  rw [hsz] at hr1 ⊢
  have hlt1 := hr1.lt
  have hbw1 : Below w.heap.size w w1 := hb0.trans (hb1.mono (by omega))
  have hR1 := hR0.of (hb1.block w.heap.size (by omega))
  have hc1 : ∀ i, i < L → w1.cell? ⟨cb, co + i, none⟩ = some (.int .u8 (x i)) ∧ 0 ≤ x i ∧ x i ≤ 255 := fun i hi => ⟨(hb1.cell (p := ⟨cb, co + i, none⟩) (World.block_lt_of_cell? _ _ (hc0 i hi).1)).trans (hc0 i hi).1, (hc i hi).2⟩
  clear hc0 hR0
  go_wp2_with fail
  refine (DrawSeenSort_any ca cb co L C x w1 hL had hc1 hLb).mono ?_
  rintro e w2 ⟨g, cap, ss, rfl, hSR, hoff, hcap, hl12, hglt, hgge, hhi, hb2⟩
  have hr2 := hr1.below hb2 (Nat.le_refl _)
  have hR2 := hR1.of (hb2.block w.heap.size (by omega))
  have hbw2 : Below w.heap.size w w2 := hbw1.trans (hb2.mono hbw1.size)
  clear hc1 hc had hr1 hR1 hb1
  have hfar : ∀ {W : World} (_ : But (w.heap.size + 1) w2 W), SR W g ss ∧ (∀ t ∈ ss, Off W g t) := fun {W} hb => by
    refine ⟨⟨fun i hi => ?_, fun j => ?_⟩, fun t ht => ?_⟩
    · obtain ⟨c1, c2⟩ := hSR.c i hi
      exact ⟨(hb.cell (p := ⟨g, i * 2, none⟩) hglt (by show g ≠ _; omega)).trans c1, (hb.cell (p := ⟨g, i * 2 + 1, none⟩) hglt (by show g ≠ _; omega)).trans c2⟩
    · exact (hb.frozen (p := ⟨g, j, none⟩) hglt (by show g ≠ _; omega)).trans (hSR.fz j)
    · have := hhi t ht
      exact (hoff t ht).but' hb (by omega) (by omega)
  by_cases h0 : 0 < ss.length
  · have h0' : (0 : Int) < ss.length := by omega
    go_wp2_with fail
    refine (pick_rdr _ (w.heap.size + 1) 0 _ _ (by omega) (by omega) (by omega) hr2).mono ?_
    rintro e w3 ⟨r3, rfl, r30, r31, hr3, hb3⟩
    obtain ⟨hSR3, hoff3⟩ := hfar hb3
    have hR3 := hR2.but hb3 (by omega)
    have hbw3 : Below w.heap.size w w3 := But.below hbw2 hb3 (by omega)
    by_cases hr0 : 0 < r3
    · go_wp2_with fail
      obtain ⟨q, hq⟩ : ∃ q, ss.length / 2 = q := ⟨_, rfl⟩
      have hql : q < ss.length := by omega
      have hqi : (ss.length : Int).tdiv 2 = q := by rw [Int.tdiv_eq_ediv_of_nonneg (by omega)]; omega
      have hql' : (q : Int) < ss.length := by omega
      obtain ⟨c1, c2⟩ := hSR3.c q hql
      have hoq := hoff3 _ (List.getElem_mem hql)
      have hhq := hhi _ (List.getElem_mem hql)
      generalize ss[q] = s at c1 c2 hoq hhq
      have R0 := hR3.c0
      have R1 := hR3.c1
      have Rf := hR3.fz
      have gl := hR3.lt
      have glt := World.block_lt_of_cell? _ _ c1
      have hg3 : g < w3.heap.size := Nat.lt_of_lt_of_le hglt hb3.size
      clear hfar
      go_region
      have hS5 := ((hSR3.far (b := w.heap.size) (i := 0) (u := .slice s.a1 s.l1.length s.c1) (by omega)).far (b := w.heap.size) (i := 1) (u := .slice s.a2 s.l2.length s.c2) (by omega))
      have hO5 : ∀ t ∈ ss, Off ((w3.setCell ⟨w.heap.size, 0, none⟩ (.slice s.a1 s.l1.length s.c1)).setCell ⟨w.heap.size, 1, none⟩ (.slice s.a2 s.l2.length s.c2)) g t := fun t ht => by
        have := hhi t ht
        exact ((hoff3 t ht).elsewhere (fun _ => by omega) (fun _ => by omega)).elsewhere (fun _ => by omega) (fun _ => by omega)
      have hsF : s.At ((w3.setCell ⟨w.heap.size, 0, none⟩ (.slice s.a1 s.l1.length s.c1)).setCell ⟨w.heap.size, 1, none⟩ (.slice s.a2 s.l2.length s.c2)) := (hoq.at_.far (fun _ => by omega) (fun _ => by omega)).far (fun _ => by omega) (fun _ => by omega)
      have hRF := (hR3.set0 (.slice s.a1 s.l1.length s.c1)).set1 (.slice s.a2 s.l2.length s.c2)
      have hbF := (hbw3.setCell (p := ⟨w.heap.size, 0, none⟩) (Nat.le_refl _) (.slice s.a1 s.l1.length s.c1)).setCell (p := ⟨w.heap.size, 1, none⟩) (Nat.le_refl _) (.slice s.a2 s.l2.length s.c2)
      have hgF : g < ((w3.setCell ⟨w.heap.size, 0, none⟩ (.slice s.a1 s.l1.length s.c1)).setCell ⟨w.heap.size, 1, none⟩ (.slice s.a2 s.l2.length s.c2)).heap.size := by simp [World.setCell]; omega
      have q0 := hRF.c0
      have q1 := hRF.c1
      generalize (w3.setCell ⟨w.heap.size, 0, none⟩ (.slice s.a1 s.l1.length s.c1)).setCell ⟨w.heap.size, 1, none⟩ (.slice s.a2 s.l2.length s.c2) = F at *
      go_wp2_with fail
      refine bodyPost_ret (v := .tuple #[.slice (some ⟨g, 0, none⟩) ss.length cap, .agg #[.slice s.a1 s.l1.length s.c1, .slice s.a2 s.l2.length s.c2]]) (by simp [results, Try.results14, go_sem, q0, q1]) rfl ⟨g, cap, ss, s, rfl, hS5.below (Below.refl _ _).drew hgF, fun t ht => (hO5 t ht).below (Below.refl _ _).drew, hsF.below (Below.refl _ _).drew (Nat.le_refl _), hoq.le, hl12, hgF, hbF.drew⟩
    · have hr0' : ¬ (0 : Int) < r3 := hr0
      go_wp2_with fail
      refine (l71Prog_any _ (w.heap.size + 1) (0 + 1) _ (by omega) hr3).mono ?_
      rintro e w4 ⟨ll, vs, v, rfl, hB4, hprog, _, _, p4, hp4, hr4, hb4⟩
      obtain ⟨h3, h7⟩ := M.prog_le hprog
      have hnr : M.nreads ll ≤ 21 := by rw [M.nreads_ok hprog]; have := M.tot_le M.reads h3 h7; omega
      obtain ⟨a, g0, c, rfl, hss⟩ := hB4.ss
      go_wp2_with fail
      refine (l71Seen_any _ (w.heap.size + 1) p4 a g0 0 c ll _ (by omega) (by omega) (fun t ht => by have := h7 t ht; omega) hnr hr4 hss).mono ?_
      rintro e w5 ⟨s, rfl, hs5, sle, sb1, sb2, _, p5, hp5, hr5, hb5⟩
      have hbb : But (w.heap.size + 1) w2 w5 := (hb3.trans hb4).trans hb5
      obtain ⟨hSR5, hoff5⟩ := hfar hbb
      have hR5 := hR2.but hbb (by omega)
      have hbw5 : Below w.heap.size w w5 := But.below hbw2 hbb (by omega)
      have hg5 : g < w5.heap.size := Nat.lt_of_lt_of_le hglt hbb.size
      have hlt4 := hr4.lt
      have R0 := hR5.c0
      have R1 := hR5.c1
      have Rf := hR5.fz
      have gl := hR5.lt
      clear hfar
      go_wp2_with fail
      have hS5 := ((hSR5.far (b := w.heap.size) (i := 0) (u := .slice s.a1 s.l1.length s.c1) (by omega)).far (b := w.heap.size) (i := 1) (u := .slice s.a2 s.l2.length s.c2) (by omega))
      have hO5 : ∀ t ∈ ss, Off ((w5.setCell ⟨w.heap.size, 0, none⟩ (.slice s.a1 s.l1.length s.c1)).setCell ⟨w.heap.size, 1, none⟩ (.slice s.a2 s.l2.length s.c2)) g t := fun t ht => by
        have := hhi t ht
        exact ((hoff5 t ht).elsewhere (fun _ => by omega) (fun _ => by omega)).elsewhere (fun _ => by omega) (fun _ => by omega)
      have hsF : s.At ((w5.setCell ⟨w.heap.size, 0, none⟩ (.slice s.a1 s.l1.length s.c1)).setCell ⟨w.heap.size, 1, none⟩ (.slice s.a2 s.l2.length s.c2)) := (hs5.far (fun _ => by omega) (fun _ => by omega)).far (fun _ => by omega) (fun _ => by omega)
      have hRF := (hR5.set0 (.slice s.a1 s.l1.length s.c1)).set1 (.slice s.a2 s.l2.length s.c2)
      have hbF := (hbw5.setCell (p := ⟨w.heap.size, 0, none⟩) (Nat.le_refl _) (.slice s.a1 s.l1.length s.c1)).setCell (p := ⟨w.heap.size, 1, none⟩) (Nat.le_refl _) (.slice s.a2 s.l2.length s.c2)
      have hgF : g < ((w5.setCell ⟨w.heap.size, 0, none⟩ (.slice s.a1 s.l1.length s.c1)).setCell ⟨w.heap.size, 1, none⟩ (.slice s.a2 s.l2.length s.c2)).heap.size := by simp [World.setCell]; omega
      have q0 := hRF.c0
      have q1 := hRF.c1
      generalize (w5.setCell ⟨w.heap.size, 0, none⟩ (.slice s.a1 s.l1.length s.c1)).setCell ⟨w.heap.size, 1, none⟩ (.slice s.a2 s.l2.length s.c2) = F at *
      go_wp2_with fail
      refine bodyPost_ret (v := .tuple #[.slice (some ⟨g, 0, none⟩) ss.length cap, .agg #[.slice s.a1 s.l1.length s.c1, .slice s.a2 s.l2.length s.c2]]) (by simp [results, Try.results14, go_sem, q0, q1]) rfl ⟨g, cap, ss, s, rfl, hS5, hO5, hsF, sle.mono (by decide), hl12, hgF, hbF⟩
  · have h0' : ¬ (0 : Int) < ss.length := by omega
    have hd0 : decide ((0 : Int) < ss.length) = false := by simpa using h0'
    go_wp2_with fail
    refine (l71Prog_any _ (w.heap.size + 1) 0 _ (by omega) hr2).mono ?_
    rintro e w4 ⟨ll, vs, v, rfl, hB4, hprog, _, _, p4, hp4, hr4, hb4⟩
    obtain ⟨h3, h7⟩ := M.prog_le hprog
    have hnr : M.nreads ll ≤ 21 := by rw [M.nreads_ok hprog]; have := M.tot_le M.reads h3 h7; omega
    obtain ⟨a, g0, c, rfl, hss⟩ := hB4.ss
    go_wp2_with fail
    refine (l71Seen_any _ (w.heap.size + 1) p4 a g0 0 c ll _ (by omega) (by omega) (fun t ht => by have := h7 t ht; omega) hnr hr4 hss).mono ?_
    rintro e w5 ⟨s, rfl, hs5, sle, sb1, sb2, _, p5, hp5, hr5, hb5⟩
    have hbb : But (w.heap.size + 1) w2 w5 := ((But.refl _ _).trans hb4).trans hb5
    obtain ⟨hSR5, hoff5⟩ := hfar hbb
    have hR5 := hR2.but hbb (by omega)
    have hbw5 : Below w.heap.size w w5 := But.below hbw2 hbb (by omega)
    have hg5 : g < w5.heap.size := Nat.lt_of_lt_of_le hglt hbb.size
    have hlt4 := hr4.lt
    have R0 := hR5.c0
    have R1 := hR5.c1
    have Rf := hR5.fz
    have gl := hR5.lt
    clear hfar
    go_wp2_with fail
    have hS5 := ((hSR5.far (b := w.heap.size) (i := 0) (u := .slice s.a1 s.l1.length s.c1) (by omega)).far (b := w.heap.size) (i := 1) (u := .slice s.a2 s.l2.length s.c2) (by omega))
    have hO5 : ∀ t ∈ ss, Off ((w5.setCell ⟨w.heap.size, 0, none⟩ (.slice s.a1 s.l1.length s.c1)).setCell ⟨w.heap.size, 1, none⟩ (.slice s.a2 s.l2.length s.c2)) g t := fun t ht => by
      have := hhi t ht
      exact ((hoff5 t ht).elsewhere (fun _ => by omega) (fun _ => by omega)).elsewhere (fun _ => by omega) (fun _ => by omega)
    have hsF : s.At ((w5.setCell ⟨w.heap.size, 0, none⟩ (.slice s.a1 s.l1.length s.c1)).setCell ⟨w.heap.size, 1, none⟩ (.slice s.a2 s.l2.length s.c2)) := (hs5.far (fun _ => by omega) (fun _ => by omega)).far (fun _ => by omega) (fun _ => by omega)
    have hRF := (hR5.set0 (.slice s.a1 s.l1.length s.c1)).set1 (.slice s.a2 s.l2.length s.c2)
    have hbF := (hbw5.setCell (p := ⟨w.heap.size, 0, none⟩) (Nat.le_refl _) (.slice s.a1 s.l1.length s.c1)).setCell (p := ⟨w.heap.size, 1, none⟩) (Nat.le_refl _) (.slice s.a2 s.l2.length s.c2)
    have hgF : g < ((w5.setCell ⟨w.heap.size, 0, none⟩ (.slice s.a1 s.l1.length s.c1)).setCell ⟨w.heap.size, 1, none⟩ (.slice s.a2 s.l2.length s.c2)).heap.size := by simp [World.setCell]; omega
    have q0 := hRF.c0
    have q1 := hRF.c1
    generalize (w5.setCell ⟨w.heap.size, 0, none⟩ (.slice s.a1 s.l1.length s.c1)).setCell ⟨w.heap.size, 1, none⟩ (.slice s.a2 s.l2.length s.c2) = F at *
    go_wp2_with fail
    refine bodyPost_ret (v := .tuple #[.slice (some ⟨g, 0, none⟩) ss.length cap, .agg #[.slice s.a1 s.l1.length s.c1, .slice s.a2 s.l2.length s.c2]]) (by simp [results, Try.results14, go_sem, q0, q1]) rfl ⟨g, cap, ss, s, rfl, hS5, hO5, hsF, sle.mono (by decide), hl12, hgF, hbF⟩

end Go.Proofs.Ytfekeknnphoelab
