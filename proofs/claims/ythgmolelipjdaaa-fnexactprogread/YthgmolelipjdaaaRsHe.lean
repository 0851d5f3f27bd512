/- spec's l1Hear. Of at least one word, and of words of at most 400 bytes. -/
import Derived.Test.YthgmolelipjdaaaRsSp
import Derived.Test.YthgmolelipjdaaaTxW
import Derived.Deep.RegionWith
namespace Go.Proofs.Ythgmolelipjdaaa
open Go.RowKit

theorem M.kindOf_inv {s : List UInt8} {n : Nat} (h : M.kindOf s = n) (h0 : n ≠ 0) : s = (M.word n).data.toList := by
  unfold M.kindOf at h
  repeat' split at h
  all_goals first
    | (rename_i hs; obtain rfl : n = 1 := (by omega); exact hs)
    | (rename_i hs; obtain rfl : n = 2 := (by omega); exact hs)
    | (rename_i hs; obtain rfl : n = 3 := (by omega); exact hs)
    | (rename_i hs; obtain rfl : n = 4 := (by omega); exact hs)
    | (rename_i hs; obtain rfl : n = 5 := (by omega); exact hs)
    | (rename_i hs; obtain rfl : n = 6 := (by omega); exact hs)
    | (rename_i hs; obtain rfl : n = 7 := (by omega); exact hs)
    | (rename_i hs; obtain rfl : n = 8 := (by omega); exact hs)
    | (rename_i hs; obtain rfl : n = 9 := (by omega); exact hs)
    | omega
theorem M.kindOf_rng (s : List UInt8) : 0 ≤ M.kindOf s ∧ M.kindOf s ≤ 9 := by
  unfold M.kindOf
  repeat' split
  all_goals omega
theorem M.one_no {n : Int} {x : List UInt8} (h : x.length ≠ 1) : M.one n (some x) = 0 := by
  match x, h with
  | [], _ => rfl
  | [b], h => exact absurd rfl h
  | _ :: _ :: _, _ => rfl
/-- The kind that was found so far. -/
def M.soFar (K n : Int) : Int := if K < n then K else 0

theorem M.hear_val {ws : List (List UInt8)} {x0 : List UInt8} {p v : Int} (h0 : ws.headD [] = x0) (h1 : M.one 120 ws[1]? = p) (h2 : M.one 48 ws[2]? = v) : Ending.returned (.agg #[.int .i64 (M.kindOf x0), .int .i64 p, .int .i64 v]) = Ending.returned (M.hear ws).val := by
  subst h0; subst h1; subst h2; rfl

/-- A box of three numbers. -/
structure Box3 (w : World) (b : Nat) (x y z : Int) : Prop where
  c0 : w.cell? ⟨b, 0, none⟩ = some (.int .i64 x)
  c1 : w.cell? ⟨b, 1, none⟩ = some (.int .i64 y)
  c2 : w.cell? ⟨b, 2, none⟩ = some (.int .i64 z)
  f0 : w.frozen? ⟨b, 0, none⟩ = false
  f1 : w.frozen? ⟨b, 1, none⟩ = false
  f2 : w.frozen? ⟨b, 2, none⟩ = false
theorem Box3.lt {w : World} {b : Nat} {x y z : Int} (h : Box3 w b x y z) : b < w.heap.size := World.block_lt_of_cell? _ _ h.c0
theorem Box3.bl {w w' : World} {b : Nat} {x y z : Int} (h : Box3 w b x y z) (hb : Below w.heap.size w w') : Box3 w' b x y z := by
  have hl := h.lt
  exact ⟨(hb.cell (p := ⟨b, 0, none⟩) hl).trans h.c0, (hb.cell (p := ⟨b, 1, none⟩) hl).trans h.c1, (hb.cell (p := ⟨b, 2, none⟩) hl).trans h.c2, (hb.frozen (p := ⟨b, 0, none⟩) hl).trans h.f0, (hb.frozen (p := ⟨b, 1, none⟩) hl).trans h.f1, (hb.frozen (p := ⟨b, 2, none⟩) hl).trans h.f2⟩
theorem Box3.far {w : World} {b b' i : Nat} {x y z : Int} (h : Box3 w b x y z) (hne : b' ≠ b) (u : Value) : Box3 (w.setCell ⟨b', i, none⟩ u) b x y z := by
  have e : ∀ j, (w.setCell ⟨b', i, none⟩ u).cell? ⟨b, j, none⟩ = w.cell? ⟨b, j, none⟩ := fun j => World.cell?_setCell_other _ _ _ _ (fun e => hne (congrArg Addr.block e))
  exact ⟨(e 0).trans h.c0, (e 1).trans h.c1, (e 2).trans h.c2, by rw [World.frozen?_setCell]; exact h.f0, by rw [World.frozen?_setCell]; exact h.f1, by rw [World.frozen?_setCell]; exact h.f2⟩
theorem Box3.set0 {w : World} {b : Nat} {x y z : Int} (h : Box3 w b x y z) (u : Int) : Box3 (w.setCell ⟨b, 0, none⟩ (.int .i64 u)) b u y z :=
  ⟨World.cell?_setCell_same _ _ _ h.c0, (World.cell?_setCell_other _ _ _ _ (by simp)).trans h.c1, (World.cell?_setCell_other _ _ _ _ (by simp)).trans h.c2, by rw [World.frozen?_setCell]; exact h.f0, by rw [World.frozen?_setCell]; exact h.f1, by rw [World.frozen?_setCell]; exact h.f2⟩
theorem Box3.set1 {w : World} {b : Nat} {x y z : Int} (h : Box3 w b x y z) (u : Int) : Box3 (w.setCell ⟨b, 1, none⟩ (.int .i64 u)) b x u z :=
  ⟨(World.cell?_setCell_other _ _ _ _ (by simp)).trans h.c0, World.cell?_setCell_same _ _ _ h.c1, (World.cell?_setCell_other _ _ _ _ (by simp)).trans h.c2, by rw [World.frozen?_setCell]; exact h.f0, by rw [World.frozen?_setCell]; exact h.f1, by rw [World.frozen?_setCell]; exact h.f2⟩
theorem Box3.set2 {w : World} {b : Nat} {x y z : Int} (h : Box3 w b x y z) (u : Int) : Box3 (w.setCell ⟨b, 2, none⟩ (.int .i64 u)) b x y u :=
  ⟨(World.cell?_setCell_other _ _ _ _ (by simp)).trans h.c0, (World.cell?_setCell_other _ _ _ _ (by simp)).trans h.c1, World.cell?_setCell_same _ _ _ h.c2, by rw [World.frozen?_setCell]; exact h.f0, by rw [World.frozen?_setCell]; exact h.f1, by rw [World.frozen?_setCell]; exact h.f2⟩

/-- Texts in memory. -/
structure StrS (w : World) (g : Nat) (ws : List (List UInt8)) : Prop where
  row : ∀ i x, ws[i]? = some x → w.cell? ⟨g, i, none⟩ = some (.string ⟨x.toArray⟩)
theorem StrS.bl {w w' : World} {g B : Nat} {ws : List (List UInt8)} (h : StrS w g ws) (hb : Below B w w') (hB : w.heap.size ≤ B) : StrS w' g ws :=
  ⟨fun i x hx => (hb.cell (p := ⟨g, i, none⟩) (Nat.lt_of_lt_of_le (World.block_lt_of_cell? _ _ (h.row i x hx)) hB)).trans (h.row i x hx)⟩
theorem StrS.far {w : World} {g b i : Nat} {ws : List (List UInt8)} (h : StrS w g ws) (hne : b ≠ g) (u : Value) : StrS (w.setCell ⟨b, i, none⟩ u) g ws :=
  ⟨fun j x hx => (World.cell?_setCell_other _ _ _ _ (fun e => hne (congrArg Addr.block e))).trans (h.row j x hx)⟩

set_option maxHeartbeats 2000000 in
set_option maxRecDepth 10000 in
theorem l1Hear_any (g cp : Nat) (ws : List (List UInt8)) (w : World) (hw0 : ws ≠ []) (hl : ws.length ≤ 1000) (h : StrS w g ws) :
    Calls Try.prog 38 #[.slice (some ⟨g, 0, none⟩) ws.length cp] w fun e w' => e = .returned (M.hear ws).val ∧ Below w.heap.size w w' := by
  have hpos : 0 < ws.length := List.length_pos_iff.2 hw0
  obtain ⟨x0, hx0⟩ : ∃ x0, ws[0]? = some x0 := ⟨_, List.getElem?_eq_getElem hpos⟩
  have hh0 : ws.headD [] = x0 := by rw [List.headD_eq_head?_getD, List.head?_eq_getElem?, hx0]; rfl
  have hgl : g < w.heap.size := World.block_lt_of_cell? _ _ (h.row 0 x0 hx0)
  have hkr := M.kindOf_rng x0
  go_enter Try.func38, Try.ntmps38
  go_wp2_with fail
  go_loopw [4] (fun s4 wr => ∃ n : Nat, s4 = .int .i64 n ∧ 1 ≤ n ∧ n ≤ 10 ∧ Box3 wr (w.heap.size + 1) (M.soFar (M.kindOf x0) n) 0 0 ∧ Box3 wr w.heap.size 0 0 0 ∧ Below w.heap.size w wr) (fun s4 _ => 10 - (intOf s4).toNat)
  case atStart =>
    refine ⟨1, rfl, Nat.le_refl _, by omega, ?_, ?_, below2 _ _ _⟩
    · have : M.soFar (M.kindOf x0) (1 : Nat) = 0 := by unfold M.soFar; split <;> omega
      rw [this]
      exact ⟨by simp, by simp, by simp, by simp, by simp, by simp⟩
    · exact ⟨by simp, by simp, by simp, by simp, by simp, by simp⟩
  case round =>
    obtain ⟨n, rfl, h1, h10, hD, hR, hbel⟩ := hrel
    have hSr := h.bl hbel (Nat.le_refl _)
    have hlD := hD.lt
    by_cases h9 : n ≤ 9
    · have hwc := wordCells_at n h9
      have cw := hSr.row 0 x0 hx0
      have hglr : g < wr.heap.size := World.block_lt_of_cell? _ _ cw
      have i1 : (0 : Int) < ws.length := by omega
      have i2 : (n : Int) < 10 := by omega
      by_cases hk : x0 = (M.word n).data.toList
      · have hkk := M.kindOf_is n h1 h9 hk
        have hbe : ((M.word n).toList == x0) = true := by rw [ByteArray.toList_eq, beq_iff_eq]; exact hk.symm
        have d0 := hD.c0
        have df := hD.f0
        go_wp2_with fail
        go_region_with (go_at_call 52; refine (l1Words_any _).mono ?_; rintro e w1 ⟨rfl, rfl⟩)
        all_goals
          go_wp2_with fail
          have e : M.soFar (M.kindOf x0) ((n + 1 : Nat) : Int) = n := by unfold M.soFar; rw [if_pos (by omega)]; omega
          refine ⟨⟨n + 1, by go_num, by omega, by omega, ?_, ?_, ?_⟩, by simp [intOf]; omega⟩
          · rw [e]
            exact ((hD.set0 n).bl (below1 _ _)).bl (Below.refl _ _).drew
          · exact ((hR.far (b' := w.heap.size + 1) (i := 0) (by omega) _).bl (below1 _ _)).bl (Below.refl _ _).drew
          · exact ((hbel.setCell (p := ⟨w.heap.size + 1, 0, none⟩) (by show w.heap.size ≤ w.heap.size + 1; omega) _).alloc (by have := hbel.size; simp; omega) _).drew
      · have hkn : M.kindOf x0 ≠ n := fun e => hk (M.kindOf_inv e (by omega))
        have hbe : ((M.word n).toList == x0) = false := by rw [ByteArray.toList_eq, beq_eq_false_iff_ne]; exact fun e => hk e.symm
        go_wp2_with fail
        go_region_with (go_at_call 52; refine (l1Words_any _).mono ?_; rintro e w1 ⟨rfl, rfl⟩)
        all_goals
          go_wp2_with fail
          have e : M.soFar (M.kindOf x0) ((n + 1 : Nat) : Int) = M.soFar (M.kindOf x0) n := by
            unfold M.soFar
            by_cases hh : M.kindOf x0 < n
            · rw [if_pos hh, if_pos (by omega)]
            · rw [if_neg hh, if_neg (by omega)]
          refine ⟨⟨n + 1, by go_num, by omega, by omega, ?_, ?_, ?_⟩, by simp [intOf]; omega⟩
          · rw [e]
            exact (hD.bl (below1 _ _)).bl (Below.refl _ _).drew
          · exact (hR.bl (below1 _ _)).bl (Below.refl _ _).drew
          · exact (hbel.alloc hbel.size _).drew
    · have hn10 : n = 10 := by omega
      subst hn10
      have e : M.soFar (M.kindOf x0) ((10 : Nat) : Int) = M.kindOf x0 := by unfold M.soFar; rw [if_pos (by omega)]
      rw [e] at hD
      have d0 := hD.c0; have d1 := hD.c1; have d2 := hD.c2; have df0 := hD.f0; have df1 := hD.f1; have df2 := hD.f2
      have r0 := hR.c0; have r1 := hR.c1; have r2 := hR.c2; have rf0 := hR.f0; have rf1 := hR.f1; have rf2 := hR.f2
      clear e
      by_cases hl1 : ws.length ≤ 1
      · have g1 : decide ((1 : Int) < ws.length) = false := by simp; omega
        have g2 : decide ((2 : Int) < ws.length) = false := by simp; omega
        have w1 : ws[1]? = none := List.getElem?_eq_none (by omega)
        have w2 : ws[2]? = none := List.getElem?_eq_none (by omega)
        go_wp2_with fail
        have hZ := (((hR).set0 (M.kindOf x0)).set1 (0)).set2 (0)
        have z0 := hZ.c0; have z1 := hZ.c1; have z2 := hZ.c2
        exact bodyPost_ret (v := .agg #[.int .i64 (M.kindOf x0), .int .i64 (0), .int .i64 (0)]) (by simp [results, Try.results38, go_sem, z0, z1, z2]) rfl ⟨M.hear_val hh0 (by rw [w1]; rfl) (by rw [w2]; rfl), ((hbel.setCell (Nat.le_refl _) _).setCell (Nat.le_refl _) _).setCell (Nat.le_refl _) _⟩
      · have g1 : decide ((1 : Int) < ws.length) = true := by simp; omega
        have g1' : (1 : Int) < ws.length := by omega
        obtain ⟨x1, w1⟩ : ∃ x1, ws[1]? = some x1 := ⟨_, List.getElem?_eq_getElem (by omega)⟩
        have k1 := hSr.row 1 x1 w1
        by_cases hx1 : x1.length = 1
        · obtain ⟨b, rfl⟩ : ∃ b, x1 = [b] := List.length_eq_one_iff.1 hx1
          have hg1 : (⟨#[b]⟩ : ByteArray)[0]'(by simp [ByteArray.size]) = b := rfl
          have hb1 := b.toNat_lt
          have wb1 : wrap64 ((b.toNat : Int) - 120) = b.toNat - 120 := by unfold wrap64; omega
          have wc1 : wrap64 (b.toNat : Int) = b.toNat := by unfold wrap64; omega
          by_cases hl2 : ws.length ≤ 2
          · have g2 : decide ((2 : Int) < ws.length) = false := by simp; omega
            have w2 : ws[2]? = none := List.getElem?_eq_none (by omega)
            go_wp2_with fail
            have hZ := ((((hR.far (b' := w.heap.size + 1) (i := 1) (by omega) (.int .i64 ((b.toNat : Int) - 120)))).set0 (M.kindOf x0)).set1 ((b.toNat : Int) - 120)).set2 (0)
            have z0 := hZ.c0; have z1 := hZ.c1; have z2 := hZ.c2
            exact bodyPost_ret (v := .agg #[.int .i64 (M.kindOf x0), .int .i64 ((b.toNat : Int) - 120), .int .i64 (0)]) (by simp [results, Try.results38, go_sem, z0, z1, z2]) rfl ⟨M.hear_val hh0 (by rw [w1]; rfl) (by rw [w2]; rfl), (((hbel.setCell (p := ⟨w.heap.size + 1, 1, none⟩) (by show w.heap.size ≤ w.heap.size + 1; omega) (.int .i64 ((b.toNat : Int) - 120))).setCell (Nat.le_refl _) _).setCell (Nat.le_refl _) _).setCell (Nat.le_refl _) _⟩
          · have g2 : decide ((2 : Int) < ws.length) = true := by simp; omega
            have g2' : (2 : Int) < ws.length := by omega
            obtain ⟨x2, w2⟩ : ∃ x2, ws[2]? = some x2 := ⟨_, List.getElem?_eq_getElem (by omega)⟩
            have k2 := hSr.row 2 x2 w2
            by_cases hx2 : x2.length = 1
            · obtain ⟨b2, rfl⟩ : ∃ b2, x2 = [b2] := List.length_eq_one_iff.1 hx2
              have hg2 : (⟨#[b2]⟩ : ByteArray)[0]'(by simp [ByteArray.size]) = b2 := rfl
              have hb2 := b2.toNat_lt
              have wb2 : wrap64 ((b2.toNat : Int) - 48) = b2.toNat - 48 := by unfold wrap64; omega
              have wc2 : wrap64 (b2.toNat : Int) = b2.toNat := by unfold wrap64; omega
              go_wp2_with fail
              have hZ := (((((hR.far (b' := w.heap.size + 1) (i := 1) (by omega) (.int .i64 ((b.toNat : Int) - 120))).far (b' := w.heap.size + 1) (i := 2) (by omega) (.int .i64 ((b2.toNat : Int) - 48)))).set0 (M.kindOf x0)).set1 ((b.toNat : Int) - 120)).set2 ((b2.toNat : Int) - 48)
              have z0 := hZ.c0; have z1 := hZ.c1; have z2 := hZ.c2
              exact bodyPost_ret (v := .agg #[.int .i64 (M.kindOf x0), .int .i64 ((b.toNat : Int) - 120), .int .i64 ((b2.toNat : Int) - 48)]) (by simp [results, Try.results38, go_sem, z0, z1, z2]) rfl ⟨M.hear_val hh0 (by rw [w1]; rfl) (by rw [w2]; rfl), ((((hbel.setCell (p := ⟨w.heap.size + 1, 1, none⟩) (by show w.heap.size ≤ w.heap.size + 1; omega) (.int .i64 ((b.toNat : Int) - 120))).setCell (p := ⟨w.heap.size + 1, 2, none⟩) (by show w.heap.size ≤ w.heap.size + 1; omega) (.int .i64 ((b2.toNat : Int) - 48))).setCell (Nat.le_refl _) _).setCell (Nat.le_refl _) _).setCell (Nat.le_refl _) _⟩
            · have e2 : ((x2.length : Int) == 1) = false := by simp; omega
              have o2 : M.one 48 (some x2) = 0 := M.one_no hx2
              go_wp2_with fail
              have hZ := ((((hR.far (b' := w.heap.size + 1) (i := 1) (by omega) (.int .i64 ((b.toNat : Int) - 120)))).set0 (M.kindOf x0)).set1 ((b.toNat : Int) - 120)).set2 (0)
              have z0 := hZ.c0; have z1 := hZ.c1; have z2 := hZ.c2
              exact bodyPost_ret (v := .agg #[.int .i64 (M.kindOf x0), .int .i64 ((b.toNat : Int) - 120), .int .i64 (0)]) (by simp [results, Try.results38, go_sem, z0, z1, z2]) rfl ⟨M.hear_val hh0 (by rw [w1]; rfl) (by rw [w2, o2]), (((hbel.setCell (p := ⟨w.heap.size + 1, 1, none⟩) (by show w.heap.size ≤ w.heap.size + 1; omega) (.int .i64 ((b.toNat : Int) - 120))).setCell (Nat.le_refl _) _).setCell (Nat.le_refl _) _).setCell (Nat.le_refl _) _⟩
        · have e1 : ((x1.length : Int) == 1) = false := by simp; omega
          have o1 : M.one 120 (some x1) = 0 := M.one_no hx1
          by_cases hl2 : ws.length ≤ 2
          · have g2 : decide ((2 : Int) < ws.length) = false := by simp; omega
            have w2 : ws[2]? = none := List.getElem?_eq_none (by omega)
            go_wp2_with fail
            have hZ := (((hR).set0 (M.kindOf x0)).set1 (0)).set2 (0)
            have z0 := hZ.c0; have z1 := hZ.c1; have z2 := hZ.c2
            exact bodyPost_ret (v := .agg #[.int .i64 (M.kindOf x0), .int .i64 (0), .int .i64 (0)]) (by simp [results, Try.results38, go_sem, z0, z1, z2]) rfl ⟨M.hear_val hh0 (by rw [w1, o1]) (by rw [w2]; rfl), ((hbel.setCell (Nat.le_refl _) _).setCell (Nat.le_refl _) _).setCell (Nat.le_refl _) _⟩
          · have g2 : decide ((2 : Int) < ws.length) = true := by simp; omega
            have g2' : (2 : Int) < ws.length := by omega
            obtain ⟨x2, w2⟩ : ∃ x2, ws[2]? = some x2 := ⟨_, List.getElem?_eq_getElem (by omega)⟩
            have k2 := hSr.row 2 x2 w2
            by_cases hx2 : x2.length = 1
            · obtain ⟨b2, rfl⟩ : ∃ b2, x2 = [b2] := List.length_eq_one_iff.1 hx2
              have hg2 : (⟨#[b2]⟩ : ByteArray)[0]'(by simp [ByteArray.size]) = b2 := rfl
              have hb2 := b2.toNat_lt
              have wb2 : wrap64 ((b2.toNat : Int) - 48) = b2.toNat - 48 := by unfold wrap64; omega
              have wc2 : wrap64 (b2.toNat : Int) = b2.toNat := by unfold wrap64; omega
              go_wp2_with fail
              have hZ := ((((hR.far (b' := w.heap.size + 1) (i := 2) (by omega) (.int .i64 ((b2.toNat : Int) - 48)))).set0 (M.kindOf x0)).set1 (0)).set2 ((b2.toNat : Int) - 48)
              have z0 := hZ.c0; have z1 := hZ.c1; have z2 := hZ.c2
              exact bodyPost_ret (v := .agg #[.int .i64 (M.kindOf x0), .int .i64 (0), .int .i64 ((b2.toNat : Int) - 48)]) (by simp [results, Try.results38, go_sem, z0, z1, z2]) rfl ⟨M.hear_val hh0 (by rw [w1, o1]) (by rw [w2]; rfl), (((hbel.setCell (p := ⟨w.heap.size + 1, 2, none⟩) (by show w.heap.size ≤ w.heap.size + 1; omega) (.int .i64 ((b2.toNat : Int) - 48))).setCell (Nat.le_refl _) _).setCell (Nat.le_refl _) _).setCell (Nat.le_refl _) _⟩
            · have e2 : ((x2.length : Int) == 1) = false := by simp; omega
              have o2 : M.one 48 (some x2) = 0 := M.one_no hx2
              go_wp2_with fail
              have hZ := (((hR).set0 (M.kindOf x0)).set1 (0)).set2 (0)
              have z0 := hZ.c0; have z1 := hZ.c1; have z2 := hZ.c2
              exact bodyPost_ret (v := .agg #[.int .i64 (M.kindOf x0), .int .i64 (0), .int .i64 (0)]) (by simp [results, Try.results38, go_sem, z0, z1, z2]) rfl ⟨M.hear_val hh0 (by rw [w1, o1]) (by rw [w2, o2]), ((hbel.setCell (Nat.le_refl _) _).setCell (Nat.le_refl _) _).setCell (Nat.le_refl _) _⟩

end Go.Proofs.Ythgmolelipjdaaa
