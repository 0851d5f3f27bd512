/- The law FnShapeOdd, walked: it answers true, and leaves all as it was. Of whatever code. Small facts for the rows' proofs. No condition. What an argument of a law reads as: a code, bytes in memory. No condition. -/
import Derived.Test.YtiaibfalmmnipaaBnUw
import Derived.Test.YtiaibfalmmnipaaBnUf
import Derived.Test.YtiaibfalmmnipaaBnUl
import Derived.Test.YtiaibfalmmnipaaBnUo
import Derived.Test.YtiaibfalmmnipaaBnUs
import Derived.Test.YtiaibfalmmnipaaBnUd
import Derived.Handy
import Derived.Test.YtiaibfalmmnipaaRows
import Derived.ProofKit
import Derived.Deep.Slices
import Derived.ChangeSlices
import Derived.OpenShut

namespace Go.Proofs.Ytiaibfalmmnipaa
open Go.RowKit Go.Shelf

namespace M
set_option maxRecDepth 100000 in
theorem oddx_tab : (([1, 2, 3, 4, 5, 6] : List Int).all fun s => seenOk ((shape s 0).getD []) (oddR s) (oddL s) && (specAll ((shape s 0).getD [])).any fun x => execSeen ((shape s 0).getD []) x.1 x.2 == (oddR s, oddL s)) = true := by decide +kernel
theorem oddx_at {s : Int} (h1 : 1 ≤ s) (h6 : s ≤ 6) : seenOk ((shape s 0).getD []) (oddR s) (oddL s) = true ∧ ∃ x ∈ specAll ((shape s 0).getD []), execSeen ((shape s 0).getD []) x.1 x.2 = (oddR s, oddL s) := by
  have t := oddx_tab
  rw [List.all_eq_true] at t
  have hs : s = 1 ∨ s = 2 ∨ s = 3 ∨ s = 4 ∨ s = 5 ∨ s = 6 := by omega
  have t1 := t s (by rcases hs with rfl | rfl | rfl | rfl | rfl | rfl <;> simp)
  rw [Bool.and_eq_true, List.any_eq_true] at t1
  obtain ⟨h, x, hx, e⟩ := t1
  exact ⟨h, x, hx, by simpa using e⟩
theorem same_ofO {a b c d : List Int} (h1 : a = c) (h2 : b = d) : sameS a b c d = true := by
  subst h1; subst h2
  unfold sameS
  rw [(same_eq a a).2 rfl, (same_eq b b).2 rfl]; rfl
theorem odd_le3 (s : Int) : (oddR s).length ≤ 3 ∧ (oddL s).length ≤ 3 := by
  unfold oddR oddL
  constructor
  · repeat (first | (split; simp) | simp)
  · repeat (first | (split; simp) | simp)
theorem exec_le {ll : List (List D)} {y : Wy} (h : execOk ll y.1 y.2 = true) : (execSeen ll y.1 y.2).1.length ≤ 1048576 ∧ (execSeen ll y.1 y.2).2.length ≤ 1048576 := by
  have hw := way_of h
  have hb := prog_le hw.prog
  have hd := deeds_len hb.1 hb.2
  have key : ∀ (n : Nat) (xs : List De), (rdAt (deeds ll) y.1 n xs).length ≤ xs.length := by
    intro n xs
    induction xs generalizing n with
    | nil => simp [rdAt]
    | cons x xs ih =>
      have := ih (n + 1)
      simp only [rdAt]
      split <;> simp <;> omega
  have h1 : (seenR (deeds ll) y.1).length ≤ (deeds ll).length := key 0 _
  have h2 : (seenL (deeds ll) y.1 y.2).length = 3 := by rw [seenL, List.length_map]; exact hw.three.out
  unfold execSeen
  rw [if_pos h]
  exact ⟨by show (seenR _ _).length ≤ _; omega, by show (seenL _ _ _).length ≤ _; omega⟩
end M
theorem TsAns.snQ {w w' : World} {v1 v2 : Value} {r1 r2 : List Int} (h : TsAns w w' v1 v2 r1 r2) : ∃ t : Sn, v1 = .slice t.a1 t.l1.length t.c1 ∧ v2 = .slice t.a2 t.l2.length t.c2 ∧ t.l1 = r1 ∧ t.l2 = r2 ∧ t.At w' := by
  obtain ⟨a1, g1, c1, e1, i1, _⟩ := own_ints h.o1
  obtain ⟨a2, g2, c2, e2, i2, _⟩ := own_ints h.o2
  exact ⟨⟨a1, g1, 0, c1, r1, a2, g2, 0, c2, r2⟩, e1, e2, rfl, rfl, i1, i2⟩
theorem Sn.At.ltQ {s : Sn} {W : World} (h : s.At W) : (0 < s.l1.length → s.b1 < W.heap.size) ∧ (0 < s.l2.length → s.b2 < W.heap.size) := ⟨fun hl => World.block_lt_of_cell? _ _ (h.reads.row 0 hl), fun hl => World.block_lt_of_cell? _ _ (h.last.row 0 hl)⟩

set_option maxHeartbeats 1000000 in
theorem DrawShapeOdd_any (ca : Option Addr) (cb co L C : Nat) (x : Nat → Int) (w : World) (hL : L ≤ C) (had : 0 < L → ca = some ⟨cb, co, none⟩) (hc : ∀ i, i < L → w.cell? ⟨cb, co + i, none⟩ = some (.int .u8 (x i)) ∧ 0 ≤ x i ∧ x i ≤ 255) (hLb : L ≤ 1048576) :
    Calls Try.prog 11 #[.slice ca L C] w fun e w' => ∃ s : Int, e = .returned (.int .i64 s) ∧ Below w.heap.size w w' := by
  go_enter Try.func11, Try.ntmps11
  go_wp2_with fail
  refine (l6Open_any ca cb co L C x _ hL had hc hLb).mono ?_
  rintro e w1 ⟨rfl, hr1, hb1⟩
  have hlt1 := hr1.lt
  clear hc had
  go_wp2_with fail
  refine (pick_rdr _ w.heap.size 0 9 w1 (by omega) (by omega) (by omega) hr1).mono ?_
  rintro e w2 ⟨r2, rfl, r20, r21, hr2, hb2⟩
  have bw2 := But.below hb1 hb2 (by omega)
  go_wp2_with fail
  go_ret
  exact ⟨_, rfl, bw2⟩

set_option maxHeartbeats 4000000 in
set_option maxRecDepth 100000 in
set_option linter.unusedSimpArgs false in
theorem lawOx_any (ca : Option Addr) (cb co L C : Nat) (x : Nat → Int) (w : World) (hL : L ≤ C) (had : 0 < L → ca = some ⟨cb, co, none⟩) (hc : ∀ i, i < L → w.cell? ⟨cb, co + i, none⟩ = some (.int .u8 (x i)) ∧ 0 ≤ x i ∧ x i ≤ 255) :
    Calls Try.prog 4 #[.slice ca L C] w fun e w' => e = .returned (.bool true) ∧ Below w.heap.size w w' := by
  by_cases hLb : L ≤ 1048576
  · go_enter Try.func4, Try.ntmps4
    go_wp2_with fail
    refine (DrawShapeOdd_any ca cb co L C x _ hL had hc hLb).mono ?_
    rintro e w1 ⟨s, rfl, b1⟩
    clear had hc
    have hle3 := M.odd_le3 s
    go_wp2_with fail
    refine (sodd_any s w1).mono ?_
    rintro e w2 ⟨v1, v2, rfl, hT⟩
    obtain ⟨t, rfl, rfl, ht1, ht2, htA⟩ := hT.snQ
    have bA := below1 w2 (.cells #[.slice t.a1 t.l1.length t.c1, .slice t.a2 t.l2.length t.c2] 39)
    have b2A := hT.bel.trans (bA.mono hT.bel.size)
    have sT : Slot2 (w2.alloc (.cells #[.slice t.a1 t.l1.length t.c1, .slice t.a2 t.l2.length t.c2] 39)) w2.heap.size (.slice t.a1 t.l1.length t.c1) (.slice t.a2 t.l2.length t.c2) := ⟨heap_alloc_new _ _⟩
    have htA2 := htA.below bA (Nat.le_refl _)
    have bwA := b1.trans (b2A.mono b1.size)
    have HT1 : Hid (t.l1 = M.oddR s) := ht1
    have HT2 : Hid (t.l2 = M.oddL s) := ht2
    have htl : t.Le 1048576 := ⟨by rw [ht1]; omega, by rw [ht2]; omega⟩
    clear hT bA b2A htA ht1 ht2 b1
    go_wp2_with fail
    generalize w2.alloc (.cells #[.slice t.a1 t.l1.length t.c1, .slice t.a2 t.l2.length t.c2] 39) = WA at *
    generalize w2.heap.size = A at *
    refine (iodd_any s WA).mono ?_
    rintro e w3 ⟨v1, v2, rfl, hT⟩
    obtain ⟨u, rfl, rfl, hu1, hu2, huA⟩ := hT.snQ
    have bB := below1 w3 (.cells #[.slice u.a1 u.l1.length u.c1, .slice u.a2 u.l2.length u.c2] 39)
    have b3B := hT.bel.trans (bB.mono hT.bel.size)
    have sU0 : Slot2 (w3.alloc (.cells #[.slice u.a1 u.l1.length u.c1, .slice u.a2 u.l2.length u.c2] 39)) w3.heap.size (.slice u.a1 u.l1.length u.c1) (.slice u.a2 u.l2.length u.c2) := ⟨heap_alloc_new _ _⟩
    have sTB := sT.of (b3B.block _ sT.lt)
    have htB := htA2.below b3B (Nat.le_refl _)
    have huB := huA.below bB (Nat.le_refl _)
    have bwB := bwA.trans (b3B.mono bwA.size)
    have HU1 : Hid (u.l1 = M.oddR s) := hu1
    have HU2 : Hid (u.l2 = M.oddL s) := hu2
    have hul : u.Le 1048576 := ⟨by rw [hu1]; omega, by rw [hu2]; omega⟩
    have LS := fun (W : World) (h1 : u.At W) (h2 : t.At W) => lpSame_any u t W hul h1 h2
    rw [M.same_ofO (by rw [hu1, HT1.out]) (by rw [hu2, HT2.out])] at LS
    have x0 := sTB.c0
    have x1 := sTB.c1
    have y0 := sU0.c0
    have y1 := sU0.c1
    clear hT bB b3B huA hu1 hu2 sT htA2 bwA
    cases hok : M.oddOk s
    · go_wp2_with fail
      generalize w3.alloc (.cells #[.slice u.a1 u.l1.length u.c1, .slice u.a2 u.l2.length u.c2] 39) = WB at *
      generalize w3.heap.size = U at *
      refine (LS WB huB htB).mono ?_
      rintro e W4 ⟨rfl, g4⟩
      have sT4 := sTB.of (g4.bel.block _ sTB.lt)
      have sU4 := sU0.of (g4.bel.block _ sU0.lt)
      have x0 := sT4.c0
      have x1 := sT4.c1
      have y0 := sU4.c0
      have y1 := sU4.c1
      have bw4 := bwB.trans (g4.bel.mono bwB.size)
      go_wp2_with fail
      refine (LS W4 (huB.below g4.bel (Nat.le_refl _)) (htB.below g4.bel (Nat.le_refl _))).mono ?_
      rintro e W5 ⟨rfl, g5⟩
      go_wp2_with fail
      go_ret
      exact ⟨rfl, bw4.trans (g5.bel.mono bw4.size)⟩
    · have h16 : 1 ≤ s ∧ s ≤ 6 := by simp only [M.oddOk, Bool.and_eq_true, decide_eq_true_eq] at hok; exact hok
      have hsok : M.shapeOk s 0 = true := by simp [M.shapeOk]; omega
      obtain ⟨HSK0, HEX0⟩ := M.oddx_at h16.1 h16.2
      obtain ⟨hs2, hs5⟩ := M.shape_small s 0
      have CI := fun W => ishapeOf_any s 0 W
      rw [M.shape_some, hsok] at CI
      generalize (M.shape s 0).getD [] = ll at *
      have hl1 : ll.length ≤ 1048576 := by omega
      have hl2 : ∀ t ∈ ll, t.length ≤ 1048576 := fun t ht => by have := hs5 t ht; omega
      have HSK : Hid (M.seenOk ll (M.oddR s) (M.oddL s) = true) := HSK0
      clear HSK0 hsok h16 hs2 hs5
      go_wp2_with fail
      generalize w3.alloc (.cells #[.slice u.a1 u.l1.length u.c1, .slice u.a2 u.l2.length u.c2] 39) = WB at *
      generalize w3.heap.size = U at *
      refine (LS WB huB htB).mono ?_
      rintro e W4 ⟨rfl, g4⟩
      have sU4 := sU0.of (g4.bel.block _ sU0.lt)
      have hu4 := huB.below g4.bel (Nat.le_refl _)
      have bw4 := bwB.trans (g4.bel.mono bwB.size)
      clear x0 x1 y0 y1 LS sTB htB bwB huB g4 sU0 hok
      go_wp2_with fail
      refine (CI W4).mono ?_
      rintro e w5 ⟨v5, rfl, ⟨vs5, hR5⟩, b5⟩
      obtain ⟨ap, gp, cp, rfl, hss5⟩ := hR5.b.ss
      have bx5 := BoxP.new (c := cp) (bw4.trans (b5.mono bw4.size)) hss5
      have bP := below1 w5 (.cells #[.slice ap ll.length cp] 25)
      have b5P := b5.trans (bP.mono b5.size)
      have sU5 := sU4.of (b5P.block _ sU4.lt)
      have hu5 := hu4.below b5P (Nat.le_refl _)
      have p5 := bx5.p.c
      clear hR5 hss5 b5 bP b5P sU4 hu4 bw4 CI
      go_wp2_with fail
      generalize w5.alloc (.cells #[.slice ap ll.length cp] 25) = WP at *
      generalize w5.heap.size = P at *
      refine (iexecAll_any ap gp 0 cp ll WP hl1 hl2 bx5.ss).mono ?_
      rintro e W6 ⟨v6, rfl, hA⟩
      have bx6 := bx5.below hA.bel
      have sU := sU5.of (hA.bel.block _ sU5.lt)
      have hu6 := hu5.below hA.bel (Nat.le_refl _)
      obtain ⟨av, gv, cv, rfl, hlw, hle, hlen⟩ := hA.lw
      have HEX : Hid (∃ i, ∃ h : i < (M.specAll ll).length, M.execSeen ll (M.specAll ll)[i].1 (M.specAll ll)[i].2 = (M.oddR s, M.oddL s)) := by
        obtain ⟨x, hx, e⟩ := HEX0
        obtain ⟨i, hi, rfl⟩ := List.getElem_of_mem hx
        exact ⟨i, hi, e⟩
      have HEX : Hid (∃ (i : Nat) (y : M.Wy), (M.specAll ll)[i]? = some y ∧ M.execSeen ll y.1 y.2 = (M.oddR s, M.oddL s)) := by
        obtain ⟨i, hi, e⟩ := HEX.out
        exact ⟨i, _, List.getElem?_eq_getElem hi, e⟩
      have HOK : ∀ y ∈ M.specAll ll, M.execOk ll y.1 y.2 = true := fun y hy => M.mem_execAll.1 hy
      clear hA bx5 p5 sU5 hu5 HEX0
      generalize M.specAll ll = xs at *
      go_wp2_with fail
      go_loopw [11] (fun s11 wr => ∃ n : Nat, s11 = .int .i64 n ∧ n ≤ xs.length ∧ Hid (∀ q, q < n → ((xs.map fun y : M.Wy => M.execSeen ll y.1 y.2).getD q ([7], [])) ≠ (M.oddR s, M.oddL s)) ∧ Below W6.heap.size W6 wr) (fun s11 _ => xs.length - (intOf s11).toNat)
      case atStart => exact ⟨0, rfl, Nat.zero_le _, (fun q hq => absurd hq (Nat.not_lt_zero _)), Below.refl _ _⟩
      case round =>
        obtain ⟨n, rfl, hn, HA, hb⟩ := hrel
        have bxr := bx6.below hb
        have hbw := hb
        have htu := hu6
        by_cases hlt : n < xs.length
        · have i1 : (n : Int) < xs.length := by omega
          have i0 : ¬ (n : Int) < 0 := by omega
          obtain rfl := hlw.addr (by omega)
          obtain ⟨fa2, fb2, fc2, ra2, rb2, rc2, k1, k2, k3, k4⟩ := (hlw.below hb).row n hlt
          have hy := hle _ (List.getElem_mem hlt)
          have hyo := HOK _ (List.getElem_mem hlt)
          have HG : Hid ((xs.map fun y : M.Wy => M.execSeen ll y.1 y.2).getD n ([7], []) = M.execSeen ll xs[n].1 xs[n].2) := by show _ = _; rw [List.getD_eq_getElem?_getD]; simp [hlt]
          generalize xs[n] = y at *
          have CC : ∀ W : World, Below wr.heap.size wr W → W.cell? ⟨gv, n * 2, none⟩ = some (.slice fa2 y.1.length fc2) ∧ W.cell? ⟨gv, n * 2 + 1, none⟩ = some (.slice ra2 y.2.length rc2) ∧ W.cell? ⟨P, 0, none⟩ = some (.slice ap ll.length cp) := fun W hbW => ⟨(hbW.cell (p := ⟨gv, n * 2, none⟩) (World.block_lt_of_cell? _ _ k1)).trans k1, (hbW.cell (p := ⟨gv, n * 2 + 1, none⟩) (World.block_lt_of_cell? _ _ k2)).trans k2, (bxr.below hbW).p.c⟩
          have CL := fun (W : World) (hbW : Below wr.heap.size wr W) => iexecSeen_any ap gp 0 cp ll fa2 fb2 0 fc2 y.1 ra2 rb2 0 rc2 y.2 W hl1 hl2 hy.a hy.b hy.c (bxr.below hbW).ss (k3.below hbW (Nat.le_refl _)) (k4.below hbW (Nat.le_refl _))
          have hle0 : ∀ s5 : Sn, Hid (s5.l1 = (M.execSeen ll y.1 y.2).1) → Hid (s5.l2 = (M.execSeen ll y.1 y.2).2) → s5.Le 1048576 := fun s5 e1 e2 => ⟨by rw [e1.out]; exact (M.exec_le hyo).1, by rw [e2.out]; exact (M.exec_le hyo).2⟩
          clear k1 k2 k3 k4
          go_wp2_with fail
          refine wp_region_held_drew (S := fun w' => Below wr.heap.size wr w') (by kernel_rfl) (Below.refl _ _).drew (fun hH => ?_)
          generalize wr.drew = Wd at *
          refine takeD 0 (some 64) (.agg #[.slice ap ll.length cp]) hH rfl rfl (by kernel_rfl) (by kernel_rfl) (by kernel_rfl) (fun _ _ _ h => h) (Or.inl ⟨by rfl, by intro w' hSw; obtain ⟨q0, q1, q2⟩ := CC w' hSw; go_simp⟩) ?_
          simp only [Act.put, List.setIfInBounds_toArray, List.set_cons_zero, List.set_cons_succ]
          refine takeD 1 (some 65) (.slice (some ⟨gv, 0, none⟩) xs.length cv) hH rfl rfl (by kernel_rfl) (by kernel_rfl) (by kernel_rfl) (fun _ _ _ h => h) (Or.inl ⟨by rfl, by intro w' hSw; go_simp⟩) ?_
          simp only [Act.put, List.setIfInBounds_toArray, List.set_cons_zero, List.set_cons_succ]
          refine takeD 2 (some 66) (.int .i64 n) hH rfl rfl (by kernel_rfl) (by kernel_rfl) (by kernel_rfl) (fun _ _ _ h => h) (Or.inl ⟨by rfl, by intro w' hSw; go_simp⟩) ?_
          simp only [Act.put, List.setIfInBounds_toArray, List.set_cons_zero, List.set_cons_succ]
          refine takeD 3 (some 67) (.pointer (some ⟨gv, n * 2, none⟩)) hH rfl rfl (by kernel_rfl) (by kernel_rfl) (by kernel_rfl) (fun _ _ _ h => h) (Or.inl ⟨by rfl, by intro w' hSw; go_simp⟩) ?_
          simp only [Act.put, List.setIfInBounds_toArray, List.set_cons_zero, List.set_cons_succ]
          refine takeD 4 (some 68) (.agg #[.slice fa2 y.1.length fc2, .slice ra2 y.2.length rc2]) hH rfl rfl (by kernel_rfl) (by kernel_rfl) (by kernel_rfl) (fun _ _ _ h => h) (Or.inl ⟨by rfl, by intro w' hSw; obtain ⟨q0, q1, q2⟩ := CC w' hSw; go_simp⟩) ?_
          simp only [Act.put, List.setIfInBounds_toArray, List.set_cons_zero, List.set_cons_succ]
          refine wpAnyH_ready (rs := [5, 9]) (by kernel_rfl) (by simp) ?_
          refine AllReadyH.cons rfl (fun K' hK => ?_) (AllReadyH.cons rfl (fun K' hK => ?_) AllReadyH.nil)
          · refine step_goV (by rfl) (some 69) rfl 16 #[.tmp 64, .tmp 68] _ rfl #[.agg #[.slice ap ll.length cp], .agg #[.slice fa2 y.1.length fc2, .slice ra2 y.2.length rc2]] (by simp [Act.eval]) (enters_of Try.func16 (by kernel_rfl) rfl) (CL _ hH) ?_
            rintro e W5 ⟨s5, rfl, hs1, hs2, hNS, b5⟩
            have HS1 : Hid (s5.l1 = _) := hs1
            have HS2 : Hid (s5.l2 = _) := hs2
            clear hs1 hs2
            have h5A := hNS.at_
            clear hNS
            refine ⟨_, rfl, ?_⟩
            simp only [Act.put, List.setIfInBounds_toArray, List.set_cons_zero, List.set_cons_succ]
            have hH5 : Below wr.heap.size wr W5 := hH.trans (b5.mono hH.size)
            refine hK.out _ _ hH5 (fun _ => ?_)
            clear hK K'
            refine takeD 6 (some 63) (.tuple #[.agg #[.slice s5.a1 s5.l1.length s5.c1, .slice s5.a2 s5.l2.length s5.c2], .bool (M.execOk ll y.1 y.2)]) hH5 rfl rfl (by kernel_rfl) (by kernel_rfl) (by kernel_rfl) (fun _ _ _ h => h) (Or.inl ⟨by rfl, by intro w' hSw; go_simp⟩) ?_
            simp only [Act.put, List.setIfInBounds_toArray, List.set_cons_zero, List.set_cons_succ]
            refine takeD 7 (some 70) (.agg #[.slice s5.a1 s5.l1.length s5.c1, .slice s5.a2 s5.l2.length s5.c2]) hH5 rfl rfl (by kernel_rfl) (by kernel_rfl) (by kernel_rfl) (fun _ _ _ h => h) (Or.inl ⟨by rfl, by intro w' hSw; go_simp⟩) ?_
            simp only [Act.put, List.setIfInBounds_toArray, List.set_cons_zero, List.set_cons_succ]
            refine takeD 8 (some 71) (.bool (M.execOk ll y.1 y.2)) hH5 rfl rfl (by kernel_rfl) (by kernel_rfl) (by kernel_rfl) (fun _ _ _ h => h) (Or.inl ⟨by rfl, by intro w' hSw; go_simp⟩) ?_
            simp only [Act.put, List.setIfInBounds_toArray, List.set_cons_zero, List.set_cons_succ]
            refine wpAnyH_ready (rs := [9]) (by kernel_rfl) (by simp) ?_
            refine AllReadyH.cons rfl (fun K' hK => ?_) AllReadyH.nil
            rw [if_pos (by rfl)]
            go_simp
            have bm := hH5.alloc hH5.size (.cells #[.slice none 0 0, .slice none 0 0] 39)
            refine hK.out _ _ bm (fun _ => ?_)
            clear hK K'
            have sX : Slot2 (W5.alloc (.cells #[.slice none 0 0, .slice none 0 0] 39)) W5.heap.size (.slice none 0 0) (.slice none 0 0) := ⟨heap_alloc_new _ _⟩
            have h6A := h5A.below (below1 W5 (.cells #[.slice none 0 0, .slice none 0 0] 39)) (Nat.le_refl _)
            have hXw : wr.heap.size ≤ W5.heap.size := hH5.size
            have hX1 : 0 < s5.l1.length → s5.b1 ≠ W5.heap.size := fun hp e => by have := h5A.ltQ.1 hp; omega
            have hX2 : 0 < s5.l2.length → s5.b2 ≠ W5.heap.size := fun hp e => by have := h5A.ltQ.2 hp; omega
            clear h5A
            generalize W5.alloc (.cells #[.slice none 0 0, .slice none 0 0] 39) = W6 at *
            generalize W5.heap.size = X at *
            refine wpAnyH_ready (rs := [10]) (by kernel_rfl) (by simp) ?_
            refine AllReadyH.cons rfl (fun K' hK => ?_) AllReadyH.nil
            rw [if_pos (by rfl)]
            have x0 := sX.c0
            have x1 := sX.c1
            have xf := sX.fz
            have xl := sX.lt
            go_simp
            have sXF := (sX.set0 (.slice s5.a1 s5.l1.length s5.c1)).set1 (.slice s5.a2 s5.l2.length s5.c2)
            have hF : Below wr.heap.size wr ((W6.setCell ⟨X, 0, none⟩ (.slice s5.a1 s5.l1.length s5.c1)).setCell ⟨X, 1, none⟩ (.slice s5.a2 s5.l2.length s5.c2)) := (bm.setCell hXw _).setCell hXw _
            have atF : s5.At ((W6.setCell ⟨X, 0, none⟩ (.slice s5.a1 s5.l1.length s5.c1)).setCell ⟨X, 1, none⟩ (.slice s5.a2 s5.l2.length s5.c2)) := (h6A.far hX1 hX2).far hX1 hX2
            refine hK.out _ _ hF (fun _ => ?_)
            clear hK K' x0 x1 xf xl
            generalize ((W6.setCell ⟨X, 0, none⟩ (.slice s5.a1 s5.l1.length s5.c1)).setCell ⟨X, 1, none⟩ (.slice s5.a2 s5.l2.length s5.c2)) = WF at *
            refine takeD 11 (some 13) (.bool (M.execOk ll y.1 y.2)) hF rfl rfl (by kernel_rfl) (by kernel_rfl) (by kernel_rfl) (fun _ _ _ h => h) (Or.inl ⟨by rfl, by intro w' hSw; go_simp⟩) ?_
            simp only [Act.put, List.setIfInBounds_toArray, List.set_cons_zero, List.set_cons_succ]
            refine wpAnyH_done (by kernel_rfl) ?_ _
            have hle5 := hle0 s5 HS1 HS2
            clear CC CL
            have bxF := bxr.below hF
            have uF := htu.below (hbw.trans (hF.mono hbw.size)) (Nat.le_refl _)
            have xx0 := sXF.c0
            have xx1 := sXF.c1
            have uu0 := (sU.of ((hb.trans (hF.mono hb.size)).block _ sU.lt)).c0
            have uu1 := (sU.of ((hb.trans (hF.mono hb.size)).block _ sU.lt)).c1
            have pp := bxF.p.c
            have CM := lpSame_any s5 u WF hle5 atF uF
            cases hsm : M.sameS s5.l1 s5.l2 u.l1 u.l2
            · rw [hsm] at CM
              go_wp2_with fail
              refine CM.mono ?_
              rintro e W7 ⟨rfl, g7⟩
              clear xx0 xx1 uu0 uu1 pp
              go_wp2_with fail
              refine ⟨⟨n + 1, by go_num, by omega, (fun q hq => ?_), (hb.trans (hF.mono hb.size)).trans (g7.bel.mono (hb.trans (hF.mono hb.size)).size)⟩, by simp [intOf]; omega⟩
              by_cases eq : q = n
              · subst eq
                intro e
                rw [HG.out] at e
                have : M.sameS s5.l1 s5.l2 u.l1 u.l2 = true := M.same_ofO (by rw [HS1.out, e, HU1.out]) (by rw [HS2.out, e, HU2.out])
                rw [this] at hsm; cases hsm
              · exact HA.out q (by omega)
            · rw [hsm] at CM
              go_wp2_with fail
              refine CM.mono ?_
              rintro e W7 ⟨rfl, g7⟩
              have bx7 := bxF.below g7.bel
              have u7 := uF.below g7.bel (Nat.le_refl _)
              have C9 := iseenOk_any ap gp 0 cp ll u W7 hl1 hl2 hul bx7.ss u7
              rw [HU1.out, HU2.out, HSK.out] at C9
              have pp7 := bx7.p.c
              have uu07 := (g7.bel.cell (p := ⟨U, 0, none⟩) (World.block_lt_of_cell? _ _ uu0)).trans uu0
              have uu17 := (g7.bel.cell (p := ⟨U, 1, none⟩) (World.block_lt_of_cell? _ _ uu1)).trans uu1
              clear xx0 xx1 uu0 uu1 pp
              go_wp2_with fail
              refine Calls.mono (by rw [HU1.out, HU2.out]; exact C9) ?_
              rintro e W8 ⟨rfl, b8⟩
              go_wp2_with fail
              go_ret
              exact ⟨rfl, (bx7.below b8).bel⟩
          · rw [if_pos (by rfl)]
            go_simp
            have bm := hH.alloc hH.size (.cells #[.slice none 0 0, .slice none 0 0] 39)
            refine hK.out _ _ bm (fun _ => ?_)
            clear hK K'
            have sX0 : Slot2 (Wd.alloc (.cells #[.slice none 0 0, .slice none 0 0] 39)) Wd.heap.size (.slice none 0 0) (.slice none 0 0) := ⟨heap_alloc_new _ _⟩
            have lX0 := sX0.lt
            have hXw : wr.heap.size ≤ Wd.heap.size := hH.size
            generalize Wd.alloc (.cells #[.slice none 0 0, .slice none 0 0] 39) = W6 at *
            generalize Wd.heap.size = X at *
            refine wpAnyH_ready (rs := [5]) (by kernel_rfl) (by simp) ?_
            refine AllReadyH.cons rfl (fun K' hK => ?_) AllReadyH.nil
            refine step_goV (by rfl) (some 69) rfl 16 #[.tmp 64, .tmp 68] _ rfl #[.agg #[.slice ap ll.length cp], .agg #[.slice fa2 y.1.length fc2, .slice ra2 y.2.length rc2]] (by simp [Act.eval]) (enters_of Try.func16 (by kernel_rfl) rfl) (CL _ bm) ?_
            rintro e W5 ⟨s5, rfl, hs1, hs2, hNS, b5⟩
            have HS1 : Hid (s5.l1 = _) := hs1
            have HS2 : Hid (s5.l2 = _) := hs2
            clear hs1 hs2
            have hG1 := hNS.ge1
            have hG2 := hNS.ge2
            have h5A := hNS.at_
            clear hNS
            refine ⟨_, rfl, ?_⟩
            simp only [Act.put, List.setIfInBounds_toArray, List.set_cons_zero, List.set_cons_succ]
            have hH5 : Below wr.heap.size wr W5 := bm.trans (b5.mono bm.size)
            refine hK.out _ _ hH5 (fun _ => ?_)
            clear hK K'
            have sX := sX0.of (b5.block _ sX0.lt)
            have hX1 : 0 < s5.l1.length → s5.b1 ≠ X := fun hp e => by have := hG1; omega
            have hX2 : 0 < s5.l2.length → s5.b2 ≠ X := fun hp e => by have := hG2; omega
            refine takeD 6 (some 63) (.tuple #[.agg #[.slice s5.a1 s5.l1.length s5.c1, .slice s5.a2 s5.l2.length s5.c2], .bool (M.execOk ll y.1 y.2)]) hH5 rfl rfl (by kernel_rfl) (by kernel_rfl) (by kernel_rfl) (fun _ _ _ h => h) (Or.inl ⟨by rfl, by intro w' hSw; go_simp⟩) ?_
            simp only [Act.put, List.setIfInBounds_toArray, List.set_cons_zero, List.set_cons_succ]
            refine takeD 7 (some 70) (.agg #[.slice s5.a1 s5.l1.length s5.c1, .slice s5.a2 s5.l2.length s5.c2]) hH5 rfl rfl (by kernel_rfl) (by kernel_rfl) (by kernel_rfl) (fun _ _ _ h => h) (Or.inl ⟨by rfl, by intro w' hSw; go_simp⟩) ?_
            simp only [Act.put, List.setIfInBounds_toArray, List.set_cons_zero, List.set_cons_succ]
            refine takeD 8 (some 71) (.bool (M.execOk ll y.1 y.2)) hH5 rfl rfl (by kernel_rfl) (by kernel_rfl) (by kernel_rfl) (fun _ _ _ h => h) (Or.inl ⟨by rfl, by intro w' hSw; go_simp⟩) ?_
            simp only [Act.put, List.setIfInBounds_toArray, List.set_cons_zero, List.set_cons_succ]
            refine wpAnyH_ready (rs := [10]) (by kernel_rfl) (by simp) ?_
            refine AllReadyH.cons rfl (fun K' hK => ?_) AllReadyH.nil
            rw [if_pos (by rfl)]
            have x0 := sX.c0
            have x1 := sX.c1
            have xf := sX.fz
            have xl := sX.lt
            go_simp
            have sXF := (sX.set0 (.slice s5.a1 s5.l1.length s5.c1)).set1 (.slice s5.a2 s5.l2.length s5.c2)
            have hF : Below wr.heap.size wr ((W5.setCell ⟨X, 0, none⟩ (.slice s5.a1 s5.l1.length s5.c1)).setCell ⟨X, 1, none⟩ (.slice s5.a2 s5.l2.length s5.c2)) := (hH5.setCell hXw _).setCell hXw _
            have atF : s5.At ((W5.setCell ⟨X, 0, none⟩ (.slice s5.a1 s5.l1.length s5.c1)).setCell ⟨X, 1, none⟩ (.slice s5.a2 s5.l2.length s5.c2)) := (h5A.far hX1 hX2).far hX1 hX2
            refine hK.out _ _ hF (fun _ => ?_)
            clear hK K' x0 x1 xf xl
            generalize ((W5.setCell ⟨X, 0, none⟩ (.slice s5.a1 s5.l1.length s5.c1)).setCell ⟨X, 1, none⟩ (.slice s5.a2 s5.l2.length s5.c2)) = WF at *
            refine takeD 11 (some 13) (.bool (M.execOk ll y.1 y.2)) hF rfl rfl (by kernel_rfl) (by kernel_rfl) (by kernel_rfl) (fun _ _ _ h => h) (Or.inl ⟨by rfl, by intro w' hSw; go_simp⟩) ?_
            simp only [Act.put, List.setIfInBounds_toArray, List.set_cons_zero, List.set_cons_succ]
            refine wpAnyH_done (by kernel_rfl) ?_ _
            have hle5 := hle0 s5 HS1 HS2
            clear CC CL
            have bxF := bxr.below hF
            have uF := htu.below (hbw.trans (hF.mono hbw.size)) (Nat.le_refl _)
            have xx0 := sXF.c0
            have xx1 := sXF.c1
            have uu0 := (sU.of ((hb.trans (hF.mono hb.size)).block _ sU.lt)).c0
            have uu1 := (sU.of ((hb.trans (hF.mono hb.size)).block _ sU.lt)).c1
            have pp := bxF.p.c
            have CM := lpSame_any s5 u WF hle5 atF uF
            cases hsm : M.sameS s5.l1 s5.l2 u.l1 u.l2
            · rw [hsm] at CM
              go_wp2_with fail
              refine CM.mono ?_
              rintro e W7 ⟨rfl, g7⟩
              clear xx0 xx1 uu0 uu1 pp
              go_wp2_with fail
              refine ⟨⟨n + 1, by go_num, by omega, (fun q hq => ?_), (hb.trans (hF.mono hb.size)).trans (g7.bel.mono (hb.trans (hF.mono hb.size)).size)⟩, by simp [intOf]; omega⟩
              by_cases eq : q = n
              · subst eq
                intro e
                rw [HG.out] at e
                have : M.sameS s5.l1 s5.l2 u.l1 u.l2 = true := M.same_ofO (by rw [HS1.out, e, HU1.out]) (by rw [HS2.out, e, HU2.out])
                rw [this] at hsm; cases hsm
              · exact HA.out q (by omega)
            · rw [hsm] at CM
              go_wp2_with fail
              refine CM.mono ?_
              rintro e W7 ⟨rfl, g7⟩
              have bx7 := bxF.below g7.bel
              have u7 := uF.below g7.bel (Nat.le_refl _)
              have C9 := iseenOk_any ap gp 0 cp ll u W7 hl1 hl2 hul bx7.ss u7
              rw [HU1.out, HU2.out, HSK.out] at C9
              have pp7 := bx7.p.c
              have uu07 := (g7.bel.cell (p := ⟨U, 0, none⟩) (World.block_lt_of_cell? _ _ uu0)).trans uu0
              have uu17 := (g7.bel.cell (p := ⟨U, 1, none⟩) (World.block_lt_of_cell? _ _ uu1)).trans uu1
              clear xx0 xx1 uu0 uu1 pp
              go_wp2_with fail
              refine Calls.mono (by rw [HU1.out, HU2.out]; exact C9) ?_
              rintro e W8 ⟨rfl, b8⟩
              go_wp2_with fail
              go_ret
              exact ⟨rfl, (bx7.below b8).bel⟩
        · exfalso
          obtain ⟨i, y, hi, e⟩ := HEX.out
          have hil := (List.getElem?_eq_some_iff.1 hi).1
          refine HA.out i (by omega) ?_
          rw [List.getD_eq_getElem?_getD, List.getElem?_map, hi]
          exact e
  · go_enter Try.func4, Try.ntmps4
    go_wp2_with fail
    go_ret
    exact ⟨rfl, Below.refl _ _⟩

end Go.Proofs.Ytiaibfalmmnipaa

namespace Go.Proofs.Ytiaibfalmmnipaa
open Go.ChangeShapes Go.WideShapes Go.ChangeAt Go.RowKit Go.Deep

theorem Try.own : ownKnob Try.prog.godebug = none := by kernel_rfl
theorem Try.laidOut : laidOutB Try.prog = true := by kernel_rfl

theorem one_of_size {cs : Array Value} (h : cs.size = 1) : ∃ u, cs = #[u] := by
  obtain ⟨l⟩ := cs
  match l, h with
  | [u], _ => exact ⟨u, rfl⟩
end Go.Proofs.Ytiaibfalmmnipaa

namespace Go.Proofs.Ytiaibfalmmnipaa
open Go.ChangeShapes Go.WideShapes Go.ChangeAt Go.RowKit Go.Deep

theorem Try.cellsByte : Try.prog.cellsOf 5 = 1 := by kernel_rfl

/-- A code lies in memory. -/
def Code8 (w : World) (u : Value) : Prop := ∃ ca cb co L C, ∃ x : Nat → Int, u = .slice ca L C ∧ L ≤ C ∧ (0 < L → ca = some ⟨cb, co, none⟩) ∧ ∀ i, i < L → w.cell? ⟨cb, co + i, none⟩ = some (.int .u8 (x i)) ∧ 0 ≤ x i ∧ x i ≤ 255

section
variable {H : Type} {enc : TypeId × Value → H} {w : World} {base : Nat} {spare : Nat → Bool} {held : Bool}

set_option maxRecDepth 100000 in
theorem open_code {fuel : Nat} {u : Value} {x : DataW H × List MemPlace} (h : DataW.trod enc Try.prog w base spare held fuel 22 [u] = some x) : Code8 w u := by
  rcases open_ints Try.underlying22 Try.underlying5 Try.cellsByte h with ⟨hcs, _⟩ | ⟨a, len, cap, zs, hcs, _, hl, hm, hmm, _, hel, hwf⟩
  · simp at hcs
    exact ⟨none, 0, 0, 0, 0, fun _ => 0, hcs, Nat.le_refl _, fun h => absurd h (Nat.lt_irrefl _), fun i hi => absurd hi (Nat.not_lt_zero _)⟩
  · simp at hcs
    obtain ⟨gb, go, gs⟩ := a
    have hlm : len ≤ zs.length := by rw [hmm]; split <;> omega
    rcases Nat.eq_zero_or_pos len with h0 | hpos
    · subst h0
      exact ⟨_, 0, 0, 0, cap, fun _ => 0, hcs, Nat.zero_le _, fun h => absurd h (Nat.lt_irrefl _), fun i hi => absurd hi (Nat.not_lt_zero _)⟩
    · have hgs : gs = none := by simpa [Addr.add] using World.cell?_spot (hel 0 (by omega))
      subst hgs
      refine ⟨_, gb, go, len, cap, fun i => zs.getD i 0, hcs, hl, fun _ => rfl, fun i hi => ?_⟩
      have h1 := hel i (by omega)
      rw [add_plain] at h1
      have hw := hwf (zs.getD i 0) (by rw [List.getD_eq_getElem?_getD, List.getElem?_eq_getElem (by omega)]; exact List.getElem_mem _)
      exact ⟨h1, bounds_u8 hw⟩

end
end Go.Proofs.Ytiaibfalmmnipaa
