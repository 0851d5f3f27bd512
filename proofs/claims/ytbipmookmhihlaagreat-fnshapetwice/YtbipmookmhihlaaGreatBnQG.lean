/- The law FnShapeTwice, walked: it answers true, and leaves all as it was. Of whatever code. -/
import Derived.Test.YtbipmookmhihlaaGreatBnQw
import Derived.Test.YtbipmookmhihlaaGreatBnQg
import Derived.Test.YtbipmookmhihlaaGreatBnQt
import Derived.BigQuiet

namespace Go.Proofs.YtbipmookmhihlaaGreat
open Go.RowKit

set_option maxHeartbeats 4000000 in
set_option maxRecDepth 100000 in
set_option linter.unusedSimpArgs false in
theorem lawSG_any (ca : Option Addr) (cb co L C : Nat) (x : Nat → Int) (ma : Option Addr) (ml C2 : Nat) (w : World) (hL : L ≤ C) (had : 0 < L → ca = some ⟨cb, co, none⟩) (hc : ∀ i, i < L → w.cell? ⟨cb, co + i, none⟩ = some (.int .u8 (x i)) ∧ 0 ≤ x i ∧ x i ≤ 255) :
    Calls Tryz.prog 8 #[.slice ca L C, .slice ma ml C2] w fun e w' => e = .returned (.bool true) ∧ Below w.heap.size w w' := by
  by_cases hLb : L ≤ 1048576 ∧ ml ≤ 1048576
  · obtain ⟨hLb, hMb⟩ := hLb
    have hMb2 : ¬ (1048576 : Int) < ml := by omega
    go_enter Tryz.func8, Tryz.ntmps8
    go_wp2_with fail
    refine (DrawShapeOf_any ca cb co L C x _ hL had hc hLb).mono ?_
    rintro e w1 ⟨s, h, rfl, b1⟩
    clear had hc
    have CS := sshapeOf_any 4 h w1
    have CI := fun W => ishapeOf_any 4 h W
    obtain ⟨hs2, hs5⟩ := M.shape_small 4 h
    rw [M.shape_some] at CS CI
    obtain ⟨ll, hll⟩ : ∃ ll, (M.shape 4 h).getD [] = ll := ⟨_, rfl⟩
    rw [hll] at CS CI hs2 hs5
    have HLL : Hid ((M.shape 4 h).getD [] = ll) := hll
    clear hll
    have hl1 : ll.length ≤ 1048576 := by omega
    have hl2 : ∀ t ∈ ll, t.length ≤ 1048576 := fun t ht => by have := hs5 t ht; omega
    clear hs5 hs2
    have LQ := fun A B C D E F W h1 h2 => lpProg_any A B 0 C D E 0 F ll ll W hl1 hl1 hl2 h1 h2
    rw [M.eqLL_yes rfl] at LQ
    go_wp2_with fail
    refine CS.mono ?_
    rintro e w2 ⟨v2, rfl, ⟨vs2, hR2⟩, b2⟩
    obtain ⟨av, gv, cv, rfl, hss2⟩ := hR2.b.ss
    have bA := below1 w2 (.cells #[.slice av ll.length cv] 27)
    have sA := Slot1.new w2 (.slice av ll.length cv) 27
    have ssA := hss2.below bA (Nat.le_refl _)
    have b12 := b2.trans (bA.mono b2.size)
    have bwA := b1.trans (b12.mono b1.size)
    clear hR2 hss2 b2 bA b12 b1 CS
    go_wp2_with fail
    generalize w2.alloc (.cells #[.slice av ll.length cv] 27) = WA at *
    generalize w2.heap.size = A at *
    refine (CI WA).mono ?_
    rintro e w3 ⟨v3, rfl, ⟨vs3, hR3⟩, b3⟩
    obtain ⟨ai, gi, ci, rfl, hss3⟩ := hR3.b.ss
    have bB := below1 w3 (.cells #[.slice ai ll.length ci] 27)
    have sB := Slot1.new w3 (.slice ai ll.length ci) 27
    have ssB := hss3.below bB (Nat.le_refl _)
    have b3' := b3.trans (bB.mono b3.size)
    have sAB := sA.bl' b3'
    have ssAB := ssA.below b3' (Nat.le_refl _)
    have bwB := bwA.trans (b3'.mono bwA.size)
    clear hR3 hss3 b3 bB b3' sA ssA CI bwA
    have x0 := sAB.c
    have x1 := sB.c
    cases hok : M.shapeOk 4 h
    · go_wp2_with fail
      generalize w3.alloc (.cells #[.slice ai ll.length ci] 27) = WB at *
      generalize w3.heap.size = B at *
      refine (LQ ai gi ci av gv cv _ ssB ssAB).mono ?_
      rintro e W4 ⟨rfl, b4⟩
      have sB4 := sB.bl' b4
      have sA4 := sAB.bl' b4
      have ssB4 := ssB.below b4 (Nat.le_refl _)
      have ssA4 := ssAB.below b4 (Nat.le_refl _)
      have bw4 := bwB.trans (b4.mono bwB.size)
      clear x0 x1 sB ssB sAB ssAB bwB b4
      have x0 := sA4.c
      have x1 := sB4.c
      go_wp2_with fail
      refine (LQ ai gi ci av gv cv _ ssB4 ssA4).mono ?_
      rintro e W5 ⟨rfl, b5⟩
      go_wp2_with fail
      go_ret
      exact ⟨rfl, bw4.trans (b5.mono bw4.size)⟩
    · go_wp2_with fail
      generalize w3.alloc (.cells #[.slice ai ll.length ci] 27) = WB at *
      generalize w3.heap.size = B at *
      refine (LQ ai gi ci av gv cv _ ssB ssAB).mono ?_
      rintro e W4 ⟨rfl, b4⟩
      have sB4 := sB.bl' b4
      have ssB4 := ssB.below b4 (Nat.le_refl _)
      have bw4 := bwB.trans (b4.mono bwB.size)
      clear x0 x1 sB ssB sAB ssAB bwB b4 LQ
      obtain ⟨_, h2⟩ := M.shape_cases hok
      have hm3 : (ml % 3 = 0 ∨ ml % 3 = 1 ∨ ml % 3 = 2) := by omega
      have e1 : Int.tmod (ml : Int) 3 = ((ml % 3 : Nat) : Int) := by rw [Int.tmod_eq_emod_of_nonneg (by omega)]; omega
      have e2 : IntKind.i64.wrap ((ml % 3 : Nat) : Int) = ((ml % 3 : Nat) : Int) := by rw [IntKind.wrap_i64]; omega
      have e3 : IntKind.i64.wrap (1 + ((ml % 3 : Nat) : Int)) = 1 + ((ml % 3 : Nat) : Int) := by rw [IntKind.wrap_i64]; omega
      have TAB := M.twice_at h2 (show 1 + ((ml % 3 : Nat) : Int) = 1 ∨ 1 + ((ml % 3 : Nat) : Int) = 2 ∨ 1 + ((ml % 3 : Nat) : Int) = 3 by omega)
      rw [HLL.out] at TAB
      have CO := iorderAll_any ai gi 0 ci ll (1 + ((ml % 3 : Nat) : Int)) W4 hl1 hl2 ssB4
      have x1 := sB4.c
      clear hok h2
      go_wp2_with fail
      refine CO.mono ?_
      rintro e W5 ⟨v5, rfl, ⟨a5, g5, c5, uu, rfl, hku, hN, hul, hcap⟩, b5⟩
      have bw5 := bw4.trans (b5.mono bw4.size)
      have hlen : uu.length = 3 := by rw [← TAB.1, ← hku, kys_len]
      have HL3 : Hid (uu.length = 3) := hlen
      have hT : ∀ s ∈ uu, ∃ a b, s.l1 = [a, b] ∧ ¬ b < a := fun s hs => M.two_of (fun a b hab => by simpa using hab) (TAB.2 s.ky (by rw [← hku]; exact List.mem_map.2 ⟨s, hs, rfl⟩))
      obtain rfl := hN.addr (by omega)
      have hSR := hN.sr (by omega)
      have hAt : ∀ s ∈ uu, s.At W5 := fun s hs => (hN.off s hs).at_
      clear CO TAB hku hlen e1 e2 e3 hm3
      go_wp2_with fail
      go_loopw [12] (fun s12 wr => ∃ n : Nat, s12 = .int .i64 n ∧ n ≤ uu.length ∧ Below W5.heap.size W5 wr) (fun s12 _ => uu.length - (intOf s12).toNat)
      case atStart => exact ⟨0, rfl, Nat.zero_le _, Below.refl _ _⟩
      case round =>
        obtain ⟨n, rfl, hn, hb⟩ := hrel
        by_cases hlt : n < uu.length
        · have i1 : (n : Int) < uu.length := by omega
          have i0 : ¬ (n : Int) < 0 := by omega
          obtain ⟨a, b, hab, hbad⟩ := hT _ (List.getElem_mem hlt)
          have k1 := (hSR.c n hlt).1
          have kA := hAt _ (List.getElem_mem hlt)
          have hl2' : uu[n].l1.length = 2 := by rw [hab]; rfl
          have r0 := kA.reads.row 0 (by omega)
          have r1 := kA.reads.row 1 (by omega)
          have ad := kA.reads.addr (by omega)
          simp only [hab, List.getElem_cons_zero, List.getElem_cons_succ] at r0 r1
          rw [hl2', ad] at k1
          have k1' := (hb.cell (p := ⟨g5, n * 2, none⟩) (World.block_lt_of_cell? _ _ k1)).trans k1
          have r0' := (hb.cell (World.block_lt_of_cell? _ _ r0)).trans r0
          have r1' := (hb.cell (World.block_lt_of_cell? _ _ r1)).trans r1
          rw [Nat.add_zero] at r0'
          generalize uu[n].b1 = sb at *
          generalize uu[n].o1 = so at *
          generalize uu[n].c1 = sc at *
          clear k1 r0 r1 kA hab hl2' ad
          have hnb : ¬ b < a := by omega
          have hnb2 : decide (b < a) = false := by simp; omega
          go_wp2_with fail
          go_quiet (fail)
          go_wp2_with fail
          exact ⟨⟨n + 1, by go_num, by omega, by first | exact hb | exact hb.drew | exact hb.drewN _ | exact ⟨hb.os, hb.tape, hb.output, hb.size, hb.block⟩⟩, by simp [intOf]; omega⟩
        · have i1 : ¬ (n : Int) < uu.length := by omega
          have E3 : ((uu.length : Int) == 3) = true := by rw [HL3.out]; rfl
          go_wp2_with fail
          go_ret
          exact ⟨rfl, bw5.trans (hb.mono bw5.size)⟩
  · go_enter Tryz.func8, Tryz.ntmps8
    by_cases hLb2 : L ≤ 1048576
    · have hM : (1048576 : Int) < ml := by omega
      go_wp2_with fail
      go_ret
      exact ⟨rfl, Below.refl _ _⟩
    · have hL2 : (1048576 : Int) < L := by omega
      go_wp2_with fail
      go_ret
      exact ⟨rfl, Below.refl _ _⟩

end Go.Proofs.YtbipmookmhihlaaGreat
