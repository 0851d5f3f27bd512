/- The law FnShapeWallAll, walked: it answers true, and leaves all as it was. Of whatever code. -/
import Derived.Test.YtoabfiocjjfjeaaShL
import Derived.Test.YtoabfiocjjfjeaaShS
import Derived.Test.YtoabfiocjjfjeaaShFact
import Derived.Test.YtoabfiocjjfjeaaDrSh
import Derived.Test.YtoabfiocjjfjeaaLpPg
import Derived.Test.YtoabfiocjjfjeaaWlAll
namespace Go.Proofs.Ytoabfiocjjfjeaa
open Go.RowKit

theorem M.shape_walls {s h : Int} (e : M.shapeOk s h = true) (h6 : s ≠ 6) : (M.wallAll ((M.shape s 0).getD [])).isSome = true ∧ (M.wallAll ((M.shape s 0).getD [])).getD [] = (M.shape s 1).getD [] := by
  obtain ⟨hs, _⟩ := M.shape_cases e
  rcases hs with rfl | rfl | rfl | rfl | rfl | rfl
  · exact ⟨rfl, rfl⟩
  · exact ⟨rfl, rfl⟩
  · exact ⟨rfl, rfl⟩
  · exact ⟨rfl, rfl⟩
  · exact ⟨rfl, rfl⟩
  · exact absurd rfl h6

set_option maxHeartbeats 2000000 in
set_option maxRecDepth 100000 in
set_option linter.unusedSimpArgs false in
theorem lawSw_any (ca : Option Addr) (cb co L C : Nat) (x : Nat → Int) (w : World) (hL : L ≤ C) (had : 0 < L → ca = some ⟨cb, co, none⟩) (hc : ∀ i, i < L → w.cell? ⟨cb, co + i, none⟩ = some (.int .u8 (x i)) ∧ 0 ≤ x i ∧ x i ≤ 255) :
    Calls Try.prog 5 #[.slice ca L C] w fun e w' => e = .returned (.bool true) ∧ Below w.heap.size w w' := by
  by_cases hLb : L ≤ 1048576
  · go_enter Try.func5, Try.ntmps5
    go_wp2_with fail
    refine (DrawShapeOf_any ca cb co L C x _ hL had hc hLb).mono ?_
    rintro e w1 ⟨s, h, rfl, b1⟩
    clear had hc
    have CS := sshapeOf_any s h w1
    have CI := fun W => ishapeOf_any s h W
    obtain ⟨hs2, hs5⟩ := M.shape_small s h
    have CP := fun W => ishapeOf_any s 0 W
    have CG := fun W => ishapeOf_any s 1 W
    obtain ⟨hg2, hg5⟩ := M.shape_small s 1
    obtain ⟨hp2, hp5⟩ := M.shape_small s 0
    have HF : Hid (M.shapeOk s h = true → s ≠ 6 → (M.wallAll ((M.shape s 0).getD [])).isSome = true ∧ (M.wallAll ((M.shape s 0).getD [])).getD [] = (M.shape s 1).getD []) := fun e h6 => M.shape_walls e h6
    obtain ⟨gg, hgg⟩ : ∃ r, (M.shape s 1).getD [] = r := ⟨_, rfl⟩
    obtain ⟨pp, hpp⟩ : ∃ r, (M.shape s 0).getD [] = r := ⟨_, rfl⟩
    rw [hgg] at CG hg2 hg5 HF
    rw [hpp] at CP hp2 hp5 HF
    generalize (M.shape s 1).isSome = okg at *
    generalize (M.shape s 0).isSome = okp at *
    clear hgg hpp
    have hgl1 : gg.length ≤ 1048576 := by omega
    have hgl2 : ∀ t ∈ gg, t.length ≤ 1048576 := fun t ht => by have := hg5 t ht; omega
    have hpl1 : pp.length ≤ 1048576 := by omega
    have hpl2 : ∀ t ∈ pp, t.length ≤ 1048576 := fun t ht => by have := hp5 t ht; omega
    clear hg2 hg5 hp2 hp5
    have LP := fun A B C D E F W h1 h2 => lpProg_any A B 0 C D E 0 F gg gg W hgl1 hgl1 hgl2 h1 h2
    rw [M.eqLL_yes rfl] at LP
    rw [M.shape_some] at CS CI
    generalize (M.shape s h).getD [] = ll at *
    have hl1 : ll.length ≤ 1048576 := by omega
    have hl2 : ∀ t ∈ ll, t.length ≤ 1048576 := fun t ht => by have := hs5 t ht; omega
    clear hs5 hs2
    have LQ := fun A B C D E F W h1 h2 => lpProg_any A B 0 C D E 0 F ll ll W hl1 hl1 hl2 h1 h2
    rw [M.eqLL_yes rfl] at LQ
    go_wp2_with fail
    refine CS.mono ?_
    rintro e w2 ⟨v2, rfl, ⟨vs2, hR2⟩, b2⟩
    obtain ⟨av, gv, cv, rfl, hss2⟩ := hR2.b.ss
    have bA := below1 w2 (.cells #[.slice av ll.length cv] 25)
    have sA := Slot1.new w2 (.slice av ll.length cv) 25
    have ssA := hss2.below bA (Nat.le_refl _)
    have b12 := b2.trans (bA.mono b2.size)
    have bwA := b1.trans (b12.mono b1.size)
    clear hR2 hss2 b2 bA b12 b1 CS
    go_wp2_with fail
    generalize w2.alloc (.cells #[.slice av ll.length cv] 25) = WA at *
    generalize w2.heap.size = A at *
    refine (CI WA).mono ?_
    rintro e w3 ⟨v3, rfl, ⟨vs3, hR3⟩, b3⟩
    obtain ⟨ai, gi, ci, rfl, hss3⟩ := hR3.b.ss
    have bB := below1 w3 (.cells #[.slice ai ll.length ci] 25)
    have sB := Slot1.new w3 (.slice ai ll.length ci) 25
    have ssB := hss3.below bB (Nat.le_refl _)
    have b3' := b3.trans (bB.mono b3.size)
    have sAB := sA.bl' b3'
    have ssAB := ssA.below b3' (Nat.le_refl _)
    have bwB := bwA.trans (b3'.mono bwA.size)
    clear hR3 hss3 b3 bB b3' sA ssA CI bwA
    have x0 := sAB.c
    have x1 := sB.c
    cases hok : M.shapeOk s h
    · clear hok HF CG CP
      go_wp2_with fail
      generalize w3.alloc (.cells #[.slice ai ll.length ci] 25) = WB at *
      generalize w3.heap.size = B at *
      refine (LQ ai gi ci av gv cv _ ssB ssAB).mono ?_
      rintro e W4 ⟨rfl, b4⟩
      have sB4 := sB.bl' b4
      have sA4 := sAB.bl' b4
      clear x0 x1
      have x0 := sA4.c
      have x1 := sB4.c
      go_wp2_with fail
      refine (LQ ai gi ci av gv cv _ (ssB.below b4 (Nat.le_refl _)) (ssAB.below b4 (Nat.le_refl _))).mono ?_
      rintro e W5 ⟨rfl, b5⟩
      have b45 := b4.trans (b5.mono b4.size)
      go_wp2_with fail
      go_ret
      exact ⟨rfl, bwB.trans (b45.mono bwB.size)⟩
    · by_cases h6 : s = 6
      · clear hok HF CG CP
        subst h6
        go_wp2_with fail
        generalize w3.alloc (.cells #[.slice ai ll.length ci] 25) = WB at *
        generalize w3.heap.size = B at *
        refine (LQ ai gi ci av gv cv _ ssB ssAB).mono ?_
        rintro e W4 ⟨rfl, b4⟩
        have sB4 := sB.bl' b4
        have sA4 := sAB.bl' b4
        clear x0 x1
        have x0 := sA4.c
        have x1 := sB4.c
        go_wp2_with fail
        refine (LQ ai gi ci av gv cv _ (ssB.below b4 (Nat.le_refl _)) (ssAB.below b4 (Nat.le_refl _))).mono ?_
        rintro e W5 ⟨rfl, b5⟩
        have b45 := b4.trans (b5.mono b4.size)
        go_wp2_with fail
        go_ret
        exact ⟨rfl, bwB.trans (b45.mono bwB.size)⟩
      · obtain ⟨hw1, hw2⟩ := HF.out hok h6
        have HW1 : Hid ((M.wallAll pp).isSome = true) := hw1
        have HW2 : Hid ((M.wallAll pp).getD [] = gg) := hw2
        have h6' : (s == 6) = false := by simpa using h6
        clear hok HF hw1 hw2
        go_wp2_with fail
        generalize w3.alloc (.cells #[.slice ai ll.length ci] 25) = WB at *
        generalize w3.heap.size = B at *
        refine (LQ ai gi ci av gv cv _ ssB ssAB).mono ?_
        rintro e W4 ⟨rfl, b4⟩
        have bw4 := bwB.trans (b4.mono bwB.size)
        clear x0 x1 sB ssB sAB ssAB bwB b4 LQ
        go_wp2_with fail
        refine (CP W4).mono ?_
        rintro e w5 ⟨v5, rfl, ⟨vs5, hR5⟩, b5⟩
        obtain ⟨ap, g5, cp, rfl, hss5⟩ := hR5.b.ss
        have bG := below1 w5 (.cells #[.slice ap pp.length cp] 25)
        have sG := Slot1.new w5 (.slice ap pp.length cp) 25
        have ssG := hss5.below bG (Nat.le_refl _)
        have b5' := b5.trans (bG.mono b5.size)
        have bw5 := bw4.trans (b5'.mono bw4.size)
        clear hR5 hss5 b5 bG b5' CP bw4
        have x0 := sG.c
        go_wp2_with fail
        generalize w5.alloc (.cells #[.slice ap pp.length cp] 25) = W5 at *
        generalize w5.heap.size = G at *
        have CW := iwallAll_any ap g5 0 cp pp hpl1 hpl2 W5 ssG
        rw [HW1.out, HW2.out] at CW
        refine CW.mono ?_
        rintro e w6 ⟨v6, rfl, vs6, hR6, b6⟩
        obtain ⟨aw, g6, cw, rfl, hss6⟩ := hR6.b.ss
        have bP := below1 w6 (.cells #[.slice aw gg.length cw] 25)
        have sW := Slot1.new w6 (.slice aw gg.length cw) 25
        have ssW := hss6.below bP (Nat.le_refl _)
        have b6' := b6.trans (bP.mono b6.size)
        have bw6 := bw5.trans (b6'.mono bw5.size)
        clear hR6 hss6 b6 bP b6' CW bw5 sG ssG x0
        go_wp2_with fail
        generalize w6.alloc (.cells #[.slice aw gg.length cw] 25) = W6 at *
        generalize w6.heap.size = A6 at *
        refine (CG W6).mono ?_
        rintro e w7 ⟨v7, rfl, ⟨vs7, hR7⟩, b7⟩
        obtain ⟨ag, g7, cg, rfl, hss7⟩ := hR7.b.ss
        have bP := below1 w7 (.cells #[.slice ag gg.length cg] 25)
        have sG := Slot1.new w7 (.slice ag gg.length cg) 25
        have ssG := hss7.below bP (Nat.le_refl _)
        have b7' := b7.trans (bP.mono b7.size)
        have sW7 := sW.bl' b7'
        have ssW7 := ssW.below b7' (Nat.le_refl _)
        have bw7 := bw6.trans (b7'.mono bw6.size)
        clear hR7 hss7 b7 bP b7' CG bw6 sW ssW
        have x0 := sW7.c
        have x1 := sG.c
        go_wp2_with fail
        generalize w7.alloc (.cells #[.slice ag gg.length cg] 25) = W7 at *
        generalize w7.heap.size = A7 at *
        refine (LP aw g6 cw ag g7 cg _ ssW7 ssG).mono ?_
        rintro e W8 ⟨rfl, b8⟩
        go_wp2_with fail
        go_ret
        exact ⟨rfl, bw7.trans (b8.mono bw7.size)⟩
  · go_enter Try.func5, Try.ntmps5
    go_wp2_with fail
    go_ret
    exact ⟨rfl, Below.refl _ _⟩

end Go.Proofs.Ytoabfiocjjfjeaa
