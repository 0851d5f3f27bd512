/- The law FnShapePlain, walked: it answers true, and leaves all as it was. Of whatever code. -/
import Derived.Test.YtnaljfnijcoheaaShL
import Derived.Test.YtnaljfnijcoheaaShS
import Derived.Test.YtnaljfnijcoheaaShFact
import Derived.Test.YtnaljfnijcoheaaDrSh
import Derived.Test.YtnaljfnijcoheaaLpPg
import Derived.Test.YtnaljfnijcoheaaTnPn
namespace Go.Proofs.Ytnaljfnijcoheaa
open Go.RowKit

theorem M.shape_plain {s h : Int} (e : M.shapeOk s h = true) : M.turnPlain ((M.shape s 2).getD []) = (M.shape s 0).getD [] := by
  obtain ⟨hs, _⟩ := M.shape_cases e
  rcases hs with rfl | rfl | rfl | rfl | rfl | rfl <;> rfl

set_option maxHeartbeats 2000000 in
set_option maxRecDepth 100000 in
set_option linter.unusedSimpArgs false in
theorem lawSp_any (ca : Option Addr) (cb co L C : Nat) (x : Nat → Int) (w : World) (hL : L ≤ C) (had : 0 < L → ca = some ⟨cb, co, none⟩) (hc : ∀ i, i < L → w.cell? ⟨cb, co + i, none⟩ = some (.int .u8 (x i)) ∧ 0 ≤ x i ∧ x i ≤ 255) :
    Calls Try.prog 8 #[.slice ca L C] w fun e w' => e = .returned (.bool true) ∧ Below w.heap.size w w' := by
  by_cases hLb : L ≤ 1048576
  · go_enter Try.func8, Try.ntmps8
    go_wp2_with fail
    refine (DrawShapeOf_any ca cb co L C x _ hL had hc hLb).mono ?_
    rintro e w1 ⟨s, h, rfl, b1⟩
    clear had hc
    have CS := sshapeOf_any s h w1
    have CI := fun W => ishapeOf_any s h W
    obtain ⟨hs2, hs5⟩ := M.shape_small s h
    have CG := fun W => ishapeOf_any s 2 W
    have CP := fun W => ishapeOf_any s 0 W
    obtain ⟨hg2, hg5⟩ := M.shape_small s 2
    obtain ⟨hp2, hp5⟩ := M.shape_small s 0
    have HF : Hid (M.shapeOk s h = true → M.turnPlain ((M.shape s 2).getD []) = (M.shape s 0).getD []) := fun e => M.shape_plain e
    obtain ⟨gg, hgg⟩ : ∃ r, (M.shape s 2).getD [] = r := ⟨_, rfl⟩
    obtain ⟨pp, hpp⟩ : ∃ r, (M.shape s 0).getD [] = r := ⟨_, rfl⟩
    rw [hgg] at CG hg2 hg5 HF
    rw [hpp] at CP hp2 hp5 HF
    generalize (M.shape s 2).isSome = okg at *
    generalize (M.shape s 0).isSome = okp at *
    clear hgg hpp
    have hgl1 : gg.length ≤ 1048576 := by omega
    have hgl2 : ∀ t ∈ gg, t.length ≤ 1048576 := fun t ht => by have := hg5 t ht; omega
    have hpl1 : pp.length ≤ 1048576 := by omega
    have hpl2 : ∀ t ∈ pp, t.length ≤ 1048576 := fun t ht => by have := hp5 t ht; omega
    clear hg2 hg5 hp2 hp5
    have LP := fun A B C D E F W h1 h2 => lpProg_any A B 0 C D E 0 F pp pp W hpl1 hpl1 hpl2 h1 h2
    rw [M.eqLL_yes rfl] at LP
    rw [M.shape_some] at CS CI
    generalize (M.shape s h).getD [] = ll at *
    have hl1 : ll.length ≤ 1048576 := by omega
    have hl2 : ∀ t ∈ ll, t.length ≤ 1048576 := fun t ht => by have := hs5 t ht; omega
    clear hs5 hs2
    have LQ := fun A B C D E F W h1 h2 => lpProg_any A B 0 C D E 0 F ll ll W hl1 hl1 hl2 h1 h2
    rw [M.eqLL_yes rfl] at LQ
    go_wp2_with fail
    refine CS.mono ?_
    rintro e w2 ⟨v2, rfl, ⟨vs2, hR2⟩, b2⟩
    obtain ⟨av, gv, cv, rfl, hss2⟩ := hR2.b.ss
    have bA := below1 w2 (.cells #[.slice av ll.length cv] 25)
    have sA := Slot1.new w2 (.slice av ll.length cv) 25
    have ssA := hss2.below bA (Nat.le_refl _)
    have b12 := b2.trans (bA.mono b2.size)
    have bwA := b1.trans (b12.mono b1.size)
    clear hR2 hss2 b2 bA b12 b1 CS
    go_wp2_with fail
    generalize w2.alloc (.cells #[.slice av ll.length cv] 25) = WA at *
    generalize w2.heap.size = A at *
    refine (CI WA).mono ?_
    rintro e w3 ⟨v3, rfl, ⟨vs3, hR3⟩, b3⟩
    obtain ⟨ai, gi, ci, rfl, hss3⟩ := hR3.b.ss
    have bB := below1 w3 (.cells #[.slice ai ll.length ci] 25)
    have sB := Slot1.new w3 (.slice ai ll.length ci) 25
    have ssB := hss3.below bB (Nat.le_refl _)
    have b3' := b3.trans (bB.mono b3.size)
    have sAB := sA.bl' b3'
    have ssAB := ssA.below b3' (Nat.le_refl _)
    have bwB := bwA.trans (b3'.mono bwA.size)
    clear hR3 hss3 b3 bB b3' sA ssA CI bwA
    have x0 := sAB.c
    have x1 := sB.c
    have s8 : w3.heap.size < (w3.alloc (.cells #[.slice ai ll.length ci] 25)).heap.size := by simp
    cases hok : M.shapeOk s h
    · clear hok HF CG CP
      go_wp2_with fail
      generalize w3.alloc (.cells #[.slice ai ll.length ci] 25) = WB at *
      generalize w3.heap.size = B at *
      refine (LQ ai gi ci av gv cv _ ssB ssAB).mono ?_
      rintro e W4 ⟨rfl, b4⟩
      have sB4 := sB.bl' b4
      have sA4 := sAB.bl' b4
      clear x0 x1
      have x0 := sA4.c
      have x1 := sB4.c
      go_wp2_with fail
      refine (LQ ai gi ci av gv cv _ (ssB.below b4 (Nat.le_refl _)) (ssAB.below b4 (Nat.le_refl _))).mono ?_
      rintro e W5 ⟨rfl, b5⟩
      have b45 := b4.trans (b5.mono b4.size)
      go_wp2_with fail
      go_ret
      exact ⟨rfl, bwB.trans (b45.mono bwB.size)⟩
    · have HT : Hid (M.turnPlain gg = pp) := HF.out hok
      clear hok HF
      go_wp2_with fail
      generalize w3.alloc (.cells #[.slice ai ll.length ci] 25) = WB at *
      generalize w3.heap.size = B at *
      refine (LQ ai gi ci av gv cv _ ssB ssAB).mono ?_
      rintro e W4 ⟨rfl, b4⟩
      have bw4 := bwB.trans (b4.mono bwB.size)
      clear x0 x1 sB ssB sAB ssAB bwB b4 LQ s8
      go_wp2_with fail
      refine (CG W4).mono ?_
      rintro e w5 ⟨v5, rfl, ⟨vs5, hR5⟩, b5⟩
      obtain ⟨ag, g5, cg, rfl, hss5⟩ := hR5.b.ss
      have bG := below1 w5 (.cells #[.slice ag gg.length cg] 25)
      have sG := Slot1.new w5 (.slice ag gg.length cg) 25
      have ssG := hss5.below bG (Nat.le_refl _)
      have b5' := b5.trans (bG.mono b5.size)
      have bw5 := bw4.trans (b5'.mono bw4.size)
      clear hR5 hss5 b5 bG b5' CG bw4
      go_wp2_with fail
      generalize w5.alloc (.cells #[.slice ag gg.length cg] 25) = W5 at *
      generalize w5.heap.size = G at *
      refine (CP W5).mono ?_
      rintro e w6 ⟨v6, rfl, ⟨vs6, hR6⟩, b6⟩
      obtain ⟨ap, g6, cp, rfl, hss6⟩ := hR6.b.ss
      have bP := below1 w6 (.cells #[.slice ap pp.length cp] 25)
      have sP := Slot1.new w6 (.slice ap pp.length cp) 25
      have ssP := hss6.below bP (Nat.le_refl _)
      have b6' := b6.trans (bP.mono b6.size)
      have sG6 := sG.bl' b6'
      have ssG6 := ssG.below b6' (Nat.le_refl _)
      have bwD := bw5.trans (b6'.mono bw5.size)
      clear hR6 hss6 b6 bP b6' CP bw5 sG ssG
      go_wp2_with fail
      generalize w6.alloc (.cells #[.slice ap pp.length cp] 25) = WD at *
      generalize w6.heap.size = P at *
      have x0 := sG6.c
      have x1 := sP.c
      have CT : ∀ W, Below WD.heap.size WD W → Calls Try.prog 36 #[.agg #[.slice ag gg.length cg]] W fun e w' => ∃ v, e = .returned (.agg #[v]) ∧ (∃ vs, Rdg w' W.heap.size v pp vs) ∧ Below W.heap.size W w' := fun W hb => by
        have C := iturnPlain_any ag g5 0 cg gg hgl1 hgl2 W (ssG6.below hb (Nat.le_refl _))
        rw [HT.out] at C
        exact C
      refine wp_region_held_drew (S := fun w' => Below WD.heap.size WD w') (by kernel_rfl) (Below.refl _ _).drew (fun hH => ?_)
      refine takeD 0 (some 64) (.agg #[.slice ag gg.length cg]) hH rfl rfl (by kernel_rfl) (by kernel_rfl) (by kernel_rfl) (fun _ _ _ h => h) (Or.inl ⟨by rfl, by intro w' hSw; have hc := (hSw.cell (p := ⟨G, 0, none⟩) sG6.lt).trans x0; go_simp⟩) ?_
      simp only [Act.put, List.setIfInBounds_toArray, List.set_cons_zero, List.set_cons_succ]
      refine takeD 2 (some 66) (.agg #[.slice ap pp.length cp]) hH rfl rfl (by kernel_rfl) (by kernel_rfl) (by kernel_rfl) (fun _ _ _ h => h) (Or.inl ⟨by rfl, by intro w' hSw; have hc := (hSw.cell (p := ⟨P, 0, none⟩) sP.lt).trans x1; go_simp⟩) ?_
      simp only [Act.put, List.setIfInBounds_toArray, List.set_cons_zero, List.set_cons_succ]
      refine wpAnyH_ready (rs := [1]) (by kernel_rfl) (by simp) ?_
      refine AllReadyH.cons rfl (fun K' hK => ?_) AllReadyH.nil
      refine step_goV (by rfl) (some 65) rfl 36 #[.tmp 64] _ rfl #[.agg #[.slice ag gg.length cg]] (by simp [Act.eval]) (fun _ _ => rfl) (CT _ ((Below.refl WD.heap.size WD).drew)) ?_
      rintro e w7 ⟨v7, rfl, ⟨vs7, hR7⟩, bb7⟩
      obtain ⟨a7, g7, c7, rfl, ss7⟩ := hR7.b.ss
      have b7 : Below WD.heap.size WD w7 := Below.trans ((Below.refl WD.heap.size WD).drew) (bb7.mono (Below.size ((Below.refl WD.heap.size WD).drew)))
      refine ⟨_, rfl, ?_⟩
      simp only [Act.put, List.setIfInBounds_toArray, List.set_cons_zero, List.set_cons_succ]
      refine hK.out _ _ b7 (fun hH7 => ?_)
      clear hK K'
      refine wpAnyH_ready (rs := [3]) (by kernel_rfl) (by simp) ?_
      refine AllReadyH.cons rfl (fun K' hK => ?_) AllReadyH.nil
      refine step_goV (by rfl) (some 67) rfl 34 #[.tmp 65, .tmp 66] _ rfl #[.agg #[.slice a7 pp.length c7], .agg #[.slice ap pp.length cp]] (by simp [Act.eval]) (fun _ _ => rfl) (LP a7 g7 c7 ap g6 cp _ ss7 (ssP.below b7 (Nat.le_refl _))) ?_
      rintro e w8 ⟨rfl, bb8⟩
      have b8 : Below WD.heap.size WD w8 := Below.trans b7 (bb8.mono (Below.size b7))
      refine ⟨_, rfl, ?_⟩
      simp only [Act.put, List.setIfInBounds_toArray, List.set_cons_zero, List.set_cons_succ]
      refine hK.out _ _ b8 (fun hH8 => ?_)
      clear hK K'
      refine takeD 4 (some 2) (.bool true) hH8 rfl rfl (by kernel_rfl) (by kernel_rfl) (by kernel_rfl) (fun _ _ _ h => h) (Or.inl ⟨by rfl, by intro w' hSw; go_simp⟩) ?_
      simp only [Act.put, List.setIfInBounds_toArray, List.set_cons_zero, List.set_cons_succ]
      refine wpAnyH_done (by kernel_rfl) ?_ _
      go_wp2_with fail
      go_ret
      exact ⟨rfl, bwD.trans (b8.mono bwD.size)⟩
  · go_enter Try.func8, Try.ntmps8
    go_wp2_with fail
    go_ret
    exact ⟨rfl, Below.refl _ _⟩

end Go.Proofs.Ytnaljfnijcoheaa
