/- The law FnWallNone, walked: it answers true, and leaves all as it was. Of whatever code. -/
import Derived.Test.YtdbndkakpbjehaaDrWp
import Derived.Test.YtdbndkakpbjehaaLpPg
import Derived.Test.YtdbndkakpbjehaaPgSm
namespace Go.Proofs.Ytdbndkakpbjehaa
open Go.RowKit

theorem M.walls_none (ll : List (List M.D)) : ∀ n, M.walls [] n ll = ll := by
  have hT : ∀ (t : List M.D) n, M.wallR [] n t = t := fun t => by
    induction t with
    | nil => intro n; rfl
    | cons d t ih => intro n; simp [M.wallR, M.pre, M.has, ih]
  induction ll with
  | nil => intro n; rfl
  | cons t ll ih =>
    intro n
    rw [M.walls, ih]
    cases t with
    | nil => rfl
    | cons d t => simp [M.wallT, hT]
theorem M.wallPut_nil (ll : List (List M.D)) : M.wallPut ll [] = if M.prog ll then some ll else none := by
  unfold M.wallPut
  rw [M.walls_none]
  have : M.gapsOk [] (M.gaps ll) = true := rfl
  rw [this]
  cases M.prog ll <;> simp

set_option maxHeartbeats 1000000 in
set_option maxRecDepth 100000 in
theorem lawWn_any (ca : Option Addr) (cb co L C : Nat) (x : Nat → Int) (w : World) (hL : L ≤ C) (had : 0 < L → ca = some ⟨cb, co, none⟩) (hc : ∀ i, i < L → w.cell? ⟨cb, co + i, none⟩ = some (.int .u8 (x i)) ∧ 0 ≤ x i ∧ x i ≤ 255) :
    Calls Try.prog 5 #[.slice ca L C] w fun e w' => e = .returned (.bool true) ∧ Below w.heap.size w w' := by
  by_cases hLb : L ≤ 1048576
  · go_enter Try.func5, Try.ntmps5
    go_wp2_with fail
    refine (DrawWallPut_any ca cb co L C x _ hL had hc hLb).mono ?_
    rintro e w1 ⟨a, g, c, mm, ga, gg, gc, gs, rfl, hD⟩
    have hle : ∀ t ∈ mm, t.length ≤ 1048576 := fun t ht => by have := hD.sm.steps t ht; omega
    have hml : mm.length ≤ 1048576 := by have := hD.sm.three; omega
    have hgl : gs.length ≤ 1048576 := by have := hD.gl; omega
    have bA := below1 w1 (.cells #[.slice a mm.length c] 25)
    have bwA := hD.bel.trans (bA.mono hD.bel.size)
    have sP := Slot1.new w1 (.slice a mm.length c) 25
    have ssP := hD.sn.ss.below bA (Nat.le_refl _)
    have giP := hD.gi.below bA (Nat.le_refl _)
    clear had hc hD bA
    have x0 := sP.c
    go_wp2_with fail
    generalize w1.alloc (.cells #[.slice a mm.length c] 25) = WA at *
    generalize w1.heap.size = P at *
    have CS := swallPut_any a g 0 c mm hml hle ga gg 0 gc gs hgl
    have CI := iwallPut_any a g 0 c mm hml hle ga gg 0 gc gs hgl
    have CN := fun W hW => iwallPut_any a g 0 c mm hml hle none 0 0 0 [] (by simp) W hW (IntS.nil _ _ _ _)
    rw [M.wallPut_nil] at CN
    generalize hq : (M.wallPut mm gs).getD [] = qq at *
    obtain ⟨hq3, hq7⟩ := M.wallPut_small hq
    clear hq
    have hql : qq.length ≤ 1048576 := by omega
    have hqls : ∀ t ∈ qq, t.length ≤ 1048576 := fun t ht => by have := hq7 t ht; omega
    generalize (M.wallPut mm gs).isSome = ok at *
    have CP := fun W hW => sprog_any a g 0 c mm W hml hle hW
    have LQ := fun A B C D E F W h1 h2 => lpProg_any A B 0 C D E 0 F qq qq W hql hql hqls h1 h2
    have LM := fun A B C W h1 h2 => lpProg_any A B 0 C a g 0 c mm mm W hml hml hle h1 h2
    rw [M.eqLL_yes rfl] at LQ LM
    refine (CS WA ssP giP).mono ?_
    rintro e w2 ⟨v2, rfl, vs2, hR2, b2⟩
    obtain ⟨av, gv, cv, rfl, hss2⟩ := hR2.b.ss
    have bW := below1 w2 (.cells #[.slice av qq.length cv] 25)
    have bAW := b2.trans (bW.mono b2.size)
    have sPW := sP.bl' bAW
    have sW := Slot1.new w2 (.slice av qq.length cv) 25
    have ssW := hss2.below bW (Nat.le_refl _)
    clear hR2 hss2 b2 bW x0
    have x0 := sPW.c
    go_wp2_with fail
    generalize w2.alloc (.cells #[.slice av qq.length cv] 25) = WB at *
    generalize w2.heap.size = PW at *
    refine (CI WB (ssP.below bAW (Nat.le_refl _)) (giP.below bAW (Nat.le_refl _))).mono ?_
    rintro e w3 ⟨v3, rfl, vs3, hR3, b3⟩
    obtain ⟨ai, gi, ci, rfl, hss3⟩ := hR3.b.ss
    have bQ := below1 w3 (.cells #[.slice ai qq.length ci] 25)
    have bBQ := b3.trans (bQ.mono b3.size)
    have bAQ := bAW.trans (bBQ.mono bAW.size)
    have sPQ := sP.bl' bAQ
    have sQ := Slot1.new w3 (.slice ai qq.length ci) 25
    have ssQ := hss3.below bQ (Nat.le_refl _)
    have sWQ := sW.bl' bBQ
    have ssWQ := ssW.below bBQ (Nat.le_refl _)
    clear hR3 hss3 b3 bQ x0 sPW sW ssW
    have x0 := sPQ.c
    go_wp2_with fail
    generalize w3.alloc (.cells #[.slice ai qq.length ci] 25) = WC at *
    generalize w3.heap.size = PQ at *
    cases hp : M.prog mm
    · rw [hp] at CN CP
      simp only [Bool.false_eq_true, if_false, Option.isSome_none, Option.getD_none] at CN
      refine (CN WC (ssP.below bAQ (Nat.le_refl _))).mono ?_
      rintro e w4 ⟨v4, rfl, vs4, hR4, b4⟩
      obtain ⟨an, gn, cn, rfl, _⟩ := hR4.b.ss
      have bN := below1 w4 (.cells #[.slice an 0 cn] 25)
      have bCN := b4.trans (bN.mono b4.size)
      have bAN := bAQ.trans (bCN.mono bAQ.size)
      have sPN := sP.bl' bAN
      have sQN := sQ.bl' bCN
      have sWN := sWQ.bl' bCN
      have ssQN := ssQ.below bCN (Nat.le_refl _)
      have ssWN := ssWQ.below bCN (Nat.le_refl _)
      have ssPN := ssP.below bAN (Nat.le_refl _)
      clear hR4 b4 bN x0 sPQ sQ sWQ ssQ ssWQ
      have x0 := sPN.c
      have x1 := sQN.c
      have x2 := sWN.c
      go_wp2_with fail
      generalize w4.alloc (.cells #[.slice an 0 cn] 25) = WD at *
      refine (LQ ai gi ci av gv cv _ ssQN ssWN).mono ?_
      rintro e w5 ⟨rfl, b5⟩
      clear x0 x1 x2
      have bA5 := bAN.trans (b5.mono bAN.size)
      have x0 := (sPN.bl' b5).c
      go_wp2_with fail
      refine (CP w5 (ssP.below bA5 (Nat.le_refl _))).mono ?_
      rintro e w6 ⟨rfl, b6⟩
      go_wp2_with fail
      go_ret
      exact ⟨rfl, bwA.trans ((bA5.trans (b6.mono bA5.size)).mono bwA.size)⟩
    · rw [hp] at CN CP
      simp only [if_true, Option.isSome_some, Option.getD_some] at CN
      refine (CN WC (ssP.below bAQ (Nat.le_refl _))).mono ?_
      rintro e w4 ⟨v4, rfl, vs4, hR4, b4⟩
      obtain ⟨an, gn, cn, rfl, hss4⟩ := hR4.b.ss
      have bN := below1 w4 (.cells #[.slice an mm.length cn] 25)
      have bCN := b4.trans (bN.mono b4.size)
      have bAN := bAQ.trans (bCN.mono bAQ.size)
      have sPN := sP.bl' bAN
      have sQN := sQ.bl' bCN
      have sWN := sWQ.bl' bCN
      have sN := Slot1.new w4 (.slice an mm.length cn) 25
      have ssN := hss4.below bN (Nat.le_refl _)
      have ssQN := ssQ.below bCN (Nat.le_refl _)
      have ssWN := ssWQ.below bCN (Nat.le_refl _)
      clear hR4 b4 bN x0 sPQ sQ sWQ ssQ ssWQ hss4
      have x0 := sPN.c
      have x1 := sQN.c
      have x2 := sWN.c
      go_wp2_with fail
      generalize w4.alloc (.cells #[.slice an mm.length cn] 25) = WD at *
      generalize w4.heap.size = PN at *
      refine (LQ ai gi ci av gv cv _ ssQN ssWN).mono ?_
      rintro e w5 ⟨rfl, b5⟩
      clear x0 x1 x2
      have bA5 := bAN.trans (b5.mono bAN.size)
      have sP5 := sPN.bl' b5
      have x0 := sP5.c
      go_wp2_with fail
      refine (CP w5 (ssP.below bA5 (Nat.le_refl _))).mono ?_
      rintro e w6 ⟨rfl, b6⟩
      have b56 := b5.trans (b6.mono b5.size)
      have bA6 := bA5.trans (b6.mono bA5.size)
      clear x0
      have x0 := (sP5.bl' b6).c
      have x1 := (sN.bl' b56).c
      go_wp2_with fail
      refine (LM an gn cn w6 (ssN.below b56 (Nat.le_refl _)) (ssP.below bA6 (Nat.le_refl _))).mono ?_
      rintro e w7 ⟨rfl, b7⟩
      go_wp2_with fail
      go_ret
      exact ⟨rfl, bwA.trans ((bA6.trans (b7.mono bA6.size)).mono bwA.size)⟩
  · go_enter Try.func5, Try.ntmps5
    go_wp2_with fail
    go_ret
    exact ⟨rfl, Below.refl _ _⟩

end Go.Proofs.Ytdbndkakpbjehaa
