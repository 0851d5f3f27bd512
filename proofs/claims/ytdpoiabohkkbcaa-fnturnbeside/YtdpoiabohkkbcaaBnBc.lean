/- The law FnTurnBeside, walked: it answers true, and leaves all as it was. Of whatever code. -/
import Derived.Test.YtdpoiabohkkbcaaBnBd
import Derived.Test.YtdpoiabohkkbcaaBnBb
import Derived.Test.YtdpoiabohkkbcaaLpPg
import Derived.Test.YtdpoiabohkkbcaaReads
import Derived.Test.YtdpoiabohkkbcaaQuietB
import Derived.BigQuiet

namespace Go.Proofs.Ytdpoiabohkkbcaa
open Go.RowKit

theorem M.tot_app (f : Int → Bool) (a b : List (List M.D)) : M.tot f (a ++ b) = M.tot f a + M.tot f b := by
  induction a with
  | nil => simp [M.tot]
  | cons x a ih => simp only [List.cons_append, M.tot, ih]; omega
theorem M.turnBeside_fact {mm qq nn : List (List M.D)} (e : (M.turnBeside mm qq).getD [] = nn) (h : (M.turnBeside mm qq).isSome = true) : nn = mm ++ qq ∧ M.nreads nn = M.nreads mm + M.nreads qq ∧ 0 ≤ M.nreads mm ∧ 0 ≤ M.nreads qq ∧ M.nreads mm ≤ 100 ∧ M.nreads qq ≤ 100 := by
  obtain ⟨y, hy⟩ := Option.isSome_iff_exists.1 h
  obtain ⟨h1, h2, h3, h4⟩ := M.turnBeside_some hy
  rw [hy] at e
  obtain rfl : y = nn := e
  subst h4
  have key : ∀ l, M.prog l = true → M.tot M.reads l ≤ 100 := fun l hl => by
    obtain ⟨_, _, _, hu⟩ := (M.prog_iff l).1 hl
    have cm : ∀ t : List M.D, M.cnt M.reads t ≤ M.cnt M.uses t := fun t => by
      induction t with
      | nil => exact Nat.le_refl _
      | cons d t ih =>
        rw [M.cnt_cons, M.cnt_cons]
        have : M.reads d.k = true → M.uses d.k = true := fun h => by simp [M.uses, h]
        cases hr : M.reads d.k
        · simp; omega
        · rw [this hr]; simp; omega
    have tm : ∀ l : List (List M.D), M.tot M.reads l ≤ M.tot M.uses l := fun l => by
      induction l with
      | nil => exact Nat.le_refl _
      | cons t l ih => have := cm t; simp only [M.tot]; omega
    have := tm l
    omega
  have k1 := key _ h1
  have k2 := key _ h2
  rw [M.nreads_ok h1, M.nreads_ok h2, M.nreads_ok h3, M.tot_app]
  exact ⟨rfl, by omega, by omega, by omega, by omega, by omega⟩
theorem DoSS.front {w : World} {a : Option Addr} {b o : Nat} {mm qq : List (List M.D)} (h : DoSS w a b o (mm ++ qq)) : DoSS w a b o mm :=
  ⟨fun hp => h.addr (by simp; omega), fun i hi => by
    obtain ⟨a', b', o', c', hc, hd⟩ := h.row i (by simp; omega)
    rw [List.getElem_append_left hi] at hc hd
    exact ⟨a', b', o', c', hc, hd⟩⟩
theorem DoSS.back {w : World} {a a' : Option Addr} {b : Nat} {mm qq : List (List M.D)} (h : DoSS w a b 0 (mm ++ qq)) (ha : 0 < qq.length → a' = some ⟨b, mm.length, none⟩) : DoSS w a' b mm.length qq :=
  ⟨ha, fun i hi => by
    obtain ⟨a', b', o', c', hc, hd⟩ := h.row (mm.length + i) (by simp; omega)
    have e : (mm ++ qq)[mm.length + i]'(by simp; omega) = qq[i] := by rw [List.getElem_append_right (by omega)]; simp
    rw [e] at hc hd
    rw [Nat.zero_add] at hc
    exact ⟨a', b', o', c', hc, hd⟩⟩

set_option maxHeartbeats 4000000 in
set_option maxRecDepth 100000 in
theorem lawBs_any (ca : Option Addr) (cb co L C : Nat) (x : Nat → Int) (w : World) (hL : L ≤ C) (had : 0 < L → ca = some ⟨cb, co, none⟩) (hc : ∀ i, i < L → w.cell? ⟨cb, co + i, none⟩ = some (.int .u8 (x i)) ∧ 0 ≤ x i ∧ x i ≤ 255) :
    Calls Try.prog 5 #[.slice ca L C] w fun e w' => e = .returned (.bool true) ∧ Below w.heap.size w w' := by
  by_cases hLb : L ≤ 1048576
  · go_enter Try.func5, Try.ntmps5
    go_wp2_with fail
    refine (DrawTurnBeside_any ca cb co L C x _ hL had hc hLb).mono ?_
    rintro e w1 ⟨a, g, c, mm, a2, g2, c2, qq, rfl, hD⟩
    have hle : ∀ t ∈ mm, t.length ≤ 1048576 := fun t ht => by have := hD.ms t ht; omega
    have hml : mm.length ≤ 1048576 := by have := hD.ml; omega
    have hqe : ∀ t ∈ qq, t.length ≤ 1048576 := fun t ht => by have := hD.ns t ht; omega
    have hql : qq.length ≤ 1048576 := by have := hD.nl; omega
    have hm3 := hD.ml
    have hq3 := hD.nl
    have bA := below2 w1 (.cells #[.slice a mm.length c] 25) (.cells #[.slice a2 qq.length c2] 25)
    have bwA := hD.bel.trans (bA.mono hD.bel.size)
    have sP := (Slot1.new w1 (.slice a mm.length c) 25).bl' (below1 _ (.cells #[.slice a2 qq.length c2] 25))
    have sO := Slot1.new (w1.alloc (.cells #[.slice a mm.length c] 25)) (.slice a2 qq.length c2) 25
    rw [World.size_alloc] at sO
    have ssP := hD.p.below bA (Nat.le_refl _)
    have ssO := hD.q.below bA (Nat.le_refl _)
    clear had hc hD bA
    go_wp2_with fail
    generalize (w1.alloc (.cells #[.slice a mm.length c] 25)).alloc (.cells #[.slice a2 qq.length c2] 25) = WA at *
    obtain ⟨P, hP⟩ : ∃ P, w1.heap.size = P := ⟨_, rfl⟩
    rw [hP] at sP sO ⊢
    clear hP
    have CS := sturnBeside_any a g 0 c mm hml hle a2 g2 0 c2 qq hql hqe
    have CI := iturnBeside_any a g 0 c mm hml hle a2 g2 0 c2 qq hql hqe
    obtain ⟨nn, hn⟩ : ∃ nn, (M.turnBeside mm qq).getD [] = nn := ⟨_, rfl⟩
    rw [hn] at CS CI
    obtain ⟨hn3, hn7⟩ := M.turnBeside_small hn
    have hnl : nn.length ≤ 1048576 := by omega
    have hnls : ∀ t ∈ nn, t.length ≤ 1048576 := fun t ht => by have := hn7 t ht; omega
    have HS1 : Hid ((M.turnBeside mm qq).isSome = true → nn = mm ++ qq ∧ M.nreads nn = M.nreads mm + M.nreads qq ∧ 0 ≤ M.nreads mm ∧ 0 ≤ M.nreads qq ∧ M.nreads mm ≤ 100 ∧ M.nreads qq ≤ 100) := M.turnBeside_fact hn
    clear hn
    obtain ⟨ok, hok⟩ : ∃ ok, (M.turnBeside mm qq).isSome = ok := ⟨_, rfl⟩
    rw [hok] at CS CI HS1
    clear hok
    have LQ := fun A B C D E F W h1 h2 => lpProg_any A B 0 C D E 0 F nn nn W hnl hnl hnls h1 h2
    rw [M.eqLL_yes rfl] at LQ
    refine (CS WA ssP ssO).mono ?_
    rintro e w2 ⟨v2, rfl, ⟨vs2, hR2⟩, b2⟩
    obtain ⟨av, gv, cv, rfl, hss2⟩ := hR2.b.ss
    have bW := below1 w2 (.cells #[.slice av nn.length cv] 25)
    have bAW := b2.trans (bW.mono b2.size)
    have sPW := sP.bl' bAW
    have sOW := sO.bl' bAW
    have sW := Slot1.new w2 (.slice av nn.length cv) 25
    have ssW := hss2.below bW (Nat.le_refl _)
    clear hR2 hss2 b2 bW
    have x0 := sPW.c
    have x9 := sOW.c
    go_wp2_with fail
    generalize w2.alloc (.cells #[.slice av nn.length cv] 25) = WB at *
    generalize w2.heap.size = PW at *
    refine (CI WB (ssP.below bAW (Nat.le_refl _)) (ssO.below bAW (Nat.le_refl _))).mono ?_
    rintro e w3 ⟨v3, rfl, ⟨vs3, hR3⟩, b3⟩
    obtain ⟨ai, gi, ci, rfl, hss3⟩ := hR3.b.ss
    have hcap := hR3.b.cap
    have bQ := below1 w3 (.cells #[.slice ai nn.length ci] 25)
    have bBQ := b3.trans (bQ.mono b3.size)
    have bAQ := bAW.trans (bBQ.mono bAW.size)
    have sPQ := sP.bl' bAQ
    have sOQ := sO.bl' bAQ
    have sQ := Slot1.new w3 (.slice ai nn.length ci) 25
    have ssQ := hss3.below bQ (Nat.le_refl _)
    have sWQ := sW.bl' bBQ
    have ssWQ := ssW.below bBQ (Nat.le_refl _)
    clear hR3 hss3 b3 bQ x0 x9 sPW sOW sW ssW
    have x1 := sQ.c
    have x2 := sWQ.c
    cases ok
    · go_wp2_with fail
      generalize w3.alloc (.cells #[.slice ai nn.length ci] 25) = WC at *
      generalize w3.heap.size = PQ at *
      refine (LQ ai gi ci av gv cv _ ssQ ssWQ).mono ?_
      rintro e w4 ⟨rfl, b4⟩
      have sQ4 := sQ.bl' b4
      have sW4 := sWQ.bl' b4
      have bA4 := bAQ.trans (b4.mono bAQ.size)
      clear x1 x2
      have x1 := sQ4.c
      have x2 := sW4.c
      go_wp2_with fail
      refine (LQ ai gi ci av gv cv _ (ssQ.below b4 (Nat.le_refl _)) (ssWQ.below b4 (Nat.le_refl _))).mono ?_
      rintro e w5 ⟨rfl, b5⟩
      go_wp2_with fail
      go_ret
      exact ⟨rfl, bwA.trans ((bA4.trans (b5.mono bA4.size)).mono bwA.size)⟩
    · go_wp2_with fail
      generalize w3.alloc (.cells #[.slice ai nn.length ci] 25) = WC at *
      generalize w3.heap.size = PQ at *
      refine (LQ ai gi ci av gv cv _ ssQ ssWQ).mono ?_
      rintro e WD ⟨rfl, b4⟩
      have sQD := sQ.bl' b4
      have sPD := sPQ.bl' b4
      have sOD := sOQ.bl' b4
      have bAD := bAQ.trans (b4.mono bAQ.size)
      have ssQD := ssQ.below b4 (Nat.le_refl _)
      have ssPD := ssP.below bAD (Nat.le_refl _)
      have ssOD := ssO.below bAD (Nat.le_refl _)
      have bwD := bwA.trans (bAD.mono bwA.size)
      have x0 := sPD.c
      have x1' := sQD.c
      have x9 := sOD.c
      obtain ⟨hnn, hrd, r0, r1, r2, r3⟩ := HS1.out (by first | rfl | trivial)
      clear x1 x2 sQ sPQ sOQ bAQ ssQ ssP ssO b4 bAD sWQ ssWQ bBQ bAW sP sO bwA CS CI LQ HS1
      have hlen : nn.length = mm.length + qq.length := by rw [hnn]; simp
      have C1 := fun q : BelowOf WD => ireads_any ai gi 0 ci nn q.x hnl hnls (ssQD.below q.h (Nat.le_refl _))
      have C2 := fun q : BelowOf WD => ireads_any a g 0 c mm q.x hml hle (ssPD.below q.h (Nat.le_refl _))
      have C3 := fun q : BelowOf WD => ireads_any a2 g2 0 c2 qq q.x hql hqe (ssOD.below q.h (Nat.le_refl _))
      rw [hrd] at C1
      have ssF : DoSS WD ai gi 0 mm := by rw [hnn] at ssQD; exact ssQD.front
      have ssB : ∀ a', (0 < qq.length → a' = some ⟨gi, mm.length, none⟩) → DoSS WD a' gi mm.length qq := fun a' ha => by rw [hnn] at ssQD; exact ssQD.back ha
      have C4 := fun q : BelowOf WD => lpProg_any ai gi 0 ci a g 0 c mm mm q.x hml hml hle (ssF.below q.h (Nat.le_refl _)) (ssPD.below q.h (Nat.le_refl _))
      have C5 := fun (a' : Option Addr) (c' : Nat) (ha : 0 < qq.length → a' = some ⟨gi, mm.length, none⟩) (q : BelowOf WD) => lpProg_any a' gi mm.length c' a2 g2 0 c2 qq qq q.x hql hql hqe ((ssB a' ha).below q.h (Nat.le_refl _)) (ssOD.below q.h (Nat.le_refl _))
      rw [M.eqLL_yes rfl] at C4 C5
      have C6 : ∀ (a' : Option Addr) (c' m : Nat), m = qq.length → (0 < qq.length → a' = some ⟨gi, mm.length, none⟩) → ∀ q : BelowOf WD, Calls Try.prog 11 #[.agg #[.slice a' m c'], .agg #[.slice a2 qq.length c2]] q.x fun e w' => e = .returned (.bool true) ∧ Below q.x.heap.size q.x w' := fun a' c' m hm ha q => by subst hm; exact C5 a' c' ha q
      have hai : 0 < nn.length → ai = some ⟨gi, 0, none⟩ := ssQD.addr
      generalize M.nreads mm = R1 at *
      generalize M.nreads qq = R2 at *
      have HLn : Hid (nn.length = mm.length + qq.length) := hlen
      have C7 := fun q : BelowOf WD => C6 (if ci = mm.length then ai else Option.map (fun x => x.add mm.length) ai) (ci - mm.length) (nn.length - mm.length) (by have := HLn.out; omega) (fun hp => by rw [if_neg (by have := HLn.out; omega), hai (by have := HLn.out; omega)]; show some ((⟨gi, 0, none⟩ : Addr).add mm.length) = _; rw [Go.WideShapes.add_plain, Nat.zero_add]) q
      clear C5 C6
      have X0 := BelowOf.cell x0
      have X1 := BelowOf.cell x1'
      have X9 := BelowOf.cell x9
      have hR12 : IntKind.i64.wrap (R1 + R2) = R1 + R2 := IntWalk.i64_in _ (by omega)
      have hs1 : (mm.length : Int) ≤ ci := by omega
      have hs2 : (mm.length : Int) ≤ nn.length := by omega
      have hs3 : ((nn.length : Int) - mm.length) = (qq.length : Int) := by omega
      clear hrd hnn hlen x1' x9
      go_wp2_with fail
      haveI : Inhabited (BelowOf WD) := ⟨belOf WD⟩
      refine wp_region_quiet_bel (by kernel_rfl) (by kernel_rfl) ?_
      iterate 1 (quiet_step (fail))
      iterate 1 (quiet_step (first | (go_at_call 15; exact Calls.bel_of (C1 _))))
      iterate 1 (quiet_step (fail))
      iterate 1 (quiet_step (first | (go_at_call 15; exact Calls.bel_of (C2 _))))
      iterate 1 (quiet_step (fail))
      iterate 1 (quiet_step (first | (go_at_call 15; exact Calls.bel_of (C3 _))))
      iterate 6 (quiet_step (fail))
      iterate 3 (quiet_step (fail))
      iterate 1 (quiet_step (first | (go_at_call 11; exact Calls.bel_of (C4 _))))
      iterate 8 (quiet_step (fail))
      iterate 1 (quiet_step (first | (go_at_call 11; exact Calls.bel_of (C7 _))))
      iterate 2 (quiet_step (fail))
      refine wpQuiet_nil ?_
      rintro W1 ⟨⟨_, hwq⟩, rfl⟩
      go_wp2_with fail
      all_goals
        go_ret
        exact ⟨rfl, bwD.trans (hwq.mono bwD.size)⟩
  · go_enter Try.func5, Try.ntmps5
    go_wp2_with fail
    go_ret
    exact ⟨rfl, Below.refl _ _⟩

end Go.Proofs.Ytdpoiabohkkbcaa
