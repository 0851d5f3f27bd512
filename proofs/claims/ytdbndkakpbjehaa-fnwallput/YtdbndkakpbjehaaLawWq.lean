/- The law FnWallPut, walked: it answers true, and leaves all as it was. Of whatever code. -/
import Derived.Test.YtdbndkakpbjehaaDrWp
import Derived.Test.YtdbndkakpbjehaaLpPg
import Derived.Test.YtdbndkakpbjehaaPgSm
import Derived.Test.YtdbndkakpbjehaaWlIns
import Derived.Test.YtdbndkakpbjehaaReads
import Derived.Test.YtdbndkakpbjehaaQuietB
import Derived.BigQuiet
namespace Go.Proofs.Ytdbndkakpbjehaa
open Go.RowKit

theorem M.steps_take (ll : List (List M.D)) (n : Nat) (h : n < ll.length) : M.steps (ll.take (n + 1)) = M.steps (ll.take n) + ll[n].length := by
  have app : ∀ a b : List (List M.D), M.steps (a ++ b) = M.steps a + M.steps b := fun a b => by
    induction a with
    | nil => simp [M.steps]
    | cons x a ih => simp only [List.cons_append, M.steps, ih]; omega
  rw [List.take_succ_eq_append_getElem h, app]; simp [M.steps]
theorem M.steps_take_le {ll : List (List M.D)} (h7 : ∀ t ∈ ll, t.length ≤ 7) (n : Nat) : M.steps (ll.take n) ≤ 7 * n := by
  have key : ∀ mm : List (List M.D), (∀ t ∈ mm, t.length ≤ 7) → M.steps mm ≤ 7 * mm.length := fun mm => by
    induction mm with
    | nil => simp [M.steps]
    | cons t mm ih =>
      intro h
      have := h t (by simp)
      have := ih (fun t ht => h t (List.mem_cons_of_mem _ ht))
      simp only [M.steps, List.length_cons]
      omega
  have := key (ll.take n) (fun t ht => h7 t (List.mem_of_mem_take ht))
  have : (ll.take n).length ≤ n := by simp; omega
  omega

set_option maxHeartbeats 2000000 in
set_option maxRecDepth 100000 in
theorem lawWq_any (ca : Option Addr) (cb co L C : Nat) (x : Nat → Int) (w : World) (hL : L ≤ C) (had : 0 < L → ca = some ⟨cb, co, none⟩) (hc : ∀ i, i < L → w.cell? ⟨cb, co + i, none⟩ = some (.int .u8 (x i)) ∧ 0 ≤ x i ∧ x i ≤ 255) :
    Calls Try.prog 4 #[.slice ca L C] w fun e w' => e = .returned (.bool true) ∧ Below w.heap.size w w' := by
  by_cases hLb : L ≤ 1048576
  · go_enter Try.func4, Try.ntmps4
    go_wp2_with fail
    refine (DrawWallPut_any ca cb co L C x _ hL had hc hLb).mono ?_
    rintro e w1 ⟨a, g, c, mm, ga, gg, gc, gs, rfl, hD⟩
    have hle : ∀ t ∈ mm, t.length ≤ 1048576 := fun t ht => by have := hD.sm.steps t ht; omega
    have hml : mm.length ≤ 1048576 := by have := hD.sm.three; omega
    have hgl : gs.length ≤ 1048576 := by have := hD.gl; omega
    have bA := below1 w1 (.cells #[.slice a mm.length c] 25)
    have bwA := hD.bel.trans (bA.mono hD.bel.size)
    have sP := Slot1.new w1 (.slice a mm.length c) 25
    have ssP := hD.sn.ss.below bA (Nat.le_refl _)
    have giP := hD.gi.below bA (Nat.le_refl _)
    clear had hc hD bA
    have x0 := sP.c
    go_wp2_with fail
    generalize w1.alloc (.cells #[.slice a mm.length c] 25) = WA at *
    generalize w1.heap.size = P at *
    have CS := swallPut_any a g 0 c mm hml hle ga gg 0 gc gs hgl
    have CI := iwallPut_any a g 0 c mm hml hle ga gg 0 gc gs hgl
    have HS : Hid ((M.wallPut mm gs).isSome = true → M.prog mm = true ∧ M.gapsOk gs (M.gaps mm) = true ∧ M.prog ((M.wallPut mm gs).getD []) = true ∧ (M.wallPut mm gs).getD [] = M.walls gs 0 mm) := fun h => by
      obtain ⟨y, hy⟩ := Option.isSome_iff_exists.1 h
      obtain ⟨h1, h2, h3, h4⟩ := M.wallPut_some hy
      rw [hy]
      exact ⟨h1, h2, h3, h4⟩
    obtain ⟨qq, hq⟩ : ∃ qq, (M.wallPut mm gs).getD [] = qq := ⟨_, rfl⟩
    rw [hq] at CS CI HS
    obtain ⟨hq3, hq7⟩ := M.wallPut_small hq
    clear hq
    have hql : qq.length ≤ 1048576 := by omega
    have hqls : ∀ t ∈ qq, t.length ≤ 1048576 := fun t ht => by have := hq7 t ht; omega
    obtain ⟨ok, hok⟩ : ∃ ok, (M.wallPut mm gs).isSome = ok := ⟨_, rfl⟩
    rw [hok] at CS CI HS
    clear hok
    have LQ := fun A B C D E F W h1 h2 => lpProg_any A B 0 C D E 0 F qq qq W hql hql hqls h1 h2
    rw [M.eqLL_yes rfl] at LQ
    refine (CS WA ssP giP).mono ?_
    rintro e w2 ⟨v2, rfl, vs2, hR2, b2⟩
    obtain ⟨av, gv, cv, rfl, hss2⟩ := hR2.b.ss
    have bW := below1 w2 (.cells #[.slice av qq.length cv] 25)
    have bAW := b2.trans (bW.mono b2.size)
    have sPW := sP.bl' bAW
    have sW := Slot1.new w2 (.slice av qq.length cv) 25
    have ssW := hss2.below bW (Nat.le_refl _)
    clear hR2 hss2 b2 bW x0
    have x0 := sPW.c
    go_wp2_with fail
    generalize w2.alloc (.cells #[.slice av qq.length cv] 25) = WB at *
    generalize w2.heap.size = PW at *
    refine (CI WB (ssP.below bAW (Nat.le_refl _)) (giP.below bAW (Nat.le_refl _))).mono ?_
    rintro e w3 ⟨v3, rfl, vs3, hR3, b3⟩
    obtain ⟨ai, gi, ci, rfl, hss3⟩ := hR3.b.ss
    have bQ := below1 w3 (.cells #[.slice ai qq.length ci] 25)
    have bBQ := b3.trans (bQ.mono b3.size)
    have bAQ := bAW.trans (bBQ.mono bAW.size)
    have sPQ := sP.bl' bAQ
    have sQ := Slot1.new w3 (.slice ai qq.length ci) 25
    have ssQ := hss3.below bQ (Nat.le_refl _)
    have sWQ := sW.bl' bBQ
    have ssWQ := ssW.below bBQ (Nat.le_refl _)
    clear hR3 hss3 b3 bQ x0 sPW sW ssW
    have x1 := sQ.c
    have x2 := sWQ.c
    cases ok
    · go_wp2_with fail
      generalize w3.alloc (.cells #[.slice ai qq.length ci] 25) = WC at *
      generalize w3.heap.size = PQ at *
      refine (LQ ai gi ci av gv cv _ ssQ ssWQ).mono ?_
      rintro e w4 ⟨rfl, b4⟩
      have sQ4 := sQ.bl' b4
      have sW4 := sWQ.bl' b4
      have bA4 := bAQ.trans (b4.mono bAQ.size)
      clear x1 x2
      have x1 := sQ4.c
      have x2 := sW4.c
      go_wp2_with fail
      refine (LQ ai gi ci av gv cv _ (ssQ.below b4 (Nat.le_refl _)) (ssWQ.below b4 (Nat.le_refl _))).mono ?_
      rintro e w5 ⟨rfl, b5⟩
      go_wp2_with fail
      go_ret
      exact ⟨rfl, bwA.trans ((bA4.trans (b5.mono bA4.size)).mono bwA.size)⟩
    · obtain ⟨hpm, hgo, hpq, hqw⟩ := HS.out rfl
      obtain ⟨hm3, hm7⟩ := M.prog_le hpm
      have hlen : qq.length = mm.length := by rw [hqw, M.walls_len]
      have HL : Hid (qq.length = mm.length) := hlen
      have HI : Hid (∀ i (h1 : i < qq.length) (h2 : i < mm.length), M.Ins qq[i] mm[i]) := by
        subst hqw
        exact fun i h1 h2 => M.walls_ins gs mm 0 i h1 h2
      have HM : Hid (M.steps qq = M.steps mm + gs.length) := by show _ = _; rw [hqw]; exact M.walls_more hpm hgo
      have HRd : Hid (M.nreads qq = M.nreads mm) := by show _ = _; rw [M.nreads_ok hpm, M.nreads_ok hpq, hqw, M.walls_reads]
      clear hlen hqw hgo hpm hpq HS
      go_wp2_with fail
      generalize w3.alloc (.cells #[.slice ai qq.length ci] 25) = WC at *
      generalize w3.heap.size = PQ at *
      refine (LQ ai gi ci av gv cv _ ssQ ssWQ).mono ?_
      rintro e WD ⟨rfl, b4⟩
      have sQD := sQ.bl' b4
      have sPD := sPQ.bl' b4
      have bAD := bAQ.trans (b4.mono bAQ.size)
      have ssQD := ssQ.below b4 (Nat.le_refl _)
      have ssPD := ssP.below bAD (Nat.le_refl _)
      have bwD := bwA.trans (bAD.mono bwA.size)
      clear x1 x2 sQ sPQ bAQ ssQ ssP b4 bAD sWQ ssWQ bBQ bAW sP giP bwA CS CI LQ
      go_wp2_with fail
      have lP := sPD.lt
      have lQ := sQD.lt
      have hst : ∀ n, M.steps (mm.take n) ≤ 7 * n := fun n => M.steps_take_le hm7 n
      have hsq : ∀ n, M.steps (qq.take n) ≤ 7 * n := fun n => M.steps_take_le hq7 n
      go_loopw [9, 10, 11] (fun s9 s10 s11 wr => ∃ n : Nat, s9 = .int .i64 (M.steps (mm.take n)) ∧ s10 = .int .i64 (M.steps (qq.take n)) ∧ s11 = .int .i64 n ∧ n ≤ mm.length ∧ Below WD.heap.size WD wr) (fun _ _ s11 _ => mm.length - (intOf s11).toNat)
      case atStart => exact ⟨0, by simp [M.steps], by simp [M.steps], rfl, Nat.zero_le _, Below.refl _ _⟩
      case round =>
        obtain ⟨n, rfl, rfl, rfl, hn, hbel⟩ := hrel
        have sPr := sPD.bl' hbel
        have sQr := sQD.bl' hbel
        have x0 := sPr.c
        have x1 := sQr.c
        have hs1 := hst n
        have hs2 := hsq n
        by_cases hlt : n < mm.length
        · have hltq : n < qq.length := by have := HL.out; omega
          have HI1 : Hid (M.Ins qq[n] mm[n]) := HI.out n hltq hlt
          have HT1 : Hid (M.steps (mm.take (n + 1)) = M.steps (mm.take n) + mm[n].length) := M.steps_take mm n hlt
          have HT2 : Hid (M.steps (qq.take (n + 1)) = M.steps (qq.take n) + qq[n].length) := M.steps_take qq n hltq
          obtain ⟨rfl⟩ := ssPD.addr (by omega)
          obtain ⟨rfl⟩ := ssQD.addr (by omega)
          obtain ⟨a', b', o', c', hcP, hdP⟩ := (ssPD.below hbel (Nat.le_refl _)).row n hlt
          obtain ⟨a3, b3, o3, c3, hcQ, hdQ⟩ := (ssQD.below hbel (Nat.le_refl _)).row n hltq
          have ht7 := hm7 _ (List.getElem_mem hlt)
          have hu7 := hq7 _ (List.getElem_mem hltq)
          generalize mm[n] = t at *
          generalize qq[n] = u at *
          rw [Nat.zero_add] at hcP hcQ
          generalize M.steps (mm.take n) = S1 at *
          generalize M.steps (qq.take n) = S2 at *
          have i1 : (n : Int) < mm.length := by omega
          have i2 : (n : Int) < qq.length := by omega
          have lg : g < wr.heap.size := World.block_lt_of_cell? _ _ hcP
          have lgi : gi < wr.heap.size := World.block_lt_of_cell? _ _ hcQ
          have lPr := sPr.lt
          have lQr := sQr.lt
          go_wp2_with fail
          go_loopw [12, 13] (fun s12 s13 wi => ∃ k m : Nat, s12 = .int .i64 k ∧ s13 = .int .i64 m ∧ k ≤ t.length ∧ m ≤ u.length ∧ Hid (M.Ins (u.drop m) (t.drop k)) ∧ Below wr.heap.size wr wi) (fun _ s13 _ => u.length - (intOf s13).toNat)
          case atStart => exact ⟨0, 0, rfl, rfl, Nat.zero_le _, Nat.zero_le _, by show M.Ins _ _; simpa using HI1.out, Below.refl _ _⟩
          case round =>
            obtain ⟨k, m, rfl, rfl, hk, hm, HN, hbi⟩ := hrel
            have y0 := (sPr.bl' hbi).c
            have y1 := (sQr.bl' hbi).c
            have yP := (hbi.cell (p := ⟨g, n, none⟩) lg).trans hcP
            have yQ := (hbi.cell (p := ⟨gi, n, none⟩) lgi).trans hcQ
            have hbW : Below WD.heap.size WD wr := hbel.trans (hbi.mono hbel.size)
            clear x0 x1 hcP hcQ
            by_cases hmu : m < u.length
            · obtain ⟨rfl⟩ := hdQ.addr (by omega)
              have z2 := (hdQ.row m hmu).below hbi (Nat.le_refl _)
              have HU : Hid (u.drop m = u[m] :: u.drop (m + 1)) := M.drop_at u m hmu
              have j2 : (m : Int) < u.length := by omega
              generalize u[m] = e at z2 HU
              obtain ⟨k2, p2, v2⟩ := e
              obtain ⟨ck2, cp2, cv2⟩ := z2
              by_cases hkt : k < t.length
              · obtain ⟨rfl⟩ := hdP.addr (by omega)
                have z1 := (hdP.row k hkt).below hbi (Nat.le_refl _)
                have HT : Hid (t.drop k = t[k] :: t.drop (k + 1)) := M.drop_at t k hkt
                have j1 : (k : Int) < t.length := by omega
                generalize t[k] = d at z1 HT
                have hq : ∀ W, _ := Try.eqDo ⟨k2, p2, v2⟩ d
                obtain ⟨k1, p1, v1⟩ := d
                obtain ⟨ck, cp, cv⟩ := z1
                have HN1 : Hid (M.Ins (⟨k2, p2, v2⟩ :: u.drop (m + 1)) (⟨k1, p1, v1⟩ :: t.drop (k + 1))) := by show M.Ins _ _; have := HN.out; rwa [HU.out, HT.out] at this
                clear HN HU
                cases he : M.eqD ⟨k2, p2, v2⟩ ⟨k1, p1, v1⟩
                · rw [he] at hq
                  have hne : M.D.mk k2 p2 v2 ≠ M.D.mk k1 p1 v1 := fun h => by rw [(M.eqD_iff _ _).2 h] at he; cases he
                  obtain ⟨hw, hins⟩ := HN1.out.miss hne
                  have HN2 : Hid (M.Ins (u.drop (m + 1)) (t.drop k)) := by show M.Ins _ _; rw [HT.out]; exact hins
                  obtain rfl : k2 = 4 := congrArg M.D.k hw
                  clear hne hw hins he HN1 HT
                  go_wp2_with fail
                  go_quiet (fail)
                  go_wp2_with fail
                  exact ⟨⟨k, m + 1, rfl, by go_num, by omega, by omega, HN2, Below.drewN' hbi _⟩, by simp [intOf]; omega⟩
                · rw [he] at hq
                  obtain ⟨rfl, rfl, rfl⟩ := M.D.mk.inj ((M.eqD_iff _ _).1 he)
                  have HN2 : Hid (M.Ins (u.drop (m + 1)) (t.drop (k + 1))) := HN1.out.hit
                  clear he HN1 HT
                  go_wp2_with fail
                  go_quiet (fail)
                  go_wp2_with fail
                  exact ⟨⟨k + 1, m + 1, by go_num, by go_num, by omega, by omega, HN2, Below.drewN' hbi _⟩, by simp [intOf]; omega⟩
              · have hkt' : decide ((k : Int) < t.length) = false := by simp; omega
                have hkt2 : ¬ (k : Int) < t.length := by omega
                have hdr : t.drop k = [] := List.drop_eq_nil_of_le (by omega)
                obtain ⟨hw, hins⟩ : (M.D.mk k2 p2 v2) = M.wall ∧ M.Ins (u.drop (m + 1)) [] := by have := HN.out; rw [HU.out, hdr] at this; exact this.past
                have HN2 : Hid (M.Ins (u.drop (m + 1)) (t.drop k)) := by show M.Ins _ _; rw [hdr]; exact hins
                obtain rfl : k2 = 4 := congrArg M.D.k hw
                clear hw hins hdr HN HU
                go_wp2_with fail
                refine wp_region_quiet_lit (by kernel_rfl) (by kernel_rfl) ?_
                iterate 9 (quiet_step (fail))
                iterate 17 go_big_quiet_skip
                iterate 1 (quiet_step (fail))
                refine wpQuiet_nil ?_
                rintro _ ⟨nq, rfl⟩
                go_wp2_with fail
                exact ⟨⟨k, m + 1, rfl, by go_num, by omega, by omega, HN2, Below.drewN' hbi _⟩, by simp [intOf]; omega⟩
            · have hmu2 : ¬ (m : Int) < u.length := by omega
              have hkt : k = t.length := by
                have h1 : u.drop m = [] := List.drop_eq_nil_of_le (by omega)
                have h2 := HN.out
                rw [h1] at h2
                have h3 := congrArg List.length h2.fin
                simp at h3
                omega
              have e1 : ((k : Int) != t.length) = false := by simp; omega
              have hkk : (k : Int) ≤ 7 := by omega
              clear hkt HN
              go_wp2_with fail
              exact ⟨⟨n + 1, by rw [HT1.out]; go_num, by rw [HT2.out]; go_num, by go_num, by omega, hbW⟩, by simp [intOf]; omega⟩
        · have hmm : mm.take n = mm := List.take_of_length_le (by omega)
          have hqq : qq.take n = qq := List.take_of_length_le (by have := HL.out; omega)
          have hnn : ¬ (n : Int) < mm.length := by omega
          have HE : Hid (((M.steps (qq.take n) : Nat) : Int) = ((M.steps (mm.take n) : Nat) : Int) + gs.length) := by show _ = _; rw [hmm, hqq, HM.out]; omega
          generalize M.steps (mm.take n) = S1 at *
          generalize M.steps (qq.take n) = S2 at *
          have hwr : IntKind.i64.wrap ((S1 : Int) + gs.length) = S2 := by rw [HE.out]; exact IntWalk.i64_in _ (by omega)
          clear HE hmm hqq
          have hR := HRd.out
          have hle7 : ∀ t ∈ mm, t.length ≤ 1048576 := hle
          have C1 := fun q : BelowOf wr => ireads_any ai gi 0 ci qq q.x hql hqls ((ssQD.below hbel (Nat.le_refl _)).below q.h (Nat.le_refl _))
          have C2 := fun q : BelowOf wr => ireads_any a g 0 c mm q.x hml hle ((ssPD.below hbel (Nat.le_refl _)).below q.h (Nat.le_refl _))
          rw [hR] at C1
          generalize M.nreads mm = R at *
          have X0 := BelowOf.cell x0
          have X1 := BelowOf.cell x1
          have hbS : S1 ≤ 7 * n := hs1
          have hgl20 : gs.length ≤ 1048576 := hgl
          clear hR
          haveI : Inhabited (BelowOf wr) := ⟨belOf wr⟩
          go_wp2_with fail
          clear x0 x1
          refine wp_region_quiet_bel (by kernel_rfl) (by kernel_rfl) ?_
          iterate 8 (quiet_step (fail))
          iterate 1 (quiet_step (first | (go_at_call 16; exact Calls.bel_of (C1 _))))
          iterate 1 (quiet_step (fail))
          iterate 1 (quiet_step (first | (go_at_call 16; exact Calls.bel_of (C2 _))))
          iterate 3 (quiet_step (fail))
          refine wpQuiet_nil ?_
          rintro W1 ⟨⟨_, hwq⟩, rfl⟩
          go_wp2_with fail
          go_ret
          exact ⟨rfl, bwD.trans ((hbel.trans (hwq.mono hbel.size)).mono bwD.size)⟩
  · go_enter Try.func4, Try.ntmps4
    go_wp2_with fail
    go_ret
    exact ⟨rfl, Below.refl _ _⟩

end Go.Proofs.Ytdbndkakpbjehaa
