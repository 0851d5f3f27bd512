/- The law's own sizing and comparing of ways: laws.szIntSS, szExec, eqIntSS, eqExec. Of rows of at most 1048576 numbers (sizing: of at most 9223372036854775807). -/
import Derived.Test.YtdlpdiioggiehaaGreatIntConv
import Derived.Test.YtdlpdiioggiehaaGreatOkOrd
import Derived.Test.YtdlpdiioggiehaaGreatQuietB
namespace Go.Proofs.YtdlpdiioggiehaaGreat
open Go.RowKit

set_option maxHeartbeats 400000 in
theorem szIntSS_any (a : Option Addr) (b o c : Nat) (rows : List (List Int)) (left : Int) (w : World) (h0 : 0 ≤ left) (h1 : left ≤ 1048576) (hn : rows.length ≤ 9223372036854775807) (hrs : ∀ r ∈ rows, r.length ≤ 9223372036854775807) (h : IntSS w a b o rows) :
    Calls Tryz.prog 14 #[.slice a rows.length c, .int .i64 left] w fun e w' => ∃ r : Int, e = .returned (.int .i64 r) ∧ w' = w ∧ r ≤ 1048576 ∧ (r < 0 ∨ (0 ≤ r ∧ rows.length ≤ 1048576 ∧ ∀ r ∈ rows, r.length ≤ 1048576)) := by
  by_cases hs : left - rows.length < 0
  · go_enter Tryz.func14, Tryz.ntmps14
    go_wp2_with fail
    go_ret
    exact ⟨-1, rfl, rfl, by omega, Or.inl (by omega)⟩
  · go_enter Tryz.func14, Tryz.ntmps14
    go_wp2_with fail
    have hr : rows.length ≤ 1048576 := by omega
    go_loopw [1, 5] (fun s1 s5 wr => ∃ (n : Nat) (lf : Int), s5 = .int .i64 n ∧ s1 = .int .i64 lf ∧ 0 ≤ lf ∧ lf ≤ 1048576 ∧ n ≤ rows.length ∧ Hid (∀ i (_ : i < n) (h : i < rows.length), rows[i].length ≤ 1048576) ∧ wr = w) (fun _ s5 _ => rows.length - (intOf s5).toNat)
    case atStart => exact ⟨0, left - rows.length, rfl, rfl, by omega, by omega, Nat.zero_le _, fun i hi => absurd hi (Nat.not_lt_zero _), rfl⟩
    case round =>
      obtain ⟨n, lf, rfl, rfl, hlf0, hlf1, hn', HA, rfl⟩ := hrel
      by_cases hlt : n < rows.length
      · obtain ⟨rfl⟩ := h.addr (by omega)
        obtain ⟨a', b', o', c', hc, hrow⟩ := h.row n hlt
        have hle := hrs _ (List.getElem_mem hlt)
        obtain ⟨row, hrw⟩ : ∃ row, rows[n] = row := ⟨_, rfl⟩
        have HW : Hid (rows[n] = row) := hrw
        rw [hrw] at hc hrow hle
        clear hrw
        have i1 : (n : Int) < rows.length := by omega
        go_wp2_with fail
        refine (szIntS_any a' row.length c' lf _ hlf0 hlf1 hle).mono ?_
        rintro e w1 ⟨r, rfl, rfl, hr1, hor⟩
        by_cases hneg : r < 0
        · go_wp2_with fail
          go_ret
          exact ⟨-1, rfl, rfl, by omega, Or.inl (by omega)⟩
        · obtain ⟨hr0, hrl⟩ := hor.resolve_left hneg
          have hneg' : decide (r < 0) = false := by simpa using hneg
          go_wp2_with fail
          exact ⟨⟨n + 1, r, by go_num, rfl, hr0, hr1, by omega, fun i hi hil => by
            by_cases ei : i = n
            · subst ei; rw [HW.out]; exact hrl
            · exact HA.out i (by omega) hil, trivial⟩, by simp [intOf]; omega⟩
      · go_wp2_with fail
        go_ret
        exact ⟨lf, rfl, rfl, hlf1, Or.inr ⟨hlf0, hr, fun r hr => by
          obtain ⟨i, hi, rfl⟩ := List.getElem_of_mem hr
          exact HA.out i (by omega) hi⟩⟩

set_option maxHeartbeats 400000 in
theorem szExec_any (fa : Option Addr) (fc : Nat) (l : List Int) (ra : Option Addr) (rb ro rc : Nat) (rows : List (List Int)) (left : Int) (w : World) (h0 : 0 ≤ left) (h1 : left ≤ 1048576) (hl : l.length ≤ 9223372036854775807) (hn : rows.length ≤ 9223372036854775807) (hrs : ∀ r ∈ rows, r.length ≤ 9223372036854775807) (h : IntSS w ra rb ro rows) :
    Calls Tryz.prog 5 #[.agg #[.slice fa l.length fc, .slice ra rows.length rc], .int .i64 left] w fun e w' => ∃ r : Int, e = .returned (.int .i64 r) ∧ w' = w.alloc (.cells #[.slice fa l.length fc, .slice ra rows.length rc] 28) ∧ r ≤ 1048576 ∧ (r < 0 ∨ (0 ≤ r ∧ l.length ≤ 1048576 ∧ rows.length ≤ 1048576 ∧ ∀ r ∈ rows, r.length ≤ 1048576)) := by
  go_enter Tryz.func5, Tryz.ntmps5
  go_wp2_with fail
  refine (szIntS_any _ _ _ _ _ h0 h1 hl).mono ?_
  rintro e w1 ⟨r1, rfl, rfl, hr1, hor1⟩
  by_cases hn1 : r1 < 0
  · go_wp2_with fail
    go_ret
    exact ⟨-1, rfl, rfl, by omega, Or.inl (by omega)⟩
  · go_wp2_with fail
    refine (szIntSS_any ra rb ro rc rows r1 _ (by omega) hr1 hn hrs (h.below (below1 w _) (Nat.le_refl _))).mono ?_
    rintro e w2 ⟨r2, rfl, rfl, hr2, hor2⟩
    by_cases hn2 : r2 < 0
    · go_wp2_with fail
      go_ret
      exact ⟨-1, rfl, rfl, by omega, Or.inl (by omega)⟩
    · go_wp2_with fail
      go_ret
      exact ⟨r2, rfl, rfl, hr2, Or.inr ⟨by omega, (hor1.resolve_left (by omega)).2, (hor2.resolve_left (by omega)).2⟩⟩

theorem eqIntS_bel (a : Option Addr) (b o c : Nat) (a2 : Option Addr) (b2 o2 c2 : Nat) (l : List Int) (w : World) (hl : l.length ≤ 1048576) (h : IntS w a b o l) (h2 : IntS w a2 b2 o2 l) :
    Calls Tryz.prog 31 #[.slice a l.length c, .slice a2 l.length c2] w fun e w' => e = .returned (.bool true) ∧ Below w.heap.size w w' :=
  (eqIntS_same a b o c a2 b2 o2 c2 l w hl h h2).mono fun _ _ ⟨he, hg⟩ => ⟨he, hg.bel⟩

set_option maxHeartbeats 400000 in
theorem eqIntSS_same (a : Option Addr) (b o c : Nat) (a2 : Option Addr) (b2 o2 c2 : Nat) (rows : List (List Int)) (w : World) (hl : rows.length ≤ 1048576) (hrs : ∀ r ∈ rows, r.length ≤ 1048576) (h : IntSS w a b o rows) (h2 : IntSS w a2 b2 o2 rows) :
    Calls Tryz.prog 32 #[.slice a rows.length c, .slice a2 rows.length c2] w fun e w' => e = .returned (.bool true) ∧ Below w.heap.size w w' := by
  go_enter Tryz.func32, Tryz.ntmps32
  go_wp2_with fail
  go_loopw [5] (fun s5 wr => ∃ n : Nat, s5 = .int .i64 n ∧ n ≤ rows.length ∧ Below w.heap.size w wr) (fun s5 _ => rows.length - (intOf s5).toNat)
  case atStart => exact ⟨0, rfl, Nat.zero_le _, Below.refl _ _⟩
  case round =>
    obtain ⟨n, rfl, hn, hb⟩ := hrel
    by_cases hlt : n < rows.length
    · obtain ⟨rfl⟩ := h.addr (by omega)
      obtain ⟨rfl⟩ := h2.addr (by omega)
      obtain ⟨a', b', o', c', hc, hrow⟩ := (h.below hb (Nat.le_refl _)).row n hlt
      obtain ⟨a3, b3, o3, c3, hc3, hrow3⟩ := (h2.below hb (Nat.le_refl _)).row n hlt
      have hle := hrs _ (List.getElem_mem hlt)
      generalize rows[n] = row at *
      have i1 : (n : Int) < rows.length := by omega
      have K1 := BelowOf.cell hc
      have K2 := BelowOf.cell hc3
      have C := fun q : BelowOf wr => eqIntS_bel a' b' o' c' a3 b3 o3 c3 row q.x hle (hrow.below q.h (Nat.le_refl _)) (hrow3.below q.h (Nat.le_refl _))
      haveI : Inhabited (BelowOf wr) := ⟨belOf wr⟩
      go_wp2_with fail
      refine wp_region_quiet_bel (by kernel_rfl) (by kernel_rfl) ?_
      repeat (quiet_step (first | (go_at_call 31; exact Calls.bel_of (C _))))
      refine wpQuiet_nil ?_
      rintro _ ⟨⟨wq, hwq⟩, rfl⟩
      go_wp2_with fail
      exact ⟨⟨n + 1, by go_num, by omega, hb.trans (hwq.mono hb.size)⟩, by simp [intOf]; omega⟩
    · go_wp2_with fail
      go_ret
      exact ⟨rfl, hb⟩

set_option maxHeartbeats 400000 in
theorem eqExec_same (fa : Option Addr) (fb fo fc : Nat) (ra : Option Addr) (rb ro rc : Nat) (fa2 : Option Addr) (fb2 fo2 fc2 : Nat) (ra2 : Option Addr) (rb2 ro2 rc2 : Nat) (l : List Int) (rows : List (List Int)) (w : World) (hl1 : l.length ≤ 1048576) (hl : rows.length ≤ 1048576) (hrs : ∀ r ∈ rows, r.length ≤ 1048576) (hf : IntS w fa fb fo l) (h : IntSS w ra rb ro rows) (hf2 : IntS w fa2 fb2 fo2 l) (h2 : IntSS w ra2 rb2 ro2 rows) :
    Calls Tryz.prog 11 #[.agg #[.slice fa l.length fc, .slice ra rows.length rc], .agg #[.slice fa2 l.length fc2, .slice ra2 rows.length rc2]] w fun e w' => e = .returned (.bool true) ∧ Below w.heap.size w w' := by
  have hb2 := below2 w (.cells #[.slice fa l.length fc, .slice ra rows.length rc] 36) (.cells #[.slice fa2 l.length fc2, .slice ra2 rows.length rc2] 36)
  have hfa := hf.below hb2 (Nat.le_refl _)
  have hfb := hf2.below hb2 (Nat.le_refl _)
  have ha := h.below hb2 (Nat.le_refl _)
  have hb := h2.below hb2 (Nat.le_refl _)
  go_enter Tryz.func11, Tryz.ntmps11
  go_wp2_with fail
  refine (eqIntS_same fa fb fo fc fa2 fb2 fo2 fc2 l _ hl1 hfa hfb).mono ?_
  rintro e w1 ⟨rfl, hg1⟩
  obtain ⟨hc1, hf1⟩ := bcell hg1.bel
  go_wp2_with fail
  refine (eqIntSS_same ra rb ro rc ra2 rb2 ro2 rc2 rows _ hl hrs (ha.below hg1.bel (Nat.le_refl _)) (hb.below hg1.bel (Nat.le_refl _))).mono ?_
  rintro e w2 ⟨rfl, hb3⟩
  go_wp2_with fail
  go_ret
  have hbw := hb2.trans (hg1.bel.mono hb2.size)
  exact ⟨rfl, hbw.trans (hb3.mono hbw.size)⟩

end Go.Proofs.YtdlpdiioggiehaaGreat
