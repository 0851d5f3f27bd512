/- The law FnSeenIn, walked: it answers true, and leaves all as it was. Of whatever code. -/
import Derived.Test.YtfekeknnphoelabDrSi
import Derived.Test.YtfekeknnphoelabSoFi
import Derived.Test.YtfekeknnphoelabSnSame
namespace Go.Proofs.Ytfekeknnphoelab
open Go.RowKit

theorem M.isIn_mem (ks : List Key) (t1 t2 : List Int) : M.isIn ks t1 t2 = decide ((t1, t2) ∈ ks) := by
  unfold M.isIn
  by_cases h : (t1, t2) ∈ ks
  · rw [decide_eq_true h, List.any_eq_true]
    exact ⟨_, h, by have := M.cmpS_self t1 t2; simp [this]⟩
  · rw [decide_eq_false h, List.any_eq_false]
    intro k hk
    simp only [beq_iff_eq]
    intro e
    have := M.cmpS_zero e
    exact h (by rw [← this.1, ← this.2]; exact hk)
theorem M.isIn_sortK (ks : List Key) (t1 t2 : List Int) : M.isIn (M.sortK ks) t1 t2 = M.isIn ks t1 t2 := by
  rw [M.isIn_mem, M.isIn_mem]
  by_cases h : (t1, t2) ∈ ks
  · rw [decide_eq_true h, decide_eq_true ((M.mem_sortK ks _).2 h)]
  · rw [decide_eq_false h, decide_eq_false (fun h' => h ((M.mem_sortK ks _).1 h'))]

/-- The list and the one, in the law's own box. -/
structure LB (w W : World) (g Q : Nat) (ss : List Sn) (s : Sn) : Prop where
  bel : Below w.heap.size w W
  sr : SR W g ss
  off : ∀ t ∈ ss, Off W g t
  lt : g < W.heap.size
  box : Slot2 W Q (.slice s.a1 s.l1.length s.c1) (.slice s.a2 s.l2.length s.c2)
  sa : s.At W
theorem LB.below {w W W' : World} {g Q : Nat} {ss : List Sn} {s : Sn} (h : LB w W g Q ss s) (hb : Below W.heap.size W W') : LB w W' g Q ss s :=
  ⟨h.bel.trans (hb.mono h.bel.size), h.sr.below hb h.lt, fun t ht => (h.off t ht).below hb, Nat.lt_of_lt_of_le h.lt hb.size, h.box.of (hb.block Q h.box.lt), h.sa.below hb (Nat.le_refl _)⟩
theorem LB.ks {w W : World} {g Q : Nat} {ss : List Sn} {s : Sn} (h : LB w W g Q ss s) : KS W (some ⟨g, 0, none⟩) g 0 (kys ss) := h.sr.ks h.off

/-- In order, too, it is found just if it is there. -/
theorem inSorted (a : Option Addr) (g c : Nat) (uu : List Sn) (s : Sn) (w : World) (b : Bool) {B : Nat} {ks : List Key} (h : NewL B w a g uu) (hsa : s.At w) (hsl : s.Le 1048576) (hku : kys uu = M.sortK ks) (hb : M.isIn ks s.l1 s.l2 = b) (hul : uu.length ≤ 1048576) :
    Calls Try.prog 12 #[.slice a uu.length c, .agg #[.slice s.a1 s.l1.length s.c1, .slice s.a2 s.l2.length s.c2]] w fun e w' => e = .returned (.bool b) ∧ Below w.heap.size w w' := by
  have C := iseenIn_any a g 0 c (kys uu) s w (by rw [kys_len]; exact hul) (kle_of h.off) hsl h.ks hsa
  rw [hku, M.isIn_sortK, hb, ← hku, kys_len] at C
  exact C.mono fun _ _ ⟨he, hg⟩ => ⟨he, hg.bel⟩

set_option maxHeartbeats 4000000 in
set_option maxRecDepth 100000 in
theorem lawSeenIn_any (ca : Option Addr) (cb co L C : Nat) (x : Nat → Int) (w : World) (hL : L ≤ C) (had : 0 < L → ca = some ⟨cb, co, none⟩) (hc : ∀ i, i < L → w.cell? ⟨cb, co + i, none⟩ = some (.int .u8 (x i)) ∧ 0 ≤ x i ∧ x i ≤ 255) :
    Calls Try.prog 5 #[.slice ca L C] w fun e w' => e = .returned (.bool true) ∧ Below w.heap.size w w' := by
  by_cases hLb : L ≤ 1048576
  · go_enter Try.func5, Try.ntmps5
    go_wp2_with fail
    refine (DrawSeenIn_any ca cb co L C x _ hL had hc hLb).mono ?_
    rintro e w1 ⟨g, cap, ss, s, rfl, hSR, hoff, hsa, hsl, hl12, hglt, hb1⟩
    clear had hc
    have hkle := kle_of hoff
    have hal := below1 w1 (.cells #[.slice s.a1 s.l1.length s.c1, .slice s.a2 s.l2.length s.c2] 30)
    have lb0 : LB w (w1.alloc (.cells #[.slice s.a1 s.l1.length s.c1, .slice s.a2 s.l2.length s.c2] 30)) g w1.heap.size ss s :=
      ⟨hb1.trans (hal.mono hb1.size), hSR.below hal hglt, fun t ht => (hoff t ht).below hal, by simp; omega, ⟨alloc_new _ _ _ rfl⟩, hsa.below hal (Nat.le_refl _)⟩
    go_wp2_with fail
    generalize w1.alloc (.cells #[.slice s.a1 s.l1.length s.c1, .slice s.a2 s.l2.length s.c2] 30) = W0 at *
    generalize w1.heap.size = Q at *
    clear hSR hoff hsa hb1 hal hglt
    obtain ⟨b, hb⟩ : ∃ b, M.isIn (kys ss) s.l1 s.l2 = b := ⟨_, rfl⟩
    have hkl : (kys ss).length ≤ 1048576 := by rw [kys_len]; omega
    have C1 := iseenIn_any _ g 0 cap (kys ss) s W0 hkl hkle hsl lb0.ks lb0.sa
    rw [kys_len, hb] at C1
    refine C1.mono ?_
    rintro e W1 ⟨rfl, g1⟩
    have lb1 := lb0.below g1.bel
    have HB : Hid (M.isIn (kys ss) s.l1 s.l2 = b) := hb
    clear hb C1 lb0
    go_wp2_with fail
    go_loopw [6, 7] (fun s6 s7 wr => ∃ (n : Nat) (f : Bool), s6 = .bool f ∧ s7 = .int .i64 n ∧ n ≤ ss.length ∧ Hid (b = (f || M.isIn ((kys ss).drop n) s.l1 s.l2)) ∧ LB w wr g Q ss s) (fun _ s7 _ => ss.length - (intOf s7).toNat)
    case atStart => exact ⟨0, false, rfl, rfl, Nat.zero_le _, by show b = _; simpa using HB.out.symm, lb1⟩
    case round =>
      obtain ⟨n, f, rfl, rfl, hn, HF, lb⟩ := hrel
      clear lb1 g1
      have q0 := lb.box.c0
      have q1 := lb.box.c1
      by_cases hlt : n < ss.length
      · have i1 : (n : Int) < ss.length := by omega
        obtain ⟨c1, c2⟩ := lb.sr.c n hlt
        have ho := lb.off _ (List.getElem_mem hlt)
        obtain ⟨t, ht⟩ : ∃ t, ss[n] = t := ⟨_, rfl⟩
        rw [ht] at c1 c2 ho
        have HD : Hid ((kys ss).drop n = t.ky :: (kys ss).drop (n + 1)) := by
          have := M.drop_key (kys ss) n (by rw [kys_len]; exact hlt)
          rw [kys_get ss hlt, ht] at this
          exact this
        clear ht
        cases f
        · have C2 := fun p : BelowOf wr => calls_bel (lpSame_any t s p.x ho.le (ho.at_.below p.h (Nat.le_refl _)) (lb.sa.below p.h (Nat.le_refl _)))
          obtain ⟨r, hr⟩ : ∃ r, M.sameS t.l1 t.l2 s.l1 s.l2 = r := ⟨_, rfl⟩
          rw [hr] at C2
          have HR : Hid (M.sameS t.l1 t.l2 s.l1 s.l2 = r) := hr
          clear hr
          have K1 := BelowOf.cell c1
          have K2 := BelowOf.cell c2
          have K3 := BelowOf.cell q0
          have K4 := BelowOf.cell q1
          go_wp2_with fail
          haveI : Inhabited (BelowOf wr) := ⟨belOf wr⟩
          refine wp_region_quiet_bel (by kernel_rfl) (by kernel_rfl) ?_
          repeat (quiet_step (first | (go_at_call 15; exact Calls.bel_of (C2 _))))
          refine wpQuiet_nil ?_
          rintro wq2 ⟨⟨wq, hwq2⟩, ew⟩
          change wq2 = wq at ew
          subst ew
          go_wp2_with fail
          refine ⟨⟨n + 1, r, rfl, by go_num, by omega, ?_, lb.below hwq2⟩, by simp [intOf]; omega⟩
          show b = _
          rw [HF.out, HD.out, ← HR.out, M.sameS_eq]
          simp only [M.isIn, List.any_cons, Bool.false_or]
          congr 1
        · go_wp2_with fail
          haveI : Inhabited (BelowOf wr) := ⟨belOf wr⟩
          refine wp_region_quiet_bel (by kernel_rfl) (by kernel_rfl) ?_
          repeat (quiet_step (fail))
          refine wpQuiet_nil ?_
          rintro wq2 ⟨⟨wq, hwq2⟩, ew⟩
          change wq2 = wq at ew
          subst ew
          go_wp2_with fail
          exact ⟨⟨n + 1, true, rfl, by go_num, by omega, by show b = _; rw [HF.out]; rfl, lb.below hwq2⟩, by simp [intOf]; omega⟩
      · obtain rfl : b = f := by
          have := HF.out
          rw [List.drop_eq_nil_of_le (by rw [kys_len]; omega)] at this
          simpa [M.isIn] using this
        have lbd := lb.below (Below.refl _ _).drew
        have C5 := sseenIn_any _ g 0 cap (kys ss) s wr.drew hkl hkle hsl lbd.ks lbd.sa
        rw [kys_len, HB.out] at C5
        clear HF
        go_wp2_with fail
        go_region_held3 (fun w' => w'.cell? ⟨Q, 0, none⟩ = some (.slice s.a1 s.l1.length s.c1) ∧ w'.cell? ⟨Q, 1, none⟩ = some (.slice s.a2 s.l2.length s.c2)) (go_keep) (first
          | (go_at_call 16; refine C5.mono ?_; rintro e w5 ⟨rfl, b5⟩; have lb5 := lbd.below b5; have Y0 := lb5.box.c0; have Y1 := lb5.box.c1; have C6 := iseenSort_any _ g 0 cap (kys ss) w5 hkl hkle lb5.ks; rw [kys_len] at C6)
          | (go_at_call 9; refine C6.mono ?_; rintro e w6 ⟨a6, g6, c6, uu, rfl, hku, hnew, hul0, _, b6⟩; have hul : uu.length ≤ 1048576 := (by omega); clear hul0; have lb6 := lb5.below b6; have Z0 := lb6.box.c0; have Z1 := lb6.box.c1)
          | (go_at_call 12; refine (inSorted a6 g6 c6 uu s w6 b hnew lb6.sa hsl hku HB.out hul).mono ?_; rintro e w7 ⟨rfl, b7⟩; have lb7 := lb6.below b7; have U0 := lb7.box.c0; have U1 := lb7.box.c1))
        go_wp2_with fail
        go_ret
        exact ⟨rfl, lb7.bel⟩
  · go_enter Try.func5, Try.ntmps5
    go_wp2_with fail
    go_ret
    exact ⟨rfl, Below.refl _ _⟩

end Go.Proofs.Ytfekeknnphoelab
