/- The law FnSeenSort, walked: it answers true, and leaves all as it was. Of whatever code. -/
import Derived.Test.YtfekeknnphoelabDrSs
import Derived.Test.YtfekeknnphoelabSoFi
import Derived.Test.YtfekeknnphoelabSpSo
import Derived.Test.YtfekeknnphoelabLpL
import Derived.BigQuiet
namespace Go.Proofs.Ytfekeknnphoelab
open Go.RowKit

theorem M.isIn_of_mem {ks : List Key} {t1 t2 : List Int} (h : (t1, t2) ∈ ks) : M.isIn ks t1 t2 = true := by
  unfold M.isIn
  rw [List.any_eq_true]
  exact ⟨_, h, by have := M.cmpS_self t1 t2; simp [this]⟩
theorem M.asc_step {us : List Key} (h : M.Asc us) {n : Nat} (hn : n + 1 < us.length) : M.cmpS (us[n]'(by omega)).1 (us[n]'(by omega)).2 us[n+1].1 us[n+1].2 < 0 :=
  List.pairwise_iff_getElem.1 h n (n + 1) (by omega) hn (by omega)
theorem SR.ksS {w : World} {g : Nat} {ss : List Sn} (h : SR w g ss) (ho : ∀ s ∈ ss, Off w g s) : KS w (some ⟨g, 0, none⟩) g 0 (kys ss) := by
  refine ⟨fun _ => rfl, fun i hi => ?_⟩
  have hi' : i < ss.length := by simpa [kys] using hi
  obtain ⟨c1, c2⟩ := h.c i hi'
  exact ⟨ss[i], by simp [kys, Sn.ky], by simp [kys, Sn.ky], by rw [Nat.zero_add]; exact c1, by rw [Nat.zero_add]; exact c2, (ho _ (List.getElem_mem hi')).at_⟩
theorem kle_ofS {w : World} {g : Nat} {ss : List Sn} (ho : ∀ s ∈ ss, Off w g s) : KLe (kys ss) 1048576 := fun k hk => by
  obtain ⟨s, hs, rfl⟩ := List.mem_map.1 hk
  exact ⟨(ho s hs).le.reads, (ho s hs).le.last⟩

/-- Both lists, in memory. -/
structure Two (w W : World) (g : Nat) (ks : List Key) (a : Option Addr) (g' : Nat) (us : List Key) : Prop where
  bel : Below w.heap.size w W
  one : KS W (some ⟨g, 0, none⟩) g 0 ks
  two : KS W a g' 0 us
theorem Two.below {w W W' : World} {g g' : Nat} {a : Option Addr} {ks us : List Key} (h : Two w W g ks a g' us) (hb : Below W.heap.size W W') : Two w W' g ks a g' us :=
  ⟨h.bel.trans (hb.mono h.bel.size), h.one.below hb (Nat.le_refl _), h.two.below hb (Nat.le_refl _)⟩

/-- What is of the one list is found in the other. -/
theorem inOther (a : Option Addr) (g c : Nat) (ks : List Key) (s : Sn) (w : World) (hl : ks.length ≤ 1048576) (hls : KLe ks 1048576) (hs : s.Le 1048576) (h : KS w a g 0 ks) (hsa : s.At w) (hm : (s.l1, s.l2) ∈ ks) :
    Calls Try.prog 12 #[.slice a ks.length c, .agg #[.slice s.a1 s.l1.length s.c1, .slice s.a2 s.l2.length s.c2]] w fun e w' => e = .returned (.bool true) ∧ Below w.heap.size w w' := by
  have C := iseenIn_any a g 0 c ks s w hl hls hs h hsa
  rw [M.isIn_of_mem hm] at C
  exact calls_bel C
theorem lessThan (s t : Sn) (w : World) (hs : s.Le 1048576) (ht : t.Le 1048576) (hsa : s.At w) (hta : t.At w) (h : M.cmpS s.l1 s.l2 t.l1 t.l2 < 0) :
    Calls Try.prog 13 #[.agg #[.slice s.a1 s.l1.length s.c1, .slice s.a2 s.l2.length s.c2], .agg #[.slice t.a1 t.l1.length t.c1, .slice t.a2 t.l2.length t.c2]] w fun e w' => e = .returned (.bool true) ∧ Below w.heap.size w w' := by
  have C := iless_any s t w hs ht hsa hta
  rw [decide_eq_true h] at C
  exact calls_bel C

set_option maxHeartbeats 1000000 in
set_option maxRecDepth 100000 in
theorem lawSeenSort_any (ca : Option Addr) (cb co L C : Nat) (x : Nat → Int) (w : World) (hL : L ≤ C) (had : 0 < L → ca = some ⟨cb, co, none⟩) (hc : ∀ i, i < L → w.cell? ⟨cb, co + i, none⟩ = some (.int .u8 (x i)) ∧ 0 ≤ x i ∧ x i ≤ 255) :
    Calls Try.prog 3 #[.slice ca L C] w fun e w' => e = .returned (.bool true) ∧ Below w.heap.size w w' := by
  by_cases hLb : L ≤ 1048576
  · go_enter Try.func3, Try.ntmps3
    go_wp2_with fail
    refine (DrawSeenSort_any ca cb co L C x _ hL had hc hLb).mono ?_
    rintro e w1 ⟨g, cap, ss, rfl, hSR, hoff, _, hl12, hglt, _, _, hb1⟩
    clear had hc
    have hkle := kle_ofS hoff
    have hk1 := hSR.ksS hoff
    rw [← kys_len ss] at hl12 ⊢
    generalize kys ss = ks at *
    clear hSR hoff
    go_wp2_with fail
    refine (iseenSort_any _ g 0 cap ks _ (by omega) hkle hk1).mono ?_
    rintro e w2 ⟨a2, g2, c2, uu, rfl, hku, hnew, hul, _, hb2⟩
    have hule := kle_ofS hnew.off
    have hk2 := hnew.ks
    rw [← kys_len uu] at hul ⊢
    generalize kys uu = us at *
    have tw2 : Two w w2 g ks a2 g2 us := ⟨hb1.trans (hb2.mono hb1.size), hk1.below hb2 (Nat.le_refl _), hk2⟩
    have HU : Hid (us = M.sortK ks) := hku
    clear hnew hk1 hk2 hku hb1 hb2
    go_wp2_with fail
    refine (sseenSort_any _ g 0 cap ks _ (by omega) hkle tw2.one).mono ?_
    rintro e w3 ⟨g3, c3, tt, rfl, hkt, hS3, _, _, hb3⟩
    have tw3 := tw2.below hb3
    have hk3 := hS3.ks
    rw [← kys_len tt, hkt, ← HU.out]
    rw [hkt, ← HU.out] at hk3
    clear hkt hS3
    go_wp2_with fail
    refine (lpList_same a2 g2 0 c2 (some ⟨g3, 0, none⟩) g3 0 c3 us _ (by omega) hule tw3.two hk3).mono ?_
    rintro e w4 ⟨rfl, hb4⟩
    have tw4 := tw3.below hb4
    clear hk3 hb3 hb4 tw2 tw3
    go_wp2_with fail
    go_loopw [5] (fun s5 wr => ∃ n : Nat, s5 = .int .i64 n ∧ n ≤ ks.length ∧ Two w wr g ks a2 g2 us) (fun s5 _ => ks.length - (intOf s5).toNat)
    case atStart => exact ⟨0, rfl, Nat.zero_le _, tw4⟩
    case round =>
      obtain ⟨n, rfl, hn, tw⟩ := hrel
      clear tw4
      by_cases hlt : n < ks.length
      · have i1 : (n : Int) < ks.length := by omega
        obtain ⟨s, h1, h2, c1, c2', hsa⟩ := tw.one.row n hlt
        rw [Nat.zero_add] at c1 c2'
        obtain ⟨e1, e2⟩ := hkle _ (List.getElem_mem hlt)
        have hsl : s.Le 1048576 := ⟨by rw [h1]; exact e1, by rw [h2]; exact e2⟩
        have hm : (s.l1, s.l2) ∈ us := by rw [HU.out, M.mem_sortK, h1, h2]; exact List.getElem_mem hlt
        have C1 := inOther a2 g2 c2 us s wr (by omega) hule hsl tw.two hsa hm
        clear h1 h2 e1 e2 hm
        go_wp2_with fail
        refine C1.mono ?_
        rintro e w5 ⟨rfl, hb5⟩
        go_wp2_with fail
        exact ⟨⟨n + 1, by go_num, by omega, tw.below hb5⟩, by simp [intOf]; omega⟩
      · go_wp2_with fail
        go_loopw [6] (fun s6 wr => ∃ n : Nat, s6 = .int .i64 n ∧ n ≤ us.length ∧ Two w wr g ks a2 g2 us) (fun s6 _ => us.length - (intOf s6).toNat)
        case atStart => exact ⟨0, rfl, Nat.zero_le _, tw⟩
        case round =>
          clear tw hlt hn
          obtain ⟨n, rfl, hn, tw⟩ := hrel
          by_cases hlt : n < us.length
          · have i1 : (n : Int) < us.length := by omega
            obtain ⟨rfl⟩ := tw.two.addr (by omega)
            obtain ⟨s, h1, h2, c1, c2', hsa⟩ := tw.two.row n hlt
            rw [Nat.zero_add] at c1 c2'
            obtain ⟨e1, e2⟩ := hule _ (List.getElem_mem hlt)
            have hsl : s.Le 1048576 := ⟨by rw [h1]; exact e1, by rw [h2]; exact e2⟩
            have hm : (s.l1, s.l2) ∈ ks := by
              have : us[n] ∈ us := List.getElem_mem hlt
              rw [← M.mem_sortK, ← HU.out, h1, h2]; exact this
            have C1 := fun p : BelowOf wr => inOther (some ⟨g, 0, none⟩) g cap ks s p.x (by omega) hkle hsl (tw.one.below p.h (Nat.le_refl _)) (hsa.below p.h (Nat.le_refl _)) hm
            rcases Nat.eq_zero_or_pos n with h0 | hpos
            · subst h0
              have d1 : wr.cell? ⟨g2, 0, none⟩ = some (.slice s.a1 s.l1.length s.c1) := by rw [Nat.zero_mul] at c1; exact c1
              have d2 : wr.cell? ⟨g2, 1, none⟩ = some (.slice s.a2 s.l2.length s.c2) := by rw [Nat.zero_mul, Nat.zero_add] at c2'; exact c2'
              have K1 := BelowOf.cell d1
              have K2 := BelowOf.cell d2
              have i2 : (0 : Int) < us.length := by omega
              clear h1 h2 e1 e2 hm c1 c2' d1 d2 i1
              go_wp2_with fail
              haveI : Inhabited (BelowOf wr) := ⟨belOf wr⟩
              refine wp_region_quiet_bel (by kernel_rfl) (by kernel_rfl) ?_
              iterate 11 (quiet_step (first | (go_at_call 12; exact Calls.bel_of (C1 _))))
              iterate 11 go_big_quiet_skip
              iterate 2 (quiet_step (fail))
              refine wpQuiet_nil ?_
              rintro wq2 ⟨⟨wq, hwq2⟩, ew⟩
              change wq2 = wq at ew
              subst ew
              go_wp2_with fail
              exact ⟨⟨1, by go_num, by omega, tw.below hwq2⟩, by simp [intOf]; omega⟩
            · obtain ⟨m, hmn⟩ : ∃ m, n = m + 1 := ⟨n - 1, by omega⟩
              obtain ⟨t, h3, h4, c3, c4, hta⟩ := tw.two.row m (by omega)
              rw [Nat.zero_add] at c3 c4
              obtain ⟨e3, e4⟩ := hule _ (List.getElem_mem (show m < us.length by omega))
              have htl : t.Le 1048576 := ⟨by rw [h3]; exact e3, by rw [h4]; exact e4⟩
              have hlts : M.cmpS t.l1 t.l2 s.l1 s.l2 < 0 := by rw [h1, h2, h3, h4]; subst hmn; exact M.asc_step (by rw [HU.out]; exact M.asc_sortK ks) hlt
              have C2 := fun p : BelowOf wr => lessThan t s p.x htl hsl (hta.below p.h (Nat.le_refl _)) (hsa.below p.h (Nat.le_refl _)) hlts
              have K1 := BelowOf.cell c1
              have K2 := BelowOf.cell c2'
              have K3 := BelowOf.cell c3
              have K4 := BelowOf.cell c4
              have i2 : (n : Int) - 1 = m := by omega
              have i3 : decide (0 < n) = true := decide_eq_true (by omega)
              have i4 : (m : Int) < us.length := by omega
              have i5 : IntKind.i64.wrap (m : Int) = m := wrap_small _ (by omega) (by omega)
              clear h1 h2 h3 h4 e1 e2 e3 e4 hm hlts hmn hpos
              go_wp2_with fail
              haveI : Inhabited (BelowOf wr) := ⟨belOf wr⟩
              refine wp_region_quiet_bel (by kernel_rfl) (by kernel_rfl) ?_
              repeat (quiet_step (first | (go_at_call 12; exact Calls.bel_of (C1 _)) | (go_at_call 13; exact Calls.bel_of (C2 _))))
              refine wpQuiet_nil ?_
              rintro wq2 ⟨⟨wq, hwq2⟩, ew⟩
              change wq2 = wq at ew
              subst ew
              go_wp2_with fail
              exact ⟨⟨n + 1, by go_num, by omega, tw.below hwq2⟩, by simp [intOf]; omega⟩
          · go_wp2_with fail
            go_ret
            exact ⟨rfl, tw.bel⟩
  · go_enter Try.func3, Try.ntmps3
    go_wp2_with fail
    go_ret
    exact ⟨rfl, Below.refl _ _⟩

end Go.Proofs.Ytfekeknnphoelab
