/- The law FnOrderSome, walked: it answers true, and leaves all as it was. Of whatever code. -/
import Derived.Test.YtphijhpleemjoaaGreatBAad
import Derived.Test.YtphijhpleemjoaaGreatBAax
import Derived.Test.YtphijhpleemjoaaGreatBAaz
import Derived.Test.YtphijhpleemjoaaGreatBAbh
import Derived.Test.YtphijhpleemjoaaGreatBAbk
import Derived.Test.YtphijhpleemjoaaGreatBAbu
import Derived.Test.YtphijhpleemjoaaGreatBAby
import Derived.Test.YtphijhpleemjoaaGreatBAcc
namespace Go.Proofs.YtphijhpleemjoaaGreat
open Go.RowKit
theorem M.all_seenOk {ll : List (List M.D)} {kind : Int} : ∀ k ∈ M.orderAll ll kind, M.seenOk ll k.1 k.2 = true := fun k hk => by
 obtain ⟨x, hx, rfl⟩ := M.mem_orderAll.1 hk
 have h := (M.holds_parts_of hx).2
 have e := M.exec_seenOk h
 have e2 : M.execSeen ll x.1 x.2 = M.seenOf ll x := by simp [M.execSeen, h, M.seenOf]
 rw [e2] at e
 exact e
theorem M.all_some (ll : List (List M.D)) (kind : Int) : decide (0 < (M.orderAll ll kind).length) = ((decide (1 ≤ kind) && decide (kind ≤ 3)) && M.prog ll) := by
 cases hg : ((decide (1 ≤ kind) && decide (kind ≤ 3)) && M.prog ll)
 ·unfold M.orderAll
  rw [hg]
  simp
 ·rw [decide_eq_true_eq]
  simp only [Bool.and_eq_true, decide_eq_true_eq] at hg
  obtain ⟨kn, rfl⟩ : ∃ kn : Nat, kind = kn := ⟨kind.toNat, by omega⟩
  exact List.length_pos_of_mem (M.mem_orderAll.2 ⟨(M.seqF (M.deeds ll), M.seqO (M.deeds ll)), M.seq_holds hg.2 (by omega) (by omega), rfl⟩)
theorem M.all_sorted (ll : List (List M.D)) (kind : Int) : M.sortK (M.orderAll ll kind) = M.orderAll ll kind := (M.sortK_unique (M.asc_orderAll ll kind) fun _ => Iff.rfl).symm
set_option maxHeartbeats 4000000 in
set_option maxRecDepth 100000 in
set_option linter.unusedSimpArgs false in
theorem lawSome_any (ca : Option Addr) (cb co L C : Nat) (x : Nat → Int) (w : World) (hL : L ≤ C) (had : 0 < L → ca = some ⟨cb, co, none⟩) (hc : ∀ i, i < L → w.cell? ⟨cb, co + i, none⟩ = some (.int .u8 (x i)) ∧ 0 ≤ x i ∧ x i ≤ 255) :
  Calls Tryz.prog 5 #[.slice ca L C] w fun e w' => e = .returned (.bool true) ∧ Below w.heap.size w w' := by
 by_cases hLb : L ≤ 1048576
 ·go_enter Tryz.func5, Tryz.ntmps5
  go_wp2_with fail
  refine (DrawOrderAll_any ca cb co L C x _ hL had hc hLb).mono ?_
  rintro e w1 ⟨a, g, c, mm, kind, rfl, hsn, hsm, hk0, hk1, hb1⟩
  have hls := hsm.le
  have hl3 : mm.length ≤ 1048576 := by have := hsm.three; omega
  clear had hc
  have bx0 := BoxP.new (c := c) hb1 hsn.ss
  go_wp2_with fail
  generalize w1.alloc (.cells #[.slice a mm.length c] 25) = W0 at *
  generalize w1.heap.size = P at *
  clear hb1
  have hkl := M.orderAll_len mm kind
  have hkk := M.orderAll_le mm kind
  have CI := fun (W : World) (h : BoxP w W P a g c mm) => iorderAllK a g 0 c mm kind W hl3 hls h.ss
  have CS := fun (W : World) (h : BoxP w W P a g c mm) => sorderAllK a g 0 c mm kind W hl3 hls h.ss
  obtain ⟨ks, hks⟩ : ∃ ks, M.orderAll mm kind = ks := ⟨_, rfl⟩
  have HKS : Hid (M.orderAll mm kind = ks) := hks
  rw [hks] at hkl hkk CI CS
  clear hks
  refine (CI W0 bx0).mono ?_
  rintro e W1 ⟨v1, rfl, hA⟩
  have bx1 := bx0.below hA.bel
  obtain ⟨av, gv, cv, rfl, hS1⟩ := hA.ex
  have p1 := bx1.p.c
  clear hA bx0
  go_wp2_with fail
  refine (CS W1 bx1).mono ?_
  rintro e W2 ⟨v2, rfl, hB⟩
  have bx2 := bx1.below hB.bel
  have hS2 := hS1.below hB.bel (Nat.le_refl _)
  obtain ⟨aw, gw, cw, rfl, hT⟩ := hB.ex
  clear hB bx1 p1 hS1
  go_wp2_with fail
  refine (lpList_same av gv 0 cv aw gw 0 cw ks W2 (by omega) hkk hS2 hT).mono ?_
  rintro e W3 ⟨rfl, b3⟩
  have bx3 := bx2.below b3
  have p3 := bx3.p.c
  have hS3 := hS2.below b3 (Nat.le_refl _)
  clear hS2 hT b3 bx2
  have HOK : ∀ k ∈ ks, M.seenOk mm k.1 k.2 = true := by rw [← HKS.out]; exact M.all_seenOk
  have HSM : Hid (decide (0 < ks.length) = ((decide (1 ≤ kind) && decide (kind ≤ 3)) && M.prog mm)) := by show _ = _; rw [← HKS.out]; exact M.all_some mm kind
  have HST : Hid (M.sortK ks = ks) := by show _ = _; rw [← HKS.out]; exact M.all_sorted mm kind
  clear HKS CI CS hsn hsm
  go_wp2_with fail
  go_loopw [6] (fun s6 wr => ∃ n : Nat, s6 = .int .i64 n ∧ n ≤ ks.length ∧ Below W3.heap.size W3 wr) (fun s6 _ => ks.length - (intOf s6).toNat)
  case atStart => exact ⟨0, rfl, Nat.zero_le _, Below.refl _ _⟩
  case round =>
   obtain ⟨n, rfl, hn, hb⟩ := hrel
   have bxr := bx3.below hb
   have hSr := hS3.below hb (Nat.le_refl _)
   have p4 := bxr.p.c
   clear bx3 hS3 p3
   by_cases hlt : n < ks.length
   ·have i1 : (n : Int) < ks.length := by omega
    obtain ⟨rfl⟩ := hSr.addr (by omega)
    obtain ⟨s, h1, h2', c1, c2', hsa⟩ := hSr.row n hlt
    obtain ⟨e1, e2⟩ := hkk _ (List.getElem_mem hlt)
    have hsl : s.Le 1048576 := ⟨by rw [h1]; exact e1, by rw [h2']; exact e2⟩
    have hq : M.seenOk mm s.l1 s.l2 = true := by rw [h1, h2']; exact HOK _ (List.getElem_mem hlt)
    have C9 := fun p : BelowOf wr => iseenOk_any a g 0 c mm s p.x hl3 hls hsl ((bxr.below p.h).ss) (hsa.below p.h (Nat.le_refl _))
    rw [hq] at C9
    rw [Nat.zero_add] at c1 c2'
    clear h1 h2' e1 e2 hq
    have K1 := BelowOf.cell c1
    have K2 := BelowOf.cell c2'
    have K3 := BelowOf.cell p4
    go_wp2_with fail
    haveI : Inhabited (BelowOf wr) := ⟨belOf wr⟩
    refine wp_region_quiet_bel (by kernel_rfl) (by kernel_rfl) ?_
    repeat (quiet_step (first | (go_at_call 25; exact Calls.bel_of (C9 _))))
    refine wpQuiet_nil ?_
    rintro wq ⟨⟨wx, hwq⟩, ew⟩
    change wq = wx at ew
    subst ew
    go_wp2_with fail
    exact ⟨⟨n + 1, by go_num, by omega, hb.trans (hwq.mono hb.size)⟩, by simp [intOf]; omega⟩
   ·have i1 : ¬ (n : Int) < ks.length := by omega
    have CP := sprog_any a g 0 c mm wr hl3 hls bxr.ss
    have C7 := fun (W : World) (h : KS W av gv 0 ks) => iseenSort_any av gv 0 cv ks W (by omega) hkk h
    rw [HST.out] at C7
    have HSM2 : Hid (decide ((0 : Int) < (ks.length : Int)) = ((decide (1 ≤ kind) && decide (kind ≤ 3)) && M.prog mm)) := by show _ = _; rw [← HSM.out, decide_eq_decide]; omega
    obtain ⟨pr, hpr⟩ : ∃ pr, M.prog mm = pr := ⟨_, rfl⟩
    rw [hpr] at CP HSM2
    have HFIN : ∀ (wz : World) (bz : BoxP w wz P a g c mm) (hz : KS wz av gv 0 ks), Calls Tryz.prog 27 #[.slice av ks.length cv] wz fun e w' => ∃ v, e = .returned v ∧ Tld wz w' v ks := fun wz bz hz => (C7 wz hz).mono fun e w' ⟨a', g', c', uu, he, hk, hn, _, _, hb⟩ => by
     have hk2 := hn.ks
     rw [hk] at hk2
     exact ⟨_, he, ⟨a', g', c', by rw [← hk, kys_len], hk2⟩, hb⟩
    clear HOK HSM HST C7 hpr hn hlt
    go_wp2_with fail
    refine CP.mono ?_
    rintro e w4 ⟨rfl, b4⟩
    have bx4 := bxr.below b4
    have hS4 := hSr.below b4 (Nat.le_refl _)
    clear CP bxr hSr
    cases pr
    ·clear hk0 hk1
     have i2 : ¬ (0 : Int) < ks.length := by have h2 := HSM2.out; rw [Bool.and_false] at h2; exact of_decide_eq_false h2
     obtain rfl : ks = [] := List.length_eq_zero_iff.1 (by omega)
     clear i2
     clear HSM2
     go_wp2_with fail
     refine (HFIN w4 bx4 hS4).mono ?_
     rintro e w5 ⟨v5, rfl, hZ⟩
     have bx5 := bx4.below hZ.bel
     have hS5 := hS4.below hZ.bel (Nat.le_refl _)
     obtain ⟨az, gz, cz, rfl, hZ5⟩ := hZ.ex
     clear hZ bx4 hS4 HFIN
     go_wp2_with fail
     refine (lpList_same az gz 0 cz av gv 0 cv [] w5 (by omega) hkk hZ5 hS5).mono ?_
     rintro e w6 ⟨rfl, b6⟩
     have bx6 := bx5.below b6
     go_wp2_with fail
     go_ret
     exact ⟨rfl, bx6.bel⟩
    ·by_cases g1 : 1 ≤ kind
     ·by_cases g2 : kind ≤ 3
      ·clear hk0 hk1
       have i2 : (0 : Int) < ks.length := by have h2 := HSM2.out; rw [decide_eq_true g1, decide_eq_true g2] at h2; exact of_decide_eq_true h2
       have hne : ¬ ks = [] := fun e => by rw [e] at i2; simp at i2
       clear HSM2
       go_wp2_with fail
       refine (HFIN w4 bx4 hS4).mono ?_
       rintro e w5 ⟨v5, rfl, hZ⟩
       have bx5 := bx4.below hZ.bel
       have hS5 := hS4.below hZ.bel (Nat.le_refl _)
       obtain ⟨az, gz, cz, rfl, hZ5⟩ := hZ.ex
       clear hZ bx4 hS4 HFIN
       go_wp2_with fail
       refine (lpList_same az gz 0 cz av gv 0 cv ks w5 (by omega) hkk hZ5 hS5).mono ?_
       rintro e w6 ⟨rfl, b6⟩
       have bx6 := bx5.below b6
       go_wp2_with fail
       go_ret
       exact ⟨rfl, bx6.bel⟩
      ·clear hk0 hk1
       have i2 : ¬ (0 : Int) < ks.length := by have h2 := HSM2.out; rw [decide_eq_false g2, Bool.and_false, Bool.false_and] at h2; exact of_decide_eq_false h2
       obtain rfl : ks = [] := List.length_eq_zero_iff.1 (by omega)
       clear i2
       clear HSM2
       go_wp2_with fail
       refine (HFIN w4 bx4 hS4).mono ?_
       rintro e w5 ⟨v5, rfl, hZ⟩
       have bx5 := bx4.below hZ.bel
       have hS5 := hS4.below hZ.bel (Nat.le_refl _)
       obtain ⟨az, gz, cz, rfl, hZ5⟩ := hZ.ex
       clear hZ bx4 hS4 HFIN
       go_wp2_with fail
       refine (lpList_same az gz 0 cz av gv 0 cv [] w5 (by omega) hkk hZ5 hS5).mono ?_
       rintro e w6 ⟨rfl, b6⟩
       have bx6 := bx5.below b6
       go_wp2_with fail
       go_ret
       exact ⟨ret_bool (by simp [g2]), bx6.bel⟩
     ·clear hk0 hk1
      have i2 : ¬ (0 : Int) < ks.length := by have h2 := HSM2.out; rw [decide_eq_false g1, Bool.false_and, Bool.false_and] at h2; exact of_decide_eq_false h2
      obtain rfl : ks = [] := List.length_eq_zero_iff.1 (by omega)
      clear i2
      clear HSM2
      go_wp2_with fail
      refine (HFIN w4 bx4 hS4).mono ?_
      rintro e w5 ⟨v5, rfl, hZ⟩
      have bx5 := bx4.below hZ.bel
      have hS5 := hS4.below hZ.bel (Nat.le_refl _)
      obtain ⟨az, gz, cz, rfl, hZ5⟩ := hZ.ex
      clear hZ bx4 hS4 HFIN
      go_wp2_with fail
      refine (lpList_same az gz 0 cz av gv 0 cv [] w5 (by omega) hkk hZ5 hS5).mono ?_
      rintro e w6 ⟨rfl, b6⟩
      have bx6 := bx5.below b6
      go_wp2_with fail
      go_ret
      exact ⟨rfl, bx6.bel⟩
 ·go_enter Tryz.func5, Tryz.ntmps5
  go_wp2_with fail
  go_ret
  exact ⟨rfl, Below.refl _ _⟩
end Go.Proofs.YtphijhpleemjoaaGreat
