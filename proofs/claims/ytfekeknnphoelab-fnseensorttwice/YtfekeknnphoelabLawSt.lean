/- The law FnSeenSortTwice, walked: it answers true, and leaves all as it was. Of whatever code. -/
import Derived.Test.YtfekeknnphoelabLawSo
namespace Go.Proofs.Ytfekeknnphoelab
open Go.RowKit

theorem M.sortK_sortK (ks : List Key) : M.sortK (M.sortK ks) = M.sortK ks := (M.sortK_unique (M.asc_sortK ks) fun _ => Iff.rfl).symm
theorem M.sortK_same {ks ms : List Key} (h : ∀ x, x ∈ ms ↔ x ∈ ks) : M.sortK ms = M.sortK ks := (M.sortK_unique (M.asc_sortK ks) fun x => by rw [M.mem_sortK, h x]).symm

/-- The row that is being told. -/
structure OwnB (w W : World) (g cap : Nat) (tt : List Sn) : Prop where
  own : W.ownsRow w.heap.size 30 2 (.slice (some ⟨g, 0, none⟩) tt.length cap) tt.length (flatS tt)
  ge : w.heap.size ≤ g
  lt : g < W.heap.size
  bel : Below w.heap.size w W
theorem OwnB.snoc {w W W' : World} {g cap g' cap' : Nat} {tt : List Sn} {e : Sn} {o : Obj} (h : OwnB w W g cap tt)
    (ho : W'.ownsRow w.heap.size 30 2 (.slice (some ⟨g', 0, none⟩) (tt.length + 1) cap') (tt.length + 1) (flatS tt ++ [.slice e.a1 e.l1.length e.c1, .slice e.a2 e.l2.length e.c2])) (hg : (W.alloc o).grownBy W' (some g)) (hlt : g' < W'.heap.size) : OwnB w W' g' cap' (tt ++ [e]) := by
  have hb := h.bel.size
  have hge := h.ge
  exact ⟨by rw [List.length_append, flatS_append]; exact ho, own_ge ho g' rfl, hlt, below_grown (h.bel.alloc hb o) hg (fun k hk => by simp at hk; omega) (by simp; omega)⟩
theorem OwnB.sl {w W : World} {g cap : Nat} {tt ss : List Sn} (h : OwnB w W g cap tt) (hss : ∀ x ∈ ss, x.At w ∧ x.Le 1048576) (hin : ∀ t ∈ tt, t ∈ ss) : SL W g tt :=
  ⟨⟨fun i hi => by
    obtain ⟨f1, f2⟩ := flatS_get tt i hi
    have e1 := h.own.cells (g := g) rfl _ _ f1
    have e2 := h.own.cells (g := g) rfl _ _ f2
    rw [Go.WideShapes.add_plain, Nat.zero_add] at e1 e2
    exact ⟨e1, e2⟩, fun j => own_fzS h.own j⟩, fun t ht => ⟨(hss t (hin t ht)).1.below h.bel (Nat.le_refl _), (hss t (hin t ht)).2⟩⟩

set_option maxHeartbeats 1000000 in
set_option maxRecDepth 100000 in
theorem lawSeenSortTwice_any (ca : Option Addr) (cb co L C : Nat) (x : Nat → Int) (w : World) (hL : L ≤ C) (had : 0 < L → ca = some ⟨cb, co, none⟩) (hc : ∀ i, i < L → w.cell? ⟨cb, co + i, none⟩ = some (.int .u8 (x i)) ∧ 0 ≤ x i ∧ x i ≤ 255) :
    Calls Try.prog 4 #[.slice ca L C] w fun e w' => e = .returned (.bool true) ∧ Below w.heap.size w w' := by
  obtain ⟨i0, hi, hz0, hz1, hz2⟩ := info_parts Try.infoSeen
  by_cases hLb : L ≤ 1048576
  · go_enter Try.func4, Try.ntmps4
    go_wp2_with fail
    refine (DrawSeenSort_any ca cb co L C x _ hL had hc hLb).mono ?_
    rintro e w1 ⟨g, cap, ss, rfl, hSR, hoff, _, hl12, hglt, _, _, hb1⟩
    clear had hc
    have hkle := kle_ofS hoff
    have hk1 := hSR.ksS hoff
    have hS1 : SL w1 g ss := ⟨hSR, fun s hs => ⟨(hoff s hs).at_, (hoff s hs).le⟩⟩
    clear hSR hoff
    have hkl : (kys ss).length ≤ 12 := by rw [kys_len]; exact hl12
    have C1 := iseenSort_any _ g 0 cap (kys ss) _ (by omega) hkle hk1
    rw [kys_len] at C1
    go_wp2_with fail
    refine C1.mono ?_
    rintro e w2 ⟨a2, g2, c2, uu, rfl, hku, hnew, hul, _, hb2⟩
    have hule := kle_ofS hnew.off
    have hk2 := hnew.ks
    rw [← kys_len uu] at hul ⊢
    generalize kys uu = us at *
    have tw2 : Two w w2 g (kys ss) a2 g2 us := ⟨hb1.trans (hb2.mono hb1.size), hk1.below hb2 (Nat.le_refl _), hk2⟩
    have HU : Hid (us = M.sortK (kys ss)) := hku
    have hS2 := hS1.below hb2 hglt
    have hg2 : g < w2.heap.size := Nat.lt_of_lt_of_le hglt hb2.size
    clear hnew hk1 hk2 hku hb1 hb2 C1 hS1 hglt
    have hown0 : (w2.alloc (.cells #[] 30)).ownsRow w2.heap.size 30 2 (.slice (some ⟨w2.heap.size, 0, none⟩) 0 0) 0 (flatS []) := by
      have := World.ownsRow_made (base := w2.heap.size) (e := 30) (size := 2) w2 #[] 0 (by simp) (Nat.zero_le _) rfl
      exact this
    have ob0 : OwnB w2 (w2.alloc (.cells #[] 30)) w2.heap.size 0 [] := ⟨hown0, Nat.le_refl _, by simp, below1 _ _⟩
    clear hown0
    go_wp2_with fail
    generalize w2.alloc (.cells #[] 30) = W0 at *
    go_loopw [5, 6] (fun s5 s6 wr => ∃ (k : Nat) (z : Int) (bb : List Sn) (g5 cap5 : Nat), s5 = .slice (some ⟨g5, 0, none⟩) bb.length cap5 ∧ s6 = .int .i64 z ∧ z = (k : Int) - 1 ∧ k ≤ ss.length ∧ bb.length ≤ 12 - k ∧ Hid (∀ y, y ∈ kys bb ↔ y ∈ (kys ss).drop k) ∧ Hid (∀ t ∈ bb, t ∈ ss) ∧ OwnB w2 wr g5 cap5 bb) (fun _ s6 _ => (intOf s6 + 1).toNat)
    case atStart => exact ⟨ss.length, (ss.length : Int) - 1, [], w2.heap.size, 0, rfl, by go_num, rfl, Nat.le_refl _, by simp, by (show ∀ y, _); intro y; rw [List.drop_eq_nil_of_le (by rw [kys_len]; omega)]; simp [kys], by (show ∀ t, _); intro t ht; simp at ht, ob0⟩
    case round =>
      obtain ⟨k, z, bb, g5, cap5, rfl, rfl, hz, hk, hbl, HM, HI, ob⟩ := hrel
      clear ob0
      have hb := ob.bel
      cases k with
      | succ m =>
        obtain rfl : z = (m : Int) := by omega
        have hlt : m < ss.length := by omega
        have i1 : (m : Int) < ss.length := by omega
        have hL2 := hS2.below hb hg2
        obtain ⟨c1, c2'⟩ := hL2.sr.c m hlt
        obtain ⟨t, ht⟩ : ∃ t, ss[m] = t := ⟨_, rfl⟩
        have HT : Hid (ss[m] = t) := ht
        rw [ht] at c1 c2'
        clear ht hz hL2
        have hgr : g < wr.heap.size := Nat.lt_of_lt_of_le hg2 hb.size
        go_wp2_with (at_builtin; refine wpList_append_lies _ rfl (.tmp 22) (.tmp 27) 23 rfl w2.heap.size 30 i0 _ 2 48 Try.underlying23 hi hz0 hz1 hz2 rfl (by decide) _ _ _ rfl (ob.own.alloc _) ⟨wr.heap.size, 0, none⟩ 1 1 [.slice t.a1 t.l1.length t.c1, .slice t.a2 t.l2.length t.c2] rfl rfl (World.news_of_block (cs := #[.slice t.a1 t.l1.length t.c1, .slice t.a2 t.l2.length t.c2]) (t := 30) (fr := (0, 0)) (heap_alloc_new wr _)) (by simp [Value.oneCell']) (by omega) (by unfold maxLen; omega) (by omega) (by simp; have := ob.bel.size; have := ob.lt; have := ob.ge; omega) (wr.heap.size + 1) (by simp) ?_)
        intro g6 cap6 w6 hown6 hg6 hat6 hlt6
        have ob6 := ob.snoc hown6 hg6 hlt6
        clear hown6 hg6 hat6 hlt6
        go_wp2_with fail
        refine ⟨⟨m, (m : Int) - 1, bb ++ [t], g6, cap6, by simp, by go_num, rfl, by omega, by simp; omega, ?_, ?_, ob6⟩, by simp [intOf]⟩
        · show ∀ y, _
          intro y
          rw [M.drop_key (kys ss) m (by rw [kys_len]; exact hlt), kys_get ss hlt, HT.out, List.mem_cons, ← HM.out y]
          simp [kys, or_comm]
        · show ∀ t, _
          intro u hu
          rcases List.mem_append.1 hu with hu | hu
          · exact HI.out u hu
          · simp at hu; subst hu; rw [← HT.out]; exact List.getElem_mem hlt
      | zero =>
        obtain rfl : z = -1 := by omega
        clear hz
        have hSb := ob.sl (fun y hy => hS2.at_ y hy) HI.out
        have tw3 := tw2.below hb
        have hbk := hSb.ks
        have hble := hSb.kle
        have hb12 : (kys bb).length ≤ 12 := by rw [kys_len]; omega
        have HB : Hid (M.sortK (kys bb) = us) := by
          show M.sortK (kys bb) = us
          rw [HU.out]
          exact M.sortK_same fun y => by rw [HM.out y, List.drop_zero]
        have HV : Hid (M.sortK us = us) := by
          show M.sortK us = us
          rw [HU.out, M.sortK_sortK]
        clear HM HI hSb ob hb hS2
        have D1 := sseenSort_any _ g 0 cap (kys ss) _ (by omega) hkle tw3.one
        rw [kys_len] at D1
        go_wp2_with fail
        refine D1.mono ?_
        rintro e w3 ⟨g3, c3, tt, rfl, hkt, hS3, _, _, hb3⟩
        have tw4 := tw3.below hb3
        have hk3 := hS3.ks
        rw [← kys_len tt, hkt, ← HU.out]
        rw [hkt, ← HU.out] at hk3
        have hbk1 := hbk.below hb3 (Nat.le_refl _)
        clear hkt hS3 tw3 hbk D1
        go_wp2_with fail
        refine (lpList_same a2 g2 0 c2 (some ⟨g3, 0, none⟩) g3 0 c3 us _ (by omega) hule tw4.two hk3).mono ?_
        rintro e w4 ⟨rfl, hb4⟩
        have tw5 := tw4.below hb4
        have hbk2 := hbk1.below hb4 (Nat.le_refl _)
        clear hk3 tw4 hbk1
        go_wp2_with fail
        refine (iseenSort_any a2 g2 0 c2 us _ (by omega) hule tw5.two).mono ?_
        rintro e w5 ⟨a5, g5', c5, vv, rfl, hkv, hnew5, _, _, hb5⟩
        have tw6 := tw5.below hb5
        have hbk3 := hbk2.below hb5 (Nat.le_refl _)
        have hk5 := hnew5.ks
        rw [← kys_len vv, hkv, HV.out]
        rw [hkv, HV.out] at hk5
        clear hkv hnew5 tw5 hbk2
        go_wp2_with fail
        refine (lpList_same a5 g5' 0 c5 a2 g2 0 c2 us _ (by omega) hule hk5 tw6.two).mono ?_
        rintro e w6 ⟨rfl, hb6⟩
        have tw7 := tw6.below hb6
        have hbk4 := hbk3.below hb6 (Nat.le_refl _)
        clear hk5 tw6 hbk3
        have D2 := iseenSort_any _ g5 0 cap5 (kys bb) _ (by omega) hble hbk4
        rw [kys_len] at D2
        go_wp2_with fail
        refine D2.mono ?_
        rintro e w7 ⟨a7, g7, c7, xx, rfl, hkx, hnew7, _, _, hb7⟩
        have tw8 := tw7.below hb7
        have hk7 := hnew7.ks
        rw [← kys_len xx, hkx, HB.out]
        rw [hkx, HB.out] at hk7
        clear hkx hnew7 tw7 hbk4 D2
        go_wp2_with fail
        refine (lpList_same a7 g7 0 c7 a2 g2 0 c2 us _ (by omega) hule hk7 tw8.two).mono ?_
        rintro e w8 ⟨rfl, hb8⟩
        have tw9 := tw8.below hb8
        go_wp2_with fail
        go_ret
        exact ⟨rfl, tw9.bel⟩
  · go_enter Try.func4, Try.ntmps4
    go_wp2_with fail
    go_ret
    exact ⟨rfl, Below.refl _ _⟩

end Go.Proofs.Ytfekeknnphoelab
