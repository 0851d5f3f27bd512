/- impl.compareSeen; spec.l2Comp, l2Seen. Of lists of at most 1048576 numbers. -/
import Derived.Test.YtkbjdhjcbhdpmabSnCmp
import Derived.Deep.RegionHeld3
namespace Go.Proofs.Ytkbjdhjcbhdpmab
open Go.RowKit

theorem alloc2 (w : World) (x y : Obj) : Grown w ((w.alloc x).alloc y) := ((Grown.refl w).alloc x).alloc y

set_option maxHeartbeats 1000000 in
set_option maxRecDepth 100000 in
theorem compareSeen_any (s t : Sn) (w : World) (hs : s.Le 1048576) (ht : t.Le 1048576) (hsa : s.At w) (hta : t.At w) :
    Calls Try.prog 20 #[.agg #[.slice s.a1 s.l1.length s.c1, .slice s.a2 s.l2.length s.c2], .agg #[.slice t.a1 t.l1.length t.c1, .slice t.a2 t.l2.length t.c2]] w fun e w' => e = .returned (.int .i64 (M.cmpS s.l1 s.l2 t.l1 t.l2)) ∧ Grown w w' := by
  obtain ⟨a1, b1, o1, c1, l1, a2, b2, o2, c2, l2⟩ := s
  obtain ⟨d1, e1, f1, g1, m1, d2, e2, f2, g2, m2⟩ := t
  obtain ⟨hs1, hs2⟩ := hs
  obtain ⟨ht1, ht2⟩ := ht
  obtain ⟨as1, as2⟩ := hsa
  obtain ⟨at1, at2⟩ := hta
  simp only at hs1 hs2 ht1 ht2 as1 as2 at1 at2
  go_enter Try.func20, Try.ntmps20
  go_wp2_with fail
  have hg0 : Grown w (((w.alloc (.cells #[.slice a1 l1.length c1, .slice a2 l2.length c2] 35)).alloc (.cells #[.slice d1 m1.length g1, .slice d2 m2.length g2] 35))) := alloc2 w _ _
  have k1 : ((w.alloc (.cells #[.slice a1 l1.length c1, .slice a2 l2.length c2] 35)).alloc (.cells #[.slice d1 m1.length g1, .slice d2 m2.length g2] 35)).cell? ⟨w.heap.size, 0, none⟩ = some (.slice a1 l1.length c1) := by simp
  have k2 : ((w.alloc (.cells #[.slice a1 l1.length c1, .slice a2 l2.length c2] 35)).alloc (.cells #[.slice d1 m1.length g1, .slice d2 m2.length g2] 35)).cell? ⟨w.heap.size, 1, none⟩ = some (.slice a2 l2.length c2) := by simp
  have k3 : ((w.alloc (.cells #[.slice a1 l1.length c1, .slice a2 l2.length c2] 35)).alloc (.cells #[.slice d1 m1.length g1, .slice d2 m2.length g2] 35)).cell? ⟨w.heap.size + 1, 0, none⟩ = some (.slice d1 m1.length g1) := by simp
  have k4 : ((w.alloc (.cells #[.slice a1 l1.length c1, .slice a2 l2.length c2] 35)).alloc (.cells #[.slice d1 m1.length g1, .slice d2 m2.length g2] 35)).cell? ⟨w.heap.size + 1, 1, none⟩ = some (.slice d2 m2.length g2) := by simp
  generalize (w.alloc (.cells #[.slice a1 l1.length c1, .slice a2 l2.length c2] 35)).alloc (.cells #[.slice d1 m1.length g1, .slice d2 m2.length g2] 35) = W at *
  have x1 := as1.below hg0.drew.bel (Nat.le_refl _)
  have x2 := as2.below hg0.drew.bel (Nat.le_refl _)
  have y1 := at1.below hg0.drew.bel (Nat.le_refl _)
  have y2 := at2.below hg0.drew.bel (Nat.le_refl _)
  generalize w.heap.size = B at *
  have C1 := slcmp_any a1 b1 o1 c1 l1 d1 e1 f1 g1 m1 _ hs1 ht1 x1 y1
  have C2 := slcmp_any a2 b2 o2 c2 l2 d2 e2 f2 g2 m2 _ hs2 ht2 x2 y2
  obtain ⟨r1, hr1⟩ : ∃ r, M.comp l1 m1 = r := ⟨_, rfl⟩
  obtain ⟨r2, hr2⟩ : ∃ r, M.comp l2 m2 = r := ⟨_, rfl⟩
  obtain ⟨ro, hro⟩ : ∃ r, (if r1 = 0 then r2 else r1) = r := ⟨_, rfl⟩
  have hcs : M.cmpS l1 l2 m1 m2 = ro := by unfold M.cmpS; rw [hr1, hr2, hro]
  have HR : Hid (M.cmpS l1 l2 m1 m2 = ro) := hcs
  have C3 : ∀ b W', W'.cell? ⟨b, 0, none⟩ = some (.int .i64 r1) → W'.cell? ⟨b, 1, none⟩ = some (.int .i64 r2) → Calls Try.prog 34 #[.slice (some ⟨b, 0, none⟩) 2 2] W' fun e w' => e = .returned (.int .i64 ro) ∧ w' = W' := fun b W' h1 h2 => by have h := or_any b r1 r2 W' h1 h2; rwa [hro] at h
  clear hcs hro
  rw [hr1] at C1
  rw [hr2] at C2
  clear hr1 hr2
  clear as1 as2 at1 at2 x1 x2 y1 y2 hs1 hs2 ht1 ht2
  generalize l1.length = n1 at *
  generalize l2.length = n2 at *
  generalize m1.length = p1 at *
  generalize m2.length = p2 at *
  go_region_held3 (fun w' => w'.cell? ⟨B, 0, none⟩ = some (.slice a1 n1 c1) ∧ w'.cell? ⟨B, 1, none⟩ = some (.slice a2 n2 c2) ∧ w'.cell? ⟨B + 1, 0, none⟩ = some (.slice d1 p1 g1) ∧ w'.cell? ⟨B + 1, 1, none⟩ = some (.slice d2 p2 g2)) (go_keep) (first
    | (go_at_call_of 35 (Value.slice a1 n1 c1); refine C1.mono ?_; rintro e w' ⟨rfl, rfl⟩)
    | (go_at_call_of 35 (Value.slice a2 n2 c2); refine C2.mono ?_; rintro e w' ⟨rfl, rfl⟩)
    | (go_at_call 34; refine (C3 _ _ ?_ ?_).mono ?_; (simp); (simp); rintro e w' ⟨rfl, rfl⟩))
  go_wp2_with fail
  go_ret
  exact ⟨ret_i HR.out.symm, (hg0.alloc _).drew⟩

set_option maxHeartbeats 1000000 in
theorem l2Comp_any (a : Option Addr) (b o c : Nat) (l : List Int) (a2 : Option Addr) (b2 o2 c2 : Nat) (m : List Int) (w : World) (hl : l.length ≤ 1048576) (hm : m.length ≤ 1048576) (h : IntS w a b o l) (h2 : IntS w a2 b2 o2 m) :
    Calls Try.prog 37 #[.slice a l.length c, .slice a2 m.length c2] w fun e w' => e = .returned (.int .i64 (M.comp l m)) ∧ Grown w w' := by
  go_enter Try.func37, Try.ntmps37
  go_wp2_with fail
  go_loopw [5] (fun s5 wr => ∃ n : Nat, s5 = .int .i64 n ∧ n ≤ l.length ∧ n ≤ m.length ∧ M.comp l m = M.comp (l.drop n) (m.drop n) ∧ Grown w wr) (fun s5 _ => l.length - (intOf s5).toNat)
  case atStart => exact ⟨0, rfl, Nat.zero_le _, Nat.zero_le _, rfl, Grown.refl _⟩
  case round =>
    obtain ⟨n, rfl, hn, hnm, hpass, hg⟩ := hrel
    have HP : Hid (M.comp l m = M.comp (l.drop n) (m.drop n)) := hpass
    clear hpass
    by_cases hlt : n < l.length
    · obtain ⟨rfl⟩ := h.addr (by omega)
      have HD : Hid (l.drop n = l[n] :: l.drop (n + 1)) := M.drop_int l n hlt
      have hc := (h.below hg.bel (Nat.le_refl _)).row n hlt
      generalize l[n] = x at HD hc
      have i1 : (n : Int) < l.length := by omega
      by_cases hmt : n < m.length
      · obtain ⟨rfl⟩ := h2.addr (by omega)
        have HD2 : Hid (m.drop n = m[n] :: m.drop (n + 1)) := M.drop_int m n hmt
        have hc2 := (h2.below hg.bel (Nat.le_refl _)).row n hmt
        generalize m[n] = y at HD2 hc2
        have i2 : (n : Int) < m.length := by omega
        by_cases h1 : x < y
        · go_wp2_with fail
          go_quiet (fail)
          go_wp2_with fail
          go_ret
          exact ⟨ret_i (M.comp_lt HP.out HD.out HD2.out h1).symm, hg.drewN _⟩
        · by_cases h2' : y < x
          · go_wp2_with fail
            go_quiet (fail)
            go_wp2_with fail
            go_quiet (fail)
            go_wp2_with fail
            go_ret
            exact ⟨ret_i (M.comp_gt HP.out HD.out HD2.out h2').symm, (hg.drewN _).drewN _⟩
          · go_wp2_with fail
            go_quiet (fail)
            go_wp2_with fail
            go_quiet (fail)
            go_wp2_with fail
            exact ⟨⟨n + 1, by go_num, by omega, by omega, M.comp_eq HP.out HD.out HD2.out (by omega) (by omega), hg.drewN _⟩, by simp [intOf]; omega⟩
      · have hmt' : decide ((n : Int) < m.length) = false := by simp; omega
        have e1 : ¬ (l.length : Int) < m.length := by omega
        have e2 : (m.length : Int) < l.length := by omega
        go_wp2_with fail
        go_ret
        exact ⟨ret_i (M.comp_snd HP.out hlt (by omega)).symm, hg⟩
    · have i1 : decide ((n : Int) < l.length) = false := by simp; omega
      by_cases hmt : n < m.length
      · have e1 : (l.length : Int) < m.length := by omega
        go_wp2_with fail
        go_ret
        exact ⟨ret_i (M.comp_fst HP.out (by omega) hmt).symm, hg⟩
      · have e1 : ¬ (l.length : Int) < m.length := by omega
        have e2 : ¬ (m.length : Int) < l.length := by omega
        go_wp2_with fail
        go_ret
        exact ⟨ret_i (M.comp_fin HP.out (by omega) (by omega)).symm, hg⟩

set_option maxHeartbeats 400000 in
theorem l2Seen_any (s t : Sn) (w : World) (hs : s.Le 1048576) (ht : t.Le 1048576) (hsa : s.At w) (hta : t.At w) :
    Calls Try.prog 25 #[.agg #[.slice s.a1 s.l1.length s.c1, .slice s.a2 s.l2.length s.c2], .agg #[.slice t.a1 t.l1.length t.c1, .slice t.a2 t.l2.length t.c2]] w fun e w' => e = .returned (.int .i64 (M.cmpS s.l1 s.l2 t.l1 t.l2)) ∧ Grown w w' := by
  have hga := hsa.grown (alloc2 w (.cells #[.slice s.a1 s.l1.length s.c1, .slice s.a2 s.l2.length s.c2] 35) (.cells #[.slice t.a1 t.l1.length t.c1, .slice t.a2 t.l2.length t.c2] 35))
  have hgb := hta.grown (alloc2 w (.cells #[.slice s.a1 s.l1.length s.c1, .slice s.a2 s.l2.length s.c2] 35) (.cells #[.slice t.a1 t.l1.length t.c1, .slice t.a2 t.l2.length t.c2] 35))
  have C1 := l2Comp_any s.a1 s.b1 s.o1 s.c1 s.l1 t.a1 t.b1 t.o1 t.c1 t.l1 _ hs.reads ht.reads hga.reads hgb.reads
  obtain ⟨r1, hr1⟩ : ∃ r, M.comp s.l1 t.l1 = r := ⟨_, rfl⟩
  rw [hr1] at C1
  by_cases h0 : r1 = 0
  · subst h0
    go_enter Try.func25, Try.ntmps25
    go_wp2_with fail
    refine C1.mono ?_
    rintro e w1 ⟨rfl, hg1⟩
    obtain ⟨hc1, hf1⟩ := bcell hg1.bel
    have C2 := l2Comp_any s.a2 s.b2 s.o2 s.c2 s.l2 t.a2 t.b2 t.o2 t.c2 t.l2 _ hs.last ht.last (hga.grown hg1).last (hgb.grown hg1).last
    go_wp2_with fail
    refine C2.mono ?_
    rintro e w2 ⟨rfl, hg2⟩
    go_wp2_with fail
    go_ret
    exact ⟨ret_i (by simp [M.cmpS, hr1]), ((alloc2 w _ _).trans hg1).trans hg2⟩
  · have h0' : (r1 == 0) = false := by simpa using h0
    go_enter Try.func25, Try.ntmps25
    go_wp2_with fail
    refine C1.mono ?_
    rintro e w1 ⟨rfl, hg1⟩
    go_wp2_with fail
    go_ret
    exact ⟨ret_i (by simp [M.cmpS, hr1, h0]), (alloc2 w _ _).trans hg1⟩

end Go.Proofs.Ytkbjdhjcbhdpmab
