/- The law's own marking of a program from whatever number on, and its look at sizes with whatever is left. Of at most 1048576 threads, each of at most 1048576 steps. The law FnExactTurnBeside, walked: it answers true, and leaves all as it was. Of programs of at most 9223372036854775807 threads and steps each: more than a machine holds. -/
import Derived.Test.YtdpoiabohkkbcaaMarkP
import Derived.Test.YtdpoiabohkkbcaaSize
import Derived.Test.YtdpoiabohkkbcaaBnTb
import Derived.Test.YtdpoiabohkkbcaaPgBnd
import Derived.Deep.RegionHeld3
import Derived.Deep.CutRange

namespace Go.Proofs.Ytdpoiabohkkbcaa
open Go.RowKit

set_option maxHeartbeats 400000 in
theorem szProgk_any (left : Int) (h0 : 0 ≤ left) (h1 : left ≤ 1048576) (a : Option Addr) (b o c : Nat) (ll : List (List M.D)) (w : World) (hl : ll.length ≤ 9223372036854775807) (hls : ∀ t ∈ ll, t.length ≤ 9223372036854775807) (h : DoSS w a b o ll) :
    Calls Try.prog 26 #[.agg #[.slice a ll.length c], .int .i64 left] w fun e w' => ∃ r : Int, e = .returned (.int .i64 r) ∧ w' = w.alloc (.cells #[.slice a ll.length c] 42) ∧ (r < 0 ∨ (r ≤ 1048576 ∧ 0 ≤ r ∧ ll.length ≤ 1048576 ∧ ∀ t ∈ ll, t.length ≤ 1048576)) := by
  go_enter Try.func26, Try.ntmps26
  go_wp2_with (go_at_call 55; refine (szDoSS_le a b o c ll left _ h0 h1 hl hls (h.below (below1 w _) (Nat.le_refl _))).mono ?_; rintro e w1 ⟨r', rfl, rfl, hor⟩)
  · go_ret
    exact ⟨-1, rfl, rfl, Or.inl (by omega)⟩
  · go_ret
    exact ⟨r', rfl, rfl, hor⟩

set_option maxHeartbeats 1000000 in
theorem markDoSSk_any (k0 : Int) (hk0 : 0 ≤ k0) (hk1 : k0 ≤ 4398046511104) (g c B N : Nat) (ll : List (List M.D)) (w : World) (hl : ll.length ≤ 1048576) (hls : ∀ l ∈ ll, l.length ≤ 1048576) (h : NewSS w B N g ll) :
    Calls Try.prog 58 #[.slice (some ⟨g, 0, none⟩) ll.length c, .int .i64 k0] w fun e w' => ∃ k : Int, e = .returned (.int .i64 k) ∧ (0 ≤ k ∧ k ≤ 8796093022208) ∧ Mk (fun j => B ≤ j ∧ j < N) w w' := by
  go_enter Try.func58, Try.ntmps58
  go_wp2_with fail
  go_loopw [1, 5] (fun s1 s5 wr => ∃ m : Nat, s1 = .int .i64 (k0 + tot3 (ll.take m) * 3) ∧ s5 = .int .i64 m ∧ m ≤ ll.length ∧ Mk (fun j => B ≤ j ∧ j < N) w wr) (fun _ s5 _ => ll.length - (intOf s5).toNat)
  case atStart => exact ⟨0, by simp [tot3], rfl, Nat.zero_le _, Mk.refl _ _⟩
  case round =>
    obtain ⟨m, rfl, rfl, hm, hmk⟩ := hrel
    by_cases hlt : m < ll.length
    · obtain ⟨a', b', o', c', hc, hd, hb', hz, hl2⟩ := h.row m hlt
      have hc' := hmk.rest _ _ hc (fun _ e => by cases e)
      have hle := hls _ (List.getElem_mem hlt)
      have HT : Hid (tot3 (ll.take (m + 1)) = tot3 (ll.take m) + ll[m].length) := tot3_take ll m hlt
      have hb := tot3_le (ll := ll.take m) (fun s hs => hls s (List.mem_of_mem_take hs))
      have hbl : (ll.take m).length ≤ 1048576 := by simp; omega
      generalize ll[m] = l at *
      obtain ⟨T, hT⟩ : ∃ T, tot3 (ll.take m) = T := ⟨_, rfl⟩
      have HT2 : Hid (tot3 (ll.take m) = T) := hT
      rw [hT] at hb ⊢
      clear hT hc
      have i1 : (m : Int) < ll.length := by omega
      have C := markDoS_any a' b' o' l.length c' (k0 + T * 3) wr hle (by omega) (by omega) hd.addr (fun i hi => by
        have hr := hd.row (i / 3) (by omega)
        have key : ∃ x, w.cell? ⟨b', o' + i, none⟩ = some (.int .i64 x) := by
          rcases Nat.lt_or_ge (i % 3) 1 with h0 | h0
          · exact ⟨_, by rw [show o' + i = o' + i / 3 * 3 from by omega]; exact hr.k⟩
          · rcases Nat.lt_or_ge (i % 3) 2 with h1 | h1
            · exact ⟨_, by rw [show o' + i = o' + i / 3 * 3 + 1 from by omega]; exact hr.p⟩
            · exact ⟨_, by rw [show o' + i = o' + i / 3 * 3 + 2 from by omega]; exact hr.v⟩
        obtain ⟨x, hx⟩ := key
        exact hmk.ints _ x hx) (fun _ j => (hmk.fz _).trans (hz j))
      go_wp2_with fail
      refine C.mono ?_
      rintro e w1 ⟨rfl, mk1⟩
      go_wp2_with fail
      refine ⟨⟨m + 1, ?_, by go_num, by omega, hmk.trans (mk1.mono (fun j hj => ?_))⟩, by simp [intOf]; omega⟩
      · rw [HT.out, HT2.out]; congr 1; omega
      · obtain ⟨rfl, _⟩ := hj; exact ⟨hb', hl2⟩
    · obtain rfl : m = ll.length := by omega
      have hb := tot3_le (ll := ll.take ll.length) (fun s hs => hls s (List.mem_of_mem_take hs))
      have hbl : (ll.take ll.length).length ≤ 1048576 := by simp; omega
      go_wp2_with fail
      go_ret
      exact ⟨_, rfl, by omega, hmk⟩

set_option maxHeartbeats 400000 in
theorem markProgk_any (k0 : Int) (hk0 : 0 ≤ k0) (hk1 : k0 ≤ 4398046511104) (g c B N : Nat) (ll : List (List M.D)) (w : World) (hl : ll.length ≤ 1048576) (hls : ∀ l ∈ ll, l.length ≤ 1048576) (h : NewSS w B N g ll) :
    Calls Try.prog 29 #[.agg #[.slice (some ⟨g, 0, none⟩) ll.length c], .int .i64 k0] w fun e w' => ∃ (k : Int) (wa : World), e = .returned (.int .i64 k) ∧ (0 ≤ k ∧ k ≤ 8796093022208) ∧ wa = w.alloc (.cells #[.slice (some ⟨g, 0, none⟩) ll.length c] 25) ∧ Mk (fun j => B ≤ j ∧ j < N) wa w' := by
  have hb1 := below1 w (.cells #[.slice (some ⟨g, 0, none⟩) ll.length c] 25)
  have C := markDoSSk_any k0 hk0 hk1 g c B N ll _ hl hls (h.below hb1 (Nat.le_refl _))
  go_enter Try.func29, Try.ntmps29
  go_wp2_with fail
  refine C.mono ?_
  rintro e w1 ⟨k, rfl, hk, hmk⟩
  go_wp2_with fail
  go_ret
  exact ⟨k, _, rfl, hk, rfl, hmk⟩

end Go.Proofs.Ytdpoiabohkkbcaa

namespace Go.Proofs.Ytdpoiabohkkbcaa
open Go.RowKit

theorem DoS.mkFar {P : Nat → Prop} {w w' : World} {a : Option Addr} {b o : Nat} {l : List M.D} (h : DoS w a b o l) (hm : Mk P w w') (hP : ¬ P b) : DoS w' a b o l :=
  ⟨h.addr, fun i hi => ⟨(hm.cell (p := ⟨b, o + i * 3, none⟩) hP).trans (h.row i hi).k, (hm.cell (p := ⟨b, o + i * 3 + 1, none⟩) hP).trans (h.row i hi).p, (hm.cell (p := ⟨b, o + i * 3 + 2, none⟩) hP).trans (h.row i hi).v⟩⟩
theorem NewSS.mkFar {P : Nat → Prop} {w w' : World} {B N g : Nat} {ll : List (List M.D)} (h : NewSS w B N g ll) (hm : Mk P w w') (hP : ∀ j, P j → j < B) : NewSS w' B N g ll :=
  ⟨h.ge, fun i hi => by
    obtain ⟨a', b', o', c', hc, hd, hb, hz, hn⟩ := h.row i hi
    have := h.ge
    exact ⟨a', b', o', c', (hm.cell (p := ⟨g, i, none⟩) (fun hp => by have h9 : g < B := hP _ hp; omega)).trans hc, hd.mkFar hm (fun hp => by have h9 : b' < B := hP _ hp; omega), hb, fun j => (hm.fz _).trans (hz j), hn⟩, by have := h.le; have := hm.size; omega⟩

set_option maxHeartbeats 8000000 in
set_option maxRecDepth 100000 in
set_option linter.unusedSimpArgs false in
theorem lawTb_any (a : Option Addr) (b o c : Nat) (ll : List (List M.D)) (a2 : Option Addr) (b2 o2 c2 : Nat) (mm : List (List M.D)) (w : World) (hl0 : ll.length ≤ 9223372036854775807) (hls0 : ∀ t ∈ ll, t.length ≤ 9223372036854775807) (hm0 : mm.length ≤ 9223372036854775807) (hms0 : ∀ t ∈ mm, t.length ≤ 9223372036854775807) (h : DoSS w a b o ll) (h2 : DoSS w a2 b2 o2 mm) :
    Calls Try.prog 7 #[.agg #[.slice a ll.length c], .agg #[.slice a2 mm.length c2]] w fun e w' => e = .returned (.bool true) ∧ Below w.heap.size w w' := by
  have b20 := below2 w (.cells #[.slice a ll.length c] 42) (.cells #[.slice a2 mm.length c2] 42)
  have sP0 := (Slot1.new w (.slice a ll.length c) 42).bl' (below1 _ (.cells #[.slice a2 mm.length c2] 42))
  have sQ0 := Slot1.new (w.alloc (.cells #[.slice a ll.length c] 42)) (.slice a2 mm.length c2) 42
  rw [World.size_alloc] at sQ0
  go_enter Try.func7, Try.ntmps7
  go_wp2_with fail
  generalize (w.alloc (.cells #[.slice a ll.length c] 42)).alloc (.cells #[.slice a2 mm.length c2] 42) = V0 at *
  refine (szProg_le a b o c ll V0 hl0 hls0 (h.below b20 (Nat.le_refl _))).mono ?_
  rintro e V1 ⟨r1, rfl, rfl, hor⟩
  have bV1 := below1 V0 (.cells #[.slice a ll.length c] 42)
  have b21 := b20.trans (bV1.mono b20.size)
  have sP1 := sP0.bl' bV1
  have sQ1 := sQ0.bl' bV1
  clear bV1 sP0 sQ0 b20
  by_cases hr1 : r1 < 0
  · go_wp2_with fail
    go_ret
    exact ⟨rfl, b21⟩
  obtain ⟨hr2, hr3, hl, hls⟩ := hor.resolve_left hr1
  clear hor hl0 hls0
  generalize V0.alloc (.cells #[.slice a ll.length c] 42) = V1 at *
  have y0 := sQ1.c
  go_wp2_with fail
  refine (szProgk_any r1 hr3 hr2 a2 b2 o2 c2 mm V1 hm0 hms0 (h2.below b21 (Nat.le_refl _))).mono ?_
  rintro e V2 ⟨r2, rfl, rfl, hor⟩
  have bV1 := below1 V1 (.cells #[.slice a2 mm.length c2] 42)
  have b0 := b21.trans (bV1.mono b21.size)
  have s0 := sP1.bl' bV1
  have t0 := sQ1.bl' bV1
  clear bV1 sP1 sQ1 b21 y0
  by_cases hr4 : r2 < 0
  · go_wp2_with fail
    go_ret
    exact ⟨rfl, b0⟩
  obtain ⟨hr5, hr6, hm, hms⟩ := hor.resolve_left hr4
  clear hor hm0 hms0
  generalize V1.alloc (.cells #[.slice a2 mm.length c2] 42) = W0 at *
  have CS := fun g1 g2 W h1 h2 => sturnBeside_any (some ⟨g1, 0, none⟩) g1 0 ll.length ll hl hls (some ⟨g2, 0, none⟩) g2 0 mm.length mm hm hms W h1 h2
  have CI := fun g1 g2 W h1 h2 => iturnBeside_any (some ⟨g1, 0, none⟩) g1 0 ll.length ll hl hls (some ⟨g2, 0, none⟩) g2 0 mm.length mm hm hms W h1 h2
  generalize hnn : (M.turnBeside ll mm).getD [] = nn at *
  obtain ⟨hn3, hn7⟩ := M.turnBeside_small hnn
  clear hnn
  have hnl : nn.length ≤ 1048576 := by omega
  have hnls : ∀ t ∈ nn, t.length ≤ 1048576 := fun t ht => by have := hn7 t ht; omega
  generalize (M.turnBeside ll mm).isSome = ok at *
  have D1 := h.below b0 (Nat.le_refl _)
  have D2 := h2.below b0 (Nat.le_refl _)
  -- the model's answer
  go_wp2_with fail
  go_cut [6, 7] from 27 (fun s6 s7 wc => ∃ N av gv cv, s6 = .pointer (some ⟨N, 0, none⟩) ∧ s7 = .bool ok ∧ Slot1 wc N (.slice av nn.length cv) ∧ DoSS wc av gv 0 nn ∧ Below W0.heap.size W0 wc)
  case first =>
    have CT1 := fun W (hb : Below W0.heap.size W0 W) => toProg_any a b o c ll W hl hls (D1.below hb (Nat.le_refl _))
    have CT2 := fun W (hb : Below W0.heap.size W0 W) => toProg_any a2 b2 o2 c2 mm W hm hms (D2.below hb (Nat.le_refl _))
    refine wp_region_held_drew (S := fun w' => Below W0.heap.size W0 w') (by kernel_rfl) (Below.refl _ _).drew (fun hH => ?_)
    refine takeD 0 (some 28) (.agg #[.slice a ll.length c]) hH rfl rfl (by kernel_rfl) (by kernel_rfl) (by kernel_rfl) (fun _ _ _ h => h) (Or.inl ⟨by rfl, by intro w' hSw; have hc := (hSw.cell (p := ⟨w.heap.size, 0, none⟩) s0.lt).trans s0.c; go_simp⟩) ?_
    simp only [Act.put, List.setIfInBounds_toArray, List.set_cons_zero, List.set_cons_succ]
    refine takeD 2 (some 30) (.agg #[.slice a2 mm.length c2]) hH rfl rfl (by kernel_rfl) (by kernel_rfl) (by kernel_rfl) (fun _ _ _ h => h) (Or.inl ⟨by rfl, by intro w' hSw; have hc := (hSw.cell (p := ⟨w.heap.size + 1, 0, none⟩) t0.lt).trans t0.c; go_simp⟩) ?_
    simp only [Act.put, List.setIfInBounds_toArray, List.set_cons_zero, List.set_cons_succ]
    refine wpAnyH_ready (rs := [1, 8]) (by kernel_rfl) (by simp) ?_
    refine AllReadyH.cons rfl (fun K' hK => ?_) (AllReadyH.cons rfl (fun K' hK => ?_) AllReadyH.nil)
    · refine step_goV (by rfl) (some 29) rfl 27 #[.tmp 28] _ rfl #[.agg #[.slice a ll.length c]] (by simp [Act.eval]) (fun _ _ => rfl) (CT1 (W0.drew) ((Below.refl W0.heap.size W0).drew)) ?_
      rintro e r1 ⟨g1, rfl, hs1, bb_r1⟩
      have ss1 := hs1.old
      have b_r1 : Below W0.heap.size W0 r1 := Below.trans ((Below.refl W0.heap.size W0).drew) (bb_r1.mono (Below.size ((Below.refl W0.heap.size W0).drew)))
      refine ⟨_, rfl, ?_⟩
      simp only [Act.put, List.setIfInBounds_toArray, List.set_cons_zero, List.set_cons_succ]
      refine hK.out _ _ b_r1 (fun hH1 => ?_)
      clear hK K'
      refine wpAnyH_ready (rs := [3, 8]) (by kernel_rfl) (by simp) ?_
      refine AllReadyH.cons rfl (fun K' hK => ?_) (AllReadyH.cons rfl (fun K' hK => ?_) AllReadyH.nil)
      · refine step_goV (by rfl) (some 31) rfl 27 #[.tmp 30] _ rfl #[.agg #[.slice a2 mm.length c2]] (by simp [Act.eval]) (fun _ _ => rfl) (CT2 (r1) b_r1) ?_
        rintro e r2 ⟨g2, rfl, hs2, bb_r2⟩
        have ss2 := hs2.old
        have b_r2 : Below W0.heap.size W0 r2 := Below.trans b_r1 (bb_r2.mono (Below.size b_r1))
        have ss1 := (show DoSS (r1) _ g1 0 ll from by first | exact ss1 | exact ss1.below (below1 _ _) (Nat.le_refl _)).below bb_r2 (Nat.le_refl _)
        refine ⟨_, rfl, ?_⟩
        simp only [Act.put, List.setIfInBounds_toArray, List.set_cons_zero, List.set_cons_succ]
        refine hK.out _ _ b_r2 (fun hH2 => ?_)
        clear hK K'
        refine wpAnyH_ready (rs := [4, 8]) (by kernel_rfl) (by simp) ?_
        refine AllReadyH.cons rfl (fun K' hK => ?_) (AllReadyH.cons rfl (fun K' hK => ?_) AllReadyH.nil)
        · refine step_goV (by rfl) (some 32) rfl 21 #[.tmp 29, .tmp 31] _ rfl #[.agg #[.slice (some ⟨g1, 0, none⟩) ll.length ll.length], .agg #[.slice (some ⟨g2, 0, none⟩) mm.length mm.length]] (by simp [Act.eval]) (fun _ _ => rfl) (CS g1 g2 (r2) (by first | exact ss1 | exact ss1.below (below1 _ _) (Nat.le_refl _)) (by first | exact ss2 | exact ss2.below (below1 _ _) (Nat.le_refl _))) ?_
          rintro e r3 ⟨v3, rfl, ⟨vs3, hR3⟩, bb_r3⟩
          obtain ⟨av, gv, cv, rfl, hss3⟩ := hR3.b.ss
          have b_r3 : Below W0.heap.size W0 r3 := Below.trans b_r2 (bb_r3.mono (Below.size b_r2))
          refine ⟨_, rfl, ?_⟩
          simp only [Act.put, List.setIfInBounds_toArray, List.set_cons_zero, List.set_cons_succ]
          refine hK.out _ _ b_r3 (fun hH3 => ?_)
          clear hK K'
          refine takeD 5 (some 27) (.tuple #[.agg #[.slice av nn.length cv], .bool ok]) hH3 rfl rfl (by kernel_rfl) (by kernel_rfl) (by kernel_rfl) (fun _ _ _ h => h) (Or.inl ⟨by rfl, by intro w' hSw; go_simp⟩) ?_
          simp only [Act.put, List.setIfInBounds_toArray, List.set_cons_zero, List.set_cons_succ]
          refine takeD 6 (some 33) (.agg #[.slice av nn.length cv]) hH3 rfl rfl (by kernel_rfl) (by kernel_rfl) (by kernel_rfl) (fun _ _ _ h => h) (Or.inl ⟨by rfl, by intro w' hSw; go_simp⟩) ?_
          simp only [Act.put, List.setIfInBounds_toArray, List.set_cons_zero, List.set_cons_succ]
          refine takeD 7 (some 34) (.bool ok) hH3 rfl rfl (by kernel_rfl) (by kernel_rfl) (by kernel_rfl) (fun _ _ _ h => h) (Or.inl ⟨by rfl, by intro w' hSw; go_simp⟩) ?_
          simp only [Act.put, List.setIfInBounds_toArray, List.set_cons_zero, List.set_cons_succ]
          refine wpAnyH_ready (rs := [8]) (by kernel_rfl) (by simp) ?_
          refine AllReadyH.cons rfl (fun K' hK => ?_) AllReadyH.nil
          rw [if_pos (by rfl)]
          go_simp
          refine hK.out _ _ (b_r3.alloc b_r3.size _) (fun hHa => ?_)
          clear hK K'
          refine wpAnyH_ready (rs := [9]) (by kernel_rfl) (by simp) ?_
          refine AllReadyH.cons rfl (fun K' hK => ?_) AllReadyH.nil
          rw [if_pos (by rfl)]
          go_simp
          refine hK.out _ _ (b_r3.alloc b_r3.size _) (fun hHb => ?_)
          clear hK K'
          refine takeD 10 (some 7) (.bool ok) hHb rfl rfl (by kernel_rfl) (by kernel_rfl) (by kernel_rfl) (fun _ _ _ h => h) (Or.inl ⟨by rfl, by intro w' hSw; go_simp⟩) ?_
          simp only [Act.put, List.setIfInBounds_toArray, List.set_cons_zero, List.set_cons_succ]
          refine wpAnyH_done (by kernel_rfl) ?_ _
          go_wp2_with fail
          go_meet
          case rel => exact ⟨_, av, gv, cv, rfl, rfl, Slot1.new r3 (.slice av nn.length cv) 25, hss3.below (below1 r3 _) (Nat.le_refl _), b_r3.alloc b_r3.size _⟩
        · rw [if_pos (by rfl)]
          go_simp
          refine hK.out _ _ (Below.alloc b_r2 (Below.size b_r2) _) (fun hHa => ?_)
          clear hK K'
          have sN : Slot1 (r2.alloc (.cells #[.slice none 0 0] 25)) r2.heap.size (.slice none 0 0) := Slot1.new _ _ _
          have hgN : W0.heap.size ≤ r2.heap.size := Below.size b_r2
          refine wpAnyH_ready (rs := [4]) (by kernel_rfl) (by simp) ?_
          refine AllReadyH.cons rfl (fun K' hK => ?_) AllReadyH.nil
          refine step_goV (by rfl) (some 32) rfl 21 #[.tmp 29, .tmp 31] _ rfl #[.agg #[.slice (some ⟨g1, 0, none⟩) ll.length ll.length], .agg #[.slice (some ⟨g2, 0, none⟩) mm.length mm.length]] (by simp [Act.eval]) (fun _ _ => rfl) (CS g1 g2 (r2.alloc (.cells #[.slice none 0 0] 25)) (by first | exact ss1 | exact ss1.below (below1 _ _) (Nat.le_refl _)) (by first | exact ss2 | exact ss2.below (below1 _ _) (Nat.le_refl _))) ?_
          rintro e r3 ⟨v3, rfl, ⟨vs3, hR3⟩, bb_r3⟩
          obtain ⟨av, gv, cv, rfl, hss3⟩ := hR3.b.ss
          have b_r3 : Below W0.heap.size W0 r3 := Below.trans (Below.alloc b_r2 (Below.size b_r2) _) (bb_r3.mono (Below.size (Below.alloc b_r2 (Below.size b_r2) _)))
          have sN := sN.bl' bb_r3
          refine ⟨_, rfl, ?_⟩
          simp only [Act.put, List.setIfInBounds_toArray, List.set_cons_zero, List.set_cons_succ]
          refine hK.out _ _ b_r3 (fun hH3 => ?_)
          clear hK K'
          refine takeD 5 (some 27) (.tuple #[.agg #[.slice av nn.length cv], .bool ok]) hH3 rfl rfl (by kernel_rfl) (by kernel_rfl) (by kernel_rfl) (fun _ _ _ h => h) (Or.inl ⟨by rfl, by intro w' hSw; go_simp⟩) ?_
          simp only [Act.put, List.setIfInBounds_toArray, List.set_cons_zero, List.set_cons_succ]
          refine takeD 6 (some 33) (.agg #[.slice av nn.length cv]) hH3 rfl rfl (by kernel_rfl) (by kernel_rfl) (by kernel_rfl) (fun _ _ _ h => h) (Or.inl ⟨by rfl, by intro w' hSw; go_simp⟩) ?_
          simp only [Act.put, List.setIfInBounds_toArray, List.set_cons_zero, List.set_cons_succ]
          refine takeD 7 (some 34) (.bool ok) hH3 rfl rfl (by kernel_rfl) (by kernel_rfl) (by kernel_rfl) (fun _ _ _ h => h) (Or.inl ⟨by rfl, by intro w' hSw; go_simp⟩) ?_
          simp only [Act.put, List.setIfInBounds_toArray, List.set_cons_zero, List.set_cons_succ]
          refine wpAnyH_ready (rs := [9]) (by kernel_rfl) (by simp) ?_
          refine AllReadyH.cons rfl (fun K' hK => ?_) AllReadyH.nil
          have sN : Slot1 r3 r2.heap.size (.slice none 0 0) := sN
          have hgN : W0.heap.size ≤ r2.heap.size := hgN
          have xc := sN.c
          have xz := sN.fz
          rw [if_pos (by rfl)]
          go_simp
          refine hK.out _ _ (b_r3.setCell (p := ⟨r2.heap.size, 0, none⟩) hgN _) (fun hHb => ?_)
          clear hK K' xc xz
          refine takeD 10 (some 7) (.bool ok) hHb rfl rfl (by kernel_rfl) (by kernel_rfl) (by kernel_rfl) (fun _ _ _ h => h) (Or.inl ⟨by rfl, by intro w' hSw; go_simp⟩) ?_
          simp only [Act.put, List.setIfInBounds_toArray, List.set_cons_zero, List.set_cons_succ]
          refine wpAnyH_done (by kernel_rfl) ?_ _
          have hNl : r2.heap.size < (r2.alloc (.cells #[.slice none 0 0] 25)).heap.size := by simp
          obtain ⟨ay, gy, cy, ey, ssY⟩ := (hR3.far (b := r2.heap.size) (i := 0) hNl (.slice av nn.length cv)).b.ss
          obtain ⟨rfl, _, rfl⟩ := Value.slice.inj ey
          go_wp2_with fail
          go_meet
          case rel => exact ⟨_, av, gy, cv, rfl, rfl, sN.set _, ssY, b_r3.setCell (p := ⟨r2.heap.size, 0, none⟩) hgN _⟩
      · rw [if_pos (by rfl)]
        go_simp
        refine hK.out _ _ (Below.alloc b_r1 (Below.size b_r1) _) (fun hHa => ?_)
        clear hK K'
        have sN : Slot1 (r1.alloc (.cells #[.slice none 0 0] 25)) r1.heap.size (.slice none 0 0) := Slot1.new _ _ _
        have hgN : W0.heap.size ≤ r1.heap.size := Below.size b_r1
        refine wpAnyH_ready (rs := [3]) (by kernel_rfl) (by simp) ?_
        refine AllReadyH.cons rfl (fun K' hK => ?_) AllReadyH.nil
        refine step_goV (by rfl) (some 31) rfl 27 #[.tmp 30] _ rfl #[.agg #[.slice a2 mm.length c2]] (by simp [Act.eval]) (fun _ _ => rfl) (CT2 (r1.alloc (.cells #[.slice none 0 0] 25)) (Below.alloc b_r1 (Below.size b_r1) _)) ?_
        rintro e r2 ⟨g2, rfl, hs2, bb_r2⟩
        have ss2 := hs2.old
        have b_r2 : Below W0.heap.size W0 r2 := Below.trans (Below.alloc b_r1 (Below.size b_r1) _) (bb_r2.mono (Below.size (Below.alloc b_r1 (Below.size b_r1) _)))
        have ss1 := (show DoSS (r1.alloc (.cells #[.slice none 0 0] 25)) _ g1 0 ll from by first | exact ss1 | exact ss1.below (below1 _ _) (Nat.le_refl _)).below bb_r2 (Nat.le_refl _)
        have sN := sN.bl' bb_r2
        refine ⟨_, rfl, ?_⟩
        simp only [Act.put, List.setIfInBounds_toArray, List.set_cons_zero, List.set_cons_succ]
        refine hK.out _ _ b_r2 (fun hH2 => ?_)
        clear hK K'
        refine wpAnyH_ready (rs := [4]) (by kernel_rfl) (by simp) ?_
        refine AllReadyH.cons rfl (fun K' hK => ?_) AllReadyH.nil
        refine step_goV (by rfl) (some 32) rfl 21 #[.tmp 29, .tmp 31] _ rfl #[.agg #[.slice (some ⟨g1, 0, none⟩) ll.length ll.length], .agg #[.slice (some ⟨g2, 0, none⟩) mm.length mm.length]] (by simp [Act.eval]) (fun _ _ => rfl) (CS g1 g2 (r2) (by first | exact ss1 | exact ss1.below (below1 _ _) (Nat.le_refl _)) (by first | exact ss2 | exact ss2.below (below1 _ _) (Nat.le_refl _))) ?_
        rintro e r3 ⟨v3, rfl, ⟨vs3, hR3⟩, bb_r3⟩
        obtain ⟨av, gv, cv, rfl, hss3⟩ := hR3.b.ss
        have b_r3 : Below W0.heap.size W0 r3 := Below.trans b_r2 (bb_r3.mono (Below.size b_r2))
        have sN := sN.bl' bb_r3
        refine ⟨_, rfl, ?_⟩
        simp only [Act.put, List.setIfInBounds_toArray, List.set_cons_zero, List.set_cons_succ]
        refine hK.out _ _ b_r3 (fun hH3 => ?_)
        clear hK K'
        refine takeD 5 (some 27) (.tuple #[.agg #[.slice av nn.length cv], .bool ok]) hH3 rfl rfl (by kernel_rfl) (by kernel_rfl) (by kernel_rfl) (fun _ _ _ h => h) (Or.inl ⟨by rfl, by intro w' hSw; go_simp⟩) ?_
        simp only [Act.put, List.setIfInBounds_toArray, List.set_cons_zero, List.set_cons_succ]
        refine takeD 6 (some 33) (.agg #[.slice av nn.length cv]) hH3 rfl rfl (by kernel_rfl) (by kernel_rfl) (by kernel_rfl) (fun _ _ _ h => h) (Or.inl ⟨by rfl, by intro w' hSw; go_simp⟩) ?_
        simp only [Act.put, List.setIfInBounds_toArray, List.set_cons_zero, List.set_cons_succ]
        refine takeD 7 (some 34) (.bool ok) hH3 rfl rfl (by kernel_rfl) (by kernel_rfl) (by kernel_rfl) (fun _ _ _ h => h) (Or.inl ⟨by rfl, by intro w' hSw; go_simp⟩) ?_
        simp only [Act.put, List.setIfInBounds_toArray, List.set_cons_zero, List.set_cons_succ]
        refine wpAnyH_ready (rs := [9]) (by kernel_rfl) (by simp) ?_
        refine AllReadyH.cons rfl (fun K' hK => ?_) AllReadyH.nil
        have sN : Slot1 r3 r1.heap.size (.slice none 0 0) := sN
        have hgN : W0.heap.size ≤ r1.heap.size := hgN
        have xc := sN.c
        have xz := sN.fz
        rw [if_pos (by rfl)]
        go_simp
        refine hK.out _ _ (b_r3.setCell (p := ⟨r1.heap.size, 0, none⟩) hgN _) (fun hHb => ?_)
        clear hK K' xc xz
        refine takeD 10 (some 7) (.bool ok) hHb rfl rfl (by kernel_rfl) (by kernel_rfl) (by kernel_rfl) (fun _ _ _ h => h) (Or.inl ⟨by rfl, by intro w' hSw; go_simp⟩) ?_
        simp only [Act.put, List.setIfInBounds_toArray, List.set_cons_zero, List.set_cons_succ]
        refine wpAnyH_done (by kernel_rfl) ?_ _
        have hNl : r1.heap.size < (r2).heap.size := by have := bb_r2.size; simp at this ⊢; omega
        obtain ⟨ay, gy, cy, ey, ssY⟩ := (hR3.far (b := r1.heap.size) (i := 0) hNl (.slice av nn.length cv)).b.ss
        obtain ⟨rfl, _, rfl⟩ := Value.slice.inj ey
        go_wp2_with fail
        go_meet
        case rel => exact ⟨_, av, gy, cv, rfl, rfl, sN.set _, ssY, b_r3.setCell (p := ⟨r1.heap.size, 0, none⟩) hgN _⟩
    · rw [if_pos (by rfl)]
      go_simp
      refine hK.out _ _ (Below.alloc ((Below.refl W0.heap.size W0).drew) (Below.size ((Below.refl W0.heap.size W0).drew)) _) (fun hHa => ?_)
      clear hK K'
      have sN : Slot1 (W0.drew.alloc (.cells #[.slice none 0 0] 25)) W0.drew.heap.size (.slice none 0 0) := Slot1.new _ _ _
      have hgN : W0.heap.size ≤ W0.drew.heap.size := Below.size ((Below.refl W0.heap.size W0).drew)
      refine wpAnyH_ready (rs := [1]) (by kernel_rfl) (by simp) ?_
      refine AllReadyH.cons rfl (fun K' hK => ?_) AllReadyH.nil
      refine step_goV (by rfl) (some 29) rfl 27 #[.tmp 28] _ rfl #[.agg #[.slice a ll.length c]] (by simp [Act.eval]) (fun _ _ => rfl) (CT1 (W0.drew.alloc (.cells #[.slice none 0 0] 25)) (Below.alloc ((Below.refl W0.heap.size W0).drew) (Below.size ((Below.refl W0.heap.size W0).drew)) _)) ?_
      rintro e r1 ⟨g1, rfl, hs1, bb_r1⟩
      have ss1 := hs1.old
      have b_r1 : Below W0.heap.size W0 r1 := Below.trans (Below.alloc ((Below.refl W0.heap.size W0).drew) (Below.size ((Below.refl W0.heap.size W0).drew)) _) (bb_r1.mono (Below.size (Below.alloc ((Below.refl W0.heap.size W0).drew) (Below.size ((Below.refl W0.heap.size W0).drew)) _)))
      have sN := sN.bl' bb_r1
      refine ⟨_, rfl, ?_⟩
      simp only [Act.put, List.setIfInBounds_toArray, List.set_cons_zero, List.set_cons_succ]
      refine hK.out _ _ b_r1 (fun hH1 => ?_)
      clear hK K'
      refine wpAnyH_ready (rs := [3]) (by kernel_rfl) (by simp) ?_
      refine AllReadyH.cons rfl (fun K' hK => ?_) AllReadyH.nil
      refine step_goV (by rfl) (some 31) rfl 27 #[.tmp 30] _ rfl #[.agg #[.slice a2 mm.length c2]] (by simp [Act.eval]) (fun _ _ => rfl) (CT2 (r1) b_r1) ?_
      rintro e r2 ⟨g2, rfl, hs2, bb_r2⟩
      have ss2 := hs2.old
      have b_r2 : Below W0.heap.size W0 r2 := Below.trans b_r1 (bb_r2.mono (Below.size b_r1))
      have ss1 := (show DoSS (r1) _ g1 0 ll from by first | exact ss1 | exact ss1.below (below1 _ _) (Nat.le_refl _)).below bb_r2 (Nat.le_refl _)
      have sN := sN.bl' bb_r2
      refine ⟨_, rfl, ?_⟩
      simp only [Act.put, List.setIfInBounds_toArray, List.set_cons_zero, List.set_cons_succ]
      refine hK.out _ _ b_r2 (fun hH2 => ?_)
      clear hK K'
      refine wpAnyH_ready (rs := [4]) (by kernel_rfl) (by simp) ?_
      refine AllReadyH.cons rfl (fun K' hK => ?_) AllReadyH.nil
      refine step_goV (by rfl) (some 32) rfl 21 #[.tmp 29, .tmp 31] _ rfl #[.agg #[.slice (some ⟨g1, 0, none⟩) ll.length ll.length], .agg #[.slice (some ⟨g2, 0, none⟩) mm.length mm.length]] (by simp [Act.eval]) (fun _ _ => rfl) (CS g1 g2 (r2) (by first | exact ss1 | exact ss1.below (below1 _ _) (Nat.le_refl _)) (by first | exact ss2 | exact ss2.below (below1 _ _) (Nat.le_refl _))) ?_
      rintro e r3 ⟨v3, rfl, ⟨vs3, hR3⟩, bb_r3⟩
      obtain ⟨av, gv, cv, rfl, hss3⟩ := hR3.b.ss
      have b_r3 : Below W0.heap.size W0 r3 := Below.trans b_r2 (bb_r3.mono (Below.size b_r2))
      have sN := sN.bl' bb_r3
      refine ⟨_, rfl, ?_⟩
      simp only [Act.put, List.setIfInBounds_toArray, List.set_cons_zero, List.set_cons_succ]
      refine hK.out _ _ b_r3 (fun hH3 => ?_)
      clear hK K'
      refine takeD 5 (some 27) (.tuple #[.agg #[.slice av nn.length cv], .bool ok]) hH3 rfl rfl (by kernel_rfl) (by kernel_rfl) (by kernel_rfl) (fun _ _ _ h => h) (Or.inl ⟨by rfl, by intro w' hSw; go_simp⟩) ?_
      simp only [Act.put, List.setIfInBounds_toArray, List.set_cons_zero, List.set_cons_succ]
      refine takeD 6 (some 33) (.agg #[.slice av nn.length cv]) hH3 rfl rfl (by kernel_rfl) (by kernel_rfl) (by kernel_rfl) (fun _ _ _ h => h) (Or.inl ⟨by rfl, by intro w' hSw; go_simp⟩) ?_
      simp only [Act.put, List.setIfInBounds_toArray, List.set_cons_zero, List.set_cons_succ]
      refine takeD 7 (some 34) (.bool ok) hH3 rfl rfl (by kernel_rfl) (by kernel_rfl) (by kernel_rfl) (fun _ _ _ h => h) (Or.inl ⟨by rfl, by intro w' hSw; go_simp⟩) ?_
      simp only [Act.put, List.setIfInBounds_toArray, List.set_cons_zero, List.set_cons_succ]
      refine wpAnyH_ready (rs := [9]) (by kernel_rfl) (by simp) ?_
      refine AllReadyH.cons rfl (fun K' hK => ?_) AllReadyH.nil
      have sN : Slot1 r3 W0.heap.size (.slice none 0 0) := sN
      have hgN : W0.heap.size ≤ W0.heap.size := hgN
      have xc := sN.c
      have xz := sN.fz
      rw [if_pos (by rfl)]
      go_simp
      refine hK.out _ _ (b_r3.setCell (p := ⟨W0.heap.size, 0, none⟩) hgN _) (fun hHb => ?_)
      clear hK K' xc xz
      refine takeD 10 (some 7) (.bool ok) hHb rfl rfl (by kernel_rfl) (by kernel_rfl) (by kernel_rfl) (fun _ _ _ h => h) (Or.inl ⟨by rfl, by intro w' hSw; go_simp⟩) ?_
      simp only [Act.put, List.setIfInBounds_toArray, List.set_cons_zero, List.set_cons_succ]
      refine wpAnyH_done (by kernel_rfl) ?_ _
      have hNl : W0.heap.size < (r2).heap.size := by have h1 := bb_r1.size; have h2 := bb_r2.size; simp at h1 h2 ⊢; omega
      obtain ⟨ay, gy, cy, ey, ssY⟩ := (hR3.far (b := W0.heap.size) (i := 0) hNl (.slice av nn.length cv)).b.ss
      obtain ⟨rfl, _, rfl⟩ := Value.slice.inj ey
      go_wp2_with fail
      go_meet
      case rel => exact ⟨_, av, gy, cv, rfl, rfl, sN.set _, ssY, b_r3.setCell (p := ⟨W0.heap.size, 0, none⟩) hgN _⟩
  case rest =>
    obtain ⟨PW, av, gv, cv, rfl, rfl, sW, ssW, bA⟩ := hcut
    generalize wc = WA at *
    have sA := s0.bl' bA
    have tA := t0.bl' bA
    have bwA := b0.trans (bA.mono b0.size)
    have DA1 := D1.below bA (Nat.le_refl _)
    have DA2 := D2.below bA (Nat.le_refl _)
    clear s0 t0 b0 bA D1 D2 CS
    have x0 := sA.c
    go_wp2_with fail
    -- the arguments
    refine (toProg_any a b o c ll WA hl hls DA1).mono ?_
    rintro e w4 ⟨g4, rfl, hs4, b4⟩
    have bX := below1 w4 (.cells #[.slice (some ⟨g4, 0, none⟩) ll.length ll.length] 25)
    have bAX := b4.trans (bX.mono b4.size)
    have sX := Slot1.new w4 (.slice (some ⟨g4, 0, none⟩) ll.length ll.length) 25
    have hsX := hs4.below bX (Nat.le_refl _)
    have hX4 : WA.heap.size ≤ w4.heap.size := b4.size
    have hszX : Hid ((w4.alloc (.cells #[.slice (some ⟨g4, 0, none⟩) ll.length ll.length] 25)).heap.size = w4.heap.size + 1) := by show _ = _; simp
    clear hs4 b4 bX x0
    have tX := tA.bl' bAX
    have x0 := tX.c
    go_wp2_with fail
    generalize w4.alloc (.cells #[.slice (some ⟨g4, 0, none⟩) ll.length ll.length] 25) = WX at *
    generalize w4.heap.size = PX at *
    refine (toProg_any a2 b2 o2 c2 mm WX hm hms (DA2.below bAX (Nat.le_refl _))).mono ?_
    rintro e w5 ⟨g5, rfl, hs5, b5⟩
    have bY := below1 w5 (.cells #[.slice (some ⟨g5, 0, none⟩) mm.length mm.length] 25)
    have bXY := b5.trans (bY.mono b5.size)
    have bAY := bAX.trans (bXY.mono bAX.size)
    have sY := Slot1.new w5 (.slice (some ⟨g5, 0, none⟩) mm.length mm.length) 25
    have hsY := hs5.below bY (Nat.le_refl _)
    have sXY := sX.bl' bXY
    have hsXY := hsX.below bXY (Nat.le_refl _)
    have hY5 : WX.heap.size ≤ w5.heap.size := b5.size
    have hszY : Hid ((w5.alloc (.cells #[.slice (some ⟨g5, 0, none⟩) mm.length mm.length] 25)).heap.size = w5.heap.size + 1) := by show _ = _; simp
    clear hs5 b5 bY x0 sX hsX tX bXY bAX
    have x1 := sXY.c
    have x2 := sY.c
    go_wp2_with fail
    generalize w5.alloc (.cells #[.slice (some ⟨g5, 0, none⟩) mm.length mm.length] 25) = WY at *
    generalize w5.heap.size = PY at *
    -- the program's answer
    refine (CI g4 g5 WY hsXY.old hsY.old).mono ?_
    rintro e w6 ⟨v6, rfl, ⟨vs6, hR6⟩, b6⟩
    obtain ⟨ai, gi, ci, rs, rfl, hrl, hrn, hrw6, hin, _⟩ := hR6.rw_
    have bG := below1 w6 (.cells #[.slice ai nn.length ci] 25)
    have bYG := b6.trans (bG.mono b6.size)
    have sG := Slot1.new w6 (.slice ai nn.length ci) 25
    have hRG := hR6.below bG
    have hrwG := hrw6.below bG
    have hinG : ∀ k, InR rs k → k ≠ w6.heap.size := fun k ⟨i, hi, hn, e⟩ => by
      obtain ⟨x, hx⟩ := hrw6.ints i hi 0 (by omega)
      have : rs[i].b < w6.heap.size := World.block_lt_of_cell? _ _ hx
      omega
    have lG6 : WY.heap.size ≤ w6.heap.size := b6.size
    have bAG := bAY.trans (bYG.mono bAY.size)
    have sXG := sXY.bl' bYG
    have sYG := sY.bl' bYG
    have hsXG := hsXY.below bYG (Nat.le_refl _)
    have hsYG := hsY.below bYG (Nat.le_refl _)
    have sWG := sW.bl' bAG
    have ssWG := ssW.below bAG (Nat.le_refl _)
    have x3 := sG.c
    have x4 := sWG.c
    clear sXY sY hsXY hsY bAY hR6 b6 bG x1 x2 hrw6
    -- the same
    go_wp2_with fail
    generalize w6.alloc (.cells #[.slice ai nn.length ci] 25) = WG at *
    generalize w6.heap.size = PG at *
    obtain ⟨_, g6, _, e6, ssG⟩ := hRG.b.ss
    obtain ⟨rfl, _, rfl⟩ := Value.slice.inj e6
    refine (eqProg_same ai g6 0 ci av gv 0 cv nn WG hnl hnls ssG ssWG).mono ?_
    rintro e WH ⟨rfl, bH⟩
    have bAH := bAG.trans (bH.mono bAG.size)
    have sAH := sA.bl' bAH
    have tAH := tA.bl' bAH
    have sXH := sXG.bl' bH
    have sYH := sYG.bl' bH
    have sGH := sG.bl' bH
    have hsXH := hsXG.below bH (Nat.le_refl _)
    have hsYH := hsYG.below bH (Nat.le_refl _)
    have hRH := hRG.below bH
    have hrwH := hrwG.below bH
    clear x3 x4 ssG ssWG sXG sYG sG hsXG hsYG hRG hrwG sWG bH bAG bYG
    have x0 := sAH.c
    have x1 := sXH.c
    have l0 := sAH.lt
    have l1 := sXH.lt
    go_wp2_with fail
    have C7 := toProg_any a b o c ll WH.drew hl hls (DA1.below bAH.drew (Nat.le_refl _))
    go_region_held3 (fun w' => w'.cell? ⟨w.heap.size, 0, none⟩ = some (.slice a ll.length c) ∧ w'.cell? ⟨PX, 0, none⟩ = some (.slice (some ⟨g4, 0, none⟩) ll.length ll.length)) (go_keep) (first
      | (go_at_call 27; refine C7.mono ?_; rintro e w7 ⟨g7, rfl, hs7, hb7⟩; have Y0 := (hb7.cell (p := ⟨w.heap.size, 0, none⟩) l0).trans x0; have Y1 := (hb7.cell (p := ⟨PX, 0, none⟩) l1).trans x1)
      | (go_at_call 28; refine (eqProg_same _ g4 0 ll.length _ g7 0 ll.length ll _ hl hls ((hsXH.old.below (Below.refl _ _).drew (Nat.le_refl _)).below hb7 (Nat.le_refl _)) hs7.old).mono ?_; rintro e w8 ⟨rfl, hb8⟩; have Z0 := (hb8.cell (p := ⟨w.heap.size, 0, none⟩) (Nat.lt_of_lt_of_le l0 hb7.size)).trans Y0; have Z1 := (hb8.cell (p := ⟨PX, 0, none⟩) (Nat.lt_of_lt_of_le l1 hb7.size)).trans Y1))
    have b68 : Below WH.heap.size WH w8 := ((Below.refl WH.heap.size WH).drew.trans hb7).trans (hb8.mono hb7.size)
    have bA8 := bAH.trans (b68.mono bAH.size)
    have tA8 := tAH.bl' b68
    have sX8 := sXH.bl' b68
    have sY8 := sYH.bl' b68
    have sG8 := sGH.bl' b68
    have hsX8 := hsXH.below b68 (Nat.le_refl _)
    have hsY8 := hsYH.below b68 (Nat.le_refl _)
    have hR8 := hRH.below b68
    have hrw8 := hrwH.below b68
    clear Z0 Z1 Y0 Y1 C7 hs7 hb7 hb8 b68 bAH sAH tAH sXH sYH sGH hsXH hsYH hRH hrwH x0 x1 l0 l1
    have x0 := tA8.c
    have x1 := sY8.c
    have l0 := tA8.lt
    have l1 := sY8.lt
    go_wp2_with fail
    have C9 := toProg_any a2 b2 o2 c2 mm w8.drew hm hms (DA2.below bA8.drew (Nat.le_refl _))
    go_region_held3 (fun w' => w'.cell? ⟨w.heap.size + 1, 0, none⟩ = some (.slice a2 mm.length c2) ∧ w'.cell? ⟨PY, 0, none⟩ = some (.slice (some ⟨g5, 0, none⟩) mm.length mm.length)) (go_keep) (first
      | (go_at_call 27; refine C9.mono ?_; rintro e w9 ⟨g9, rfl, hs9, hb9⟩; have Y0 := (hb9.cell (p := ⟨w.heap.size + 1, 0, none⟩) l0).trans x0; have Y1 := (hb9.cell (p := ⟨PY, 0, none⟩) l1).trans x1)
      | (go_at_call 28; refine (eqProg_same _ g5 0 mm.length _ g9 0 mm.length mm _ hm hms ((hsY8.old.below (Below.refl _ _).drew (Nat.le_refl _)).below hb9 (Nat.le_refl _)) hs9.old).mono ?_; rintro e w10 ⟨rfl, hb10⟩; have Z0 := (hb10.cell (p := ⟨w.heap.size + 1, 0, none⟩) (Nat.lt_of_lt_of_le l0 hb9.size)).trans Y0; have Z1 := (hb10.cell (p := ⟨PY, 0, none⟩) (Nat.lt_of_lt_of_le l1 hb9.size)).trans Y1))
    have b810 : Below w8.heap.size w8 w10 := ((Below.refl w8.heap.size w8).drew.trans hb9).trans (hb10.mono hb9.size)
    have bA10 := bA8.trans (b810.mono bA8.size)
    have sX10 := sX8.bl' b810
    have sY10 := sY8.bl' b810
    have sG10 := sG8.bl' b810
    have hsX10 := hsX8.below b810 (Nat.le_refl _)
    have hsY10 := hsY8.below b810 (Nat.le_refl _)
    have hR10 := hR8.below b810
    have hrw10 := hrw8.below b810
    clear Z0 Z1 Y0 Y1 C9 hs9 hb9 hb10 b810 bA8 tA8 sX8 sY8 sG8 hsX8 hsY8 hR8 hrw8 x0 x1 l0 l1
    have x1 := sX10.c
    go_wp2_with fail
    -- marks
    refine (markProg_any g4 ll.length WA.heap.size PX ll w10 hl hls hsX10).mono ?_
    rintro e w11 ⟨k, wa, rfl, hk, rfl, mk11⟩
    have bal := below1 w10 (.cells #[.slice (some ⟨g4, 0, none⟩) ll.length ll.length] 25)
    have bA11 : Below WA.heap.size WA w11 := Mk.below (bA10.trans (bal.mono bA10.size)) mk11 (fun j hj => hj.1)
    have hszXo := hszX.out
    have hszYo := hszY.out
    have hR11 := (hR10.below bal).mkFar mk11 (fun j hj => by omega)
    have hrw11 := (hrw10.below bal).mk_ mk11
    have sG11 := (sG10.bl' bal).mkFar mk11 (fun hj => by omega)
    have sY11 := (sY10.bl' bal).mkFar mk11 (fun hj => by omega)
    have hsY11 : NewSS w11 WX.heap.size PY g5 mm := (hsY10.below bal (Nat.le_refl _)).mkFar mk11 (fun j hj => by omega)
    clear x1 bal mk11 hR10 hrw10 sG10 sY10 sX10 hsX10 hsY10 bA10 hszXo hszYo
    have x1 := sY11.c
    go_wp2_with fail
    refine (markProgk_any k hk.1 hk.2 g5 mm.length WX.heap.size PY mm w11 hm hms hsY11).mono ?_
    rintro e w12 ⟨kk, wb, rfl, hkk, rfl, mk12⟩
    have bal := below1 w11 (.cells #[.slice (some ⟨g5, 0, none⟩) mm.length mm.length] 25)
    have hszXo := hszX.out
    have hszYo := hszY.out
    have bA12 : Below WA.heap.size WA w12 := Mk.below (bA11.trans (bal.mono bA11.size)) mk12 (fun j hj => by have := hj.1; omega)
    have hR12 := (hR11.below bal).mkFar mk12 (fun j hj => by omega)
    have hrw12 := (hrw11.below bal).mk_ mk12
    have sG12 := (sG11.bl' bal).mkFar mk12 (fun hj => by omega)
    have sW12 := sW.bl' bA12
    have hk2 : ¬ (kk < 0) := by omega
    have hk3 : decide (kk < 0) = false := by simpa using hk2
    clear mk12 hR11 hrw11 sG11 bA11 sY11 hsY11 x1 bal hszXo hszYo
    have x2 := sG12.c
    have x3 := sW12.c
    go_wp2_with fail
    obtain ⟨_, g3, _, e3, hss3⟩ := hR12.b.ss
    obtain ⟨rfl, _, rfl⟩ := Value.slice.inj e3
    refine (eqProg_same ai g3 0 ci av gv 0 cv nn w12 hnl hnls hss3 (ssW.below bA12 (Nat.le_refl _))).mono ?_
    rintro e w13 ⟨rfl, b13⟩
    have hq1 : rs.length ≤ 1048576 := by have := hrl.out; omega
    have hq2 : ∀ r ∈ rs, r.n ≤ 1048576 := fun r hr => by obtain ⟨t, ht, e⟩ := hrn r hr; have := hnls t ht; omega
    have hrw13 := hrw12.below b13
    have sG13 := sG12.bl' b13
    have bA13 := bA12.trans (b13.mono bA12.size)
    have hAY : WA.heap.size ≤ WY.heap.size := by have := hszX.out; have := hszY.out; omega
    have hinA : ∀ k, InR rs k → WA.heap.size ≤ k := fun k hk => by have := hin k hk; omega
    have MK := fun W h => markProgv_any ai gi ci rs W hq1 hq2 h
    have HE := fun W h hd => heldProg_any ai gi ci rs W hq1 hq2 h hd
    rw [hrl.out] at MK HE
    have hT := totq_le hq2
    generalize hTq : totq rs = T at *
    have t0 : ¬ (1 + (T : Int) * 3 < 0) := by omega
    clear hTq hT hR12 sG12 sW12 hrw12 hss3 bA12 b13 x2 x3
    have x2 := sG13.c
    go_wp2_with fail
    refine (MK w13 hrw13).mono ?_
    rintro e w14 ⟨rfl, hd14, mk14⟩
    have bal := below1 w13 (.cells #[.slice ai nn.length ci] 25)
    have bA14 : Below WA.heap.size WA w14 := Mk.below (bA13.trans (bal.mono bA13.size)) mk14 hinA
    have hrw14 := (hrw13.below bal).mk_ mk14
    have sG14 := (sG13.bl' bal).mkFar mk14 (fun h => hinG _ h rfl)
    clear x2 sG13 hrw13 mk14 bal bA13
    have x2 := sG14.c
    go_wp2_with fail
    refine (HE w14 hrw14 hd14).mono ?_
    rintro e w15 ⟨rfl, b15⟩
    have bA15 := bA14.trans (b15.mono bA14.size)
    have sG15 := sG14.bl' b15
    have hrw15 := hrw14.below b15
    have hd15 := hd14.below b15
    have sA15 := sA.bl' bA15
    have tA15 := tA.bl' bA15
    have D1 := DA1.below bA15 (Nat.le_refl _)
    have D2 := DA2.below bA15 (Nat.le_refl _)
    clear x2 sG14 hrw14 hd14 b15 bA14
    go_wp2_with fail
    -- once more
    go_cut [15, 16] from 94 (fun s15 s16 wc => ∃ N ah gh ch, s15 = .pointer (some ⟨N, 0, none⟩) ∧ s16 = .bool ok ∧ Slot1 wc N (.slice ah nn.length ch) ∧ DoSS wc ah gh 0 nn ∧ Below w15.heap.size w15 wc)
    case first =>
      clear hd15 hrw15 sG15 MK HE hin hinA hinG hrn
      have CT1 := fun W (hb : Below w15.heap.size w15 W) => toProg_any a b o c ll W hl hls (D1.below hb (Nat.le_refl _))
      have CT2 := fun W (hb : Below w15.heap.size w15 W) => toProg_any a2 b2 o2 c2 mm W hm hms (D2.below hb (Nat.le_refl _))
      refine wp_region_held_drew (S := fun w' => Below w15.heap.size w15 w') (by kernel_rfl) (Below.refl _ _).drew (fun hH => ?_)
      refine takeD 0 (some 95) (.agg #[.slice a ll.length c]) hH rfl rfl (by kernel_rfl) (by kernel_rfl) (by kernel_rfl) (fun _ _ _ h => h) (Or.inl ⟨by rfl, by intro w' hSw; have hc := (hSw.cell (p := ⟨w.heap.size, 0, none⟩) sA15.lt).trans sA15.c; go_simp⟩) ?_
      simp only [Act.put, List.setIfInBounds_toArray, List.set_cons_zero, List.set_cons_succ]
      refine takeD 2 (some 97) (.agg #[.slice a2 mm.length c2]) hH rfl rfl (by kernel_rfl) (by kernel_rfl) (by kernel_rfl) (fun _ _ _ h => h) (Or.inl ⟨by rfl, by intro w' hSw; have hc := (hSw.cell (p := ⟨w.heap.size + 1, 0, none⟩) tA15.lt).trans tA15.c; go_simp⟩) ?_
      simp only [Act.put, List.setIfInBounds_toArray, List.set_cons_zero, List.set_cons_succ]
      refine wpAnyH_ready (rs := [1, 8]) (by kernel_rfl) (by simp) ?_
      refine AllReadyH.cons rfl (fun K' hK => ?_) (AllReadyH.cons rfl (fun K' hK => ?_) AllReadyH.nil)
      · refine step_goV (by rfl) (some 96) rfl 27 #[.tmp 95] _ rfl #[.agg #[.slice a ll.length c]] (by simp [Act.eval]) (fun _ _ => rfl) (CT1 (w15.drew) ((Below.refl w15.heap.size w15).drew)) ?_
        rintro e r1 ⟨g1, rfl, hs1, bb_r1⟩
        have ss1 := hs1.old
        have b_r1 : Below w15.heap.size w15 r1 := Below.trans ((Below.refl w15.heap.size w15).drew) (bb_r1.mono (Below.size ((Below.refl w15.heap.size w15).drew)))
        refine ⟨_, rfl, ?_⟩
        simp only [Act.put, List.setIfInBounds_toArray, List.set_cons_zero, List.set_cons_succ]
        refine hK.out _ _ b_r1 (fun hH1 => ?_)
        clear hK K'
        refine wpAnyH_ready (rs := [3, 8]) (by kernel_rfl) (by simp) ?_
        refine AllReadyH.cons rfl (fun K' hK => ?_) (AllReadyH.cons rfl (fun K' hK => ?_) AllReadyH.nil)
        · refine step_goV (by rfl) (some 98) rfl 27 #[.tmp 97] _ rfl #[.agg #[.slice a2 mm.length c2]] (by simp [Act.eval]) (fun _ _ => rfl) (CT2 (r1) b_r1) ?_
          rintro e r2 ⟨g2, rfl, hs2, bb_r2⟩
          have ss2 := hs2.old
          have b_r2 : Below w15.heap.size w15 r2 := Below.trans b_r1 (bb_r2.mono (Below.size b_r1))
          have ss1 := (show DoSS (r1) _ g1 0 ll from by first | exact ss1 | exact ss1.below (below1 _ _) (Nat.le_refl _)).below bb_r2 (Nat.le_refl _)
          refine ⟨_, rfl, ?_⟩
          simp only [Act.put, List.setIfInBounds_toArray, List.set_cons_zero, List.set_cons_succ]
          refine hK.out _ _ b_r2 (fun hH2 => ?_)
          clear hK K'
          refine wpAnyH_ready (rs := [4, 8]) (by kernel_rfl) (by simp) ?_
          refine AllReadyH.cons rfl (fun K' hK => ?_) (AllReadyH.cons rfl (fun K' hK => ?_) AllReadyH.nil)
          · refine step_goV (by rfl) (some 99) rfl 22 #[.tmp 96, .tmp 98] _ rfl #[.agg #[.slice (some ⟨g1, 0, none⟩) ll.length ll.length], .agg #[.slice (some ⟨g2, 0, none⟩) mm.length mm.length]] (by simp [Act.eval]) (fun _ _ => rfl) (CI g1 g2 (r2) (by first | exact ss1 | exact ss1.below (below1 _ _) (Nat.le_refl _)) (by first | exact ss2 | exact ss2.below (below1 _ _) (Nat.le_refl _))) ?_
            rintro e r3 ⟨v3, rfl, ⟨vs3, hR3⟩, bb_r3⟩
            obtain ⟨av, gv, cv, rfl, hss3⟩ := hR3.b.ss
            have b_r3 : Below w15.heap.size w15 r3 := Below.trans b_r2 (bb_r3.mono (Below.size b_r2))
            refine ⟨_, rfl, ?_⟩
            simp only [Act.put, List.setIfInBounds_toArray, List.set_cons_zero, List.set_cons_succ]
            refine hK.out _ _ b_r3 (fun hH3 => ?_)
            clear hK K'
            refine takeD 5 (some 94) (.tuple #[.agg #[.slice av nn.length cv], .bool ok]) hH3 rfl rfl (by kernel_rfl) (by kernel_rfl) (by kernel_rfl) (fun _ _ _ h => h) (Or.inl ⟨by rfl, by intro w' hSw; go_simp⟩) ?_
            simp only [Act.put, List.setIfInBounds_toArray, List.set_cons_zero, List.set_cons_succ]
            refine takeD 6 (some 100) (.agg #[.slice av nn.length cv]) hH3 rfl rfl (by kernel_rfl) (by kernel_rfl) (by kernel_rfl) (fun _ _ _ h => h) (Or.inl ⟨by rfl, by intro w' hSw; go_simp⟩) ?_
            simp only [Act.put, List.setIfInBounds_toArray, List.set_cons_zero, List.set_cons_succ]
            refine takeD 7 (some 101) (.bool ok) hH3 rfl rfl (by kernel_rfl) (by kernel_rfl) (by kernel_rfl) (fun _ _ _ h => h) (Or.inl ⟨by rfl, by intro w' hSw; go_simp⟩) ?_
            simp only [Act.put, List.setIfInBounds_toArray, List.set_cons_zero, List.set_cons_succ]
            refine wpAnyH_ready (rs := [8]) (by kernel_rfl) (by simp) ?_
            refine AllReadyH.cons rfl (fun K' hK => ?_) AllReadyH.nil
            rw [if_pos (by rfl)]
            go_simp
            refine hK.out _ _ (b_r3.alloc b_r3.size _) (fun hHa => ?_)
            clear hK K'
            refine wpAnyH_ready (rs := [9]) (by kernel_rfl) (by simp) ?_
            refine AllReadyH.cons rfl (fun K' hK => ?_) AllReadyH.nil
            rw [if_pos (by rfl)]
            go_simp
            refine hK.out _ _ (b_r3.alloc b_r3.size _) (fun hHb => ?_)
            clear hK K'
            refine takeD 10 (some 16) (.bool ok) hHb rfl rfl (by kernel_rfl) (by kernel_rfl) (by kernel_rfl) (fun _ _ _ h => h) (Or.inl ⟨by rfl, by intro w' hSw; go_simp⟩) ?_
            simp only [Act.put, List.setIfInBounds_toArray, List.set_cons_zero, List.set_cons_succ]
            refine wpAnyH_done (by kernel_rfl) ?_ _
            go_wp2_with fail
            go_meet
            case rel => exact ⟨_, av, gv, cv, rfl, rfl, Slot1.new r3 (.slice av nn.length cv) 25, hss3.below (below1 r3 _) (Nat.le_refl _), b_r3.alloc b_r3.size _⟩
          · rw [if_pos (by rfl)]
            go_simp
            refine hK.out _ _ (Below.alloc b_r2 (Below.size b_r2) _) (fun hHa => ?_)
            clear hK K'
            have sN : Slot1 (r2.alloc (.cells #[.slice none 0 0] 25)) r2.heap.size (.slice none 0 0) := Slot1.new _ _ _
            have hgN : w15.heap.size ≤ r2.heap.size := Below.size b_r2
            refine wpAnyH_ready (rs := [4]) (by kernel_rfl) (by simp) ?_
            refine AllReadyH.cons rfl (fun K' hK => ?_) AllReadyH.nil
            refine step_goV (by rfl) (some 99) rfl 22 #[.tmp 96, .tmp 98] _ rfl #[.agg #[.slice (some ⟨g1, 0, none⟩) ll.length ll.length], .agg #[.slice (some ⟨g2, 0, none⟩) mm.length mm.length]] (by simp [Act.eval]) (fun _ _ => rfl) (CI g1 g2 (r2.alloc (.cells #[.slice none 0 0] 25)) (by first | exact ss1 | exact ss1.below (below1 _ _) (Nat.le_refl _)) (by first | exact ss2 | exact ss2.below (below1 _ _) (Nat.le_refl _))) ?_
            rintro e r3 ⟨v3, rfl, ⟨vs3, hR3⟩, bb_r3⟩
            obtain ⟨av, gv, cv, rfl, hss3⟩ := hR3.b.ss
            have b_r3 : Below w15.heap.size w15 r3 := Below.trans (Below.alloc b_r2 (Below.size b_r2) _) (bb_r3.mono (Below.size (Below.alloc b_r2 (Below.size b_r2) _)))
            have sN := sN.bl' bb_r3
            refine ⟨_, rfl, ?_⟩
            simp only [Act.put, List.setIfInBounds_toArray, List.set_cons_zero, List.set_cons_succ]
            refine hK.out _ _ b_r3 (fun hH3 => ?_)
            clear hK K'
            refine takeD 5 (some 94) (.tuple #[.agg #[.slice av nn.length cv], .bool ok]) hH3 rfl rfl (by kernel_rfl) (by kernel_rfl) (by kernel_rfl) (fun _ _ _ h => h) (Or.inl ⟨by rfl, by intro w' hSw; go_simp⟩) ?_
            simp only [Act.put, List.setIfInBounds_toArray, List.set_cons_zero, List.set_cons_succ]
            refine takeD 6 (some 100) (.agg #[.slice av nn.length cv]) hH3 rfl rfl (by kernel_rfl) (by kernel_rfl) (by kernel_rfl) (fun _ _ _ h => h) (Or.inl ⟨by rfl, by intro w' hSw; go_simp⟩) ?_
            simp only [Act.put, List.setIfInBounds_toArray, List.set_cons_zero, List.set_cons_succ]
            refine takeD 7 (some 101) (.bool ok) hH3 rfl rfl (by kernel_rfl) (by kernel_rfl) (by kernel_rfl) (fun _ _ _ h => h) (Or.inl ⟨by rfl, by intro w' hSw; go_simp⟩) ?_
            simp only [Act.put, List.setIfInBounds_toArray, List.set_cons_zero, List.set_cons_succ]
            refine wpAnyH_ready (rs := [9]) (by kernel_rfl) (by simp) ?_
            refine AllReadyH.cons rfl (fun K' hK => ?_) AllReadyH.nil
            have sN : Slot1 r3 r2.heap.size (.slice none 0 0) := sN
            have hgN : w15.heap.size ≤ r2.heap.size := hgN
            have xc := sN.c
            have xz := sN.fz
            rw [if_pos (by rfl)]
            go_simp
            refine hK.out _ _ (b_r3.setCell (p := ⟨r2.heap.size, 0, none⟩) hgN _) (fun hHb => ?_)
            clear hK K' xc xz
            refine takeD 10 (some 16) (.bool ok) hHb rfl rfl (by kernel_rfl) (by kernel_rfl) (by kernel_rfl) (fun _ _ _ h => h) (Or.inl ⟨by rfl, by intro w' hSw; go_simp⟩) ?_
            simp only [Act.put, List.setIfInBounds_toArray, List.set_cons_zero, List.set_cons_succ]
            refine wpAnyH_done (by kernel_rfl) ?_ _
            have hNl : r2.heap.size < (r2.alloc (.cells #[.slice none 0 0] 25)).heap.size := by simp
            obtain ⟨ay, gy, cy, ey, ssY⟩ := (hR3.far (b := r2.heap.size) (i := 0) hNl (.slice av nn.length cv)).b.ss
            obtain ⟨rfl, _, rfl⟩ := Value.slice.inj ey
            go_wp2_with fail
            go_meet
            case rel => exact ⟨_, av, gy, cv, rfl, rfl, sN.set _, ssY, b_r3.setCell (p := ⟨r2.heap.size, 0, none⟩) hgN _⟩
        · rw [if_pos (by rfl)]
          go_simp
          refine hK.out _ _ (Below.alloc b_r1 (Below.size b_r1) _) (fun hHa => ?_)
          clear hK K'
          have sN : Slot1 (r1.alloc (.cells #[.slice none 0 0] 25)) r1.heap.size (.slice none 0 0) := Slot1.new _ _ _
          have hgN : w15.heap.size ≤ r1.heap.size := Below.size b_r1
          refine wpAnyH_ready (rs := [3]) (by kernel_rfl) (by simp) ?_
          refine AllReadyH.cons rfl (fun K' hK => ?_) AllReadyH.nil
          refine step_goV (by rfl) (some 98) rfl 27 #[.tmp 97] _ rfl #[.agg #[.slice a2 mm.length c2]] (by simp [Act.eval]) (fun _ _ => rfl) (CT2 (r1.alloc (.cells #[.slice none 0 0] 25)) (Below.alloc b_r1 (Below.size b_r1) _)) ?_
          rintro e r2 ⟨g2, rfl, hs2, bb_r2⟩
          have ss2 := hs2.old
          have b_r2 : Below w15.heap.size w15 r2 := Below.trans (Below.alloc b_r1 (Below.size b_r1) _) (bb_r2.mono (Below.size (Below.alloc b_r1 (Below.size b_r1) _)))
          have ss1 := (show DoSS (r1.alloc (.cells #[.slice none 0 0] 25)) _ g1 0 ll from by first | exact ss1 | exact ss1.below (below1 _ _) (Nat.le_refl _)).below bb_r2 (Nat.le_refl _)
          have sN := sN.bl' bb_r2
          refine ⟨_, rfl, ?_⟩
          simp only [Act.put, List.setIfInBounds_toArray, List.set_cons_zero, List.set_cons_succ]
          refine hK.out _ _ b_r2 (fun hH2 => ?_)
          clear hK K'
          refine wpAnyH_ready (rs := [4]) (by kernel_rfl) (by simp) ?_
          refine AllReadyH.cons rfl (fun K' hK => ?_) AllReadyH.nil
          refine step_goV (by rfl) (some 99) rfl 22 #[.tmp 96, .tmp 98] _ rfl #[.agg #[.slice (some ⟨g1, 0, none⟩) ll.length ll.length], .agg #[.slice (some ⟨g2, 0, none⟩) mm.length mm.length]] (by simp [Act.eval]) (fun _ _ => rfl) (CI g1 g2 (r2) (by first | exact ss1 | exact ss1.below (below1 _ _) (Nat.le_refl _)) (by first | exact ss2 | exact ss2.below (below1 _ _) (Nat.le_refl _))) ?_
          rintro e r3 ⟨v3, rfl, ⟨vs3, hR3⟩, bb_r3⟩
          obtain ⟨av, gv, cv, rfl, hss3⟩ := hR3.b.ss
          have b_r3 : Below w15.heap.size w15 r3 := Below.trans b_r2 (bb_r3.mono (Below.size b_r2))
          have sN := sN.bl' bb_r3
          refine ⟨_, rfl, ?_⟩
          simp only [Act.put, List.setIfInBounds_toArray, List.set_cons_zero, List.set_cons_succ]
          refine hK.out _ _ b_r3 (fun hH3 => ?_)
          clear hK K'
          refine takeD 5 (some 94) (.tuple #[.agg #[.slice av nn.length cv], .bool ok]) hH3 rfl rfl (by kernel_rfl) (by kernel_rfl) (by kernel_rfl) (fun _ _ _ h => h) (Or.inl ⟨by rfl, by intro w' hSw; go_simp⟩) ?_
          simp only [Act.put, List.setIfInBounds_toArray, List.set_cons_zero, List.set_cons_succ]
          refine takeD 6 (some 100) (.agg #[.slice av nn.length cv]) hH3 rfl rfl (by kernel_rfl) (by kernel_rfl) (by kernel_rfl) (fun _ _ _ h => h) (Or.inl ⟨by rfl, by intro w' hSw; go_simp⟩) ?_
          simp only [Act.put, List.setIfInBounds_toArray, List.set_cons_zero, List.set_cons_succ]
          refine takeD 7 (some 101) (.bool ok) hH3 rfl rfl (by kernel_rfl) (by kernel_rfl) (by kernel_rfl) (fun _ _ _ h => h) (Or.inl ⟨by rfl, by intro w' hSw; go_simp⟩) ?_
          simp only [Act.put, List.setIfInBounds_toArray, List.set_cons_zero, List.set_cons_succ]
          refine wpAnyH_ready (rs := [9]) (by kernel_rfl) (by simp) ?_
          refine AllReadyH.cons rfl (fun K' hK => ?_) AllReadyH.nil
          have sN : Slot1 r3 r1.heap.size (.slice none 0 0) := sN
          have hgN : w15.heap.size ≤ r1.heap.size := hgN
          have xc := sN.c
          have xz := sN.fz
          rw [if_pos (by rfl)]
          go_simp
          refine hK.out _ _ (b_r3.setCell (p := ⟨r1.heap.size, 0, none⟩) hgN _) (fun hHb => ?_)
          clear hK K' xc xz
          refine takeD 10 (some 16) (.bool ok) hHb rfl rfl (by kernel_rfl) (by kernel_rfl) (by kernel_rfl) (fun _ _ _ h => h) (Or.inl ⟨by rfl, by intro w' hSw; go_simp⟩) ?_
          simp only [Act.put, List.setIfInBounds_toArray, List.set_cons_zero, List.set_cons_succ]
          refine wpAnyH_done (by kernel_rfl) ?_ _
          have hNl : r1.heap.size < (r2).heap.size := by have := bb_r2.size; simp at this ⊢; omega
          obtain ⟨ay, gy, cy, ey, ssY⟩ := (hR3.far (b := r1.heap.size) (i := 0) hNl (.slice av nn.length cv)).b.ss
          obtain ⟨rfl, _, rfl⟩ := Value.slice.inj ey
          go_wp2_with fail
          go_meet
          case rel => exact ⟨_, av, gy, cv, rfl, rfl, sN.set _, ssY, b_r3.setCell (p := ⟨r1.heap.size, 0, none⟩) hgN _⟩
      · rw [if_pos (by rfl)]
        go_simp
        refine hK.out _ _ (Below.alloc ((Below.refl w15.heap.size w15).drew) (Below.size ((Below.refl w15.heap.size w15).drew)) _) (fun hHa => ?_)
        clear hK K'
        have sN : Slot1 (w15.drew.alloc (.cells #[.slice none 0 0] 25)) w15.drew.heap.size (.slice none 0 0) := Slot1.new _ _ _
        have hgN : w15.heap.size ≤ w15.drew.heap.size := Below.size ((Below.refl w15.heap.size w15).drew)
        refine wpAnyH_ready (rs := [1]) (by kernel_rfl) (by simp) ?_
        refine AllReadyH.cons rfl (fun K' hK => ?_) AllReadyH.nil
        refine step_goV (by rfl) (some 96) rfl 27 #[.tmp 95] _ rfl #[.agg #[.slice a ll.length c]] (by simp [Act.eval]) (fun _ _ => rfl) (CT1 (w15.drew.alloc (.cells #[.slice none 0 0] 25)) (Below.alloc ((Below.refl w15.heap.size w15).drew) (Below.size ((Below.refl w15.heap.size w15).drew)) _)) ?_
        rintro e r1 ⟨g1, rfl, hs1, bb_r1⟩
        have ss1 := hs1.old
        have b_r1 : Below w15.heap.size w15 r1 := Below.trans (Below.alloc ((Below.refl w15.heap.size w15).drew) (Below.size ((Below.refl w15.heap.size w15).drew)) _) (bb_r1.mono (Below.size (Below.alloc ((Below.refl w15.heap.size w15).drew) (Below.size ((Below.refl w15.heap.size w15).drew)) _)))
        have sN := sN.bl' bb_r1
        refine ⟨_, rfl, ?_⟩
        simp only [Act.put, List.setIfInBounds_toArray, List.set_cons_zero, List.set_cons_succ]
        refine hK.out _ _ b_r1 (fun hH1 => ?_)
        clear hK K'
        refine wpAnyH_ready (rs := [3]) (by kernel_rfl) (by simp) ?_
        refine AllReadyH.cons rfl (fun K' hK => ?_) AllReadyH.nil
        refine step_goV (by rfl) (some 98) rfl 27 #[.tmp 97] _ rfl #[.agg #[.slice a2 mm.length c2]] (by simp [Act.eval]) (fun _ _ => rfl) (CT2 (r1) b_r1) ?_
        rintro e r2 ⟨g2, rfl, hs2, bb_r2⟩
        have ss2 := hs2.old
        have b_r2 : Below w15.heap.size w15 r2 := Below.trans b_r1 (bb_r2.mono (Below.size b_r1))
        have ss1 := (show DoSS (r1) _ g1 0 ll from by first | exact ss1 | exact ss1.below (below1 _ _) (Nat.le_refl _)).below bb_r2 (Nat.le_refl _)
        have sN := sN.bl' bb_r2
        refine ⟨_, rfl, ?_⟩
        simp only [Act.put, List.setIfInBounds_toArray, List.set_cons_zero, List.set_cons_succ]
        refine hK.out _ _ b_r2 (fun hH2 => ?_)
        clear hK K'
        refine wpAnyH_ready (rs := [4]) (by kernel_rfl) (by simp) ?_
        refine AllReadyH.cons rfl (fun K' hK => ?_) AllReadyH.nil
        refine step_goV (by rfl) (some 99) rfl 22 #[.tmp 96, .tmp 98] _ rfl #[.agg #[.slice (some ⟨g1, 0, none⟩) ll.length ll.length], .agg #[.slice (some ⟨g2, 0, none⟩) mm.length mm.length]] (by simp [Act.eval]) (fun _ _ => rfl) (CI g1 g2 (r2) (by first | exact ss1 | exact ss1.below (below1 _ _) (Nat.le_refl _)) (by first | exact ss2 | exact ss2.below (below1 _ _) (Nat.le_refl _))) ?_
        rintro e r3 ⟨v3, rfl, ⟨vs3, hR3⟩, bb_r3⟩
        obtain ⟨av, gv, cv, rfl, hss3⟩ := hR3.b.ss
        have b_r3 : Below w15.heap.size w15 r3 := Below.trans b_r2 (bb_r3.mono (Below.size b_r2))
        have sN := sN.bl' bb_r3
        refine ⟨_, rfl, ?_⟩
        simp only [Act.put, List.setIfInBounds_toArray, List.set_cons_zero, List.set_cons_succ]
        refine hK.out _ _ b_r3 (fun hH3 => ?_)
        clear hK K'
        refine takeD 5 (some 94) (.tuple #[.agg #[.slice av nn.length cv], .bool ok]) hH3 rfl rfl (by kernel_rfl) (by kernel_rfl) (by kernel_rfl) (fun _ _ _ h => h) (Or.inl ⟨by rfl, by intro w' hSw; go_simp⟩) ?_
        simp only [Act.put, List.setIfInBounds_toArray, List.set_cons_zero, List.set_cons_succ]
        refine takeD 6 (some 100) (.agg #[.slice av nn.length cv]) hH3 rfl rfl (by kernel_rfl) (by kernel_rfl) (by kernel_rfl) (fun _ _ _ h => h) (Or.inl ⟨by rfl, by intro w' hSw; go_simp⟩) ?_
        simp only [Act.put, List.setIfInBounds_toArray, List.set_cons_zero, List.set_cons_succ]
        refine takeD 7 (some 101) (.bool ok) hH3 rfl rfl (by kernel_rfl) (by kernel_rfl) (by kernel_rfl) (fun _ _ _ h => h) (Or.inl ⟨by rfl, by intro w' hSw; go_simp⟩) ?_
        simp only [Act.put, List.setIfInBounds_toArray, List.set_cons_zero, List.set_cons_succ]
        refine wpAnyH_ready (rs := [9]) (by kernel_rfl) (by simp) ?_
        refine AllReadyH.cons rfl (fun K' hK => ?_) AllReadyH.nil
        have sN : Slot1 r3 w15.heap.size (.slice none 0 0) := sN
        have hgN : w15.heap.size ≤ w15.heap.size := hgN
        have xc := sN.c
        have xz := sN.fz
        rw [if_pos (by rfl)]
        go_simp
        refine hK.out _ _ (b_r3.setCell (p := ⟨w15.heap.size, 0, none⟩) hgN _) (fun hHb => ?_)
        clear hK K' xc xz
        refine takeD 10 (some 16) (.bool ok) hHb rfl rfl (by kernel_rfl) (by kernel_rfl) (by kernel_rfl) (fun _ _ _ h => h) (Or.inl ⟨by rfl, by intro w' hSw; go_simp⟩) ?_
        simp only [Act.put, List.setIfInBounds_toArray, List.set_cons_zero, List.set_cons_succ]
        refine wpAnyH_done (by kernel_rfl) ?_ _
        have hNl : w15.heap.size < (r2).heap.size := by have h1 := bb_r1.size; have h2 := bb_r2.size; simp at h1 h2 ⊢; omega
        obtain ⟨ay, gy, cy, ey, ssY⟩ := (hR3.far (b := w15.heap.size) (i := 0) hNl (.slice av nn.length cv)).b.ss
        obtain ⟨rfl, _, rfl⟩ := Value.slice.inj ey
        go_wp2_with fail
        go_meet
        case rel => exact ⟨_, av, gy, cv, rfl, rfl, sN.set _, ssY, b_r3.setCell (p := ⟨w15.heap.size, 0, none⟩) hgN _⟩
    case rest =>
      obtain ⟨PH, ah, gh, ch, rfl, rfl, sHH, ssHH, b15H⟩ := hcut
      generalize wc = WH at *
      have bAH := bA15.trans (b15H.mono bA15.size)
      have sGH := sG15.bl' b15H
      have hrwH := hrw15.below b15H
      have hdH := hd15.below b15H
      have sWH := sW.bl' bAH
      have ssWH := ssW.below bAH (Nat.le_refl _)
      clear b15H sG15 hrw15 hd15 bA15 sA15 tA15 D1 D2
      have x3 := sWH.c
      have x4 := sHH.c
      go_wp2_with fail
      refine (eqProg_same ah gh 0 ch av gv 0 cv nn WH hnl hnls ssHH ssWH).mono ?_
      rintro e w19 ⟨rfl, b19⟩
      have bA19 := bAH.trans (b19.mono bAH.size)
      have sG19 := sGH.bl' b19
      have hrw19 := hrwH.below b19
      have hd19 := hdH.below b19
      clear x3 x4 ssHH ssWH sHH sWH sGH hrwH hdH bAH b19
      have x2 := sG19.c
      go_wp2_with fail
      refine (HE w19 hrw19 hd19).mono ?_
      rintro e w20 ⟨rfl, b20⟩
      have bA20 := bA19.trans (b20.mono bA19.size)
      go_wp2_with fail
      go_ret
      exact ⟨rfl, bwA.trans (bA20.mono bwA.size)⟩

end Go.Proofs.Ytdpoiabohkkbcaa
