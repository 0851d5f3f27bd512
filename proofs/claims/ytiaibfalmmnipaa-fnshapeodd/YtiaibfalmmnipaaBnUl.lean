/- impl.ShapeOf. No condition. -/
import Derived.Test.YtiaibfalmmnipaaBnUf

namespace Go.Proofs.Ytiaibfalmmnipaa
open Go.RowKit

theorem FinAns.undrew {w w' : World} {B : Nat} {v v' : Value} {l : List M.D} (h : FinAns w.drew w' B v v' l) : FinAns w w' B v v' l := ⟨h.own, h.at_, (Below.refl w.heap.size w).drew.trans h.bel⟩

set_option maxHeartbeats 8000000 in
set_option maxRecDepth 100000 in
set_option linter.unusedSimpArgs false in
theorem ishapeOf_any (s h : Int) (w : World) :
    Calls Try.prog 15 #[.int .i64 s, .int .i64 h] w fun e w' => ∃ v, e = .returned (.tuple #[.agg #[v], .bool (M.shape s h).isSome]) ∧ (∃ vs, Rdg w' w.heap.size v ((M.shape s h).getD []) vs) ∧ Below w.heap.size w w' := by
  obtain ⟨i0, hi, hz0, hz1, hz2⟩ := info_parts Try.info63
  cases hok : M.shapeOk s h
  · rw [M.shape_no hok]
    have CF : ∀ W, Calls Try.prog 35 #[.int .i64 s] W fun e w' => ∃ fv, e = .returned (.tuple #[fv, .bool (decide (1 ≤ s) && decide (s ≤ 6))]) ∧ w' = W := fun W => (formOf_any s W).mono fun _ _ ⟨a, b⟩ => ⟨_, a, b⟩
    have hS := Slot1.new w (.slice none 0 0) 25
    have y0 := hS.c
    have yf := hS.fz
    have hS1 := hS.set (.slice none 0 0)
    have q1 := hS1.c
    have hb := below1 w (.cells #[.slice none 0 0] 25)
    have hb1 : Below w.heap.size w ((w.alloc (.cells #[.slice none 0 0] 25)).setCell ⟨w.heap.size, 0, none⟩ (.slice none 0 0)) := hb.setCell (Nat.le_refl _) _
    cases hs : (decide (1 ≤ s) && decide (s ≤ 6))
    · rw [hs] at CF
      go_enter Try.func15, Try.ntmps15
      go_wp2_with fail
      refine (CF _).mono ?_
      rintro e w0 ⟨fv, rfl, rfl⟩
      go_wp2_with fail
      go_returns
      exact ⟨_, rfl, ⟨[], Rdg.nil _ _⟩, by go_grown⟩
    · rw [hs] at CF
      have o7 : h < 0 ∨ 3 < h := by
        simp only [M.shapeOk, hs, Bool.true_and] at hok
        simp at hok
        omega
      rcases o7 with o7 | o7
      · go_enter Try.func15, Try.ntmps15
        go_wp2_with fail
        refine (CF _).mono ?_
        rintro e w0 ⟨fv, rfl, rfl⟩
        go_wp2_with fail
        go_returns
        exact ⟨_, rfl, ⟨[], Rdg.nil _ _⟩, by go_grown⟩
      · have o8 : ¬ h < 0 := by omega
        go_enter Try.func15, Try.ntmps15
        go_wp2_with fail
        refine (CF _).mono ?_
        rintro e w0 ⟨fv, rfl, rfl⟩
        go_wp2_with fail
        go_returns
        exact ⟨_, rfl, ⟨[], Rdg.nil _ _⟩, by go_grown⟩
  · rw [M.shape_yes hok]
    simp only [M.shapeOk, Bool.and_eq_true, decide_eq_true_eq] at hok
    obtain ⟨⟨⟨o1, o2⟩, o3⟩, o4⟩ := hok
    have o5 : ¬ h < 0 := by omega
    have o6 : ¬ 3 < h := by omega
    have hcs : s = 1 ∨ s = 2 ∨ s = 3 ∨ s = 4 ∨ s = 5 ∨ s = 6 := by omega
    obtain ⟨hl2, hl4⟩ := M.raw_two s h
    have bP := below2 w (.cells #[.slice none 0 0] 25) (.cells #[.slice none 0 0] 25)
    have hQ := (Slot1.new w (.slice none 0 0) 25).bl' (below1 _ (.cells #[.slice none 0 0] 25))
    have hP := Slot1.new (w.alloc (.cells #[.slice none 0 0] 25)) (.slice none 0 0) 25
    rw [World.size_alloc] at hP
    rcases hcs with rfl | rfl | rfl | rfl | rfl | rfl
    · have CT := thr_cross h _ _ ((w.alloc (.cells #[.slice none 0 0] 25)).alloc (.cells #[.slice none 0 0] 25)) rfl rfl
      have er : M.raw 1 h = [[⟨M.kst h, 0, 1⟩, ⟨M.kld h, 1, 0⟩], [⟨M.kst h, 1, 1⟩, ⟨M.kld h, 0, 0⟩]] := by simp [M.raw, M.sst, M.sld, M.kst_no, M.kld_no]
      rw [← er] at CT
      clear er
      generalize M.raw 1 h = ll at *
      go_enter Try.func15, Try.ntmps15
      go_wp2_with fail
      refine (formOf_any 1 _).mono ?_
      rintro e w0 ⟨rfl, rfl⟩
      go_wp2_with fail
      refine CT.mono ?_
      clear CT
      rintro e W1 ⟨vt, us, rfl, R0, b1⟩
      simp only [World.size_alloc] at R0
      obtain ⟨G, ct, rfl, hG1, hG2⟩ := R0.b.outer.form (by omega)
      have hul : us.length = ll.length := R0.b.len
      have bw1 := bP.trans (b1.mono bP.size)
      have L0 : ShLp w W1 W1 h ll us 0 (.slice none 0 0) [] := ⟨by simpa using Rdg.nil _ _, hP.bl' b1, hQ.bl' b1, bw1, Nat.le_refl _, fun _ _ _ => rfl, fun k hk => by simp [Value.ownBlock] at hk, fun i hi => by simp at hi⟩
      clear bP hP hQ b1
      go_wp2_with fail
      go_loopw [33] (fun s33 wr => ∃ (n : Nat) (v : Value) (vs : List Value), s33 = .int .i64 n ∧ n ≤ ll.length ∧ ShLp w W1 wr h ll us n v vs) (fun s33 _ => ll.length - (intOf s33).toNat)
      case atStart => exact ⟨0, _, _, rfl, Nat.zero_le _, L0⟩
      case round =>
        obtain ⟨n, v, vs, rfl, hn, HL⟩ := hrel
        clear L0
        by_cases hlt : n < ll.length
        · have hun : n < us.length := by omega
          have OU := ownsRow_keep R0.b.outer HL.keep
          have OR := ownsRow_keep (R0.b.inner n hlt hun) HL.keep
          have hc := OU.cells (g := G) rfl n us[n] (by simp [hun])
          rw [Go.WideShapes.add_plain, Nat.zero_add] at hc
          have ht := hl4 _ (List.getElem_mem hlt)
          obtain ⟨at_, ct_, eu⟩ := own_slx OR
          have hmm : ((ll.take n).map (M.fin h)).length ≤ 1048576 := by simp; omega
          have hT : (M.fin h ll[n]).length ≤ 1048576 := by have := M.fin_le h ll[n]; omega
          have F4 : Hid (∀ (w4 : World) (v4 : Value), FinAns wr w4 (w.heap.size + 2) us[n] v4 (M.fin h ll[n]) → ∃ a4 c4, v4 = .slice a4 (M.fin h ll[n]).length c4 ∧ Below wr.heap.size wr w4 ∧ Slot1 w4 (w.heap.size + 1) v ∧ Rdg w4 (w.heap.size + 2) v ((ll.take n).map (M.fin h)) vs) := by
            intro w4 v4 hF
            obtain ⟨a4, c4, e⟩ := own_slx hF.own
            exact ⟨a4, c4, e, hF.bel, HL.p.bl' hF.bel, HL.rd.below hF.bel⟩
          have F5 : Hid (∀ (w4 : World) (v4 : Value), FinAns wr w4 (w.heap.size + 2) us[n] v4 (M.fin h ll[n]) → ∀ (g5 cap5 : Nat) (w5 : World), w5.ownsRow (w.heap.size + 2) 63 1 (.slice (some ⟨g5, 0, none⟩) (((ll.take n).map (M.fin h)).length + 1) cap5) (((ll.take n).map (M.fin h)).length + 1) (vs ++ [v4]) → (w4.alloc (.cells #[v4] 63)).grownBy w5 v.ownBlock → (v.ownBlock = some g5 ∨ g5 = w4.heap.size + 1) → Slot1 w5 (w.heap.size + 1) v ∧ Below w.heap.size w w5 ∧ ∀ u, u = Value.slice (some ⟨g5, 0, none⟩) (((ll.take n).map (M.fin h)).length + 1) cap5 → ShLp w W1 (w5.setCell ⟨w.heap.size + 1, 0, none⟩ u) h ll us (n + 1) u (vs ++ [v4])) := by
            intro w4 v4 hF g5 cap5 w5 ho hg hat
            exact HL.next R0 hlt hun hF ho hg hat (by have := HL.sz; have := hF.bel.size; omega)
          have CN : Calls Try.prog 37 #[.int .i64 h, us[n]] wr.drew fun e w' => ∃ v', e = .returned v' ∧ FinAns wr w' (w.heap.size + 2) us[n] v' (M.fin h ll[n]) :=
            (finish_any h (w.heap.size + 2) us[n] ll[n] wr.drew (by have := HL.p.lt; show w.heap.size + 2 ≤ wr.heap.size; omega) (by omega) (ownsRow_below OR (Below.refl wr.heap.size wr).drew)).mono fun e w' ⟨v', he, hF⟩ => ⟨v', he, hF.undrew⟩
          have HW : Hid (us[n] = .slice at_ ll[n].length ct_) := eu
          rw [eu] at hc CN F4 F5
          clear eu OU OR
          obtain ⟨T4, hT4⟩ : ∃ T4, (M.fin h ll[n]).length = T4 := ⟨_, rfl⟩
          rw [hT4] at F4 hT
          clear hT4
          generalize M.fin h ll[n] = t4 at *
          generalize ll[n] = t at *
          have i1 : (n : Int) < ll.length := by omega
          have hRd := HL.rd
          obtain ⟨av, gv, cv, rfl, _⟩ := hRd.b.ss
          clear hRd
          generalize (ll.take n).map (M.fin h) = mm at *
          have x0 := HL.p.c
          have lP := HL.p.lt
          go_wp2_with fail
          refine wp_region_held_drew (S := fun w' => Below w.heap.size w w') (by kernel_rfl) HL.bel.drew (fun hH => ?_)
          refine takeD 0 (some 37) (.pointer (some ⟨w.heap.size + 1, 0, none⟩)) hH rfl rfl (by kernel_rfl) (by kernel_rfl) (by kernel_rfl) (fun _ _ _ h => h) (Or.inl ⟨by rfl, by intro w' hSw; go_simp⟩) ?_
          simp only [Act.put, List.setIfInBounds_toArray, List.set_cons_zero, List.set_cons_succ]
          refine takeD 2 (some 39) (.int .i64 h) hH rfl rfl (by kernel_rfl) (by kernel_rfl) (by kernel_rfl) (fun _ _ _ h => h) (Or.inl ⟨by rfl, by intro w' hSw; go_simp⟩) ?_
          simp only [Act.put, List.setIfInBounds_toArray, List.set_cons_zero, List.set_cons_succ]
          refine takeD 3 (some 40) (.slice at_ t.length ct_) hH rfl rfl (by kernel_rfl) (by kernel_rfl) (by kernel_rfl) (fun _ _ _ h => h) (Or.inl ⟨by rfl, by intro w' hSw; go_simp⟩) ?_
          simp only [Act.put, List.setIfInBounds_toArray, List.set_cons_zero, List.set_cons_succ]
          refine wpAnyH_ready (rs := [1, 4]) (by kernel_rfl) (by simp) ?_
          refine AllReadyH.cons rfl (fun K' hK => ?_) (AllReadyH.cons rfl (fun K' hK => ?_) AllReadyH.nil)
          · have xx := x0
            rw [if_pos (by rfl)]
            go_simp
            refine hK.out _ _ hH (fun _ => ?_)
            clear hK K' xx
            refine wpAnyH_ready (rs := [4]) (by kernel_rfl) (by simp) ?_
            refine AllReadyH.cons rfl (fun K' hK => ?_) AllReadyH.nil
            refine step_goV (by rfl) (some 41) rfl 37 #[.tmp 39, .tmp 40] _ rfl #[.int .i64 h, .slice at_ t.length ct_] (by simp [Act.eval]) (fun _ _ => rfl) CN ?_
            rintro e w4 ⟨v4, rfl, hF4⟩
            obtain ⟨a4, c4, rfl, b4, hS4, hR4⟩ := F4.out w4 v4 hF4
            refine ⟨_, rfl, ?_⟩
            simp only [Act.put, List.setIfInBounds_toArray, List.set_cons_zero, List.set_cons_succ]
            refine hK.out _ _ (HL.bel.trans (b4.mono HL.bel.size)) (fun hH4 => ?_)
            clear hK K'
            have hS4a := hS4.bl' (below1 w4 (.cells #[.slice a4 T4 c4] 63))
            have S4a : Below w.heap.size w (w4.alloc (.cells #[.slice a4 T4 c4] 63)) := hH4.alloc hH4.size _
            refine wpAnyH_ready (rs := [5]) (by kernel_rfl) (by simp) ?_
            refine AllReadyH.cons rfl (fun K' hK => ?_) AllReadyH.nil
            rw [if_pos (by rfl)]
            go_simp
            refine hK.out _ _ S4a (fun _ => ?_)
            clear hK K'
            refine wpAnyH_ready (rs := [6]) (by kernel_rfl) (by simp) ?_
            refine AllReadyH.cons rfl (fun K' hK => ?_) AllReadyH.nil
            refine step_append_lies _ (by rfl) (.tmp 38) (.tmp 42) 23 (by rfl) (w.heap.size + 2) 63 i0 _ 1 24 Try.underlying23 hi hz0 hz1 hz2 rfl (by decide) (.slice av mm.length cv) mm.length vs (by rfl) ((hR4.b.outer).alloc _) ⟨w4.heap.size, 0, none⟩ 1 1 [.slice a4 T4 c4] (by rfl) (by rfl) (World.news_of_block (cs := #[.slice a4 T4 c4]) (t := 63) (fr := (0, 0)) (heap_alloc_new w4 _)) (by simp [Value.oneCell']) (by omega) (by unfold maxLen; omega) (by omega) (by have := b4.size; simp; omega) (w4.heap.size + 1) (by simp) ?_
            intro g5 cap5 w5 hown5 hg5 hat5 hlt5
            obtain ⟨hS5, b5, hL5⟩ := F5.out w4 _ hF4 g5 cap5 w5 hown5 hg5 hat5
            simp only [Act.put, List.setIfInBounds_toArray, List.set_cons_zero, List.set_cons_succ]
            refine hK.out _ _ b5 (fun hH5 => ?_)
            clear hK K'
            refine takeD 7 (some 44) (.pointer (some ⟨w.heap.size + 1, 0, none⟩)) hH5 rfl rfl (by kernel_rfl) (by kernel_rfl) (by kernel_rfl) (fun _ _ _ h => h) (Or.inl ⟨by rfl, by intro w' hSw; go_simp⟩) ?_
            simp only [Act.put, List.setIfInBounds_toArray, List.set_cons_zero, List.set_cons_succ]
            refine wpAnyH_ready (rs := [8]) (by kernel_rfl) (by simp) ?_
            refine AllReadyH.cons rfl (fun K' hK => ?_) AllReadyH.nil
            have xc := hS5.c
            have xz := hS5.fz
            rw [if_pos (by rfl)]
            go_simp
            refine hK.out _ _ (b5.setCell (by show w.heap.size ≤ w.heap.size + 1; omega) _) (fun _ => ?_)
            clear hK K'
            refine wpAnyH_done (by kernel_rfl) ?_ _
            clear xc xz
            go_wp2_with fail
            exact ⟨⟨n + 1, _, _, by go_num, by omega, hL5 _ rfl⟩, by simp [intOf]; omega⟩
          · refine step_goV (by rfl) (some 41) rfl 37 #[.tmp 39, .tmp 40] _ rfl #[.int .i64 h, .slice at_ t.length ct_] (by simp [Act.eval]) (fun _ _ => rfl) CN ?_
            rintro e w4 ⟨v4, rfl, hF4⟩
            obtain ⟨a4, c4, rfl, b4, hS4, hR4⟩ := F4.out w4 v4 hF4
            refine ⟨_, rfl, ?_⟩
            simp only [Act.put, List.setIfInBounds_toArray, List.set_cons_zero, List.set_cons_succ]
            refine hK.out _ _ (HL.bel.trans (b4.mono HL.bel.size)) (fun hH4 => ?_)
            clear hK K'
            have hS4a := hS4.bl' (below1 w4 (.cells #[.slice a4 T4 c4] 63))
            have S4a : Below w.heap.size w (w4.alloc (.cells #[.slice a4 T4 c4] 63)) := hH4.alloc hH4.size _
            refine wpAnyH_ready (rs := [1, 5]) (by kernel_rfl) (by simp) ?_
            refine AllReadyH.cons rfl (fun K' hK => ?_) (AllReadyH.cons rfl (fun K' hK => ?_) AllReadyH.nil)
            · have xx := hS4.c
              rw [if_pos (by rfl)]
              go_simp
              refine hK.out _ _ hH4 (fun _ => ?_)
              clear hK K' xx
              refine wpAnyH_ready (rs := [5]) (by kernel_rfl) (by simp) ?_
              refine AllReadyH.cons rfl (fun K' hK => ?_) AllReadyH.nil
              rw [if_pos (by rfl)]
              go_simp
              refine hK.out _ _ S4a (fun _ => ?_)
              clear hK K'
              refine wpAnyH_ready (rs := [6]) (by kernel_rfl) (by simp) ?_
              refine AllReadyH.cons rfl (fun K' hK => ?_) AllReadyH.nil
              refine step_append_lies _ (by rfl) (.tmp 38) (.tmp 42) 23 (by rfl) (w.heap.size + 2) 63 i0 _ 1 24 Try.underlying23 hi hz0 hz1 hz2 rfl (by decide) (.slice av mm.length cv) mm.length vs (by rfl) ((hR4.b.outer).alloc _) ⟨w4.heap.size, 0, none⟩ 1 1 [.slice a4 T4 c4] (by rfl) (by rfl) (World.news_of_block (cs := #[.slice a4 T4 c4]) (t := 63) (fr := (0, 0)) (heap_alloc_new w4 _)) (by simp [Value.oneCell']) (by omega) (by unfold maxLen; omega) (by omega) (by have := b4.size; simp; omega) (w4.heap.size + 1) (by simp) ?_
              intro g5 cap5 w5 hown5 hg5 hat5 hlt5
              obtain ⟨hS5, b5, hL5⟩ := F5.out w4 _ hF4 g5 cap5 w5 hown5 hg5 hat5
              simp only [Act.put, List.setIfInBounds_toArray, List.set_cons_zero, List.set_cons_succ]
              refine hK.out _ _ b5 (fun hH5 => ?_)
              clear hK K'
              refine takeD 7 (some 44) (.pointer (some ⟨w.heap.size + 1, 0, none⟩)) hH5 rfl rfl (by kernel_rfl) (by kernel_rfl) (by kernel_rfl) (fun _ _ _ h => h) (Or.inl ⟨by rfl, by intro w' hSw; go_simp⟩) ?_
              simp only [Act.put, List.setIfInBounds_toArray, List.set_cons_zero, List.set_cons_succ]
              refine wpAnyH_ready (rs := [8]) (by kernel_rfl) (by simp) ?_
              refine AllReadyH.cons rfl (fun K' hK => ?_) AllReadyH.nil
              have xc := hS5.c
              have xz := hS5.fz
              rw [if_pos (by rfl)]
              go_simp
              refine hK.out _ _ (b5.setCell (by show w.heap.size ≤ w.heap.size + 1; omega) _) (fun _ => ?_)
              clear hK K'
              refine wpAnyH_done (by kernel_rfl) ?_ _
              clear xc xz
              go_wp2_with fail
              exact ⟨⟨n + 1, _, _, by go_num, by omega, hL5 _ rfl⟩, by simp [intOf]; omega⟩
            · rw [if_pos (by rfl)]
              go_simp
              refine hK.out _ _ S4a (fun _ => ?_)
              clear hK K'
              refine wpAnyH_ready (rs := [1]) (by kernel_rfl) (by simp) ?_
              refine AllReadyH.cons rfl (fun K' hK => ?_) AllReadyH.nil
              have xx := hS4a.c
              rw [if_pos (by rfl)]
              go_simp
              refine hK.out _ _ S4a (fun _ => ?_)
              clear hK K' xx
              refine wpAnyH_ready (rs := [6]) (by kernel_rfl) (by simp) ?_
              refine AllReadyH.cons rfl (fun K' hK => ?_) AllReadyH.nil
              refine step_append_lies _ (by rfl) (.tmp 38) (.tmp 42) 23 (by rfl) (w.heap.size + 2) 63 i0 _ 1 24 Try.underlying23 hi hz0 hz1 hz2 rfl (by decide) (.slice av mm.length cv) mm.length vs (by rfl) ((hR4.b.outer).alloc _) ⟨w4.heap.size, 0, none⟩ 1 1 [.slice a4 T4 c4] (by rfl) (by rfl) (World.news_of_block (cs := #[.slice a4 T4 c4]) (t := 63) (fr := (0, 0)) (heap_alloc_new w4 _)) (by simp [Value.oneCell']) (by omega) (by unfold maxLen; omega) (by omega) (by have := b4.size; simp; omega) (w4.heap.size + 1) (by simp) ?_
              intro g5 cap5 w5 hown5 hg5 hat5 hlt5
              obtain ⟨hS5, b5, hL5⟩ := F5.out w4 _ hF4 g5 cap5 w5 hown5 hg5 hat5
              simp only [Act.put, List.setIfInBounds_toArray, List.set_cons_zero, List.set_cons_succ]
              refine hK.out _ _ b5 (fun hH5 => ?_)
              clear hK K'
              refine takeD 7 (some 44) (.pointer (some ⟨w.heap.size + 1, 0, none⟩)) hH5 rfl rfl (by kernel_rfl) (by kernel_rfl) (by kernel_rfl) (fun _ _ _ h => h) (Or.inl ⟨by rfl, by intro w' hSw; go_simp⟩) ?_
              simp only [Act.put, List.setIfInBounds_toArray, List.set_cons_zero, List.set_cons_succ]
              refine wpAnyH_ready (rs := [8]) (by kernel_rfl) (by simp) ?_
              refine AllReadyH.cons rfl (fun K' hK => ?_) AllReadyH.nil
              have xc := hS5.c
              have xz := hS5.fz
              rw [if_pos (by rfl)]
              go_simp
              refine hK.out _ _ (b5.setCell (by show w.heap.size ≤ w.heap.size + 1; omega) _) (fun _ => ?_)
              clear hK K'
              refine wpAnyH_done (by kernel_rfl) ?_ _
              clear xc xz
              go_wp2_with fail
              exact ⟨⟨n + 1, _, _, by go_num, by omega, hL5 _ rfl⟩, by simp [intOf]; omega⟩
        · have htk : ll.take n = ll := List.take_of_length_le (by omega)
          obtain ⟨hR, hP, hQ, hbel, _, _, _, _⟩ := HL
          rw [htk] at hR
          obtain ⟨rr, hrr⟩ : ∃ rr, ll.map (M.fin h) = rr := ⟨_, rfl⟩
          rw [hrr] at hR
          have HRR : Hid (ll.map (M.fin h) = rr) := hrr
          clear hrr
          obtain ⟨av, gv, cv, rfl, _⟩ := hR.b.ss
          have hkn' : ¬ (n : Int) < ll.length := by omega
          have p0 := hP.c
          have pf := hP.fz
          have q0 := hQ.c
          have qf := hQ.fz
          have lP := hP.lt
          have lQ := hQ.lt
          have hne : w.heap.size ≠ w.heap.size + 1 := by omega
          go_wp2_with fail
          have q1 := (hQ.set (.slice av rr.length cv)).c
          exact bodyPost_ret (v := .tuple #[.agg #[.slice av rr.length cv], .bool true]) (by simp [results, Try.results15, go_sem, q1]) rfl ⟨_, rfl, ⟨vs, by rw [HRR.out]; exact (hR.far (by omega) _).mono (by omega)⟩, hbel.setCell (Nat.le_refl _) _⟩
    · have CT := thr_pass h _ _ ((w.alloc (.cells #[.slice none 0 0] 25)).alloc (.cells #[.slice none 0 0] 25)) rfl rfl
      have er : M.raw 2 h = [[⟨1, 0, 1⟩, ⟨M.kst h, 1, 1⟩], [⟨M.kld h, 1, 0⟩, ⟨2, 0, 0⟩]] := by simp [M.raw, M.sst, M.sld, M.kst_no, M.kld_no]
      rw [← er] at CT
      clear er
      generalize M.raw 2 h = ll at *
      go_enter Try.func15, Try.ntmps15
      go_wp2_with fail
      refine (formOf_any 2 _).mono ?_
      rintro e w0 ⟨rfl, rfl⟩
      go_wp2_with fail
      refine CT.mono ?_
      clear CT
      rintro e W1 ⟨vt, us, rfl, R0, b1⟩
      simp only [World.size_alloc] at R0
      obtain ⟨G, ct, rfl, hG1, hG2⟩ := R0.b.outer.form (by omega)
      have hul : us.length = ll.length := R0.b.len
      have bw1 := bP.trans (b1.mono bP.size)
      have L0 : ShLp w W1 W1 h ll us 0 (.slice none 0 0) [] := ⟨by simpa using Rdg.nil _ _, hP.bl' b1, hQ.bl' b1, bw1, Nat.le_refl _, fun _ _ _ => rfl, fun k hk => by simp [Value.ownBlock] at hk, fun i hi => by simp at hi⟩
      clear bP hP hQ b1
      go_wp2_with fail
      go_loopw [33] (fun s33 wr => ∃ (n : Nat) (v : Value) (vs : List Value), s33 = .int .i64 n ∧ n ≤ ll.length ∧ ShLp w W1 wr h ll us n v vs) (fun s33 _ => ll.length - (intOf s33).toNat)
      case atStart => exact ⟨0, _, _, rfl, Nat.zero_le _, L0⟩
      case round =>
        obtain ⟨n, v, vs, rfl, hn, HL⟩ := hrel
        clear L0
        by_cases hlt : n < ll.length
        · have hun : n < us.length := by omega
          have OU := ownsRow_keep R0.b.outer HL.keep
          have OR := ownsRow_keep (R0.b.inner n hlt hun) HL.keep
          have hc := OU.cells (g := G) rfl n us[n] (by simp [hun])
          rw [Go.WideShapes.add_plain, Nat.zero_add] at hc
          have ht := hl4 _ (List.getElem_mem hlt)
          obtain ⟨at_, ct_, eu⟩ := own_slx OR
          have hmm : ((ll.take n).map (M.fin h)).length ≤ 1048576 := by simp; omega
          have hT : (M.fin h ll[n]).length ≤ 1048576 := by have := M.fin_le h ll[n]; omega
          have F4 : Hid (∀ (w4 : World) (v4 : Value), FinAns wr w4 (w.heap.size + 2) us[n] v4 (M.fin h ll[n]) → ∃ a4 c4, v4 = .slice a4 (M.fin h ll[n]).length c4 ∧ Below wr.heap.size wr w4 ∧ Slot1 w4 (w.heap.size + 1) v ∧ Rdg w4 (w.heap.size + 2) v ((ll.take n).map (M.fin h)) vs) := by
            intro w4 v4 hF
            obtain ⟨a4, c4, e⟩ := own_slx hF.own
            exact ⟨a4, c4, e, hF.bel, HL.p.bl' hF.bel, HL.rd.below hF.bel⟩
          have F5 : Hid (∀ (w4 : World) (v4 : Value), FinAns wr w4 (w.heap.size + 2) us[n] v4 (M.fin h ll[n]) → ∀ (g5 cap5 : Nat) (w5 : World), w5.ownsRow (w.heap.size + 2) 63 1 (.slice (some ⟨g5, 0, none⟩) (((ll.take n).map (M.fin h)).length + 1) cap5) (((ll.take n).map (M.fin h)).length + 1) (vs ++ [v4]) → (w4.alloc (.cells #[v4] 63)).grownBy w5 v.ownBlock → (v.ownBlock = some g5 ∨ g5 = w4.heap.size + 1) → Slot1 w5 (w.heap.size + 1) v ∧ Below w.heap.size w w5 ∧ ∀ u, u = Value.slice (some ⟨g5, 0, none⟩) (((ll.take n).map (M.fin h)).length + 1) cap5 → ShLp w W1 (w5.setCell ⟨w.heap.size + 1, 0, none⟩ u) h ll us (n + 1) u (vs ++ [v4])) := by
            intro w4 v4 hF g5 cap5 w5 ho hg hat
            exact HL.next R0 hlt hun hF ho hg hat (by have := HL.sz; have := hF.bel.size; omega)
          have CN : Calls Try.prog 37 #[.int .i64 h, us[n]] wr.drew fun e w' => ∃ v', e = .returned v' ∧ FinAns wr w' (w.heap.size + 2) us[n] v' (M.fin h ll[n]) :=
            (finish_any h (w.heap.size + 2) us[n] ll[n] wr.drew (by have := HL.p.lt; show w.heap.size + 2 ≤ wr.heap.size; omega) (by omega) (ownsRow_below OR (Below.refl wr.heap.size wr).drew)).mono fun e w' ⟨v', he, hF⟩ => ⟨v', he, hF.undrew⟩
          have HW : Hid (us[n] = .slice at_ ll[n].length ct_) := eu
          rw [eu] at hc CN F4 F5
          clear eu OU OR
          obtain ⟨T4, hT4⟩ : ∃ T4, (M.fin h ll[n]).length = T4 := ⟨_, rfl⟩
          rw [hT4] at F4 hT
          clear hT4
          generalize M.fin h ll[n] = t4 at *
          generalize ll[n] = t at *
          have i1 : (n : Int) < ll.length := by omega
          have hRd := HL.rd
          obtain ⟨av, gv, cv, rfl, _⟩ := hRd.b.ss
          clear hRd
          generalize (ll.take n).map (M.fin h) = mm at *
          have x0 := HL.p.c
          have lP := HL.p.lt
          go_wp2_with fail
          refine wp_region_held_drew (S := fun w' => Below w.heap.size w w') (by kernel_rfl) HL.bel.drew (fun hH => ?_)
          refine takeD 0 (some 37) (.pointer (some ⟨w.heap.size + 1, 0, none⟩)) hH rfl rfl (by kernel_rfl) (by kernel_rfl) (by kernel_rfl) (fun _ _ _ h => h) (Or.inl ⟨by rfl, by intro w' hSw; go_simp⟩) ?_
          simp only [Act.put, List.setIfInBounds_toArray, List.set_cons_zero, List.set_cons_succ]
          refine takeD 2 (some 39) (.int .i64 h) hH rfl rfl (by kernel_rfl) (by kernel_rfl) (by kernel_rfl) (fun _ _ _ h => h) (Or.inl ⟨by rfl, by intro w' hSw; go_simp⟩) ?_
          simp only [Act.put, List.setIfInBounds_toArray, List.set_cons_zero, List.set_cons_succ]
          refine takeD 3 (some 40) (.slice at_ t.length ct_) hH rfl rfl (by kernel_rfl) (by kernel_rfl) (by kernel_rfl) (fun _ _ _ h => h) (Or.inl ⟨by rfl, by intro w' hSw; go_simp⟩) ?_
          simp only [Act.put, List.setIfInBounds_toArray, List.set_cons_zero, List.set_cons_succ]
          refine wpAnyH_ready (rs := [1, 4]) (by kernel_rfl) (by simp) ?_
          refine AllReadyH.cons rfl (fun K' hK => ?_) (AllReadyH.cons rfl (fun K' hK => ?_) AllReadyH.nil)
          · have xx := x0
            rw [if_pos (by rfl)]
            go_simp
            refine hK.out _ _ hH (fun _ => ?_)
            clear hK K' xx
            refine wpAnyH_ready (rs := [4]) (by kernel_rfl) (by simp) ?_
            refine AllReadyH.cons rfl (fun K' hK => ?_) AllReadyH.nil
            refine step_goV (by rfl) (some 41) rfl 37 #[.tmp 39, .tmp 40] _ rfl #[.int .i64 h, .slice at_ t.length ct_] (by simp [Act.eval]) (fun _ _ => rfl) CN ?_
            rintro e w4 ⟨v4, rfl, hF4⟩
            obtain ⟨a4, c4, rfl, b4, hS4, hR4⟩ := F4.out w4 v4 hF4
            refine ⟨_, rfl, ?_⟩
            simp only [Act.put, List.setIfInBounds_toArray, List.set_cons_zero, List.set_cons_succ]
            refine hK.out _ _ (HL.bel.trans (b4.mono HL.bel.size)) (fun hH4 => ?_)
            clear hK K'
            have hS4a := hS4.bl' (below1 w4 (.cells #[.slice a4 T4 c4] 63))
            have S4a : Below w.heap.size w (w4.alloc (.cells #[.slice a4 T4 c4] 63)) := hH4.alloc hH4.size _
            refine wpAnyH_ready (rs := [5]) (by kernel_rfl) (by simp) ?_
            refine AllReadyH.cons rfl (fun K' hK => ?_) AllReadyH.nil
            rw [if_pos (by rfl)]
            go_simp
            refine hK.out _ _ S4a (fun _ => ?_)
            clear hK K'
            refine wpAnyH_ready (rs := [6]) (by kernel_rfl) (by simp) ?_
            refine AllReadyH.cons rfl (fun K' hK => ?_) AllReadyH.nil
            refine step_append_lies _ (by rfl) (.tmp 38) (.tmp 42) 23 (by rfl) (w.heap.size + 2) 63 i0 _ 1 24 Try.underlying23 hi hz0 hz1 hz2 rfl (by decide) (.slice av mm.length cv) mm.length vs (by rfl) ((hR4.b.outer).alloc _) ⟨w4.heap.size, 0, none⟩ 1 1 [.slice a4 T4 c4] (by rfl) (by rfl) (World.news_of_block (cs := #[.slice a4 T4 c4]) (t := 63) (fr := (0, 0)) (heap_alloc_new w4 _)) (by simp [Value.oneCell']) (by omega) (by unfold maxLen; omega) (by omega) (by have := b4.size; simp; omega) (w4.heap.size + 1) (by simp) ?_
            intro g5 cap5 w5 hown5 hg5 hat5 hlt5
            obtain ⟨hS5, b5, hL5⟩ := F5.out w4 _ hF4 g5 cap5 w5 hown5 hg5 hat5
            simp only [Act.put, List.setIfInBounds_toArray, List.set_cons_zero, List.set_cons_succ]
            refine hK.out _ _ b5 (fun hH5 => ?_)
            clear hK K'
            refine takeD 7 (some 44) (.pointer (some ⟨w.heap.size + 1, 0, none⟩)) hH5 rfl rfl (by kernel_rfl) (by kernel_rfl) (by kernel_rfl) (fun _ _ _ h => h) (Or.inl ⟨by rfl, by intro w' hSw; go_simp⟩) ?_
            simp only [Act.put, List.setIfInBounds_toArray, List.set_cons_zero, List.set_cons_succ]
            refine wpAnyH_ready (rs := [8]) (by kernel_rfl) (by simp) ?_
            refine AllReadyH.cons rfl (fun K' hK => ?_) AllReadyH.nil
            have xc := hS5.c
            have xz := hS5.fz
            rw [if_pos (by rfl)]
            go_simp
            refine hK.out _ _ (b5.setCell (by show w.heap.size ≤ w.heap.size + 1; omega) _) (fun _ => ?_)
            clear hK K'
            refine wpAnyH_done (by kernel_rfl) ?_ _
            clear xc xz
            go_wp2_with fail
            exact ⟨⟨n + 1, _, _, by go_num, by omega, hL5 _ rfl⟩, by simp [intOf]; omega⟩
          · refine step_goV (by rfl) (some 41) rfl 37 #[.tmp 39, .tmp 40] _ rfl #[.int .i64 h, .slice at_ t.length ct_] (by simp [Act.eval]) (fun _ _ => rfl) CN ?_
            rintro e w4 ⟨v4, rfl, hF4⟩
            obtain ⟨a4, c4, rfl, b4, hS4, hR4⟩ := F4.out w4 v4 hF4
            refine ⟨_, rfl, ?_⟩
            simp only [Act.put, List.setIfInBounds_toArray, List.set_cons_zero, List.set_cons_succ]
            refine hK.out _ _ (HL.bel.trans (b4.mono HL.bel.size)) (fun hH4 => ?_)
            clear hK K'
            have hS4a := hS4.bl' (below1 w4 (.cells #[.slice a4 T4 c4] 63))
            have S4a : Below w.heap.size w (w4.alloc (.cells #[.slice a4 T4 c4] 63)) := hH4.alloc hH4.size _
            refine wpAnyH_ready (rs := [1, 5]) (by kernel_rfl) (by simp) ?_
            refine AllReadyH.cons rfl (fun K' hK => ?_) (AllReadyH.cons rfl (fun K' hK => ?_) AllReadyH.nil)
            · have xx := hS4.c
              rw [if_pos (by rfl)]
              go_simp
              refine hK.out _ _ hH4 (fun _ => ?_)
              clear hK K' xx
              refine wpAnyH_ready (rs := [5]) (by kernel_rfl) (by simp) ?_
              refine AllReadyH.cons rfl (fun K' hK => ?_) AllReadyH.nil
              rw [if_pos (by rfl)]
              go_simp
              refine hK.out _ _ S4a (fun _ => ?_)
              clear hK K'
              refine wpAnyH_ready (rs := [6]) (by kernel_rfl) (by simp) ?_
              refine AllReadyH.cons rfl (fun K' hK => ?_) AllReadyH.nil
              refine step_append_lies _ (by rfl) (.tmp 38) (.tmp 42) 23 (by rfl) (w.heap.size + 2) 63 i0 _ 1 24 Try.underlying23 hi hz0 hz1 hz2 rfl (by decide) (.slice av mm.length cv) mm.length vs (by rfl) ((hR4.b.outer).alloc _) ⟨w4.heap.size, 0, none⟩ 1 1 [.slice a4 T4 c4] (by rfl) (by rfl) (World.news_of_block (cs := #[.slice a4 T4 c4]) (t := 63) (fr := (0, 0)) (heap_alloc_new w4 _)) (by simp [Value.oneCell']) (by omega) (by unfold maxLen; omega) (by omega) (by have := b4.size; simp; omega) (w4.heap.size + 1) (by simp) ?_
              intro g5 cap5 w5 hown5 hg5 hat5 hlt5
              obtain ⟨hS5, b5, hL5⟩ := F5.out w4 _ hF4 g5 cap5 w5 hown5 hg5 hat5
              simp only [Act.put, List.setIfInBounds_toArray, List.set_cons_zero, List.set_cons_succ]
              refine hK.out _ _ b5 (fun hH5 => ?_)
              clear hK K'
              refine takeD 7 (some 44) (.pointer (some ⟨w.heap.size + 1, 0, none⟩)) hH5 rfl rfl (by kernel_rfl) (by kernel_rfl) (by kernel_rfl) (fun _ _ _ h => h) (Or.inl ⟨by rfl, by intro w' hSw; go_simp⟩) ?_
              simp only [Act.put, List.setIfInBounds_toArray, List.set_cons_zero, List.set_cons_succ]
              refine wpAnyH_ready (rs := [8]) (by kernel_rfl) (by simp) ?_
              refine AllReadyH.cons rfl (fun K' hK => ?_) AllReadyH.nil
              have xc := hS5.c
              have xz := hS5.fz
              rw [if_pos (by rfl)]
              go_simp
              refine hK.out _ _ (b5.setCell (by show w.heap.size ≤ w.heap.size + 1; omega) _) (fun _ => ?_)
              clear hK K'
              refine wpAnyH_done (by kernel_rfl) ?_ _
              clear xc xz
              go_wp2_with fail
              exact ⟨⟨n + 1, _, _, by go_num, by omega, hL5 _ rfl⟩, by simp [intOf]; omega⟩
            · rw [if_pos (by rfl)]
              go_simp
              refine hK.out _ _ S4a (fun _ => ?_)
              clear hK K'
              refine wpAnyH_ready (rs := [1]) (by kernel_rfl) (by simp) ?_
              refine AllReadyH.cons rfl (fun K' hK => ?_) AllReadyH.nil
              have xx := hS4a.c
              rw [if_pos (by rfl)]
              go_simp
              refine hK.out _ _ S4a (fun _ => ?_)
              clear hK K' xx
              refine wpAnyH_ready (rs := [6]) (by kernel_rfl) (by simp) ?_
              refine AllReadyH.cons rfl (fun K' hK => ?_) AllReadyH.nil
              refine step_append_lies _ (by rfl) (.tmp 38) (.tmp 42) 23 (by rfl) (w.heap.size + 2) 63 i0 _ 1 24 Try.underlying23 hi hz0 hz1 hz2 rfl (by decide) (.slice av mm.length cv) mm.length vs (by rfl) ((hR4.b.outer).alloc _) ⟨w4.heap.size, 0, none⟩ 1 1 [.slice a4 T4 c4] (by rfl) (by rfl) (World.news_of_block (cs := #[.slice a4 T4 c4]) (t := 63) (fr := (0, 0)) (heap_alloc_new w4 _)) (by simp [Value.oneCell']) (by omega) (by unfold maxLen; omega) (by omega) (by have := b4.size; simp; omega) (w4.heap.size + 1) (by simp) ?_
              intro g5 cap5 w5 hown5 hg5 hat5 hlt5
              obtain ⟨hS5, b5, hL5⟩ := F5.out w4 _ hF4 g5 cap5 w5 hown5 hg5 hat5
              simp only [Act.put, List.setIfInBounds_toArray, List.set_cons_zero, List.set_cons_succ]
              refine hK.out _ _ b5 (fun hH5 => ?_)
              clear hK K'
              refine takeD 7 (some 44) (.pointer (some ⟨w.heap.size + 1, 0, none⟩)) hH5 rfl rfl (by kernel_rfl) (by kernel_rfl) (by kernel_rfl) (fun _ _ _ h => h) (Or.inl ⟨by rfl, by intro w' hSw; go_simp⟩) ?_
              simp only [Act.put, List.setIfInBounds_toArray, List.set_cons_zero, List.set_cons_succ]
              refine wpAnyH_ready (rs := [8]) (by kernel_rfl) (by simp) ?_
              refine AllReadyH.cons rfl (fun K' hK => ?_) AllReadyH.nil
              have xc := hS5.c
              have xz := hS5.fz
              rw [if_pos (by rfl)]
              go_simp
              refine hK.out _ _ (b5.setCell (by show w.heap.size ≤ w.heap.size + 1; omega) _) (fun _ => ?_)
              clear hK K'
              refine wpAnyH_done (by kernel_rfl) ?_ _
              clear xc xz
              go_wp2_with fail
              exact ⟨⟨n + 1, _, _, by go_num, by omega, hL5 _ rfl⟩, by simp [intOf]; omega⟩
        · have htk : ll.take n = ll := List.take_of_length_le (by omega)
          obtain ⟨hR, hP, hQ, hbel, _, _, _, _⟩ := HL
          rw [htk] at hR
          obtain ⟨rr, hrr⟩ : ∃ rr, ll.map (M.fin h) = rr := ⟨_, rfl⟩
          rw [hrr] at hR
          have HRR : Hid (ll.map (M.fin h) = rr) := hrr
          clear hrr
          obtain ⟨av, gv, cv, rfl, _⟩ := hR.b.ss
          have hkn' : ¬ (n : Int) < ll.length := by omega
          have p0 := hP.c
          have pf := hP.fz
          have q0 := hQ.c
          have qf := hQ.fz
          have lP := hP.lt
          have lQ := hQ.lt
          have hne : w.heap.size ≠ w.heap.size + 1 := by omega
          go_wp2_with fail
          have q1 := (hQ.set (.slice av rr.length cv)).c
          exact bodyPost_ret (v := .tuple #[.agg #[.slice av rr.length cv], .bool true]) (by simp [results, Try.results15, go_sem, q1]) rfl ⟨_, rfl, ⟨vs, by rw [HRR.out]; exact (hR.far (by omega) _).mono (by omega)⟩, hbel.setCell (Nat.le_refl _) _⟩
    · have CT := thr_round h _ _ ((w.alloc (.cells #[.slice none 0 0] 25)).alloc (.cells #[.slice none 0 0] 25)) rfl rfl
      have er : M.raw 3 h = [[⟨M.kld h, 0, 0⟩, ⟨M.kst h, 1, 1⟩], [⟨M.kld h, 1, 0⟩, ⟨M.kst h, 0, 1⟩]] := by simp [M.raw, M.sst, M.sld, M.kst_no, M.kld_no]
      rw [← er] at CT
      clear er
      generalize M.raw 3 h = ll at *
      go_enter Try.func15, Try.ntmps15
      go_wp2_with fail
      refine (formOf_any 3 _).mono ?_
      rintro e w0 ⟨rfl, rfl⟩
      go_wp2_with fail
      refine CT.mono ?_
      clear CT
      rintro e W1 ⟨vt, us, rfl, R0, b1⟩
      simp only [World.size_alloc] at R0
      obtain ⟨G, ct, rfl, hG1, hG2⟩ := R0.b.outer.form (by omega)
      have hul : us.length = ll.length := R0.b.len
      have bw1 := bP.trans (b1.mono bP.size)
      have L0 : ShLp w W1 W1 h ll us 0 (.slice none 0 0) [] := ⟨by simpa using Rdg.nil _ _, hP.bl' b1, hQ.bl' b1, bw1, Nat.le_refl _, fun _ _ _ => rfl, fun k hk => by simp [Value.ownBlock] at hk, fun i hi => by simp at hi⟩
      clear bP hP hQ b1
      go_wp2_with fail
      go_loopw [33] (fun s33 wr => ∃ (n : Nat) (v : Value) (vs : List Value), s33 = .int .i64 n ∧ n ≤ ll.length ∧ ShLp w W1 wr h ll us n v vs) (fun s33 _ => ll.length - (intOf s33).toNat)
      case atStart => exact ⟨0, _, _, rfl, Nat.zero_le _, L0⟩
      case round =>
        obtain ⟨n, v, vs, rfl, hn, HL⟩ := hrel
        clear L0
        by_cases hlt : n < ll.length
        · have hun : n < us.length := by omega
          have OU := ownsRow_keep R0.b.outer HL.keep
          have OR := ownsRow_keep (R0.b.inner n hlt hun) HL.keep
          have hc := OU.cells (g := G) rfl n us[n] (by simp [hun])
          rw [Go.WideShapes.add_plain, Nat.zero_add] at hc
          have ht := hl4 _ (List.getElem_mem hlt)
          obtain ⟨at_, ct_, eu⟩ := own_slx OR
          have hmm : ((ll.take n).map (M.fin h)).length ≤ 1048576 := by simp; omega
          have hT : (M.fin h ll[n]).length ≤ 1048576 := by have := M.fin_le h ll[n]; omega
          have F4 : Hid (∀ (w4 : World) (v4 : Value), FinAns wr w4 (w.heap.size + 2) us[n] v4 (M.fin h ll[n]) → ∃ a4 c4, v4 = .slice a4 (M.fin h ll[n]).length c4 ∧ Below wr.heap.size wr w4 ∧ Slot1 w4 (w.heap.size + 1) v ∧ Rdg w4 (w.heap.size + 2) v ((ll.take n).map (M.fin h)) vs) := by
            intro w4 v4 hF
            obtain ⟨a4, c4, e⟩ := own_slx hF.own
            exact ⟨a4, c4, e, hF.bel, HL.p.bl' hF.bel, HL.rd.below hF.bel⟩
          have F5 : Hid (∀ (w4 : World) (v4 : Value), FinAns wr w4 (w.heap.size + 2) us[n] v4 (M.fin h ll[n]) → ∀ (g5 cap5 : Nat) (w5 : World), w5.ownsRow (w.heap.size + 2) 63 1 (.slice (some ⟨g5, 0, none⟩) (((ll.take n).map (M.fin h)).length + 1) cap5) (((ll.take n).map (M.fin h)).length + 1) (vs ++ [v4]) → (w4.alloc (.cells #[v4] 63)).grownBy w5 v.ownBlock → (v.ownBlock = some g5 ∨ g5 = w4.heap.size + 1) → Slot1 w5 (w.heap.size + 1) v ∧ Below w.heap.size w w5 ∧ ∀ u, u = Value.slice (some ⟨g5, 0, none⟩) (((ll.take n).map (M.fin h)).length + 1) cap5 → ShLp w W1 (w5.setCell ⟨w.heap.size + 1, 0, none⟩ u) h ll us (n + 1) u (vs ++ [v4])) := by
            intro w4 v4 hF g5 cap5 w5 ho hg hat
            exact HL.next R0 hlt hun hF ho hg hat (by have := HL.sz; have := hF.bel.size; omega)
          have CN : Calls Try.prog 37 #[.int .i64 h, us[n]] wr.drew fun e w' => ∃ v', e = .returned v' ∧ FinAns wr w' (w.heap.size + 2) us[n] v' (M.fin h ll[n]) :=
            (finish_any h (w.heap.size + 2) us[n] ll[n] wr.drew (by have := HL.p.lt; show w.heap.size + 2 ≤ wr.heap.size; omega) (by omega) (ownsRow_below OR (Below.refl wr.heap.size wr).drew)).mono fun e w' ⟨v', he, hF⟩ => ⟨v', he, hF.undrew⟩
          have HW : Hid (us[n] = .slice at_ ll[n].length ct_) := eu
          rw [eu] at hc CN F4 F5
          clear eu OU OR
          obtain ⟨T4, hT4⟩ : ∃ T4, (M.fin h ll[n]).length = T4 := ⟨_, rfl⟩
          rw [hT4] at F4 hT
          clear hT4
          generalize M.fin h ll[n] = t4 at *
          generalize ll[n] = t at *
          have i1 : (n : Int) < ll.length := by omega
          have hRd := HL.rd
          obtain ⟨av, gv, cv, rfl, _⟩ := hRd.b.ss
          clear hRd
          generalize (ll.take n).map (M.fin h) = mm at *
          have x0 := HL.p.c
          have lP := HL.p.lt
          go_wp2_with fail
          refine wp_region_held_drew (S := fun w' => Below w.heap.size w w') (by kernel_rfl) HL.bel.drew (fun hH => ?_)
          refine takeD 0 (some 37) (.pointer (some ⟨w.heap.size + 1, 0, none⟩)) hH rfl rfl (by kernel_rfl) (by kernel_rfl) (by kernel_rfl) (fun _ _ _ h => h) (Or.inl ⟨by rfl, by intro w' hSw; go_simp⟩) ?_
          simp only [Act.put, List.setIfInBounds_toArray, List.set_cons_zero, List.set_cons_succ]
          refine takeD 2 (some 39) (.int .i64 h) hH rfl rfl (by kernel_rfl) (by kernel_rfl) (by kernel_rfl) (fun _ _ _ h => h) (Or.inl ⟨by rfl, by intro w' hSw; go_simp⟩) ?_
          simp only [Act.put, List.setIfInBounds_toArray, List.set_cons_zero, List.set_cons_succ]
          refine takeD 3 (some 40) (.slice at_ t.length ct_) hH rfl rfl (by kernel_rfl) (by kernel_rfl) (by kernel_rfl) (fun _ _ _ h => h) (Or.inl ⟨by rfl, by intro w' hSw; go_simp⟩) ?_
          simp only [Act.put, List.setIfInBounds_toArray, List.set_cons_zero, List.set_cons_succ]
          refine wpAnyH_ready (rs := [1, 4]) (by kernel_rfl) (by simp) ?_
          refine AllReadyH.cons rfl (fun K' hK => ?_) (AllReadyH.cons rfl (fun K' hK => ?_) AllReadyH.nil)
          · have xx := x0
            rw [if_pos (by rfl)]
            go_simp
            refine hK.out _ _ hH (fun _ => ?_)
            clear hK K' xx
            refine wpAnyH_ready (rs := [4]) (by kernel_rfl) (by simp) ?_
            refine AllReadyH.cons rfl (fun K' hK => ?_) AllReadyH.nil
            refine step_goV (by rfl) (some 41) rfl 37 #[.tmp 39, .tmp 40] _ rfl #[.int .i64 h, .slice at_ t.length ct_] (by simp [Act.eval]) (fun _ _ => rfl) CN ?_
            rintro e w4 ⟨v4, rfl, hF4⟩
            obtain ⟨a4, c4, rfl, b4, hS4, hR4⟩ := F4.out w4 v4 hF4
            refine ⟨_, rfl, ?_⟩
            simp only [Act.put, List.setIfInBounds_toArray, List.set_cons_zero, List.set_cons_succ]
            refine hK.out _ _ (HL.bel.trans (b4.mono HL.bel.size)) (fun hH4 => ?_)
            clear hK K'
            have hS4a := hS4.bl' (below1 w4 (.cells #[.slice a4 T4 c4] 63))
            have S4a : Below w.heap.size w (w4.alloc (.cells #[.slice a4 T4 c4] 63)) := hH4.alloc hH4.size _
            refine wpAnyH_ready (rs := [5]) (by kernel_rfl) (by simp) ?_
            refine AllReadyH.cons rfl (fun K' hK => ?_) AllReadyH.nil
            rw [if_pos (by rfl)]
            go_simp
            refine hK.out _ _ S4a (fun _ => ?_)
            clear hK K'
            refine wpAnyH_ready (rs := [6]) (by kernel_rfl) (by simp) ?_
            refine AllReadyH.cons rfl (fun K' hK => ?_) AllReadyH.nil
            refine step_append_lies _ (by rfl) (.tmp 38) (.tmp 42) 23 (by rfl) (w.heap.size + 2) 63 i0 _ 1 24 Try.underlying23 hi hz0 hz1 hz2 rfl (by decide) (.slice av mm.length cv) mm.length vs (by rfl) ((hR4.b.outer).alloc _) ⟨w4.heap.size, 0, none⟩ 1 1 [.slice a4 T4 c4] (by rfl) (by rfl) (World.news_of_block (cs := #[.slice a4 T4 c4]) (t := 63) (fr := (0, 0)) (heap_alloc_new w4 _)) (by simp [Value.oneCell']) (by omega) (by unfold maxLen; omega) (by omega) (by have := b4.size; simp; omega) (w4.heap.size + 1) (by simp) ?_
            intro g5 cap5 w5 hown5 hg5 hat5 hlt5
            obtain ⟨hS5, b5, hL5⟩ := F5.out w4 _ hF4 g5 cap5 w5 hown5 hg5 hat5
            simp only [Act.put, List.setIfInBounds_toArray, List.set_cons_zero, List.set_cons_succ]
            refine hK.out _ _ b5 (fun hH5 => ?_)
            clear hK K'
            refine takeD 7 (some 44) (.pointer (some ⟨w.heap.size + 1, 0, none⟩)) hH5 rfl rfl (by kernel_rfl) (by kernel_rfl) (by kernel_rfl) (fun _ _ _ h => h) (Or.inl ⟨by rfl, by intro w' hSw; go_simp⟩) ?_
            simp only [Act.put, List.setIfInBounds_toArray, List.set_cons_zero, List.set_cons_succ]
            refine wpAnyH_ready (rs := [8]) (by kernel_rfl) (by simp) ?_
            refine AllReadyH.cons rfl (fun K' hK => ?_) AllReadyH.nil
            have xc := hS5.c
            have xz := hS5.fz
            rw [if_pos (by rfl)]
            go_simp
            refine hK.out _ _ (b5.setCell (by show w.heap.size ≤ w.heap.size + 1; omega) _) (fun _ => ?_)
            clear hK K'
            refine wpAnyH_done (by kernel_rfl) ?_ _
            clear xc xz
            go_wp2_with fail
            exact ⟨⟨n + 1, _, _, by go_num, by omega, hL5 _ rfl⟩, by simp [intOf]; omega⟩
          · refine step_goV (by rfl) (some 41) rfl 37 #[.tmp 39, .tmp 40] _ rfl #[.int .i64 h, .slice at_ t.length ct_] (by simp [Act.eval]) (fun _ _ => rfl) CN ?_
            rintro e w4 ⟨v4, rfl, hF4⟩
            obtain ⟨a4, c4, rfl, b4, hS4, hR4⟩ := F4.out w4 v4 hF4
            refine ⟨_, rfl, ?_⟩
            simp only [Act.put, List.setIfInBounds_toArray, List.set_cons_zero, List.set_cons_succ]
            refine hK.out _ _ (HL.bel.trans (b4.mono HL.bel.size)) (fun hH4 => ?_)
            clear hK K'
            have hS4a := hS4.bl' (below1 w4 (.cells #[.slice a4 T4 c4] 63))
            have S4a : Below w.heap.size w (w4.alloc (.cells #[.slice a4 T4 c4] 63)) := hH4.alloc hH4.size _
            refine wpAnyH_ready (rs := [1, 5]) (by kernel_rfl) (by simp) ?_
            refine AllReadyH.cons rfl (fun K' hK => ?_) (AllReadyH.cons rfl (fun K' hK => ?_) AllReadyH.nil)
            · have xx := hS4.c
              rw [if_pos (by rfl)]
              go_simp
              refine hK.out _ _ hH4 (fun _ => ?_)
              clear hK K' xx
              refine wpAnyH_ready (rs := [5]) (by kernel_rfl) (by simp) ?_
              refine AllReadyH.cons rfl (fun K' hK => ?_) AllReadyH.nil
              rw [if_pos (by rfl)]
              go_simp
              refine hK.out _ _ S4a (fun _ => ?_)
              clear hK K'
              refine wpAnyH_ready (rs := [6]) (by kernel_rfl) (by simp) ?_
              refine AllReadyH.cons rfl (fun K' hK => ?_) AllReadyH.nil
              refine step_append_lies _ (by rfl) (.tmp 38) (.tmp 42) 23 (by rfl) (w.heap.size + 2) 63 i0 _ 1 24 Try.underlying23 hi hz0 hz1 hz2 rfl (by decide) (.slice av mm.length cv) mm.length vs (by rfl) ((hR4.b.outer).alloc _) ⟨w4.heap.size, 0, none⟩ 1 1 [.slice a4 T4 c4] (by rfl) (by rfl) (World.news_of_block (cs := #[.slice a4 T4 c4]) (t := 63) (fr := (0, 0)) (heap_alloc_new w4 _)) (by simp [Value.oneCell']) (by omega) (by unfold maxLen; omega) (by omega) (by have := b4.size; simp; omega) (w4.heap.size + 1) (by simp) ?_
              intro g5 cap5 w5 hown5 hg5 hat5 hlt5
              obtain ⟨hS5, b5, hL5⟩ := F5.out w4 _ hF4 g5 cap5 w5 hown5 hg5 hat5
              simp only [Act.put, List.setIfInBounds_toArray, List.set_cons_zero, List.set_cons_succ]
              refine hK.out _ _ b5 (fun hH5 => ?_)
              clear hK K'
              refine takeD 7 (some 44) (.pointer (some ⟨w.heap.size + 1, 0, none⟩)) hH5 rfl rfl (by kernel_rfl) (by kernel_rfl) (by kernel_rfl) (fun _ _ _ h => h) (Or.inl ⟨by rfl, by intro w' hSw; go_simp⟩) ?_
              simp only [Act.put, List.setIfInBounds_toArray, List.set_cons_zero, List.set_cons_succ]
              refine wpAnyH_ready (rs := [8]) (by kernel_rfl) (by simp) ?_
              refine AllReadyH.cons rfl (fun K' hK => ?_) AllReadyH.nil
              have xc := hS5.c
              have xz := hS5.fz
              rw [if_pos (by rfl)]
              go_simp
              refine hK.out _ _ (b5.setCell (by show w.heap.size ≤ w.heap.size + 1; omega) _) (fun _ => ?_)
              clear hK K'
              refine wpAnyH_done (by kernel_rfl) ?_ _
              clear xc xz
              go_wp2_with fail
              exact ⟨⟨n + 1, _, _, by go_num, by omega, hL5 _ rfl⟩, by simp [intOf]; omega⟩
            · rw [if_pos (by rfl)]
              go_simp
              refine hK.out _ _ S4a (fun _ => ?_)
              clear hK K'
              refine wpAnyH_ready (rs := [1]) (by kernel_rfl) (by simp) ?_
              refine AllReadyH.cons rfl (fun K' hK => ?_) AllReadyH.nil
              have xx := hS4a.c
              rw [if_pos (by rfl)]
              go_simp
              refine hK.out _ _ S4a (fun _ => ?_)
              clear hK K' xx
              refine wpAnyH_ready (rs := [6]) (by kernel_rfl) (by simp) ?_
              refine AllReadyH.cons rfl (fun K' hK => ?_) AllReadyH.nil
              refine step_append_lies _ (by rfl) (.tmp 38) (.tmp 42) 23 (by rfl) (w.heap.size + 2) 63 i0 _ 1 24 Try.underlying23 hi hz0 hz1 hz2 rfl (by decide) (.slice av mm.length cv) mm.length vs (by rfl) ((hR4.b.outer).alloc _) ⟨w4.heap.size, 0, none⟩ 1 1 [.slice a4 T4 c4] (by rfl) (by rfl) (World.news_of_block (cs := #[.slice a4 T4 c4]) (t := 63) (fr := (0, 0)) (heap_alloc_new w4 _)) (by simp [Value.oneCell']) (by omega) (by unfold maxLen; omega) (by omega) (by have := b4.size; simp; omega) (w4.heap.size + 1) (by simp) ?_
              intro g5 cap5 w5 hown5 hg5 hat5 hlt5
              obtain ⟨hS5, b5, hL5⟩ := F5.out w4 _ hF4 g5 cap5 w5 hown5 hg5 hat5
              simp only [Act.put, List.setIfInBounds_toArray, List.set_cons_zero, List.set_cons_succ]
              refine hK.out _ _ b5 (fun hH5 => ?_)
              clear hK K'
              refine takeD 7 (some 44) (.pointer (some ⟨w.heap.size + 1, 0, none⟩)) hH5 rfl rfl (by kernel_rfl) (by kernel_rfl) (by kernel_rfl) (fun _ _ _ h => h) (Or.inl ⟨by rfl, by intro w' hSw; go_simp⟩) ?_
              simp only [Act.put, List.setIfInBounds_toArray, List.set_cons_zero, List.set_cons_succ]
              refine wpAnyH_ready (rs := [8]) (by kernel_rfl) (by simp) ?_
              refine AllReadyH.cons rfl (fun K' hK => ?_) AllReadyH.nil
              have xc := hS5.c
              have xz := hS5.fz
              rw [if_pos (by rfl)]
              go_simp
              refine hK.out _ _ (b5.setCell (by show w.heap.size ≤ w.heap.size + 1; omega) _) (fun _ => ?_)
              clear hK K'
              refine wpAnyH_done (by kernel_rfl) ?_ _
              clear xc xz
              go_wp2_with fail
              exact ⟨⟨n + 1, _, _, by go_num, by omega, hL5 _ rfl⟩, by simp [intOf]; omega⟩
        · have htk : ll.take n = ll := List.take_of_length_le (by omega)
          obtain ⟨hR, hP, hQ, hbel, _, _, _, _⟩ := HL
          rw [htk] at hR
          obtain ⟨rr, hrr⟩ : ∃ rr, ll.map (M.fin h) = rr := ⟨_, rfl⟩
          rw [hrr] at hR
          have HRR : Hid (ll.map (M.fin h) = rr) := hrr
          clear hrr
          obtain ⟨av, gv, cv, rfl, _⟩ := hR.b.ss
          have hkn' : ¬ (n : Int) < ll.length := by omega
          have p0 := hP.c
          have pf := hP.fz
          have q0 := hQ.c
          have qf := hQ.fz
          have lP := hP.lt
          have lQ := hQ.lt
          have hne : w.heap.size ≠ w.heap.size + 1 := by omega
          go_wp2_with fail
          have q1 := (hQ.set (.slice av rr.length cv)).c
          exact bodyPost_ret (v := .tuple #[.agg #[.slice av rr.length cv], .bool true]) (by simp [results, Try.results15, go_sem, q1]) rfl ⟨_, rfl, ⟨vs, by rw [HRR.out]; exact (hR.far (by omega) _).mono (by omega)⟩, hbel.setCell (Nat.le_refl _) _⟩
    · have CT := thr_twice h _ _ ((w.alloc (.cells #[.slice none 0 0] 25)).alloc (.cells #[.slice none 0 0] 25)) rfl rfl
      have er : M.raw 4 h = [[⟨M.kst h, 0, 1⟩], [⟨M.kld h, 0, 0⟩, ⟨M.kld h, 0, 0⟩]] := by simp [M.raw, M.sst, M.sld, M.kst_no, M.kld_no]
      rw [← er] at CT
      clear er
      generalize M.raw 4 h = ll at *
      go_enter Try.func15, Try.ntmps15
      go_wp2_with fail
      refine (formOf_any 4 _).mono ?_
      rintro e w0 ⟨rfl, rfl⟩
      go_wp2_with fail
      refine CT.mono ?_
      clear CT
      rintro e W1 ⟨vt, us, rfl, R0, b1⟩
      simp only [World.size_alloc] at R0
      obtain ⟨G, ct, rfl, hG1, hG2⟩ := R0.b.outer.form (by omega)
      have hul : us.length = ll.length := R0.b.len
      have bw1 := bP.trans (b1.mono bP.size)
      have L0 : ShLp w W1 W1 h ll us 0 (.slice none 0 0) [] := ⟨by simpa using Rdg.nil _ _, hP.bl' b1, hQ.bl' b1, bw1, Nat.le_refl _, fun _ _ _ => rfl, fun k hk => by simp [Value.ownBlock] at hk, fun i hi => by simp at hi⟩
      clear bP hP hQ b1
      go_wp2_with fail
      go_loopw [33] (fun s33 wr => ∃ (n : Nat) (v : Value) (vs : List Value), s33 = .int .i64 n ∧ n ≤ ll.length ∧ ShLp w W1 wr h ll us n v vs) (fun s33 _ => ll.length - (intOf s33).toNat)
      case atStart => exact ⟨0, _, _, rfl, Nat.zero_le _, L0⟩
      case round =>
        obtain ⟨n, v, vs, rfl, hn, HL⟩ := hrel
        clear L0
        by_cases hlt : n < ll.length
        · have hun : n < us.length := by omega
          have OU := ownsRow_keep R0.b.outer HL.keep
          have OR := ownsRow_keep (R0.b.inner n hlt hun) HL.keep
          have hc := OU.cells (g := G) rfl n us[n] (by simp [hun])
          rw [Go.WideShapes.add_plain, Nat.zero_add] at hc
          have ht := hl4 _ (List.getElem_mem hlt)
          obtain ⟨at_, ct_, eu⟩ := own_slx OR
          have hmm : ((ll.take n).map (M.fin h)).length ≤ 1048576 := by simp; omega
          have hT : (M.fin h ll[n]).length ≤ 1048576 := by have := M.fin_le h ll[n]; omega
          have F4 : Hid (∀ (w4 : World) (v4 : Value), FinAns wr w4 (w.heap.size + 2) us[n] v4 (M.fin h ll[n]) → ∃ a4 c4, v4 = .slice a4 (M.fin h ll[n]).length c4 ∧ Below wr.heap.size wr w4 ∧ Slot1 w4 (w.heap.size + 1) v ∧ Rdg w4 (w.heap.size + 2) v ((ll.take n).map (M.fin h)) vs) := by
            intro w4 v4 hF
            obtain ⟨a4, c4, e⟩ := own_slx hF.own
            exact ⟨a4, c4, e, hF.bel, HL.p.bl' hF.bel, HL.rd.below hF.bel⟩
          have F5 : Hid (∀ (w4 : World) (v4 : Value), FinAns wr w4 (w.heap.size + 2) us[n] v4 (M.fin h ll[n]) → ∀ (g5 cap5 : Nat) (w5 : World), w5.ownsRow (w.heap.size + 2) 63 1 (.slice (some ⟨g5, 0, none⟩) (((ll.take n).map (M.fin h)).length + 1) cap5) (((ll.take n).map (M.fin h)).length + 1) (vs ++ [v4]) → (w4.alloc (.cells #[v4] 63)).grownBy w5 v.ownBlock → (v.ownBlock = some g5 ∨ g5 = w4.heap.size + 1) → Slot1 w5 (w.heap.size + 1) v ∧ Below w.heap.size w w5 ∧ ∀ u, u = Value.slice (some ⟨g5, 0, none⟩) (((ll.take n).map (M.fin h)).length + 1) cap5 → ShLp w W1 (w5.setCell ⟨w.heap.size + 1, 0, none⟩ u) h ll us (n + 1) u (vs ++ [v4])) := by
            intro w4 v4 hF g5 cap5 w5 ho hg hat
            exact HL.next R0 hlt hun hF ho hg hat (by have := HL.sz; have := hF.bel.size; omega)
          have CN : Calls Try.prog 37 #[.int .i64 h, us[n]] wr.drew fun e w' => ∃ v', e = .returned v' ∧ FinAns wr w' (w.heap.size + 2) us[n] v' (M.fin h ll[n]) :=
            (finish_any h (w.heap.size + 2) us[n] ll[n] wr.drew (by have := HL.p.lt; show w.heap.size + 2 ≤ wr.heap.size; omega) (by omega) (ownsRow_below OR (Below.refl wr.heap.size wr).drew)).mono fun e w' ⟨v', he, hF⟩ => ⟨v', he, hF.undrew⟩
          have HW : Hid (us[n] = .slice at_ ll[n].length ct_) := eu
          rw [eu] at hc CN F4 F5
          clear eu OU OR
          obtain ⟨T4, hT4⟩ : ∃ T4, (M.fin h ll[n]).length = T4 := ⟨_, rfl⟩
          rw [hT4] at F4 hT
          clear hT4
          generalize M.fin h ll[n] = t4 at *
          generalize ll[n] = t at *
          have i1 : (n : Int) < ll.length := by omega
          have hRd := HL.rd
          obtain ⟨av, gv, cv, rfl, _⟩ := hRd.b.ss
          clear hRd
          generalize (ll.take n).map (M.fin h) = mm at *
          have x0 := HL.p.c
          have lP := HL.p.lt
          go_wp2_with fail
          refine wp_region_held_drew (S := fun w' => Below w.heap.size w w') (by kernel_rfl) HL.bel.drew (fun hH => ?_)
          refine takeD 0 (some 37) (.pointer (some ⟨w.heap.size + 1, 0, none⟩)) hH rfl rfl (by kernel_rfl) (by kernel_rfl) (by kernel_rfl) (fun _ _ _ h => h) (Or.inl ⟨by rfl, by intro w' hSw; go_simp⟩) ?_
          simp only [Act.put, List.setIfInBounds_toArray, List.set_cons_zero, List.set_cons_succ]
          refine takeD 2 (some 39) (.int .i64 h) hH rfl rfl (by kernel_rfl) (by kernel_rfl) (by kernel_rfl) (fun _ _ _ h => h) (Or.inl ⟨by rfl, by intro w' hSw; go_simp⟩) ?_
          simp only [Act.put, List.setIfInBounds_toArray, List.set_cons_zero, List.set_cons_succ]
          refine takeD 3 (some 40) (.slice at_ t.length ct_) hH rfl rfl (by kernel_rfl) (by kernel_rfl) (by kernel_rfl) (fun _ _ _ h => h) (Or.inl ⟨by rfl, by intro w' hSw; go_simp⟩) ?_
          simp only [Act.put, List.setIfInBounds_toArray, List.set_cons_zero, List.set_cons_succ]
          refine wpAnyH_ready (rs := [1, 4]) (by kernel_rfl) (by simp) ?_
          refine AllReadyH.cons rfl (fun K' hK => ?_) (AllReadyH.cons rfl (fun K' hK => ?_) AllReadyH.nil)
          · have xx := x0
            rw [if_pos (by rfl)]
            go_simp
            refine hK.out _ _ hH (fun _ => ?_)
            clear hK K' xx
            refine wpAnyH_ready (rs := [4]) (by kernel_rfl) (by simp) ?_
            refine AllReadyH.cons rfl (fun K' hK => ?_) AllReadyH.nil
            refine step_goV (by rfl) (some 41) rfl 37 #[.tmp 39, .tmp 40] _ rfl #[.int .i64 h, .slice at_ t.length ct_] (by simp [Act.eval]) (fun _ _ => rfl) CN ?_
            rintro e w4 ⟨v4, rfl, hF4⟩
            obtain ⟨a4, c4, rfl, b4, hS4, hR4⟩ := F4.out w4 v4 hF4
            refine ⟨_, rfl, ?_⟩
            simp only [Act.put, List.setIfInBounds_toArray, List.set_cons_zero, List.set_cons_succ]
            refine hK.out _ _ (HL.bel.trans (b4.mono HL.bel.size)) (fun hH4 => ?_)
            clear hK K'
            have hS4a := hS4.bl' (below1 w4 (.cells #[.slice a4 T4 c4] 63))
            have S4a : Below w.heap.size w (w4.alloc (.cells #[.slice a4 T4 c4] 63)) := hH4.alloc hH4.size _
            refine wpAnyH_ready (rs := [5]) (by kernel_rfl) (by simp) ?_
            refine AllReadyH.cons rfl (fun K' hK => ?_) AllReadyH.nil
            rw [if_pos (by rfl)]
            go_simp
            refine hK.out _ _ S4a (fun _ => ?_)
            clear hK K'
            refine wpAnyH_ready (rs := [6]) (by kernel_rfl) (by simp) ?_
            refine AllReadyH.cons rfl (fun K' hK => ?_) AllReadyH.nil
            refine step_append_lies _ (by rfl) (.tmp 38) (.tmp 42) 23 (by rfl) (w.heap.size + 2) 63 i0 _ 1 24 Try.underlying23 hi hz0 hz1 hz2 rfl (by decide) (.slice av mm.length cv) mm.length vs (by rfl) ((hR4.b.outer).alloc _) ⟨w4.heap.size, 0, none⟩ 1 1 [.slice a4 T4 c4] (by rfl) (by rfl) (World.news_of_block (cs := #[.slice a4 T4 c4]) (t := 63) (fr := (0, 0)) (heap_alloc_new w4 _)) (by simp [Value.oneCell']) (by omega) (by unfold maxLen; omega) (by omega) (by have := b4.size; simp; omega) (w4.heap.size + 1) (by simp) ?_
            intro g5 cap5 w5 hown5 hg5 hat5 hlt5
            obtain ⟨hS5, b5, hL5⟩ := F5.out w4 _ hF4 g5 cap5 w5 hown5 hg5 hat5
            simp only [Act.put, List.setIfInBounds_toArray, List.set_cons_zero, List.set_cons_succ]
            refine hK.out _ _ b5 (fun hH5 => ?_)
            clear hK K'
            refine takeD 7 (some 44) (.pointer (some ⟨w.heap.size + 1, 0, none⟩)) hH5 rfl rfl (by kernel_rfl) (by kernel_rfl) (by kernel_rfl) (fun _ _ _ h => h) (Or.inl ⟨by rfl, by intro w' hSw; go_simp⟩) ?_
            simp only [Act.put, List.setIfInBounds_toArray, List.set_cons_zero, List.set_cons_succ]
            refine wpAnyH_ready (rs := [8]) (by kernel_rfl) (by simp) ?_
            refine AllReadyH.cons rfl (fun K' hK => ?_) AllReadyH.nil
            have xc := hS5.c
            have xz := hS5.fz
            rw [if_pos (by rfl)]
            go_simp
            refine hK.out _ _ (b5.setCell (by show w.heap.size ≤ w.heap.size + 1; omega) _) (fun _ => ?_)
            clear hK K'
            refine wpAnyH_done (by kernel_rfl) ?_ _
            clear xc xz
            go_wp2_with fail
            exact ⟨⟨n + 1, _, _, by go_num, by omega, hL5 _ rfl⟩, by simp [intOf]; omega⟩
          · refine step_goV (by rfl) (some 41) rfl 37 #[.tmp 39, .tmp 40] _ rfl #[.int .i64 h, .slice at_ t.length ct_] (by simp [Act.eval]) (fun _ _ => rfl) CN ?_
            rintro e w4 ⟨v4, rfl, hF4⟩
            obtain ⟨a4, c4, rfl, b4, hS4, hR4⟩ := F4.out w4 v4 hF4
            refine ⟨_, rfl, ?_⟩
            simp only [Act.put, List.setIfInBounds_toArray, List.set_cons_zero, List.set_cons_succ]
            refine hK.out _ _ (HL.bel.trans (b4.mono HL.bel.size)) (fun hH4 => ?_)
            clear hK K'
            have hS4a := hS4.bl' (below1 w4 (.cells #[.slice a4 T4 c4] 63))
            have S4a : Below w.heap.size w (w4.alloc (.cells #[.slice a4 T4 c4] 63)) := hH4.alloc hH4.size _
            refine wpAnyH_ready (rs := [1, 5]) (by kernel_rfl) (by simp) ?_
            refine AllReadyH.cons rfl (fun K' hK => ?_) (AllReadyH.cons rfl (fun K' hK => ?_) AllReadyH.nil)
            · have xx := hS4.c
              rw [if_pos (by rfl)]
              go_simp
              refine hK.out _ _ hH4 (fun _ => ?_)
              clear hK K' xx
              refine wpAnyH_ready (rs := [5]) (by kernel_rfl) (by simp) ?_
              refine AllReadyH.cons rfl (fun K' hK => ?_) AllReadyH.nil
              rw [if_pos (by rfl)]
              go_simp
              refine hK.out _ _ S4a (fun _ => ?_)
              clear hK K'
              refine wpAnyH_ready (rs := [6]) (by kernel_rfl) (by simp) ?_
              refine AllReadyH.cons rfl (fun K' hK => ?_) AllReadyH.nil
              refine step_append_lies _ (by rfl) (.tmp 38) (.tmp 42) 23 (by rfl) (w.heap.size + 2) 63 i0 _ 1 24 Try.underlying23 hi hz0 hz1 hz2 rfl (by decide) (.slice av mm.length cv) mm.length vs (by rfl) ((hR4.b.outer).alloc _) ⟨w4.heap.size, 0, none⟩ 1 1 [.slice a4 T4 c4] (by rfl) (by rfl) (World.news_of_block (cs := #[.slice a4 T4 c4]) (t := 63) (fr := (0, 0)) (heap_alloc_new w4 _)) (by simp [Value.oneCell']) (by omega) (by unfold maxLen; omega) (by omega) (by have := b4.size; simp; omega) (w4.heap.size + 1) (by simp) ?_
              intro g5 cap5 w5 hown5 hg5 hat5 hlt5
              obtain ⟨hS5, b5, hL5⟩ := F5.out w4 _ hF4 g5 cap5 w5 hown5 hg5 hat5
              simp only [Act.put, List.setIfInBounds_toArray, List.set_cons_zero, List.set_cons_succ]
              refine hK.out _ _ b5 (fun hH5 => ?_)
              clear hK K'
              refine takeD 7 (some 44) (.pointer (some ⟨w.heap.size + 1, 0, none⟩)) hH5 rfl rfl (by kernel_rfl) (by kernel_rfl) (by kernel_rfl) (fun _ _ _ h => h) (Or.inl ⟨by rfl, by intro w' hSw; go_simp⟩) ?_
              simp only [Act.put, List.setIfInBounds_toArray, List.set_cons_zero, List.set_cons_succ]
              refine wpAnyH_ready (rs := [8]) (by kernel_rfl) (by simp) ?_
              refine AllReadyH.cons rfl (fun K' hK => ?_) AllReadyH.nil
              have xc := hS5.c
              have xz := hS5.fz
              rw [if_pos (by rfl)]
              go_simp
              refine hK.out _ _ (b5.setCell (by show w.heap.size ≤ w.heap.size + 1; omega) _) (fun _ => ?_)
              clear hK K'
              refine wpAnyH_done (by kernel_rfl) ?_ _
              clear xc xz
              go_wp2_with fail
              exact ⟨⟨n + 1, _, _, by go_num, by omega, hL5 _ rfl⟩, by simp [intOf]; omega⟩
            · rw [if_pos (by rfl)]
              go_simp
              refine hK.out _ _ S4a (fun _ => ?_)
              clear hK K'
              refine wpAnyH_ready (rs := [1]) (by kernel_rfl) (by simp) ?_
              refine AllReadyH.cons rfl (fun K' hK => ?_) AllReadyH.nil
              have xx := hS4a.c
              rw [if_pos (by rfl)]
              go_simp
              refine hK.out _ _ S4a (fun _ => ?_)
              clear hK K' xx
              refine wpAnyH_ready (rs := [6]) (by kernel_rfl) (by simp) ?_
              refine AllReadyH.cons rfl (fun K' hK => ?_) AllReadyH.nil
              refine step_append_lies _ (by rfl) (.tmp 38) (.tmp 42) 23 (by rfl) (w.heap.size + 2) 63 i0 _ 1 24 Try.underlying23 hi hz0 hz1 hz2 rfl (by decide) (.slice av mm.length cv) mm.length vs (by rfl) ((hR4.b.outer).alloc _) ⟨w4.heap.size, 0, none⟩ 1 1 [.slice a4 T4 c4] (by rfl) (by rfl) (World.news_of_block (cs := #[.slice a4 T4 c4]) (t := 63) (fr := (0, 0)) (heap_alloc_new w4 _)) (by simp [Value.oneCell']) (by omega) (by unfold maxLen; omega) (by omega) (by have := b4.size; simp; omega) (w4.heap.size + 1) (by simp) ?_
              intro g5 cap5 w5 hown5 hg5 hat5 hlt5
              obtain ⟨hS5, b5, hL5⟩ := F5.out w4 _ hF4 g5 cap5 w5 hown5 hg5 hat5
              simp only [Act.put, List.setIfInBounds_toArray, List.set_cons_zero, List.set_cons_succ]
              refine hK.out _ _ b5 (fun hH5 => ?_)
              clear hK K'
              refine takeD 7 (some 44) (.pointer (some ⟨w.heap.size + 1, 0, none⟩)) hH5 rfl rfl (by kernel_rfl) (by kernel_rfl) (by kernel_rfl) (fun _ _ _ h => h) (Or.inl ⟨by rfl, by intro w' hSw; go_simp⟩) ?_
              simp only [Act.put, List.setIfInBounds_toArray, List.set_cons_zero, List.set_cons_succ]
              refine wpAnyH_ready (rs := [8]) (by kernel_rfl) (by simp) ?_
              refine AllReadyH.cons rfl (fun K' hK => ?_) AllReadyH.nil
              have xc := hS5.c
              have xz := hS5.fz
              rw [if_pos (by rfl)]
              go_simp
              refine hK.out _ _ (b5.setCell (by show w.heap.size ≤ w.heap.size + 1; omega) _) (fun _ => ?_)
              clear hK K'
              refine wpAnyH_done (by kernel_rfl) ?_ _
              clear xc xz
              go_wp2_with fail
              exact ⟨⟨n + 1, _, _, by go_num, by omega, hL5 _ rfl⟩, by simp [intOf]; omega⟩
        · have htk : ll.take n = ll := List.take_of_length_le (by omega)
          obtain ⟨hR, hP, hQ, hbel, _, _, _, _⟩ := HL
          rw [htk] at hR
          obtain ⟨rr, hrr⟩ : ∃ rr, ll.map (M.fin h) = rr := ⟨_, rfl⟩
          rw [hrr] at hR
          have HRR : Hid (ll.map (M.fin h) = rr) := hrr
          clear hrr
          obtain ⟨av, gv, cv, rfl, _⟩ := hR.b.ss
          have hkn' : ¬ (n : Int) < ll.length := by omega
          have p0 := hP.c
          have pf := hP.fz
          have q0 := hQ.c
          have qf := hQ.fz
          have lP := hP.lt
          have lQ := hQ.lt
          have hne : w.heap.size ≠ w.heap.size + 1 := by omega
          go_wp2_with fail
          have q1 := (hQ.set (.slice av rr.length cv)).c
          exact bodyPost_ret (v := .tuple #[.agg #[.slice av rr.length cv], .bool true]) (by simp [results, Try.results15, go_sem, q1]) rfl ⟨_, rfl, ⟨vs, by rw [HRR.out]; exact (hR.far (by omega) _).mono (by omega)⟩, hbel.setCell (Nat.le_refl _) _⟩
    · have CT := thr_four h _ _ ((w.alloc (.cells #[.slice none 0 0] 25)).alloc (.cells #[.slice none 0 0] 25)) rfl rfl
      have er : M.raw 5 h = [[⟨M.kst h, 0, 2⟩, ⟨M.kst h, 1, 1⟩], [⟨M.kst h, 1, 2⟩, ⟨M.kst h, 0, 1⟩]] := by simp [M.raw, M.sst, M.sld, M.kst_no, M.kld_no]
      rw [← er] at CT
      clear er
      generalize M.raw 5 h = ll at *
      go_enter Try.func15, Try.ntmps15
      go_wp2_with fail
      refine (formOf_any 5 _).mono ?_
      rintro e w0 ⟨rfl, rfl⟩
      go_wp2_with fail
      refine CT.mono ?_
      clear CT
      rintro e W1 ⟨vt, us, rfl, R0, b1⟩
      simp only [World.size_alloc] at R0
      obtain ⟨G, ct, rfl, hG1, hG2⟩ := R0.b.outer.form (by omega)
      have hul : us.length = ll.length := R0.b.len
      have bw1 := bP.trans (b1.mono bP.size)
      have L0 : ShLp w W1 W1 h ll us 0 (.slice none 0 0) [] := ⟨by simpa using Rdg.nil _ _, hP.bl' b1, hQ.bl' b1, bw1, Nat.le_refl _, fun _ _ _ => rfl, fun k hk => by simp [Value.ownBlock] at hk, fun i hi => by simp at hi⟩
      clear bP hP hQ b1
      go_wp2_with fail
      go_loopw [33] (fun s33 wr => ∃ (n : Nat) (v : Value) (vs : List Value), s33 = .int .i64 n ∧ n ≤ ll.length ∧ ShLp w W1 wr h ll us n v vs) (fun s33 _ => ll.length - (intOf s33).toNat)
      case atStart => exact ⟨0, _, _, rfl, Nat.zero_le _, L0⟩
      case round =>
        obtain ⟨n, v, vs, rfl, hn, HL⟩ := hrel
        clear L0
        by_cases hlt : n < ll.length
        · have hun : n < us.length := by omega
          have OU := ownsRow_keep R0.b.outer HL.keep
          have OR := ownsRow_keep (R0.b.inner n hlt hun) HL.keep
          have hc := OU.cells (g := G) rfl n us[n] (by simp [hun])
          rw [Go.WideShapes.add_plain, Nat.zero_add] at hc
          have ht := hl4 _ (List.getElem_mem hlt)
          obtain ⟨at_, ct_, eu⟩ := own_slx OR
          have hmm : ((ll.take n).map (M.fin h)).length ≤ 1048576 := by simp; omega
          have hT : (M.fin h ll[n]).length ≤ 1048576 := by have := M.fin_le h ll[n]; omega
          have F4 : Hid (∀ (w4 : World) (v4 : Value), FinAns wr w4 (w.heap.size + 2) us[n] v4 (M.fin h ll[n]) → ∃ a4 c4, v4 = .slice a4 (M.fin h ll[n]).length c4 ∧ Below wr.heap.size wr w4 ∧ Slot1 w4 (w.heap.size + 1) v ∧ Rdg w4 (w.heap.size + 2) v ((ll.take n).map (M.fin h)) vs) := by
            intro w4 v4 hF
            obtain ⟨a4, c4, e⟩ := own_slx hF.own
            exact ⟨a4, c4, e, hF.bel, HL.p.bl' hF.bel, HL.rd.below hF.bel⟩
          have F5 : Hid (∀ (w4 : World) (v4 : Value), FinAns wr w4 (w.heap.size + 2) us[n] v4 (M.fin h ll[n]) → ∀ (g5 cap5 : Nat) (w5 : World), w5.ownsRow (w.heap.size + 2) 63 1 (.slice (some ⟨g5, 0, none⟩) (((ll.take n).map (M.fin h)).length + 1) cap5) (((ll.take n).map (M.fin h)).length + 1) (vs ++ [v4]) → (w4.alloc (.cells #[v4] 63)).grownBy w5 v.ownBlock → (v.ownBlock = some g5 ∨ g5 = w4.heap.size + 1) → Slot1 w5 (w.heap.size + 1) v ∧ Below w.heap.size w w5 ∧ ∀ u, u = Value.slice (some ⟨g5, 0, none⟩) (((ll.take n).map (M.fin h)).length + 1) cap5 → ShLp w W1 (w5.setCell ⟨w.heap.size + 1, 0, none⟩ u) h ll us (n + 1) u (vs ++ [v4])) := by
            intro w4 v4 hF g5 cap5 w5 ho hg hat
            exact HL.next R0 hlt hun hF ho hg hat (by have := HL.sz; have := hF.bel.size; omega)
          have CN : Calls Try.prog 37 #[.int .i64 h, us[n]] wr.drew fun e w' => ∃ v', e = .returned v' ∧ FinAns wr w' (w.heap.size + 2) us[n] v' (M.fin h ll[n]) :=
            (finish_any h (w.heap.size + 2) us[n] ll[n] wr.drew (by have := HL.p.lt; show w.heap.size + 2 ≤ wr.heap.size; omega) (by omega) (ownsRow_below OR (Below.refl wr.heap.size wr).drew)).mono fun e w' ⟨v', he, hF⟩ => ⟨v', he, hF.undrew⟩
          have HW : Hid (us[n] = .slice at_ ll[n].length ct_) := eu
          rw [eu] at hc CN F4 F5
          clear eu OU OR
          obtain ⟨T4, hT4⟩ : ∃ T4, (M.fin h ll[n]).length = T4 := ⟨_, rfl⟩
          rw [hT4] at F4 hT
          clear hT4
          generalize M.fin h ll[n] = t4 at *
          generalize ll[n] = t at *
          have i1 : (n : Int) < ll.length := by omega
          have hRd := HL.rd
          obtain ⟨av, gv, cv, rfl, _⟩ := hRd.b.ss
          clear hRd
          generalize (ll.take n).map (M.fin h) = mm at *
          have x0 := HL.p.c
          have lP := HL.p.lt
          go_wp2_with fail
          refine wp_region_held_drew (S := fun w' => Below w.heap.size w w') (by kernel_rfl) HL.bel.drew (fun hH => ?_)
          refine takeD 0 (some 37) (.pointer (some ⟨w.heap.size + 1, 0, none⟩)) hH rfl rfl (by kernel_rfl) (by kernel_rfl) (by kernel_rfl) (fun _ _ _ h => h) (Or.inl ⟨by rfl, by intro w' hSw; go_simp⟩) ?_
          simp only [Act.put, List.setIfInBounds_toArray, List.set_cons_zero, List.set_cons_succ]
          refine takeD 2 (some 39) (.int .i64 h) hH rfl rfl (by kernel_rfl) (by kernel_rfl) (by kernel_rfl) (fun _ _ _ h => h) (Or.inl ⟨by rfl, by intro w' hSw; go_simp⟩) ?_
          simp only [Act.put, List.setIfInBounds_toArray, List.set_cons_zero, List.set_cons_succ]
          refine takeD 3 (some 40) (.slice at_ t.length ct_) hH rfl rfl (by kernel_rfl) (by kernel_rfl) (by kernel_rfl) (fun _ _ _ h => h) (Or.inl ⟨by rfl, by intro w' hSw; go_simp⟩) ?_
          simp only [Act.put, List.setIfInBounds_toArray, List.set_cons_zero, List.set_cons_succ]
          refine wpAnyH_ready (rs := [1, 4]) (by kernel_rfl) (by simp) ?_
          refine AllReadyH.cons rfl (fun K' hK => ?_) (AllReadyH.cons rfl (fun K' hK => ?_) AllReadyH.nil)
          · have xx := x0
            rw [if_pos (by rfl)]
            go_simp
            refine hK.out _ _ hH (fun _ => ?_)
            clear hK K' xx
            refine wpAnyH_ready (rs := [4]) (by kernel_rfl) (by simp) ?_
            refine AllReadyH.cons rfl (fun K' hK => ?_) AllReadyH.nil
            refine step_goV (by rfl) (some 41) rfl 37 #[.tmp 39, .tmp 40] _ rfl #[.int .i64 h, .slice at_ t.length ct_] (by simp [Act.eval]) (fun _ _ => rfl) CN ?_
            rintro e w4 ⟨v4, rfl, hF4⟩
            obtain ⟨a4, c4, rfl, b4, hS4, hR4⟩ := F4.out w4 v4 hF4
            refine ⟨_, rfl, ?_⟩
            simp only [Act.put, List.setIfInBounds_toArray, List.set_cons_zero, List.set_cons_succ]
            refine hK.out _ _ (HL.bel.trans (b4.mono HL.bel.size)) (fun hH4 => ?_)
            clear hK K'
            have hS4a := hS4.bl' (below1 w4 (.cells #[.slice a4 T4 c4] 63))
            have S4a : Below w.heap.size w (w4.alloc (.cells #[.slice a4 T4 c4] 63)) := hH4.alloc hH4.size _
            refine wpAnyH_ready (rs := [5]) (by kernel_rfl) (by simp) ?_
            refine AllReadyH.cons rfl (fun K' hK => ?_) AllReadyH.nil
            rw [if_pos (by rfl)]
            go_simp
            refine hK.out _ _ S4a (fun _ => ?_)
            clear hK K'
            refine wpAnyH_ready (rs := [6]) (by kernel_rfl) (by simp) ?_
            refine AllReadyH.cons rfl (fun K' hK => ?_) AllReadyH.nil
            refine step_append_lies _ (by rfl) (.tmp 38) (.tmp 42) 23 (by rfl) (w.heap.size + 2) 63 i0 _ 1 24 Try.underlying23 hi hz0 hz1 hz2 rfl (by decide) (.slice av mm.length cv) mm.length vs (by rfl) ((hR4.b.outer).alloc _) ⟨w4.heap.size, 0, none⟩ 1 1 [.slice a4 T4 c4] (by rfl) (by rfl) (World.news_of_block (cs := #[.slice a4 T4 c4]) (t := 63) (fr := (0, 0)) (heap_alloc_new w4 _)) (by simp [Value.oneCell']) (by omega) (by unfold maxLen; omega) (by omega) (by have := b4.size; simp; omega) (w4.heap.size + 1) (by simp) ?_
            intro g5 cap5 w5 hown5 hg5 hat5 hlt5
            obtain ⟨hS5, b5, hL5⟩ := F5.out w4 _ hF4 g5 cap5 w5 hown5 hg5 hat5
            simp only [Act.put, List.setIfInBounds_toArray, List.set_cons_zero, List.set_cons_succ]
            refine hK.out _ _ b5 (fun hH5 => ?_)
            clear hK K'
            refine takeD 7 (some 44) (.pointer (some ⟨w.heap.size + 1, 0, none⟩)) hH5 rfl rfl (by kernel_rfl) (by kernel_rfl) (by kernel_rfl) (fun _ _ _ h => h) (Or.inl ⟨by rfl, by intro w' hSw; go_simp⟩) ?_
            simp only [Act.put, List.setIfInBounds_toArray, List.set_cons_zero, List.set_cons_succ]
            refine wpAnyH_ready (rs := [8]) (by kernel_rfl) (by simp) ?_
            refine AllReadyH.cons rfl (fun K' hK => ?_) AllReadyH.nil
            have xc := hS5.c
            have xz := hS5.fz
            rw [if_pos (by rfl)]
            go_simp
            refine hK.out _ _ (b5.setCell (by show w.heap.size ≤ w.heap.size + 1; omega) _) (fun _ => ?_)
            clear hK K'
            refine wpAnyH_done (by kernel_rfl) ?_ _
            clear xc xz
            go_wp2_with fail
            exact ⟨⟨n + 1, _, _, by go_num, by omega, hL5 _ rfl⟩, by simp [intOf]; omega⟩
          · refine step_goV (by rfl) (some 41) rfl 37 #[.tmp 39, .tmp 40] _ rfl #[.int .i64 h, .slice at_ t.length ct_] (by simp [Act.eval]) (fun _ _ => rfl) CN ?_
            rintro e w4 ⟨v4, rfl, hF4⟩
            obtain ⟨a4, c4, rfl, b4, hS4, hR4⟩ := F4.out w4 v4 hF4
            refine ⟨_, rfl, ?_⟩
            simp only [Act.put, List.setIfInBounds_toArray, List.set_cons_zero, List.set_cons_succ]
            refine hK.out _ _ (HL.bel.trans (b4.mono HL.bel.size)) (fun hH4 => ?_)
            clear hK K'
            have hS4a := hS4.bl' (below1 w4 (.cells #[.slice a4 T4 c4] 63))
            have S4a : Below w.heap.size w (w4.alloc (.cells #[.slice a4 T4 c4] 63)) := hH4.alloc hH4.size _
            refine wpAnyH_ready (rs := [1, 5]) (by kernel_rfl) (by simp) ?_
            refine AllReadyH.cons rfl (fun K' hK => ?_) (AllReadyH.cons rfl (fun K' hK => ?_) AllReadyH.nil)
            · have xx := hS4.c
              rw [if_pos (by rfl)]
              go_simp
              refine hK.out _ _ hH4 (fun _ => ?_)
              clear hK K' xx
              refine wpAnyH_ready (rs := [5]) (by kernel_rfl) (by simp) ?_
              refine AllReadyH.cons rfl (fun K' hK => ?_) AllReadyH.nil
              rw [if_pos (by rfl)]
              go_simp
              refine hK.out _ _ S4a (fun _ => ?_)
              clear hK K'
              refine wpAnyH_ready (rs := [6]) (by kernel_rfl) (by simp) ?_
              refine AllReadyH.cons rfl (fun K' hK => ?_) AllReadyH.nil
              refine step_append_lies _ (by rfl) (.tmp 38) (.tmp 42) 23 (by rfl) (w.heap.size + 2) 63 i0 _ 1 24 Try.underlying23 hi hz0 hz1 hz2 rfl (by decide) (.slice av mm.length cv) mm.length vs (by rfl) ((hR4.b.outer).alloc _) ⟨w4.heap.size, 0, none⟩ 1 1 [.slice a4 T4 c4] (by rfl) (by rfl) (World.news_of_block (cs := #[.slice a4 T4 c4]) (t := 63) (fr := (0, 0)) (heap_alloc_new w4 _)) (by simp [Value.oneCell']) (by omega) (by unfold maxLen; omega) (by omega) (by have := b4.size; simp; omega) (w4.heap.size + 1) (by simp) ?_
              intro g5 cap5 w5 hown5 hg5 hat5 hlt5
              obtain ⟨hS5, b5, hL5⟩ := F5.out w4 _ hF4 g5 cap5 w5 hown5 hg5 hat5
              simp only [Act.put, List.setIfInBounds_toArray, List.set_cons_zero, List.set_cons_succ]
              refine hK.out _ _ b5 (fun hH5 => ?_)
              clear hK K'
              refine takeD 7 (some 44) (.pointer (some ⟨w.heap.size + 1, 0, none⟩)) hH5 rfl rfl (by kernel_rfl) (by kernel_rfl) (by kernel_rfl) (fun _ _ _ h => h) (Or.inl ⟨by rfl, by intro w' hSw; go_simp⟩) ?_
              simp only [Act.put, List.setIfInBounds_toArray, List.set_cons_zero, List.set_cons_succ]
              refine wpAnyH_ready (rs := [8]) (by kernel_rfl) (by simp) ?_
              refine AllReadyH.cons rfl (fun K' hK => ?_) AllReadyH.nil
              have xc := hS5.c
              have xz := hS5.fz
              rw [if_pos (by rfl)]
              go_simp
              refine hK.out _ _ (b5.setCell (by show w.heap.size ≤ w.heap.size + 1; omega) _) (fun _ => ?_)
              clear hK K'
              refine wpAnyH_done (by kernel_rfl) ?_ _
              clear xc xz
              go_wp2_with fail
              exact ⟨⟨n + 1, _, _, by go_num, by omega, hL5 _ rfl⟩, by simp [intOf]; omega⟩
            · rw [if_pos (by rfl)]
              go_simp
              refine hK.out _ _ S4a (fun _ => ?_)
              clear hK K'
              refine wpAnyH_ready (rs := [1]) (by kernel_rfl) (by simp) ?_
              refine AllReadyH.cons rfl (fun K' hK => ?_) AllReadyH.nil
              have xx := hS4a.c
              rw [if_pos (by rfl)]
              go_simp
              refine hK.out _ _ S4a (fun _ => ?_)
              clear hK K' xx
              refine wpAnyH_ready (rs := [6]) (by kernel_rfl) (by simp) ?_
              refine AllReadyH.cons rfl (fun K' hK => ?_) AllReadyH.nil
              refine step_append_lies _ (by rfl) (.tmp 38) (.tmp 42) 23 (by rfl) (w.heap.size + 2) 63 i0 _ 1 24 Try.underlying23 hi hz0 hz1 hz2 rfl (by decide) (.slice av mm.length cv) mm.length vs (by rfl) ((hR4.b.outer).alloc _) ⟨w4.heap.size, 0, none⟩ 1 1 [.slice a4 T4 c4] (by rfl) (by rfl) (World.news_of_block (cs := #[.slice a4 T4 c4]) (t := 63) (fr := (0, 0)) (heap_alloc_new w4 _)) (by simp [Value.oneCell']) (by omega) (by unfold maxLen; omega) (by omega) (by have := b4.size; simp; omega) (w4.heap.size + 1) (by simp) ?_
              intro g5 cap5 w5 hown5 hg5 hat5 hlt5
              obtain ⟨hS5, b5, hL5⟩ := F5.out w4 _ hF4 g5 cap5 w5 hown5 hg5 hat5
              simp only [Act.put, List.setIfInBounds_toArray, List.set_cons_zero, List.set_cons_succ]
              refine hK.out _ _ b5 (fun hH5 => ?_)
              clear hK K'
              refine takeD 7 (some 44) (.pointer (some ⟨w.heap.size + 1, 0, none⟩)) hH5 rfl rfl (by kernel_rfl) (by kernel_rfl) (by kernel_rfl) (fun _ _ _ h => h) (Or.inl ⟨by rfl, by intro w' hSw; go_simp⟩) ?_
              simp only [Act.put, List.setIfInBounds_toArray, List.set_cons_zero, List.set_cons_succ]
              refine wpAnyH_ready (rs := [8]) (by kernel_rfl) (by simp) ?_
              refine AllReadyH.cons rfl (fun K' hK => ?_) AllReadyH.nil
              have xc := hS5.c
              have xz := hS5.fz
              rw [if_pos (by rfl)]
              go_simp
              refine hK.out _ _ (b5.setCell (by show w.heap.size ≤ w.heap.size + 1; omega) _) (fun _ => ?_)
              clear hK K'
              refine wpAnyH_done (by kernel_rfl) ?_ _
              clear xc xz
              go_wp2_with fail
              exact ⟨⟨n + 1, _, _, by go_num, by omega, hL5 _ rfl⟩, by simp [intOf]; omega⟩
        · have htk : ll.take n = ll := List.take_of_length_le (by omega)
          obtain ⟨hR, hP, hQ, hbel, _, _, _, _⟩ := HL
          rw [htk] at hR
          obtain ⟨rr, hrr⟩ : ∃ rr, ll.map (M.fin h) = rr := ⟨_, rfl⟩
          rw [hrr] at hR
          have HRR : Hid (ll.map (M.fin h) = rr) := hrr
          clear hrr
          obtain ⟨av, gv, cv, rfl, _⟩ := hR.b.ss
          have hkn' : ¬ (n : Int) < ll.length := by omega
          have p0 := hP.c
          have pf := hP.fz
          have q0 := hQ.c
          have qf := hQ.fz
          have lP := hP.lt
          have lQ := hQ.lt
          have hne : w.heap.size ≠ w.heap.size + 1 := by omega
          go_wp2_with fail
          have q1 := (hQ.set (.slice av rr.length cv)).c
          exact bodyPost_ret (v := .tuple #[.agg #[.slice av rr.length cv], .bool true]) (by simp [results, Try.results15, go_sem, q1]) rfl ⟨_, rfl, ⟨vs, by rw [HRR.out]; exact (hR.far (by omega) _).mono (by omega)⟩, hbel.setCell (Nat.le_refl _) _⟩
    · have CT := thr_wait h _ _ ((w.alloc (.cells #[.slice none 0 0] 25)).alloc (.cells #[.slice none 0 0] 25)) rfl rfl
      have er : M.raw 6 h = [[⟨7, 0, 0⟩, ⟨2, 1, 0⟩, ⟨2, 0, 0⟩, ⟨8, 0, 0⟩], [⟨1, 0, 1⟩, ⟨9, 0, 0⟩, ⟨M.kst h, 1, 1⟩]] := by simp [M.raw, M.sst, M.sld, M.kst_no, M.kld_no]
      rw [← er] at CT
      clear er
      generalize M.raw 6 h = ll at *
      go_enter Try.func15, Try.ntmps15
      go_wp2_with fail
      refine (formOf_any 6 _).mono ?_
      rintro e w0 ⟨rfl, rfl⟩
      go_wp2_with fail
      refine CT.mono ?_
      clear CT
      rintro e W1 ⟨vt, us, rfl, R0, b1⟩
      simp only [World.size_alloc] at R0
      obtain ⟨G, ct, rfl, hG1, hG2⟩ := R0.b.outer.form (by omega)
      have hul : us.length = ll.length := R0.b.len
      have bw1 := bP.trans (b1.mono bP.size)
      have L0 : ShLp w W1 W1 h ll us 0 (.slice none 0 0) [] := ⟨by simpa using Rdg.nil _ _, hP.bl' b1, hQ.bl' b1, bw1, Nat.le_refl _, fun _ _ _ => rfl, fun k hk => by simp [Value.ownBlock] at hk, fun i hi => by simp at hi⟩
      clear bP hP hQ b1
      go_wp2_with fail
      go_loopw [33] (fun s33 wr => ∃ (n : Nat) (v : Value) (vs : List Value), s33 = .int .i64 n ∧ n ≤ ll.length ∧ ShLp w W1 wr h ll us n v vs) (fun s33 _ => ll.length - (intOf s33).toNat)
      case atStart => exact ⟨0, _, _, rfl, Nat.zero_le _, L0⟩
      case round =>
        obtain ⟨n, v, vs, rfl, hn, HL⟩ := hrel
        clear L0
        by_cases hlt : n < ll.length
        · have hun : n < us.length := by omega
          have OU := ownsRow_keep R0.b.outer HL.keep
          have OR := ownsRow_keep (R0.b.inner n hlt hun) HL.keep
          have hc := OU.cells (g := G) rfl n us[n] (by simp [hun])
          rw [Go.WideShapes.add_plain, Nat.zero_add] at hc
          have ht := hl4 _ (List.getElem_mem hlt)
          obtain ⟨at_, ct_, eu⟩ := own_slx OR
          have hmm : ((ll.take n).map (M.fin h)).length ≤ 1048576 := by simp; omega
          have hT : (M.fin h ll[n]).length ≤ 1048576 := by have := M.fin_le h ll[n]; omega
          have F4 : Hid (∀ (w4 : World) (v4 : Value), FinAns wr w4 (w.heap.size + 2) us[n] v4 (M.fin h ll[n]) → ∃ a4 c4, v4 = .slice a4 (M.fin h ll[n]).length c4 ∧ Below wr.heap.size wr w4 ∧ Slot1 w4 (w.heap.size + 1) v ∧ Rdg w4 (w.heap.size + 2) v ((ll.take n).map (M.fin h)) vs) := by
            intro w4 v4 hF
            obtain ⟨a4, c4, e⟩ := own_slx hF.own
            exact ⟨a4, c4, e, hF.bel, HL.p.bl' hF.bel, HL.rd.below hF.bel⟩
          have F5 : Hid (∀ (w4 : World) (v4 : Value), FinAns wr w4 (w.heap.size + 2) us[n] v4 (M.fin h ll[n]) → ∀ (g5 cap5 : Nat) (w5 : World), w5.ownsRow (w.heap.size + 2) 63 1 (.slice (some ⟨g5, 0, none⟩) (((ll.take n).map (M.fin h)).length + 1) cap5) (((ll.take n).map (M.fin h)).length + 1) (vs ++ [v4]) → (w4.alloc (.cells #[v4] 63)).grownBy w5 v.ownBlock → (v.ownBlock = some g5 ∨ g5 = w4.heap.size + 1) → Slot1 w5 (w.heap.size + 1) v ∧ Below w.heap.size w w5 ∧ ∀ u, u = Value.slice (some ⟨g5, 0, none⟩) (((ll.take n).map (M.fin h)).length + 1) cap5 → ShLp w W1 (w5.setCell ⟨w.heap.size + 1, 0, none⟩ u) h ll us (n + 1) u (vs ++ [v4])) := by
            intro w4 v4 hF g5 cap5 w5 ho hg hat
            exact HL.next R0 hlt hun hF ho hg hat (by have := HL.sz; have := hF.bel.size; omega)
          have CN : Calls Try.prog 37 #[.int .i64 h, us[n]] wr.drew fun e w' => ∃ v', e = .returned v' ∧ FinAns wr w' (w.heap.size + 2) us[n] v' (M.fin h ll[n]) :=
            (finish_any h (w.heap.size + 2) us[n] ll[n] wr.drew (by have := HL.p.lt; show w.heap.size + 2 ≤ wr.heap.size; omega) (by omega) (ownsRow_below OR (Below.refl wr.heap.size wr).drew)).mono fun e w' ⟨v', he, hF⟩ => ⟨v', he, hF.undrew⟩
          have HW : Hid (us[n] = .slice at_ ll[n].length ct_) := eu
          rw [eu] at hc CN F4 F5
          clear eu OU OR
          obtain ⟨T4, hT4⟩ : ∃ T4, (M.fin h ll[n]).length = T4 := ⟨_, rfl⟩
          rw [hT4] at F4 hT
          clear hT4
          generalize M.fin h ll[n] = t4 at *
          generalize ll[n] = t at *
          have i1 : (n : Int) < ll.length := by omega
          have hRd := HL.rd
          obtain ⟨av, gv, cv, rfl, _⟩ := hRd.b.ss
          clear hRd
          generalize (ll.take n).map (M.fin h) = mm at *
          have x0 := HL.p.c
          have lP := HL.p.lt
          go_wp2_with fail
          refine wp_region_held_drew (S := fun w' => Below w.heap.size w w') (by kernel_rfl) HL.bel.drew (fun hH => ?_)
          refine takeD 0 (some 37) (.pointer (some ⟨w.heap.size + 1, 0, none⟩)) hH rfl rfl (by kernel_rfl) (by kernel_rfl) (by kernel_rfl) (fun _ _ _ h => h) (Or.inl ⟨by rfl, by intro w' hSw; go_simp⟩) ?_
          simp only [Act.put, List.setIfInBounds_toArray, List.set_cons_zero, List.set_cons_succ]
          refine takeD 2 (some 39) (.int .i64 h) hH rfl rfl (by kernel_rfl) (by kernel_rfl) (by kernel_rfl) (fun _ _ _ h => h) (Or.inl ⟨by rfl, by intro w' hSw; go_simp⟩) ?_
          simp only [Act.put, List.setIfInBounds_toArray, List.set_cons_zero, List.set_cons_succ]
          refine takeD 3 (some 40) (.slice at_ t.length ct_) hH rfl rfl (by kernel_rfl) (by kernel_rfl) (by kernel_rfl) (fun _ _ _ h => h) (Or.inl ⟨by rfl, by intro w' hSw; go_simp⟩) ?_
          simp only [Act.put, List.setIfInBounds_toArray, List.set_cons_zero, List.set_cons_succ]
          refine wpAnyH_ready (rs := [1, 4]) (by kernel_rfl) (by simp) ?_
          refine AllReadyH.cons rfl (fun K' hK => ?_) (AllReadyH.cons rfl (fun K' hK => ?_) AllReadyH.nil)
          · have xx := x0
            rw [if_pos (by rfl)]
            go_simp
            refine hK.out _ _ hH (fun _ => ?_)
            clear hK K' xx
            refine wpAnyH_ready (rs := [4]) (by kernel_rfl) (by simp) ?_
            refine AllReadyH.cons rfl (fun K' hK => ?_) AllReadyH.nil
            refine step_goV (by rfl) (some 41) rfl 37 #[.tmp 39, .tmp 40] _ rfl #[.int .i64 h, .slice at_ t.length ct_] (by simp [Act.eval]) (fun _ _ => rfl) CN ?_
            rintro e w4 ⟨v4, rfl, hF4⟩
            obtain ⟨a4, c4, rfl, b4, hS4, hR4⟩ := F4.out w4 v4 hF4
            refine ⟨_, rfl, ?_⟩
            simp only [Act.put, List.setIfInBounds_toArray, List.set_cons_zero, List.set_cons_succ]
            refine hK.out _ _ (HL.bel.trans (b4.mono HL.bel.size)) (fun hH4 => ?_)
            clear hK K'
            have hS4a := hS4.bl' (below1 w4 (.cells #[.slice a4 T4 c4] 63))
            have S4a : Below w.heap.size w (w4.alloc (.cells #[.slice a4 T4 c4] 63)) := hH4.alloc hH4.size _
            refine wpAnyH_ready (rs := [5]) (by kernel_rfl) (by simp) ?_
            refine AllReadyH.cons rfl (fun K' hK => ?_) AllReadyH.nil
            rw [if_pos (by rfl)]
            go_simp
            refine hK.out _ _ S4a (fun _ => ?_)
            clear hK K'
            refine wpAnyH_ready (rs := [6]) (by kernel_rfl) (by simp) ?_
            refine AllReadyH.cons rfl (fun K' hK => ?_) AllReadyH.nil
            refine step_append_lies _ (by rfl) (.tmp 38) (.tmp 42) 23 (by rfl) (w.heap.size + 2) 63 i0 _ 1 24 Try.underlying23 hi hz0 hz1 hz2 rfl (by decide) (.slice av mm.length cv) mm.length vs (by rfl) ((hR4.b.outer).alloc _) ⟨w4.heap.size, 0, none⟩ 1 1 [.slice a4 T4 c4] (by rfl) (by rfl) (World.news_of_block (cs := #[.slice a4 T4 c4]) (t := 63) (fr := (0, 0)) (heap_alloc_new w4 _)) (by simp [Value.oneCell']) (by omega) (by unfold maxLen; omega) (by omega) (by have := b4.size; simp; omega) (w4.heap.size + 1) (by simp) ?_
            intro g5 cap5 w5 hown5 hg5 hat5 hlt5
            obtain ⟨hS5, b5, hL5⟩ := F5.out w4 _ hF4 g5 cap5 w5 hown5 hg5 hat5
            simp only [Act.put, List.setIfInBounds_toArray, List.set_cons_zero, List.set_cons_succ]
            refine hK.out _ _ b5 (fun hH5 => ?_)
            clear hK K'
            refine takeD 7 (some 44) (.pointer (some ⟨w.heap.size + 1, 0, none⟩)) hH5 rfl rfl (by kernel_rfl) (by kernel_rfl) (by kernel_rfl) (fun _ _ _ h => h) (Or.inl ⟨by rfl, by intro w' hSw; go_simp⟩) ?_
            simp only [Act.put, List.setIfInBounds_toArray, List.set_cons_zero, List.set_cons_succ]
            refine wpAnyH_ready (rs := [8]) (by kernel_rfl) (by simp) ?_
            refine AllReadyH.cons rfl (fun K' hK => ?_) AllReadyH.nil
            have xc := hS5.c
            have xz := hS5.fz
            rw [if_pos (by rfl)]
            go_simp
            refine hK.out _ _ (b5.setCell (by show w.heap.size ≤ w.heap.size + 1; omega) _) (fun _ => ?_)
            clear hK K'
            refine wpAnyH_done (by kernel_rfl) ?_ _
            clear xc xz
            go_wp2_with fail
            exact ⟨⟨n + 1, _, _, by go_num, by omega, hL5 _ rfl⟩, by simp [intOf]; omega⟩
          · refine step_goV (by rfl) (some 41) rfl 37 #[.tmp 39, .tmp 40] _ rfl #[.int .i64 h, .slice at_ t.length ct_] (by simp [Act.eval]) (fun _ _ => rfl) CN ?_
            rintro e w4 ⟨v4, rfl, hF4⟩
            obtain ⟨a4, c4, rfl, b4, hS4, hR4⟩ := F4.out w4 v4 hF4
            refine ⟨_, rfl, ?_⟩
            simp only [Act.put, List.setIfInBounds_toArray, List.set_cons_zero, List.set_cons_succ]
            refine hK.out _ _ (HL.bel.trans (b4.mono HL.bel.size)) (fun hH4 => ?_)
            clear hK K'
            have hS4a := hS4.bl' (below1 w4 (.cells #[.slice a4 T4 c4] 63))
            have S4a : Below w.heap.size w (w4.alloc (.cells #[.slice a4 T4 c4] 63)) := hH4.alloc hH4.size _
            refine wpAnyH_ready (rs := [1, 5]) (by kernel_rfl) (by simp) ?_
            refine AllReadyH.cons rfl (fun K' hK => ?_) (AllReadyH.cons rfl (fun K' hK => ?_) AllReadyH.nil)
            · have xx := hS4.c
              rw [if_pos (by rfl)]
              go_simp
              refine hK.out _ _ hH4 (fun _ => ?_)
              clear hK K' xx
              refine wpAnyH_ready (rs := [5]) (by kernel_rfl) (by simp) ?_
              refine AllReadyH.cons rfl (fun K' hK => ?_) AllReadyH.nil
              rw [if_pos (by rfl)]
              go_simp
              refine hK.out _ _ S4a (fun _ => ?_)
              clear hK K'
              refine wpAnyH_ready (rs := [6]) (by kernel_rfl) (by simp) ?_
              refine AllReadyH.cons rfl (fun K' hK => ?_) AllReadyH.nil
              refine step_append_lies _ (by rfl) (.tmp 38) (.tmp 42) 23 (by rfl) (w.heap.size + 2) 63 i0 _ 1 24 Try.underlying23 hi hz0 hz1 hz2 rfl (by decide) (.slice av mm.length cv) mm.length vs (by rfl) ((hR4.b.outer).alloc _) ⟨w4.heap.size, 0, none⟩ 1 1 [.slice a4 T4 c4] (by rfl) (by rfl) (World.news_of_block (cs := #[.slice a4 T4 c4]) (t := 63) (fr := (0, 0)) (heap_alloc_new w4 _)) (by simp [Value.oneCell']) (by omega) (by unfold maxLen; omega) (by omega) (by have := b4.size; simp; omega) (w4.heap.size + 1) (by simp) ?_
              intro g5 cap5 w5 hown5 hg5 hat5 hlt5
              obtain ⟨hS5, b5, hL5⟩ := F5.out w4 _ hF4 g5 cap5 w5 hown5 hg5 hat5
              simp only [Act.put, List.setIfInBounds_toArray, List.set_cons_zero, List.set_cons_succ]
              refine hK.out _ _ b5 (fun hH5 => ?_)
              clear hK K'
              refine takeD 7 (some 44) (.pointer (some ⟨w.heap.size + 1, 0, none⟩)) hH5 rfl rfl (by kernel_rfl) (by kernel_rfl) (by kernel_rfl) (fun _ _ _ h => h) (Or.inl ⟨by rfl, by intro w' hSw; go_simp⟩) ?_
              simp only [Act.put, List.setIfInBounds_toArray, List.set_cons_zero, List.set_cons_succ]
              refine wpAnyH_ready (rs := [8]) (by kernel_rfl) (by simp) ?_
              refine AllReadyH.cons rfl (fun K' hK => ?_) AllReadyH.nil
              have xc := hS5.c
              have xz := hS5.fz
              rw [if_pos (by rfl)]
              go_simp
              refine hK.out _ _ (b5.setCell (by show w.heap.size ≤ w.heap.size + 1; omega) _) (fun _ => ?_)
              clear hK K'
              refine wpAnyH_done (by kernel_rfl) ?_ _
              clear xc xz
              go_wp2_with fail
              exact ⟨⟨n + 1, _, _, by go_num, by omega, hL5 _ rfl⟩, by simp [intOf]; omega⟩
            · rw [if_pos (by rfl)]
              go_simp
              refine hK.out _ _ S4a (fun _ => ?_)
              clear hK K'
              refine wpAnyH_ready (rs := [1]) (by kernel_rfl) (by simp) ?_
              refine AllReadyH.cons rfl (fun K' hK => ?_) AllReadyH.nil
              have xx := hS4a.c
              rw [if_pos (by rfl)]
              go_simp
              refine hK.out _ _ S4a (fun _ => ?_)
              clear hK K' xx
              refine wpAnyH_ready (rs := [6]) (by kernel_rfl) (by simp) ?_
              refine AllReadyH.cons rfl (fun K' hK => ?_) AllReadyH.nil
              refine step_append_lies _ (by rfl) (.tmp 38) (.tmp 42) 23 (by rfl) (w.heap.size + 2) 63 i0 _ 1 24 Try.underlying23 hi hz0 hz1 hz2 rfl (by decide) (.slice av mm.length cv) mm.length vs (by rfl) ((hR4.b.outer).alloc _) ⟨w4.heap.size, 0, none⟩ 1 1 [.slice a4 T4 c4] (by rfl) (by rfl) (World.news_of_block (cs := #[.slice a4 T4 c4]) (t := 63) (fr := (0, 0)) (heap_alloc_new w4 _)) (by simp [Value.oneCell']) (by omega) (by unfold maxLen; omega) (by omega) (by have := b4.size; simp; omega) (w4.heap.size + 1) (by simp) ?_
              intro g5 cap5 w5 hown5 hg5 hat5 hlt5
              obtain ⟨hS5, b5, hL5⟩ := F5.out w4 _ hF4 g5 cap5 w5 hown5 hg5 hat5
              simp only [Act.put, List.setIfInBounds_toArray, List.set_cons_zero, List.set_cons_succ]
              refine hK.out _ _ b5 (fun hH5 => ?_)
              clear hK K'
              refine takeD 7 (some 44) (.pointer (some ⟨w.heap.size + 1, 0, none⟩)) hH5 rfl rfl (by kernel_rfl) (by kernel_rfl) (by kernel_rfl) (fun _ _ _ h => h) (Or.inl ⟨by rfl, by intro w' hSw; go_simp⟩) ?_
              simp only [Act.put, List.setIfInBounds_toArray, List.set_cons_zero, List.set_cons_succ]
              refine wpAnyH_ready (rs := [8]) (by kernel_rfl) (by simp) ?_
              refine AllReadyH.cons rfl (fun K' hK => ?_) AllReadyH.nil
              have xc := hS5.c
              have xz := hS5.fz
              rw [if_pos (by rfl)]
              go_simp
              refine hK.out _ _ (b5.setCell (by show w.heap.size ≤ w.heap.size + 1; omega) _) (fun _ => ?_)
              clear hK K'
              refine wpAnyH_done (by kernel_rfl) ?_ _
              clear xc xz
              go_wp2_with fail
              exact ⟨⟨n + 1, _, _, by go_num, by omega, hL5 _ rfl⟩, by simp [intOf]; omega⟩
        · have htk : ll.take n = ll := List.take_of_length_le (by omega)
          obtain ⟨hR, hP, hQ, hbel, _, _, _, _⟩ := HL
          rw [htk] at hR
          obtain ⟨rr, hrr⟩ : ∃ rr, ll.map (M.fin h) = rr := ⟨_, rfl⟩
          rw [hrr] at hR
          have HRR : Hid (ll.map (M.fin h) = rr) := hrr
          clear hrr
          obtain ⟨av, gv, cv, rfl, _⟩ := hR.b.ss
          have hkn' : ¬ (n : Int) < ll.length := by omega
          have p0 := hP.c
          have pf := hP.fz
          have q0 := hQ.c
          have qf := hQ.fz
          have lP := hP.lt
          have lQ := hQ.lt
          have hne : w.heap.size ≠ w.heap.size + 1 := by omega
          go_wp2_with fail
          have q1 := (hQ.set (.slice av rr.length cv)).c
          exact bodyPost_ret (v := .tuple #[.agg #[.slice av rr.length cv], .bool true]) (by simp [results, Try.results15, go_sem, q1]) rfl ⟨_, rfl, ⟨vs, by rw [HRR.out]; exact (hR.far (by omega) _).mono (by omega)⟩, hbel.setCell (Nat.le_refl _) _⟩

end Go.Proofs.Ytiaibfalmmnipaa
