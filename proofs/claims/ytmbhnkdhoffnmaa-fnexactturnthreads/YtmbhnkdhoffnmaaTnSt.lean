/- spec.TurnThreads. Of at most 1048576 threads, steps of a thread and numbers. -/
import Derived.Test.YtmbhnkdhoffnmaaTnCp
import Derived.Test.YtmbhnkdhoffnmaaTnSr
import Derived.Test.YtmbhnkdhoffnmaaTnAp
import Derived.Test.YtmbhnkdhoffnmaaSProg
namespace Go.Proofs.Ytmbhnkdhoffnmaa
open Go.RowKit

set_option maxHeartbeats 4000000 in
set_option maxRecDepth 100000 in
set_option linter.unusedSimpArgs false in
theorem sturnThreads_any (a : Option Addr) (b o c : Nat) (ll : List (List M.D)) (hl : ll.length ≤ 1048576) (hls : ∀ t ∈ ll, t.length ≤ 1048576) (ga : Option Addr) (gb go gc : Nat) (gs : List Int) (hgl : gs.length ≤ 1048576) (w : World) (h : DoSS w a b o ll) (hG : IntS w ga gb go gs) :
    Calls Try.prog 10 #[.agg #[.slice a ll.length c], .slice ga gs.length gc] w fun e w' => ∃ v, e = .returned (.tuple #[.agg #[v], .bool (M.turnThreads ll gs).isSome]) ∧ (∃ vs, Rdg w' w.heap.size v ((M.turnThreads ll gs).getD []) vs) ∧ Below w.heap.size w w' := by
  obtain ⟨i0, hi, hz0, hz1, hz2⟩ := info_parts Try.info50
  obtain ⟨j0, hj, hy0, hy1, hy2⟩ := info_parts Try.info56
  have b2 := below2 w (.cells #[.slice a ll.length c] 25) (.cells #[.slice none 0 0] 25)
  have h2 := h.below b2 (Nat.le_refl _)
  have hG2 := hG.below b2 (Nat.le_refl _)
  have hX := (Slot1.new w (.slice a ll.length c) 25).bl' (below1 _ (.cells #[.slice none 0 0] 25))
  have hY := Slot1.new (w.alloc (.cells #[.slice a ll.length c] 25)) (.slice none 0 0) 25
  rw [World.size_alloc] at hY
  go_enter Try.func10, Try.ntmps10
  cases hp : M.prog ll
  · have hno := M.turnThreads_bad (row := gs) hp
    have CP := sprog_any a b o c ll _ hl hls h2
    rw [hp] at CP
    go_wp2_with (first | (go_at_call 33; refine CP.mono ?_; rintro e W1 ⟨rfl, b1⟩; have hY1 := hY.bl' b1; have y0 := hY1.c; have yf := hY1.fz; have ly := hY1.lt))
    have bw1 := b2.trans (b1.mono b2.size)
    have q1 := (hY1.set (.slice none 0 0)).c
    exact bodyPost_ret (v := .tuple #[.agg #[.slice none 0 0], .bool false]) (by simp [results, Try.results10, go_sem, q1]) rfl ⟨_, by rw [hno]; rfl, ⟨[], by rw [hno]; exact Rdg.nil _ _⟩, bw1.setCell (by show w.heap.size ≤ w.heap.size + 1; omega) _⟩
  · obtain ⟨h3, h7⟩ := M.prog_le hp
    have CP := sprog_any a b o c ll _ hl hls h2
    rw [hp] at CP
    have CO := fun W hW => l22Row_any ga gb go gc gs ll.length W hgl (by omega) hW
    cases hok : M.rowN gs ll.length
    · have hno := M.turnThreads_row (ll := ll) hok
      rw [hok] at CO
      go_wp2_with (first | (go_at_call 33; refine CP.mono ?_; rintro e W1 ⟨rfl, b1⟩; have hX1 := hX.bl' b1; have x0 := hX1.c; have hG1 := hG2.below b1 (Nat.le_refl _); have hY1 := hY.bl' b1; have y0 := hY1.c; have yf := hY1.fz; have ly := hY1.lt) | (go_at_call 34; refine (CO _ hG1).mono ?_; rintro e W2 ⟨rfl, rfl⟩))
      have bw1 := b2.trans (b1.mono b2.size)
      have q1 := (hY1.set (.slice none 0 0)).c
      exact bodyPost_ret (v := .tuple #[.agg #[.slice none 0 0], .bool false]) (by simp [results, Try.results10, go_sem, q1]) rfl ⟨_, by rw [hno]; rfl, ⟨[], by rw [hno]; exact Rdg.nil _ _⟩, bw1.setCell (by show w.heap.size ≤ w.heap.size + 1; omega) _⟩
    · rw [hok] at CO
      have hyes := M.turnThreads_yes hp hok
      have HY1 : Hid ((M.turnThreads ll gs).isSome = true) := by show _ = _; rw [hyes]; rfl
      have HY2 : Hid ((M.turnThreads ll gs).getD [] = M.pick [] gs ll) := by show _ = _; rw [hyes]; rfl
      have HR : Hid (M.rowN gs ll.length = true) := hok
      have HL : Hid (gs.length = ll.length) := M.rowN_len hok
      clear hyes hok hp
      go_wp2_with (first | (go_at_call 33; refine CP.mono ?_; rintro e W1 ⟨rfl, b1⟩; have hX1 := hX.bl' b1; have x0 := hX1.c; have hG1 := hG2.below b1 (Nat.le_refl _); have hY1 := hY.bl' b1) | (go_at_call 34; refine (CO _ hG1).mono ?_; rintro e W2 ⟨rfl, rfl⟩))
      have bw1 := b2.trans (b1.mono b2.size)
      have bA := below1 W2 (.cells #[.slice none 0 0] 25)
      have hXA := hX1.bl' bA
      have hYA := hY1.bl' bA
      have hZA := Slot1.new W2 (.slice none 0 0) 25
      have lX := hX1.lt
      have lY := hY1.lt
      have hD := h.below bw1 (Nat.le_refl _)
      generalize W2.alloc (.cells #[.slice none 0 0] 25) = WA at *
      have hX1c := hX1.c
      clear CP CO x0 hX hY h2 hG2 b2 b1 hX1
      go_loopw [7] (fun s7 wr => ∃ (n : Nat) (v : Value) (vs : List Value), s7 = .int .i64 n ∧ n ≤ gs.length ∧ Rdg wr (W2.heap.size + 1) v (M.pick [] (gs.take n) ll) vs ∧ Slot1 wr W2.heap.size v ∧ Slot1 wr (w.heap.size + 1) (.slice none 0 0) ∧ Below W2.heap.size W2 wr) (fun s7 _ => gs.length - (intOf s7).toNat)
      case atStart => exact ⟨0, .slice none 0 0, [], rfl, Nat.zero_le _, by simpa [M.pick] using Rdg.nil _ _, hZA, hYA, bA⟩
      case round =>
        obtain ⟨n, v, vs, rfl, hn, hR, hP, hY, hbel⟩ := hrel
        clear hZA hXA hYA bA
        by_cases hlt : n < gs.length
        · obtain ⟨rfl⟩ := hG1.addr (by omega)
          have hg0 := hG1.row n hlt
          have HB : Hid (M.pick [] (gs.take (n + 1)) ll = M.pick [] (gs.take n) ll ++ [ll.getD gs[n].toNat []]) := M.pick_take [] gs ll n hlt
          obtain ⟨r0, r1⟩ := M.rowN_get HR.out n hlt
          generalize gs[n] = y at *
          obtain ⟨j, rfl⟩ : ∃ j : Nat, y = j := ⟨y.toNat, by omega⟩
          have hjl : j < ll.length := by omega
          obtain ⟨rfl⟩ := h.addr (by omega)
          obtain ⟨a', b', o', c', hc, hd0⟩ := hD.row j hjl
          have HW : Hid (M.pick [] (gs.take (n + 1)) ll = M.pick [] (gs.take n) ll ++ [ll[j]]) := by show _ = _; rw [HB.out]; congr 2; exact M.getD_get hjl
          clear HB
          have hmm : (M.pick [] (gs.take n) ll).length ≤ 1048576 := by rw [M.pick_len]; simp; omega
          have ht := hls _ (List.getElem_mem hjl)
          generalize ll[j] = t at *
          generalize M.pick [] (gs.take n) ll = mm at *
          have i1 : (n : Int) < gs.length := by omega
          have i2 : (j : Int) < ll.length := by omega
          obtain ⟨av, gv, cv, rfl, _⟩ := hR.b.ss
          have x0 := hP.c
          have lP := hP.lt
          have CX : ∀ w', Below W2.heap.size W2 w' → w'.cell? ⟨w.heap.size, 0, none⟩ = some (.slice (some ⟨b, o, none⟩) ll.length c) := fun w' hw => (hw.cell (p := ⟨w.heap.size, 0, none⟩) lX).trans hX1c
          have CG : ∀ w', Below W2.heap.size W2 w' → w'.cell? ⟨gb, go + n, none⟩ = some (.int .i64 j) := fun w' hw => (hw.cell (p := ⟨gb, go + n, none⟩) (World.block_lt_of_cell? _ _ hg0)).trans hg0
          have CT : ∀ w', Below W2.heap.size W2 w' → w'.cell? ⟨b, o + j, none⟩ = some (.slice a' t.length c') := fun w' hw => (hw.cell (p := ⟨b, o + j, none⟩) (World.block_lt_of_cell? _ _ hc)).trans hc
          have bE : Below wr.heap.size wr (wr.drew.alloc (.cells #[] 56)) := (Below.refl wr.heap.size wr).drew.alloc (Nat.le_refl _) _
          have SA : Below W2.heap.size W2 (wr.drew.alloc (.cells #[] 56)) := hbel.trans (bE.mono hbel.size)
          have SXA := (hP.bl' bE).c
          have OA : (wr.drew.alloc (.cells #[] 56)).ownsRow wr.heap.size 56 3 (.slice (some ⟨wr.heap.size, 0, none⟩) 0 0) 0 [] := own_emp (heap_alloc_new wr.drew _) (Nat.le_refl _)
          have DA : DoS (wr.drew.alloc (.cells #[] 56)) a' b' o' t := hd0.below SA (Nat.le_refl _)
          have F4 : Hid (∀ (w4 : World) (v4 : Value), w4.ownsRow wr.heap.size 56 3 v4 t.length (flat t) → (wr.drew.alloc (.cells #[] 56)).grownBy w4 (some wr.heap.size) → ∃ a4 c4, v4 = .slice a4 t.length c4 ∧ Below wr.heap.size wr w4 ∧ Slot1 w4 W2.heap.size (.slice av mm.length cv) ∧ Rdg w4 (W2.heap.size + 1) (.slice av mm.length cv) mm vs) := by
            intro w4 v4 ho hg
            obtain ⟨a4, c4, e⟩ := own_slx ho
            have b4 : Below wr.heap.size wr w4 := below_grown bE hg (fun j hj => by have : wr.heap.size = j := Option.some.inj hj; omega) bE.size
            exact ⟨a4, c4, e, b4, hP.bl' b4, hR.below b4⟩
          have F5 : Hid (∀ (w4 : World) (a4 : Option Addr) (c4 : Nat), Below wr.heap.size wr w4 → w4.ownsRow wr.heap.size 56 3 (.slice a4 t.length c4) t.length (flat t) → ∀ (g5 cap5 : Nat) (w5 : World), w5.ownsRow (W2.heap.size + 1) 50 1 (.slice (some ⟨g5, 0, none⟩) (mm.length + 1) cap5) (mm.length + 1) (vs ++ [.slice a4 t.length c4]) → (w4.alloc (.cells #[.slice a4 t.length c4] 50)).grownBy w5 (Value.slice av mm.length cv).ownBlock → Below W2.heap.size W2 w5 ∧ Slot1 w5 W2.heap.size (.slice av mm.length cv) ∧ Slot1 w5 (w.heap.size + 1) (.slice none 0 0) ∧ Rdg w5 (W2.heap.size + 1) (.slice (some ⟨g5, 0, none⟩) (mm.length + 1) cap5) (mm ++ [t]) (vs ++ [.slice a4 t.length c4])) := by
            intro w4 a4 c4 b4 hx4 g5 cap5 w5 ho hg
            have hal := below1 w4 (.cells #[.slice a4 t.length c4] 50)
            have hge := own_ge hR.b.outer
            have b4a := b4.trans (hal.mono b4.size)
            have bwa := hbel.trans (b4a.mono hbel.size)
            refine ⟨below_grown bwa hg (fun j hj => by have := hge j hj; omega) bwa.size, (hP.bl' b4a).apart hg (fun e => by have := hge _ e; omega), (hY.bl' b4a).apart hg (fun e => by have := hge _ e; omega), ((hR.below b4).below hal).snocT (ownsRow_mono (ownsRow_below hx4 hal) (by omega)) (fun i hi j hj e => ?_) ho hg⟩
            have h1 := ((hR.b.inner i (by have := hR.b.len; omega) hi).lt j hj).2
            have h2 := own_ge hx4 j e
            omega
          go_wp2_with fail
          refine wp_region_held_drew (S := fun w' => Below W2.heap.size W2 w') (by kernel_rfl) hbel.drew (fun hH => ?_)
          refine takeD 0 (some 27) (.pointer (some ⟨W2.heap.size, 0, none⟩)) hH rfl rfl (by kernel_rfl) (by kernel_rfl) (by kernel_rfl) (fun _ _ _ h => h) (Or.inl ⟨by rfl, by intro w' hSw; go_simp⟩) ?_
          simp only [Act.put, List.setIfInBounds_toArray, List.set_cons_zero, List.set_cons_succ]
          refine takeD 3 (some 30) (.pointer (some ⟨w.heap.size, 0, none⟩)) hH rfl rfl (by kernel_rfl) (by kernel_rfl) (by kernel_rfl) (fun _ _ _ h => h) (Or.inl ⟨by rfl, by intro w' hSw; go_simp⟩) ?_
          simp only [Act.put, List.setIfInBounds_toArray, List.set_cons_zero, List.set_cons_succ]
          refine takeD 4 (some 31) (.slice (some ⟨b, o, none⟩) ll.length c) hH rfl rfl (by kernel_rfl) (by kernel_rfl) (by kernel_rfl) (fun _ _ _ h => h) (Or.inl ⟨by rfl, by intro w' hSw; have hc := CX w' hSw; go_simp⟩) ?_
          simp only [Act.put, List.setIfInBounds_toArray, List.set_cons_zero, List.set_cons_succ]
          refine takeD 5 (some 32) (.slice (some ⟨gb, go, none⟩) gs.length gc) hH rfl rfl (by kernel_rfl) (by kernel_rfl) (by kernel_rfl) (fun _ _ _ h => h) (Or.inl ⟨by rfl, by intro w' hSw; go_simp⟩) ?_
          simp only [Act.put, List.setIfInBounds_toArray, List.set_cons_zero, List.set_cons_succ]
          refine takeD 6 (some 33) (.int .i64 n) hH rfl rfl (by kernel_rfl) (by kernel_rfl) (by kernel_rfl) (fun _ _ _ h => h) (Or.inl ⟨by rfl, by intro w' hSw; go_simp⟩) ?_
          simp only [Act.put, List.setIfInBounds_toArray, List.set_cons_zero, List.set_cons_succ]
          refine takeD 7 (some 34) (.pointer (some ⟨gb, go + n, none⟩)) hH rfl rfl (by kernel_rfl) (by kernel_rfl) (by kernel_rfl) (fun _ _ _ h => h) (Or.inl ⟨by rfl, by intro w' hSw; go_simp⟩) ?_
          simp only [Act.put, List.setIfInBounds_toArray, List.set_cons_zero, List.set_cons_succ]
          refine takeD 8 (some 35) (.int .i64 j) hH rfl rfl (by kernel_rfl) (by kernel_rfl) (by kernel_rfl) (fun _ _ _ h => h) (Or.inl ⟨by rfl, by intro w' hSw; have hc := CG w' hSw; go_simp⟩) ?_
          simp only [Act.put, List.setIfInBounds_toArray, List.set_cons_zero, List.set_cons_succ]
          refine takeD 9 (some 36) (.pointer (some ⟨b, o + j, none⟩)) hH rfl rfl (by kernel_rfl) (by kernel_rfl) (by kernel_rfl) (fun _ _ _ h => h) (Or.inl ⟨by rfl, by intro w' hSw; go_simp⟩) ?_
          simp only [Act.put, List.setIfInBounds_toArray, List.set_cons_zero, List.set_cons_succ]
          refine takeD 10 (some 37) (.slice a' t.length c') hH rfl rfl (by kernel_rfl) (by kernel_rfl) (by kernel_rfl) (fun _ _ _ h => h) (Or.inl ⟨by rfl, by intro w' hSw; have hc := CT w' hSw; go_simp⟩) ?_
          simp only [Act.put, List.setIfInBounds_toArray, List.set_cons_zero, List.set_cons_succ]
          refine wpAnyH_ready (rs := [1, 2]) (by kernel_rfl) (by simp) ?_
          refine AllReadyH.cons rfl (fun K' hK => ?_) (AllReadyH.cons rfl (fun K' hK => ?_) AllReadyH.nil)
          · have xx := x0
            rw [if_pos (by rfl)]
            go_simp
            refine hK.out _ _ hH (fun _ => ?_)
            clear hK K' xx
            refine wpAnyH_ready (rs := [2]) (by kernel_rfl) (by simp) ?_
            refine AllReadyH.cons rfl (fun K' hK => ?_) AllReadyH.nil
            rw [if_pos (by rfl)]
            go_simp
            refine hK.out _ _ SA (fun _ => ?_)
            clear hK K'
            refine wpAnyH_ready (rs := [11]) (by kernel_rfl) (by simp) ?_
            refine AllReadyH.cons rfl (fun K' hK => ?_) AllReadyH.nil
            refine step_append_does (by rfl) (.tmp 29) (.tmp 37) 50 (by rfl) (some 38) rfl wr.heap.size 56 j0 Try.underlying50 hj hy0 hy1 hy2 wr.heap.size (by rfl) OA (by simp) a' b' o' c' t (by rfl) DA ht ?_
            intro v4 w4 ho4 hg4 hat4
            obtain ⟨a4, c4, rfl, b4, hS4, hR4⟩ := F4.out w4 v4 ho4 hg4
            simp only [Act.put, List.setIfInBounds_toArray, List.set_cons_zero, List.set_cons_succ]
            refine hK.out _ _ (hbel.trans (b4.mono hbel.size)) (fun hH4 => ?_)
            clear hK K'
            have hS4a := hS4.bl' (below1 w4 (.cells #[.slice a4 t.length c4] 50))
            have S4a : Below W2.heap.size W2 (w4.alloc (.cells #[.slice a4 t.length c4] 50)) := hH4.alloc hH4.size _
            refine wpAnyH_ready (rs := [12]) (by kernel_rfl) (by simp) ?_
            refine AllReadyH.cons rfl (fun K' hK => ?_) AllReadyH.nil
            rw [if_pos (by rfl)]
            go_simp
            refine hK.out _ _ S4a (fun _ => ?_)
            clear hK K'
            refine wpAnyH_ready (rs := [13]) (by kernel_rfl) (by simp) ?_
            refine AllReadyH.cons rfl (fun K' hK => ?_) AllReadyH.nil
            refine step_append_lies _ (by rfl) (.tmp 28) (.tmp 39) 23 (by rfl) (W2.heap.size + 1) 50 i0 _ 1 24 Try.underlying23 hi hz0 hz1 hz2 rfl (by decide) (.slice av mm.length cv) mm.length vs (by rfl) ((hR4.b.outer).alloc _) ⟨w4.heap.size, 0, none⟩ 1 1 [.slice a4 t.length c4] (by rfl) (by rfl) (World.news_of_block (cs := #[.slice a4 t.length c4]) (t := 50) (fr := (0, 0)) (heap_alloc_new w4 _)) (by simp [Value.oneCell']) (by omega) (by unfold maxLen; omega) (by omega) (by have := b4.size; simp; omega) (w4.heap.size + 1) (by simp) ?_
            intro g5 cap5 w5 hown5 hg5 hat5 hlt5
            obtain ⟨b5, hS5, hQ5, hR5⟩ := F5.out w4 a4 c4 b4 ho4 g5 cap5 w5 hown5 hg5
            simp only [Act.put, List.setIfInBounds_toArray, List.set_cons_zero, List.set_cons_succ]
            refine hK.out _ _ b5 (fun hH5 => ?_)
            clear hK K'
            refine takeD 14 (some 41) (.pointer (some ⟨W2.heap.size, 0, none⟩)) hH5 rfl rfl (by kernel_rfl) (by kernel_rfl) (by kernel_rfl) (fun _ _ _ h => h) (Or.inl ⟨by rfl, by intro w' hSw; go_simp⟩) ?_
            simp only [Act.put, List.setIfInBounds_toArray, List.set_cons_zero, List.set_cons_succ]
            refine wpAnyH_ready (rs := [15]) (by kernel_rfl) (by simp) ?_
            refine AllReadyH.cons rfl (fun K' hK => ?_) AllReadyH.nil
            have xc := hS5.c
            have xz := hS5.fz
            rw [if_pos (by rfl)]
            go_simp
            refine hK.out _ _ (b5.setCell (Nat.le_refl _) _) (fun _ => ?_)
            clear hK K'
            refine wpAnyH_done (by kernel_rfl) ?_ _
            clear xc xz
            go_wp2_with fail
            exact ⟨⟨n + 1, _, _, by go_num, by omega, by rw [HW.out]; exact hR5.far (by omega) _, hS5.set _, hQ5.far (by omega) _, b5.setCell (Nat.le_refl _) _⟩, by simp [intOf]; omega⟩
          · rw [if_pos (by rfl)]
            go_simp
            refine hK.out _ _ SA (fun _ => ?_)
            clear hK K'
            refine wpAnyH_ready (rs := [1, 11]) (by kernel_rfl) (by simp) ?_
            refine AllReadyH.cons rfl (fun K' hK => ?_) (AllReadyH.cons rfl (fun K' hK => ?_) AllReadyH.nil)
            · have xx := SXA
              rw [if_pos (by rfl)]
              go_simp
              refine hK.out _ _ SA (fun _ => ?_)
              clear hK K' xx
              refine wpAnyH_ready (rs := [11]) (by kernel_rfl) (by simp) ?_
              refine AllReadyH.cons rfl (fun K' hK => ?_) AllReadyH.nil
              refine step_append_does (by rfl) (.tmp 29) (.tmp 37) 50 (by rfl) (some 38) rfl wr.heap.size 56 j0 Try.underlying50 hj hy0 hy1 hy2 wr.heap.size (by rfl) OA (by simp) a' b' o' c' t (by rfl) DA ht ?_
              intro v4 w4 ho4 hg4 hat4
              obtain ⟨a4, c4, rfl, b4, hS4, hR4⟩ := F4.out w4 v4 ho4 hg4
              simp only [Act.put, List.setIfInBounds_toArray, List.set_cons_zero, List.set_cons_succ]
              refine hK.out _ _ (hbel.trans (b4.mono hbel.size)) (fun hH4 => ?_)
              clear hK K'
              have hS4a := hS4.bl' (below1 w4 (.cells #[.slice a4 t.length c4] 50))
              have S4a : Below W2.heap.size W2 (w4.alloc (.cells #[.slice a4 t.length c4] 50)) := hH4.alloc hH4.size _
              refine wpAnyH_ready (rs := [12]) (by kernel_rfl) (by simp) ?_
              refine AllReadyH.cons rfl (fun K' hK => ?_) AllReadyH.nil
              rw [if_pos (by rfl)]
              go_simp
              refine hK.out _ _ S4a (fun _ => ?_)
              clear hK K'
              refine wpAnyH_ready (rs := [13]) (by kernel_rfl) (by simp) ?_
              refine AllReadyH.cons rfl (fun K' hK => ?_) AllReadyH.nil
              refine step_append_lies _ (by rfl) (.tmp 28) (.tmp 39) 23 (by rfl) (W2.heap.size + 1) 50 i0 _ 1 24 Try.underlying23 hi hz0 hz1 hz2 rfl (by decide) (.slice av mm.length cv) mm.length vs (by rfl) ((hR4.b.outer).alloc _) ⟨w4.heap.size, 0, none⟩ 1 1 [.slice a4 t.length c4] (by rfl) (by rfl) (World.news_of_block (cs := #[.slice a4 t.length c4]) (t := 50) (fr := (0, 0)) (heap_alloc_new w4 _)) (by simp [Value.oneCell']) (by omega) (by unfold maxLen; omega) (by omega) (by have := b4.size; simp; omega) (w4.heap.size + 1) (by simp) ?_
              intro g5 cap5 w5 hown5 hg5 hat5 hlt5
              obtain ⟨b5, hS5, hQ5, hR5⟩ := F5.out w4 a4 c4 b4 ho4 g5 cap5 w5 hown5 hg5
              simp only [Act.put, List.setIfInBounds_toArray, List.set_cons_zero, List.set_cons_succ]
              refine hK.out _ _ b5 (fun hH5 => ?_)
              clear hK K'
              refine takeD 14 (some 41) (.pointer (some ⟨W2.heap.size, 0, none⟩)) hH5 rfl rfl (by kernel_rfl) (by kernel_rfl) (by kernel_rfl) (fun _ _ _ h => h) (Or.inl ⟨by rfl, by intro w' hSw; go_simp⟩) ?_
              simp only [Act.put, List.setIfInBounds_toArray, List.set_cons_zero, List.set_cons_succ]
              refine wpAnyH_ready (rs := [15]) (by kernel_rfl) (by simp) ?_
              refine AllReadyH.cons rfl (fun K' hK => ?_) AllReadyH.nil
              have xc := hS5.c
              have xz := hS5.fz
              rw [if_pos (by rfl)]
              go_simp
              refine hK.out _ _ (b5.setCell (Nat.le_refl _) _) (fun _ => ?_)
              clear hK K'
              refine wpAnyH_done (by kernel_rfl) ?_ _
              clear xc xz
              go_wp2_with fail
              exact ⟨⟨n + 1, _, _, by go_num, by omega, by rw [HW.out]; exact hR5.far (by omega) _, hS5.set _, hQ5.far (by omega) _, b5.setCell (Nat.le_refl _) _⟩, by simp [intOf]; omega⟩
            · refine step_append_does (by rfl) (.tmp 29) (.tmp 37) 50 (by rfl) (some 38) rfl wr.heap.size 56 j0 Try.underlying50 hj hy0 hy1 hy2 wr.heap.size (by rfl) OA (by simp) a' b' o' c' t (by rfl) DA ht ?_
              intro v4 w4 ho4 hg4 hat4
              obtain ⟨a4, c4, rfl, b4, hS4, hR4⟩ := F4.out w4 v4 ho4 hg4
              simp only [Act.put, List.setIfInBounds_toArray, List.set_cons_zero, List.set_cons_succ]
              refine hK.out _ _ (hbel.trans (b4.mono hbel.size)) (fun hH4 => ?_)
              clear hK K'
              have hS4a := hS4.bl' (below1 w4 (.cells #[.slice a4 t.length c4] 50))
              have S4a : Below W2.heap.size W2 (w4.alloc (.cells #[.slice a4 t.length c4] 50)) := hH4.alloc hH4.size _
              refine wpAnyH_ready (rs := [1, 12]) (by kernel_rfl) (by simp) ?_
              refine AllReadyH.cons rfl (fun K' hK => ?_) (AllReadyH.cons rfl (fun K' hK => ?_) AllReadyH.nil)
              · have xx := hS4.c
                rw [if_pos (by rfl)]
                go_simp
                refine hK.out _ _ hH4 (fun _ => ?_)
                clear hK K' xx
                refine wpAnyH_ready (rs := [12]) (by kernel_rfl) (by simp) ?_
                refine AllReadyH.cons rfl (fun K' hK => ?_) AllReadyH.nil
                rw [if_pos (by rfl)]
                go_simp
                refine hK.out _ _ S4a (fun _ => ?_)
                clear hK K'
                refine wpAnyH_ready (rs := [13]) (by kernel_rfl) (by simp) ?_
                refine AllReadyH.cons rfl (fun K' hK => ?_) AllReadyH.nil
                refine step_append_lies _ (by rfl) (.tmp 28) (.tmp 39) 23 (by rfl) (W2.heap.size + 1) 50 i0 _ 1 24 Try.underlying23 hi hz0 hz1 hz2 rfl (by decide) (.slice av mm.length cv) mm.length vs (by rfl) ((hR4.b.outer).alloc _) ⟨w4.heap.size, 0, none⟩ 1 1 [.slice a4 t.length c4] (by rfl) (by rfl) (World.news_of_block (cs := #[.slice a4 t.length c4]) (t := 50) (fr := (0, 0)) (heap_alloc_new w4 _)) (by simp [Value.oneCell']) (by omega) (by unfold maxLen; omega) (by omega) (by have := b4.size; simp; omega) (w4.heap.size + 1) (by simp) ?_
                intro g5 cap5 w5 hown5 hg5 hat5 hlt5
                obtain ⟨b5, hS5, hQ5, hR5⟩ := F5.out w4 a4 c4 b4 ho4 g5 cap5 w5 hown5 hg5
                simp only [Act.put, List.setIfInBounds_toArray, List.set_cons_zero, List.set_cons_succ]
                refine hK.out _ _ b5 (fun hH5 => ?_)
                clear hK K'
                refine takeD 14 (some 41) (.pointer (some ⟨W2.heap.size, 0, none⟩)) hH5 rfl rfl (by kernel_rfl) (by kernel_rfl) (by kernel_rfl) (fun _ _ _ h => h) (Or.inl ⟨by rfl, by intro w' hSw; go_simp⟩) ?_
                simp only [Act.put, List.setIfInBounds_toArray, List.set_cons_zero, List.set_cons_succ]
                refine wpAnyH_ready (rs := [15]) (by kernel_rfl) (by simp) ?_
                refine AllReadyH.cons rfl (fun K' hK => ?_) AllReadyH.nil
                have xc := hS5.c
                have xz := hS5.fz
                rw [if_pos (by rfl)]
                go_simp
                refine hK.out _ _ (b5.setCell (Nat.le_refl _) _) (fun _ => ?_)
                clear hK K'
                refine wpAnyH_done (by kernel_rfl) ?_ _
                clear xc xz
                go_wp2_with fail
                exact ⟨⟨n + 1, _, _, by go_num, by omega, by rw [HW.out]; exact hR5.far (by omega) _, hS5.set _, hQ5.far (by omega) _, b5.setCell (Nat.le_refl _) _⟩, by simp [intOf]; omega⟩
              · rw [if_pos (by rfl)]
                go_simp
                refine hK.out _ _ S4a (fun _ => ?_)
                clear hK K'
                refine wpAnyH_ready (rs := [1]) (by kernel_rfl) (by simp) ?_
                refine AllReadyH.cons rfl (fun K' hK => ?_) AllReadyH.nil
                have xx := hS4a.c
                rw [if_pos (by rfl)]
                go_simp
                refine hK.out _ _ S4a (fun _ => ?_)
                clear hK K' xx
                refine wpAnyH_ready (rs := [13]) (by kernel_rfl) (by simp) ?_
                refine AllReadyH.cons rfl (fun K' hK => ?_) AllReadyH.nil
                refine step_append_lies _ (by rfl) (.tmp 28) (.tmp 39) 23 (by rfl) (W2.heap.size + 1) 50 i0 _ 1 24 Try.underlying23 hi hz0 hz1 hz2 rfl (by decide) (.slice av mm.length cv) mm.length vs (by rfl) ((hR4.b.outer).alloc _) ⟨w4.heap.size, 0, none⟩ 1 1 [.slice a4 t.length c4] (by rfl) (by rfl) (World.news_of_block (cs := #[.slice a4 t.length c4]) (t := 50) (fr := (0, 0)) (heap_alloc_new w4 _)) (by simp [Value.oneCell']) (by omega) (by unfold maxLen; omega) (by omega) (by have := b4.size; simp; omega) (w4.heap.size + 1) (by simp) ?_
                intro g5 cap5 w5 hown5 hg5 hat5 hlt5
                obtain ⟨b5, hS5, hQ5, hR5⟩ := F5.out w4 a4 c4 b4 ho4 g5 cap5 w5 hown5 hg5
                simp only [Act.put, List.setIfInBounds_toArray, List.set_cons_zero, List.set_cons_succ]
                refine hK.out _ _ b5 (fun hH5 => ?_)
                clear hK K'
                refine takeD 14 (some 41) (.pointer (some ⟨W2.heap.size, 0, none⟩)) hH5 rfl rfl (by kernel_rfl) (by kernel_rfl) (by kernel_rfl) (fun _ _ _ h => h) (Or.inl ⟨by rfl, by intro w' hSw; go_simp⟩) ?_
                simp only [Act.put, List.setIfInBounds_toArray, List.set_cons_zero, List.set_cons_succ]
                refine wpAnyH_ready (rs := [15]) (by kernel_rfl) (by simp) ?_
                refine AllReadyH.cons rfl (fun K' hK => ?_) AllReadyH.nil
                have xc := hS5.c
                have xz := hS5.fz
                rw [if_pos (by rfl)]
                go_simp
                refine hK.out _ _ (b5.setCell (Nat.le_refl _) _) (fun _ => ?_)
                clear hK K'
                refine wpAnyH_done (by kernel_rfl) ?_ _
                clear xc xz
                go_wp2_with fail
                exact ⟨⟨n + 1, _, _, by go_num, by omega, by rw [HW.out]; exact hR5.far (by omega) _, hS5.set _, hQ5.far (by omega) _, b5.setCell (Nat.le_refl _) _⟩, by simp [intOf]; omega⟩
        · have htk : gs.take n = gs := List.take_of_length_le (by omega)
          rw [htk] at hR
          have hkn' : ¬ (n : Int) < gs.length := by omega
          obtain ⟨av, gv, cv, rfl, _⟩ := hR.b.ss
          generalize M.pick [] gs ll = mm at *
          have p0 := hP.c
          have pf := hP.fz
          have q0 := hY.c
          have qf := hY.fz
          have lP := hP.lt
          have lQ := hY.lt
          have hne : w.heap.size + 1 ≠ W2.heap.size := by omega
          have hbw := bw1.trans (hbel.mono bw1.size)
          have hsz := bw1.size
          go_wp2_with fail
          have q1 := (hY.set (.slice av mm.length cv)).c
          exact bodyPost_ret (v := .tuple #[.agg #[.slice av mm.length cv], .bool true]) (by simp [results, Try.results10, go_sem, q1]) rfl ⟨_, by rw [HY1.out], ⟨vs, by rw [HY2.out]; exact (hR.far (by omega) _).mono (by omega)⟩, hbw.setCell (by show w.heap.size ≤ w.heap.size + 1; omega) _⟩

end Go.Proofs.Ytmbhnkdhoffnmaa
