/- impl's way.holds: whether a way holds by an order. Of at most 28 events. impl.OrderHolds: whether a way holds by an order. Of at most 1048576 threads, steps, numbers and rows. -/
import Derived.Test.YtjpgpjjejbjldaaGreatBnHc
import Derived.Test.YtjpgpjjejbjldaaGreatBnHa
import Derived.Test.YtjpgpjjejbjldaaGreatStepGo
import Derived.Test.YtjpgpjjejbjldaaGreatWide

namespace Go.Proofs.YtjpgpjjejbjldaaGreat
open Go.RowKit

/-- A call that is wanted, met by its contract. -/
theorem step_goW {P : Program} {ops : Array Oper} {o : Oper} {a : Act} {w : World} {K : Act → World → Prop} {Q : Exit → Act → World → Prop} {E : Prop}
    (hw : Region.wanted o (yielded ops a.tmps) = true) (d : Option Tmp) (hd : o.dst = d) (f : FuncId) (os : Array Operand) (ts : Array TypeId) (hop : o.op = Op.call { callee := Callee.value (Operand.func f), args := os, argTypes := ts })
    (vals : Array Value) (hv : os.map a.eval = vals) (he : ∀ args w, (callFunc f args).run P w = .ok (.enter f args) w) {R : Ending → World → Prop} (hc : Calls P f vals w R)
    (hK : ∀ e w', R e w' → ∃ v, e = .returned v ∧ K (a.put d v) w') :
    if Region.wanted o (yielded ops a.tmps) = true then Oper.wp P o a w K Q else E := by
  subst hd
  rw [if_pos hw]
  subst hv
  have hr : (execOp a.eval o).run P w = .ok (.enter f (os.map a.eval)) w := by
    simp [execOp, hop, resolve, invoke, Act.eval, Deferred.ofValue, he]
  unfold Oper.wp
  rw [hr, Oper.upon_enter]
  refine hc.mono fun e w' h => ?_
  obtain ⟨v, rfl, hk⟩ := hK e w' h
  exact hk

def M.holdsW (N0 Nk : Nat → Nat) (ds : List M.De) : Bool := !M.roundN N0 && (!M.roundN Nk && M.chooseW ((M.choices ds).length + 1) Nk (M.choices ds))

set_option maxHeartbeats 4000000 in
set_option maxRecDepth 100000 in
set_option linter.unusedSimpArgs false in
theorem holds_of (k : Nat) (N0 Nk : Nat → Nat) (h0 : ∀ i, N0 i < 4294967296) (hk : ∀ i, Nk i < 4294967296)
    (va : Option Addr) (g c : Nat) (ds : List M.De) (fa : Option Addr) (fb fo fc : Nat) (l : List Int) (ra : Option Addr) (rb ro rc : Nat) (rows : List (List Int)) (w : World) (h : Wy w va g c ds fa fb fo fc l ra rb ro rc rows)
    (hlow : ∀ c ∈ M.choices ds, M.Low 28 c)
    (hA0 : ∀ w, Wy w va g c ds fa fb fo fc l ra rb ro rc rows → Calls Tryz.prog 44 #[.agg #[.slice va ds.length c, .slice fa l.length fc, .slice ra rows.length rc], .int .i64 0] w fun e w' => e = .returned (.agg (btA N0)) ∧ Below w.heap.size w w')
    (hAk : ∀ w, Wy w va g c ds fa fb fo fc l ra rb ro rc rows → Calls Tryz.prog 44 #[.agg #[.slice va ds.length c, .slice fa l.length fc, .slice ra rows.length rc], .int .i64 k] w fun e w' => e = .returned (.agg (btA Nk)) ∧ Below w.heap.size w w') :
    Calls Tryz.prog 20 #[.agg #[.slice va ds.length c, .slice fa l.length fc, .slice ra rows.length rc], .int .i64 k] w fun e w' => e = .returned (.bool (M.holdsW N0 Nk ds)) ∧ Below w.heap.size w w' := by
  have bA := below1 w (.cells #[.slice va ds.length c, .slice fa l.length fc, .slice ra rows.length rc] 56)
  have hWA := h.below bA (Nat.le_refl _)
  have k0 : (w.alloc (.cells #[.slice va ds.length c, .slice fa l.length fc, .slice ra rows.length rc] 56)).cell? ⟨w.heap.size, 0, none⟩ = some (.slice va ds.length c) := by simp
  have k1 : (w.alloc (.cells #[.slice va ds.length c, .slice fa l.length fc, .slice ra rows.length rc] 56)).cell? ⟨w.heap.size, 1, none⟩ = some (.slice fa l.length fc) := by simp
  have k2 : (w.alloc (.cells #[.slice va ds.length c, .slice fa l.length fc, .slice ra rows.length rc] 56)).cell? ⟨w.heap.size, 2, none⟩ = some (.slice ra rows.length rc) := by simp
  go_enter Tryz.func20, Tryz.ntmps20
  go_wp2_with fail
  generalize w.alloc (.cells #[.slice va ds.length c, .slice fa l.length fc, .slice ra rows.length rc] 56) = WA at *
  have lK : w.heap.size < WA.heap.size := World.block_lt_of_cell? _ _ k0
  refine (hA0 WA hWA).mono ?_
  rintro e W1 ⟨rfl, b1⟩
  go_wp2_with fail
  refine (goesRound_any N0 W1 h0).mono ?_
  rintro e W2 ⟨rfl, b2⟩
  have b12 := b1.trans (b2.mono b1.size)
  have bw2 := bA.trans (b12.mono bA.size)
  have y0 := (b12.cell (p := ⟨w.heap.size, 0, none⟩) lK).trans k0
  have y1 := (b12.cell (p := ⟨w.heap.size, 1, none⟩) lK).trans k1
  have y2 := (b12.cell (p := ⟨w.heap.size, 2, none⟩) lK).trans k2
  have hW2 := hWA.below b12 (Nat.le_refl _)
  have lK2 : w.heap.size < W2.heap.size := World.block_lt_of_cell? _ _ y0
  clear k0 k1 k2 hWA b1 b2 b12
  cases hr0 : M.roundN N0
  · go_wp2_with fail
    refine (hAk W2 hW2).mono ?_
    rintro e W3 ⟨rfl, b3⟩
    have bS := below1 W3 (.cells (btA Nk) 94)
    have b3S := b3.trans (bS.mono b3.size)
    have bwS := bw2.trans (b3S.mono bw2.size)
    have hB := Bt.of_block (t := 94) (heap_alloc_new W3 (.cells (btA Nk) 94)) hk
    have z0 := (b3S.cell (p := ⟨w.heap.size, 0, none⟩) lK2).trans y0
    have hWS := hW2.below b3S (Nat.le_refl _)
    clear y0 y1 y2 b3 b3S
    have hzv := (zero_of_info (P := Tryz.prog) (t := 94) (v := .agg (btA fun _ => 0)) (n := 28) (by kernel_rfl)).1
    have hZs := btA_size (fun _ => 0)
    have hAs := btA_size Nk
    have hAone := btA_one Nk
    have hi2 : (Tryz.prog.info? 94).map (·.size) = some (btA Nk).toList.length := by rw [Tryz.infoSets]; simp [btA]
    have hi3 : (Tryz.prog.info? 94).map (·.size) = some (btA Nk).size := by rw [Tryz.infoSets, hAs]
    have hCR := fun W => goesRound_any Nk W hk
    have hCC := fun va g o c W hC => canChoose_any ((M.choices ds).length + 1) (M.choices ds) Nk va g o c W (Nat.lt_succ_self _) (by have h1 := M.chP_len ds ds.length; rw [M.chP_all] at h1; have h2 := Nat.mul_le_mul h.dl h.dl; omega) hlow hk hC
    have hCW := fun W (hd : DeS W va g ds) => waitChoices_any va g c ds W h.dl h.run hd
    have RG0 : ∀ (W : World) (b : Nat), Bt W b Nk → W.rangeAt b 0 (btA Nk).toList := fun _ _ h => h.range
    generalize btA Nk = A at *
    generalize btA (fun _ => 0) = Z at *
    go_wp2_with (first | (refine wpList_alloc_row rfl 94 rfl Z hzv ?_) | (refine wpList_store_new rfl 94 (.tmp 5) (.tmp 11) rfl Z A rfl rfl hi3 (by rw [hZs, hAs]) hAone ?_))
    obtain ⟨X, hX⟩ : ∃ X, W3.heap.size = X := ⟨_, rfl⟩
    generalize W3.alloc (.cells A 94) = WS at *
    rw [hX] at hB ⊢
    have lKS : w.heap.size < WS.heap.size := World.block_lt_of_cell? _ _ z0
    have RG : ∀ w', Below WS.heap.size WS w' → w'.rangeAt X 0 A.toList := fun w' hw => RG0 _ _ (hB.below hw)
    have CE : ∀ w', Below WS.heap.size WS w' → w'.cell? ⟨w.heap.size, 0, none⟩ = some (.slice va ds.length c) := fun w' hw => (hw.cell (p := ⟨w.heap.size, 0, none⟩) lKS).trans z0
    clear hX hzv hZs hAs hAone hi3 z0
    refine wp_region_held_drew (S := fun w' => Below WS.heap.size WS w') (by kernel_rfl) (Below.refl _ _).drew (fun hH => ?_)
    refine takeD 0 (some 12) (.agg A.toList.toArray) hH rfl rfl (by kernel_rfl) (by kernel_rfl) (by kernel_rfl) (fun _ _ _ h => h) (yieldsIf_load_mid (by rfl) _ _ rfl X 0 rfl A.toList _ (fun w' hw => RG w' hw) Tryz.undSets rfl hi2) ?_
    simp only [Act.put, List.setIfInBounds_toArray, List.set_cons_zero, List.set_cons_succ]
    refine wpAnyH_ready (rs := [1]) (by kernel_rfl) (by simp) ?_
    refine AllReadyH.cons rfl (fun K' hK => ?_) AllReadyH.nil
    refine step_goW (by rfl) (some 13) rfl 45 #[.tmp 12] _ rfl #[.agg A] (by simp [Act.eval]) (fun _ _ => rfl) (hCR _) ?_
    rintro e W4 ⟨rfl, b4⟩
    refine ⟨_, rfl, hK.out _ _ (hH.trans (b4.mono hH.size)) (fun hH4 => ?_)⟩
    clear hK K' hH
    simp only [Act.put, List.setIfInBounds_toArray, List.set_cons_zero, List.set_cons_succ]
    cases hrk : M.roundN Nk
    · refine takeD 2 (some 14) (.bool true) hH4 rfl rfl (by kernel_rfl) (by kernel_rfl) (by kernel_rfl) (fun _ _ _ h => h) (Or.inl ⟨by rfl, by intro w' hSw; go_simp⟩) ?_
      simp only [Act.put, List.setIfInBounds_toArray, List.set_cons_zero, List.set_cons_succ]
      refine takeD 3 (some 15) (.bool true) hH4 rfl rfl (by kernel_rfl) (by kernel_rfl) (by kernel_rfl) (fun _ _ _ h => h) (Or.inl ⟨by rfl, by intro w' hSw; go_simp⟩) ?_
      simp only [Act.put, List.setIfInBounds_toArray, List.set_cons_zero, List.set_cons_succ]
      refine takeD 4 (some 16) (.agg A.toList.toArray) hH4 rfl rfl (by kernel_rfl) (by kernel_rfl) (by kernel_rfl) (fun _ _ _ h => h) (yieldsIf_load_mid (by rfl) _ _ rfl X 0 rfl A.toList _ (fun w' hw => RG w' hw) Tryz.undSets rfl hi2) ?_
      simp only [Act.put, List.setIfInBounds_toArray, List.set_cons_zero, List.set_cons_succ]
      refine takeD 5 (some 17) (.pointer (some ⟨w.heap.size, 0, none⟩)) hH4 rfl rfl (by kernel_rfl) (by kernel_rfl) (by kernel_rfl) (fun _ _ _ h => h) (Or.inl ⟨by rfl, by intro w' hSw; go_simp⟩) ?_
      simp only [Act.put, List.setIfInBounds_toArray, List.set_cons_zero, List.set_cons_succ]
      refine takeD 6 (some 18) (.slice va ds.length c) hH4 rfl rfl (by kernel_rfl) (by kernel_rfl) (by kernel_rfl) (fun _ _ _ h => h) (Or.inl ⟨by rfl, by intro w' hSw; have hc := CE w' hSw; go_simp⟩) ?_
      simp only [Act.put, List.setIfInBounds_toArray, List.set_cons_zero, List.set_cons_succ]
      refine wpAnyH_ready (rs := [7]) (by kernel_rfl) (by simp) ?_
      refine AllReadyH.cons rfl (fun K' hK => ?_) AllReadyH.nil
      refine step_goW (by rfl) (some 19) rfl 47 #[.tmp 18] _ rfl #[.slice va ds.length c] (by simp [Act.eval]) (fun _ _ => rfl) (hCW _ (hWS.below hH4 (Nat.le_refl _)).d) ?_
      rintro e W5 ⟨va5, g5, c5, rfl, hC5, b5⟩
      refine ⟨_, rfl, hK.out _ _ (hH4.trans (b5.mono hH4.size)) (fun hH5 => ?_)⟩
      clear hK K'
      simp only [Act.put, List.setIfInBounds_toArray, List.set_cons_zero, List.set_cons_succ]
      refine wpAnyH_ready (rs := [8]) (by kernel_rfl) (by simp) ?_
      refine AllReadyH.cons rfl (fun K' hK => ?_) AllReadyH.nil
      refine step_goW (by rfl) (some 20) rfl 46 #[.tmp 16, .tmp 19] _ rfl #[.agg A, .slice va5 (M.choices ds).length c5] (by simp [Act.eval]) (fun _ _ => rfl) (hCC va5 g5 0 c5 _ hC5) ?_
      rintro e W6 ⟨rfl, b6⟩
      refine ⟨_, rfl, hK.out _ _ (hH5.trans (b6.mono hH5.size)) (fun hH6 => ?_)⟩
      clear hK K'
      simp only [Act.put, List.setIfInBounds_toArray, List.set_cons_zero, List.set_cons_succ]
      obtain ⟨r, hr⟩ : ∃ r, M.chooseW ((M.choices ds).length + 1) Nk (M.choices ds) = r := ⟨_, rfl⟩
      have HR : Hid (M.chooseW ((M.choices ds).length + 1) Nk (M.choices ds) = r) := hr
      rw [hr]
      clear hr
      refine takeD 9 (some 21) (.bool r) hH6 rfl rfl (by kernel_rfl) (by kernel_rfl) (by kernel_rfl) (fun _ _ _ h => h) (Or.inl ⟨by rfl, by intro w' hSw; go_simp⟩) ?_
      simp only [Act.put, List.setIfInBounds_toArray, List.set_cons_zero, List.set_cons_succ]
      refine takeD 10 (some 4) (.bool r) hH6 rfl rfl (by kernel_rfl) (by kernel_rfl) (by kernel_rfl) (fun _ _ _ h => h) (Or.inl ⟨by rfl, by intro w' hSw; go_simp⟩) ?_
      simp only [Act.put, List.setIfInBounds_toArray, List.set_cons_zero, List.set_cons_succ]
      refine wpAnyH_done (by kernel_rfl) ?_ _
      have HF : Hid (M.holdsW N0 Nk ds = r) := by show _ = _; unfold M.holdsW; rw [hr0, hrk, HR.out]; rfl
      go_wp2_with fail
      go_ret
      exact ⟨ret_bool HF.out.symm, bwS.trans (hH6.mono bwS.size)⟩
    · refine takeD 2 (some 14) (.bool false) hH4 rfl rfl (by kernel_rfl) (by kernel_rfl) (by kernel_rfl) (fun _ _ _ h => h) (Or.inl ⟨by rfl, by intro w' hSw; go_simp⟩) ?_
      simp only [Act.put, List.setIfInBounds_toArray, List.set_cons_zero, List.set_cons_succ]
      refine takeD 3 (some 15) (.bool false) hH4 rfl rfl (by kernel_rfl) (by kernel_rfl) (by kernel_rfl) (fun _ _ _ h => h) (Or.inl ⟨by rfl, by intro w' hSw; go_simp⟩) ?_
      simp only [Act.put, List.setIfInBounds_toArray, List.set_cons_zero, List.set_cons_succ]
      refine takeD 4 (some 16) (undef) hH4 rfl rfl (by kernel_rfl) (by kernel_rfl) (by kernel_rfl) (fun _ _ _ h => h) (Or.inr ⟨by rfl, rfl⟩) ?_
      simp only [Act.put, List.setIfInBounds_toArray, List.set_cons_zero, List.set_cons_succ]
      refine takeD 5 (some 17) (undef) hH4 rfl rfl (by kernel_rfl) (by kernel_rfl) (by kernel_rfl) (fun _ _ _ h => h) (Or.inr ⟨by rfl, rfl⟩) ?_
      simp only [Act.put, List.setIfInBounds_toArray, List.set_cons_zero, List.set_cons_succ]
      refine takeD 6 (some 18) (undef) hH4 rfl rfl (by kernel_rfl) (by kernel_rfl) (by kernel_rfl) (fun _ _ _ h => h) (Or.inr ⟨by rfl, rfl⟩) ?_
      simp only [Act.put, List.setIfInBounds_toArray, List.set_cons_zero, List.set_cons_succ]
      refine takeD 7 (some 19) (undef) hH4 rfl rfl (by kernel_rfl) (by kernel_rfl) (by kernel_rfl) (fun _ _ _ h => h) (Or.inr ⟨by rfl, rfl⟩) ?_
      simp only [Act.put, List.setIfInBounds_toArray, List.set_cons_zero, List.set_cons_succ]
      refine takeD 8 (some 20) (undef) hH4 rfl rfl (by kernel_rfl) (by kernel_rfl) (by kernel_rfl) (fun _ _ _ h => h) (Or.inr ⟨by rfl, rfl⟩) ?_
      simp only [Act.put, List.setIfInBounds_toArray, List.set_cons_zero, List.set_cons_succ]
      refine takeD 9 (some 21) (.bool false) hH4 rfl rfl (by kernel_rfl) (by kernel_rfl) (by kernel_rfl) (fun _ _ _ h => h) (Or.inl ⟨by rfl, by intro w' hSw; go_simp⟩) ?_
      simp only [Act.put, List.setIfInBounds_toArray, List.set_cons_zero, List.set_cons_succ]
      refine takeD 10 (some 4) (.bool false) hH4 rfl rfl (by kernel_rfl) (by kernel_rfl) (by kernel_rfl) (fun _ _ _ h => h) (Or.inl ⟨by rfl, by intro w' hSw; go_simp⟩) ?_
      simp only [Act.put, List.setIfInBounds_toArray, List.set_cons_zero, List.set_cons_succ]
      refine wpAnyH_done (by kernel_rfl) ?_ _
      have HF : Hid (M.holdsW N0 Nk ds = false) := by show _ = _; unfold M.holdsW; rw [hr0, hrk]; rfl
      go_wp2_with fail
      go_ret
      exact ⟨ret_bool HF.out.symm, bwS.trans (hH4.mono bwS.size)⟩
  · go_wp2_with fail
    go_ret
    exact ⟨ret_bool (by simp [M.holdsW, hr0]), bw2⟩

end Go.Proofs.YtjpgpjjejbjldaaGreat

namespace Go.Proofs.YtjpgpjjejbjldaaGreat
open Go.RowKit

/-- By words of bits as by bits. -/
theorem M.holdsW_eq {ll : List (List M.D)} {l : List Int} {rows : List (List Int)} (h : M.prog ll = true) (k : Nat) :
    M.holdsW (M.wordsOf (M.linksOf (M.mustAt (M.deeds ll) l rows 0) (M.deeds ll).length)) (M.wordsOf (M.linksOf (M.mustAt (M.deeds ll) l rows k) (M.deeds ll).length)) (M.deeds ll) = (M.holdsA (M.netOf (M.deeds ll) l rows 0) (M.deeds ll).length && M.waitsA (M.deeds ll).length (M.netOf (M.deeds ll) l rows k) (M.choices (M.deeds ll))) := by
  rw [← M.holds_impl h k]
  have hr : ∀ (A : Nat → Nat → Bool), M.roundN (M.wordsOf (M.linksOf A (M.deeds ll).length)) = M.goesRound (M.bitsOf A (M.deeds ll).length) 28 := fun A => by
    unfold M.roundN M.goesRound
    have hw := M.words_bits (A := A) (M.deeds28 h)
    rw [Bool.eq_iff_iff, List.any_eq_true, List.any_eq_true]
    constructor
    · rintro ⟨a, ha, hb⟩
      exact ⟨a, ha, by rw [← hw a (List.mem_range.1 ha)]; exact hb⟩
    · rintro ⟨a, ha, hb⟩
      exact ⟨a, ha, by rw [hw a (List.mem_range.1 ha)]; exact hb⟩
  unfold M.holdsW
  rw [hr, hr, M.choose_eq (m := 28) _ _ _ _ (M.words_bits (M.deeds28 h)) (fun c hc => by
    have h1 := (M.choices_ok (M.run_of h) c hc).1
    have h2 := M.deeds28 h
    exact ⟨⟨by have := h1.1.1; omega, by have := h1.1.2; omega⟩, by have := h1.2.1; omega, by have := h1.2.2; omega⟩)]
  rfl
theorem words_small (A : Nat → Nat → Bool) (n : Nat) (hn : n ≤ 28) : ∀ i, M.wordsOf (M.linksOf A n) i < 4294967296 :=
  M.words_lt _ _ (fun _ => by decide) (fun l hl => by obtain ⟨a, b⟩ := l; have := M.mem_links.1 hl; simp; omega)
/-- The way's holds, by each order. -/
theorem wayHolds_any (k : Nat) (hk1 : 1 ≤ k) (hk3 : k ≤ 3) (va : Option Addr) (g c : Nat) (ll : List (List M.D)) (hp : M.prog ll = true) (fa : Option Addr) (fb fo fc : Nat) (l : List Int) (ra : Option Addr) (rb ro rc : Nat) (rows : List (List Int)) (w : World) (h : Wy w va g c (M.deeds ll) fa fb fo fc l ra rb ro rc rows) :
    Calls Tryz.prog 20 #[.agg #[.slice va (M.deeds ll).length c, .slice fa l.length fc, .slice ra rows.length rc], .int .i64 k] w fun e w' => e = .returned (.bool (M.holdsA (M.netOf (M.deeds ll) l rows 0) (M.deeds ll).length && M.waitsA (M.deeds ll).length (M.netOf (M.deeds ll) l rows k) (M.choices (M.deeds ll)))) ∧ Below w.heap.size w w' := by
  rw [← M.holdsW_eq hp k]
  have hlow : ∀ c ∈ M.choices (M.deeds ll), M.Low 28 c := fun c hc => by
    have h1 := (M.choices_ok (M.run_of hp) c hc).1
    have h2 := M.deeds28 hp
    exact ⟨⟨by have := h1.1.1; omega, by have := h1.1.2; omega⟩, by have := h1.2.1; omega, by have := h1.2.2; omega⟩
  refine holds_of k _ _ (words_small _ _ h.dl) (words_small _ _ h.dl) va g c (M.deeds ll) fa fb fo fc l ra rb ro rc rows w h hlow (fun w h => ahead_of 0 _ _ _ reasons0_any (fun t a b x y w h1 h2 h3 h4 => must0_any t a b x y w h1 h2 h3 h4) va g c (M.deeds ll) fa fb fo fc l ra rb ro rc rows w h) (fun w h => ?_)
  rcases (show k = 1 ∨ k = 2 ∨ k = 3 by omega) with rfl | rfl | rfl
  · exact ahead_of 1 _ _ _ reasons1_any (fun t a b x y w h1 h2 h3 h4 => must1_any t a b x y w h1 h2 h3 h4) va g c (M.deeds ll) fa fb fo fc l ra rb ro rc rows w h
  · exact ahead_of 2 _ _ _ reasons2_any (fun t a b x y w h1 h2 h3 h4 => must2_any t a b x y w h1 h2 h3 h4) va g c (M.deeds ll) fa fb fo fc l ra rb ro rc rows w h
  · exact ahead_of 3 _ _ _ reasons3_any (fun t a b x y w h1 h2 h3 h4 => must3_any t a b x y w h1 h2 h3 h4) va g c (M.deeds ll) fa fb fo fc l ra rb ro rc rows w h

set_option maxHeartbeats 4000000 in
set_option maxRecDepth 100000 in
set_option linter.unusedSimpArgs false in
theorem iorderHolds_any (a : Option Addr) (b o c : Nat) (ll : List (List M.D)) (fa : Option Addr) (fb fo fc : Nat) (l : List Int) (ra : Option Addr) (rb ro rc : Nat) (rows : List (List Int)) (kind : Int) (w : World) (hl : ll.length ≤ 1048576) (hls : ∀ t ∈ ll, t.length ≤ 1048576) (hl1 : l.length ≤ 1048576) (hl2 : rows.length ≤ 1048576) (hrs : ∀ r ∈ rows, r.length ≤ 1048576) (h : DoSS w a b o ll) (hf : IntS w fa fb fo l) (hr : IntSS w ra rb ro rows) :
    Calls Tryz.prog 6 #[.agg #[.slice a ll.length c], .agg #[.slice fa l.length fc, .slice ra rows.length rc], .int .i64 kind] w fun e w' => e = .returned (.bool (M.orderHolds ll l rows kind)) ∧ Below w.heap.size w w' := by
  have hb1 := below2 w (.cells #[.slice a ll.length c] 25) (.cells #[.slice fa l.length fc, .slice ra rows.length rc] 29)
  have kp : ((w.alloc (.cells #[.slice a ll.length c] 25)).alloc (.cells #[.slice fa l.length fc, .slice ra rows.length rc] 29)).cell? ⟨w.heap.size, 0, none⟩ = some (.slice a ll.length c) := by simp
  have k0 : ((w.alloc (.cells #[.slice a ll.length c] 25)).alloc (.cells #[.slice fa l.length fc, .slice ra rows.length rc] 29)).cell? ⟨w.heap.size + 1, 0, none⟩ = some (.slice fa l.length fc) := by simp
  have k1 : ((w.alloc (.cells #[.slice a ll.length c] 25)).alloc (.cells #[.slice fa l.length fc, .slice ra rows.length rc] 29)).cell? ⟨w.heap.size + 1, 1, none⟩ = some (.slice ra rows.length rc) := by simp
  go_enter Tryz.func6, Tryz.ntmps6
  go_wp2_with fail
  generalize (w.alloc (.cells #[.slice a ll.length c] 25)).alloc (.cells #[.slice fa l.length fc, .slice ra rows.length rc] 29) = W at *
  have lP : w.heap.size < W.heap.size := World.block_lt_of_cell? _ _ kp
  have lX : w.heap.size + 1 < W.heap.size := World.block_lt_of_cell? _ _ k0
  have CP : ∀ w', Below W.heap.size W w' → w'.cell? ⟨w.heap.size, 0, none⟩ = some (.slice a ll.length c) := fun w' hw => (hw.cell (p := ⟨w.heap.size, 0, none⟩) lP).trans kp
  have CF : ∀ w', Below W.heap.size W w' → w'.cell? ⟨w.heap.size + 1, 0, none⟩ = some (.slice fa l.length fc) := fun w' hw => (hw.cell (p := ⟨w.heap.size + 1, 0, none⟩) lX).trans k0
  have CR : ∀ w', Below W.heap.size W w' → w'.cell? ⟨w.heap.size + 1, 1, none⟩ = some (.slice ra rows.length rc) := fun w' hw => (hw.cell (p := ⟨w.heap.size + 1, 1, none⟩) lX).trans k1
  have BW : ∀ w', Below W.heap.size W w' → Below w.heap.size w w' := fun w' hw => hb1.trans (hw.mono hb1.size)
  clear kp k0 k1
  have CI := fun W => isOrder_any kind W
  refine wp_region_held_drew (S := fun w' => Below W.heap.size W w') (by kernel_rfl) (Below.refl _ _).drew (fun hH => ?_)
  refine takeD 0 (some 7) (.int .i64 kind) hH rfl rfl (by kernel_rfl) (by kernel_rfl) (by kernel_rfl) (fun _ _ _ h => h) (Or.inl ⟨by rfl, by intro w' hSw; go_simp⟩) ?_
  simp only [Act.put, List.setIfInBounds_toArray, List.set_cons_zero, List.set_cons_succ]
  refine wpAnyH_ready (rs := [1]) (by kernel_rfl) (by simp) ?_
  refine AllReadyH.cons rfl (fun K' hK => ?_) AllReadyH.nil
  refine step_goW (by rfl) (some 8) rfl 17 #[.tmp 7] _ rfl #[.int .i64 kind] (by simp [Act.eval]) (fun _ _ => rfl) (CI _) ?_
  rintro e W1 ⟨rfl, e1⟩
  subst e1
  refine ⟨_, rfl, hK.out _ _ hH (fun _ => ?_)⟩
  clear hK K'
  simp only [Act.put, List.setIfInBounds_toArray, List.set_cons_zero, List.set_cons_succ]
  cases hk : (decide (1 ≤ kind) && decide (kind ≤ 3))
  · refine takeD 2 (some 9) (.bool false) hH rfl rfl (by kernel_rfl) (by kernel_rfl) (by kernel_rfl) (fun _ _ _ h => h) (Or.inl ⟨by rfl, by intro w' hSw; go_simp⟩) ?_
    simp only [Act.put, List.setIfInBounds_toArray, List.set_cons_zero, List.set_cons_succ]
    refine takeD 3 (some 10) (undef) hH rfl rfl (by kernel_rfl) (by kernel_rfl) (by kernel_rfl) (fun _ _ _ h => h) (Or.inr ⟨by rfl, rfl⟩) ?_
    simp only [Act.put, List.setIfInBounds_toArray, List.set_cons_zero, List.set_cons_succ]
    refine takeD 4 (some 11) (undef) hH rfl rfl (by kernel_rfl) (by kernel_rfl) (by kernel_rfl) (fun _ _ _ h => h) (Or.inr ⟨by rfl, rfl⟩) ?_
    simp only [Act.put, List.setIfInBounds_toArray, List.set_cons_zero, List.set_cons_succ]
    refine takeD 5 (some 12) (undef) hH rfl rfl (by kernel_rfl) (by kernel_rfl) (by kernel_rfl) (fun _ _ _ h => h) (Or.inr ⟨by rfl, rfl⟩) ?_
    simp only [Act.put, List.setIfInBounds_toArray, List.set_cons_zero, List.set_cons_succ]
    refine takeD 6 (some 13) (.bool false) hH rfl rfl (by kernel_rfl) (by kernel_rfl) (by kernel_rfl) (fun _ _ _ h => h) (Or.inl ⟨by rfl, by intro w' hSw; go_simp⟩) ?_
    simp only [Act.put, List.setIfInBounds_toArray, List.set_cons_zero, List.set_cons_succ]
    refine takeD 7 (some 14) (.bool false) hH rfl rfl (by kernel_rfl) (by kernel_rfl) (by kernel_rfl) (fun _ _ _ h => h) (Or.inl ⟨by rfl, by intro w' hSw; go_simp⟩) ?_
    simp only [Act.put, List.setIfInBounds_toArray, List.set_cons_zero, List.set_cons_succ]
    refine takeD 8 (some 15) (undef) hH rfl rfl (by kernel_rfl) (by kernel_rfl) (by kernel_rfl) (fun _ _ _ h => h) (Or.inr ⟨by rfl, rfl⟩) ?_
    simp only [Act.put, List.setIfInBounds_toArray, List.set_cons_zero, List.set_cons_succ]
    refine takeD 9 (some 16) (undef) hH rfl rfl (by kernel_rfl) (by kernel_rfl) (by kernel_rfl) (fun _ _ _ h => h) (Or.inr ⟨by rfl, rfl⟩) ?_
    simp only [Act.put, List.setIfInBounds_toArray, List.set_cons_zero, List.set_cons_succ]
    refine takeD 10 (some 17) (undef) hH rfl rfl (by kernel_rfl) (by kernel_rfl) (by kernel_rfl) (fun _ _ _ h => h) (Or.inr ⟨by rfl, rfl⟩) ?_
    simp only [Act.put, List.setIfInBounds_toArray, List.set_cons_zero, List.set_cons_succ]
    refine takeD 11 (some 18) (undef) hH rfl rfl (by kernel_rfl) (by kernel_rfl) (by kernel_rfl) (fun _ _ _ h => h) (Or.inr ⟨by rfl, rfl⟩) ?_
    simp only [Act.put, List.setIfInBounds_toArray, List.set_cons_zero, List.set_cons_succ]
    refine takeD 12 (some 19) (undef) hH rfl rfl (by kernel_rfl) (by kernel_rfl) (by kernel_rfl) (fun _ _ _ h => h) (Or.inr ⟨by rfl, rfl⟩) ?_
    simp only [Act.put, List.setIfInBounds_toArray, List.set_cons_zero, List.set_cons_succ]
    refine takeD 13 (some 20) (undef) hH rfl rfl (by kernel_rfl) (by kernel_rfl) (by kernel_rfl) (fun _ _ _ h => h) (Or.inr ⟨by rfl, rfl⟩) ?_
    simp only [Act.put, List.setIfInBounds_toArray, List.set_cons_zero, List.set_cons_succ]
    refine takeD 14 (some 21) (.bool false) hH rfl rfl (by kernel_rfl) (by kernel_rfl) (by kernel_rfl) (fun _ _ _ h => h) (Or.inl ⟨by rfl, by intro w' hSw; go_simp⟩) ?_
    simp only [Act.put, List.setIfInBounds_toArray, List.set_cons_zero, List.set_cons_succ]
    refine takeD 15 (some 6) (.bool false) hH rfl rfl (by kernel_rfl) (by kernel_rfl) (by kernel_rfl) (fun _ _ _ h => h) (Or.inl ⟨by rfl, by intro w' hSw; go_simp⟩) ?_
    simp only [Act.put, List.setIfInBounds_toArray, List.set_cons_zero, List.set_cons_succ]
    refine wpAnyH_done (by kernel_rfl) ?_ _
    have HF : Hid (M.orderHolds ll l rows kind = false) := by show _ = _; unfold M.orderHolds; rw [hk]; rfl
    clear hk
    go_wp2_with fail
    go_ret
    exact ⟨ret_bool HF.out.symm, BW _ hH⟩
  · refine takeD 2 (some 9) (.bool true) hH rfl rfl (by kernel_rfl) (by kernel_rfl) (by kernel_rfl) (fun _ _ _ h => h) (Or.inl ⟨by rfl, by intro w' hSw; go_simp⟩) ?_
    simp only [Act.put, List.setIfInBounds_toArray, List.set_cons_zero, List.set_cons_succ]
    refine takeD 3 (some 10) (.agg #[.slice a ll.length c]) hH rfl rfl (by kernel_rfl) (by kernel_rfl) (by kernel_rfl) (fun _ _ _ h => h) (Or.inl ⟨by rfl, by intro w' hSw; have hc := CP w' hSw; go_simp⟩) ?_
    simp only [Act.put, List.setIfInBounds_toArray, List.set_cons_zero, List.set_cons_succ]
    refine takeD 4 (some 11) (.agg #[.slice fa l.length fc, .slice ra rows.length rc]) hH rfl rfl (by kernel_rfl) (by kernel_rfl) (by kernel_rfl) (fun _ _ _ h => h) (Or.inl ⟨by rfl, by intro w' hSw; have hc := CF w' hSw; have hc2 := CR w' hSw; go_simp⟩) ?_
    simp only [Act.put, List.setIfInBounds_toArray, List.set_cons_zero, List.set_cons_succ]
    refine wpAnyH_ready (rs := [5]) (by kernel_rfl) (by simp) ?_
    refine AllReadyH.cons rfl (fun K' hK => ?_) AllReadyH.nil
    refine step_goW (by rfl) (some 12) rfl 18 #[.tmp 10, .tmp 11] _ rfl #[.agg #[.slice a ll.length c], .agg #[.slice fa l.length fc, .slice ra rows.length rc]] (by simp [Act.eval]) (fun _ _ => rfl) (iexecOk_any a b o c ll fa fb fo fc l ra rb ro rc rows _ hl hls hl1 hl2 hrs (h.below (BW _ hH) (Nat.le_refl _)) (hf.below (BW _ hH) (Nat.le_refl _)) (hr.below (BW _ hH) (Nat.le_refl _))) ?_
    rintro e W2 ⟨rfl, b2⟩
    refine ⟨_, rfl, hK.out _ _ (hH.trans (b2.mono hH.size)) (fun hH2 => ?_)⟩
    clear hK K'
    simp only [Act.put, List.setIfInBounds_toArray, List.set_cons_zero, List.set_cons_succ]
    cases hok : M.execOk ll l rows
    · refine takeD 6 (some 13) (.bool false) hH2 rfl rfl (by kernel_rfl) (by kernel_rfl) (by kernel_rfl) (fun _ _ _ h => h) (Or.inl ⟨by rfl, by intro w' hSw; go_simp⟩) ?_
      simp only [Act.put, List.setIfInBounds_toArray, List.set_cons_zero, List.set_cons_succ]
      refine takeD 7 (some 14) (.bool false) hH2 rfl rfl (by kernel_rfl) (by kernel_rfl) (by kernel_rfl) (fun _ _ _ h => h) (Or.inl ⟨by rfl, by intro w' hSw; go_simp⟩) ?_
      simp only [Act.put, List.setIfInBounds_toArray, List.set_cons_zero, List.set_cons_succ]
      refine takeD 8 (some 15) (undef) hH2 rfl rfl (by kernel_rfl) (by kernel_rfl) (by kernel_rfl) (fun _ _ _ h => h) (Or.inr ⟨by rfl, rfl⟩) ?_
      simp only [Act.put, List.setIfInBounds_toArray, List.set_cons_zero, List.set_cons_succ]
      refine takeD 9 (some 16) (undef) hH2 rfl rfl (by kernel_rfl) (by kernel_rfl) (by kernel_rfl) (fun _ _ _ h => h) (Or.inr ⟨by rfl, rfl⟩) ?_
      simp only [Act.put, List.setIfInBounds_toArray, List.set_cons_zero, List.set_cons_succ]
      refine takeD 10 (some 17) (undef) hH2 rfl rfl (by kernel_rfl) (by kernel_rfl) (by kernel_rfl) (fun _ _ _ h => h) (Or.inr ⟨by rfl, rfl⟩) ?_
      simp only [Act.put, List.setIfInBounds_toArray, List.set_cons_zero, List.set_cons_succ]
      refine takeD 11 (some 18) (undef) hH2 rfl rfl (by kernel_rfl) (by kernel_rfl) (by kernel_rfl) (fun _ _ _ h => h) (Or.inr ⟨by rfl, rfl⟩) ?_
      simp only [Act.put, List.setIfInBounds_toArray, List.set_cons_zero, List.set_cons_succ]
      refine takeD 12 (some 19) (undef) hH2 rfl rfl (by kernel_rfl) (by kernel_rfl) (by kernel_rfl) (fun _ _ _ h => h) (Or.inr ⟨by rfl, rfl⟩) ?_
      simp only [Act.put, List.setIfInBounds_toArray, List.set_cons_zero, List.set_cons_succ]
      refine takeD 13 (some 20) (undef) hH2 rfl rfl (by kernel_rfl) (by kernel_rfl) (by kernel_rfl) (fun _ _ _ h => h) (Or.inr ⟨by rfl, rfl⟩) ?_
      simp only [Act.put, List.setIfInBounds_toArray, List.set_cons_zero, List.set_cons_succ]
      refine takeD 14 (some 21) (.bool false) hH2 rfl rfl (by kernel_rfl) (by kernel_rfl) (by kernel_rfl) (fun _ _ _ h => h) (Or.inl ⟨by rfl, by intro w' hSw; go_simp⟩) ?_
      simp only [Act.put, List.setIfInBounds_toArray, List.set_cons_zero, List.set_cons_succ]
      refine takeD 15 (some 6) (.bool false) hH2 rfl rfl (by kernel_rfl) (by kernel_rfl) (by kernel_rfl) (fun _ _ _ h => h) (Or.inl ⟨by rfl, by intro w' hSw; go_simp⟩) ?_
      simp only [Act.put, List.setIfInBounds_toArray, List.set_cons_zero, List.set_cons_succ]
      refine wpAnyH_done (by kernel_rfl) ?_ _
      have HF : Hid (M.orderHolds ll l rows kind = false) := by show _ = _; unfold M.orderHolds; rw [hok, hk]; rfl
      clear hk hok
      go_wp2_with fail
      go_ret
      exact ⟨ret_bool HF.out.symm, BW _ hH2⟩
    · have hW := M.wok_of hok
      obtain ⟨h3, h7⟩ := M.prog_bounds hW.prog
      obtain ⟨kn, rfl⟩ : ∃ kn : Nat, kind = kn := ⟨kind.toNat, by simp only [Bool.and_eq_true, decide_eq_true_eq] at hk; omega⟩
      have hk13 : 1 ≤ kn ∧ kn ≤ 3 := by simp only [Bool.and_eq_true, decide_eq_true_eq] at hk; omega
      refine takeD 6 (some 13) (.bool true) hH2 rfl rfl (by kernel_rfl) (by kernel_rfl) (by kernel_rfl) (fun _ _ _ h => h) (Or.inl ⟨by rfl, by intro w' hSw; go_simp⟩) ?_
      simp only [Act.put, List.setIfInBounds_toArray, List.set_cons_zero, List.set_cons_succ]
      refine takeD 7 (some 14) (.bool true) hH2 rfl rfl (by kernel_rfl) (by kernel_rfl) (by kernel_rfl) (fun _ _ _ h => h) (Or.inl ⟨by rfl, by intro w' hSw; go_simp⟩) ?_
      simp only [Act.put, List.setIfInBounds_toArray, List.set_cons_zero, List.set_cons_succ]
      refine takeD 8 (some 15) (.agg #[.slice a ll.length c]) hH2 rfl rfl (by kernel_rfl) (by kernel_rfl) (by kernel_rfl) (fun _ _ _ h => h) (Or.inl ⟨by rfl, by intro w' hSw; have hc := CP w' hSw; go_simp⟩) ?_
      simp only [Act.put, List.setIfInBounds_toArray, List.set_cons_zero, List.set_cons_succ]
      refine takeD 10 (some 17) (.agg #[.slice fa l.length fc, .slice ra rows.length rc]) hH2 rfl rfl (by kernel_rfl) (by kernel_rfl) (by kernel_rfl) (fun _ _ _ h => h) (Or.inl ⟨by rfl, by intro w' hSw; have hc := CF w' hSw; have hc2 := CR w' hSw; go_simp⟩) ?_
      simp only [Act.put, List.setIfInBounds_toArray, List.set_cons_zero, List.set_cons_succ]
      refine takeD 12 (some 19) (.int .i64 kn) hH2 rfl rfl (by kernel_rfl) (by kernel_rfl) (by kernel_rfl) (fun _ _ _ h => h) (Or.inl ⟨by rfl, by intro w' hSw; go_simp⟩) ?_
      simp only [Act.put, List.setIfInBounds_toArray, List.set_cons_zero, List.set_cons_succ]
      refine wpAnyH_ready (rs := [9]) (by kernel_rfl) (by simp) ?_
      refine AllReadyH.cons rfl (fun K' hK => ?_) AllReadyH.nil
      refine step_goW (by rfl) (some 16) rfl 19 #[.tmp 15] _ rfl #[.agg #[.slice a ll.length c]] (by simp [Act.eval]) (fun _ _ => rfl) (deedsOf_any a b o c ll _ h3 h7 (h.below (BW _ hH2) (Nat.le_refl _))) ?_
      rintro e W3 ⟨v3, rfl, hown, b3⟩
      refine ⟨_, rfl, hK.out _ _ (hH2.trans (b3.mono hH2.size)) (fun hH3 => ?_)⟩
      clear hK K'
      simp only [Act.put, List.setIfInBounds_toArray, List.set_cons_zero, List.set_cons_succ]
      obtain ⟨va, g, cap, rfl, hds, _, _⟩ := own_rs M.De.len hown
      clear hown
      refine takeD 11 (some 18) (.agg #[.slice va (M.deeds ll).length cap, .slice fa l.length fc, .slice ra rows.length rc]) hH3 rfl rfl (by kernel_rfl) (by kernel_rfl) (by kernel_rfl) (fun _ _ _ h => h) (Or.inl ⟨by rfl, by intro w' hSw; go_simp⟩) ?_
      simp only [Act.put, List.setIfInBounds_toArray, List.set_cons_zero, List.set_cons_succ]
      refine wpAnyH_ready (rs := [13]) (by kernel_rfl) (by simp) ?_
      refine AllReadyH.cons rfl (fun K' hK => ?_) AllReadyH.nil
      refine step_goW (by rfl) (some 20) rfl 20 #[.tmp 18, .tmp 19] _ rfl #[.agg #[.slice va (M.deeds ll).length cap, .slice fa l.length fc, .slice ra rows.length rc], .int .i64 kn] (by simp [Act.eval]) (fun _ _ => rfl) (wayHolds_any kn hk13.1 hk13.2 va g cap ll hW.prog fa fb fo fc l ra rb ro rc rows W3 ⟨hds, hf.below (BW _ hH3) (Nat.le_refl _), hr.below (BW _ hH3) (Nat.le_refl _), M.deeds28 hW.prog, hW.len, hW.three, hrs, hW.run, hW.pl⟩) ?_
      rintro e W4 ⟨rfl, b4⟩
      refine ⟨_, rfl, hK.out _ _ (hH3.trans (b4.mono hH3.size)) (fun hH4 => ?_)⟩
      clear hK K'
      simp only [Act.put, List.setIfInBounds_toArray, List.set_cons_zero, List.set_cons_succ]
      have HF : Hid (M.orderHolds ll l rows kn = (M.holdsA (M.netOf (M.deeds ll) l rows 0) (M.deeds ll).length && M.waitsA (M.deeds ll).length (M.netOf (M.deeds ll) l rows kn) (M.choices (M.deeds ll)))) := by show _ = _; unfold M.orderHolds; rw [hok, hk]; simp
      generalize (M.holdsA (M.netOf (M.deeds ll) l rows 0) (M.deeds ll).length && M.waitsA (M.deeds ll).length (M.netOf (M.deeds ll) l rows kn) (M.choices (M.deeds ll))) = r at *
      refine takeD 14 (some 21) (.bool r) hH4 rfl rfl (by kernel_rfl) (by kernel_rfl) (by kernel_rfl) (fun _ _ _ h => h) (Or.inl ⟨by rfl, by intro w' hSw; go_simp⟩) ?_
      simp only [Act.put, List.setIfInBounds_toArray, List.set_cons_zero, List.set_cons_succ]
      refine takeD 15 (some 6) (.bool r) hH4 rfl rfl (by kernel_rfl) (by kernel_rfl) (by kernel_rfl) (fun _ _ _ h => h) (Or.inl ⟨by rfl, by intro w' hSw; go_simp⟩) ?_
      simp only [Act.put, List.setIfInBounds_toArray, List.set_cons_zero, List.set_cons_succ]
      refine wpAnyH_done (by kernel_rfl) ?_ _
      clear hk hok
      go_wp2_with fail
      go_ret
      exact ⟨ret_bool HF.out.symm, BW _ hH4⟩

end Go.Proofs.YtjpgpjjejbjldaaGreat
