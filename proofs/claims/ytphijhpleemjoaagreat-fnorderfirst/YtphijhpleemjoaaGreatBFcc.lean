/- The law FnOrderFirst, walked: it answers true, and leaves all as it was. Of whatever code. -/
import Derived.Test.YtphijhpleemjoaaGreatBFai
import Derived.Test.YtphijhpleemjoaaGreatBFan
import Derived.Test.YtphijhpleemjoaaGreatBFbf
import Derived.Test.YtphijhpleemjoaaGreatBFbs
import Derived.Test.YtphijhpleemjoaaGreatBFbv
import Derived.Test.YtphijhpleemjoaaGreatBFbw
import Derived.Test.YtphijhpleemjoaaGreatBFbz
namespace Go.Proofs.YtphijhpleemjoaaGreat
open Go.RowKit
structure FiI (V W : World) (Q : Nat) (v : Value) (vs : List Value) (qq : List (List M.D)) : Prop where
 bel : Below Q V W
 q : Slot1 W Q v
 own : W.ownsRow (Q + 1) 50 1 v qq.length vs
 thr : Thr V vs qq
theorem FiI.push {V W w6 : World} {Q : Nat} {v : Value} {vs : List Value} {qq : List (List M.D)} (h : FiI V W Q v vs qq) {ta : Option Addr} {tb to' tc : Nat} {d : M.D} (hd : DoS V ta tb to' [d]) (hc : 1 ≤ tc) {o : Obj} {g6 cap6 : Nat}
  (ho : w6.ownsRow (Q + 1) 50 1 (.slice (some ⟨g6, 0, none⟩) (qq.length + 1) cap6) (qq.length + 1) (vs ++ [.slice ta 1 tc])) (hg : (W.alloc o).grownBy w6 v.ownBlock) :
  FiI V (w6.setCell ⟨Q, 0, none⟩ (.slice (some ⟨g6, 0, none⟩) (qq.length + 1) cap6)) Q (.slice (some ⟨g6, 0, none⟩) (qq.length + 1) cap6) (vs ++ [.slice ta 1 tc]) (qq ++ [[d]]) ∧ Below Q V w6 ∧ Slot1 w6 Q v := by
 have hs := h.bel.size
 have hq := h.q.lt
 have b1 : Below Q V (W.alloc o) := h.bel.alloc (by omega) o
 have b6 : Below Q V w6 := below_grown b1 hg (fun k hk => by have := (h.own.lt k hk).1; omega) (by simp; omega)
 have hne : some Q ≠ v.ownBlock := fun e => by have := (h.own.lt Q e.symm).1; omega
 have q6 : Slot1 w6 Q v := (h.q.bel (below1 W o)).apart hg fun e => hne e.symm
 refine ⟨⟨b6.setCell (Nat.le_refl _) _, q6.set _, ?_, h.thr.snoc hd hc⟩, b6, q6⟩
 have := ownsRow_far ho (b := Q) (i := 0) (by omega) (.slice (some ⟨g6, 0, none⟩) (qq.length + 1) cap6)
 rw [List.length_append]
 exact this
set_option maxHeartbeats 4000000 in
set_option maxRecDepth 100000 in
set_option linter.unusedSimpArgs false in
theorem lawFirst_any (ca : Option Addr) (cb co L C : Nat) (x : Nat → Int) (w : World) (hL : L ≤ C) (had : 0 < L → ca = some ⟨cb, co, none⟩) (hc : ∀ i, i < L → w.cell? ⟨cb, co + i, none⟩ = some (.int .u8 (x i)) ∧ 0 ≤ x i ∧ x i ≤ 255) :
  Calls Tryz.prog 13 #[.slice ca L C] w fun e w' => e = .returned (.bool true) ∧ Below w.heap.size w w' := by
 by_cases hLb : L ≤ 1048576
 ·go_enter Tryz.func13, Tryz.ntmps13
  go_wp2_with fail
  refine (DrawOrderAll_any ca cb co L C x _ hL had hc hLb).mono ?_
  rintro e w1 ⟨a, g, c, mm, kind, rfl, hsn, hsm, hk0, hk1, hb1⟩
  have hls := hsm.le
  have hl3 : mm.length ≤ 1048576 := by have := hsm.three; omega
  clear had hc
  have bx0 := BoxP.new (c := c) hb1 hsn.ss
  obtain ⟨ps, hT0⟩ := hsn.thb
  have hT := hT0.below (below1 w1 (.cells #[.slice a mm.length c] 25))
  clear hT0
  go_wp2_with fail
  generalize w1.alloc (.cells #[.slice a mm.length c] 25) = W0 at *
  generalize w1.heap.size = P at *
  clear hb1
  have hkl := M.orderAll_len mm kind
  have hkk := M.orderAll_le mm kind
  have hpos := hsm.pos
  have hthree := hsm.three
  obtain ⟨rfl⟩ := hsn.addr hpos
  have CI := fun (W : World) (h : BoxP w W P (some ⟨g, 0, none⟩) g c mm) => iorderAllK (some ⟨g, 0, none⟩) g 0 c mm kind W hl3 hls h.ss
  have CS := fun (W : World) (h : BoxP w W P (some ⟨g, 0, none⟩) g c mm) => sorderAllK (some ⟨g, 0, none⟩) g 0 c mm kind W hl3 hls h.ss
  have CP := fun (W : World) (h : BoxP w W P (some ⟨g, 0, none⟩) g c mm) => sprog_any (some ⟨g, 0, none⟩) g 0 c mm W hl3 hls h.ss
  obtain ⟨pr, hpr⟩ : ∃ pr, M.prog mm = pr := ⟨_, rfl⟩
  rw [hpr] at CP
  generalize M.orderAll mm kind = ks at *
  clear hpr hsn hsm
  have CPC : ∀ W : World, Below W0.heap.size W0 W → W.cell? ⟨P, 0, none⟩ = some (.slice (some ⟨g, 0, none⟩) mm.length c) := fun W hb => (bx0.below hb).p.c
  refine wp_region_held_drew (S := fun w' => Below W0.heap.size W0 w') (by kernel_rfl) (Below.refl _ _).drew (fun hH => ?_)
  refine takeD 0 (some 16) (.agg #[.slice (some ⟨g, 0, none⟩) mm.length c]) hH rfl rfl (by kernel_rfl) (by kernel_rfl) (by kernel_rfl) (fun _ _ _ h => h) (Or.inl ⟨by rfl, by intro w' hSw; have hc0 := CPC w' hSw; go_simp⟩) ?_
  simp only [Act.put, List.setIfInBounds_toArray, List.set_cons_zero, List.set_cons_succ]
  refine takeD 1 (some 17) (.int .i64 kind) hH rfl rfl (by kernel_rfl) (by kernel_rfl) (by kernel_rfl) (fun _ _ _ h => h) (Or.inl ⟨by rfl, by intro w' hSw; go_simp⟩) ?_
  simp only [Act.put, List.setIfInBounds_toArray, List.set_cons_zero, List.set_cons_succ]
  refine takeD 3 (some 19) (.agg #[.slice (some ⟨g, 0, none⟩) mm.length c]) hH rfl rfl (by kernel_rfl) (by kernel_rfl) (by kernel_rfl) (fun _ _ _ h => h) (Or.inl ⟨by rfl, by intro w' hSw; have hc0 := CPC w' hSw; go_simp⟩) ?_
  simp only [Act.put, List.setIfInBounds_toArray, List.set_cons_zero, List.set_cons_succ]
  refine takeD 4 (some 20) (.int .i64 kind) hH rfl rfl (by kernel_rfl) (by kernel_rfl) (by kernel_rfl) (fun _ _ _ h => h) (Or.inl ⟨by rfl, by intro w' hSw; go_simp⟩) ?_
  simp only [Act.put, List.setIfInBounds_toArray, List.set_cons_zero, List.set_cons_succ]
  refine wpAnyH_ready (rs := [2]) (by kernel_rfl) (by simp) ?_
  refine AllReadyH.cons rfl (fun K' hK => ?_) AllReadyH.nil
  refine step_goV (by rfl) (some 18) rfl 16 #[.tmp 16, .tmp 17] _ rfl #[.agg #[.slice (some ⟨g, 0, none⟩) mm.length c], .int .i64 kind] (by simp [Act.eval]) (enters_of Tryz.func16 (by kernel_rfl) rfl) (CI _ (bx0.below hH)) ?_
  rintro e V1 ⟨v1, rfl, hA⟩
  obtain ⟨a1, g1, c1, rfl, hS1⟩ := hA.ex
  refine ⟨_, rfl, hK.out _ _ (hH.trans (hA.bel.mono hH.size)) (fun hH1 => ?_)⟩
  clear hK K'
  simp only [Act.put, List.setIfInBounds_toArray, List.set_cons_zero, List.set_cons_succ]
  refine wpAnyH_ready (rs := [5]) (by kernel_rfl) (by simp) ?_
  refine AllReadyH.cons rfl (fun K' hK => ?_) AllReadyH.nil
  refine step_goV (by rfl) (some 21) rfl 18 #[.tmp 19, .tmp 20] _ rfl #[.agg #[.slice (some ⟨g, 0, none⟩) mm.length c], .int .i64 kind] (by simp [Act.eval]) (enters_of Tryz.func18 (by kernel_rfl) rfl) (CS _ (bx0.below hH1)) ?_
  rintro e V2 ⟨v2, rfl, hB⟩
  obtain ⟨a2, g2, c2, rfl, hS2⟩ := hB.ex
  have hS12 := hS1.below hB.bel (Nat.le_refl _)
  refine ⟨_, rfl, hK.out _ _ (hH1.trans (hB.bel.mono hH1.size)) (fun hH2 => ?_)⟩
  clear hK K'
  simp only [Act.put, List.setIfInBounds_toArray, List.set_cons_zero, List.set_cons_succ]
  refine wpAnyH_ready (rs := [6]) (by kernel_rfl) (by simp) ?_
  refine AllReadyH.cons rfl (fun K' hK => ?_) AllReadyH.nil
  refine step_goV (by rfl) (some 22) rfl 17 #[.tmp 18, .tmp 21] _ rfl #[.slice a1 ks.length c1, .slice a2 ks.length c2] (by simp [Act.eval]) (enters_of Tryz.func17 (by kernel_rfl) rfl) (lpList_same a1 g1 0 c1 a2 g2 0 c2 ks V2 (by omega) hkk hS12 hS2) ?_
  rintro e V3 ⟨rfl, b3⟩
  refine ⟨_, rfl, hK.out _ _ (hH2.trans (b3.mono hH2.size)) (fun hH3 => ?_)⟩
  clear hK K'
  simp only [Act.put, List.setIfInBounds_toArray, List.set_cons_zero, List.set_cons_succ]
  refine takeD 7 (some 23) (.bool false) hH3 rfl rfl (by kernel_rfl) (by kernel_rfl) (by kernel_rfl) (fun _ _ _ h => h) (Or.inl ⟨by rfl, by intro w' hSw; go_simp⟩) ?_
  simp only [Act.put, List.setIfInBounds_toArray, List.set_cons_zero, List.set_cons_succ]
  refine takeD 8 (some 24) (.bool false) hH3 rfl rfl (by kernel_rfl) (by kernel_rfl) (by kernel_rfl) (fun _ _ _ h => h) (Or.inl ⟨by rfl, by intro w' hSw; go_simp⟩) ?_
  simp only [Act.put, List.setIfInBounds_toArray, List.set_cons_zero, List.set_cons_succ]
  refine takeD 9 (some 25) (.agg #[.slice (some ⟨g, 0, none⟩) mm.length c]) hH3 rfl rfl (by kernel_rfl) (by kernel_rfl) (by kernel_rfl) (fun _ _ _ h => h) (Or.inl ⟨by rfl, by intro w' hSw; have hc0 := CPC w' hSw; go_simp⟩) ?_
  simp only [Act.put, List.setIfInBounds_toArray, List.set_cons_zero, List.set_cons_succ]
  refine wpAnyH_ready (rs := [10]) (by kernel_rfl) (by simp) ?_
  refine AllReadyH.cons rfl (fun K' hK => ?_) AllReadyH.nil
  refine step_goV (by rfl) (some 26) rfl 26 #[.tmp 25] _ rfl #[.agg #[.slice (some ⟨g, 0, none⟩) mm.length c]] (by simp [Act.eval]) (enters_of Tryz.func26 (by kernel_rfl) rfl) (CP _ (bx0.below hH3)) ?_
  rintro e V4 ⟨rfl, b4⟩
  refine ⟨_, rfl, hK.out _ _ (hH3.trans (b4.mono hH3.size)) (fun hH4 => ?_)⟩
  clear hK K'
  simp only [Act.put, List.setIfInBounds_toArray, List.set_cons_zero, List.set_cons_succ]
  cases pr
  ·refine takeD 11 (some 27) (.bool true) hH4 rfl rfl (by kernel_rfl) (by kernel_rfl) (by kernel_rfl) (fun _ _ _ h => h) (Or.inl ⟨by rfl, by intro w' hSw; go_simp⟩) ?_
   simp only [Act.put, List.setIfInBounds_toArray, List.set_cons_zero, List.set_cons_succ]
   refine takeD 12 (some 28) (.bool true) hH4 rfl rfl (by kernel_rfl) (by kernel_rfl) (by kernel_rfl) (fun _ _ _ h => h) (Or.inl ⟨by rfl, by intro w' hSw; go_simp⟩) ?_
   simp only [Act.put, List.setIfInBounds_toArray, List.set_cons_zero, List.set_cons_succ]
   refine wpAnyH_done (by kernel_rfl) ?_ _
   have bx4 := bx0.below hH4
   have CPC2 : ∀ W : World, Below V4.heap.size V4 W → W.cell? ⟨P, 0, none⟩ = some (.slice (some ⟨g, 0, none⟩) mm.length c) := fun W hb => (bx4.below hb).p.c
   clear hS1 hS2 hS12 hH hH1 hH2 hH3 CP
   go_wp2_with fail
   refine wp_region_held_drew (S := fun w' => Below V4.heap.size V4 w') (by kernel_rfl) (Below.refl _ _).drew (fun hH => ?_)
   refine takeD 0 (some 29) (.agg #[.slice (some ⟨g, 0, none⟩) mm.length c]) hH rfl rfl (by kernel_rfl) (by kernel_rfl) (by kernel_rfl) (fun _ _ _ h => h) (Or.inl ⟨by rfl, by intro w' hSw; have hc0 := CPC2 w' hSw; go_simp⟩) ?_
   simp only [Act.put, List.setIfInBounds_toArray, List.set_cons_zero, List.set_cons_succ]
   refine takeD 1 (some 30) (.int .i64 kind) hH rfl rfl (by kernel_rfl) (by kernel_rfl) (by kernel_rfl) (fun _ _ _ h => h) (Or.inl ⟨by rfl, by intro w' hSw; go_simp⟩) ?_
   simp only [Act.put, List.setIfInBounds_toArray, List.set_cons_zero, List.set_cons_succ]
   refine takeD 3 (some 32) (.agg #[.slice (some ⟨g, 0, none⟩) mm.length c]) hH rfl rfl (by kernel_rfl) (by kernel_rfl) (by kernel_rfl) (fun _ _ _ h => h) (Or.inl ⟨by rfl, by intro w' hSw; have hc0 := CPC2 w' hSw; go_simp⟩) ?_
   simp only [Act.put, List.setIfInBounds_toArray, List.set_cons_zero, List.set_cons_succ]
   refine takeD 4 (some 33) (.int .i64 kind) hH rfl rfl (by kernel_rfl) (by kernel_rfl) (by kernel_rfl) (fun _ _ _ h => h) (Or.inl ⟨by rfl, by intro w' hSw; go_simp⟩) ?_
   simp only [Act.put, List.setIfInBounds_toArray, List.set_cons_zero, List.set_cons_succ]
   refine wpAnyH_ready (rs := [2]) (by kernel_rfl) (by simp) ?_
   refine AllReadyH.cons rfl (fun K' hK => ?_) AllReadyH.nil
   refine step_goV (by rfl) (some 31) rfl 16 #[.tmp 29, .tmp 30] _ rfl #[.agg #[.slice (some ⟨g, 0, none⟩) mm.length c], .int .i64 kind] (by simp [Act.eval]) (enters_of Tryz.func16 (by kernel_rfl) rfl) (CI _ (bx4.below hH)) ?_
   rintro e U1 ⟨v1, rfl, hA⟩
   obtain ⟨a1, g1, c1, rfl, hS1⟩ := hA.ex
   refine ⟨_, rfl, hK.out _ _ (hH.trans (hA.bel.mono hH.size)) (fun hH1 => ?_)⟩
   clear hK K'
   simp only [Act.put, List.setIfInBounds_toArray, List.set_cons_zero, List.set_cons_succ]
   refine wpAnyH_ready (rs := [5]) (by kernel_rfl) (by simp) ?_
   refine AllReadyH.cons rfl (fun K' hK => ?_) AllReadyH.nil
   refine step_goV (by rfl) (some 34) rfl 18 #[.tmp 32, .tmp 33] _ rfl #[.agg #[.slice (some ⟨g, 0, none⟩) mm.length c], .int .i64 kind] (by simp [Act.eval]) (enters_of Tryz.func18 (by kernel_rfl) rfl) (CS _ (bx4.below hH1)) ?_
   rintro e U2 ⟨v2, rfl, hB⟩
   obtain ⟨a2, g2, c2, rfl, hS2⟩ := hB.ex
   have hS12 := hS1.below hB.bel (Nat.le_refl _)
   refine ⟨_, rfl, hK.out _ _ (hH1.trans (hB.bel.mono hH1.size)) (fun hH2 => ?_)⟩
   clear hK K'
   simp only [Act.put, List.setIfInBounds_toArray, List.set_cons_zero, List.set_cons_succ]
   refine wpAnyH_ready (rs := [6]) (by kernel_rfl) (by simp) ?_
   refine AllReadyH.cons rfl (fun K' hK => ?_) AllReadyH.nil
   refine step_goV (by rfl) (some 35) rfl 17 #[.tmp 31, .tmp 34] _ rfl #[.slice a1 ks.length c1, .slice a2 ks.length c2] (by simp [Act.eval]) (enters_of Tryz.func17 (by kernel_rfl) rfl) (lpList_same a1 g1 0 c1 a2 g2 0 c2 ks U2 (by omega) hkk hS12 hS2) ?_
   rintro e U3 ⟨rfl, b3⟩
   refine ⟨_, rfl, hK.out _ _ (hH2.trans (b3.mono hH2.size)) (fun hH3 => ?_)⟩
   clear hK K'
   simp only [Act.put, List.setIfInBounds_toArray, List.set_cons_zero, List.set_cons_succ]
   refine takeD 7 (some 2) (.bool true) hH3 rfl rfl (by kernel_rfl) (by kernel_rfl) (by kernel_rfl) (fun _ _ _ h => h) (Or.inl ⟨by rfl, by intro w' hSw; go_simp⟩) ?_
   simp only [Act.put, List.setIfInBounds_toArray, List.set_cons_zero, List.set_cons_succ]
   refine wpAnyH_done (by kernel_rfl) ?_ _
   have bx9 := bx4.below hH3
   go_wp2_with fail
   go_ret
   exact ⟨rfl, bx9.bel⟩
  ·refine takeD 11 (some 27) (.bool false) hH4 rfl rfl (by kernel_rfl) (by kernel_rfl) (by kernel_rfl) (fun _ _ _ h => h) (Or.inl ⟨by rfl, by intro w' hSw; go_simp⟩) ?_
   simp only [Act.put, List.setIfInBounds_toArray, List.set_cons_zero, List.set_cons_succ]
   refine takeD 12 (some 28) (.bool false) hH4 rfl rfl (by kernel_rfl) (by kernel_rfl) (by kernel_rfl) (fun _ _ _ h => h) (Or.inl ⟨by rfl, by intro w' hSw; go_simp⟩) ?_
   simp only [Act.put, List.setIfInBounds_toArray, List.set_cons_zero, List.set_cons_succ]
   refine wpAnyH_done (by kernel_rfl) ?_ _
   have bx4 := bx0.below hH4
   have hT4 := hT.below hH4
   clear hS1 hS2 hS12 hH hH1 hH2 hH3 CP CI CS hkk hkl CPC bx0 hT hH4
   obtain ⟨i0, hi, hz0, hz1, hz2⟩ := info_parts Tryz.info50
   have b5 := below1 V4 (.cells #[.slice none 0 0] 25)
   have F0 : FiI V4 (V4.alloc (.cells #[.slice none 0 0] 25)) V4.heap.size (.slice none 0 0) [] [] := ⟨b5, Slot1.new V4 _ _, World.ownsRow_nil _ _ _ _, ⟨rfl, fun i h1 => absurd h1 (Nat.not_lt_zero _)⟩⟩
   have hwV : Below w.heap.size w V4 := bx4.bel
   have hPV : P < V4.heap.size := bx4.p.lt
   have hgV : g < V4.heap.size := World.block_lt_of_cell? _ _ (hT4.cell 0 (by have := hT4.thr.1; omega))
   have htV : ∀ i (hi : i < mm.length), ∃ ta tb to' tc, ps[i]? = some (.slice ta mm[i].length tc) ∧ DoS V4 ta tb to' mm[i] ∧ mm[i].length ≤ tc := fun i hi => by
    obtain ⟨ta, tb, to', tc, e1, e2, e3⟩ := hT4.thr.2 i hi (by have := hT4.thr.1; omega)
    exact ⟨ta, tb, to', tc, by rw [List.getElem?_eq_getElem (by have := hT4.thr.1; omega), e1], e2, e3⟩
   have hpV : ∀ i v, ps[i]? = some v → V4.cell? ⟨g, i, none⟩ = some v := fun i v hv => by
    obtain ⟨hi, rfl⟩ := List.getElem?_eq_some_iff.1 hv
    exact hT4.cell i hi
   have p4 := bx4.p.c
   go_wp2_with fail
   generalize V4.alloc (.cells #[.slice none 0 0] 25) = V5 at *
   obtain ⟨Q, hQ⟩ : ∃ Q, V4.heap.size = Q := ⟨_, rfl⟩
   have HQ : Hid (V4.heap.size = Q) := hQ
   rw [hQ] at F0 hPV hgV ⊢
   clear hQ b5
   go_loopw [6] (fun s6 wr => ∃ (n : Nat) (v : Value) (vs : List Value) (qq : List (List M.D)), s6 = .int .i64 n ∧ n ≤ mm.length ∧ qq.length ≤ n ∧ Hid (∀ l ∈ qq, l.length ≤ 1) ∧ FiI V4 wr Q v vs qq) (fun s6 _ => mm.length - (intOf s6).toNat)
   case atStart => exact ⟨0, _, [], [], rfl, Nat.zero_le _, Nat.le_refl _, fun l hl => (by cases hl), F0⟩
   case round =>
    clear F0 p4
    obtain ⟨n, v, vs, qq, rfl, hn, hqn, HONE, F⟩ := hrel
    have pc := (F.bel.cell (p := ⟨P, 0, none⟩) hPV).trans bx4.p.c
    by_cases hlt : n < mm.length
    ·have i1 : (n : Int) < mm.length := by omega
     obtain ⟨ta, tb, to', tc, hps, hd, hcp⟩ := htV n hlt
     obtain ⟨t, ht⟩ : ∃ t, mm[n] = t := ⟨_, rfl⟩
     rw [ht] at hps hd hcp
     have tcell := (F.bel.cell (p := ⟨g, n, none⟩) hgV).trans (hpV n _ hps)
     clear ht hps
     cases t with
     | nil =>
      rw [List.length_nil] at tcell
      clear hd hcp
      go_wp2_with fail
      exact ⟨⟨n + 1, v, vs, qq, by go_num, by omega, by omega, HONE, F⟩, by simp [intOf]; omega⟩
     | cons d t2 =>
      obtain ⟨rfl⟩ := hd.addr (by simp)
      obtain ⟨c0, c1, c2⟩ := hd.row 0 (by simp)
      rw [Nat.zero_mul, Nat.add_zero] at c0
      have htb : tb < Q := HQ.out ▸ World.block_lt_of_cell? _ _ c0
      have kc := (F.bel.cell (p := ⟨tb, to', none⟩) htb).trans c0
      have hd1 : DoS V4 (some ⟨tb, to', none⟩) tb to' [d] := ⟨fun _ => rfl, fun i hi => by
       obtain rfl : i = 0 := by simp at hi; omega
       exact hd.row 0 (by simp)⟩
      obtain ⟨L, hLL⟩ : ∃ L, (d :: t2).length = L := ⟨_, rfl⟩
      rw [hLL] at tcell hcp
      have iL : (0 : Int) < (L : Int) := by rw [← hLL]; simp
      have iL2 : 0 < L := by omega
      have iC : 1 ≤ tc := by omega
      have iC2 : ¬ (tc : Int) < 1 := by omega
      have kc' : wr.cell? ⟨tb, to', none⟩ = some (.int .i64 d.k) := kc
      clear hLL hd c0 c1 c2 kc hcp
      by_cases e7 : d.k = 7
      ·have n7 : (d.k != 7) = false := by simp [e7]
       clear e7
       go_wp2_with fail
       exact ⟨⟨n + 1, v, vs, qq, by go_num, by omega, by omega, HONE, F⟩, by simp [intOf]; omega⟩
      ·have n7 : (d.k != 7) = true := by simp [e7]
       clear e7
       obtain ⟨av, cv, rfl⟩ := own_slx F.own
       have HON2 : Hid (∀ l ∈ qq ++ [[d]], l.length ≤ 1) := fun l hl => by
        rcases List.mem_append.1 hl with hl | hl
        ·exact HONE.out l hl
        ·rw [List.mem_singleton.1 hl]; simp
       have HS : ∀ W : World, Below Q V4 W → W.cell? ⟨P, 0, none⟩ = some (.slice (some ⟨g, 0, none⟩) mm.length c) ∧ W.cell? ⟨g, n, none⟩ = some (.slice (some ⟨tb, to', none⟩) L tc) := fun W hb => ⟨((hb.cell (p := ⟨P, 0, none⟩) hPV).trans ((F.bel.cell (p := ⟨P, 0, none⟩) hPV).symm)).trans pc, ((hb.cell (p := ⟨g, n, none⟩) hgV).trans ((F.bel.cell (p := ⟨g, n, none⟩) hgV).symm)).trans tcell⟩
       have FD : FiI V4 wr.drew Q (.slice av qq.length cv) vs qq := ⟨F.bel.drew, ⟨F.q.c, F.q.fz⟩, F.own, F.thr⟩
       go_wp2_with fail
       refine wp_region_held_drew (S := fun W => W.cell? ⟨P, 0, none⟩ = some (.slice (some ⟨g, 0, none⟩) mm.length c) ∧ W.cell? ⟨g, n, none⟩ = some (.slice (some ⟨tb, to', none⟩) L tc)) (by kernel_rfl) (HS _ FD.bel) (fun hH => ?_)
       generalize wr.drew = Wd at *
       refine takeD 0 (some 62) (.pointer (some ⟨Q, 0, none⟩)) hH rfl rfl (by kernel_rfl) (by kernel_rfl) (by kernel_rfl) (fun _ _ _ h => h) (Or.inl ⟨by rfl, by intro w' hSw; obtain ⟨u0, u1⟩ := hSw; go_simp⟩) ?_
       simp only [Act.put, List.setIfInBounds_toArray, List.set_cons_zero, List.set_cons_succ]
       refine takeD 2 (some 64) (.pointer (some ⟨P, 0, none⟩)) hH rfl rfl (by kernel_rfl) (by kernel_rfl) (by kernel_rfl) (fun _ _ _ h => h) (Or.inl ⟨by rfl, by intro w' hSw; obtain ⟨u0, u1⟩ := hSw; go_simp⟩) ?_
       simp only [Act.put, List.setIfInBounds_toArray, List.set_cons_zero, List.set_cons_succ]
       refine takeD 3 (some 65) (.slice (some ⟨g, 0, none⟩) mm.length c) hH rfl rfl (by kernel_rfl) (by kernel_rfl) (by kernel_rfl) (fun _ _ _ h => h) (Or.inl ⟨by rfl, by intro w' hSw; obtain ⟨u0, u1⟩ := hSw; go_simp⟩) ?_
       simp only [Act.put, List.setIfInBounds_toArray, List.set_cons_zero, List.set_cons_succ]
       refine takeD 4 (some 66) (.int .i64 n) hH rfl rfl (by kernel_rfl) (by kernel_rfl) (by kernel_rfl) (fun _ _ _ h => h) (Or.inl ⟨by rfl, by intro w' hSw; obtain ⟨u0, u1⟩ := hSw; go_simp⟩) ?_
       simp only [Act.put, List.setIfInBounds_toArray, List.set_cons_zero, List.set_cons_succ]
       refine takeD 5 (some 67) (.pointer (some ⟨g, n, none⟩)) hH rfl rfl (by kernel_rfl) (by kernel_rfl) (by kernel_rfl) (fun _ _ _ h => h) (Or.inl ⟨by rfl, by intro w' hSw; obtain ⟨u0, u1⟩ := hSw; go_simp⟩) ?_
       simp only [Act.put, List.setIfInBounds_toArray, List.set_cons_zero, List.set_cons_succ]
       refine takeD 6 (some 68) (.slice (some ⟨tb, to', none⟩) L tc) hH rfl rfl (by kernel_rfl) (by kernel_rfl) (by kernel_rfl) (fun _ _ _ h => h) (Or.inl ⟨by rfl, by intro w' hSw; obtain ⟨u0, u1⟩ := hSw; go_simp⟩) ?_
       simp only [Act.put, List.setIfInBounds_toArray, List.set_cons_zero, List.set_cons_succ]
       refine takeD 7 (some 69) (.slice (some ⟨tb, to', none⟩) 1 tc) hH rfl rfl (by kernel_rfl) (by kernel_rfl) (by kernel_rfl) (fun _ _ _ h => h) (Or.inl ⟨by rfl, by intro w' hSw; obtain ⟨u0, u1⟩ := hSw; go_simp⟩) ?_
       simp only [Act.put, List.setIfInBounds_toArray, List.set_cons_zero, List.set_cons_succ]
       refine wpAnyH_ready (rs := [1, 8]) (by kernel_rfl) (by simp) ?_
       refine AllReadyH.cons rfl (fun K' hK => ?_) (AllReadyH.cons rfl (fun K' hK => ?_) AllReadyH.nil)
       ·have qc := FD.q.c
        rw [if_pos (by rfl)]
        go_simp
        refine hK.out _ _ (HS _ FD.bel) (fun _ => ?_)
        clear hK K'
        refine wpAnyH_ready (rs := [8]) (by kernel_rfl) (by simp) ?_
        refine AllReadyH.cons rfl (fun K' hK => ?_) AllReadyH.nil
        have bA : Below Q V4 (Wd.alloc (.cells #[.slice (some ⟨tb, to', none⟩) 1 tc] 50)) := FD.bel.alloc (by have := FD.q.lt; omega) _
        rw [if_pos (by rfl)]
        go_simp
        refine hK.out _ _ (HS _ bA) (fun _ => ?_)
        clear hK K'
        refine wpAnyH_ready (rs := [9]) (by kernel_rfl) (by simp) ?_
        refine AllReadyH.cons rfl (fun K' hK => ?_) AllReadyH.nil
        refine step_append_lies _ (by rfl) (.tmp 63) (.tmp 70) 23 (by rfl) (Q + 1) 50 i0 _ 1 24 Tryz.underlying23 hi hz0 hz1 hz2 rfl (by decide) (.slice av qq.length cv) qq.length vs (by rfl) (FD.own.alloc _) ⟨Wd.heap.size, 0, none⟩ 1 1 [.slice (some ⟨tb, to', none⟩) 1 tc] (by rfl) (by rfl) (World.news_of_block (cs := #[.slice (some ⟨tb, to', none⟩) 1 tc]) (t := 50) (fr := (0, 0)) (heap_alloc_new Wd _)) (by simp [Value.oneCell']) (by omega) (by unfold maxLen; omega) (by omega) (by have := FD.q.lt; simp; omega) (Wd.heap.size + 1) (by simp) ?_
        intro g6 cap6 w6 hown6 hg6 hat6 hlt6
        obtain ⟨FF, b6, q6⟩ := FD.push hd1 iC hown6 hg6
        have q6c := q6.c
        have q6f := q6.fz
        clear hown6 hg6 hat6 hlt6
        go_simp
        refine hK.out _ _ (HS _ b6) (fun hH6 => ?_)
        clear hK K'
        refine takeD 10 (some 72) (.pointer (some ⟨Q, 0, none⟩)) hH6 rfl rfl (by kernel_rfl) (by kernel_rfl) (by kernel_rfl) (fun _ _ _ h => h) (Or.inl ⟨by rfl, by intro w' hSw; obtain ⟨u0, u1⟩ := hSw; go_simp⟩) ?_
        simp only [Act.put, List.setIfInBounds_toArray, List.set_cons_zero, List.set_cons_succ]
        refine wpAnyH_ready (rs := [11]) (by kernel_rfl) (by simp) ?_
        refine AllReadyH.cons rfl (fun K' hK => ?_) AllReadyH.nil
        rw [if_pos (by rfl)]
        go_simp
        refine hK.out _ _ (HS _ FF.bel) (fun _ => ?_)
        clear hK K'
        refine wpAnyH_done (by kernel_rfl) ?_ _
        go_wp2_with fail
        exact ⟨⟨n + 1, _, _, qq ++ [[d]], by go_num, by omega, by rw [List.length_append]; simp; omega, HON2, FF⟩, by simp [intOf]; omega⟩
       ·have bA : Below Q V4 (Wd.alloc (.cells #[.slice (some ⟨tb, to', none⟩) 1 tc] 50)) := FD.bel.alloc (by have := FD.q.lt; omega) _
        rw [if_pos (by rfl)]
        go_simp
        refine hK.out _ _ (HS _ bA) (fun _ => ?_)
        clear hK K'
        refine wpAnyH_ready (rs := [1]) (by kernel_rfl) (by simp) ?_
        refine AllReadyH.cons rfl (fun K' hK => ?_) AllReadyH.nil
        have qc := (FD.q.bel (below1 Wd (.cells #[.slice (some ⟨tb, to', none⟩) 1 tc] 50))).c
        rw [if_pos (by rfl)]
        go_simp
        refine hK.out _ _ (HS _ bA) (fun _ => ?_)
        clear hK K'
        refine wpAnyH_ready (rs := [9]) (by kernel_rfl) (by simp) ?_
        refine AllReadyH.cons rfl (fun K' hK => ?_) AllReadyH.nil
        refine step_append_lies _ (by rfl) (.tmp 63) (.tmp 70) 23 (by rfl) (Q + 1) 50 i0 _ 1 24 Tryz.underlying23 hi hz0 hz1 hz2 rfl (by decide) (.slice av qq.length cv) qq.length vs (by rfl) (FD.own.alloc _) ⟨Wd.heap.size, 0, none⟩ 1 1 [.slice (some ⟨tb, to', none⟩) 1 tc] (by rfl) (by rfl) (World.news_of_block (cs := #[.slice (some ⟨tb, to', none⟩) 1 tc]) (t := 50) (fr := (0, 0)) (heap_alloc_new Wd _)) (by simp [Value.oneCell']) (by omega) (by unfold maxLen; omega) (by omega) (by have := FD.q.lt; simp; omega) (Wd.heap.size + 1) (by simp) ?_
        intro g6 cap6 w6 hown6 hg6 hat6 hlt6
        obtain ⟨FF, b6, q6⟩ := FD.push hd1 iC hown6 hg6
        have q6c := q6.c
        have q6f := q6.fz
        clear hown6 hg6 hat6 hlt6
        go_simp
        refine hK.out _ _ (HS _ b6) (fun hH6 => ?_)
        clear hK K'
        refine takeD 10 (some 72) (.pointer (some ⟨Q, 0, none⟩)) hH6 rfl rfl (by kernel_rfl) (by kernel_rfl) (by kernel_rfl) (fun _ _ _ h => h) (Or.inl ⟨by rfl, by intro w' hSw; obtain ⟨u0, u1⟩ := hSw; go_simp⟩) ?_
        simp only [Act.put, List.setIfInBounds_toArray, List.set_cons_zero, List.set_cons_succ]
        refine wpAnyH_ready (rs := [11]) (by kernel_rfl) (by simp) ?_
        refine AllReadyH.cons rfl (fun K' hK => ?_) AllReadyH.nil
        rw [if_pos (by rfl)]
        go_simp
        refine hK.out _ _ (HS _ FF.bel) (fun _ => ?_)
        clear hK K'
        refine wpAnyH_done (by kernel_rfl) ?_ _
        go_wp2_with fail
        exact ⟨⟨n + 1, _, _, qq ++ [[d]], by go_num, by omega, by rw [List.length_append]; simp; omega, HON2, FF⟩, by simp [intOf]; omega⟩
    ·have i1 : ¬ (n : Int) < mm.length := by omega
     obtain ⟨qa, qg, qc, rfl, hss⟩ := (F.thr.below F.bel (Nat.le_of_eq HQ.out)).ss F.own
     have hlq : qq.length ≤ 1048576 := by omega
     have hlsq : ∀ t ∈ qq, t.length ≤ 1048576 := fun t ht => by have := HONE.out t ht; omega
     have hqb := F.q
     have hb9 : Below w.heap.size w wr := hwV.trans (F.bel.mono (by have := hwV.size; have := HQ.out; omega))
     have C1 := fun (W : World) (h : DoSS W qa qg 0 qq) => iorderAllK qa qg 0 qc qq 1 W hlq hlsq h
     have C2 := fun (W : World) (h : DoSS W qa qg 0 qq) => iorderAllK qa qg 0 qc qq 2 W hlq hlsq h
     have C3 := fun (W : World) (h : DoSS W qa qg 0 qq) => iorderAllK qa qg 0 qc qq 3 W hlq hlsq h
     have E2 := M.all_first HONE.out (k := 2) (by omega)
     have E3 := M.all_first HONE.out (k := 3) (by omega)
     rw [show ((2 : Nat) : Int) = 2 from rfl] at E2
     rw [show ((3 : Nat) : Int) = 3 from rfl] at E3
     rw [E2] at C2
     rw [E3] at C3
     have hl9 := M.orderAll_len qq 1
     have hk9 := M.orderAll_le qq 1
     generalize M.orderAll qq 1 = k1 at *
     have q5 := hqb.c
     clear E2 E3 HONE F hlsq
     go_wp2_with fail
     refine (C1 wr hss).mono ?_
     rintro e V6 ⟨v6, rfl, hA⟩
     have b6 := hb9.trans (hA.bel.mono hb9.size)
     have hs6 := hss.below hA.bel (Nat.le_refl _)
     have hq6 := hqb.bel hA.bel
     obtain ⟨a6, g6, c6, rfl, hS6⟩ := hA.ex
     have q6 := hq6.c
     clear hA hss hqb q5 hb9
     go_wp2_with fail
     refine (C2 V6 hs6).mono ?_
     rintro e V7 ⟨v7, rfl, hB⟩
     have b7 := b6.trans (hB.bel.mono b6.size)
     have hs7 := hs6.below hB.bel (Nat.le_refl _)
     have hq7 := hq6.bel hB.bel
     have hS67 := hS6.below hB.bel (Nat.le_refl _)
     obtain ⟨a7, g7, c7, rfl, hS7⟩ := hB.ex
     have q7 := hq7.c
     clear hB hs6 hq6 q6 hS6 b6
     go_wp2_with fail
     refine (lpList_same a7 g7 0 c7 a6 g6 0 c6 k1 V7 (by omega) hk9 hS7 hS67).mono ?_
     rintro e V8 ⟨rfl, b8⟩
     have bw8 := b7.trans (b8.mono b7.size)
     have hs8 := hs7.below b8 (Nat.le_refl _)
     have hq8 := hq7.bel b8
     have hS68 := hS67.below b8 (Nat.le_refl _)
     have q8 := hq8.c
     clear b8 b7 hs7 hq7 q7 hS67 hS7
     go_wp2_with fail
     refine (C3 V8 hs8).mono ?_
     rintro e V9 ⟨v9, rfl, hB⟩
     have b9 := bw8.trans (hB.bel.mono bw8.size)
     have hS69 := hS68.below hB.bel (Nat.le_refl _)
     obtain ⟨a9, g9, c9, rfl, hS9⟩ := hB.ex
     clear hB bw8 hs8 hq8 q8 hS68
     go_wp2_with fail
     refine (lpList_same a9 g9 0 c9 a6 g6 0 c6 k1 V9 (by omega) hk9 hS9 hS69).mono ?_
     rintro e VA ⟨rfl, bA⟩
     have bxA := b9.trans (bA.mono b9.size)
     go_wp2_with fail
     go_ret
     exact ⟨rfl, bxA⟩
 ·go_enter Tryz.func13, Tryz.ntmps13
  go_wp2_with fail
  go_ret
  exact ⟨rfl, Below.refl _ _⟩
end Go.Proofs.YtphijhpleemjoaaGreat
