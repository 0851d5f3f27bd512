/- The law FnExecPlain, walked: it answers true, and leaves all as it was. Of whatever code. Small facts for the rows' proofs. No condition. What an argument of a law reads as: a code, bytes in memory. No condition. -/
import Derived.Test.YtiaibfalmmnipaaBnPw
import Derived.Test.YtiaibfalmmnipaaBnPt
import Derived.Test.YtiaibfalmmnipaaBnPd
import Derived.Test.YtiaibfalmmnipaaSProg
import Derived.Test.YtiaibfalmmnipaaRows
import Derived.ProofKit
import Derived.Deep.Slices
import Derived.ChangeSlices
import Derived.OpenShut

namespace Go.Proofs.Ytiaibfalmmnipaa
open Go.RowKit Go.Shelf

theorem M.spec_plain {ll : List (List M.D)} (h : M.prog ll = true) : M.specAll (M.turnPlain ll) = M.specAll ll := by
  have hp := (M.turnPlain_fact rfl h).1
  unfold M.specAll
  rw [if_pos hp, if_pos h, M.turnPlain_yes h, M.deeds_plain, M.all_plain]

set_option maxHeartbeats 4000000 in
set_option maxRecDepth 100000 in
theorem lawPlain_any (ca : Option Addr) (cb co L C : Nat) (x : Nat → Int) (w : World) (hL : L ≤ C) (had : 0 < L → ca = some ⟨cb, co, none⟩) (hc : ∀ i, i < L → w.cell? ⟨cb, co + i, none⟩ = some (.int .u8 (x i)) ∧ 0 ≤ x i ∧ x i ≤ 255) :
    Calls Try.prog 3 #[.slice ca L C] w fun e w' => e = .returned (.bool true) ∧ Below w.heap.size w w' := by
  by_cases hLb : L ≤ 1048576
  · go_enter Try.func3, Try.ntmps3
    go_wp2_with fail
    refine (DrawExecAll_any ca cb co L C x _ hL had hc hLb).mono ?_
    rintro e w1 ⟨a, g, c, mm, rfl, hsn, hsm, hb1⟩
    have hls := hsm.le
    have hl3 : mm.length ≤ 1048576 := by have := hsm.three; omega
    clear had hc
    have bx0 := BoxP.new (c := c) hb1 hsn.ss
    go_wp2_with fail
    generalize w1.alloc (.cells #[.slice a mm.length c] 25) = W0 at *
    generalize w1.heap.size = P at *
    clear hsn hb1 hsm
    refine (iexecAll_any a g 0 c mm W0 hl3 hls bx0.ss).mono ?_
    rintro e W1 ⟨v1, rfl, hA⟩
    have bx1 := bx0.below hA.bel
    obtain ⟨aw, gw, cw, rfl, hww, hle, hlen⟩ := hA.lw
    have p1 := bx1.p.c
    clear hA bx0
    go_wp2_with fail
    refine (sexecAllW_any a g 0 c mm W1 hl3 hls bx1.ss).mono ?_
    rintro e W2 ⟨v2, rfl, hB⟩
    have bx2 := bx1.below hB.bel
    have hww2 := hww.below hB.bel
    obtain ⟨a4, g4, c4, rfl, _⟩ := hB.lw
    have p2 := bx2.p.c
    have E0 : (((M.specAll mm).length : Int) != ((M.specAll mm).length : Int)) = false := by simp
    have E1 : (((M.specAll mm).length : Int) == ((M.specAll mm).length : Int)) = true := by simp
    have C9 := sprog_any a g 0 c mm W2 hl3 hls bx2.ss
    clear hB bx1 p1 hww
    cases hp : M.prog mm
    · rw [hp] at C9
      go_wp2_with fail
      refine C9.mono ?_
      rintro e W3 ⟨rfl, b3⟩
      have bx3 := bx2.below b3
      have p3 := bx3.p.c
      go_wp2_with fail
      refine (sexecAllW_any a g 0 c mm W3 hl3 hls bx3.ss).mono ?_
      rintro e W4 ⟨v4, rfl, hB⟩
      have bx4 := bx3.below hB.bel
      obtain ⟨a5, g5, c5, rfl, _⟩ := hB.lw
      go_wp2_with fail
      go_ret
      exact ⟨ret_bool (by simp), bx4.bel⟩
    · rw [hp] at C9
      go_wp2_with fail
      refine C9.mono ?_
      rintro e W3 ⟨rfl, b3⟩
      have bx3 := bx2.below b3
      have hww3 := hww2.below b3
      have p3 := bx3.p.c
      have HPL := M.spec_plain hp
      have hps := M.turnPlain_small (ll := mm) rfl
      clear C9 bx2 p2 hww2
      go_wp2_with fail
      refine (iturnPlain_any a g 0 c mm hl3 hls W3 bx3.ss).mono ?_
      rintro e W4 ⟨v4, rfl, ⟨vs4, hR⟩, b4⟩
      have bx4 := bx3.below b4
      have hww4 := hww3.below b4
      obtain ⟨a5, g5, c5, rfl, hsn5⟩ := hR.b.sn
      have hss5 := hsn5.ss
      clear hR hsn5
      go_wp2_with fail
      refine (iexecAll_any a5 g5 0 c5 (M.turnPlain mm) W4 (by omega) (fun t ht => by have := hps.2 t ht; omega) hss5).mono ?_
      rintro e W5 ⟨v5, rfl, hA⟩
      have bx5 := bx4.below hA.bel
      have hww5 := hww4.below hA.bel
      obtain ⟨av, gv, cv, rfl, hlw, _, _⟩ := hA.lw
      rw [HPL] at hlw ⊢
      clear hA bx4 hww4 bx3 hww3 HPL hss5 hps p3
      generalize M.specAll mm = xs at *
      go_wp2_with fail
      go_loopw [6] (fun s6 wr => ∃ n : Nat, s6 = .int .i64 n ∧ n ≤ xs.length ∧ Below W5.heap.size W5 wr) (fun s6 _ => xs.length - (intOf s6).toNat)
      case atStart => exact ⟨0, rfl, Nat.zero_le _, Below.refl _ _⟩
      case round =>
        obtain ⟨n, rfl, hn, hb⟩ := hrel
        by_cases hlt : n < xs.length
        · have i1 : (n : Int) < xs.length := by omega
          have i0 : ¬ (n : Int) < 0 := by omega
          obtain rfl := hlw.addr (by omega)
          obtain rfl := hww5.addr (by omega)
          obtain ⟨fa2, fb2, fc2, ra2, rb2, rc2, k1, k2, k3, k4⟩ := (hlw.below hb).row n hlt
          obtain ⟨fa3, fb3, fc3, ra3, rb3, rc3, j1, j2, j3, j4⟩ := (hww5.below hb).row n hlt
          have hy := hle _ (List.getElem_mem hlt)
          generalize xs[n] = y at *
          have CC : ∀ W : World, Below wr.heap.size wr W → W.cell? ⟨gv, n * 2, none⟩ = some (.slice fa2 y.1.length fc2) ∧ W.cell? ⟨gv, n * 2 + 1, none⟩ = some (.slice ra2 y.2.length rc2) ∧ W.cell? ⟨gw, n * 2, none⟩ = some (.slice fa3 y.1.length fc3) ∧ W.cell? ⟨gw, n * 2 + 1, none⟩ = some (.slice ra3 y.2.length rc3) := fun W hbW => ⟨(hbW.cell (p := ⟨gv, n * 2, none⟩) (World.block_lt_of_cell? _ _ k1)).trans k1, (hbW.cell (p := ⟨gv, n * 2 + 1, none⟩) (World.block_lt_of_cell? _ _ k2)).trans k2, (hbW.cell (p := ⟨gw, n * 2, none⟩) (World.block_lt_of_cell? _ _ j1)).trans j1, (hbW.cell (p := ⟨gw, n * 2 + 1, none⟩) (World.block_lt_of_cell? _ _ j2)).trans j2⟩
          have CL := fun (W : World) (hbW : Below wr.heap.size wr W) => lpExec_any y y fa2 fb2 fc2 ra2 rb2 rc2 fa3 fb3 fc3 ra3 rb3 rc3 W hy.a hy.b hy.c (k3.below hbW (Nat.le_refl _)) (k4.below hbW (Nat.le_refl _)) (j3.below hbW (Nat.le_refl _)) (j4.below hbW (Nat.le_refl _))
          have eself : M.eqWy y y = true := by simp [M.eqWy]
          rw [eself] at CL
          clear k1 k2 k3 k4 j1 j2 j3 j4 eself
          go_wp2_with fail
          refine wp_region_held_drew (S := fun w' => Below wr.heap.size wr w') (by kernel_rfl) (Below.refl _ _).drew (fun hH => ?_)
          refine takeD 0 (some 45) (.slice (some ⟨gv, 0, none⟩) xs.length cv) hH rfl rfl (by kernel_rfl) (by kernel_rfl) (by kernel_rfl) (fun _ _ _ h => h) (Or.inl ⟨by rfl, by intro w' hSw; go_simp⟩) ?_
          simp only [Act.put, List.setIfInBounds_toArray, List.set_cons_zero, List.set_cons_succ]
          refine takeD 1 (some 46) (.int .i64 n) hH rfl rfl (by kernel_rfl) (by kernel_rfl) (by kernel_rfl) (fun _ _ _ h => h) (Or.inl ⟨by rfl, by intro w' hSw; go_simp⟩) ?_
          simp only [Act.put, List.setIfInBounds_toArray, List.set_cons_zero, List.set_cons_succ]
          refine takeD 2 (some 47) (.pointer (some ⟨gv, n * 2, none⟩)) hH rfl rfl (by kernel_rfl) (by kernel_rfl) (by kernel_rfl) (fun _ _ _ h => h) (Or.inl ⟨by rfl, by intro w' hSw; go_simp⟩) ?_
          simp only [Act.put, List.setIfInBounds_toArray, List.set_cons_zero, List.set_cons_succ]
          refine takeD 3 (some 48) (.agg #[.slice fa2 y.1.length fc2, .slice ra2 y.2.length rc2]) hH rfl rfl (by kernel_rfl) (by kernel_rfl) (by kernel_rfl) (fun _ _ _ h => h) (Or.inl ⟨by rfl, by intro w' hSw; obtain ⟨q0, q1, q2, q3⟩ := CC w' hSw; go_simp⟩) ?_
          simp only [Act.put, List.setIfInBounds_toArray, List.set_cons_zero, List.set_cons_succ]
          refine takeD 4 (some 49) (.slice (some ⟨gw, 0, none⟩) xs.length cw) hH rfl rfl (by kernel_rfl) (by kernel_rfl) (by kernel_rfl) (fun _ _ _ h => h) (Or.inl ⟨by rfl, by intro w' hSw; go_simp⟩) ?_
          simp only [Act.put, List.setIfInBounds_toArray, List.set_cons_zero, List.set_cons_succ]
          refine takeD 5 (some 50) (.int .i64 n) hH rfl rfl (by kernel_rfl) (by kernel_rfl) (by kernel_rfl) (fun _ _ _ h => h) (Or.inl ⟨by rfl, by intro w' hSw; go_simp⟩) ?_
          simp only [Act.put, List.setIfInBounds_toArray, List.set_cons_zero, List.set_cons_succ]
          refine takeD 6 (some 51) (.pointer (some ⟨gw, n * 2, none⟩)) hH rfl rfl (by kernel_rfl) (by kernel_rfl) (by kernel_rfl) (fun _ _ _ h => h) (Or.inl ⟨by rfl, by intro w' hSw; go_simp⟩) ?_
          simp only [Act.put, List.setIfInBounds_toArray, List.set_cons_zero, List.set_cons_succ]
          refine takeD 7 (some 52) (.agg #[.slice fa3 y.1.length fc3, .slice ra3 y.2.length rc3]) hH rfl rfl (by kernel_rfl) (by kernel_rfl) (by kernel_rfl) (fun _ _ _ h => h) (Or.inl ⟨by rfl, by intro w' hSw; obtain ⟨q0, q1, q2, q3⟩ := CC w' hSw; go_simp⟩) ?_
          simp only [Act.put, List.setIfInBounds_toArray, List.set_cons_zero, List.set_cons_succ]
          refine wpAnyH_ready (rs := [8]) (by kernel_rfl) (by simp) ?_
          refine AllReadyH.cons rfl (fun K' hK => ?_) AllReadyH.nil
          refine step_goV (by rfl) (some 53) rfl 10 #[.tmp 48, .tmp 52] _ rfl #[.agg #[.slice fa2 y.1.length fc2, .slice ra2 y.2.length rc2], .agg #[.slice fa3 y.1.length fc3, .slice ra3 y.2.length rc3]] (by simp [Act.eval]) (enters_of Try.func10 (by kernel_rfl) rfl) (CL wr.drew hH) ?_
          rintro e W5 ⟨rfl, b5⟩
          refine ⟨_, rfl, ?_⟩
          simp only [Act.put, List.setIfInBounds_toArray, List.set_cons_zero, List.set_cons_succ]
          have bL : Below wr.heap.size wr W5 := (Below.refl _ wr).drew.trans b5
          refine hK.out _ _ bL (fun hH5 => ?_)
          clear hK K'
          refine takeD 9 (some 54) (.bool false) hH5 rfl rfl (by kernel_rfl) (by kernel_rfl) (by kernel_rfl) (fun _ _ _ h => h) (Or.inl ⟨by rfl, by intro w' hSw; go_simp⟩) ?_
          simp only [Act.put, List.setIfInBounds_toArray, List.set_cons_zero, List.set_cons_succ]
          refine wpAnyH_done (by kernel_rfl) ?_ _
          clear CC CL
          go_wp2_with fail
          exact ⟨⟨n + 1, by go_num, by omega, hb.trans (bL.mono hb.size)⟩, by simp [intOf]; omega⟩
        · have i1 : ¬ (n : Int) < xs.length := by omega
          go_wp2_with fail
          go_ret
          exact ⟨rfl, (bx5.below hb).bel⟩
  · go_enter Try.func3, Try.ntmps3
    go_wp2_with fail
    go_ret
    exact ⟨rfl, Below.refl _ _⟩

end Go.Proofs.Ytiaibfalmmnipaa

namespace Go.Proofs.Ytiaibfalmmnipaa
open Go.ChangeShapes Go.WideShapes Go.ChangeAt Go.RowKit Go.Deep

theorem Try.own : ownKnob Try.prog.godebug = none := by kernel_rfl
theorem Try.laidOut : laidOutB Try.prog = true := by kernel_rfl

theorem one_of_size {cs : Array Value} (h : cs.size = 1) : ∃ u, cs = #[u] := by
  obtain ⟨l⟩ := cs
  match l, h with
  | [u], _ => exact ⟨u, rfl⟩
end Go.Proofs.Ytiaibfalmmnipaa

namespace Go.Proofs.Ytiaibfalmmnipaa
open Go.ChangeShapes Go.WideShapes Go.ChangeAt Go.RowKit Go.Deep

theorem Try.cellsByte : Try.prog.cellsOf 5 = 1 := by kernel_rfl

/-- A code lies in memory. -/
def Code8 (w : World) (u : Value) : Prop := ∃ ca cb co L C, ∃ x : Nat → Int, u = .slice ca L C ∧ L ≤ C ∧ (0 < L → ca = some ⟨cb, co, none⟩) ∧ ∀ i, i < L → w.cell? ⟨cb, co + i, none⟩ = some (.int .u8 (x i)) ∧ 0 ≤ x i ∧ x i ≤ 255

section
variable {H : Type} {enc : TypeId × Value → H} {w : World} {base : Nat} {spare : Nat → Bool} {held : Bool}

set_option maxRecDepth 100000 in
theorem open_code {fuel : Nat} {u : Value} {x : DataW H × List MemPlace} (h : DataW.trod enc Try.prog w base spare held fuel 22 [u] = some x) : Code8 w u := by
  rcases open_ints Try.underlying22 Try.underlying5 Try.cellsByte h with ⟨hcs, _⟩ | ⟨a, len, cap, zs, hcs, _, hl, hm, hmm, _, hel, hwf⟩
  · simp at hcs
    exact ⟨none, 0, 0, 0, 0, fun _ => 0, hcs, Nat.le_refl _, fun h => absurd h (Nat.lt_irrefl _), fun i hi => absurd hi (Nat.not_lt_zero _)⟩
  · simp at hcs
    obtain ⟨gb, go, gs⟩ := a
    have hlm : len ≤ zs.length := by rw [hmm]; split <;> omega
    rcases Nat.eq_zero_or_pos len with h0 | hpos
    · subst h0
      exact ⟨_, 0, 0, 0, cap, fun _ => 0, hcs, Nat.zero_le _, fun h => absurd h (Nat.lt_irrefl _), fun i hi => absurd hi (Nat.not_lt_zero _)⟩
    · have hgs : gs = none := by simpa [Addr.add] using World.cell?_spot (hel 0 (by omega))
      subst hgs
      refine ⟨_, gb, go, len, cap, fun i => zs.getD i 0, hcs, hl, fun _ => rfl, fun i hi => ?_⟩
      have h1 := hel i (by omega)
      rw [add_plain] at h1
      have hw := hwf (zs.getD i 0) (by rw [List.getD_eq_getElem?_getD, List.getElem?_eq_getElem (by omega)]; exact List.getElem_mem _)
      exact ⟨h1, bounds_u8 hw⟩

end
end Go.Proofs.Ytiaibfalmmnipaa
