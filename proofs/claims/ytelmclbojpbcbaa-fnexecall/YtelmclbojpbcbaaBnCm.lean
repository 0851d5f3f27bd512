/- The law FnExecAll, walked: it answers true, and leaves all as it was. Of whatever code. Small facts for the rows' proofs. No condition. What an argument of a law reads as: a code, bytes in memory. No condition. -/
import Derived.Test.YtelmclbojpbcbaaBnCw
import Derived.Test.YtelmclbojpbcbaaBnDx
import Derived.Test.YtelmclbojpbcbaaOkWay
import Derived.Test.YtelmclbojpbcbaaBnCo
import Derived.Test.YtelmclbojpbcbaaRows
import Derived.ProofKit
import Derived.Deep.Slices
import Derived.ChangeSlices
import Derived.OpenShut

namespace Go.Proofs.Ytelmclbojpbcbaa
open Go.RowKit Go.Shelf

theorem M.any_step {xs : List M.Wy} {z : M.Wy} {n : Nat} (h : n < xs.length) : (xs.take (n + 1)).any (fun x => M.eqWy x z) = ((xs.take n).any (fun x => M.eqWy x z) || M.eqWy xs[n] z) := by
  rw [List.take_succ_eq_append_getElem h, List.any_append]; simp
theorem M.any_all {ll : List (List M.D)} {z : M.Wy} : (M.specAll ll).any (fun x => M.eqWy x z) = M.execOk ll z.1 z.2 := by
  rw [Bool.eq_iff_iff, ← M.mem_execAll, List.any_eq_true]
  constructor
  · rintro ⟨x, hx, e⟩
    have : x = z := by simpa [M.eqWy] using e
    rw [← this]; exact hx
  · exact fun h => ⟨z, h, by simp [M.eqWy]⟩

set_option maxHeartbeats 2000000 in
set_option maxRecDepth 100000 in
theorem lawAll_any (ca : Option Addr) (cb co L C : Nat) (x : Nat → Int) (w : World) (hL : L ≤ C) (had : 0 < L → ca = some ⟨cb, co, none⟩) (hc : ∀ i, i < L → w.cell? ⟨cb, co + i, none⟩ = some (.int .u8 (x i)) ∧ 0 ≤ x i ∧ x i ≤ 255) :
    Calls Try.prog 5 #[.slice ca L C] w fun e w' => e = .returned (.bool true) ∧ Below w.heap.size w w' := by
  by_cases hLb : L ≤ 1048576
  · go_enter Try.func5, Try.ntmps5
    go_wp2_with fail
    refine (DrawExecOk_any ca cb co L C x _ hL had hc hLb).mono ?_
    rintro e w1 ⟨v, rfl, ⟨a, g, c, mm, fv, ov, l, rows, rfl, hsn, hsm, hwy, h1, h2, h3⟩, hb1⟩
    obtain ⟨fa, fb, fc, ra, rb, rc, rfl, rfl, hf1, ho1⟩ := hwy.ss
    have h2' : Hid (rows.length = 3) := h2
    have hl3 : mm.length ≤ 1048576 := by have := hsm.three; omega
    have hls : ∀ t ∈ mm, t.length ≤ 1048576 := fun t ht => by have := hsm.steps t ht; omega
    have hl1 : l.length ≤ 1048576 := by omega
    have hl2 : rows.length ≤ 1048576 := by omega
    have hrs : ∀ r ∈ rows, r.length ≤ 1048576 := fun r hr => by have := h3 r hr; omega
    clear had hc h2 hwy
    go_wp2_with fail
    have bx0 := BxW.new (c := c) (fc := fc) (rc := rc) hb1 hsn.ss hf1 ho1
    generalize (w1.alloc (.cells #[.slice a mm.length c] 30)).alloc (.cells #[.slice fa l.length fc, .slice ra rows.length rc] 43) = W0 at *
    obtain ⟨X, hXe⟩ : ∃ X, w1.heap.size + 1 = X := ⟨_, rfl⟩
    rw [hXe] at bx0 ⊢
    generalize w1.heap.size = P at *
    clear hsn hb1 hf1 ho1
    obtain ⟨ok, hok⟩ : ∃ ok, M.execOk mm l rows = ok := ⟨_, rfl⟩
    have C1 := iexecOk_any a g 0 c mm fa fb 0 fc l ra rb 0 rc rows W0 hl3 hls hl1 hl2 hrs bx0.ss bx0.f bx0.o
    rw [hok] at C1
    refine C1.mono ?_
    rintro e W1 ⟨rfl, b1⟩
    have bx1 := bx0.below b1
    have p1 := bx1.p.c
    have x10 := bx1.x.c0
    have x11 := bx1.x.c1
    have C2 := sexecOk_any a g 0 c mm fa fb 0 fc l ra rb 0 rc rows W1 hl3 hls hl1 hrs bx1.ss bx1.f bx1.o
    rw [hok] at C2
    have E0 : (ok != ok) = false := by simp
    clear C1 bx0 b1
    go_wp2_with fail
    refine C2.mono ?_
    rintro e W2 ⟨rfl, b2⟩
    have bx2 := bx1.below b2
    clear C2 bx1 b2 p1 x10 x11
    have p2 := bx2.p.c
    go_wp2_with fail
    refine (iexecAll_any a g 0 c mm W2 hl3 hls bx2.ss).mono ?_
    rintro e W3 ⟨v3, rfl, hA⟩
    have bx3 := bx2.below hA.bel
    obtain ⟨av, gv, cv, rfl, hlw, hle, hlen⟩ := hA.lw
    have HF : Hid ((M.specAll mm).any (fun x => M.eqWy x (l, rows)) = ok) := by show _ = _; rw [M.any_all]; exact hok
    clear hA bx2 p2 hok
    generalize M.specAll mm = xs at *
    go_wp2_with fail
    go_loopw [7, 8] (fun s7 s8 wr => ∃ (n : Nat) (f : Bool), s7 = .bool f ∧ s8 = .int .i64 n ∧ n ≤ xs.length ∧ Hid ((xs.take n).any (fun x => M.eqWy x (l, rows)) = f) ∧ Below W3.heap.size W3 wr) (fun _ s8 _ => xs.length - (intOf s8).toNat)
    case atStart => exact ⟨0, false, rfl, rfl, Nat.zero_le _, by show _ = _; rfl, Below.refl _ _⟩
    case round =>
      obtain ⟨n, f, rfl, rfl, hn, HA, hb⟩ := hrel
      by_cases hlt : n < xs.length
      · have i1 : (n : Int) < xs.length := by omega
        have i0 : ¬ (n : Int) < 0 := by omega
        obtain rfl := hlw.addr (by omega)
        have HS : Hid ((xs.take (n + 1)).any (fun x => M.eqWy x (l, rows)) = (f || M.eqWy xs[n] (l, rows))) := by show _ = _; rw [M.any_step hlt, HA.out]
        obtain ⟨fa2, fb2, fc2, ra2, rb2, rc2, k1, k2, k3, k4⟩ := (hlw.below hb).row n hlt
        have hy := hle _ (List.getElem_mem hlt)
        generalize xs[n] = y at *
        have bxr := bx3.below hb
        have CC : ∀ W : World, Below wr.heap.size wr W → W.cell? ⟨gv, n * 2, none⟩ = some (.slice fa2 y.1.length fc2) ∧ W.cell? ⟨gv, n * 2 + 1, none⟩ = some (.slice ra2 y.2.length rc2) ∧ W.cell? ⟨X, 0, none⟩ = some (.slice fa l.length fc) ∧ W.cell? ⟨X, 1, none⟩ = some (.slice ra rows.length rc) := fun W hbW => ⟨(hbW.cell (p := ⟨gv, n * 2, none⟩) (World.block_lt_of_cell? _ _ k1)).trans k1, (hbW.cell (p := ⟨gv, n * 2 + 1, none⟩) (World.block_lt_of_cell? _ _ k2)).trans k2, (bxr.below hbW).x.c0, (bxr.below hbW).x.c1⟩
        have CL := fun (W : World) (hbW : Below wr.heap.size wr W) => lpExec_any y (l, rows) fa2 fb2 fc2 ra2 rb2 rc2 fa fb fc ra rb rc W hy.a hy.b hy.c (k3.below hbW (Nat.le_refl _)) (k4.below hbW (Nat.le_refl _)) (bxr.below hbW).f (bxr.below hbW).o
        clear k1 k2 k3 k4 HA
        go_wp2_with fail
        refine wp_region_held_drew (S := fun w' => Below wr.heap.size wr w') (by kernel_rfl) (Below.refl _ _).drew (fun hH => ?_)
        cases f
        · refine takeD 0 (some 33) (.bool false) hH rfl rfl (by kernel_rfl) (by kernel_rfl) (by kernel_rfl) (fun _ _ _ h => h) (Or.inl ⟨by rfl, by intro w' hSw; go_simp⟩) ?_
          simp only [Act.put, List.setIfInBounds_toArray, List.set_cons_zero, List.set_cons_succ]
          refine takeD 1 (some 34) (.bool false) hH rfl rfl (by kernel_rfl) (by kernel_rfl) (by kernel_rfl) (fun _ _ _ h => h) (Or.inl ⟨by rfl, by intro w' hSw; go_simp⟩) ?_
          simp only [Act.put, List.setIfInBounds_toArray, List.set_cons_zero, List.set_cons_succ]
          refine takeD 2 (some 35) (.slice (some ⟨gv, 0, none⟩) xs.length cv) hH rfl rfl (by kernel_rfl) (by kernel_rfl) (by kernel_rfl) (fun _ _ _ h => h) (Or.inl ⟨by rfl, by intro w' hSw; go_simp⟩) ?_
          simp only [Act.put, List.setIfInBounds_toArray, List.set_cons_zero, List.set_cons_succ]
          refine takeD 3 (some 36) (.int .i64 n) hH rfl rfl (by kernel_rfl) (by kernel_rfl) (by kernel_rfl) (fun _ _ _ h => h) (Or.inl ⟨by rfl, by intro w' hSw; go_simp⟩) ?_
          simp only [Act.put, List.setIfInBounds_toArray, List.set_cons_zero, List.set_cons_succ]
          refine takeD 4 (some 37) (.pointer (some ⟨gv, n * 2, none⟩)) hH rfl rfl (by kernel_rfl) (by kernel_rfl) (by kernel_rfl) (fun _ _ _ h => h) (Or.inl ⟨by rfl, by intro w' hSw; go_simp⟩) ?_
          simp only [Act.put, List.setIfInBounds_toArray, List.set_cons_zero, List.set_cons_succ]
          refine takeD 5 (some 38) (.agg #[.slice fa2 y.1.length fc2, .slice ra2 y.2.length rc2]) hH rfl rfl (by kernel_rfl) (by kernel_rfl) (by kernel_rfl) (fun _ _ _ h => h) (Or.inl ⟨by rfl, by intro w' hSw; obtain ⟨q0, q1, q2, q3⟩ := CC w' hSw; go_simp⟩) ?_
          simp only [Act.put, List.setIfInBounds_toArray, List.set_cons_zero, List.set_cons_succ]
          refine takeD 6 (some 39) (.agg #[.slice fa l.length fc, .slice ra rows.length rc]) hH rfl rfl (by kernel_rfl) (by kernel_rfl) (by kernel_rfl) (fun _ _ _ h => h) (Or.inl ⟨by rfl, by intro w' hSw; obtain ⟨q0, q1, q2, q3⟩ := CC w' hSw; go_simp⟩) ?_
          simp only [Act.put, List.setIfInBounds_toArray, List.set_cons_zero, List.set_cons_succ]
          refine wpAnyH_ready (rs := [7]) (by kernel_rfl) (by simp) ?_
          refine AllReadyH.cons rfl (fun K' hK => ?_) AllReadyH.nil
          refine step_goV (by rfl) (some 40) rfl 17 #[.tmp 38, .tmp 39] _ rfl #[.agg #[.slice fa2 y.1.length fc2, .slice ra2 y.2.length rc2], .agg #[.slice fa l.length fc, .slice ra rows.length rc]] (by simp [Act.eval]) (enters_of Try.func17 (by kernel_rfl) rfl) (CL wr.drew hH) ?_
          rintro e W5 ⟨rfl, b5⟩
          refine ⟨_, rfl, ?_⟩
          simp only [Act.put, List.setIfInBounds_toArray, List.set_cons_zero, List.set_cons_succ]
          have bL : Below wr.heap.size wr W5 := (Below.refl _ wr).drew.trans b5
          refine hK.out _ _ bL (fun hH5 => ?_)
          clear hK K'
          refine takeD 8 (some 41) (.bool (M.eqWy y (l, rows))) hH5 rfl rfl (by kernel_rfl) (by kernel_rfl) (by kernel_rfl) (fun _ _ _ h => h) (Or.inl ⟨by rfl, by intro w' hSw; go_simp⟩) ?_
          simp only [Act.put, List.setIfInBounds_toArray, List.set_cons_zero, List.set_cons_succ]
          refine takeD 9 (some 7) (.bool (M.eqWy y (l, rows))) hH5 rfl rfl (by kernel_rfl) (by kernel_rfl) (by kernel_rfl) (fun _ _ _ h => h) (Or.inl ⟨by rfl, by intro w' hSw; go_simp⟩) ?_
          simp only [Act.put, List.setIfInBounds_toArray, List.set_cons_zero, List.set_cons_succ]
          refine wpAnyH_done (by kernel_rfl) ?_ _
          clear CC CL
          go_wp2_with fail
          exact ⟨⟨n + 1, M.eqWy y (l, rows), rfl, by go_num, by omega, by show _ = _; rw [HS.out]; rfl, hb.trans (bL.mono hb.size)⟩, by simp [intOf]; omega⟩
        · refine takeD 0 (some 33) (.bool true) hH rfl rfl (by kernel_rfl) (by kernel_rfl) (by kernel_rfl) (fun _ _ _ h => h) (Or.inl ⟨by rfl, by intro w' hSw; go_simp⟩) ?_
          simp only [Act.put, List.setIfInBounds_toArray, List.set_cons_zero, List.set_cons_succ]
          refine takeD 1 (some 34) (.bool true) hH rfl rfl (by kernel_rfl) (by kernel_rfl) (by kernel_rfl) (fun _ _ _ h => h) (Or.inl ⟨by rfl, by intro w' hSw; go_simp⟩) ?_
          simp only [Act.put, List.setIfInBounds_toArray, List.set_cons_zero, List.set_cons_succ]
          refine takeD 2 (some 35) undef hH rfl rfl (by kernel_rfl) (by kernel_rfl) (by kernel_rfl) (fun _ _ _ h => h) (Or.inr ⟨by rfl, rfl⟩) ?_
          simp only [Act.put, List.setIfInBounds_toArray, List.set_cons_zero, List.set_cons_succ]
          refine takeD 3 (some 36) undef hH rfl rfl (by kernel_rfl) (by kernel_rfl) (by kernel_rfl) (fun _ _ _ h => h) (Or.inr ⟨by rfl, rfl⟩) ?_
          simp only [Act.put, List.setIfInBounds_toArray, List.set_cons_zero, List.set_cons_succ]
          refine takeD 4 (some 37) undef hH rfl rfl (by kernel_rfl) (by kernel_rfl) (by kernel_rfl) (fun _ _ _ h => h) (Or.inr ⟨by rfl, rfl⟩) ?_
          simp only [Act.put, List.setIfInBounds_toArray, List.set_cons_zero, List.set_cons_succ]
          refine takeD 5 (some 38) undef hH rfl rfl (by kernel_rfl) (by kernel_rfl) (by kernel_rfl) (fun _ _ _ h => h) (Or.inr ⟨by rfl, rfl⟩) ?_
          simp only [Act.put, List.setIfInBounds_toArray, List.set_cons_zero, List.set_cons_succ]
          refine takeD 6 (some 39) undef hH rfl rfl (by kernel_rfl) (by kernel_rfl) (by kernel_rfl) (fun _ _ _ h => h) (Or.inr ⟨by rfl, rfl⟩) ?_
          simp only [Act.put, List.setIfInBounds_toArray, List.set_cons_zero, List.set_cons_succ]
          refine takeD 7 (some 40) undef hH rfl rfl (by kernel_rfl) (by kernel_rfl) (by kernel_rfl) (fun _ _ _ h => h) (Or.inr ⟨by rfl, rfl⟩) ?_
          simp only [Act.put, List.setIfInBounds_toArray, List.set_cons_zero, List.set_cons_succ]
          refine takeD 8 (some 41) (.bool true) hH rfl rfl (by kernel_rfl) (by kernel_rfl) (by kernel_rfl) (fun _ _ _ h => h) (Or.inl ⟨by rfl, by intro w' hSw; go_simp⟩) ?_
          simp only [Act.put, List.setIfInBounds_toArray, List.set_cons_zero, List.set_cons_succ]
          refine takeD 9 (some 7) (.bool true) hH rfl rfl (by kernel_rfl) (by kernel_rfl) (by kernel_rfl) (fun _ _ _ h => h) (Or.inl ⟨by rfl, by intro w' hSw; go_simp⟩) ?_
          simp only [Act.put, List.setIfInBounds_toArray, List.set_cons_zero, List.set_cons_succ]
          refine wpAnyH_done (by kernel_rfl) ?_ _
          clear CC CL
          go_wp2_with fail
          exact ⟨⟨n + 1, true, rfl, by go_num, by omega, by show _ = _; rw [HS.out]; rfl, hb.drew⟩, by simp [intOf]; omega⟩
      · have i1 : ¬ (n : Int) < xs.length := by omega
        have HE : f = ok := by rw [← HA.out, ← HF.out, List.take_of_length_le (by omega)]
        subst HE
        have E1 : (f == f) = true := by simp
        go_wp2_with fail
        go_ret
        exact ⟨ret_bool (by simp), (bx3.below hb).bel⟩
  · go_enter Try.func5, Try.ntmps5
    go_wp2_with fail
    go_ret
    exact ⟨rfl, Below.refl _ _⟩

end Go.Proofs.Ytelmclbojpbcbaa

namespace Go.Proofs.Ytelmclbojpbcbaa
open Go.ChangeShapes Go.WideShapes Go.ChangeAt Go.RowKit Go.Deep

theorem Try.own : ownKnob Try.prog.godebug = none := by kernel_rfl
theorem Try.laidOut : laidOutB Try.prog = true := by kernel_rfl

theorem one_of_size {cs : Array Value} (h : cs.size = 1) : ∃ u, cs = #[u] := by
  obtain ⟨l⟩ := cs
  match l, h with
  | [u], _ => exact ⟨u, rfl⟩
end Go.Proofs.Ytelmclbojpbcbaa

namespace Go.Proofs.Ytelmclbojpbcbaa
open Go.ChangeShapes Go.WideShapes Go.ChangeAt Go.RowKit Go.Deep

theorem Try.cellsByte : Try.prog.cellsOf 5 = 1 := by kernel_rfl

/-- A code lies in memory. -/
def Code8 (w : World) (u : Value) : Prop := ∃ ca cb co L C, ∃ x : Nat → Int, u = .slice ca L C ∧ L ≤ C ∧ (0 < L → ca = some ⟨cb, co, none⟩) ∧ ∀ i, i < L → w.cell? ⟨cb, co + i, none⟩ = some (.int .u8 (x i)) ∧ 0 ≤ x i ∧ x i ≤ 255

section
variable {H : Type} {enc : TypeId × Value → H} {w : World} {base : Nat} {spare : Nat → Bool} {held : Bool}

set_option maxRecDepth 100000 in
theorem open_code {fuel : Nat} {u : Value} {x : DataW H × List MemPlace} (h : DataW.trod enc Try.prog w base spare held fuel 37 [u] = some x) : Code8 w u := by
  rcases open_ints Try.underlying37 Try.underlying5 Try.cellsByte h with ⟨hcs, _⟩ | ⟨a, len, cap, zs, hcs, _, hl, hm, hmm, _, hel, hwf⟩
  · simp at hcs
    exact ⟨none, 0, 0, 0, 0, fun _ => 0, hcs, Nat.le_refl _, fun h => absurd h (Nat.lt_irrefl _), fun i hi => absurd hi (Nat.not_lt_zero _)⟩
  · simp at hcs
    obtain ⟨gb, go, gs⟩ := a
    have hlm : len ≤ zs.length := by rw [hmm]; split <;> omega
    rcases Nat.eq_zero_or_pos len with h0 | hpos
    · subst h0
      exact ⟨_, 0, 0, 0, cap, fun _ => 0, hcs, Nat.zero_le _, fun h => absurd h (Nat.lt_irrefl _), fun i hi => absurd hi (Nat.not_lt_zero _)⟩
    · have hgs : gs = none := by simpa [Addr.add] using World.cell?_spot (hel 0 (by omega))
      subst hgs
      refine ⟨_, gb, go, len, cap, fun i => zs.getD i 0, hcs, hl, fun _ => rfl, fun i hi => ?_⟩
      have h1 := hel i (by omega)
      rw [add_plain] at h1
      have hw := hwf (zs.getD i 0) (by rw [List.getD_eq_getElem?_getD, List.getElem?_eq_getElem (by omega)]; exact List.getElem_mem _)
      exact ⟨h1, bounds_u8 hw⟩

end
end Go.Proofs.Ytelmclbojpbcbaa
