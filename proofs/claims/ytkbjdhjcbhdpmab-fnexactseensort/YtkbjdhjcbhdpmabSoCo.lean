/- slices.CompactFunc at what was seen: what is the same as the one ahead of it is left out. Of at most 1048576, each of at most 1048576 numbers. -/
import Derived.Test.YtkbjdhjcbhdpmabSoMem
import Derived.Test.YtkbjdhjcbhdpmabQuietB
namespace Go.Proofs.Ytkbjdhjcbhdpmab
open Go.RowKit

set_option maxHeartbeats 400000 in
/-- The closure that impl's inOrderOnce hands on: the comparison lies in a box. -/
theorem eqClosure_any (s t : Sn) (cb : Nat) (w : World) (hs : s.Le 1048576) (ht : t.Le 1048576) (hsa : s.At w) (hta : t.At w) (k0 : w.cell? ⟨cb, 0, none⟩ = some (.func (.func 20) #[] #[])) :
    Calls Try.prog 33 #[.agg #[.slice s.a1 s.l1.length s.c1, .slice s.a2 s.l2.length s.c2], .agg #[.slice t.a1 t.l1.length t.c1, .slice t.a2 t.l2.length t.c2], .pointer (some ⟨cb, 0, none⟩)] w fun e w' => e = .returned (.bool (M.cmpS s.l1 s.l2 t.l1 t.l2 == 0)) ∧ Grown w w' := by
  have hg := alloc2 w (.cells #[.slice s.a1 s.l1.length s.c1, .slice s.a2 s.l2.length s.c2] 35) (.cells #[.slice t.a1 t.l1.length t.c1, .slice t.a2 t.l2.length t.c2] 35)
  have C := compareSeen_any s t _ hs ht (hsa.grown hg) (hta.grown hg)
  have hcb : cb < w.heap.size := World.block_lt_of_cell? _ _ k0
  go_enter Try.func33, Try.ntmps33
  go_wp2_with (go_at_call 20; refine C.mono ?_; rintro e w' ⟨rfl, hg'⟩)
  go_ret
  exact ⟨rfl, hg.trans hg'⟩

theorem calls_bel {P : Program} {f : FuncId} {args : Array Value} {W : World} {v : Value} (h : Calls P f args W fun e w' => e = .returned v ∧ Grown W w') : Calls P f args W fun e w' => e = .returned v ∧ Below W.heap.size W w' := h.mono fun _ _ ⟨he, hg⟩ => ⟨he, hg.bel⟩

def kys (ss : List Sn) : List Ky := ss.map Sn.ky

theorem Try.infoSeen : (Try.prog.info? 35).map (fun i => (i.zero, i.size, i.bytes)) = some (some (.agg #[.slice none 0 0, .slice none 0 0]), 2, 48) := by kernel_rfl
theorem But.setCells {g : Nat} {w0 w : World} (h : But g w0 w) (o : Nat) (vs : List Value) : But g w0 (w.setCells g o vs) := by
  induction vs generalizing o w with
  | nil => exact h
  | cons v vs ih => exact ih (h.setCell (p := ⟨g, o, none⟩) (Or.inr rfl) v) (o + 1)
theorem kys_len (ss : List Sn) : (kys ss).length = ss.length := by simp [kys]
theorem kys_get (ss : List Sn) {n : Nat} (h : n < ss.length) (h' : n < (kys ss).length) : (kys ss)[n] = ss[n].ky := by simp [kys]
theorem kys_take_succ {ss : List Sn} {n : Nat} (h : n < ss.length) : kys (ss.take (n + 1)) = kys (ss.take n) ++ [(kys ss)[n]'(by rw [kys_len]; exact h)] := by
  have e := kys_get ss h (by rw [kys_len]; exact h)
  rw [e, kys, List.take_succ_eq_append_getElem h, List.map_append]
  rfl

namespace M
/-- How far what is the same has been left out: what is kept, the last that was looked at, what is left. -/
structure Thin (ks kept : List Ky) (n : Nat) : Prop where
  pos : 0 < n
  le : n ≤ ks.length
  eq : thin ks = kept ++ thinFrom (ks[n - 1]'(by omega)) (ks.drop n)
theorem Thin.start {ks : List Ky} (h : 0 < ks.length) : Thin ks (ks.take 1) 1 := by
  refine ⟨by omega, by omega, ?_⟩
  match ks, h with
  | x :: l, _ => rfl
theorem Thin.keep {ks kept : List Ky} {n : Nat} (h : Thin ks kept n) (hn : n < ks.length) (hne : cmpK ks[n] (ks[n - 1]'(by omega)) ≠ 0) : Thin ks (kept ++ [ks[n]]) (n + 1) := by
  refine ⟨by omega, by omega, ?_⟩
  rw [h.eq, ← List.getElem_cons_drop hn, thinFrom, if_neg hne]
  simp
theorem Thin.drop {ks kept : List Ky} {n : Nat} (h : Thin ks kept n) (hn : n < ks.length) (he : cmpK ks[n] (ks[n - 1]'(by omega)) = 0) : Thin ks kept (n + 1) := by
  refine ⟨by omega, by omega, ?_⟩
  rw [h.eq, ← List.getElem_cons_drop hn, thinFrom, if_pos he]
  simp
theorem Thin.fin {ks kept : List Ky} {n : Nat} (h : Thin ks kept n) (hn : ks.length ≤ n) : thin ks = kept := by
  rw [h.eq, List.drop_eq_nil_of_le hn]; simp [thinFrom]
end M

theorem Try.zeroSeen : ∀ w, (zeroValue 35).run Try.prog w = .ok (.agg #[.slice none 0 0, .slice none 0 0]) w := fun w => by
  obtain ⟨i0, hi, hz0, _, _⟩ := info_parts Try.infoSeen
  simp [zeroValue, typeInfo, hi, hz0]

set_option maxHeartbeats 4000000 in
set_option maxRecDepth 100000 in
theorem compact_any (g cap : Nat) (ss : List Sn) (cb : Nat) (w : World) (hn : ss.length ≤ 1048576) (hcap : ss.length ≤ cap) (h : SR w g ss) (hgd : ∀ s ∈ ss, Off w g s) (k0 : w.cell? ⟨cb, 0, none⟩ = some (.func (.func 20) #[] #[])) (hne : cb ≠ g) :
    Calls Try.prog 32 #[.slice (some ⟨g, 0, none⟩) ss.length cap, .func (.func 33) #[] #[.pointer (some ⟨cb, 0, none⟩)]] w fun e w' => ∃ tt : List Sn, e = .returned (.slice (some ⟨g, 0, none⟩) tt.length cap) ∧ tt.length ≤ ss.length ∧ SR w' g tt ∧ (∀ s ∈ tt, Off w' g s) ∧ kys tt = M.thin (kys ss) ∧ But g w w' := by
  by_cases h2 : ss.length < 2
  · have h2' : (ss.length : Int) < 2 := by omega
    go_enter Try.func32, Try.ntmps32
    go_wp2_with fail
    go_ret
    refine ⟨ss, rfl, Nat.le_refl _, h, hgd, ?_, But.refl _ _⟩
    match ss, h2 with
    | [], _ => rfl
    | [x], _ => rfl
  · have h2' : ¬ (ss.length : Int) < 2 := by omega
    have hlg : g < w.heap.size := h.lt (by omega)
    have hlc : cb < w.heap.size := World.block_lt_of_cell? _ _ k0
    go_enter Try.func32, Try.ntmps32
    go_wp2_with fail
    go_loopw [5] (fun s5 wr => ∃ n : Nat, s5 = .int .i64 n ∧ 0 < n ∧ n ≤ ss.length ∧ M.Thin (kys ss) (kys (ss.take n)) n ∧ Below w.heap.size w wr) (fun s5 _ => ss.length - (intOf s5).toNat)
    case atStart => exact ⟨1, rfl, by omega, by omega, by have := M.Thin.start (ks := kys ss) (by rw [kys_len]; omega); simpa [kys, List.map_take] using this, Below.refl _ _⟩
    case round =>
      obtain ⟨n, rfl, h0, hnl, hpass, hb⟩ := hrel
      have HP : Hid (M.Thin (kys ss) (kys (ss.take n)) n) := hpass
      clear hpass
      obtain ⟨n1, hn1⟩ : ∃ n1, n = n1 + 1 := ⟨n - 1, by omega⟩
      by_cases hlt : n < ss.length
      · have hSR := h.below hb hlg
        have hlt1 : n1 < ss.length := by omega
        have o1 := (hgd _ (List.getElem_mem hlt)).below hb
        have o2 := (hgd _ (List.getElem_mem hlt1)).below hb
        obtain ⟨c1, c2⟩ := hSR.c n hlt
        obtain ⟨d1, d2⟩ := hSR.c n1 hlt1
        have kr := (hb.cell (p := ⟨cb, 0, none⟩) hlc).trans k0
        obtain ⟨s, hs⟩ : ∃ s, ss[n] = s := ⟨_, rfl⟩
        obtain ⟨t, ht⟩ : ∃ t, ss[n1] = t := ⟨_, rfl⟩
        rw [hs] at o1 c1 c2
        rw [ht] at o2 d1 d2
        have C := fun p : BelowOf wr => calls_bel (eqClosure_any s t cb p.x o1.le o2.le (o1.at_.below p.h (Nat.le_refl _)) (o2.at_.below p.h (Nat.le_refl _)) ((p.h.cell (p := ⟨cb, 0, none⟩) (World.block_lt_of_cell? _ _ kr)).trans kr))
        obtain ⟨q, hq⟩ : ∃ q, (M.cmpS s.l1 s.l2 t.l1 t.l2 == 0) = q := ⟨_, rfl⟩
        rw [hq] at C
        have HS : Hid (ss[n] = s) := hs
        have HT : Hid (ss[n1] = t) := ht
        have HQ : Hid ((M.cmpK s.ky t.ky == 0) = q) := hq
        clear hq hs ht
        have K1 := BelowOf.cell c1
        have K2 := BelowOf.cell c2
        have K3 := BelowOf.cell d1
        have K4 := BelowOf.cell d2
        have i1 : (n : Int) < ss.length := by omega
        have i2 : (n1 : Int) < ss.length := by omega
        have i3 : (n : Int) - 1 = n1 := by omega
        have i4 : IntKind.i64.wrap (n1 : Int) = n1 := by rw [IntKind.wrap_i64]; omega
        have HN : Hid (n = n1 + 1) := hn1
        clear hn1
        cases q
        · go_wp2_with fail
          haveI : Inhabited (BelowOf wr) := ⟨belOf wr⟩
          refine wp_region_quiet_bel (by kernel_rfl) (by kernel_rfl) ?_
          repeat (quiet_step (first | (go_at_call 33; exact Calls.bel_of (C _))))
          refine wpQuiet_nil ?_
          rintro _ ⟨⟨wq, hwq⟩, rfl⟩
          go_wp2_with fail
          exact ⟨⟨n + 1, by go_num, by omega, by omega, by
            rw [kys_take_succ hlt]
            exact HP.out.keep (by rw [kys_len]; exact hlt) (by
              have e := HN.out
              subst e
              rw [kys_get ss hlt, kys_get ss (show n1 + 1 - 1 < ss.length by omega)]
              simp only [Nat.add_sub_cancel, HS.out, HT.out]
              simpa using HQ.out), hb.trans (hwq.mono hb.size)⟩, by simp [intOf]; omega⟩
        · go_wp2_with fail
          haveI : Inhabited (BelowOf wr) := ⟨belOf wr⟩
          refine wp_region_quiet_bel (by kernel_rfl) (by kernel_rfl) ?_
          repeat (quiet_step (first | (go_at_call 33; exact Calls.bel_of (C _))))
          refine wpQuiet_nil ?_
          rintro _ ⟨⟨wq, hwq⟩, rfl⟩
          have i5 : n ≤ cap := by omega
          have hbq := hb.trans (hwq.mono hb.size)
          have HT2 : Hid (M.Thin (kys ss) (kys (ss.take n)) (n + 1)) := HP.out.drop (by rw [kys_len]; exact hlt) (by
              have e := HN.out
              subst e
              rw [kys_get ss hlt, kys_get ss (show n1 + 1 - 1 < ss.length by omega)]
              simp only [Nat.add_sub_cancel, HS.out, HT.out]
              simpa using HQ.out)
          go_wp2_with fail
          obtain ⟨N2, hN2⟩ : ∃ N2, ss.length - n = N2 := ⟨_, rfl⟩
          obtain ⟨cp, hcp⟩ : ∃ cp, cap - n = cp := ⟨_, rfl⟩
          rw [hN2, hcp]
          have hN2' : ss.length = n + N2 := by omega
          have HNN : Hid (ss.length = n + N2) := hN2'
          have hN2p : 0 < N2 := by omega
          have hN2b : N2 ≤ 1048576 := by omega
          clear hN2 hN2' C K1 K2 K3 K4 c1 c2 d1 d2 o1 o2 kr hSR i1 i2 i3 i4 i5 HS HT HQ HP hwq
          go_loopw [5, 7] (fun s5 s7 wz => ∃ (kk m : Nat) (rr : List Sn), s5 = .int .i64 kk ∧ s7 = .int .i64 m ∧ 0 < m ∧ m ≤ N2 ∧ n ≤ kk ∧ kk < n + m ∧ Hid (rr.length = ss.length) ∧ SR wz g rr ∧ Hid (∀ j (_ : n + m - 1 ≤ j) (h1 : j < rr.length) (h2 : j < ss.length), rr[j] = ss[j]) ∧ Hid (∀ s ∈ rr, s ∈ ss) ∧ Hid (M.Thin (kys ss) (kys (rr.take kk)) (n + m)) ∧ But g w wz) (fun _ s7 _ => N2 - (intOf s7).toNat)
          case atStart => exact ⟨n, 1, ss, rfl, rfl, by omega, by omega, by omega, by omega, rfl, h.below hbq hlg, fun j _ _ _ => rfl, fun s hs => hs, HT2.out, But.of hbq⟩
          case round =>
            obtain ⟨kk, m, rr, rfl, rfl, hm0, hmN, hnk, hkm, Hlen, hR, Hold, Hin, Hthin, hbz⟩ := hrel
            obtain ⟨m1, hm1⟩ : ∃ m1, m = m1 + 1 := ⟨m - 1, by omega⟩
            have hlR : rr.length = n + N2 := Hlen.out.trans HNN.out
            by_cases hmlt : m < N2
            · have hj : n + m < rr.length := by omega
              have hj' : n + m < ss.length := by have := HNN.out; omega
              have hj1 : n + m1 < rr.length := by omega
              have hj1' : n + m1 < ss.length := by omega
              obtain ⟨c1, c2⟩ := hR.c (n + m) hj
              obtain ⟨d1, d2⟩ := hR.c (n + m1) hj1
              have eq1 := Hold.out (n + m) (by omega) hj hj'
              have eq2 := Hold.out (n + m1) (by omega) hj1 hj1'
              obtain ⟨s, hs⟩ : ∃ s, rr[n + m] = s := ⟨_, rfl⟩
              obtain ⟨t, ht⟩ : ∃ t, rr[n + m1] = t := ⟨_, rfl⟩
              have o1 := (hgd _ (Hin.out _ (List.getElem_mem hj))).but hbz
              have o2 := (hgd _ (Hin.out _ (List.getElem_mem hj1))).but hbz
              rw [hs, Nat.add_mul] at c1 c2
              rw [ht, Nat.add_mul] at d1 d2
              rw [hs] at o1 eq1
              rw [ht] at o2 eq2
              have hsin : s ∈ ss := by rw [eq1]; exact List.getElem_mem hj'
              have kr := (hbz.cell (p := ⟨cb, 0, none⟩) hlc hne).trans k0
              have C := fun p : BelowOf wr => calls_bel (eqClosure_any s t cb p.x o1.le o2.le (o1.at_.below p.h (Nat.le_refl _)) (o2.at_.below p.h (Nat.le_refl _)) ((p.h.cell (p := ⟨cb, 0, none⟩) (World.block_lt_of_cell? _ _ kr)).trans kr))
              obtain ⟨q, hq⟩ : ∃ q, (M.cmpS s.l1 s.l2 t.l1 t.l2 == 0) = q := ⟨_, rfl⟩
              rw [hq] at C
              have hkn : n + m < (kys ss).length := by rw [kys_len]; exact hj'
              have hkn1 : n + m - 1 < (kys ss).length := by omega
              have hq' : (M.cmpK ((kys ss)[n + m]'hkn) ((kys ss)[n + m - 1]'hkn1) == 0) = q := by
                have e := hm1
                subst e
                rw [kys_get ss hj', kys_get ss (show n + (m1 + 1) - 1 < ss.length by omega)]
                simp only [show n + (m1 + 1) - 1 = n + m1 by omega]
                rw [← eq1, ← eq2]
                exact hq
              have HQ : Hid ((M.cmpK ((kys ss)[n + m]'hkn) ((kys ss)[n + m - 1]'hkn1) == 0) = q) := hq'
              clear hq'
              have HE : Hid (s = ss[n + m]) := eq1
              clear hq hs ht eq1 eq2
              have K1 := BelowOf.cell c1
              have K2 := BelowOf.cell c2
              have K3 := BelowOf.cell d1
              have K4 := BelowOf.cell d2
              have i1 : (m : Int) < N2 := by omega
              have i2 : (m1 : Int) < N2 := by omega
              have i3 : (m : Int) - 1 = m1 := by omega
              have i4 : IntKind.i64.wrap (m1 : Int) = m1 := by rw [IntKind.wrap_i64]; omega
              have HM : Hid (m = m1 + 1) := hm1
              have HLR : Hid (rr.length = n + N2) := hlR
              have hkkl : kk < ss.length := by have := HNN.out; omega
              have i5 : (kk : Int) < ss.length := by omega
              clear hm1 hlR
              cases q
              · go_wp2_with fail
                haveI : Inhabited (BelowOf wr) := ⟨belOf wr⟩
                refine wp_region_quiet_bel (by kernel_rfl) (by kernel_rfl) ?_
                repeat (quiet_step (first | (go_at_call 33; exact Calls.bel_of (C _))))
                refine wpQuiet_nil ?_
                rintro wq2 ⟨⟨wq, hwq2⟩, ew⟩
                change wq2 = wq at ew
                subst ew
                have hRq := hR.below hwq2 (Nat.lt_of_lt_of_le hlg hbz.size)
                have e1 : wq2.cell? ⟨g, n * 2 + m * 2, none⟩ = some (.slice s.a1 s.l1.length s.c1) := (BelowOf.cell c1) ⟨wq2, hwq2⟩
                have e2 : wq2.cell? ⟨g, n * 2 + m * 2 + 1, none⟩ = some (.slice s.a2 s.l2.length s.c2) := (BelowOf.cell c2) ⟨wq2, hwq2⟩
                obtain ⟨f1, f2⟩ := hRq.c kk (by have := HLR.out; omega)
                have ff := hRq.fz
                go_wp2_with fail
                exact ⟨⟨kk + 1, m + 1, rr.set kk s, by go_num, by go_num, by omega, by omega, by omega, by omega, (List.length_set ..).trans Hlen.out, hRq.set (by have := HLR.out; omega) s,
                  fun j h1 h2 h3 => by rw [List.getElem_set_ne (by omega)]; exact Hold.out j (by omega) (by simpa using h2) h3,
                  fun x hx => by
                    rcases List.mem_or_eq_of_mem_set hx with h | h
                    · exact Hin.out x h
                    · rw [h]; exact hsin,
                  by
                    have ht := Hthin.out.keep hkn (by simpa using HQ.out)
                    have e1 : (rr.set kk s).take (kk + 1) = rr.take kk ++ [s] := by
                      rw [List.take_succ_eq_append_getElem (by rw [List.length_set, HLR.out]; omega), List.getElem_set_self, List.take_set_of_le (Nat.le_refl _)]
                    have e2 : kys ((rr.set kk s).take (kk + 1)) = kys (rr.take kk) ++ [(kys ss)[n + m]'hkn] := by
                      rw [e1, kys_get ss hj', ← HE.out]; simp [kys]
                    rw [e2]
                    exact ht,
                  ((hbz.trans (But.of hwq2)).setCell (Or.inr rfl) _).setCell (Or.inr rfl) _⟩, by simp [intOf]; omega⟩
              · go_wp2_with fail
                haveI : Inhabited (BelowOf wr) := ⟨belOf wr⟩
                refine wp_region_quiet_bel (by kernel_rfl) (by kernel_rfl) ?_
                repeat (quiet_step (first | (go_at_call 33; exact Calls.bel_of (C _))))
                refine wpQuiet_nil ?_
                rintro _ ⟨⟨wq2, hwq2⟩, rfl⟩
                go_wp2_with fail
                exact ⟨⟨kk, m + 1, rr, rfl, by go_num, by omega, by omega, by omega, by omega, Hlen, hR.below hwq2 (Nat.lt_of_lt_of_le hlg hbz.size), fun j h1 h2 h3 => Hold.out j (by omega) h2 h3, Hin, Hthin.out.drop hkn (by simpa using HQ.out), hbz.trans (But.of hwq2)⟩, by simp [intOf]; omega⟩
            · obtain rfl : m = N2 := by omega
              have hNN := HNN.out
              have hkl : kk < ss.length := by omega
              obtain ⟨zs, hzl, hcl⟩ := run_clear_pairs (P := Try.prog) wr 24 35 (.agg #[.slice none 0 0, .slice none 0 0]) (.slice none 0 0) (.slice none 0 0) Try.underlying24 Try.zeroSeen rfl rfl rfl g (kk * 2) (ss.length - kk) (cap - kk) (by omega) (fun j hj => by
                obtain ⟨e1, e2⟩ := hR.c (kk + j / 2) (by omega)
                rcases Nat.mod_two_eq_zero_or_one j with h | h
                · rw [show kk * 2 + j = (kk + j / 2) * 2 by omega, e1]; rfl
                · rw [show kk * 2 + j = (kk + j / 2) * 2 + 1 by omega, e2]; rfl) (fun j _ => hR.fz _)
              have HNN' : Hid (ss.length = n + m) := hNN
              have i5 : kk ≤ cap := by omega
              have i6 : kk ≤ ss.length := by omega
              have i7 : ¬ cap = kk := by omega
              clear hNN hlR hm1
              go_wp2_with fail
              go_ret
              have hkr : kk ≤ rr.length := by rw [Hlen.out]; omega
              have hbs := hbz.setCells (kk * 2) zs
              refine ⟨rr.take kk, by rw [show (rr.take kk).length = kk by rw [List.length_take]; exact Nat.min_eq_left hkr]; rfl, by rw [List.length_take]; omega, ⟨fun i hi => ?_, fun j => by rw [World.frozen?_setCells]; exact hR.fz j⟩, fun s hs => (hgd s (Hin.out s (List.mem_of_mem_take hs))).but hbs, ?_, hbs⟩
              · have hik : i < kk := by simp at hi; omega
                have hc := hR.c i (by omega)
                rw [List.getElem_take, World.cell?_setCells_out _ _ _ _ _ (fun _ _ => Or.inl (by show i * 2 < kk * 2; omega)), World.cell?_setCells_out _ _ _ _ _ (fun _ _ => Or.inl (by show i * 2 + 1 < kk * 2; omega))]
                exact hc
              · exact (Hthin.out.fin (by rw [kys_len]; exact Nat.le_of_eq HNN'.out)).symm
      · go_wp2_with fail
        go_ret
        refine ⟨ss, rfl, Nat.le_refl _, h.below hb hlg, fun s hs => (hgd s hs).below hb, ?_, But.of hb⟩
        have := HP.out.fin (by rw [kys_len]; omega)
        rw [this, List.take_of_length_le (by omega)]

end Go.Proofs.Ytkbjdhjcbhdpmab
