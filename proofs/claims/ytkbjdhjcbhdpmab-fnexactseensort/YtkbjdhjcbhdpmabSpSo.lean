/- spec.SeenSort: in order, each once. Of at most 1048576, each of at most 1048576 numbers. -/
import Derived.Test.YtkbjdhjcbhdpmabSpPut
import Derived.Test.YtkbjdhjcbhdpmabSpCo
namespace Go.Proofs.Ytkbjdhjcbhdpmab
open Go.RowKit

theorem SL.ks {w : World} {g : Nat} {ss : List Sn} (h : SL w g ss) : KS w (some ⟨g, 0, none⟩) g 0 (kys ss) := by
  refine ⟨fun _ => rfl, fun i hi => ?_⟩
  have hi' : i < ss.length := by simpa [kys] using hi
  obtain ⟨c1, c2⟩ := h.sr.c i hi'
  exact ⟨ss[i], by simp [kys, Sn.ky], by simp [kys, Sn.ky], by rw [Nat.zero_add]; exact c1, by rw [Nat.zero_add]; exact c2, (h.at_ _ (List.getElem_mem hi')).1⟩
theorem SL.kle {w : World} {g : Nat} {ss : List Sn} (h : SL w g ss) : KLe (kys ss) 1048576 := fun k hk => by
  obtain ⟨s, hs, rfl⟩ := List.mem_map.1 hk
  exact ⟨(h.at_ s hs).2.reads, (h.at_ s hs).2.last⟩

set_option maxHeartbeats 2000000 in
set_option maxRecDepth 100000 in
theorem sseenSort_any (a : Option Addr) (b o c : Nat) (ks : List Key) (w : World) (hl : ks.length ≤ 1048576) (hls : KLe ks 1048576) (h : KS w a b o ks) :
    Calls Try.prog 6 #[.slice a ks.length c] w fun e w' => ∃ g cap, ∃ tt : List Sn, e = .returned (.slice (some ⟨g, 0, none⟩) tt.length cap) ∧ kys tt = M.sortK ks ∧ SL w' g tt ∧ g < w'.heap.size ∧ tt.length ≤ ks.length ∧ Below w.heap.size w w' := by
  obtain ⟨ss, hks, hcs⟩ := h.sns
  have hsl : ss.length = ks.length := by rw [← hks, kys_len]
  go_enter Try.func6, Try.ntmps6
  go_wp2_with fail
  go_loopw [3, 4] (fun s3 s4 wr => ∃ (n g cap : Nat) (tt : List Sn), s3 = .slice (some ⟨g, 0, none⟩) tt.length cap ∧ s4 = .int .i64 n ∧ n ≤ ks.length ∧ tt.length ≤ n ∧ tt.length ≤ cap ∧ Hid (kys tt = (ks.take n).foldl M.putIn []) ∧ SL wr g tt ∧ g < wr.heap.size ∧ Below w.heap.size w wr) (fun _ s4 _ => ks.length - (intOf s4).toNat)
  case atStart => exact ⟨0, w.heap.size, 0, [], rfl, rfl, Nat.zero_le _, by simp, by simp, rfl, ⟨⟨fun i hi => absurd hi (Nat.not_lt_zero _), fun j => by simp⟩, fun s hs => absurd hs (by simp)⟩, by simp, below1 _ _⟩
  case round =>
    obtain ⟨n, g, cap, tt, rfl, rfl, hn, htn, htc, HK, hS, hg, hb⟩ := hrel
    by_cases hlt : n < ks.length
    · have i1 : (n : Int) < ks.length := by omega
      obtain ⟨rfl⟩ := h.addr (by omega)
      have hns : n < ss.length := by omega
      obtain ⟨c1, c2, ha⟩ := hcs n hns
      have hle : (ss[n]).Le 1048576 := by
        have := hls (ss[n]).ky (by rw [← hks]; exact List.mem_map.2 ⟨ss[n], List.getElem_mem hns, rfl⟩)
        exact ⟨this.1, this.2⟩
      have hkn : (ss[n]).ky = ks[n] := by
        have := kys_get ss hns (by rw [kys_len]; exact hns)
        rw [← this]
        simp only [hks]
      obtain ⟨s, hs⟩ : ∃ s, ss[n] = s := ⟨_, rfl⟩
      rw [hs] at c1 c2 ha hle hkn
      have HKN : Hid (s.ky = ks[n]) := hkn
      clear hs hkn
      have d1 := (hb.cell (p := ⟨b, o + n * 2, none⟩) (World.block_lt_of_cell? _ _ c1)).trans c1
      have d2 := (hb.cell (p := ⟨b, o + n * 2 + 1, none⟩) (World.block_lt_of_cell? _ _ c2)).trans c2
      have har := ha.below hb (Nat.le_refl _)
      go_wp2_with fail
      refine (l2Copy_any s wr hle har).mono ?_
      rintro e w1 ⟨t, rfl, ht1, ht2, htf, hb1⟩
      have HT1 : Hid (t.l1 = s.l1) := ht1
      have HT2 : Hid (t.l2 = s.l2) := ht2
      have htl : t.Le 1048576 := ⟨by rw [ht1]; exact hle.reads, by rw [ht2]; exact hle.last⟩
      clear ht1 ht2
      have hS1 := hS.below hb1 hg
      have hg1 := Nat.lt_of_lt_of_le hg hb1.size
      have C := l2Put_any g cap tt t w1 (by omega) hS1 hg1 htf.at_ htl (by rw [HK.out]; exact M.foldl_asc _ [] List.Pairwise.nil) htc
      go_wp2_with fail
      refine C.mono ?_
      rintro e w2 ⟨g2, cap2, uu, rfl, hku, hS2, hg2, hul, huc, _, _, hb2⟩
      go_wp2_with fail
      refine ⟨⟨n + 1, g2, cap2, uu, rfl, by go_num, by omega, by omega, huc, ?_, hS2, hg2, (hb.trans (hb1.mono hb.size)).trans (hb2.mono (Nat.le_trans hb.size hb1.size))⟩, by simp [intOf]; omega⟩
      show kys uu = _
      have hky : t.ky = ks[n] := by rw [← HKN.out]; exact Prod.ext HT1.out HT2.out
      rw [hku, HK.out, hky, List.take_succ_eq_append_getElem hlt, List.foldl_append]
      rfl
    · go_wp2_with fail
      go_ret
      refine ⟨g, cap, tt, rfl, ?_, hS, hg, by omega, hb⟩
      rw [HK.out, List.take_of_length_le (by omega)]
      rfl

end Go.Proofs.Ytkbjdhjcbhdpmab
