/- spec's SeenText. Of what was seen of at most 1048576 numbers. -/
import Derived.Test.YtefmkenljongpaaDoorStD
import Derived.Test.YtefmkenljongpaaDoorSnMem
namespace Go.Proofs.YtefmkenljongpaaDoor
open Go.RowKit

set_option maxHeartbeats 1000000 in
theorem sseenText_any (s : Sn) (w : World) (hs : s.Le 1048576) (ha : s.At w) (f1 : Fits s.l1) (f2 : Fits s.l2) :
    Calls Tryd.prog 8 #[.agg #[.slice s.a1 s.l1.length s.c1, .slice s.a2 s.l2.length s.c2]] w fun e w' => e = .returned (.string ⟨(M.seenText s.l1 s.l2).toArray⟩) ∧ Below w.heap.size w w' := by
  obtain ⟨a1, b1, o1, c1, l1, a2, b2, o2, c2, l2⟩ := s
  obtain ⟨hl1, hl2⟩ := hs
  obtain ⟨i1, i2⟩ := ha
  simp only at hl1 hl2 i1 i2 f1 f2 ⊢
  go_enter Tryd.func8, Tryd.ntmps8
  go_wp2_with fail
  have hbx := below1 w (.cells #[.slice a1 l1.length c1, .slice a2 l2.length c2] 25)
  have j1 := i1.below hbx (Nat.le_refl _)
  have j2 := i2.below hbx (Nat.le_refl _)
  have x0 : (w.alloc (.cells #[.slice a1 l1.length c1, .slice a2 l2.length c2] 25)).cell? ⟨w.heap.size, 0, none⟩ = some (.slice a1 l1.length c1) := by simp
  have x1 : (w.alloc (.cells #[.slice a1 l1.length c1, .slice a2 l2.length c2] 25)).cell? ⟨w.heap.size, 1, none⟩ = some (.slice a2 l2.length c2) := by simp
  generalize w.alloc (.cells #[.slice a1 l1.length c1, .slice a2 l2.length c2] 25) = w1 at *
  have hxl : w.heap.size < w1.heap.size := World.block_lt_of_cell? _ _ x1
  clear i1 i2
  go_loopw [3, 4] (fun s3 s4 wr => ∃ n : Nat, s3 = .string ⟨(M.behind (l1.take n)).toArray⟩ ∧ s4 = .int .i64 n ∧ n ≤ l1.length ∧ Below w1.heap.size w1 wr) (fun _ s4 _ => l1.length - (intOf s4).toNat)
  case atStart => exact ⟨0, by simp [M.behind], rfl, Nat.zero_le _, Below.refl _ _⟩
  case round =>
    obtain ⟨n, rfl, rfl, hn, hbel⟩ := hrel
    have hlen := M.behind_le (f1.take n)
    have hlen2 : (l1.take n).length ≤ 1048576 := by simp only [List.length_take]; omega
    have y0 := (hbel.cell (p := ⟨w.heap.size, 0, none⟩) hxl).trans x0
    by_cases hlt : n < l1.length
    · obtain ⟨rfl⟩ := j1.addr (by omega)
      have hc := (j1.below hbel (Nat.le_refl _)).row n hlt
      have hfit := f1 _ (List.getElem_mem hlt)
      have HS : Hid (M.behind (l1.take (n + 1)) = M.behind (l1.take n) ++ Lib.itoa l1[n] ++ [32]) := by
        show _ = _
        rw [M.behind_step (List.getElem?_eq_getElem hlt), List.append_assoc]
      have hil := M.itoa_le _ hfit.1 hfit.2
      have C := fun W => l6Dec_any l1[n] W hfit.1 hfit.2
      generalize l1[n] = v at hc hfit HS hil C
      generalize M.behind (l1.take n) = acc at *
      generalize Lib.itoa v = T at *
      have hz1 : ¬ 9223372036854775807 < acc.length + T.length := by omega
      have hz2 : ¬ 9223372036854775807 < acc.length + T.length + 1 := by omega
      go_wp2_with (go_at_call 21; refine (C _).mono ?_; rintro e w2 ⟨rfl, hb2⟩)
      exact ⟨⟨n + 1, by rw [HS.out, ← bytesAdd, ← bytesAdd], by go_num, by omega, hbel.trans (hb2.mono hbel.size)⟩, by simp [intOf]; omega⟩
    · rw [List.take_of_length_le (by omega)] at hlen ⊢
      generalize hA : M.behind l1 = A at *
      have hAl : A.length ≤ 30000000 := by
        have : l1.length ≤ 1048576 := hl1
        omega
      have hz : ¬ 9223372036854775807 < A.length + 1 := by omega
      go_wp2_with fail
      go_loopw [3, 5] (fun s3 s5 wi => ∃ m : Nat, s3 = .string ⟨(A ++ [47] ++ M.ahead (l2.take m)).toArray⟩ ∧ s5 = .int .i64 m ∧ m ≤ l2.length ∧ Below w1.heap.size w1 wi) (fun _ s5 _ => l2.length - (intOf s5).toNat)
      case atStart => exact ⟨0, (congrArg Value.string (bytesAdd A [47])).trans (by simp [M.ahead]), rfl, Nat.zero_le _, hbel⟩
      case round =>
        obtain ⟨m, rfl, rfl, hm, hbi⟩ := hrel
        have hlenm := M.ahead_le (f2.take m)
        have hlenm2 : (l2.take m).length ≤ 1048576 := by simp only [List.length_take]; omega
        have z1 := (hbi.cell (p := ⟨w.heap.size, 1, none⟩) hxl).trans x1
        by_cases hlt2 : m < l2.length
        · obtain ⟨rfl⟩ := j2.addr (by omega)
          have hc := (j2.below hbi (Nat.le_refl _)).row m hlt2
          have hfit := f2 _ (List.getElem_mem hlt2)
          have HS : Hid (A ++ [47] ++ M.ahead (l2.take (m + 1)) = (A ++ [47] ++ M.ahead (l2.take m)) ++ [32] ++ Lib.itoa l2[m]) := by
            show _ = _
            rw [M.ahead_step (List.getElem?_eq_getElem hlt2)]
            simp
          have hil := M.itoa_le _ hfit.1 hfit.2
          have C := fun W => l6Dec_any l2[m] W hfit.1 hfit.2
          have hacc : (A ++ [47] ++ M.ahead (l2.take m)).length ≤ 60000000 := by simp only [List.length_append, List.length_cons, List.length_nil]; omega
          generalize l2[m] = v at hc hfit HS hil C
          generalize A ++ [47] ++ M.ahead (l2.take m) = acc at *
          generalize Lib.itoa v = T at *
          have hz1 : ¬ 9223372036854775807 < acc.length + 1 := by omega
          have hz2 : ¬ 9223372036854775807 < acc.length + 1 + T.length := by omega
          go_wp2_with (go_at_call 21; refine (C _).mono ?_; rintro e w2 ⟨rfl, hb2⟩)
          exact ⟨⟨m + 1, by rw [HS.out, ← bytesAdd, ← bytesAdd], by go_num, by omega, hbi.trans (hb2.mono hbi.size)⟩, by simp [intOf]; omega⟩
        · rw [List.take_of_length_le (by omega)]
          go_wp2_with fail
          go_ret
          exact ⟨by rw [← hA]; simp [M.seenText], hbx.trans (hbi.mono hbx.size)⟩

end Go.Proofs.YtefmkenljongpaaDoor
