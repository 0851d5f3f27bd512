/- impl's kindOfWord and readStep, and the library's Cut, at this program. Of texts of at most 400 bytes. -/
import Derived.Test.YthgmolelipjdaaaTxBack
import Derived.Test.YthgmolelipjdaaaCtLay
import Derived.Laws.RangeAny
namespace Go.Proofs.Ythgmolelipjdaaa
open Go.RowKit

/-- The library's own limit lies where it should. -/
def HasMax (w : World) : Prop := ∃ m, w.cell? ⟨Try.laysM145_ren.g 1, 0, none⟩ = some (.int .i64 m)
theorem HasMax.of {w : World} (h : w.ShapedOpen Try.prog) : HasMax w := Try.laysM145.s1_3 w h
theorem HasMax.below {w w' : World} {B : Nat} (h : HasMax w) (hb : Below B w w') (hB : w.heap.size ≤ B) : HasMax w' := by
  obtain ⟨m, hm⟩ := h
  exact ⟨m, (hb.cell (p := ⟨Try.laysM145_ren.g 1, 0, none⟩) (Nat.lt_of_lt_of_le (World.block_lt_of_cell? _ _ hm) hB)).trans hm⟩

theorem belDrew {B : Nat} {a b : World} (h : Below B a b) (n : Nat) : Below B a (b.drewN n) := h.trans ⟨rfl, rfl, rfl, Nat.le_refl _, fun _ _ => rfl⟩

theorem cut_any (s : List UInt8) (c : UInt8) (w : World) (hs : s.length ≤ 400) (hm : HasMax w) :
    Calls Try.prog 55 #[.string ⟨s.toArray⟩, .string ⟨#[c]⟩] w fun e w' => e = .returned (.tuple #[.string ⟨(Lib.cut s [c]).1.toArray⟩, .string ⟨(Lib.cut s [c]).2.1.toArray⟩, .bool (Lib.cut s [c]).2.2]) ∧ ∃ n, w' = w.drewN n := by
  obtain ⟨m, hm⟩ := hm
  exact Try.strings_Cut ⟨s.toArray⟩ ⟨#[c]⟩ m w (by simp [ByteArray.size]; omega) hm

theorem M.kindOf_none {s : List UInt8} (h : ∀ j : Nat, 1 ≤ j → j ≤ 9 → s ≠ (M.word j).data.toList) : M.kindOf s = 0 := by
  have h1 : s ≠ (M.word 1).data.toList := h 1 (by omega) (by omega)
  have h2 : s ≠ (M.word 2).data.toList := h 2 (by omega) (by omega)
  have h3 : s ≠ (M.word 3).data.toList := h 3 (by omega) (by omega)
  have h4 : s ≠ (M.word 4).data.toList := h 4 (by omega) (by omega)
  have h5 : s ≠ (M.word 5).data.toList := h 5 (by omega) (by omega)
  have h6 : s ≠ (M.word 6).data.toList := h 6 (by omega) (by omega)
  have h7 : s ≠ (M.word 7).data.toList := h 7 (by omega) (by omega)
  have h8 : s ≠ (M.word 8).data.toList := h 8 (by omega) (by omega)
  have h9 : s ≠ (M.word 9).data.toList := h 9 (by omega) (by omega)
  unfold M.kindOf
  rw [if_neg h1, if_neg h2, if_neg h3, if_neg h4, if_neg h5, if_neg h6, if_neg h7, if_neg h8, if_neg h9]
theorem M.kindOf_is {s : List UInt8} (n : Nat) (h1 : 1 ≤ n) (h9 : n ≤ 9) (h : s = (M.word n).data.toList) : M.kindOf s = n := by
  rw [h]
  exact M.kindOf_word n ⟨by omega, by omega⟩

set_option maxHeartbeats 400000 in
theorem kindOfWord_any (s : List UInt8) (w : World) :
    Calls Try.prog 76 #[.string ⟨s.toArray⟩] w fun e w' => e = .returned (.tuple #[.int .i64 (M.kindOf s), .bool (M.kindOf s != 0)]) ∧ w' = w := by
  go_enter Try.func76, Try.ntmps76
  go_wp2_with fail
  go_loopw [4] (fun s4 wr => ∃ n : Nat, s4 = .int .i64 n ∧ 1 ≤ n ∧ n ≤ 10 ∧ (∀ j : Nat, 1 ≤ j → j < n → s ≠ (M.word j).data.toList) ∧ wr = w) (fun s4 _ => 10 - (intOf s4).toNat)
  case atStart => exact ⟨1, rfl, by omega, by omega, fun j h1 h2 => by omega, rfl⟩
  case round =>
    obtain ⟨n, rfl, h1, h10, hno, rfl⟩ := hrel
    by_cases h9 : n ≤ 9
    · have HN : Hid (∀ j : Nat, 1 ≤ j → j < n → s ≠ (M.word j).data.toList) := hno
      clear hno
      by_cases hw : s = (M.word n).data.toList
      · have hk := M.kindOf_is n h1 h9 hw
        have hk0 : ((n : Int) != 0) = true := by simp; omega
        go_wp2_with (go_at_call 50; refine (word_any _ _).mono ?_; rintro e w1 ⟨rfl, rfl⟩)
        exact bodyPost_ret (v := .tuple #[.int .i64 n, .bool true]) (by simp [results, Try.results76, go_sem]) rfl ⟨by rw [hk, hk0], rfl⟩
      · have hw' : ((M.word n).toList == s) = false := by rw [beq_eq_false_iff_ne, ByteArray.toList_eq]; exact fun h => hw h.symm
        go_wp2_with (go_at_call 50; refine (word_any _ _).mono ?_; rintro e w1 ⟨rfl, rfl⟩)
        exact ⟨⟨n + 1, by go_num, by omega, by omega, fun j h1 h2 => by
          rcases Nat.lt_or_ge j n with h | h
          · exact HN.out j h1 h
          · obtain rfl : j = n := by omega
            exact hw, trivial⟩, by simp [intOf]; omega⟩
    · have hk := M.kindOf_none (s := s) (fun j hj hj9 => hno j hj (by omega))
      clear hno
      go_wp2_with fail
      exact bodyPost_ret (v := .tuple #[.int .i64 0, .bool false]) (by simp [results, Try.results76, go_sem]) rfl ⟨by rw [hk]; rfl, rfl⟩

theorem M.cut_le (s : List UInt8) (c : UInt8) : (Lib.cut s [c]).1.length ≤ s.length ∧ (Lib.cut s [c]).2.1.length ≤ s.length := by
  unfold Lib.cut
  split
  · simp only [List.length_take, List.length_drop]
    omega
  · simp
theorem M.runes_good (s : ByteArray) : ∀ (bound i : Nat) (acc : Array Value), (∀ v ∈ acc.toList, ∃ r : Int, v = .int .i32 r ∧ 0 ≤ r ∧ r ≤ 2147483647) → ∀ v ∈ (Conv.runesFrom s bound i acc).toList, ∃ r : Int, v = .int .i32 r ∧ 0 ≤ r ∧ r ≤ 2147483647
  | 0, _, acc, h => by simpa [Conv.runesFrom] using h
  | bound + 1, i, acc, h => by
    unfold Conv.runesFrom
    split
    · refine M.runes_good s bound _ _ fun v hv => ?_
      simp only [Array.toList_push, List.mem_append, List.mem_singleton] at hv
      rcases hv with hv | rfl
      · exact h v hv
      · exact ⟨_, rfl, Int.natCast_nonneg _, Int.ofNat_le.2 (decode_le s i)⟩
    · exact h
theorem M.runes_ok (s : List UInt8) : ∀ r ∈ M.runes s, 0 ≤ r ∧ r ≤ 2147483647 := by
  intro r hr
  obtain ⟨v, hv, rfl⟩ := List.mem_map.1 hr
  obtain ⟨r', rfl, h⟩ := M.runes_good ⟨s.toArray⟩ s.length 0 #[] (fun v hv => by simp at hv) v hv
  exact h
theorem M.runes_int (s : List UInt8) : Conv.runesFrom ⟨s.toArray⟩ s.length 0 #[] = ((M.runes s).map fun r => Value.int .i32 r).toArray := by
  have h := M.runes_good ⟨s.toArray⟩ s.length 0 #[] (fun v hv => by simp at hv)
  apply Array.ext'
  unfold M.runes
  rw [List.map_map]
  show _ = List.map _ _
  generalize (Conv.runesFrom ⟨s.toArray⟩ s.length 0 #[]).toList = l at h
  symm
  calc l.map _ = l.map id := List.map_congr_left (fun v hv => by obtain ⟨r, rfl, _⟩ := h v hv; rfl)
    _ = l := by simp
theorem M.runes_len (s : List UInt8) : (M.runes s).length ≤ s.length := by
  have h := size_runesFrom ⟨s.toArray⟩ s.length 0 #[]
  simpa [M.runes] using h
/-- The cells of a text's runes. -/
def runeRow (R : List Int) (c : Nat) : Array Value := (R.map fun r => Value.int .i32 r).toArray ++ Array.replicate c (.int .i32 0)
/-- What a text's runes are as a slice. -/
theorem runesRun (s : List UInt8) (h : s.length ≤ 400) (w : World) : (convert 9 103 (.string ⟨s.toArray⟩)).run Try.prog w = .ok (.slice (some ⟨w.heap.size, 0, none⟩) (M.runes s).length (grownCap w (M.runes s).length 0 21)) (w.drew.alloc (.cells (runeRow (M.runes s) (grownCap w (M.runes s).length 0 21 - (M.runes s).length)) 21)) := by
  have hl := M.runes_len s
  have e := M.runes_int s
  have es : (⟨s.toArray⟩ : ByteArray).size = s.length := by simp [ByteArray.size]
  have h1 := run_runes_of_string (P := Try.prog) w 9 103 21 ⟨s.toArray⟩ Try.underlying9 Try.underlying103 Try.underlying21 (by rw [es, e]; simp; omega)
  rw [es, e] at h1
  simp only [List.size_toArray, List.length_map] at h1
  exact h1
theorem runeRow_at (R : List Int) (c i : Nat) (h : i < R.length) : (runeRow R c)[i]? = some (.int .i32 R[i]) := by
  unfold runeRow
  rw [Array.getElem?_append_left (by simpa using h)]
  simp [h]
theorem runes_ends (R : List Int) (h : R ≠ []) (hok : ∀ r ∈ R, 0 ≤ r ∧ r ≤ 2147483647) : ∃ (n : Nat) (r0 r1 : Int), R.length = n + 1 ∧ R.head? = some r0 ∧ R.getLast? = some r1 ∧ (∀ c, (runeRow R c)[0]? = some (.int .i32 r0)) ∧ (∀ c, (runeRow R c)[n]? = some (.int .i32 r1)) ∧ (0 ≤ r0 ∧ r0 ≤ 2147483647) ∧ (0 ≤ r1 ∧ r1 ≤ 2147483647) := by
  have hl : 0 < R.length := List.length_pos_iff.2 h
  refine ⟨R.length - 1, R[0], R[R.length - 1], by omega, ?_, ?_, fun c => runeRow_at R c 0 hl, fun c => runeRow_at R c _ (by omega), hok _ (List.getElem_mem _), hok _ (List.getElem_mem _)⟩
  · rw [List.head?_eq_getElem?, List.getElem?_eq_getElem hl]
  · rw [List.getLast?_eq_getElem?, List.getElem?_eq_getElem (by omega)]

/-- A step as a value. -/
def M.D.val (d : M.D) : Value := .agg #[.int .i64 d.k, .int .i64 d.p, .int .i64 d.v]
def M.d0 : M.D := ⟨0, 0, 0⟩

theorem step_end (w : World) (q : Nat) (x y z : Obj) (a b c : Value) : Below w.heap.size w (((((((w.alloc x).drewN q).setCell ⟨w.heap.size, 0, none⟩ a).setCell ⟨w.heap.size, 1, none⟩ b).setCell ⟨w.heap.size, 2, none⟩ c).alloc y).alloc z).drew :=
  ((((((belDrew (below1 w x) q).setCell (Nat.le_refl _) _).setCell (Nat.le_refl _) _).setCell (Nat.le_refl _) _).alloc (by simp) _).alloc (by simp; omega) _).drew

set_option maxHeartbeats 1000000 in
theorem readStep_any (s : List UInt8) (w : World) (hs : s.length ≤ 400) (hm : HasMax w) :
    Calls Try.prog 56 #[.string ⟨s.toArray⟩] w fun e w' => e = .returned (.tuple #[((M.rdStep s).getD M.d0).val, .bool (M.rdStep s).isSome]) ∧ Below w.heap.size w w' := by
  have hcl := M.cut_le s 32
  have HR : Hid (M.rdStep s = if M.kindOf (Lib.cut s [32]).1 = 0 then none else some (M.rdDo (M.kindOf (Lib.cut s [32]).1) (M.runes (Lib.cut s [32]).2.1))) := rfl
  have C1 := cut_any s 32 (w.alloc (.cells #[.int .i64 0, .int .i64 0, .int .i64 0] 56)) hs (hm.below (below1 w _) (Nat.le_refl _))
  generalize Lib.cut s [32] = cc at *
  obtain ⟨word, rest, found⟩ := cc
  simp only at hcl HR C1
  have hrl : rest.length ≤ 400 := by omega
  go_enter Try.func56, Try.ntmps56
  go_wp2_with fail
  refine C1.mono ?_
  rintro e w1 ⟨rfl, q, rfl⟩
  by_cases hk0 : M.kindOf word = 0
  · have hk0' : (M.kindOf word != 0) = false := by simpa using hk0
    have hno : M.rdStep s = none := by have := HR.out; rw [if_pos hk0] at this; exact this
    clear C1 HR
    go_wp2_with (go_at_call 76; refine (kindOfWord_any _ _).mono ?_; rintro e w1 ⟨rfl, rfl⟩)
    refine bodyPost_ret (v := .tuple #[.agg #[.int .i64 0, .int .i64 0, .int .i64 0], .bool false]) (by simp [results, Try.results56, go_sem]) rfl ⟨by rw [hno]; rfl, ?_⟩
    exact (((belDrew (below1 w _) q).setCell (Nat.le_refl _) _).setCell (Nat.le_refl _) _).setCell (Nat.le_refl _) _
  · have hk0' : (M.kindOf word != 0) = true := by simpa using hk0
    have hyes : Hid (M.rdStep s = some (M.rdDo (M.kindOf word) (M.runes rest))) := by have := HR.out; rw [if_neg hk0] at this; exact this
    clear C1 HR
    have hrr := runesRun rest hrl
    have hok := M.runes_ok rest
    have hRl : (M.runes rest).length ≤ 400 := Nat.le_trans (M.runes_len rest) hrl
    have hkw := kindOfWord_any word
    generalize M.kindOf word = k at *
    generalize M.runes rest = R at *
    cases hu : M.uses k
    · have hst : M.stores k = false := by
        cases hs : M.stores k
        · rfl
        · rw [M.stores_uses hs] at hu; cases hu
      go_wp2_with (first | (go_at_call 76; refine (hkw _).mono ?_; rintro e w1 ⟨rfl, rfl⟩) | (go_at_call 41; refine (uses_any _ _).mono ?_; rintro e w1 ⟨rfl, rfl⟩) | (go_at_call 51; refine (stores_any _ _).mono ?_; rintro e w1 ⟨rfl, rfl⟩))
      exact bodyPost_ret (v := .tuple #[.agg #[.int .i64 k, .int .i64 (0), .int .i64 (0)], .bool true]) (by simp [results, Try.results56, go_sem]) rfl ⟨by rw [hyes.out]; simp [M.rdDo, M.D.val, hu, hst], step_end _ _ _ _ _ _ _ _⟩
    · by_cases hR : R = []
      · subst hR
        cases hst : M.stores k
        · go_wp2_with (first | (go_at_call 76; refine (hkw _).mono ?_; rintro e w1 ⟨rfl, rfl⟩) | (go_at_call 41; refine (uses_any _ _).mono ?_; rintro e w1 ⟨rfl, rfl⟩) | (go_at_call 51; refine (stores_any _ _).mono ?_; rintro e w1 ⟨rfl, rfl⟩))
          exact bodyPost_ret (v := .tuple #[.agg #[.int .i64 k, .int .i64 (0), .int .i64 (0)], .bool true]) (by simp [results, Try.results56, go_sem]) rfl ⟨by rw [hyes.out]; simp [M.rdDo, M.D.val, hu, hst], step_end _ _ _ _ _ _ _ _⟩
        · go_wp2_with (first | (go_at_call 76; refine (hkw _).mono ?_; rintro e w1 ⟨rfl, rfl⟩) | (go_at_call 41; refine (uses_any _ _).mono ?_; rintro e w1 ⟨rfl, rfl⟩) | (go_at_call 51; refine (stores_any _ _).mono ?_; rintro e w1 ⟨rfl, rfl⟩))
          exact bodyPost_ret (v := .tuple #[.agg #[.int .i64 k, .int .i64 (0), .int .i64 (0)], .bool true]) (by simp [results, Try.results56, go_sem]) rfl ⟨by rw [hyes.out]; simp [M.rdDo, M.D.val, hu, hst], step_end _ _ _ _ _ _ _ _⟩
      · obtain ⟨n, r0, r1, hn, h0, h1, x0, x1, b0, b1⟩ := runes_ends R hR hok
        have hw64 : wrap64 (n : Int) = n := by unfold wrap64; omega
        have w0 : IntKind.i32.wrap (r0 - 120) = r0 - 120 := IntWalk.i32_in _ (by omega)
        have w1 : IntKind.i32.wrap (r1 - 48) = r1 - 48 := IntWalk.i32_in _ (by omega)
        cases hst : M.stores k
        · go_wp2_with (first | (go_at_call 76; refine (hkw _).mono ?_; rintro e w1 ⟨rfl, rfl⟩) | (go_at_call 41; refine (uses_any _ _).mono ?_; rintro e w1 ⟨rfl, rfl⟩) | (go_at_call 51; refine (stores_any _ _).mono ?_; rintro e w1 ⟨rfl, rfl⟩))
          exact bodyPost_ret (v := .tuple #[.agg #[.int .i64 k, .int .i64 (r0 - 120), .int .i64 (0)], .bool true]) (by simp [results, Try.results56, go_sem]) rfl ⟨by rw [hyes.out]; simp [M.rdDo, M.D.val, hu, hst, h0], step_end _ _ _ _ _ _ _ _⟩
        · go_wp2_with (first | (go_at_call 76; refine (hkw _).mono ?_; rintro e w1 ⟨rfl, rfl⟩) | (go_at_call 41; refine (uses_any _ _).mono ?_; rintro e w1 ⟨rfl, rfl⟩) | (go_at_call 51; refine (stores_any _ _).mono ?_; rintro e w1 ⟨rfl, rfl⟩))
          exact bodyPost_ret (v := .tuple #[.agg #[.int .i64 k, .int .i64 (r0 - 120), .int .i64 (r1 - 48)], .bool true]) (by simp [results, Try.results56, go_sem]) rfl ⟨by rw [hyes.out]; simp [M.rdDo, M.D.val, hu, hst, h0, h1], step_end _ _ _ _ _ _ _ _⟩

end Go.Proofs.Ythgmolelipjdaaa
