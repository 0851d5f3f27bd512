/- spec's l1Words, l6Dec (of one figure) and l1Say. Of steps in form. -/
import Derived.Test.YthgmolelipjdaaaTxI
import Derived.Laws.BytesArg
namespace Go.Proofs.Ythgmolelipjdaaa
open Go.RowKit

/-- The words' cells. -/
def wordCells : Array Value := #[.string ⟨#[]⟩, .string ⟨#[115, 116, 111, 114, 101]⟩, .string ⟨#[108, 111, 97, 100]⟩, .string ⟨#[99, 111, 112, 121]⟩, .string ⟨#[119, 97, 108, 108]⟩, .string ⟨#[116, 97, 107, 101]⟩, .string ⟨#[103, 105, 118, 101]⟩, .string ⟨#[105, 110]⟩, .string ⟨#[111, 117, 116]⟩, .string ⟨#[119, 97, 105, 116]⟩]
theorem wordCells_at (k : Nat) (h : k ≤ 9) : wordCells[k]? = some (.string (M.word k)) := by
  have : k = 0 ∨ k = 1 ∨ k = 2 ∨ k = 3 ∨ k = 4 ∨ k = 5 ∨ k = 6 ∨ k = 7 ∨ k = 8 ∨ k = 9 := by omega
  rcases this with rfl | rfl | rfl | rfl | rfl | rfl | rfl | rfl | rfl | rfl <;> rfl

theorem l1Words_any (w : World) :
    Calls Try.prog 52 #[] w fun e w' => e = .returned (.slice (some ⟨w.heap.size, 0, none⟩) 10 10) ∧ w' = w.alloc (.cells wordCells 9) := by
  go_enter Try.func52, Try.ntmps52
  go_wp2_with fail
  go_ret
  exact ⟨rfl, rfl⟩

/-- A byte alone as a text. -/
theorem byteText (w : World) (x : Int) : (convert 22 9 (.slice (some ⟨w.heap.size, 0, none⟩) 1 1)).run Try.prog (w.alloc (.cells #[.int .u8 x] 5)) = .ok (.string ⟨#[M.b8 x]⟩) (w.alloc (.cells #[.int .u8 x] 5)) := by
  have h := run_convert_bytes_arg (P := Try.prog) (w.alloc (.cells #[.int .u8 x] 5)) 22 5 Try.underlying22 Try.underlying5 w.heap.size 0 1 1 [x] rfl (fun i hi => by
    obtain rfl : i = 0 := by omega
    simp) 9 Try.underlying9
  exact h

theorem byteText_at (W : World) (x : Int) (g : Nat) (hg : W.heap.size = g) : (convert 22 9 (.slice (some ⟨g, 0, none⟩) 1 1)).run Try.prog (W.alloc (.cells #[.int .u8 x] 5)) = .ok (.string ⟨#[M.b8 x]⟩) (W.alloc (.cells #[.int .u8 x] 5)) := by
  subst hg
  exact byteText W x
theorem byteText_drew (W : World) (x : Int) (g : Nat) (hg : W.heap.size = g) : (convert 22 9 (.slice (some ⟨g, 0, none⟩) 1 1)).run Try.prog (W.alloc (.cells #[.int .u8 x] 5)).drew = .ok (.string ⟨#[M.b8 x]⟩) (W.alloc (.cells #[.int .u8 x] 5)).drew := by
  subst hg
  have h := run_convert_bytes_arg (P := Try.prog) (W.alloc (.cells #[.int .u8 x] 5)).drew 22 5 Try.underlying22 Try.underlying5 W.heap.size 0 1 1 [x] rfl (fun i hi => by
    obtain rfl : i = 0 := by omega
    simp) 9 Try.underlying9
  exact h
theorem ret_text {s : ByteArray} {l : List UInt8} (h : s.data.toList = l) : Ending.returned (.string s) = .returned (.string ⟨l.toArray⟩) := by
  subst h
  simp

set_option maxRecDepth 4000 in
theorem l6Dec_few (n : Int) (w : World) (h0 : 0 ≤ n) (h1 : n ≤ 9) :
    Calls Try.prog 53 #[.int .i64 n] w fun e w' => e = .returned (.string ⟨#[M.b8 (48 + n)]⟩) ∧ Below w.heap.size w w' := by
  have e1 : decide (n < -9223372036854775807) = false := by simp; omega
  have e2 : decide (n < 0) = false := by simp; omega
  have e3 : decide (n < 10) = true := by simp; omega
  have hbt := byteText w (48 + n)
  go_enter Try.func53, Try.ntmps53
  go_wp2_with fail
  go_ret
  exact ⟨rfl, below1 _ _⟩

/-- What a text is before its end. -/
def M.say0 (d : M.D) : List UInt8 := (M.word d.k).data.toList ++ (if M.uses d.k then [32, M.b8 (120 + d.p)] else []) ++ (if M.stores d.k then [32, M.b8 (48 + d.v)] else [])
theorem M.say_eq (d : M.D) : M.say d = M.say0 d ++ [10] := rfl
theorem M.doOk_kind {d : M.D} (h : M.doOk d = true) : 1 ≤ d.k ∧ d.k ≤ 9 := by
  simp only [M.doOk, M.wordOk, Bool.and_eq_true, decide_eq_true_eq] at h
  exact h.1.1
theorem M.doOk_noval {d : M.D} (h : M.doOk d = true) (hu : M.stores d.k = false) : d.v = 0 := by
  simp [M.doOk, M.valOk, hu] at h
  exact h.2

set_option maxHeartbeats 2000000 in
set_option maxRecDepth 4000 in
theorem l1Say_any (d : M.D) (w : World) (hd : M.doOk d = true) :
    Calls Try.prog 28 #[.agg #[.int .i64 d.k, .int .i64 d.p, .int .i64 d.v]] w fun e w' => e = .returned (.string ⟨(M.say0 d).toArray⟩) ∧ Below w.heap.size w w' := by
  have hpl := M.doOk_place hd
  have hvl := M.doOk_val hd
  have hnv := M.doOk_noval hd
  obtain ⟨hk0, hk1⟩ := M.doOk_kind hd
  obtain ⟨k, p, v⟩ := d
  simp only at hpl hvl hnv hk0 hk1
  obtain ⟨n, rfl⟩ : ∃ n : Nat, k = n := ⟨k.toNat, by omega⟩
  have hwc := wordCells_at n (by omega)
  have hw5 := M.word_sz n
  have hz1 : ¬ 9223372036854775807 < (M.word n).size + 1 := by omega
  have hz2 : ¬ 9223372036854775807 < (M.word n).size + 1 + 1 := by omega
  have hz3 : ¬ 9223372036854775807 < (M.word n).size + 1 + 1 + 1 := by omega
  have hz4 : ¬ 9223372036854775807 < (M.word n).size + 1 + 1 + 1 + 1 := by omega
  clear hw5
  have hbt := byteText_drew
  have hrs : M.reads n = true → M.writes n = false := by
    intro hr
    simp only [M.reads, M.writes, M.stores, Bool.or_eq_true, beq_iff_eq] at *
    rcases hr with h | h <;> simp [h]
  cases hr : M.reads n
  · cases hwr : M.writes n
    · have hs : M.stores n = false := by
        simp only [M.writes, Bool.or_eq_false_iff] at hwr
        exact hwr.1
      have hv0 := hnv hs
      subst hv0
      have hu : M.uses n = false := by simp [M.uses, hr, hwr]
      go_enter Try.func28, Try.ntmps28
      go_wp2_with fail
      go_region_with (go_at_call 52; refine (l1Words_any _).mono ?_; rintro e w1 ⟨rfl, rfl⟩)
      all_goals
        go_wp2_with (first | (go_at_call 30; refine (l1Reads_any ⟨_, _, _⟩ _).mono ?_; rintro e w2 ⟨rfl, rfl⟩) | (go_at_call 31; refine (l1Writes_any ⟨_, _, _⟩ _).mono ?_; rintro e w2 ⟨rfl, rfl⟩))
        go_ret
        exact ⟨ret_text (by simp [M.say0, hu, hs]), (((below3 _ _ _ _).alloc (by simp; omega) _).drew)⟩
    · have hu : M.uses n = true := by simp [M.uses, hwr]
      obtain ⟨hp0, hp1⟩ := hpl hu
      have ep : IntKind.u8.wrap (120 + p) = 120 + p := by rw [IntKind.wrap_u8]; omega
      cases hs : M.stores n
      · have hv0 := hnv hs
        subst hv0
        go_enter Try.func28, Try.ntmps28
        go_wp2_with fail
        go_region_with (go_at_call 52; refine (l1Words_any _).mono ?_; rintro e w1 ⟨rfl, rfl⟩)
        all_goals
          go_wp2_with (first | (go_at_call 30; refine (l1Reads_any ⟨_, _, _⟩ _).mono ?_; rintro e w2 ⟨rfl, rfl⟩) | (go_at_call 31; refine (l1Writes_any ⟨_, _, _⟩ _).mono ?_; rintro e w2 ⟨rfl, rfl⟩))
          go_ret
          exact ⟨ret_text (by simp [M.say0, hu, hs]), ((((below3 _ _ _ _).alloc (by simp; omega) _).alloc (by simp; omega) _).drew)⟩
      · obtain ⟨hv0, hv1⟩ := hvl hs
        go_enter Try.func28, Try.ntmps28
        go_wp2_with fail
        go_region_with (go_at_call 52; refine (l1Words_any _).mono ?_; rintro e w1 ⟨rfl, rfl⟩)
        all_goals
          go_wp2_with (first | (go_at_call 30; refine (l1Reads_any ⟨_, _, _⟩ _).mono ?_; rintro e w2 ⟨rfl, rfl⟩) | (go_at_call 31; refine (l1Writes_any ⟨_, _, _⟩ _).mono ?_; rintro e w2 ⟨rfl, rfl⟩))
          refine (l6Dec_few v _ (by omega) (by omega)).mono ?_
          rintro e w3 ⟨rfl, hb3⟩
          go_wp2_with fail
          go_ret
          exact ⟨ret_text (by simp [M.say0, hu, hs]), ((((below3 _ _ _ _).alloc (by simp; omega) _).alloc (by simp; omega) _).drew).trans (hb3.mono (by simp; omega))⟩
  · have hwr := hrs hr
    have hs : M.stores n = false := by
      simp only [M.writes, Bool.or_eq_false_iff] at hwr
      exact hwr.1
    have hv0 := hnv hs
    subst hv0
    have hu : M.uses n = true := by simp [M.uses, hr]
    obtain ⟨hp0, hp1⟩ := hpl hu
    have ep : IntKind.u8.wrap (120 + p) = 120 + p := by rw [IntKind.wrap_u8]; omega
    go_enter Try.func28, Try.ntmps28
    go_wp2_with fail
    go_region_with (go_at_call 52; refine (l1Words_any _).mono ?_; rintro e w1 ⟨rfl, rfl⟩)
    all_goals
      go_wp2_with (first | (go_at_call 30; refine (l1Reads_any ⟨_, _, _⟩ _).mono ?_; rintro e w2 ⟨rfl, rfl⟩) | (go_at_call 31; refine (l1Writes_any ⟨_, _, _⟩ _).mono ?_; rintro e w2 ⟨rfl, rfl⟩))
      go_ret
      exact ⟨ret_text (by simp [M.say0, hu, hs]), (((below3 _ _ _ _).alloc (by simp; omega) _).drew)⟩
end Go.Proofs.Ythgmolelipjdaaa
