/- spec's l6Dec: a number in decimals. Of numbers of 64 bits. -/
import Derived.Test.YtefmkenljongpaaDoorTxB
import Derived.Test.YtefmkenljongpaaDoorStMath
import Derived.Laws.BytesArg
import Derived.Deep.RegionWith
namespace Go.Proofs.YtefmkenljongpaaDoor
open Go.RowKit

/-- A byte alone as a text. -/
theorem byteTextAt (W : World) (g : Nat) (x : Int) (h : W.cell? ⟨g, 0, none⟩ = some (.int .u8 x)) : (convert 22 9 (.slice (some ⟨g, 0, none⟩) 1 1)).run Tryd.prog W = .ok (.string ⟨#[M.b8 x]⟩) W := by
  have h := run_convert_bytes_arg (P := Tryd.prog) W 22 5 Tryd.underlying22 Tryd.underlying5 g 0 1 1 [x] rfl (fun i hi => by
    obtain rfl : i = 0 := by omega
    simpa using h) 9 Tryd.underlying9
  exact h

theorem bytesAdd (a b : List UInt8) : (⟨a.toArray⟩ : ByteArray) ++ ⟨b.toArray⟩ = ⟨(a ++ b).toArray⟩ := by
  apply ByteArray.ext
  simp
theorem M.b8_of (n : Nat) : M.b8 (48 + (n : Int)) = UInt8.ofNat (48 + n) := by
  unfold M.b8
  have : (48 + (n : Int)).toNat = 48 + n := by omega
  rw [this]

set_option maxHeartbeats 2000000 in
set_option maxRecDepth 4000 in
theorem l6Dec_nat (n : Nat) : ∀ (w : World), n ≤ 9223372036854775807 →
    Calls Tryd.prog 21 #[.int .i64 n] w fun e w' => e = .returned (.string ⟨(Lib.decDigits n).toArray⟩) ∧ Below w.heap.size w w' := by
  induction n using Nat.strongRecOn with
  | _ n ih =>
    intro w hn
    have e1 : decide ((n : Int) < -9223372036854775807) = false := by rw [decide_eq_false_iff_not]; omega
    have e2 : decide ((n : Int) < 0) = false := by simp
    by_cases h10 : n < 10
    · have e3 : decide ((n : Int) < 10) = true := by simp; omega
      have hbt := byteTextAt (w.alloc (.cells #[.int .u8 (48 + (n : Int))] 5)) w.heap.size (48 + n) (by simp)
      go_enter Tryd.func21, Tryd.ntmps21
      go_wp2_with fail
      go_ret
      exact ⟨by rw [Lib.decDigits, dif_pos h10, M.b8_of]; rfl, below1 _ _⟩
    · have e3 : decide ((n : Int) < 10) = false := by simp; omega
      have hq : Int.tdiv (n : Int) 10 = ((n / 10 : Nat) : Int) := by rw [Int.tdiv_eq_ediv_of_nonneg (by omega)]; omega
      have hr : Int.tmod (n : Int) 10 = ((n % 10 : Nat) : Int) := by rw [Int.tmod_eq_emod_of_nonneg (by omega)]; omega
      have hbt := byteTextAt
      have hd10 : n / 10 < n := by omega
      have C := fun W => ih (n / 10) hd10 W (by omega)
      have hlen := M.dig_len 18 (n / 10) (by simp only [Nat.reduceAdd, Nat.reducePow]; omega)
      have ew : IntKind.u8.wrap (48 + ((n % 10 : Nat) : Int)) = 48 + ((n % 10 : Nat) : Int) := by rw [IntKind.wrap_u8]; omega
      have HD : Hid (Lib.decDigits n = Lib.decDigits (n / 10) ++ [UInt8.ofNat (48 + n % 10)]) := by
        show _ = _
        rw [Lib.decDigits.eq_def n, dif_neg h10]
      clear ih
      have hm10 : n % 10 < 10 := by omega
      generalize n / 10 = q at *
      generalize n % 10 = r at *
      generalize Lib.decDigits q = Q at *
      have hz : ¬ 9223372036854775807 < Q.length + 1 := by omega
      have wq : IntKind.i64.wrap (q : Int) = q := IntWalk.i64_in _ (by omega)
      have wr : IntKind.i64.wrap (48 + (r : Int)) = 48 + r := IntWalk.i64_in _ (by omega)
      go_enter Tryd.func21, Tryd.ntmps21
      go_wp2_with fail
      go_region_with (go_at_call 21; refine (C _).mono ?_; rintro e w1 ⟨rfl, hb1⟩; obtain ⟨hc1, hf1⟩ := bcell hb1)
      all_goals
        go_wp2_with fail
        go_ret
        refine ⟨?_, ?_⟩
        · rw [HD.out, ← M.b8_of, ← bytesAdd]
          rfl
        · first
          | exact ((Below.refl _ w).drew.trans hb1).alloc hb1.size _
          | exact ((Below.refl _ w).alloc (Nat.le_refl _) _).drew.trans (hb1.mono (show w.heap.size ≤ (w.alloc _).heap.size by simp))

theorem M.itoa_min : Lib.itoa (-9223372036854775808) = [45, 57, 50, 50, 51, 51, 55, 50, 48, 51, 54, 56, 53, 52, 55, 55, 53, 56, 48, 56] := by
  unfold Lib.itoa
  rw [if_pos (by omega)]
  simp [Lib.decDigits]

set_option maxHeartbeats 1000000 in
set_option maxRecDepth 4000 in
theorem l6Dec_any (n : Int) (w : World) (h0 : -9223372036854775808 ≤ n) (h1 : n ≤ 9223372036854775807) :
    Calls Tryd.prog 21 #[.int .i64 n] w fun e w' => e = .returned (.string ⟨(Lib.itoa n).toArray⟩) ∧ Below w.heap.size w w' := by
  by_cases hn : 0 ≤ n
  · obtain ⟨m, rfl⟩ : ∃ m : Nat, n = m := ⟨n.toNat, by omega⟩
    rw [Lib.itoa_nonneg]
    exact l6Dec_nat m w (by omega)
  · by_cases hm : n = -9223372036854775808
    · subst hm
      have e1 : decide ((-9223372036854775808 : Int) < -9223372036854775807) = true := by decide
      go_enter Tryd.func21, Tryd.ntmps21
      go_wp2_with fail
      go_ret
      exact ⟨by rw [M.itoa_min]; rfl, Below.refl _ _⟩
    · obtain ⟨m, rfl⟩ : ∃ m : Nat, n = -(m : Int) := ⟨n.natAbs, by omega⟩
      have e1 : decide (-(m : Int) < -9223372036854775807) = false := by rw [decide_eq_false_iff_not]; omega
      have e2 : decide (-(m : Int) < 0) = true := by rw [decide_eq_true_iff]; omega
      have e3 : IntKind.i64.wrap (m : Int) = m := IntWalk.i64_in _ (by omega)
      have e4 : IntKind.i64.wrap (- -(m : Int)) = m := by rw [Int.neg_neg]; exact e3
      have hl := M.dig_len 18 m (by simp only [Nat.reduceAdd, Nat.reducePow]; omega)
      have C := l6Dec_nat m w (by omega)
      rw [Lib.itoa_neg m (by omega)]
      generalize Lib.decDigits m = Q at *
      have hz : ¬ 9223372036854775807 < 1 + Q.length := by omega
      go_enter Tryd.func21, Tryd.ntmps21
      go_wp2_with fail
      refine C.mono ?_
      rintro e w1 ⟨rfl, hb1⟩
      go_wp2_with fail
      go_ret
      exact ⟨congrArg (fun s => Ending.returned (.string s)) (bytesAdd [45] Q), hb1⟩

end Go.Proofs.YtefmkenljongpaaDoor
