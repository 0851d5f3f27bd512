/- spec's l1Split. Of texts of at most 400 bytes. -/
import Derived.Test.YthgmolelipjdaaaSpMathT
namespace Go.Proofs.Ythgmolelipjdaaa
open Go.RowKit

/-- Texts as cells. -/
def strs (l : List (List UInt8)) : List Value := l.map fun s => Value.string ⟨s.toArray⟩
theorem strs_len (l : List (List UInt8)) : (strs l).length = l.length := by simp [strs]
theorem Try.infoStr : (Try.prog.info? 9).map (fun i => (i.zero, i.size, i.bytes)) = some (some (.string ⟨#[]⟩), 1, 16) := by kernel_rfl

/-- A part of a text. -/
theorem bytes_extract (s : List UInt8) (a b : Nat) : (⟨s.toArray⟩ : ByteArray).extract a b = ⟨((s.drop a).take (b - a)).toArray⟩ := by
  apply ByteArray.ext
  rw [ByteArray.data_extract]
  simp

set_option maxHeartbeats 1000000 in
set_option maxRecDepth 10000 in
theorem l1Split_any (s : List UInt8) (c : UInt8) (w : World) (hs : s.length ≤ 400) :
    Calls Try.prog 37 #[.string ⟨s.toArray⟩, .int .u8 c.toNat] w fun e w' => ∃ v, e = .returned v ∧ w'.ownsRow w.heap.size 9 1 v (M.split c s).length (strs (M.split c s)) ∧ Below w.heap.size w w' := by
  obtain ⟨i0, hi, hz0, hz1, hz2⟩ := info_parts Try.infoStr
  go_enter Try.func37, Try.ntmps37
  go_wp2_with fail
  go_loopw [5, 6, 7] (fun s5 s6 s7 wr => ∃ (out : List (List UInt8)) (f i : Nat), s6 = .int .i64 f ∧ s7 = .int .i64 i ∧ f ≤ i ∧ i ≤ s.length ∧ M.split c s = out ++ M.splitAt c (s.drop i) ((s.drop f).take (i - f)) ∧ out.length ≤ i ∧ wr.ownsRow w.heap.size 9 1 s5 out.length (strs out) ∧ Below w.heap.size w wr) (fun _ _ s7 _ => s.length - (intOf s7).toNat)
  case atStart => exact ⟨[], 0, 0, rfl, rfl, Nat.le_refl _, Nat.zero_le _, by simp [M.split], Nat.le_refl _, World.ownsRow_made w _ 0 (Nat.le_refl _) (Nat.zero_le _) rfl, below1 _ _⟩
  case round =>
    obtain ⟨out, f, i, rfl, rfl, hfi, hi', hsp, hol, hown, hbel⟩ := hrel
    have HS : Hid (M.split c s = out ++ M.splitAt c (s.drop i) ((s.drop f).take (i - f))) := hsp
    clear hsp
    by_cases hlt : i < s.length
    · have HX : Hid (s.drop i = s[i] :: s.drop (i + 1)) := (List.getElem_cons_drop hlt).symm
      have hgb : (⟨s.toArray⟩ : ByteArray)[i]'(by simpa [ByteArray.size] using hlt) = s[i] := by
        show s.toArray[i] = s[i]
        simp
      by_cases hc : s[i] = c
      · have hcb : (((⟨s.toArray⟩ : ByteArray)[i]'(by simpa [ByteArray.size] using hlt)).toNat : Int) = c.toNat := by rw [hgb, hc]
        go_wp2_with (at_builtin; refine wpList_append_own _ rfl (.tmp 20) (.tmp 25) 64 rfl w.heap.size 9 i0 _ 1 16 Try.underlying64 hi hz0 hz1 hz2 rfl (by decide) _ _ (strs out) rfl (hown.alloc _) ⟨wr.heap.size, 0, none⟩ 1 1 [.string ((⟨s.toArray⟩ : ByteArray).extract f i)] rfl rfl (World.news_of_block (cs := #[.string ((⟨s.toArray⟩ : ByteArray).extract f i)]) (t := 9) (fr := (0, 0)) (heap_alloc_new wr _)) (by simp [Value.oneCell']) (by unfold maxLen; omega) (by omega) (by have := hbel.size; simp; omega) ?_)
        intro v' w3 hown3 hg3 _
        have hge := own_ge hown
        have hb3 : Below w.heap.size w w3 := below_grown (hbel.alloc hbel.size _) hg3 hge (by have := hbel.size; simp; omega)
        have hown3' : w3.ownsRow w.heap.size 9 1 v' (out ++ [(s.drop f).take (i - f)]).length (strs (out ++ [(s.drop f).take (i - f)])) := by
          rw [List.length_append]
          have e : strs (out ++ [(s.drop f).take (i - f)]) = strs out ++ [.string ((⟨s.toArray⟩ : ByteArray).extract f i)] := by rw [bytes_extract]; simp [strs]
          rw [e]
          exact hown3
        clear hown3 hg3 hown hgb hcb
        go_wp2_with fail
        refine ⟨⟨out ++ [(s.drop f).take (i - f)], i + 1, i + 1, by go_num, by go_num, Nat.le_refl _, by omega, ?_, by simp; omega, hown3', hb3⟩, by simp [intOf]; omega⟩
        rw [HS.out, HX.out]
        simp [M.splitAt, hc]
      · have hcb : ((s[i].toNat : Int) == c.toNat) = false := by
          rw [beq_eq_false_iff_ne]
          intro e
          exact hc (UInt8.toNat_inj.1 (by omega))
        go_wp2_with fail
        refine ⟨⟨out, f, i + 1, rfl, by go_num, by omega, by omega, ?_, by omega, hown, hbel⟩, by simp [intOf]; omega⟩
        rw [HS.out, HX.out]
        have hc' : (s[i] == c) = false := by simpa using hc
        simp only [M.splitAt, hc']
        have e : (s.drop f).take (i + 1 - f) = (s.drop f).take (i - f) ++ [s[i]] := by
          have e1 : i + 1 - f = (i - f) + 1 := by omega
          rw [e1, List.take_add_one]
          have : (s.drop f)[i - f]? = some s[i] := by
            rw [List.getElem?_drop, show f + (i - f) = i by omega, List.getElem?_eq_getElem hlt]
          rw [this]
          rfl
        rw [e]
        simp
    · have hil : i = s.length := by omega
      subst hil
      go_wp2_with (at_builtin; refine wpList_append_own _ rfl (.tmp 29) (.tmp 33) 64 rfl w.heap.size 9 i0 _ 1 16 Try.underlying64 hi hz0 hz1 hz2 rfl (by decide) _ _ (strs out) rfl (hown.alloc _) ⟨wr.heap.size, 0, none⟩ 1 1 [.string ((⟨s.toArray⟩ : ByteArray).extract f s.length)] rfl rfl (World.news_of_block (cs := #[.string ((⟨s.toArray⟩ : ByteArray).extract f s.length)]) (t := 9) (fr := (0, 0)) (heap_alloc_new wr _)) (by simp [Value.oneCell']) (by unfold maxLen; omega) (by omega) (by have := hbel.size; simp; omega) ?_)
      intro v' w3 hown3 hg3 _
      have hge := own_ge hown
      have hb3 : Below w.heap.size w w3 := below_grown (hbel.alloc hbel.size _) hg3 hge (by have := hbel.size; simp; omega)
      have hfin : M.split c s = out ++ [(s.drop f).take (s.length - f)] := by rw [HS.out]; simp [M.splitAt]
      have hown3' : w3.ownsRow w.heap.size 9 1 v' (M.split c s).length (strs (M.split c s)) := by
        rw [hfin, List.length_append]
        have e : strs (out ++ [(s.drop f).take (s.length - f)]) = strs out ++ [.string ((⟨s.toArray⟩ : ByteArray).extract f s.length)] := by rw [bytes_extract]; simp [strs]
        rw [e]
        exact hown3
      clear hown3 hg3 hown
      go_wp2_with fail
      go_ret
      exact ⟨v', rfl, hown3', hb3⟩
end Go.Proofs.Ythgmolelipjdaaa
