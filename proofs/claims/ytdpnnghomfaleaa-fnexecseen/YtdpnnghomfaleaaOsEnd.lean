/- spec's ways: whether nothing that is copied goes back to itself. Of at most 1048576 threads, steps. -/
import Derived.Test.YtdpnnghomfaleaaOsVal
namespace Go.Proofs.Ytdpnnghomfaleaa
open Go.RowKit

def M.vEnds (ds : List M.De) (l : List Int) : Nat → List M.De → Bool
  | _, [] => true
  | n, _ :: xs => decide (0 ≤ M.val ds l (2 * ds.length + 2) n) && M.vEnds ds l (n + 1) xs
theorem M.vEnds_step {ds : List M.De} {l : List Int} {n : Nat} (h : M.vEnds ds l 0 ds = M.vEnds ds l n (ds.drop n)) (hn : n < ds.length) : M.vEnds ds l 0 ds = (decide (0 ≤ M.val ds l (2 * ds.length + 2) n) && M.vEnds ds l (n + 1) (ds.drop (n + 1))) := by
  rw [h, ← List.getElem_cons_drop hn, M.vEnds]

set_option maxHeartbeats 1000000 in
set_option maxRecDepth 100000 in
theorem l12Ends_any (a : Option Addr) (b o c : Nat) (ll : List (List M.D)) (va : Option Addr) (g cc : Nat) (fa : Option Addr) (fb fo fc : Nat) (l : List Int) (ra : Value) (w : World) (hl : ll.length ≤ 1048576) (hls : ∀ t ∈ ll, t.length ≤ 1048576) (hdl : (M.deeds ll).length ≤ 42) (HLL : Hid (l.length = (M.deeds ll).length)) (hin : M.In (M.deeds ll) l) (h : DoSS w a b o ll) (hd : DvS w va g (M.deeds ll)) (hf : IntS w fa fb fo l) :
    Calls Try.prog 38 #[.agg #[.slice a ll.length c], .slice va (M.deeds ll).length cc, .agg #[.slice fa l.length fc, ra]] w fun e w' => e = .returned (.bool (M.vEnds (M.deeds ll) l 0 (M.deeds ll))) ∧ Below w.heap.size w w' := by
  have hb2 := below2 w (.cells #[.slice a ll.length c] 34) (.cells #[.slice fa l.length fc, ra] 36)
  have kp : ((w.alloc (.cells #[.slice a ll.length c] 34)).alloc (.cells #[.slice fa l.length fc, ra] 36)).cell? ⟨w.heap.size, 0, none⟩ = some (.slice a ll.length c) := by simp
  have k0 : ((w.alloc (.cells #[.slice a ll.length c] 34)).alloc (.cells #[.slice fa l.length fc, ra] 36)).cell? ⟨w.heap.size + 1, 0, none⟩ = some (.slice fa l.length fc) := by simp
  have k1 : ((w.alloc (.cells #[.slice a ll.length c] 34)).alloc (.cells #[.slice fa l.length fc, ra] 36)).cell? ⟨w.heap.size + 1, 1, none⟩ = some ra := by simp
  have C := l12Val_any a b o c ll va g cc fa fb fo fc l ra hl hls hdl HLL hin (2 * (M.deeds ll).length + 2)
  rw [show ((2 * (M.deeds ll).length + 2 : Nat) : Int) = 2 * ((M.deeds ll).length : Int) + 2 from by omega] at C
  generalize M.deeds ll = ds at *
  replace h := h.below hb2 (Nat.le_refl _)
  replace hd := hd.bel hb2 (Nat.le_refl _)
  replace hf := hf.below hb2 (Nat.le_refl _)
  go_enter Try.func38, Try.ntmps38
  go_wp2_with fail
  generalize (w.alloc (.cells #[.slice a ll.length c] 34)).alloc (.cells #[.slice fa l.length fc, ra] 36) = WB at *
  have lw1 : w.heap.size + 1 < WB.heap.size := World.block_lt_of_cell? _ _ k0
  have lw : w.heap.size < WB.heap.size := World.block_lt_of_cell? _ _ kp
  go_loopw [7] (fun s7 wr => ∃ n : Nat, s7 = .int .i64 n ∧ n ≤ ds.length ∧ Hid (M.vEnds ds l 0 ds = M.vEnds ds l n (ds.drop n)) ∧ Below WB.heap.size WB wr) (fun s7 _ => ds.length - (intOf s7).toNat)
  case atStart => exact ⟨0, rfl, Nat.zero_le _, by show _ = _; rfl, Below.refl _ _⟩
  case round =>
    obtain ⟨n, rfl, hn, HA, hb⟩ := hrel
    have hbw := hb2.trans (hb.mono hb2.size)
    have kp' := (hb.cell (p := ⟨w.heap.size, 0, none⟩) lw).trans kp
    have k0' := (hb.cell (p := ⟨w.heap.size + 1, 0, none⟩) lw1).trans k0
    have k1' := (hb.cell (p := ⟨w.heap.size + 1, 1, none⟩) lw1).trans k1
    by_cases hlt : n < ds.length
    · have HS : Hid (M.vEnds ds l 0 ds = (decide (0 ≤ M.val ds l (2 * ds.length + 2) n) && M.vEnds ds l (n + 1) (ds.drop (n + 1)))) := M.vEnds_step HA.out hlt
      have C1 := C n wr (by omega) (by omega) (h.below hb (Nat.le_refl _)) (hd.bel hb (Nat.le_refl _)) (hf.below hb (Nat.le_refl _))
      clear HA C
      generalize M.val ds l (2 * ds.length + 2) n = r at *
      have i1 : (n : Int) < ds.length := by omega
      by_cases hr : r < 0
      · have HT : Hid (M.vEnds ds l 0 ds = false) := by show _ = _; rw [HS.out, decide_eq_false (by omega)]; rfl
        go_wp2_with (go_at_call 67; refine C1.mono ?_; rintro e w1 ⟨rfl, hb1⟩)
        go_ret
        exact ⟨ret_bool HT.out.symm, hbw.trans (hb1.mono hbw.size)⟩
      · have HT : Hid (M.vEnds ds l 0 ds = M.vEnds ds l (n + 1) (ds.drop (n + 1))) := by show _ = _; rw [HS.out, decide_eq_true (by omega)]; rfl
        have hr' : decide (r < 0) = false := by simpa using hr
        go_wp2_with (go_at_call 67; refine C1.mono ?_; rintro e w1 ⟨rfl, hb1⟩)
        exact ⟨⟨n + 1, by go_num, by omega, HT, hb.trans (hb1.mono hb.size)⟩, by simp [intOf]; omega⟩
    · go_wp2_with fail
      go_ret
      exact ⟨ret_bool (by rw [HA.out, List.drop_eq_nil_of_le (by omega)]; rfl), hbw⟩

end Go.Proofs.Ytdpnnghomfaleaa
