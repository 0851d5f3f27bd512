/- impl's ways: whether From tells just so. Of at most 1048576 events. -/
import Derived.Test.YtdpnnghomfaleaaOkImpl
import Derived.Test.YtdpnnghomfaleaaQuietB
import Derived.Shelf.Abstract
import Derived.BigQuiet
namespace Go.Proofs.Ytdpnnghomfaleaa
open Go.RowKit

namespace M
theorem tell_no {ds : List De} {x : De} {f : Int} (h : x.reads = false) : mayTell ds x f = (f == -2) := by simp [mayTell, h]
theorem tell_nobody {ds : List De} {x : De} (h : x.reads = true) : mayTell ds x (-1) = true := by simp [mayTell, h]
theorem tell_low {ds : List De} {x : De} {f : Int} (h : x.reads = true) (h1 : f ≠ -1) (h0 : ¬ 0 ≤ f) : mayTell ds x f = false := by simp [mayTell, h, h1, h0]
theorem tell_high {ds : List De} {x : De} {f : Int} (h : x.reads = true) (h1 : f ≠ -1) (h0 : ¬ f < ds.length) : mayTell ds x f = false := by simp [mayTell, h, h1, h0]
theorem tell_at {ds : List De} {x : De} {n : Nat} (h : x.reads = true) (hn : n < ds.length) : mayTell ds x (n : Int) = (ds[n]).to x.d.p := by
  have h1 : ((n : Int) == -1) = false := by simp
  have h2 : decide ((0 : Int) ≤ n) = true := by simp
  have h3 : decide ((n : Int) < ds.length) = true := by simpa using hn
  simp only [mayTell, h, h1, h2, h3, Int.toNat_natCast, List.getElem?_eq_getElem hn]
  rfl
theorem from_step {ds : List De} {l : List Int} {n : Nat} (h : fromAt ds ds l = fromAt ds (ds.drop n) (l.drop n)) (hn : n < ds.length) (hl : n < l.length) : fromAt ds ds l = (mayTell ds ds[n] l[n] && fromAt ds (ds.drop (n + 1)) (l.drop (n + 1))) := by
  rw [h, ← List.getElem_cons_drop hn, ← List.getElem_cons_drop hl, fromAt]
end M

theorem writesTo_bel (x : M.De) (p : Int) (w : World) : Calls Try.prog 104 #[x.agg, .int .i64 p] w fun e w' => e = .returned (.bool (x.to p)) ∧ Below w.heap.size w w' :=
  (writesTo_any x p w).mono fun e w' ⟨he, hw⟩ => ⟨he, by rw [hw]; exact below1 _ _⟩

set_option maxHeartbeats 1000000 in
set_option maxRecDepth 100000 in
theorem mayTell_any (va : Option Addr) (g c : Nat) (ds : List M.De) (x : M.De) (f : Int) (w : World) (hl : ds.length ≤ 1048576) (h : DeS w va g ds) :
    Calls Try.prog 90 #[.slice va ds.length c, x.agg, .int .i64 f] w fun e w' => e = .returned (.bool (M.mayTell ds x f)) ∧ Below w.heap.size w w' := by
  have hb2 := below2 w (.cells #[.int .i64 (x.t : Int), .int .i64 (x.i : Int), .bool x.last, .int .i64 x.d.k, .int .i64 x.d.p, .int .i64 x.d.v, .int .i64 x.lr] 89) (.cells #[.int .i64 (x.t : Int), .int .i64 (x.i : Int), .bool x.last, .int .i64 x.d.k, .int .i64 x.d.p, .int .i64 x.d.v, .int .i64 x.lr] 89)
  cases hr : x.reads
  · go_enter Try.func90, Try.ntmps90
    go_wp2_with (go_at_call 77; refine (deReads_any x _).mono ?_; rw [hr]; rintro e w' ⟨rfl, rfl⟩)
    go_ret
    exact ⟨ret_bool (M.tell_no hr).symm, hb2⟩
  · have k4 : ((w.alloc (.cells #[.int .i64 (x.t : Int), .int .i64 (x.i : Int), .bool x.last, .int .i64 x.d.k, .int .i64 x.d.p, .int .i64 x.d.v, .int .i64 x.lr] 89)).alloc (.cells #[.int .i64 (x.t : Int), .int .i64 (x.i : Int), .bool x.last, .int .i64 x.d.k, .int .i64 x.d.p, .int .i64 x.d.v, .int .i64 x.lr] 89)).cell? ⟨w.heap.size, 4, none⟩ = some (.int .i64 x.d.p) := by simp
    go_enter Try.func90, Try.ntmps90
    go_wp2_with (go_at_call 77; refine (deReads_any x _).mono ?_; rw [hr]; rintro e w' ⟨rfl, rfl⟩)
    have hds := h.bel hb2 (Nat.le_refl _)
    generalize (w.alloc (.cells #[.int .i64 (x.t : Int), .int .i64 (x.i : Int), .bool x.last, .int .i64 x.d.k, .int .i64 x.d.p, .int .i64 x.d.v, .int .i64 x.lr] 89)).alloc (.cells #[.int .i64 (x.t : Int), .int .i64 (x.i : Int), .bool x.last, .int .i64 x.d.k, .int .i64 x.d.p, .int .i64 x.d.v, .int .i64 x.lr] 89) = W at *
    have K4 := BelowOf.cell k4
    have lt0 : w.heap.size < W.heap.size := World.block_lt_of_cell? _ _ k4
    clear h k4
    haveI : Inhabited (BelowOf W) := ⟨belOf W⟩
    by_cases h1 : f = -1
    · subst h1
      refine wp_region_quiet_bel (by kernel_rfl) (by kernel_rfl) ?_
      iterate 3 (quiet_step (fail))
      iterate 18 go_big_quiet_skip
      iterate 2 (quiet_step (fail))
      refine wpQuiet_nil ?_
      rintro _ ⟨⟨wq, hwq⟩, rfl⟩
      go_wp2_with fail
      go_ret
      exact ⟨ret_bool (M.tell_nobody hr).symm, hb2.trans (hwq.mono hb2.size)⟩
    · have h1' : (f == -1) = false := by simpa using h1
      by_cases h0 : 0 ≤ f
      · by_cases hlt : f < ds.length
        · obtain ⟨n, rfl⟩ : ∃ n : Nat, f = n := ⟨f.toNat, by omega⟩
          have hn : n < ds.length := by omega
          obtain ⟨rfl⟩ := hds.addr (by omega)
          have HM : Hid (M.mayTell ds x (n : Int) = (ds[n]).to x.d.p) := M.tell_at hr hn
          obtain ⟨c0, c1, c2, c3, c4, c5, c6⟩ := DeS.at hds hn
          generalize ds[n] = y at *
          have Y0 := BelowOf.cell c0
          have Y1 := BelowOf.cell c1
          have Y2 := BelowOf.cell c2
          have Y3 := BelowOf.cell c3
          have Y4 := BelowOf.cell c4
          have Y5 := BelowOf.cell c5
          have Y6 := BelowOf.cell c6
          have C := fun q : BelowOf W => writesTo_bel y x.d.p q.x
          clear c0 c1 c2 c3 c4 c5 c6
          refine wp_region_quiet_bel (by kernel_rfl) (by kernel_rfl) ?_
          repeat (quiet_step (first | (go_at_call 104; exact Calls.bel_of (C _))))
          refine wpQuiet_nil ?_
          rintro _ ⟨⟨wq, hwq⟩, rfl⟩
          go_wp2_with fail
          go_ret
          exact ⟨ret_bool HM.out.symm, hb2.trans (hwq.mono hb2.size)⟩
        · have hlt' : decide (f < ds.length) = false := by simpa using hlt
          refine wp_region_quiet_bel (by kernel_rfl) (by kernel_rfl) ?_
          iterate 12 (quiet_step (fail))
          iterate 8 go_big_quiet_skip
          iterate 3 (quiet_step (fail))
          refine wpQuiet_nil ?_
          rintro _ ⟨⟨wq, hwq⟩, rfl⟩
          go_wp2_with fail
          go_ret
          exact ⟨ret_bool (M.tell_high hr h1 (by omega)).symm, hb2.trans (hwq.mono hb2.size)⟩
      · have h0' : decide (0 ≤ f) = false := by simpa using h0
        refine wp_region_quiet_bel (by kernel_rfl) (by kernel_rfl) ?_
        iterate 6 (quiet_step (fail))
        iterate 4 go_big_quiet_skip
        iterate 2 (quiet_step (fail))
        iterate 8 go_big_quiet_skip
        iterate 3 (quiet_step (fail))
        refine wpQuiet_nil ?_
        rintro _ ⟨⟨wq, hwq⟩, rfl⟩
        go_wp2_with fail
        go_ret
        exact ⟨ret_bool (M.tell_low hr h1 (by omega)).symm, hb2.trans (hwq.mono hb2.size)⟩

set_option maxHeartbeats 1000000 in
set_option maxRecDepth 100000 in
theorem fromOk_any (va : Option Addr) (g c : Nat) (ds : List M.De) (a : Option Addr) (b o c2 : Nat) (l : List Int) (w : World) (hl : ds.length ≤ 1048576) (hl2 : l.length ≤ 1048576) (h : DeS w va g ds) (h2 : IntS w a b o l) :
    Calls Try.prog 73 #[.slice va ds.length c, .slice a l.length c2] w fun e w' => e = .returned (.bool (M.fromOk ds l)) ∧ Below w.heap.size w w' := by
  by_cases hln : l.length = ds.length
  · have HF : Hid (M.fromOk ds l = M.fromAt ds ds l) := by show _ = _; simp [M.fromOk, hln]
    have hq : ((l.length : Int) != ds.length) = false := by simp; omega
    have HL : Hid (l.length = ds.length) := hln
    clear hln
    go_enter Try.func73, Try.ntmps73
    go_wp2_with fail
    go_loopw [14] (fun s14 wr => ∃ n : Nat, s14 = .int .i64 n ∧ n ≤ ds.length ∧ Hid (M.fromAt ds ds l = M.fromAt ds (ds.drop n) (l.drop n)) ∧ Below w.heap.size w wr) (fun s14 _ => ds.length - (intOf s14).toNat)
    case atStart => exact ⟨0, rfl, Nat.zero_le _, by show _ = _; rfl, Below.refl _ _⟩
    case round =>
      obtain ⟨n, rfl, hn, HA, hb⟩ := hrel
      by_cases hlt : n < ds.length
      · have hltl : n < l.length := by rw [HL.out]; exact hlt
        have HS : Hid (M.fromAt ds ds l = (M.mayTell ds ds[n] l[n] && M.fromAt ds (ds.drop (n + 1)) (l.drop (n + 1)))) := M.from_step HA.out hlt hltl
        clear HA
        have hdr := h.bel hb (Nat.le_refl _)
        obtain ⟨rfl⟩ := h.addr (by omega)
        obtain ⟨rfl⟩ := h2.addr (by omega)
        have hx := DeS.at hdr hlt
        have hf := (h2.below hb (Nat.le_refl _)).row n hltl
        generalize ds[n] = x at *
        generalize l[n] = f at *
        obtain ⟨c0, c1, c2', c3, c4, c5, c6⟩ := hx
        have i1 : (n : Int) < ds.length := by omega
        have i2 : (n : Int) < l.length := by omega
        have hbx := below1 wr (.cells #[.int .i64 (x.t : Int), .int .i64 (x.i : Int), .bool x.last, .int .i64 x.d.k, .int .i64 x.d.p, .int .i64 x.d.v, .int .i64 x.lr] 89)
        have hbx2 := hb.trans (hbx.mono hb.size)
        have hfx := (hbx.cell (p := ⟨b, o + n, none⟩) (World.block_lt_of_cell? _ _ hf)).trans hf
        have hdx := hdr.bel hbx (Nat.le_refl _)
        have k0 : (wr.alloc (.cells #[.int .i64 (x.t : Int), .int .i64 (x.i : Int), .bool x.last, .int .i64 x.d.k, .int .i64 x.d.p, .int .i64 x.d.v, .int .i64 x.lr] 89)).cell? ⟨wr.heap.size, 0, none⟩ = some (.int .i64 x.t) := by simp
        have k1 : (wr.alloc (.cells #[.int .i64 (x.t : Int), .int .i64 (x.i : Int), .bool x.last, .int .i64 x.d.k, .int .i64 x.d.p, .int .i64 x.d.v, .int .i64 x.lr] 89)).cell? ⟨wr.heap.size, 1, none⟩ = some (.int .i64 x.i) := by simp
        have k2 : (wr.alloc (.cells #[.int .i64 (x.t : Int), .int .i64 (x.i : Int), .bool x.last, .int .i64 x.d.k, .int .i64 x.d.p, .int .i64 x.d.v, .int .i64 x.lr] 89)).cell? ⟨wr.heap.size, 2, none⟩ = some (.bool x.last) := by simp
        have k3 : (wr.alloc (.cells #[.int .i64 (x.t : Int), .int .i64 (x.i : Int), .bool x.last, .int .i64 x.d.k, .int .i64 x.d.p, .int .i64 x.d.v, .int .i64 x.lr] 89)).cell? ⟨wr.heap.size, 3, none⟩ = some (.int .i64 x.d.k) := by simp
        have k4 : (wr.alloc (.cells #[.int .i64 (x.t : Int), .int .i64 (x.i : Int), .bool x.last, .int .i64 x.d.k, .int .i64 x.d.p, .int .i64 x.d.v, .int .i64 x.lr] 89)).cell? ⟨wr.heap.size, 4, none⟩ = some (.int .i64 x.d.p) := by simp
        have k5 : (wr.alloc (.cells #[.int .i64 (x.t : Int), .int .i64 (x.i : Int), .bool x.last, .int .i64 x.d.k, .int .i64 x.d.p, .int .i64 x.d.v, .int .i64 x.lr] 89)).cell? ⟨wr.heap.size, 5, none⟩ = some (.int .i64 x.d.v) := by simp
        have k6 : (wr.alloc (.cells #[.int .i64 (x.t : Int), .int .i64 (x.i : Int), .bool x.last, .int .i64 x.d.k, .int .i64 x.d.p, .int .i64 x.d.v, .int .i64 x.lr] 89)).cell? ⟨wr.heap.size, 6, none⟩ = some (.int .i64 x.lr) := by simp
        go_wp2_with fail
        generalize wr.alloc (.cells #[.int .i64 (x.t : Int), .int .i64 (x.i : Int), .bool x.last, .int .i64 x.d.k, .int .i64 x.d.p, .int .i64 x.d.v, .int .i64 x.lr] 89) = W at *
        generalize wr.heap.size = K at *
        have K0 := BelowOf.cell k0
        have K1 := BelowOf.cell k1
        have K2 := BelowOf.cell k2
        have K3 := BelowOf.cell k3
        have K4 := BelowOf.cell k4
        have K5 := BelowOf.cell k5
        have K6 := BelowOf.cell k6
        have KF := BelowOf.cell hfx
        have C := fun q : BelowOf W => mayTell_any (some ⟨g, 0, none⟩) g c ds x f q.x hl (hdx.bel q.h (Nat.le_refl _))
        clear k0 k1 k2 k3 k4 k5 k6 c0 c1 c2' c3 c4 c5 c6 hf hfx
        haveI : Inhabited (BelowOf W) := ⟨belOf W⟩
        cases ht : M.mayTell ds x f
        · rw [ht] at C
          refine wp_region_quiet_bel (by kernel_rfl) (by kernel_rfl) ?_
          repeat (quiet_step (first | (go_at_call 90; exact Calls.bel_of (C _))))
          refine wpQuiet_nil ?_
          rintro _ ⟨⟨wq, hwq⟩, rfl⟩
          go_wp2_with fail
          go_ret
          exact ⟨ret_bool (by rw [HF.out, HS.out, ht]; rfl), hbx2.trans (hwq.mono hbx2.size)⟩
        · rw [ht] at C
          refine wp_region_quiet_bel (by kernel_rfl) (by kernel_rfl) ?_
          repeat (quiet_step (first | (go_at_call 90; exact Calls.bel_of (C _))))
          refine wpQuiet_nil ?_
          rintro _ ⟨⟨wq, hwq⟩, rfl⟩
          go_wp2_with fail
          exact ⟨⟨n + 1, by go_num, by omega, by show _ = _; rw [HS.out, ht]; rfl, hbx2.trans (hwq.mono hbx2.size)⟩, by simp [intOf]; omega⟩
      · go_wp2_with fail
        go_ret
        exact ⟨ret_bool (by rw [HF.out, HA.out, List.drop_eq_nil_of_le (by omega)]; rfl), hb⟩
  · have hln' : ((l.length : Int) == ds.length) = false := by simp; omega
    go_enter Try.func73, Try.ntmps73
    go_wp2_with fail
    go_ret
    exact ⟨ret_bool (by simp [M.fromOk, hln]), Below.refl _ _⟩

end Go.Proofs.Ytdpnnghomfaleaa
