/- impl's ExecOk: whether a way is told just so. Of at most 1048576 threads, steps, numbers and rows. -/
import Derived.Test.YtdlpdiioggiehaaGreatOkFrom
import Derived.Test.YtdlpdiioggiehaaGreatOkOrd
import Derived.Test.YtdlpdiioggiehaaGreatOkEnd
import Derived.Deep.RegionHeld3
namespace Go.Proofs.YtdlpdiioggiehaaGreat
open Go.RowKit

set_option maxHeartbeats 1000000 in
theorem wayOk_any (va : Option Addr) (g c : Nat) (ll : List (List M.D)) (fa : Option Addr) (fb fo fc : Nat) (l : List Int) (ra : Option Addr) (rb ro rc : Nat) (rows : List (List Int)) (w : World) (hl : (M.deeds ll).length ≤ 1048576) (hl1 : l.length ≤ 1048576) (hl2 : rows.length ≤ 1048576) (hls : ∀ r ∈ rows, r.length ≤ 1048576) (h : DeS w va g (M.deeds ll)) (hf : IntS w fa fb fo l) (hr : IntSS w ra rb ro rows) :
    Calls Tryz.prog 49 #[.slice va (M.deeds ll).length c, .agg #[.slice fa l.length fc, .slice ra rows.length rc]] w fun e w' => e = .returned (.bool (M.wayOk (M.deeds ll) l rows)) ∧ Below w.heap.size w w' := by
  have hb1 := below1 w (.cells #[.slice fa l.length fc, .slice ra rows.length rc] 36)
  have k0 : (w.alloc (.cells #[.slice fa l.length fc, .slice ra rows.length rc] 36)).cell? ⟨w.heap.size, 0, none⟩ = some (.slice fa l.length fc) := by simp
  have k1 : (w.alloc (.cells #[.slice fa l.length fc, .slice ra rows.length rc] 36)).cell? ⟨w.heap.size, 1, none⟩ = some (.slice ra rows.length rc) := by simp
  have hd1 := h.bel hb1 (Nat.le_refl _)
  have hf1 := hf.below hb1 (Nat.le_refl _)
  have hr1 := hr.below hb1 (Nat.le_refl _)
  go_enter Tryz.func49, Tryz.ntmps49
  go_wp2_with fail
  generalize w.alloc (.cells #[.slice fa l.length fc, .slice ra rows.length rc] 36) = W at *
  have lt0 : w.heap.size < W.heap.size := World.block_lt_of_cell? _ _ k0
  clear h hf hr
  have C1 := fromOk_any va g c (M.deeds ll) fa fb fo fc l W hl hl1 hd1 hf1
  cases h1 : M.fromOk (M.deeds ll) l
  · rw [h1] at C1
    refine C1.mono ?_
    rintro e w1 ⟨rfl, hb2⟩
    go_wp2_with fail
    go_ret
    exact ⟨ret_bool (by simp [M.wayOk, h1]), hb1.trans (hb2.mono hb1.size)⟩
  · rw [h1] at C1
    have HIN : M.In (M.deeds ll) l := M.in_of h1
    have HLN : Hid (l.length = (M.deeds ll).length) := by
      show _ = _
      simp only [M.fromOk, Bool.and_eq_true, decide_eq_true_eq] at h1
      exact h1.1
    refine C1.mono ?_
    rintro e w1 ⟨rfl, hb2⟩
    have k0' := (hb2.cell (p := ⟨w.heap.size, 0, none⟩) lt0).trans k0
    have k1' := (hb2.cell (p := ⟨w.heap.size, 1, none⟩) lt0).trans k1
    have lt1 := Nat.lt_of_lt_of_le lt0 hb2.size
    go_wp2_with fail
    have C2 := orderOk_any va g c (M.deeds ll) ra rb ro rc rows w1 hl hl2 hls (hd1.bel hb2 (Nat.le_refl _)) (hr1.below hb2 (Nat.le_refl _))
    have hb12 := hb1.trans (hb2.mono hb1.size)
    clear k0 k1 C1
    cases h2 : M.orderOk (M.deeds ll) rows
    · rw [h2] at C2
      refine C2.mono ?_
      rintro e w2 ⟨rfl, hb3⟩
      go_wp2_with fail
      go_ret
      exact ⟨ret_bool (by simp [M.wayOk, h1, h2]), hb12.trans (hb3.mono hb12.size)⟩
    · rw [h2] at C2
      refine C2.mono ?_
      rintro e w2 ⟨rfl, hb3⟩
      have k0'' := (hb3.cell (p := ⟨w.heap.size, 0, none⟩) lt1).trans k0'
      have hb123 := hb12.trans (hb3.mono hb12.size)
      have C3 := copiesEnd_any va g c (M.deeds ll) fa fb fo fc l w2 HLN.out HIN hl ((hd1.bel hb2 (Nat.le_refl _)).bel hb3 (Nat.le_refl _)) ((hf1.below hb2 (Nat.le_refl _)).below hb3 (Nat.le_refl _))
      clear k0' k1'
      go_wp2_with fail
      refine C3.mono ?_
      rintro e w3 ⟨rfl, hb4⟩
      go_wp2_with fail
      go_ret
      exact ⟨ret_bool (by simp [M.wayOk, h1, h2]), hb123.trans (hb4.mono hb123.size)⟩

set_option maxHeartbeats 1000000 in
set_option maxRecDepth 100000 in
theorem iexecOk_any (a : Option Addr) (b o c : Nat) (ll : List (List M.D)) (fa : Option Addr) (fb fo fc : Nat) (l : List Int) (ra : Option Addr) (rb ro rc : Nat) (rows : List (List Int)) (w : World) (hl : ll.length ≤ 1048576) (hls : ∀ t ∈ ll, t.length ≤ 1048576) (hl1 : l.length ≤ 1048576) (hl2 : rows.length ≤ 1048576) (hrs : ∀ r ∈ rows, r.length ≤ 1048576) (h : DoSS w a b o ll) (hf : IntS w fa fb fo l) (hr : IntSS w ra rb ro rows) :
    Calls Tryz.prog 25 #[.agg #[.slice a ll.length c], .agg #[.slice fa l.length fc, .slice ra rows.length rc]] w fun e w' => e = .returned (.bool (M.execOk ll l rows)) ∧ Below w.heap.size w w' := by
  have hb1 := below2 w (.cells #[.slice a ll.length c] 34) (.cells #[.slice fa l.length fc, .slice ra rows.length rc] 36)
  have kp : ((w.alloc (.cells #[.slice a ll.length c] 34)).alloc (.cells #[.slice fa l.length fc, .slice ra rows.length rc] 36)).cell? ⟨w.heap.size, 0, none⟩ = some (.slice a ll.length c) := by simp
  have k0 : ((w.alloc (.cells #[.slice a ll.length c] 34)).alloc (.cells #[.slice fa l.length fc, .slice ra rows.length rc] 36)).cell? ⟨w.heap.size + 1, 0, none⟩ = some (.slice fa l.length fc) := by simp
  have k1 : ((w.alloc (.cells #[.slice a ll.length c] 34)).alloc (.cells #[.slice fa l.length fc, .slice ra rows.length rc] 36)).cell? ⟨w.heap.size + 1, 1, none⟩ = some (.slice ra rows.length rc) := by simp
  have hp1 := h.below hb1 (Nat.le_refl _)
  have hf1 := hf.below hb1 (Nat.le_refl _)
  have hr1 := hr.below hb1 (Nat.le_refl _)
  go_enter Tryz.func25, Tryz.ntmps25
  go_wp2_with fail
  generalize (w.alloc (.cells #[.slice a ll.length c] 34)).alloc (.cells #[.slice fa l.length fc, .slice ra rows.length rc] 36) = W at *
  have lt0 : w.heap.size + 1 < W.heap.size := World.block_lt_of_cell? _ _ k0
  clear h hf hr
  cases hp : M.prog ll
  · have KP := BelowOf.cell kp
    have C := fun q : BelowOf W => iprog_any a b o c ll q.x hl hls (hp1.below q.h (Nat.le_refl _))
    rw [hp] at C
    haveI : Inhabited (BelowOf W) := ⟨belOf W⟩
    refine wp_region_quiet_bel (by kernel_rfl) (by kernel_rfl) ?_
    iterate 3 (quiet_step (first | (go_at_call 48; exact Calls.bel_of (C _))))
    iterate 4 go_big_quiet_skip
    iterate 2 (quiet_step (fail))
    refine wpQuiet_nil ?_
    rintro _ ⟨⟨wq, hwq⟩, rfl⟩
    go_wp2_with fail
    go_ret
    exact ⟨ret_bool (by simp [M.execOk, hp]), hb1.trans (hwq.mono hb1.size)⟩
  · obtain ⟨h3, h7⟩ := M.prog_bounds hp
    have hdl := M.deeds_len h3 h7
    have hp2 := hp1.below (Below.refl W.heap.size W).drew (Nat.le_refl _)
    have C1 := iprog_any a b o c ll W.drew hl hls hp2
    rw [hp] at C1
    go_region_held3 (fun w' => w'.cell? ⟨w.heap.size, 0, none⟩ = some (.slice a ll.length c) ∧ w'.cell? ⟨w.heap.size + 1, 0, none⟩ = some (.slice fa l.length fc) ∧ w'.cell? ⟨w.heap.size + 1, 1, none⟩ = some (.slice ra rows.length rc)) (go_keep) (first
      | (go_at_call 48; refine C1.mono ?_; rintro e w1 ⟨rfl, hb2⟩; have Y0 := (hb2.cell (p := ⟨w.heap.size, 0, none⟩) (Nat.lt_of_succ_lt lt0)).trans kp; have Y1 := (hb2.cell (p := ⟨w.heap.size + 1, 0, none⟩) lt0).trans k0; have Y2 := (hb2.cell (p := ⟨w.heap.size + 1, 1, none⟩) lt0).trans k1; have ltY := Nat.lt_of_lt_of_le lt0 hb2.size)
      | (go_at_call 26; refine (deedsOf_any a b o c ll _ h3 h7 (hp2.below hb2 (Nat.le_refl _))).mono ?_; rintro e w2 ⟨v2, rfl, hown, hb3⟩; obtain ⟨va, g, cap, rfl, hrs2, _, _⟩ := own_rs M.De.len hown; have Z0 := (hb3.cell (p := ⟨w.heap.size, 0, none⟩) (Nat.lt_of_succ_lt ltY)).trans Y0; have Z1 := (hb3.cell (p := ⟨w.heap.size + 1, 0, none⟩) ltY).trans Y1; have Z2 := (hb3.cell (p := ⟨w.heap.size + 1, 1, none⟩) ltY).trans Y2; have ltZ := Nat.lt_of_lt_of_le ltY hb3.size)
      | (go_at_call 49; refine (wayOk_any va g cap ll fa fb fo fc l ra rb ro rc rows w2 (by omega) hl1 hl2 hrs hrs2 (((hf1.below (Below.refl _ _).drew (Nat.le_refl _)).below hb2 (Nat.le_refl _)).below hb3 (Nat.le_refl _)) (((hr1.below (Below.refl _ _).drew (Nat.le_refl _)).below hb2 (Nat.le_refl _)).below hb3 (Nat.le_refl _))).mono ?_; rintro e w3 ⟨rfl, hb4⟩; have X0 := (hb4.cell (p := ⟨w.heap.size, 0, none⟩) (Nat.lt_of_succ_lt ltZ)).trans Z0; have X1 := (hb4.cell (p := ⟨w.heap.size + 1, 0, none⟩) ltZ).trans Z1; have X2 := (hb4.cell (p := ⟨w.heap.size + 1, 1, none⟩) ltZ).trans Z2))
    go_wp2_with fail
    go_ret
    have hb5 := ((Below.refl W.heap.size W).drew.trans hb2).trans (hb3.mono hb2.size)
    exact ⟨ret_bool (by simp [M.execOk, hp]), hb1.trans ((hb5.trans (hb4.mono hb5.size)).mono hb1.size)⟩

end Go.Proofs.YtdlpdiioggiehaaGreat
