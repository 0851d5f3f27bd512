/- spec's ExecOk: whether a way is told just so. Of at most 1048576 threads, steps, numbers and rows. -/
import Derived.Test.YtdpnnghomfaleaaOsEq
namespace Go.Proofs.Ytdpnnghomfaleaa
open Go.RowKit

theorem M.prog_do {ll : List (List M.D)} (h : M.prog ll = true) : ∀ l ∈ ll, ∀ d ∈ l, M.doOk d = true := by
  simp only [M.prog, Bool.and_eq_true, decide_eq_true_eq] at h
  have key : ∀ (ll : List (List M.D)) (a u : Nat), M.progFrom a u ll = true → ∀ l ∈ ll, ∀ d ∈ l, M.doOk d = true := by
    intro ll
    induction ll with
    | nil => intro a u _ l hl; cases hl
    | cons x ll ih =>
      intro a u hp l hl
      simp only [M.progFrom] at hp
      split at hp
      · rename_i hx
        rcases List.mem_cons.1 hl with rfl | hl
        · simp only [M.thread, Bool.and_eq_true, M.form, List.all_eq_true] at hx
          exact hx.1.1.2
        · exact ih _ _ hp l hl
      · cases hp
  exact key ll 0 0 h.2
theorem M.deed_do {ll : List (List M.D)} (h : M.prog ll = true) : ∀ x ∈ M.deeds ll, M.doOk x.d = true := by
  intro x hx
  obtain ⟨ht, hi, e⟩ := M.ofEv x hx
  rw [← e]
  exact M.prog_do h _ (List.getElem_mem ht) _ (List.getElem_mem hi)
theorem M.deed_v {ll : List (List M.D)} (h : M.prog ll = true) : ∀ x ∈ M.deeds ll, 0 ≤ x.d.v := by
  intro x hx
  have := M.deed_do h x hx
  simp only [M.doOk, Bool.and_eq_true, M.valOk] at this
  have hv := this.2
  split at hv
  · simp at hv; omega
  · simp at hv; omega
theorem M.deed_p {ll : List (List M.D)} (h : M.prog ll = true) : ∀ x ∈ M.deeds ll, x.reads = true → 0 ≤ x.d.p ∧ x.d.p < 3 := by
  intro x hx hr
  have := M.deed_do h x hx
  simp only [M.doOk, Bool.and_eq_true, M.placeOk] at this
  have hv := this.1.2
  rw [if_pos (by rw [M.uses, show M.reads x.d.k = true from hr]; rfl)] at hv
  simpa using hv

set_option maxHeartbeats 1000000 in
set_option maxRecDepth 100000 in
theorem sexecOk_any (a : Option Addr) (b o c : Nat) (ll : List (List M.D)) (fa : Option Addr) (fb fo fc : Nat) (l : List Int) (ra : Option Addr) (rb ro rc : Nat) (rows : List (List Int)) (w : World) (hl : ll.length ≤ 1048576) (hls : ∀ t ∈ ll, t.length ≤ 1048576) (hl1 : l.length ≤ 1048576) (hrs : ∀ r ∈ rows, r.length ≤ 1048576) (h : DoSS w a b o ll) (hf : IntS w fa fb fo l) (hr : IntSS w ra rb ro rows) :
    Calls Try.prog 11 #[.agg #[.slice a ll.length c], .agg #[.slice fa l.length fc, .slice ra rows.length rc]] w fun e w' => e = .returned (.bool (M.execOk ll l rows)) ∧ Below w.heap.size w w' := by
  have hb2 := below2 w (.cells #[.slice a ll.length c] 34) (.cells #[.slice fa l.length fc, .slice ra rows.length rc] 36)
  have kp : ((w.alloc (.cells #[.slice a ll.length c] 34)).alloc (.cells #[.slice fa l.length fc, .slice ra rows.length rc] 36)).cell? ⟨w.heap.size, 0, none⟩ = some (.slice a ll.length c) := by simp
  have k0 : ((w.alloc (.cells #[.slice a ll.length c] 34)).alloc (.cells #[.slice fa l.length fc, .slice ra rows.length rc] 36)).cell? ⟨w.heap.size + 1, 0, none⟩ = some (.slice fa l.length fc) := by simp
  have k1 : ((w.alloc (.cells #[.slice a ll.length c] 34)).alloc (.cells #[.slice fa l.length fc, .slice ra rows.length rc] 36)).cell? ⟨w.heap.size + 1, 1, none⟩ = some (.slice ra rows.length rc) := by simp
  replace h := h.below hb2 (Nat.le_refl _)
  replace hf := hf.below hb2 (Nat.le_refl _)
  replace hr := hr.below hb2 (Nat.le_refl _)
  go_enter Try.func11, Try.ntmps11
  go_wp2_with fail
  generalize (w.alloc (.cells #[.slice a ll.length c] 34)).alloc (.cells #[.slice fa l.length fc, .slice ra rows.length rc] 36) = W at *
  have lw1 : w.heap.size + 1 < W.heap.size := World.block_lt_of_cell? _ _ k0
  have lw : w.heap.size < W.heap.size := World.block_lt_of_cell? _ _ kp
  have C1 := sprog_any a b o c ll W hl hls h
  cases hp : M.prog ll
  · rw [hp] at C1
    refine C1.mono ?_
    rintro e w1 ⟨rfl, hb1⟩
    go_wp2_with fail
    go_ret
    exact ⟨ret_bool (by simp [M.execOk, hp]), hb2.trans (hb1.mono hb2.size)⟩
  · rw [hp] at C1
    obtain ⟨h3, h7⟩ := M.prog_bounds hp
    have hdl := M.deeds_len h3 h7
    have HE : Hid (M.evAll ll = (M.deeds ll).map M.De.ev) := by show _ = _; simp [M.evAll, hp, M.events]
    have HX : Hid (M.execOk ll l rows = ((M.fromOk (M.deeds ll) l && M.orderOk (M.deeds ll) rows) && M.ends (M.deeds ll) l)) := by show _ = _; simp [M.execOk, hp, M.wayOk, Bool.and_assoc]
    refine C1.mono ?_
    rintro e w1 ⟨rfl, hb1⟩
    have kp1 := (hb1.cell (p := ⟨w.heap.size, 0, none⟩) lw).trans kp
    go_wp2_with fail
    refine (sexecEvents_any a b o c ll w1 hl hls (h.below hb1 (Nat.le_refl _))).mono ?_
    rintro e w2 ⟨v2, rfl, hown2, hb3⟩
    obtain ⟨va, g, cap, rfl, hev, _, _⟩ := own_rs M.Ev.len hown2
    rw [HE.out] at hev
    have hd := DvS.of hev
    have hle : (M.evAll ll).length = (M.deeds ll).length := by rw [HE.out, List.length_map]
    rw [hle]
    have hb12 := hb1.trans (hb3.mono hb1.size)
    have kp2 := (hb12.cell (p := ⟨w.heap.size, 0, none⟩) lw).trans kp
    have k02 := (hb12.cell (p := ⟨w.heap.size + 1, 0, none⟩) lw1).trans k0
    have k12 := (hb12.cell (p := ⟨w.heap.size + 1, 1, none⟩) lw1).trans k1
    have h2 := h.below hb12 (Nat.le_refl _)
    have hf2 := hf.below hb12 (Nat.le_refl _)
    have hr2 := hr.below hb12 (Nat.le_refl _)
    have hbZ := hb2.trans (hb12.mono hb2.size)
    have lw12 := Nat.lt_of_lt_of_le lw1 hb12.size
    have lw2 := Nat.lt_of_lt_of_le lw hb12.size
    have C4 := l12Form_any a b o c ll va g cap fa fb fo fc l ra rb ro rc rows w2 hl hls hdl (M.deed_p hp) hl1 hrs h2 hd hf2 hr2
    rw [M.way_eq (M.deed_p hp)] at C4
    clear hle hown2 hev kp k0 k1 kp1 HE C1
    cases hw : (M.fromOk (M.deeds ll) l && M.orderOk (M.deeds ll) rows)
    · rw [hw] at C4
      go_wp2_with fail
      refine C4.mono ?_
      rintro e w3 ⟨rfl, hb4⟩
      go_wp2_with fail
      go_ret
      exact ⟨ret_bool (by rw [HX.out, hw]; rfl), hbZ.trans (hb4.mono hbZ.size)⟩
    · rw [hw] at C4
      have hfo : M.fromOk (M.deeds ll) l = true := by
        simp only [Bool.and_eq_true] at hw; exact hw.1
      have HIN := M.in_of hfo
      have HLN : Hid (l.length = (M.deeds ll).length) := by
        show _ = _
        simp only [M.fromOk, Bool.and_eq_true, decide_eq_true_eq] at hfo
        exact hfo.1
      go_wp2_with fail
      refine C4.mono ?_
      rintro e w3 ⟨rfl, hb4⟩
      have kp3 := (hb4.cell (p := ⟨w.heap.size, 0, none⟩) lw2).trans kp2
      have k03 := (hb4.cell (p := ⟨w.heap.size + 1, 0, none⟩) lw12).trans k02
      have k13 := (hb4.cell (p := ⟨w.heap.size + 1, 1, none⟩) lw12).trans k12
      have C5 := l12Ends_any a b o c ll va g cap fa fb fo fc l (.slice ra rows.length rc) w3 hl hls hdl HLN HIN (h2.below hb4 (Nat.le_refl _)) (hd.bel hb4 (Nat.le_refl _)) (hf2.below hb4 (Nat.le_refl _))
      rw [M.vEnds_eq HIN (M.deed_v hp) HLN.out] at C5
      have hbY := hbZ.trans (hb4.mono hbZ.size)
      clear kp2 k02 k12 hfo
      go_wp2_with fail
      refine C5.mono ?_
      rintro e w4 ⟨rfl, hb5⟩
      go_wp2_with fail
      go_ret
      exact ⟨ret_bool (by rw [HX.out, hw]; rfl), hbY.trans (hb5.mono hbY.size)⟩

end Go.Proofs.Ytdpnnghomfaleaa
