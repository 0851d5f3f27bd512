/- A program that is marked, and whether the marks stand: laws.markDoS (with the values), heldDoS. Of at most 1048576 steps. -/
import Derived.Test.YtnaljfnijcoheaaMark
namespace Go.Proofs.Ytnaljfnijcoheaa
open Go.RowKit

set_option maxHeartbeats 400000 in
theorem markDoSv_any (a : Option Addr) (b o n c : Nat) (k : Int) (w : World) (hn : n ≤ 1048576) (hk : 0 ≤ k) (hk2 : k ≤ 4611686018427387904) (had : 0 < n → a = some ⟨b, o, none⟩) (hrow : ∀ i, i < n * 3 → ∃ x, w.cell? ⟨b, o + i, none⟩ = some (.int .i64 x)) (hfz : 0 < n → ∀ j, w.frozen? ⟨b, j, none⟩ = false) :
    Calls Try.prog 88 #[.slice a n c, .int .i64 k] w fun e w' => e = .returned (.int .i64 (k + n * 3)) ∧ (∀ i : Nat, i < n * 3 → w'.cell? ⟨b, o + i, none⟩ = some (.int .i64 (k + i))) ∧ Mk (fun j => j = b ∧ 0 < n) w w' := by
  go_enter Try.func88, Try.ntmps88
  go_wp2_with fail
  go_loopw [1, 5] (fun s1 s5 wr => ∃ m : Nat, s1 = .int .i64 (k + m * 3) ∧ s5 = .int .i64 m ∧ m ≤ n ∧ (∀ i : Nat, i < m * 3 → wr.cell? ⟨b, o + i, none⟩ = some (.int .i64 (k + i))) ∧ Mk (fun j => j = b ∧ 0 < n) w wr) (fun _ s5 _ => n - (intOf s5).toNat)
  case atStart => exact ⟨0, by simp, rfl, Nat.zero_le _, fun i hi => absurd hi (by omega), Mk.refl _ _⟩
  case round =>
    obtain ⟨m, rfl, rfl, hm, hdone, hmk⟩ := hrel
    have HD : Hid (∀ i : Nat, i < m * 3 → wr.cell? ⟨b, o + i, none⟩ = some (.int .i64 (k + i))) := hdone
    clear hdone
    by_cases hlt : m < n
    · obtain ⟨rfl⟩ := had (by omega)
      obtain ⟨x0, y0⟩ := hrow (m * 3) (by omega)
      obtain ⟨x1, y1⟩ := hrow (m * 3 + 1) (by omega)
      obtain ⟨x2, y2⟩ := hrow (m * 3 + 2) (by omega)
      obtain ⟨z0, c0⟩ := hmk.ints _ _ y0
      obtain ⟨z1, c1⟩ := hmk.ints _ _ y1
      obtain ⟨z2, c2⟩ := hmk.ints _ _ y2
      have fz : ∀ j, wr.frozen? ⟨b, j, none⟩ = false := fun j => (hmk.fz _).trans (hfz (by omega) j)
      rw [← Nat.add_assoc] at c1 c2
      have i1 : (m : Int) < n := by omega
      have hP : (fun j => j = b ∧ 0 < n) b := ⟨rfl, by omega⟩
      have m1 := hmk.setCell (y := k + m * 3) hP c0
      have c1' : (wr.setCell ⟨b, o + m * 3, none⟩ (.int .i64 (k + m * 3))).cell? ⟨b, o + m * 3 + 1, none⟩ = some (.int .i64 z1) := by rw [World.cell?_setCell_other _ _ _ _ (fun e => by have := congrArg Addr.off e; simp at this)]; exact c1
      have m2 := m1.setCell (y := k + m * 3 + 1) hP c1'
      have c2' : ((wr.setCell ⟨b, o + m * 3, none⟩ (.int .i64 (k + m * 3))).setCell ⟨b, o + m * 3 + 1, none⟩ (.int .i64 (k + m * 3 + 1))).cell? ⟨b, o + m * 3 + 2, none⟩ = some (.int .i64 z2) := by rw [World.cell?_setCell_other _ _ _ _ (fun e => by have := congrArg Addr.off e; simp at this), World.cell?_setCell_other _ _ _ _ (fun e => by have := congrArg Addr.off e; simp at this)]; exact c2
      have m3 := m2.setCell (y := k + m * 3 + 1 + 1) hP c2'
      have hv : ∀ i : Nat, i < (m + 1) * 3 → (((wr.setCell ⟨b, o + m * 3, none⟩ (.int .i64 (k + m * 3))).setCell ⟨b, o + m * 3 + 1, none⟩ (.int .i64 (k + m * 3 + 1))).setCell ⟨b, o + m * 3 + 2, none⟩ (.int .i64 (k + m * 3 + 1 + 1))).cell? ⟨b, o + i, none⟩ = some (.int .i64 (k + i)) := by
        intro i hi
        by_cases e2 : i = m * 3 + 2
        · subst e2
          rw [show o + (m * 3 + 2) = o + m * 3 + 2 from by omega, World.cell?_setCell_same _ _ _ c2']
          congr 2; omega
        · rw [World.cell?_setCell_other _ _ _ _ (fun h => e2 (by have := congrArg Addr.off h; simp at this; omega))]
          by_cases e1 : i = m * 3 + 1
          · subst e1
            rw [show o + (m * 3 + 1) = o + m * 3 + 1 from by omega, World.cell?_setCell_same _ _ _ c1']
            congr 2; omega
          · rw [World.cell?_setCell_other _ _ _ _ (fun h => e1 (by have := congrArg Addr.off h; simp at this; omega))]
            by_cases e0 : i = m * 3
            · subst e0
              rw [World.cell?_setCell_same _ _ _ c0]
              congr 2
            · rw [World.cell?_setCell_other _ _ _ _ (fun h => e0 (by have := congrArg Addr.off h; simp at this; omega))]
              exact HD.out i (by omega)
      have HV : Hid (∀ i : Nat, i < (m + 1) * 3 → (((wr.setCell ⟨b, o + m * 3, none⟩ (.int .i64 (k + m * 3))).setCell ⟨b, o + m * 3 + 1, none⟩ (.int .i64 (k + m * 3 + 1))).setCell ⟨b, o + m * 3 + 2, none⟩ (.int .i64 (k + m * 3 + 1 + 1))).cell? ⟨b, o + i, none⟩ = some (.int .i64 (k + i))) := hv
      clear c1' c2' m1 m2 y0 y1 y2 hv
      go_wp2_with fail
      refine ⟨⟨m + 1, ?_, by go_num, by omega, HV.out, m3⟩, by simp [intOf]; omega⟩
      congr 1; omega
    · obtain rfl : m = n := by omega
      go_wp2_with fail
      go_ret
      exact ⟨rfl, HD.out, hmk⟩


set_option maxHeartbeats 400000 in
theorem heldDoS_any (a : Option Addr) (b o n c : Nat) (k : Int) (w : World) (hn : n ≤ 1048576) (hk : 0 ≤ k) (hk2 : k ≤ 4611686018427387904) (had : 0 < n → a = some ⟨b, o, none⟩) (hrow : ∀ i : Nat, i < n * 3 → w.cell? ⟨b, o + i, none⟩ = some (.int .i64 (k + i))) :
    Calls Try.prog 91 #[.slice a n c, .int .i64 k] w fun e w' => e = .returned (.int .i64 (k + n * 3)) ∧ w' = w := by
  go_enter Try.func91, Try.ntmps91
  go_wp2_with fail
  go_loopw [1, 5] (fun s1 s5 wr => ∃ m : Nat, s1 = .int .i64 (k + m * 3) ∧ s5 = .int .i64 m ∧ m ≤ n ∧ wr = w) (fun _ s5 _ => n - (intOf s5).toNat)
  case atStart => exact ⟨0, by simp, rfl, Nat.zero_le _, rfl⟩
  case round =>
    obtain ⟨m, rfl, rfl, hm, rfl⟩ := hrel
    by_cases hlt : m < n
    · obtain ⟨rfl⟩ := had (by omega)
      have c0 : wr.cell? ⟨b, o + m * 3, none⟩ = some (.int .i64 (k + m * 3)) := by have := hrow (m * 3) (by omega); simpa using this
      have c1 : wr.cell? ⟨b, o + m * 3 + 1, none⟩ = some (.int .i64 (k + m * 3 + 1)) := by have := hrow (m * 3 + 1) (by omega); rw [← Nat.add_assoc] at this; rw [this]; congr 2; omega
      have c2 : wr.cell? ⟨b, o + m * 3 + 2, none⟩ = some (.int .i64 (k + m * 3 + 1 + 1)) := by have := hrow (m * 3 + 2) (by omega); rw [← Nat.add_assoc] at this; rw [this]; congr 2; omega
      have i1 : (m : Int) < n := by omega
      go_wp2_with fail
      refine ⟨⟨m + 1, ?_, by go_num, by omega, trivial⟩, by simp [intOf]; omega⟩
      congr 1; omega
    · obtain rfl : m = n := by omega
      go_wp2_with fail
      go_ret
      exact ⟨rfl, rfl⟩

end Go.Proofs.Ytnaljfnijcoheaa
