/- The law's own comparing and marking of events: laws.eqEventS, markEventS, heldEventS. Of at most 1048576 events. -/
import Derived.Test.YtmbgcmcjfahmeabExEv
import Derived.Test.YtmbgcmcjfahmeabQuietB
import Derived.Shelf.Abstract
namespace Go.Proofs.Ytmbgcmcjfahmeab
open Go.RowKit

abbrev EvS (w : World) (va : Option Addr) (g : Nat) (l : List M.Ev) : Prop := RS M.Ev.cells 3 w va g l
theorem EvS.at {w : World} {va : Option Addr} {g : Nat} {l : List M.Ev} (h : EvS w va g l) {n : Nat} (hn : n < l.length) : w.cell? ⟨g, n * 3, none⟩ = some (.int .i64 l[n].t) ∧ w.cell? ⟨g, n * 3 + 1, none⟩ = some (.int .i64 l[n].i) ∧ w.cell? ⟨g, n * 3 + 2, none⟩ = some (.bool l[n].last) :=
  ⟨h.row n hn 0 (by omega), h.row n hn 1 (by omega), h.row n hn 2 (by omega)⟩

theorem eqEvent_same (x : M.Ev) (w : World) :
    Calls Try.prog 48 #[.agg #[.int .i64 x.t, .int .i64 x.i, .bool x.last], .agg #[.int .i64 x.t, .int .i64 x.i, .bool x.last]] w fun e w' => e = .returned (.bool true) ∧ Below w.heap.size w w' := by
  go_enter Try.func48, Try.ntmps48
  go_wp2_with fail
  go_ret
  exact ⟨rfl, below2 _ _ _⟩

set_option maxHeartbeats 400000 in
set_option maxRecDepth 100000 in
theorem eqEventS_same (a : Option Addr) (b c : Nat) (a2 : Option Addr) (b2 c2 : Nat) (l : List M.Ev) (w : World) (hl : l.length ≤ 1048576) (h : EvS w a b l) (h2 : EvS w a2 b2 l) :
    Calls Try.prog 16 #[.slice a l.length c, .slice a2 l.length c2] w fun e w' => e = .returned (.bool true) ∧ Below w.heap.size w w' := by
  go_enter Try.func16, Try.ntmps16
  go_wp2_with fail
  go_loopw [5] (fun s5 wr => ∃ n : Nat, s5 = .int .i64 n ∧ n ≤ l.length ∧ Below w.heap.size w wr) (fun s5 _ => l.length - (intOf s5).toNat)
  case atStart => exact ⟨0, rfl, Nat.zero_le _, Below.refl _ _⟩
  case round =>
    obtain ⟨n, rfl, hn, hbel⟩ := hrel
    by_cases hlt : n < l.length
    · obtain ⟨rfl⟩ := h.addr (by omega)
      obtain ⟨rfl⟩ := h2.addr (by omega)
      obtain ⟨x0, x1, x2⟩ := EvS.at (h.below M.Ev.len hbel (Nat.le_refl _)) hlt
      obtain ⟨y0, y1, y2⟩ := EvS.at (h2.below M.Ev.len hbel (Nat.le_refl _)) hlt
      generalize l[n] = x at *
      have i1 : (n : Int) < l.length := by omega
      have K0 := BelowOf.cell x0
      have K1 := BelowOf.cell x1
      have K2 := BelowOf.cell x2
      have K3 := BelowOf.cell y0
      have K4 := BelowOf.cell y1
      have K5 := BelowOf.cell y2
      clear x0 x1 x2 y0 y1 y2
      go_wp2_with fail
      haveI : Inhabited (BelowOf wr) := ⟨belOf wr⟩
      refine wp_region_quiet_bel (by kernel_rfl) (by kernel_rfl) ?_
      repeat (quiet_step (first | (go_at_call 48; exact Calls.bel_of (eqEvent_same _ _))))
      refine wpQuiet_nil ?_
      rintro _ ⟨⟨wq, hwq⟩, rfl⟩
      go_wp2_with fail
      exact ⟨⟨n + 1, by go_num, by omega, hbel.trans (hwq.mono hbel.size)⟩, by simp [intOf]; omega⟩
    · go_wp2_with fail
      go_ret
      exact ⟨rfl, hbel⟩

/-- The cells of a marked event. -/
def markEv (i : Nat) : List Value := [.int .i64 (1 + (i : Int) * 3), .int .i64 (1 + (i : Int) * 3 + 1), .bool true]
theorem markEv_len (i : Nat) : (markEv i).length = 3 := rfl

set_option maxHeartbeats 1000000 in
theorem markEventS_any (a : Option Addr) (b c : Nat) (l : List M.Ev) (w : World) (hl : l.length ≤ 1048576) (h : EvS w a b l) (hfz : 0 < l.length → ∀ j, w.frozen? ⟨b, j, none⟩ = false) :
    Calls Try.prog 19 #[.slice a l.length c, .int .i64 1] w fun e w' => e = .returned (.int .i64 (1 + l.length * 3)) ∧ RS markEv 3 w' a b (List.range l.length) ∧ But b w w' ∧ (l.length = 0 → w' = w) := by
  go_enter Try.func19, Try.ntmps19
  go_wp2_with fail
  go_loopw [1, 5] (fun s1 s5 wr => ∃ m : Nat, s1 = .int .i64 (1 + m * 3) ∧ s5 = .int .i64 m ∧ m ≤ l.length ∧ Hid (∀ i, i < m → ∀ j, j < 3 → wr.cell? ⟨b, i * 3 + j, none⟩ = (markEv i)[j]?) ∧ Hid (∀ i (_ : i < l.length), m ≤ i → ∀ j, j < 3 → wr.cell? ⟨b, i * 3 + j, none⟩ = (l[i].cells)[j]?) ∧ (0 < l.length → ∀ j, wr.frozen? ⟨b, j, none⟩ = false) ∧ But b w wr ∧ Hid (l.length = 0 → wr = w)) (fun _ s5 _ => l.length - (intOf s5).toNat)
  case atStart => exact ⟨0, by simp, rfl, Nat.zero_le _, fun i hi => absurd hi (Nat.not_lt_zero _), fun i hi _ => h.row i hi, hfz, But.refl _ _, fun _ => rfl⟩
  case round =>
    obtain ⟨m, rfl, rfl, hm, HD, HL, hf, hb, H0⟩ := hrel
    by_cases hlt : m < l.length
    · obtain ⟨rfl⟩ := h.addr (by omega)
      have c0 : wr.cell? ⟨b, m * 3, none⟩ = some (.int .i64 l[m].t) := HL.out m hlt (Nat.le_refl _) 0 (by omega)
      have c1 : wr.cell? ⟨b, m * 3 + 1, none⟩ = some (.int .i64 l[m].i) := HL.out m hlt (Nat.le_refl _) 1 (by omega)
      have c2 : wr.cell? ⟨b, m * 3 + 2, none⟩ = some (.bool l[m].last) := HL.out m hlt (Nat.le_refl _) 2 (by omega)
      have i1 : (m : Int) < l.length := by omega
      have fz := hf (by omega)
      have e3 : ((1 : Int) + m * 3 + 1 + 1).tmod 3 = 0 := by rw [show (1 : Int) + m * 3 + 1 + 1 = (m + 1) * 3 from by omega]; exact Int.mul_tmod_left _ _
      have e3' : ((1 : Int) + m * 3 + 1 + 1) % 3 = 0 := by omega
      clear h hfz
      go_wp2_with fail
      have hsame : ∀ (i j : Nat), i ≠ m → j < 3 → ∀ (u v x : Value), (((wr.setCell ⟨b, m * 3, none⟩ u).setCell ⟨b, m * 3 + 1, none⟩ v).setCell ⟨b, m * 3 + 2, none⟩ x).cell? ⟨b, i * 3 + j, none⟩ = wr.cell? ⟨b, i * 3 + j, none⟩ := fun i j hij hj u v x => by
        rw [World.cell?_setCell_other _ _ _ _ (fun e => by have := congrArg Addr.off e; simp at this; omega), World.cell?_setCell_other _ _ _ _ (fun e => by have := congrArg Addr.off e; simp at this; omega), World.cell?_setCell_other _ _ _ _ (fun e => by have := congrArg Addr.off e; simp at this; omega)]
      refine ⟨⟨m + 1, by congr 1; omega, by go_num, by omega, fun i hi j hj => ?_, fun i hi hmi j hj => ?_, fun _ j => ?_, ?_, fun h0 => absurd h0 (by omega)⟩, by simp [intOf]; omega⟩
      · by_cases e : i = m
        · subst e
          match j, hj with
          | 0, _ =>
            rw [World.cell?_setCell_other _ _ _ _ (fun e => by have := congrArg Addr.off e; simp at this), World.cell?_setCell_other _ _ _ _ (fun e => by have := congrArg Addr.off e; simp at this)]
            exact World.cell?_setCell_same _ _ _ c0
          | 1, _ =>
            rw [World.cell?_setCell_other _ _ _ _ (fun e => by have := congrArg Addr.off e; simp at this)]
            exact World.cell?_setCell_same _ _ _ ((World.cell?_setCell_other _ _ _ _ (fun e => by have := congrArg Addr.off e; simp at this)).trans c1)
          | 2, _ => exact World.cell?_setCell_same _ _ _ ((World.cell?_setCell_other _ _ _ _ (fun e => by have := congrArg Addr.off e; simp at this)).trans ((World.cell?_setCell_other _ _ _ _ (fun e => by have := congrArg Addr.off e; simp at this)).trans c2))
        · rw [hsame i j e hj]; exact HD.out i (by omega) j hj
      · rw [hsame i j (by omega) hj]; exact HL.out i hi (by omega) j hj
      · rw [World.frozen?_setCell, World.frozen?_setCell, World.frozen?_setCell]; exact fz j
      · exact ((hb.setCell (Or.inr rfl) _).setCell (Or.inr rfl) _).setCell (Or.inr rfl) _
    · obtain rfl : m = l.length := by omega
      go_wp2_with fail
      go_ret
      exact ⟨rfl, ⟨fun hl => h.addr (by simpa using hl), fun i hi j hj => by rw [List.getElem_range]; exact HD.out i (by simpa using hi) j hj⟩, hb, H0.out⟩

set_option maxHeartbeats 400000 in
theorem heldEventS_any (a : Option Addr) (b c n : Nat) (w : World) (hl : n ≤ 1048576) (h : RS markEv 3 w a b (List.range n)) :
    Calls Try.prog 20 #[.slice a n c, .int .i64 1] w fun e w' => e = .returned (.int .i64 (1 + n * 3)) ∧ w' = w := by
  go_enter Try.func20, Try.ntmps20
  go_wp2_with fail
  go_loopw [1, 5] (fun s1 s5 wr => ∃ m : Nat, s1 = .int .i64 (1 + m * 3) ∧ s5 = .int .i64 m ∧ m ≤ n ∧ wr = w) (fun _ s5 _ => n - (intOf s5).toNat)
  case atStart => exact ⟨0, by simp, rfl, Nat.zero_le _, rfl⟩
  case round =>
    obtain ⟨m, rfl, rfl, hm, rfl⟩ := hrel
    by_cases hlt : m < n
    · obtain ⟨rfl⟩ := h.addr (by simp; omega)
      have hr := h.row m (by simpa using hlt)
      rw [List.getElem_range] at hr
      have c0 : wr.cell? ⟨b, m * 3, none⟩ = some (.int .i64 (1 + m * 3)) := hr 0 (by omega)
      have c1 : wr.cell? ⟨b, m * 3 + 1, none⟩ = some (.int .i64 (1 + m * 3 + 1)) := hr 1 (by omega)
      have c2 : wr.cell? ⟨b, m * 3 + 2, none⟩ = some (.bool true) := hr 2 (by omega)
      have i1 : (m : Int) < n := by omega
      have e3 : ((1 : Int) + m * 3 + 1 + 1).tmod 3 = 0 := by rw [show (1 : Int) + m * 3 + 1 + 1 = (m + 1) * 3 from by omega]; exact Int.mul_tmod_left _ _
      have e3' : ((1 : Int) + m * 3 + 1 + 1) % 3 = 0 := by omega
      clear hr
      go_wp2_with fail
      exact ⟨⟨m + 1, by congr 1; omega, by go_num, by omega, trivial⟩, by simp [intOf]; omega⟩
    · obtain rfl : m = n := by omega
      go_wp2_with fail
      go_ret
      exact ⟨rfl, rfl⟩

end Go.Proofs.Ytmbgcmcjfahmeab
