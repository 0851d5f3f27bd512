/- The law FnExactExecEvents, walked: it answers true, and leaves all as it was. Of programs of at most 9223372036854775807 threads, each of at most 9223372036854775807 steps: more than a machine holds. -/
import Derived.Test.YtmbgcmcjfahmeabEvEq
import Derived.Test.YtmbgcmcjfahmeabMarkP
import Derived.Test.YtmbgcmcjfahmeabStays
import Derived.Deep.RegionHeld3
namespace Go.Proofs.Ytmbgcmcjfahmeab
open Go.RowKit

/-- A row of events of the call's own, from B on. -/
structure NewEv (B : Nat) (w : World) (va : Option Addr) (g : Nat) (l : List M.Ev) : Prop where
  s : EvS w va g l
  ge : 0 < l.length → B ≤ g
  lt : 0 < l.length → g < w.heap.size
  fz : 0 < l.length → ∀ j, w.frozen? ⟨g, j, none⟩ = false
theorem NewEv.of {w : World} {base : Nat} {v : Value} {l : List M.Ev} (h : w.ownsRow base 82 3 v l.length (flatEv l)) : ∃ va g cap, v = .slice va l.length cap ∧ NewEv base w va g l := by
  obtain ⟨va, g, cap, rfl, hrs, hge, _⟩ := own_rs M.Ev.len h
  refine ⟨va, g, cap, rfl, hrs, hge, fun hl => ?_, fun hl => ?_⟩
  · exact World.block_lt_of_cell? _ _ (EvS.at hrs hl).1
  · have := hrs.addr hl
    subst this
    exact own_fzS h
theorem NewEv.below {w w' : World} {B : Nat} {va : Option Addr} {g : Nat} {l : List M.Ev} (h : NewEv B w va g l) (hb : Below w.heap.size w w') : NewEv B w' va g l :=
  ⟨h.s.below M.Ev.len hb (Nat.le_refl _), h.ge, fun hl => Nat.lt_of_lt_of_le (h.lt hl) hb.size, fun hl j => (hb.frozen (p := ⟨g, j, none⟩) (h.lt hl)).trans (h.fz hl j)⟩
theorem NewEv.same {w w' : World} {B : Nat} {va : Option Addr} {g : Nat} {l : List M.Ev} (h : NewEv B w va g l) (hs : w.heap.size ≤ w'.heap.size) (hb : 0 < l.length → w'.heap[g]? = w.heap[g]?) : NewEv B w' va g l :=
  ⟨⟨h.s.addr, fun i hi j hj => by exact (World.cell?_of_block (w := w) (a := ⟨g, i * 3 + j, none⟩) (hb (by omega))).trans (h.s.row i hi j hj)⟩, h.ge, fun hl => Nat.lt_of_lt_of_le (h.lt hl) hs, fun hl j => (World.frozen?_of_block (w := w) (a := ⟨g, j, none⟩) (hb hl)).trans (h.fz hl j)⟩

set_option maxHeartbeats 2000000 in
set_option maxRecDepth 100000 in
theorem lawEx_any (a : Option Addr) (b o c : Nat) (ll : List (List M.D)) (w : World) (hl0 : ll.length ≤ 9223372036854775807) (hls0 : ∀ t ∈ ll, t.length ≤ 9223372036854775807) (h : DoSS w a b o ll) :
    Calls Try.prog 4 #[.agg #[.slice a ll.length c]] w fun e w' => e = .returned (.bool true) ∧ Below w.heap.size w w' := by
  go_enter Try.func4, Try.ntmps4
  go_wp2_with (go_at_call 12; refine (szProg_any a b o c ll _ hl0 hls0 (h.below (below1 w _) (Nat.le_refl _))).mono ?_; rintro e w1 ⟨r', rfl, rfl, hor⟩)
  · go_ret
    exact ⟨rfl, below2 _ _ _⟩
  obtain ⟨_, hl, hls⟩ : 0 ≤ r' ∧ ll.length ≤ 1048576 ∧ ∀ t ∈ ll, t.length ≤ 1048576 := hor.resolve_left (by omega)
  clear hor hl0 hls0
  have st0 : Stays w ((w.alloc (.cells #[.slice a ll.length c] 36)).alloc (.cells #[.slice a ll.length c] 36)) a b o c ll := ⟨below2 _ _ _, by simp, by simp; omega, h.below (below2 w _ _) (Nat.le_refl _)⟩
  refine (toProg_any a b o c ll _ hl hls st0.ss).mono ?_
  rintro e w1 ⟨g1, rfl, hs1, hb1⟩
  have st1 := st0.below hb1
  clear hb1 st0
  go_wp2_with fail
  refine (sexecEvents_any _ g1 0 ll.length ll _ hl hls hs1.old).mono ?_
  rintro e w2 ⟨v2, rfl, hown2, hb2⟩
  have st2 := st1.below hb2
  have hlen : (M.evAll ll).length ≤ 1048576 := by
    unfold M.evAll
    split
    · rename_i hp
      obtain ⟨h3, h7⟩ := M.prog_bounds hp
      have := M.deeds_len h3 h7
      rw [M.events, List.length_map]; omega
    · simp
  obtain ⟨es, hes⟩ : ∃ es, M.evAll ll = es := ⟨_, rfl⟩
  have HE : Hid (M.evAll ll = es) := hes
  rw [hes] at hown2 hlen
  clear hes
  obtain ⟨va, gw, cw, rfl, hw2⟩ := NewEv.of hown2
  have box2 := st2.box
  have lt2 := st2.lt
  clear hb2 st1 hs1 hown2
  go_wp2_with fail
  refine (toProg_any a b o c ll _ hl hls st2.ss).mono ?_
  rintro e w3 ⟨g2, rfl, hs3, hb3⟩
  have st3 := st2.below hb3
  have hw3 := hw2.below hb3
  have hwlt := hw2.lt
  clear box2 lt2
  go_wp2_with fail
  have hbx := below1 w3 (.cells #[.slice (some ⟨g2, 0, none⟩) ll.length ll.length] 25)
  have st4 := st3.below hbx
  have hw4 := hw3.below hbx
  have hs4 := hs3.below hbx (Nat.le_refl _)
  have x4 : (w3.alloc (.cells #[.slice (some ⟨g2, 0, none⟩) ll.length ll.length] 25)).cell? ⟨w3.heap.size, 0, none⟩ = some (.slice (some ⟨g2, 0, none⟩) ll.length ll.length) := by simp
  have hsz : (w3.alloc (.cells #[.slice (some ⟨g2, 0, none⟩) ll.length ll.length] 25)).heap.size = w3.heap.size + 1 := by simp
  generalize w3.alloc (.cells #[.slice (some ⟨g2, 0, none⟩) ll.length ll.length] 25) = W4 at *
  obtain ⟨X, hX⟩ : ∃ X, w3.heap.size = X := ⟨_, rfl⟩
  rw [hX] at x4 hsz hs4 ⊢
  have hb23 := hb3.size
  rw [hX] at hb23
  clear hbx st3 hw3 hs3 hb3 hX
  have C5 := iexecEvents_any (some ⟨g2, 0, none⟩) g2 0 ll.length ll W4 hl hls hs4.old
  rw [HE.out] at C5
  refine C5.mono ?_
  rintro e w5 ⟨v5, rfl, hown5, hb5⟩
  obtain ⟨vb, gi, ci, rfl, hi5⟩ := NewEv.of hown5
  have st5 := st4.below hb5
  have hw5 := hw4.below hb5
  have hs5 := hs4.below hb5 (Nat.le_refl _)
  have lX4 : X < W4.heap.size := by omega
  have x5 := (hb5.cell (p := ⟨X, 0, none⟩) lX4).trans x4
  clear C5 st4 hw4 hs4 x4 hown5
  have E := fun W (hi : NewEv W4.heap.size W vb gi es) (hw : NewEv w1.heap.size W va gw es) => eqEventS_same vb gi ci va gw cw es W hlen hi.s hw.s
  go_wp2_with fail
  refine (E w5 hi5 hw5).mono ?_
  rintro e w6 ⟨rfl, hb6⟩
  have st6 := st5.below hb6
  have hw6 := hw5.below hb6
  have hi6 := hi5.below hb6
  have hs6 := hs5.below hb6 (Nat.le_refl _)
  have lX5 : X < w5.heap.size := World.block_lt_of_cell? _ _ x5
  have x6 := (hb6.cell (p := ⟨X, 0, none⟩) lX5).trans x5
  have lX6 : X < w6.heap.size := World.block_lt_of_cell? _ _ x6
  clear st5 hw5 hi5 hs5 x5 hb5 hb6
  have box6 := st6.box
  have lt6 := st6.lt
  go_wp2_with fail
  have std := st6.below (Below.refl _ _).drew
  have C7 := toProg_any a b o c ll w6.drew hl hls std.ss
  go_region_held3 (fun w' => w'.cell? ⟨w.heap.size, 0, none⟩ = some (.slice a ll.length c) ∧ w'.cell? ⟨X, 0, none⟩ = some (.slice (some ⟨g2, 0, none⟩) ll.length ll.length)) (go_keep) (first
    | (go_at_call 14; refine C7.mono ?_; rintro e w7 ⟨g3, rfl, hs7, hb7⟩; have st7 := std.below hb7; have Y0 := st7.box; have Y1 := (hb7.cell (p := ⟨X, 0, none⟩) lX6).trans x6)
    | (go_at_call 17; refine (eqProg_same _ g2 0 ll.length _ g3 0 ll.length ll _ hl hls ((hs6.old.below (Below.refl _ _).drew (Nat.le_refl _)).below hb7 (Nat.le_refl _)) hs7.old).mono ?_; rintro e w8 ⟨rfl, hb8⟩; have st8 := st7.below hb8; have Z0 := st8.box; have Z1 := (hb8.cell (p := ⟨X, 0, none⟩) (Nat.lt_of_lt_of_le lX6 hb7.size)).trans Y1))
  have hb68 : Below w6.heap.size w6 w8 := ((Below.refl w6.heap.size w6).drew.trans hb7).trans (hb8.mono hb7.size)
  have hw8 := hw6.below hb68
  have hi8 := hi6.below hb68
  have hs8 := hs6.below hb68 (Nat.le_refl _)
  clear Y0 Y1 C7 std st7 st6 hw6 hi6 hs6 x6 hb7 hb8 hs7 box6 lt6
  go_wp2_with fail
  refine (markProg_any g2 ll.length w2.heap.size X ll w8 hl hls hs8).mono ?_
  rintro e w9 ⟨k, wa, rfl, hk, rfl, mk9⟩
  have hba := below1 w8 (.cells #[.slice (some ⟨g2, 0, none⟩) ll.length ll.length] 25)
  have sta := st8.below hba
  have hwa := hw8.below hba
  have hia := hi8.below hba
  generalize w8.alloc (.cells #[.slice (some ⟨g2, 0, none⟩) ll.length ll.length] 25) = WA at *
  have hge := hi8.ge
  have hw9 : NewEv w1.heap.size w9 va gw es := hwa.same (by rw [mk9.size]; exact Nat.le_refl _) (fun hp => mk9.block gw (fun h => by have := hwlt hp; omega))
  have hi9 : NewEv W4.heap.size w9 vb gi es := hia.same (by rw [mk9.size]; exact Nat.le_refl _) (fun hp => mk9.block gi (fun h => by have := hge hp; omega))
  have hw2w : w.heap.size < w2.heap.size := st2.lt
  have st9 : Stays w w9 a b o c ll := by
    have hbel := mk9.below sta.bel (fun j hj => by omega)
    exact ⟨hbel, (mk9.cell (p := ⟨w.heap.size, 0, none⟩) (fun h => by have h1 : w2.heap.size ≤ w.heap.size := h.1; omega)).trans sta.box, by rw [mk9.size]; exact sta.lt, h.below hbel (Nat.le_refl _)⟩
  have hk' : ¬ (k < 0) := by omega
  have hk2 : decide (k < 0) = false := by simpa using hk'
  clear hba sta hwa hia st8 hw8 hi8 hs8 mk9 Z0 Z1 hb68
  go_wp2_with fail
  refine (E w9 hi9 hw9).mono ?_
  rintro e w10 ⟨rfl, hb10⟩
  have st10 := st9.below hb10
  have hw10 := hw9.below hb10
  have hi10 := hi9.below hb10
  clear st9 hw9 hi9 hb10
  go_wp2_with fail
  refine (markEventS_any vb gi ci es w10 hlen hi10.s hi10.fz).mono ?_
  rintro e w11 ⟨rfl, hm11, hbut, hm0⟩
  have hw11 : NewEv w1.heap.size w11 va gw es := hw10.same hbut.size (fun hp => hbut.block gw (hw10.lt hp) (fun e => by have := hwlt hp; have := hge hp; omega))
  have hwg : ∀ i, i < w2.heap.size → 0 < es.length → i ≠ gi := fun i hi hp e => by have := hge hp; omega
  have st11 : Stays w w11 a b o c ll := by
    rcases Nat.eq_zero_or_pos es.length with h0 | hp
    · rw [hm0 h0]; exact st10
    · have hbel : Below w.heap.size w w11 := But.below st10.bel hbut (by have := hge hp; omega)
      exact ⟨hbel, (hbut.cell (p := ⟨w.heap.size, 0, none⟩) st10.lt (hwg _ hw2w hp)).trans st10.box, Nat.lt_of_lt_of_le st10.lt hbut.size, h.below hbel (Nat.le_refl _)⟩
  have H := fun W (hm : RS markEv 3 W vb gi (List.range es.length)) => heldEventS_any vb gi ci es.length W hlen hm
  clear st10 hw10 hi10 hbut
  go_wp2_with fail
  refine (H w11 hm11).mono ?_
  rintro e w12 ⟨rfl, rfl⟩
  have box11 := st11.box
  have lt11 := st11.lt
  go_wp2_with fail
  refine (toProg_any a b o c ll _ hl hls st11.ss).mono ?_
  rintro e w13 ⟨g13, rfl, hs13, hb13⟩
  have C14 := iexecEvents_any (some ⟨g13, 0, none⟩) g13 0 ll.length ll w13 hl hls hs13.old
  rw [HE.out] at C14
  clear box11 lt11
  go_wp2_with fail
  refine C14.mono ?_
  rintro e w14 ⟨v14, rfl, hown14, hb14⟩
  obtain ⟨vh, gh, ch, rfl, hh14⟩ := NewEv.of hown14
  have hb1114 := hb13.trans (hb14.mono hb13.size)
  have st14 := st11.below hb1114
  have hw14 := hw11.below hb1114
  have hm14 := hm11.below markEv_len hb1114 (Nat.le_refl _)
  clear C14 hown14
  go_wp2_with fail
  refine (eqEventS_same vh gh ch va gw cw es w14 hlen hh14.s hw14.s).mono ?_
  rintro e w15 ⟨rfl, hb15⟩
  go_wp2_with fail
  refine (H w15 (hm14.below markEv_len hb15 (Nat.le_refl _))).mono ?_
  rintro e w16 ⟨rfl, rfl⟩
  go_wp2_with fail
  go_ret
  exact ⟨rfl, (st14.below hb15).bel⟩

end Go.Proofs.Ytmbgcmcjfahmeab
