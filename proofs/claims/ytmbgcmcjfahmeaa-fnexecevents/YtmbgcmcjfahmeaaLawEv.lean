/- The law FnExecEvents, walked: it answers true, and leaves all as it was. Of whatever code. -/
import Derived.Test.YtmbgcmcjfahmeaaBxP
import Derived.Test.YtmbgcmcjfahmeaaDrawEv
import Derived.Test.YtmbgcmcjfahmeaaExEv
namespace Go.Proofs.Ytmbgcmcjfahmeaa
open Go.RowKit

abbrev EvS (w : World) (va : Option Addr) (g : Nat) (l : List M.Ev) : Prop := RS M.Ev.cells 3 w va g l
theorem EvS.at {w : World} {va : Option Addr} {g : Nat} {l : List M.Ev} (h : EvS w va g l) {n : Nat} (hn : n < l.length) : w.cell? ⟨g, n * 3, none⟩ = some (.int .i64 l[n].t) ∧ w.cell? ⟨g, n * 3 + 1, none⟩ = some (.int .i64 l[n].i) ∧ w.cell? ⟨g, n * 3 + 2, none⟩ = some (.bool l[n].last) :=
  ⟨h.row n hn 0 (by omega), h.row n hn 1 (by omega), h.row n hn 2 (by omega)⟩
theorem Try.eqEv (t i : Int) (l : Bool) (w : World) : (Op.equalIn 10000 33 (.agg #[.int .i64 t, .int .i64 i, .bool l]) (.agg #[.int .i64 t, .int .i64 i, .bool l])).run Try.prog w = .ok true w := by
  have hs : Try.prog.stoodInHeld 33 = false := by kernel_rfl
  rw [show (10000 : Nat) = 9998 + 1 + 1 from rfl]
  unfold Op.equalIn
  simp [run_underlying Try.underlying33, hs, part, go_sem]

set_option maxHeartbeats 400000 in
theorem lpEvents_same (a : Option Addr) (b c : Nat) (a2 : Option Addr) (b2 c2 : Nat) (l : List M.Ev) (w : World) (hl : l.length ≤ 1048576) (h : EvS w a b l) (h2 : EvS w a2 b2 l) :
    Calls Try.prog 11 #[.slice a l.length c, .slice a2 l.length c2] w fun e w' => e = .returned (.bool true) ∧ Below w.heap.size w w' := by
  go_enter Try.func11, Try.ntmps11
  go_wp2_with fail
  go_loopw [5] (fun s5 wr => ∃ n : Nat, s5 = .int .i64 n ∧ n ≤ l.length ∧ Below w.heap.size w wr) (fun s5 _ => l.length - (intOf s5).toNat)
  case atStart => exact ⟨0, rfl, Nat.zero_le _, Below.refl _ _⟩
  case round =>
    obtain ⟨n, rfl, hn, hbel⟩ := hrel
    by_cases hlt : n < l.length
    · obtain ⟨rfl⟩ := h.addr (by omega)
      obtain ⟨rfl⟩ := h2.addr (by omega)
      obtain ⟨x0, x1, x2⟩ := EvS.at (h.below M.Ev.len hbel (Nat.le_refl _)) hlt
      obtain ⟨y0, y1, y2⟩ := EvS.at (h2.below M.Ev.len hbel (Nat.le_refl _)) hlt
      generalize l[n] = x at *
      have i1 : (n : Int) < l.length := by omega
      have heq := Try.eqEv x.t x.i x.last
      go_wp2_with fail
      go_region
      go_wp2_with fail
      exact ⟨⟨n + 1, by go_num, by omega, hbel.drew⟩, by simp [intOf]; omega⟩
    · go_wp2_with fail
      go_ret
      exact ⟨rfl, hbel⟩

set_option maxHeartbeats 2000000 in
set_option maxRecDepth 100000 in
theorem lawEvents_any (ca : Option Addr) (cb co L C : Nat) (x : Nat → Int) (w : World) (hL : L ≤ C) (had : 0 < L → ca = some ⟨cb, co, none⟩) (hc : ∀ i, i < L → w.cell? ⟨cb, co + i, none⟩ = some (.int .u8 (x i)) ∧ 0 ≤ x i ∧ x i ≤ 255) :
    Calls Try.prog 3 #[.slice ca L C] w fun e w' => e = .returned (.bool true) ∧ Below w.heap.size w w' := by
  by_cases hLb : L ≤ 1048576
  · go_enter Try.func3, Try.ntmps3
    go_wp2_with fail
    refine (DrawExecEvents_any ca cb co L C x _ hL had hc hLb).mono ?_
    rintro e w1 ⟨a, g, c, mm, rfl, hsn, hsm, hb1⟩
    have hle := hsm.le
    have h3 := hsm.three
    have hpos := hsm.pos
    obtain ⟨rfl⟩ := hsn.addr hpos
    clear had hc
    go_wp2_with fail
    have bx0 := BoxP.new (c := c) hb1 hsn.ss
    generalize w1.alloc (.cells #[.slice (some ⟨g, 0, none⟩) mm.length c] 25) = W0 at *
    generalize w1.heap.size = P at *
    clear hsn hb1
    refine (iexecEvents_any _ g 0 c mm W0 (by omega) hle bx0.ss).mono ?_
    rintro e W1 ⟨v1, rfl, hown1, b1⟩
    have bx1 := bx0.below b1
    obtain ⟨va, gi, ci, rfl, hi1, _, _⟩ := own_rs M.Ev.len hown1
    have hlen : (M.evAll mm).length ≤ 1048576 := by
      unfold M.evAll
      split
      · rename_i hp
        obtain ⟨h3, h7⟩ := M.prog_bounds hp
        have := M.deeds_len h3 h7
        rw [M.events, List.length_map]; omega
      · simp
    have p1 := bx1.p.c
    clear bx0 hown1
    go_wp2_with fail
    refine (sexecEvents_any _ g 0 c mm W1 (by omega) hle bx1.ss).mono ?_
    rintro e W2 ⟨v2, rfl, hown2, b2⟩
    have bx2 := bx1.below b2
    have hi2 := hi1.below M.Ev.len b2 (Nat.le_refl _)
    obtain ⟨vb, gw, cw, rfl, hw2, _, _⟩ := own_rs M.Ev.len hown2
    clear hown2 bx1 p1 hi1 b1
    go_wp2_with fail
    refine (lpEvents_same va gi ci vb gw cw _ W2 hlen hi2 hw2).mono ?_
    rintro e W3 ⟨rfl, b3⟩
    have bx3 := bx2.below b3
    have hi3 := hi2.below M.Ev.len b3 (Nat.le_refl _)
    have p3 := bx3.p.c
    clear bx2 hi2 hw2 b2
    go_wp2_with fail
    refine (sprog_any _ g 0 c mm W3 (by omega) hle bx3.ss).mono ?_
    rintro e W4 ⟨rfl, b4⟩
    have bx4 := bx3.below b4
    have hi4 := hi3.below M.Ev.len b4 (Nat.le_refl _)
    have p4 := bx4.p.c
    clear bx3 hi3 b3 p3
    cases hp : M.prog mm
    · go_wp2_with fail
      refine (sexecEvents_any _ g 0 c mm W4 (by omega) hle bx4.ss).mono ?_
      rintro e W5 ⟨v5, rfl, hown5, b5⟩
      have bx5 := bx4.below b5
      obtain ⟨vc, gx, cx, rfl, hw5, _, _⟩ := own_rs M.Ev.len hown5
      go_wp2_with fail
      refine (lpEvents_same va gi ci vc gx cx _ W5 hlen (hi4.below M.Ev.len b5 (Nat.le_refl _)) hw5).mono ?_
      rintro e W6 ⟨rfl, b6⟩
      go_wp2_with fail
      go_ret
      exact ⟨rfl, (bx5.below b6).bel⟩
    · obtain ⟨_, h7⟩ := M.prog_bounds hp
      have he : M.evAll mm = (M.deeds mm).map M.De.ev := by simp [M.evAll, hp, M.events]
      rw [he] at hi4 hlen
      have hel : (M.evAll mm).length = (M.deeds mm).length := by rw [he, List.length_map]
      rw [hel]
      have hdl := M.deeds_len h3 h7
      clear he hel hlen
      go_wp2_with fail
      obtain ⟨N, hN⟩ : ∃ N, (M.deeds mm).length = N := ⟨_, rfl⟩
      rw [hN] at hdl ⊢
      have HN : Hid ((M.deeds mm).length = N) := hN
      clear hN
      go_loopw [5, 6] (fun s5 s6 wr => ∃ (xs : List M.De) (t : Nat), s5 = .int .i64 xs.length ∧ s6 = .int .i64 t ∧ t ≤ mm.length ∧ xs.length ≤ 42 ∧ Hid (M.deeds mm = xs ++ M.deF t xs.length (mm.drop t)) ∧ wr = W4) (fun _ s6 _ => mm.length - (intOf s6).toNat)
      case atStart => exact ⟨[], 0, rfl, rfl, Nat.zero_le _, by simp, by show _ = _; rfl, rfl⟩
      case round =>
        obtain ⟨xs, t, rfl, rfl, htl, hxl, HX, rfl⟩ := hrel
        by_cases hlt : t < mm.length
        · obtain ⟨a', b', o', c', hc, hd⟩ := bx4.ss.row t hlt
          rw [Nat.zero_add] at hc
          have hl7 := h7 _ (List.getElem_mem hlt)
          have HX2 : Hid (M.deeds mm = xs ++ M.toTell mm mm[t] t 0 (-1) xs.length) := M.tell_start HX.out hlt
          clear HX
          generalize mm[t] = l at *
          have i1 : (t : Int) < mm.length := by omega
          go_wp2_with fail
          go_loopw [5, 7] (fun s5 s7 wr' => ∃ (xs : List M.De) (i : Nat) (lr : Int), s5 = .int .i64 xs.length ∧ s7 = .int .i64 i ∧ i ≤ l.length ∧ xs.length ≤ 42 ∧ Hid (M.deeds mm = xs ++ M.toTell mm l t i lr xs.length) ∧ wr' = wr) (fun _ s7 _ => l.length - (intOf s7).toNat)
          case atStart => exact ⟨xs, 0, -1, rfl, rfl, Nat.zero_le _, hxl, HX2, rfl⟩
          case round =>
            clear HX2 hxl
            obtain ⟨xs, i, lr, rfl, rfl, hil, hxl, HX, rfl⟩ := hrel
            by_cases hlt2 : i < l.length
            · obtain ⟨rfl⟩ := hd.addr (by omega)
              obtain ⟨ck, _, _⟩ := hd.row i hlt2
              have HX3 : Hid (M.deeds mm = (xs ++ M.deD t i lr xs.length l[i]) ++ M.toTell mm l t (i + 1) (M.lrOf lr xs.length l[i]) (xs ++ M.deD t i lr xs.length l[i]).length) := M.tell_step HX.out hlt2
              clear HX
              generalize l[i] = d at *
              have i2 : (i : Int) < l.length := by omega
              have hlN : (xs ++ M.deD t i lr xs.length d).length ≤ N := by
                have := congrArg List.length HX3.out
                rw [HN.out] at this
                simp only [List.length_append] at this ⊢
                omega
              have get : ∀ j (hj : j < (M.deD t i lr xs.length d).length), ∃ hq : xs.length + j < ((M.deeds mm).map M.De.ev).length, ((M.deeds mm).map M.De.ev)[xs.length + j] = ((M.deD t i lr xs.length d)[j]).ev := fun j hj => by
                have e : (M.deeds mm).map M.De.ev = xs.map M.De.ev ++ ((M.deD t i lr xs.length d).map M.De.ev ++ (M.toTell mm l t (i + 1) (M.lrOf lr xs.length d) (xs ++ M.deD t i lr xs.length d).length).map M.De.ev) := by
                  have := congrArg (List.map M.De.ev) HX3.out
                  rw [List.map_append, List.map_append, List.append_assoc] at this
                  exact this
                have hq : xs.length + j < ((M.deeds mm).map M.De.ev).length := by rw [e]; simp; omega
                refine ⟨hq, ?_⟩
                have h1 : ((M.deeds mm).map M.De.ev)[xs.length + j]? = some ((M.deD t i lr xs.length d)[j]).ev := by
                  rw [e, List.getElem?_append_right (by simp), List.length_map, Nat.add_sub_cancel_left, List.getElem?_append_left (by simpa using hj), List.getElem?_map, List.getElem?_eq_getElem hj]; rfl
                rw [List.getElem?_eq_getElem hq] at h1
                exact Option.some.inj h1
              have hd1 := (M.deD_len t i lr xs.length d).1
              obtain ⟨hq0, e0⟩ := get 0 (by omega)
              obtain ⟨rfl⟩ := hi4.addr (by omega)
              have hE0 : ((M.deD t i lr xs.length d)[0]).ev = ⟨t, i, false⟩ := by unfold M.deD; split <;> rfl
              obtain ⟨x0, x1, x2⟩ := EvS.at hi4 hq0
              rw [e0, hE0] at x0 x1 x2
              change World.cell? _ ⟨gi, xs.length * 3, none⟩ = some (.int .i64 t) at x0
              change World.cell? _ ⟨gi, xs.length * 3 + 1, none⟩ = some (.int .i64 i) at x1
              change World.cell? _ ⟨gi, xs.length * 3 + 2, none⟩ = some (.bool false) at x2
              have hxN : xs.length < N := by rw [List.length_append] at hlN; omega
              have i3 : (xs.length : Int) < N := by omega
              have i3' : ¬ ((N : Int) ≤ xs.length) := by omega
              have i3'' : decide ((N : Int) ≤ xs.length) = false := by simpa using i3'
              have heq := Try.eqEv t i false
              cases h9 : (d.k == 9)
              · have hD : M.deD t i lr xs.length d = [⟨t, i, false, d, M.lrOf lr xs.length d⟩] := M.deD_one h9
                have HL : Hid ((xs ++ M.deD t i lr xs.length d).length = xs.length + 1) := by show _ = _; rw [hD]; simp
                clear get e0 hE0 hD
                go_wp2_with fail
                refine ⟨⟨xs ++ M.deD t i lr xs.length d, i + 1, _, by rw [HL.out]; go_num, by go_num, by omega, by rw [HL.out]; omega, HX3.out, trivial⟩, by simp [intOf]; omega⟩
              · have hD : M.deD t i lr xs.length d = [⟨t, i, false, d, M.lrOf lr xs.length d⟩] ++ [⟨t, i, true, d, M.lrOf lr xs.length d⟩] := M.deD_wait h9
                have HL : Hid ((xs ++ M.deD t i lr xs.length d).length = xs.length + 1 + 1) := by show _ = _; rw [hD]; simp
                obtain ⟨hq1, e1⟩ := get 1 (by rw [hD]; simp)
                have hE1 : ((M.deD t i lr xs.length d)[1]'(by rw [hD]; simp)).ev = ⟨t, i, true⟩ := by simp only [hD]; rfl
                obtain ⟨y0, y1, y2⟩ := EvS.at hi4 hq1
                rw [e1, hE1] at y0 y1 y2
                change World.cell? _ ⟨gi, (xs.length + 1) * 3, none⟩ = some (.int .i64 t) at y0
                change World.cell? _ ⟨gi, (xs.length + 1) * 3 + 1, none⟩ = some (.int .i64 i) at y1
                change World.cell? _ ⟨gi, (xs.length + 1) * 3 + 2, none⟩ = some (.bool true) at y2
                have hlN2 : xs.length + 1 < N := by rw [HL.out] at hlN; omega
                have i4 : ((xs.length : Int) + 1) < N := by omega
                have i4'' : decide ((N : Int) ≤ (xs.length : Int) + 1) = false := by simp; omega
                have heq2 := Try.eqEv t i true
                clear get e0 hE0 hD e1 hE1
                go_wp2_with fail
                refine ⟨⟨xs ++ M.deD t i lr xs.length d, i + 1, _, by rw [HL.out]; go_num, by go_num, by omega, by rw [HL.out]; omega, HX3.out, trivial⟩, by simp [intOf]; omega⟩
            · go_wp2_with fail
              exact ⟨⟨xs, t + 1, rfl, by go_num, by omega, hxl, M.tell_end HX.out (by omega), trivial⟩, by simp [intOf]; omega⟩
        · have hall := M.tell_all HX.out (by omega)
          have hxN : xs.length = N := by rw [← HN.out, hall]
          rw [hxN]
          go_wp2_with fail
          go_ret
          exact ⟨rfl, bx4.bel⟩
  · go_enter Try.func3, Try.ntmps3
    go_wp2_with fail
    go_ret
    exact ⟨rfl, Below.refl _ _⟩

end Go.Proofs.Ytmbgcmcjfahmeaa
