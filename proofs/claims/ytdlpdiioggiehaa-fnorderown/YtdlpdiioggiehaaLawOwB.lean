/- The law FnOrderOwn, walked: it answers true, and leaves all as it was. Of whatever code. -/
import Derived.Test.YtdlpdiioggiehaaBnYd
import Derived.Test.YtdlpdiioggiehaaBnYw
import Derived.Test.YtdlpdiioggiehaaOsOk
import Derived.Test.YtdlpdiioggiehaaExEv
import Derived.Test.YtdlpdiioggiehaaQuietB
namespace Go.Proofs.Ytdlpdiioggiehaa
open Go.RowKit

set_option maxHeartbeats 1000000 in
set_option maxRecDepth 100000 in
theorem lpKind_any (a : Option Addr) (b o c : Nat) (ll : List (List M.D)) (x : M.De) (w : World) (hox : M.OfEv ll x) (hl : ll.length ≤ 1048576) (hls : ∀ t ∈ ll, t.length ≤ 1048576) (h : DoSS w a b o ll) :
    Calls Try.prog 13 #[.agg #[.slice a ll.length c], .agg #[.int .i64 x.t, .int .i64 x.i, .bool x.last]] w fun e w' => e = .returned (.int .i64 x.d.k) ∧ Below w.heap.size w w' := by
  have hb0 := below2 w (.cells #[.slice a ll.length c] 25) (.cells #[.int .i64 (x.t : Int), .int .i64 (x.i : Int), .bool x.last] 40)
  have kb : ((w.alloc (.cells #[.slice a ll.length c] 25)).alloc (.cells #[.int .i64 (x.t : Int), .int .i64 (x.i : Int), .bool x.last] 40)).cell? ⟨w.heap.size, 0, none⟩ = some (.slice a ll.length c) := by simp
  have k0 : ((w.alloc (.cells #[.slice a ll.length c] 25)).alloc (.cells #[.int .i64 (x.t : Int), .int .i64 (x.i : Int), .bool x.last] 40)).cell? ⟨w.heap.size + 1, 0, none⟩ = some (.int .i64 x.t) := by simp
  have k1 : ((w.alloc (.cells #[.slice a ll.length c] 25)).alloc (.cells #[.int .i64 (x.t : Int), .int .i64 (x.i : Int), .bool x.last] 40)).cell? ⟨w.heap.size + 1, 1, none⟩ = some (.int .i64 x.i) := by simp
  obtain ⟨ht, hi, ed⟩ := hox
  have h0 := h.below hb0 (Nat.le_refl _)
  obtain ⟨ta, tb, to', tc, kt, hTd⟩ := h0.row x.t ht
  obtain ⟨rfl⟩ := h0.addr (by omega)
  obtain ⟨rfl⟩ := hTd.addr (by omega)
  have hti := hls _ (List.getElem_mem ht)
  obtain ⟨d0, -, -⟩ := hTd.row x.i hi
  rw [ed] at d0
  have i7 : (x.t : Int) < ll.length := by omega
  have i8 : (x.i : Int) < ll[x.t].length := by omega
  clear ed hTd h h0 hls
  generalize ll[x.t].length = tl at *
  go_enter Try.func13, Try.ntmps13
  go_wp2_with fail
  generalize (w.alloc (.cells #[.slice (some ⟨b, o, none⟩) ll.length c] 25)).alloc (.cells #[.int .i64 (x.t : Int), .int .i64 (x.i : Int), .bool x.last] 40) = W at *
  go_quiet (fail)
  go_wp2_with fail
  go_ret
  exact ⟨rfl, hb0.trans ⟨rfl, rfl, rfl, Nat.le_refl _, fun _ _ => rfl⟩⟩

set_option maxHeartbeats 4000000 in
set_option maxRecDepth 100000 in
theorem lawOwn_any (ca : Option Addr) (cb co L C : Nat) (x : Nat → Int) (w : World) (hL : L ≤ C) (had : 0 < L → ca = some ⟨cb, co, none⟩) (hc : ∀ i, i < L → w.cell? ⟨cb, co + i, none⟩ = some (.int .u8 (x i)) ∧ 0 ≤ x i ∧ x i ≤ 255) :
    Calls Try.prog 4 #[.slice ca L C] w fun e w' => e = .returned (.bool true) ∧ Below w.heap.size w w' := by
  by_cases hLb : L ≤ 1048576
  · go_enter Try.func4, Try.ntmps4
    go_wp2_with fail
    refine (DrawExecOk_any ca cb co L C x _ hL had hc hLb).mono ?_
    rintro e w1 ⟨v, rfl, ⟨a, g, c, mm, fv, ov, l, rows, rfl, hsn, hsm, hwy, h1, h2, h3⟩, hb1⟩
    obtain ⟨fa, fb, fc, ra, rb, rc, rfl, rfl, hf1, ho1⟩ := hwy.ss
    have h2' : Hid (rows.length = 3) := h2
    have hl3 : mm.length ≤ 1048576 := by have := hsm.three; omega
    have hls : ∀ t ∈ mm, t.length ≤ 1048576 := fun t ht => by have := hsm.steps t ht; omega
    have hl1 : l.length ≤ 1048576 := by omega
    have hl2 : rows.length ≤ 1048576 := by omega
    have hrs : ∀ r ∈ rows, r.length ≤ 1048576 := fun r hr => by have := h3 r hr; omega
    clear had hc h2 hwy
    have bx0 := BxW.new (c := c) (fc := fc) (rc := rc) hb1 hsn.ss hf1 ho1
    have CI := fun (W : World) (k p q : Int) (hb : BxW w W w1.heap.size (w1.heap.size + 1) a g c mm fa fb fc l ra rb rc rows) => iorderHas_any a g 0 c mm fa fb 0 fc l ra rb 0 rc rows k p q W hl3 hls hl1 hl2 hrs hb.ss hb.f hb.o
    have CO := fun (W : World) (hb : BxW w W w1.heap.size (w1.heap.size + 1) a g c mm fa fb fc l ra rb rc rows) => iexecOk_any a g 0 c mm fa fb 0 fc l ra rb 0 rc rows W hl3 hls hl1 hl2 hrs hb.ss hb.f hb.o
    have CS := fun (W : World) (hb : BxW w W w1.heap.size (w1.heap.size + 1) a g c mm fa fb fc l ra rb rc rows) => sexecOk_any a g 0 c mm fa fb 0 fc l ra rb 0 rc rows W hl3 hls hl1 hrs hb.ss hb.f hb.o
    go_wp2_with fail
    generalize (w1.alloc (.cells #[.slice a mm.length c] 25)).alloc (.cells #[.slice fa l.length fc, .slice ra rows.length rc] 29) = W0 at *
    obtain ⟨X, hXe⟩ : ∃ X, w1.heap.size + 1 = X := ⟨_, rfl⟩
    rw [hXe] at bx0 ⊢
    rw [hXe] at CI CO CS
    generalize w1.heap.size = P at *
    clear hsn hb1 hf1 ho1
    have hp0 := bx0.p.c
    have hx0 := bx0.x.c0
    have hx1 := bx0.x.c1
    have KP := BelowOf.cell hp0
    have K0 := BelowOf.cell hx0
    have K1 := BelowOf.cell hx1
    have C1 := fun q : BelowOf W0 => CO q.x (bx0.below q.h)
    have C2 := fun q : BelowOf W0 => CS q.x (bx0.below q.h)
    haveI : Inhabited (BelowOf W0) := ⟨belOf W0⟩
    cases hE : M.execOk mm l rows
    · rw [hE] at C1 C2
      refine wp_region_quiet_bel (by kernel_rfl) (by kernel_rfl) ?_
      repeat (quiet_step (first | (go_at_call 10; exact Calls.bel_of (C1 _)) | (go_at_call 11; exact Calls.bel_of (C2 _))))
      refine wpQuiet_nil ?_
      rintro W1 ⟨⟨_, b1⟩, rfl⟩
      have bx1 := bx0.below b1
      have p1 := bx1.p.c
      have x10 := bx1.x.c0
      have x11 := bx1.x.c1
      have KP' := BelowOf.cell p1
      have K0' := BelowOf.cell x10
      have K1' := BelowOf.cell x11
      have C1' := fun q : BelowOf W1 => CO q.x (bx1.below q.h)
      have C2' := fun q : BelowOf W1 => CS q.x (bx1.below q.h)
      rw [hE] at C1' C2'
      haveI : Inhabited (BelowOf W1) := ⟨belOf W1⟩
      clear KP K0 K1 C1 C2
      go_wp2_with fail
      refine wp_region_quiet_bel (by kernel_rfl) (by kernel_rfl) ?_
      repeat (quiet_step (first | (go_at_call 10; exact Calls.bel_of (C1' _)) | (go_at_call 11; exact Calls.bel_of (C2' _))))
      refine wpQuiet_nil ?_
      rintro W2 ⟨⟨_, b2⟩, rfl⟩
      have bx2 := bx1.below b2
      go_wp2_with fail
      go_ret
      exact ⟨rfl, bx2.bel⟩
    · rw [hE] at C1 C2
      refine wp_region_quiet_bel (by kernel_rfl) (by kernel_rfl) ?_
      repeat (quiet_step (first | (go_at_call 10; exact Calls.bel_of (C1 _)) | (go_at_call 11; exact Calls.bel_of (C2 _))))
      refine wpQuiet_nil ?_
      rintro W1 ⟨⟨_, b1⟩, rfl⟩
      have bx1 := bx0.below b1
      have p1 := bx1.p.c
      have hpg : M.prog mm = true := by
        simp only [M.execOk, Bool.and_eq_true] at hE
        exact hE.1
      have HEv : Hid (M.evAll mm = (M.deeds mm).map M.De.ev) := by show _ = _; simp [M.evAll, hpg, M.events]
      clear KP K0 K1 C1 C2 CO CS hp0 hx0 hx1 bx0
      go_wp2_with fail
      refine (iexecEvents_any a g 0 c mm W1 hl3 hls bx1.ss).mono ?_
      rintro e W2 ⟨v2, rfl, hown2, b2⟩
      obtain ⟨va, gv, cv, rfl, hev, -, -⟩ := own_rs M.Ev.len hown2
      rw [HEv.out] at hev
      have hdv := DvS.of hev
      have hle : (M.evAll mm).length = (M.deeds mm).length := by rw [HEv.out, List.length_map]
      rw [hle]
      have bx2 := bx1.below b2
      have hof := M.ofEv (ll := mm)
      have hOwn := fun (a b : Nat) (hab : a < b) (hb : b < (M.deeds mm).length) => M.has_own hE hab hb
      obtain ⟨h3', h7'⟩ := M.prog_bounds hpg
      have hdl := M.deeds_len h3' h7'
      clear hown2 hev hle HEv b2 p1 bx1 h3' h7'
      go_wp2_with fail
      go_loopw [6] (fun s6 wr => ∃ n : Nat, s6 = .int .i64 n ∧ n ≤ (M.deeds mm).length ∧ Below W2.heap.size W2 wr) (fun s6 _ => (M.deeds mm).length - (intOf s6).toNat)
      case atStart => exact ⟨0, rfl, by omega, Below.refl _ _⟩
      case round =>
        obtain ⟨n, rfl, hn, hbr⟩ := hrel
        by_cases hlt : n < (M.deeds mm).length
        · have i1 : (n : Int) < (M.deeds mm).length := by omega
          go_wp2_with fail
          go_loopw [7] (fun s7 wr => ∃ m : Nat, s7 = .int .i64 m ∧ n < m ∧ m ≤ (M.deeds mm).length ∧ Below W2.heap.size W2 wr) (fun s7 _ => (M.deeds mm).length - (intOf s7).toNat)
          case atStart => exact ⟨n + 1, by go_num, by omega, by omega, hbr⟩
          case round =>
            clear hbr
            obtain ⟨m, rfl, hnm, hm, hbr⟩ := hrel
            by_cases hlt2 : m < (M.deeds mm).length
            · have i2 : (m : Int) < (M.deeds mm).length := by omega
              have bxr := bx2.below hbr
              have hdr := hdv.bel hbr (Nat.le_refl _)
              obtain ⟨e0, e1, e2⟩ := DvS.at hdr hlt
              obtain ⟨g0, g1, g2⟩ := DvS.at hdr hlt2
              obtain ⟨rfl⟩ := hdr.addr (by omega)
              have hox := hof _ (List.getElem_mem hlt)
              have hoy := hof _ (List.getElem_mem hlt2)
              have hOw := hOwn n m hnm hlt2
              generalize (M.deeds mm)[n] = x at *
              generalize (M.deeds mm)[m] = y at *
              clear hOwn
              by_cases htt : x.t = y.t
              · have bt : ((x.t : Int) != (y.t : Int)) = false := by simp [htt]
                obtain ⟨hO1, hO2⟩ := hOw htt
                clear htt hOw
                go_wp2_with fail
                go_quiet (fail)
                have hdq : Below wr.heap.size wr (wr.drewN nq) := ⟨rfl, rfl, rfl, Nat.le_refl _, fun _ _ => rfl⟩
                have hbk : Below W2.heap.size W2 (wr.drewN nq) := hbr.trans (hdq.mono hbr.size)
                have kk := Keeps.of hdq
                have e0' := kk _ _ e0
                have e1' := kk _ _ e1
                have e2' := kk _ _ e2
                have g0' := kk _ _ g0
                have g1' := kk _ _ g1
                have g2' := kk _ _ g2
                have bxk := bxr.below hdq
                clear e0 e1 e2 g0 g1 g2 kk hdq bxr hdr bt
                generalize wr.drewN nq = wk at *
                have KP := BelowOf.cell bxk.p.c
                have Ke0 := BelowOf.cell e0'
                have Ke1 := BelowOf.cell e1'
                have Ke2 := BelowOf.cell e2'
                have CK := fun q : BelowOf wk => lpKind_any a g 0 c mm x q.x hox hl3 hls (bxk.below q.h).ss
                haveI : Inhabited (BelowOf wk) := ⟨belOf wk⟩
                go_wp2_with fail
                refine wp_region_quiet_bel (by kernel_rfl) (by kernel_rfl) ?_
                repeat (quiet_step (first | (go_at_call 13; exact Calls.bel_of (CK _))))
                refine wpQuiet_nil ?_
                rintro wa ⟨⟨_, hwa⟩, rfl⟩
                have ka := Keeps.of hwa
                have g0a := ka _ _ g0'
                have g1a := ka _ _ g1'
                have g2a := ka _ _ g2'
                have bxa := bxk.below hwa
                have hba : Below W2.heap.size W2 wa := hbk.trans (hwa.mono hbk.size)
                clear KP Ke0 Ke1 Ke2 CK ka g0' g1' g2' e0' e1' e2' bxk hbk
                have KP := BelowOf.cell bxa.p.c
                have Ke0 := BelowOf.cell g0a
                have Ke1 := BelowOf.cell g1a
                have Ke2 := BelowOf.cell g2a
                have CK := fun q : BelowOf wa => lpKind_any a g 0 c mm y q.x hoy hl3 hls (bxa.below q.h).ss
                haveI : Inhabited (BelowOf wa) := ⟨belOf wa⟩
                go_wp2_with fail
                refine wp_region_quiet_bel (by kernel_rfl) (by kernel_rfl) ?_
                repeat (quiet_step (first | (go_at_call 13; exact Calls.bel_of (CK _))))
                refine wpQuiet_nil ?_
                rintro wb ⟨⟨_, hwb⟩, rfl⟩
                have bxb := bxa.below hwb
                have hbb : Below W2.heap.size W2 wb := hba.trans (hwb.mono hba.size)
                clear KP Ke0 Ke1 Ke2 CK g0a g1a g2a bxa hba hwb hwa hox hoy
                have pb := bxb.p.c
                have xb0 := bxb.x.c0
                have xb1 := bxb.x.c1
                have D1 := CI wb 1 n m bxb
                rw [hO1] at D1
                have hwr : M.writes x.d.k = (x.d.k == 1 || x.d.k == 6 || x.d.k == 3) := rfl
                have hrd : M.reads y.d.k = (y.d.k == 2 || y.d.k == 5) := rfl
                rw [hwr, hrd] at hO2
                clear hwr hrd hO1
                generalize x.d.k = kx at *
                generalize y.d.k = ky at *
                by_cases x1 : kx = 1
                · have d1 : (kx == 1) = true := by simp [x1]
                  clear x1
                  by_cases y2 : ky = 2
                  · have c2 : (ky == 2) = true := by simp [y2]
                    go_wp2_with fail
                    refine D1.mono ?_
                    rintro e wc ⟨rfl, bc⟩
                    have bxc := bxb.below bc
                    have hbc : Below W2.heap.size W2 wc := hbb.trans (bc.mono hbb.size)
                    clear D1 pb xb0 xb1 hO2
                    go_wp2_with fail
                    go_roundw
                    case rel =>
                      first
                      | exact ⟨m + 1, by go_num, by omega, by omega, hbc⟩
                      | ((repeat apply Exists.intro); exact ⟨⟨m + 1, by go_num, by omega, by omega, hbc⟩, rfl⟩)
                    case measure => (simp [intOf]; omega)
                  · have c2 : (ky == 2) = false := by simp [y2]
                    by_cases y5 : ky = 5
                    · have c5 : (ky == 5) = true := by simp [y5]
                      go_wp2_with fail
                      refine D1.mono ?_
                      rintro e wc ⟨rfl, bc⟩
                      have bxc := bxb.below bc
                      have hbc : Below W2.heap.size W2 wc := hbb.trans (bc.mono hbb.size)
                      clear D1 pb xb0 xb1 hO2
                      go_wp2_with fail
                      go_roundw
                      case rel =>
                        first
                        | exact ⟨m + 1, by go_num, by omega, by omega, hbc⟩
                        | ((repeat apply Exists.intro); exact ⟨⟨m + 1, by go_num, by omega, by omega, hbc⟩, rfl⟩)
                      case measure => (simp [intOf]; omega)
                    · have c5 : (ky == 5) = false := by simp [y5]
                      go_wp2_with fail
                      refine D1.mono ?_
                      rintro e wc ⟨rfl, bc⟩
                      have bxc := bxb.below bc
                      have hbc : Below W2.heap.size W2 wc := hbb.trans (bc.mono hbb.size)
                      have pc := bxc.p.c
                      have xc0 := bxc.x.c0
                      have xc1 := bxc.x.c1
                      have D2 := CI wc 2 n m bxc
                      rw [hO2 (by simp [d1, c2, c5])] at D2
                      clear D1 pb xb0 xb1 hO2
                      go_wp2_with fail
                      refine D2.mono ?_
                      rintro e wd ⟨rfl, bd⟩
                      have hbd : Below W2.heap.size W2 wd := hbc.trans (bd.mono hbc.size)
                      go_wp2_with fail
                      go_roundw
                      case rel =>
                        first
                        | exact ⟨m + 1, by go_num, by omega, by omega, hbd⟩
                        | ((repeat apply Exists.intro); exact ⟨⟨m + 1, by go_num, by omega, by omega, hbd⟩, rfl⟩)
                      case measure => (simp [intOf]; omega)
                · have d1 : (kx == 1) = false := by simp [x1]
                  by_cases x3 : kx = 3
                  · have d3 : (kx == 3) = true := by simp [x3]
                    clear x1 x3
                    by_cases y2 : ky = 2
                    · have c2 : (ky == 2) = true := by simp [y2]
                      go_wp2_with fail
                      refine D1.mono ?_
                      rintro e wc ⟨rfl, bc⟩
                      have bxc := bxb.below bc
                      have hbc : Below W2.heap.size W2 wc := hbb.trans (bc.mono hbb.size)
                      clear D1 pb xb0 xb1 hO2
                      go_wp2_with fail
                      go_roundw
                      case rel =>
                        first
                        | exact ⟨m + 1, by go_num, by omega, by omega, hbc⟩
                        | ((repeat apply Exists.intro); exact ⟨⟨m + 1, by go_num, by omega, by omega, hbc⟩, rfl⟩)
                      case measure => (simp [intOf]; omega)
                    · have c2 : (ky == 2) = false := by simp [y2]
                      by_cases y5 : ky = 5
                      · have c5 : (ky == 5) = true := by simp [y5]
                        go_wp2_with fail
                        refine D1.mono ?_
                        rintro e wc ⟨rfl, bc⟩
                        have bxc := bxb.below bc
                        have hbc : Below W2.heap.size W2 wc := hbb.trans (bc.mono hbb.size)
                        clear D1 pb xb0 xb1 hO2
                        go_wp2_with fail
                        go_roundw
                        case rel =>
                          first
                          | exact ⟨m + 1, by go_num, by omega, by omega, hbc⟩
                          | ((repeat apply Exists.intro); exact ⟨⟨m + 1, by go_num, by omega, by omega, hbc⟩, rfl⟩)
                        case measure => (simp [intOf]; omega)
                      · have c5 : (ky == 5) = false := by simp [y5]
                        go_wp2_with fail
                        refine D1.mono ?_
                        rintro e wc ⟨rfl, bc⟩
                        have bxc := bxb.below bc
                        have hbc : Below W2.heap.size W2 wc := hbb.trans (bc.mono hbb.size)
                        have pc := bxc.p.c
                        have xc0 := bxc.x.c0
                        have xc1 := bxc.x.c1
                        have D2 := CI wc 2 n m bxc
                        rw [hO2 (by simp [d1, d3, c2, c5])] at D2
                        clear D1 pb xb0 xb1 hO2
                        go_wp2_with fail
                        refine D2.mono ?_
                        rintro e wd ⟨rfl, bd⟩
                        have hbd : Below W2.heap.size W2 wd := hbc.trans (bd.mono hbc.size)
                        go_wp2_with fail
                        go_roundw
                        case rel =>
                          first
                          | exact ⟨m + 1, by go_num, by omega, by omega, hbd⟩
                          | ((repeat apply Exists.intro); exact ⟨⟨m + 1, by go_num, by omega, by omega, hbd⟩, rfl⟩)
                        case measure => (simp [intOf]; omega)
                  · have d3 : (kx == 3) = false := by simp [x3]
                    by_cases x6 : kx = 6
                    · have d6 : (kx == 6) = true := by simp [x6]
                      clear x1 x3 x6
                      by_cases y2 : ky = 2
                      · have c2 : (ky == 2) = true := by simp [y2]
                        go_wp2_with fail
                        refine D1.mono ?_
                        rintro e wc ⟨rfl, bc⟩
                        have bxc := bxb.below bc
                        have hbc : Below W2.heap.size W2 wc := hbb.trans (bc.mono hbb.size)
                        clear D1 pb xb0 xb1 hO2
                        go_wp2_with fail
                        go_roundw
                        case rel =>
                          first
                          | exact ⟨m + 1, by go_num, by omega, by omega, hbc⟩
                          | ((repeat apply Exists.intro); exact ⟨⟨m + 1, by go_num, by omega, by omega, hbc⟩, rfl⟩)
                        case measure => (simp [intOf]; omega)
                      · have c2 : (ky == 2) = false := by simp [y2]
                        by_cases y5 : ky = 5
                        · have c5 : (ky == 5) = true := by simp [y5]
                          go_wp2_with fail
                          refine D1.mono ?_
                          rintro e wc ⟨rfl, bc⟩
                          have bxc := bxb.below bc
                          have hbc : Below W2.heap.size W2 wc := hbb.trans (bc.mono hbb.size)
                          clear D1 pb xb0 xb1 hO2
                          go_wp2_with fail
                          go_roundw
                          case rel =>
                            first
                            | exact ⟨m + 1, by go_num, by omega, by omega, hbc⟩
                            | ((repeat apply Exists.intro); exact ⟨⟨m + 1, by go_num, by omega, by omega, hbc⟩, rfl⟩)
                          case measure => (simp [intOf]; omega)
                        · have c5 : (ky == 5) = false := by simp [y5]
                          go_wp2_with fail
                          refine D1.mono ?_
                          rintro e wc ⟨rfl, bc⟩
                          have bxc := bxb.below bc
                          have hbc : Below W2.heap.size W2 wc := hbb.trans (bc.mono hbb.size)
                          have pc := bxc.p.c
                          have xc0 := bxc.x.c0
                          have xc1 := bxc.x.c1
                          have D2 := CI wc 2 n m bxc
                          rw [hO2 (by simp [d1, d3, d6, c2, c5])] at D2
                          clear D1 pb xb0 xb1 hO2
                          go_wp2_with fail
                          refine D2.mono ?_
                          rintro e wd ⟨rfl, bd⟩
                          have hbd : Below W2.heap.size W2 wd := hbc.trans (bd.mono hbc.size)
                          go_wp2_with fail
                          go_roundw
                          case rel =>
                            first
                            | exact ⟨m + 1, by go_num, by omega, by omega, hbd⟩
                            | ((repeat apply Exists.intro); exact ⟨⟨m + 1, by go_num, by omega, by omega, hbd⟩, rfl⟩)
                          case measure => (simp [intOf]; omega)
                    · have d6 : (kx == 6) = false := by simp [x6]
                      clear x1 x3 x6
                      by_cases y2 : ky = 2
                      · have c2 : (ky == 2) = true := by simp [y2]
                        go_wp2_with fail
                        refine D1.mono ?_
                        rintro e wc ⟨rfl, bc⟩
                        have bxc := bxb.below bc
                        have hbc : Below W2.heap.size W2 wc := hbb.trans (bc.mono hbb.size)
                        have pc := bxc.p.c
                        have xc0 := bxc.x.c0
                        have xc1 := bxc.x.c1
                        have D2 := CI wc 2 n m bxc
                        rw [hO2 (by simp [d1, d3, d6, c2])] at D2
                        clear D1 pb xb0 xb1 hO2
                        go_wp2_with fail
                        refine D2.mono ?_
                        rintro e wd ⟨rfl, bd⟩
                        have hbd : Below W2.heap.size W2 wd := hbc.trans (bd.mono hbc.size)
                        go_wp2_with fail
                        go_roundw
                        case rel =>
                          first
                          | exact ⟨m + 1, by go_num, by omega, by omega, hbd⟩
                          | ((repeat apply Exists.intro); exact ⟨⟨m + 1, by go_num, by omega, by omega, hbd⟩, rfl⟩)
                        case measure => (simp [intOf]; omega)
                      · have c2 : (ky == 2) = false := by simp [y2]
                        by_cases y5 : ky = 5
                        · have c5 : (ky == 5) = true := by simp [y5]
                          go_wp2_with fail
                          refine D1.mono ?_
                          rintro e wc ⟨rfl, bc⟩
                          have bxc := bxb.below bc
                          have hbc : Below W2.heap.size W2 wc := hbb.trans (bc.mono hbb.size)
                          have pc := bxc.p.c
                          have xc0 := bxc.x.c0
                          have xc1 := bxc.x.c1
                          have D2 := CI wc 2 n m bxc
                          rw [hO2 (by simp [d1, d3, d6, c2, c5])] at D2
                          clear D1 pb xb0 xb1 hO2
                          go_wp2_with fail
                          refine D2.mono ?_
                          rintro e wd ⟨rfl, bd⟩
                          have hbd : Below W2.heap.size W2 wd := hbc.trans (bd.mono hbc.size)
                          go_wp2_with fail
                          go_roundw
                          case rel =>
                            first
                            | exact ⟨m + 1, by go_num, by omega, by omega, hbd⟩
                            | ((repeat apply Exists.intro); exact ⟨⟨m + 1, by go_num, by omega, by omega, hbd⟩, rfl⟩)
                          case measure => (simp [intOf]; omega)
                        · have c5 : (ky == 5) = false := by simp [y5]
                          go_wp2_with fail
                          refine D1.mono ?_
                          rintro e wc ⟨rfl, bc⟩
                          have bxc := bxb.below bc
                          have hbc : Below W2.heap.size W2 wc := hbb.trans (bc.mono hbb.size)
                          have pc := bxc.p.c
                          have xc0 := bxc.x.c0
                          have xc1 := bxc.x.c1
                          have D2 := CI wc 2 n m bxc
                          rw [hO2 (by simp [d1, d3, d6, c2, c5])] at D2
                          clear D1 pb xb0 xb1 hO2
                          go_wp2_with fail
                          refine D2.mono ?_
                          rintro e wd ⟨rfl, bd⟩
                          have hbd : Below W2.heap.size W2 wd := hbc.trans (bd.mono hbc.size)
                          go_wp2_with fail
                          go_roundw
                          case rel =>
                            first
                            | exact ⟨m + 1, by go_num, by omega, by omega, hbd⟩
                            | ((repeat apply Exists.intro); exact ⟨⟨m + 1, by go_num, by omega, by omega, hbd⟩, rfl⟩)
                          case measure => (simp [intOf]; omega)
              · have bt : ((x.t : Int) != (y.t : Int)) = true := by simp; omega
                clear hOw
                go_wp2_with fail
                go_quiet (fail)
                go_wp2_with fail
                go_roundw
                case rel =>
                  first
                  | exact ⟨m + 1, by go_num, by omega, by omega, hbr.trans ⟨rfl, rfl, rfl, Nat.le_refl _, fun _ _ => rfl⟩⟩
                  | ((repeat apply Exists.intro); exact ⟨⟨m + 1, by go_num, by omega, by omega, hbr.trans ⟨rfl, rfl, rfl, Nat.le_refl _, fun _ _ => rfl⟩⟩, rfl⟩)
                case measure => (simp [intOf]; omega)
            · go_wp2_with fail
              exact ⟨⟨n + 1, by go_num, by omega, hbr⟩, by simp [intOf]; omega⟩
        · go_wp2_with fail
          go_ret
          exact ⟨rfl, (bx2.below hbr).bel⟩
  · have hLb' : (1048576 : Int) < L := by omega
    go_enter Try.func4, Try.ntmps4
    go_wp2_with fail
    go_ret
    exact ⟨rfl, Below.refl _ _⟩
end Go.Proofs.Ytdlpdiioggiehaa
