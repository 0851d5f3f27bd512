/- The law FnExecFrom, walked: it answers true, and leaves all as it was. Of whatever code. -/
import Derived.Test.YtdpnnghomfaleaaBnYc
import Derived.Test.YtdpnnghomfaleaaExEv
import Derived.Test.YtdpnnghomfaleaaLpRdB
namespace Go.Proofs.Ytdpnnghomfaleaa
open Go.RowKit

theorem M.same_of {a b c d : List Int} (h1 : a = c) (h2 : b = d) : M.sameS a b c d = true := by
  subst h1; subst h2
  rw [M.sameS_eq, M.cmpS_self]
  rfl
namespace M
theorem from_get {ds : List De} : ∀ (xs : List De) (l : List Int), fromAt ds xs l = true → ∀ (n : Nat) (h : n < xs.length) (h' : n < l.length), mayTell ds xs[n] l[n] = true
  | x :: xs, f :: fs, h, 0, _, _ => by
    simp only [fromAt, Bool.and_eq_true] at h
    exact h.1
  | x :: xs, f :: fs, h, n + 1, h1, h2 => by
    simp only [fromAt, Bool.and_eq_true] at h
    exact from_get xs fs h.2 n (by simpa using h1) (by simpa using h2)
/-- What is known of who wrote what an event read. -/
structure FromAt (ds : List De) (l : List Int) (n : Nat) (x : De) (f v : Int) : Prop where
  no : x.reads = false → f = -2
  yes : x.reads = true → f ≠ -2
  nought : f = -1 → v = 0
  by_ : x.reads = true → 0 ≤ f → ∃ q, ∃ hq : q < ds.length, f = (q : Int) ∧ ds[q].d.p = x.d.p ∧ (ds[q].d.k ≠ 3 → ds[q].d.v = v)
  low : f < 0 ∨ x.reads = true
theorem from_at {ll : List (List D)} {l : List Int} {rows : List (List Int)} (h : execOk ll l rows = true) {n : Nat} (hn : n < (deeds ll).length) (hl : n < l.length) : FromAt (deeds ll) l n (deeds ll)[n] l[n] (if (deeds ll)[n].reads then vl (deeds ll) l n else 0) := by
  have W := way_of h
  simp only [execOk, wayOk, Bool.and_eq_true] at h
  obtain ⟨_, hf, _⟩ := h
  simp only [fromOk, Bool.and_eq_true, decide_eq_true_eq] at hf
  have hm := from_get _ _ hf.2 n hn hl
  unfold mayTell at hm
  cases hr : (deeds ll)[n].reads
  · rw [hr] at hm
    have e : l[n] = -2 := by simpa using hm
    refine ⟨fun _ => e, fun h => (by rw [hr] at h; cases h), fun h => (by omega), fun h => (by rw [hr] at h; cases h), .inl (by omega)⟩
  · rw [hr] at hm
    simp only [if_true, Bool.or_eq_true, beq_iff_eq, Bool.and_eq_true, decide_eq_true_eq] at hm
    have hv : vl (deeds ll) l n = val (deeds ll) l (2 * (deeds ll).length + 1) l[n] := by
      unfold vl
      rw [show 2 * (deeds ll).length + 2 = (2 * (deeds ll).length + 1) + 1 from rfl, val_at _ l _ n hn hl, hr, if_pos rfl]
    refine ⟨fun h => (by rw [hr] at h; cases h), fun _ => (by omega), fun e => ?_, fun _ h0 => ?_, .inr hr⟩
    · rw [if_pos rfl, hv, e, val_neg _ _ _ (by omega)]
    · rcases hm with hm | ⟨_, h1, h2⟩
      · omega
      · obtain ⟨q, hq⟩ := Int.eq_ofNat_of_zero_le h0
        have hql : q < (deeds ll).length := by omega
        rw [hq, Int.toNat_natCast, List.getElem?_eq_getElem hql] at h2
        simp only [De.to, Bool.and_eq_true, beq_iff_eq] at h2
        refine ⟨q, hql, hq, h2.2, fun h3 => ?_⟩
        have hqr : (deeds ll)[q].reads = false := by
          cases hqr : (deeds ll)[q].reads
          · rfl
          · exfalso
            simp only [De.reads, reads, Bool.or_eq_true, beq_iff_eq] at hqr
            have hw := h2.1
            rcases hqr with e | e <;> rw [e] at hw <;> exact absurd hw (by decide)
        rw [if_pos rfl, hv, hq, show 2 * (deeds ll).length + 1 = (2 * (deeds ll).length) + 1 from rfl, val_at _ l _ q hql (by rw [hf.1]; exact hql), hqr]
        simp [h3]
/-- What the read sees is among what is seen. -/
theorem seen_at {ds : List De} {l : List Int} {n : Nat} (hn : n < ds.length) (hr : ds[n].reads = true) : (seenR ds l)[rdN (ds.take n)]? = some (vl ds l n) := by
  have := rdAt_get ds l ds 0 n hn hr
  rwa [Nat.zero_add] at this
end M

set_option maxHeartbeats 2000000 in
set_option maxRecDepth 100000 in
theorem lawFromX_any (ca : Option Addr) (cb co L C : Nat) (x : Nat → Int) (w : World) (hL : L ≤ C) (had : 0 < L → ca = some ⟨cb, co, none⟩) (hc : ∀ i, i < L → w.cell? ⟨cb, co + i, none⟩ = some (.int .u8 (x i)) ∧ 0 ≤ x i ∧ x i ≤ 255) :
    Calls Try.prog 6 #[.slice ca L C] w fun e w' => e = .returned (.bool true) ∧ Below w.heap.size w w' := by
  by_cases hLb : L ≤ 1048576
  · go_enter Try.func6, Try.ntmps6
    go_wp2_with fail
    refine (DrawExecSeen_any ca cb co L C x _ hL had hc hLb).mono ?_
    rintro e w1 ⟨v, rfl, ⟨a, g, c, mm, fv, ov, l, rows, rfl, hsn, hsm, hwy, h1, h2, h3⟩, hb1⟩
    obtain ⟨fa, fb, fc, ra, rb, rc, rfl, rfl, hf1, ho1⟩ := hwy.ss
    have h2' : Hid (rows.length = 3) := h2
    have hl3 : mm.length ≤ 1048576 := by have := hsm.three; omega
    have hls : ∀ t ∈ mm, t.length ≤ 1048576 := fun t ht => by have := hsm.steps t ht; omega
    have hl1 : l.length ≤ 1048576 := by omega
    have hl2 : rows.length ≤ 1048576 := by omega
    have hrs : ∀ r ∈ rows, r.length ≤ 1048576 := fun r hr => by have := h3 r hr; omega
    clear had hc h2 hwy
    go_wp2_with fail
    have bx0 := BxW.new (c := c) (fc := fc) (rc := rc) hb1 hsn.ss hf1 ho1
    generalize (w1.alloc (.cells #[.slice a mm.length c] 34)).alloc (.cells #[.slice fa l.length fc, .slice ra rows.length rc] 36) = W0 at *
    obtain ⟨X, hXe⟩ : ∃ X, w1.heap.size + 1 = X := ⟨_, rfl⟩
    rw [hXe] at bx0 ⊢
    generalize w1.heap.size = P at *
    clear hsn hb1 hf1 ho1
    refine (sexecSeen_any a g 0 c mm fa fb 0 fc l ra rb 0 rc rows W0 hl3 hls hl1 hrs bx0.ss bx0.f bx0.o).mono ?_
    rintro e W1 ⟨t, rfl, ht1', ht2', htA, -, -, b1⟩
    have ht1 : Hid (t.l1 = _) := ht1'
    have ht2 : Hid (t.l2 = _) := ht2'
    clear ht1' ht2'
    have bx1 := bx0.below b1
    have p1 := bx1.p.c
    have x10 := bx1.x.c0
    have x11 := bx1.x.c1
    have hal1 := below1 W1 (.cells #[.slice t.a1 t.l1.length t.c1, .slice t.a2 t.l2.length t.c2] 42)
    have bx2 := bx1.below hal1
    have vT := BxX.new W1 (.slice t.a1 t.l1.length t.c1) (.slice t.a2 t.l2.length t.c2) 42
    have htA2 := htA.below hal1 (Nat.le_refl _)
    have q1 := bx2.p.c
    have q20 := bx2.x.c0
    have q21 := bx2.x.c1
    clear b1 bx0
    go_wp2_with fail
    generalize W1.alloc (.cells #[.slice t.a1 t.l1.length t.c1, .slice t.a2 t.l2.length t.c2] 42) = W2 at *
    generalize W1.heap.size = V at *
    refine (iexecSeen_any a g 0 c mm fa fb 0 fc l ra rb 0 rc rows W2 hl3 hls hl1 hl2 hrs bx2.ss bx2.f bx2.o).mono ?_
    rintro e W3 ⟨s, rfl, hs1', hs2', hsN, b3⟩
    have hs1 : Hid (s.l1 = _) := hs1'
    have hs2 : Hid (s.l2 = _) := hs2'
    have hsA := hsN.at_
    have bx3 := bx2.below b3
    have htA3 := htA2.below b3 (Nat.le_refl _)
    have vT3 := vT.of (b3.block V vT.lt)
    have hal3 := below1 W3 (.cells #[.slice s.a1 s.l1.length s.c1, .slice s.a2 s.l2.length s.c2] 42)
    have bx4 := bx3.below hal3
    have vT4 := vT3.of (hal3.block V vT3.lt)
    have vS4 := BxX.new W3 (.slice s.a1 s.l1.length s.c1) (.slice s.a2 s.l2.length s.c2) 42
    have hsA4 := hsA.below hal3 (Nat.le_refl _)
    have htA4 := htA3.below hal3 (Nat.le_refl _)
    have hsLe : s.Le 1048576 := by
      obtain ⟨e1, e2⟩ := M.execSeen_le (ll := mm) (l := l) hl2
      exact ⟨by rw [hs1']; exact e1, by rw [hs2']; exact e2⟩
    have hs1e : M.execOk mm l rows = true → Hid (s.l1 = M.seenR (M.deeds mm) l) := fun h => by show _ = _; rw [hs1', M.execSeen, if_pos h]
    have hsame2 : M.sameS s.l1 s.l2 t.l1 t.l2 = true := M.same_of (hs1.out.trans ht1.out.symm) (hs2.out.trans ht2.out.symm)
    have hsame : M.sameS s.l1 s.l2 t.l1 t.l2 = true := M.same_of (hs1.out.trans ht1.out.symm) (hs2.out.trans ht2.out.symm)
    clear hs1' hs2' hs1 hs2 ht1 ht2 bx1 bx2 b3 hal1 htA htA2 htA3 hsA hsN vT vT3 p1 x10 x11 q1 q20 q21 bx3
    have s40 := vS4.c0
    have s41 := vS4.c1
    have t40 := vT4.c0
    have t41 := vT4.c1
    have e4 := bx4.p.c
    have e40 := bx4.x.c0
    have e41 := bx4.x.c1
    generalize hW4 : W3.alloc (.cells #[.slice s.a1 s.l1.length s.c1, .slice s.a2 s.l2.length s.c2] 42) = W4 at *
    generalize hU : W3.heap.size = U at *
    have C5 := lpSame_any s t W4 hsLe hsA4 htA4
    rw [hsame] at C5
    have C6 := fun W (hb : BxW w W P X a g c mm fa fb fc l ra rb rc rows) => iexecEvents_any a g 0 c mm W hl3 hls hb.ss
    clear hsame
    cases hE : M.execOk mm l rows
    · go_wp2_with fail
      refine C5.mono ?_
      rintro e W5 ⟨rfl, hg5⟩
      have bx5 := bx4.below hg5.bel
      have vS5 := vS4.of (hg5.bel.block U vS4.lt)
      have vT5 := vT4.of (hg5.bel.block V vT4.lt)
      have s50 := vS5.c0
      have s51 := vS5.c1
      have t50 := vT5.c0
      have t51 := vT5.c1
      have C7 := lpSame_any s t W5 hsLe (hsA4.below hg5.bel (Nat.le_refl _)) (htA4.below hg5.bel (Nat.le_refl _))
      rw [hsame2] at C7
      clear e4 e40 e41 s40 s41 t40 t41 C5 C6 hW4 hU
      go_wp2_with fail
      refine C7.mono ?_
      rintro e W6 ⟨rfl, hg6⟩
      have bx6 := bx5.below hg6.bel
      go_wp2_with fail
      go_ret
      exact ⟨rfl, bx6.bel⟩
    · go_wp2_with fail
      refine C5.mono ?_
      rintro e W5 ⟨rfl, hg5⟩
      have bx5 := bx4.below hg5.bel
      have vS5 := vS4.of (hg5.bel.block U vS4.lt)
      have hsA5 := hsA4.below hg5.bel (Nat.le_refl _)
      have e5 := bx5.p.c
      replace hs1e := hs1e hE
      have HEv : Hid (M.evAll mm = (M.deeds mm).map M.De.ev) := by show _ = _; simp [M.evAll, (M.way_of hE).prog, M.events]
      clear e4 e40 e41 s40 s41 t40 t41 C5 hW4 hU
      go_wp2_with fail
      refine (C6 W5 bx5).mono ?_
      rintro e W6 ⟨v6, rfl, hown6, b6⟩
      obtain ⟨va, gv, cv, rfl, hev, _, _⟩ := own_rs M.Ev.len hown6
      rw [HEv.out] at hev
      have hdv := DvS.of hev
      have hle : (M.evAll mm).length = (M.deeds mm).length := by rw [HEv.out, List.length_map]
      rw [hle]
      have bx6 := bx5.below b6
      have vS6 := vS5.of (b6.block U vS5.lt)
      have hsA6 := hsA5.below b6 (Nat.le_refl _)
      have hof := M.ofEv (ll := mm)
      have hFA := fun (n : Nat) (hn : n < (M.deeds mm).length) (hl : n < l.length) => M.from_at hE hn hl
      have hLL : Hid (l.length = (M.deeds mm).length) := (M.way_of hE).len
      obtain ⟨h3', h7'⟩ := M.prog_bounds (M.way_of hE).prog
      have hdl := M.deeds_len h3' h7'
      have CR := fun (W : World) (i : Nat) (hi : i ≤ (M.deeds mm).length) (hb : BxW w W P X a g c mm fa fb fc l ra rb rc rows) (hd : DvS W va gv (M.deeds mm)) => lpRead_any a g 0 c mm va gv cv i W hl3 hdl hi hb.ss hd
      clear h3' h7'
      clear hown6 hev hle HEv C6 bx4 bx5 vS4 vS5 hsA4 hsA5 vT4 htA4 e5 b6
      go_wp2_with fail
      go_loopw [10] (fun s10 wr => ∃ n : Nat, s10 = .int .i64 n ∧ n ≤ (M.deeds mm).length ∧ Below W6.heap.size W6 wr) (fun s10 _ => (M.deeds mm).length - (intOf s10).toNat)
      case atStart => exact ⟨0, rfl, by omega, Below.refl _ _⟩
      case round =>
        obtain ⟨n, rfl, hn, hbr⟩ := hrel
        have bxr := bx6.below hbr
        have vSr := vS6.of (hbr.block U vS6.lt)
        have hsr := hsA6.below hbr (Nat.le_refl _)
        have hdr := hdv.bel hbr (Nat.le_refl _)
        by_cases hlt : n < (M.deeds mm).length
        · have i1 : (n : Int) < (M.deeds mm).length := by omega
          have hnl : n < l.length := by have := hLL.out; omega
          have i2 : (n : Int) < l.length := by omega
          have xf := bxr.f.row n hnl
          rw [Nat.zero_add] at xf
          obtain ⟨rfl⟩ := bxr.f.addr (by omega)
          have hF := hFA n hlt hnl
          have hsee := fun hr => M.seen_at (l := l) hlt hr
          have x0 := bxr.x.c0
          have s0 := vSr.c0
          generalize l[n] = f at *
          by_cases hf2 : f = -2
          · have b2 : (f == -2) = true := by simp [hf2]
            clear hFA hF hsee
            go_wp2_with fail
            exact ⟨⟨n + 1, by go_num, by omega, hbr⟩, by simp [intOf]; omega⟩
          · have b2 : (f == -2) = false := by simp [hf2]
            have hr : (M.deeds mm)[n].reads = true := by
              cases hr : (M.deeds mm)[n].reads
              · exact absurd (hF.no hr) hf2
              · rfl
            have hse := hsee hr
            rw [if_pos hr] at hF
            rw [← hs1e.out] at hse
            obtain ⟨hrl, hrv⟩ := List.getElem?_eq_some_iff.1 hse
            have y1 := hsr.reads.row _ hrl
            rw [hrv] at y1
            have aL := hsr.reads.addr (by omega)
            rw [aL] at s0
            have C7 := fun q : BelowOf wr => CR q.x n (by omega) (bxr.below q.h) (hdr.bel q.h (Nat.le_refl _))
            generalize M.rdN ((M.deeds mm).take n) = rk at *
            have i3 : (rk : Int) < s.l1.length := by omega
            generalize M.vl (M.deeds mm) l n = v at *
            have hby := hF.by_ hr
            have hno := hF.nought
            clear aL hFA hF hsee hse hrv hf2
            have p0 := bxr.p.c
            have KP := BelowOf.cell p0
            have KS := BelowOf.cell s0
            have KY := BelowOf.cell y1
            haveI : Inhabited (BelowOf wr) := ⟨belOf wr⟩
            go_wp2_with fail
            refine wp_region_quiet_bel (by kernel_rfl) (by kernel_rfl) ?_
            repeat (quiet_step (first | (go_at_call 28; exact Calls.bel_of (C7 _))))
            refine wpQuiet_nil ?_
            rintro wq ⟨⟨_, hwq⟩, rfl⟩
            have bxq := bxr.below hwq
            have hdq := hdr.bel hwq (Nat.le_refl _)
            have hbq : Below W6.heap.size W6 wq := hbr.trans (hwq.mono hbr.size)
            have xq0 := bxq.x.c0
            have xqf := (hwq.cell (p := ⟨fb, n, none⟩) (World.block_lt_of_cell? _ _ xf)).trans xf
            clear KP KS KY C7 p0 s0 y1 x0 xf CR
            by_cases hf0 : f < 0
            · have d0 : decide (f < 0) = true := by simp [hf0]
              by_cases hf1 : f = -1
              · have b1 : (f == -1) = true := by simp [hf1]
                have hv0 := hno hf1
                have b0 : (v != 0) = false := by simp [hv0]
                clear hby hno hf1 hv0
                go_wp2_with fail
                exact ⟨⟨n + 1, by go_num, by omega, hbq⟩, by simp [intOf]; omega⟩
              · have b1 : (f == -1) = false := by simp [hf1]
                clear hby hno hf1
                go_wp2_with fail
                exact ⟨⟨n + 1, by go_num, by omega, hbq⟩, by simp [intOf]; omega⟩
            · have d0 : decide (f < 0) = false := by simp; omega
              have b1 : (f == -1) = false := by rw [beq_eq_false_iff_ne]; omega
              obtain ⟨q, hq, rfl, hpl, hval⟩ := hby (by omega)
              clear hno
              obtain ⟨e0, e1, e2⟩ := DvS.at hdq hq
              obtain ⟨g0, g1, g2⟩ := DvS.at hdq hlt
              obtain ⟨rfl⟩ := hdq.addr (by omega)
              have i6 : (q : Int) < (M.deeds mm).length := by omega
              obtain ⟨ht, hi, ed⟩ := hof _ (List.getElem_mem hq)
              obtain ⟨ht', hi', ed'⟩ := hof _ (List.getElem_mem hlt)
              generalize hyy : (M.deeds mm)[n] = y at *
              generalize hxx : (M.deeds mm)[q] = x at *
              clear hyy hxx hr
              have pr := bxq.p.c
              obtain ⟨ta, tb, to', tc, kt, hTd⟩ := bxq.ss.row x.t ht
              obtain ⟨ta2, tb2, to2, tc2, kt2, hTd2⟩ := bxq.ss.row y.t ht'
              obtain ⟨rfl⟩ := bxq.ss.addr (by omega)
              obtain ⟨rfl⟩ := hTd.addr (by omega)
              obtain ⟨rfl⟩ := hTd2.addr (by omega)
              obtain ⟨d0', d1, d2⟩ := hTd.row x.i hi
              obtain ⟨-, z1, -⟩ := hTd2.row y.i hi'
              rw [ed] at d0' d1 d2
              rw [ed'] at z1
              rw [hpl] at d1
              clear hpl
              have i7 : (x.t : Int) < mm.length := by omega
              have i8 : (x.i : Int) < mm[x.t].length := by omega
              have i7' : (y.t : Int) < mm.length := by omega
              have i8' : (y.i : Int) < mm[y.t].length := by omega
              rw [Nat.zero_add] at kt kt2
              clear ed ed' hTd hTd2
              generalize mm[x.t].length = tl at *
              generalize mm[y.t].length = tl2 at *
              have n0 := World.new_ne wq _ pr
              have n1 := World.new_ne wq _ kt
              have n2 := World.new_ne wq _ d0'
              have n3 := World.new_ne wq _ e0
              have n4 := World.new_ne wq _ xq0
              have n5 := World.new_ne wq _ xqf
              have kk := Keeps.of (below1 wq (.cells #[.int .i64 x.d.k, .int .i64 y.d.p, .int .i64 x.d.v] 58)).drew
              have pr' := kk _ _ pr
              have kt2' := kk _ _ kt2
              have z1' := kk _ _ z1
              have g0' := kk _ _ g0
              have g1' := kk _ _ g1
              go_wp2_with fail
              go_region_held3 (fun z => z.cell? ⟨P, 0, none⟩ = some (.slice (some ⟨g, 0, none⟩) mm.length c) ∧ z.cell? ⟨X, 0, none⟩ = some (.slice (some ⟨fb, 0, none⟩) l.length fc) ∧ z.cell? ⟨fb, n, none⟩ = some (.int .i64 q) ∧ z.cell? ⟨g, x.t, none⟩ = some (.slice (some ⟨tb, to', none⟩) tl tc) ∧ z.cell? ⟨tb, to' + x.i * 3, none⟩ = some (.int .i64 x.d.k) ∧ z.cell? ⟨tb, to' + x.i * 3 + 1, none⟩ = some (.int .i64 y.d.p) ∧ z.cell? ⟨tb, to' + x.i * 3 + 2, none⟩ = some (.int .i64 x.d.v) ∧ z.cell? ⟨gv, q * 3, none⟩ = some (.int .i64 x.t) ∧ z.cell? ⟨gv, q * 3 + 1, none⟩ = some (.int .i64 x.i)) (go_keep) (fail)
              all_goals
                have f0 : (wq.alloc (.cells #[.int .i64 x.d.k, .int .i64 y.d.p, .int .i64 x.d.v] 58)).drew.cell? ⟨wq.heap.size, 0, none⟩ = some (.int .i64 x.d.k) := by simp
                have f1 : (wq.alloc (.cells #[.int .i64 x.d.k, .int .i64 y.d.p, .int .i64 x.d.v] 58)).drew.cell? ⟨wq.heap.size, 1, none⟩ = some (.int .i64 y.d.p) := by simp
                have f2 : (wq.alloc (.cells #[.int .i64 x.d.k, .int .i64 y.d.p, .int .i64 x.d.v] 58)).drew.cell? ⟨wq.heap.size, 2, none⟩ = some (.int .i64 x.d.v) := by simp
                have bD : Below W6.heap.size W6 (wq.alloc (.cells #[.int .i64 x.d.k, .int .i64 y.d.p, .int .i64 x.d.v] 58)).drew := (hbq.alloc hbq.size _).drew
                clear n0 n1 n2 n3 n4 n5 kk pr kt d0' d1 d2 e0 e1 e2 g0 g1 g2 z1 kt2 xq0 xqf
                generalize (wq.alloc (.cells #[.int .i64 x.d.k, .int .i64 y.d.p, .int .i64 x.d.v] 58)).drew = Wd at *
                generalize wq.heap.size = D at *
                have bp : (y.d.p != y.d.p) = false := by simp
                by_cases hk3 : x.d.k = 3
                · have b3 : (x.d.k != 3) = false := by simp [hk3]
                  clear hval
                  go_wp2_with fail
                  go_quiet (fail)
                  go_wp2_with fail
                  go_roundw
                  case rel =>
                    first
                    | exact ⟨n + 1, by go_num, by omega, bD.trans ⟨rfl, rfl, rfl, Nat.le_refl _, fun _ _ => rfl⟩⟩
                    | ((repeat apply Exists.intro); exact ⟨⟨n + 1, by go_num, by omega, bD.trans ⟨rfl, rfl, rfl, Nat.le_refl _, fun _ _ => rfl⟩⟩, rfl⟩)
                  case measure => (simp [intOf]; omega)
                · have b3 : (x.d.k != 3) = true := by simp [hk3]
                  have b4 : (x.d.v != v) = false := by simp [hval hk3]
                  clear hval
                  go_wp2_with fail
                  go_quiet (fail)
                  go_wp2_with fail
                  go_roundw
                  case rel =>
                    first
                    | exact ⟨n + 1, by go_num, by omega, bD.trans ⟨rfl, rfl, rfl, Nat.le_refl _, fun _ _ => rfl⟩⟩
                    | ((repeat apply Exists.intro); exact ⟨⟨n + 1, by go_num, by omega, bD.trans ⟨rfl, rfl, rfl, Nat.le_refl _, fun _ _ => rfl⟩⟩, rfl⟩)
                  case measure => (simp [intOf]; omega)
        · go_wp2_with fail
          go_ret
          exact ⟨rfl, bxr.bel⟩
  · have hLb' : (1048576 : Int) < L := by omega
    go_enter Try.func6, Try.ntmps6
    go_wp2_with fail
    go_ret
    exact ⟨rfl, Below.refl _ _⟩
end Go.Proofs.Ytdpnnghomfaleaa
