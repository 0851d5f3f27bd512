/- The law FnExecLast, walked: it answers true, and leaves all as it was. Of whatever code. -/
import Derived.Test.YtdpnnghomfaleaaBnYc
import Derived.Test.YtdpnnghomfaleaaExEv
namespace Go.Proofs.Ytdpnnghomfaleaa
open Go.RowKit

theorem M.same_of {a b c d : List Int} (h1 : a = c) (h2 : b = d) : M.sameS a b c d = true := by
  subst h1; subst h2
  rw [M.sameS_eq, M.cmpS_self]
  rfl
namespace M
/-- What an event that stores leaves is its own value. -/
theorem vl_store {ds : List De} {l : List Int} {n : Nat} (hn : n < ds.length) (h2 : n < l.length) (hr : ds[n].reads = false) (h3 : ds[n].d.k ≠ 3) : vl ds l n = ds[n].d.v := by
  unfold vl
  rw [show 2 * ds.length + 2 = (2 * ds.length + 1) + 1 from rfl, val_at ds l _ n hn h2, hr]
  simp [h3]
theorem last_wr {ll : List (List D)} {l : List Int} {rows : List (List Int)} (h : execOk ll l rows = true) {p : Nat} (hp : p < rows.length) (h0 : 0 < rows[p].length) :
    ∃ q, ∃ hq : q < (deeds ll).length, rows[p][rows[p].length - 1] = (q : Int) ∧ ((deeds ll)[q].d.k ≠ 3 → (deeds ll)[q].d.v = lastOf (deeds ll) l rows[p]) := by
  have W := way_of h
  simp only [execOk, wayOk, Bool.and_eq_true] at h
  obtain ⟨_, _, ho, _⟩ := h
  simp only [orderOk, Bool.and_eq_true, decide_eq_true_eq] at ho
  have hm := List.getElem_mem (show rows[p].length - 1 < rows[p].length by omega)
  obtain ⟨i, hi, e, hto⟩ := mem_wrs.1 ((isRow_mem (orderAt_get ho.2 p hp) _).1 hm)
  rw [Nat.zero_add] at e
  refine ⟨i, hi, e, fun h3 => ?_⟩
  rw [last_some _ _ h0, e]
  have hw : writes (deeds ll)[i].d.k = true := by
    simp only [De.to, Bool.and_eq_true] at hto
    exact hto.1
  have hr : (deeds ll)[i].reads = false := by
    cases hr : (deeds ll)[i].reads
    · rfl
    · exfalso
      simp only [De.reads, reads, Bool.or_eq_true, beq_iff_eq] at hr
      rcases hr with hr | hr <;> rw [hr] at hw <;> exact absurd hw (by decide)
  exact (vl_store hi (by rw [W.len.out]; exact hi) hr h3).symm
end M

set_option maxHeartbeats 2000000 in
set_option maxRecDepth 100000 in
theorem lawLastX_any (ca : Option Addr) (cb co L C : Nat) (x : Nat → Int) (w : World) (hL : L ≤ C) (had : 0 < L → ca = some ⟨cb, co, none⟩) (hc : ∀ i, i < L → w.cell? ⟨cb, co + i, none⟩ = some (.int .u8 (x i)) ∧ 0 ≤ x i ∧ x i ≤ 255) :
    Calls Try.prog 7 #[.slice ca L C] w fun e w' => e = .returned (.bool true) ∧ Below w.heap.size w w' := by
  by_cases hLb : L ≤ 1048576
  · go_enter Try.func7, Try.ntmps7
    go_wp2_with fail
    refine (DrawExecSeen_any ca cb co L C x _ hL had hc hLb).mono ?_
    rintro e w1 ⟨v, rfl, ⟨a, g, c, mm, fv, ov, l, rows, rfl, hsn, hsm, hwy, h1, h2, h3⟩, hb1⟩
    obtain ⟨fa, fb, fc, ra, rb, rc, rfl, rfl, hf1, ho1⟩ := hwy.ss
    have h2' : Hid (rows.length = 3) := h2
    have hl3 : mm.length ≤ 1048576 := by have := hsm.three; omega
    have hls : ∀ t ∈ mm, t.length ≤ 1048576 := fun t ht => by have := hsm.steps t ht; omega
    have hl1 : l.length ≤ 1048576 := by omega
    have hl2 : rows.length ≤ 1048576 := by omega
    have hrs : ∀ r ∈ rows, r.length ≤ 1048576 := fun r hr => by have := h3 r hr; omega
    clear had hc h2 hwy
    go_wp2_with fail
    have bx0 := BxW.new (c := c) (fc := fc) (rc := rc) hb1 hsn.ss hf1 ho1
    generalize (w1.alloc (.cells #[.slice a mm.length c] 34)).alloc (.cells #[.slice fa l.length fc, .slice ra rows.length rc] 36) = W0 at *
    obtain ⟨X, hXe⟩ : ∃ X, w1.heap.size + 1 = X := ⟨_, rfl⟩
    rw [hXe] at bx0 ⊢
    generalize w1.heap.size = P at *
    clear hsn hb1 hf1 ho1
    refine (sexecSeen_any a g 0 c mm fa fb 0 fc l ra rb 0 rc rows W0 hl3 hls hl1 hrs bx0.ss bx0.f bx0.o).mono ?_
    rintro e W1 ⟨t, rfl, ht1', ht2', htA, -, -, b1⟩
    have ht1 : Hid (t.l1 = _) := ht1'
    have ht2 : Hid (t.l2 = _) := ht2'
    clear ht1' ht2'
    have bx1 := bx0.below b1
    have p1 := bx1.p.c
    have x10 := bx1.x.c0
    have x11 := bx1.x.c1
    have hal1 := below1 W1 (.cells #[.slice t.a1 t.l1.length t.c1, .slice t.a2 t.l2.length t.c2] 42)
    have bx2 := bx1.below hal1
    have vT := BxX.new W1 (.slice t.a1 t.l1.length t.c1) (.slice t.a2 t.l2.length t.c2) 42
    have htA2 := htA.below hal1 (Nat.le_refl _)
    have q1 := bx2.p.c
    have q20 := bx2.x.c0
    have q21 := bx2.x.c1
    clear b1 bx0
    go_wp2_with fail
    generalize W1.alloc (.cells #[.slice t.a1 t.l1.length t.c1, .slice t.a2 t.l2.length t.c2] 42) = W2 at *
    generalize W1.heap.size = V at *
    refine (iexecSeen_any a g 0 c mm fa fb 0 fc l ra rb 0 rc rows W2 hl3 hls hl1 hl2 hrs bx2.ss bx2.f bx2.o).mono ?_
    rintro e W3 ⟨s, rfl, hs1', hs2', hsN, b3⟩
    have hs1 : Hid (s.l1 = _) := hs1'
    have hs2 : Hid (s.l2 = _) := hs2'
    have hsA := hsN.at_
    have bx3 := bx2.below b3
    have htA3 := htA2.below b3 (Nat.le_refl _)
    have vT3 := vT.of (b3.block V vT.lt)
    have hal3 := below1 W3 (.cells #[.slice s.a1 s.l1.length s.c1, .slice s.a2 s.l2.length s.c2] 42)
    have bx4 := bx3.below hal3
    have vT4 := vT3.of (hal3.block V vT3.lt)
    have vS4 := BxX.new W3 (.slice s.a1 s.l1.length s.c1) (.slice s.a2 s.l2.length s.c2) 42
    have hsA4 := hsA.below hal3 (Nat.le_refl _)
    have htA4 := htA3.below hal3 (Nat.le_refl _)
    have hsLe : s.Le 1048576 := by
      obtain ⟨e1, e2⟩ := M.execSeen_le (ll := mm) (l := l) hl2
      exact ⟨by rw [hs1']; exact e1, by rw [hs2']; exact e2⟩
    have hs2len : M.execOk mm l rows = true → Hid (s.l2.length = rows.length) := fun h => by show _ = _; rw [hs2', M.execSeen, if_pos h]; simp [M.seenL]
    have hLst : M.execOk mm l rows = true → ∀ (n : Nat) (hn : n < rows.length) (h : n < s.l2.length), s.l2[n] = M.lastOf (M.deeds mm) l rows[n] := fun h n hn h' => by
      have e : s.l2 = rows.map (M.lastOf (M.deeds mm) l) := by rw [hs2', M.execSeen, if_pos h]; rfl
      simp [e]
    have hsame2 : M.sameS s.l1 s.l2 t.l1 t.l2 = true := M.same_of (hs1.out.trans ht1.out.symm) (hs2.out.trans ht2.out.symm)
    have hsame : M.sameS s.l1 s.l2 t.l1 t.l2 = true := M.same_of (hs1.out.trans ht1.out.symm) (hs2.out.trans ht2.out.symm)
    clear hs1' hs2' hs1 hs2 ht1 ht2 bx1 bx2 b3 hal1 htA htA2 htA3 hsA hsN vT vT3 p1 x10 x11 q1 q20 q21 bx3
    have s40 := vS4.c0
    have s41 := vS4.c1
    have t40 := vT4.c0
    have t41 := vT4.c1
    have e4 := bx4.p.c
    have e40 := bx4.x.c0
    have e41 := bx4.x.c1
    generalize hW4 : W3.alloc (.cells #[.slice s.a1 s.l1.length s.c1, .slice s.a2 s.l2.length s.c2] 42) = W4 at *
    generalize hU : W3.heap.size = U at *
    have C5 := lpSame_any s t W4 hsLe hsA4 htA4
    rw [hsame] at C5
    have C6 := fun W (hb : BxW w W P X a g c mm fa fb fc l ra rb rc rows) => iexecEvents_any a g 0 c mm W hl3 hls hb.ss
    clear hsame
    cases hE : M.execOk mm l rows
    · go_wp2_with fail
      refine C5.mono ?_
      rintro e W5 ⟨rfl, hg5⟩
      have bx5 := bx4.below hg5.bel
      have vS5 := vS4.of (hg5.bel.block U vS4.lt)
      have vT5 := vT4.of (hg5.bel.block V vT4.lt)
      have s50 := vS5.c0
      have s51 := vS5.c1
      have t50 := vT5.c0
      have t51 := vT5.c1
      have C7 := lpSame_any s t W5 hsLe (hsA4.below hg5.bel (Nat.le_refl _)) (htA4.below hg5.bel (Nat.le_refl _))
      rw [hsame2] at C7
      clear e4 e40 e41 s40 s41 t40 t41 C5 C6 hW4 hU
      go_wp2_with fail
      refine C7.mono ?_
      rintro e W6 ⟨rfl, hg6⟩
      have bx6 := bx5.below hg6.bel
      go_wp2_with fail
      go_ret
      exact ⟨rfl, bx6.bel⟩
    · go_wp2_with fail
      refine C5.mono ?_
      rintro e W5 ⟨rfl, hg5⟩
      have bx5 := bx4.below hg5.bel
      have vS5 := vS4.of (hg5.bel.block U vS4.lt)
      have hsA5 := hsA4.below hg5.bel (Nat.le_refl _)
      have e5 := bx5.p.c
      replace hs2len := hs2len hE
      replace hLst := hLst hE
      have HEv : Hid (M.evAll mm = (M.deeds mm).map M.De.ev) := by show _ = _; simp [M.evAll, (M.way_of hE).prog, M.events]
      clear e4 e40 e41 s40 s41 t40 t41 C5 hW4 hU
      go_wp2_with fail
      refine (C6 W5 bx5).mono ?_
      rintro e W6 ⟨v6, rfl, hown6, b6⟩
      obtain ⟨va, gv, cv, rfl, hev, _, _⟩ := own_rs M.Ev.len hown6
      rw [HEv.out] at hev
      have hdv := DvS.of hev
      have hle : (M.evAll mm).length = (M.deeds mm).length := by rw [HEv.out, List.length_map]
      rw [hle]
      have bx6 := bx5.below b6
      have vS6 := vS5.of (b6.block U vS5.lt)
      have hsA6 := hsA5.below b6 (Nat.le_refl _)
      have hof := M.ofEv (ll := mm)
      have hLW := fun (p : Nat) (hp : p < rows.length) => M.last_wr hE hp
      clear hown6 hev hle HEv C6 bx4 bx5 vS4 vS5 hsA4 hsA5 vT4 htA4 e5 b6
      go_wp2_with fail
      go_loopw [10] (fun s10 wr => ∃ n : Nat, s10 = .int .i64 n ∧ n ≤ 3 ∧ Below W6.heap.size W6 wr) (fun s10 _ => 3 - (intOf s10).toNat)
      case atStart => exact ⟨0, rfl, by omega, Below.refl _ _⟩
      case round =>
        obtain ⟨n, rfl, hn, hbr⟩ := hrel
        have bxr := bx6.below hbr
        have vSr := vS6.of (hbr.block U vS6.lt)
        have hsr := hsA6.below hbr (Nat.le_refl _)
        have hdr := hdv.bel hbr (Nat.le_refl _)
        by_cases hlt : n < 3
        · have i1 : (n : Int) < 3 := by omega
          have hnr : n < rows.length := by have := h2'.out; omega
          have i2 : (n : Int) < rows.length := by omega
          obtain ⟨ar, br, or', cr, kr, hIr⟩ := bxr.o.row n hnr
          obtain ⟨rfl⟩ := bxr.o.addr (by omega)
          have hL2 := hLst n hnr
          have hl2n : n < s.l2.length := by rw [hs2len.out]; exact hnr
          have i3 : (n : Int) < s.l2.length := by omega
          have y2 := hsr.last.row n hl2n
          have aL := hsr.last.addr (by omega)
          rw [hL2 hl2n] at y2
          have hLWn := hLW n hnr
          have x0 := bxr.x.c1
          have s1 := vSr.c1
          rw [aL] at s1
          clear aL
          rw [Nat.zero_add] at kr
          have lU := vSr.lt
          rcases Nat.eq_zero_or_pos rows[n].length with hz | hz
          · have hlv : M.lastOf (M.deeds mm) l rows[n] = 0 := by rw [List.length_eq_zero_iff.1 hz, M.last_nil]
            rw [hlv] at y2
            rw [hz] at kr
            clear hLWn hLst hLW hL2 hl2n hlv hIr hz
            go_wp2_with fail
            exact ⟨⟨n + 1, by go_num, by omega, hbr⟩, by simp [intOf]; omega⟩
          · obtain ⟨q, hq, eq', hval⟩ := hLWn hz
            have kq := hIr.row (rows[n].length - 1) (by omega)
            rw [eq'] at kq
            obtain ⟨rfl⟩ := hIr.addr hz
            have hzb : ((rows[n].length : Int) == 0) = false := by rw [beq_eq_false_iff_ne]; omega
            have hzl : rows[n].length ≤ 1048576 := hrs _ (List.getElem_mem hnr)
            have i4 : ((rows[n].length : Int) - 1) < rows[n].length := by omega
            obtain ⟨m, hm⟩ : ∃ m : Nat, (rows[n].length : Int) - 1 = m := ⟨rows[n].length - 1, by omega⟩
            have hm' : rows[n].length - 1 = m := by omega
            rw [hm'] at kq
            have i5 : (m : Int) < rows[n].length := by omega
            have hwm : IntKind.i64.wrap ((rows[n].length : Int) - 1) = m := by rw [IntKind.wrap_i64]; omega
            obtain ⟨e0, e1, e2⟩ := DvS.at hdr hq
            obtain ⟨rfl⟩ := hdr.addr (by omega)
            have i6 : (q : Int) < (M.deeds mm).length := by omega
            obtain ⟨ht, hi, ed⟩ := hof _ (List.getElem_mem hq)
            clear hLWn hLst hLW hL2 hl2n eq' hIr hm'
            generalize hxx : (M.deeds mm)[q] = x at *
            generalize M.lastOf (M.deeds mm) l rows[n] = lv at *
            generalize rows[n].length = rl at *
            clear hxx
            have pr := bxr.p.c
            obtain ⟨ta, tb, to', tc, kt, hTd⟩ := bxr.ss.row x.t ht
            obtain ⟨rfl⟩ := bxr.ss.addr (by omega)
            obtain ⟨rfl⟩ := hTd.addr (by omega)
            obtain ⟨d0, d1, d2⟩ := hTd.row x.i hi
            rw [ed] at d0 d1 d2
            have i7 : (x.t : Int) < mm.length := by omega
            have i8 : (x.i : Int) < mm[x.t].length := by omega
            rw [Nat.zero_add] at kt
            clear ed hTd
            generalize mm[x.t].length = tl at *
            have lr0 := World.block_lt_of_cell? _ _ pr
            have lr1 := World.block_lt_of_cell? _ _ kt
            have lr2 := World.block_lt_of_cell? _ _ d0
            have lr3 := World.block_lt_of_cell? _ _ s1
            have lr4 := World.block_lt_of_cell? _ _ y2
            go_wp2_with fail
            have hbE := below1 wr (.cells #[.int .i64 (x.t : Int), .int .i64 (x.i : Int), .bool x.last] 61)
            have E0 : (wr.alloc (.cells #[.int .i64 (x.t : Int), .int .i64 (x.i : Int), .bool x.last] 61)).cell? ⟨wr.heap.size, 0, none⟩ = some (.int .i64 x.t) := by simp
            have E1 : (wr.alloc (.cells #[.int .i64 (x.t : Int), .int .i64 (x.i : Int), .bool x.last] 61)).cell? ⟨wr.heap.size, 1, none⟩ = some (.int .i64 x.i) := by simp
            have pr' := (hbE.cell (p := ⟨P, 0, none⟩) lr0).trans pr
            have kt' := (hbE.cell (p := ⟨g, x.t, none⟩) lr1).trans kt
            have d0' := (hbE.cell (p := ⟨tb, to' + x.i * 3, none⟩) lr2).trans d0
            have d1' := (hbE.cell (p := ⟨tb, to' + x.i * 3 + 1, none⟩) lr2).trans d1
            have d2' := (hbE.cell (p := ⟨tb, to' + x.i * 3 + 2, none⟩) lr2).trans d2
            have s1' := (hbE.cell (p := ⟨U, 1, none⟩) lr3).trans s1
            have y2' := (hbE.cell (p := ⟨s.b2, s.o2 + n, none⟩) lr4).trans y2
            have bE : Below W6.heap.size W6 (wr.alloc (.cells #[.int .i64 (x.t : Int), .int .i64 (x.i : Int), .bool x.last] 61)) := hbr.alloc hbr.size _
            clear e0 e1 e2 kq pr kt d0 d1 d2 s1 y2 kr x0 hbE bxr vSr hsr hdr
            generalize wr.alloc (.cells #[.int .i64 (x.t : Int), .int .i64 (x.i : Int), .bool x.last] 61) = W at *
            generalize wr.heap.size = E at *
            have n0 := World.new_ne W _ pr'
            have n1 := World.new_ne W _ kt'
            have n2 := World.new_ne W _ d0'
            have n3 := World.new_ne W _ E0
            have n4 := World.new_ne W _ s1'
            have n5 := World.new_ne W _ y2'
            go_region_held3 (fun z => z.cell? ⟨P, 0, none⟩ = some (.slice (some ⟨g, 0, none⟩) mm.length c) ∧ z.cell? ⟨g, x.t, none⟩ = some (.slice (some ⟨tb, to', none⟩) tl tc) ∧ z.cell? ⟨tb, to' + x.i * 3, none⟩ = some (.int .i64 x.d.k) ∧ z.cell? ⟨tb, to' + x.i * 3 + 1, none⟩ = some (.int .i64 x.d.p) ∧ z.cell? ⟨tb, to' + x.i * 3 + 2, none⟩ = some (.int .i64 x.d.v) ∧ z.cell? ⟨E, 0, none⟩ = some (.int .i64 x.t) ∧ z.cell? ⟨E, 1, none⟩ = some (.int .i64 x.i)) (go_keep) (fail)
            all_goals
              have hbD := below1 W (.cells #[.int .i64 x.d.k, .int .i64 x.d.p, .int .i64 x.d.v] 58)
              have f0 : (W.alloc (.cells #[.int .i64 x.d.k, .int .i64 x.d.p, .int .i64 x.d.v] 58)).drew.cell? ⟨W.heap.size, 0, none⟩ = some (.int .i64 x.d.k) := by simp
              have f2 : (W.alloc (.cells #[.int .i64 x.d.k, .int .i64 x.d.p, .int .i64 x.d.v] 58)).drew.cell? ⟨W.heap.size, 2, none⟩ = some (.int .i64 x.d.v) := by simp
              have s1d : (W.alloc (.cells #[.int .i64 x.d.k, .int .i64 x.d.p, .int .i64 x.d.v] 58)).drew.cell? ⟨U, 1, none⟩ = some (.slice (some ⟨s.b2, s.o2, none⟩) s.l2.length s.c2) := (hbD.cell (p := ⟨U, 1, none⟩) (World.block_lt_of_cell? _ _ s1')).trans s1'
              have y2d : (W.alloc (.cells #[.int .i64 x.d.k, .int .i64 x.d.p, .int .i64 x.d.v] 58)).drew.cell? ⟨s.b2, s.o2 + n, none⟩ = some (.int .i64 lv) := (hbD.cell (p := ⟨s.b2, s.o2 + n, none⟩) (World.block_lt_of_cell? _ _ y2')).trans y2'
              have bD : Below W6.heap.size W6 (W.alloc (.cells #[.int .i64 x.d.k, .int .i64 x.d.p, .int .i64 x.d.v] 58)).drew := (bE.alloc bE.size _).drew
              clear n0 n1 n2 n3 n4 n5 hbD pr' kt' d0' d1' d2' E0 E1 s1' y2'
              generalize (W.alloc (.cells #[.int .i64 x.d.k, .int .i64 x.d.p, .int .i64 x.d.v] 58)).drew = Wd at *
              generalize W.heap.size = D at *
              by_cases hk3 : x.d.k = 3
              · have b3 : (x.d.k != 3) = false := by simp [hk3]
                go_wp2_with fail
                go_quiet (fail)
                go_wp2_with fail
                go_roundw
                case rel =>
                  first
                  | exact ⟨n + 1, by go_num, by omega, bD.trans ⟨rfl, rfl, rfl, Nat.le_refl _, fun _ _ => rfl⟩⟩
                  | ((repeat apply Exists.intro); exact ⟨⟨n + 1, by go_num, by omega, bD.trans ⟨rfl, rfl, rfl, Nat.le_refl _, fun _ _ => rfl⟩⟩, rfl⟩)
                case measure => (simp [intOf]; omega)
              · have b3 : (x.d.k != 3) = true := by simp [hk3]
                have hv : x.d.v = lv := hval hk3
                have b4 : (x.d.v != lv) = false := by simp [hv]
                clear hval
                go_wp2_with fail
                go_quiet (fail)
                go_wp2_with fail
                go_roundw
                case rel =>
                  first
                  | exact ⟨n + 1, by go_num, by omega, bD.trans ⟨rfl, rfl, rfl, Nat.le_refl _, fun _ _ => rfl⟩⟩
                  | ((repeat apply Exists.intro); exact ⟨⟨n + 1, by go_num, by omega, bD.trans ⟨rfl, rfl, rfl, Nat.le_refl _, fun _ _ => rfl⟩⟩, rfl⟩)
                case measure => (simp [intOf]; omega)
        · go_wp2_with fail
          go_ret
          exact ⟨rfl, bxr.bel⟩
  · have hLb' : (1048576 : Int) < L := by omega
    go_enter Try.func7, Try.ntmps7
    go_wp2_with fail
    go_ret
    exact ⟨rfl, Below.refl _ _⟩
end Go.Proofs.Ytdpnnghomfaleaa
