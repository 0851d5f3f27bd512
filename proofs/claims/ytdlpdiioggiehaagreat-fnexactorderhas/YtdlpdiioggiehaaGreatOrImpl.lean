/- impl's orders: the reasons for which one event must be ahead of another one. Of at most 1048576 events. -/
import Derived.Test.YtdlpdiioggiehaaGreatOrMath
import Derived.Test.YtdlpdiioggiehaaGreatOkWay
import Derived.LoopN
import Derived.Laws.EntriesVeiled
namespace Go.Proofs.YtdlpdiioggiehaaGreat
open Go.RowKit

/-- A way with its events, and where it lies. -/
structure Wx where
  g : Nat
  c : Nat
  ds : List M.De
  fb : Nat
  fo : Nat
  fc : Nat
  l : List Int
  rb : Nat
  ro : Nat
  rc : Nat
  rows : List (List Int)
structure Wx.At (t : Wx) (w : World) : Prop where
  d : DeS w (some ⟨t.g, 0, none⟩) t.g t.ds
  f : IntS w (some ⟨t.fb, t.fo, none⟩) t.fb t.fo t.l
  r : IntSS w (some ⟨t.rb, t.ro, none⟩) t.rb t.ro t.rows
structure Wx.Ok (t : Wx) : Prop where
  dl : t.ds.length ≤ 1048576
  len : Hid (t.l.length = t.ds.length)
  three : Hid (t.rows.length = 3)
  rl : ∀ r ∈ t.rows, r.length ≤ 1048576
  run : M.run false t.ds = some false
  pl : ∀ x ∈ t.ds, x.uses = true → 0 ≤ x.d.p ∧ x.d.p < 3
theorem Wx.At.below {t : Wx} {w w' : World} {B : Nat} (h : t.At w) (hb : Below B w w') (hB : w.heap.size ≤ B) : t.At w' := ⟨h.d.bel hb hB, h.f.below hb hB, h.r.below hb hB⟩
theorem Wx.lt {t : Wx} {n : Nat} {x : M.De} (hx : t.ds[n]? = some x) : n < t.ds.length := by
  rcases Nat.lt_or_ge n t.ds.length with h | h
  · exact h
  · rw [List.getElem?_eq_none h] at hx; cases hx
theorem Wx.At.el {t : Wx} {w : World} (h : t.At w) {n : Nat} {x : M.De} (hx : t.ds[n]? = some x) : DeAt w t.g (n * 7) x := by
  have hn := Wx.lt hx
  rw [List.getElem?_eq_getElem hn] at hx
  obtain rfl := Option.some.inj hx
  exact DeS.at h.d hn
/-- The box of a way. -/
structure Wx.Bx (t : Wx) (w W : World) (K : Nat) : Prop where
  bel : Below w.heap.size w W
  c0 : W.cell? ⟨K, 0, none⟩ = some (.slice (some ⟨t.g, 0, none⟩) t.ds.length t.c)
  c1 : W.cell? ⟨K, 1, none⟩ = some (.slice (some ⟨t.fb, t.fo, none⟩) t.l.length t.fc)
  c2 : W.cell? ⟨K, 2, none⟩ = some (.slice (some ⟨t.rb, t.ro, none⟩) t.rows.length t.rc)
  at_ : t.At W
theorem Wx.Bx.new {t : Wx} {w : World} (h : t.At w) : t.Bx w (w.alloc (.cells #[.slice (some ⟨t.g, 0, none⟩) t.ds.length t.c, .slice (some ⟨t.fb, t.fo, none⟩) t.l.length t.fc, .slice (some ⟨t.rb, t.ro, none⟩) t.rows.length t.rc] 61)) w.heap.size :=
  ⟨below1 _ _, by simp, by simp, by simp, h.below (below1 _ _) (Nat.le_refl _)⟩
theorem Wx.Bx.below {t : Wx} {w W W' : World} {K : Nat} (h : t.Bx w W K) (hb : Below W.heap.size W W') : t.Bx w W' K := by
  have hl : K < W.heap.size := World.block_lt_of_cell? _ _ h.c0
  exact ⟨h.bel.trans (hb.mono h.bel.size), (hb.cell (p := ⟨K, 0, none⟩) hl).trans h.c0, (hb.cell (p := ⟨K, 1, none⟩) hl).trans h.c1, (hb.cell (p := ⟨K, 2, none⟩) hl).trans h.c2, h.at_.below hb (Nat.le_refl _)⟩

theorem isWall_any (k : Int) (w : World) : Calls Tryz.prog 96 #[.int .i64 k] w fun e w' => e = .returned (.bool (M.isWall k)) ∧ w' = w := by
  cases h : (k == 4)
  all_goals
    go_enter Tryz.func96, Tryz.ntmps96
    go_wp2_with fail
    go_ret
    exact ⟨ret_bool (by simp [M.isWall, h]), rfl⟩

theorem kind_any (t : Wx) (a : Nat) (x : M.De) (w : World) (_hl : t.Ok) (ht : t.At w) (hx : t.ds[a]? = some x) :
    Calls Tryz.prog 76 #[.agg #[.slice (some ⟨t.g, 0, none⟩) t.ds.length t.c, .slice (some ⟨t.fb, t.fo, none⟩) t.l.length t.fc, .slice (some ⟨t.rb, t.ro, none⟩) t.rows.length t.rc], .int .i64 (a : Int)] w fun e w' => e = .returned (.int .i64 x.d.k) ∧ Below w.heap.size w w' := by
  have ha := Wx.lt hx
  obtain ⟨c0, c1, c2, c3, c4, c5, c6⟩ := ht.el hx
  have lg : t.g < w.heap.size := World.block_lt_of_cell? _ _ c0
  have i1 : (a : Int) < t.ds.length := by omega
  go_enter Tryz.func76, Tryz.ntmps76
  go_wp2_with fail
  go_ret
  exact ⟨rfl, below1 _ _⟩

theorem oneThread_any (t : Wx) (a b : Nat) (x y : M.De) (w : World) (_hl : t.Ok) (ht : t.At w) (hx : t.ds[a]? = some x) (hy : t.ds[b]? = some y) :
    Calls Tryz.prog 79 #[.agg #[.slice (some ⟨t.g, 0, none⟩) t.ds.length t.c, .slice (some ⟨t.fb, t.fo, none⟩) t.l.length t.fc, .slice (some ⟨t.rb, t.ro, none⟩) t.rows.length t.rc], .int .i64 (a : Int), .int .i64 (b : Int)] w fun e w' => e = .returned (.bool (x.t == y.t)) ∧ Below w.heap.size w w' := by
  have ha := Wx.lt hx
  have hb := Wx.lt hy
  have B0 := Wx.Bx.new ht
  obtain ⟨c0, _, _, _, _, _, _⟩ := B0.at_.el hx
  obtain ⟨d0, _, _, _, _, _, _⟩ := B0.at_.el hy
  have i1 : (a : Int) < t.ds.length := by omega
  have i2 : (b : Int) < t.ds.length := by omega
  go_enter Tryz.func79, Tryz.ntmps79
  go_wp2_with fail
  have K0 := BelowOf.cell B0.c0
  have bel := B0.bel
  have C0 := BelowOf.cell c0
  have D0 := BelowOf.cell d0
  generalize w.alloc (.cells #[.slice (some ⟨t.g, 0, none⟩) t.ds.length t.c, .slice (some ⟨t.fb, t.fo, none⟩) t.l.length t.fc, .slice (some ⟨t.rb, t.ro, none⟩) t.rows.length t.rc] 61) = W at *
  haveI : Inhabited (BelowOf W) := ⟨belOf W⟩
  refine wp_region_quiet_bel (by kernel_rfl) (by kernel_rfl) ?_
  repeat (quiet_step (fail))
  refine wpQuiet_nil ?_
  rintro _ ⟨⟨wq, hwq⟩, rfl⟩
  go_wp2_with fail
  go_ret
  exact ⟨ret_bool (by rw [Bool.eq_iff_iff]; simp; omega), bel.trans (hwq.mono bel.size)⟩

theorem own_any (t : Wx) (a b : Nat) (x y : M.De) (w : World) (hl : t.Ok) (ht : t.At w) (hx : t.ds[a]? = some x) (hy : t.ds[b]? = some y) :
    Calls Tryz.prog 54 #[.agg #[.slice (some ⟨t.g, 0, none⟩) t.ds.length t.c, .slice (some ⟨t.fb, t.fo, none⟩) t.l.length t.fc, .slice (some ⟨t.rb, t.ro, none⟩) t.rows.length t.rc], .int .i64 (a : Int), .int .i64 (b : Int)] w fun e w' => e = .returned (.bool (M.own a b x y)) ∧ Below w.heap.size w w' := by
  have B0 := Wx.Bx.new ht
  have C := oneThread_any t a b x y _ hl B0.at_ hx hy
  by_cases hab : a < b
  · have i1 : (a : Int) < b := by omega
    go_enter Tryz.func54, Tryz.ntmps54
    go_wp2_with fail
    refine C.mono ?_
    rintro e w1 ⟨rfl, hb1⟩
    go_wp2_with fail
    go_ret
    exact ⟨ret_bool (by simp [M.own, hab]), (B0.below hb1).bel⟩
  · have i1 : decide ((a : Int) < b) = false := by simp; omega
    go_enter Tryz.func54, Tryz.ntmps54
    go_wp2_with fail
    go_ret
    exact ⟨ret_bool (by simp [M.own, hab]), B0.bel⟩

set_option maxHeartbeats 1000000 in
set_option maxRecDepth 100000 in
theorem onePl_any (t : Wx) (a b : Nat) (x y : M.De) (w : World) (hl : t.Ok) (ht : t.At w) (hx : t.ds[a]? = some x) (hy : t.ds[b]? = some y) :
    Calls Tryz.prog 75 #[.agg #[.slice (some ⟨t.g, 0, none⟩) t.ds.length t.c, .slice (some ⟨t.fb, t.fo, none⟩) t.l.length t.fc, .slice (some ⟨t.rb, t.ro, none⟩) t.rows.length t.rc], .int .i64 (a : Int), .int .i64 (b : Int)] w fun e w' => e = .returned (.bool (M.onePl x y)) ∧ Below w.heap.size w w' := by
  have ha := Wx.lt hx
  have hb := Wx.lt hy
  have B0 := Wx.Bx.new ht
  obtain ⟨_, _, _, _, c4, _, _⟩ := B0.at_.el hx
  obtain ⟨_, _, _, _, d4, _, _⟩ := B0.at_.el hy
  have i1 : (a : Int) < t.ds.length := by omega
  have i2 : (b : Int) < t.ds.length := by omega
  go_enter Tryz.func75, Tryz.ntmps75
  go_wp2_with fail
  have K0 := BelowOf.cell B0.c0
  have K1 := BelowOf.cell B0.c1
  have K2 := BelowOf.cell B0.c2
  have bel := B0.bel
  have C4 := BelowOf.cell c4
  have D4 := BelowOf.cell d4
  have at_ := B0.at_
  clear B0 c4 d4
  generalize w.alloc (.cells #[.slice (some ⟨t.g, 0, none⟩) t.ds.length t.c, .slice (some ⟨t.fb, t.fo, none⟩) t.l.length t.fc, .slice (some ⟨t.rb, t.ro, none⟩) t.rows.length t.rc] 61) = W at *
  have CA := fun q : BelowOf W => kind_any t a x q.x hl (at_.below q.h (Nat.le_refl _)) hx
  have CB := fun q : BelowOf W => kind_any t b y q.x hl (at_.below q.h (Nat.le_refl _)) hy
  have UA := fun q : BelowOf W => (uses_any x.d.k q.x).mono (R' := fun e w' => e = .returned (.bool (M.uses x.d.k)) ∧ Below q.x.heap.size q.x w') (fun _ _ ⟨h1, h2⟩ => ⟨h1, h2 ▸ Below.refl _ _⟩)
  have UB := fun q : BelowOf W => (uses_any y.d.k q.x).mono (R' := fun e w' => e = .returned (.bool (M.uses y.d.k)) ∧ Below q.x.heap.size q.x w') (fun _ _ ⟨h1, h2⟩ => ⟨h1, h2 ▸ Below.refl _ _⟩)
  haveI : Inhabited (BelowOf W) := ⟨belOf W⟩
  cases hu : M.uses x.d.k
  · rw [hu] at UA
    refine wp_region_quiet_bel (by kernel_rfl) (by kernel_rfl) ?_
    iterate 5 (quiet_step (first | (go_at_call 76; exact Calls.bel_of (CA _)) | (go_at_call 71; exact Calls.bel_of (UA _))))
    iterate 4 go_big_quiet_skip
    iterate 2 (quiet_step (fail))
    iterate 15 go_big_quiet_skip
    iterate 2 (quiet_step (fail))
    refine wpQuiet_nil ?_
    rintro _ ⟨⟨wq, hwq⟩, rfl⟩
    go_wp2_with fail
    go_ret
    exact ⟨ret_bool (by simp [M.onePl, M.De.uses, hu]), bel.trans (hwq.mono bel.size)⟩
  · rw [hu] at UA
    cases hv : M.uses y.d.k
    · rw [hv] at UB
      refine wp_region_quiet_bel (by kernel_rfl) (by kernel_rfl) ?_
      iterate 5 (quiet_step (first | (go_at_call 76; exact Calls.bel_of (CA _)) | (go_at_call 71; exact Calls.bel_of (UA _))))
      iterate 6 (quiet_step (first | (go_at_call 76; exact Calls.bel_of (CB _)) | (go_at_call 71; exact Calls.bel_of (UB _))))
      iterate 15 go_big_quiet_skip
      iterate 2 (quiet_step (fail))
      refine wpQuiet_nil ?_
      rintro _ ⟨⟨wq, hwq⟩, rfl⟩
      go_wp2_with fail
      go_ret
      exact ⟨ret_bool (by simp [M.onePl, M.De.uses, hu, hv]), bel.trans (hwq.mono bel.size)⟩
    · rw [hv] at UB
      refine wp_region_quiet_bel (by kernel_rfl) (by kernel_rfl) ?_
      iterate 5 (quiet_step (first | (go_at_call 76; exact Calls.bel_of (CA _)) | (go_at_call 71; exact Calls.bel_of (UA _))))
      iterate 6 (quiet_step (first | (go_at_call 76; exact Calls.bel_of (CB _)) | (go_at_call 71; exact Calls.bel_of (UB _))))
      repeat (quiet_step (fail))
      refine wpQuiet_nil ?_
      rintro _ ⟨⟨wq, hwq⟩, rfl⟩
      go_wp2_with fail
      go_ret
      exact ⟨ret_bool (by simp [M.onePl, M.De.uses, hu, hv]), bel.trans (hwq.mono bel.size)⟩



theorem wall_any (t : Wx) (a b : Nat) (x y : M.De) (w : World) (hl : t.Ok) (ht : t.At w) (hx : t.ds[a]? = some x) (hy : t.ds[b]? = some y) :
    Calls Tryz.prog 80 #[.agg #[.slice (some ⟨t.g, 0, none⟩) t.ds.length t.c, .slice (some ⟨t.fb, t.fo, none⟩) t.l.length t.fc, .slice (some ⟨t.rb, t.ro, none⟩) t.rows.length t.rc], .int .i64 (a : Int), .int .i64 (b : Int)] w fun e w' => e = .returned (.bool (M.isWall x.d.k || M.isWall y.d.k)) ∧ Below w.heap.size w w' := by
  have B0 := Wx.Bx.new ht
  cases hw : M.isWall x.d.k
  · go_enter Tryz.func80, Tryz.ntmps80
    go_wp2_with fail
    refine (kind_any t a x _ hl B0.at_ hx).mono ?_
    rintro e w1 ⟨rfl, hb1⟩
    have B1 := B0.below hb1
    have k0 := B1.c0; have k1 := B1.c1; have k2 := B1.c2
    go_wp2_with (go_at_call 96; refine (isWall_any _ _).mono ?_; rw [hw]; rintro e w' ⟨rfl, rfl⟩)
    refine (kind_any t b y _ hl B1.at_ hy).mono ?_
    rintro e w2 ⟨rfl, hb2⟩
    go_wp2_with (go_at_call 96; refine (isWall_any _ _).mono ?_; rintro e w' ⟨rfl, rfl⟩)
    go_ret
    exact ⟨rfl, (B1.below hb2).bel⟩
  · go_enter Tryz.func80, Tryz.ntmps80
    go_wp2_with fail
    refine (kind_any t a x _ hl B0.at_ hx).mono ?_
    rintro e w1 ⟨rfl, hb1⟩
    go_wp2_with (go_at_call 96; refine (isWall_any _ _).mono ?_; rw [hw]; rintro e w' ⟨rfl, rfl⟩)
    go_ret
    exact ⟨rfl, (B0.below hb1).bel⟩

theorem takes_any (t : Wx) (a b : Nat) (x y : M.De) (w : World) (hl : t.Ok) (ht : t.At w) (hx : t.ds[a]? = some x) (_hy : t.ds[b]? = some y) :
    Calls Tryz.prog 81 #[.agg #[.slice (some ⟨t.g, 0, none⟩) t.ds.length t.c, .slice (some ⟨t.fb, t.fo, none⟩) t.l.length t.fc, .slice (some ⟨t.rb, t.ro, none⟩) t.rows.length t.rc], .int .i64 (a : Int), .int .i64 (b : Int)] w fun e w' => e = .returned (.bool (x.d.k == 5)) ∧ Below w.heap.size w w' := by
  have B0 := Wx.Bx.new ht
  go_enter Tryz.func81, Tryz.ntmps81
  go_wp2_with fail
  refine (kind_any t a x _ hl B0.at_ hx).mono ?_
  rintro e w1 ⟨rfl, hb1⟩
  go_wp2_with fail
  go_ret
  exact ⟨rfl, (B0.below hb1).bel⟩

theorem gives_any (t : Wx) (a b : Nat) (x y : M.De) (w : World) (hl : t.Ok) (ht : t.At w) (_hx : t.ds[a]? = some x) (hy : t.ds[b]? = some y) :
    Calls Tryz.prog 82 #[.agg #[.slice (some ⟨t.g, 0, none⟩) t.ds.length t.c, .slice (some ⟨t.fb, t.fo, none⟩) t.l.length t.fc, .slice (some ⟨t.rb, t.ro, none⟩) t.rows.length t.rc], .int .i64 (a : Int), .int .i64 (b : Int)] w fun e w' => e = .returned (.bool (y.d.k == 6)) ∧ Below w.heap.size w w' := by
  have B0 := Wx.Bx.new ht
  go_enter Tryz.func82, Tryz.ntmps82
  go_wp2_with fail
  refine (kind_any t b y _ hl B0.at_ hy).mono ?_
  rintro e w1 ⟨rfl, hb1⟩
  go_wp2_with fail
  go_ret
  exact ⟨rfl, (B0.below hb1).bel⟩

theorem M.out_step {ds : List M.De} {n : Nat} (hn : n < ds.length) : M.outOf ds n = if ds[n].d.k == 8 then n else M.outOf ds (n + 1) := by
  unfold M.outOf
  rw [← List.getElem_cons_drop hn, M.outFrom]
theorem M.in_step {ds : List M.De} {n : Nat} (hn : n + 1 < ds.length) : M.inOf ds (n + 1) = if ds[n + 1].d.k == 7 then n + 1 else M.inOf ds n := by
  rw [M.inOf, M.kAt_eq hn]

set_option maxHeartbeats 400000 in
theorem outOf_any (g c : Nat) (ds : List M.De) (a : Nat) (w : World) (hl : ds.length ≤ 1048576) (hex : ∃ m, a ≤ m ∧ ∃ hm : m < ds.length, ds[m].d.k = 8) (h : DeS w (some ⟨g, 0, none⟩) g ds) :
    Calls Tryz.prog 97 #[.slice (some ⟨g, 0, none⟩) ds.length c, .int .i64 (a : Int)] w fun e w' => e = .returned (.int .i64 (M.outOf ds a : Nat)) ∧ w' = w := by
  obtain ⟨m, ham, hm, hm8⟩ := hex
  have HM : Hid (ds[m].d.k = 8) := hm8
  clear hm8
  go_enter Tryz.func97, Tryz.ntmps97
  go_wp2_with fail
  go_loopw [5] (fun s5 wr => ∃ n : Nat, s5 = .int .i64 n ∧ n ≤ m ∧ Hid (M.outOf ds a = M.outOf ds n) ∧ wr = w) (fun s5 _ => m - (intOf s5).toNat)
  case atStart => exact ⟨a, rfl, ham, by show _ = _; rfl, rfl⟩
  case round =>
    obtain ⟨n, rfl, hn, HO, rfl⟩ := hrel
    have hlt : n < ds.length := by omega
    obtain ⟨_, _, _, c3, _, _, _⟩ := DeS.at h hlt
    have HS : Hid (M.outOf ds a = if ds[n].d.k == 8 then n else M.outOf ds (n + 1)) := by show _ = _; rw [HO.out, M.out_step hlt]
    have HN : Hid (n = m → ds[n].d.k = 8) := fun e => by subst e; exact HM.out
    clear HO
    generalize ds[n].d.k = k at *
    have i1 : (n : Int) < ds.length := by omega
    by_cases h8 : k = 8
    · subst h8
      go_wp2_with fail
      go_ret
      exact ⟨by rw [HS.out]; rfl, rfl⟩
    · have h8' : (k != 8) = true := by simpa using h8
      have h8'' : (k == 8) = false := by simpa using h8
      have hne : n ≠ m := fun e => h8 (HN.out e)
      go_wp2_with fail
      exact ⟨⟨n + 1, by go_num, by omega, by show _ = _; rw [HS.out, h8'']; rfl, trivial⟩, by simp [intOf]; omega⟩

set_option maxHeartbeats 400000 in
theorem inOf_any (g c : Nat) (ds : List M.De) (a : Nat) (w : World) (hl : ds.length ≤ 1048576) (ha : a < ds.length) (hex : ∃ m, m ≤ a ∧ ∃ hm : m < ds.length, ds[m].d.k = 7) (h : DeS w (some ⟨g, 0, none⟩) g ds) :
    Calls Tryz.prog 98 #[.slice (some ⟨g, 0, none⟩) ds.length c, .int .i64 (a : Int)] w fun e w' => e = .returned (.int .i64 (M.inOf ds a : Nat)) ∧ w' = w := by
  obtain ⟨m, ham, hm, hm7⟩ := hex
  have HM : Hid (ds[m].d.k = 7) := hm7
  clear hm7
  go_enter Tryz.func98, Tryz.ntmps98
  go_wp2_with fail
  go_loopw [5] (fun s5 wr => ∃ n : Nat, s5 = .int .i64 n ∧ m ≤ n ∧ n < ds.length ∧ Hid (M.inOf ds a = M.inOf ds n) ∧ wr = w) (fun s5 _ => (intOf s5).toNat)
  case atStart => exact ⟨a, rfl, ham, ha, by show _ = _; rfl, rfl⟩
  case round =>
    obtain ⟨n, rfl, hn, hlt, HO, rfl⟩ := hrel
    obtain ⟨_, _, _, c3, _, _, _⟩ := DeS.at h hlt
    have HN : Hid (n = m → ds[n].d.k = 7) := fun e => by subst e; exact HM.out
    have i1 : (n : Int) < ds.length := by omega
    by_cases h7 : ds[n].d.k = 7
    · have HS : Hid (M.inOf ds n = n) := by
        show _ = _
        cases n with
        | zero => rfl
        | succ n => rw [M.in_step hlt, h7]; rfl
      rw [h7] at c3
      go_wp2_with fail
      go_ret
      exact ⟨by rw [HO.out, HS.out]; rfl, rfl⟩
    · have hne : n ≠ m := fun e => h7 (HN.out e)
      obtain ⟨n', rfl⟩ : ∃ n', n = n' + 1 := ⟨n - 1, by omega⟩
      have HS : Hid (M.inOf ds (n' + 1) = M.inOf ds n') := by
        show _ = _
        rw [M.in_step hlt, if_neg (by simpa using h7)]
      generalize ds[n' + 1].d.k = k at *
      have h7' : (k != 7) = true := by simpa using h7
      have e1 : IntKind.i64.wrap (n' : Int) = n' := by rw [IntKind.wrap_i64]; omega
      go_wp2_with fail
      exact ⟨⟨n', by go_num, by omega, by omega, by show _ = _; rw [HO.out, HS.out], trivial⟩, by simp [intOf]⟩

theorem goesIn_any (t : Wx) (a b : Nat) (x y : M.De) (w : World) (hl : t.Ok) (ht : t.At w) (hx : t.ds[a]? = some x) (_hy : t.ds[b]? = some y) :
    Calls Tryz.prog 83 #[.agg #[.slice (some ⟨t.g, 0, none⟩) t.ds.length t.c, .slice (some ⟨t.fb, t.fo, none⟩) t.l.length t.fc, .slice (some ⟨t.rb, t.ro, none⟩) t.rows.length t.rc], .int .i64 (a : Int), .int .i64 (b : Int)] w fun e w' => e = .returned (.bool (M.goesIn t.ds a b x)) ∧ Below w.heap.size w w' := by
  have ha := Wx.lt hx
  have B0 := Wx.Bx.new ht
  have hxa : t.ds[a] = x := by rw [List.getElem?_eq_getElem ha] at hx; exact Option.some.inj hx
  by_cases h7 : x.d.k = 7
  · obtain ⟨m, hm, hml, h8⟩ := M.has_out hl.run ha (by rw [hxa]; exact h7)
    go_enter Tryz.func83, Tryz.ntmps83
    go_wp2_with fail
    refine (kind_any t a x _ hl B0.at_ hx).mono ?_
    rintro e w1 ⟨rfl, hb1⟩
    have B1 := B0.below hb1
    have k0 := B1.c0
    rw [h7]
    go_wp2_with (go_at_call 97; refine (outOf_any t.g t.c t.ds a _ hl.dl ⟨m, by omega, hml, h8⟩ B1.at_.d).mono ?_; rintro e w' ⟨rfl, rfl⟩)
    go_ret
    exact ⟨ret_bool (by simp [M.goesIn, h7]), B1.bel⟩
  · have h7' : (x.d.k == 7) = false := by simpa using h7
    go_enter Tryz.func83, Tryz.ntmps83
    go_wp2_with fail
    refine (kind_any t a x _ hl B0.at_ hx).mono ?_
    rintro e w1 ⟨rfl, hb1⟩
    go_wp2_with fail
    go_ret
    exact ⟨ret_bool (by simp [M.goesIn, h7]), (B0.below hb1).bel⟩

theorem goesOut_any (t : Wx) (a b : Nat) (x y : M.De) (w : World) (hl : t.Ok) (ht : t.At w) (_hx : t.ds[a]? = some x) (hy : t.ds[b]? = some y) :
    Calls Tryz.prog 84 #[.agg #[.slice (some ⟨t.g, 0, none⟩) t.ds.length t.c, .slice (some ⟨t.fb, t.fo, none⟩) t.l.length t.fc, .slice (some ⟨t.rb, t.ro, none⟩) t.rows.length t.rc], .int .i64 (a : Int), .int .i64 (b : Int)] w fun e w' => e = .returned (.bool (M.goesOut t.ds a b y)) ∧ Below w.heap.size w w' := by
  have hb := Wx.lt hy
  have B0 := Wx.Bx.new ht
  have hya : t.ds[b] = y := by rw [List.getElem?_eq_getElem hb] at hy; exact Option.some.inj hy
  by_cases h8 : y.d.k = 8
  · obtain ⟨m, hm, hml, h7⟩ := M.has_in hl.run hb (by rw [hya]; exact h8)
    go_enter Tryz.func84, Tryz.ntmps84
    go_wp2_with fail
    refine (kind_any t b y _ hl B0.at_ hy).mono ?_
    rintro e w1 ⟨rfl, hb1⟩
    have B1 := B0.below hb1
    have k0 := B1.c0
    rw [h8]
    go_wp2_with (go_at_call 98; refine (inOf_any t.g t.c t.ds b _ hl.dl hb ⟨m, by omega, hml, h7⟩ B1.at_.d).mono ?_; rintro e w' ⟨rfl, rfl⟩)
    go_ret
    exact ⟨ret_bool (by simp [M.goesOut, h8]), B1.bel⟩
  · have h8' : (y.d.k == 8) = false := by simpa using h8
    go_enter Tryz.func84, Tryz.ntmps84
    go_wp2_with fail
    refine (kind_any t b y _ hl B0.at_ hy).mono ?_
    rintro e w1 ⟨rfl, hb1⟩
    go_wp2_with fail
    go_ret
    exact ⟨ret_bool (by simp [M.goesOut, h8]), (B0.below hb1).bel⟩

theorem copyOf_any (t : Wx) (a b : Nat) (x y : M.De) (w : World) (hl : t.Ok) (ht : t.At w) (_hx : t.ds[a]? = some x) (hy : t.ds[b]? = some y) :
    Calls Tryz.prog 85 #[.agg #[.slice (some ⟨t.g, 0, none⟩) t.ds.length t.c, .slice (some ⟨t.fb, t.fo, none⟩) t.l.length t.fc, .slice (some ⟨t.rb, t.ro, none⟩) t.rows.length t.rc], .int .i64 (a : Int), .int .i64 (b : Int)] w fun e w' => e = .returned (.bool (M.copyOf a y)) ∧ Below w.heap.size w w' := by
  have hb := Wx.lt hy
  have B0 := Wx.Bx.new ht
  have i2 : (b : Int) < t.ds.length := by omega
  by_cases h3 : y.d.k = 3
  · go_enter Tryz.func85, Tryz.ntmps85
    go_wp2_with fail
    refine (kind_any t b y _ hl B0.at_ hy).mono ?_
    rintro e w1 ⟨rfl, hb1⟩
    have B1 := B0.below hb1
    have k0 := B1.c0
    obtain ⟨_, _, _, _, _, _, c6⟩ := B1.at_.el hy
    rw [h3]
    go_wp2_with fail
    go_ret
    exact ⟨ret_bool (by simp [M.copyOf, h3]), B1.bel⟩
  · have h3' : (y.d.k == 3) = false := by simpa using h3
    go_enter Tryz.func85, Tryz.ntmps85
    go_wp2_with fail
    refine (kind_any t b y _ hl B0.at_ hy).mono ?_
    rintro e w1 ⟨rfl, hb1⟩
    go_wp2_with fail
    go_ret
    exact ⟨ret_bool (by simp [M.copyOf, h3]), (B0.below hb1).bel⟩

theorem read_any (t : Wx) (a b : Nat) (x y : M.De) (w : World) (hl : t.Ok) (ht : t.At w) (_hx : t.ds[a]? = some x) (hy : t.ds[b]? = some y) :
    Calls Tryz.prog 52 #[.agg #[.slice (some ⟨t.g, 0, none⟩) t.ds.length t.c, .slice (some ⟨t.fb, t.fo, none⟩) t.l.length t.fc, .slice (some ⟨t.rb, t.ro, none⟩) t.rows.length t.rc], .int .i64 (a : Int), .int .i64 (b : Int)] w fun e w' => e = .returned (.bool (M.read t.l a b)) ∧ Below w.heap.size w w' := by
  have hb := Wx.lt hy
  have hb2 : b < t.l.length := by rw [hl.len.out]; exact hb
  have c0 := ht.f.row b hb2
  have HG : Hid (t.l.getD b 0 = t.l[b]) := by show _ = _; simp [hb2]
  generalize t.l[b] = f at *
  have lf : t.fb < w.heap.size := World.block_lt_of_cell? _ _ c0
  have i2 : (b : Int) < t.l.length := by omega
  go_enter Tryz.func52, Tryz.ntmps52
  go_wp2_with fail
  go_ret
  exact ⟨ret_bool (by rw [M.read, HG.out]), below1 _ _⟩

theorem late_any (t : Wx) (a b : Nat) (x y : M.De) (w : World) (hl : t.Ok) (ht : t.At w) (hx : t.ds[a]? = some x) (hy : t.ds[b]? = some y) :
    Calls Tryz.prog 55 #[.agg #[.slice (some ⟨t.g, 0, none⟩) t.ds.length t.c, .slice (some ⟨t.fb, t.fo, none⟩) t.l.length t.fc, .slice (some ⟨t.rb, t.ro, none⟩) t.rows.length t.rc], .int .i64 (a : Int), .int .i64 (b : Int)] w fun e w' => e = .returned (.bool (M.late a b x y)) ∧ Below w.heap.size w w' := by
  have B0 := Wx.Bx.new ht
  have C := own_any t a b x y _ hl B0.at_ hx hy
  cases ho : M.own a b x y
  · rw [ho] at C
    go_enter Tryz.func55, Tryz.ntmps55
    go_wp2_with fail
    refine C.mono ?_
    rintro e w1 ⟨rfl, hb1⟩
    go_wp2_with fail
    go_ret
    exact ⟨ret_bool (by simp [M.late, ho]), (B0.below hb1).bel⟩
  · rw [ho] at C
    cases hw : M.writes x.d.k
    · go_enter Tryz.func55, Tryz.ntmps55
      go_wp2_with fail
      refine C.mono ?_
      rintro e w1 ⟨rfl, hb1⟩
      have B1 := B0.below hb1
      have k0 := B1.c0; have k1 := B1.c1; have k2 := B1.c2
      go_wp2_with fail
      refine (kind_any t a x _ hl B1.at_ hx).mono ?_
      rintro e w2 ⟨rfl, hb2⟩
      go_wp2_with (go_at_call 77; refine (writes_any _ _).mono ?_; rw [hw]; rintro e w' ⟨rfl, rfl⟩)
      go_ret
      exact ⟨ret_bool (by simp [M.late, ho, hw]), (B1.below hb2).bel⟩
    · go_enter Tryz.func55, Tryz.ntmps55
      go_wp2_with fail
      refine C.mono ?_
      rintro e w1 ⟨rfl, hb1⟩
      have B1 := B0.below hb1
      have k0 := B1.c0; have k1 := B1.c1; have k2 := B1.c2
      go_wp2_with fail
      refine (kind_any t a x _ hl B1.at_ hx).mono ?_
      rintro e w2 ⟨rfl, hb2⟩
      have B2 := B1.below hb2
      have k0 := B2.c0; have k1 := B2.c1; have k2 := B2.c2
      go_wp2_with (go_at_call 77; refine (writes_any _ _).mono ?_; rw [hw]; rintro e w' ⟨rfl, rfl⟩)
      refine (kind_any t b y _ hl B2.at_ hy).mono ?_
      rintro e w3 ⟨rfl, hb3⟩
      go_wp2_with (go_at_call 50; refine (reads_any _ _).mono ?_; rintro e w' ⟨rfl, rfl⟩)
      go_ret
      exact ⟨ret_bool (by simp [M.late, ho, hw]), (B2.below hb3).bel⟩

theorem readTwo_any (t : Wx) (a b : Nat) (x y : M.De) (w : World) (hl : t.Ok) (ht : t.At w) (hx : t.ds[a]? = some x) (hy : t.ds[b]? = some y) :
    Calls Tryz.prog 56 #[.agg #[.slice (some ⟨t.g, 0, none⟩) t.ds.length t.c, .slice (some ⟨t.fb, t.fo, none⟩) t.l.length t.fc, .slice (some ⟨t.rb, t.ro, none⟩) t.rows.length t.rc], .int .i64 (a : Int), .int .i64 (b : Int)] w fun e w' => e = .returned (.bool (M.two x y && M.read t.l a b)) ∧ Below w.heap.size w w' := by
  have B0 := Wx.Bx.new ht
  have C := oneThread_any t a b x y _ hl B0.at_ hx hy
  cases ho : (x.t == y.t)
  · rw [ho] at C
    go_enter Tryz.func56, Tryz.ntmps56
    go_wp2_with fail
    refine C.mono ?_
    rintro e w1 ⟨rfl, hb1⟩
    have B1 := B0.below hb1
    have k0 := B1.c0; have k1 := B1.c1; have k2 := B1.c2
    go_wp2_with fail
    refine (read_any t a b x y _ hl B1.at_ hx hy).mono ?_
    rintro e w2 ⟨rfl, hb2⟩
    go_wp2_with fail
    go_ret
    exact ⟨ret_bool (by simp [M.two, ho]), (B1.below hb2).bel⟩
  · rw [ho] at C
    go_enter Tryz.func56, Tryz.ntmps56
    go_wp2_with fail
    refine C.mono ?_
    rintro e w1 ⟨rfl, hb1⟩
    go_wp2_with fail
    go_ret
    exact ⟨ret_bool (by simp [M.two, ho]), (B0.below hb1).bel⟩

namespace M
theorem idx_hit {l : List Int} {v : Int} {n : Nat} (hn : n < l.length) (h : l[n] = v) (hb : ∀ i (_ : i < n) (hi : i < l.length), l[i] ≠ v) : idx l v = n := by
  have : l.findIdx? (· == v) = some n := by
    rw [List.findIdx?_eq_some_iff_getElem]
    exact ⟨hn, by simpa using h, fun j hj => by simpa using hb j hj (by omega)⟩
  simp [idx, this]
theorem idx_none {l : List Int} {v : Int} (h : ∀ i (_ : i < l.length), l[i] ≠ v) : idx l v = -1 := by
  have : l.findIdx? (· == v) = none := by
    rw [List.findIdx?_eq_none_iff]
    intro x hx
    obtain ⟨i, hi, rfl⟩ := List.getElem_of_mem hx
    simpa using h i hi
  simp [idx, this]
end M

set_option maxHeartbeats 400000 in
theorem index_any (a : Option Addr) (b o c : Nat) (l : List Int) (v : Int) (w : World) (hl : l.length ≤ 1048576) (h : IntS w a b o l) :
    Calls Tryz.prog 78 #[.slice a l.length c, .int .i64 v] w fun e w' => e = .returned (.int .i64 (M.idx l v)) ∧ w' = w := by
  go_enter Tryz.func78, Tryz.ntmps78
  go_wp2_with fail
  go_loopw [8] (fun s8 wr => ∃ n : Nat, s8 = .int .i64 n ∧ n ≤ l.length ∧ Hid (∀ i (_ : i < n) (h : i < l.length), l[i] ≠ v) ∧ wr = w) (fun s8 _ => l.length - (intOf s8).toNat)
  case atStart => exact ⟨0, rfl, Nat.zero_le _, fun i hi => absurd hi (Nat.not_lt_zero _), rfl⟩
  case round =>
    obtain ⟨n, rfl, hn, HA, rfl⟩ := hrel
    by_cases hlt : n < l.length
    · obtain ⟨rfl⟩ := h.addr (by omega)
      have hx := h.row n hlt
      obtain ⟨y, hy⟩ : ∃ y, l[n] = y := ⟨_, rfl⟩
      have HY : Hid (l[n] = y) := hy
      rw [hy] at hx
      clear hy
      have i1 : (n : Int) < l.length := by omega
      by_cases e : v = y
      · subst e
        go_wp2_with fail
        go_ret
        exact ⟨by rw [M.idx_hit hlt HY.out HA.out]; rfl, rfl⟩
      · have e' : (v == y) = false := by simpa using e
        go_wp2_with fail
        exact ⟨⟨n + 1, by go_num, by omega, fun i hi hl => by
          by_cases ei : i = n
          · subst ei; rw [HY.out]; exact fun h => e h.symm
          · exact HA.out i (by omega) hl, trivial⟩, by simp [intOf]; omega⟩
    · go_wp2_with fail
      go_ret
      exact ⟨by rw [M.idx_none (fun i hi => HA.out i (by omega) hi)]; rfl, rfl⟩

set_option maxHeartbeats 1000000 in
set_option maxRecDepth 100000 in
theorem over_any (t : Wx) (a b : Nat) (x y : M.De) (w : World) (hl : t.Ok) (ht : t.At w) (hx : t.ds[a]? = some x) (hy : t.ds[b]? = some y) :
    Calls Tryz.prog 53 #[.agg #[.slice (some ⟨t.g, 0, none⟩) t.ds.length t.c, .slice (some ⟨t.fb, t.fo, none⟩) t.l.length t.fc, .slice (some ⟨t.rb, t.ro, none⟩) t.rows.length t.rc], .int .i64 (a : Int), .int .i64 (b : Int)] w fun e w' => e = .returned (.bool (M.over t.l t.rows a b x y)) ∧ Below w.heap.size w w' := by
  have ha := Wx.lt hx
  have hb := Wx.lt hy
  have B0 := Wx.Bx.new ht
  have C := onePl_any t a b x y _ hl B0.at_ hx hy
  have i1 : (a : Int) < t.ds.length := by omega
  have i2 : (b : Int) < t.ds.length := by omega
  cases ho : M.onePl x y
  · rw [ho] at C
    go_enter Tryz.func53, Tryz.ntmps53
    go_wp2_with fail
    refine C.mono ?_
    rintro e w1 ⟨rfl, hb1⟩
    go_wp2_with fail
    go_ret
    exact ⟨ret_bool (by simp [M.over, ho]), (B0.below hb1).bel⟩
  · rw [ho] at C
    cases hw : M.writes y.d.k
    · go_enter Tryz.func53, Tryz.ntmps53
      go_wp2_with fail
      refine C.mono ?_
      rintro e w1 ⟨rfl, hb1⟩
      have B1 := B0.below hb1
      have k0 := B1.c0; have k1 := B1.c1; have k2 := B1.c2
      go_wp2_with fail
      refine (kind_any t b y _ hl B1.at_ hy).mono ?_
      rintro e w2 ⟨rfl, hb2⟩
      go_wp2_with (go_at_call 77; refine (writes_any _ _).mono ?_; rw [hw]; rintro e w' ⟨rfl, rfl⟩)
      go_ret
      exact ⟨ret_bool (by simp [M.over, hw]), (B1.below hb2).bel⟩
    · have hpl : 0 ≤ y.d.p ∧ y.d.p < 3 := hl.pl y (List.mem_of_getElem? hy) (by simp [M.De.uses, M.uses, hw])
      obtain ⟨p, hp⟩ : ∃ p : Nat, y.d.p = p := ⟨y.d.p.toNat, by omega⟩
      have hpr : p < t.rows.length := by have := hl.three.out; omega
      have hrl := hl.rl _ (List.getElem_mem hpr)
      have HM : Hid (M.over t.l t.rows a b x y = decide (M.idx t.rows[p] (M.wrote t.l a x) < M.idx t.rows[p] (b : Int))) := by
        show _ = _
        rw [M.over, ho, hw, hp, Int.toNat_natCast, List.getD_eq_getElem?_getD, List.getElem?_eq_getElem hpr]
        rfl
      have i3 : (p : Int) < t.rows.length := by omega
      go_enter Tryz.func53, Tryz.ntmps53
      go_wp2_with fail
      refine C.mono ?_
      rintro e w1 ⟨rfl, hb1⟩
      have B1 := B0.below hb1
      have k0 := B1.c0; have k1 := B1.c1; have k2 := B1.c2
      go_wp2_with fail
      refine (kind_any t b y _ hl B1.at_ hy).mono ?_
      rintro e w2 ⟨rfl, hb2⟩
      have B2 := B1.below hb2
      go_wp2_with (go_at_call 77; refine (writes_any _ _).mono ?_; rw [hw]; rintro e w2x ⟨rfl, rfl⟩)
      obtain ⟨_, _, _, _, d4, _, _⟩ := B2.at_.el hy
      rw [hp] at d4
      obtain ⟨a', b', o', c', hc, hrow⟩ := B2.at_.r.row p hpr
      have K0 := BelowOf.cell B2.c0
      have K2 := BelowOf.cell B2.c2
      have KP := BelowOf.cell d4
      have KR := BelowOf.cell hc
      clear k0 k1 k2 C B0 B1 hb1 hb2 hc d4
      haveI : Inhabited (BelowOf w2x) := ⟨belOf w2x⟩
      refine wp_region_quiet_bel (by kernel_rfl) (by kernel_rfl) ?_
      repeat (quiet_step (fail))
      refine wpQuiet_nil ?_
      rintro _ ⟨⟨wq, hwq⟩, rfl⟩
      have B3 := B2.below hwq
      have hrow3 := hrow.below hwq (Nat.le_refl _)
      generalize t.rows[p] = row at *
      clear K0 K2 KP KR hrow B2
      have k0 := B3.c0; have k1 := B3.c1; have k2 := B3.c2
      go_wp2_with fail
      refine (kind_any t a x _ hl B3.at_ hx).mono ?_
      rintro e w4 ⟨rfl, hb4⟩
      have B4 := B3.below hb4
      have hrow4 := hrow3.below hb4 (Nat.le_refl _)
      have hal : a < t.l.length := by rw [hl.len.out]; exact ha
      have cl := B4.at_.f.row a hal
      have i4 : (a : Int) < t.l.length := by omega
      have q1 := B4.c1
      cases hr : M.reads x.d.k
      · have HW : Hid (M.wrote t.l a x = (a : Int)) := by show _ = _; simp [M.wrote, hr]
        go_wp2_with (first | (go_at_call 50; refine (reads_any _ _).mono ?_; rw [hr]; rintro e w' ⟨rfl, rfl⟩) | (go_at_call 78; refine (index_any a' b' o' c' row _ _ hrl hrow4).mono ?_; rintro e w' ⟨rfl, rfl⟩))
        go_ret
        exact ⟨ret_bool (by rw [HM.out, HW.out]), B4.bel⟩
      · have HW : Hid (M.wrote t.l a x = t.l[a]) := by show _ = _; simp [M.wrote, hr, hal]
        generalize t.l[a] = f at *
        go_wp2_with (first | (go_at_call 50; refine (reads_any _ _).mono ?_; rw [hr]; rintro e w' ⟨rfl, rfl⟩) | (go_at_call 78; refine (index_any a' b' o' c' row _ _ hrl hrow4).mono ?_; rintro e w' ⟨rfl, rfl⟩))
        go_ret
        exact ⟨ret_bool (by rw [HM.out, HW.out]), B4.bel⟩

theorem overTwo_any (t : Wx) (a b : Nat) (x y : M.De) (w : World) (hl : t.Ok) (ht : t.At w) (hx : t.ds[a]? = some x) (hy : t.ds[b]? = some y) :
    Calls Tryz.prog 58 #[.agg #[.slice (some ⟨t.g, 0, none⟩) t.ds.length t.c, .slice (some ⟨t.fb, t.fo, none⟩) t.l.length t.fc, .slice (some ⟨t.rb, t.ro, none⟩) t.rows.length t.rc], .int .i64 (a : Int), .int .i64 (b : Int)] w fun e w' => e = .returned (.bool (M.two x y && M.over t.l t.rows a b x y)) ∧ Below w.heap.size w w' := by
  have B0 := Wx.Bx.new ht
  have C := oneThread_any t a b x y _ hl B0.at_ hx hy
  cases ho : (x.t == y.t)
  · rw [ho] at C
    go_enter Tryz.func58, Tryz.ntmps58
    go_wp2_with fail
    refine C.mono ?_
    rintro e w1 ⟨rfl, hb1⟩
    have B1 := B0.below hb1
    have k0 := B1.c0; have k1 := B1.c1; have k2 := B1.c2
    go_wp2_with fail
    refine (over_any t a b x y _ hl B1.at_ hx hy).mono ?_
    rintro e w2 ⟨rfl, hb2⟩
    go_wp2_with fail
    go_ret
    exact ⟨ret_bool (by simp [M.two, ho]), (B1.below hb2).bel⟩
  · rw [ho] at C
    go_enter Tryz.func58, Tryz.ntmps58
    go_wp2_with fail
    refine C.mono ?_
    rintro e w1 ⟨rfl, hb1⟩
    go_wp2_with fail
    go_ret
    exact ⟨ret_bool (by simp [M.two, ho]), (B0.below hb1).bel⟩

end Go.Proofs.YtdlpdiioggiehaaGreat
