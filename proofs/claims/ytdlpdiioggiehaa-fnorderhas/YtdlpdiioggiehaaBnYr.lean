/- spec's orders: the reasons for which one event must be ahead of another one. Of at most 1048576 threads and steps. spec's orders: what stays, and what is told. Of at most 1048576 threads and steps. spec's orders: what is looked at, laid anew. Of at most 1048576 threads and steps. spec.OrderHas: what must be ahead of what by itself. Of at most 1048576 threads, steps, numbers and rows. spec.OrderHas: what must be ahead of what by itself. Of at most 1048576 threads, steps, numbers and rows. -/
import Derived.Test.YtdlpdiioggiehaaBnYi
import Derived.Test.YtdlpdiioggiehaaOsOk
import Derived.Deep.RegionHeld3
import Derived.Test.YtdlpdiioggiehaaStepGo
import Derived.Deep.OwnRows
import Derived.Deep.CutRange

namespace Go.Proofs.Ytdlpdiioggiehaa
open Go.RowKit

/-- What is looked at: where it lies, its program, its events. -/
structure Lp where
  O : Nat
  a : Option Addr
  b : Nat
  o : Nat
  c : Nat
  ll : List (List M.D)
  g : Nat
  cc : Nat
structure Lp.At (t : Lp) (w : World) : Prop where
  p0 : w.cell? ⟨t.O, 0, none⟩ = some (.slice t.a t.ll.length t.c)
  l0 : w.cell? ⟨t.O, 1, none⟩ = some (.slice (some ⟨t.g, 0, none⟩) (M.deeds t.ll).length t.cc)
  ss : DoSS w t.a t.b t.o t.ll
  dv : DvS w (some ⟨t.g, 0, none⟩) t.g (M.deeds t.ll)
structure Lp.Ok (t : Lp) : Prop where
  l : t.ll.length ≤ 1048576
  ls : ∀ s ∈ t.ll, s.length ≤ 1048576
  dl : (M.deeds t.ll).length ≤ 42
theorem cellC {W W' : World} {p : Addr} {v : Value} (hb : Below W.heap.size W W') (h : W.cell? p = some v) : W'.cell? p = some v := (hb.cell (p := p) (World.block_lt_of_cell? _ _ h)).trans h
theorem Lp.At.below {t : Lp} {w w' : World} (h : t.At w) (hb : Below w.heap.size w w') : t.At w' := ⟨cellC hb h.p0, cellC hb h.l0, h.ss.below hb (Nat.le_refl _), h.dv.bel hb (Nat.le_refl _)⟩
theorem Lp.lt {t : Lp} {n : Nat} {x : M.De} (hx : (M.deeds t.ll)[n]? = some x) : n < (M.deeds t.ll).length := by
  rcases Nat.lt_or_ge n (M.deeds t.ll).length with h | h
  · exact h
  · rw [List.getElem?_eq_none h] at hx; cases hx
theorem Lp.At.el {t : Lp} {w : World} (h : t.At w) {n : Nat} {x : M.De} (hx : (M.deeds t.ll)[n]? = some x) : DvAt w t.g (n * 3) x := by
  have hn := Lp.lt hx
  rw [List.getElem?_eq_getElem hn] at hx
  obtain rfl := Option.some.inj hx
  exact h.dv.at hn
/-- .. and the way that is looked at. -/
structure Lq where
  rb : Nat
  rc : Nat
  wb : Nat
  wc : Nat
  fb : Nat
  fo : Nat
  fc : Nat
  l : List Int
  kb : Nat
  kc : Nat
  rows : List (List Int)
structure Lq.At (u : Lq) (t : Lp) (w : World) : Prop where
  p : t.At w
  c2 : w.cell? ⟨t.O, 2, none⟩ = some (.slice (some ⟨u.rb, 0, none⟩) (M.deeds t.ll).length u.rc)
  c3 : w.cell? ⟨t.O, 3, none⟩ = some (.slice (some ⟨u.wb, 0, none⟩) (M.deeds t.ll).length u.wc)
  c4 : w.cell? ⟨t.O, 4, none⟩ = some (.slice (some ⟨u.fb, u.fo, none⟩) u.l.length u.fc)
  c5 : w.cell? ⟨t.O, 5, none⟩ = some (.slice (some ⟨u.kb, 0, none⟩) (M.deeds t.ll).length u.kc)
  rd : ∀ n x, (M.deeds t.ll)[n]? = some x → w.cell? ⟨u.rb, n, none⟩ = some (.bool (M.reads x.d.k))
  wr : ∀ n x, (M.deeds t.ll)[n]? = some x → w.cell? ⟨u.wb, n, none⟩ = some (.bool (M.writes x.d.k))
  fr : IntS w (some ⟨u.fb, u.fo, none⟩) u.fb u.fo u.l
  len : Hid (u.l.length = (M.deeds t.ll).length)
  rk : ∀ n x, (M.deeds t.ll)[n]? = some x → w.cell? ⟨u.kb, n, none⟩ = some (.int .i64 (M.rankAt u.l u.rows n x))
theorem Lq.At.below {u : Lq} {t : Lp} {w w' : World} (h : u.At t w) (hb : Below w.heap.size w w') : u.At t w' :=
  ⟨h.p.below hb, cellC hb h.c2, cellC hb h.c3, cellC hb h.c4, cellC hb h.c5, fun n x hx => cellC hb (h.rd n x hx), fun n x hx => cellC hb (h.wr n x hx), h.fr.below hb (Nat.le_refl _), h.len, fun n x hx => cellC hb (h.rk n x hx)⟩

set_option maxHeartbeats 1000000 in
set_option maxRecDepth 100000 in
theorem do_any (t : Lp) (n : Nat) (x : M.De) (w : World) (hk : t.Ok) (h : t.At w) (hx : (M.deeds t.ll)[n]? = some x) :
    Calls Try.prog 46 #[.pointer (some ⟨t.O, 0, none⟩), .int .i64 (n : Int)] w fun e w' => e = .returned (.agg #[.int .i64 x.d.k, .int .i64 x.d.p, .int .i64 x.d.v]) ∧ Below w.heap.size w w' := by
  have hn := Lp.lt hx
  have hb1 := below1 w (.cells #[.int .i64 0, .int .i64 0, .int .i64 0] 69)
  have h1 := h.below hb1
  have hox := M.ofEv x (List.mem_of_getElem? hx)
  obtain ⟨c0, c1, c2⟩ := h1.el hx
  have i1 : (n : Int) < (M.deeds t.ll).length := by omega
  have r0 : (w.alloc (.cells #[.int .i64 0, .int .i64 0, .int .i64 0] 69)).cell? ⟨w.heap.size, 0, none⟩ = some (.int .i64 0) := by simp
  have r1 : (w.alloc (.cells #[.int .i64 0, .int .i64 0, .int .i64 0] 69)).cell? ⟨w.heap.size, 1, none⟩ = some (.int .i64 0) := by simp
  have r2 : (w.alloc (.cells #[.int .i64 0, .int .i64 0, .int .i64 0] 69)).cell? ⟨w.heap.size, 2, none⟩ = some (.int .i64 0) := by simp
  have rf : ∀ j, (w.alloc (.cells #[.int .i64 0, .int .i64 0, .int .i64 0] 69)).frozen? ⟨w.heap.size, j, none⟩ = false := by intro j; simp
  have lO : t.O < w.heap.size := World.block_lt_of_cell? _ _ h.p0
  have lg : t.g < w.heap.size := World.block_lt_of_cell? _ _ (h.el hx).c0
  go_enter Try.func46, Try.ntmps46
  go_wp2_with fail
  generalize w.alloc (.cells #[.int .i64 0, .int .i64 0, .int .i64 0] 69) = W at *
  have lw : w.heap.size < W.heap.size := World.block_lt_of_cell? _ _ r0
  have p0 := h1.p0
  have l0 := h1.l0
  have N0 : w.heap.size ≠ t.O := by omega
  have N1 : w.heap.size ≠ t.g := by omega
  have C := l12Do_ev t.a t.b t.o t.c t.ll x W.drew hox hk.l hk.ls (h1.ss.below (Below.refl _ _).drew (Nat.le_refl _))
  go_region_held3 (fun w' => w'.cell? ⟨t.O, 0, none⟩ = some (.slice t.a t.ll.length t.c) ∧ w'.cell? ⟨t.O, 1, none⟩ = some (.slice (some ⟨t.g, 0, none⟩) (M.deeds t.ll).length t.cc) ∧ w'.cell? ⟨t.g, n * 3, none⟩ = some (.int .i64 x.t) ∧ w'.cell? ⟨t.g, n * 3 + 1, none⟩ = some (.int .i64 x.i) ∧ w'.cell? ⟨t.g, n * 3 + 2, none⟩ = some (.bool x.last)) (go_keep) (first
    | (go_at_call 63; refine C.mono ?_; rintro e w1 ⟨rfl, hg1⟩; have hb2 : Below W.heap.size W w1 := (Below.refl _ _).drew.trans hg1; have Y0 := cellC hb2 p0; have Y1 := cellC hb2 l0; have Y2 := cellC hb2 c0; have Y3 := cellC hb2 c1; have Y4 := cellC hb2 c2; have Z0 := cellC hb2 r0; have Z1 := cellC hb2 r1; have Z2 := cellC hb2 r2; have Zf := fun j => (hb2.frozen (p := ⟨w.heap.size, j, none⟩) lw).trans (rf j)))
  go_wp2_with fail
  have hbw := hb1.trans (hb2.mono hb1.size)
  refine bodyPost_ret (v := .agg #[.int .i64 x.d.k, .int .i64 x.d.p, .int .i64 x.d.v]) (by simp [results, Try.results46, go_sem, Z0, Z1, Z2]) rfl ⟨rfl, ?_⟩
  exact ((hbw.setCell (by exact Nat.le_refl _) _).setCell (by exact Nat.le_refl _) _).setCell (by exact Nat.le_refl _) _

set_option maxHeartbeats 400000 in
set_option maxRecDepth 100000 in
theorem sown_any (t : Lp) (a b : Nat) (x y : M.De) (w : World) (_hk : t.Ok) (h : t.At w) (hx : (M.deeds t.ll)[a]? = some x) (hy : (M.deeds t.ll)[b]? = some y) :
    Calls Try.prog 49 #[.pointer (some ⟨t.O, 0, none⟩), .int .i64 (a : Int), .int .i64 (b : Int)] w fun e w' => e = .returned (.bool (M.own a b x y)) ∧ Below w.heap.size w w' := by
  have ha := Lp.lt hx
  have hb := Lp.lt hy
  have i1 : (a : Int) < (M.deeds t.ll).length := by omega
  have i2 : (b : Int) < (M.deeds t.ll).length := by omega
  have K0 := BelowOf.cell h.l0
  have C0 := BelowOf.cell (h.el hx).c0
  have D0 := BelowOf.cell (h.el hy).c0
  haveI : Inhabited (BelowOf w) := ⟨belOf w⟩
  by_cases hab : a < b
  · have hab' : (a : Int) < b := by omega
    go_enter Try.func49, Try.ntmps49
    go_wp2_with fail
    refine wp_region_quiet_bel (by kernel_rfl) (by kernel_rfl) ?_
    repeat (quiet_step (fail))
    refine wpQuiet_nil ?_
    rintro _ ⟨⟨wq, hwq⟩, rfl⟩
    go_wp2_with fail
    go_ret
    exact ⟨ret_bool (by rw [Bool.eq_iff_iff]; simp [M.own, hab]; omega), hwq⟩
  · have hab' : decide ((a : Int) < b) = false := by simp; omega
    go_enter Try.func49, Try.ntmps49
    go_wp2_with fail
    refine wp_region_quiet_bel (by kernel_rfl) (by kernel_rfl) ?_
    iterate 4 (quiet_step (fail))
    iterate 17 go_big_quiet_skip
    iterate 2 (quiet_step (fail))
    refine wpQuiet_nil ?_
    rintro _ ⟨⟨wq, hwq⟩, rfl⟩
    go_wp2_with fail
    go_ret
    exact ⟨ret_bool (by simp [M.own, hab]), hwq⟩

theorem Try.fld0 (k p v : Value) (w : World) : (Instr.field 69 (.agg #[k, p, v]) 0).run Try.prog w = .ok k w := by
  unfold Instr.field
  simp [run_underlying Try.underlying69, part, asAgg, go_sem]
theorem Try.fld1 (k p v : Value) (w : World) : (Instr.field 69 (.agg #[k, p, v]) 1).run Try.prog w = .ok p w := by
  unfold Instr.field
  simp [run_underlying Try.underlying69, part, asAgg, go_sem]

set_option maxHeartbeats 2000000 in
set_option maxRecDepth 100000 in
theorem same_any (t : Lp) (u : Lq) (a b : Nat) (x y : M.De) (w : World) (hk : t.Ok) (h : u.At t w) (hx : (M.deeds t.ll)[a]? = some x) (hy : (M.deeds t.ll)[b]? = some y) :
    Calls Try.prog 51 #[.pointer (some ⟨t.O, 0, none⟩), .int .i64 (a : Int), .int .i64 (b : Int)] w fun e w' => e = .returned (.bool (M.onePl x y)) ∧ Below w.heap.size w w' := by
  have fl := Try.fld1
  have ha := Lp.lt hx
  have hb := Lp.lt hy
  have i1 : (a : Int) < (M.deeds t.ll).length := by omega
  have i2 : (b : Int) < (M.deeds t.ll).length := by omega
  have k2 := h.c2
  have k3 := h.c3
  have rx := h.rd a x hx
  have wx := h.wr a x hx
  have ry := h.rd b y hy
  have wy := h.wr b y hy
  cases hrx : M.reads x.d.k <;> cases hwx : M.writes x.d.k <;> cases hry : M.reads y.d.k <;> cases hwy : M.writes y.d.k
  all_goals
    rw [hrx] at rx
    rw [hwx] at wx
    rw [hry] at ry
    rw [hwy] at wy
    go_enter Try.func51, Try.ntmps51
    go_wp2_with fail
    first
    | (go_ret
       exact ⟨ret_bool (by simp [M.onePl, M.De.uses, M.uses, hrx, hwx, hry, hwy]), Below.refl _ _⟩)
    | (refine (do_any t a x _ hk h.p hx).mono ?_
       rintro e w1 ⟨rfl, hb1⟩
       go_wp2_with fail
       refine (do_any t b y _ hk (h.p.below hb1) hy).mono ?_
       rintro e w2 ⟨rfl, hb2⟩
       go_wp2_with fail
       go_ret
       exact ⟨ret_bool (by simp [M.onePl, M.De.uses, M.uses, hrx, hwx, hry, hwy]), hb1.trans (hb2.mono hb1.size)⟩)

set_option maxHeartbeats 1000000 in
set_option maxRecDepth 100000 in
theorem sread_any (t : Lp) (u : Lq) (a b : Nat) (x y : M.De) (w : World) (_hk : t.Ok) (h : u.At t w) (hx : (M.deeds t.ll)[a]? = some x) (hy : (M.deeds t.ll)[b]? = some y) :
    Calls Try.prog 52 #[.pointer (some ⟨t.O, 0, none⟩), .int .i64 (a : Int), .int .i64 (b : Int)] w fun e w' => e = .returned (.bool (M.sRead u.l a b x y)) ∧ Below w.heap.size w w' := by
  have ha := Lp.lt hx
  have hb := Lp.lt hy
  have hbl : b < u.l.length := by rw [h.len.out]; exact hb
  have i1 : (a : Int) < (M.deeds t.ll).length := by omega
  have i2 : (b : Int) < (M.deeds t.ll).length := by omega
  have i3 : (b : Int) < u.l.length := by omega
  have k2 := h.c2
  have k3 := h.c3
  have k4 := h.c4
  have wx := h.wr a x hx
  have ry := h.rd b y hy
  have fb := h.fr.row b hbl
  have HG : Hid (u.l.getD b 0 = u.l[b]) := by show _ = _; simp [hbl]
  generalize u.l[b] = f at *
  cases hwx : M.writes x.d.k <;> cases hry : M.reads y.d.k
  all_goals
    rw [hwx] at wx
    rw [hry] at ry
    go_enter Try.func52, Try.ntmps52
    go_wp2_with fail
    go_ret
    exact ⟨ret_bool (by rw [M.sRead, HG.out, hwx, hry]; rfl), Below.refl _ _⟩

set_option maxHeartbeats 1000000 in
set_option maxRecDepth 100000 in
theorem sover_any (t : Lp) (u : Lq) (a b : Nat) (x y : M.De) (w : World) (hk : t.Ok) (h : u.At t w) (hx : (M.deeds t.ll)[a]? = some x) (hy : (M.deeds t.ll)[b]? = some y) :
    Calls Try.prog 53 #[.pointer (some ⟨t.O, 0, none⟩), .int .i64 (a : Int), .int .i64 (b : Int)] w fun e w' => e = .returned (.bool (M.sOver u.l u.rows a b x y)) ∧ Below w.heap.size w w' := by
  have ha := Lp.lt hx
  have hb := Lp.lt hy
  have i1 : (a : Int) < (M.deeds t.ll).length := by omega
  have i2 : (b : Int) < (M.deeds t.ll).length := by omega
  have K3 := BelowOf.cell h.c3
  have K5 := BelowOf.cell h.c5
  have WY := BelowOf.cell (h.wr b y hy)
  have RX := BelowOf.cell (h.rk a x hx)
  have RY := BelowOf.cell (h.rk b y hy)
  have C := fun q : BelowOf w => same_any t u a b x y q.x hk (h.below q.h) hx hy
  haveI : Inhabited (BelowOf w) := ⟨belOf w⟩
  go_enter Try.func53, Try.ntmps53
  go_wp2_with fail
  cases hwy : M.writes y.d.k
  · rw [hwy] at WY
    refine wp_region_quiet_bel (by kernel_rfl) (by kernel_rfl) ?_
    iterate 8 (quiet_step (fail))
    iterate 3 go_big_quiet_skip
    iterate 2 (quiet_step (fail))
    iterate 4 go_big_quiet_skip
    iterate 2 (quiet_step (fail))
    iterate 15 go_big_quiet_skip
    iterate 2 (quiet_step (fail))
    refine wpQuiet_nil ?_
    rintro _ ⟨⟨wq, hwq⟩, rfl⟩
    go_wp2_with fail
    go_ret
    exact ⟨ret_bool (by simp [M.sOver, hwy]), hwq⟩
  · rw [hwy] at WY
    by_cases hab : a = b
    · subst hab
      refine wp_region_quiet_bel (by kernel_rfl) (by kernel_rfl) ?_
      iterate 13 (quiet_step (fail))
      iterate 4 go_big_quiet_skip
      iterate 2 (quiet_step (fail))
      iterate 15 go_big_quiet_skip
      iterate 2 (quiet_step (fail))
      refine wpQuiet_nil ?_
      rintro _ ⟨⟨wq, hwq⟩, rfl⟩
      go_wp2_with fail
      go_ret
      exact ⟨ret_bool (by simp [M.sOver]), hwq⟩
    · have hab' : ((a : Int) != b) = true := by simp; omega
      have hab2 : ((a : Int) == b) = false := by simp; omega
      cases ho : M.onePl x y
      · rw [ho] at C
        refine wp_region_quiet_bel (by kernel_rfl) (by kernel_rfl) ?_
        iterate 19 (quiet_step (first | (go_at_call 51; exact Calls.bel_of (C _))))
        iterate 15 go_big_quiet_skip
        iterate 2 (quiet_step (fail))
        refine wpQuiet_nil ?_
        rintro _ ⟨⟨wq, hwq⟩, rfl⟩
        go_wp2_with fail
        go_ret
        exact ⟨ret_bool (by simp [M.sOver, hwy, ho]), hwq⟩
      · rw [ho] at C
        refine wp_region_quiet_bel (by kernel_rfl) (by kernel_rfl) ?_
        repeat (quiet_step (first | (go_at_call 51; exact Calls.bel_of (C _))))
        refine wpQuiet_nil ?_
        rintro _ ⟨⟨wq, hwq⟩, rfl⟩
        go_wp2_with fail
        go_ret
        exact ⟨ret_bool (by simp [M.sOver, hwy, ho, hab2]), hwq⟩

theorem wall13_any (d : M.D) (w : World) : Calls Try.prog 80 #[.agg #[.int .i64 d.k, .int .i64 d.p, .int .i64 d.v]] w fun e w' => e = .returned (.bool (M.isWall d.k)) ∧ Below w.heap.size w w' := by
  cases h : (d.k == 4)
  all_goals
    go_enter Try.func80, Try.ntmps80
    go_wp2_with fail
    go_ret
    exact ⟨ret_bool (by simp [M.isWall, h]), below1 _ _⟩

end Go.Proofs.Ytdlpdiioggiehaa

namespace Go.Proofs.Ytdlpdiioggiehaa
open Go.RowKit

theorem M.mid_step {ds : List M.De} {fr bt : Bool} {n b : Nat} {z : M.De} (hn : n < b) (hz : ds[n]? = some z) : M.midFrom ds fr bt (b - n) n = if (fr && z.d.k == 8) || (bt && z.d.k == 7) then false else M.midFrom ds fr bt (b - (n + 1)) (n + 1) := by
  rw [show b - n = (b - (n + 1)) + 1 from by omega, M.midFrom]
  simp [M.kAt, hz]

set_option maxHeartbeats 2000000 in
set_option maxRecDepth 100000 in
theorem inside_any (t : Lp) (u : Lq) (a b : Nat) (x y : M.De) (w : World) (hk : t.Ok) (h : u.At t w) (hx : (M.deeds t.ll)[a]? = some x) (hy : (M.deeds t.ll)[b]? = some y) (ho : M.own a b x y = true) :
    Calls Try.prog 81 #[.pointer (some ⟨t.O, 0, none⟩), .int .i64 (a : Int), .int .i64 (b : Int)] w fun e w' => e = .returned (.bool (M.inside (M.deeds t.ll) a b x y)) ∧ Below w.heap.size w w' := by
  have fl := Try.fld0
  have ha := Lp.lt hx
  have hb := Lp.lt hy
  have hdl := hk.dl
  have hab : a < b := by simp only [M.own, Bool.and_eq_true, decide_eq_true_eq] at ho; exact ho.1
  go_enter Try.func81, Try.ntmps81
  go_wp2_with fail
  refine (do_any t a x _ hk h.p hx).mono ?_
  rintro e v1 ⟨rfl, hd1⟩
  have hc1 := hd1
  cases h7 : (x.d.k == 7) <;> cases h8 : (y.d.k == 8)
  · go_wp2_with fail
    refine (do_any t b y _ hk (h.p.below hc1) hy).mono ?_
    rintro e v2 ⟨rfl, hd2⟩
    have hc2 := hc1.trans (hd2.mono hc1.size)
    go_wp2_with fail
    refine (sown_any t a b x y _ hk (h.p.below hc2) hx hy).mono ?_
    rw [ho]
    rintro e v3 ⟨rfl, hd3⟩
    have hc3 := hc2.trans (hd3.mono hc2.size)
    go_wp2_with fail
    go_ret
    exact ⟨ret_bool (by simp [M.inside, h7, h8]), hc3⟩
  · go_wp2_with fail
    refine (do_any t b y _ hk (h.p.below hc1) hy).mono ?_
    rintro e v2 ⟨rfl, hd2⟩
    have hc2 := hc1.trans (hd2.mono hc1.size)
    go_wp2_with fail
    refine (sown_any t a b x y _ hk (h.p.below hc2) hx hy).mono ?_
    rw [ho]
    rintro e v3 ⟨rfl, hd3⟩
    have hc3 := hc2.trans (hd3.mono hc2.size)
    go_wp2_with fail
    have HI : Hid (M.inside (M.deeds t.ll) a b x y = M.midFrom (M.deeds t.ll) false true (b - (a + 1)) (a + 1)) := by show _ = _; simp [M.inside, h7, h8]
    go_loopw [9] (fun s9 wr => ∃ n : Nat, s9 = .int .i64 n ∧ a < n ∧ n ≤ b ∧ Hid (M.midFrom (M.deeds t.ll) false true (b - (a + 1)) (a + 1) = M.midFrom (M.deeds t.ll) false true (b - n) n) ∧ Below w.heap.size w wr) (fun s9 _ => b - (intOf s9).toNat)
    case atStart => exact ⟨a + 1, by go_num, by omega, by omega, by show _ = _; rfl, hc3⟩
    case round =>
      clear hc1 hc2 hc3 hd1 hd2 hd3
      obtain ⟨n, rfl, han, hnb, HM, hbw⟩ := hrel
      by_cases hlt : n < b
      · obtain ⟨z, hz⟩ : ∃ z, (M.deeds t.ll)[n]? = some z := ⟨_, List.getElem?_eq_getElem (by omega)⟩
        have HS : Hid (M.midFrom (M.deeds t.ll) false true (b - n) n = if (false && z.d.k == 8) || (true && z.d.k == 7) then false else M.midFrom (M.deeds t.ll) false true (b - (n + 1)) (n + 1)) := M.mid_step hlt hz
        have i3 : (n : Int) < b := by omega
        go_wp2_with fail
        refine (do_any t n z _ hk (h.p.below hbw) hz).mono ?_
        rintro e w1 ⟨rfl, hb1⟩
        cases k7 : (z.d.k == 7)
        case true =>
          go_wp2_with fail
          go_ret
          exact ⟨ret_bool (by rw [HI.out, HM.out, HS.out]; simp [k7]), hbw.trans (hb1.mono hbw.size)⟩
        go_wp2_with fail
        exact ⟨⟨n + 1, by go_num, by omega, by omega, by show _ = _; rw [HM.out, HS.out]; simp [k7], hbw.trans (hb1.mono hbw.size)⟩, by simp [intOf]; omega⟩
      · have hnb' : ¬ (n : Int) < b := by omega
        go_wp2_with fail
        go_ret
        exact ⟨ret_bool (by rw [HI.out, HM.out, show b - n = 0 from by omega]; rfl), hbw⟩
  · go_wp2_with fail
    refine (do_any t b y _ hk (h.p.below hc1) hy).mono ?_
    rintro e v2 ⟨rfl, hd2⟩
    have hc2 := hc1.trans (hd2.mono hc1.size)
    go_wp2_with fail
    refine (sown_any t a b x y _ hk (h.p.below hc2) hx hy).mono ?_
    rw [ho]
    rintro e v3 ⟨rfl, hd3⟩
    have hc3 := hc2.trans (hd3.mono hc2.size)
    go_wp2_with fail
    have HI : Hid (M.inside (M.deeds t.ll) a b x y = M.midFrom (M.deeds t.ll) true false (b - (a + 1)) (a + 1)) := by show _ = _; simp [M.inside, h7, h8]
    go_loopw [9] (fun s9 wr => ∃ n : Nat, s9 = .int .i64 n ∧ a < n ∧ n ≤ b ∧ Hid (M.midFrom (M.deeds t.ll) true false (b - (a + 1)) (a + 1) = M.midFrom (M.deeds t.ll) true false (b - n) n) ∧ Below w.heap.size w wr) (fun s9 _ => b - (intOf s9).toNat)
    case atStart => exact ⟨a + 1, by go_num, by omega, by omega, by show _ = _; rfl, hc3⟩
    case round =>
      clear hc1 hc2 hc3 hd1 hd2 hd3
      obtain ⟨n, rfl, han, hnb, HM, hbw⟩ := hrel
      by_cases hlt : n < b
      · obtain ⟨z, hz⟩ : ∃ z, (M.deeds t.ll)[n]? = some z := ⟨_, List.getElem?_eq_getElem (by omega)⟩
        have HS : Hid (M.midFrom (M.deeds t.ll) true false (b - n) n = if (true && z.d.k == 8) || (false && z.d.k == 7) then false else M.midFrom (M.deeds t.ll) true false (b - (n + 1)) (n + 1)) := M.mid_step hlt hz
        have i3 : (n : Int) < b := by omega
        go_wp2_with fail
        refine (do_any t n z _ hk (h.p.below hbw) hz).mono ?_
        rintro e w1 ⟨rfl, hb1⟩
        cases k8 : (z.d.k == 8)
        case true =>
          go_wp2_with fail
          go_ret
          exact ⟨ret_bool (by rw [HI.out, HM.out, HS.out]; simp [k8]), hbw.trans (hb1.mono hbw.size)⟩
        go_wp2_with fail
        exact ⟨⟨n + 1, by go_num, by omega, by omega, by show _ = _; rw [HM.out, HS.out]; simp [k8], hbw.trans (hb1.mono hbw.size)⟩, by simp [intOf]; omega⟩
      · have hnb' : ¬ (n : Int) < b := by omega
        go_wp2_with fail
        go_ret
        exact ⟨ret_bool (by rw [HI.out, HM.out, show b - n = 0 from by omega]; rfl), hbw⟩
  · go_wp2_with fail
    refine (do_any t b y _ hk (h.p.below hc1) hy).mono ?_
    rintro e v2 ⟨rfl, hd2⟩
    have hc2 := hc1.trans (hd2.mono hc1.size)
    go_wp2_with fail
    refine (sown_any t a b x y _ hk (h.p.below hc2) hx hy).mono ?_
    rw [ho]
    rintro e v3 ⟨rfl, hd3⟩
    have hc3 := hc2.trans (hd3.mono hc2.size)
    go_wp2_with fail
    have HI : Hid (M.inside (M.deeds t.ll) a b x y = M.midFrom (M.deeds t.ll) true true (b - (a + 1)) (a + 1)) := by show _ = _; simp [M.inside, h7, h8]
    go_loopw [9] (fun s9 wr => ∃ n : Nat, s9 = .int .i64 n ∧ a < n ∧ n ≤ b ∧ Hid (M.midFrom (M.deeds t.ll) true true (b - (a + 1)) (a + 1) = M.midFrom (M.deeds t.ll) true true (b - n) n) ∧ Below w.heap.size w wr) (fun s9 _ => b - (intOf s9).toNat)
    case atStart => exact ⟨a + 1, by go_num, by omega, by omega, by show _ = _; rfl, hc3⟩
    case round =>
      clear hc1 hc2 hc3 hd1 hd2 hd3
      obtain ⟨n, rfl, han, hnb, HM, hbw⟩ := hrel
      by_cases hlt : n < b
      · obtain ⟨z, hz⟩ : ∃ z, (M.deeds t.ll)[n]? = some z := ⟨_, List.getElem?_eq_getElem (by omega)⟩
        have HS : Hid (M.midFrom (M.deeds t.ll) true true (b - n) n = if (true && z.d.k == 8) || (true && z.d.k == 7) then false else M.midFrom (M.deeds t.ll) true true (b - (n + 1)) (n + 1)) := M.mid_step hlt hz
        have i3 : (n : Int) < b := by omega
        go_wp2_with fail
        refine (do_any t n z _ hk (h.p.below hbw) hz).mono ?_
        rintro e w1 ⟨rfl, hb1⟩
        cases k8 : (z.d.k == 8)
        case true =>
          go_wp2_with fail
          go_ret
          exact ⟨ret_bool (by rw [HI.out, HM.out, HS.out]; simp [k8]), hbw.trans (hb1.mono hbw.size)⟩
        cases k7 : (z.d.k == 7)
        case true =>
          go_wp2_with fail
          refine (do_any t n z _ hk ((h.p.below hbw).below hb1) hz).mono ?_
          rintro e w2 ⟨rfl, hb2⟩
          go_wp2_with fail
          go_ret
          exact ⟨ret_bool (by rw [HI.out, HM.out, HS.out]; simp [k7]), hbw.trans ((hb1.trans (hb2.mono hb1.size)).mono hbw.size)⟩
        go_wp2_with fail
        refine (do_any t n z _ hk ((h.p.below hbw).below hb1) hz).mono ?_
        rintro e w2 ⟨rfl, hb2⟩
        go_wp2_with fail
        exact ⟨⟨n + 1, by go_num, by omega, by omega, by show _ = _; rw [HM.out, HS.out]; simp [k7, k8], hbw.trans ((hb1.trans (hb2.mono hb1.size)).mono hbw.size)⟩, by simp [intOf]; omega⟩
      · have hnb' : ¬ (n : Int) < b := by omega
        go_wp2_with fail
        go_ret
        exact ⟨ret_bool (by rw [HI.out, HM.out, show b - n = 0 from by omega]; rfl), hbw⟩

/-- A step in a variable. -/
structure DoV (W : World) (X : Nat) (d : M.D) : Prop where
  c0 : W.cell? ⟨X, 0, none⟩ = some (.int .i64 d.k)
  c1 : W.cell? ⟨X, 1, none⟩ = some (.int .i64 d.p)
  c2 : W.cell? ⟨X, 2, none⟩ = some (.int .i64 d.v)
theorem DoV.new (W : World) (d : M.D) : DoV (W.alloc (.cells #[.int .i64 d.k, .int .i64 d.p, .int .i64 d.v] 69)) W.heap.size d := ⟨by simp, by simp, by simp⟩
theorem DoV.below {W W' : World} {X : Nat} {d : M.D} (h : DoV W X d) (hb : Below W.heap.size W W') : DoV W' X d := ⟨cellC hb h.c0, cellC hb h.c1, cellC hb h.c2⟩

set_option maxHeartbeats 2000000 in
set_option maxRecDepth 100000 in
theorem sloose_any (t : Lp) (u : Lq) (a b : Nat) (x y : M.De) (w : World) (hk : t.Ok) (h : u.At t w) (hx : (M.deeds t.ll)[a]? = some x) (hy : (M.deeds t.ll)[b]? = some y) :
    Calls Try.prog 50 #[.pointer (some ⟨t.O, 0, none⟩), .int .i64 (a : Int), .int .i64 (b : Int)] w fun e w' => e = .returned (.bool (M.own a b x y && M.sKeeps (M.deeds t.ll) a b x y)) ∧ Below w.heap.size w w' := by
  have ha := Lp.lt hx
  have hb := Lp.lt hy
  have i2 : (b : Int) < (M.deeds t.ll).length := by omega
  have C := sown_any t a b x y w hk h.p hx hy
  cases ho : M.own a b x y
  case false =>
    rw [ho] at C
    go_enter Try.func50, Try.ntmps50
    go_wp2_with fail
    refine C.mono ?_
    rintro e w1 ⟨rfl, hb1⟩
    go_wp2_with fail
    go_ret
    exact ⟨ret_bool (by simp), hb1⟩
  rw [ho] at C
  go_enter Try.func50, Try.ntmps50
  go_wp2_with fail
  refine C.mono ?_
  rintro e w1 ⟨rfl, hb1⟩
  go_wp2_with fail
  refine (do_any t a x _ hk (h.p.below hb1) hx).mono ?_
  rintro e w2 ⟨rfl, hb2⟩
  have hc2 := hb1.trans (hb2.mono hb1.size)
  have V2 := DoV.new w2 x.d
  have hc3 := hc2.alloc hc2.size (.cells #[.int .i64 x.d.k, .int .i64 x.d.p, .int .i64 x.d.v] 69)
  go_wp2_with fail
  generalize w2.alloc (.cells #[.int .i64 x.d.k, .int .i64 x.d.p, .int .i64 x.d.v] 69) = W2 at *
  generalize w2.heap.size = X at *
  refine (do_any t b y _ hk (h.p.below hc3) hy).mono ?_
  rintro e w3 ⟨rfl, hb3⟩
  have hc4 := hc3.trans (hb3.mono hc3.size)
  have U3 := DoV.new w3 y.d
  have V3 := (V2.below hb3).below (below1 w3 (.cells #[.int .i64 y.d.k, .int .i64 y.d.p, .int .i64 y.d.v] 69))
  have hc5 := hc4.alloc hc4.size (.cells #[.int .i64 y.d.k, .int .i64 y.d.p, .int .i64 y.d.v] 69)
  clear hb1 hb2 hb3 hc2 hc3 hc4 V2 C
  have a0 := V3.c0; have a1 := V3.c1; have a2 := V3.c2
  go_wp2_with fail
  clear a0 a1 a2
  generalize w3.alloc (.cells #[.int .i64 y.d.k, .int .i64 y.d.p, .int .i64 y.d.v] 69) = W3 at *
  generalize w3.heap.size = Y at *
  have C1 := wall13_any x.d W3
  cases q1 : M.isWall x.d.k
  case true =>
    rw [q1] at C1
    refine C1.mono ?_
    rintro e w4 ⟨rfl, hb4⟩
    go_wp2_with fail
    go_ret
    exact ⟨ret_bool (by simp [M.sKeeps, q1]), hc5.trans (hb4.mono hc5.size)⟩
  rw [q1] at C1
  refine C1.mono ?_
  rintro e w4 ⟨rfl, hb4⟩
  have hc6 := hc5.trans (hb4.mono hc5.size)
  have V4 := V3.below hb4
  have U4 := U3.below hb4
  clear C1 V3 U3 hc5 hb4
  have b0 := U4.c0; have b1 := U4.c1; have b2 := U4.c2
  go_wp2_with fail
  clear b0 b1 b2
  have C2 := wall13_any y.d w4
  cases q2 : M.isWall y.d.k
  case true =>
    rw [q2] at C2
    refine C2.mono ?_
    rintro e w5 ⟨rfl, hb5⟩
    go_wp2_with fail
    go_ret
    exact ⟨ret_bool (by simp [M.sKeeps, q2]), hc6.trans (hb5.mono hc6.size)⟩
  rw [q2] at C2
  refine C2.mono ?_
  rintro e w5 ⟨rfl, hb5⟩
  have hc7 := hc6.trans (hb5.mono hc6.size)
  have V5 := V4.below hb5
  have U5 := U4.below hb5
  have a0 := V5.c0
  have b0 := U5.c0
  clear C2 V4 U4 hc6 hb5
  cases q3 : (x.d.k == 5)
  case true =>
    go_wp2_with fail
    go_ret
    exact ⟨ret_bool (by simp [M.sKeeps, q3]), hc7⟩
  cases q4 : (y.d.k == 6)
  case true =>
    go_wp2_with fail
    go_ret
    exact ⟨ret_bool (by simp [M.sKeeps, q4]), hc7⟩
  go_wp2_with fail
  have C3 := inside_any t u a b x y w5 hk (h.below hc7) hx hy ho
  cases q5 : M.inside (M.deeds t.ll) a b x y
  case true =>
    rw [q5] at C3
    refine C3.mono ?_
    rintro e w6 ⟨rfl, hb6⟩
    go_wp2_with fail
    go_ret
    exact ⟨ret_bool (by simp [M.sKeeps, q5]), hc7.trans (hb6.mono hc7.size)⟩
  rw [q5] at C3
  refine C3.mono ?_
  rintro e w6 ⟨rfl, hb6⟩
  have hc8 := hc7.trans (hb6.mono hc7.size)
  have U6 := U5.below hb6
  have h6 := h.below hc8
  clear C3 V5 U5 hc7 hb6 a0 b0
  go_wp2_with fail
  have K0 := BelowOf.cell U6.c0
  have P0 := BelowOf.cell h6.p.p0
  have L0 := BelowOf.cell h6.p.l0
  haveI : Inhabited (BelowOf w6) := ⟨belOf w6⟩
  by_cases k3 : y.d.k = 3
  · have hyb : (M.deeds t.ll)[b] = y := by rw [List.getElem?_eq_getElem hb] at hy; exact Option.some.inj hy
    have hsrc := M.src_ok t.ll b hb (by rw [hyb]; show M.reads y.d.k = false; rw [k3]; rfl)
    have CS := fun q : BelowOf w6 => l12Source_any t.a t.b t.o t.c t.ll (some ⟨t.g, 0, none⟩) t.g t.cc b (M.deeds t.ll)[b].t q.x hb rfl hk.l hk.ls hk.dl ((h6.p.below q.h).ss) ((h6.p.below q.h).dv)
    rw [hsrc, hyb] at CS
    rw [k3] at K0
    clear hsrc hyb
    refine wp_region_quiet_bel (by kernel_rfl) (by kernel_rfl) ?_
    repeat (quiet_step (first | (go_at_call 82; exact Calls.bel_of (CS _))))
    refine wpQuiet_nil ?_
    rintro _ ⟨⟨wq, hwq⟩, rfl⟩
    go_wp2_with fail
    go_ret
    exact ⟨ret_bool (by simp [M.sKeeps, M.copyOf, q1, q3, q5, k3, show M.isWall 3 = false from rfl]), hc8.trans (hwq.mono hc8.size)⟩
  · have k3' : (y.d.k == 3) = false := by simpa using k3
    refine wp_region_quiet_bel (by kernel_rfl) (by kernel_rfl) ?_
    iterate 4 (quiet_step (fail))
    iterate 12 go_big_quiet_skip
    iterate 2 (quiet_step (fail))
    refine wpQuiet_nil ?_
    rintro _ ⟨⟨wq, hwq⟩, rfl⟩
    go_wp2_with fail
    go_ret
    exact ⟨ret_bool (by simp [M.sKeeps, M.copyOf, q1, q2, q3, q4, q5, k3]), hc8.trans (hwq.mono hc8.size)⟩

theorem stays1_any (t : Lp) (u : Lq) (a b : Nat) (x y : M.De) (w : World) (hk : t.Ok) (h : u.At t w) (hx : (M.deeds t.ll)[a]? = some x) (hy : (M.deeds t.ll)[b]? = some y) :
    Calls Try.prog 26 #[.pointer (some ⟨t.O, 0, none⟩), .int .i64 1, .int .i64 (a : Int), .int .i64 (b : Int)] w fun e w' => e = .returned (.bool (M.stays (M.deeds t.ll) 1 a b x y)) ∧ Below w.heap.size w w' := by
  go_enter Try.func26, Try.ntmps26
  go_wp2_with fail
  refine (sown_any t a b x y w hk h.p hx hy).mono ?_
  rintro e w1 ⟨rfl, hb1⟩
  go_wp2_with fail
  go_ret
  exact ⟨rfl, hb1⟩

theorem stays3_any (t : Lp) (u : Lq) (a b : Nat) (x y : M.De) (w : World) (hk : t.Ok) (h : u.At t w) (hx : (M.deeds t.ll)[a]? = some x) (hy : (M.deeds t.ll)[b]? = some y) :
    Calls Try.prog 26 #[.pointer (some ⟨t.O, 0, none⟩), .int .i64 3, .int .i64 (a : Int), .int .i64 (b : Int)] w fun e w' => e = .returned (.bool (M.stays (M.deeds t.ll) 3 a b x y)) ∧ Below w.heap.size w w' := by
  go_enter Try.func26, Try.ntmps26
  go_wp2_with fail
  refine (sloose_any t u a b x y w hk h hx hy).mono ?_
  rintro e w1 ⟨rfl, hb1⟩
  go_wp2_with fail
  go_ret
  exact ⟨rfl, hb1⟩

theorem stays2_any (t : Lp) (u : Lq) (a b : Nat) (x y : M.De) (w : World) (hk : t.Ok) (h : u.At t w) (hx : (M.deeds t.ll)[a]? = some x) (hy : (M.deeds t.ll)[b]? = some y) :
    Calls Try.prog 26 #[.pointer (some ⟨t.O, 0, none⟩), .int .i64 2, .int .i64 (a : Int), .int .i64 (b : Int)] w fun e w' => e = .returned (.bool (M.stays (M.deeds t.ll) 2 a b x y)) ∧ Below w.heap.size w w' := by
  have ha := Lp.lt hx
  have hb := Lp.lt hy
  have i1 : (a : Int) < (M.deeds t.ll).length := by omega
  have i2 : (b : Int) < (M.deeds t.ll).length := by omega
  have C := sown_any t a b x y w hk h.p hx hy
  cases ho : M.own a b x y
  · rw [ho] at C
    go_enter Try.func26, Try.ntmps26
    go_wp2_with fail
    refine C.mono ?_
    rintro e w1 ⟨rfl, hb1⟩
    go_wp2_with fail
    go_ret
    exact ⟨ret_bool (by simp [M.stays, M.late, ho]), hb1⟩
  · rw [ho] at C
    cases hw : M.writes x.d.k
    all_goals
      go_enter Try.func26, Try.ntmps26
      go_wp2_with fail
      refine C.mono ?_
      rintro e w1 ⟨rfl, hb1⟩
      have h1 := h.below hb1
      have k2 := h1.c2
      have k3 := h1.c3
      have wx := h1.wr a x hx
      have ry := h1.rd b y hy
      rw [hw] at wx
      go_wp2_with fail
      go_ret
      exact ⟨ret_bool (by simp [M.stays, M.late, ho, hw]), hb1⟩

set_option maxHeartbeats 400000 in
set_option maxRecDepth 100000 in
theorem told1_any (t : Lp) (u : Lq) (a b : Nat) (x y : M.De) (w : World) (hk : t.Ok) (h : u.At t w) (hx : (M.deeds t.ll)[a]? = some x) (hy : (M.deeds t.ll)[b]? = some y) :
    Calls Try.prog 27 #[.pointer (some ⟨t.O, 0, none⟩), .int .i64 1, .int .i64 (a : Int), .int .i64 (b : Int)] w fun e w' => e = .returned (.bool (M.told u.l u.rows 1 a b x y)) ∧ Below w.heap.size w w' := by
  have ha := Lp.lt hx
  have hb := Lp.lt hy
  have i1 : (a : Int) < (M.deeds t.ll).length := by omega
  have i2 : (b : Int) < (M.deeds t.ll).length := by omega
  have K0 := BelowOf.cell h.p.l0
  have C0 := BelowOf.cell (h.p.el hx).c0
  have D0 := BelowOf.cell (h.p.el hy).c0
  haveI : Inhabited (BelowOf w) := ⟨belOf w⟩
  go_enter Try.func27, Try.ntmps27
  go_wp2_with fail
  refine wp_region_quiet_bel (by kernel_rfl) (by kernel_rfl) ?_
  repeat (quiet_step (fail))
  refine wpQuiet_nil ?_
  rintro _ ⟨⟨wq, hwq⟩, rfl⟩
  have h1 := h.below hwq
  clear K0 C0 D0
  have tw : ((x.t : Int) != (y.t : Int)) = M.two x y := by rw [Bool.eq_iff_iff]; simp [M.two]; omega
  rw [tw]
  clear tw
  go_wp2_with fail
  have C1 := sread_any t u a b x y _ hk h1 hx hy
  cases r1 : M.sRead u.l a b x y
  · rw [r1] at C1
    refine C1.mono ?_
    rintro e w2 ⟨rfl, hb2⟩
    have hc := hwq.trans (hb2.mono hwq.size)
    go_wp2_with fail
    refine (sover_any t u a b x y _ hk (h.below hc) hx hy).mono ?_
    rintro e w3 ⟨rfl, hb3⟩
    go_wp2_with fail
    go_ret
    exact ⟨ret_bool (by simp [M.told, r1]), hc.trans (hb3.mono hc.size)⟩
  · rw [r1] at C1
    refine C1.mono ?_
    rintro e w2 ⟨rfl, hb2⟩
    go_wp2_with fail
    go_ret
    exact ⟨ret_bool (by simp [M.told, r1]), hwq.trans (hb2.mono hwq.size)⟩

set_option maxHeartbeats 400000 in
set_option maxRecDepth 100000 in
theorem told2_any (t : Lp) (u : Lq) (a b : Nat) (x y : M.De) (w : World) (hk : t.Ok) (h : u.At t w) (hx : (M.deeds t.ll)[a]? = some x) (hy : (M.deeds t.ll)[b]? = some y) :
    Calls Try.prog 27 #[.pointer (some ⟨t.O, 0, none⟩), .int .i64 2, .int .i64 (a : Int), .int .i64 (b : Int)] w fun e w' => e = .returned (.bool (M.told u.l u.rows 2 a b x y)) ∧ Below w.heap.size w w' := by
  have ha := Lp.lt hx
  have hb := Lp.lt hy
  have i1 : (a : Int) < (M.deeds t.ll).length := by omega
  have i2 : (b : Int) < (M.deeds t.ll).length := by omega
  have K0 := BelowOf.cell h.p.l0
  have C0 := BelowOf.cell (h.p.el hx).c0
  have D0 := BelowOf.cell (h.p.el hy).c0
  haveI : Inhabited (BelowOf w) := ⟨belOf w⟩
  go_enter Try.func27, Try.ntmps27
  go_wp2_with fail
  refine wp_region_quiet_bel (by kernel_rfl) (by kernel_rfl) ?_
  repeat (quiet_step (fail))
  refine wpQuiet_nil ?_
  rintro _ ⟨⟨wq, hwq⟩, rfl⟩
  have h1 := h.below hwq
  clear K0 C0 D0
  have tw : ((x.t : Int) != (y.t : Int)) = M.two x y := by rw [Bool.eq_iff_iff]; simp [M.two]; omega
  rw [tw]
  clear tw
  cases tt : M.two x y
  · go_wp2_with fail
    refine (sover_any t u a b x y _ hk h1 hx hy).mono ?_
    rintro e w3 ⟨rfl, hb3⟩
    go_wp2_with fail
    go_ret
    exact ⟨ret_bool (by simp [M.told, tt]), hwq.trans (hb3.mono hwq.size)⟩
  · go_wp2_with fail
    have C1 := sread_any t u a b x y _ hk h1 hx hy
    cases r1 : M.sRead u.l a b x y
    · rw [r1] at C1
      refine C1.mono ?_
      rintro e w2 ⟨rfl, hb2⟩
      have hc := hwq.trans (hb2.mono hwq.size)
      go_wp2_with fail
      refine (sover_any t u a b x y _ hk (h.below hc) hx hy).mono ?_
      rintro e w3 ⟨rfl, hb3⟩
      go_wp2_with fail
      go_ret
      exact ⟨ret_bool (by simp [M.told, r1]), hc.trans (hb3.mono hc.size)⟩
    · rw [r1] at C1
      refine C1.mono ?_
      rintro e w2 ⟨rfl, hb2⟩
      go_wp2_with fail
      go_ret
      exact ⟨ret_bool (by simp [M.told, r1, tt]), hwq.trans (hb2.mono hwq.size)⟩

set_option maxHeartbeats 400000 in
set_option maxRecDepth 100000 in
theorem told3_any (t : Lp) (u : Lq) (a b : Nat) (x y : M.De) (w : World) (hk : t.Ok) (h : u.At t w) (hx : (M.deeds t.ll)[a]? = some x) (hy : (M.deeds t.ll)[b]? = some y) :
    Calls Try.prog 27 #[.pointer (some ⟨t.O, 0, none⟩), .int .i64 3, .int .i64 (a : Int), .int .i64 (b : Int)] w fun e w' => e = .returned (.bool (M.told u.l u.rows 3 a b x y)) ∧ Below w.heap.size w w' := by
  have ha := Lp.lt hx
  have hb := Lp.lt hy
  have i1 : (a : Int) < (M.deeds t.ll).length := by omega
  have i2 : (b : Int) < (M.deeds t.ll).length := by omega
  have K0 := BelowOf.cell h.p.l0
  have C0 := BelowOf.cell (h.p.el hx).c0
  have D0 := BelowOf.cell (h.p.el hy).c0
  haveI : Inhabited (BelowOf w) := ⟨belOf w⟩
  go_enter Try.func27, Try.ntmps27
  go_wp2_with fail
  refine wp_region_quiet_bel (by kernel_rfl) (by kernel_rfl) ?_
  repeat (quiet_step (fail))
  refine wpQuiet_nil ?_
  rintro _ ⟨⟨wq, hwq⟩, rfl⟩
  have h1 := h.below hwq
  clear K0 C0 D0
  have tw : ((x.t : Int) != (y.t : Int)) = M.two x y := by rw [Bool.eq_iff_iff]; simp [M.two]; omega
  rw [tw]
  clear tw
  cases tt : M.two x y
  · go_wp2_with fail
    go_ret
    exact ⟨ret_bool (by simp [M.told, tt]), hwq⟩
  · go_wp2_with fail
    have C1 := sread_any t u a b x y _ hk h1 hx hy
    cases r1 : M.sRead u.l a b x y
    · rw [r1] at C1
      refine C1.mono ?_
      rintro e w2 ⟨rfl, hb2⟩
      have hc := hwq.trans (hb2.mono hwq.size)
      go_wp2_with fail
      refine (sover_any t u a b x y _ hk (h.below hc) hx hy).mono ?_
      rintro e w3 ⟨rfl, hb3⟩
      go_wp2_with fail
      go_ret
      exact ⟨ret_bool (by simp [M.told, r1, tt]), hc.trans (hb3.mono hc.size)⟩
    · rw [r1] at C1
      refine C1.mono ?_
      rintro e w2 ⟨rfl, hb2⟩
      go_wp2_with fail
      go_ret
      exact ⟨ret_bool (by simp [M.told, r1, tt]), hwq.trans (hb2.mono hwq.size)⟩

end Go.Proofs.Ytdlpdiioggiehaa

namespace Go.Proofs.Ytdlpdiioggiehaa
open Go.RowKit

theorem step_go1 {P : Program} {ops : Array Oper} {o : Oper} {a : Act} {w : World} {K : Act → World → Prop} {Q : Exit → Act → World → Prop} {E : Prop}
    (hg : o.guard = none) (f : FuncId) (x : Operand) (ts : Array TypeId) (hop : o.op = Op.call { callee := Callee.value (Operand.func f), args := #[x], argTypes := ts })
    (vx : Value) (hx : a.eval x = vx) (he : ∀ args w, (callFunc f args).run P w = .ok (.enter f args) w) {R : Ending → World → Prop} (hc : Calls P f #[vx] w R)
    (hK : ∀ e w', R e w' → ∃ v, e = .returned v ∧ K (a.put o.dst v) w') :
    if Region.wanted o (yielded ops a.tmps) = true then Oper.wp P o a w K Q else E :=
  step_go hg f #[x] ts hop #[vx] (by simp [hx]) he hc hK
theorem l1Writes_bel (d : M.D) (w : World) : Calls Try.prog 47 #[.agg #[.int .i64 d.k, .int .i64 d.p, .int .i64 d.v]] w fun e w' => e = .returned (.bool (M.writes d.k)) ∧ Below w.heap.size w w' :=
  (l1Writes_any d w).mono fun e w' ⟨he, hw⟩ => ⟨he, by rw [hw]; exact below1 _ _⟩
def bools (l : List Bool) : List Value := l.map .bool
theorem Try.infoBool : (Try.prog.info? 4).map (fun i => (i.zero, i.size, i.bytes)) = some (some (.bool false), 1, 1) := by kernel_rfl
theorem ownB_far {w : World} {b i B n : Nat} {v : Value} {xs : List Value} (ho : w.ownsRow B 4 1 v n xs) (hb : b < B) (u : Value) : (w.setCell ⟨b, i, none⟩ u).ownsRow B 4 1 v n xs := by
  refine ⟨ho.1, ?_⟩
  rcases ho.2 with h0 | ⟨g, cap, cur, hv, hg, hh, r⟩
  · exact Or.inl h0
  · exact Or.inr ⟨g, cap, cur, hv, hg, (Below.heap_setCell _ _ _ _ (fun e => by simp at e; omega)).trans hh, r⟩

/-- While what is looked at is laid: its box, which events read, which write. -/
structure Lk (w wr : World) (p l v1 v2 : Value) (r1 r2 : List Bool) : Prop where
  bel : Below w.heap.size w wr
  blk : wr.heap[w.heap.size]? = some (.cells #[p, l, v1, v2, .slice none 0 0, .slice none 0 0] 63 (0, 0))
  own1 : wr.ownsRow (w.heap.size + 1) 4 1 v1 r1.length (bools r1)
  own2 : wr.ownsRow (w.heap.size + 1) 4 1 v2 r2.length (bools r2)
  sep : ∀ k, v1.ownBlock = some k → v2.ownBlock ≠ some k
theorem Lk.lt {w wr : World} {p l v1 v2 : Value} {r1 r2 : List Bool} (h : Lk w wr p l v1 v2 r1 r2) : w.heap.size < wr.heap.size := by
  by_cases hb : w.heap.size < wr.heap.size
  · exact hb
  · have := h.blk; rw [Array.getElem?_eq_none (by omega)] at this; cases this
theorem Lk.c {w wr : World} {p l v1 v2 : Value} {r1 r2 : List Bool} (h : Lk w wr p l v1 v2 r1 r2) : wr.cell? ⟨w.heap.size, 0, none⟩ = some p ∧ wr.cell? ⟨w.heap.size, 1, none⟩ = some l ∧ wr.cell? ⟨w.heap.size, 2, none⟩ = some v1 ∧ wr.cell? ⟨w.heap.size, 3, none⟩ = some v2 ∧ ∀ i, wr.frozen? ⟨w.heap.size, i, none⟩ = false := by
  refine ⟨?_, ?_, ?_, ?_, fun i => ?_⟩
  · simp [World.cell?, h.blk]
  · simp [World.cell?, h.blk]
  · simp [World.cell?, h.blk]
  · simp [World.cell?, h.blk]
  · simp [World.frozen?, h.blk]
theorem Lk.below {w wr w1 : World} {p l v1 v2 : Value} {r1 r2 : List Bool} (h : Lk w wr p l v1 v2 r1 r2) (hb : Below wr.heap.size wr w1) : Lk w w1 p l v1 v2 r1 r2 :=
  ⟨h.bel.trans (hb.mono h.bel.size), (hb.block _ h.lt).trans h.blk, ownsRow_below h.own1 hb, ownsRow_below h.own2 hb, h.sep⟩
theorem Lk.blkG {w wr w3 : World} {p l v1 v2 v : Value} {r1 r2 : List Bool} {n : Nat} {xs : List Value} {o : Obj} (h : Lk w wr p l v1 v2 r1 r2) (hv : wr.ownsRow (w.heap.size + 1) 4 1 v n xs) (hg : (wr.alloc o).grownBy w3 v.ownBlock) : w3.heap[w.heap.size]? = wr.heap[w.heap.size]? ∧ Below w.heap.size w w3 := by
  have hl := h.lt
  have hge := own_ge hv
  refine ⟨(hg.block w.heap.size (by simp; omega) (fun e => by have := hge _ e.symm; omega)).trans ((below1 wr o).block _ hl), ?_⟩
  exact below_grown (h.bel.alloc h.bel.size o) hg (fun k hk => by have := hge k hk; omega) (by simp; omega)
theorem Lk.snoc1 {w wr w3 : World} {p l v1 v2 : Value} {r1 r1' r2 : List Bool} {o : Obj} {g m cap : Nat} (h : Lk w wr p l v1 v2 r1 r2) (hg : (wr.alloc o).grownBy w3 v1.ownBlock) (ho : w3.ownsRow (w.heap.size + 1) 4 1 (.slice (some ⟨g, 0, none⟩) m cap) r1'.length (bools r1')) (hat : v1.ownBlock = some g ∨ g = wr.heap.size + 1) :
    Lk w (w3.setCell ⟨w.heap.size, 2, none⟩ (.slice (some ⟨g, 0, none⟩) m cap)) p l (.slice (some ⟨g, 0, none⟩) m cap) v2 r1' r2 := by
  obtain ⟨hbk, hbl⟩ := h.blkG h.own1 hg
  have hk2 : v2.ownBlock = none ∨ v2.ownBlock ≠ v1.ownBlock := by
    cases hv : v2.ownBlock with
    | none => exact Or.inl rfl
    | some k => exact Or.inr fun e => h.sep k e.symm hv
  refine ⟨hbl.setCell (by exact Nat.le_refl _) _, heap_setCell_same _ _ 2 _ _ _ (hbk.trans h.blk), ownB_far ho (by omega) _, ownB_far ((h.own2.alloc o).kept hg hk2) (by omega) _, fun k hk e => ?_⟩
  have hkg : g = k := by simpa [Value.ownBlock] using hk
  subst hkg
  rcases hat with hat | hat
  · exact h.sep _ hat e
  · have := (h.own2.lt _ e).2
    omega
theorem Lk.snoc2 {w wr w3 : World} {p l v1 v2 : Value} {r1 r2 r2' : List Bool} {o : Obj} {g m cap : Nat} (h : Lk w wr p l v1 v2 r1 r2) (hg : (wr.alloc o).grownBy w3 v2.ownBlock) (ho : w3.ownsRow (w.heap.size + 1) 4 1 (.slice (some ⟨g, 0, none⟩) m cap) r2'.length (bools r2')) (hat : v2.ownBlock = some g ∨ g = wr.heap.size + 1) :
    Lk w (w3.setCell ⟨w.heap.size, 3, none⟩ (.slice (some ⟨g, 0, none⟩) m cap)) p l v1 (.slice (some ⟨g, 0, none⟩) m cap) r1 r2' := by
  obtain ⟨hbk, hbl⟩ := h.blkG h.own2 hg
  have hk1 : v1.ownBlock = none ∨ v1.ownBlock ≠ v2.ownBlock := by
    cases hv : v1.ownBlock with
    | none => exact Or.inl rfl
    | some k => exact Or.inr fun e => h.sep k hv e.symm
  refine ⟨hbl.setCell (by exact Nat.le_refl _) _, heap_setCell_same _ _ 3 _ _ _ (hbk.trans h.blk), ownB_far ((h.own1.alloc o).kept hg hk1) (by omega) _, ownB_far ho (by omega) _, fun k hk e => ?_⟩
  have hkg : g = k := by simpa [Value.ownBlock] using e
  subst hkg
  rcases hat with hat | hat
  · exact h.sep _ hk hat
  · have := (h.own1.lt _ hk).2
    omega

/-- What is looked at, laid. -/
structure Looked (w w' : World) (O : Nat) (a : Option Addr) (c : Nat) (ll : List (List M.D)) (va : Option Addr) (g cc : Nat) (v1 v2 : Value) : Prop where
  bel : Below w.heap.size w w'
  ge : w.heap.size ≤ O
  blk : w'.heap[O]? = some (.cells #[.slice a ll.length c, .slice va (M.deeds ll).length cc, v1, v2, .slice none 0 0, .slice none 0 0] 63 (0, 0))
  dv : DvS w' va g (M.deeds ll)
  own1 : w'.ownsRow (O + 1) 4 1 v1 (M.deeds ll).length (bools ((M.deeds ll).map fun x => M.reads x.d.k))
  own2 : w'.ownsRow (O + 1) 4 1 v2 (M.deeds ll).length (bools ((M.deeds ll).map fun x => M.writes x.d.k))

set_option maxHeartbeats 2000000 in
set_option maxRecDepth 100000 in
theorem l13Look_any (a : Option Addr) (b o c : Nat) (ll : List (List M.D)) (w : World) (hp : M.prog ll = true) (hl : ll.length ≤ 1048576) (hls : ∀ t ∈ ll, t.length ≤ 1048576) (hdl : (M.deeds ll).length ≤ 42) (h : DoSS w a b o ll) :
    Calls Try.prog 24 #[.agg #[.slice a ll.length c]] w fun e w' => ∃ (O : Nat) (va : Option Addr) (g cc : Nat) (v1 v2 : Value), e = .returned (.pointer (some ⟨O, 0, none⟩)) ∧ Looked w w' O a c ll va g cc v1 v2 := by
  obtain ⟨i0, hi, hz0, hz1, hz2⟩ := info_parts Try.infoBool
  have HE : Hid (M.evAll ll = (M.deeds ll).map M.De.ev) := by show _ = _; simp [M.evAll, hp, M.events]
  have hb1 := below1 w (.cells #[.slice a ll.length c] 25)
  have kp : (w.alloc (.cells #[.slice a ll.length c] 25)).cell? ⟨w.heap.size, 0, none⟩ = some (.slice a ll.length c) := by simp
  have hp1 := h.below hb1 (Nat.le_refl _)
  go_enter Try.func24, Try.ntmps24
  go_wp2_with fail
  generalize w.alloc (.cells #[.slice a ll.length c] 25) = W at *
  have C := sexecEvents_any a b o c ll W.drew hl hls (hp1.below (Below.refl _ _).drew (Nat.le_refl _))
  go_region_held3 (fun w' => w'.cell? ⟨w.heap.size, 0, none⟩ = some (.slice a ll.length c)) (go_keep) (first
    | (go_at_call 31; refine C.mono ?_; rintro e w2 ⟨v2, rfl, hown, hb3⟩; obtain ⟨va, g, cap, rfl, hev, _, _⟩ := own_rs M.Ev.len hown; rw [HE.out] at hev; have hd := DvS.of hev; have hle : (M.evAll ll).length = (M.deeds ll).length := (by rw [HE.out, List.length_map]); rw [hle]; clear hle hev hown; have hW2 : Below W.heap.size W w2 := (Below.refl _ _).drew.trans hb3; have Z0 := cellC hW2 kp))
  have hbw2 : Below w.heap.size w w2 := hb1.trans (hW2.mono hb1.size)
  have hs2 : DoSS w2 a b o ll := hp1.below hW2 (Nat.le_refl _)
  have k0 : Lk w2 (w2.alloc (.cells #[.slice a ll.length c, .slice va (M.deeds ll).length cap, .slice none 0 0, .slice none 0 0, .slice none 0 0, .slice none 0 0] 63)) (.slice a ll.length c) (.slice va (M.deeds ll).length cap) (.slice none 0 0) (.slice none 0 0) [] [] := ⟨below1 _ _, alloc_new _ _ _ rfl, World.ownsRow_nil _ _ _ _, World.ownsRow_nil _ _ _ _, fun k hk => by simp [Value.ownBlock] at hk⟩
  generalize w2.alloc (.cells #[.slice a ll.length c, .slice va (M.deeds ll).length cap, .slice none 0 0, .slice none 0 0, .slice none 0 0, .slice none 0 0] 63) = W0 at k0 ⊢
  clear hb3 hW2 Z0 C hp1 kp hb1 h HE
  have heDo : ∀ args w, (callFunc 46 args).run Try.prog w = .ok (.enter 46 args) w := enters_of Try.func46 (by kernel_rfl) rfl
  have heR : ∀ args w, (callFunc 45 args).run Try.prog w = .ok (.enter 45 args) w := enters_of Try.func45 (by kernel_rfl) rfl
  have heW : ∀ args w, (callFunc 47 args).run Try.prog w = .ok (.enter 47 args) w := enters_of Try.func47 (by kernel_rfl) rfl
  go_wp2_with fail
  go_loopw [4] (fun s4 wr => ∃ (n : Nat) (v1 v2 : Value) (r1 r2 : List Bool), s4 = .int .i64 n ∧ n ≤ (M.deeds ll).length ∧ Hid (r1 = ((M.deeds ll).take n).map fun x => M.reads x.d.k) ∧ Hid (r2 = ((M.deeds ll).take n).map fun x => M.writes x.d.k) ∧ r1.length ≤ 42 ∧ r2.length ≤ 42 ∧ Lk w2 wr (.slice a ll.length c) (.slice va (M.deeds ll).length cap) v1 v2 r1 r2) (fun s4 _ => (M.deeds ll).length - (intOf s4).toNat)
  case atStart => exact ⟨0, _, _, [], [], rfl, Nat.zero_le _, by show _ = _; simp, by show _ = _; simp, by simp, by simp, k0⟩
  case round =>
    clear k0
    obtain ⟨n, v1, v2, r1, r2, rfl, hn, HR1, HR2, hr1, hr2, k⟩ := hrel
    by_cases hlt : n < (M.deeds ll).length
    · obtain ⟨rfl⟩ := hd.addr (by omega)
      obtain ⟨x, hx⟩ : ∃ x, (M.deeds ll)[n]? = some x := ⟨_, List.getElem?_eq_getElem hlt⟩
      have HT : Hid ((M.deeds ll).take (n + 1) = (M.deeds ll).take n ++ [x]) := by
        show _ = _
        rw [List.getElem?_eq_getElem hlt] at hx
        rw [List.take_succ_eq_append_getElem hlt, Option.some.inj hx]
      have i1 : (n : Int) < (M.deeds ll).length := by omega
      obtain ⟨t, ht⟩ : ∃ t : Lp, t = ⟨w2.heap.size, a, b, o, c, ll, g, cap⟩ := ⟨_, rfl⟩
      have hOk : t.Ok := by subst ht; exact ⟨hl, hls, hdl⟩
      have tAt : ∀ W' u1 u2 s1 s2, Lk w2 W' (.slice a ll.length c) (.slice (some ⟨g, 0, none⟩) (M.deeds ll).length cap) u1 u2 s1 s2 → Lp.At ⟨w2.heap.size, a, b, o, c, ll, g, cap⟩ W' := fun W' u1 u2 s1 s2 kk => ⟨kk.c.1, kk.c.2.1, hs2.below kk.bel (Nat.le_refl _), hd.bel kk.bel (Nat.le_refl _)⟩
      rw [ht] at hOk
      clear ht t
      have doC := fun W' (kk : Lp.At ⟨w2.heap.size, a, b, o, c, ll, g, cap⟩ W') => do_any ⟨w2.heap.size, a, b, o, c, ll, g, cap⟩ n x W' hOk kk hx
      have c1 := k.c.2.1
      have c2 := k.c.2.2.1
      have fz := k.c.2.2.2.2
      have lk := k.lt
      go_wp2_with fail
      go_cut [4] from 10 to 44 (fun s4 wx => s4 = .int .i64 n ∧ ∃ gp capp, Lk w2 wx (.slice a ll.length c) (.slice (some ⟨g, 0, none⟩) (M.deeds ll).length cap) (.slice (some ⟨gp, 0, none⟩) (r1.length + 1) capp) v2 (r1 ++ [M.reads x.d.k]) r2)
      case first =>
        go_region_law (first
          | (refine step_go2 (by rfl) 46 _ _ _ (by rfl) _ _ (by rfl) (by rfl) heDo (doC _ (tAt _ _ _ _ _ (k.below (Below.refl _ _).drew))) ?_; rintro e p3 ⟨rfl, hp3⟩; have kp3 := k.below ((Below.refl _ _).drew.trans hp3); have cp3 := kp3.c.2.2.1; have fp3 := kp3.c.2.2.2.2; refine ⟨_, rfl, ?_⟩)
          | (refine step_go1 (by rfl) 45 _ _ (by rfl) _ (by rfl) heR (l1Reads_bel x.d p3) ?_; rintro e p4 ⟨rfl, hp4⟩; have kp4 := kp3.below hp4; have cp4 := kp4.c.2.2.1; have fp4 := kp4.c.2.2.2.2; have lp4 := kp4.lt; refine ⟨_, rfl, ?_⟩)
          | (refine step_append_lies _ (by rfl) _ _ _ (by rfl) (w2.heap.size + 1) 4 i0 _ 1 1 Try.underlying61 hi hz0 hz1 hz2 rfl (by omega) v1 r1.length (bools r1) (by rfl) (kp4.own1.alloc _) ⟨p4.heap.size, 0, none⟩ 1 1 [.bool (M.reads x.d.k)] (by rfl) (by rfl) (World.news_of_block (cs := #[.bool (M.reads x.d.k)]) (t := 4) (fr := (0, 0)) (heap_alloc_new p4 _)) (by simp [Value.oneCell']) (by omega) (by unfold maxLen; omega) (by omega) (by simp only [World.size_alloc]; omega) (p4.heap.size + 1) (by simp) ?_; intro gp capp p5 hownp hgrp hatp hltp; have hop : p5.ownsRow (w2.heap.size + 1) 4 1 (.slice (some ⟨gp, 0, none⟩) (r1.length + 1) capp) (r1 ++ [(M.reads x.d.k)]).length (bools (r1 ++ [(M.reads x.d.k)])) := (by rw [List.length_append]; simpa [bools] using hownp); have kp5 := kp4.snoc1 hgrp hop hatp; have hbkp := (kp4.blkG kp4.own1 hgrp).1; have cp5 : p5.cell? ⟨w2.heap.size, 2, none⟩ = some v1 := (World.cell?_of_block hbkp).trans cp4; have fp5 : ∀ i, p5.frozen? ⟨w2.heap.size, i, none⟩ = false := fun i => (World.frozen?_of_block hbkp).trans (fp4 i); clear hownp hop hgrp hatp hltp hbkp))
        all_goals
          go_wp2_with fail
          go_meet
          case rel => exact ⟨rfl, _, _, kp5⟩
      case rest =>
        obtain ⟨rfl, gp, capp, kp5⟩ := hcut
        clear c1 c2 fz lk k
        have c3 := kp5.c.2.2.2.1
        have fz := kp5.c.2.2.2.2
        have lk := kp5.lt
        go_wp2_with fail
        go_region_law (first
          | (refine step_go2 (by rfl) 46 _ _ _ (by rfl) _ _ (by rfl) (by rfl) heDo (doC _ (tAt _ _ _ _ _ (kp5.below (Below.refl _ _).drew))) ?_; rintro e q3 ⟨rfl, hq3⟩; have kq3 := kp5.below ((Below.refl _ _).drew.trans hq3); have cq3 := kq3.c.2.2.2.1; have fq3 := kq3.c.2.2.2.2; refine ⟨_, rfl, ?_⟩)
          | (refine step_go1 (by rfl) 47 _ _ (by rfl) _ (by rfl) heW (l1Writes_bel x.d q3) ?_; rintro e q4 ⟨rfl, hq4⟩; have kq4 := kq3.below hq4; have cq4 := kq4.c.2.2.2.1; have fq4 := kq4.c.2.2.2.2; have lq4 := kq4.lt; refine ⟨_, rfl, ?_⟩)
          | (refine step_append_lies _ (by rfl) _ _ _ (by rfl) (w2.heap.size + 1) 4 i0 _ 1 1 Try.underlying61 hi hz0 hz1 hz2 rfl (by omega) v2 r2.length (bools r2) (by rfl) (kq4.own2.alloc _) ⟨q4.heap.size, 0, none⟩ 1 1 [.bool (M.writes x.d.k)] (by rfl) (by rfl) (World.news_of_block (cs := #[.bool (M.writes x.d.k)]) (t := 4) (fr := (0, 0)) (heap_alloc_new q4 _)) (by simp [Value.oneCell']) (by omega) (by unfold maxLen; omega) (by omega) (by simp only [World.size_alloc]; omega) (q4.heap.size + 1) (by simp) ?_; intro gq capq q5 hownq hgrq hatq hltq; have hoq : q5.ownsRow (w2.heap.size + 1) 4 1 (.slice (some ⟨gq, 0, none⟩) (r2.length + 1) capq) (r2 ++ [(M.writes x.d.k)]).length (bools (r2 ++ [(M.writes x.d.k)])) := (by rw [List.length_append]; simpa [bools] using hownq); have kq5 := kq4.snoc2 hgrq hoq hatq; have hbkq := (kq4.blkG kq4.own2 hgrq).1; have cq5 : q5.cell? ⟨w2.heap.size, 3, none⟩ = some v2 := (World.cell?_of_block hbkq).trans cq4; have fq5 : ∀ i, q5.frozen? ⟨w2.heap.size, i, none⟩ = false := fun i => (World.frozen?_of_block hbkq).trans (fq4 i); clear hownq hoq hgrq hatq hltq hbkq))
        all_goals
          go_wp2_with fail
          go_roundw
          case rel =>
            refine ⟨n + 1, _, _, r1 ++ [M.reads x.d.k], r2 ++ [M.writes x.d.k], by go_num, by omega, ?_, ?_, ?_, ?_, kq5⟩
            · show _ = _; rw [HR1.out, HT.out, List.map_append]; rfl
            · show _ = _; rw [HR2.out, HT.out, List.map_append]; rfl
            · rw [HR1.out]; simp; omega
            · rw [HR2.out]; simp; omega
          case measure => simp [intOf]; omega
    · have c1 := k.c.2.1
      go_wp2_with fail
      go_ret
      have e1 : r1 = (M.deeds ll).map fun x => M.reads x.d.k := by rw [HR1.out, List.take_of_length_le (by omega)]
      have e2 : r2 = (M.deeds ll).map fun x => M.writes x.d.k := by rw [HR2.out, List.take_of_length_le (by omega)]
      have o1 := k.own1
      have o2 := k.own2
      rw [e1, List.length_map] at o1
      rw [e2, List.length_map] at o2
      exact ⟨w2.heap.size, va, g, cap, v1, v2, rfl, ⟨hbw2.trans (k.bel.mono hbw2.size), hbw2.size, k.blk, hd.bel k.bel (Nat.le_refl _), o1, o2⟩⟩


end Go.Proofs.Ytdlpdiioggiehaa

namespace Go.Proofs.Ytdlpdiioggiehaa
open Go.RowKit

namespace M
theorem idx_at {l : List Int} {v : Int} {n : Nat} (hn : n < l.length) (h : l[n] = v) (hb : ∀ i (_ : i < n) (hi : i < l.length), l[i] ≠ v) : idx l v = n := by
  have : l.findIdx? (· == v) = some n := by
    rw [List.findIdx?_eq_some_iff_getElem]
    exact ⟨hn, by simpa using h, fun j hj => by simpa using hb j hj (by omega)⟩
  simp [idx, this]
theorem idx_not {l : List Int} {v : Int} (h : ∀ i (_ : i < l.length), l[i] ≠ v) : idx l v = -1 := by
  have : l.findIdx? (· == v) = none := by
    rw [List.findIdx?_eq_none_iff]
    intro x hx
    obtain ⟨i, hi, rfl⟩ := List.getElem_of_mem hx
    simpa using h i hi
  simp [idx, this]
end M

set_option maxHeartbeats 400000 in
theorem l13Rank_any (a : Option Addr) (b o c : Nat) (l : List Int) (v : Int) (w : World) (hl : l.length ≤ 1048576) (h : IntS w a b o l) :
    Calls Try.prog 48 #[.slice a l.length c, .int .i64 v] w fun e w' => e = .returned (.int .i64 (M.idx l v)) ∧ w' = w := by
  go_enter Try.func48, Try.ntmps48
  go_wp2_with fail
  go_loopw [5] (fun s5 wr => ∃ n : Nat, s5 = .int .i64 n ∧ n ≤ l.length ∧ Hid (∀ i (_ : i < n) (h : i < l.length), l[i] ≠ v) ∧ wr = w) (fun s5 _ => l.length - (intOf s5).toNat)
  case atStart => exact ⟨0, rfl, Nat.zero_le _, fun i hi => absurd hi (Nat.not_lt_zero _), rfl⟩
  case round =>
    obtain ⟨n, rfl, hn, HA, rfl⟩ := hrel
    by_cases hlt : n < l.length
    · obtain ⟨rfl⟩ := h.addr (by omega)
      have hx := h.row n hlt
      obtain ⟨y, hy⟩ : ∃ y, l[n] = y := ⟨_, rfl⟩
      have HY : Hid (l[n] = y) := hy
      rw [hy] at hx
      clear hy
      have i1 : (n : Int) < l.length := by omega
      by_cases e : y = v
      · subst e
        go_wp2_with fail
        go_ret
        exact ⟨by rw [M.idx_at hlt HY.out HA.out]; rfl, rfl⟩
      · have e' : (y == v) = false := by simpa using e
        go_wp2_with fail
        exact ⟨⟨n + 1, by go_num, by omega, fun i hi hl => by
          by_cases ei : i = n
          · subst ei; rw [HY.out]; exact e
          · exact HA.out i (by omega) hl, trivial⟩, by simp [intOf]; omega⟩
    · go_wp2_with fail
      go_ret
      exact ⟨by rw [M.idx_not (fun i hi => HA.out i (by omega) hi)]; rfl, rfl⟩

theorem cellBut {O : Nat} {W W' : World} {p : Addr} {v : Value} (hb : But O W W') (h : W.cell? p = some v) (hne : p.block ≠ O) : W'.cell? p = some v := (hb.cell (p := p) (World.block_lt_of_cell? _ _ h) hne).trans h
theorem But.low {O : Nat} {w0 w w' : World} (h : Below w0.heap.size w0 w) (k : But O w w') (hO : w0.heap.size ≤ O) : Below w0.heap.size w0 w' :=
  ⟨k.os.trans h.os, k.tape.trans h.tape, k.output.trans h.output, Nat.le_trans h.size k.size, fun i hi => (k.block i (Nat.lt_of_lt_of_le hi h.size) (by omega)).trans (h.block i hi)⟩

/-- While the way is set: the box that it is set in, the way's own box, the row of ranks. -/
structure Wk (w wr : World) (O : Nat) (p l v1 v2 fr od : Value) (n : Nat) (f : Nat → Int) : Prop where
  but : But O w wr
  blk : wr.heap[O]? = some (.cells #[p, l, v1, v2, fr, .slice (some ⟨w.heap.size + 1, 0, none⟩) n n] 63 (0, 0))
  x0 : wr.cell? ⟨w.heap.size, 0, none⟩ = some fr
  x1 : wr.cell? ⟨w.heap.size, 1, none⟩ = some od
  row : wr.rowIs (w.heap.size + 1) 3 n (fun i => .int .i64 (f i))
theorem Wk.lt {w wr : World} {O : Nat} {p l v1 v2 fr od : Value} {n : Nat} {f : Nat → Int} (h : Wk w wr O p l v1 v2 fr od n f) : w.heap.size + 1 < wr.heap.size := h.row.lt
theorem Wk.below {w wr w1 : World} {O : Nat} {p l v1 v2 fr od : Value} {n : Nat} {f : Nat → Int} (h : Wk w wr O p l v1 v2 fr od n f) (hO : O < w.heap.size) (hb : Below wr.heap.size wr w1) : Wk w w1 O p l v1 v2 fr od n f := by
  have hl := h.lt
  exact ⟨h.but.trans (But.of hb), (hb.block _ (by omega)).trans h.blk, cellC hb h.x0, cellC hb h.x1, h.row.of_block (hb.block _ hl)⟩
theorem Wk.store {w wr : World} {O : Nat} {p l v1 v2 fr od : Value} {n : Nat} {f : Nat → Int} (h : Wk w wr O p l v1 v2 fr od n f) (hO : O < w.heap.size) (i : Nat) (x : Int) : Wk w (wr.setCell ⟨w.heap.size + 1, i, none⟩ (.int .i64 x)) O p l v1 v2 fr od n (fun j => if j = i then x else f j) := by
  refine ⟨h.but.setCell (Or.inl (by show w.heap.size ≤ w.heap.size + 1; omega)) _, (Below.heap_setCell _ _ _ _ (by show O ≠ w.heap.size + 1; omega)).trans h.blk, ?_, ?_, (h.row.set i (.int .i64 x)).congr (fun j _ => ?_)⟩
  · rw [World.cell?_setCell_other _ _ _ _ (fun e => by have := congrArg Addr.block e; simp at this)]; exact h.x0
  · rw [World.cell?_setCell_other _ _ _ _ (fun e => by have := congrArg Addr.block e; simp at this)]; exact h.x1
  · by_cases e : j = i <;> simp [e]
theorem Wk.c {w wr : World} {O : Nat} {p l v1 v2 fr od : Value} {n : Nat} {f : Nat → Int} (h : Wk w wr O p l v1 v2 fr od n f) : wr.cell? ⟨O, 0, none⟩ = some p ∧ wr.cell? ⟨O, 1, none⟩ = some l ∧ wr.cell? ⟨O, 2, none⟩ = some v1 ∧ wr.cell? ⟨O, 3, none⟩ = some v2 ∧ wr.cell? ⟨O, 4, none⟩ = some fr ∧ wr.cell? ⟨O, 5, none⟩ = some (.slice (some ⟨w.heap.size + 1, 0, none⟩) n n) := by
  refine ⟨?_, ?_, ?_, ?_, ?_, ?_⟩
  all_goals simp [World.cell?, h.blk]

theorem DvS.but {w w' : World} {O : Nat} {va : Option Addr} {g : Nat} {l : List M.De} (h : DvS w va g l) (hb : But O w w') (hne : g ≠ O) : DvS w' va g l :=
  ⟨h.addr, fun i hi j hj => by
    have h1 := h.row i hi j hj
    match j, hj with
    | 0, _ => exact cellBut hb h1 hne
    | 1, _ => exact cellBut hb h1 hne
    | 2, _ => exact cellBut hb h1 hne⟩

set_option maxHeartbeats 2000000 in
set_option maxRecDepth 100000 in
theorem way_any (t : Lp) (u : Lq) (w0 w : World) (od : Nat) (hk : t.Ok) (hpl : ∀ x ∈ M.deeds t.ll, x.uses = true → 0 ≤ x.d.p ∧ x.d.p < 3) (hpos : 0 < (M.deeds t.ll).length) (HL : Hid (u.l.length = (M.deeds t.ll).length)) (H3 : Hid (u.rows.length = 3)) (hrl : ∀ r ∈ u.rows, r.length ≤ 1048576) (rb ro : Nat)
    (h0 : Below w0.heap.size w0 w) (hO : w0.heap.size ≤ t.O) (hOl : t.O < w.heap.size) (ss : DoSS w0 t.a t.b t.o t.ll) (hf : IntS w0 (some ⟨u.fb, u.fo, none⟩) u.fb u.fo u.l) (hr : IntSS w0 (some ⟨rb, ro, none⟩) rb ro u.rows)
    (blk : w.heap[t.O]? = some (.cells #[.slice t.a t.ll.length t.c, .slice (some ⟨t.g, 0, none⟩) (M.deeds t.ll).length t.cc, .slice (some ⟨u.rb, 0, none⟩) (M.deeds t.ll).length u.rc, .slice (some ⟨u.wb, 0, none⟩) (M.deeds t.ll).length u.wc, .slice none 0 0, .slice none 0 0] 63 (0, 0)))
    (dv : DvS w (some ⟨t.g, 0, none⟩) t.g (M.deeds t.ll)) (rd : ∀ n x, (M.deeds t.ll)[n]? = some x → w.cell? ⟨u.rb, n, none⟩ = some (.bool (M.reads x.d.k))) (wrt : ∀ n x, (M.deeds t.ll)[n]? = some x → w.cell? ⟨u.wb, n, none⟩ = some (.bool (M.writes x.d.k))) (hkb : u.kb = w.heap.size + 1) (hkc : u.kc = (M.deeds t.ll).length) :
    Calls Try.prog 25 #[.pointer (some ⟨t.O, 0, none⟩), .agg #[.slice (some ⟨u.fb, u.fo, none⟩) u.l.length u.fc, .slice (some ⟨rb, ro, none⟩) u.rows.length od]] w fun e w' => e = .returned (.tuple #[]) ∧ u.At t w' ∧ But t.O w w' := by
  have hdl := hk.dl
  have fl := Try.fld1
  have hmk := run_make_row' (P := Try.prog) 26 3 (.int .i64 0) 8 Try.underlying26 Try.infoInt rfl .i64 .i64 (M.deeds t.ll).length (by omega) (by omega)
  have b1 : w.cell? ⟨t.O, 1, none⟩ = some (.slice (some ⟨t.g, 0, none⟩) (M.deeds t.ll).length t.cc) := by simp [World.cell?, blk]
  have b4 : w.cell? ⟨t.O, 4, none⟩ = some (.slice none 0 0) := by simp [World.cell?, blk]
  have b5 : w.cell? ⟨t.O, 5, none⟩ = some (.slice none 0 0) := by simp [World.cell?, blk]
  have bf : ∀ i, w.frozen? ⟨t.O, i, none⟩ = false := fun i => by simp [World.frozen?, blk]
  go_enter Try.func25, Try.ntmps25
  go_wp2_with fail
  have k0 : Wk w ((((w.setCell ⟨t.O, 4, none⟩ (.slice (some ⟨u.fb, u.fo, none⟩) u.l.length u.fc)).setCell ⟨t.O, 5, none⟩ (.slice (some ⟨w.heap.size + 1, 0, none⟩) (M.deeds t.ll).length (M.deeds t.ll).length)).alloc (.cells #[.slice (some ⟨u.fb, u.fo, none⟩) u.l.length u.fc, .slice (some ⟨rb, ro, none⟩) u.rows.length od] 29)).alloc (.cells (madeCells #[.int .i64 0] (M.deeds t.ll).length) 3)) t.O (.slice t.a t.ll.length t.c) (.slice (some ⟨t.g, 0, none⟩) (M.deeds t.ll).length t.cc) (.slice (some ⟨u.rb, 0, none⟩) (M.deeds t.ll).length u.rc) (.slice (some ⟨u.wb, 0, none⟩) (M.deeds t.ll).length u.wc) (.slice (some ⟨u.fb, u.fo, none⟩) u.l.length u.fc) (.slice (some ⟨rb, ro, none⟩) u.rows.length od) (M.deeds t.ll).length (fun _ => 0) := by
    have e1 := heap_setCell_same w t.O 4 _ _ (.slice (some ⟨u.fb, u.fo, none⟩) u.l.length u.fc) blk
    have e2 := heap_setCell_same _ t.O 5 _ _ (.slice (some ⟨w.heap.size + 1, 0, none⟩) (M.deeds t.ll).length (M.deeds t.ll).length) e1
    refine ⟨(((((But.refl t.O w).setCell (Or.inr rfl) _).setCell (Or.inr rfl) _).alloc _).alloc _), ?_, by simp [go_sem], by simp [go_sem], ?_⟩
    · rw [alloc_old _ _ _ (by simp; omega), alloc_old _ _ _ (by simp; omega)]; exact e2
    · have := World.rowIs_made (((w.setCell ⟨t.O, 4, none⟩ (.slice (some ⟨u.fb, u.fo, none⟩) u.l.length u.fc)).setCell ⟨t.O, 5, none⟩ (.slice (some ⟨w.heap.size + 1, 0, none⟩) (M.deeds t.ll).length (M.deeds t.ll).length)).alloc (.cells #[.slice (some ⟨u.fb, u.fo, none⟩) u.l.length u.fc, .slice (some ⟨rb, ro, none⟩) u.rows.length od] 29)) (.int .i64 0) (M.deeds t.ll).length 3
      simpa using this
  generalize ((((w.setCell ⟨t.O, 4, none⟩ (.slice (some ⟨u.fb, u.fo, none⟩) u.l.length u.fc)).setCell ⟨t.O, 5, none⟩ (.slice (some ⟨w.heap.size + 1, 0, none⟩) (M.deeds t.ll).length (M.deeds t.ll).length)).alloc (.cells #[.slice (some ⟨u.fb, u.fo, none⟩) u.l.length u.fc, .slice (some ⟨rb, ro, none⟩) u.rows.length od] 29)).alloc (.cells (madeCells #[.int .i64 0] (M.deeds t.ll).length) 3)) = W0 at k0 ⊢
  clear hmk b1 b4 b5 bf
  obtain ⟨x0, hx0⟩ : ∃ x, (M.deeds t.ll)[0]? = some x := ⟨_, List.getElem?_eq_getElem hpos⟩
  have b0 : w.cell? ⟨t.O, 0, none⟩ = some (.slice t.a t.ll.length t.c) := by simp [World.cell?, blk]
  have hgO : t.g ≠ t.O := fun e => by
    have h1 := (dv.at hpos).c0
    rw [e, Nat.zero_mul, b0] at h1
    cases h1
  have hwO : u.wb ≠ t.O := fun e => by
    have h1 := wrt 0 x0 hx0
    rw [e, b0] at h1
    cases h1
  have hrO : u.rb ≠ t.O := fun e => by
    have h1 := rd 0 x0 hx0
    rw [e, b0] at h1
    cases h1
  have tAt : ∀ W' f, Wk w W' t.O (.slice t.a t.ll.length t.c) (.slice (some ⟨t.g, 0, none⟩) (M.deeds t.ll).length t.cc) (.slice (some ⟨u.rb, 0, none⟩) (M.deeds t.ll).length u.rc) (.slice (some ⟨u.wb, 0, none⟩) (M.deeds t.ll).length u.wc) (.slice (some ⟨u.fb, u.fo, none⟩) u.l.length u.fc) (.slice (some ⟨rb, ro, none⟩) u.rows.length od) (M.deeds t.ll).length f → t.At W' := fun W' f kk => ⟨kk.c.1, kk.c.2.1, ss.below (But.low h0 kk.but hO) (Nat.le_refl _), dv.but kk.but hgO⟩
  go_loopw [4] (fun s4 wq => ∃ (n : Nat) (f : Nat → Int), s4 = .int .i64 n ∧ n ≤ (M.deeds t.ll).length ∧ Hid (∀ j x, (M.deeds t.ll)[j]? = some x → f j = if j < n then M.rankAt u.l u.rows j x else 0) ∧ Wk w wq t.O (.slice t.a t.ll.length t.c) (.slice (some ⟨t.g, 0, none⟩) (M.deeds t.ll).length t.cc) (.slice (some ⟨u.rb, 0, none⟩) (M.deeds t.ll).length u.rc) (.slice (some ⟨u.wb, 0, none⟩) (M.deeds t.ll).length u.wc) (.slice (some ⟨u.fb, u.fo, none⟩) u.l.length u.fc) (.slice (some ⟨rb, ro, none⟩) u.rows.length od) (M.deeds t.ll).length f) (fun s4 _ => (M.deeds t.ll).length - (intOf s4).toNat)
  case atStart => exact ⟨0, fun _ => 0, rfl, Nat.zero_le _, (fun j x _ => by simp), k0⟩
  case round =>
    clear k0 b0 hx0
    obtain ⟨n, f, rfl, hn, HF, k⟩ := hrel
    have q1 := k.c.2.1
    have q2 := k.c.2.2.1
    have q3 := k.c.2.2.2.1
    by_cases hlt : n < (M.deeds t.ll).length
    · obtain ⟨x, hx⟩ : ∃ x, (M.deeds t.ll)[n]? = some x := ⟨_, List.getElem?_eq_getElem hlt⟩
      have i1 : (n : Int) < (M.deeds t.ll).length := by omega
      have wx := cellBut k.but (wrt n x hx) hwO
      have rx := cellBut k.but (rd n x hx) hrO
      have FSTEP : ∀ v, M.rankAt u.l u.rows n x = v → Hid (∀ j y, (M.deeds t.ll)[j]? = some y → (if j = n then v else f j) = if j < n + 1 then M.rankAt u.l u.rows j y else 0) := fun v hv j y hy => by
        by_cases e : j = n
        · subst e
          rw [hx] at hy
          obtain rfl := Option.some.inj hy
          rw [if_pos rfl, if_pos (by omega), hv]
        · rw [if_neg e, HF.out j y hy]
          by_cases e2 : j < n
          · rw [if_pos e2, if_pos (by omega)]
          · rw [if_neg e2, if_neg (by omega)]
      cases hw : M.writes x.d.k
      case true =>
        rw [hw] at wx
        obtain ⟨hp0, hp3⟩ := hpl x (List.mem_of_getElem? hx) (by simp [M.De.uses, M.uses, hw])
        obtain ⟨p, hp⟩ : ∃ p : Nat, x.d.p = p := ⟨x.d.p.toNat, by omega⟩
        have hpr : p < u.rows.length := by have := H3.out; omega
        obtain ⟨a', b', o', c', hc0, hrow0⟩ := hr.row p hpr
        have hc := cellC h0 hc0
        have hrlp := hrl _ (List.getElem_mem hpr)
        have HRW : Hid (u.rows.getD p [] = u.rows[p]) := by show _ = _; rw [List.getD_eq_getElem?_getD, List.getElem?_eq_getElem hpr]; rfl
        have hrbO : rb ≠ t.O := by
          have : rb < w0.heap.size := World.block_lt_of_cell? _ _ hc0
          omega
        have hrowB : ∀ W', But t.O w W' → IntS W' a' b' o' u.rows[p] := fun W' hb => hrow0.below (But.low h0 hb hO) (Nat.le_refl _)
        clear hrow0 hc0
        generalize u.rows[p] = row at *
        have HRK : Hid (M.rankAt u.l u.rows n x = M.idx row (n : Int)) := by show _ = _; rw [M.rankAt, if_pos hw, hp, Int.toNat_natCast, HRW.out]
        have i4 : (p : Int) < u.rows.length := by omega
        have N1 : w.heap.size + 1 ≠ t.O := by omega
        have N2 : w.heap.size + 1 ≠ w.heap.size := by omega
        have N3 : w.heap.size + 1 ≠ rb := by have : rb < w.heap.size := World.block_lt_of_cell? _ _ hc; omega
        have X1 := k.c.2.2.2.2.2
        have X2 := k.x1
        have X3 := cellBut k.but hc hrbO
        have hOwr := k.lt
        have C := do_any t n x _ hk (tAt _ _ (k.below hOl (Below.refl _ _).drew)) hx
        rw [hp] at C
        go_wp2_with fail
        go_region_held3 (fun w' => w'.cell? ⟨t.O, 5, none⟩ = some (.slice (some ⟨w.heap.size + 1, 0, none⟩) (M.deeds t.ll).length (M.deeds t.ll).length) ∧ w'.cell? ⟨w.heap.size, 1, none⟩ = some (.slice (some ⟨rb, ro, none⟩) u.rows.length od) ∧ w'.cell? ⟨rb, ro + p, none⟩ = some (.slice a' row.length c')) (go_keep) (first
          | (go_at_call 46; refine C.mono ?_; rintro e w1 ⟨rfl, hb1⟩; have k1 := k.below hOl ((Below.refl _ _).drew.trans hb1); have Y1 := k1.c.2.2.2.2.2; have Y2 := k1.x1; have Y3 := cellBut k1.but hc hrbO; have Z0 := k1.row.cell hlt; have Zf := k1.row.frozen; have Zl := k1.lt)
          | (go_at_call 48; refine (l13Rank_any a' b' o' c' row (n : Int) _ hrlp (hrowB _ k1.but)).mono ?_; rintro e w2x ⟨rfl, rfl⟩))
        have k2 := k1.store hOl n (M.idx row (n : Int))
        go_wp2_with fail
        exact ⟨⟨n + 1, _, by go_num, by omega, FSTEP _ HRK.out, k2⟩, by simp [intOf]; omega⟩

      rw [hw] at wx
      cases hrd : M.reads x.d.k
      case true =>
        rw [hrd] at rx
        obtain ⟨hp0, hp3⟩ := hpl x (List.mem_of_getElem? hx) (by simp [M.De.uses, M.uses, hrd])
        obtain ⟨p, hp⟩ : ∃ p : Nat, x.d.p = p := ⟨x.d.p.toNat, by omega⟩
        have hpr : p < u.rows.length := by have := H3.out; omega
        obtain ⟨a', b', o', c', hc0, hrow0⟩ := hr.row p hpr
        have hc := cellC h0 hc0
        have hrlp := hrl _ (List.getElem_mem hpr)
        have HRW : Hid (u.rows.getD p [] = u.rows[p]) := by show _ = _; rw [List.getD_eq_getElem?_getD, List.getElem?_eq_getElem hpr]; rfl
        have hrbO : rb ≠ t.O := by
          have : rb < w0.heap.size := World.block_lt_of_cell? _ _ hc0
          omega
        have hrowB : ∀ W', But t.O w W' → IntS W' a' b' o' u.rows[p] := fun W' hb => hrow0.below (But.low h0 hb hO) (Nat.le_refl _)
        clear hrow0 hc0
        generalize u.rows[p] = row at *
        have hnl : n < u.l.length := by have := HL.out; omega
        have HG : Hid (u.l.getD n 0 = u.l[n]) := by show _ = _; simp [hnl]
        have fn0 := (hf.below h0 (Nat.le_refl _)).row n hnl
        have hfO : u.fb ≠ t.O := by have := hf.lt (by omega); omega
        generalize u.l[n] = fv at *
        have i5 : (n : Int) < u.l.length := by omega
        have X4 := k.x0
        have X5 := cellBut k.but fn0 hfO
        have HRK : Hid (M.rankAt u.l u.rows n x = M.idx row fv) := by show _ = _; rw [M.rankAt, if_neg (by rw [hw]; simp), if_pos hrd, hp, Int.toNat_natCast, HRW.out, HG.out]
        have i4 : (p : Int) < u.rows.length := by omega
        have N1 : w.heap.size + 1 ≠ t.O := by omega
        have N2 : w.heap.size + 1 ≠ w.heap.size := by omega
        have N3 : w.heap.size + 1 ≠ rb := by have : rb < w.heap.size := World.block_lt_of_cell? _ _ hc; omega
        have N4 : w.heap.size + 1 ≠ u.fb := by have := hf.lt (by have := HL.out; omega); have := h0.size; omega
        have X1 := k.c.2.2.2.2.2
        have X2 := k.x1
        have X3 := cellBut k.but hc hrbO
        have hOwr := k.lt
        have C := do_any t n x _ hk (tAt _ _ (k.below hOl (Below.refl _ _).drew)) hx
        rw [hp] at C
        go_wp2_with fail
        go_region_held3 (fun w' => w'.cell? ⟨t.O, 5, none⟩ = some (.slice (some ⟨w.heap.size + 1, 0, none⟩) (M.deeds t.ll).length (M.deeds t.ll).length) ∧ w'.cell? ⟨w.heap.size, 1, none⟩ = some (.slice (some ⟨rb, ro, none⟩) u.rows.length od) ∧ w'.cell? ⟨rb, ro + p, none⟩ = some (.slice a' row.length c') ∧ w'.cell? ⟨w.heap.size, 0, none⟩ = some (.slice (some ⟨u.fb, u.fo, none⟩) u.l.length u.fc) ∧ w'.cell? ⟨u.fb, u.fo + n, none⟩ = some (.int .i64 fv)) (go_keep) (first
          | (go_at_call 46; refine C.mono ?_; rintro e w1 ⟨rfl, hb1⟩; have k1 := k.below hOl ((Below.refl _ _).drew.trans hb1); have Y1 := k1.c.2.2.2.2.2; have Y2 := k1.x1; have Y3 := cellBut k1.but hc hrbO; have Y4 := k1.x0; have Y5 := cellBut k1.but fn0 hfO; have Z0 := k1.row.cell hlt; have Zf := k1.row.frozen; have Zl := k1.lt)
          | (go_at_call 48; refine (l13Rank_any a' b' o' c' row fv _ hrlp (hrowB _ k1.but)).mono ?_; rintro e w2x ⟨rfl, rfl⟩))
        have k2 := k1.store hOl n (M.idx row fv)
        go_wp2_with fail
        exact ⟨⟨n + 1, _, by go_num, by omega, FSTEP _ HRK.out, k2⟩, by simp [intOf]; omega⟩

      rw [hrd] at rx
      go_wp2_with fail
      have hz : M.rankAt u.l u.rows n x = 0 := by rw [M.rankAt, if_neg (by rw [hw]; simp), if_neg (by rw [hrd]; simp)]
      refine ⟨⟨n + 1, f, by go_num, by omega, (fun j y hy => ?_), k⟩, by simp [intOf]; omega⟩
      rw [HF.out j y hy]
      by_cases e : j = n
      · subst e
        rw [hx] at hy
        obtain rfl := Option.some.inj hy
        rw [if_neg (by omega), if_pos (by omega), hz]
      · by_cases e2 : j < n
        · rw [if_pos e2, if_pos (by omega)]
        · rw [if_neg e2, if_neg (by omega)]
    · go_wp2_with fail
      refine bodyPost_end (v := .tuple #[]) (results_none Try.results25 _ _ _) rfl ⟨rfl, ⟨tAt _ _ k, k.c.2.2.1, k.c.2.2.2.1, k.c.2.2.2.2.1, ?_, fun j y hy => cellBut k.but (rd j y hy) hrO, fun j y hy => cellBut k.but (wrt j y hy) hwO, hf.below (But.low h0 k.but hO) (Nat.le_refl _), HL, fun j y hy => ?_⟩, k.but⟩
      · rw [hkb, hkc]; exact k.c.2.2.2.2.2
      · have hj := Lp.lt hy
        rw [hkb, k.row.cell hj, HF.out j y hy, if_pos (by omega)]


end Go.Proofs.Ytdlpdiioggiehaa

namespace Go.Proofs.Ytdlpdiioggiehaa
open Go.RowKit

theorem M.rng_in (n : Int) (m : Nat) : M.rng 0 ((m : Int) - 1) n = M.inR n m := by
  unfold M.rng M.inR
  congr 1
  rw [decide_eq_decide]
  omega
theorem own_bools {w : World} {base g cap : Nat} {l : List Bool} (h : w.ownsRow base 4 1 (.slice (some ⟨g, 0, none⟩) l.length cap) l.length (bools l)) (i : Nat) (hi : i < l.length) : w.cell? ⟨g, i, none⟩ = some (.bool l[i]) := by
  have hc := h.cells (g := g) rfl i (.bool l[i]) (by simp [bools, hi])
  rwa [Go.WideShapes.add_plain, Nat.zero_add] at hc

set_option maxHeartbeats 2000000 in
set_option maxRecDepth 100000 in
theorem sorderHas_any (a : Option Addr) (b o c : Nat) (ll : List (List M.D)) (fa : Option Addr) (fb fo fc : Nat) (l : List Int) (ra : Option Addr) (rb ro rc : Nat) (rows : List (List Int)) (kind na nb : Int) (w : World) (hl : ll.length ≤ 1048576) (hls : ∀ t ∈ ll, t.length ≤ 1048576) (hl1 : l.length ≤ 1048576) (hrs : ∀ r ∈ rows, r.length ≤ 1048576) (h : DoSS w a b o ll) (hf : IntS w fa fb fo l) (hr : IntSS w ra rb ro rows) :
    Calls Try.prog 8 #[.agg #[.slice a ll.length c], .agg #[.slice fa l.length fc, .slice ra rows.length rc], .int .i64 kind, .int .i64 na, .int .i64 nb] w fun e w' => e = .returned (.bool (M.orderHas ll l rows kind na nb)) ∧ Below w.heap.size w w' := by
  have hb1 := below2 w (.cells #[.slice a ll.length c] 25) (.cells #[.slice fa l.length fc, .slice ra rows.length rc] 29)
  have kp : ((w.alloc (.cells #[.slice a ll.length c] 25)).alloc (.cells #[.slice fa l.length fc, .slice ra rows.length rc] 29)).cell? ⟨w.heap.size, 0, none⟩ = some (.slice a ll.length c) := by simp
  have k0 : ((w.alloc (.cells #[.slice a ll.length c] 25)).alloc (.cells #[.slice fa l.length fc, .slice ra rows.length rc] 29)).cell? ⟨w.heap.size + 1, 0, none⟩ = some (.slice fa l.length fc) := by simp
  have k1 : ((w.alloc (.cells #[.slice a ll.length c] 25)).alloc (.cells #[.slice fa l.length fc, .slice ra rows.length rc] 29)).cell? ⟨w.heap.size + 1, 1, none⟩ = some (.slice ra rows.length rc) := by simp
  have hp1 := h.below hb1 (Nat.le_refl _)
  have hf1 := hf.below hb1 (Nat.le_refl _)
  have hr1 := hr.below hb1 (Nat.le_refl _)
  clear h hf hr
  have C1 := sexecOk_any a b o c ll fa fb fo fc l ra rb ro rc rows _ hl hls hl1 hrs hp1 hf1 hr1
  cases hok : M.execOk ll l rows
  · rw [hok] at C1
    go_enter Try.func8, Try.ntmps8
    go_wp2_with fail
    refine C1.mono ?_
    rintro e w1 ⟨rfl, hb2⟩
    go_wp2_with fail
    go_ret
    exact ⟨ret_bool (by simp only [M.orderHas, hok, Bool.false_and, Bool.and_false]), hb1.trans (hb2.mono hb1.size)⟩
  · rw [hok] at C1
    cases hk : (decide (1 ≤ kind) && decide (kind ≤ 3))
    · go_enter Try.func8, Try.ntmps8
      go_wp2_with fail
      refine C1.mono ?_
      rintro e w1 ⟨rfl, hb2⟩
      have hk' : M.rng 1 3 kind = false := hk
      go_wp2_with (go_at_call 23; refine (l6In_any kind 1 3 _).mono ?_; rw [hk']; rintro e w' ⟨rfl, rfl⟩)
      go_ret
      exact ⟨ret_bool (by simp only [M.orderHas, hk, Bool.false_and]), hb1.trans (hb2.mono hb1.size)⟩
    · have hk' : M.rng 1 3 kind = true := hk
      have hW := M.wok_of hok
      have HO : Hid (M.orderHas ll l rows kind na nb = (M.inR na (M.deeds ll).length && (M.inR nb (M.deeds ll).length && M.mustAt (M.deeds ll) l rows kind.toNat na.toNat nb.toNat))) := by show _ = _; simp only [M.orderHas, hk, hok, Bool.true_and]
      obtain ⟨h3, h7⟩ := M.prog_bounds hW.prog
      have hdl := M.deeds_len h3 h7
      go_enter Try.func8, Try.ntmps8
      go_wp2_with fail
      refine C1.mono ?_
      rintro e w1 ⟨rfl, hb2⟩
      have hb12 := hb1.trans (hb2.mono hb1.size)
      have kp1 := cellC hb2 kp
      have k01 := cellC hb2 k0
      have k11 := cellC hb2 k1
      have hp2 := hp1.below hb2 (Nat.le_refl _)
      have hf2 := hf1.below hb2 (Nat.le_refl _)
      have hr2 := hr1.below hb2 (Nat.le_refl _)
      clear kp k0 k1 hp1 hf1 hr1 C1 hb1 hb2
      go_wp2_with (go_at_call 23; refine (l6In_any kind 1 3 _).mono ?_; rw [hk']; rintro e w1x ⟨rfl, rfl⟩)
      refine (l13Look_any a b o c ll _ hW.prog hl hls hdl hp2).mono ?_
      rintro e w3 ⟨O, va, g, cc, v1, v2, rfl, hLk⟩
      have hb13 := hb12.trans (hLk.bel.mono hb12.size)
      have k03 := cellC hLk.bel k01
      have k13 := cellC hLk.bel k11
      have c1 : w3.cell? ⟨O, 1, none⟩ = some (.slice va (M.deeds ll).length cc) := by simp [World.cell?, hLk.blk]
      have hra := M.rng_in na (M.deeds ll).length
      have hrb := M.rng_in nb (M.deeds ll).length
      have wr1 : IntKind.i64.wrap (((M.deeds ll).length : Int) - 1) = ((M.deeds ll).length : Int) - 1 := by rw [IntKind.wrap_i64]; omega
      cases ha : M.inR na (M.deeds ll).length
      · rw [ha] at hra
        go_wp2_with (go_at_call_of 23 (Value.int .i64 na); refine (l6In_any na 0 (((M.deeds ll).length : Int) - 1) _).mono ?_; rw [hra]; rintro e w3x ⟨rfl, rfl⟩)
        go_ret
        exact ⟨ret_bool (by rw [HO.out, ha]; rfl), hb13⟩
      · rw [ha] at hra
        cases hb : M.inR nb (M.deeds ll).length
        · rw [hb] at hrb
          go_wp2_with (first | (go_at_call_of 23 (Value.int .i64 na); refine (l6In_any na 0 (((M.deeds ll).length : Int) - 1) _).mono ?_; rw [hra]; rintro e w3x ⟨rfl, rfl⟩) | (go_at_call_of 23 (Value.int .i64 nb); refine (l6In_any nb 0 (((M.deeds ll).length : Int) - 1) _).mono ?_; rw [hrb]; rintro e w3y ⟨rfl, rfl⟩))
          go_ret
          exact ⟨ret_bool (by rw [HO.out, ha, hb]; rfl), hb13⟩
        · rw [hb] at hrb
          have ha' : 0 ≤ na ∧ na < (M.deeds ll).length := by simpa [M.inR] using ha
          have hb' : 0 ≤ nb ∧ nb < (M.deeds ll).length := by simpa [M.inR] using hb
          have hk4 : kind = 1 ∨ kind = 2 ∨ kind = 3 := by simp only [Bool.and_eq_true, decide_eq_true_eq] at hk; omega
          obtain ⟨pa, rfl⟩ : ∃ p : Nat, na = p := ⟨na.toNat, by omega⟩
          obtain ⟨pb, rfl⟩ : ∃ p : Nat, nb = p := ⟨nb.toNat, by omega⟩
          have hpa : pa < (M.deeds ll).length := by omega
          have hpb : pb < (M.deeds ll).length := by omega
          have hpos : 0 < (M.deeds ll).length := by omega
          obtain ⟨rfl⟩ := hLk.dv.addr hpos
          obtain ⟨rfl⟩ := hf2.addr (by have := hW.len.out; omega)
          obtain ⟨rfl⟩ := hr2.addr (by have := hW.three.out; omega)
          obtain ⟨ub, uc, rfl, _, _⟩ := hLk.own1.form hpos
          obtain ⟨wb, wc, rfl, _, _⟩ := hLk.own2.form hpos
          have rd : ∀ n x, (M.deeds ll)[n]? = some x → w3.cell? ⟨ub, n, none⟩ = some (.bool (M.reads x.d.k)) := fun n x hx => by
            have hn : n < (M.deeds ll).length := by
              rcases Nat.lt_or_ge n (M.deeds ll).length with h | h
              · exact h
              · rw [List.getElem?_eq_none h] at hx; cases hx
            have o1 := hLk.own1
            have := own_bools (l := (M.deeds ll).map fun x => M.reads x.d.k) (by rw [List.length_map]; exact o1) n (by simpa using hn)
            rw [List.getElem?_eq_getElem hn] at hx
            rw [this, List.getElem_map, Option.some.inj hx]
          have wrt : ∀ n x, (M.deeds ll)[n]? = some x → w3.cell? ⟨wb, n, none⟩ = some (.bool (M.writes x.d.k)) := fun n x hx => by
            have hn : n < (M.deeds ll).length := by
              rcases Nat.lt_or_ge n (M.deeds ll).length with h | h
              · exact h
              · rw [List.getElem?_eq_none h] at hx; cases hx
            have o1 := hLk.own2
            have := own_bools (l := (M.deeds ll).map fun x => M.writes x.d.k) (by rw [List.length_map]; exact o1) n (by simpa using hn)
            rw [List.getElem?_eq_getElem hn] at hx
            rw [this, List.getElem_map, Option.some.inj hx]
          have hOl : O < w3.heap.size := World.block_lt_of_cell? _ _ c1
          have hx : (M.deeds ll)[pa]? = some (M.deeds ll)[pa] := List.getElem?_eq_getElem hpa
          have hy : (M.deeds ll)[pb]? = some (M.deeds ll)[pb] := List.getElem?_eq_getElem hpb
          have HM : Hid (∀ k, M.mustAt (M.deeds ll) l rows k pa pb = (M.stays (M.deeds ll) k pa pb (M.deeds ll)[pa] (M.deeds ll)[pb] || M.told l rows k pa pb (M.deeds ll)[pa] (M.deeds ll)[pb])) := fun k => by rw [M.mustAt, hx, hy, M.must_eq hW.fro hW.run k hpa hpb]
          have CW := fun (hb0 : True) => way_any ⟨O, a, b, o, c, ll, g, cc⟩ ⟨ub, uc, wb, wc, fb, fo, fc, l, w3.heap.size + 1, (M.deeds ll).length, rows⟩ _ w3 rc ⟨hl, hls, hdl⟩ hW.pl hpos hW.len hW.three hrs rb ro hLk.bel hLk.ge hOl hp2 hf2 hr2 hLk.blk hLk.dv rd wrt rfl rfl
          have hkO : (⟨O, a, b, o, c, ll, g, cc⟩ : Lp).Ok := ⟨hl, hls, hdl⟩
          generalize (M.deeds ll)[pa] = x at *
          generalize (M.deeds ll)[pb] = y at *
          go_wp2_with (first | (go_at_call_of 23 (Value.int .i64 (pa : Int)); refine (l6In_any pa 0 (((M.deeds ll).length : Int) - 1) _).mono ?_; rw [hra]; rintro e w3x ⟨rfl, rfl⟩) | (go_at_call_of 23 (Value.int .i64 (pb : Int)); refine (l6In_any pb 0 (((M.deeds ll).length : Int) - 1) _).mono ?_; rw [hrb]; rintro e w3y ⟨rfl, rfl⟩))
          refine (CW trivial).mono ?_
          rintro e w4 ⟨rfl, hAt, hBut⟩
          have hb14 : Below w.heap.size w w4 := But.low hb13 hBut (by have := hLk.ge; have := hb12.size; omega)
          rcases hk4 with rfl | rfl | rfl
          · go_wp2_with fail
            have CS := stays1_any _ _ pa pb x y w4 hkO hAt hx hy
            cases hs : M.stays (M.deeds ll) 1 pa pb x y
            · rw [show M.stays (M.deeds (Lp.ll ⟨O, a, b, o, c, ll, g, cc⟩)) 1 pa pb x y = false from hs] at CS
              refine CS.mono ?_
              rintro e w5 ⟨rfl, hb5⟩
              go_wp2_with fail
              refine (told1_any _ _ pa pb x y w5 hkO (hAt.below hb5) hx hy).mono ?_
              rintro e w6 ⟨rfl, hb6⟩
              have hb15 := hb14.trans (hb5.mono hb14.size)
              go_wp2_with fail
              go_ret
              exact ⟨ret_bool (by rw [HO.out, ha, hb, Int.toNat_natCast, Int.toNat_natCast, HM.out]; show _ = (M.stays (M.deeds ll) 1 pa pb x y || M.told l rows 1 pa pb x y); rw [hs]; rfl), hb15.trans (hb6.mono hb15.size)⟩
            · rw [show M.stays (M.deeds (Lp.ll ⟨O, a, b, o, c, ll, g, cc⟩)) 1 pa pb x y = true from hs] at CS
              refine CS.mono ?_
              rintro e w5 ⟨rfl, hb5⟩
              go_wp2_with fail
              go_ret
              exact ⟨ret_bool (by rw [HO.out, ha, hb, Int.toNat_natCast, Int.toNat_natCast, HM.out]; show _ = (M.stays (M.deeds ll) 1 pa pb x y || M.told l rows 1 pa pb x y); rw [hs]; rfl), hb14.trans (hb5.mono hb14.size)⟩
          · go_wp2_with fail
            have CS := stays2_any _ _ pa pb x y w4 hkO hAt hx hy
            cases hs : M.stays (M.deeds ll) 2 pa pb x y
            · rw [show M.stays (M.deeds (Lp.ll ⟨O, a, b, o, c, ll, g, cc⟩)) 2 pa pb x y = false from hs] at CS
              refine CS.mono ?_
              rintro e w5 ⟨rfl, hb5⟩
              go_wp2_with fail
              refine (told2_any _ _ pa pb x y w5 hkO (hAt.below hb5) hx hy).mono ?_
              rintro e w6 ⟨rfl, hb6⟩
              have hb15 := hb14.trans (hb5.mono hb14.size)
              go_wp2_with fail
              go_ret
              exact ⟨ret_bool (by rw [HO.out, ha, hb, Int.toNat_natCast, Int.toNat_natCast, HM.out]; show _ = (M.stays (M.deeds ll) 2 pa pb x y || M.told l rows 2 pa pb x y); rw [hs]; rfl), hb15.trans (hb6.mono hb15.size)⟩
            · rw [show M.stays (M.deeds (Lp.ll ⟨O, a, b, o, c, ll, g, cc⟩)) 2 pa pb x y = true from hs] at CS
              refine CS.mono ?_
              rintro e w5 ⟨rfl, hb5⟩
              go_wp2_with fail
              go_ret
              exact ⟨ret_bool (by rw [HO.out, ha, hb, Int.toNat_natCast, Int.toNat_natCast, HM.out]; show _ = (M.stays (M.deeds ll) 2 pa pb x y || M.told l rows 2 pa pb x y); rw [hs]; rfl), hb14.trans (hb5.mono hb14.size)⟩
          · go_wp2_with fail
            have CS := stays3_any _ _ pa pb x y w4 hkO hAt hx hy
            cases hs : M.stays (M.deeds ll) 3 pa pb x y
            · rw [show M.stays (M.deeds (Lp.ll ⟨O, a, b, o, c, ll, g, cc⟩)) 3 pa pb x y = false from hs] at CS
              refine CS.mono ?_
              rintro e w5 ⟨rfl, hb5⟩
              go_wp2_with fail
              refine (told3_any _ _ pa pb x y w5 hkO (hAt.below hb5) hx hy).mono ?_
              rintro e w6 ⟨rfl, hb6⟩
              have hb15 := hb14.trans (hb5.mono hb14.size)
              go_wp2_with fail
              go_ret
              exact ⟨ret_bool (by rw [HO.out, ha, hb, Int.toNat_natCast, Int.toNat_natCast, HM.out]; show _ = (M.stays (M.deeds ll) 3 pa pb x y || M.told l rows 3 pa pb x y); rw [hs]; rfl), hb15.trans (hb6.mono hb15.size)⟩
            · rw [show M.stays (M.deeds (Lp.ll ⟨O, a, b, o, c, ll, g, cc⟩)) 3 pa pb x y = true from hs] at CS
              refine CS.mono ?_
              rintro e w5 ⟨rfl, hb5⟩
              go_wp2_with fail
              go_ret
              exact ⟨ret_bool (by rw [HO.out, ha, hb, Int.toNat_natCast, Int.toNat_natCast, HM.out]; show _ = (M.stays (M.deeds ll) 3 pa pb x y || M.told l rows 3 pa pb x y); rw [hs]; rfl), hb14.trans (hb5.mono hb14.size)⟩

end Go.Proofs.Ytdlpdiioggiehaa
