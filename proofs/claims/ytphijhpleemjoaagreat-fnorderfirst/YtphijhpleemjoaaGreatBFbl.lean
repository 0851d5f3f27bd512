/- spec's orders: what stays, and what is told. Of at most 1048576 threads and steps. -/
import Derived.Test.YtphijhpleemjoaaGreatBFbk
namespace Go.Proofs.YtphijhpleemjoaaGreat
open Go.RowKit
theorem M.mid_step {ds : List M.De} {fr bt : Bool} {n b : Nat} {z : M.De} (hn : n < b) (hz : ds[n]? = some z) : M.midFrom ds fr bt (b - n) n = if (fr && z.d.k == 8) || (bt && z.d.k == 7) then false else M.midFrom ds fr bt (b - (n + 1)) (n + 1) := by
 rw [show b - n = (b - (n + 1)) + 1 from by omega, M.midFrom]
 simp [M.kAt, hz]
structure DoV (W : World) (X : Nat) (d : M.D) : Prop where
 c0 : W.cell? ⟨X, 0, none⟩ = some (.int .i64 d.k)
 c1 : W.cell? ⟨X, 1, none⟩ = some (.int .i64 d.p)
 c2 : W.cell? ⟨X, 2, none⟩ = some (.int .i64 d.v)
theorem DoV.new (W : World) (d : M.D) : DoV (W.alloc (.cells #[.int .i64 d.k, .int .i64 d.p, .int .i64 d.v] 52)) W.heap.size d := ⟨by simp, by simp, by simp⟩
theorem DoV.below {W W' : World} {X : Nat} {d : M.D} (h : DoV W X d) (hb : Below W.heap.size W W') : DoV W' X d := ⟨cellC hb h.c0, cellC hb h.c1, cellC hb h.c2⟩
set_option maxHeartbeats 400000 in
set_option maxRecDepth 100000 in
theorem told1_any (t : Lp) (u : Lq) (a b : Nat) (x y : M.De) (w : World) (hk : t.Ok) (h : u.At t w) (hx : (M.deeds t.ll)[a]? = some x) (hy : (M.deeds t.ll)[b]? = some y) :
  Calls Tryz.prog 110 #[.pointer (some ⟨t.O, 0, none⟩), .int .i64 1, .int .i64 (a : Int), .int .i64 (b : Int)] w fun e w' => e = .returned (.bool (M.told u.l u.rows 1 a b x y)) ∧ Below w.heap.size w w' := by
 have ha := Lp.lt hx
 have hb := Lp.lt hy
 have i1 : (a : Int) < (M.deeds t.ll).length := by omega
 have i2 : (b : Int) < (M.deeds t.ll).length := by omega
 have K0 := BelowOf.cell h.p.l0
 have C0 := BelowOf.cell (h.p.el hx).c0
 have D0 := BelowOf.cell (h.p.el hy).c0
 haveI : Inhabited (BelowOf w) := ⟨belOf w⟩
 go_enter Tryz.func110, Tryz.ntmps110
 go_wp2_with fail
 refine wp_region_quiet_bel (by kernel_rfl) (by kernel_rfl) ?_
 repeat (quiet_step (fail))
 refine wpQuiet_nil ?_
 rintro _ ⟨⟨wq, hwq⟩, rfl⟩
 have h1 := h.below hwq
 clear K0 C0 D0
 have tw : ((x.t : Int) != (y.t : Int)) = M.two x y := by rw [Bool.eq_iff_iff]; simp [M.two]; omega
 rw [tw]
 clear tw
 go_wp2_with fail
 have C1 := sread_any t u a b x y _ hk h1 hx hy
 cases r1 : M.sRead u.l a b x y
 ·rw [r1] at C1
  refine C1.mono ?_
  rintro e w2 ⟨rfl, hb2⟩
  have hc := hwq.trans (hb2.mono hwq.size)
  go_wp2_with fail
  refine (sover_any t u a b x y _ hk (h.below hc) hx hy).mono ?_
  rintro e w3 ⟨rfl, hb3⟩
  go_wp2_with fail
  go_ret
  exact ⟨ret_bool (by simp [M.told, r1]), hc.trans (hb3.mono hc.size)⟩
 ·rw [r1] at C1
  refine C1.mono ?_
  rintro e w2 ⟨rfl, hb2⟩
  go_wp2_with fail
  go_ret
  exact ⟨ret_bool (by simp [M.told, r1]), hwq.trans (hb2.mono hwq.size)⟩
set_option maxHeartbeats 400000 in
set_option maxRecDepth 100000 in
theorem told2_any (t : Lp) (u : Lq) (a b : Nat) (x y : M.De) (w : World) (hk : t.Ok) (h : u.At t w) (hx : (M.deeds t.ll)[a]? = some x) (hy : (M.deeds t.ll)[b]? = some y) :
  Calls Tryz.prog 110 #[.pointer (some ⟨t.O, 0, none⟩), .int .i64 2, .int .i64 (a : Int), .int .i64 (b : Int)] w fun e w' => e = .returned (.bool (M.told u.l u.rows 2 a b x y)) ∧ Below w.heap.size w w' := by
 have ha := Lp.lt hx
 have hb := Lp.lt hy
 have i1 : (a : Int) < (M.deeds t.ll).length := by omega
 have i2 : (b : Int) < (M.deeds t.ll).length := by omega
 have K0 := BelowOf.cell h.p.l0
 have C0 := BelowOf.cell (h.p.el hx).c0
 have D0 := BelowOf.cell (h.p.el hy).c0
 haveI : Inhabited (BelowOf w) := ⟨belOf w⟩
 go_enter Tryz.func110, Tryz.ntmps110
 go_wp2_with fail
 refine wp_region_quiet_bel (by kernel_rfl) (by kernel_rfl) ?_
 repeat (quiet_step (fail))
 refine wpQuiet_nil ?_
 rintro _ ⟨⟨wq, hwq⟩, rfl⟩
 have h1 := h.below hwq
 clear K0 C0 D0
 have tw : ((x.t : Int) != (y.t : Int)) = M.two x y := by rw [Bool.eq_iff_iff]; simp [M.two]; omega
 rw [tw]
 clear tw
 cases tt : M.two x y
 ·go_wp2_with fail
  refine (sover_any t u a b x y _ hk h1 hx hy).mono ?_
  rintro e w3 ⟨rfl, hb3⟩
  go_wp2_with fail
  go_ret
  exact ⟨ret_bool (by simp [M.told, tt]), hwq.trans (hb3.mono hwq.size)⟩
 ·go_wp2_with fail
  have C1 := sread_any t u a b x y _ hk h1 hx hy
  cases r1 : M.sRead u.l a b x y
  ·rw [r1] at C1
   refine C1.mono ?_
   rintro e w2 ⟨rfl, hb2⟩
   have hc := hwq.trans (hb2.mono hwq.size)
   go_wp2_with fail
   refine (sover_any t u a b x y _ hk (h.below hc) hx hy).mono ?_
   rintro e w3 ⟨rfl, hb3⟩
   go_wp2_with fail
   go_ret
   exact ⟨ret_bool (by simp [M.told, r1]), hc.trans (hb3.mono hc.size)⟩
  ·rw [r1] at C1
   refine C1.mono ?_
   rintro e w2 ⟨rfl, hb2⟩
   go_wp2_with fail
   go_ret
   exact ⟨ret_bool (by simp [M.told, r1, tt]), hwq.trans (hb2.mono hwq.size)⟩
set_option maxHeartbeats 400000 in
set_option maxRecDepth 100000 in
theorem told3_any (t : Lp) (u : Lq) (a b : Nat) (x y : M.De) (w : World) (hk : t.Ok) (h : u.At t w) (hx : (M.deeds t.ll)[a]? = some x) (hy : (M.deeds t.ll)[b]? = some y) :
  Calls Tryz.prog 110 #[.pointer (some ⟨t.O, 0, none⟩), .int .i64 3, .int .i64 (a : Int), .int .i64 (b : Int)] w fun e w' => e = .returned (.bool (M.told u.l u.rows 3 a b x y)) ∧ Below w.heap.size w w' := by
 have ha := Lp.lt hx
 have hb := Lp.lt hy
 have i1 : (a : Int) < (M.deeds t.ll).length := by omega
 have i2 : (b : Int) < (M.deeds t.ll).length := by omega
 have K0 := BelowOf.cell h.p.l0
 have C0 := BelowOf.cell (h.p.el hx).c0
 have D0 := BelowOf.cell (h.p.el hy).c0
 haveI : Inhabited (BelowOf w) := ⟨belOf w⟩
 go_enter Tryz.func110, Tryz.ntmps110
 go_wp2_with fail
 refine wp_region_quiet_bel (by kernel_rfl) (by kernel_rfl) ?_
 repeat (quiet_step (fail))
 refine wpQuiet_nil ?_
 rintro _ ⟨⟨wq, hwq⟩, rfl⟩
 have h1 := h.below hwq
 clear K0 C0 D0
 have tw : ((x.t : Int) != (y.t : Int)) = M.two x y := by rw [Bool.eq_iff_iff]; simp [M.two]; omega
 rw [tw]
 clear tw
 cases tt : M.two x y
 ·go_wp2_with fail
  go_ret
  exact ⟨ret_bool (by simp [M.told, tt]), hwq⟩
 ·go_wp2_with fail
  have C1 := sread_any t u a b x y _ hk h1 hx hy
  cases r1 : M.sRead u.l a b x y
  ·rw [r1] at C1
   refine C1.mono ?_
   rintro e w2 ⟨rfl, hb2⟩
   have hc := hwq.trans (hb2.mono hwq.size)
   go_wp2_with fail
   refine (sover_any t u a b x y _ hk (h.below hc) hx hy).mono ?_
   rintro e w3 ⟨rfl, hb3⟩
   go_wp2_with fail
   go_ret
   exact ⟨ret_bool (by simp [M.told, r1, tt]), hc.trans (hb3.mono hc.size)⟩
  ·rw [r1] at C1
   refine C1.mono ?_
   rintro e w2 ⟨rfl, hb2⟩
   go_wp2_with fail
   go_ret
   exact ⟨ret_bool (by simp [M.told, r1, tt]), hwq.trans (hb2.mono hwq.size)⟩
end Go.Proofs.YtphijhpleemjoaaGreat
