/- More on rows of the call's own, and boxes of one cell. No condition. And what goes with it: RowMore, ArrOp, SxVal, DrAn, XaWy, DrOp, BxP, Front0. -/
import Derived.Deep.MidRow
import Derived.Test.YtphijhpleemjoaaGreatRows
import Derived.ProofKit
import Derived.Deep.Slices
import Derived.Test.YtphijhpleemjoaaGreatBAab
import Derived.Test.YtphijhpleemjoaaGreatBAae
import Derived.Test.YtphijhpleemjoaaGreatBAai
import Derived.Test.YtphijhpleemjoaaGreatBAaj
import Derived.Test.YtphijhpleemjoaaGreatBAao
import Derived.Test.YtphijhpleemjoaaGreatBAaq
import Derived.Test.YtphijhpleemjoaaGreatBAar
import Derived.Test.YtphijhpleemjoaaGreatBAau
import Derived.Test.YtphijhpleemjoaaGreatBAav
import Derived.Test.YtphijhpleemjoaaGreatBAaw
namespace Go.Proofs.YtphijhpleemjoaaGreat
open Go.RowKit
theorem Slot1.apart {w w' : World} {b : Nat} {x : Value} {row : Option Nat} (h : Slot1 w b x) (hg : w.grownBy w' row) (hr : row ≠ some b) : Slot1 w' b x := by
 have hne : some b ≠ row := fun e => hr e.symm
 exact ⟨hg.cell h.c hne, (World.frozen?_of_block (w := w) (hg.block b h.lt hne)).trans h.fz⟩
end Go.Proofs.YtphijhpleemjoaaGreat
namespace Go.Proofs.YtphijhpleemjoaaGreat
open Go.RowKit
theorem wpList_index_one {P : Program} {w : World} {ops : Array Oper} {rest : List Oper} {op : Oper} {a : Act} {Q : Exit → Act → World → Prop} (hgd : op.guard = none) (ty : TypeId) (x y : Operand) (ho : op.op = .index ty x y)
  (c : Array Value) (i n : Nat) (e : TypeId) (d : TypeDesc) (v : Value) (hx : a.eval x = .agg c) (hy : a.eval y = .int .i64 i) (hu : P.underlying ty = some (.array n e)) (hin : i < n) (hue : P.underlying e = some d) (hd : d.isRow = false) (hi : (P.info? e).map (·.size) = some 1) (hv : c[i]? = some v)
  (h : wpList P ops Q rest (a.put op.dst v) w) : wpList P ops Q (op :: rest) a w := by
 refine wpList_plain hgd fun _ hK => ?_
 have hagg : (isAgg e).run P w = .ok false w := by
  unfold isAgg
  rw [Sem.run_bind, run_underlying hue w]
  cases d <;> simp_all
 cases hq : P.info? e with
 | none => simp [hq] at hi
 | some j =>
  have hs : j.size = 1 := by simpa [hq] using hi
  unfold Oper.wp execOp
  simp [ho, hx, hy, Instr.index, asIntOf, run_underlying hu, part, hagg, sizeOf, typeInfo, hq, hs, hin, hv]
  exact hK _ _ h
end Go.Proofs.YtphijhpleemjoaaGreat
namespace Go.Proofs.YtphijhpleemjoaaGreat
open Go.RowKit
theorem M.orig_lt {ds : List M.De} {l : List Int} (hin : M.In ds l) : ∀ (m n q : Nat), n < ds.length → M.orig ds l m n = some q → q < ds.length := by
 intro m
 induction m with
 | zero => intro n q _ h; simp [M.orig] at h
 | succ m ih =>
  intro n q hn h
  rw [M.orig] at h
  split at h
  ·obtain rfl := Option.some.inj h; exact hn
  ·have := hin n hn
   exact ih _ q (by omega) h
set_option maxHeartbeats 400000 in
theorem value_any (va : Option Addr) (g c : Nat) (ds : List M.De) (a : Option Addr) (b o c2 : Nat) (l : List Int) (n q : Nat) (w : World) (hn : n < ds.length) (HLL : Hid (l.length = ds.length)) (hin : M.In ds l) (ho : M.orig ds l ds.length n = some q) (hq : q < ds.length) (hl : ds.length ≤ 1048576) (h : DeS w va g ds) (h2 : IntS w a b o l) :
  Calls Tryz.prog 95 #[.slice va ds.length c, .slice a l.length c2, .int .i64 n] w fun e w' => e = .returned (.int .i64 ds[q].d.v) ∧ Below w.heap.size w w' := by
 have C := origin_any va g c ds a b o c2 l n w hn HLL.out hin hl h h2
 rw [ho] at C
 change Calls _ _ _ _ fun e w' => e = .returned (.tuple #[.int .i64 q, .bool true]) ∧ _ at C
 obtain ⟨rfl⟩ := h.addr (by omega)
 have i1 : (q : Int) < ds.length := by omega
 go_enter Tryz.func95, Tryz.ntmps95
 go_wp2_with (go_at_call 148; refine C.mono ?_; rintro e w1 ⟨rfl, hb1⟩; obtain ⟨_, _, _, _, _, c5, _⟩ := DeS.at (h.bel hb1 (Nat.le_refl _)) hq)
 go_ret
 exact ⟨rfl, hb1⟩
theorem M.val_of_orig {ds : List M.De} {l : List Int} (hin : M.In ds l) (hll : l.length = ds.length) (hz : ∀ x ∈ ds, x.reads = true ∨ x.d.k = 3 → x.d.v = 0) : ∀ (m n q : Nat), n < ds.length → (hq : q < ds.length) → M.orig ds l m n = some q → M.val ds l m n = ds[q].d.v := by
 intro m
 induction m with
 | zero => intro n q _ _ h; simp [M.orig] at h
 | succ m ih =>
  intro n q hn hq h
  have hi := hin n hn
  have hvf : M.valFrom ds l n = if ds[n].reads then l[n] else if ds[n].d.k == 3 then ds[n].lr else -1 := by
   simp [M.valFrom, hn, show n < l.length by omega]
  rw [M.val_at ds l m n hn (by omega)]
  rw [M.orig] at h
  have step : ∀ f : Int, M.valFrom ds l n = f → (ds[n].reads = true ∨ ds[n].d.k = 3) → M.val ds l m f = ds[q].d.v := by
   intro f hf hk
   rw [hf] at h hi
   by_cases h0 : f < 0
   ·rw [if_pos h0] at h
    obtain rfl := Option.some.inj h
    rw [M.val_neg _ _ _ h0, hz _ (List.getElem_mem hn) hk]
   ·rw [if_neg h0] at h
    obtain ⟨k, rfl⟩ : ∃ k : Nat, f = k := ⟨f.toNat, by omega⟩
    rw [Int.toNat_natCast] at h
    exact ih k q (by omega) hq h
  by_cases hr : ds[n].reads = true
  ·rw [if_pos hr]
   rw [if_pos hr] at hvf
   exact step _ hvf (Or.inl hr)
  ·rw [if_neg hr]
   rw [if_neg hr] at hvf
   by_cases h3 : (ds[n].d.k == 3) = true
   ·rw [if_pos h3]
    rw [if_pos h3] at hvf
    exact step _ hvf (Or.inr (by simpa using h3))
   ·rw [if_neg h3]
    rw [if_neg h3] at hvf
    rw [hvf, if_pos (by omega)] at h
    obtain rfl := Option.some.inj h
    rfl
end Go.Proofs.YtphijhpleemjoaaGreat
namespace Go.Proofs.YtphijhpleemjoaaGreat
open Go.RowKit
structure Small (mm : List (List M.D)) (c : Nat) : Prop where
 cap : mm.length ≤ c
 pos : 0 < mm.length
 three : mm.length ≤ 3
 steps : ∀ t ∈ mm, t.length ≤ 14
set_option maxHeartbeats 1000000 in
set_option maxRecDepth 100000 in
theorem l71Any_any (B rb p : Nat) (w : World) (hp : p ≤ 1000) (h : Rdr w B rb p) :
  Calls Tryz.prog 40 #[.pointer (some ⟨rb, 0, none⟩)] w fun e w' => ∃ (a : Option Addr) (g c : Nat) (mm : List (List M.D)), e = .returned (.agg #[.slice a mm.length c]) ∧ DoSN (w.heap.size + 1) w' a g 0 mm ∧ Small mm c ∧ ∃ p' : Nat, p' ≤ p + 10100 ∧ Rdr w' B rb p' ∧ But rb w w' := by
 have hlt := h.lt
 have hge := h.ge
 go_enter Tryz.func40, Tryz.ntmps40
 go_wp2_with fail
 refine (l71Prog_any B rb p _ hp (h.alloc _)).mono ?_
 rintro e w1 ⟨ll, vs, v, rfl, hB1, hprog, _, hlen, p1, hp1, hr1, hb1⟩
 obtain ⟨h3, h7⟩ := M.prog_le hprog
 have hS1 := (Slot1.new w (.slice none 0 0) 25).but hb1 (by omega)
 have hb1' := ((But.refl rb w).alloc (.cells #[.slice none 0 0] 25)).trans hb1
 simp only [World.size_alloc] at hB1
 obtain ⟨a, g, c, rfl, _⟩ := hB1.sn
 have hlt1 := hr1.lt
 clear hb1
 go_wp2_with fail
 refine (pick_rdr B rb p1 _ _ (by omega) (by omega) (by omega) (hr1.alloc _)).mono ?_
 rintro e w2 ⟨r2, rfl, r20, r21, hr2, hb2⟩
 have hal := (But.refl rb w1).alloc (.cells #[.slice a ll.length c] 25)
 have hX2 := (Slot1.new w1 (.slice a ll.length c) 25).but hb2 (by omega)
 have hS2 := (hS1.but hal (by omega)).but hb2 (by omega)
 have hB2 := (hB1.but hal (by omega)).but hb2 (by omega)
 have hb2' := (hb1'.trans hal).trans hb2
 clear hb2 hal hS1 hB1 hb1' hr1
 by_cases h0 : r2 = 0
 ·subst h0
  have x0 := hX2.c
  go_wp2_with fail
  refine (l71Bad_any B (w.heap.size + 1 + 1) rb (p1 + 1) _ ll vs _ (by omega) hlen h3 h7 hB2 (by omega) hr2).mono ?_
  rintro e w3 ⟨a', g', c', mm, rfl, hsn, hml, hmc, hm14, p3, hp3, hr3, hb3⟩
  have hm0 : 0 < mm.length := by omega
  have hm3 : mm.length ≤ 3 := by omega
  clear hml
  have hS3 := hS2.but hb3 (by omega)
  have s0 := hS3.c
  have sf := hS3.fz
  have hsl := hS3.lt
  go_wp2_with fail
  have s4 := (hS3.set (.slice a' mm.length c')).c
  refine bodyPost_ret (v := .agg #[.slice a' mm.length c']) (by simp [results, Tryz.results40, go_sem, s4]) rfl ⟨a', g', c', mm, rfl, (hsn.far (by omega)).mono (by omega), ⟨hmc, hm0, hm3, hm14⟩, p3, by omega, hr3.setCell (by omega) (by omega) _, (hb2'.trans hb3).setCell (Or.inl (Nat.le_refl _)) _⟩
 ·have h0' : (r2 == 0) = false := by simpa using h0
  obtain ⟨a', g', c', e', hsn⟩ := hB2.sn
  simp only [Value.slice.injEq] at e'
  obtain ⟨rfl, _, rfl⟩ := e'
  have x0 := hX2.c
  have s0 := hS2.c
  have sf := hS2.fz
  have hsl := hS2.lt
  go_wp2_with fail
  have s4 := (hS2.set (.slice a ll.length c)).c
  refine bodyPost_ret (v := .agg #[.slice a ll.length c]) (by simp [results, Tryz.results40, go_sem, s4]) rfl ⟨a, g', c, ll, rfl, (hsn.far (by omega)).mono (by omega), ⟨hB2.cap, hlen, h3, fun t ht => by have := h7 t ht; omega⟩, p1 + 1, by omega, hr2.setCell (by omega) (by omega) _, hb2'.setCell (Or.inl (Nat.le_refl _)) _⟩
end Go.Proofs.YtphijhpleemjoaaGreat
namespace Go.Proofs.YtphijhpleemjoaaGreat
open Go.RowKit
theorem But.grows {rb : Nat} {w w' : World} (h : But rb w w') : w.grownBy w' (some rb) := ⟨h.os, h.tape, h.output, h.size, fun k hk hne => h.block k hk (fun e => hne (by rw [e]))⟩
theorem Off1.symm {u v : Value} (h : Off1 u v.ownBlock) : Off1 v u.ownBlock := fun k hk e => h k e hk
theorem Xw.but {w w' : World} {base rb : Nat} {fv ov : Value} {l : List Int} {cs : List Value} {rows : List (List Int)} (h : Xw w base fv ov l cs rows) (hb : But rb w w') (hr : rb < base) : Xw w' base fv ov l cs rows :=
 h.grown hb.grows (h.off (fun k hk => by have : rb = k := Option.some.inj hk; omega))
structure WyP (P : Nat → Prop) (w : World) (fv ov : Value) (l : List Int) (rows : List (List Int)) : Prop where
 f : ∃ fa fb fc, fv = .slice fa l.length fc ∧ IntS w fa fb 0 l ∧ (0 < l.length → P fb)
 o : ∃ ra rb rc, ov = .slice ra rows.length rc ∧ (0 < rows.length → ra = some ⟨rb, 0, none⟩ ∧ P rb) ∧ ∀ i (h : i < rows.length), ∃ a' b' c', w.cell? ⟨rb, i, none⟩ = some (.slice a' rows[i].length c') ∧ IntS w a' b' 0 rows[i] ∧ (0 < rows[i].length → P b')
theorem WyP.keep {P P' : Nat → Prop} {w w' : World} {fv ov : Value} {l : List Int} {rows : List (List Int)} (h : WyP P w fv ov l rows) (hP : ∀ b, P b → P' b) (k : ∀ p u, P p.block → w.cell? p = some u → w'.cell? p = some u) : WyP P' w' fv ov l rows := by
 obtain ⟨⟨fa, fb, fc, e1, e2, e3⟩, ⟨ra, rb, rc, d1, d2, d3⟩⟩ := h
 refine ⟨⟨fa, fb, fc, e1, ⟨e2.addr, fun i hi => k _ _ (e3 (by omega)) (e2.row i hi)⟩, fun h => hP _ (e3 h)⟩, ⟨ra, rb, rc, d1, fun h => ⟨(d2 h).1, hP _ (d2 h).2⟩, fun i hi => ?_⟩⟩
 obtain ⟨a', b', c', g1, g2, g3⟩ := d3 i hi
 exact ⟨a', b', c', k _ _ (d2 (by omega)).2 g1, ⟨g2.addr, fun j hj => k _ _ (g3 (by omega)) (g2.row j hj)⟩, fun h => hP _ (g3 h)⟩
theorem WyP.set {P P' : Nat → Prop} {w : World} {fv ov : Value} {l : List Int} {rows : List (List Int)} {B i : Nat} {u : Value} (h : WyP P w fv ov l rows) (hP : ∀ b, P b → P' b ∧ b ≠ B) : WyP P' (w.setCell ⟨B, i, none⟩ u) fv ov l rows :=
 h.keep (fun b hb => (hP b hb).1) (fun p _ hp hc => (World.cell?_setCell_other _ _ _ _ (fun e => (hP _ hp).2 (by rw [← e]))).trans hc)
theorem WyP.ss {P : Nat → Prop} {w : World} {fv ov : Value} {l : List Int} {rows : List (List Int)} (h : WyP P w fv ov l rows) : ∃ fa fb fc ra rb rc, fv = .slice fa l.length fc ∧ ov = .slice ra rows.length rc ∧ IntS w fa fb 0 l ∧ IntSS w ra rb 0 rows := by
 obtain ⟨⟨fa, fb, fc, e1, e2, e3⟩, ⟨ra, rb, rc, d1, d2, d3⟩⟩ := h
 exact ⟨fa, fb, fc, ra, rb, rc, e1, d1, e2, ⟨fun h => (d2 h).1, fun i hi => by
  obtain ⟨a', b', c', g1, g2, g3⟩ := d3 i hi
  exact ⟨a', b', 0, c', by rw [Nat.zero_add]; exact g1, g2⟩⟩⟩
theorem own_where {w : World} {base n : Nat} {e : TypeId} {v : Value} {xs : List Value} (h : w.ownsRow base e 1 v n xs) : ∃ a g c, v = .slice a n c ∧ (0 < n → a = some ⟨g, 0, none⟩ ∧ v.ownBlock = some g) ∧ ∀ j u, xs[j]? = some u → w.cell? ⟨g, j, none⟩ = some u := by
 rcases h.2 with ⟨hv, hn⟩ | ⟨g, cap, cur, hv, hg, hh, hc, r⟩
 ·have hx : xs = [] := List.length_eq_zero_iff.1 (by rw [h.1, hn])
  subst hx
  exact ⟨none, 0, 0, by rw [hv, hn], fun h => absurd h (by omega), fun j u hj => (by simp at hj)⟩
 ·refine ⟨_, g, cap, hv, fun _ => ⟨rfl, by rw [hv]; rfl⟩, fun j u hj => ?_⟩
  have := h.cells (g := g) (by rw [hv]; rfl) j u hj
  rwa [Go.WideShapes.add_plain, Nat.zero_add] at this
theorem own_ints2 {w : World} {base : Nat} {e : TypeId} {v : Value} {l : List Int} (h : w.ownsRow base e 1 v l.length (nums l)) : ∃ a g c, v = .slice a l.length c ∧ IntS w a g 0 l ∧ (0 < l.length → v.ownBlock = some g) := by
 obtain ⟨a, g, c, e1, e2, e3⟩ := own_where h
 exact ⟨a, g, c, e1, ⟨fun h => (e2 h).1, fun i hi => by rw [Nat.zero_add]; exact e3 i _ (by simp [nums, hi])⟩, fun h => (e2 h).2⟩
theorem Xw.wy {w : World} {base X : Nat} {fv ov : Value} {l : List Int} {cs : List Value} {rows : List (List Int)} (h : Xw w base fv ov l cs rows) (ho : Xoff fv ov cs (some X)) : WyP (fun b => base ≤ b ∧ b ≠ X) w fv ov l rows := by
 obtain ⟨fa, fb, fc, e1, e2, e3⟩ := own_ints2 h.from_
 obtain ⟨ra, rb, rc, d1, d2, d3⟩ := own_where h.ord
 have key : ∀ {v : Value} {g : Nat} {e : TypeId} {n : Nat} {xs : List Value}, w.ownsRow base e 1 v n xs → Off1 v (some X) → v.ownBlock = some g → base ≤ g ∧ g ≠ X := fun hv hof hb => ⟨(hv.lt _ hb).1, fun e => hof _ hb (by rw [e])⟩
 refine ⟨⟨fa, fb, fc, e1, e2, fun hl => key h.from_ ho.from_ (e3 hl)⟩, ⟨ra, rb, rc, d1, fun hl => ⟨(d2 hl).1, key h.ord ho.ord (d2 hl).2⟩, fun i hi => ?_⟩⟩
 obtain ⟨u, g1, g2, _, _⟩ := h.row i hi
 obtain ⟨a', b', c', f1, f2, f3⟩ := own_ints2 g2
 exact ⟨a', b', c', by rw [← f1]; exact d3 i u g1, f2, fun hl => key g2 (ho.row u (List.mem_of_getElem? g1)) (f3 hl)⟩
theorem Off1.some {v : Value} {row : Option Nat} {g : Nat} (h : Off1 v row) (hg : v.ownBlock = some g) : row ≠ some g := h g hg
theorem Xw.setFrom {w : World} {base X fb fc n k : Nat} {ov : Value} {l : List Int} {cs : List Value} {rows : List (List Int)} {v : Int} (h : Xw w base (.slice (some ⟨fb, 0, none⟩) n fc) ov l cs rows) (ho : Xoff (.slice (some ⟨fb, 0, none⟩) n fc) ov cs (some X)) (hk : k < l.length) : WyP (fun b => base ≤ b ∧ b ≠ X) (w.setCell ⟨fb, k, none⟩ (.int .i64 v)) (.slice (some ⟨fb, 0, none⟩) n fc) ov (l.set k v) rows := by
 obtain ⟨⟨fa, fb', fc', e1, e2, e3⟩, _⟩ := h.wy ho
 simp only [Value.slice.injEq] at e1
 obtain ⟨rfl, rfl, rfl⟩ := e1
 have e4 := e2.addr (by omega)
 obtain ⟨rfl⟩ : fb = fb' := by simpa using e4
 have hg := grown_set w fb k (.int .i64 v)
 have hord : Off1 ov (some fb) := fun q hq e => h.apart fb rfl (by rw [hq]; exact e.symm)
 have ord' := hord.kept h.ord hg
 obtain ⟨ra, rb, rc, d1, d2, d3⟩ := own_where ord'
 have key : ∀ {v : Value} {g : Nat} {e : TypeId} {n : Nat} {xs : List Value}, w.ownsRow base e 1 v n xs → Off1 v (some X) → v.ownBlock = some g → base ≤ g ∧ g ≠ X := fun hv hof hb => ⟨(hv.lt _ hb).1, fun e => hof _ hb (by rw [e])⟩
 refine ⟨⟨some ⟨fb, 0, none⟩, fb, fc, by rw [List.length_set], ⟨fun _ => rfl, fun i hi => ?_⟩, fun hl => e3 (by simpa using hl)⟩, ⟨ra, rb, rc, d1, fun hl => ⟨(d2 hl).1, key h.ord ho.ord (d2 hl).2⟩, fun i hi => ?_⟩⟩
 ·have hi' : i < l.length := by simpa using hi
  have c0 := e2.row i hi'
  rw [List.getElem_set]
  by_cases hik : k = i
  ·subst hik
   rw [if_pos rfl, Nat.zero_add] at *
   exact World.cell?_setCell_same _ _ _ c0
  ·rw [if_neg hik, World.cell?_setCell_other _ _ _ _ (fun e => by have := congrArg Addr.off e; simp at this; omega)]
   exact c0
 ·obtain ⟨u, g1, g2, _, g4⟩ := h.row i hi
  have g5 : Off1 u (some fb) := g4
  have g2' := g5.kept g2 hg
  obtain ⟨a', b', c', f1, f2, f3⟩ := own_ints2 g2'
  exact ⟨a', b', c', by rw [← f1]; exact d3 i u g1, f2, fun hl => key g2 (ho.row u (List.mem_of_getElem? g1)) (f3 hl)⟩
end Go.Proofs.YtphijhpleemjoaaGreat
namespace Go.Proofs.YtphijhpleemjoaaGreat
open Go.RowKit
set_option maxHeartbeats 400000 in
theorem l6Open_any (ca : Option Addr) (cb co L C : Nat) (x : Nat → Int) (w : World) (hL : L ≤ C) (had : 0 < L → ca = some ⟨cb, co, none⟩) (hc : ∀ i, i < L → w.cell? ⟨cb, co + i, none⟩ = some (.int .u8 (x i)) ∧ 0 ≤ x i ∧ x i ≤ 255) (hLb : L ≤ 1048576) :
  Calls Tryz.prog 39 #[.slice ca L C] w fun e w' => e = .returned (.pointer (some ⟨w.heap.size, 0, none⟩)) ∧ Rdr w' w.heap.size w.heap.size 0 ∧ Below w.heap.size w w' := by
 by_cases h2 : L ≤ 2000
 ·have h2' : ¬ (2000 : Int) < L := by omega
  go_enter Tryz.func39, Tryz.ntmps39
  go_wp2_with fail
  go_ret
  refine ⟨rfl, ⟨ca, cb, co, L, C, x, by simp, by simp, by simp, had, h2, fun i hi => ⟨?_, (hc i hi).2⟩, fun h0 => World.block_lt_of_cell? _ _ (hc 0 h0).1, Nat.le_refl _⟩, below1 _ _⟩
  rw [World.cell?_alloc_past _ _ _ (World.block_lt_of_cell? _ _ (hc i hi).1)]
  exact (hc i hi).1
 ·have h2' : (2000 : Int) < L := by omega
  obtain ⟨rfl⟩ := had (by omega)
  go_enter Tryz.func39, Tryz.ntmps39
  go_wp2_with fail
  go_ret
  refine ⟨rfl, ⟨_, cb, co, 2000, C, x, by simp, by simp, by simp, fun _ => rfl, by omega, fun i hi => ⟨?_, (hc i (by omega)).2⟩, fun h0 => World.block_lt_of_cell? _ _ (hc 0 (by omega)).1, Nat.le_refl _⟩, below1 _ _⟩
  rw [World.cell?_alloc_past _ _ _ (World.block_lt_of_cell? _ _ (hc i (by omega)).1)]
  exact (hc i (by omega)).1
end Go.Proofs.YtphijhpleemjoaaGreat
namespace Go.Proofs.YtphijhpleemjoaaGreat
open Go.RowKit
theorem Slot1.bel {w w' : World} {b : Nat} {x : Value} (h : Slot1 w b x) (hb : Below w.heap.size w w') : Slot1 w' b x :=
 ⟨(hb.cell (p := ⟨b, 0, none⟩) h.lt).trans h.c, (hb.frozen (p := ⟨b, 0, none⟩) h.lt).trans h.fz⟩
structure BoxP (w W : World) (P : Nat) (a : Option Addr) (g c : Nat) (mm : List (List M.D)) : Prop where
 bel : Below w.heap.size w W
 p : Slot1 W P (.slice a mm.length c)
 ss : DoSS W a g 0 mm
theorem BoxP.below {w W W' : World} {P : Nat} {a : Option Addr} {g c : Nat} {mm : List (List M.D)} (h : BoxP w W P a g c mm) (hb : Below W.heap.size W W') : BoxP w W' P a g c mm :=
 ⟨h.bel.trans (hb.mono h.bel.size), h.p.bel hb, h.ss.below hb (Nat.le_refl _)⟩
theorem BoxP.new {w w1 : World} {a : Option Addr} {g c : Nat} {mm : List (List M.D)} (hb1 : Below w.heap.size w w1) (hs : DoSS w1 a g 0 mm) : BoxP w (w1.alloc (.cells #[.slice a mm.length c] 25)) w1.heap.size a g c mm :=
 ⟨hb1.alloc hb1.size _, Slot1.new w1 _ _, hs.below (below1 w1 _) (Nat.le_refl _)⟩
theorem Small.le {mm : List (List M.D)} {c : Nat} (h : Small mm c) : ∀ t ∈ mm, t.length ≤ 1048576 := fun t ht => by have := h.steps t ht; omega
end Go.Proofs.YtphijhpleemjoaaGreat
namespace Go.Proofs.YtphijhpleemjoaaGreat
open Go.ChangeShapes Go.WideShapes Go.ChangeAt Go.RowKit Go.Deep
theorem Tryz.own : ownKnob Tryz.prog.godebug = none := by kernel_rfl
theorem Tryz.laidOut : laidOutB Tryz.prog = true := by kernel_rfl
end Go.Proofs.YtphijhpleemjoaaGreat
