/- impl's ways: what an event reads or writes. Of at most 1048576 events. What both tell of all ways, read: they are the same. No condition. A way that was drawn, in memory, and what is written into one. No condition. -/
import Derived.Maps.OwnIn
import Derived.Test.YtphijhpleemjoaaGreatBFan
import Derived.Test.YtphijhpleemjoaaGreatBFap
import Derived.Test.YtphijhpleemjoaaGreatBFaq
import Derived.Test.YtphijhpleemjoaaGreatBFax
import Derived.Test.YtphijhpleemjoaaGreatBFay
import Derived.Test.YtphijhpleemjoaaGreatBFbb
import Derived.Test.YtphijhpleemjoaaGreatBFbc
import Derived.Test.YtphijhpleemjoaaGreatBFbf
namespace Go.Proofs.YtphijhpleemjoaaGreat
open Go.RowKit
theorem M.orig_lt {ds : List M.De} {l : List Int} (hin : M.In ds l) : ∀ (m n q : Nat), n < ds.length → M.orig ds l m n = some q → q < ds.length := by
 intro m
 induction m with
 | zero => intro n q _ h; simp [M.orig] at h
 | succ m ih =>
  intro n q hn h
  rw [M.orig] at h
  split at h
  ·obtain rfl := Option.some.inj h; exact hn
  ·have := hin n hn
   exact ih _ q (by omega) h
set_option maxHeartbeats 400000 in
theorem value_any (va : Option Addr) (g c : Nat) (ds : List M.De) (a : Option Addr) (b o c2 : Nat) (l : List Int) (n q : Nat) (w : World) (hn : n < ds.length) (HLL : Hid (l.length = ds.length)) (hin : M.In ds l) (ho : M.orig ds l ds.length n = some q) (hq : q < ds.length) (hl : ds.length ≤ 1048576) (h : DeS w va g ds) (h2 : IntS w a b o l) :
  Calls Tryz.prog 95 #[.slice va ds.length c, .slice a l.length c2, .int .i64 n] w fun e w' => e = .returned (.int .i64 ds[q].d.v) ∧ Below w.heap.size w w' := by
 have C := origin_any va g c ds a b o c2 l n w hn HLL.out hin hl h h2
 rw [ho] at C
 change Calls _ _ _ _ fun e w' => e = .returned (.tuple #[.int .i64 q, .bool true]) ∧ _ at C
 obtain ⟨rfl⟩ := h.addr (by omega)
 have i1 : (q : Int) < ds.length := by omega
 go_enter Tryz.func95, Tryz.ntmps95
 go_wp2_with (go_at_call 148; refine C.mono ?_; rintro e w1 ⟨rfl, hb1⟩; obtain ⟨_, _, _, _, _, c5, _⟩ := DeS.at (h.bel hb1 (Nat.le_refl _)) hq)
 go_ret
 exact ⟨rfl, hb1⟩
theorem M.val_of_orig {ds : List M.De} {l : List Int} (hin : M.In ds l) (hll : l.length = ds.length) (hz : ∀ x ∈ ds, x.reads = true ∨ x.d.k = 3 → x.d.v = 0) : ∀ (m n q : Nat), n < ds.length → (hq : q < ds.length) → M.orig ds l m n = some q → M.val ds l m n = ds[q].d.v := by
 intro m
 induction m with
 | zero => intro n q _ _ h; simp [M.orig] at h
 | succ m ih =>
  intro n q hn hq h
  have hi := hin n hn
  have hvf : M.valFrom ds l n = if ds[n].reads then l[n] else if ds[n].d.k == 3 then ds[n].lr else -1 := by
   simp [M.valFrom, hn, show n < l.length by omega]
  rw [M.val_at ds l m n hn (by omega)]
  rw [M.orig] at h
  have step : ∀ f : Int, M.valFrom ds l n = f → (ds[n].reads = true ∨ ds[n].d.k = 3) → M.val ds l m f = ds[q].d.v := by
   intro f hf hk
   rw [hf] at h hi
   by_cases h0 : f < 0
   ·rw [if_pos h0] at h
    obtain rfl := Option.some.inj h
    rw [M.val_neg _ _ _ h0, hz _ (List.getElem_mem hn) hk]
   ·rw [if_neg h0] at h
    obtain ⟨k, rfl⟩ : ∃ k : Nat, f = k := ⟨f.toNat, by omega⟩
    rw [Int.toNat_natCast] at h
    exact ih k q (by omega) hq h
  by_cases hr : ds[n].reads = true
  ·rw [if_pos hr]
   rw [if_pos hr] at hvf
   exact step _ hvf (Or.inl hr)
  ·rw [if_neg hr]
   rw [if_neg hr] at hvf
   by_cases h3 : (ds[n].d.k == 3) = true
   ·rw [if_pos h3]
    rw [if_pos h3] at hvf
    exact step _ hvf (Or.inr (by simpa using h3))
   ·rw [if_neg h3]
    rw [if_neg h3] at hvf
    rw [hvf, if_pos (by omega)] at h
    obtain rfl := Option.some.inj h
    rfl
end Go.Proofs.YtphijhpleemjoaaGreat
namespace Go.Proofs.YtphijhpleemjoaaGreat
open Go.RowKit
theorem M.mem_execAll {ll : List (List M.D)} {x : M.Wy} : x ∈ M.specAll ll ↔ M.execOk ll x.1 x.2 = true := by
 unfold M.specAll M.execOk
 cases hp : M.prog ll
 ·simp
 ·rw [if_pos rfl, Bool.true_and]
  exact M.mem_all
structure WyLe (x : M.Wy) : Prop where
 a : x.1.length ≤ 1048576
 b : x.2.length ≤ 1048576
 c : ∀ r ∈ x.2, r.length ≤ 1048576
theorem own_two {w : World} {base n : Nat} {e : TypeId} {v : Value} {xs : List Value} (h : w.ownsRow base e 2 v n xs) : ∃ a g c, v = .slice a n c ∧ (0 < n → a = some ⟨g, 0, none⟩) ∧ ∀ j u, xs[j]? = some u → w.cell? ⟨g, j, none⟩ = some u := by
 rcases h.2 with ⟨hv, hn⟩ | ⟨g, cap, cur, hv, hg, hh, hc, r⟩
 ·have hx : xs = [] := List.length_eq_zero_iff.1 (by rw [h.1, hn])
  subst hx
  exact ⟨none, 0, 0, by rw [hv, hn], fun h => absurd h (by omega), fun j u hj => (by simp at hj)⟩
 ·refine ⟨_, g, cap, hv, fun _ => rfl, fun j u hj => ?_⟩
  have := h.cells (g := g) (by rw [hv]; rfl) j u hj
  rwa [Go.WideShapes.add_plain, Nat.zero_add] at this
theorem Xw.lw {W : World} {B : Nat} {fv ov : Value} {x : M.Wy} {cs : List Value} (h : Xw W B fv ov x.1 cs x.2) : ∃ fa fb fc ra rb rc, fv = .slice fa x.1.length fc ∧ ov = .slice ra x.2.length rc ∧ IntS W fa fb 0 x.1 ∧ IntSS W ra rb 0 x.2 := h.reads
theorem RXL.lw {W : World} {base n : Nat} {v : Value} {cs : List Value} {xs : List M.Wy} (h : RXL W base v cs n xs) : ∃ a g c, v = .slice a xs.length c ∧ LW W a g xs := by
 obtain ⟨a, g, c, e1, e2, e3⟩ := own_two h.own
 have hl := h.len.out
 rw [← hl] at e1 e2
 refine ⟨a, g, c, e1, e2, fun i hi => ?_⟩
 obtain ⟨fv, ov, rc0, c1, c2, hx, _⟩ := h.row i hi
 obtain ⟨fa, fb, fc, ra, rb, rc, f1, f2, f3, f4⟩ := hx.lw
 exact ⟨fa, fb, fc, ra, rb, rc, by rw [← f1]; exact e3 _ _ c1, by rw [← f2]; exact e3 _ _ c2, f3, f4⟩
theorem SxaAns.lw {w w' : World} {ll : List (List M.D)} {v : Value} (h : SxaAns w w' ll v) : ∃ a g c, v = .slice a (M.specAll ll).length c ∧ LW w' a g (M.specAll ll) := by
 obtain ⟨cs, n, hw, _⟩ := h.ex
 exact hw.lw
end Go.Proofs.YtphijhpleemjoaaGreat
namespace Go.Proofs.YtphijhpleemjoaaGreat
open Go.RowKit
theorem But.grows {rb : Nat} {w w' : World} (h : But rb w w') : w.grownBy w' (some rb) := ⟨h.os, h.tape, h.output, h.size, fun k hk hne => h.block k hk (fun e => hne (by rw [e]))⟩
theorem Off1.symm {u v : Value} (h : Off1 u v.ownBlock) : Off1 v u.ownBlock := fun k hk e => h k e hk
theorem Xw.but {w w' : World} {base rb : Nat} {fv ov : Value} {l : List Int} {cs : List Value} {rows : List (List Int)} (h : Xw w base fv ov l cs rows) (hb : But rb w w') (hr : rb < base) : Xw w' base fv ov l cs rows :=
 h.grown hb.grows (h.off (fun k hk => by have : rb = k := Option.some.inj hk; omega))
structure WyP (P : Nat → Prop) (w : World) (fv ov : Value) (l : List Int) (rows : List (List Int)) : Prop where
 f : ∃ fa fb fc, fv = .slice fa l.length fc ∧ IntS w fa fb 0 l ∧ (0 < l.length → P fb)
 o : ∃ ra rb rc, ov = .slice ra rows.length rc ∧ (0 < rows.length → ra = some ⟨rb, 0, none⟩ ∧ P rb) ∧ ∀ i (h : i < rows.length), ∃ a' b' c', w.cell? ⟨rb, i, none⟩ = some (.slice a' rows[i].length c') ∧ IntS w a' b' 0 rows[i] ∧ (0 < rows[i].length → P b')
theorem WyP.keep {P P' : Nat → Prop} {w w' : World} {fv ov : Value} {l : List Int} {rows : List (List Int)} (h : WyP P w fv ov l rows) (hP : ∀ b, P b → P' b) (k : ∀ p u, P p.block → w.cell? p = some u → w'.cell? p = some u) : WyP P' w' fv ov l rows := by
 obtain ⟨⟨fa, fb, fc, e1, e2, e3⟩, ⟨ra, rb, rc, d1, d2, d3⟩⟩ := h
 refine ⟨⟨fa, fb, fc, e1, ⟨e2.addr, fun i hi => k _ _ (e3 (by omega)) (e2.row i hi)⟩, fun h => hP _ (e3 h)⟩, ⟨ra, rb, rc, d1, fun h => ⟨(d2 h).1, hP _ (d2 h).2⟩, fun i hi => ?_⟩⟩
 obtain ⟨a', b', c', g1, g2, g3⟩ := d3 i hi
 exact ⟨a', b', c', k _ _ (d2 (by omega)).2 g1, ⟨g2.addr, fun j hj => k _ _ (g3 (by omega)) (g2.row j hj)⟩, fun h => hP _ (g3 h)⟩
theorem WyP.set {P P' : Nat → Prop} {w : World} {fv ov : Value} {l : List Int} {rows : List (List Int)} {B i : Nat} {u : Value} (h : WyP P w fv ov l rows) (hP : ∀ b, P b → P' b ∧ b ≠ B) : WyP P' (w.setCell ⟨B, i, none⟩ u) fv ov l rows :=
 h.keep (fun b hb => (hP b hb).1) (fun p _ hp hc => (World.cell?_setCell_other _ _ _ _ (fun e => (hP _ hp).2 (by rw [← e]))).trans hc)
theorem WyP.ss {P : Nat → Prop} {w : World} {fv ov : Value} {l : List Int} {rows : List (List Int)} (h : WyP P w fv ov l rows) : ∃ fa fb fc ra rb rc, fv = .slice fa l.length fc ∧ ov = .slice ra rows.length rc ∧ IntS w fa fb 0 l ∧ IntSS w ra rb 0 rows := by
 obtain ⟨⟨fa, fb, fc, e1, e2, e3⟩, ⟨ra, rb, rc, d1, d2, d3⟩⟩ := h
 exact ⟨fa, fb, fc, ra, rb, rc, e1, d1, e2, ⟨fun h => (d2 h).1, fun i hi => by
  obtain ⟨a', b', c', g1, g2, g3⟩ := d3 i hi
  exact ⟨a', b', 0, c', by rw [Nat.zero_add]; exact g1, g2⟩⟩⟩
theorem own_where {w : World} {base n : Nat} {e : TypeId} {v : Value} {xs : List Value} (h : w.ownsRow base e 1 v n xs) : ∃ a g c, v = .slice a n c ∧ (0 < n → a = some ⟨g, 0, none⟩ ∧ v.ownBlock = some g) ∧ ∀ j u, xs[j]? = some u → w.cell? ⟨g, j, none⟩ = some u := by
 rcases h.2 with ⟨hv, hn⟩ | ⟨g, cap, cur, hv, hg, hh, hc, r⟩
 ·have hx : xs = [] := List.length_eq_zero_iff.1 (by rw [h.1, hn])
  subst hx
  exact ⟨none, 0, 0, by rw [hv, hn], fun h => absurd h (by omega), fun j u hj => (by simp at hj)⟩
 ·refine ⟨_, g, cap, hv, fun _ => ⟨rfl, by rw [hv]; rfl⟩, fun j u hj => ?_⟩
  have := h.cells (g := g) (by rw [hv]; rfl) j u hj
  rwa [Go.WideShapes.add_plain, Nat.zero_add] at this
theorem own_ints2 {w : World} {base : Nat} {e : TypeId} {v : Value} {l : List Int} (h : w.ownsRow base e 1 v l.length (nums l)) : ∃ a g c, v = .slice a l.length c ∧ IntS w a g 0 l ∧ (0 < l.length → v.ownBlock = some g) := by
 obtain ⟨a, g, c, e1, e2, e3⟩ := own_where h
 exact ⟨a, g, c, e1, ⟨fun h => (e2 h).1, fun i hi => by rw [Nat.zero_add]; exact e3 i _ (by simp [nums, hi])⟩, fun h => (e2 h).2⟩
theorem Xw.wy {w : World} {base X : Nat} {fv ov : Value} {l : List Int} {cs : List Value} {rows : List (List Int)} (h : Xw w base fv ov l cs rows) (ho : Xoff fv ov cs (some X)) : WyP (fun b => base ≤ b ∧ b ≠ X) w fv ov l rows := by
 obtain ⟨fa, fb, fc, e1, e2, e3⟩ := own_ints2 h.from_
 obtain ⟨ra, rb, rc, d1, d2, d3⟩ := own_where h.ord
 have key : ∀ {v : Value} {g : Nat} {e : TypeId} {n : Nat} {xs : List Value}, w.ownsRow base e 1 v n xs → Off1 v (some X) → v.ownBlock = some g → base ≤ g ∧ g ≠ X := fun hv hof hb => ⟨(hv.lt _ hb).1, fun e => hof _ hb (by rw [e])⟩
 refine ⟨⟨fa, fb, fc, e1, e2, fun hl => key h.from_ ho.from_ (e3 hl)⟩, ⟨ra, rb, rc, d1, fun hl => ⟨(d2 hl).1, key h.ord ho.ord (d2 hl).2⟩, fun i hi => ?_⟩⟩
 obtain ⟨u, g1, g2, _, _⟩ := h.row i hi
 obtain ⟨a', b', c', f1, f2, f3⟩ := own_ints2 g2
 exact ⟨a', b', c', by rw [← f1]; exact d3 i u g1, f2, fun hl => key g2 (ho.row u (List.mem_of_getElem? g1)) (f3 hl)⟩
theorem Off1.some {v : Value} {row : Option Nat} {g : Nat} (h : Off1 v row) (hg : v.ownBlock = some g) : row ≠ some g := h g hg
theorem Xw.setFrom {w : World} {base X fb fc n k : Nat} {ov : Value} {l : List Int} {cs : List Value} {rows : List (List Int)} {v : Int} (h : Xw w base (.slice (some ⟨fb, 0, none⟩) n fc) ov l cs rows) (ho : Xoff (.slice (some ⟨fb, 0, none⟩) n fc) ov cs (some X)) (hk : k < l.length) : WyP (fun b => base ≤ b ∧ b ≠ X) (w.setCell ⟨fb, k, none⟩ (.int .i64 v)) (.slice (some ⟨fb, 0, none⟩) n fc) ov (l.set k v) rows := by
 obtain ⟨⟨fa, fb', fc', e1, e2, e3⟩, _⟩ := h.wy ho
 simp only [Value.slice.injEq] at e1
 obtain ⟨rfl, rfl, rfl⟩ := e1
 have e4 := e2.addr (by omega)
 obtain ⟨rfl⟩ : fb = fb' := by simpa using e4
 have hg := grown_set w fb k (.int .i64 v)
 have hord : Off1 ov (some fb) := fun q hq e => h.apart fb rfl (by rw [hq]; exact e.symm)
 have ord' := hord.kept h.ord hg
 obtain ⟨ra, rb, rc, d1, d2, d3⟩ := own_where ord'
 have key : ∀ {v : Value} {g : Nat} {e : TypeId} {n : Nat} {xs : List Value}, w.ownsRow base e 1 v n xs → Off1 v (some X) → v.ownBlock = some g → base ≤ g ∧ g ≠ X := fun hv hof hb => ⟨(hv.lt _ hb).1, fun e => hof _ hb (by rw [e])⟩
 refine ⟨⟨some ⟨fb, 0, none⟩, fb, fc, by rw [List.length_set], ⟨fun _ => rfl, fun i hi => ?_⟩, fun hl => e3 (by simpa using hl)⟩, ⟨ra, rb, rc, d1, fun hl => ⟨(d2 hl).1, key h.ord ho.ord (d2 hl).2⟩, fun i hi => ?_⟩⟩
 ·have hi' : i < l.length := by simpa using hi
  have c0 := e2.row i hi'
  rw [List.getElem_set]
  by_cases hik : k = i
  ·subst hik
   rw [if_pos rfl, Nat.zero_add] at *
   exact World.cell?_setCell_same _ _ _ c0
  ·rw [if_neg hik, World.cell?_setCell_other _ _ _ _ (fun e => by have := congrArg Addr.off e; simp at this; omega)]
   exact c0
 ·obtain ⟨u, g1, g2, _, g4⟩ := h.row i hi
  have g5 : Off1 u (some fb) := g4
  have g2' := g5.kept g2 hg
  obtain ⟨a', b', c', f1, f2, f3⟩ := own_ints2 g2'
  exact ⟨a', b', c', by rw [← f1]; exact d3 i u g1, f2, fun hl => key g2 (ho.row u (List.mem_of_getElem? g1)) (f3 hl)⟩
end Go.Proofs.YtphijhpleemjoaaGreat
