/- impl.OrderHas: what must be ahead of what by itself. Of at most 1048576 threads, steps, numbers and rows. And what goes with it: OrImp3, LpXe, WaAns, LpL, OpenBy. -/
import Derived.Shelf.Abstract
import Derived.Maps.OwnIn
import Derived.ProofKit
import Derived.ChangeSlices
import Derived.OpenShut
import Derived.Test.YtphijhpleemjoaaGreatBAad
import Derived.Test.YtphijhpleemjoaaGreatBAae
import Derived.Test.YtphijhpleemjoaaGreatBAai
import Derived.Test.YtphijhpleemjoaaGreatBAaq
import Derived.Test.YtphijhpleemjoaaGreatBAar
import Derived.Test.YtphijhpleemjoaaGreatBAax
import Derived.Test.YtphijhpleemjoaaGreatBAaz
import Derived.Test.YtphijhpleemjoaaGreatBAba
import Derived.Test.YtphijhpleemjoaaGreatBAbc
import Derived.Test.YtphijhpleemjoaaGreatBAbd
import Derived.Test.YtphijhpleemjoaaGreatBAbf
import Derived.Test.YtphijhpleemjoaaGreatBAbg
namespace Go.Proofs.YtphijhpleemjoaaGreat
open Go.RowKit
set_option maxHeartbeats 400000 in
theorem reasons0_any (w : World) : Calls Tryz.prog 141 #[.int .i64 0] w fun e w' => e = .returned (.agg #[.func (.func 179) #[] #[], .func (.func 180) #[] #[], .func (.func 181) #[] #[]]) ∧ Below w.heap.size w w' := by
 go_enter Tryz.func141, Tryz.ntmps141
 go_wp2_with fail
 refine bodyPost_ret (v := .agg #[.func (.func 179) #[] #[], .func (.func 180) #[] #[], .func (.func 181) #[] #[]]) (by simp [results, Tryz.results141, go_sem]) rfl ⟨rfl, ?_⟩
 exact below2 _ _ _
set_option maxHeartbeats 400000 in
theorem reasons1_any (w : World) : Calls Tryz.prog 141 #[.int .i64 1] w fun e w' => e = .returned (.agg #[.func (.func 182) #[] #[], .func (.func 180) #[] #[], .func (.func 181) #[] #[]]) ∧ Below w.heap.size w w' := by
 go_enter Tryz.func141, Tryz.ntmps141
 go_wp2_with fail
 refine bodyPost_ret (v := .agg #[.func (.func 182) #[] #[], .func (.func 180) #[] #[], .func (.func 181) #[] #[]]) (by simp [results, Tryz.results141, go_sem]) rfl ⟨rfl, ?_⟩
 exact below2 _ _ _
set_option maxHeartbeats 400000 in
theorem reasons2_any (w : World) : Calls Tryz.prog 141 #[.int .i64 2] w fun e w' => e = .returned (.agg #[.func (.func 183) #[] #[], .func (.func 184) #[] #[], .func (.func 181) #[] #[]]) ∧ Below w.heap.size w w' := by
 go_enter Tryz.func141, Tryz.ntmps141
 go_wp2_with fail
 refine bodyPost_ret (v := .agg #[.func (.func 183) #[] #[], .func (.func 184) #[] #[], .func (.func 181) #[] #[]]) (by simp [results, Tryz.results141, go_sem]) rfl ⟨rfl, ?_⟩
 exact below2 _ _ _
set_option maxHeartbeats 400000 in
theorem reasons3_any (w : World) : Calls Tryz.prog 141 #[.int .i64 3] w fun e w' => e = .returned (.agg #[.func (.func 185) #[] #[], .func (.func 184) #[] #[], .func (.func 186) #[] #[]]) ∧ Below w.heap.size w w' := by
 go_enter Tryz.func141, Tryz.ntmps141
 go_wp2_with fail
 refine bodyPost_ret (v := .agg #[.func (.func 185) #[] #[], .func (.func 184) #[] #[], .func (.func 186) #[] #[]]) (by simp [results, Tryz.results141, go_sem]) rfl ⟨rfl, ?_⟩
 exact below2 _ _ _
theorem isOrder_any (k : Int) (w : World) : Calls Tryz.prog 42 #[.int .i64 k] w fun e w' => e = .returned (.bool (decide (1 ≤ k) && decide (k ≤ 3))) ∧ w' = w := by
 by_cases h1 : 1 ≤ k
 ·go_enter Tryz.func42, Tryz.ntmps42
  go_wp2_with fail
  go_ret
  exact ⟨ret_bool (by simp [h1]), rfl⟩
 ·have h1' : decide (1 ≤ k) = false := by simpa using h1
  go_enter Tryz.func42, Tryz.ntmps42
  go_wp2_with fail
  go_ret
  exact ⟨ret_bool (by simp), rfl⟩
namespace M
def mustAt (ds : List De) (l : List Int) (rows : List (List Int)) (kind a b : Nat) : Bool := match ds[a]?, ds[b]? with | some x, some y => must ds l rows kind a b x y | _, _ => false
end M
theorem M.from_thr : ∀ (l : List (List M.D)) (a u : Nat), M.progFrom a u l = true → ∀ t ∈ l, M.thread t = true := by
 intro l
 induction l with
 | nil => intro a u _ t ht; cases ht
 | cons x l ih =>
  intro a u h t ht
  rw [M.progFrom] at h
  split at h
  ·rename_i hx
   rcases List.mem_cons.1 ht with rfl | ht
   ·exact hx
   ·exact ih _ _ h t ht
  ·cases h
theorem M.deed_u {ll : List (List M.D)} (h : M.prog ll = true) : ∀ x ∈ M.deeds ll, x.uses = true → 0 ≤ x.d.p ∧ x.d.p < 3 := by
 intro x hx hr
 have := M.deed_do h x hx
 simp only [M.doOk, Bool.and_eq_true, M.placeOk] at this
 have hv := this.1.2
 rw [if_pos (show M.uses x.d.k = true from hr)] at hv
 simpa using hv
structure M.Wok (ll : List (List M.D)) (l : List Int) (rows : List (List Int)) : Prop where
 prog : M.prog ll = true
 fro : M.fromOk (M.deeds ll) l = true
 len : Hid (l.length = (M.deeds ll).length)
 three : Hid (rows.length = 3)
 run : M.run false (M.deeds ll) = some false
 pl : ∀ x ∈ M.deeds ll, x.uses = true → 0 ≤ x.d.p ∧ x.d.p < 3
theorem M.wok_of {ll : List (List M.D)} {l : List Int} {rows : List (List Int)} (h : M.execOk ll l rows = true) : M.Wok ll l rows := by
 simp only [M.execOk, M.wayOk, Bool.and_eq_true] at h
 obtain ⟨hp, hf, ho, _⟩ := h
 have hlen : l.length = (M.deeds ll).length := by
  have := hf
  simp only [M.fromOk, Bool.and_eq_true, decide_eq_true_eq] at this
  exact this.1
 simp only [M.orderOk, Bool.and_eq_true, decide_eq_true_eq] at ho
 exact ⟨hp, hf, hlen, ho.1, M.run_ok (M.from_thr ll 0 0 (by have := hp; simp only [M.prog, Bool.and_eq_true] at this; exact this.2)), M.deed_u hp⟩
structure SlotE (w : World) (b : Nat) (x y z : Value) : Prop where
 blk : w.heap[b]? = some (.cells #[x, y, z] 76 (0, 0))
theorem SlotE.c0 {w : World} {b : Nat} {x y z : Value} (h : SlotE w b x y z) : w.cell? ⟨b, 0, none⟩ = some x := by simp [World.cell?, h.blk]
theorem SlotE.c1 {w : World} {b : Nat} {x y z : Value} (h : SlotE w b x y z) : w.cell? ⟨b, 1, none⟩ = some y := by simp [World.cell?, h.blk]
theorem SlotE.c2 {w : World} {b : Nat} {x y z : Value} (h : SlotE w b x y z) : w.cell? ⟨b, 2, none⟩ = some z := by simp [World.cell?, h.blk]
theorem SlotE.fz {w : World} {b : Nat} {x y z : Value} (h : SlotE w b x y z) (i : Nat) : w.frozen? ⟨b, i, none⟩ = false := by simp [World.frozen?, h.blk]
structure Wb (w W : World) (X : Nat) (va : Option Addr) (g c : Nat) (ds : List M.De) (fa : Option Addr) (fb fo fc : Nat) (l : List Int) (ra : Option Addr) (rb ro rc : Nat) (rows : List (List Int)) : Prop where
 bel : Below w.heap.size w W
 c0 : W.cell? ⟨X, 0, none⟩ = some (.slice va ds.length c)
 c1 : W.cell? ⟨X, 1, none⟩ = some (.slice fa l.length fc)
 c2 : W.cell? ⟨X, 2, none⟩ = some (.slice ra rows.length rc)
 d : DeS W va g ds
 f : IntS W fa fb fo l
 r : IntSS W ra rb ro rows
theorem Wb.first {w w1 w2 : World} {va : Option Addr} {g c : Nat} {ds : List M.De} {fa : Option Addr} {fb fo fc : Nat} {l : List Int} {ra : Option Addr} {rb ro rc : Nat} {rows : List (List Int)} {u1 u2 u3 : Value} (h12 : Below w.heap.size w w1) (hb : Below w1.heap.size w1 w2) (hV : SlotE w2 w1.heap.size u1 u2 u3) (hd : DeS w2 va g ds) (hf1 : IntS w1 fa fb fo l) (hr1 : IntSS w1 ra rb ro rows) (hg : 0 < ds.length → w1.heap.size < g) :
  Wb w (((w2.setCell ⟨w1.heap.size, 0, none⟩ (.slice va ds.length c)).setCell ⟨w1.heap.size, 1, none⟩ (.slice fa l.length fc)).setCell ⟨w1.heap.size, 2, none⟩ (.slice ra rows.length rc)) w1.heap.size va g c ds fa fb fo fc l ra rb ro rc rows := by
 have k1 := heap_setCell_same w2 w1.heap.size 0 _ _ (.slice va ds.length c) hV.blk
 have k2 := heap_setCell_same _ w1.heap.size 1 _ _ (.slice fa l.length fc) k1
 have k3 := heap_setCell_same _ w1.heap.size 2 _ _ (.slice ra rows.length rc) k2
 have hbf := ((hb.setCell (p := ⟨w1.heap.size, 0, none⟩) (Nat.le_refl _) (.slice va ds.length c)).setCell (p := ⟨w1.heap.size, 1, none⟩) (Nat.le_refl _) (.slice fa l.length fc)).setCell (p := ⟨w1.heap.size, 2, none⟩) (Nat.le_refl _) (.slice ra rows.length rc)
 refine ⟨h12.trans (hbf.mono h12.size), by simp [World.cell?, k3], by simp [World.cell?, k3], by simp [World.cell?, k3], ⟨hd.addr, fun i hi j hj => ?_⟩, hf1.below hbf (Nat.le_refl _), hr1.below hbf (Nat.le_refl _)⟩
 have hk : g ≠ w1.heap.size := by have := hg (by omega); omega
 rw [← hd.row i hi j hj]
 refine World.cell?_of_block ?_
 rw [Below.heap_setCell _ _ _ _ hk, Below.heap_setCell _ _ _ _ hk, Below.heap_setCell _ _ _ _ hk]
end Go.Proofs.YtphijhpleemjoaaGreat
namespace Go.Proofs.YtphijhpleemjoaaGreat
open Go.RowKit Go.Shelf
structure LW (w : World) (a : Option Addr) (g : Nat) (xs : List M.Wy) : Prop where
 addr : 0 < xs.length → a = some ⟨g, 0, none⟩
 row : ∀ i (h : i < xs.length), ∃ fa fb fc ra rb rc, w.cell? ⟨g, i * 2, none⟩ = some (.slice fa xs[i].1.length fc) ∧ w.cell? ⟨g, i * 2 + 1, none⟩ = some (.slice ra xs[i].2.length rc) ∧ IntS w fa fb 0 xs[i].1 ∧ IntSS w ra rb 0 xs[i].2
theorem LW.below {w w' : World} {a : Option Addr} {g : Nat} {xs : List M.Wy} (h : LW w a g xs) (hb : Below w.heap.size w w') : LW w' a g xs :=
 ⟨h.addr, fun i hi => by
  obtain ⟨fa, fb, fc, ra, rb, rc, h1, h2, h3, h4⟩ := h.row i hi
  exact ⟨fa, fb, fc, ra, rb, rc, (hb.cell (p := ⟨g, i * 2, none⟩) (World.block_lt_of_cell? _ _ h1)).trans h1, (hb.cell (p := ⟨g, i * 2 + 1, none⟩) (World.block_lt_of_cell? _ _ h2)).trans h2, h3.below hb (Nat.le_refl _), h4.below hb (Nat.le_refl _)⟩⟩
end Go.Proofs.YtphijhpleemjoaaGreat
namespace Go.Proofs.YtphijhpleemjoaaGreat
open Go.RowKit
theorem M.mem_execAll {ll : List (List M.D)} {x : M.Wy} : x ∈ M.specAll ll ↔ M.execOk ll x.1 x.2 = true := by
 unfold M.specAll M.execOk
 cases hp : M.prog ll
 ·simp
 ·rw [if_pos rfl, Bool.true_and]
  exact M.mem_all
structure WyLe (x : M.Wy) : Prop where
 a : x.1.length ≤ 1048576
 b : x.2.length ≤ 1048576
 c : ∀ r ∈ x.2, r.length ≤ 1048576
theorem own_two {w : World} {base n : Nat} {e : TypeId} {v : Value} {xs : List Value} (h : w.ownsRow base e 2 v n xs) : ∃ a g c, v = .slice a n c ∧ (0 < n → a = some ⟨g, 0, none⟩) ∧ ∀ j u, xs[j]? = some u → w.cell? ⟨g, j, none⟩ = some u := by
 rcases h.2 with ⟨hv, hn⟩ | ⟨g, cap, cur, hv, hg, hh, hc, r⟩
 ·have hx : xs = [] := List.length_eq_zero_iff.1 (by rw [h.1, hn])
  subst hx
  exact ⟨none, 0, 0, by rw [hv, hn], fun h => absurd h (by omega), fun j u hj => (by simp at hj)⟩
 ·refine ⟨_, g, cap, hv, fun _ => rfl, fun j u hj => ?_⟩
  have := h.cells (g := g) (by rw [hv]; rfl) j u hj
  rwa [Go.WideShapes.add_plain, Nat.zero_add] at this
theorem Xw.lw {W : World} {B : Nat} {fv ov : Value} {x : M.Wy} {cs : List Value} (h : Xw W B fv ov x.1 cs x.2) : ∃ fa fb fc ra rb rc, fv = .slice fa x.1.length fc ∧ ov = .slice ra x.2.length rc ∧ IntS W fa fb 0 x.1 ∧ IntSS W ra rb 0 x.2 := h.reads
theorem RXL.lw {W : World} {base n : Nat} {v : Value} {cs : List Value} {xs : List M.Wy} (h : RXL W base v cs n xs) : ∃ a g c, v = .slice a xs.length c ∧ LW W a g xs := by
 obtain ⟨a, g, c, e1, e2, e3⟩ := own_two h.own
 have hl := h.len.out
 rw [← hl] at e1 e2
 refine ⟨a, g, c, e1, e2, fun i hi => ?_⟩
 obtain ⟨fv, ov, rc0, c1, c2, hx, _⟩ := h.row i hi
 obtain ⟨fa, fb, fc, ra, rb, rc, f1, f2, f3, f4⟩ := hx.lw
 exact ⟨fa, fb, fc, ra, rb, rc, by rw [← f1]; exact e3 _ _ c1, by rw [← f2]; exact e3 _ _ c2, f3, f4⟩
theorem SxaAns.lw {w w' : World} {ll : List (List M.D)} {v : Value} (h : SxaAns w w' ll v) : ∃ a g c, v = .slice a (M.specAll ll).length c ∧ LW w' a g (M.specAll ll) := by
 obtain ⟨cs, n, hw, _⟩ := h.ex
 exact hw.lw
end Go.Proofs.YtphijhpleemjoaaGreat
namespace Go.Proofs.YtphijhpleemjoaaGreat
open Go.RowKit
theorem M.sameS_self (a b : List Int) : M.sameS a b a b = true := by rw [M.sameS_eq, M.cmpS_self]; rfl
set_option maxHeartbeats 1000000 in
set_option maxRecDepth 100000 in
theorem lpList_same (a : Option Addr) (b o c : Nat) (a2 : Option Addr) (b2 o2 c2 : Nat) (ks : List Key) (w : World) (hl : ks.length ≤ 1048576) (hls : KLe ks 1048576) (h : KS w a b o ks) (h2 : KS w a2 b2 o2 ks) :
  Calls Tryz.prog 17 #[.slice a ks.length c, .slice a2 ks.length c2] w fun e w' => e = .returned (.bool true) ∧ Below w.heap.size w w' := by
 go_enter Tryz.func17, Tryz.ntmps17
 go_wp2_with fail
 go_loopw [5] (fun s5 wr => ∃ n : Nat, s5 = .int .i64 n ∧ n ≤ ks.length ∧ Below w.heap.size w wr) (fun s5 _ => ks.length - (intOf s5).toNat)
 case atStart => exact ⟨0, rfl, Nat.zero_le _, Below.refl _ _⟩
 case round =>
  obtain ⟨n, rfl, hn, hb⟩ := hrel
  by_cases hlt : n < ks.length
  ·obtain ⟨rfl⟩ := h.addr (by omega)
   obtain ⟨rfl⟩ := h2.addr (by omega)
   obtain ⟨s, h1, h2', c1, c2', hsa⟩ := (h.below hb (Nat.le_refl _)).row n hlt
   obtain ⟨t, t1, t2, d1, d2, hta⟩ := (h2.below hb (Nat.le_refl _)).row n hlt
   obtain ⟨e1, e2⟩ := hls _ (List.getElem_mem hlt)
   have hsl : s.Le 1048576 := ⟨by rw [h1]; exact e1, by rw [h2']; exact e2⟩
   have C := fun p : BelowOf wr => (lpSame_any s t p.x hsl (hsa.below p.h (Nat.le_refl _)) (hta.below p.h (Nat.le_refl _)))
   have hq : M.sameS s.l1 s.l2 t.l1 t.l2 = true := by rw [h1, h2', t1, t2, M.sameS_self]
   rw [hq] at C
   clear h1 h2' t1 t2 e1 e2 hq
   have K1 := BelowOf.cell c1
   have K2 := BelowOf.cell c2'
   have K3 := BelowOf.cell d1
   have K4 := BelowOf.cell d2
   have i1 : (n : Int) < ks.length := by omega
   go_wp2_with fail
   haveI : Inhabited (BelowOf wr) := ⟨belOf wr⟩
   refine wp_region_quiet_bel (by kernel_rfl) (by kernel_rfl) ?_
   repeat (quiet_step (first | (go_at_call 48; exact Calls.bel_of ((C _).mono fun _ _ ⟨he, hg⟩ => ⟨he, hg.bel⟩))))
   refine wpQuiet_nil ?_
   rintro wq ⟨⟨wx, hwq⟩, ew⟩
   change wq = wx at ew
   subst ew
   go_wp2_with fail
   exact ⟨⟨n + 1, by go_num, by omega, hb.trans (hwq.mono hb.size)⟩, by simp [intOf]; omega⟩
  ·go_wp2_with fail
   go_ret
   exact ⟨rfl, hb⟩
end Go.Proofs.YtphijhpleemjoaaGreat
namespace Go.Proofs.YtphijhpleemjoaaGreat
open Go.ChangeShapes Go.WideShapes Go.ChangeAt Go.RowKit Go.Deep
theorem Tryz.cellsByte : Tryz.prog.cellsOf 5 = 1 := by kernel_rfl
def Code8 (w : World) (u : Value) : Prop := ∃ ca cb co L C, ∃ x : Nat → Int, u = .slice ca L C ∧ L ≤ C ∧ (0 < L → ca = some ⟨cb, co, none⟩) ∧ ∀ i, i < L → w.cell? ⟨cb, co + i, none⟩ = some (.int .u8 (x i)) ∧ 0 ≤ x i ∧ x i ≤ 255
section
variable {H : Type} {enc : TypeId × Value → H} {w : World} {base : Nat} {spare : Nat → Bool} {held : Bool}
set_option maxRecDepth 100000 in
theorem open_code {fuel : Nat} {u : Value} {x : DataW H × List MemPlace} (h : DataW.trod enc Tryz.prog w base spare held fuel 22 [u] = some x) : Code8 w u := by
 rcases open_ints Tryz.underlying22 Tryz.underlying5 Tryz.cellsByte h with ⟨hcs, _⟩ | ⟨a, len, cap, zs, hcs, _, hl, hm, hmm, _, hel, hwf⟩
 ·simp at hcs
  exact ⟨none, 0, 0, 0, 0, fun _ => 0, hcs, Nat.le_refl _, fun h => absurd h (Nat.lt_irrefl _), fun i hi => absurd hi (Nat.not_lt_zero _)⟩
 ·simp at hcs
  obtain ⟨gb, go, gs⟩ := a
  have hlm : len ≤ zs.length := by rw [hmm]; split <;> omega
  rcases Nat.eq_zero_or_pos len with h0 | hpos
  ·subst h0
   exact ⟨_, 0, 0, 0, cap, fun _ => 0, hcs, Nat.zero_le _, fun h => absurd h (Nat.lt_irrefl _), fun i hi => absurd hi (Nat.not_lt_zero _)⟩
  ·have hgs : gs = none := by simpa [Addr.add] using World.cell?_spot (hel 0 (by omega))
   subst hgs
   refine ⟨_, gb, go, len, cap, fun i => zs.getD i 0, hcs, hl, fun _ => rfl, fun i hi => ?_⟩
   have h1 := hel i (by omega)
   rw [add_plain] at h1
   have hw := hwf (zs.getD i 0) (by rw [List.getD_eq_getElem?_getD, List.getElem?_eq_getElem (by omega)]; exact List.getElem_mem _)
   exact ⟨h1, bounds_u8 hw⟩
end
end Go.Proofs.YtphijhpleemjoaaGreat
