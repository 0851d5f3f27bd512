/- The laws' own comparing of ways: laws.lpInts, lpExec. Of lists of at most 1048576 numbers and rows. And what goes with it: LpXe, DrAn, DrOp, BxP, LpL, OpenBy. -/
import Derived.Shelf.Abstract
import Derived.ProofKit
import Derived.ChangeSlices
import Derived.OpenShut
import Derived.Test.YtphijhpleemjoaaGreatBFad
import Derived.Test.YtphijhpleemjoaaGreatBFaf
import Derived.Test.YtphijhpleemjoaaGreatBFai
import Derived.Test.YtphijhpleemjoaaGreatBFan
import Derived.Test.YtphijhpleemjoaaGreatBFap
import Derived.Test.YtphijhpleemjoaaGreatBFav
import Derived.Test.YtphijhpleemjoaaGreatBFbd
import Derived.Test.YtphijhpleemjoaaGreatBFbe
namespace Go.Proofs.YtphijhpleemjoaaGreat
open Go.RowKit Go.Shelf
structure LW (w : World) (a : Option Addr) (g : Nat) (xs : List M.Wy) : Prop where
 addr : 0 < xs.length → a = some ⟨g, 0, none⟩
 row : ∀ i (h : i < xs.length), ∃ fa fb fc ra rb rc, w.cell? ⟨g, i * 2, none⟩ = some (.slice fa xs[i].1.length fc) ∧ w.cell? ⟨g, i * 2 + 1, none⟩ = some (.slice ra xs[i].2.length rc) ∧ IntS w fa fb 0 xs[i].1 ∧ IntSS w ra rb 0 xs[i].2
theorem LW.below {w w' : World} {a : Option Addr} {g : Nat} {xs : List M.Wy} (h : LW w a g xs) (hb : Below w.heap.size w w') : LW w' a g xs :=
 ⟨h.addr, fun i hi => by
  obtain ⟨fa, fb, fc, ra, rb, rc, h1, h2, h3, h4⟩ := h.row i hi
  exact ⟨fa, fb, fc, ra, rb, rc, (hb.cell (p := ⟨g, i * 2, none⟩) (World.block_lt_of_cell? _ _ h1)).trans h1, (hb.cell (p := ⟨g, i * 2 + 1, none⟩) (World.block_lt_of_cell? _ _ h2)).trans h2, h3.below hb (Nat.le_refl _), h4.below hb (Nat.le_refl _)⟩⟩
end Go.Proofs.YtphijhpleemjoaaGreat
namespace Go.Proofs.YtphijhpleemjoaaGreat
open Go.RowKit
structure Small (mm : List (List M.D)) (c : Nat) : Prop where
 cap : mm.length ≤ c
 pos : 0 < mm.length
 three : mm.length ≤ 3
 steps : ∀ t ∈ mm, t.length ≤ 14
set_option maxHeartbeats 1000000 in
set_option maxRecDepth 100000 in
theorem l71Any_any (B rb p : Nat) (w : World) (hp : p ≤ 1000) (h : Rdr w B rb p) :
  Calls Tryz.prog 40 #[.pointer (some ⟨rb, 0, none⟩)] w fun e w' => ∃ (a : Option Addr) (g c : Nat) (mm : List (List M.D)), e = .returned (.agg #[.slice a mm.length c]) ∧ DoSN (w.heap.size + 1) w' a g 0 mm ∧ Small mm c ∧ ∃ p' : Nat, p' ≤ p + 10100 ∧ Rdr w' B rb p' ∧ But rb w w' := by
 have hlt := h.lt
 have hge := h.ge
 go_enter Tryz.func40, Tryz.ntmps40
 go_wp2_with fail
 refine (l71Prog_any B rb p _ hp (h.alloc _)).mono ?_
 rintro e w1 ⟨ll, vs, v, rfl, hB1, hprog, _, hlen, p1, hp1, hr1, hb1⟩
 obtain ⟨h3, h7⟩ := M.prog_le hprog
 have hS1 := (Slot1.new w (.slice none 0 0) 25).but hb1 (by omega)
 have hb1' := ((But.refl rb w).alloc (.cells #[.slice none 0 0] 25)).trans hb1
 simp only [World.size_alloc] at hB1
 obtain ⟨a, g, c, rfl, _⟩ := hB1.sn
 have hlt1 := hr1.lt
 clear hb1
 go_wp2_with fail
 refine (pick_rdr B rb p1 _ _ (by omega) (by omega) (by omega) (hr1.alloc _)).mono ?_
 rintro e w2 ⟨r2, rfl, r20, r21, hr2, hb2⟩
 have hal := (But.refl rb w1).alloc (.cells #[.slice a ll.length c] 25)
 have hX2 := (Slot1.new w1 (.slice a ll.length c) 25).but hb2 (by omega)
 have hS2 := (hS1.but hal (by omega)).but hb2 (by omega)
 have hB2 := (hB1.but hal (by omega)).but hb2 (by omega)
 have hb2' := (hb1'.trans hal).trans hb2
 clear hb2 hal hS1 hB1 hb1' hr1
 by_cases h0 : r2 = 0
 ·subst h0
  have x0 := hX2.c
  go_wp2_with fail
  refine (l71Bad_any B (w.heap.size + 1 + 1) rb (p1 + 1) _ ll vs _ (by omega) hlen h3 h7 hB2 (by omega) hr2).mono ?_
  rintro e w3 ⟨a', g', c', mm, rfl, hsn, hml, hmc, hm14, p3, hp3, hr3, hb3⟩
  have hm0 : 0 < mm.length := by omega
  have hm3 : mm.length ≤ 3 := by omega
  clear hml
  have hS3 := hS2.but hb3 (by omega)
  have s0 := hS3.c
  have sf := hS3.fz
  have hsl := hS3.lt
  go_wp2_with fail
  have s4 := (hS3.set (.slice a' mm.length c')).c
  refine bodyPost_ret (v := .agg #[.slice a' mm.length c']) (by simp [results, Tryz.results40, go_sem, s4]) rfl ⟨a', g', c', mm, rfl, (hsn.far (by omega)).mono (by omega), ⟨hmc, hm0, hm3, hm14⟩, p3, by omega, hr3.setCell (by omega) (by omega) _, (hb2'.trans hb3).setCell (Or.inl (Nat.le_refl _)) _⟩
 ·have h0' : (r2 == 0) = false := by simpa using h0
  obtain ⟨a', g', c', e', hsn⟩ := hB2.sn
  simp only [Value.slice.injEq] at e'
  obtain ⟨rfl, _, rfl⟩ := e'
  have x0 := hX2.c
  have s0 := hS2.c
  have sf := hS2.fz
  have hsl := hS2.lt
  go_wp2_with fail
  have s4 := (hS2.set (.slice a ll.length c)).c
  refine bodyPost_ret (v := .agg #[.slice a ll.length c]) (by simp [results, Tryz.results40, go_sem, s4]) rfl ⟨a, g', c, ll, rfl, (hsn.far (by omega)).mono (by omega), ⟨hB2.cap, hlen, h3, fun t ht => by have := h7 t ht; omega⟩, p1 + 1, by omega, hr2.setCell (by omega) (by omega) _, hb2'.setCell (Or.inl (Nat.le_refl _)) _⟩
end Go.Proofs.YtphijhpleemjoaaGreat
namespace Go.Proofs.YtphijhpleemjoaaGreat
open Go.RowKit
set_option maxHeartbeats 400000 in
theorem l6Open_any (ca : Option Addr) (cb co L C : Nat) (x : Nat → Int) (w : World) (hL : L ≤ C) (had : 0 < L → ca = some ⟨cb, co, none⟩) (hc : ∀ i, i < L → w.cell? ⟨cb, co + i, none⟩ = some (.int .u8 (x i)) ∧ 0 ≤ x i ∧ x i ≤ 255) (hLb : L ≤ 1048576) :
  Calls Tryz.prog 39 #[.slice ca L C] w fun e w' => e = .returned (.pointer (some ⟨w.heap.size, 0, none⟩)) ∧ Rdr w' w.heap.size w.heap.size 0 ∧ Below w.heap.size w w' := by
 by_cases h2 : L ≤ 2000
 ·have h2' : ¬ (2000 : Int) < L := by omega
  go_enter Tryz.func39, Tryz.ntmps39
  go_wp2_with fail
  go_ret
  refine ⟨rfl, ⟨ca, cb, co, L, C, x, by simp, by simp, by simp, had, h2, fun i hi => ⟨?_, (hc i hi).2⟩, fun h0 => World.block_lt_of_cell? _ _ (hc 0 h0).1, Nat.le_refl _⟩, below1 _ _⟩
  rw [World.cell?_alloc_past _ _ _ (World.block_lt_of_cell? _ _ (hc i hi).1)]
  exact (hc i hi).1
 ·have h2' : (2000 : Int) < L := by omega
  obtain ⟨rfl⟩ := had (by omega)
  go_enter Tryz.func39, Tryz.ntmps39
  go_wp2_with fail
  go_ret
  refine ⟨rfl, ⟨_, cb, co, 2000, C, x, by simp, by simp, by simp, fun _ => rfl, by omega, fun i hi => ⟨?_, (hc i (by omega)).2⟩, fun h0 => World.block_lt_of_cell? _ _ (hc 0 (by omega)).1, Nat.le_refl _⟩, below1 _ _⟩
  rw [World.cell?_alloc_past _ _ _ (World.block_lt_of_cell? _ _ (hc i (by omega)).1)]
  exact (hc i (by omega)).1
end Go.Proofs.YtphijhpleemjoaaGreat
namespace Go.Proofs.YtphijhpleemjoaaGreat
open Go.RowKit
theorem Slot1.bel {w w' : World} {b : Nat} {x : Value} (h : Slot1 w b x) (hb : Below w.heap.size w w') : Slot1 w' b x :=
 ⟨(hb.cell (p := ⟨b, 0, none⟩) h.lt).trans h.c, (hb.frozen (p := ⟨b, 0, none⟩) h.lt).trans h.fz⟩
structure BoxP (w W : World) (P : Nat) (a : Option Addr) (g c : Nat) (mm : List (List M.D)) : Prop where
 bel : Below w.heap.size w W
 p : Slot1 W P (.slice a mm.length c)
 ss : DoSS W a g 0 mm
theorem BoxP.below {w W W' : World} {P : Nat} {a : Option Addr} {g c : Nat} {mm : List (List M.D)} (h : BoxP w W P a g c mm) (hb : Below W.heap.size W W') : BoxP w W' P a g c mm :=
 ⟨h.bel.trans (hb.mono h.bel.size), h.p.bel hb, h.ss.below hb (Nat.le_refl _)⟩
theorem BoxP.new {w w1 : World} {a : Option Addr} {g c : Nat} {mm : List (List M.D)} (hb1 : Below w.heap.size w w1) (hs : DoSS w1 a g 0 mm) : BoxP w (w1.alloc (.cells #[.slice a mm.length c] 25)) w1.heap.size a g c mm :=
 ⟨hb1.alloc hb1.size _, Slot1.new w1 _ _, hs.below (below1 w1 _) (Nat.le_refl _)⟩
theorem DoSS.alone {w : World} {g o i : Nat} {mm : List (List M.D)} (h : DoSS w (some ⟨g, o, none⟩) g o mm) (hi : i < mm.length) : DoSS w (some ⟨g, o + i, none⟩) g (o + i) [mm[i]] := by
 refine ⟨fun _ => rfl, fun j hj => ?_⟩
 have : j = 0 := by simp at hj; omega
 subst this
 exact h.row i hi
theorem Small.le {mm : List (List M.D)} {c : Nat} (h : Small mm c) : ∀ t ∈ mm, t.length ≤ 1048576 := fun t ht => by have := h.steps t ht; omega
end Go.Proofs.YtphijhpleemjoaaGreat
namespace Go.Proofs.YtphijhpleemjoaaGreat
open Go.RowKit
theorem M.sameS_self (a b : List Int) : M.sameS a b a b = true := by rw [M.sameS_eq, M.cmpS_self]; rfl
set_option maxHeartbeats 1000000 in
set_option maxRecDepth 100000 in
theorem lpList_same (a : Option Addr) (b o c : Nat) (a2 : Option Addr) (b2 o2 c2 : Nat) (ks : List Key) (w : World) (hl : ks.length ≤ 1048576) (hls : KLe ks 1048576) (h : KS w a b o ks) (h2 : KS w a2 b2 o2 ks) :
  Calls Tryz.prog 17 #[.slice a ks.length c, .slice a2 ks.length c2] w fun e w' => e = .returned (.bool true) ∧ Below w.heap.size w w' := by
 go_enter Tryz.func17, Tryz.ntmps17
 go_wp2_with fail
 go_loopw [5] (fun s5 wr => ∃ n : Nat, s5 = .int .i64 n ∧ n ≤ ks.length ∧ Below w.heap.size w wr) (fun s5 _ => ks.length - (intOf s5).toNat)
 case atStart => exact ⟨0, rfl, Nat.zero_le _, Below.refl _ _⟩
 case round =>
  obtain ⟨n, rfl, hn, hb⟩ := hrel
  by_cases hlt : n < ks.length
  ·obtain ⟨rfl⟩ := h.addr (by omega)
   obtain ⟨rfl⟩ := h2.addr (by omega)
   obtain ⟨s, h1, h2', c1, c2', hsa⟩ := (h.below hb (Nat.le_refl _)).row n hlt
   obtain ⟨t, t1, t2, d1, d2, hta⟩ := (h2.below hb (Nat.le_refl _)).row n hlt
   obtain ⟨e1, e2⟩ := hls _ (List.getElem_mem hlt)
   have hsl : s.Le 1048576 := ⟨by rw [h1]; exact e1, by rw [h2']; exact e2⟩
   have C := fun p : BelowOf wr => (lpSame_any s t p.x hsl (hsa.below p.h (Nat.le_refl _)) (hta.below p.h (Nat.le_refl _)))
   have hq : M.sameS s.l1 s.l2 t.l1 t.l2 = true := by rw [h1, h2', t1, t2, M.sameS_self]
   rw [hq] at C
   clear h1 h2' t1 t2 e1 e2 hq
   have K1 := BelowOf.cell c1
   have K2 := BelowOf.cell c2'
   have K3 := BelowOf.cell d1
   have K4 := BelowOf.cell d2
   have i1 : (n : Int) < ks.length := by omega
   go_wp2_with fail
   haveI : Inhabited (BelowOf wr) := ⟨belOf wr⟩
   refine wp_region_quiet_bel (by kernel_rfl) (by kernel_rfl) ?_
   repeat (quiet_step (first | (go_at_call 48; exact Calls.bel_of ((C _).mono fun _ _ ⟨he, hg⟩ => ⟨he, hg.bel⟩))))
   refine wpQuiet_nil ?_
   rintro wq ⟨⟨wx, hwq⟩, ew⟩
   change wq = wx at ew
   subst ew
   go_wp2_with fail
   exact ⟨⟨n + 1, by go_num, by omega, hb.trans (hwq.mono hb.size)⟩, by simp [intOf]; omega⟩
  ·go_wp2_with fail
   go_ret
   exact ⟨rfl, hb⟩
end Go.Proofs.YtphijhpleemjoaaGreat
namespace Go.Proofs.YtphijhpleemjoaaGreat
open Go.ChangeShapes Go.WideShapes Go.ChangeAt Go.RowKit Go.Deep
theorem Tryz.cellsByte : Tryz.prog.cellsOf 5 = 1 := by kernel_rfl
def Code8 (w : World) (u : Value) : Prop := ∃ ca cb co L C, ∃ x : Nat → Int, u = .slice ca L C ∧ L ≤ C ∧ (0 < L → ca = some ⟨cb, co, none⟩) ∧ ∀ i, i < L → w.cell? ⟨cb, co + i, none⟩ = some (.int .u8 (x i)) ∧ 0 ≤ x i ∧ x i ≤ 255
section
variable {H : Type} {enc : TypeId × Value → H} {w : World} {base : Nat} {spare : Nat → Bool} {held : Bool}
set_option maxRecDepth 100000 in
theorem open_code {fuel : Nat} {u : Value} {x : DataW H × List MemPlace} (h : DataW.trod enc Tryz.prog w base spare held fuel 22 [u] = some x) : Code8 w u := by
 rcases open_ints Tryz.underlying22 Tryz.underlying5 Tryz.cellsByte h with ⟨hcs, _⟩ | ⟨a, len, cap, zs, hcs, _, hl, hm, hmm, _, hel, hwf⟩
 ·simp at hcs
  exact ⟨none, 0, 0, 0, 0, fun _ => 0, hcs, Nat.le_refl _, fun h => absurd h (Nat.lt_irrefl _), fun i hi => absurd hi (Nat.not_lt_zero _)⟩
 ·simp at hcs
  obtain ⟨gb, go, gs⟩ := a
  have hlm : len ≤ zs.length := by rw [hmm]; split <;> omega
  rcases Nat.eq_zero_or_pos len with h0 | hpos
  ·subst h0
   exact ⟨_, 0, 0, 0, cap, fun _ => 0, hcs, Nat.zero_le _, fun h => absurd h (Nat.lt_irrefl _), fun i hi => absurd hi (Nat.not_lt_zero _)⟩
  ·have hgs : gs = none := by simpa [Addr.add] using World.cell?_spot (hel 0 (by omega))
   subst hgs
   refine ⟨_, gb, go, len, cap, fun i => zs.getD i 0, hcs, hl, fun _ => rfl, fun i hi => ?_⟩
   have h1 := hel i (by omega)
   rw [add_plain] at h1
   have hw := hwf (zs.getD i 0) (by rw [List.getD_eq_getElem?_getD, List.getElem?_eq_getElem (by omega)]; exact List.getElem_mem _)
   exact ⟨h1, bounds_u8 hw⟩
end
end Go.Proofs.YtphijhpleemjoaaGreat
