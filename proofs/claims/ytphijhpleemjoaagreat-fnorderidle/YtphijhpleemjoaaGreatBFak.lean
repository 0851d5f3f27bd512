/- spec.l71Thread: a drawn thread. spec.l71Reader and l71Waiter: drawn threads of readers and of those who wait. -/
import Derived.Deep.RegionWith
import Derived.Test.YtphijhpleemjoaaGreatBFaf
import Derived.Test.YtphijhpleemjoaaGreatBFaj
namespace Go.Proofs.YtphijhpleemjoaaGreat
open Go.RowKit
def flat : List M.D → List Value
 | [] => []
 | d :: l => .int .i64 d.k :: .int .i64 d.p :: .int .i64 d.v :: flat l
theorem flat_append (l m : List M.D) : flat (l ++ m) = flat l ++ flat m := by
 induction l with
 | nil => rfl
 | cons d l ih => simp [flat, ih]
theorem flat_get (l : List M.D) : ∀ i (h : i < l.length), (flat l)[i * 3]? = some (.int .i64 l[i].k) ∧ (flat l)[i * 3 + 1]? = some (.int .i64 l[i].p) ∧ (flat l)[i * 3 + 2]? = some (.int .i64 l[i].v) := by
 induction l with
 | nil => intro i h; exact absurd h (Nat.not_lt_zero _)
 | cons d l ih =>
  intro i h
  cases i with
  | zero => exact ⟨rfl, rfl, rfl⟩
  | succ i =>
   obtain ⟨h0, h1, h2⟩ := ih i (by simpa using h)
   have e : (i + 1) * 3 = i * 3 + 3 := by omega
   rw [e]
   exact ⟨by simpa [flat] using h0, by simpa [flat] using h1, by simpa [flat] using h2⟩
theorem ownsRow_but {w w' : World} {base rb : Nat} {e : TypeId} {size : Nat} {v : Value} {n : Nat} {xs : List Value} (h : w.ownsRow base e size v n xs) (hb : But rb w w') (hr : rb < base) : w'.ownsRow base e size v n xs := by
 obtain ⟨h1, h2⟩ := h
 refine ⟨h1, ?_⟩
 rcases h2 with h2 | ⟨g, cap, cur, hv, hg, hh, r⟩
 ·exact Or.inl h2
 ·refine Or.inr ⟨g, cap, cur, hv, hg, ?_, r⟩
  rw [hb.block g (by by_cases hlt : g < w.heap.size; exact hlt; rw [Array.getElem?_eq_none (by omega)] at hh; cases hh) (by omega)]
  exact hh
theorem Rdr.grown {w w' : World} {B rb p : Nat} {row : Option Nat} (h : Rdr w B rb p) (hg : w.grownBy w' row) (hr : ∀ k, row = some k → B ≤ k ∧ k ≠ rb) : Rdr w' B rb p := by
 obtain ⟨ca, cb, co, L, C, x, h⟩ := h
 have hne : some rb ≠ row := fun e => (hr rb e.symm).2 rfl
 refine ⟨ca, cb, co, L, C, x, hg.cell h.s hne, hg.cell h.p hne, ?_, h.ad, h.le, fun i hi => ⟨hg.cell (h.cells i hi).1 (fun e => ?_), (h.cells i hi).2⟩, h.ne, h.ge⟩
 ·exact (World.frozen?_of_block (w := w) (hg.block rb h.lt hne)).trans h.fz
 ·have h1 := (hr cb e.symm).1
  have h2 := h.ne (by omega)
  omega
theorem own_steps {w : World} {base : Nat} {v : Value} {l : List M.D} (h : w.ownsRow base 52 3 v l.length (flat l)) : ∃ a g c, v = .slice a l.length c ∧ DoS w a g 0 l ∧ (0 < l.length → base ≤ g) := by
 have hx := h.1
 rcases h.2 with ⟨hv, hn⟩ | ⟨g, cap, cur, hv, hg, hh, r⟩
 ·have : l = [] := List.length_eq_zero_iff.1 hn
  subst this
  exact ⟨none, 0, 0, hv, ⟨fun h => absurd h (Nat.lt_irrefl _), fun i hi => absurd hi (Nat.not_lt_zero _)⟩, fun h => absurd h (Nat.lt_irrefl _)⟩
 ·refine ⟨_, g, cap, hv, ⟨fun _ => rfl, fun i hi => ?_⟩, fun _ => hg⟩
  obtain ⟨h0, h1, h2⟩ := flat_get l i hi
  have hc := h.cells (g := g) (by rw [hv]; rfl)
  refine ⟨?_, ?_, ?_⟩
  ·have := hc _ _ h0; rwa [Go.WideShapes.add_plain] at this
  ·have := hc _ _ h1; rw [Go.WideShapes.add_plain] at this; rwa [Nat.zero_add] at this ⊢
  ·have := hc _ _ h2; rw [Go.WideShapes.add_plain] at this; rwa [Nat.zero_add] at this ⊢
theorem Tryz.info52 : (Tryz.prog.info? 52).map (fun i => (i.zero, i.size, i.bytes)) = some (some (.agg #[.int .i64 0, .int .i64 0, .int .i64 0]), 3, 24) := by kernel_rfl
set_option maxHeartbeats 1000000 in
theorem l71Thread_any (B rb p : Nat) (m n : Int) (w : World) (hm : 0 ≤ m) (hm2 : m ≤ 20) (hn : 1 ≤ n) (hn2 : n ≤ 1000) (hp : p ≤ 90000) (h : Rdr w B rb p) :
  Calls Tryz.prog 131 #[.pointer (some ⟨rb, 0, none⟩), .int .i64 m, .int .i64 n] w fun e w' => ∃ (l : List M.D) (v : Value), e = .returned v ∧ w'.ownsRow w.heap.size 52 3 v l.length (flat l) ∧ l.length ≤ 20 ∧ ∃ p' : Nat, p' ≤ p + 61 ∧ Rdr w' B rb p' ∧ But rb w w' := by
 have hlt := h.lt
 have hge := h.ge
 obtain ⟨i0, hi, hz0, hz1, hz2⟩ := info_parts Tryz.info52
 go_enter Tryz.func131, Tryz.ntmps131
 go_wp2_with fail
 refine (pick_rdr B rb p _ _ (by omega) (by omega) (by omega) (h.alloc _)).mono ?_
 rintro e w1 ⟨r, rfl, r0, r1, hr1, hb1⟩
 obtain ⟨q, rfl⟩ := Int.eq_ofNat_of_zero_le r0
 have hown1 : w1.ownsRow w.heap.size 52 3 (.slice (some ⟨w.heap.size, 0, none⟩) 0 0) 0 [] := ownsRow_but (World.ownsRow_made w _ 0 (Nat.le_refl _) (Nat.zero_le _) rfl) hb1 hlt
 have hb1' := ((But.refl rb w).alloc _).trans hb1
 clear hb1
 go_wp2_with fail
 go_loopw [7, 8] (fun s7 s8 wr => ∃ (l : List M.D) (k p' : Nat), s8 = .int .i64 k ∧ l.length + k ≤ 20 ∧ p' ≤ p + 1 + 3 * l.length ∧ wr.ownsRow w.heap.size 52 3 s7 l.length (flat l) ∧ Rdr wr B rb p' ∧ But rb w wr) (fun _ s8 _ => (intOf s8).toNat)
 case atStart => exact ⟨[], q, p + 1, rfl, by simp; omega, by omega, hown1, hr1, hb1'⟩
 case round =>
  obtain ⟨l, k, p', rfl, hlk, hp', hown, hr, hb⟩ := hrel
  clear hown1 hr1 hb1'
  by_cases hk : 0 < k
  ·have hk' : (0 : Int) < k := by omega
   go_wp2_with fail
   refine (l71Do_any B rb p' n _ hn hn2 (by omega) hr).mono ?_
   rintro e w2 ⟨⟨kk, pp, vv⟩, p2, rfl, hp2, hr2, hb2⟩
   have hown2 := ownsRow_but hown hb2 hlt
   have hb2' := hb.trans hb2
   clear hown hb hb2 hr
   go_wp2_with (at_builtin; refine wpList_append_own _ rfl (.tmp 18) (.tmp 22) 50 rfl w.heap.size 52 i0 _ 3 24 Tryz.underlying50 hi hz0 hz1 hz2 rfl (by decide) _ _ _ rfl (hown2.alloc _) ⟨w2.heap.size, 0, none⟩ 1 1 [.int .i64 kk, .int .i64 pp, .int .i64 vv] rfl rfl ?c1 ?c2 ?c3 ?c4 ?c5 ?_)
   case c1 =>
    intro j u hj
    match j, hj with
    | 0, hj => simp at hj; subst hj; simp [Addr.add]
    | 1, hj => simp at hj; subst hj; simp [Addr.add]
    | 2, hj => simp at hj; subst hj; simp [Addr.add]
   case c2 => intro u hu; simp at hu; rcases hu with rfl | rfl | rfl <;> rfl
   case c3 => unfold maxLen; omega
   case c4 => omega
   case c5 => have := hb2'.size; simp; omega
   intro v' w3 hown3 hg3 _
   have hge3 := own_ge hown2
   have hr3 := (hr2.alloc _).grown hg3 (fun k hk => ⟨by have := hge3 k hk; omega, by have := hge3 k hk; omega⟩)
   have hb3 := (hb2'.alloc _).grown hg3 hge3
   have hown3' : w3.ownsRow w.heap.size 52 3 v' (l ++ [M.D.mk kk pp vv]).length (flat (l ++ [M.D.mk kk pp vv])) := by
    rw [flat_append, List.length_append]; exact hown3
   clear hown3 hg3 hge3 hown2 hb2' hr2
   go_wp2_with fail
   exact ⟨⟨l ++ [M.D.mk kk pp vv], k - 1, p2, by rw [show ((k - 1 : Nat) : Int) = (k : Int) - 1 by omega], by simp; omega, by simp; omega, hown3', hr3, hb3⟩, by simp [intOf]; omega⟩
  ·have hk' : ¬ (0 : Int) < k := by omega
   go_wp2_with fail
   go_ret
   exact ⟨l, _, rfl, hown, by omega, p', by omega, hr, hb⟩
end Go.Proofs.YtphijhpleemjoaaGreat
namespace Go.Proofs.YtphijhpleemjoaaGreat
open Go.RowKit
set_option maxHeartbeats 1000000 in
theorem l71Reader_any (B rb p : Nat) (n : Int) (w : World) (hn : 1 ≤ n) (hn2 : n ≤ 1000) (hp : p ≤ 90000) (h : Rdr w B rb p) :
  Calls Tryz.prog 128 #[.pointer (some ⟨rb, 0, none⟩), .int .i64 n] w fun e w' => ∃ (l : List M.D) (v : Value), e = .returned v ∧ w'.ownsRow w.heap.size 52 3 v l.length (flat l) ∧ l.length = 4 ∧ ∃ p' : Nat, p' ≤ p + 6 ∧ Rdr w' B rb p' ∧ But rb w w' := by
 have hlt := h.lt
 have hge := h.ge
 go_enter Tryz.func128, Tryz.ntmps128
 go_wp2_with fail
 refine (pick_rdr B rb p _ _ hn hn2 (by omega) h).mono ?_
 rintro e w1 ⟨r1, rfl, r10, r11, hr1, hb1⟩
 go_wp2_with fail
 refine (pick_rdr B rb (p + 1) _ _ hn hn2 (by omega) hr1).mono ?_
 rintro e w2 ⟨r2, rfl, r20, r21, hr2, hb2⟩
 have hb2' := hb1.trans hb2
 clear hb1 hb2 hr1
 go_wp2_with fail
 have hsz := hb2'.size
 have hown : (w2.alloc (.cells #[.int .i64 7, .int .i64 0, .int .i64 0, .int .i64 2, .int .i64 r1, .int .i64 0, .int .i64 2, .int .i64 r2, .int .i64 0, .int .i64 8, .int .i64 0, .int .i64 0] 52)).ownsRow w.heap.size 52 3 (.slice (some ⟨w2.heap.size, 0, none⟩) 4 4) 4 (flat [⟨7, 0, 0⟩, ⟨2, r1, 0⟩, ⟨2, r2, 0⟩, ⟨8, 0, 0⟩]) :=
  World.ownsRow_lit w2 _ 4 hsz (by decide) rfl
 refine (pick_rdr B rb (p + 1 + 1) _ _ (by omega) (by omega) (by omega) (hr2.alloc _)).mono ?_
 rintro e w3 ⟨r3, rfl, r30, r31, hr3, hb3⟩
 have hown3 := ownsRow_but hown hb3 hlt
 have hb3' := (hb2'.alloc _).trans hb3
 clear hown hb3 hb2' hr2
 by_cases h0 : r3 = 0
 ·subst h0
  go_wp2_with fail
  refine (l71Do_any B rb _ n _ hn hn2 (by omega) hr3).mono ?_
  rintro e w4 ⟨⟨kk, pp, vv⟩, p4, rfl, hp4, hr4, hb4⟩
  have hown4 := ownsRow_but hown3 hb4 hlt
  have hb4' := hb3'.trans hb4
  clear hown3 hb4 hb3' hr3
  have c6 := hown4.cellAt 6 (by decide)
  have c7 := hown4.cellAt 7 (by decide)
  have c8 := hown4.cellAt 8 (by decide)
  have f := hown4.frozenAt
  simp only [flat] at c6 c7 c8
  simp at c6 c7 c8
  have hlt2 : rb < w2.heap.size := by omega
  go_wp2_with fail
  go_ret
  obtain ⟨o5, g5⟩ := hown4.stored 6 (.int .i64 kk)
  obtain ⟨o6, g6⟩ := o5.stored 7 (.int .i64 pp)
  obtain ⟨o7, g7⟩ := o6.stored 8 (.int .i64 vv)
  refine ⟨[⟨7, 0, 0⟩, ⟨2, r1, 0⟩, ⟨kk, pp, vv⟩, ⟨8, 0, 0⟩], _, rfl, o7, rfl, p4, by omega, ?_, ?_⟩
  ·exact ((hr4.setCell (by omega) (by omega) _).setCell (by omega) (by omega) _).setCell (by omega) (by omega) _
  ·exact ((hb4'.setCell (Or.inl hsz) _).setCell (Or.inl hsz) _).setCell (Or.inl hsz) _
 ·have h0' : (r3 == 0) = false := by simpa using h0
  go_wp2_with fail
  go_ret
  exact ⟨[⟨7, 0, 0⟩, ⟨2, r1, 0⟩, ⟨2, r2, 0⟩, ⟨8, 0, 0⟩], _, rfl, hown3, rfl, p + 1 + 1 + 1, by omega, hr3, hb3'⟩
end Go.Proofs.YtphijhpleemjoaaGreat
