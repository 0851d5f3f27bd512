/- spec.l71Prog: a drawn program that is ok. -/
import Derived.Deep.RegionHeld3
import Derived.Deep.AppendLies
import Derived.Test.YtphijhpleemjoaaGreatBAam
namespace Go.Proofs.YtphijhpleemjoaaGreat
open Go.RowKit
theorem ownsRow_mono {w : World} {B B' : Nat} {e : TypeId} {size : Nat} {v : Value} {n : Nat} {xs : List Value} (h : w.ownsRow B e size v n xs) (hB : B' ≤ B) : w.ownsRow B' e size v n xs := by
 obtain ⟨h1, h2⟩ := h
 refine ⟨h1, ?_⟩
 rcases h2 with h2 | ⟨g, cap, cur, hv, hg, r⟩
 ·exact Or.inl h2
 ·exact Or.inr ⟨g, cap, cur, hv, Nat.le_trans hB hg, r⟩
theorem own_apart {w : World} {B B' : Nat} {e e' : TypeId} {size size' : Nat} {v v' : Value} {n n' : Nat} {xs xs' : List Value} (h : w.ownsRow B e size v n xs) (h' : w.ownsRow B' e' size' v' n' xs') (he : e ≠ e') : v.ownBlock = none ∨ v.ownBlock ≠ v'.ownBlock := by
 rcases h.2 with ⟨hv, _⟩ | ⟨g, cap, cur, hv, _, hh, _⟩
 ·exact Or.inl (by rw [hv]; rfl)
 ·right
  rcases h'.2 with ⟨hv', _⟩ | ⟨g', cap', cur', hv', _, hh', _⟩
  ·rw [hv, hv']; simp [Value.ownBlock]
  ·rw [hv, hv']
   intro e2
   simp [Value.ownBlock] at e2
   rw [e2] at hh
   rw [hh] at hh'
   simp at hh'
   exact he hh'.2
structure Build (w : World) (B : Nat) (v : Value) (ll : List (List M.D)) (vs : List Value) : Prop where
 outer : w.ownsRow B 50 1 v ll.length vs
 len : vs.length = ll.length
 inner : ∀ i (h : i < ll.length) (h' : i < vs.length), w.ownsRow B 52 3 vs[i] ll[i].length (flat ll[i])
theorem Build.but {w w' : World} {B rb : Nat} {v : Value} {ll : List (List M.D)} {vs : List Value} (h : Build w B v ll vs) (hb : But rb w w') (hr : rb < B) : Build w' B v ll vs :=
 ⟨ownsRow_but h.outer hb hr, h.len, fun i h1 h2 => ownsRow_but (h.inner i h1 h2) hb hr⟩
theorem Build.mono {w : World} {B B' : Nat} {v : Value} {ll : List (List M.D)} {vs : List Value} (h : Build w B v ll vs) (hB : B' ≤ B) : Build w B' v ll vs :=
 ⟨ownsRow_mono h.outer hB, h.len, fun i h1 h2 => ownsRow_mono (h.inner i h1 h2) hB⟩
theorem Build.nil (w : World) (B : Nat) : Build w B (.slice none 0 0) [] [] := ⟨World.ownsRow_nil _ _ _ _, rfl, fun _ h _ => absurd h (Nat.not_lt_zero _)⟩
theorem ownsRow_far {w : World} {B : Nat} {e : TypeId} {size : Nat} {v : Value} {n : Nat} {xs : List Value} (h : w.ownsRow B e size v n xs) {b i : Nat} (hb : b < B) (u : Value) : (w.setCell ⟨b, i, none⟩ u).ownsRow B e size v n xs :=
 ownsRow_setCell_below h (a := ⟨b, i, none⟩) hb u
theorem Build.far {w : World} {B : Nat} {v : Value} {ll : List (List M.D)} {vs : List Value} (h : Build w B v ll vs) {b i : Nat} (hb : b < B) (u : Value) : Build (w.setCell ⟨b, i, none⟩ u) B v ll vs :=
 ⟨ownsRow_far h.outer hb u, h.len, fun i h1 h2 => ownsRow_far (h.inner i h1 h2) hb u⟩
theorem Build.snoc {w w' : World} {B : Nat} {v v' x : Value} {ll : List (List M.D)} {vs : List Value} {l : List M.D} (h : Build w B v ll vs) (hx : w.ownsRow B 52 3 x l.length (flat l))
  (ho : w'.ownsRow B 50 1 v' (ll.length + 1) (vs ++ [x])) (hg : w.grownBy w' v.ownBlock) : Build w' B v' (ll ++ [l]) (vs ++ [x]) := by
 have hl := h.len
 refine ⟨by rw [List.length_append]; exact ho, by simp [hl], fun i h1 h2 => ?_⟩
 by_cases hi : i < ll.length
 ·rw [List.getElem_append_left hi, List.getElem_append_left (by omega)]
  exact (h.inner i hi (by omega)).kept hg (own_apart (h.inner i hi (by omega)) h.outer (by decide))
 ·have : i = ll.length := by simp at h1; omega
  subst this
  have e1 : (ll ++ [l])[ll.length] = l := by simp
  have e2 : (vs ++ [x])[ll.length] = x := by
   rw [List.getElem_append_right (by omega)]
   simp [hl]
  rw [e1, e2]
  exact hx.kept hg (own_apart hx h.outer (by decide))
theorem Build.ss {w : World} {B : Nat} {v : Value} {ll : List (List M.D)} {vs : List Value} (h : Build w B v ll vs) : ∃ a g c, v = .slice a ll.length c ∧ DoSS w a g 0 ll := by
 have hl := h.len
 rcases h.outer.2 with ⟨hv, hn⟩ | ⟨g, cap, cur, hv, hg, hh, r⟩
 ·have : ll = [] := List.length_eq_zero_iff.1 hn
  subst this
  exact ⟨none, 0, 0, hv, ⟨fun h => absurd h (Nat.lt_irrefl _), fun i hi => absurd hi (Nat.not_lt_zero _)⟩⟩
 ·refine ⟨_, g, cap, hv, ⟨fun _ => rfl, fun i hi => ?_⟩⟩
  have hc := h.outer.cells (g := g) (by rw [hv]; rfl) i vs[i] (List.getElem?_eq_getElem (by omega))
  rw [Go.WideShapes.add_plain] at hc
  obtain ⟨a', g', c', e, hd, _⟩ := own_steps (h.inner i hi (by omega))
  rw [e] at hc
  exact ⟨a', g', 0, c', hc, hd⟩
theorem Tryz.info50 : (Tryz.prog.info? 50).map (fun i => (i.zero, i.size, i.bytes)) = some (some (.slice none 0 0), 1, 24) := by kernel_rfl
structure Slot1 (w : World) (b : Nat) (x : Value) : Prop where
 c : w.cell? ⟨b, 0, none⟩ = some x
 fz : w.frozen? ⟨b, 0, none⟩ = false
theorem Slot1.lt {w : World} {b : Nat} {x : Value} (h : Slot1 w b x) : b < w.heap.size := World.block_lt_of_cell? _ _ h.c
theorem Slot1.but {w w' : World} {b rb : Nat} {x : Value} (h : Slot1 w b x) (hb : But rb w w') (hne : b ≠ rb) : Slot1 w' b x :=
 ⟨(hb.cell (p := ⟨b, 0, none⟩) h.lt hne).trans h.c, (hb.frozen (p := ⟨b, 0, none⟩) h.lt hne).trans h.fz⟩
theorem Slot1.new (w : World) (x : Value) (t : TypeId) : Slot1 (w.alloc (.cells #[x] t)) w.heap.size x := ⟨by simp, by simp⟩
theorem Slot1.grown {w w' : World} {b : Nat} {x : Value} {row : Option Nat} (h : Slot1 w b x) (hg : w.grownBy w' row) (hr : ∀ k, row = some k → b < k) : Slot1 w' b x := by
 have hne : some b ≠ row := fun e => by have := hr b e.symm; omega
 exact ⟨hg.cell h.c hne, (World.frozen?_of_block (w := w) (hg.block b h.lt hne)).trans h.fz⟩
theorem Slot1.far {w : World} {b b' i : Nat} {x : Value} (h : Slot1 w b x) (hne : b' ≠ b) (u : Value) : Slot1 (w.setCell ⟨b', i, none⟩ u) b x :=
 ⟨(World.cell?_setCell_other _ _ _ _ (fun e => hne (congrArg Addr.block e))).trans h.c, by rw [World.frozen?_setCell]; exact h.fz⟩
theorem Slot1.set {w : World} {b : Nat} {x : Value} (h : Slot1 w b x) (u : Value) : Slot1 (w.setCell ⟨b, 0, none⟩ u) b u :=
 ⟨World.cell?_setCell_same _ _ _ h.c, by rw [World.frozen?_setCell]; exact h.fz⟩
def M.steps : List (List M.D) → Nat
 | [] => 0
 | t :: l => t.length + M.steps l
theorem M.steps_step {l : List (List M.D)} {m n : Nat} {t : List M.D} (hp : M.steps l = m + M.steps (l.drop n)) (hd : l.drop n = t :: l.drop (n + 1)) : M.steps l = (m + t.length) + M.steps (l.drop (n + 1)) := by
 rw [hp, hd, M.steps]; omega
theorem M.steps_fin {l : List (List M.D)} {m n : Nat} (hp : M.steps l = m + M.steps (l.drop n)) (hn : l.length ≤ n) : m = M.steps l := by
 rw [hp, List.drop_eq_nil_of_le hn]; rfl
set_option maxHeartbeats 400000 in
theorem l71Steps_any (a : Option Addr) (b o c : Nat) (ll : List (List M.D)) (w : World) (hl : ll.length ≤ 1000) (hls : ∀ t ∈ ll, t.length ≤ 1000) (h : DoSS w a b o ll) :
  Calls Tryz.prog 132 #[.agg #[.slice a ll.length c]] w fun e w' => e = .returned (.int .i64 (M.steps ll)) ∧ Below w.heap.size w w' := by
 go_enter Tryz.func132, Tryz.ntmps132
 go_wp2_with fail
 go_loopw [3, 4] (fun s3 s4 wr => ∃ m n : Nat, s3 = .int .i64 m ∧ s4 = .int .i64 n ∧ n ≤ ll.length ∧ m ≤ 1000 * n ∧ M.steps ll = m + M.steps (ll.drop n) ∧ wr = w.alloc (.cells #[.slice a ll.length c] 25)) (fun _ s4 _ => ll.length - (intOf s4).toNat)
 case atStart => exact ⟨0, 0, rfl, rfl, Nat.zero_le _, Nat.le_refl _, by simp, rfl⟩
 case round =>
  obtain ⟨m, n, rfl, rfl, hn, hm, hpass, rfl⟩ := hrel
  have HP : Hid (M.steps ll = m + M.steps (ll.drop n)) := hpass
  clear hpass
  by_cases hlt : n < ll.length
  ·obtain ⟨rfl⟩ := h.addr (by omega)
   obtain ⟨a', b', o', c', hc, hd⟩ := h.row n hlt
   have HD : Hid (ll.drop n = ll[n] :: ll.drop (n + 1)) := M.drop_at' ll n hlt
   have hlt' := hls _ (List.getElem_mem hlt)
   have hbl := World.block_lt_of_cell? _ _ hc
   generalize ll[n] = t at hd hc HD hlt'
   go_wp2_with fail
   exact ⟨⟨m + t.length, n + 1, by go_num, by go_num, by omega, by omega, M.steps_step HP.out HD.out, by first | rfl | trivial⟩, by simp [intOf]; omega⟩
  ·go_wp2_with fail
   go_ret
   exact ⟨ret_int (by rw [M.steps_fin HP.out (by omega)]), below1 _ _⟩
end Go.Proofs.YtphijhpleemjoaaGreat
