/- spec.l71Thread: a drawn thread. -/
import Derived.Test.YtbipmookmhihlaaGreatDrDo
import Derived.Test.YtbipmookmhihlaaGreatSnFar
namespace Go.Proofs.YtbipmookmhihlaaGreat
open Go.RowKit

/-- The cells of steps. -/
def flat : List M.D → List Value
  | [] => []
  | d :: l => .int .i64 d.k :: .int .i64 d.p :: .int .i64 d.v :: flat l
theorem flat_length (l : List M.D) : (flat l).length = l.length * 3 := by
  induction l with
  | nil => rfl
  | cons d l ih => simp [flat, ih]; omega
theorem flat_append (l m : List M.D) : flat (l ++ m) = flat l ++ flat m := by
  induction l with
  | nil => rfl
  | cons d l ih => simp [flat, ih]
theorem flat_get (l : List M.D) : ∀ i (h : i < l.length), (flat l)[i * 3]? = some (.int .i64 l[i].k) ∧ (flat l)[i * 3 + 1]? = some (.int .i64 l[i].p) ∧ (flat l)[i * 3 + 2]? = some (.int .i64 l[i].v) := by
  induction l with
  | nil => intro i h; exact absurd h (Nat.not_lt_zero _)
  | cons d l ih =>
    intro i h
    cases i with
    | zero => exact ⟨rfl, rfl, rfl⟩
    | succ i =>
      obtain ⟨h0, h1, h2⟩ := ih i (by simpa using h)
      have e : (i + 1) * 3 = i * 3 + 3 := by omega
      rw [e]
      exact ⟨by simpa [flat] using h0, by simpa [flat] using h1, by simpa [flat] using h2⟩

theorem ownsRow_but {w w' : World} {base rb : Nat} {e : TypeId} {size : Nat} {v : Value} {n : Nat} {xs : List Value} (h : w.ownsRow base e size v n xs) (hb : But rb w w') (hr : rb < base) : w'.ownsRow base e size v n xs := by
  obtain ⟨h1, h2⟩ := h
  refine ⟨h1, ?_⟩
  rcases h2 with h2 | ⟨g, cap, cur, hv, hg, hh, r⟩
  · exact Or.inl h2
  · refine Or.inr ⟨g, cap, cur, hv, hg, ?_, r⟩
    rw [hb.block g (by by_cases hlt : g < w.heap.size; exact hlt; rw [Array.getElem?_eq_none (by omega)] at hh; cases hh) (by omega)]
    exact hh

theorem Rdr.grown {w w' : World} {B rb p : Nat} {row : Option Nat} (h : Rdr w B rb p) (hg : w.grownBy w' row) (hr : ∀ k, row = some k → B ≤ k ∧ k ≠ rb) : Rdr w' B rb p := by
  obtain ⟨ca, cb, co, L, C, x, h⟩ := h
  have hne : some rb ≠ row := fun e => (hr rb e.symm).2 rfl
  refine ⟨ca, cb, co, L, C, x, hg.cell h.s hne, hg.cell h.p hne, ?_, h.ad, h.le, fun i hi => ⟨hg.cell (h.cells i hi).1 (fun e => ?_), (h.cells i hi).2⟩, h.ne, h.ge⟩
  · exact (World.frozen?_of_block (w := w) (hg.block rb h.lt hne)).trans h.fz
  · have h1 := (hr cb e.symm).1
    have h2 := h.ne (by omega)
    omega

/-- A slice of steps that a call has built, read. -/
theorem own_steps {w : World} {base : Nat} {v : Value} {l : List M.D} (h : w.ownsRow base 45 3 v l.length (flat l)) : ∃ a g c, v = .slice a l.length c ∧ DoS w a g 0 l ∧ (0 < l.length → base ≤ g) := by
  have hx := h.1
  rcases h.2 with ⟨hv, hn⟩ | ⟨g, cap, cur, hv, hg, hh, r⟩
  · have : l = [] := List.length_eq_zero_iff.1 hn
    subst this
    exact ⟨none, 0, 0, hv, ⟨fun h => absurd h (Nat.lt_irrefl _), fun i hi => absurd hi (Nat.not_lt_zero _)⟩, fun h => absurd h (Nat.lt_irrefl _)⟩
  · refine ⟨_, g, cap, hv, ⟨fun _ => rfl, fun i hi => ?_⟩, fun _ => hg⟩
    obtain ⟨h0, h1, h2⟩ := flat_get l i hi
    have hc := h.cells (g := g) (by rw [hv]; rfl)
    refine ⟨?_, ?_, ?_⟩
    · have := hc _ _ h0; rwa [Go.WideShapes.add_plain] at this
    · have := hc _ _ h1; rw [Go.WideShapes.add_plain] at this; rwa [Nat.zero_add] at this ⊢
    · have := hc _ _ h2; rw [Go.WideShapes.add_plain] at this; rwa [Nat.zero_add] at this ⊢

theorem Tryz.info45 : (Tryz.prog.info? 45).map (fun i => (i.zero, i.size, i.bytes)) = some (some (.agg #[.int .i64 0, .int .i64 0, .int .i64 0]), 3, 24) := by kernel_rfl

end Go.Proofs.YtbipmookmhihlaaGreat
