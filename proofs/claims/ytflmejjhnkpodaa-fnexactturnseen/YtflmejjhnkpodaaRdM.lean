/- A program that is being read: its threads in rows of the call's own, no two of them in one. No condition. -/
import Derived.Test.YtflmejjhnkpodaaDrPb
import Derived.Test.YtflmejjhnkpodaaSnFar
import Derived.Laws.OwnMore
namespace Go.Proofs.Ytflmejjhnkpodaa
open Go.RowKit

structure Rdg (w : World) (B : Nat) (v : Value) (ll : List (List M.D)) (vs : List Value) : Prop where
  b : Build w B v ll vs
  ap : ∀ i j (hi : i < vs.length) (hj : j < vs.length), i ≠ j → ∀ k, vs[i].ownBlock = some k → vs[j].ownBlock ≠ some k

theorem Rdg.below {w w' : World} {B : Nat} {v : Value} {ll : List (List M.D)} {vs : List Value} (h : Rdg w B v ll vs) (hb : Below w.heap.size w w') : Rdg w' B v ll vs :=
  ⟨⟨ownsRow_below h.b.outer hb, h.b.len, fun i h1 h2 => ownsRow_below (h.b.inner i h1 h2) hb⟩, h.ap⟩
theorem Rdg.far {w : World} {B : Nat} {v : Value} {ll : List (List M.D)} {vs : List Value} (h : Rdg w B v ll vs) {b i : Nat} (hb : b < B) (u : Value) : Rdg (w.setCell ⟨b, i, none⟩ u) B v ll vs := ⟨h.b.far hb u, h.ap⟩
theorem Rdg.nil (w : World) (B : Nat) : Rdg w B (.slice none 0 0) [] [] := ⟨Build.nil w B, fun _ _ h => absurd h (Nat.not_lt_zero _)⟩
theorem Rdg.mono {w : World} {B B' : Nat} {v : Value} {ll : List (List M.D)} {vs : List Value} (h : Rdg w B v ll vs) (hB : B' ≤ B) : Rdg w B' v ll vs := ⟨h.b.mono hB, h.ap⟩

/-- A thread of no steps more. -/
theorem Rdg.snoc {w w' : World} {B : Nat} {v v' : Value} {ll : List (List M.D)} {vs : List Value} (h : Rdg w B v ll vs)
    (ho : w'.ownsRow B 70 1 v' (ll.length + 1) (vs ++ [.slice none 0 0])) (hg : w.grownBy w' v.ownBlock) : Rdg w' B v' (ll ++ [[]]) (vs ++ [.slice none 0 0]) := by
  refine ⟨h.b.snoc (World.ownsRow_nil _ _ _ _) ho hg, fun i j hi hj hne k hk => ?_⟩
  by_cases h1 : i < vs.length
  · rw [List.getElem_append_left h1] at hk
    by_cases h2 : j < vs.length
    · rw [List.getElem_append_left h2]
      exact h.ap i j h1 h2 hne k hk
    · rw [List.getElem_append_right (by omega)]
      have : j - vs.length = 0 := by simp at hj; omega
      simp [this, Value.ownBlock]
  · rw [List.getElem_append_right (by omega)] at hk
    have : i - vs.length = 0 := by simp at hi; omega
    simp [this, Value.ownBlock] at hk

/-- A thread more, in a row that lies apart. -/
theorem Rdg.snocT {w w' : World} {B : Nat} {v v' x : Value} {ll : List (List M.D)} {vs : List Value} {l : List M.D} (h : Rdg w B v ll vs) (hx : w.ownsRow B 83 3 x l.length (flat l)) (hap : ∀ i (hi : i < vs.length) k, vs[i].ownBlock = some k → x.ownBlock ≠ some k)
    (ho : w'.ownsRow B 70 1 v' (ll.length + 1) (vs ++ [x])) (hg : w.grownBy w' v.ownBlock) : Rdg w' B v' (ll ++ [l]) (vs ++ [x]) := by
  refine ⟨h.b.snoc hx ho hg, fun i j hi hj hne k hk => ?_⟩
  by_cases h1 : i < vs.length
  · rw [List.getElem_append_left h1] at hk
    by_cases h2 : j < vs.length
    · rw [List.getElem_append_left h2]
      exact h.ap i j h1 h2 hne k hk
    · rw [List.getElem_append_right (by omega)]
      have : j - vs.length = 0 := by simp at hj; omega
      simp only [this, List.getElem_cons_zero]
      exact hap i h1 k hk
  · rw [List.getElem_append_right (by omega)] at hk
    have : i - vs.length = 0 := by simp at hi; omega
    simp only [this, List.getElem_cons_zero] at hk
    have h2 : j < vs.length := by simp at hi hj; omega
    rw [List.getElem_append_left h2]
    exact fun e => hap j h2 k e hk

/-- The last thread with a step more. -/
theorem Rdg.add {w w1 w2 : World} {B G n c g' cap' : Nat} {x : Value} {L : List (List M.D)} {t : List M.D} {d : M.D} {us : List Value} (h : Rdg w B (.slice (some ⟨G, 0, none⟩) n c) (L ++ [t]) (us ++ [x]))
    (hb : Below w.heap.size w w1) (hg : w1.grownBy w2 x.ownBlock) (ho : w2.ownsRow B 83 3 (.slice (some ⟨g', 0, none⟩) (t ++ [d]).length cap') (t ++ [d]).length (flat (t ++ [d]))) (hat : x.ownBlock = some g' ∨ g' = w1.heap.size) :
    Rdg (w2.setCell ⟨G, L.length, none⟩ (.slice (some ⟨g', 0, none⟩) (t ++ [d]).length cap')) B (.slice (some ⟨G, 0, none⟩) n c) (L ++ [t ++ [d]]) (us ++ [.slice (some ⟨g', 0, none⟩) (t ++ [d]).length cap']) := by
  have hlen : us.length = L.length := by have := h.b.len; simp at this; exact this
  have h1 := h.below hb
  have hx : w1.ownsRow B 83 3 x t.length (flat t) := by
    have := h1.b.inner L.length (by simp) (by simp; omega)
    have e1 : (L ++ [t])[L.length]'(by simp) = t := by simp
    have e2 : (us ++ [x])[L.length]'(by simp; omega) = x := by rw [List.getElem_append_right (by omega)]; simp [hlen]
    rw [e1, e2] at this
    exact this
  have hn : n = (L ++ [t]).length := by
    rcases h1.b.outer.2 with ⟨hv, _⟩ | ⟨_, _, _, hv, _⟩
    · simp at hv
    · simp only [Value.slice.injEq] at hv; exact hv.2.1
  subst hn
  have hout2 := h1.b.outer.kept hg (own_apart h1.b.outer hx (by decide))
  obtain ⟨hout3, hgs⟩ := hout2.stored L.length (.slice (some ⟨g', 0, none⟩) (t ++ [d]).length cap')
  have eset : (us ++ [x]).set L.length (.slice (some ⟨g', 0, none⟩) (t ++ [d]).length cap') = us ++ [.slice (some ⟨g', 0, none⟩) (t ++ [d]).length cap'] := by
    rw [← hlen, List.set_append_right _ _ (Nat.le_refl _)]
    simp
  rw [eset] at hout3
  have hoff : ∀ i (hi : i < us.length), us[i].ownBlock = none ∨ us[i].ownBlock ≠ x.ownBlock := fun i hi => by
    cases hk : us[i].ownBlock with
    | none => exact Or.inl rfl
    | some k =>
      refine Or.inr fun e => ?_
      have := h.ap i us.length (by simp; omega) (by simp) (by omega) k (by rw [List.getElem_append_left hi]; exact hk)
      rw [List.getElem_append_right (Nat.le_refl _)] at this
      simp at this
      exact this e.symm
  refine ⟨⟨by simpa using hout3, by simp [hlen], fun i hi hi' => ?_⟩, fun i j hi hj hne k hk => ?_⟩
  · by_cases hl : i < L.length
    · rw [List.getElem_append_left hl, List.getElem_append_left (by omega)]
      have := h1.b.inner i (by simp; omega) (by simp; omega)
      rw [List.getElem_append_left hl, List.getElem_append_left (by omega)] at this
      have k2 := this.kept hg (hoff i (by omega))
      refine ownsRow_setCell_other k2 (a := ⟨G, L.length, none⟩) ?_ _
      rcases own_apart k2 hout2 (by decide) with e | e
      · rw [e]; simp
      · exact e
    · have : i = L.length := by simp at hi; omega
      subst this
      have e1 : (L ++ [t ++ [d]])[L.length]'hi = t ++ [d] := by simp
      have e2 : (us ++ [Value.slice (some ⟨g', 0, none⟩) (t ++ [d]).length cap'])[L.length]'hi' = .slice (some ⟨g', 0, none⟩) (t ++ [d]).length cap' := by rw [List.getElem_append_right (by omega)]; simp [hlen]
      rw [e1, e2]
      refine ownsRow_setCell_other ho (a := ⟨G, L.length, none⟩) ?_ _
      rcases own_apart ho hout2 (by decide) with e | e
      · rw [e]; simp
      · exact e
  · have key : ∀ i (hi : i < us.length) k, us[i].ownBlock = some k → g' ≠ k := fun i hi k hk e => by
      subst e
      rcases hat with e | e
      · rcases hoff i hi with e2 | e2
        · rw [e2] at hk; cases hk
        · exact e2 (hk.trans e.symm)
      · have := h.b.inner i (by simp; omega) (by simp; omega)
        rw [List.getElem_append_left (show i < us.length from hi)] at this
        have h3 := (this.lt g' hk).2
        have := hb.size
        omega
    by_cases hl : i < us.length
    · rw [List.getElem_append_left hl] at hk
      by_cases hj' : j < us.length
      · rw [List.getElem_append_left hj']
        have := h.ap i j (by simp; omega) (by simp; omega) hne k (by rw [List.getElem_append_left hl]; exact hk)
        rw [List.getElem_append_left hj'] at this
        exact this
      · rw [List.getElem_append_right (by omega)]
        have e0 : j - us.length = 0 := by simp at hj; omega
        simp only [e0, List.getElem_cons_zero, Value.ownBlock]
        exact fun e => key i hl k hk (Option.some.inj e)
    · rw [List.getElem_append_right (by omega)] at hk
      have e0 : i - us.length = 0 := by simp at hi; omega
      simp only [e0, List.getElem_cons_zero, Value.ownBlock] at hk
      have hj' : j < us.length := by simp at hi hj; omega
      rw [List.getElem_append_left hj']
      exact fun e => key j hj' k e (Option.some.inj hk)

end Go.Proofs.Ytflmejjhnkpodaa
