/- What stands in the loop of impl.ShapeOf: the rows of the shape, and the threads that are told so far. No condition. -/
import Derived.Test.YtoabfiocjjfjeaaShF
namespace Go.Proofs.Ytoabfiocjjfjeaa
open Go.RowKit

theorem ownsRow_keep {w w' : World} {B : Nat} {e : TypeId} {z : Nat} {v : Value} {n : Nat} {xs : List Value} (h : w.ownsRow B e z v n xs) (hk : ∀ b, B ≤ b → b < w.heap.size → w'.heap[b]? = w.heap[b]?) : w'.ownsRow B e z v n xs := by
  obtain ⟨h1, h2⟩ := h
  refine ⟨h1, ?_⟩
  rcases h2 with h2 | ⟨g, cap, cur, hv, hg, hh, r⟩
  · exact .inl h2
  · have hlt : g < w.heap.size := by
      rw [Array.getElem?_eq_some_iff] at hh
      exact hh.1
    exact .inr ⟨g, cap, cur, hv, hg, (hk g hg hlt).trans hh, r⟩
structure ShLp (w W1 wr : World) (h : Int) (ll : List (List M.D)) (us : List Value) (n : Nat) (v : Value) (vs : List Value) : Prop where
  rd : Rdg wr (w.heap.size + 2) v ((ll.take n).map (M.fin h)) vs
  p : Slot1 wr (w.heap.size + 1) v
  q : Slot1 wr w.heap.size (.slice none 0 0)
  bel : Below w.heap.size w wr
  sz : W1.heap.size ≤ wr.heap.size
  keep : ∀ b, w.heap.size + 2 ≤ b → b < W1.heap.size → wr.heap[b]? = W1.heap[b]?
  vb : ∀ k, v.ownBlock = some k → W1.heap.size ≤ k
  at_ : ∀ i (hi : i < vs.length) (hu : i < us.length) k, vs[i].ownBlock = some k → us[i].ownBlock = some k ∨ W1.heap.size ≤ k
theorem ShLp.len {w W1 wr : World} {h : Int} {ll : List (List M.D)} {us : List Value} {n : Nat} {v : Value} {vs : List Value} (H : ShLp w W1 wr h ll us n v vs) (hn : n ≤ ll.length) : vs.length = n := by
  rw [H.rd.b.len, List.length_map, List.length_take]; omega
theorem ShLp.next {w W1 wr w4 w5 : World} {h : Int} {ll : List (List M.D)} {us : List Value} {n : Nat} {v v4 vt : Value} {vs : List Value} {g5 cap5 : Nat} (H : ShLp w W1 wr h ll us n v vs) (R0 : Rdg W1 (w.heap.size + 2) vt ll us) (hn : n < ll.length) (hu : n < us.length)
    (hF : FinAns wr w4 (w.heap.size + 2) us[n] v4 (M.fin h ll[n])) (ho5 : w5.ownsRow (w.heap.size + 2) 32 1 (.slice (some ⟨g5, 0, none⟩) (((ll.take n).map (M.fin h)).length + 1) cap5) (((ll.take n).map (M.fin h)).length + 1) (vs ++ [v4]))
    (hg5 : (w4.alloc (.cells #[v4] 32)).grownBy w5 v.ownBlock) (hat : v.ownBlock = some g5 ∨ g5 = w4.heap.size + 1) (hlt : W1.heap.size ≤ w4.heap.size) :
    Slot1 w5 (w.heap.size + 1) v ∧ Below w.heap.size w w5 ∧ ∀ u, u = Value.slice (some ⟨g5, 0, none⟩) (((ll.take n).map (M.fin h)).length + 1) cap5 → ShLp w W1 (w5.setCell ⟨w.heap.size + 1, 0, none⟩ u) h ll us (n + 1) u (vs ++ [v4]) := by
  have hal := below1 w4 (.cells #[v4] 32)
  have hge := own_ge H.rd.b.outer
  have b4 := hF.bel
  have b4a := b4.trans (hal.mono b4.size)
  have bwa := H.bel.trans (b4a.mono H.bel.size)
  have lp := H.p.lt
  have lenv := H.len (Nat.le_of_lt hn)
  have hS : Slot1 w5 (w.heap.size + 1) v := (H.p.bl' b4a).apart hg5 (fun e => by have := hge _ e; omega)
  have hQ : Slot1 w5 w.heap.size (.slice none 0 0) := (H.q.bl' b4a).apart hg5 (fun e => by have := hge _ e; omega)
  have hB : Below w.heap.size w w5 := below_grown bwa hg5 (fun j hj => by have := hge j hj; omega) bwa.size
  have hR : Rdg w5 (w.heap.size + 2) (.slice (some ⟨g5, 0, none⟩) (((ll.take n).map (M.fin h)).length + 1) cap5) ((ll.take n).map (M.fin h) ++ [M.fin h ll[n]]) (vs ++ [v4]) := by
    refine ((H.rd.below b4).below hal).snocT (ownsRow_below hF.own hal) (fun i hi j hj e => ?_) ho5 hg5
    have hi' : i < us.length := by omega
    have l1 := ((H.rd.b.inner i (by have := H.rd.b.len; omega) hi).lt j hj).2
    rcases hF.at_ with e4 | e4
    · rw [e4] at e
      have l2 := ((R0.b.inner n hn hu).lt j e).2
      rcases H.at_ i hi hi' j hj with e5 | e5
      · exact R0.ap i n hi' hu (by omega) j e5 e
      · omega
    · have := e4 j e
      omega
  refine ⟨hS, hB, fun u hu' => ?_⟩
  subst hu'
  have tk : (ll.take (n + 1)).map (M.fin h) = (ll.take n).map (M.fin h) ++ [M.fin h ll[n]] := by
    rw [List.take_succ_eq_append_getElem hn, List.map_append]; rfl
  refine ⟨by rw [tk]; exact hR.far (by omega) _, hS.set _, hQ.far (by omega) _, hB.setCell (by show w.heap.size ≤ w.heap.size + 1; omega) _, ?_, fun b hb1 hb2 => ?_, fun k hk => ?_, fun i hi hu2 k hk => ?_⟩
  · have h1 := hg5.size
    simp only [World.size_setCell, World.size_alloc] at *
    omega
  · rw [Below.heap_setCell _ _ _ _ (by show b ≠ w.heap.size + 1; omega)]
    have h1 : w5.heap[b]? = (w4.alloc (.cells #[v4] 32)).heap[b]? := hg5.block b (by simp; omega) (fun e => by have := H.vb b e.symm; omega)
    rw [h1, hal.block b (by omega), b4.block b (by have := H.sz; omega)]
    exact H.keep b hb1 hb2
  · have hk' : g5 = k := Option.some.inj hk
    rcases hat with e | e
    · have := H.vb g5 e; omega
    · omega
  · by_cases hi' : i < vs.length
    · rw [List.getElem_append_left hi'] at hk
      exact H.at_ i hi' hu2 k hk
    · have : i = n := by simp at hi; omega
      subst this
      rw [List.getElem_append_right (by omega)] at hk
      have e0 : i - vs.length = 0 := by omega
      simp only [e0, List.getElem_cons_zero] at hk
      rcases hF.at_ with e4 | e4
      · rw [e4] at hk; exact Or.inl hk
      · have := e4 k hk
        exact Or.inr (by have := H.sz; omega)
theorem M.shape_no {s h : Int} (e : M.shapeOk s h = false) : M.shape s h = none := by simp [M.shape, e]
theorem M.shape_yes {s h : Int} (e : M.shapeOk s h = true) : M.shape s h = some ((M.raw s h).map (M.fin h)) := by simp [M.shape, e]
theorem M.raw_two (s h : Int) : (M.raw s h).length = 2 ∧ ∀ t ∈ M.raw s h, t.length ≤ 4 := by
  unfold M.raw
  repeat' split
  all_goals simp [M.sst]
theorem M.fin_le (h : Int) (l : List M.D) : (M.fin h l).length ≤ l.length + 1 := by
  unfold M.fin
  repeat' split
  all_goals simp

end Go.Proofs.Ytoabfiocjjfjeaa
