/- Steps that are changed where they lie: plainly, and in rows of the call's own. No condition. -/
import Derived.Test.YtnaljfnijcoheaaTnBase
import Derived.Test.YtnaljfnijcoheaaTnMath
import Derived.Test.YtnaljfnijcoheaaLpPg
namespace Go.Proofs.Ytnaljfnijcoheaa
open Go.RowKit

namespace M
/-- The first so many steps changed. -/
def curT (f : D → D) (k : Nat) (t : List D) : List D := (t.take k).map f ++ t.drop k
theorem curT_zero (f : D → D) (t : List D) : curT f 0 t = t := by simp [curT]
theorem curT_len (f : D → D) (k : Nat) (t : List D) : (curT f k t).length = t.length := by simp [curT]; omega
theorem curT_all (f : D → D) (k : Nat) (t : List D) (h : t.length ≤ k) : curT f k t = t.map f := by
  unfold curT; rw [List.take_of_length_le h, List.drop_eq_nil_of_le h, List.append_nil]
theorem curT_get (f : D → D) (k : Nat) (t : List D) (h : k < t.length) (h' : k < (curT f k t).length) : (curT f k t)[k] = t[k] := by
  have e : (curT f k t)[k]? = t[k]? := by
    unfold curT
    rw [List.getElem?_append_right (by simp; omega)]
    simp [Nat.min_eq_left (Nat.le_of_lt h)]
  rw [List.getElem?_eq_getElem h', List.getElem?_eq_getElem h] at e
  exact Option.some.inj e
theorem curT_set (f : D → D) (k : Nat) (t : List D) (h : k < t.length) : (curT f k t).set k (f t[k]) = curT f (k + 1) t := by
  unfold curT
  have e : (t.drop k).set 0 (f t[k]) = f t[k] :: t.drop (k + 1) := by
    have := (List.getElem_cons_drop h).symm
    generalize t.drop k = x at *
    subst this
    rfl
  rw [List.take_succ_eq_append_getElem h, List.map_append, List.set_append_right _ _ (by simp; omega)]
  simp [Nat.min_eq_left (Nat.le_of_lt h), e]
/-- The first so many threads changed, and of the next one the first so many steps. -/
def cur (f : D → D) (n k : Nat) (ll : List (List D)) : List (List D) := ll.mapIdx fun i t => if i < n then t.map f else if i = n then curT f k t else t
theorem cur_len (f : D → D) (n k : Nat) (ll : List (List D)) : (cur f n k ll).length = ll.length := by simp [cur]
theorem cur_zero (f : D → D) (ll : List (List D)) : cur f 0 0 ll = ll := by
  apply List.ext_getElem (cur_len _ _ _ _)
  intro i h1 h2
  simp only [cur, List.getElem_mapIdx, Nat.not_lt_zero, if_false, curT_zero, ite_self]
theorem cur_get (f : D → D) (n k : Nat) (ll : List (List D)) (h : n < ll.length) (h' : n < (cur f n k ll).length) : (cur f n k ll)[n] = curT f k ll[n] := by
  simp [cur]
theorem cur_set (f : D → D) (n k : Nat) (ll : List (List D)) (h : n < ll.length) (hk : k < ll[n].length) : (cur f n k ll).set n ((curT f k ll[n]).set k (f ll[n][k])) = cur f n (k + 1) ll := by
  rw [curT_set f k _ hk]
  apply List.ext_getElem (by simp [cur])
  intro i h1 h2
  by_cases e : n = i
  · subst e; rw [List.getElem_set_self]; simp [cur]
  · rw [List.getElem_set_ne e]
    have e' : ¬ i = n := fun h => e h.symm
    simp only [cur, List.getElem_mapIdx, e', if_false]
theorem cur_next (f : D → D) (n k : Nat) (ll : List (List D)) (h : n < ll.length) (hk : ll[n].length ≤ k) : cur f n k ll = cur f (n + 1) 0 ll := by
  apply List.ext_getElem (by simp [cur])
  intro i h1 h2
  simp only [cur, List.getElem_mapIdx, curT_zero, ite_self]
  by_cases e : i < n
  · rw [if_pos e, if_pos (by omega)]
  · by_cases e2 : i = n
    · subst e2; rw [if_neg e, if_pos rfl, if_pos (by omega), curT_all f k _ hk]
    · rw [if_neg e, if_neg e2, if_neg (by omega)]
theorem cur_all (f : D → D) (n k : Nat) (ll : List (List D)) (h : ll.length ≤ n) : cur f n k ll = mapS f ll := by
  apply List.ext_getElem (by simp [cur, mapS])
  intro i h1 h2
  have : i < ll.length := by simpa [cur] using h1
  simp only [cur, mapS, List.getElem_mapIdx, List.getElem_map]
  rw [if_pos (by omega)]
end M

theorem flat_set0 (l : List M.D) : ∀ (k : Nat) (h : k < l.length) (d : M.D), d.p = l[k].p → d.v = l[k].v → (flat l).set (k * 3) (.int .i64 d.k) = flat (l.set k d) := by
  induction l with
  | nil => intro k h; exact absurd h (Nat.not_lt_zero _)
  | cons x l ih =>
    intro k h d h1 h2
    cases k with
    | zero => simp only [List.getElem_cons_zero] at h1 h2; simp [flat, h1, h2]
    | succ k => rw [show (k + 1) * 3 = k * 3 + 3 from by omega]; simpa [flat] using ih k (by simpa using h) d (by simpa using h1) (by simpa using h2)
theorem flat_set1 (l : List M.D) : ∀ (k : Nat) (h : k < l.length) (d : M.D), d.k = l[k].k → d.v = l[k].v → (flat l).set (k * 3 + 1) (.int .i64 d.p) = flat (l.set k d) := by
  induction l with
  | nil => intro k h; exact absurd h (Nat.not_lt_zero _)
  | cons x l ih =>
    intro k h d h1 h2
    cases k with
    | zero => simp only [List.getElem_cons_zero] at h1 h2; simp [flat, h1, h2]
    | succ k => rw [show (k + 1) * 3 + 1 = k * 3 + 1 + 3 from by omega]; simpa [flat] using ih k (by simpa using h) d (by simpa using h1) (by simpa using h2)
theorem flat_set2 (l : List M.D) : ∀ (k : Nat) (h : k < l.length) (d : M.D), d.k = l[k].k → d.p = l[k].p → (flat l).set (k * 3 + 2) (.int .i64 d.v) = flat (l.set k d) := by
  induction l with
  | nil => intro k h; exact absurd h (Nat.not_lt_zero _)
  | cons x l ih =>
    intro k h d h1 h2
    cases k with
    | zero => simp only [List.getElem_cons_zero] at h1 h2; simp [flat, h1, h2]
    | succ k => rw [show (k + 1) * 3 + 2 = k * 3 + 2 + 3 from by omega]; simpa [flat] using ih k (by simpa using h) d (by simpa using h1) (by simpa using h2)

/-- A step is another one then; all else is as it was. -/
def Chg (w w' : World) (g off : Nat) (d d' : M.D) : Prop := ∃ q, (w' = w.drewN q ∧ d' = d) ∨ (w' = (w.drewN q).setCell ⟨g, off, none⟩ (.int .i64 d'.k) ∧ d'.p = d.p ∧ d'.v = d.v) ∨ (w' = (w.drewN q).setCell ⟨g, off + 1, none⟩ (.int .i64 d'.p) ∧ d'.k = d.k ∧ d'.v = d.v) ∨ (w' = (w.drewN q).setCell ⟨g, off + 2, none⟩ (.int .i64 d'.v) ∧ d'.k = d.k ∧ d'.p = d.p)

theorem drewN_below (w : World) (q : Nat) : Below w.heap.size w (w.drewN q) := ⟨rfl, rfl, rfl, Nat.le_refl _, fun _ _ => rfl⟩
theorem own_chg {w w' : World} {B g n cap k : Nat} {l : List M.D} {d' : M.D} (h : w.ownsRow B 86 3 (.slice (some ⟨g, 0, none⟩) n cap) n (flat l)) (hk : k < l.length) (hc : Chg w w' g (k * 3) l[k] d') :
    w'.ownsRow B 86 3 (.slice (some ⟨g, 0, none⟩) n cap) n (flat (l.set k d')) ∧ w.grownBy w' (some g) := by
  obtain ⟨q, hc⟩ := hc
  have hq := ownsRow_below h (drewN_below w q)
  have gq : ∀ W, (w.drewN q).grownBy W (some g) → w.grownBy W (some g) := fun W hg => ⟨hg.os, hg.tape, hg.output, hg.size, hg.block⟩
  rcases hc with ⟨rfl, rfl⟩ | ⟨rfl, h1, h2⟩ | ⟨rfl, h1, h2⟩ | ⟨rfl, h1, h2⟩
  · exact ⟨by rw [List.set_getElem_self]; exact hq, ⟨rfl, rfl, rfl, Nat.le_refl _, fun _ _ _ => rfl⟩⟩
  · obtain ⟨ho, hg⟩ := hq.stored (k * 3) (.int .i64 d'.k)
    rw [flat_set0 l k hk d' h1 h2] at ho
    exact ⟨ho, gq _ hg⟩
  · obtain ⟨ho, hg⟩ := hq.stored (k * 3 + 1) (.int .i64 d'.p)
    rw [flat_set1 l k hk d' h1 h2] at ho
    exact ⟨ho, gq _ hg⟩
  · obtain ⟨ho, hg⟩ := hq.stored (k * 3 + 2) (.int .i64 d'.v)
    rw [flat_set2 l k hk d' h1 h2] at ho
    exact ⟨ho, gq _ hg⟩

theorem Rdg.chg {w w' : World} {B : Nat} {v : Value} {ll : List (List M.D)} {vs : List Value} {n k g m cap : Nat} {d' : M.D} (h : Rdg w B v ll vs) (hn : n < ll.length) (hv : n < vs.length) (he : vs[n] = .slice (some ⟨g, 0, none⟩) m cap) (hk : k < ll[n].length) (hc : Chg w w' g (k * 3) ll[n][k] d') :
    Rdg w' B v (ll.set n (ll[n].set k d')) vs ∧ w.grownBy w' (some g) ∧ B ≤ g := by
  have hin := h.b.inner n hn hv
  have hm : m = ll[n].length := by
    rcases hin.2 with ⟨e, _⟩ | ⟨_, _, _, e, _⟩
    · rw [he] at e; simp at e
    · rw [he] at e; simp only [Value.slice.injEq] at e; exact e.2.1
  subst hm
  have hin' := hin
  rw [he] at hin'
  obtain ⟨ho, hg⟩ := own_chg hin' hk hc
  have hBg : B ≤ g := own_ge hin' g rfl
  refine ⟨⟨⟨?_, by rw [List.length_set]; exact h.b.len, fun i h1 h2 => ?_⟩, h.ap⟩, hg, hBg⟩
  · rw [List.length_set]
    refine h.b.outer.kept hg ?_
    rcases own_apart h.b.outer hin' (by decide) with e | e
    · exact Or.inl e
    · exact Or.inr e
  · by_cases e : n = i
    · subst e
      rw [List.getElem_set_self, he, List.length_set]
      exact ho
    · rw [List.getElem_set_ne e]
      have h1' : i < ll.length := by simpa using h1
      refine (h.b.inner i h1' h2).kept hg ?_
      cases hb : vs[i].ownBlock with
      | none => exact Or.inl rfl
      | some kk =>
        refine Or.inr fun e2 => ?_
        have := h.ap i n h2 hv (fun e3 => e e3.symm) kk hb
        rw [he] at this
        exact this (by simp only [Value.ownBlock]; exact e2.symm)

/-- What lies in the list of threads. -/
theorem Rdg.outer_at {w : World} {B cv n : Nat} {av : Option Addr} {ll : List (List M.D)} {vs : List Value} (h : Rdg w B (.slice av ll.length cv) ll vs) (hn : n < ll.length) : ∃ gv, av = some ⟨gv, 0, none⟩ ∧ ∃ hv : n < vs.length, w.cell? ⟨gv, n, none⟩ = some vs[n] := by
  have hv : n < vs.length := by rw [h.b.len]; exact hn
  rcases h.b.outer.2 with ⟨e, h0⟩ | ⟨g, cap, cur, e, hg, hh, r⟩
  · omega
  · simp only [Value.slice.injEq] at e
    obtain ⟨rfl, _, rfl⟩ := e
    have hc := h.b.outer.cells (g := g) rfl n vs[n] (List.getElem?_eq_getElem hv)
    rw [Go.WideShapes.add_plain, Nat.zero_add] at hc
    exact ⟨g, rfl, hv, hc⟩
/-- .. and in a thread. -/
theorem Rdg.inner_at {w : World} {B n : Nat} {v : Value} {ll : List (List M.D)} {vs : List Value} (h : Rdg w B v ll vs) (hn : n < ll.length) (hv : n < vs.length) : ∃ a' c', vs[n] = .slice a' ll[n].length c' ∧ (0 < ll[n].length → ∃ g, a' = some ⟨g, 0, none⟩ ∧ B ≤ g ∧ Row w g 0 ll[n] ∧ ∀ i, w.frozen? ⟨g, i, none⟩ = false) := by
  have hin := h.b.inner n hn hv
  rcases hin.2 with ⟨e, h0⟩ | ⟨g, cap, cur, e, hg, hh, r⟩
  · exact ⟨none, 0, by rw [e, h0], fun h => by omega⟩
  · refine ⟨_, cap, e, fun hpos => ⟨g, rfl, hg, ?_, ?_⟩⟩
    · obtain ⟨a2, g2, c2, e2, hd, _⟩ := own_steps hin
      rw [e] at e2
      simp only [Value.slice.injEq] at e2
      obtain ⟨rfl, _, _⟩ := e2
      have := hd.addr hpos
      simp at this
      rw [this]; exact hd.row
    · rw [e] at hin; exact fun i => own_fzS hin i

end Go.Proofs.Ytnaljfnijcoheaa
