/- The plain mathematics of spec's l2Put. No condition. -/
import Derived.Test.YtkbjdhjcbhdpmabSoMath
namespace Go.Proofs.Ytkbjdhjcbhdpmab
namespace M

/-- How far one is being put in: what has been told, whether it is in already, what is left. -/
structure Put (ks : List Ky) (k : Ky) (out : List Ky) (done : Bool) (n : Nat) : Prop where
  le : n ≤ ks.length
  no : done = false → out = ks.take n ∧ putIn ks k = ks.take n ++ putIn (ks.drop n) k
  yes : done = true → putIn ks k = out ++ ks.drop n ∧ ∀ y ∈ ks.drop n, 0 < cmpK y k
theorem Put.start (ks : List Ky) (k : Ky) : Put ks k [] false 0 := ⟨Nat.zero_le _, fun _ => ⟨rfl, rfl⟩, fun h => by cases h⟩
theorem Put.less {ks : List Ky} {k : Ky} {out : List Ky} {n : Nat} (h : Put ks k out false n) (hn : n < ks.length) (hc : cmpK ks[n] k < 0) : Put ks k (out ++ [ks[n]]) false (n + 1) := by
  obtain ⟨h1, h2⟩ := h.no rfl
  refine ⟨by omega, fun _ => ⟨?_, ?_⟩, fun h => by cases h⟩
  · rw [h1, List.take_succ_eq_append_getElem hn]
  · rw [h2, ← List.getElem_cons_drop hn, putIn, if_neg (by omega), if_neg (by omega), List.take_succ_eq_append_getElem hn, List.append_assoc]
    rfl
theorem Put.more {ks : List Ky} {k : Ky} {out : List Ky} {n : Nat} (ha : Asc ks) (h : Put ks k out false n) (hn : n < ks.length) (hc : 0 < cmpK ks[n] k) : Put ks k (out ++ [k] ++ [ks[n]]) true (n + 1) := by
  obtain ⟨h1, h2⟩ := h.no rfl
  refine ⟨by omega, fun h => (by cases h), fun _ => ⟨?_, fun y hy => ?_⟩⟩
  · rw [h2, h1, ← List.getElem_cons_drop hn, putIn, if_neg (by omega), if_pos hc]
    simp
  · have hd : Asc (ks.drop n) := List.Pairwise.sublist (List.drop_sublist n ks) ha
    rw [← List.getElem_cons_drop hn] at hd
    have h3 := (List.pairwise_cons.1 hd).1 y hy
    have h4 : cmpK k ks[n] < 0 := by have := cmpK_neg ks[n] k; omega
    have h5 := cmpK_trans h4 h3
    have := cmpK_neg k y
    omega
theorem Put.on {ks : List Ky} {k : Ky} {out : List Ky} {n : Nat} (h : Put ks k out true n) (hn : n < ks.length) : Put ks k (out ++ [ks[n]]) true (n + 1) := by
  obtain ⟨h1, h2⟩ := h.yes rfl
  refine ⟨by omega, fun h => (by cases h), fun _ => ⟨?_, fun y hy => ?_⟩⟩
  · rw [h1, ← List.getElem_cons_drop hn]; simp
  · exact h2 y (by rw [← List.getElem_cons_drop hn]; exact List.mem_cons_of_mem _ hy)
theorem Put.ne {ks : List Ky} {k : Ky} {out : List Ky} {n : Nat} (h : Put ks k out true n) (hn : n < ks.length) : 0 < cmpK ks[n] k :=
  (h.yes rfl).2 _ (by rw [← List.getElem_cons_drop hn]; exact List.mem_cons_self ..)
theorem Put.there {ks : List Ky} {k : Ky} {out : List Ky} {n : Nat} (h : Put ks k out false n) (hn : n < ks.length) (hc : cmpK ks[n] k = 0) : putIn ks k = ks := by
  rw [(h.no rfl).2, ← List.getElem_cons_drop hn, putIn, if_pos hc, List.getElem_cons_drop hn, List.take_append_drop]
theorem Put.fin {ks : List Ky} {k : Ky} {out : List Ky} {n : Nat} (h : Put ks k out true n) (hn : ks.length ≤ n) : out = putIn ks k := by
  rw [(h.yes rfl).1, List.drop_eq_nil_of_le hn, List.append_nil]
theorem Put.last {ks : List Ky} {k : Ky} {out : List Ky} {n : Nat} (h : Put ks k out false n) (hn : ks.length ≤ n) : out ++ [k] = putIn ks k := by
  obtain ⟨h1, h2⟩ := h.no rfl
  rw [h2, h1, List.drop_eq_nil_of_le hn]; rfl

end M
end Go.Proofs.Ytkbjdhjcbhdpmab
