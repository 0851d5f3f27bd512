/- impl's (howMade).finish: walls and copies; formOf. Of rows of at most four steps. -/
import Derived.Test.YtoabfiocjjfjeaaShI
namespace Go.Proofs.Ytoabfiocjjfjeaa
open Go.RowKit

theorem own_cells {w : World} {B g c : Nat} {l : List M.D} {n : Nat} (h : w.ownsRow B 34 3 (.slice (some ⟨g, 0, none⟩) n c) n (flat l)) (i : Nat) (hi : i < l.length) : w.cell? ⟨g, i * 3, none⟩ = some (.int .i64 l[i].k) ∧ w.cell? ⟨g, i * 3 + 1, none⟩ = some (.int .i64 l[i].p) ∧ w.cell? ⟨g, i * 3 + 2, none⟩ = some (.int .i64 l[i].v) := by
  obtain ⟨h0, h1, h2⟩ := flat_get l i hi
  have c0 := h.cells (g := g) rfl (i * 3) _ h0
  have c1 := h.cells (g := g) rfl (i * 3 + 1) _ h1
  have c2 := h.cells (g := g) rfl (i * 3 + 2) _ h2
  rw [Go.WideShapes.add_plain, Nat.zero_add] at c0 c1 c2
  exact ⟨c0, c1, c2⟩

/-- What is answered: a row of the call's own, the one that was given or a new one. -/
structure FinAns (w w' : World) (B : Nat) (v v' : Value) (l : List M.D) : Prop where
  own : w'.ownsRow B 34 3 v' l.length (flat l)
  at_ : v' = v ∨ ∀ k, v'.ownBlock = some k → w.heap.size ≤ k
  bel : Below w.heap.size w w'

theorem fin_lit {w : World} {B : Nat} (v : Value) (l : List M.D) {cs : Array Value} (hB : B ≤ w.heap.size) (hcs : cs.toList = flat l) (hn : l.length ≤ 1000) (c1 c2 : Array Value) : FinAns w (((w.alloc (.cells c1 34)).alloc (.cells c2 34)).alloc (.cells cs 34)).drew B v (.slice (some ⟨w.heap.size + 1 + 1, 0, none⟩) l.length l.length) l := by
  have R := own_lit (w := (w.alloc (.cells c1 34)).alloc (.cells c2 34)) (B := B) l (by simp; omega) hcs hn
  simp only [World.size_alloc] at R
  have b3 := (below2 w (.cells c1 34) (.cells c2 34)).alloc (by simp; omega) (.cells cs 34)
  refine ⟨R, Or.inr fun k hk => ?_, b3.drew⟩
  have : w.heap.size + 1 + 1 = k := Option.some.inj hk
  omega

set_option maxHeartbeats 1000000 in
set_option maxRecDepth 100000 in
theorem finish_any (h : Int) (B : Nat) (v : Value) (l : List M.D) (w : World) (hB : B ≤ w.heap.size) (hl : l.length ≤ 1000) (ho : w.ownsRow B 34 3 v l.length (flat l)) :
    Calls Try.prog 45 #[.int .i64 h, v] w fun e w' => ∃ v', e = .returned v' ∧ FinAns w w' B v v' (M.fin h l) := by
  obtain ⟨av, cv, rfl⟩ := own_slx ho
  by_cases h2 : l.length = 2
  · match l, h2, ho with
    | [a, b], _, ho =>
      obtain ⟨g, cap, hv, hg, hlt⟩ := ho.form (by simp)
      simp only [Value.slice.injEq] at hv
      obtain ⟨rfl, _, rfl⟩ := hv
      have hcap := own_cap ho
      obtain ⟨k0, k1, k2⟩ := own_cells (l := [a, b]) ho 0 (by simp)
      obtain ⟨j0, j1, j2⟩ := own_cells (l := [a, b]) ho 1 (by simp)
      simp only [List.getElem_cons_zero, List.getElem_cons_succ, Nat.zero_mul, Nat.zero_add, Nat.one_mul] at k0 k1 k2 j0 j1 j2
      simp only [List.length_cons, List.length_nil, Nat.zero_add, Nat.reduceAdd] at ho hcap ⊢
      obtain ⟨ak, ap, av⟩ := a
      obtain ⟨bk, bp, bv⟩ := b
      simp only at k0 k1 k2 j0 j1 j2
      by_cases h1 : h = 1
      · subst h1
        have T := fin_lit (w := w) (B := B) (.slice (some ⟨g, 0, none⟩) 2 cv) [⟨ak, ap, av⟩, ⟨4, 0, 0⟩, ⟨bk, bp, bv⟩] (cs := #[.int .i64 ak, .int .i64 ap, .int .i64 av, .int .i64 4, .int .i64 0, .int .i64 0, .int .i64 bk, .int .i64 bp, .int .i64 bv]) hB rfl (by simp)
        go_enter Try.func45, Try.ntmps45
        go_wp2_with fail
        go_region
        all_goals
          go_wp2_with fail
          go_ret
          exact ⟨_, rfl, T _ _⟩
      · have h1' : (h == 1) = false := by simpa using h1
        by_cases h3 : h = 3 ∧ M.reads ak = true ∧ M.writes bk = true
        · obtain ⟨rfl, hr, hw⟩ := h3
          have e : M.fin 3 [⟨ak, ap, av⟩, ⟨bk, bp, bv⟩] = [⟨ak, ap, av⟩, ⟨3, bp, 0⟩] := by simp [M.fin, hr, hw]
          have T := fin_lit (w := w) (B := B) (.slice (some ⟨g, 0, none⟩) 2 cv) [⟨ak, ap, av⟩, ⟨3, bp, 0⟩] (cs := #[.int .i64 ak, .int .i64 ap, .int .i64 av, .int .i64 3, .int .i64 bp, .int .i64 0]) hB rfl (by simp)
          have C1 := fun W => reads_any ak W
          have C2 := fun W => writes_any bk W
          rw [hr] at C1
          rw [hw] at C2
          rw [e]
          go_enter Try.func45, Try.ntmps45
          go_wp2_with fail
          go_region
          all_goals
            go_wp2_with (first | (go_at_call 34; refine (C1 _).mono ?_; rintro e w' ⟨rfl, rfl⟩) | (go_at_call 59; refine (C2 _).mono ?_; rintro e w' ⟨rfl, rfl⟩))
            go_ret
            exact ⟨_, rfl, T _ _⟩
        · have e : M.fin h [⟨ak, ap, av⟩, ⟨bk, bp, bv⟩] = [⟨ak, ap, av⟩, ⟨bk, bp, bv⟩] := by simp only [M.fin]; rw [if_neg h1, if_neg h3]
          have T : ∀ c1 c2 : Array Value, FinAns w ((w.alloc (.cells c1 34)).alloc (.cells c2 34)).drew B (.slice (some ⟨g, 0, none⟩) 2 cv) (.slice (some ⟨g, 0, none⟩) 2 cv) [⟨ak, ap, av⟩, ⟨bk, bp, bv⟩] := fun c1 c2 => ⟨ownsRow_below ho (below2 w _ _).drew, Or.inl rfl, (below2 w _ _).drew⟩
          have C1 := fun W => reads_any ak W
          have C2 := fun W => writes_any bk W
          rw [e]
          by_cases h3' : h = 3
          · subst h3'
            cases hr : M.reads ak
            · rw [hr] at C1
              go_enter Try.func45, Try.ntmps45
              go_wp2_with fail
              go_region
              all_goals
                go_wp2_with (first | (go_at_call 34; refine (C1 _).mono ?_; rintro e w' ⟨rfl, rfl⟩) | (go_at_call 59; refine (C2 _).mono ?_; rintro e w' ⟨rfl, rfl⟩))
                go_ret
                exact ⟨_, rfl, T _ _⟩
            · have hw : M.writes bk = false := Bool.eq_false_iff.2 fun hw => h3 ⟨rfl, hr, hw⟩
              rw [hr] at C1
              rw [hw] at C2
              go_enter Try.func45, Try.ntmps45
              go_wp2_with fail
              go_region
              all_goals
                go_wp2_with (first | (go_at_call 34; refine (C1 _).mono ?_; rintro e w' ⟨rfl, rfl⟩) | (go_at_call 59; refine (C2 _).mono ?_; rintro e w' ⟨rfl, rfl⟩))
                go_ret
                exact ⟨_, rfl, T _ _⟩
          · have h3'' : (h == 3) = false := by simpa using h3'
            go_enter Try.func45, Try.ntmps45
            go_wp2_with fail
            go_region
            all_goals
              go_wp2_with fail
              go_ret
              exact ⟨_, rfl, T _ _⟩
  · have hne : ¬ ((l.length : Int) = 2) := by omega
    have hne' : ((l.length : Int) == 2) = false := by simpa using hne
    go_enter Try.func45, Try.ntmps45
    go_wp2_with fail
    go_ret
    exact ⟨_, rfl, ⟨by rw [M.fin_len h l h2]; exact ho, Or.inl rfl, Below.refl _ _⟩⟩

set_option maxHeartbeats 1000000 in
theorem formOf_any (s : Int) (w : World) :
    Calls Try.prog 44 #[.int .i64 s] w fun e w' => e = .returned (.tuple #[if s = 1 then .iface 86 (.agg #[]) else if s = 2 then .iface 87 (.agg #[]) else if s = 3 then .iface 88 (.agg #[]) else if s = 4 then .iface 89 (.agg #[]) else if s = 5 then .iface 90 (.agg #[]) else if s = 6 then .iface 91 (.agg #[]) else .nilIface, .bool (decide (1 ≤ s) && decide (s ≤ 6))]) ∧ w' = w := by
  by_cases h1 : s = 1
  · subst h1
    go_enter Try.func44, Try.ntmps44
    go_wp2_with fail
    go_returns
    exact ⟨rfl, rfl⟩
  have h1' : (s == 1) = false := by simpa using h1
  by_cases h2 : s = 2
  · subst h2
    go_enter Try.func44, Try.ntmps44
    go_wp2_with fail
    go_returns
    exact ⟨rfl, rfl⟩
  have h2' : (s == 2) = false := by simpa using h2
  by_cases h3 : s = 3
  · subst h3
    go_enter Try.func44, Try.ntmps44
    go_wp2_with fail
    go_returns
    exact ⟨rfl, rfl⟩
  have h3' : (s == 3) = false := by simpa using h3
  by_cases h4 : s = 4
  · subst h4
    go_enter Try.func44, Try.ntmps44
    go_wp2_with fail
    go_returns
    exact ⟨rfl, rfl⟩
  have h4' : (s == 4) = false := by simpa using h4
  by_cases h5 : s = 5
  · subst h5
    go_enter Try.func44, Try.ntmps44
    go_wp2_with fail
    go_returns
    exact ⟨rfl, rfl⟩
  have h5' : (s == 5) = false := by simpa using h5
  by_cases h6 : s = 6
  · subst h6
    go_enter Try.func44, Try.ntmps44
    go_wp2_with fail
    go_returns
    exact ⟨rfl, rfl⟩
  have h6' : (s == 6) = false := by simpa using h6
  have hno : (decide (1 ≤ s) && decide (s ≤ 6)) = false := by simp; omega
  rw [hno, if_neg h1, if_neg h2, if_neg h3, if_neg h4, if_neg h5, if_neg h6]
  go_enter Try.func44, Try.ntmps44
  go_wp2_with fail
  go_returns
  exact ⟨rfl, rfl⟩

end Go.Proofs.Ytoabfiocjjfjeaa
