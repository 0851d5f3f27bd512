/- spec.ShapeOf, and what it calls. No condition. -/
import Derived.Test.YtoabfiocjjfjeaaShLp
namespace Go.Proofs.Ytoabfiocjjfjeaa
open Go.RowKit

set_option maxHeartbeats 400000 in
theorem l23Store_any (h pl v k : Int) (w : World) (hk : M.kst h = k) :
    Calls Try.prog 42 #[.int .i64 pl, .int .i64 v, .int .i64 h] w fun e w' => e = .returned (.agg #[.int .i64 k, .int .i64 pl, .int .i64 v]) ∧ Below w.heap.size w w' := by
  subst hk
  by_cases h2 : h = 2
  · rw [M.kst_yes h2]
    subst h2
    go_enter Try.func42, Try.ntmps42
    go_wp2_with fail
    go_returns
    exact ⟨rfl, by go_grown⟩
  · rw [M.kst_no h2]
    have h2' : (h == 2) = false := by simpa using h2
    go_enter Try.func42, Try.ntmps42
    go_wp2_with fail
    go_returns
    exact ⟨rfl, by go_grown⟩

set_option maxHeartbeats 400000 in
theorem l23Load_any (h pl k : Int) (w : World) (hk : M.kld h = k) :
    Calls Try.prog 43 #[.int .i64 pl, .int .i64 h] w fun e w' => e = .returned (.agg #[.int .i64 k, .int .i64 pl, .int .i64 0]) ∧ Below w.heap.size w w' := by
  subst hk
  by_cases h2 : h = 2
  · rw [M.kld_yes h2]
    subst h2
    go_enter Try.func43, Try.ntmps43
    go_wp2_with fail
    go_returns
    exact ⟨rfl, by go_grown⟩
  · rw [M.kld_no h2]
    have h2' : (h == 2) = false := by simpa using h2
    go_enter Try.func43, Try.ntmps43
    go_wp2_with fail
    go_returns
    exact ⟨rfl, by go_grown⟩

/-- What is answered: a row of the call's own. -/
structure TwoAns (w w' : World) (e : Ending) (l : List M.D) : Prop where
  ex : ∃ x c, e = .returned (.slice x l.length c) ∧ w'.ownsRow w.heap.size 34 3 (.slice x l.length c) l.length (flat l)
  bel : Below w.heap.size w w'
theorem two_lit {w W : World} {N : Nat} (l : List M.D) {cs : Array Value} (hb : Below w.heap.size w W) (hcs : cs.toList = flat l) (hn : l.length ≤ 1000) (hN : W.heap.size = N) : TwoAns w (W.alloc (.cells cs 34)) (.returned (.slice (some ⟨N, 0, none⟩) l.length l.length)) l := by
  subst hN
  exact ⟨⟨_, _, rfl, own_lit (w := W) (B := w.heap.size) l hb.size hcs hn⟩, hb.alloc hb.size _⟩

set_option maxHeartbeats 1000000 in
set_option maxRecDepth 100000 in
theorem l23Two_any (h ak ap av bk bp bv : Int) (w : World) :
    Calls Try.prog 41 #[.agg #[.int .i64 ak, .int .i64 ap, .int .i64 av], .agg #[.int .i64 bk, .int .i64 bp, .int .i64 bv], .int .i64 h] w fun e w' => TwoAns w w' e (M.fin h [⟨ak, ap, av⟩, ⟨bk, bp, bv⟩]) := by
  have C1 := fun W => l1Reads_any ⟨ak, ap, av⟩ W
  have C2 := fun W => l1Writes_any ⟨bk, bp, bv⟩ W
  simp only at C1 C2
  by_cases h1 : h = 1
  · subst h1
    go_enter Try.func41, Try.ntmps41
    go_wp2_with fail
    go_ret
    exact two_lit [⟨ak, ap, av⟩, ⟨4, 0, 0⟩, ⟨bk, bp, bv⟩] (below2 _ _ _) rfl (by simp) (by simp only [World.size_alloc])
  · have h1' : (h == 1) = false := by simpa using h1
    by_cases h3 : h = 3
    · subst h3
      cases hr : M.reads ak
      · have e : M.fin 3 [⟨ak, ap, av⟩, ⟨bk, bp, bv⟩] = [⟨ak, ap, av⟩, ⟨bk, bp, bv⟩] := by simp [M.fin, hr]
        rw [e]
        rw [hr] at C1
        go_enter Try.func41, Try.ntmps41
        go_wp2_with (first | (go_at_call 49; refine (C1 _).mono ?_; rintro e w1 ⟨rfl, rfl⟩) | (go_at_call 50; refine (C2 _).mono ?_; rintro e w1 ⟨rfl, rfl⟩))
        go_ret
        exact two_lit [⟨ak, ap, av⟩, ⟨bk, bp, bv⟩] (below3 _ _ _ _) rfl (by simp) (by simp only [World.size_alloc])
      · cases hw : M.writes bk
        · have e : M.fin 3 [⟨ak, ap, av⟩, ⟨bk, bp, bv⟩] = [⟨ak, ap, av⟩, ⟨bk, bp, bv⟩] := by simp [M.fin, hw]
          rw [e]
          rw [hr] at C1
          rw [hw] at C2
          go_enter Try.func41, Try.ntmps41
          go_wp2_with (first | (go_at_call 49; refine (C1 _).mono ?_; rintro e w1 ⟨rfl, rfl⟩) | (go_at_call 50; refine (C2 _).mono ?_; rintro e w1 ⟨rfl, rfl⟩))
          go_ret
          exact two_lit [⟨ak, ap, av⟩, ⟨bk, bp, bv⟩] ((below3 _ _ _ _).alloc (by simp; omega) _) rfl (by simp) (by simp only [World.size_alloc])
        · have e : M.fin 3 [⟨ak, ap, av⟩, ⟨bk, bp, bv⟩] = [⟨ak, ap, av⟩, ⟨3, bp, 0⟩] := by simp [M.fin, hr, hw]
          rw [e]
          rw [hr] at C1
          rw [hw] at C2
          go_enter Try.func41, Try.ntmps41
          go_wp2_with (first | (go_at_call 49; refine (C1 _).mono ?_; rintro e w1 ⟨rfl, rfl⟩) | (go_at_call 50; refine (C2 _).mono ?_; rintro e w1 ⟨rfl, rfl⟩))
          go_ret
          exact two_lit [⟨ak, ap, av⟩, ⟨3, bp, 0⟩] ((below3 _ _ _ _).alloc (by simp; omega) _) rfl (by simp) (by simp only [World.size_alloc])
    · have h3' : (h == 3) = false := by simpa using h3
      have e : M.fin h [⟨ak, ap, av⟩, ⟨bk, bp, bv⟩] = [⟨ak, ap, av⟩, ⟨bk, bp, bv⟩] := by simp [M.fin, h1, h3]
      rw [e]
      go_enter Try.func41, Try.ntmps41
      go_wp2_with fail
      go_ret
      exact two_lit [⟨ak, ap, av⟩, ⟨bk, bp, bv⟩] (below2 _ _ _) rfl (by simp) (by simp only [World.size_alloc])

end Go.Proofs.Ytoabfiocjjfjeaa
