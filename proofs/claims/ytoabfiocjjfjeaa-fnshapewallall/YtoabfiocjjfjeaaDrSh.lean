/- spec.DrawShapeOf: a shape and a way, drawn. Of codes of at most 1048576 bytes. -/
import Derived.Test.YtoabfiocjjfjeaaDrOp
import Derived.Handy
namespace Go.Proofs.Ytoabfiocjjfjeaa
open Go.RowKit

set_option maxHeartbeats 1000000 in
set_option maxRecDepth 100000 in
theorem DrawShapeOf_any (ca : Option Addr) (cb co L C : Nat) (x : Nat → Int) (w : World) (hL : L ≤ C) (had : 0 < L → ca = some ⟨cb, co, none⟩) (hc : ∀ i, i < L → w.cell? ⟨cb, co + i, none⟩ = some (.int .u8 (x i)) ∧ 0 ≤ x i ∧ x i ≤ 255) (hLb : L ≤ 1048576) :
    Calls Try.prog 19 #[.slice ca L C] w fun e w' => ∃ s h : Int, e = .returned (.tuple #[.int .i64 s, .int .i64 h]) ∧ Below w.heap.size w w' := by
  go_enter Try.func19, Try.ntmps19
  go_wp2_with fail
  refine (l6Open_any ca cb co L C x _ hL had hc hLb).mono ?_
  rintro e w1 ⟨rfl, hr1, hb1⟩
  have hlt1 := hr1.lt
  clear hc had
  go_wp2_with fail
  refine (pick_rdr _ w.heap.size 0 6 w1 (by omega) (by omega) (by omega) hr1).mono ?_
  rintro e w2 ⟨r2, rfl, r20, r21, hr2, hb2⟩
  have bw2 := But.below hb1 hb2 (by omega)
  by_cases h0 : r2 = 0
  · subst h0
    go_wp2_with fail
    refine (pick_rdr _ w.heap.size 1 9 w2 (by omega) (by omega) (by omega) hr2).mono ?_
    rintro e w3 ⟨r3, rfl, r30, r31, hr3, hb3⟩
    have bw3 := But.below bw2 hb3 (by omega)
    go_wp2_with fail
    refine (pick_rdr _ w.heap.size 2 6 w3 (by omega) (by omega) (by omega) hr3).mono ?_
    rintro e w4 ⟨r4, rfl, r40, r41, hr4, hb4⟩
    have bw4 := But.below bw3 hb4 (by omega)
    go_wp2_with fail
    go_returns
    exact ⟨_, _, rfl, bw4⟩
  · have h0' : (r2 == 0) = false := by simpa using h0
    go_wp2_with fail
    refine (pick_rdr _ w.heap.size 1 6 w2 (by omega) (by omega) (by omega) hr2).mono ?_
    rintro e w3 ⟨r3, rfl, r30, r31, hr3, hb3⟩
    have bw3 := But.below bw2 hb3 (by omega)
    go_wp2_with fail
    refine (pick_rdr _ w.heap.size 2 4 w3 (by omega) (by omega) (by omega) hr3).mono ?_
    rintro e w4 ⟨r4, rfl, r40, r41, hr4, hb4⟩
    have bw4 := But.below bw3 hb4 (by omega)
    go_wp2_with fail
    go_returns
    exact ⟨_, _, rfl, bw4⟩

end Go.Proofs.Ytoabfiocjjfjeaa
