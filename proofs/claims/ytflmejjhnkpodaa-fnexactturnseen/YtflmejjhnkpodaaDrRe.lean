/- spec.l71Reader and l71Waiter: drawn threads of readers and of those who wait. -/
import Derived.Test.YtflmejjhnkpodaaDrTh
import Derived.Deep.RegionWith
namespace Go.Proofs.Ytflmejjhnkpodaa
open Go.RowKit

set_option maxHeartbeats 1000000 in
theorem l71Reader_any (B rb p : Nat) (n : Int) (w : World) (hn : 1 ≤ n) (hn2 : n ≤ 1000) (hp : p ≤ 90000) (h : Rdr w B rb p) :
    Calls Try.prog 66 #[.pointer (some ⟨rb, 0, none⟩), .int .i64 n] w fun e w' => ∃ (l : List M.D) (v : Value), e = .returned v ∧ w'.ownsRow w.heap.size 83 3 v l.length (flat l) ∧ l.length = 4 ∧ ∃ p' : Nat, p' ≤ p + 6 ∧ Rdr w' B rb p' ∧ But rb w w' := by
  have hlt := h.lt
  have hge := h.ge
  go_enter Try.func66, Try.ntmps66
  go_wp2_with fail
  refine (pick_rdr B rb p _ _ hn hn2 (by omega) h).mono ?_
  rintro e w1 ⟨r1, rfl, r10, r11, hr1, hb1⟩
  go_wp2_with fail
  refine (pick_rdr B rb (p + 1) _ _ hn hn2 (by omega) hr1).mono ?_
  rintro e w2 ⟨r2, rfl, r20, r21, hr2, hb2⟩
  have hb2' := hb1.trans hb2
  clear hb1 hb2 hr1
  go_wp2_with fail
  have hsz := hb2'.size
  have hown : (w2.alloc (.cells #[.int .i64 7, .int .i64 0, .int .i64 0, .int .i64 2, .int .i64 r1, .int .i64 0, .int .i64 2, .int .i64 r2, .int .i64 0, .int .i64 8, .int .i64 0, .int .i64 0] 83)).ownsRow w.heap.size 83 3 (.slice (some ⟨w2.heap.size, 0, none⟩) 4 4) 4 (flat [⟨7, 0, 0⟩, ⟨2, r1, 0⟩, ⟨2, r2, 0⟩, ⟨8, 0, 0⟩]) :=
    World.ownsRow_lit w2 _ 4 hsz (by decide) rfl
  refine (pick_rdr B rb (p + 1 + 1) _ _ (by omega) (by omega) (by omega) (hr2.alloc _)).mono ?_
  rintro e w3 ⟨r3, rfl, r30, r31, hr3, hb3⟩
  have hown3 := ownsRow_but hown hb3 hlt
  have hb3' := (hb2'.alloc _).trans hb3
  clear hown hb3 hb2' hr2
  by_cases h0 : r3 = 0
  · subst h0
    go_wp2_with fail
    refine (l71Do_any B rb _ n _ hn hn2 (by omega) hr3).mono ?_
    rintro e w4 ⟨⟨kk, pp, vv⟩, p4, rfl, hp4, hr4, hb4⟩
    have hown4 := ownsRow_but hown3 hb4 hlt
    have hb4' := hb3'.trans hb4
    clear hown3 hb4 hb3' hr3
    have c6 := hown4.cellAt 6 (by decide)
    have c7 := hown4.cellAt 7 (by decide)
    have c8 := hown4.cellAt 8 (by decide)
    have f := hown4.frozenAt
    simp only [flat] at c6 c7 c8
    simp at c6 c7 c8
    have hlt2 : rb < w2.heap.size := by omega
    go_wp2_with fail
    go_ret
    obtain ⟨o5, g5⟩ := hown4.stored 6 (.int .i64 kk)
    obtain ⟨o6, g6⟩ := o5.stored 7 (.int .i64 pp)
    obtain ⟨o7, g7⟩ := o6.stored 8 (.int .i64 vv)
    refine ⟨[⟨7, 0, 0⟩, ⟨2, r1, 0⟩, ⟨kk, pp, vv⟩, ⟨8, 0, 0⟩], _, rfl, o7, rfl, p4, by omega, ?_, ?_⟩
    · exact ((hr4.setCell (by omega) (by omega) _).setCell (by omega) (by omega) _).setCell (by omega) (by omega) _
    · exact ((hb4'.setCell (Or.inl hsz) _).setCell (Or.inl hsz) _).setCell (Or.inl hsz) _
  · have h0' : (r3 == 0) = false := by simpa using h0
    go_wp2_with fail
    go_ret
    exact ⟨[⟨7, 0, 0⟩, ⟨2, r1, 0⟩, ⟨2, r2, 0⟩, ⟨8, 0, 0⟩], _, rfl, hown3, rfl, p + 1 + 1 + 1, by omega, hr3, hb3'⟩

end Go.Proofs.Ytflmejjhnkpodaa
