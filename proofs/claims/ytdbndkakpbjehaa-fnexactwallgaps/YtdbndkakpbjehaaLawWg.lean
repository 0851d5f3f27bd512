/- The law FnExactWallGaps, walked: it answers true, and leaves all as it was. Of programs of at most 9223372036854775807 threads, each of at most 9223372036854775807 steps: more than a machine holds. -/
import Derived.Test.YtdbndkakpbjehaaStays
import Derived.Test.YtdbndkakpbjehaaWlGap
namespace Go.Proofs.Ytdbndkakpbjehaa
open Go.RowKit

set_option maxHeartbeats 1000000 in
theorem lawWg_any (a : Option Addr) (b o c : Nat) (ll : List (List M.D)) (w : World) (hl0 : ll.length ≤ 9223372036854775807) (hls0 : ∀ t ∈ ll, t.length ≤ 9223372036854775807) (h : DoSS w a b o ll) :
    Calls Try.prog 6 #[.agg #[.slice a ll.length c]] w fun e w' => e = .returned (.bool true) ∧ Below w.heap.size w w' := by
  go_enter Try.func6, Try.ntmps6
  go_wp2_with (go_at_call 18; refine (szProg_any a b o c ll _ hl0 hls0 (h.below (below1 w _) (Nat.le_refl _))).mono ?_; rintro e w1 ⟨r', rfl, rfl, hor⟩)
  · go_ret
    exact ⟨rfl, below2 _ _ _⟩
  obtain ⟨_, hl, hls⟩ : 0 ≤ r' ∧ ll.length ≤ 1048576 ∧ ∀ t ∈ ll, t.length ≤ 1048576 := hor.resolve_left (by omega)
  clear hor hl0 hls0
  have st0 : Stays w ((w.alloc (.cells #[.slice a ll.length c] 41)).alloc (.cells #[.slice a ll.length c] 41)) a b o c ll := ⟨below2 _ _ _, by simp, by simp; omega, h.below (below2 w _ _) (Nat.le_refl _)⟩
  refine (toProg_any a b o c ll _ hl hls st0.ss).mono ?_
  rintro e w1 ⟨g1, rfl, hs1, hb1⟩
  have st1 := st0.below hb1
  clear hb1 st0
  go_wp2_with fail
  refine (sgaps_any _ g1 0 ll.length ll _ hl hls hs1.old).mono ?_
  rintro e w2 ⟨rfl, hb2⟩
  have st2 := st1.below hb2
  have box2 := st2.box
  have lt2 := st2.lt
  clear hb2 st1 hs1
  go_wp2_with fail
  refine (toProg_any a b o c ll _ hl hls st2.ss).mono ?_
  rintro e w3 ⟨g2, rfl, hs3, hb3⟩
  have st3 := st2.below hb3
  clear hb3 st2 box2 lt2
  go_wp2_with fail
  refine (igaps_any _ g2 0 ll.length ll _ hl hls (hs3.old.below (below1 w3 _) (Nat.le_refl _))).mono ?_
  rintro e w4 ⟨rfl, hb4⟩
  have st4 := (st3.below (below1 w3 _)).below hb4
  have box4 := st4.box
  have lt4 := st4.lt
  have hs4 := (hs3.old.below (below1 w3 _) (Nat.le_refl _)).below hb4 (Nat.le_refl _)
  have x0 : w4.cell? ⟨w3.heap.size, 0, none⟩ = some (.slice (some ⟨g2, 0, none⟩) ll.length ll.length) := by rw [hb4.cell (p := ⟨w3.heap.size, 0, none⟩) (by simp)]; simp
  clear hb4 st3 hs3
  go_wp2_with fail
  have x0lt : w3.heap.size < w4.heap.size := World.block_lt_of_cell? _ _ x0
  go_region_with (first | (go_at_call 19; refine (toProg_any a b o c ll _ hl hls ?_).mono ?_; exact st4.ss.below (Below.refl _ _).drew (Nat.le_refl _); rintro e w5 ⟨g3, rfl, hs5, hb5⟩; have x5 : w5.cell? ⟨w3.heap.size, 0, none⟩ = some (.slice (some ⟨g2, 0, none⟩) ll.length ll.length) := (hb5.cell (p := ⟨w3.heap.size, 0, none⟩) x0lt).trans x0; have hs45 := (hs4.below (Below.refl _ _).drew (Nat.le_refl _)).below hb5 (Nat.le_refl _)) | (go_at_call 20; refine (eqProg_same _ g2 0 ll.length _ g3 0 ll.length ll _ hl hls ?_ ?_).mono ?_; exact hs45; exact hs5.old; rintro e w6 ⟨rfl, hb6⟩))
  all_goals
    go_wp2_with fail
    go_ret
    exact ⟨rfl, (st4.bel.drew.trans (hb5.mono st4.bel.size)).trans (hb6.mono (Nat.le_trans st4.bel.size hb5.size))⟩

end Go.Proofs.Ytdbndkakpbjehaa
