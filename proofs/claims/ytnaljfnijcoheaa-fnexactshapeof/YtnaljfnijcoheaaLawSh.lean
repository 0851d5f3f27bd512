/- The exact law of ShapeOf, walked: it answers true, and leaves all as it was. Of whatever numbers. -/
import Derived.Test.YtnaljfnijcoheaaShL
import Derived.Test.YtnaljfnijcoheaaShS
import Derived.Test.YtnaljfnijcoheaaShFact
import Derived.Test.YtnaljfnijcoheaaMarkR
import Derived.Test.YtnaljfnijcoheaaEq
namespace Go.Proofs.Ytnaljfnijcoheaa
open Go.RowKit

set_option maxHeartbeats 1000000 in
set_option maxRecDepth 100000 in
theorem lawSh_any (s h : Int) (w : World) :
    Calls Try.prog 5 #[.int .i64 s, .int .i64 h] w fun e w' => e = .returned (.bool true) ∧ Below w.heap.size w w' := by
  have C1 := sshapeOf_any s h w
  have C2 := fun W => ishapeOf_any s h W
  obtain ⟨hs2, hs5⟩ := M.shape_small s h
  generalize (M.shape s h).isSome = ok at *
  generalize (M.shape s h).getD [] = ll at *
  have hl1 : ll.length ≤ 1048576 := by omega
  have hl2 : ∀ t ∈ ll, t.length ≤ 1048576 := fun t ht => by have := hs5 t ht; omega
  go_enter Try.func5, Try.ntmps5
  go_wp2_with fail
  refine C1.mono ?_
  rintro e W1 ⟨v, rfl, ⟨vs, hR⟩, b1⟩
  obtain ⟨a2, g2, c2, rfl, hss⟩ := hR.b.ss
  have sA := Slot1.new W1 (.slice a2 ll.length c2) 25
  have bwA := b1.alloc b1.size (.cells #[.slice a2 ll.length c2] 25)
  have ssA := hss.below (below1 W1 (.cells #[.slice a2 ll.length c2] 25)) (Nat.le_refl _)
  clear hR C1 b1 hss
  go_wp2_with fail
  generalize W1.alloc (.cells #[.slice a2 ll.length c2] 25) = WA at *
  generalize W1.heap.size = PA at *
  refine (C2 _).mono ?_
  rintro e W2 ⟨v3, rfl, ⟨vs3, hR3⟩, b2⟩
  obtain ⟨a3, g3, c3, rs, rfl, hrl, hrn, hrw, hin, hss3⟩ := hR3.rw_
  have hq1 : rs.length ≤ 1048576 := by have := hrl.out; omega
  have hq2 : ∀ r ∈ rs, r.n ≤ 1048576 := fun r hr => by obtain ⟨t, ht, e⟩ := hrn r hr; have := hl2 t ht; omega
  have bB := below1 W2 (.cells #[.slice a3 ll.length c3] 25)
  have b2' := b2.trans (bB.mono b2.size)
  have sB := Slot1.new W2 (.slice a3 ll.length c3) 25
  have hrwB := hrw.below bB
  have ssB3 := hss3.below bB (Nat.le_refl _)
  have hinA : ∀ k, InR rs k → WA.heap.size ≤ k := fun k hk => by have := hin k hk; omega
  have hinB : ∀ k, InR rs k → k ≠ W2.heap.size := fun k ⟨i, hi, hn, e⟩ => by
    obtain ⟨x, hx⟩ := hrw.ints i hi 0 (by omega)
    have : rs[i].b < W2.heap.size := World.block_lt_of_cell? _ _ hx
    omega
  have MK := fun W h => markProgv_any a3 g3 c3 rs W hq1 hq2 h
  have HE := fun W h hd => heldProg_any a3 g3 c3 rs W hq1 hq2 h hd
  rw [hrl.out] at MK HE
  have hT := totq_le hq2
  generalize hTq : totq rs = T at *
  have t0 : ¬ (1 + (T : Int) * 3 < 0) := by omega
  clear hR3 b2 hss3 hrw hin bB hTq hT
  have pA := (sA.bl' b2').c
  have pB := sB.c
  have ssB := ssA.below b2' (Nat.le_refl _)
  go_wp2_with fail
  generalize W2.alloc (.cells #[.slice a3 ll.length c3] 25) = WB at *
  generalize W2.heap.size = PB at *
  refine (eqProg_same a3 g3 0 c3 a2 g2 0 c2 ll WB hl1 hl2 ssB3 ssB).mono ?_
  rintro e W3 ⟨rfl, b3⟩
  have sA3 := (sA.bl' b2').bl' b3
  have sB3 := sB.bl' b3
  have b23 := b2'.trans (b3.mono b2'.size)
  have hrw3 := hrwB.below b3
  clear pA pB sB ssB ssB3 hrwB b2' b3
  have pB := sB3.c
  go_wp2_with fail
  refine (MK W3 hrw3).mono ?_
  rintro e W4 ⟨rfl, hd4, hmk4⟩
  have bal := below1 W3 (.cells #[.slice a3 ll.length c3] 25)
  have b24 : Below WA.heap.size WA W4 := Mk.below (b23.trans (bal.mono b23.size)) hmk4 hinA
  have hrw4 := (hrw3.below bal).mk_ hmk4
  have sB4 : Slot1 W4 PB (.slice a3 ll.length c3) := ⟨(hmk4.cell (p := ⟨PB, 0, none⟩) (fun h => hinB _ h rfl)).trans (sB3.bl' bal).c, (hmk4.fz _).trans (sB3.bl' bal).fz⟩
  clear pB sB3 hrw3 hmk4 bal b23
  have pB := sB4.c
  go_wp2_with fail
  refine (HE W4 hrw4 hd4).mono ?_
  rintro e W5 ⟨rfl, b5⟩
  have b25 := b24.trans (b5.mono b24.size)
  have sB5 := sB4.bl' b5
  have hrw5 := hrw4.below b5
  have hd5 := hd4.below b5
  clear pB sB4 hrw4 hd4 b24 b5 sA3
  go_wp2_with fail
  refine (C2 W5).mono ?_
  rintro e W6 ⟨v6, rfl, ⟨vs6, hR6⟩, b6⟩
  obtain ⟨a6, g6, c6, rfl, hss6⟩ := hR6.b.ss
  have b6' := b6.trans ((below1 W6 (.cells #[.slice a6 ll.length c6] 25)).mono b6.size)
  have sC := Slot1.new W6 (.slice a6 ll.length c6) 25
  have ssC := hss6.below (below1 W6 (.cells #[.slice a6 ll.length c6] 25)) (Nat.le_refl _)
  have b26 := b25.trans (b6'.mono b25.size)
  have sB6 := sB5.bl' b6'
  have sA6 := sA.bl' b26
  have ssA6 := ssA.below b26 (Nat.le_refl _)
  have hrw6 := hrw5.below b6'
  have hd6 := hd5.below b6'
  clear hR6 hss6 b6 b6' sB5 hrw5 hd5 b25 sA ssA
  have pA := sA6.c
  have pC := sC.c
  go_wp2_with fail
  generalize W6.alloc (.cells #[.slice a6 ll.length c6] 25) = WC at *
  generalize W6.heap.size = PC at *
  refine (eqProg_same a6 g6 0 c6 a2 g2 0 c2 ll WC hl1 hl2 ssC ssA6).mono ?_
  rintro e W7 ⟨rfl, b7⟩
  have b27 := b26.trans (b7.mono b26.size)
  have sB7 := sB6.bl' b7
  have hrw7 := hrw6.below b7
  have hd7 := hd6.below b7
  clear pA pC sA6 sC ssC ssA6 sB6 hrw6 hd6 b26 b7
  have pB := sB7.c
  go_wp2_with fail
  refine (HE W7 hrw7 hd7).mono ?_
  rintro e W8 ⟨rfl, b8⟩
  have b28 := b27.trans (b8.mono b27.size)
  go_wp2_with fail
  go_ret
  exact ⟨rfl, bwA.trans (b28.mono bwA.size)⟩

end Go.Proofs.Ytnaljfnijcoheaa
