/- The law FnSeenText, walked: it answers true, and leaves all as it was. Of whatever codes. -/
import Derived.Test.YtefmkenljongpaaDoorDrStF
import Derived.Test.YtefmkenljongpaaDoorStI
import Derived.Test.YtefmkenljongpaaDoorStS
import Derived.Test.YtefmkenljongpaaDoorSnSame
import Derived.Test.YtefmkenljongpaaDoorQuietB
namespace Go.Proofs.YtefmkenljongpaaDoor
open Go.RowKit

theorem Few.fits {l : List Int} (h : Few l) : Fits l := fun v hv => by have := h v hv; omega
theorem M.same_text (s t : Sn) : (M.seenText s.l1 s.l2 == M.seenText t.l1 t.l2) = M.sameS s.l1 s.l2 t.l1 t.l2 := by
  by_cases h : s.l1 = t.l1 ∧ s.l2 = t.l2
  · obtain ⟨h1, h2⟩ := h
    rw [h1, h2]
    simp [M.sameS, (M.same_eq _ _).2 rfl]
  · have h1 : (M.seenText s.l1 s.l2 == M.seenText t.l1 t.l2) = false := by
      rw [beq_eq_false_iff_ne]
      exact fun e => h (M.seenText_inj e)
    have h2 : M.sameS s.l1 s.l2 t.l1 t.l2 = false := by
      unfold M.sameS
      cases ha : M.same s.l1 t.l1
      · rfl
      · cases hb : M.same s.l2 t.l2
        · rfl
        · exact absurd ⟨(M.same_eq _ _).1 ha, (M.same_eq _ _).1 hb⟩ h
    rw [h1, h2]
theorem lpSame_bel (s t : Sn) (w : World) (hs : s.Le 1048576) (hsa : s.At w) (hta : t.At w) :
    Calls Tryd.prog 9 #[.agg #[.slice s.a1 s.l1.length s.c1, .slice s.a2 s.l2.length s.c2], .agg #[.slice t.a1 t.l1.length t.c1, .slice t.a2 t.l2.length t.c2]] w fun e w' => e = .returned (.bool (M.sameS s.l1 s.l2 t.l1 t.l2)) ∧ Below w.heap.size w w' :=
  (lpSame_any s t w hs hsa hta).mono fun _ _ h => ⟨h.1, h.2.bel⟩
/-- What was seen, in a box. -/
structure BxS (W : World) (P : Nat) (s : Sn) : Prop where
  c0 : W.cell? ⟨P, 0, none⟩ = some (.slice s.a1 s.l1.length s.c1)
  c1 : W.cell? ⟨P, 1, none⟩ = some (.slice s.a2 s.l2.length s.c2)
  sa : s.At W
theorem BxS.below {W W' : World} {P : Nat} {s : Sn} (h : BxS W P s) (hb : Below W.heap.size W W') : BxS W' P s :=
  ⟨(hb.cell (p := ⟨P, 0, none⟩) (World.block_lt_of_cell? _ _ h.c0)).trans h.c0, (hb.cell (p := ⟨P, 1, none⟩) (World.block_lt_of_cell? _ _ h.c1)).trans h.c1, h.sa.below hb (Nat.le_refl _)⟩
theorem Slot2.bx {W : World} {P : Nat} {s : Sn} (h : Slot2 W P (.slice s.a1 s.l1.length s.c1) (.slice s.a2 s.l2.length s.c2)) (sa : s.At W) : BxS W P s := ⟨h.c0, h.c1, sa⟩

set_option maxHeartbeats 2000000 in
set_option maxRecDepth 100000 in
theorem lawStt_any (ca : Option Addr) (cb co L C : Nat) (x : Nat → Int) (da : Option Addr) (db dO K D : Nat) (y : Nat → Int) (w : World) (ht : HasTab w)
    (hL : L ≤ C) (had : 0 < L → ca = some ⟨cb, co, none⟩) (hc : ∀ i, i < L → w.cell? ⟨cb, co + i, none⟩ = some (.int .u8 (x i)) ∧ 0 ≤ x i ∧ x i ≤ 255)
    (hK : K ≤ D) (hbd : 0 < K → da = some ⟨db, dO, none⟩) (hd : ∀ i, i < K → w.cell? ⟨db, dO + i, none⟩ = some (.int .u8 (y i)) ∧ 0 ≤ y i ∧ y i ≤ 255) :
    Calls Tryd.prog 3 #[.slice ca L C, .slice da K D] w fun e w' => e = .returned (.bool true) ∧ Below w.heap.size w w' := by
  by_cases hLb : L ≤ 1048576
  · by_cases hKb : K ≤ 1048576
    · have n1 : decide ((1048576 : Int) < L) = false := by simp; omega
      have n2 : decide ((1048576 : Int) < K) = false := by simp; omega
      go_enter Tryd.func3, Tryd.ntmps3
      go_wp2_with fail
      refine (DrawSeenLessF_any ca cb co L C x _ hL had hc hLb).mono ?_
      rintro e w1 ⟨s, t, rfl, hs1, ht1, sle, tle, ⟨sf1, sf2, tf1, tf2⟩, hb1⟩
      have hsl := sle.mono (m := 1048576) (by decide)
      have htl := tle.mono (m := 1048576) (by decide)
      go_wp2_with fail
      have hb2 := below2 w1 (.cells #[.slice s.a1 s.l1.length s.c1, .slice s.a2 s.l2.length s.c2] 25) (.cells #[.slice t.a1 t.l1.length t.c1, .slice t.a2 t.l2.length t.c2] 25)
      have bA : BxS ((w1.alloc (.cells #[.slice s.a1 s.l1.length s.c1, .slice s.a2 s.l2.length s.c2] 25)).alloc (.cells #[.slice t.a1 t.l1.length t.c1, .slice t.a2 t.l2.length t.c2] 25)) w1.heap.size s := ⟨by simp, by simp, hs1.below hb2 (Nat.le_refl _)⟩
      have bB : BxS ((w1.alloc (.cells #[.slice s.a1 s.l1.length s.c1, .slice s.a2 s.l2.length s.c2] 25)).alloc (.cells #[.slice t.a1 t.l1.length t.c1, .slice t.a2 t.l2.length t.c2] 25)) (w1.heap.size + 1) t := ⟨by simp, by simp, ht1.below hb2 (Nat.le_refl _)⟩
      have hbw : Below w.heap.size w ((w1.alloc (.cells #[.slice s.a1 s.l1.length s.c1, .slice s.a2 s.l2.length s.c2] 25)).alloc (.cells #[.slice t.a1 t.l1.length t.c1, .slice t.a2 t.l2.length t.c2] 25)) := hb1.trans (hb2.mono hb1.size)
      generalize (w1.alloc (.cells #[.slice s.a1 s.l1.length s.c1, .slice s.a2 s.l2.length s.c2] 25)).alloc (.cells #[.slice t.a1 t.l1.length t.c1, .slice t.a2 t.l2.length t.c2] 25) = W0 at *
      generalize w1.heap.size = P at *
      clear hs1 ht1 hb1 hb2 had hc sle tle
      refine (DrawSeenTextF_any da db dO K D y _ hK hbd (fun i hi => ⟨by rw [hbw.cell (p := ⟨db, dO + i, none⟩) (World.block_lt_of_cell? _ _ (hd i hi).1)]; exact (hd i hi).1, (hd i hi).2⟩) hKb).mono ?_
      rintro e w3 ⟨u, rfl, hu3, ule, ⟨uf1, uf2⟩, hb3⟩
      have hul := ule.mono (m := 1048576) (by decide)
      have hb4 := below1 w3 (.cells #[.slice u.a1 u.l1.length u.c1, .slice u.a2 u.l2.length u.c2] 25)
      have bA4 := (bA.below hb3).below hb4
      have bB4 := (bB.below hb3).below hb4
      have bC4 : BxS (w3.alloc (.cells #[.slice u.a1 u.l1.length u.c1, .slice u.a2 u.l2.length u.c2] 25)) w3.heap.size u := ⟨by simp, by simp, hu3.below hb4 (Nat.le_refl _)⟩
      have hbw4 : Below w.heap.size w (w3.alloc (.cells #[.slice u.a1 u.l1.length u.c1, .slice u.a2 u.l2.length u.c2] 25)) := hbw.trans ((hb3.trans (hb4.mono hb3.size)).mono hbw.size)
      have p0 := bA4.c0; have p1 := bA4.c1
      go_wp2_with fail
      generalize w3.alloc (.cells #[.slice u.a1 u.l1.length u.c1, .slice u.a2 u.l2.length u.c2] 25) = W4 at *
      generalize w3.heap.size = Q at *
      clear bA bB hbw hu3 hb3 hb4 ule hbd hd p0 p1
      refine (iseenText_any s W4 hsl bA4.sa sf1.fits sf2.fits (ht.below hbw4 (Nat.le_refl _))).mono ?_
      rintro e W5 ⟨rfl, b5⟩
      have bA5 := bA4.below b5
      have bB5 := bB4.below b5
      have bC5 := bC4.below b5
      have hbw5 := hbw4.trans (b5.mono hbw4.size)
      clear bA4 bB4 bC4 hbw4 b5
      have q0 := bB5.c0; have q1 := bB5.c1
      go_wp2_with fail
      refine (iseenText_any t W5 htl bB5.sa tf1.fits tf2.fits (ht.below hbw5 (Nat.le_refl _))).mono ?_
      rintro e W ⟨rfl, b6⟩
      have bA6 := bA5.below b6
      have bB6 := bB5.below b6
      have bC6 := bC5.below b6
      have hbw6 := hbw5.trans (b6.mono hbw5.size)
      clear bA5 bB5 bC5 hbw5 b6 q0 q1
      have C1 := fun p : BelowOf W => sseenText_any s p.x hsl (bA6.sa.below p.h (Nat.le_refl _)) sf1.fits sf2.fits
      have C2 := fun p : BelowOf W => sseenText_any t p.x htl (bB6.sa.below p.h (Nat.le_refl _)) tf1.fits tf2.fits
      have C3 := fun p : BelowOf W => iseenText_any u p.x hul (bC6.sa.below p.h (Nat.le_refl _)) uf1.fits uf2.fits ((ht.below hbw6 (Nat.le_refl _)).below p.h (Nat.le_refl _))
      have C4 := fun p : BelowOf W => lpSame_bel s t p.x hsl (bA6.sa.below p.h (Nat.le_refl _)) (bB6.sa.below p.h (Nat.le_refl _))
      have C5 := fun p : BelowOf W => lpSame_bel s u p.x hsl (bA6.sa.below p.h (Nat.le_refl _)) (bC6.sa.below p.h (Nat.le_refl _))
      have h12 := M.same_text s t
      have h13 := M.same_text u s
      have h13' : M.sameS u.l1 u.l2 s.l1 s.l2 = M.sameS s.l1 s.l2 u.l1 u.l2 := by
        rw [← M.same_text u s, ← M.same_text s u]
        exact Bool.beq_comm
      rw [h13'] at h13
      have A0 := BelowOf.cell bA6.c0; have A1 := BelowOf.cell bA6.c1
      have B0 := BelowOf.cell bB6.c0; have B1 := BelowOf.cell bB6.c1
      have D0 := BelowOf.cell bC6.c0; have D1 := BelowOf.cell bC6.c1
      clear bA6 bB6 bC6 sf1 sf2 tf1 tf2 uf1 uf2 hsl htl hul ht h13'
      generalize M.seenText s.l1 s.l2 = TS at *
      generalize M.seenText t.l1 t.l2 = TT at *
      generalize M.seenText u.l1 u.l2 = TU at *
      generalize M.sameS s.l1 s.l2 t.l1 t.l2 = r1 at *
      generalize M.sameS s.l1 s.l2 u.l1 u.l2 = r2 at *
      go_wp2_with fail
      haveI : Inhabited (BelowOf W) := ⟨belOf W⟩
      cases r1 <;> cases r2
      all_goals
        refine wp_region_quiet_bel (by kernel_rfl) (by kernel_rfl) ?_
        repeat (quiet_step (first | (go_at_call_of 8 (Value.agg #[.slice s.a1 s.l1.length s.c1, .slice s.a2 s.l2.length s.c2]); exact Calls.bel_of (C1 _)) | (go_at_call_of 8 (Value.agg #[.slice t.a1 t.l1.length t.c1, .slice t.a2 t.l2.length t.c2]); exact Calls.bel_of (C2 _))))
        quiet_step (first | (go_at_call 9; exact Calls.bel_of (C4 _)))
        repeat (quiet_step (first | (go_at_call 7; exact Calls.bel_of (C3 _))))
        quiet_step (first | (go_at_call 9; exact Calls.bel_of (C5 _)))
        repeat (quiet_step (first | fail))
        refine wpQuiet_nil ?_
        rintro _ ⟨⟨wq, hwq⟩, rfl⟩
        go_wp2_with fail
        go_ret
        exact ⟨rfl, hbw6.trans (hwq.mono hbw6.size)⟩
    · have n1 : decide ((1048576 : Int) < L) = false := by simp; omega
      have n2 : decide ((1048576 : Int) < K) = true := by simp; omega
      go_enter Tryd.func3, Tryd.ntmps3
      go_wp2_with fail
      go_ret
      exact ⟨rfl, Below.refl _ _⟩
  · have n1 : decide ((1048576 : Int) < L) = true := by simp; omega
    go_enter Tryd.func3, Tryd.ntmps3
    go_wp2_with fail
    go_ret
    exact ⟨rfl, Below.refl _ _⟩

end Go.Proofs.YtefmkenljongpaaDoor
