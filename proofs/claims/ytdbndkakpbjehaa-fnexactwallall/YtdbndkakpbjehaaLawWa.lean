/- The law FnExactWallAll, walked: it answers true, and leaves all as it was. Of programs of at most 9223372036854775807 threads and steps each: more than a machine holds. -/
import Derived.Test.YtdbndkakpbjehaaWlAll
import Derived.Test.YtdbndkakpbjehaaPgBnd
import Derived.Test.YtdbndkakpbjehaaSize
import Derived.Deep.RegionHeld3
namespace Go.Proofs.Ytdbndkakpbjehaa
open Go.RowKit

theorem M.wallAll_small {ll mm : List (List M.D)} (e : (M.wallAll ll).getD [] = mm) : mm.length ≤ 3 ∧ ∀ t ∈ mm, t.length ≤ 7 := by
  unfold M.wallAll at e
  cases h : M.wallPut ll (M.upto (M.gaps ll).toNat) with
  | none => rw [h] at e; subst e; simp
  | some x =>
    rw [h] at e
    obtain rfl : x = mm := e
    exact M.prog_le (M.wallPut_some h).2.2.1

set_option maxHeartbeats 2000000 in
set_option maxRecDepth 100000 in
theorem lawWa_any (a : Option Addr) (b o c : Nat) (ll : List (List M.D)) (w : World) (hl0 : ll.length ≤ 9223372036854775807) (hls0 : ∀ t ∈ ll, t.length ≤ 9223372036854775807) (h : DoSS w a b o ll) :
    Calls Try.prog 8 #[.agg #[.slice a ll.length c]] w fun e w' => e = .returned (.bool true) ∧ Below w.heap.size w w' := by
  go_enter Try.func8, Try.ntmps8
  go_wp2_with (go_at_call 18; refine (szProg_any a b o c ll _ hl0 hls0 (h.below (below1 w _) (Nat.le_refl _))).mono ?_; rintro e w1 ⟨r', rfl, rfl, hor⟩)
  · go_ret
    exact ⟨rfl, below2 _ _ _⟩
  obtain ⟨_, hl, hls⟩ : 0 ≤ r' ∧ ll.length ≤ 1048576 ∧ ∀ t ∈ ll, t.length ≤ 1048576 := hor.resolve_left (by omega)
  clear hor hl0 hls0
  have b0 := below2 w (.cells #[.slice a ll.length c] 41) (.cells #[.slice a ll.length c] 41)
  have s0 := (Slot1.new w (.slice a ll.length c) 41).bl' (below1 _ (.cells #[.slice a ll.length c] 41))
  generalize (w.alloc (.cells #[.slice a ll.length c] 41)).alloc (.cells #[.slice a ll.length c] 41) = W0 at *
  -- the model's answer
  refine (toProg_any a b o c ll W0 hl hls (h.below b0 (Nat.le_refl _))).mono ?_
  rintro e w1 ⟨g1, rfl, hs1, b1⟩
  have bw1 := b0.trans (b1.mono b0.size)
  go_wp2_with fail
  have CS := swallAll_any (some ⟨g1, 0, none⟩) g1 0 ll.length ll hl hls w1 hs1.old
  have CI := fun A B C D W h1 => iwallAll_any A B C D ll hl hls W h1
  generalize hmm : (M.wallAll ll).getD [] = mm at *
  obtain ⟨hm3, hm7⟩ := M.wallAll_small hmm
  clear hmm
  have hml : mm.length ≤ 1048576 := by omega
  have hmls : ∀ t ∈ mm, t.length ≤ 1048576 := fun t ht => by have := hm7 t ht; omega
  generalize (M.wallAll ll).isSome = ok at *
  refine CS.mono ?_
  rintro e w3 ⟨v3, rfl, vs3, hR3, b3⟩
  obtain ⟨av, gv, cv, rfl, hss3⟩ := hR3.b.ss
  have bA := below1 w3 (.cells #[.slice av mm.length cv] 25)
  have bw3 := bw1.trans (b3.mono bw1.size)
  have bwA := bw3.trans (bA.mono bw3.size)
  have sA := ((s0.bl' b1).bl' b3).bl' bA
  have sW := Slot1.new w3 (.slice av mm.length cv) 25
  have ssW := hss3.below bA (Nat.le_refl _)
  clear hR3 hss3 CS hs1 s0 b0 b1 b3 bA bw1 bw3
  have x0 := sA.c
  go_wp2_with fail
  generalize w3.alloc (.cells #[.slice av mm.length cv] 25) = WA at *
  generalize w3.heap.size = PW at *
  -- the arguments
  refine (toProg_any a b o c ll WA hl hls (h.below bwA (Nat.le_refl _))).mono ?_
  rintro e w4 ⟨g4, rfl, hs4, b4⟩
  have bX := below1 w4 (.cells #[.slice (some ⟨g4, 0, none⟩) ll.length ll.length] 25)
  have bAX := b4.trans (bX.mono b4.size)
  have sX := Slot1.new w4 (.slice (some ⟨g4, 0, none⟩) ll.length ll.length) 25
  have hsX := hs4.below bX (Nat.le_refl _)
  have hX4 : WA.heap.size ≤ w4.heap.size := b4.size
  have hszX : Hid ((w4.alloc (.cells #[.slice (some ⟨g4, 0, none⟩) ll.length ll.length] 25)).heap.size = w4.heap.size + 1) := by show _ = _; simp
  clear hs4 b4 bX x0
  have x1 := sX.c
  go_wp2_with fail
  generalize w4.alloc (.cells #[.slice (some ⟨g4, 0, none⟩) ll.length ll.length] 25) = WY at *
  generalize w4.heap.size = PX at *
  -- the program's answer
  refine (CI _ g4 0 ll.length WY hsX.old).mono ?_
  rintro e w5 ⟨v5, rfl, vs5, hR5, b5⟩
  obtain ⟨ai, gi, ci, rs, rfl, hrl, hrn, hrw5, hin, _⟩ := hR5.rw_
  have bG := below1 w5 (.cells #[.slice ai mm.length ci] 25)
  have bYG := b5.trans (bG.mono b5.size)
  have sG := Slot1.new w5 (.slice ai mm.length ci) 25
  have hRG := hR5.below bG
  have hrwG := hrw5.below bG
  have hinG : ∀ k, InR rs k → k ≠ w5.heap.size := fun k ⟨i, hi, hn, e⟩ => by
    obtain ⟨x, hx⟩ := hrw5.ints i hi 0 (by omega)
    have : rs[i].b < w5.heap.size := World.block_lt_of_cell? _ _ hx
    omega
  have lG5 : WY.heap.size ≤ w5.heap.size := b5.size
  have bAG := bAX.trans (bYG.mono bAX.size)
  have sXG := sX.bl' bYG
  have hsXG := hsX.below bYG (Nat.le_refl _)
  have hlWY : WY.heap.size ≤ (w5.alloc (.cells #[.slice ai mm.length ci] 25)).heap.size := bYG.size
  have sWG := sW.bl' bAG
  have x2 := sG.c
  have x3 := sWG.c
  clear sX hsX bAX hR5 b5 bG x1 hrw5
  -- the same
  go_wp2_with fail
  generalize w5.alloc (.cells #[.slice ai mm.length ci] 25) = WG at *
  generalize w5.heap.size = PG at *
  obtain ⟨_, g6, _, e6, ssG⟩ := hRG.b.ss
  obtain ⟨rfl, _, rfl⟩ := Value.slice.inj e6
  have ssWG := ssW.below bAG (Nat.le_refl _)
  refine (eqProg_same ai g6 0 ci av gv 0 cv mm WG hml hmls ssG ssWG).mono ?_
  rintro e WH ⟨rfl, bH⟩
  have bAH := bAG.trans (bH.mono bAG.size)
  have bYH := bYG.trans (bH.mono bYG.size)
  have sAH := sA.bl' bAH
  have sXH := sXG.bl' bH
  have sGH := sG.bl' bH
  have hsXH := hsXG.below bH (Nat.le_refl _)
  have hRH := hRG.below bH
  have hrwH := hrwG.below bH
  clear x2 x3 ssG ssWG sXG sG hsXG hRG hrwG sWG bH bAG bYG
  have x0 := sAH.c
  have x1 := sXH.c
  have l0 := sAH.lt
  have l1 := sXH.lt
  go_wp2_with fail
  have bwH := bwA.trans (bAH.mono bwA.size)
  have C7 := toProg_any a b o c ll WH.drew hl hls (h.below bwH.drew (Nat.le_refl _))
  go_region_held3 (fun w' => w'.cell? ⟨w.heap.size, 0, none⟩ = some (.slice a ll.length c) ∧ w'.cell? ⟨PX, 0, none⟩ = some (.slice (some ⟨g4, 0, none⟩) ll.length ll.length)) (go_keep) (first
    | (go_at_call 19; refine C7.mono ?_; rintro e w7 ⟨g7, rfl, hs7, hb7⟩; have Y0 := (hb7.cell (p := ⟨w.heap.size, 0, none⟩) l0).trans x0; have Y1 := (hb7.cell (p := ⟨PX, 0, none⟩) l1).trans x1)
    | (go_at_call 20; refine (eqProg_same _ g4 0 ll.length _ g7 0 ll.length ll _ hl hls ((hsXH.old.below (Below.refl _ _).drew (Nat.le_refl _)).below hb7 (Nat.le_refl _)) hs7.old).mono ?_; rintro e w8 ⟨rfl, hb8⟩; have Z0 := (hb8.cell (p := ⟨w.heap.size, 0, none⟩) (Nat.lt_of_lt_of_le l0 hb7.size)).trans Y0; have Z1 := (hb8.cell (p := ⟨PX, 0, none⟩) (Nat.lt_of_lt_of_le l1 hb7.size)).trans Y1))
  have b68 : Below WH.heap.size WH w8 := ((Below.refl WH.heap.size WH).drew.trans hb7).trans (hb8.mono hb7.size)
  have bA8 := bAH.trans (b68.mono bAH.size)
  have bw8 := bwA.trans (bA8.mono bwA.size)
  have sX8 := sXH.bl' b68
  have sG8 := sGH.bl' b68
  have hsX8 := hsXH.below b68 (Nat.le_refl _)
  have hR8 := hRH.below b68
  have hrw8 := hrwH.below b68
  have lY8 : WY.heap.size ≤ w8.heap.size := Nat.le_trans bYH.size b68.size
  clear Z0 Z1 Y0 Y1 C7 hs7 hb7 hb8 b68 bwH bAH bYH sAH sXH sGH hsXH hRH hrwH x0 x1 l0 l1
  have x1 := sX8.c
  go_wp2_with fail
  refine (markProg_any g4 ll.length WA.heap.size PX ll w8 hl hls hsX8).mono ?_
  rintro e w11 ⟨k, wa, rfl, hk, rfl, mk11⟩
  have bal := below1 w8 (.cells #[.slice (some ⟨g4, 0, none⟩) ll.length ll.length] 25)
  have bA11 : Below WA.heap.size WA w11 := Mk.below (bA8.trans (bal.mono bA8.size)) mk11 (fun j hj => hj.1)
  have hR11 := (hR8.below bal).mkFar mk11 (fun j hj => by have := hszX.out; omega)
  have hPG : WY.heap.size ≤ PG := lG5
  have hrw11 := (hrw8.below bal).mk_ mk11
  have sG11 := (sG8.bl' bal).mkFar mk11 (fun hj => by have := hszX.out; omega)
  clear x1 bal mk11 hR8 hrw8 sG8 sX8 hsX8 bA8
  have sW11 := sW.bl' bA11
  have hk2 : ¬ (k < 0) := by omega
  have hk3 : decide (k < 0) = false := by simpa using hk2
  have x2 := sG11.c
  have x3 := sW11.c
  go_wp2_with fail
  obtain ⟨_, g3, _, e3, hss3⟩ := hR11.b.ss
  obtain ⟨rfl, _, rfl⟩ := Value.slice.inj e3
  refine (eqProg_same ai g3 0 ci av gv 0 cv mm w11 hml hmls hss3 (ssW.below bA11 (Nat.le_refl _))).mono ?_
  rintro e w13 ⟨rfl, b13⟩
  have hq1 : rs.length ≤ 1048576 := by have := hrl.out; omega
  have hq2 : ∀ r ∈ rs, r.n ≤ 1048576 := fun r hr => by obtain ⟨t, ht, e⟩ := hrn r hr; have := hmls t ht; omega
  have hrw13 := hrw11.below b13
  have sG13 := sG11.bl' b13
  have bA13 := bA11.trans (b13.mono bA11.size)
  have hAY : WA.heap.size ≤ WY.heap.size := by have := hszX.out; omega
  have hinA : ∀ k, InR rs k → WA.heap.size ≤ k := fun k hk => by have := hin k hk; omega
  have MK := fun W h => markProgv_any ai gi ci rs W hq1 hq2 h
  have HE := fun W h hd => heldProg_any ai gi ci rs W hq1 hq2 h hd
  rw [hrl.out] at MK HE
  have hT := totq_le hq2
  generalize hTq : totq rs = T at *
  have t0 : ¬ (1 + (T : Int) * 3 < 0) := by omega
  clear hTq hT hR11 sG11 sW11 hrw11 hss3 bA11 b13 x2 x3
  have x2 := sG13.c
  go_wp2_with fail
  refine (MK w13 hrw13).mono ?_
  rintro e w14 ⟨rfl, hd14, mk14⟩
  have bal := below1 w13 (.cells #[.slice ai mm.length ci] 25)
  have bA14 : Below WA.heap.size WA w14 := Mk.below (bA13.trans (bal.mono bA13.size)) mk14 hinA
  have hrw14 := (hrw13.below bal).mk_ mk14
  have sG14 := (sG13.bl' bal).mkFar mk14 (fun h => hinG _ h rfl)
  clear x2 sG13 hrw13 mk14 bal bA13
  have x2 := sG14.c
  go_wp2_with fail
  refine (HE w14 hrw14 hd14).mono ?_
  rintro e w15 ⟨rfl, b15⟩
  have bA15 := bA14.trans (b15.mono bA14.size)
  have sG15 := sG14.bl' b15
  have hrw15 := hrw14.below b15
  have hd15 := hd14.below b15
  have sA15 := sA.bl' bA15
  have bw15 := bwA.trans (bA15.mono bwA.size)
  clear x2 sG14 hrw14 hd14 b15 bA14
  have x0 := sA15.c
  go_wp2_with fail
  -- once more
  refine (toProg_any a b o c ll w15 hl hls (h.below bw15 (Nat.le_refl _))).mono ?_
  rintro e w16 ⟨g16, rfl, hs16, b16⟩
  go_wp2_with fail
  refine (CI _ g16 0 ll.length w16 hs16.old).mono ?_
  rintro e w18 ⟨v18, rfl, vs18, hR18, b18⟩
  obtain ⟨ah, gh, ch, rfl, hss18⟩ := hR18.b.ss
  have bH := below1 w18 (.cells #[.slice ah mm.length ch] 25)
  have b1518 := b16.trans (b18.mono b16.size)
  have b15H := b1518.trans (bH.mono b1518.size)
  have bAH := bA15.trans (b15H.mono bA15.size)
  have sGH := sG15.bl' b15H
  have hrwH := hrw15.below b15H
  have hdH := hd15.below b15H
  have sWH := sW.bl' bAH
  have ssWH := ssW.below bAH (Nat.le_refl _)
  have sHH := Slot1.new w18 (.slice ah mm.length ch) 25
  have ssHH := hss18.below bH (Nat.le_refl _)
  clear hR18 hss18 b18 b16 b1518 b15H bH hs16 sG15 hrw15 hd15 bA15 sA15 x0 bw15
  have x3 := sWH.c
  have x4 := sHH.c
  go_wp2_with fail
  generalize w18.alloc (.cells #[.slice ah mm.length ch] 25) = WH at *
  generalize w18.heap.size = PH at *
  refine (eqProg_same ah gh 0 ch av gv 0 cv mm WH hml hmls ssHH ssWH).mono ?_
  rintro e w19 ⟨rfl, b19⟩
  have bA19 := bAH.trans (b19.mono bAH.size)
  have sG19 := sGH.bl' b19
  have hrw19 := hrwH.below b19
  have hd19 := hdH.below b19
  clear x3 x4 ssHH ssWH sHH sWH sGH hrwH hdH bAH b19
  have x2 := sG19.c
  go_wp2_with fail
  refine (HE w19 hrw19 hd19).mono ?_
  rintro e w20 ⟨rfl, b20⟩
  have bA20 := bA19.trans (b20.mono bA19.size)
  go_wp2_with fail
  go_ret
  exact ⟨rfl, bwA.trans (bA20.mono bwA.size)⟩

end Go.Proofs.Ytdbndkakpbjehaa
