/- The law FnExactTurnThreads, walked: it answers true, and leaves all as it was. Of programs and rows of at most 9223372036854775807 parts each: more than a machine holds. -/
import Derived.Test.YtmbhnkdhoffnmaaTnSt
import Derived.Test.YtmbhnkdhoffnmaaTnTh
import Derived.Test.YtmbhnkdhoffnmaaPgBnd
import Derived.Test.YtmbhnkdhoffnmaaIntConv
import Derived.Test.YtmbhnkdhoffnmaaSize
import Derived.Deep.RegionHeld3
namespace Go.Proofs.Ytmbhnkdhoffnmaa
open Go.RowKit

set_option maxHeartbeats 2000000 in
set_option maxRecDepth 100000 in
theorem lawTt_any (a : Option Addr) (b o c : Nat) (ll : List (List M.D)) (ga : Option Addr) (gb go gc : Nat) (gs : List Int) (w : World) (hl0 : ll.length ≤ 9223372036854775807) (hls0 : ∀ t ∈ ll, t.length ≤ 9223372036854775807) (h : DoSS w a b o ll) (hG : IntS w ga gb go gs) :
    Calls Try.prog 6 #[.agg #[.slice a ll.length c], .slice ga gs.length gc] w fun e w' => e = .returned (.bool true) ∧ Below w.heap.size w w' := by
  by_cases hgl : gs.length ≤ 1048576
  · have hgl' : ¬ (1048576 : Int) < gs.length := by omega
    go_enter Try.func6, Try.ntmps6
    go_wp2_with (go_at_call 22; refine (szProg_any a b o c ll _ hl0 hls0 (h.below (below1 w _) (Nat.le_refl _))).mono ?_; rintro e w1 ⟨r', rfl, rfl, hor⟩)
    · go_ret
      exact ⟨rfl, below2 _ _ _⟩
    obtain ⟨_, hl, hls⟩ : 0 ≤ r' ∧ ll.length ≤ 1048576 ∧ ∀ t ∈ ll, t.length ≤ 1048576 := hor.resolve_left (by omega)
    clear hor hl0 hls0
    have b0 := below2 w (.cells #[.slice a ll.length c] 38) (.cells #[.slice a ll.length c] 38)
    have s0 := (Slot1.new w (.slice a ll.length c) 38).bl' (below1 _ (.cells #[.slice a ll.length c] 38))
    generalize (w.alloc (.cells #[.slice a ll.length c] 38)).alloc (.cells #[.slice a ll.length c] 38) = W0 at *
    -- the model's answer
    refine (toProg_any a b o c ll W0 hl hls (h.below b0 (Nat.le_refl _))).mono ?_
    rintro e w1 ⟨g1, rfl, hs1, b1⟩
    have bw1 := b0.trans (b1.mono b0.size)
    go_wp2_with fail
    refine (toIntS_any ga gb go gc gs w1 hgl (hG.below bw1 (Nat.le_refl _))).mono ?_
    rintro e w2 ⟨rfl, hi2, _, b2⟩
    have bw2 := bw1.trans (b2.mono bw1.size)
    go_wp2_with fail
    have CS := sturnThreads_any (some ⟨g1, 0, none⟩) g1 0 ll.length ll hl hls (some ⟨w1.heap.size, 0, none⟩) w1.heap.size 0 gs.length gs hgl w2 (hs1.old.below b2 (Nat.le_refl _)) hi2
    have CI := fun A B C D E F G H W h1 h2 => iturnThreads_any A B C D ll hl hls E F G H gs hgl W h1 h2
    generalize hmm : (M.turnThreads ll gs).getD [] = mm at *
    obtain ⟨hm3, hm7⟩ := M.turnThreads_small hmm
    clear hmm
    have hml : mm.length ≤ 1048576 := by omega
    have hmls : ∀ t ∈ mm, t.length ≤ 1048576 := fun t ht => by have := hm7 t ht; omega
    generalize (M.turnThreads ll gs).isSome = ok at *
    refine CS.mono ?_
    rintro e w3 ⟨v3, rfl, ⟨vs3, hR3⟩, b3⟩
    obtain ⟨av, gv, cv, rfl, hss3⟩ := hR3.b.ss
    have bA := below1 w3 (.cells #[.slice av mm.length cv] 25)
    have bw3 := bw2.trans (b3.mono bw2.size)
    have bwA := bw3.trans (bA.mono bw3.size)
    have sA := (((s0.bl' b1).bl' b2).bl' b3).bl' bA
    have sW := Slot1.new w3 (.slice av mm.length cv) 25
    have ssW := hss3.below bA (Nat.le_refl _)
    clear hR3 hss3 CS hs1 hi2 s0 b0 b1 b2 b3 bA bw1 bw2 bw3
    have x0 := sA.c
    go_wp2_with fail
    generalize w3.alloc (.cells #[.slice av mm.length cv] 25) = WA at *
    generalize w3.heap.size = PW at *
    -- the arguments
    refine (toProg_any a b o c ll WA hl hls (h.below bwA (Nat.le_refl _))).mono ?_
    rintro e w4 ⟨g4, rfl, hs4, b4⟩
    have bX := below1 w4 (.cells #[.slice (some ⟨g4, 0, none⟩) ll.length ll.length] 25)
    have bAX := b4.trans (bX.mono b4.size)
    have sX := Slot1.new w4 (.slice (some ⟨g4, 0, none⟩) ll.length ll.length) 25
    have hsX := hs4.below bX (Nat.le_refl _)
    have hX4 : WA.heap.size ≤ w4.heap.size := b4.size
    have hszX : Hid ((w4.alloc (.cells #[.slice (some ⟨g4, 0, none⟩) ll.length ll.length] 25)).heap.size = w4.heap.size + 1) := by show _ = _; simp
    clear hs4 b4 bX x0
    go_wp2_with fail
    generalize w4.alloc (.cells #[.slice (some ⟨g4, 0, none⟩) ll.length ll.length] 25) = WX at *
    generalize w4.heap.size = PX at *
    have bwX := bwA.trans (bAX.mono bwA.size)
    refine (toIntS_any ga gb go gc gs WX hgl (hG.below bwX (Nat.le_refl _))).mono ?_
    rintro e WY ⟨rfl, hiY, ⟨fY, rowY⟩, bY⟩
    have hfzY : ∀ j, WY.frozen? ⟨WX.heap.size, j, none⟩ = false := rowY.frozen
    have bAY := bAX.trans (bY.mono bAX.size)
    have sXY := sX.bl' bY
    have hsXY := hsX.below bY (Nat.le_refl _)
    have lY : WX.heap.size < WY.heap.size := rowY.lt
    clear rowY sX hsX bAX bY
    have x1 := sXY.c
    -- the program's answer
    go_wp2_with fail
    refine (CI _ g4 0 ll.length _ WX.heap.size 0 gs.length WY hsXY.old hiY).mono ?_
    rintro e w5 ⟨v5, rfl, ⟨vs5, hR5⟩, b5⟩
    obtain ⟨ai, gi, ci, rs, rfl, hrl, hrn, hrw5, hin, _⟩ := hR5.rw_
    have bG := below1 w5 (.cells #[.slice ai mm.length ci] 25)
    have bYG := b5.trans (bG.mono b5.size)
    have sG := Slot1.new w5 (.slice ai mm.length ci) 25
    have hRG := hR5.below bG
    have hrwG := hrw5.below bG
    have hinG : ∀ k, InR rs k → k ≠ w5.heap.size := fun k ⟨i, hi, hn, e⟩ => by
      obtain ⟨x, hx⟩ := hrw5.ints i hi 0 (by omega)
      have : rs[i].b < w5.heap.size := World.block_lt_of_cell? _ _ hx
      omega
    have lG5 : WY.heap.size ≤ w5.heap.size := b5.size
    have bAG := bAY.trans (bYG.mono bAY.size)
    have sXG := sXY.bl' bYG
    have hsXG := hsXY.below bYG (Nat.le_refl _)
    have hiG := hiY.below bYG (Nat.le_refl _)
    have hfzG : ∀ j, (w5.alloc (.cells #[.slice ai mm.length ci] 25)).frozen? ⟨WX.heap.size, j, none⟩ = false := fun j => (bYG.frozen (p := ⟨WX.heap.size, j, none⟩) lY).trans (hfzY j)
    have hlWY : WY.heap.size ≤ (w5.alloc (.cells #[.slice ai mm.length ci] 25)).heap.size := bYG.size
    have sWG := sW.bl' bAG
    have x2 := sG.c
    have x3 := sWG.c
    clear sXY hsXY hiY hfzY bAY hR5 b5 bG x1 hrw5
    -- the same
    go_wp2_with fail
    generalize w5.alloc (.cells #[.slice ai mm.length ci] 25) = WG at *
    generalize w5.heap.size = PG at *
    obtain ⟨_, g6, _, e6, ssG⟩ := hRG.b.ss
    obtain ⟨rfl, _, rfl⟩ := Value.slice.inj e6
    have ssWG := ssW.below bAG (Nat.le_refl _)
    refine (eqProg_same ai g6 0 ci av gv 0 cv mm WG hml hmls ssG ssWG).mono ?_
    rintro e WH ⟨rfl, bH⟩
    have bAH := bAG.trans (bH.mono bAG.size)
    have bYH := bYG.trans (bH.mono bYG.size)
    have sAH := sA.bl' bAH
    have sXH := sXG.bl' bH
    have sGH := sG.bl' bH
    have hsXH := hsXG.below bH (Nat.le_refl _)
    have hiH := hiG.below bH (Nat.le_refl _)
    have hRH := hRG.below bH
    have hrwH := hrwG.below bH
    have lX : WX.heap.size < WG.heap.size := Nat.lt_of_lt_of_le lY hlWY
    have hfzH : ∀ j, WH.frozen? ⟨WX.heap.size, j, none⟩ = false := fun j => (bH.frozen (p := ⟨WX.heap.size, j, none⟩) lX).trans (hfzG j)
    clear x2 x3 ssG ssWG sXG sG hsXG hiG hRG hrwG hfzG sWG bH bAG bYG
    have x0 := sAH.c
    have x1 := sXH.c
    have l0 := sAH.lt
    have l1 := sXH.lt
    go_wp2_with fail
    have bwH := bwA.trans (bAH.mono bwA.size)
    have C7 := toProg_any a b o c ll WH.drew hl hls (h.below bwH.drew (Nat.le_refl _))
    go_region_held3 (fun w' => w'.cell? ⟨w.heap.size, 0, none⟩ = some (.slice a ll.length c) ∧ w'.cell? ⟨PX, 0, none⟩ = some (.slice (some ⟨g4, 0, none⟩) ll.length ll.length)) (go_keep) (first
      | (go_at_call 23; refine C7.mono ?_; rintro e w7 ⟨g7, rfl, hs7, hb7⟩; have Y0 := (hb7.cell (p := ⟨w.heap.size, 0, none⟩) l0).trans x0; have Y1 := (hb7.cell (p := ⟨PX, 0, none⟩) l1).trans x1)
      | (go_at_call 25; refine (eqProg_same _ g4 0 ll.length _ g7 0 ll.length ll _ hl hls ((hsXH.old.below (Below.refl _ _).drew (Nat.le_refl _)).below hb7 (Nat.le_refl _)) hs7.old).mono ?_; rintro e w8 ⟨rfl, hb8⟩; have Z0 := (hb8.cell (p := ⟨w.heap.size, 0, none⟩) (Nat.lt_of_lt_of_le l0 hb7.size)).trans Y0; have Z1 := (hb8.cell (p := ⟨PX, 0, none⟩) (Nat.lt_of_lt_of_le l1 hb7.size)).trans Y1))
    have b68 : Below WH.heap.size WH w8 := ((Below.refl WH.heap.size WH).drew.trans hb7).trans (hb8.mono hb7.size)
    have bA8 := bAH.trans (b68.mono bAH.size)
    have bw8 := bwA.trans (bA8.mono bwA.size)
    have sX8 := sXH.bl' b68
    have sG8 := sGH.bl' b68
    have hsX8 := hsXH.below b68 (Nat.le_refl _)
    have hi8 := hiH.below b68 (Nat.le_refl _)
    have hR8 := hRH.below b68
    have hrw8 := hrwH.below b68
    have lXH : WX.heap.size < WH.heap.size := Nat.lt_of_lt_of_le lY bYH.size
    have hfz8 : ∀ j, w8.frozen? ⟨WX.heap.size, j, none⟩ = false := fun j => (b68.frozen (p := ⟨WX.heap.size, j, none⟩) lXH).trans (hfzH j)
    have lX8 : WX.heap.size < w8.heap.size := Nat.lt_of_lt_of_le lXH b68.size
    have lY8 : WY.heap.size ≤ w8.heap.size := Nat.le_trans bYH.size b68.size
    clear Z0 Z1 Y0 Y1 C7 hs7 hb7 hb8 b68 bwH bAH bYH sAH sXH sGH hsXH hiH hRH hrwH hfzH x0 x1 l0 l1
    go_wp2_with fail
    refine (toIntS_any ga gb go gc gs w8 hgl (hG.below bw8 (Nat.le_refl _))).mono ?_
    rintro e w9 ⟨rfl, hi9, _, b9⟩
    go_wp2_with fail
    refine (calls_bel' (eqIntS_same (some ⟨WX.heap.size, 0, none⟩) WX.heap.size 0 gs.length (some ⟨w8.heap.size, 0, none⟩) w8.heap.size 0 gs.length gs w9 hgl (hi8.below b9 (Nat.le_refl _)) hi9)).mono ?_
    rintro e w10 ⟨rfl, b10⟩
    have b810 := b9.trans (b10.mono b9.size)
    have bA10 := bA8.trans (b810.mono bA8.size)
    have sX10 := sX8.bl' b810
    have sG10 := sG8.bl' b810
    have hsX10 := hsX8.below b810 (Nat.le_refl _)
    have hi10 := hi8.below b810 (Nat.le_refl _)
    have hR10 := hR8.below b810
    have hrw10 := hrw8.below b810
    have hfz10 : ∀ j, w10.frozen? ⟨WX.heap.size, j, none⟩ = false := fun j => (b810.frozen (p := ⟨WX.heap.size, j, none⟩) lX8).trans (hfz8 j)
    have h810 : w8.heap.size ≤ w10.heap.size := b810.size
    clear hi9 b9 b10 b810 bA8 bw8 sX8 sG8 hsX8 hi8 hR8 hrw8 hfz8
    have x1 := sX10.c
    go_wp2_with fail
    refine (markProg_any g4 ll.length WA.heap.size PX ll w10 hl hls hsX10).mono ?_
    rintro e w11 ⟨k, wa, rfl, hk, rfl, mk11⟩
    have bal := below1 w10 (.cells #[.slice (some ⟨g4, 0, none⟩) ll.length ll.length] 25)
    have bA11 : Below WA.heap.size WA w11 := Mk.below (bA10.trans (bal.mono bA10.size)) mk11 (fun j hj => hj.1)
    have hR11 := (hR10.below bal).mkFar mk11 (fun j hj => by have := hszX.out; omega)
    have hPG : WY.heap.size ≤ PG := lG5
    have hrw11 := (hrw10.below bal).mk_ mk11
    have sG11 := (sG10.bl' bal).mkFar mk11 (fun hj => by have := hszX.out; omega)
    have ic11 := ((hi10.below bal (Nat.le_refl _)).toC (fun _ j => (bal.frozen (p := ⟨WX.heap.size, j, none⟩) (show WX.heap.size < w10.heap.size from Nat.lt_of_lt_of_le lX8 h810)).trans (hfz10 j))).mk_ mk11
    clear x1 bal mk11 hR10 hrw10 sG10 hi10 hfz10 sX10 hsX10 bA10
    go_wp2_with fail
    refine (markIntS_any (some ⟨WX.heap.size, 0, none⟩) WX.heap.size 0 gs.length gs.length k w11 hgl hk.1 (by omega) ic11).mono ?_
    rintro e w12 ⟨rfl, _, mk12⟩
    have bA12 : Below WA.heap.size WA w12 := Mk.below bA11 mk12 (fun j hj => by obtain ⟨rfl, _⟩ := hj; have := hszX.out; omega)
    have hR12 := hR11.mkFar mk12 (fun j hj => by obtain ⟨rfl, _⟩ := hj; exact lY)
    have hrw12 := hrw11.mk_ mk12
    have sG12 := sG11.mkFar mk12 (fun hj => by have := hj.1; omega)
    have sW12 := sW.bl' bA12
    have hk2 : ¬ (k + (gs.length : Int) < 0) := by omega
    have hk3 : decide (k + (gs.length : Int) < 0) = false := by simpa using hk2
    clear mk12 hR11 hrw11 sG11 ic11 bA11
    have x2 := sG12.c
    have x3 := sW12.c
    generalize k + (gs.length : Int) = kk at *
    go_wp2_with fail
    obtain ⟨_, g3, _, e3, hss3⟩ := hR12.b.ss
    obtain ⟨rfl, _, rfl⟩ := Value.slice.inj e3
    refine (eqProg_same ai g3 0 ci av gv 0 cv mm w12 hml hmls hss3 (ssW.below bA12 (Nat.le_refl _))).mono ?_
    rintro e w13 ⟨rfl, b13⟩
    have hq1 : rs.length ≤ 1048576 := by have := hrl.out; omega
    have hq2 : ∀ r ∈ rs, r.n ≤ 1048576 := fun r hr => by obtain ⟨t, ht, e⟩ := hrn r hr; have := hmls t ht; omega
    have hrw13 := hrw12.below b13
    have sG13 := sG12.bl' b13
    have bA13 := bA12.trans (b13.mono bA12.size)
    have hAY : WA.heap.size ≤ WY.heap.size := by have := hszX.out; omega
    have hinA : ∀ k, InR rs k → WA.heap.size ≤ k := fun k hk => by have := hin k hk; omega
    have MK := fun W h => markProgv_any ai gi ci rs W hq1 hq2 h
    have HE := fun W h hd => heldProg_any ai gi ci rs W hq1 hq2 h hd
    rw [hrl.out] at MK HE
    have hT := totq_le hq2
    generalize hTq : totq rs = T at *
    have t0 : ¬ (1 + (T : Int) * 3 < 0) := by omega
    clear hTq hT hR12 sG12 sW12 hrw12 hss3 bA12 b13 x2 x3
    have x2 := sG13.c
    go_wp2_with fail
    refine (MK w13 hrw13).mono ?_
    rintro e w14 ⟨rfl, hd14, mk14⟩
    have bal := below1 w13 (.cells #[.slice ai mm.length ci] 25)
    have bA14 : Below WA.heap.size WA w14 := Mk.below (bA13.trans (bal.mono bA13.size)) mk14 hinA
    have hrw14 := (hrw13.below bal).mk_ mk14
    have sG14 := (sG13.bl' bal).mkFar mk14 (fun h => hinG _ h rfl)
    clear x2 sG13 hrw13 mk14 bal bA13
    have x2 := sG14.c
    go_wp2_with fail
    refine (HE w14 hrw14 hd14).mono ?_
    rintro e w15 ⟨rfl, b15⟩
    have bA15 := bA14.trans (b15.mono bA14.size)
    have sG15 := sG14.bl' b15
    have hrw15 := hrw14.below b15
    have hd15 := hd14.below b15
    have sA15 := sA.bl' bA15
    have bw15 := bwA.trans (bA15.mono bwA.size)
    clear x2 sG14 hrw14 hd14 b15 bA14
    have x0 := sA15.c
    go_wp2_with fail
    -- once more
    refine (toProg_any a b o c ll w15 hl hls (h.below bw15 (Nat.le_refl _))).mono ?_
    rintro e w16 ⟨g16, rfl, hs16, b16⟩
    have bw16 := bw15.trans (b16.mono bw15.size)
    go_wp2_with fail
    refine (toIntS_any ga gb go gc gs w16 hgl (hG.below bw16 (Nat.le_refl _))).mono ?_
    rintro e w17 ⟨rfl, hi17, _, b17⟩
    go_wp2_with fail
    refine (CI _ g16 0 ll.length _ w16.heap.size 0 gs.length w17 (hs16.old.below b17 (Nat.le_refl _)) hi17).mono ?_
    rintro e w18 ⟨v18, rfl, ⟨vs18, hR18⟩, b18⟩
    obtain ⟨ah, gh, ch, rfl, hss18⟩ := hR18.b.ss
    have bH := below1 w18 (.cells #[.slice ah mm.length ch] 25)
    have b1518 := (b16.trans (b17.mono b16.size)).trans (b18.mono (Nat.le_trans b16.size b17.size))
    have b15H := b1518.trans (bH.mono b1518.size)
    have bAH := bA15.trans (b15H.mono bA15.size)
    have sGH := sG15.bl' b15H
    have hrwH := hrw15.below b15H
    have hdH := hd15.below b15H
    have sWH := sW.bl' bAH
    have ssWH := ssW.below bAH (Nat.le_refl _)
    have sHH := Slot1.new w18 (.slice ah mm.length ch) 25
    have ssHH := hss18.below bH (Nat.le_refl _)
    clear hR18 hss18 b18 b17 b16 b1518 b15H bH hs16 hi17 sG15 hrw15 hd15 bA15 sA15 x0 bw15 bw16
    have x3 := sWH.c
    have x4 := sHH.c
    go_wp2_with fail
    generalize w18.alloc (.cells #[.slice ah mm.length ch] 25) = WH at *
    generalize w18.heap.size = PH at *
    refine (eqProg_same ah gh 0 ch av gv 0 cv mm WH hml hmls ssHH ssWH).mono ?_
    rintro e w19 ⟨rfl, b19⟩
    have bA19 := bAH.trans (b19.mono bAH.size)
    have sG19 := sGH.bl' b19
    have hrw19 := hrwH.below b19
    have hd19 := hdH.below b19
    clear x3 x4 ssHH ssWH sHH sWH sGH hrwH hdH bAH b19
    have x2 := sG19.c
    go_wp2_with fail
    refine (HE w19 hrw19 hd19).mono ?_
    rintro e w20 ⟨rfl, b20⟩
    have bA20 := bA19.trans (b20.mono bA19.size)
    go_wp2_with fail
    go_ret
    exact ⟨rfl, bwA.trans (bA20.mono bwA.size)⟩
  · have hgl' : (1048576 : Int) < gs.length := by omega
    go_enter Try.func6, Try.ntmps6
    go_wp2_with fail
    go_ret
    exact ⟨rfl, below1 _ _⟩

end Go.Proofs.Ytmbhnkdhoffnmaa
