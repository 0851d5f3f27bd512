/- The law FnExactSeenSort, walked: it answers true, and leaves all as it was. Of lists of at most 9223372036854775807 parts each: more than a machine holds. The law FnExactOrderAll, walked: it answers true, and leaves all as it was. Of programs of at most 9223372036854775807 parts: more than a machine holds. -/
import Derived.Test.YtphijhpleemjoaaGreatBAbk
import Derived.Test.YtphijhpleemjoaaGreatBAbt
import Derived.Test.YtphijhpleemjoaaGreatBAbu
import Derived.Test.YtphijhpleemjoaaGreatBAaz
import Derived.Deep.RegionHeld3
import Derived.Test.YtphijhpleemjoaaGreatBDac
import Derived.Test.YtphijhpleemjoaaGreatBDae
import Derived.Test.YtphijhpleemjoaaGreatBDaf
namespace Go.Proofs.YtphijhpleemjoaaGreat
open Go.RowKit Go.Deep
theorem NewL.rowC {B : Nat} {w : World} {a : Option Addr} {g : Nat} {uu : List Sn} (h : NewL B w a g uu) : RowC w a g 0 uu :=
 ⟨h.addr, fun i hi => by rw [Nat.zero_add]; exact (h.sr (by omega)).c i hi, fun s hs => (h.off s hs).at_.reads.toC (fun hl => (h.own s hs).fz _ (Or.inl ⟨hl, rfl⟩)), fun s hs => (h.off s hs).at_.last.toC (fun hl => (h.own s hs).fz _ (Or.inr ⟨hl, rfl⟩))⟩
theorem NewL.les {B : Nat} {w : World} {a : Option Addr} {g : Nat} {uu : List Sn} (h : NewL B w a g uu) : ∀ s ∈ uu, s.Le 1048576 := fun s hs => (h.off s hs).le
theorem NewL.blk {B : Nat} {w : World} {a : Option Addr} {g : Nat} {uu : List Sn} (h : NewL B w a g uu) {b : Nat} (hb : anyBlk uu b) : B ≤ b ∧ b < w.heap.size := by
 obtain ⟨s, hs, hk⟩ := hb
 refine ⟨?_, Sn.blk_lt (h.off s hs).at_ hk⟩
 have := h.fresh s hs
 rcases hk with ⟨_, rfl⟩ | ⟨_, rfl⟩ <;> omega
structure LowS (w : World) (N : Nat) (a : Option Addr) (g : Nat) (ss : List Sn) : Prop where
 addr : 0 < ss.length → a = some ⟨g, 0, none⟩
 c : ∀ i (h : i < ss.length), w.cell? ⟨g, i * 2, none⟩ = some (.slice ss[i].a1 ss[i].l1.length ss[i].c1) ∧ w.cell? ⟨g, i * 2 + 1, none⟩ = some (.slice ss[i].a2 ss[i].l2.length ss[i].c2)
 at_ : ∀ s ∈ ss, s.At w
 lt : ∀ b, anyBlk ss b → b < N
theorem SL.low {w : World} {g : Nat} {ss : List Sn} (h : SL w g ss) : LowS w w.heap.size (some ⟨g, 0, none⟩) g ss :=
 ⟨fun _ => rfl, h.sr.c, fun s hs => (h.at_ s hs).1, fun _ ⟨s, hs, hk⟩ => Sn.blk_lt (h.at_ s hs).1 hk⟩
theorem LowS.below {w w' : World} {N : Nat} {a : Option Addr} {g : Nat} {ss : List Sn} (h : LowS w N a g ss) (hb : Below w.heap.size w w') : LowS w' N a g ss :=
 ⟨h.addr, fun i hi => ⟨(hb.cell (p := ⟨g, i * 2, none⟩) (World.block_lt_of_cell? _ _ (h.c i hi).1)).trans (h.c i hi).1, (hb.cell (p := ⟨g, i * 2 + 1, none⟩) (World.block_lt_of_cell? _ _ (h.c i hi).2)).trans (h.c i hi).2⟩, fun s hs => (h.at_ s hs).below hb (Nat.le_refl _), h.lt⟩
theorem LowS.mk_ {P : Nat → Prop} {w w' : World} {N : Nat} {a : Option Addr} {g : Nat} {ss : List Sn} (h : LowS w N a g ss) (hm : Mk P w w') (hP : ∀ b, P b → ¬ anyBlk ss b) : LowS w' N a g ss :=
 ⟨h.addr, fun i hi => ⟨hm.rest _ _ (h.c i hi).1 (fun _ e => by cases e), hm.rest _ _ (h.c i hi).2 (fun _ e => by cases e)⟩,
  fun s hs => ⟨(h.at_ s hs).reads.mkOff hm (fun hl hp => hP _ hp ⟨s, hs, Or.inl ⟨hl, rfl⟩⟩), (h.at_ s hs).last.mkOff hm (fun hl hp => hP _ hp ⟨s, hs, Or.inr ⟨hl, rfl⟩⟩)⟩, h.lt⟩
theorem LowS.ks {w : World} {N : Nat} {a : Option Addr} {g : Nat} {ss : List Sn} (h : LowS w N a g ss) : KS w a g 0 (kys ss) := by
 refine ⟨fun hl => h.addr (by simpa [kys] using hl), fun i hi => ?_⟩
 have hi' : i < ss.length := by simpa [kys] using hi
 obtain ⟨c1, c2⟩ := h.c i hi'
 exact ⟨ss[i], by simp [kys, Sn.ky], by simp [kys, Sn.ky], by rw [Nat.zero_add]; exact c1, by rw [Nat.zero_add]; exact c2, h.at_ _ (List.getElem_mem hi')⟩
theorem NewL.low {B : Nat} {w : World} {a : Option Addr} {g : Nat} {uu : List Sn} (h : NewL B w a g uu) : LowS w w.heap.size a g uu :=
 ⟨h.addr, fun i hi => (h.sr (by omega)).c i hi, fun s hs => (h.off s hs).at_, fun _ hb => (h.blk hb).2⟩
theorem RowC.below {w w' : World} {a : Option Addr} {g o : Nat} {ss : List Sn} (h : RowC w a g o ss) (hb : Below w.heap.size w w') : RowC w' a g o ss := by
 have IC : ∀ {a : Option Addr} {b o n : Nat}, IntC w a b o n → IntC w' a b o n := fun {a b o n} hc => by
  refine ⟨hc.addr, fun i hi => ?_, fun hn j => ?_⟩
  ·obtain ⟨x, hx⟩ := hc.row i hi
   exact ⟨x, (hb.cell (p := ⟨b, o + i, none⟩) (World.block_lt_of_cell? _ _ hx)).trans hx⟩
  ·obtain ⟨x, hx⟩ := hc.row 0 hn
   have hlt : b < w.heap.size := World.block_lt_of_cell? _ _ hx
   exact (hb.frozen (p := ⟨b, j, none⟩) hlt).trans (hc.fz hn j)
 exact ⟨h.addr, fun i hi => ⟨(hb.cell (p := ⟨g, o + i * 2, none⟩) (World.block_lt_of_cell? _ _ (h.c i hi).1)).trans (h.c i hi).1, (hb.cell (p := ⟨g, o + i * 2 + 1, none⟩) (World.block_lt_of_cell? _ _ (h.c i hi).2)).trans (h.c i hi).2⟩, fun s hs => IC (h.one s hs), fun s hs => IC (h.two s hs)⟩
end Go.Proofs.YtphijhpleemjoaaGreat
namespace Go.Proofs.YtphijhpleemjoaaGreat
open Go.RowKit Go.Deep
set_option maxHeartbeats 2000000 in
set_option maxRecDepth 100000 in
theorem lawOa_any (a : Option Addr) (b o c : Nat) (ll : List (List M.D)) (kind : Int) (w : World) (hl0 : ll.length ≤ 9223372036854775807) (hls0 : ∀ t ∈ ll, t.length ≤ 9223372036854775807) (h : DoSS w a b o ll) :
  Calls Tryz.prog 14 #[.agg #[.slice a ll.length c], .int .i64 kind] w fun e w' => e = .returned (.bool true) ∧ Below w.heap.size w w' := by
 go_enter Tryz.func14, Tryz.ntmps14
 go_wp2_with (go_at_call 32; refine (szProg_any a b o c ll _ hl0 hls0 (h.below (below1 w _) (Nat.le_refl _))).mono ?_; rintro e w1 ⟨r', rfl, rfl, hor⟩)
 ·go_ret
  exact ⟨rfl, below2 _ _ _⟩
 obtain ⟨_, hl, hls⟩ : 0 ≤ r' ∧ ll.length ≤ 1048576 ∧ ∀ t ∈ ll, t.length ≤ 1048576 := hor.resolve_left (by omega)
 clear hor hl0 hls0
 have b0 := below2 w (.cells #[.slice a ll.length c] 57) (.cells #[.slice a ll.length c] 57)
 have s0 := (Slot1.new w (.slice a ll.length c) 57).bl' (below1 _ (.cells #[.slice a ll.length c] 57))
 generalize (w.alloc (.cells #[.slice a ll.length c] 57)).alloc (.cells #[.slice a ll.length c] 57) = W0 at *
 -- the model's answer
 refine (toProg_any a b o c ll W0 hl hls (h.below b0 (Nat.le_refl _))).mono ?_
 rintro e w1 ⟨g1, rfl, hs1, b1⟩
 have bw1 := b0.trans (b1.mono b0.size)
 have CI := fun A B C D W h1 => iorderAll_any A B C D ll kind W hl hls h1
 have CS := sorderAll_any (some ⟨g1, 0, none⟩) g1 0 ll.length ll kind w1 hl hls hs1.old
 rw [M.sorder_same] at CS
 go_wp2_with fail
 refine CS.mono ?_
 rintro e WA ⟨g3, c3, tt, rfl, hkt, hS3, _, _, b3⟩
 have HKT0 : Hid (kys tt = M.orderAll ll kind) := hkt
 have htb : ∀ s ∈ tt, s.Le 1048576 := fun s hs => (hS3.at_ s hs).2
 have lowA := hS3.low
 have bwA := bw1.trans (b3.mono bw1.size)
 have sA := (s0.bl' b1).bl' b3
 clear hkt hS3 hs1 s0 b0 b1 b3 bw1 CS
 have x0 := sA.c
 go_wp2_with fail
 -- the argument
 refine (toProg_any a b o c ll WA hl hls (h.below bwA (Nat.le_refl _))).mono ?_
 rintro e w4 ⟨g4, rfl, hs4, b4⟩
 have bX := below1 w4 (.cells #[.slice (some ⟨g4, 0, none⟩) ll.length ll.length] 25)
 have bAX := b4.trans (bX.mono b4.size)
 have sX := Slot1.new w4 (.slice (some ⟨g4, 0, none⟩) ll.length ll.length) 25
 have hsX := hs4.below bX (Nat.le_refl _)
 have hX4 : WA.heap.size ≤ w4.heap.size := b4.size
 have hszX : Hid ((w4.alloc (.cells #[.slice (some ⟨g4, 0, none⟩) ll.length ll.length] 25)).heap.size = w4.heap.size + 1) := by show _ = _; simp
 clear hs4 b4 bX x0
 have x1 := sX.c
 go_wp2_with fail
 generalize w4.alloc (.cells #[.slice (some ⟨g4, 0, none⟩) ll.length ll.length] 25) = WX at *
 generalize w4.heap.size = PX at *
 -- the program's answer
 refine (CI _ g4 0 ll.length WX hsX.old).mono ?_
 rintro e WG ⟨v5, rfl, hX5⟩
 obtain ⟨ai, gi, ci, uu, rfl, hku, hnew, hul, _⟩ := hX5.ex
 have bG := hX5.bel
 have HKU : Hid (kys uu = M.orderAll ll kind) := hku
 have HKT : Hid (kys tt = kys uu) := by show _ = _; rw [HKT0.out, hku]
 have hlen : tt.length = uu.length := by have := congrArg List.length HKT.out; rwa [kys_len, kys_len] at this
 have hnles := hnew.les
 have hule : KLe (kys uu) 1048576 := fun k hk => by
  obtain ⟨s, hs, rfl⟩ := List.mem_map.1 hk
  exact ⟨(hnles s hs).reads, (hnles s hs).last⟩
 have hulen : (kys uu).length ≤ 1048576 := by rw [kys_len]; omega
 clear hX5 hku HKT0
 have bAG := bAX.trans (bG.mono bAX.size)
 have sXG := sX.bl' bG
 have hsXG := hsX.below bG (Nat.le_refl _)
 have lowG := lowA.below bAG
 clear sX hsX x1 lowA
 obtain ⟨N, hN⟩ : ∃ N, WA.heap.size = N := ⟨_, rfl⟩
 have HN : Hid (WA.heap.size = N) := hN
 rw [hN] at lowG
 clear hN
 have E1 := fun W (M : Nat) (hu : LowS W M ai gi uu) (ht : LowS W N (some ⟨g3, 0, none⟩) g3 tt) => eqSeenS_same ai gi 0 ci (some ⟨g3, 0, none⟩) g3 0 c3 (kys uu) W hulen hule hu.ks (HKT.out ▸ ht.ks)
 rw [kys_len] at E1
 rw [hlen]
 go_wp2_with fail
 -- the same
 refine (E1 WG _ hnew.low lowG).mono ?_
 rintro e WH ⟨rfl, bH⟩
 have bAH := bAG.trans (bH.mono bAG.size)
 have sAH := sA.bl' bAH
 have sXH := sXG.bl' bH
 have hsXH := hsXG.below bH (Nat.le_refl _)
 have lowH := lowG.below bH
 have lowuH := hnew.low.below bH
 have rowuH := hnew.rowC.below bH
 have hub : ∀ b, anyBlk uu b → WX.heap.size ≤ b := fun b hb => (hnew.blk hb).1
 clear sXG hsXG bAG lowG
 have x0 := sAH.c
 have x1 := sXH.c
 have l0 := sAH.lt
 have l1 := sXH.lt
 go_wp2_with fail
 have bwH := bwA.trans (bAH.mono bwA.size)
 have C7 := toProg_any a b o c ll WH.drew hl hls (h.below bwH.drew (Nat.le_refl _))
 go_region_held3 (fun w' => w'.cell? ⟨w.heap.size, 0, none⟩ = some (.slice a ll.length c) ∧ w'.cell? ⟨PX, 0, none⟩ = some (.slice (some ⟨g4, 0, none⟩) ll.length ll.length)) (go_keep) (first
  | (go_at_call 33; refine C7.mono ?_; rintro e w7 ⟨g7, rfl, hs7, hb7⟩; have Y0 := (hb7.cell (p := ⟨w.heap.size, 0, none⟩) l0).trans x0; have Y1 := (hb7.cell (p := ⟨PX, 0, none⟩) l1).trans x1)
  | (go_at_call 35; refine (eqProg_same _ g4 0 ll.length _ g7 0 ll.length ll _ hl hls ((hsXH.old.below (Below.refl _ _).drew (Nat.le_refl _)).below hb7 (Nat.le_refl _)) hs7.old).mono ?_; rintro e w8 ⟨rfl, hb8⟩; have Z0 := (hb8.cell (p := ⟨w.heap.size, 0, none⟩) (Nat.lt_of_lt_of_le l0 hb7.size)).trans Y0; have Z1 := (hb8.cell (p := ⟨PX, 0, none⟩) (Nat.lt_of_lt_of_le l1 hb7.size)).trans Y1))
 have b68 : Below WH.heap.size WH w8 := ((Below.refl WH.heap.size WH).drew.trans hb7).trans (hb8.mono hb7.size)
 have bA8 := bAH.trans (b68.mono bAH.size)
 have sX8 := sXH.bl' b68
 have hsX8 := hsXH.below b68 (Nat.le_refl _)
 have low8 := lowH.below b68
 have lowu8 := lowuH.below b68
 have rowu8 := rowuH.below b68
 clear Z0 Z1 Y0 Y1 C7 hs7 hb7 hb8 b68 bwH bAH sAH sXH hsXH lowH lowuH rowuH x0 x1 l0 l1 bH
 have x1 := sX8.c
 go_wp2_with fail
 refine (markProg_any g4 ll.length WA.heap.size PX ll w8 hl hls hsX8).mono ?_
 rintro e w11 ⟨k, wa, rfl, hk, rfl, mk11⟩
 have bal := below1 w8 (.cells #[.slice (some ⟨g4, 0, none⟩) ll.length ll.length] 25)
 have bA11 : Below WA.heap.size WA w11 := Mk.below (bA8.trans (bal.mono bA8.size)) mk11 (fun j hj => hj.1)
 have low11 := (low8.below bal).mk_ mk11 (fun b hb hb' => by have := low8.lt b hb'; have := HN.out; omega)
 have lowu11 := (lowu8.below bal).mk_ mk11 (fun b hb hb' => by have := hub b hb'; have := hszX.out; omega)
 have rowu11 := (rowu8.below bal).mk_ mk11
 have hk2 : ¬ (k < 0) := by omega
 have hk3 : decide (k < 0) = false := by simpa using hk2
 clear x1 bal mk11 low8 lowu8 rowu8 sX8 hsX8 bA8
 go_wp2_with fail
 refine (E1 w11 _ lowu11 low11).mono ?_
 rintro e w13 ⟨rfl, b13⟩
 have low13 := low11.below b13
 have rowu13 := rowu11.below b13
 have bA13 := bA11.trans (b13.mono bA11.size)
 clear low11 lowu11 rowu11 b13 bA11
 have hge : WA.heap.size ≤ WX.heap.size := bAX.size
 have hin : ∀ j, anyBlk uu j → WA.heap.size ≤ j := fun j hj => by have := hub j hj; omega
 have hut : ∀ b, anyBlk uu b → ¬ anyBlk tt b := fun b hb hb' => by
  have := hub b hb
  have := low13.lt b hb'
  have := HN.out
  omega
 -- the answer is marked
 have M2 := markSeenS_any ai gi 0 ci uu w13 (by omega) hnles rowu13
 have hT2 := tot2_le hnles
 have p2 : ¬ ((1 : Int) + tot2 uu < 0) := by omega
 go_wp2_with fail
 refine M2.mono ?_
 rintro e w14 ⟨rfl, mk14, hmm⟩
 have hmarked := hmm hnew.sep
 have low14 := low13.mk_ mk14 hut
 have rowu14 := rowu13.mk_ mk14
 have bA14 : Below WA.heap.size WA w14 := mk14.below bA13 hin
 clear M2 hmm low13 rowu13 mk14 bA13
 have H1 := fun W (hr : RowC W ai gi 0 uu) (hm : Marked W 1 uu uu.length) => heldSeenS_any ai gi 0 ci uu W (by omega) hnles hr hm
 generalize tot2 uu = T2 at *
 have sA14 := sA.bl' bA14
 have bw14 := bwA.trans (bA14.mono bwA.size)
 go_wp2_with fail
 refine (H1 w14 rowu14 hmarked).mono ?_
 rintro e w15 ⟨rfl, rfl⟩
 have x0 := sA14.c
 go_wp2_with fail
 -- once more
 refine (toProg_any a b o c ll w15 hl hls (h.below bw14 (Nat.le_refl _))).mono ?_
 rintro e w16 ⟨g16, rfl, hs16, b16⟩
 go_wp2_with fail
 refine (CI _ g16 0 ll.length w16 hs16.old).mono ?_
 rintro e w18 ⟨v18, rfl, hE18⟩
 have b1518 := b16.trans (hE18.bel.mono b16.size)
 have bA18 := bA14.trans (b1518.mono bA14.size)
 have low18 := low14.below b1518
 have rowu18 := rowu14.below b1518
 have mk18 := hmarked.below b1518
 obtain ⟨ah, gh, ch, vv, rfl, hkv, hnv, hvl, _⟩ := hE18.ex
 have hkvt : kys vv = kys uu := by rw [hkv, HKU.out]
 have hvlen : vv.length = uu.length := by have := congrArg List.length hkvt; rwa [kys_len, kys_len] at this
 have E2 := eqSeenS_same ah gh 0 ch (some ⟨g3, 0, none⟩) g3 0 c3 (kys uu) w18 hulen hule (hkvt ▸ hnv.low.ks) (HKT.out ▸ low18.ks)
 rw [kys_len] at E2
 rw [hvlen]
 clear hE18 b16 hs16 low14 rowu14 hmarked x0 b1518 bw14 sA14 bA14 hkv hkvt hvl hvlen
 go_wp2_with fail
 refine E2.mono ?_
 rintro e w19 ⟨rfl, b19⟩
 have bA19 := bA18.trans (b19.mono bA18.size)
 have rowu19 := rowu18.below b19
 have mk19 := mk18.below b19
 clear b19 low18 bA18 rowu18 mk18
 go_wp2_with fail
 refine (H1 w19 rowu19 mk19).mono ?_
 rintro e w20 ⟨rfl, rfl⟩
 go_wp2_with fail
 go_ret
 exact ⟨rfl, bwA.trans (bA19.mono bwA.size)⟩
end Go.Proofs.YtphijhpleemjoaaGreat
