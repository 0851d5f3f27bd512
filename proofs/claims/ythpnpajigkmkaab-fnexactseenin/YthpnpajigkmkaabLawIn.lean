/- The law FnExactSeenIn, walked: it answers true, and leaves all as it was. Of lists of at most 9223372036854775807 parts each: more than a machine holds. -/
import Derived.Test.YthpnpajigkmkaabSnLs
import Derived.Deep.RegionHeld3
namespace Go.Proofs.Ythpnpajigkmkaab
open Go.RowKit

/-- What stands through the law's calls: the list, the box of the other argument, and that itself. -/
structure StK (w W : World) (a : Option Addr) (b o : Nat) (ks : List Key) (t : Sn) : Prop where
  bel : Below w.heap.size w W
  lt : w.heap.size < W.heap.size
  q0 : W.cell? ⟨w.heap.size, 0, none⟩ = some (.slice t.a1 t.l1.length t.c1)
  q1 : W.cell? ⟨w.heap.size, 1, none⟩ = some (.slice t.a2 t.l2.length t.c2)
  sa : KS W a b o ks
  ta : t.At W

theorem StK.below {w W W' : World} {a : Option Addr} {b o : Nat} {ks : List Key} {t : Sn} (h : StK w W a b o ks t) (hb : Below W.heap.size W W') : StK w W' a b o ks t := by
  have hl := h.lt
  exact ⟨h.bel.trans (hb.mono h.bel.size), Nat.lt_of_lt_of_le hl hb.size,
    (hb.cell (p := ⟨w.heap.size, 0, none⟩) hl).trans h.q0, (hb.cell (p := ⟨w.heap.size, 1, none⟩) hl).trans h.q1, h.sa.below hb (Nat.le_refl _), h.ta.below hb (Nat.le_refl _)⟩

theorem sseenIn_new {w : World} {B B' g g3 g4 : Nat} {ks : List Key} {m1 m2 : List Int} (h : NewKS w B g ks) (h' : NewSn w B' g3 g4 m1 m2) (hl : ks.length ≤ 1048576) (hls : KLe ks 1048576) (h3 : m1.length ≤ 1048576) (h4 : m2.length ≤ 1048576) :
    Calls Try.prog 13 #[.slice (some ⟨g, 0, none⟩) ks.length ks.length, .agg #[.slice (some ⟨g3, 0, none⟩) m1.length m1.length, .slice (some ⟨g4, 0, none⟩) m2.length m2.length]] w fun e w' => e = .returned (.bool (M.isIn ks m1 m2)) ∧ Below w.heap.size w w' :=
  sseenIn_any _ g 0 _ ks (newSn g3 g4 m1 m2) w hl hls ⟨h3, h4⟩ h.old h'.at
theorem iseenIn_new {w : World} {B B' g g3 g4 : Nat} {ks : List Key} {m1 m2 : List Int} (h : NewKS w B g ks) (h' : NewSn w B' g3 g4 m1 m2) (hl : ks.length ≤ 1048576) (hls : KLe ks 1048576) (h3 : m1.length ≤ 1048576) (h4 : m2.length ≤ 1048576) :
    Calls Try.prog 15 #[.slice (some ⟨g, 0, none⟩) ks.length ks.length, .agg #[.slice (some ⟨g3, 0, none⟩) m1.length m1.length, .slice (some ⟨g4, 0, none⟩) m2.length m2.length]] w fun e w' => e = .returned (.bool (M.isIn ks m1 m2)) ∧ Grown w w' :=
  iseenIn_any _ g 0 _ ks (newSn g3 g4 m1 m2) w hl hls ⟨h3, h4⟩ h.old h'.at
theorem eqSeen_new {w : World} {B B' g1 g2 g3 g4 : Nat} {l1 l2 : List Int} (h : NewSn w B g1 g2 l1 l2) (h' : NewSn w B' g3 g4 l1 l2) (h1 : l1.length ≤ 1048576) (h2 : l2.length ≤ 1048576) :
    Calls Try.prog 16 #[.agg #[.slice (some ⟨g1, 0, none⟩) l1.length l1.length, .slice (some ⟨g2, 0, none⟩) l2.length l2.length], .agg #[.slice (some ⟨g3, 0, none⟩) l1.length l1.length, .slice (some ⟨g4, 0, none⟩) l2.length l2.length]] w fun e w' => e = .returned (.bool true) ∧ Grown w w' :=
  eqSeen_same (newSn g1 g2 l1 l2) (newSn g3 g4 l1 l2) w ⟨h1, h2⟩ rfl rfl h.at h'.at

set_option maxHeartbeats 1000000 in
set_option maxRecDepth 100000 in
theorem lawIn_any (a : Option Addr) (b o c : Nat) (ks : List Key) (t : Sn) (w : World) (hl0 : ks.length ≤ 9223372036854775807) (hls0 : KLe ks 9223372036854775807) (ht0 : t.Le 9223372036854775807) (hsa : KS w a b o ks) (hta : t.At w) :
    Calls Try.prog 4 #[.slice a ks.length c, .agg #[.slice t.a1 t.l1.length t.c1, .slice t.a2 t.l2.length t.c2]] w fun e w' => e = .returned (.bool true) ∧ Below w.heap.size w w' := by
  have hb0 := below1 w (.cells #[.slice t.a1 t.l1.length t.c1, .slice t.a2 t.l2.length t.c2] 32)
  have st0 : StK w (w.alloc (.cells #[.slice t.a1 t.l1.length t.c1, .slice t.a2 t.l2.length t.c2] 32)) a b o ks t := ⟨hb0, by simp, by simp, by simp, hsa.below hb0 (Nat.le_refl _), hta.below hb0 (Nat.le_refl _)⟩
  go_enter Try.func4, Try.ntmps4
  go_wp2_with fail
  generalize w.alloc (.cells #[.slice t.a1 t.l1.length t.c1, .slice t.a2 t.l2.length t.c2] 32) = W0 at *
  refine (szSeenS_any a b o c ks _ hl0 hls0 st0.sa).mono ?_
  rintro e w1 ⟨r1, rfl, hb1, hor1⟩
  have st1 := st0.below hb1
  by_cases hn1 : r1 < 0
  · go_wp2_with fail
    go_ret
    exact ⟨rfl, st1.bel⟩
  obtain ⟨hr1, _, hl, hls⟩ := hor1.resolve_left hn1
  have X0 := st1.q0; have X1 := st1.q1
  clear hor1 st0 hb1 hb0 hsa hta
  go_wp2_with fail
  refine (szSeen_any t r1 _ (by omega) hr1 ht0).mono ?_
  rintro e w2 ⟨r2, rfl, rfl, hr2, hor2⟩
  have st2 := st1.below (below1 w1 (.cells #[.slice t.a1 t.l1.length t.c1, .slice t.a2 t.l2.length t.c2] 32))
  generalize w1.alloc (.cells #[.slice t.a1 t.l1.length t.c1, .slice t.a2 t.l2.length t.c2] 32) = W at *
  by_cases hn2 : r2 < 0
  · go_wp2_with fail
    go_ret
    exact ⟨rfl, st2.bel⟩
  obtain ⟨ht1, ht2⟩ := (hor2.resolve_left hn2).2
  clear hor2 X0 X1 st1 hl0 hls0 ht0
  have X0 := st2.q0; have X1 := st2.q1
  go_wp2_with fail
  have st3 := st2.below (Below.refl _ _).drew
  have C1 := toSeenS_any a b o c ks W.drew hl hls st3.sa
  obtain ⟨ro, hro⟩ : ∃ r, M.isIn ks t.l1 t.l2 = r := ⟨_, rfl⟩
  have HR : Hid (M.isIn ks t.l1 t.l2 = ro) := hro
  clear hro
  go_region_held3 (fun w' => w'.cell? ⟨w.heap.size, 0, none⟩ = some (.slice t.a1 t.l1.length t.c1) ∧ w'.cell? ⟨w.heap.size, 1, none⟩ = some (.slice t.a2 t.l2.length t.c2)) (go_keep) (first
    | (go_at_call 7; refine C1.mono ?_; rintro e w3 ⟨g1, rfl, hn1, hb1⟩; have st4 := st3.below hb1; have Y2 := st4.q0; have Y3 := st4.q1)
    | (go_at_call 14; refine (toSeen_any t _ ⟨ht1, ht2⟩ st4.ta).mono ?_; rintro e w4 ⟨g3, g4, rfl, hn2, hb2⟩; have st5 := st4.below hb2; have Z2 := st5.q0; have Z3 := st5.q1)
    | (go_at_call 13; refine (sseenIn_new (hn1.below hb2 (Nat.le_refl _)) hn2 hl hls ht1 ht2).mono ?_; rw [HR.out]; rintro e w5 ⟨rfl, hg3⟩; have st6 := st5.below hg3; have U2 := st6.q0; have U3 := st6.q1))
  clear X0 X1 Y2 Y3 Z2 Z3 st2 st3 st4 st5 C1 hn1 hn2 hb1 hb2 hg3
  go_wp2_with fail
  refine (toSeenS_any a b o c ks _ hl hls st6.sa).mono ?_
  rintro e w7 ⟨x1, rfl, hx, hb7⟩
  have st7 := st6.below hb7
  have V2 := st7.q0; have V3 := st7.q1
  clear U2 U3 st6 hb7
  go_wp2_with fail
  refine (toSeen_any t _ ⟨ht1, ht2⟩ st7.ta).mono ?_
  rintro e w8 ⟨y1, y2, rfl, hy, hb8⟩
  have st8 := st7.below hb8
  have hx8 := hx.below hb8 (Nat.le_refl _)
  have V2' := st8.q0; have V3' := st8.q1; have V4' := st8.lt
  clear V2 V3 st7 hx hb8
  go_wp2_with fail
  have hb9 := below1 w8 (.cells #[.slice (some ⟨y1, 0, none⟩) t.l1.length t.l1.length, .slice (some ⟨y2, 0, none⟩) t.l2.length t.l2.length] 35)
  refine (iseenIn_new (hx8.below hb9 (Nat.le_refl _)) (hy.below hb9 (Nat.le_refl _)) hl hls ht1 ht2).mono ?_
  rw [HR.out]
  rintro e w9 ⟨rfl, hg9⟩
  have hb9' : Below w8.heap.size w8 w9 := hb9.trans (hg9.bel.mono (by simp))
  have st9 := st8.below hb9'
  have hx9 := hx8.below hb9' (Nat.le_refl _)
  have hy9 := hy.below hb9' (Nat.le_refl _)
  have X2 := st9.q0; have X3 := st9.q1; have X4 := st9.lt
  have B2 : w9.cell? ⟨w8.heap.size, 0, none⟩ = some (.slice (some ⟨y1, 0, none⟩) t.l1.length t.l1.length) := by rw [hg9.bel.cell (p := ⟨w8.heap.size, 0, none⟩) (by simp)]; simp
  have B3 : w9.cell? ⟨w8.heap.size, 1, none⟩ = some (.slice (some ⟨y2, 0, none⟩) t.l2.length t.l2.length) := by rw [hg9.bel.cell (p := ⟨w8.heap.size, 1, none⟩) (by simp)]; simp
  have L7 : w8.heap.size < w9.heap.size := World.block_lt_of_cell? _ _ B2
  clear V2' V3' V4' st8 hx8 hy hb9 hb9' hg9
  generalize w8.heap.size = G7 at *
  go_wp2_with fail
  refine (toSeenS_any a b o c ks _ hl hls st9.sa).mono ?_
  rintro e w10 ⟨z1, rfl, hz, hb10⟩
  have st10 := st9.below hb10
  go_wp2_with fail
  refine (eqSeenS_same _ x1 0 ks.length _ z1 0 ks.length ks _ hl hls (hx9.below hb10 (Nat.le_refl _)).old hz.old).mono ?_
  rintro e w11 ⟨rfl, hb11⟩
  have st11 := st10.below hb11
  have hb11' : Below w9.heap.size w9 w11 := hb10.trans (hb11.mono hb10.size)
  have hy11 := hy9.below hb11' (Nat.le_refl _)
  have F0 := (hb11'.cell (p := ⟨G7, 0, none⟩) L7).trans B2
  have F1 := (hb11'.cell (p := ⟨G7, 1, none⟩) L7).trans B3
  have L7' : G7 < w11.heap.size := World.block_lt_of_cell? _ _ F0
  have Z2 := st11.q0; have Z3 := st11.q1
  clear B2 B3 L7 X2 X3 X4 st9 st10 hx9 hy9 hz hb10 hb11 hb11'
  go_wp2_with fail
  have st12 := st11.below (Below.refl _ _).drew
  have hy12 := hy11.below (Below.refl _ _).drew (Nat.le_refl _)
  have C2 := toSeen_any t w11.drew ⟨ht1, ht2⟩ st12.ta
  go_region_held3 (fun w' => w'.cell? ⟨w.heap.size, 0, none⟩ = some (.slice t.a1 t.l1.length t.c1) ∧ w'.cell? ⟨w.heap.size, 1, none⟩ = some (.slice t.a2 t.l2.length t.c2) ∧ w'.cell? ⟨G7, 0, none⟩ = some (.slice (some ⟨y1, 0, none⟩) t.l1.length t.l1.length) ∧ w'.cell? ⟨G7, 1, none⟩ = some (.slice (some ⟨y2, 0, none⟩) t.l2.length t.l2.length)) (go_keep) (first
    | (go_at_call 14; refine C2.mono ?_; rintro e w12 ⟨g3, g4, rfl, hn2, hb2⟩; have st13 := st12.below hb2; have Y0 := st13.q0; have Y1 := st13.q1; have D0 := (hb2.cell (p := ⟨G7, 0, none⟩) L7').trans F0; have D1 := (hb2.cell (p := ⟨G7, 1, none⟩) L7').trans F1)
    | (go_at_call 16; refine (eqSeen_new (hy12.below hb2 (Nat.le_refl _)) hn2 ht1 ht2).mono ?_; rintro e w13 ⟨rfl, hg13⟩; have st14 := st13.below hg13.bel; have Z4 := st14.q0; have Z5 := st14.q1; have E0 := (hg13.bel.cell (p := ⟨G7, 0, none⟩) (Nat.lt_of_lt_of_le L7' hb2.size)).trans D0; have E1 := (hg13.bel.cell (p := ⟨G7, 1, none⟩) (Nat.lt_of_lt_of_le L7' hb2.size)).trans D1))
  go_wp2_with fail
  go_ret
  exact ⟨rfl, st14.bel⟩

end Go.Proofs.Ythpnpajigkmkaab
