/- The law FnExactExecOk, walked: it answers true, and leaves all as it was. Of programs and ways of at most 9223372036854775807 parts each: more than a machine holds. -/
import Derived.Test.YtdpnnghomfaleaaXoTo
import Derived.Test.YtdpnnghomfaleaaOkWay
import Derived.Test.YtdpnnghomfaleaaOsOk
import Derived.Test.YtdpnnghomfaleaaSize
import Derived.Test.YtdpnnghomfaleaaEq
import Derived.Deep.RegionHeld3
namespace Go.Proofs.Ytdpnnghomfaleaa
open Go.RowKit

/-- A way, and where it lies. -/
structure Xo where
  fa : Option Addr
  fb : Nat
  fo : Nat
  fc : Nat
  l : List Int
  ra : Option Addr
  rb : Nat
  ro : Nat
  rc : Nat
  rows : List (List Int)
structure Xo.Le (t : Xo) (n : Nat) : Prop where
  l : t.l.length ≤ n
  rows : t.rows.length ≤ n
  each : ∀ r ∈ t.rows, r.length ≤ n
structure Xo.At (t : Xo) (w : World) : Prop where
  f : IntS w t.fa t.fb t.fo t.l
  r : IntSS w t.ra t.rb t.ro t.rows
theorem Xo.At.below {t : Xo} {w w' : World} {B : Nat} (h : t.At w) (hb : Below B w w') (hB : w.heap.size ≤ B) : t.At w' := ⟨h.f.below hb hB, h.r.below hb hB⟩
/-- A way, laid anew. -/
structure NewXo (w : World) (g1 g2 : Nat) (t : Xo) : Prop where
  f : IntS w (some ⟨g1, 0, none⟩) g1 0 t.l
  r : IntSS w (some ⟨g2, 0, none⟩) g2 0 t.rows
theorem NewXo.below {t : Xo} {g1 g2 : Nat} {w w' : World} {B : Nat} (h : NewXo w g1 g2 t) (hb : Below B w w') (hB : w.heap.size ≤ B) : NewXo w' g1 g2 t := ⟨h.f.below hb hB, h.r.below hb hB⟩
theorem szXo_any (t : Xo) (left : Int) (w : World) (h0 : 0 ≤ left) (h1 : left ≤ 1048576) (hl : t.Le 9223372036854775807) (h : t.At w) :
    Calls Try.prog 10 #[.agg #[.slice t.fa t.l.length t.fc, .slice t.ra t.rows.length t.rc], .int .i64 left] w fun e w' => ∃ r : Int, e = .returned (.int .i64 r) ∧ w' = w.alloc (.cells #[.slice t.fa t.l.length t.fc, .slice t.ra t.rows.length t.rc] 28) ∧ r ≤ 1048576 ∧ (r < 0 ∨ (0 ≤ r ∧ t.Le 1048576)) :=
  (szExec_any t.fa t.fc t.l t.ra t.rb t.ro t.rc t.rows left w h0 h1 hl.l hl.rows hl.each h.r).mono fun _ _ ⟨r, he, hw, hr, ho⟩ => ⟨r, he, hw, hr, ho.imp id fun ⟨a, b, c, d⟩ => ⟨a, b, c, d⟩⟩
theorem toXo_any (t : Xo) (w : World) (hl : t.Le 1048576) (h : t.At w) :
    Calls Try.prog 13 #[.agg #[.slice t.fa t.l.length t.fc, .slice t.ra t.rows.length t.rc]] w fun e w' => ∃ g1 g2, e = .returned (.agg #[.slice (some ⟨g1, 0, none⟩) t.l.length t.l.length, .slice (some ⟨g2, 0, none⟩) t.rows.length t.rows.length]) ∧ NewXo w' g1 g2 t ∧ Below w.heap.size w w' :=
  (toExec_any t.fa t.fb t.fo t.fc t.l t.ra t.rb t.ro t.rc t.rows w hl.l hl.rows hl.each h.f h.r).mono fun _ _ ⟨g1, g2, he, hx, hb⟩ => ⟨g1, g2, he, ⟨hx.f, hx.r.old⟩, hb⟩
theorem eqXo_any (t : Xo) {w : World} {g1 g2 g3 g4 : Nat} (h : NewXo w g1 g2 t) (h' : NewXo w g3 g4 t) (hl : t.Le 1048576) :
    Calls Try.prog 16 #[.agg #[.slice (some ⟨g1, 0, none⟩) t.l.length t.l.length, .slice (some ⟨g2, 0, none⟩) t.rows.length t.rows.length], .agg #[.slice (some ⟨g3, 0, none⟩) t.l.length t.l.length, .slice (some ⟨g4, 0, none⟩) t.rows.length t.rows.length]] w fun e w' => e = .returned (.bool true) ∧ Below w.heap.size w w' :=
  eqExec_same _ g1 0 _ _ g2 0 _ _ g3 0 _ _ g4 0 _ t.l t.rows w hl.l hl.rows hl.each h.f h.r h'.f h'.r
theorem ixo_any (a : Option Addr) (b o c : Nat) (ll : List (List M.D)) (t : Xo) (g1 g2 : Nat) (w : World) (hl : ll.length ≤ 1048576) (hls : ∀ t ∈ ll, t.length ≤ 1048576) (ht : t.Le 1048576) (h : DoSS w a b o ll) (hx : NewXo w g1 g2 t) :
    Calls Try.prog 14 #[.agg #[.slice a ll.length c], .agg #[.slice (some ⟨g1, 0, none⟩) t.l.length t.l.length, .slice (some ⟨g2, 0, none⟩) t.rows.length t.rows.length]] w fun e w' => e = .returned (.bool (M.execOk ll t.l t.rows)) ∧ Below w.heap.size w w' :=
  iexecOk_any a b o c ll _ g1 0 _ t.l _ g2 0 _ t.rows w hl hls ht.l ht.rows ht.each h hx.f hx.r
theorem sxo_any (a : Option Addr) (b o c : Nat) (ll : List (List M.D)) (t : Xo) (g1 g2 : Nat) (w : World) (hl : ll.length ≤ 1048576) (hls : ∀ t ∈ ll, t.length ≤ 1048576) (ht : t.Le 1048576) (h : DoSS w a b o ll) (hx : NewXo w g1 g2 t) :
    Calls Try.prog 11 #[.agg #[.slice a ll.length c], .agg #[.slice (some ⟨g1, 0, none⟩) t.l.length t.l.length, .slice (some ⟨g2, 0, none⟩) t.rows.length t.rows.length]] w fun e w' => e = .returned (.bool (M.execOk ll t.l t.rows)) ∧ Below w.heap.size w w' :=
  sexecOk_any a b o c ll _ g1 0 _ t.l _ g2 0 _ t.rows w hl hls ht.l ht.each h hx.f hx.r

/-- What stands through the law's calls: the boxes of its two arguments, the arguments themselves. -/
structure StP (w W : World) (a : Option Addr) (b o c : Nat) (ll : List (List M.D)) (t : Xo) : Prop where
  bel : Below w.heap.size w W
  lt : w.heap.size + 1 < W.heap.size
  p0 : W.cell? ⟨w.heap.size, 0, none⟩ = some (.slice a ll.length c)
  q0 : W.cell? ⟨w.heap.size + 1, 0, none⟩ = some (.slice t.fa t.l.length t.fc)
  q1 : W.cell? ⟨w.heap.size + 1, 1, none⟩ = some (.slice t.ra t.rows.length t.rc)
  sa : DoSS W a b o ll
  ta : t.At W

theorem StP.below {w W W' : World} {a : Option Addr} {b o c : Nat} {ll : List (List M.D)} {t : Xo} (h : StP w W a b o c ll t) (hb : Below W.heap.size W W') : StP w W' a b o c ll t := by
  have hl := h.lt
  exact ⟨h.bel.trans (hb.mono h.bel.size), Nat.lt_of_lt_of_le hl hb.size, (hb.cell (p := ⟨w.heap.size, 0, none⟩) (by show w.heap.size < _; omega)).trans h.p0,
    (hb.cell (p := ⟨w.heap.size + 1, 0, none⟩) hl).trans h.q0, (hb.cell (p := ⟨w.heap.size + 1, 1, none⟩) hl).trans h.q1, h.sa.below hb (Nat.le_refl _), h.ta.below hb (Nat.le_refl _)⟩

set_option maxHeartbeats 1000000 in
set_option maxRecDepth 100000 in
theorem lawExecOk_any (a : Option Addr) (b o c : Nat) (ll : List (List M.D)) (t : Xo) (w : World) (hl0 : ll.length ≤ 9223372036854775807) (hls0 : ∀ t ∈ ll, t.length ≤ 9223372036854775807) (ht0 : t.Le 9223372036854775807) (hsa : DoSS w a b o ll) (hta : t.At w) :
    Calls Try.prog 3 #[.agg #[.slice a ll.length c], .agg #[.slice t.fa t.l.length t.fc, .slice t.ra t.rows.length t.rc]] w fun e w' => e = .returned (.bool true) ∧ Below w.heap.size w w' := by
  go_enter Try.func3, Try.ntmps3
  go_wp2_with fail
  refine (szProg_le a b o c ll _ hl0 hls0 (hsa.below (below2 w _ _) (Nat.le_refl _))).mono ?_
  rintro e w1 ⟨r1, rfl, rfl, hor1⟩
  by_cases hn1 : r1 < 0
  · go_wp2_with fail
    go_ret
    exact ⟨rfl, below3 _ _ _ _⟩
  obtain ⟨hr1, _, hl, hls⟩ := hor1.resolve_left hn1
  clear hor1
  go_wp2_with fail
  refine (szXo_any t r1 _ (by omega) hr1 ht0 (hta.below (below3 w _ _ _) (Nat.le_refl _))).mono ?_
  rintro e w1 ⟨r2, rfl, rfl, hr2, hor2⟩
  have hb4 := (below3 w (.cells #[.slice a ll.length c] 24) (.cells #[.slice t.fa t.l.length t.fc, .slice t.ra t.rows.length t.rc] 28) (.cells #[.slice a ll.length c] 24)).alloc (by simp; omega) (.cells #[.slice t.fa t.l.length t.fc, .slice t.ra t.rows.length t.rc] 28)
  by_cases hn2 : r2 < 0
  · go_wp2_with fail
    go_ret
    exact ⟨rfl, hb4⟩
  have ht := (hor2.resolve_left hn2).2
  clear hor2
  have st0 : StP w _ a b o c ll t := ⟨hb4, by simp, by simp [go_sem], by simp [go_sem], by simp [go_sem], hsa.below hb4 (Nat.le_refl _), hta.below hb4 (Nat.le_refl _)⟩
  generalize ((((w.alloc (.cells #[.slice a ll.length c] 24)).alloc (.cells #[.slice t.fa t.l.length t.fc, .slice t.ra t.rows.length t.rc] 28)).alloc (.cells #[.slice a ll.length c] 24)).alloc (.cells #[.slice t.fa t.l.length t.fc, .slice t.ra t.rows.length t.rc] 28)) = W at *
  clear hb4 hsa hta hl0 hls0 ht0
  go_wp2_with fail
  have st1 := st0.below (Below.refl _ _).drew
  have C1 := toProg_any a b o c ll W.drew hl hls st1.sa
  have X0 := st0.p0; have X2 := st0.q0; have X3 := st0.q1
  obtain ⟨ro, hro⟩ : ∃ r, M.execOk ll t.l t.rows = r := ⟨_, rfl⟩
  have HR : Hid (M.execOk ll t.l t.rows = ro) := hro
  clear hro
  go_region_held3 (fun w' => w'.cell? ⟨w.heap.size, 0, none⟩ = some (.slice a ll.length c) ∧ w'.cell? ⟨w.heap.size + 1, 0, none⟩ = some (.slice t.fa t.l.length t.fc) ∧ w'.cell? ⟨w.heap.size + 1, 1, none⟩ = some (.slice t.ra t.rows.length t.rc)) (go_keep) (first
    | (go_at_call 12; refine C1.mono ?_; rintro e w1 ⟨g1, rfl, hn1, hb1⟩; have st2 := st1.below hb1; have Y0 := st2.p0; have Y2 := st2.q0; have Y3 := st2.q1)
    | (go_at_call_of 13 (Value.agg #[.slice t.fa t.l.length t.fc, .slice t.ra t.rows.length t.rc]); refine (toXo_any t _ ht st2.ta).mono ?_; rintro e w2 ⟨g3, g4, rfl, hn2, hb2⟩; have st3 := st2.below hb2; have Z0 := st3.p0; have Z2 := st3.q0; have Z3 := st3.q1)
    | (go_at_call 11; refine (sxo_any _ g1 0 ll.length ll t g3 g4 _ hl hls ht (hn1.old.below hb2 (Nat.le_refl _)) hn2).mono ?_; (show ∀ e w', e = Ending.returned (.bool (M.execOk ll t.l t.rows)) ∧ _ → _); rw [HR.out]; rintro e w3 ⟨rfl, hg3⟩; have st4 := st3.below hg3; have U0 := st4.p0; have U2 := st4.q0; have U3 := st4.q1))
  clear X0 X2 X3 Y0 Y2 Y3 Z0 Z2 Z3 st0 st1 st2 st3 C1 hn1 hn2 hb1 hb2 hg3
  go_wp2_with fail
  refine (toProg_any a b o c ll _ hl hls st4.sa).mono ?_
  rintro e w5 ⟨x1, rfl, hx, hb5⟩
  have st5 := st4.below hb5
  have V0 := st5.p0; have V2 := st5.q0; have V3 := st5.q1; have V4 := st5.lt
  clear U0 U2 U3 st4 hb5
  go_wp2_with fail
  have st6 := st5.below (below1 w5 (.cells #[.slice (some ⟨x1, 0, none⟩) ll.length ll.length] 34))
  have hx6 := hx.below (below1 w5 (.cells #[.slice (some ⟨x1, 0, none⟩) ll.length ll.length] 34)) (Nat.le_refl _)
  refine (toXo_any t _ ht st6.ta).mono ?_
  rintro e w7 ⟨y1, y2, rfl, hy, hb7⟩
  have st7 := st6.below hb7
  have hx7 := hx6.below hb7 (Nat.le_refl _)
  have A0 : w7.cell? ⟨w5.heap.size, 0, none⟩ = some (.slice (some ⟨x1, 0, none⟩) ll.length ll.length) := by rw [hb7.cell (p := ⟨w5.heap.size, 0, none⟩) (by simp)]; simp
  have A2 : w5.heap.size < w7.heap.size := World.block_lt_of_cell? _ _ A0
  have V0' := st7.p0; have V2' := st7.q0; have V3' := st7.q1; have V4' := st7.lt
  clear V0 V2 V3 V4 st5 st6 hx hx6 hb7
  go_wp2_with fail
  have hb8 := below1 w7 (.cells #[.slice (some ⟨y1, 0, none⟩) t.l.length t.l.length, .slice (some ⟨y2, 0, none⟩) t.rows.length t.rows.length] 36)
  refine (ixo_any _ x1 0 ll.length ll t y1 y2 _ hl hls ht (hx7.old.below hb8 (Nat.le_refl _)) (hy.below hb8 (Nat.le_refl _))).mono ?_
  show ∀ e w', e = Ending.returned (.bool (M.execOk ll t.l t.rows)) ∧ _ → _
  rw [HR.out]
  rintro e w8 ⟨rfl, hg8⟩
  have hb8' : Below w7.heap.size w7 w8 := hb8.trans (hg8.mono (by simp))
  have st8 := st7.below hb8'
  have hx8 := hx7.below hb8' (Nat.le_refl _)
  have hy8 := hy.below hb8' (Nat.le_refl _)
  have X0 := st8.p0; have X2 := st8.q0; have X3 := st8.q1; have X4 := st8.lt
  have B0 : w8.cell? ⟨w5.heap.size, 0, none⟩ = some (.slice (some ⟨x1, 0, none⟩) ll.length ll.length) := (hb8'.cell (p := ⟨w5.heap.size, 0, none⟩) A2).trans A0
  have B2 : w8.cell? ⟨w7.heap.size, 0, none⟩ = some (.slice (some ⟨y1, 0, none⟩) t.l.length t.l.length) := by rw [hg8.cell (p := ⟨w7.heap.size, 0, none⟩) (by simp)]; simp
  have B3 : w8.cell? ⟨w7.heap.size, 1, none⟩ = some (.slice (some ⟨y2, 0, none⟩) t.rows.length t.rows.length) := by rw [hg8.cell (p := ⟨w7.heap.size, 1, none⟩) (by simp)]; simp
  have L5 : w5.heap.size < w8.heap.size := World.block_lt_of_cell? _ _ B0
  have L7 : w7.heap.size < w8.heap.size := World.block_lt_of_cell? _ _ B2
  clear A0 A2 V0' V2' V3' V4' st7 hx7 hy hb8 hb8' hg8
  generalize w5.heap.size = G5 at *
  generalize w7.heap.size = G7 at *
  go_wp2_with fail
  have st9 := st8.below (Below.refl _ _).drew
  have hx9 := hx8.below (Below.refl _ _).drew (Nat.le_refl _)
  have C1 := toProg_any a b o c ll w8.drew hl hls st9.sa
  go_region_held3 (fun w' => w'.cell? ⟨w.heap.size, 0, none⟩ = some (.slice a ll.length c) ∧ w'.cell? ⟨G5, 0, none⟩ = some (.slice (some ⟨x1, 0, none⟩) ll.length ll.length)) (go_keep) (first
    | (go_at_call 12; refine C1.mono ?_; rintro e w9 ⟨g1, rfl, hn1, hb1⟩; have st10 := st9.below hb1; have Y0 := st10.p0; have D0 := (hb1.cell (p := ⟨G5, 0, none⟩) L5).trans B0)
    | (go_at_call 15; refine (eqProg_same _ x1 0 ll.length _ g1 0 ll.length ll _ hl hls (hx9.below hb1 (Nat.le_refl _)).old hn1.old).mono ?_; rintro e w10 ⟨rfl, hg10⟩; have st11 := st10.below hg10; have Z0 := st11.p0; have E0 := (hg10.cell (p := ⟨G5, 0, none⟩) (Nat.lt_of_lt_of_le L5 hb1.size)).trans D0))
  have hy11 := ((hy8.below (Below.refl _ _).drew (Nat.le_refl _)).below hb1 (Nat.le_refl _)).below hg10 (Nat.le_refl _)
  have hb11 : Below w8.heap.size w8 w10 := ((Below.refl _ _).drew.trans hb1).trans (hg10.mono hb1.size)
  have F0 := (hb11.cell (p := ⟨G7, 0, none⟩) L7).trans B2
  have F1 := (hb11.cell (p := ⟨G7, 1, none⟩) L7).trans B3
  have L7' : G7 < w10.heap.size := World.block_lt_of_cell? _ _ F0
  have Z2 := st11.q0; have Z3 := st11.q1
  clear B0 B2 B3 L5 L7 D0 E0 Y0 X0 X2 X3 X4 st8 st9 st10 hx8 hy8 hx9 C1 hn1 hb1 hg10 hb11
  go_wp2_with fail
  have st12 := st11.below (Below.refl _ _).drew
  have hy12 := hy11.below (Below.refl _ _).drew (Nat.le_refl _)
  have C2 := toXo_any t w10.drew ht st12.ta
  go_region_held3 (fun w' => w'.cell? ⟨w.heap.size + 1, 0, none⟩ = some (.slice t.fa t.l.length t.fc) ∧ w'.cell? ⟨w.heap.size + 1, 1, none⟩ = some (.slice t.ra t.rows.length t.rc) ∧ w'.cell? ⟨G7, 0, none⟩ = some (.slice (some ⟨y1, 0, none⟩) t.l.length t.l.length) ∧ w'.cell? ⟨G7, 1, none⟩ = some (.slice (some ⟨y2, 0, none⟩) t.rows.length t.rows.length)) (go_keep) (first
    | (go_at_call 13; refine C2.mono ?_; rintro e w12 ⟨g3, g4, rfl, hn2, hb2⟩; have st13 := st12.below hb2; have Y0 := st13.q0; have Y1 := st13.q1; have D0 := (hb2.cell (p := ⟨G7, 0, none⟩) L7').trans F0; have D1 := (hb2.cell (p := ⟨G7, 1, none⟩) L7').trans F1)
    | (go_at_call 16; refine (eqXo_any t (hy12.below hb2 (Nat.le_refl _)) hn2 ht).mono ?_; rintro e w13 ⟨rfl, hg13⟩; have st14 := st13.below hg13; have Z4 := st14.q0; have Z5 := st14.q1; have E0 := (hg13.cell (p := ⟨G7, 0, none⟩) (Nat.lt_of_lt_of_le L7' hb2.size)).trans D0; have E1 := (hg13.cell (p := ⟨G7, 1, none⟩) (Nat.lt_of_lt_of_le L7' hb2.size)).trans D1))
  go_wp2_with fail
  go_ret
  exact ⟨rfl, st14.bel⟩

end Go.Proofs.Ytdpnnghomfaleaa
