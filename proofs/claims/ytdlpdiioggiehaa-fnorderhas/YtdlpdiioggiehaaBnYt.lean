/- spec.l71Kind: a drawn order. spec.DrawOrderHas: a drawn program, a way, an order and two numbers. Of codes of at most 1048576 bytes. A program and a way in two boxes of a law. No condition. What must be ahead of what: nothing of itself; and what must by a looser order must by a stricter one. Plainly. No condition. -/
import Derived.Test.YtdlpdiioggiehaaBnYd
import Derived.Test.YtdlpdiioggiehaaBnYr
import Derived.Test.YtdlpdiioggiehaaBnYi

namespace Go.Proofs.Ytdlpdiioggiehaa
open Go.RowKit

set_option maxHeartbeats 1000000 in
set_option maxRecDepth 100000 in
theorem l71Kind_any (B rb p : Nat) (w : World) (hp : p ≤ 900000) (h : Rdr w B rb p) :
    Calls Try.prog 16 #[.pointer (some ⟨rb, 0, none⟩)] w fun e w' => ∃ r : Int, e = .returned (.int .i64 r) ∧ -1 ≤ r ∧ r ≤ 4 ∧ Rdr w' B rb (p + 2) ∧ But rb w w' := by
  have hlt := h.lt
  go_enter Try.func16, Try.ntmps16
  go_wp2_with fail
  refine (pick_rdr B rb p 24 _ (by omega) (by omega) (by omega) h).mono ?_
  rintro e w1 ⟨r1, rfl, r10, r11, hr1, hb1⟩
  by_cases h0 : r1 = 0
  · subst h0
    have hal := below1 w1 (.cells #[.int .i64 0, .int .i64 4, .int .i64 (-1)] 3)
    have hr2 := hr1.below hal (Nat.le_refl _)
    have hl1 := hb1.size
    go_wp2_with fail
    refine (pick_rdr B rb (p + 1) 3 _ (by omega) (by omega) (by omega) hr2).mono ?_
    rintro e w2 ⟨r2, rfl, r20, r21, hr3, hb2⟩
    have c0 : (w1.alloc (.cells #[.int .i64 0, .int .i64 4, .int .i64 (-1)] 3)).cell? ⟨w1.heap.size, 0, none⟩ = some (.int .i64 0) := by simp
    have c1 : (w1.alloc (.cells #[.int .i64 0, .int .i64 4, .int .i64 (-1)] 3)).cell? ⟨w1.heap.size, 1, none⟩ = some (.int .i64 4) := by simp
    have c2 : (w1.alloc (.cells #[.int .i64 0, .int .i64 4, .int .i64 (-1)] 3)).cell? ⟨w1.heap.size, 2, none⟩ = some (.int .i64 (-1)) := by simp
    have d0 := (hb2.cell (p := ⟨w1.heap.size, 0, none⟩) (by simp) (by show w1.heap.size ≠ rb; omega)).trans c0
    have d1 := (hb2.cell (p := ⟨w1.heap.size, 1, none⟩) (by simp) (by show w1.heap.size ≠ rb; omega)).trans c1
    have d2 := (hb2.cell (p := ⟨w1.heap.size, 2, none⟩) (by simp) (by show w1.heap.size ≠ rb; omega)).trans c2
    have hbw := (hb1.trans (But.of hal)).trans hb2
    clear c0 c1 c2 hal
    have hr : r2 = 0 ∨ r2 = 1 ∨ r2 = 2 := by omega
    rcases hr with rfl | rfl | rfl
    · go_wp2_with fail
      go_ret
      exact ⟨_, rfl, by omega, by omega, hr3, hbw⟩
    · go_wp2_with fail
      go_ret
      exact ⟨_, rfl, by omega, by omega, hr3, hbw⟩
    · go_wp2_with fail
      go_ret
      exact ⟨_, rfl, by omega, by omega, hr3, hbw⟩
  · have b0 : (r1 == 0) = false := by simp [h0]
    go_wp2_with fail
    refine (pick_rdr B rb (p + 1) 3 _ (by omega) (by omega) (by omega) hr1).mono ?_
    rintro e w2 ⟨r2, rfl, r20, r21, hr3, hb2⟩
    go_wp2_with fail
    go_ret
    exact ⟨_, rfl, by (try rw [IntKind.wrap_i64]); omega, by (try rw [IntKind.wrap_i64]); omega, hr3, hb1.trans hb2⟩

end Go.Proofs.Ytdlpdiioggiehaa

namespace Go.Proofs.Ytdlpdiioggiehaa
open Go.RowKit

/-- A program, a way, an order and two numbers that were drawn. -/
def OhDrawn (N : Nat) (w : World) (v : Value) : Prop := ∃ (a : Option Addr) (g c : Nat) (mm : List (List M.D)) (fv ov : Value) (l : List Int) (rows : List (List Int)) (kind na nb : Int), v = .tuple #[.agg #[.slice a mm.length c], .agg #[fv, ov], .int .i64 kind, .int .i64 na, .int .i64 nb] ∧ DoSN N w a g 0 mm ∧ Small mm c ∧ WyP (fun b => N ≤ b) w fv ov l rows ∧ l.length ≤ 43 ∧ rows.length = 3 ∧ (∀ r ∈ rows, r.length ≤ 7) ∧ (-1 ≤ kind ∧ kind ≤ 4) ∧ (-1 ≤ na ∧ na ≤ 50) ∧ (-1 ≤ nb ∧ nb ≤ 50)

set_option maxHeartbeats 4000000 in
set_option maxRecDepth 100000 in
theorem DrawOrderHas_any (ca : Option Addr) (cb co L C : Nat) (x : Nat → Int) (w : World) (hL : L ≤ C) (had : 0 < L → ca = some ⟨cb, co, none⟩) (hc : ∀ i, i < L → w.cell? ⟨cb, co + i, none⟩ = some (.int .u8 (x i)) ∧ 0 ≤ x i ∧ x i ≤ 255) (hLb : L ≤ 1048576) :
    Calls Try.prog 6 #[.slice ca L C] w fun e w' => ∃ v, e = .returned v ∧ OhDrawn (w.heap.size + 2) w' v ∧ Below w.heap.size w w' := by
  have hb0 := below2 w (.cells #[.slice none 0 0] 25) (.cells #[.slice none 0 0, .slice none 0 0] 29)
  have hR0 : Slot1 ((w.alloc (.cells #[.slice none 0 0] 25)).alloc (.cells #[.slice none 0 0, .slice none 0 0] 29)) w.heap.size (.slice none 0 0) := (Slot1.new w _ _).ofB (alloc_old _ _ _ (by simp))
  have hQ0 : BxX ((w.alloc (.cells #[.slice none 0 0] 25)).alloc (.cells #[.slice none 0 0, .slice none 0 0] 29)) (w.heap.size + 1) (.slice none 0 0) (.slice none 0 0) := by
    have := BxX.new (w.alloc (.cells #[.slice none 0 0] 25)) (.slice none 0 0) (.slice none 0 0) 29
    rwa [World.size_alloc] at this
  have hsz0 : ((w.alloc (.cells #[.slice none 0 0] 25)).alloc (.cells #[.slice none 0 0, .slice none 0 0] 29)).heap.size = w.heap.size + 1 + 1 := by simp
  go_enter Try.func6, Try.ntmps6
  go_wp2_with fail
  generalize (w.alloc (.cells #[.slice none 0 0] 25)).alloc (.cells #[.slice none 0 0, .slice none 0 0] 29) = W0 at *
  obtain ⟨Q, hQe⟩ : ∃ Q, w.heap.size + 1 = Q := ⟨_, rfl⟩
  rw [hQe] at hQ0 hsz0 ⊢
  refine (l6Open_any ca cb co L C x _ hL had (fun i hi => ⟨by rw [hb0.cell (p := ⟨cb, co + i, none⟩) (World.block_lt_of_cell? _ _ (hc i hi).1)]; exact (hc i hi).1, (hc i hi).2⟩) hLb).mono ?_
  rintro e w1 ⟨rfl, hr1, hb1⟩
  rw [hsz0] at hr1 ⊢
  obtain ⟨rb, hrb⟩ : ∃ rb, Q + 1 = rb := ⟨_, rfl⟩
  rw [hrb] at hr1 ⊢
  have hb1w : Below w.heap.size w w1 := hb0.trans (hb1.mono (by omega))
  have hR1 := hR0.but (But.of (rb := rb) hb1) (by omega)
  have hQ1 := hQ0.but (But.of (rb := rb) hb1) (by omega)
  have hlt1 := hr1.lt
  clear hc had hb0 hb1 hR0 hQ0
  go_wp2_with fail
  refine (l71Exec_any _ rb 0 _ (by omega) hr1).mono ?_
  rintro e w2 ⟨v, rfl, ⟨a, g, c, mm, fv, ov, l, rows, rfl, hsn, hsm, hwy, h1, h2, h3⟩, p2, hp2, hr2, hb2⟩
  have hR2 := hR1.but hb2 (by omega)
  have hQ2 := hQ1.but hb2 (by omega)
  have hbw2 : Below w.heap.size w w2 := But.below hb1w hb2 (by omega)
  have hsz2 := hb2.size
  obtain ⟨⟨fa, fb, fc, rfl, hfI, hfP⟩, ⟨ra, rbb, rc, rfl, hra, hrr⟩⟩ := hwy
  have hwy : WyP (fun b => rb < b) w2 (.slice fa l.length fc) (.slice ra rows.length rc) l rows := ⟨⟨fa, fb, fc, rfl, hfI, fun h => by have := hfP h; omega⟩, ⟨ra, rbb, rc, rfl, fun h => ⟨(hra h).1, by have := (hra h).2; omega⟩, fun i hi => by
    obtain ⟨a', b', c', q1, q2, q3⟩ := hrr i hi
    exact ⟨a', b', c', q1, q2, fun h => by have := q3 h; omega⟩⟩⟩
  have hsn2 := hsn.mono (N' := rb + 1) (by omega)
  have hq3 : Hid (rows.length = 3) := h2
  have hl2 : rows.length ≤ 1048576 := by omega
  clear hfI hfP hra hrr hsn h2 hR1 hQ1
  have hal := below2 w2 (.cells #[.slice a mm.length c] 25) (.cells #[.slice fa l.length fc, .slice ra rows.length rc] 29)
  have hP3 : Slot1 ((w2.alloc (.cells #[.slice a mm.length c] 25)).alloc (.cells #[.slice fa l.length fc, .slice ra rows.length rc] 29)) w2.heap.size (.slice a mm.length c) := (Slot1.new w2 _ _).ofB (alloc_old _ _ _ (by simp))
  have hX3 : BxX ((w2.alloc (.cells #[.slice a mm.length c] 25)).alloc (.cells #[.slice fa l.length fc, .slice ra rows.length rc] 29)) (w2.heap.size + 1) (.slice fa l.length fc) (.slice ra rows.length rc) := by
    have := BxX.new (w2.alloc (.cells #[.slice a mm.length c] 25)) (.slice fa l.length fc) (.slice ra rows.length rc) 29
    rwa [World.size_alloc] at this
  have hR3 := hR2.but (But.of (rb := rb) hal) (by omega)
  have hQ3 := hQ2.but (But.of (rb := rb) hal) (by omega)
  have hsn3 := hsn2.but (But.of (rb := rb) hal) (by omega)
  have hwy3 := hwy.keep (P' := fun b => rb < b) (fun _ h => h) (fun p u _ hc => (hal.cell (p := p) (World.block_lt_of_cell? _ _ hc)).trans hc)
  have hr3 := hr2.below hal (Nat.le_refl _)
  have hb3 : But rb w1 ((w2.alloc (.cells #[.slice a mm.length c] 25)).alloc (.cells #[.slice fa l.length fc, .slice ra rows.length rc] 29)) := hb2.trans (But.of hal)
  clear hR2 hQ2 hsn2 hwy hr2 hb2 hbw2 hal
  go_wp2_with fail
  generalize (w2.alloc (.cells #[.slice a mm.length c] 25)).alloc (.cells #[.slice fa l.length fc, .slice ra rows.length rc] 29) = w3 at *
  obtain ⟨X, hXe⟩ : ∃ X, w2.heap.size + 1 = X := ⟨_, rfl⟩
  rw [hXe] at hX3 ⊢
  generalize w2.heap.size = P at *
  refine (l71Kind_any _ rb p2 _ (by omega) hr3).mono ?_
  rintro e w4 ⟨kind, rfl, k0, k1, hr4, hb4⟩
  go_wp2_with fail
  refine (pick_rdr _ rb (p2 + 2) _ _ (by omega) (by omega) (by omega) hr4).mono ?_
  rintro e w5 ⟨r5, rfl, r50, r51, hr5, hb5⟩
  go_wp2_with fail
  refine (pick_rdr _ rb (p2 + 2 + 1) _ _ (by omega) (by omega) (by omega) hr5).mono ?_
  rintro e w6 ⟨r6, rfl, r60, r61, hr6, hb6⟩
  go_wp2_with fail
  refine (pick_rdr _ rb (p2 + 2 + 1 + 1) _ _ (by omega) (by omega) (by omega) hr6).mono ?_
  rintro e w7 ⟨r7, rfl, r70, r71, hr7, hb7⟩
  go_wp2_with fail
  refine (pick_rdr _ rb (p2 + 2 + 1 + 1 + 1) _ _ (by omega) (by omega) (by omega) hr7).mono ?_
  rintro e w8 ⟨r8, rfl, r80, r81, hr8, hb8⟩
  have bt : But rb w3 w8 := ((((hb4.trans hb5).trans hb6).trans hb7).trans hb8)
  clear hb4 hb5 hb6 hb7 hb8 hr4 hr5 hr6 hr7 hr3
  have hR8 := hR3.but bt (by omega)
  have hQ8 := hQ3.but bt (by omega)
  have hP8 := hP3.but bt (by omega)
  have hX8 := hX3.but bt (by omega)
  have hsn8 := hsn3.but bt (by omega)
  have hwy8 := hwy3.keep (P' := fun b => rb < b) (fun _ h => h) (fun p u hp hc => (bt.cell (p := p) (World.block_lt_of_cell? _ _ hc) (by show p.block ≠ rb; omega)).trans hc)
  have hb8 := hb3.trans bt
  clear hR3 hQ3 hP3 hX3 hsn3 hwy3 hb3 bt
  have hl3 : mm.length ≤ 1048576 := by have := hsm.three; omega
  have hls : ∀ t ∈ mm, t.length ≤ 1048576 := fun t ht => by have := hsm.steps t ht; omega
  have hl1 : l.length ≤ 1048576 := by omega
  have hrs : ∀ r ∈ rows, r.length ≤ 1048576 := fun r hr => by have := h3 r hr; omega
  go_wp2_with fail
  go_loopw [12, 13, 14] (fun s12 s13 s14 wr => ∃ (i p : Nat) (na nb : Int), s14 = .int .i64 i ∧ i ≤ 8 ∧ s12 = .int .i64 na ∧ s13 = .int .i64 nb ∧ (-1 ≤ na ∧ na ≤ 50) ∧ (-1 ≤ nb ∧ nb ≤ 50) ∧ p ≤ 20000 + 3 * i ∧ Rdr wr rb rb p ∧ But rb w8 wr) (fun _ _ s14 _ => 8 - (intOf s14).toNat)
  case atStart => exact ⟨0, _, _, _, rfl, by omega, rfl, rfl, ⟨by (try rw [IntKind.wrap_i64]); omega, by (try rw [IntKind.wrap_i64]); omega⟩, ⟨by (try rw [IntKind.wrap_i64]); omega, by (try rw [IntKind.wrap_i64]); omega⟩, (by show p2 + 2 + 1 + 1 + 1 + 1 ≤ _; omega), hr8, But.refl _ _⟩
  case round =>
    obtain ⟨i, p, na, nb, rfl, hi, rfl, rfl, hna, hnb, hp, hr, hbt⟩ := hrel
    have hRr := hR8.but hbt (by omega)
    have hQr := hQ8.but hbt (by omega)
    have hPr := hP8.but hbt (by omega)
    have hXr := hX8.but hbt (by omega)
    have hsnr := hsn8.but hbt (by omega)
    have hwyr := hwy8.keep (P' := fun b => rb < b) (fun _ h => h) (fun p u hp hc => (hbt.cell (p := p) (World.block_lt_of_cell? _ _ hc) (by show p.block ≠ rb; omega)).trans hc)
    have hbr := hb8.trans hbt
    clear hr8
    by_cases hlt : i < 8
    · have i1 : (i : Int) < 8 := by omega
      go_wp2_with fail
      refine (pick_rdr _ rb p _ _ (by omega) (by omega) (by omega) hr).mono ?_
      rintro e wa ⟨ra', rfl, ra0, ra1, hra, hba⟩
      by_cases h0 : ra' = 0
      · subst h0
        have hRz := hRr.but hba (by omega)
        have hQz := hQr.but hba (by omega)
        have hPz := hPr.but hba (by omega)
        have hXz := hXr.but hba (by omega)
        have hsnz := hsnr.but hba (by omega)
        have hwyz := hwyr.keep (P' := fun b => rb < b) (fun _ h => h) (fun p u hp hc => (hba.cell (p := p) (World.block_lt_of_cell? _ _ hc) (by show p.block ≠ rb; omega)).trans hc)
        have hbz := hbr.trans hba
        clear hRr hQr hPr hXr hsnr hwyr
        go_wp2_with fail
        have P6 := hPz.c
        have R6 := hRz.c
        have R6f := hRz.fz
        have Q60 := hQz.c0
        have Q61 := hQz.c1
        have Q6f := hQz.fz
        have X60 := hXz.c0
        have X61 := hXz.c1
        have nRQ : w.heap.size ≠ Q := by omega
        have nQR : Q ≠ w.heap.size := by omega
        go_region
        go_wp2_with fail
        have hF := ((hwyz.set (P' := fun b => rb < b) (B := w.heap.size) (i := 0) (u := .slice a mm.length c) (fun b hb => ⟨hb, by omega⟩)).set (P' := fun b => rb < b) (B := Q) (i := 0) (u := .slice fa l.length fc) (fun b hb => ⟨hb, by omega⟩)).set (P' := fun b => w.heap.size + 2 ≤ b) (B := Q) (i := 1) (u := .slice ra rows.length rc) (fun b hb => ⟨by omega, by omega⟩)
        have hS := (((hsnz.far (B := w.heap.size) (i := 0) (u := .slice a mm.length c) (by omega)).far (B := Q) (i := 0) (u := .slice fa l.length fc) (by omega)).far (B := Q) (i := 1) (u := .slice ra rows.length rc) (by omega)).mono (N' := w.heap.size + 2) (by omega)
        have q6 := (hQz.far (i := 0) (b' := w.heap.size) (by omega) (.slice a mm.length c)).set0 (.slice fa l.length fc)
        have F1 := (((hRz.set (.slice a mm.length c)).far (i := 0) (b' := Q) (by omega) (.slice fa l.length fc)).far (i := 1) (b' := Q) (by omega) (.slice ra rows.length rc)).c
        have F2 := (World.cell?_setCell_other _ ⟨Q, 1, none⟩ ⟨Q, 0, none⟩ (.slice ra rows.length rc) (fun e => by have := congrArg Addr.off e; simp at this)).trans q6.c0
        have F3 := World.cell?_setCell_same _ ⟨Q, 1, none⟩ (.slice ra rows.length rc) q6.c1
        have hbF := ((((But.below hb1w hbz (by omega)).setCell (p := ⟨w.heap.size, 0, none⟩) (Nat.le_refl _) (.slice a mm.length c)).setCell (p := ⟨Q, 0, none⟩) (by show w.heap.size ≤ Q; omega) (.slice fa l.length fc)).setCell (p := ⟨Q, 1, none⟩) (by show w.heap.size ≤ Q; omega) (.slice ra rows.length rc)).drew
        have hSd := hS.but (But.refl 0 _).drew (by omega)
        have hFd := hF.keep (P' := fun b => w.heap.size + 2 ≤ b) (w' := (((wa.setCell ⟨w.heap.size, 0, none⟩ (.slice a mm.length c)).setCell ⟨Q, 0, none⟩ (.slice fa l.length fc)).setCell ⟨Q, 1, none⟩ (.slice ra rows.length rc)).drew) (fun _ h => h) (fun _ _ _ hc => hc)
        refine bodyPost_ret (v := .tuple #[.agg #[.slice a mm.length c], .agg #[.slice fa l.length fc, .slice ra rows.length rc], .int .i64 kind, .int .i64 na, .int .i64 nb]) (by simp [results, Try.results6, go_sem, F1, F2, F3]) rfl ⟨_, rfl, ⟨a, g, c, mm, _, _, l, rows, kind, na, nb, rfl, hSd, hsm, hFd, h1, hq3.out, h3, ⟨k0, k1⟩, hna, hnb⟩, hbF⟩
      · have h0' : (0 : Int) < ra' := by omega
        have hPa := hPr.but hba (by omega)
        have hXa := hXr.but hba (by omega)
        have hsna := hsnr.but hba (by omega)
        have hwya := hwyr.keep (P' := fun b => rb < b) (fun _ h => h) (fun p u hp hc => (hba.cell (p := p) (World.block_lt_of_cell? _ _ hc) (by show p.block ≠ rb; omega)).trans hc)
        obtain ⟨fa', fb', fc', ra2, rb2, rc2, ef, eo, hfI, hoI⟩ := hwya.ss
        simp only [Value.slice.injEq] at ef eo
        obtain ⟨rfl, -, rfl⟩ := ef
        obtain ⟨rfl, -, rfl⟩ := eo
        have CH := sorderHas_any a g 0 c mm fa fb' 0 fc l ra rb2 0 rc rows kind na nb wa hl3 hls hl1 hrs hsna.ss hfI hoI
        have pa := hPa.c
        have xa0 := hXa.c0
        have xa1 := hXa.c1
        cases hH : M.orderHas mm l rows kind na nb
        · rw [hH] at CH
          go_wp2_with fail
          refine CH.mono ?_
          rintro e wb ⟨rfl, bb⟩
          have hrb := hra.below bb (Nat.le_refl _)
          have hbb := (hbt.trans hba).trans (But.of bb)
          clear CH pa xa0 xa1
          go_wp2_with fail
          refine (pick_rdr _ rb (p + 1) _ _ (by omega) (by omega) (by omega) hrb).mono ?_
          rintro e wc ⟨rc', rfl, rc0, rc1, hrc, hbc⟩
          go_wp2_with fail
          refine (pick_rdr _ rb (p + 1 + 1) _ _ (by omega) (by omega) (by omega) hrc).mono ?_
          rintro e wd ⟨rd', rfl, rd0, rd1, hrd, hbd⟩
          go_wp2_with fail
          exact ⟨⟨i + 1, p + 1 + 1 + 1, rc', rd', by go_num, by omega, rfl, rfl, ⟨by omega, by omega⟩, ⟨by omega, by omega⟩, by omega, hrd, (hbb.trans hbc).trans hbd⟩, by simp [intOf]; omega⟩
        · rw [hH] at CH
          go_wp2_with fail
          refine CH.mono ?_
          rintro e wb ⟨rfl, bb⟩
          have hRz := (hRr.but hba (by omega)).but (But.of (rb := rb) bb) (by omega)
          have hQz := (hQr.but hba (by omega)).but (But.of (rb := rb) bb) (by omega)
          have hPz := hPa.but (But.of (rb := rb) bb) (by omega)
          have hXz := hXa.but (But.of (rb := rb) bb) (by omega)
          have hsnz := hsna.but (But.of (rb := rb) bb) (by omega)
          have hwyz := hwya.keep (P' := fun b => rb < b) (fun _ h => h) (fun p u hp hc => (bb.cell (p := p) (World.block_lt_of_cell? _ _ hc)).trans hc)
          have hbz := (hbr.trans hba).trans (But.of bb)
          clear hRr hQr hPr hXr hsnr hwyr CH pa xa0 xa1 hPa hXa hsna hwya hfI hoI
          go_wp2_with fail
          have P6 := hPz.c
          have R6 := hRz.c
          have R6f := hRz.fz
          have Q60 := hQz.c0
          have Q61 := hQz.c1
          have Q6f := hQz.fz
          have X60 := hXz.c0
          have X61 := hXz.c1
          have nRQ : w.heap.size ≠ Q := by omega
          have nQR : Q ≠ w.heap.size := by omega
          go_region
          go_wp2_with fail
          have hF := ((hwyz.set (P' := fun b => rb < b) (B := w.heap.size) (i := 0) (u := .slice a mm.length c) (fun b hb => ⟨hb, by omega⟩)).set (P' := fun b => rb < b) (B := Q) (i := 0) (u := .slice fa l.length fc) (fun b hb => ⟨hb, by omega⟩)).set (P' := fun b => w.heap.size + 2 ≤ b) (B := Q) (i := 1) (u := .slice ra rows.length rc) (fun b hb => ⟨by omega, by omega⟩)
          have hS := (((hsnz.far (B := w.heap.size) (i := 0) (u := .slice a mm.length c) (by omega)).far (B := Q) (i := 0) (u := .slice fa l.length fc) (by omega)).far (B := Q) (i := 1) (u := .slice ra rows.length rc) (by omega)).mono (N' := w.heap.size + 2) (by omega)
          have q6 := (hQz.far (i := 0) (b' := w.heap.size) (by omega) (.slice a mm.length c)).set0 (.slice fa l.length fc)
          have F1 := (((hRz.set (.slice a mm.length c)).far (i := 0) (b' := Q) (by omega) (.slice fa l.length fc)).far (i := 1) (b' := Q) (by omega) (.slice ra rows.length rc)).c
          have F2 := (World.cell?_setCell_other _ ⟨Q, 1, none⟩ ⟨Q, 0, none⟩ (.slice ra rows.length rc) (fun e => by have := congrArg Addr.off e; simp at this)).trans q6.c0
          have F3 := World.cell?_setCell_same _ ⟨Q, 1, none⟩ (.slice ra rows.length rc) q6.c1
          have hbF := ((((But.below hb1w hbz (by omega)).setCell (p := ⟨w.heap.size, 0, none⟩) (Nat.le_refl _) (.slice a mm.length c)).setCell (p := ⟨Q, 0, none⟩) (by show w.heap.size ≤ Q; omega) (.slice fa l.length fc)).setCell (p := ⟨Q, 1, none⟩) (by show w.heap.size ≤ Q; omega) (.slice ra rows.length rc)).drew
          have hSd := hS.but (But.refl 0 _).drew (by omega)
          have hFd := hF.keep (P' := fun b => w.heap.size + 2 ≤ b) (w' := (((wb.setCell ⟨w.heap.size, 0, none⟩ (.slice a mm.length c)).setCell ⟨Q, 0, none⟩ (.slice fa l.length fc)).setCell ⟨Q, 1, none⟩ (.slice ra rows.length rc)).drew) (fun _ h => h) (fun _ _ _ hc => hc)
          refine bodyPost_ret (v := .tuple #[.agg #[.slice a mm.length c], .agg #[.slice fa l.length fc, .slice ra rows.length rc], .int .i64 kind, .int .i64 na, .int .i64 nb]) (by simp [results, Try.results6, go_sem, F1, F2, F3]) rfl ⟨_, rfl, ⟨a, g, c, mm, _, _, l, rows, kind, na, nb, rfl, hSd, hsm, hFd, h1, hq3.out, h3, ⟨k0, k1⟩, hna, hnb⟩, hbF⟩
    · have hRz := hRr
      have hQz := hQr
      have hPz := hPr
      have hXz := hXr
      have hsnz := hsnr
      have hwyz := hwyr
      have hbz := hbr
      clear hRr hQr hPr hXr hsnr hwyr hbr
      go_wp2_with fail
      have P6 := hPz.c
      have R6 := hRz.c
      have R6f := hRz.fz
      have Q60 := hQz.c0
      have Q61 := hQz.c1
      have Q6f := hQz.fz
      have X60 := hXz.c0
      have X61 := hXz.c1
      have nRQ : w.heap.size ≠ Q := by omega
      have nQR : Q ≠ w.heap.size := by omega
      go_region
      go_wp2_with fail
      have hF := ((hwyz.set (P' := fun b => rb < b) (B := w.heap.size) (i := 0) (u := .slice a mm.length c) (fun b hb => ⟨hb, by omega⟩)).set (P' := fun b => rb < b) (B := Q) (i := 0) (u := .slice fa l.length fc) (fun b hb => ⟨hb, by omega⟩)).set (P' := fun b => w.heap.size + 2 ≤ b) (B := Q) (i := 1) (u := .slice ra rows.length rc) (fun b hb => ⟨by omega, by omega⟩)
      have hS := (((hsnz.far (B := w.heap.size) (i := 0) (u := .slice a mm.length c) (by omega)).far (B := Q) (i := 0) (u := .slice fa l.length fc) (by omega)).far (B := Q) (i := 1) (u := .slice ra rows.length rc) (by omega)).mono (N' := w.heap.size + 2) (by omega)
      have q6 := (hQz.far (i := 0) (b' := w.heap.size) (by omega) (.slice a mm.length c)).set0 (.slice fa l.length fc)
      have F1 := (((hRz.set (.slice a mm.length c)).far (i := 0) (b' := Q) (by omega) (.slice fa l.length fc)).far (i := 1) (b' := Q) (by omega) (.slice ra rows.length rc)).c
      have F2 := (World.cell?_setCell_other _ ⟨Q, 1, none⟩ ⟨Q, 0, none⟩ (.slice ra rows.length rc) (fun e => by have := congrArg Addr.off e; simp at this)).trans q6.c0
      have F3 := World.cell?_setCell_same _ ⟨Q, 1, none⟩ (.slice ra rows.length rc) q6.c1
      have hbF := ((((But.below hb1w hbz (by omega)).setCell (p := ⟨w.heap.size, 0, none⟩) (Nat.le_refl _) (.slice a mm.length c)).setCell (p := ⟨Q, 0, none⟩) (by show w.heap.size ≤ Q; omega) (.slice fa l.length fc)).setCell (p := ⟨Q, 1, none⟩) (by show w.heap.size ≤ Q; omega) (.slice ra rows.length rc)).drew
      have hSd := hS.but (But.refl 0 _).drew (by omega)
      have hFd := hF.keep (P' := fun b => w.heap.size + 2 ≤ b) (w' := (((wr.setCell ⟨w.heap.size, 0, none⟩ (.slice a mm.length c)).setCell ⟨Q, 0, none⟩ (.slice fa l.length fc)).setCell ⟨Q, 1, none⟩ (.slice ra rows.length rc)).drew) (fun _ h => h) (fun _ _ _ hc => hc)
      refine bodyPost_ret (v := .tuple #[.agg #[.slice a mm.length c], .agg #[.slice fa l.length fc, .slice ra rows.length rc], .int .i64 kind, .int .i64 na, .int .i64 nb]) (by simp [results, Try.results6, go_sem, F1, F2, F3]) rfl ⟨_, rfl, ⟨a, g, c, mm, _, _, l, rows, kind, na, nb, rfl, hSd, hsm, hFd, h1, hq3.out, h3, ⟨k0, k1⟩, hna, hnb⟩, hbF⟩
end Go.Proofs.Ytdlpdiioggiehaa

namespace Go.Proofs.Ytdlpdiioggiehaa
open Go.RowKit

structure BxW (w W : World) (P X : Nat) (a : Option Addr) (g c : Nat) (mm : List (List M.D)) (fa : Option Addr) (fb fc : Nat) (l : List Int) (ra : Option Addr) (rb rc : Nat) (rows : List (List Int)) : Prop where
  bel : Below w.heap.size w W
  p : Slot1 W P (.slice a mm.length c)
  x : BxX W X (.slice fa l.length fc) (.slice ra rows.length rc)
  ss : DoSS W a g 0 mm
  f : IntS W fa fb 0 l
  o : IntSS W ra rb 0 rows
theorem BxW.below {w W W' : World} {P X : Nat} {a : Option Addr} {g c : Nat} {mm : List (List M.D)} {fa : Option Addr} {fb fc : Nat} {l : List Int} {ra : Option Addr} {rb rc : Nat} {rows : List (List Int)} (h : BxW w W P X a g c mm fa fb fc l ra rb rc rows) (hb : Below W.heap.size W W') : BxW w W' P X a g c mm fa fb fc l ra rb rc rows :=
  ⟨h.bel.trans (hb.mono h.bel.size), h.p.ofB (hb.block P h.p.lt), h.x.of (hb.block X h.x.lt), h.ss.below hb (Nat.le_refl _), h.f.below hb (Nat.le_refl _), h.o.below hb (Nat.le_refl _)⟩
theorem BxW.new {w w1 : World} {a : Option Addr} {g c : Nat} {mm : List (List M.D)} {fa : Option Addr} {fb fc : Nat} {l : List Int} {ra : Option Addr} {rb rc : Nat} {rows : List (List Int)} (hb : Below w.heap.size w w1) (hs : DoSS w1 a g 0 mm) (hf : IntS w1 fa fb 0 l) (ho : IntSS w1 ra rb 0 rows) :
    BxW w ((w1.alloc (.cells #[.slice a mm.length c] 25)).alloc (.cells #[.slice fa l.length fc, .slice ra rows.length rc] 29)) w1.heap.size (w1.heap.size + 1) a g c mm fa fb fc l ra rb rc rows := by
  have h2 := below2 w1 (.cells #[.slice a mm.length c] 25) (.cells #[.slice fa l.length fc, .slice ra rows.length rc] 29)
  have hx := BxX.new (w1.alloc (.cells #[.slice a mm.length c] 25)) (.slice fa l.length fc) (.slice ra rows.length rc) 29
  rw [World.size_alloc] at hx
  exact ⟨hb.trans (h2.mono hb.size), (Slot1.new w1 _ _).ofB (alloc_old _ _ _ (by simp)), hx, hs.below h2 (Nat.le_refl _), hf.below h2 (Nat.le_refl _), ho.below h2 (Nat.le_refl _)⟩
end Go.Proofs.Ytdlpdiioggiehaa

namespace Go.Proofs.Ytdlpdiioggiehaa
namespace M

theorem must_told {ll : List (List D)} {l : List Int} {rows : List (List Int)} (h : execOk ll l rows = true) (k : Nat) {a b : Nat} (ha : a < (deeds ll).length) (hb : b < (deeds ll).length) : mustAt (deeds ll) l rows k a b = (stays (deeds ll) k a b (deeds ll)[a] (deeds ll)[b] || told l rows k a b (deeds ll)[a] (deeds ll)[b]) := by
  simp only [execOk, wayOk, Bool.and_eq_true] at h
  obtain ⟨hp, hf, _⟩ := h
  have hr : run false (deeds ll) = some false := by
    simp only [prog, Bool.and_eq_true, decide_eq_true_eq] at hp
    exact run_ok (from_thr ll 0 0 hp.2)
  rw [mustAt, List.getElem?_eq_getElem ha, List.getElem?_eq_getElem hb]
  exact (must_eq hf hr k ha hb).symm
theorem rw_no (k : Int) : (writes k && reads k) = false := by
  cases h : reads k
  · simp
  · simp only [reads, Bool.or_eq_true, beq_iff_eq] at h
    rcases h with rfl | rfl <;> decide
theorem keeps_no {ds : List De} {a b : Nat} {x y : De} (h : sKeeps ds a b x y = true) : (writes x.d.k && reads y.d.k) = false := by
  cases hw : writes x.d.k
  · rfl
  · cases hr : reads y.d.k
    · rfl
    · exfalso
      have e1 : x.d.k = 1 ∨ x.d.k = 6 ∨ x.d.k = 3 := by
        simp only [writes, stores, Bool.or_eq_true, beq_iff_eq] at hw
        omega
      have e2 : y.d.k = 2 ∨ y.d.k = 5 := by
        simpa only [reads, Bool.or_eq_true, beq_iff_eq] using hr
      simp only [sKeeps, isWall, inside, copyOf, Bool.or_eq_true, Bool.and_eq_true, beq_iff_eq] at h
      omega
theorem stays_self (ds : List De) (k a : Nat) (x : De) : stays ds k a a x x = false := by
  have : own a a x x = false := by simp [own]
  unfold stays
  split <;> simp [late, this]
theorem told_self (l : List Int) (rows : List (List Int)) (k a : Nat) (x : De) : told l rows k a a x x = false := by
  have h1 : sRead l a a x x = false := by
    unfold sRead
    rw [← Bool.and_assoc, rw_no, Bool.false_and]
  have h2 : sOver l rows a a x x = false := by simp [sOver]
  unfold told
  split <;> simp [h1, h2]
/-- No event must be ahead of itself by itself. -/
theorem has_self (ll : List (List D)) (l : List Int) (rows : List (List Int)) (kind a : Int) : orderHas ll l rows kind a a = false := by
  cases h : orderHas ll l rows kind a a
  · rfl
  · exfalso
    simp only [orderHas, Bool.and_eq_true, inR, decide_eq_true_eq] at h
    obtain ⟨_, he, ⟨a0, a1⟩, _, hm⟩ := h
    obtain ⟨n, rfl⟩ := Int.eq_ofNat_of_zero_le a0
    rw [Int.toNat_natCast, must_told he _ (show n < (deeds ll).length by omega) (show n < (deeds ll).length by omega), stays_self, told_self] at hm
    cases hm
theorem has_less {ll : List (List D)} {l : List Int} {rows : List (List Int)} {k k' : Nat} (h1 : 1 ≤ k') (h3 : k' ≤ 3) (hs : ∀ (a b : Nat) (x y : De), stays (deeds ll) k a b x y = true → stays (deeds ll) k' a b x y = true) (ht : ∀ (a b : Nat) (x y : De), told l rows k a b x y = true → told l rows k' a b x y = true) {a b : Int} (h : orderHas ll l rows k a b = true) : orderHas ll l rows k' a b = true := by
  simp only [orderHas, Bool.and_eq_true, inR, decide_eq_true_eq] at h ⊢
  obtain ⟨_, he, ⟨a0, a1⟩, ⟨b0, b1⟩, hm⟩ := h
  refine ⟨⟨by omega, by omega⟩, he, ⟨a0, a1⟩, ⟨b0, b1⟩, ?_⟩
  obtain ⟨n, rfl⟩ := Int.eq_ofNat_of_zero_le a0
  obtain ⟨m, rfl⟩ := Int.eq_ofNat_of_zero_le b0
  have hn : n < (deeds ll).length := by omega
  have hm' : m < (deeds ll).length := by omega
  rw [Int.toNat_natCast, Int.toNat_natCast, Int.toNat_natCast, must_told he _ hn hm', Bool.or_eq_true] at hm ⊢
  exact hm.imp (hs _ _ _ _) (ht _ _ _ _)
theorem has_late {ll : List (List D)} {l : List Int} {rows : List (List Int)} {a b : Int} (h : orderHas ll l rows 2 a b = true) : orderHas ll l rows 1 a b = true :=
  has_less (k := 2) (k' := 1) (by decide) (by decide) (fun a b x y h => by
    simp only [stays, late, Bool.and_eq_true] at h ⊢; exact h.1) (fun a b x y h => by
    simp only [told, Bool.or_eq_true, Bool.and_eq_true] at h ⊢; exact h.imp (·.2) id) h
theorem has_loose {ll : List (List D)} {l : List Int} {rows : List (List Int)} {a b : Int} (h : orderHas ll l rows 3 a b = true) : orderHas ll l rows 2 a b = true :=
  has_less (k := 3) (k' := 2) (by decide) (by decide) (fun a b x y h => by
    simp only [stays, late, Bool.and_eq_true] at h ⊢
    exact ⟨h.1, by rw [keeps_no h.2]; rfl⟩) (fun a b x y h => by
    simp only [told, Bool.or_eq_true, Bool.and_eq_true] at h ⊢
    rcases h with ⟨h1, h2 | h2⟩
    · exact .inl ⟨h1, h2⟩
    · exact .inr h2) h
/-- By the strict order a thread's events stay in order; by the late one all but reads behind writes. -/
theorem has_own {ll : List (List D)} {l : List Int} {rows : List (List Int)} (he : execOk ll l rows = true) {a b : Nat} (hab : a < b) (hb : b < (deeds ll).length) (ht : (deeds ll)[a].t = (deeds ll)[b].t) : orderHas ll l rows 1 a b = true ∧ ((writes (deeds ll)[a].d.k && reads (deeds ll)[b].d.k) = false → orderHas ll l rows 2 a b = true) := by
  have ha : a < (deeds ll).length := by omega
  have ho : own a b (deeds ll)[a] (deeds ll)[b] = true := by simp [own, hab, ht]
  simp only [orderHas, Bool.and_eq_true, inR, decide_eq_true_eq]
  refine ⟨⟨⟨by decide, by decide⟩, he, ⟨by omega, by omega⟩, ⟨by omega, by omega⟩, ?_⟩, fun hn => ⟨⟨by decide, by decide⟩, he, ⟨by omega, by omega⟩, ⟨by omega, by omega⟩, ?_⟩⟩
  · rw [Int.toNat_natCast, Int.toNat_natCast, must_told he _ ha hb]
    simp [stays, ho]
  · rw [Int.toNat_natCast, Int.toNat_natCast, must_told he _ ha hb]
    simp [stays, late, ho, hn]
end M
end Go.Proofs.Ytdlpdiioggiehaa
