/- spec's ways: what an event reads or writes. Of at most 1048576 threads, steps. -/
import Derived.Test.YtdpnnghomfaleaaOsSrc
import Derived.Test.YtdpnnghomfaleaaOsWr
import Derived.Test.YtdpnnghomfaleaaOkEnd
namespace Go.Proofs.Ytdpnnghomfaleaa
open Go.RowKit

/-- What an event reads, or writes, in so many steps at most. -/
def M.val (ds : List M.De) (l : List Int) : Nat → Int → Int
  | 0, i => if i < 0 then 0 else -1
  | m + 1, i => if i < 0 then 0 else match ds[i.toNat]? with
    | none => 0
    | some x => if x.reads then M.val ds l m (l.getD i.toNat 0) else if x.d.k == 3 then M.val ds l m x.lr else x.d.v
theorem M.val_neg (ds : List M.De) (l : List Int) (m : Nat) {i : Int} (h : i < 0) : M.val ds l m i = 0 := by
  cases m <;> simp [M.val, h]
theorem M.val_at (ds : List M.De) (l : List Int) (m n : Nat) (h : n < ds.length) (h2 : n < l.length) : M.val ds l (m + 1) n = if ds[n].reads then M.val ds l m l[n] else if ds[n].d.k == 3 then M.val ds l m ds[n].lr else ds[n].d.v := by
  rw [M.val, if_neg (by omega), Int.toNat_natCast, List.getElem?_eq_getElem h, List.getD_eq_getElem?_getD, List.getElem?_eq_getElem h2]
  rfl
/-- It comes to an end just where the origin is found. -/
theorem M.val_orig {ds : List M.De} {l : List Int} (hin : M.In ds l) (hv : ∀ x ∈ ds, 0 ≤ x.d.v) (hll : l.length = ds.length) : ∀ (m n : Nat), n < ds.length → (decide (0 ≤ M.val ds l m n) = (M.orig ds l m n).isSome) := by
  intro m
  induction m with
  | zero => intro n _; rw [M.val, if_neg (by omega)]; rfl
  | succ m ih =>
    intro n hn
    have hi := hin n hn
    rw [M.val_at ds l m n hn (by omega), M.orig]
    have hvf : M.valFrom ds l n = if ds[n].reads then l[n] else if ds[n].d.k == 3 then ds[n].lr else -1 := by
      simp [M.valFrom, hn, show n < l.length by omega]
    have step : ∀ f : Int, f < ds.length → decide (0 ≤ M.val ds l m f) = (if f < 0 then some n else M.orig ds l m f.toNat).isSome := by
      intro f hf
      by_cases h0 : f < 0
      · rw [M.val_neg _ _ _ h0, if_pos h0]; rfl
      · rw [if_neg h0]
        obtain ⟨k, rfl⟩ : ∃ k : Nat, f = k := ⟨f.toNat, by omega⟩
        rw [Int.toNat_natCast]
        exact ih k (by omega)
    rw [hvf] at hi ⊢
    by_cases hr : ds[n].reads = true
    · rw [if_pos hr] at hi ⊢
      rw [if_pos hr]
      exact step _ hi
    · rw [if_neg hr] at hi ⊢
      rw [if_neg hr]
      by_cases h3 : (ds[n].d.k == 3) = true
      · rw [if_pos h3] at hi ⊢
        rw [if_pos h3]
        exact step _ hi
      · rw [if_neg h3, if_neg h3, if_pos (by omega)]
        simp [hv _ (List.getElem_mem hn)]

set_option maxHeartbeats 2000000 in
set_option maxRecDepth 100000 in
theorem l12Val_any (a : Option Addr) (b o c : Nat) (ll : List (List M.D)) (va : Option Addr) (g cc : Nat) (fa : Option Addr) (fb fo fc : Nat) (l : List Int) (ra : Value) (hl : ll.length ≤ 1048576) (hls : ∀ t ∈ ll, t.length ≤ 1048576) (hdl : (M.deeds ll).length ≤ 42) (HLL : Hid (l.length = (M.deeds ll).length)) (hin : M.In (M.deeds ll) l) :
    ∀ (m : Nat) (i : Int) (w : World), m ≤ 1048576 → i < (M.deeds ll).length → DoSS w a b o ll → DvS w va g (M.deeds ll) → IntS w fa fb fo l →
    Calls Try.prog 67 #[.agg #[.slice a ll.length c], .slice va (M.deeds ll).length cc, .agg #[.slice fa l.length fc, ra], .int .i64 i, .int .i64 m] w fun e w' => e = .returned (.int .i64 (M.val (M.deeds ll) l m i)) ∧ Below w.heap.size w w' := by
  intro m
  induction m with
  | zero =>
    intro i w _ hi h hd hf
    have hb2 := below2 w (.cells #[.slice a ll.length c] 34) (.cells #[.slice fa l.length fc, ra] 36)
    by_cases h0 : i < 0
    · go_enter Try.func67, Try.ntmps67
      go_wp2_with fail
      go_ret
      exact ⟨by rw [M.val_neg _ _ _ h0]; rfl, hb2⟩
    · have h0' : decide (i < 0) = false := by simpa using h0
      go_enter Try.func67, Try.ntmps67
      go_wp2_with fail
      go_ret
      exact ⟨by rw [M.val, if_neg (by omega)]; rfl, hb2⟩
  | succ m ih =>
    intro i w hm hi h hd hf
    have hb2 := below2 w (.cells #[.slice a ll.length c] 34) (.cells #[.slice fa l.length fc, ra] 36)
    by_cases h0 : i < 0
    · go_enter Try.func67, Try.ntmps67
      go_wp2_with fail
      go_ret
      exact ⟨by rw [M.val_neg _ _ _ h0]; rfl, hb2⟩
    · obtain ⟨n, rfl⟩ : ∃ n : Nat, i = n := ⟨i.toNat, by omega⟩
      have hn : n < (M.deeds ll).length := by omega
      have hnl : n < l.length := by rw [HLL.out]; exact hn
      have HV : Hid (M.val (M.deeds ll) l (m + 1) n = if (M.deeds ll)[n].reads then M.val (M.deeds ll) l m l[n] else if (M.deeds ll)[n].d.k == 3 then M.val (M.deeds ll) l m (M.deeds ll)[n].lr else (M.deeds ll)[n].d.v) := M.val_at _ _ _ _ hn hnl
      have hox := M.ofEv _ (List.getElem_mem hn)
      have hfr := hin n hn
      have hvf : M.valFrom (M.deeds ll) l n = if (M.deeds ll)[n].reads then l[n] else if (M.deeds ll)[n].d.k == 3 then (M.deeds ll)[n].lr else -1 := by
        simp [M.valFrom, hn, hnl]
      rw [hvf] at hfr
      have HFR : Hid ((if (M.deeds ll)[n].reads then l[n] else if (M.deeds ll)[n].d.k == 3 then (M.deeds ll)[n].lr else -1) < ((M.deeds ll).length : Int)) := hfr
      have HSR : Hid ((M.deeds ll)[n].reads = false → M.src (M.deeds ll) (M.deeds ll)[n].t n = (M.deeds ll)[n].lr) := M.src_ok ll n hn
      clear hvf hfr
      obtain ⟨rfl⟩ := hd.addr (by omega)
      obtain ⟨rfl⟩ := hf.addr (by omega)
      obtain ⟨f, hfe⟩ : ∃ f, l[n] = f := ⟨_, rfl⟩
      have hfc := hf.row n hnl
      rw [hfe] at hfc HV HFR
      clear hfe
      obtain ⟨x, hxe⟩ : ∃ x, (M.deeds ll)[n] = x := ⟨_, rfl⟩
      have HXT : Hid ((M.deeds ll)[n].t = x.t) := by show _ = _; rw [hxe]
      obtain ⟨c0, c1, c2⟩ := hd.at hn
      rw [hxe] at HV HFR HSR hox c0 c1 c2
      clear hxe
      have i1 : (n : Int) < (M.deeds ll).length := by omega
      have i2 : (n : Int) < l.length := by omega
      have kp : ((w.alloc (.cells #[.slice a ll.length c] 34)).alloc (.cells #[.slice (some ⟨fb, fo, none⟩) l.length fc, ra] 36)).cell? ⟨w.heap.size, 0, none⟩ = some (.slice a ll.length c) := by simp
      have k0 : ((w.alloc (.cells #[.slice a ll.length c] 34)).alloc (.cells #[.slice (some ⟨fb, fo, none⟩) l.length fc, ra] 36)).cell? ⟨w.heap.size + 1, 0, none⟩ = some (.slice (some ⟨fb, fo, none⟩) l.length fc) := by simp
      have k1 : ((w.alloc (.cells #[.slice a ll.length c] 34)).alloc (.cells #[.slice (some ⟨fb, fo, none⟩) l.length fc, ra] 36)).cell? ⟨w.heap.size + 1, 1, none⟩ = some ra := by simp
      have c0 := (hb2.cell (p := ⟨g, n * 3, none⟩) (World.block_lt_of_cell? _ _ c0)).trans c0
      have c1 := (hb2.cell (p := ⟨g, n * 3 + 1, none⟩) (World.block_lt_of_cell? _ _ c1)).trans c1
      have c2 := (hb2.cell (p := ⟨g, n * 3 + 2, none⟩) (World.block_lt_of_cell? _ _ c2)).trans c2
      have hfc := (hb2.cell (p := ⟨fb, fo + n, none⟩) (World.block_lt_of_cell? _ _ hfc)).trans hfc
      replace h := h.below hb2 (Nat.le_refl _)
      replace hd := hd.bel hb2 (Nat.le_refl _)
      replace hf := hf.below hb2 (Nat.le_refl _)
      go_enter Try.func67, Try.ntmps67
      go_wp2_with fail
      generalize (w.alloc (.cells #[.slice a ll.length c] 34)).alloc (.cells #[.slice (some ⟨fb, fo, none⟩) l.length fc, ra] 36) = wr at *
      have lg : g < wr.heap.size := World.block_lt_of_cell? _ _ c0
      have lf : fb < wr.heap.size := World.block_lt_of_cell? _ _ hfc
      have lw1 : w.heap.size + 1 < wr.heap.size := World.block_lt_of_cell? _ _ k0
      have lw : w.heap.size < wr.heap.size := World.block_lt_of_cell? _ _ kp
      have C := fun W (hb : Below wr.heap.size wr W) => l12Do_ev a b o c ll x W hox hl hls (h.below hb (Nat.le_refl _))
      have hbA := below1 wr (.cells #[.int .i64 0, .int .i64 0, .int .i64 0] 58)
      have A0 : (wr.alloc (.cells #[.int .i64 0, .int .i64 0, .int .i64 0] 58)).cell? ⟨wr.heap.size, 0, none⟩ = some (.int .i64 0) := by simp
      have A1 : (wr.alloc (.cells #[.int .i64 0, .int .i64 0, .int .i64 0] 58)).cell? ⟨wr.heap.size, 1, none⟩ = some (.int .i64 0) := by simp
      have A2 : (wr.alloc (.cells #[.int .i64 0, .int .i64 0, .int .i64 0] 58)).cell? ⟨wr.heap.size, 2, none⟩ = some (.int .i64 0) := by simp
      have Af : ∀ j, (wr.alloc (.cells #[.int .i64 0, .int .i64 0, .int .i64 0] 58)).frozen? ⟨wr.heap.size, j, none⟩ = false := by intro j; simp
      have Asz : wr.heap.size < (wr.alloc (.cells #[.int .i64 0, .int .i64 0, .int .i64 0] 58)).heap.size := by simp
      have N0 : wr.heap.size ≠ w.heap.size := Nat.ne_of_gt lw
      have N1 : wr.heap.size ≠ g := Nat.ne_of_gt lg
      have B0 := (hbA.cell (p := ⟨w.heap.size, 0, none⟩) lw).trans kp
      have B1 := (hbA.cell (p := ⟨g, n * 3, none⟩) lg).trans c0
      have B2 := (hbA.cell (p := ⟨g, n * 3 + 1, none⟩) lg).trans c1
      have B3 := (hbA.cell (p := ⟨g, n * 3 + 2, none⟩) lg).trans c2
      go_region_held3 (fun w' => w'.cell? ⟨w.heap.size, 0, none⟩ = some (.slice a ll.length c) ∧ w'.cell? ⟨g, n * 3, none⟩ = some (.int .i64 x.t) ∧ w'.cell? ⟨g, n * 3 + 1, none⟩ = some (.int .i64 x.i) ∧ w'.cell? ⟨g, n * 3 + 2, none⟩ = some (.bool x.last)) (go_keep) (first
        | (go_at_call 66; refine (C _ ((Below.refl _ _).drew)).mono ?_; rintro e w1 ⟨rfl, hb1⟩; have Y0 := (hb1.cell (p := ⟨w.heap.size, 0, none⟩) lw).trans kp; have Y1 := (hb1.cell (p := ⟨g, n * 3, none⟩) lg).trans c0; have Y2 := (hb1.cell (p := ⟨g, n * 3 + 1, none⟩) lg).trans c1; have Y3 := (hb1.cell (p := ⟨g, n * 3 + 2, none⟩) lg).trans c2)
        | (go_at_call 66; refine (C _ ((below1 _ _).drew)).mono ?_; rintro e w1 ⟨rfl, hb1⟩; have Y0 := (hb1.cell (p := ⟨w.heap.size, 0, none⟩) (Nat.lt_trans lw Asz)).trans B0; have Y1 := (hb1.cell (p := ⟨g, n * 3, none⟩) (Nat.lt_trans lg Asz)).trans B1; have Y2 := (hb1.cell (p := ⟨g, n * 3 + 1, none⟩) (Nat.lt_trans lg Asz)).trans B2; have Y3 := (hb1.cell (p := ⟨g, n * 3 + 2, none⟩) (Nat.lt_trans lg Asz)).trans B3; have Z0 := (hb1.cell (p := ⟨wr.heap.size, 0, none⟩) Asz).trans A0; have Z1 := (hb1.cell (p := ⟨wr.heap.size, 1, none⟩) Asz).trans A1; have Z2 := (hb1.cell (p := ⟨wr.heap.size, 2, none⟩) Asz).trans A2; have Zf := fun j => (hb1.frozen (p := ⟨wr.heap.size, j, none⟩) Asz).trans (Af j)))
      · have F : DoIn wr _ _ x.d := DoIn.behind (d := x.d) ((Below.refl wr.heap.size wr).drew.trans hb1)
        generalize w1.alloc (.cells #[.int .i64 x.d.k, .int .i64 x.d.p, .int .i64 x.d.v] 58) = W1 at F ⊢
        generalize w1.heap.size = X at F ⊢
        clear hb1 A0 A1 A2 Af B0 B1 B2 B3 N0 N1 Y0 Y1 Y2 Y3 C hbA
        obtain ⟨hbF, hgF, d0, d1, d2⟩ := F
        have lX : X < W1.heap.size := World.block_lt_of_cell? _ _ d0
        have hbG := hbF.trans ((below1 W1 (.cells #[.int .i64 x.d.k, .int .i64 x.d.p, .int .i64 x.d.v] 58)).mono hbF.size)
        have D0 := ((below1 W1 (.cells #[.int .i64 x.d.k, .int .i64 x.d.p, .int .i64 x.d.v] 58)).cell (p := ⟨X, 0, none⟩) lX).trans d0
        have D2 := ((below1 W1 (.cells #[.int .i64 x.d.k, .int .i64 x.d.p, .int .i64 x.d.v] 58)).cell (p := ⟨X, 2, none⟩) lX).trans d2
        have hbZ := hb2.trans (hbG.mono hb2.size)
        cases hr : M.reads x.d.k
        · have HV2 : Hid (M.val (M.deeds ll) l (m + 1) n = if x.d.k == 3 then M.val (M.deeds ll) l m x.lr else x.d.v) := by show _ = _; rw [HV.out, show x.reads = false from hr]; rfl
          cases h3 : (x.d.k == 3)
          · go_wp2_with (go_at_call 62; refine (l1Reads_any x.d _).mono ?_; rw [hr]; rintro e w' ⟨rfl, rfl⟩)
            go_ret
            exact ⟨by rw [HV2.out, h3]; rfl, hbZ⟩
          · have HL : Hid (x.lr < ((M.deeds ll).length : Int)) := by
              have := HFR.out
              rw [show x.reads = false from hr, h3] at this
              exact this
            have HS : Hid (M.src (M.deeds ll) x.t n = x.lr) := HSR.out hr
            go_wp2_with (go_at_call 62; refine (l1Reads_any x.d _).mono ?_; rw [hr]; rintro e w' ⟨rfl, rfl⟩)
            replace h := h.below hbG (Nat.le_refl _)
            replace hd := hd.bel hbG (Nat.le_refl _)
            replace hf := hf.below hbG (Nat.le_refl _)
            replace kp := (hbG.cell (p := ⟨w.heap.size, 0, none⟩) lw).trans kp
            replace k0 := (hbG.cell (p := ⟨w.heap.size + 1, 0, none⟩) lw1).trans k0
            replace k1 := (hbG.cell (p := ⟨w.heap.size + 1, 1, none⟩) lw1).trans k1
            generalize W1.alloc (.cells #[.int .i64 x.d.k, .int .i64 x.d.p, .int .i64 x.d.v] 58) = W2 at *
            have KP := BelowOf.cell kp
            have K0 := BelowOf.cell k0
            have K1 := BelowOf.cell k1
            have C1 := fun q : BelowOf W2 => l12Source_any a b o c ll (some ⟨g, 0, none⟩) g cc n x.t q.x hn HXT.out hl hls hdl (h.below q.h (Nat.le_refl _)) (hd.bel q.h (Nat.le_refl _))
            have C2 := fun q : BelowOf W2 => ih x.lr q.x (by omega) HL.out (h.below q.h (Nat.le_refl _)) (hd.bel q.h (Nat.le_refl _)) (hf.below q.h (Nat.le_refl _))
            rw [HS.out] at C1
            haveI : Inhabited (BelowOf W2) := ⟨belOf W2⟩
            clear ih
            have em : IntKind.i64.wrap (m : Int) = m := by rw [IntKind.wrap_i64]; omega
            refine wp_region_quiet_bel (by kernel_rfl) (by kernel_rfl) ?_
            repeat (quiet_step (first | (go_at_call 84; exact Calls.bel_of (C1 _)) | (go_at_call 67; exact Calls.bel_of (C2 _))))
            refine wpQuiet_nil ?_
            rintro _ ⟨⟨wq, hwq⟩, rfl⟩
            go_wp2_with fail
            go_ret
            exact ⟨by rw [HV2.out, h3]; rfl, hbZ.trans (hwq.mono hbZ.size)⟩
        · have HV2 : Hid (M.val (M.deeds ll) l (m + 1) n = M.val (M.deeds ll) l m f) := by show _ = _; rw [HV.out, show x.reads = true from hr]; rfl
          have HL : Hid (f < ((M.deeds ll).length : Int)) := by
            have := HFR.out
            rw [show x.reads = true from hr] at this
            exact this
          go_wp2_with (go_at_call 62; refine (l1Reads_any x.d _).mono ?_; rw [hr]; rintro e w' ⟨rfl, rfl⟩)
          replace h := h.below hbG (Nat.le_refl _)
          replace hd := hd.bel hbG (Nat.le_refl _)
          replace hf := hf.below hbG (Nat.le_refl _)
          replace kp := (hbG.cell (p := ⟨w.heap.size, 0, none⟩) lw).trans kp
          replace k0 := (hbG.cell (p := ⟨w.heap.size + 1, 0, none⟩) lw1).trans k0
          replace k1 := (hbG.cell (p := ⟨w.heap.size + 1, 1, none⟩) lw1).trans k1
          replace hfc := (hbG.cell (p := ⟨fb, fo + n, none⟩) lf).trans hfc
          generalize W1.alloc (.cells #[.int .i64 x.d.k, .int .i64 x.d.p, .int .i64 x.d.v] 58) = W2 at *
          have KP := BelowOf.cell kp
          have K0 := BelowOf.cell k0
          have K1 := BelowOf.cell k1
          have KF := BelowOf.cell hfc
          have C2 := fun q : BelowOf W2 => ih f q.x (by omega) HL.out (h.below q.h (Nat.le_refl _)) (hd.bel q.h (Nat.le_refl _)) (hf.below q.h (Nat.le_refl _))
          haveI : Inhabited (BelowOf W2) := ⟨belOf W2⟩
          clear ih
          have em : IntKind.i64.wrap (m : Int) = m := by rw [IntKind.wrap_i64]; omega
          refine wp_region_quiet_bel (by kernel_rfl) (by kernel_rfl) ?_
          repeat (quiet_step (first | (go_at_call 67; exact Calls.bel_of (C2 _))))
          refine wpQuiet_nil ?_
          rintro _ ⟨⟨wq, hwq⟩, rfl⟩
          go_wp2_with fail
          go_ret
          exact ⟨by rw [HV2.out]; rfl, hbZ.trans (hwq.mono hbZ.size)⟩
      · have F : DoIn wr _ _ x.d := DoIn.ahead (d := x.d) (hbA.drew.trans (hb1.mono (Nat.le_of_lt Asz))) Z0 Z1 Z2
        generalize ((w1.setCell ⟨wr.heap.size, 0, none⟩ (.int .i64 x.d.k)).setCell ⟨wr.heap.size, 1, none⟩ (.int .i64 x.d.p)).setCell ⟨wr.heap.size, 2, none⟩ (.int .i64 x.d.v) = W1 at F ⊢
        obtain ⟨X, hX, F⟩ : ∃ X, X = wr.heap.size ∧ DoIn wr W1 X x.d := ⟨_, rfl, F⟩
        rw [← hX]
        clear hX
        clear hb1 A0 A1 A2 Af B0 B1 B2 B3 N0 N1 Y0 Y1 Y2 Y3 C hbA
        obtain ⟨hbF, hgF, d0, d1, d2⟩ := F
        have lX : X < W1.heap.size := World.block_lt_of_cell? _ _ d0
        have hbG := hbF.trans ((below1 W1 (.cells #[.int .i64 x.d.k, .int .i64 x.d.p, .int .i64 x.d.v] 58)).mono hbF.size)
        have D0 := ((below1 W1 (.cells #[.int .i64 x.d.k, .int .i64 x.d.p, .int .i64 x.d.v] 58)).cell (p := ⟨X, 0, none⟩) lX).trans d0
        have D2 := ((below1 W1 (.cells #[.int .i64 x.d.k, .int .i64 x.d.p, .int .i64 x.d.v] 58)).cell (p := ⟨X, 2, none⟩) lX).trans d2
        have hbZ := hb2.trans (hbG.mono hb2.size)
        cases hr : M.reads x.d.k
        · have HV2 : Hid (M.val (M.deeds ll) l (m + 1) n = if x.d.k == 3 then M.val (M.deeds ll) l m x.lr else x.d.v) := by show _ = _; rw [HV.out, show x.reads = false from hr]; rfl
          cases h3 : (x.d.k == 3)
          · go_wp2_with (go_at_call 62; refine (l1Reads_any x.d _).mono ?_; rw [hr]; rintro e w' ⟨rfl, rfl⟩)
            go_ret
            exact ⟨by rw [HV2.out, h3]; rfl, hbZ⟩
          · have HL : Hid (x.lr < ((M.deeds ll).length : Int)) := by
              have := HFR.out
              rw [show x.reads = false from hr, h3] at this
              exact this
            have HS : Hid (M.src (M.deeds ll) x.t n = x.lr) := HSR.out hr
            go_wp2_with (go_at_call 62; refine (l1Reads_any x.d _).mono ?_; rw [hr]; rintro e w' ⟨rfl, rfl⟩)
            replace h := h.below hbG (Nat.le_refl _)
            replace hd := hd.bel hbG (Nat.le_refl _)
            replace hf := hf.below hbG (Nat.le_refl _)
            replace kp := (hbG.cell (p := ⟨w.heap.size, 0, none⟩) lw).trans kp
            replace k0 := (hbG.cell (p := ⟨w.heap.size + 1, 0, none⟩) lw1).trans k0
            replace k1 := (hbG.cell (p := ⟨w.heap.size + 1, 1, none⟩) lw1).trans k1
            generalize W1.alloc (.cells #[.int .i64 x.d.k, .int .i64 x.d.p, .int .i64 x.d.v] 58) = W2 at *
            have KP := BelowOf.cell kp
            have K0 := BelowOf.cell k0
            have K1 := BelowOf.cell k1
            have C1 := fun q : BelowOf W2 => l12Source_any a b o c ll (some ⟨g, 0, none⟩) g cc n x.t q.x hn HXT.out hl hls hdl (h.below q.h (Nat.le_refl _)) (hd.bel q.h (Nat.le_refl _))
            have C2 := fun q : BelowOf W2 => ih x.lr q.x (by omega) HL.out (h.below q.h (Nat.le_refl _)) (hd.bel q.h (Nat.le_refl _)) (hf.below q.h (Nat.le_refl _))
            rw [HS.out] at C1
            haveI : Inhabited (BelowOf W2) := ⟨belOf W2⟩
            clear ih
            have em : IntKind.i64.wrap (m : Int) = m := by rw [IntKind.wrap_i64]; omega
            refine wp_region_quiet_bel (by kernel_rfl) (by kernel_rfl) ?_
            repeat (quiet_step (first | (go_at_call 84; exact Calls.bel_of (C1 _)) | (go_at_call 67; exact Calls.bel_of (C2 _))))
            refine wpQuiet_nil ?_
            rintro _ ⟨⟨wq, hwq⟩, rfl⟩
            go_wp2_with fail
            go_ret
            exact ⟨by rw [HV2.out, h3]; rfl, hbZ.trans (hwq.mono hbZ.size)⟩
        · have HV2 : Hid (M.val (M.deeds ll) l (m + 1) n = M.val (M.deeds ll) l m f) := by show _ = _; rw [HV.out, show x.reads = true from hr]; rfl
          have HL : Hid (f < ((M.deeds ll).length : Int)) := by
            have := HFR.out
            rw [show x.reads = true from hr] at this
            exact this
          go_wp2_with (go_at_call 62; refine (l1Reads_any x.d _).mono ?_; rw [hr]; rintro e w' ⟨rfl, rfl⟩)
          replace h := h.below hbG (Nat.le_refl _)
          replace hd := hd.bel hbG (Nat.le_refl _)
          replace hf := hf.below hbG (Nat.le_refl _)
          replace kp := (hbG.cell (p := ⟨w.heap.size, 0, none⟩) lw).trans kp
          replace k0 := (hbG.cell (p := ⟨w.heap.size + 1, 0, none⟩) lw1).trans k0
          replace k1 := (hbG.cell (p := ⟨w.heap.size + 1, 1, none⟩) lw1).trans k1
          replace hfc := (hbG.cell (p := ⟨fb, fo + n, none⟩) lf).trans hfc
          generalize W1.alloc (.cells #[.int .i64 x.d.k, .int .i64 x.d.p, .int .i64 x.d.v] 58) = W2 at *
          have KP := BelowOf.cell kp
          have K0 := BelowOf.cell k0
          have K1 := BelowOf.cell k1
          have KF := BelowOf.cell hfc
          have C2 := fun q : BelowOf W2 => ih f q.x (by omega) HL.out (h.below q.h (Nat.le_refl _)) (hd.bel q.h (Nat.le_refl _)) (hf.below q.h (Nat.le_refl _))
          haveI : Inhabited (BelowOf W2) := ⟨belOf W2⟩
          clear ih
          have em : IntKind.i64.wrap (m : Int) = m := by rw [IntKind.wrap_i64]; omega
          refine wp_region_quiet_bel (by kernel_rfl) (by kernel_rfl) ?_
          repeat (quiet_step (first | (go_at_call 67; exact Calls.bel_of (C2 _))))
          refine wpQuiet_nil ?_
          rintro _ ⟨⟨wq, hwq⟩, rfl⟩
          go_wp2_with fail
          go_ret
          exact ⟨by rw [HV2.out]; rfl, hbZ.trans (hwq.mono hbZ.size)⟩

end Go.Proofs.Ytdpnnghomfaleaa
