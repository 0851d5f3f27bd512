/- The law's own sizing and comparing of ways: laws.szIntSS, szExec, eqIntSS, eqExec. Of rows of at most 1048576 numbers (sizing: of at most 9223372036854775807). The law's own copying of a program: laws.toDo, toDoS, toDoSS, toProg. Of programs of at most 1048576 threads, each of at most 1048576 steps. The law's own copying of ways: laws.toIntSS, toExec. Of rows of at most 1048576 numbers. The law's own comparing of programs: two that are the same are told so. Of programs of at most 1048576 threads, each of at most 1048576 steps. The law's own look at sizes: behind it, if it is not below nought, a program has at most 1048576 threads, each of at most 1048576 steps. The law FnExactExecOk, walked: it answers true, and leaves all as it was. Of programs and ways of at most 9223372036854775807 parts each: more than a machine holds. The law FnExactOrderHolds, walked: it answers true, and leaves all as it was. Of programs and ways of at most 9223372036854775807 parts each: more than a machine holds. -/
import Derived.Test.YtjpgpjjejbjldaaGreatIntConv
import Derived.Test.YtjpgpjjejbjldaaGreatOkOrd
import Derived.Test.YtjpgpjjejbjldaaGreatQuietB
import Derived.Test.YtjpgpjjejbjldaaGreatSProg
import Derived.Deep.OwnRows
import Derived.Deep.RegionWith
import Derived.Test.YtjpgpjjejbjldaaGreatOkWay
import Derived.Test.YtjpgpjjejbjldaaGreatOsOk
import Derived.Deep.RegionHeld3
import Derived.Test.YtjpgpjjejbjldaaGreatBnHi
import Derived.Test.YtjpgpjjejbjldaaGreatBnHw

namespace Go.Proofs.YtjpgpjjejbjldaaGreat
open Go.RowKit

set_option maxHeartbeats 400000 in
theorem szIntSS_any (a : Option Addr) (b o c : Nat) (rows : List (List Int)) (left : Int) (w : World) (h0 : 0 ≤ left) (h1 : left ≤ 1048576) (hn : rows.length ≤ 9223372036854775807) (hrs : ∀ r ∈ rows, r.length ≤ 9223372036854775807) (h : IntSS w a b o rows) :
    Calls Tryz.prog 31 #[.slice a rows.length c, .int .i64 left] w fun e w' => ∃ r : Int, e = .returned (.int .i64 r) ∧ w' = w ∧ r ≤ 1048576 ∧ (r < 0 ∨ (0 ≤ r ∧ rows.length ≤ 1048576 ∧ ∀ r ∈ rows, r.length ≤ 1048576)) := by
  by_cases hs : left - rows.length < 0
  · go_enter Tryz.func31, Tryz.ntmps31
    go_wp2_with fail
    go_ret
    exact ⟨-1, rfl, rfl, by omega, Or.inl (by omega)⟩
  · go_enter Tryz.func31, Tryz.ntmps31
    go_wp2_with fail
    have hr : rows.length ≤ 1048576 := by omega
    go_loopw [1, 5] (fun s1 s5 wr => ∃ (n : Nat) (lf : Int), s5 = .int .i64 n ∧ s1 = .int .i64 lf ∧ 0 ≤ lf ∧ lf ≤ 1048576 ∧ n ≤ rows.length ∧ Hid (∀ i (_ : i < n) (h : i < rows.length), rows[i].length ≤ 1048576) ∧ wr = w) (fun _ s5 _ => rows.length - (intOf s5).toNat)
    case atStart => exact ⟨0, left - rows.length, rfl, rfl, by omega, by omega, Nat.zero_le _, fun i hi => absurd hi (Nat.not_lt_zero _), rfl⟩
    case round =>
      obtain ⟨n, lf, rfl, rfl, hlf0, hlf1, hn', HA, rfl⟩ := hrel
      by_cases hlt : n < rows.length
      · obtain ⟨rfl⟩ := h.addr (by omega)
        obtain ⟨a', b', o', c', hc, hrow⟩ := h.row n hlt
        have hle := hrs _ (List.getElem_mem hlt)
        obtain ⟨row, hrw⟩ : ∃ row, rows[n] = row := ⟨_, rfl⟩
        have HW : Hid (rows[n] = row) := hrw
        rw [hrw] at hc hrow hle
        clear hrw
        have i1 : (n : Int) < rows.length := by omega
        go_wp2_with fail
        refine (szIntS_any a' row.length c' lf _ hlf0 hlf1 hle).mono ?_
        rintro e w1 ⟨r, rfl, rfl, hr1, hor⟩
        by_cases hneg : r < 0
        · go_wp2_with fail
          go_ret
          exact ⟨-1, rfl, rfl, by omega, Or.inl (by omega)⟩
        · obtain ⟨hr0, hrl⟩ := hor.resolve_left hneg
          have hneg' : decide (r < 0) = false := by simpa using hneg
          go_wp2_with fail
          exact ⟨⟨n + 1, r, by go_num, rfl, hr0, hr1, by omega, fun i hi hil => by
            by_cases ei : i = n
            · subst ei; rw [HW.out]; exact hrl
            · exact HA.out i (by omega) hil, trivial⟩, by simp [intOf]; omega⟩
      · go_wp2_with fail
        go_ret
        exact ⟨lf, rfl, rfl, hlf1, Or.inr ⟨hlf0, hr, fun r hr => by
          obtain ⟨i, hi, rfl⟩ := List.getElem_of_mem hr
          exact HA.out i (by omega) hi⟩⟩

set_option maxHeartbeats 400000 in
theorem szExec_any (fa : Option Addr) (fc : Nat) (l : List Int) (ra : Option Addr) (rb ro rc : Nat) (rows : List (List Int)) (left : Int) (w : World) (h0 : 0 ≤ left) (h1 : left ≤ 1048576) (hl : l.length ≤ 9223372036854775807) (hn : rows.length ≤ 9223372036854775807) (hrs : ∀ r ∈ rows, r.length ≤ 9223372036854775807) (h : IntSS w ra rb ro rows) :
    Calls Tryz.prog 9 #[.agg #[.slice fa l.length fc, .slice ra rows.length rc], .int .i64 left] w fun e w' => ∃ r : Int, e = .returned (.int .i64 r) ∧ w' = w.alloc (.cells #[.slice fa l.length fc, .slice ra rows.length rc] 37) ∧ r ≤ 1048576 ∧ (r < 0 ∨ (0 ≤ r ∧ l.length ≤ 1048576 ∧ rows.length ≤ 1048576 ∧ ∀ r ∈ rows, r.length ≤ 1048576)) := by
  go_enter Tryz.func9, Tryz.ntmps9
  go_wp2_with fail
  refine (szIntS_any _ _ _ _ _ h0 h1 hl).mono ?_
  rintro e w1 ⟨r1, rfl, rfl, hr1, hor1⟩
  by_cases hn1 : r1 < 0
  · go_wp2_with fail
    go_ret
    exact ⟨-1, rfl, rfl, by omega, Or.inl (by omega)⟩
  · go_wp2_with fail
    refine (szIntSS_any ra rb ro rc rows r1 _ (by omega) hr1 hn hrs (h.below (below1 w _) (Nat.le_refl _))).mono ?_
    rintro e w2 ⟨r2, rfl, rfl, hr2, hor2⟩
    by_cases hn2 : r2 < 0
    · go_wp2_with fail
      go_ret
      exact ⟨-1, rfl, rfl, by omega, Or.inl (by omega)⟩
    · go_wp2_with fail
      go_ret
      exact ⟨r2, rfl, rfl, hr2, Or.inr ⟨by omega, (hor1.resolve_left (by omega)).2, (hor2.resolve_left (by omega)).2⟩⟩

theorem eqIntS_bel (a : Option Addr) (b o c : Nat) (a2 : Option Addr) (b2 o2 c2 : Nat) (l : List Int) (w : World) (hl : l.length ≤ 1048576) (h : IntS w a b o l) (h2 : IntS w a2 b2 o2 l) :
    Calls Tryz.prog 36 #[.slice a l.length c, .slice a2 l.length c2] w fun e w' => e = .returned (.bool true) ∧ Below w.heap.size w w' :=
  (eqIntS_same a b o c a2 b2 o2 c2 l w hl h h2).mono fun _ _ ⟨he, hg⟩ => ⟨he, hg.bel⟩

set_option maxHeartbeats 400000 in
theorem eqIntSS_same (a : Option Addr) (b o c : Nat) (a2 : Option Addr) (b2 o2 c2 : Nat) (rows : List (List Int)) (w : World) (hl : rows.length ≤ 1048576) (hrs : ∀ r ∈ rows, r.length ≤ 1048576) (h : IntSS w a b o rows) (h2 : IntSS w a2 b2 o2 rows) :
    Calls Tryz.prog 37 #[.slice a rows.length c, .slice a2 rows.length c2] w fun e w' => e = .returned (.bool true) ∧ Below w.heap.size w w' := by
  go_enter Tryz.func37, Tryz.ntmps37
  go_wp2_with fail
  go_loopw [5] (fun s5 wr => ∃ n : Nat, s5 = .int .i64 n ∧ n ≤ rows.length ∧ Below w.heap.size w wr) (fun s5 _ => rows.length - (intOf s5).toNat)
  case atStart => exact ⟨0, rfl, Nat.zero_le _, Below.refl _ _⟩
  case round =>
    obtain ⟨n, rfl, hn, hb⟩ := hrel
    by_cases hlt : n < rows.length
    · obtain ⟨rfl⟩ := h.addr (by omega)
      obtain ⟨rfl⟩ := h2.addr (by omega)
      obtain ⟨a', b', o', c', hc, hrow⟩ := (h.below hb (Nat.le_refl _)).row n hlt
      obtain ⟨a3, b3, o3, c3, hc3, hrow3⟩ := (h2.below hb (Nat.le_refl _)).row n hlt
      have hle := hrs _ (List.getElem_mem hlt)
      generalize rows[n] = row at *
      have i1 : (n : Int) < rows.length := by omega
      have K1 := BelowOf.cell hc
      have K2 := BelowOf.cell hc3
      have C := fun q : BelowOf wr => eqIntS_bel a' b' o' c' a3 b3 o3 c3 row q.x hle (hrow.below q.h (Nat.le_refl _)) (hrow3.below q.h (Nat.le_refl _))
      haveI : Inhabited (BelowOf wr) := ⟨belOf wr⟩
      go_wp2_with fail
      refine wp_region_quiet_bel (by kernel_rfl) (by kernel_rfl) ?_
      repeat (quiet_step (first | (go_at_call 36; exact Calls.bel_of (C _))))
      refine wpQuiet_nil ?_
      rintro _ ⟨⟨wq, hwq⟩, rfl⟩
      go_wp2_with fail
      exact ⟨⟨n + 1, by go_num, by omega, hb.trans (hwq.mono hb.size)⟩, by simp [intOf]; omega⟩
    · go_wp2_with fail
      go_ret
      exact ⟨rfl, hb⟩

set_option maxHeartbeats 400000 in
theorem eqExec_same (fa : Option Addr) (fb fo fc : Nat) (ra : Option Addr) (rb ro rc : Nat) (fa2 : Option Addr) (fb2 fo2 fc2 : Nat) (ra2 : Option Addr) (rb2 ro2 rc2 : Nat) (l : List Int) (rows : List (List Int)) (w : World) (hl1 : l.length ≤ 1048576) (hl : rows.length ≤ 1048576) (hrs : ∀ r ∈ rows, r.length ≤ 1048576) (hf : IntS w fa fb fo l) (h : IntSS w ra rb ro rows) (hf2 : IntS w fa2 fb2 fo2 l) (h2 : IntSS w ra2 rb2 ro2 rows) :
    Calls Tryz.prog 13 #[.agg #[.slice fa l.length fc, .slice ra rows.length rc], .agg #[.slice fa2 l.length fc2, .slice ra2 rows.length rc2]] w fun e w' => e = .returned (.bool true) ∧ Below w.heap.size w w' := by
  have hb2 := below2 w (.cells #[.slice fa l.length fc, .slice ra rows.length rc] 29) (.cells #[.slice fa2 l.length fc2, .slice ra2 rows.length rc2] 29)
  have hfa := hf.below hb2 (Nat.le_refl _)
  have hfb := hf2.below hb2 (Nat.le_refl _)
  have ha := h.below hb2 (Nat.le_refl _)
  have hb := h2.below hb2 (Nat.le_refl _)
  go_enter Tryz.func13, Tryz.ntmps13
  go_wp2_with fail
  refine (eqIntS_same fa fb fo fc fa2 fb2 fo2 fc2 l _ hl1 hfa hfb).mono ?_
  rintro e w1 ⟨rfl, hg1⟩
  obtain ⟨hc1, hf1⟩ := bcell hg1.bel
  go_wp2_with fail
  refine (eqIntSS_same ra rb ro rc ra2 rb2 ro2 rc2 rows _ hl hrs (ha.below hg1.bel (Nat.le_refl _)) (hb.below hg1.bel (Nat.le_refl _))).mono ?_
  rintro e w2 ⟨rfl, hb3⟩
  go_wp2_with fail
  go_ret
  have hbw := hb2.trans (hg1.bel.mono hb2.size)
  exact ⟨rfl, hbw.trans (hb3.mono hbw.size)⟩

end Go.Proofs.YtjpgpjjejbjldaaGreat

namespace Go.Proofs.YtjpgpjjejbjldaaGreat
open Go.RowKit

set_option maxHeartbeats 400000 in
theorem toDo_any (d : M.D) (w : World) :
    Calls Tryz.prog 91 #[.agg #[.int .i64 d.k, .int .i64 d.p, .int .i64 d.v]] w fun e w' => e = .returned (.agg #[.int .i64 d.k, .int .i64 d.p, .int .i64 d.v]) ∧ Below w.heap.size w w' := by
  obtain ⟨k, p, v⟩ := d
  go_enter Tryz.func91, Tryz.ntmps91
  go_wp2_with fail
  exact bodyPost_ret (v := .agg #[.int .i64 k, .int .i64 p, .int .i64 v]) (by simp [results, Tryz.results91, go_sem]) rfl ⟨rfl, below3 _ _ _ _⟩

theorem run_make_rows {P : Program} (t e : TypeId) (z : Value) (size bytes : Nat) (ht : P.underlying t = some (.slice e)) (hinfo : (P.info? e).map (fun i => (i.zero, i.size, i.bytes)) = some (some z, size, bytes))
    (n : Nat) (hbytes : bytes * n ≤ 281474976710656) (h63 : n ≤ 9223372036854775807) (w : World) :
    (Instr.makeSlice t (.int .i64 (n : Int)) (.int .i64 (n : Int))).run P w = .ok (.slice (some ⟨w.heap.size, 0, none⟩) n n) (w.alloc (.cells (madeCells z.cells (n * size)) e)) := by
  obtain ⟨i, hi, hzz⟩ := Option.map_eq_some_iff.1 hinfo
  simp only [Prod.mk.injEq] at hzz
  obtain ⟨hz, hs, hb⟩ := hzz
  have hb' : (i.bytes : Int) * (n : Int) ≤ 281474976710656 := by
    rw [hb]
    have h : ((bytes * n : Nat) : Int) ≤ 281474976710656 := by omega
    rwa [Int.natCast_mul] at h
  have hr := run_make (P := P) w t e i z ht hi hz .i64 .i64 n n (by omega) (Int.le_refl _) hb' (by omega)
  simp only [Int.toNat_natCast, hs] at hr
  exact hr

theorem Tryz.info85 : (Tryz.prog.info? 85).map (fun i => (i.zero, i.size, i.bytes)) = some (some (.agg #[.int .i64 0, .int .i64 0, .int .i64 0]), 3, 24) := by kernel_rfl
theorem Tryz.info83 : (Tryz.prog.info? 83).map (fun i => (i.zero, i.size, i.bytes)) = some (some (.slice none 0 0), 1, 24) := by kernel_rfl

/-- A block may be written. -/
def Fz (w : World) (b : Nat) : Prop := ∀ j, w.frozen? ⟨b, j, none⟩ = false
theorem Fz.set {w : World} {b : Nat} (h : Fz w b) (p : Addr) (u : Value) : Fz (w.setCell p u) b := fun j => by rw [World.frozen?_setCell]; exact h j
theorem Fz.below {w w' : World} {b B : Nat} (h : Fz w b) (hb : Below B w w') (hl : b < B) : Fz w' b := fun j => (hb.frozen (p := ⟨b, j, none⟩) hl).trans (h j)

/-- The first n steps are copied. -/
structure Part (w wr : World) (l : List M.D) (n : Nat) : Prop where
  bel : Below w.heap.size w wr
  own : ∃ f, wr.rowIs w.heap.size 85 (l.length * 3) f
  done : ∀ q (_ : q < n) (h : q < l.length), DoAt wr w.heap.size (q * 3) l[q]

theorem madeCells_at (z : Array Value) (n i : Nat) (hi : i < n) : (madeCells z n)[i]? = some (z[i % z.size]!) := by
  simp [madeCells, hi]

theorem part_start (w : World) (l : List M.D) (z : Array Value) : Part w (w.alloc (.cells (madeCells z (l.length * 3)) 85)) l 0 := by
  refine ⟨below1 _ _, ⟨fun i => z[i % z.size]!, ?_⟩, fun q hq _ => absurd hq (Nat.not_lt_zero _)⟩
  have := World.rowIs_alloc w (madeCells z (l.length * 3)) 85 (fun i => z[i % z.size]!) (fun i hi => madeCells_at z _ i (by rwa [size_madeCells] at hi))
  rwa [size_madeCells] at this

theorem cell_other {w : World} {b i j : Nat} {u : Value} (h : i ≠ j) : (w.setCell ⟨b, i, none⟩ u).cell? ⟨b, j, none⟩ = w.cell? ⟨b, j, none⟩ :=
  World.cell?_setCell_other _ _ _ _ (fun e => h (by have := congrArg Addr.off e; simp at this; omega))

theorem part_step {w wr w1 : World} {l : List M.D} {n : Nat} {k p v : Int} (hp : Part w wr l n) (hlt : n < l.length) (hb1 : Below wr.heap.size wr w1) (hd : l[n] = ⟨k, p, v⟩) :
    Part w (((w1.setCell ⟨w.heap.size, n * 3, none⟩ (.int .i64 k)).setCell ⟨w.heap.size, n * 3 + 1, none⟩ (.int .i64 p)).setCell ⟨w.heap.size, n * 3 + 2, none⟩ (.int .i64 v)) l (n + 1) := by
  obtain ⟨f, hf⟩ := hp.own
  have hlb := hf.lt
  have hf1 : w1.rowIs w.heap.size 85 (l.length * 3) f := hf.of_block (hb1.block _ hlb)
  have hr := ((hf1.set (n * 3) (.int .i64 k)).set (n * 3 + 1) (.int .i64 p)).set (n * 3 + 2) (.int .i64 v)
  refine ⟨(((hp.bel.trans (hb1.mono hp.bel.size)).setCell (Nat.le_refl _) _).setCell (Nat.le_refl _) _).setCell (Nat.le_refl _) _, ⟨_, hr⟩, fun q hq hql => ?_⟩
  by_cases e : q = n
  · subst e
    rw [hd]
    refine ⟨?_, ?_, ?_⟩
    · rw [hr.cell (by omega)]; simp
    · rw [hr.cell (by omega)]; simp
    · rw [hr.cell (by omega)]; simp
  · obtain ⟨ck, cp, cv⟩ := (hp.done q (by omega) hql).below hb1 (Nat.le_refl _)
    refine ⟨?_, ?_, ?_⟩
    · rw [cell_other (by omega), cell_other (by omega), cell_other (by omega)]; exact ck
    · rw [cell_other (by omega), cell_other (by omega), cell_other (by omega)]; exact cp
    · rw [cell_other (by omega), cell_other (by omega), cell_other (by omega)]; exact cv

set_option maxHeartbeats 400000 in
theorem toDoS_any (a : Option Addr) (b o c : Nat) (l : List M.D) (w : World) (hl : l.length ≤ 1048576) (h : DoS w a b o l) :
    Calls Tryz.prog 62 #[.slice a l.length c] w fun e w' => e = .returned (.slice (some ⟨w.heap.size, 0, none⟩) l.length l.length) ∧ DoS w' (some ⟨w.heap.size, 0, none⟩) w.heap.size 0 l ∧ (Fz w' w.heap.size ∧ w.heap.size < w'.heap.size) ∧ Below w.heap.size w w' := by
  have hmk := run_make_rows (P := Tryz.prog) 83 85 (.agg #[.int .i64 0, .int .i64 0, .int .i64 0]) 3 24 Tryz.underlying83 Tryz.info85 l.length (by omega) (by omega)
  go_enter Tryz.func62, Tryz.ntmps62
  go_wp2_with fail
  clear hmk
  go_loopw [4] (fun s4 wr => ∃ n : Nat, s4 = .int .i64 n ∧ n ≤ l.length ∧ Part w wr l n) (fun s4 _ => l.length - (intOf s4).toNat)
  case atStart => exact ⟨0, rfl, Nat.zero_le _, part_start w l _⟩
  case round =>
    obtain ⟨n, rfl, hn, hpart⟩ := hrel
    by_cases hlt : n < l.length
    · obtain ⟨rfl⟩ := h.addr (by omega)
      have hbel := hpart.bel
      have hd := (h.row n hlt).below hbel (Nat.le_refl _)
      generalize hln : l[n] = d at hd
      obtain ⟨k, p, v⟩ := d
      have HL : Hid (l[n] = ⟨k, p, v⟩) := hln
      clear hln
      obtain ⟨f, hf⟩ := hpart.own
      have hlb := hf.lt
      obtain ⟨ck, cp, cv⟩ := hd
      go_wp2_with (go_at_call 91; refine (toDo_any ⟨_, _, _⟩ _).mono ?_; rintro e w1 ⟨rfl, hb1⟩; have c0 : w1.cell? ⟨w.heap.size, n * 3, none⟩ = some (f (n * 3)) := (hb1.cell (p := ⟨w.heap.size, n * 3, none⟩) hlb).trans (hf.cell (by omega)); have c1 : w1.cell? ⟨w.heap.size, n * 3 + 1, none⟩ = some (f (n * 3 + 1)) := (hb1.cell (p := ⟨w.heap.size, n * 3 + 1, none⟩) hlb).trans (hf.cell (by omega)); have c2 : w1.cell? ⟨w.heap.size, n * 3 + 2, none⟩ = some (f (n * 3 + 2)) := (hb1.cell (p := ⟨w.heap.size, n * 3 + 2, none⟩) hlb).trans (hf.cell (by omega)); have f0 : ∀ i, w1.frozen? ⟨w.heap.size, i, none⟩ = false := fun i => (hb1.frozen (p := ⟨w.heap.size, i, none⟩) hlb).trans (hf.frozen i))
      exact ⟨⟨n + 1, by go_num, by omega, part_step hpart hlt hb1 HL.out⟩, by simp [intOf]; omega⟩
    · go_wp2_with fail
      go_ret
      refine ⟨rfl, ⟨fun _ => rfl, fun i hi => ?_⟩, (let ⟨_, hf⟩ := hpart.own; ⟨fun j => hf.frozen j, hf.lt⟩), hpart.bel⟩
      rw [Nat.zero_add]
      exact hpart.done i (by omega) hi

/-- The first n threads are copied; the new list lies at block B. -/
structure Parts (w wr : World) (ll : List (List M.D)) (n : Nat) : Prop where
  bel : Below w.heap.size w wr
  own : ∃ f, wr.rowIs w.heap.size 83 ll.length f
  done : ∀ q (_ : q < n) (h : q < ll.length), ∃ a' b' o' c', wr.cell? ⟨w.heap.size, q, none⟩ = some (.slice a' ll[q].length c') ∧ DoS wr a' b' o' ll[q] ∧ w.heap.size < b' ∧ Fz wr b' ∧ b' < wr.heap.size

theorem parts_start (w : World) (ll : List (List M.D)) (z : Value) : Parts w (w.alloc (.cells (madeCells #[z] ll.length) 83)) ll 0 :=
  ⟨below1 _ _, ⟨_, World.rowIs_made w z ll.length 83⟩, fun _ hq _ => absurd hq (Nat.not_lt_zero _)⟩

theorem DoAt.other {w : World} {b o B i : Nat} {d : M.D} {u : Value} (h : DoAt w b o d) (hb : b ≠ B) : DoAt (w.setCell ⟨B, i, none⟩ u) b o d := by
  have e : ∀ j, (⟨B, i, none⟩ : Addr) ≠ ⟨b, j, none⟩ := fun j e => hb (congrArg Addr.block e).symm
  exact ⟨(World.cell?_setCell_other _ _ _ _ (e _)).trans h.k, (World.cell?_setCell_other _ _ _ _ (e _)).trans h.p, (World.cell?_setCell_other _ _ _ _ (e _)).trans h.v⟩
theorem DoS.other {w : World} {a : Option Addr} {b o B i : Nat} {l : List M.D} {u : Value} (h : DoS w a b o l) (hb : b ≠ B) : DoS (w.setCell ⟨B, i, none⟩ u) a b o l :=
  ⟨h.addr, fun j hj => (h.row j hj).other hb⟩

theorem parts_step {w wr w1 : World} {ll : List (List M.D)} {n : Nat} {t : List M.D} {b' o' c' : Nat} {a' : Option Addr} (hp : Parts w wr ll n) (hlt : n < ll.length) (hb1 : Below wr.heap.size wr w1) (hd : ll[n] = t)
    (hs : DoS w1 a' b' o' t) (hb' : w.heap.size < b') (hz : Fz w1 b' ∧ b' < w1.heap.size) :
    Parts w (w1.setCell ⟨w.heap.size, n, none⟩ (.slice a' t.length c')) ll (n + 1) := by
  obtain ⟨f, hf⟩ := hp.own
  have hlb := hf.lt
  have hf1 : w1.rowIs w.heap.size 83 ll.length f := hf.of_block (hb1.block _ hlb)
  have hr := hf1.set n (.slice a' t.length c')
  refine ⟨(hp.bel.trans (hb1.mono hp.bel.size)).setCell (Nat.le_refl _) _, ⟨_, hr⟩, fun q hq hql => ?_⟩
  by_cases e : q = n
  · subst e
    rw [hd]
    exact ⟨a', b', o', c', by rw [hr.cell hql]; simp, hs.other (by omega), hb', hz.1.set _ _, by simpa [World.setCell] using hz.2⟩
  · obtain ⟨a2, b2, o2, c2, hc2, hd2, hb2, hz2, hl2⟩ := hp.done q (by omega) hql
    refine ⟨a2, b2, o2, c2, ?_, (hd2.below hb1 (Nat.le_refl _)).other (by omega), hb2, (hz2.below hb1 hl2).set _ _, by have := hb1.size; simp [World.setCell]; omega⟩
    rw [cell_other (by omega), hb1.cell (p := ⟨w.heap.size, q, none⟩) hlb]
    exact hc2

/-- A program that a call has made: all its blocks are new ones, from B on. -/
structure NewSS (w : World) (B N g : Nat) (ll : List (List M.D)) : Prop where
  ge : B ≤ g
  row : ∀ i (h : i < ll.length), ∃ a' b' o' c', w.cell? ⟨g, i, none⟩ = some (.slice a' ll[i].length c') ∧ DoS w a' b' o' ll[i] ∧ B ≤ b' ∧ Fz w b' ∧ b' < N
  le : N ≤ w.heap.size

theorem NewSS.old {w : World} {B N g : Nat} {ll : List (List M.D)} (h : NewSS w B N g ll) : DoSS w (some ⟨g, 0, none⟩) g 0 ll :=
  ⟨fun _ => rfl, fun i hi => by
    obtain ⟨a', b', o', c', hc, hd, _⟩ := h.row i hi
    exact ⟨a', b', o', c', by rw [Nat.zero_add]; exact hc, hd⟩⟩
theorem NewSS.mono {w : World} {B B' N g : Nat} {ll : List (List M.D)} (h : NewSS w B N g ll) (hB : B' ≤ B) : NewSS w B' N g ll :=
  ⟨Nat.le_trans hB h.ge, fun i hi => by
    obtain ⟨a', b', o', c', hc, hd, hb, hz⟩ := h.row i hi
    exact ⟨a', b', o', c', hc, hd, Nat.le_trans hB hb, hz⟩, h.le⟩
theorem NewSS.below {w w' : World} {B C N g : Nat} {ll : List (List M.D)} (h : NewSS w B N g ll) (hb : Below C w w') (hC : w.heap.size ≤ C) : NewSS w' B N g ll :=
  ⟨h.ge, fun i hi => by
    obtain ⟨a', b', o', c', hc, hd, hb', hz, hl2⟩ := h.row i hi
    have hl := World.block_lt_of_cell? _ _ hc
    exact ⟨a', b', o', c', by rw [hb.cell (p := ⟨g, i, none⟩) (Nat.lt_of_lt_of_le hl hC)]; exact hc, hd.below hb hC, hb', hz.below hb (Nat.lt_of_lt_of_le (Nat.lt_of_lt_of_le hl2 h.le) hC), hl2⟩, Nat.le_trans h.le hb.size⟩
theorem NewSS.other {w : World} {B N g : Nat} {ll : List (List M.D)} (h : NewSS w B N g ll) {b i : Nat} (hb : b < B) (u : Value) : NewSS (w.setCell ⟨b, i, none⟩ u) B N g ll :=
  ⟨h.ge, fun j hj => by
    obtain ⟨a', b', o', c', hc, hd, hb', hz, hl2⟩ := h.row j hj
    have hg := h.ge
    exact ⟨a', b', o', c', by rw [World.cell?_setCell_other _ _ _ _ (fun e => by have := congrArg Addr.block e; simp at this; omega)]; exact hc, hd.other (by omega), hb', hz.set _ _, hl2⟩, by have := h.le; simpa [World.setCell] using this⟩

set_option maxHeartbeats 400000 in
theorem toDoSS_any (a : Option Addr) (b o c : Nat) (ll : List (List M.D)) (w : World) (hl : ll.length ≤ 1048576) (hls : ∀ t ∈ ll, t.length ≤ 1048576) (h : DoSS w a b o ll) :
    Calls Tryz.prog 32 #[.slice a ll.length c] w fun e w' => e = .returned (.slice (some ⟨w.heap.size, 0, none⟩) ll.length ll.length) ∧ NewSS w' w.heap.size w'.heap.size w.heap.size ll ∧ Below w.heap.size w w' := by
  have hmk := run_make_row' (P := Tryz.prog) 23 83 (.slice none 0 0) 24 Tryz.underlying23 Tryz.info83 rfl .i64 .i64 ll.length (by omega) (by omega)
  go_enter Tryz.func32, Tryz.ntmps32
  go_wp2_with fail
  clear hmk
  go_loopw [4] (fun s4 wr => ∃ n : Nat, s4 = .int .i64 n ∧ n ≤ ll.length ∧ Parts w wr ll n) (fun s4 _ => ll.length - (intOf s4).toNat)
  case atStart => exact ⟨0, rfl, Nat.zero_le _, parts_start w ll _⟩
  case round =>
    obtain ⟨n, rfl, hn, hpart⟩ := hrel
    by_cases hlt : n < ll.length
    · obtain ⟨rfl⟩ := h.addr (by omega)
      have hbel := hpart.bel
      obtain ⟨a', b', o', c', hc, hd⟩ := (h.below hbel (Nat.le_refl _)).row n hlt
      have hlt' := hls _ (List.getElem_mem hlt)
      generalize hln : ll[n] = t at hd hc hlt'
      have HL : Hid (ll[n] = t) := hln
      clear hln
      obtain ⟨f, hf⟩ := hpart.own
      have hlb := hf.lt
      go_wp2_with (go_at_call 62; refine (toDoS_any a' b' o' c' t _ hlt' hd).mono ?_; rintro e w1 ⟨rfl, hs1, hz1, hb1⟩; have c0 : w1.cell? ⟨w.heap.size, n, none⟩ = some (f n) := (hb1.cell (p := ⟨w.heap.size, n, none⟩) hlb).trans (hf.cell hlt); have f0 : ∀ i, w1.frozen? ⟨w.heap.size, i, none⟩ = false := fun i => (hb1.frozen (p := ⟨w.heap.size, i, none⟩) hlb).trans (hf.frozen i))
      exact ⟨⟨n + 1, by go_num, by omega, parts_step hpart hlt hb1 HL.out hs1 hlb hz1⟩, by simp [intOf]; omega⟩
    · go_wp2_with fail
      go_ret
      refine ⟨rfl, ⟨Nat.le_refl _, fun i hi => ?_, Nat.le_refl _⟩, hpart.bel⟩
      obtain ⟨a', b', o', c', hc, hd, hb', hz⟩ := hpart.done i (by omega) hi
      exact ⟨a', b', o', c', hc, hd, Nat.le_of_lt hb', hz⟩

set_option maxHeartbeats 400000 in
theorem toProg_any (a : Option Addr) (b o c : Nat) (ll : List (List M.D)) (w : World) (hl : ll.length ≤ 1048576) (hls : ∀ t ∈ ll, t.length ≤ 1048576) (h : DoSS w a b o ll) :
    Calls Tryz.prog 10 #[.agg #[.slice a ll.length c]] w fun e w' => ∃ g, e = .returned (.agg #[.slice (some ⟨g, 0, none⟩) ll.length ll.length]) ∧ NewSS w' w.heap.size w'.heap.size g ll ∧ Below w.heap.size w w' := by
  go_enter Tryz.func10, Tryz.ntmps10
  go_wp2_with (go_at_call 32; refine (toDoSS_any a b o c ll _ hl hls (h.below (below3 w _ _ _) (Nat.le_refl _))).mono ?_; rintro e w1 ⟨rfl, hs1, hb1⟩; obtain ⟨hc1, hf1⟩ := bcell hb1)
  refine bodyPost_ret (v := .agg #[.slice (some ⟨w.heap.size + 1 + 1 + 1, 0, none⟩) ll.length ll.length]) (by simp [results, Tryz.results10, go_sem, hc1]) rfl ⟨_, rfl, ?_, ?_⟩
  · simp only [World.size_alloc] at hs1
    rw [show ∀ p q u v, ((w1.setCell p u).setCell q v).heap.size = w1.heap.size from fun p q u v => by simp [World.setCell]]
    refine NewSS.mono (NewSS.other (NewSS.other hs1 ?_ _) ?_ _) ?_ <;> omega
  · exact (((below3 w _ _ _).trans (hb1.mono (by simp; omega))).setCell (by simp; omega) _).setCell (by simp) _

end Go.Proofs.YtjpgpjjejbjldaaGreat

namespace Go.Proofs.YtjpgpjjejbjldaaGreat
open Go.RowKit

theorem Tryz.infoRow : (Tryz.prog.info? 26).map (fun i => (i.zero, i.size, i.bytes)) = some (some (.slice none 0 0), 1, 24) := by kernel_rfl

/-- The first n rows are copied. -/
structure PartR (w wr : World) (rows : List (List Int)) (n : Nat) : Prop where
  bel : Below w.heap.size w wr
  own : ∃ f, wr.rowIs w.heap.size 26 rows.length f
  done : ∀ q (_ : q < n) (h : q < rows.length), ∃ a' b' o' c', wr.cell? ⟨w.heap.size, q, none⟩ = some (.slice a' rows[q].length c') ∧ IntS wr a' b' o' rows[q] ∧ w.heap.size < b' ∧ Fz wr b' ∧ b' < wr.heap.size
theorem partR_step {w wr w1 : World} {rows : List (List Int)} {n : Nat} {t : List Int} {a' : Option Addr} {b' o' c' : Nat} (hp : PartR w wr rows n) (hb1 : Below wr.heap.size wr w1) (hd : ∀ h : n < rows.length, rows[n] = t)
    (hs : IntS w1 a' b' o' t) (hb' : w.heap.size < b') (hz : Fz w1 b' ∧ b' < w1.heap.size) : PartR w (w1.setCell ⟨w.heap.size, n, none⟩ (.slice a' t.length c')) rows (n + 1) := by
  obtain ⟨f, hf⟩ := hp.own
  have hlb := hf.lt
  have hf1 : w1.rowIs w.heap.size 26 rows.length f := hf.of_block (hb1.block _ hlb)
  have hr := hf1.set n (.slice a' t.length c')
  refine ⟨(hp.bel.trans (hb1.mono hp.bel.size)).setCell (Nat.le_refl _) _, ⟨_, hr⟩, fun q hq hql => ?_⟩
  by_cases e : q = n
  · subst e
    rw [hd hql]
    exact ⟨a', b', o', c', by rw [hr.cell hql]; simp, hs.other (by omega), hb', hz.1.set _ _, by simpa [World.setCell] using hz.2⟩
  · obtain ⟨a2, b2, o2, c2, hc2, hd2, hb2, hz2, hl2⟩ := hp.done q (by omega) hql
    refine ⟨a2, b2, o2, c2, ?_, (hd2.below hb1 (Nat.le_refl _)).other (by omega), hb2, (hz2.below hb1 hl2).set _ _, by have := hb1.size; simp [World.setCell]; omega⟩
    rw [World.cell?_setCell_other _ _ _ _ (fun e' => e (by have := congrArg Addr.off e'; simp at this; omega)), hb1.cell (p := ⟨w.heap.size, q, none⟩) hlb]
    exact hc2
/-- Rows that a call has made: all their blocks are new ones, from B on, below N, and may be written. -/
structure NewRR (w : World) (B N g : Nat) (rows : List (List Int)) : Prop where
  ge : B ≤ g
  row : ∀ i (h : i < rows.length), ∃ a' b' o' c', w.cell? ⟨g, i, none⟩ = some (.slice a' rows[i].length c') ∧ IntS w a' b' o' rows[i] ∧ B ≤ b' ∧ Fz w b' ∧ b' < N
  le : N ≤ w.heap.size
theorem NewRR.old {w : World} {B N g : Nat} {rows : List (List Int)} (h : NewRR w B N g rows) : IntSS w (some ⟨g, 0, none⟩) g 0 rows :=
  ⟨fun _ => rfl, fun i hi => by
    obtain ⟨a', b', o', c', hc, hd, _⟩ := h.row i hi
    exact ⟨a', b', o', c', by rw [Nat.zero_add]; exact hc, hd⟩⟩
theorem NewRR.other {w : World} {B N g : Nat} {rows : List (List Int)} (h : NewRR w B N g rows) {b i : Nat} (hb : b < B) (u : Value) : NewRR (w.setCell ⟨b, i, none⟩ u) B N g rows :=
  ⟨h.ge, fun j hj => by
    obtain ⟨a', b', o', c', hc, hd, hb', hz, hl2⟩ := h.row j hj
    have hg := h.ge
    exact ⟨a', b', o', c', by rw [World.cell?_setCell_other _ _ _ _ (fun e => by have := congrArg Addr.block e; simp at this; omega)]; exact hc, hd.other (by omega), hb', hz.set _ _, hl2⟩, by have := h.le; simpa [World.setCell] using this⟩
theorem NewRR.below {w w' : World} {B C N g : Nat} {rows : List (List Int)} (h : NewRR w B N g rows) (hb : Below C w w') (hC : w.heap.size ≤ C) : NewRR w' B N g rows :=
  ⟨h.ge, fun i hi => by
    obtain ⟨a', b', o', c', hc, hd, hb', hz, hl2⟩ := h.row i hi
    have hl := World.block_lt_of_cell? _ _ hc
    exact ⟨a', b', o', c', by rw [hb.cell (p := ⟨g, i, none⟩) (Nat.lt_of_lt_of_le hl hC)]; exact hc, hd.below hb hC, hb', hz.below hb (Nat.lt_of_lt_of_le (Nat.lt_of_lt_of_le hl2 h.le) hC), hl2⟩, Nat.le_trans h.le hb.size⟩
theorem NewRR.mono {w : World} {B B' N g : Nat} {rows : List (List Int)} (h : NewRR w B N g rows) (hB : B' ≤ B) : NewRR w B' N g rows :=
  ⟨Nat.le_trans hB h.ge, fun i hi => by
    obtain ⟨a', b', o', c', hc, hd, hb, hz⟩ := h.row i hi
    exact ⟨a', b', o', c', hc, hd, Nat.le_trans hB hb, hz⟩, h.le⟩
/-- A way that a call has made. -/
structure NewX (w : World) (B N g1 g2 : Nat) (l : List Int) (rows : List (List Int)) : Prop where
  f : IntS w (some ⟨g1, 0, none⟩) g1 0 l
  fz : Fz w g1
  ge : B ≤ g1
  lt : g1 < N
  r : NewRR w B N g2 rows
theorem NewX.below {w w' : World} {B C N g1 g2 : Nat} {l : List Int} {rows : List (List Int)} (h : NewX w B N g1 g2 l rows) (hb : Below C w w') (hC : w.heap.size ≤ C) : NewX w' B N g1 g2 l rows :=
  ⟨h.f.below hb hC, h.fz.below hb (Nat.lt_of_lt_of_le (Nat.lt_of_lt_of_le h.lt h.r.le) hC), h.ge, h.lt, h.r.below hb hC⟩
theorem NewX.mono {w : World} {B B' N g1 g2 : Nat} {l : List Int} {rows : List (List Int)} (h : NewX w B N g1 g2 l rows) (hB : B' ≤ B) : NewX w B' N g1 g2 l rows := ⟨h.f, h.fz, Nat.le_trans hB h.ge, h.lt, h.r.mono hB⟩

set_option maxHeartbeats 400000 in
theorem toIntSS_any (a : Option Addr) (b o c : Nat) (rows : List (List Int)) (w : World) (hl : rows.length ≤ 1048576) (hrs : ∀ r ∈ rows, r.length ≤ 1048576) (h : IntSS w a b o rows) :
    Calls Tryz.prog 34 #[.slice a rows.length c] w fun e w' => e = .returned (.slice (some ⟨w.heap.size, 0, none⟩) rows.length rows.length) ∧ NewRR w' w.heap.size w'.heap.size w.heap.size rows ∧ Below w.heap.size w w' := by
  have hmk := run_make_row' (P := Tryz.prog) 27 26 (.slice none 0 0) 24 Tryz.underlying27 Tryz.infoRow rfl .i64 .i64 rows.length (by omega) (by omega)
  go_enter Tryz.func34, Tryz.ntmps34
  go_wp2_with fail
  clear hmk
  go_loopw [4] (fun s4 wr => ∃ n : Nat, s4 = .int .i64 n ∧ n ≤ rows.length ∧ PartR w wr rows n) (fun s4 _ => rows.length - (intOf s4).toNat)
  case atStart => exact ⟨0, rfl, Nat.zero_le _, ⟨below1 _ _, ⟨_, World.rowIs_made w (.slice none 0 0) rows.length 26⟩, fun _ hq _ => absurd hq (Nat.not_lt_zero _)⟩⟩
  case round =>
    obtain ⟨n, rfl, hn, hpart⟩ := hrel
    by_cases hlt : n < rows.length
    · obtain ⟨rfl⟩ := h.addr (by omega)
      obtain ⟨a', b', o', c', hc, hd⟩ := (h.below hpart.bel (Nat.le_refl _)).row n hlt
      have hlt' := hrs _ (List.getElem_mem hlt)
      generalize hln : rows[n] = t at hd hc hlt'
      have HL : Hid (∀ h : n < rows.length, rows[n] = t) := fun _ => hln
      clear hln
      obtain ⟨f, hf⟩ := hpart.own
      have hlb := hf.lt
      go_wp2_with (go_at_call 33; refine (toIntS_any a' b' o' c' t _ hlt' hd).mono ?_; rintro e w1 ⟨rfl, hs1, ⟨f1, hf1⟩, hb1⟩; have c0 : w1.cell? ⟨w.heap.size, n, none⟩ = some (f n) := (hb1.cell (p := ⟨w.heap.size, n, none⟩) hlb).trans (hf.cell hlt); have f0 : ∀ i, w1.frozen? ⟨w.heap.size, i, none⟩ = false := fun i => (hb1.frozen (p := ⟨w.heap.size, i, none⟩) hlb).trans (hf.frozen i))
      exact ⟨⟨n + 1, by go_num, by omega, partR_step hpart hb1 HL.out hs1 hlb ⟨fun j => hf1.frozen j, hf1.lt⟩⟩, by simp [intOf]; omega⟩
    · go_wp2_with fail
      go_ret
      refine ⟨rfl, ⟨Nat.le_refl _, fun i hi => ?_, Nat.le_refl _⟩, hpart.bel⟩
      obtain ⟨a', b', o', c', hc, hd, hb', hz⟩ := hpart.done i (by omega) hi
      exact ⟨a', b', o', c', hc, hd, Nat.le_of_lt hb', hz⟩

set_option maxHeartbeats 1000000 in
theorem toExec_any (fa : Option Addr) (fb fo fc : Nat) (l : List Int) (ra : Option Addr) (rb ro rc : Nat) (rows : List (List Int)) (w : World) (hl1 : l.length ≤ 1048576) (hl : rows.length ≤ 1048576) (hrs : ∀ r ∈ rows, r.length ≤ 1048576) (as1 : IntS w fa fb fo l) (as2 : IntSS w ra rb ro rows) :
    Calls Tryz.prog 11 #[.agg #[.slice fa l.length fc, .slice ra rows.length rc]] w fun e w' => ∃ g1 g2, e = .returned (.agg #[.slice (some ⟨g1, 0, none⟩) l.length l.length, .slice (some ⟨g2, 0, none⟩) rows.length rows.length]) ∧ NewX w' w.heap.size w'.heap.size g1 g2 l rows ∧ Below w.heap.size w w' := by
  go_enter Tryz.func11, Tryz.ntmps11
  go_wp2_with fail
  have hb3 := below3 w (.cells #[.slice fa l.length fc, .slice ra rows.length rc] 37) (.cells #[.slice none 0 0, .slice none 0 0] 29) (.cells #[.slice none 0 0, .slice none 0 0] 29)
  refine (toIntS_any fa fb fo fc l _ hl1 (as1.below hb3 (Nat.le_refl _))).mono ?_
  rintro e w1 ⟨rfl, hn1, ⟨f1, hr1⟩, hb1⟩
  obtain ⟨hc1, hf1⟩ := bcell hb1
  simp only [World.size_alloc] at hn1 hr1 hb1 hc1 hf1
  have hlt1 := hr1.lt
  go_wp2_with fail
  have hb1' : Below w.heap.size w (w1.setCell ⟨w.heap.size + 1 + 1, 0, none⟩ (.slice (some ⟨w.heap.size + 1 + 1 + 1, 0, none⟩) l.length l.length)) := (hb3.trans (hb1.mono (by omega))).setCell (by show w.heap.size ≤ w.heap.size + 1 + 1; omega) _
  refine (toIntSS_any ra rb ro rc rows _ hl hrs (as2.below hb1' (Nat.le_refl _))).mono ?_
  rintro e w2 ⟨rfl, hn2, hb2⟩
  obtain ⟨hc2, hf2⟩ := bcell hb2
  have hs2 : (w1.setCell ⟨w.heap.size + 1 + 1, 0, none⟩ (.slice (some ⟨w.heap.size + 1 + 1 + 1, 0, none⟩) l.length l.length)).heap.size = w1.heap.size := World.size_setCell _ _ _
  rw [hs2] at hn2 hb2 hc2 hf2
  have d0 : w1.cell? ⟨w.heap.size + 1 + 1, 0, none⟩ = some (.slice none 0 0) := by
    have h := hc1 (w.heap.size + 1 + 1) 0 (by omega)
    rw [h]
    simp [go_sem]
  have d1 : w1.cell? ⟨w.heap.size + 1 + 1, 1, none⟩ = some (.slice none 0 0) := by
    have h := hc1 (w.heap.size + 1 + 1) 1 (by omega)
    rw [h]
    simp [go_sem]
  have d2 : w1.cell? ⟨w.heap.size + 1, 0, none⟩ = some (.slice none 0 0) := by
    have h := hc1 (w.heap.size + 1) 0 (by omega)
    rw [h]
    simp [go_sem]
  have d3 : w1.cell? ⟨w.heap.size + 1, 1, none⟩ = some (.slice none 0 0) := by
    have h := hc1 (w.heap.size + 1) 1 (by omega)
    rw [h]
    simp [go_sem]
  have e0 : w2.cell? ⟨w.heap.size + 1 + 1, 0, none⟩ = some (.slice (some ⟨w.heap.size + 1 + 1 + 1, 0, none⟩) l.length l.length) := by
    rw [hc2 _ _ (by omega)]
    exact World.cell?_setCell_same _ _ _ d0
  have e1 : w2.cell? ⟨w.heap.size + 1 + 1, 1, none⟩ = some (.slice none 0 0) := by
    rw [hc2 _ _ (by omega), World.cell?_setCell_other _ _ _ _ (by simp)]; exact d1
  have e2 : w2.cell? ⟨w.heap.size + 1, 0, none⟩ = some (.slice none 0 0) := by
    rw [hc2 _ _ (by omega), World.cell?_setCell_other _ _ _ _ (by simp)]; exact d2
  have e3 : w2.cell? ⟨w.heap.size + 1, 1, none⟩ = some (.slice none 0 0) := by
    rw [hc2 _ _ (by omega), World.cell?_setCell_other _ _ _ _ (by simp)]; exact d3
  have z0 : w2.frozen? ⟨w.heap.size + 1 + 1, 1, none⟩ = false := by
    rw [hf2 _ _ (by omega), World.frozen?_setCell, hf1 _ _ (by omega)]; simp [go_sem]
  have z1 : w2.frozen? ⟨w.heap.size + 1, 0, none⟩ = false := by
    rw [hf2 _ _ (by omega), World.frozen?_setCell, hf1 _ _ (by omega)]; simp [go_sem]
  have z2 : w2.frozen? ⟨w.heap.size + 1, 1, none⟩ = false := by
    rw [hf2 _ _ (by omega), World.frozen?_setCell, hf1 _ _ (by omega)]; simp [go_sem]
  have hn1' := (hn1.other (B := w.heap.size + 1 + 1) (i := 0) (u := .slice (some ⟨w.heap.size + 1 + 1 + 1, 0, none⟩) l.length l.length) (by omega)).below hb2 (by rw [hs2]; exact Nat.le_refl _)
  have hz1 : Fz w2 (w.heap.size + 1 + 1 + 1) := fun j => by rw [hf2 _ _ (by omega), World.frozen?_setCell]; exact hr1.frozen j
  clear hc1 hf1 hc2 hf2 d0 d1 d2 d3
  rw [hs2]
  go_wp2_with fail
  have hbw2 : Below w.heap.size w w2 := hb1'.trans (hb2.mono (by omega))
  refine bodyPost_ret (v := .agg #[.slice (some ⟨w.heap.size + 1 + 1 + 1, 0, none⟩) l.length l.length, .slice (some ⟨w1.heap.size, 0, none⟩) rows.length rows.length]) (by simp [results, Tryz.results11, go_sem, e2, e3]) rfl ⟨_, _, rfl, ?_, ?_⟩
  · rw [show ∀ p q r u v x, (((w2.setCell p u).setCell q v).setCell r x).heap.size = w2.heap.size from fun p q r u v x => by simp [World.setCell]]
    exact ⟨((hn1'.other (by omega)).other (by omega)).other (by omega), (((hz1.set _ _).set _ _).set _ _), by omega, by have := hb2.size; omega, (((hn2.mono (by omega)).other (B := w1.heap.size) (by omega) _).other (by omega) _).other (by omega) _ |>.mono (by omega)⟩
  · exact ((hbw2.setCell (by show w.heap.size ≤ w.heap.size + 1 + 1; omega) _).setCell (by show w.heap.size ≤ w.heap.size + 1; omega) _).setCell (by show w.heap.size ≤ w.heap.size + 1; omega) _

end Go.Proofs.YtjpgpjjejbjldaaGreat

namespace Go.Proofs.YtjpgpjjejbjldaaGreat
open Go.RowKit

set_option maxHeartbeats 400000 in
theorem eqDo_same (d : M.D) (w : World) :
    Calls Tryz.prog 92 #[.agg #[.int .i64 d.k, .int .i64 d.p, .int .i64 d.v], .agg #[.int .i64 d.k, .int .i64 d.p, .int .i64 d.v]] w fun e w' => e = .returned (.bool true) ∧ Below w.heap.size w w' := by
  obtain ⟨k, p, v⟩ := d
  go_enter Tryz.func92, Tryz.ntmps92
  go_wp2_with fail
  go_ret
  exact ⟨rfl, below2 _ _ _⟩

set_option maxHeartbeats 400000 in
theorem eqDoS_same (a : Option Addr) (b o c : Nat) (a2 : Option Addr) (b2 o2 c2 : Nat) (l : List M.D) (w : World) (hl : l.length ≤ 1048576) (h : DoS w a b o l) (h2 : DoS w a2 b2 o2 l) :
    Calls Tryz.prog 63 #[.slice a l.length c, .slice a2 l.length c2] w fun e w' => e = .returned (.bool true) ∧ Below w.heap.size w w' := by
  go_enter Tryz.func63, Tryz.ntmps63
  go_wp2_with fail
  go_loopw [5] (fun s5 wr => ∃ n : Nat, s5 = .int .i64 n ∧ n ≤ l.length ∧ Below w.heap.size w wr) (fun s5 _ => l.length - (intOf s5).toNat)
  case atStart => exact ⟨0, rfl, Nat.zero_le _, Below.refl _ _⟩
  case round =>
    obtain ⟨n, rfl, hn, hbel⟩ := hrel
    by_cases hlt : n < l.length
    · obtain ⟨rfl⟩ := h.addr (by omega)
      obtain ⟨rfl⟩ := h2.addr (by omega)
      have hd := (h.row n hlt).below hbel (Nat.le_refl _)
      have hd2 := (h2.row n hlt).below hbel (Nat.le_refl _)
      generalize l[n] = d at hd hd2
      obtain ⟨k, p, v⟩ := d
      obtain ⟨ck, cp, cv⟩ := hd
      obtain ⟨ck2, cp2, cv2⟩ := hd2
      go_wp2_with fail
      go_region_with (go_at_call 92; refine (eqDo_same ⟨k, p, v⟩ _).mono ?_; rintro e w1 ⟨rfl, hb1⟩)
      all_goals
        go_wp2_with fail
        exact ⟨⟨n + 1, by go_num, by omega, hbel.drew.trans (hb1.mono hbel.size)⟩, by simp [intOf]; omega⟩
    · go_wp2_with fail
      go_ret
      exact ⟨rfl, hbel⟩

set_option maxHeartbeats 400000 in
theorem eqDoSS_same (a : Option Addr) (b o c : Nat) (a2 : Option Addr) (b2 o2 c2 : Nat) (ll : List (List M.D)) (w : World) (hl : ll.length ≤ 1048576) (hls : ∀ t ∈ ll, t.length ≤ 1048576) (h : DoSS w a b o ll) (h2 : DoSS w a2 b2 o2 ll) :
    Calls Tryz.prog 35 #[.slice a ll.length c, .slice a2 ll.length c2] w fun e w' => e = .returned (.bool true) ∧ Below w.heap.size w w' := by
  go_enter Tryz.func35, Tryz.ntmps35
  go_wp2_with fail
  go_loopw [5] (fun s5 wr => ∃ n : Nat, s5 = .int .i64 n ∧ n ≤ ll.length ∧ Below w.heap.size w wr) (fun s5 _ => ll.length - (intOf s5).toNat)
  case atStart => exact ⟨0, rfl, Nat.zero_le _, Below.refl _ _⟩
  case round =>
    obtain ⟨n, rfl, hn, hbel⟩ := hrel
    by_cases hlt : n < ll.length
    · obtain ⟨rfl⟩ := h.addr (by omega)
      obtain ⟨rfl⟩ := h2.addr (by omega)
      obtain ⟨a', b', o', c', hc, hd⟩ := (h.below hbel (Nat.le_refl _)).row n hlt
      obtain ⟨a3, b3, o3, c3, hc3, hd3⟩ := (h2.below hbel (Nat.le_refl _)).row n hlt
      have hlt' := hls _ (List.getElem_mem hlt)
      generalize ll[n] = t at hd hc hd3 hc3 hlt'
      go_wp2_with fail
      go_region_with (go_at_call 63; refine (eqDoS_same a' b' o' c' a3 b3 o3 c3 t _ hlt' ?_ ?_).mono ?_; exact hd.below (Below.refl _ _).drew (Nat.le_refl _); exact hd3.below (Below.refl _ _).drew (Nat.le_refl _); rintro e w1 ⟨rfl, hb1⟩)
      all_goals
        go_wp2_with fail
        exact ⟨⟨n + 1, by go_num, by omega, hbel.drew.trans (hb1.mono hbel.size)⟩, by simp [intOf]; omega⟩
    · go_wp2_with fail
      go_ret
      exact ⟨rfl, hbel⟩

set_option maxHeartbeats 400000 in
theorem eqProg_same (a : Option Addr) (b o c : Nat) (a2 : Option Addr) (b2 o2 c2 : Nat) (ll : List (List M.D)) (w : World) (hl : ll.length ≤ 1048576) (hls : ∀ t ∈ ll, t.length ≤ 1048576) (h : DoSS w a b o ll) (h2 : DoSS w a2 b2 o2 ll) :
    Calls Tryz.prog 12 #[.agg #[.slice a ll.length c], .agg #[.slice a2 ll.length c2]] w fun e w' => e = .returned (.bool true) ∧ Below w.heap.size w w' := by
  go_enter Tryz.func12, Tryz.ntmps12
  go_wp2_with (go_at_call 35; refine (eqDoSS_same a b o c a2 b2 o2 c2 ll _ hl hls (h.below (below2 w _ _) (Nat.le_refl _)) (h2.below (below2 w _ _) (Nat.le_refl _))).mono ?_; rintro e w1 ⟨rfl, hb1⟩)
  go_ret
  exact ⟨rfl, (below2 w _ _).trans (hb1.mono (by simp; omega))⟩

end Go.Proofs.YtjpgpjjejbjldaaGreat

namespace Go.Proofs.YtjpgpjjejbjldaaGreat
open Go.RowKit

set_option maxHeartbeats 400000 in
theorem szDoS_any (a : Option Addr) (n c : Nat) (left : Int) (w : World) (h0 : 0 ≤ left) (h1 : left ≤ 1048576) (hn : n ≤ 9223372036854775807) :
    Calls Tryz.prog 61 #[.slice a n c, .int .i64 left] w fun e w' => ∃ r : Int, e = .returned (.int .i64 r) ∧ w' = w ∧ r ≤ 1048576 ∧ (r < 0 ∨ (0 ≤ r ∧ n ≤ 1048576)) := by
  by_cases hs : left - n < 0
  · go_enter Tryz.func61, Tryz.ntmps61
    go_wp2_with fail
    go_ret
    exact ⟨-1, rfl, rfl, by omega, Or.inl (by omega)⟩
  · go_enter Tryz.func61, Tryz.ntmps61
    go_wp2_with fail
    go_ret
    exact ⟨left - n, rfl, rfl, by omega, Or.inr ⟨by omega, by omega⟩⟩

set_option maxHeartbeats 400000 in
theorem szDoSS_le (a : Option Addr) (b o c : Nat) (ll : List (List M.D)) (left : Int) (w : World) (h0 : 0 ≤ left) (h1 : left ≤ 1048576) (hl : ll.length ≤ 9223372036854775807) (hls : ∀ t ∈ ll, t.length ≤ 9223372036854775807) (h : DoSS w a b o ll) :
    Calls Tryz.prog 29 #[.slice a ll.length c, .int .i64 left] w fun e w' => ∃ r : Int, e = .returned (.int .i64 r) ∧ w' = w ∧ (r < 0 ∨ (r ≤ 1048576 ∧ 0 ≤ r ∧ ll.length ≤ 1048576 ∧ ∀ t ∈ ll, t.length ≤ 1048576)) := by
  by_cases hs : left - ll.length < 0
  · go_enter Tryz.func29, Tryz.ntmps29
    go_wp2_with fail
    go_ret
    exact ⟨-1, rfl, rfl, Or.inl (by omega)⟩
  · go_enter Tryz.func29, Tryz.ntmps29
    go_wp2_with fail
    go_loopw [1, 5] (fun s1 s5 wr => ∃ (r : Int) (n : Nat), s1 = .int .i64 r ∧ s5 = .int .i64 n ∧ n ≤ ll.length ∧ 0 ≤ r ∧ r ≤ 1048576 ∧ (∀ q (_ : q < n) (hq : q < ll.length), ll[q].length ≤ 1048576) ∧ wr = w) (fun _ s5 _ => ll.length - (intOf s5).toNat)
    case atStart => exact ⟨_, 0, rfl, rfl, Nat.zero_le _, by omega, by omega, fun q hq _ => absurd hq (Nat.not_lt_zero _), rfl⟩
    case round =>
      obtain ⟨r, n, rfl, rfl, hn, hr0, hr1, hall, rfl⟩ := hrel
      have HA : Hid (∀ q (_ : q < n) (hq : q < ll.length), ll[q].length ≤ 1048576) := hall
      clear hall
      by_cases hlt : n < ll.length
      · obtain ⟨rfl⟩ := h.addr (by omega)
        obtain ⟨a', b', o', c', hc, hd⟩ := h.row n hlt
        have hlt' := hls _ (List.getElem_mem hlt)
        go_wp2_with (go_at_call 61; refine (szDoS_any a' _ c' r _ hr0 hr1 hlt').mono ?_; rintro e w1 ⟨r', rfl, rfl, hr', hor⟩)
        · go_ret
          exact ⟨-1, rfl, rfl, Or.inl (by omega)⟩
        · exact ⟨⟨r', n + 1, rfl, by go_num, by omega, by omega, hr', fun q hq hql => by
            by_cases e : q = n
            · subst e; omega
            · exact HA.out q (by omega) hql, trivial⟩, by simp [intOf]; omega⟩
      · go_wp2_with fail
        go_ret
        exact ⟨r, rfl, rfl, Or.inr ⟨hr1, hr0, by omega, fun t ht => by
          obtain ⟨q, hq, rfl⟩ := List.getElem_of_mem ht
          exact HA.out q (by omega) hq⟩⟩

set_option maxHeartbeats 400000 in
theorem szProg_le (a : Option Addr) (b o c : Nat) (ll : List (List M.D)) (w : World) (hl : ll.length ≤ 9223372036854775807) (hls : ∀ t ∈ ll, t.length ≤ 9223372036854775807) (h : DoSS w a b o ll) :
    Calls Tryz.prog 8 #[.agg #[.slice a ll.length c], .int .i64 1048576] w fun e w' => ∃ r : Int, e = .returned (.int .i64 r) ∧ w' = w.alloc (.cells #[.slice a ll.length c] 36) ∧ (r < 0 ∨ (r ≤ 1048576 ∧ 0 ≤ r ∧ ll.length ≤ 1048576 ∧ ∀ t ∈ ll, t.length ≤ 1048576)) := by
  go_enter Tryz.func8, Tryz.ntmps8
  go_wp2_with (go_at_call 29; refine (szDoSS_le a b o c ll _ _ (by decide) (by decide) hl hls (h.below (below1 w _) (Nat.le_refl _))).mono ?_; rintro e w1 ⟨r', rfl, rfl, hor⟩)
  · go_ret
    exact ⟨-1, rfl, rfl, Or.inl (by omega)⟩
  · go_ret
    exact ⟨r', rfl, rfl, hor⟩

theorem szProg_any (a : Option Addr) (b o c : Nat) (ll : List (List M.D)) (w : World) (hl : ll.length ≤ 9223372036854775807) (hls : ∀ t ∈ ll, t.length ≤ 9223372036854775807) (h : DoSS w a b o ll) :
    Calls Tryz.prog 8 #[.agg #[.slice a ll.length c], .int .i64 1048576] w fun e w' => ∃ r : Int, e = .returned (.int .i64 r) ∧ w' = w.alloc (.cells #[.slice a ll.length c] 36) ∧ (r < 0 ∨ (0 ≤ r ∧ ll.length ≤ 1048576 ∧ ∀ t ∈ ll, t.length ≤ 1048576)) :=
  (szProg_le a b o c ll w hl hls h).mono fun _ _ ⟨r, he, hw, hor⟩ => ⟨r, he, hw, hor.imp id And.right⟩

end Go.Proofs.YtjpgpjjejbjldaaGreat

namespace Go.Proofs.YtjpgpjjejbjldaaGreat
open Go.RowKit

/-- A way, and where it lies. -/
structure Xo where
  fa : Option Addr
  fb : Nat
  fo : Nat
  fc : Nat
  l : List Int
  ra : Option Addr
  rb : Nat
  ro : Nat
  rc : Nat
  rows : List (List Int)
structure Xo.Le (t : Xo) (n : Nat) : Prop where
  l : t.l.length ≤ n
  rows : t.rows.length ≤ n
  each : ∀ r ∈ t.rows, r.length ≤ n
structure Xo.At (t : Xo) (w : World) : Prop where
  f : IntS w t.fa t.fb t.fo t.l
  r : IntSS w t.ra t.rb t.ro t.rows
theorem Xo.At.below {t : Xo} {w w' : World} {B : Nat} (h : t.At w) (hb : Below B w w') (hB : w.heap.size ≤ B) : t.At w' := ⟨h.f.below hb hB, h.r.below hb hB⟩
/-- A way, laid anew. -/
structure NewXo (w : World) (g1 g2 : Nat) (t : Xo) : Prop where
  f : IntS w (some ⟨g1, 0, none⟩) g1 0 t.l
  r : IntSS w (some ⟨g2, 0, none⟩) g2 0 t.rows
theorem NewXo.below {t : Xo} {g1 g2 : Nat} {w w' : World} {B : Nat} (h : NewXo w g1 g2 t) (hb : Below B w w') (hB : w.heap.size ≤ B) : NewXo w' g1 g2 t := ⟨h.f.below hb hB, h.r.below hb hB⟩
theorem szXo_any (t : Xo) (left : Int) (w : World) (h0 : 0 ≤ left) (h1 : left ≤ 1048576) (hl : t.Le 9223372036854775807) (h : t.At w) :
    Calls Tryz.prog 9 #[.agg #[.slice t.fa t.l.length t.fc, .slice t.ra t.rows.length t.rc], .int .i64 left] w fun e w' => ∃ r : Int, e = .returned (.int .i64 r) ∧ w' = w.alloc (.cells #[.slice t.fa t.l.length t.fc, .slice t.ra t.rows.length t.rc] 37) ∧ r ≤ 1048576 ∧ (r < 0 ∨ (0 ≤ r ∧ t.Le 1048576)) :=
  (szExec_any t.fa t.fc t.l t.ra t.rb t.ro t.rc t.rows left w h0 h1 hl.l hl.rows hl.each h.r).mono fun _ _ ⟨r, he, hw, hr, ho⟩ => ⟨r, he, hw, hr, ho.imp id fun ⟨a, b, c, d⟩ => ⟨a, b, c, d⟩⟩
theorem toXo_any (t : Xo) (w : World) (hl : t.Le 1048576) (h : t.At w) :
    Calls Tryz.prog 11 #[.agg #[.slice t.fa t.l.length t.fc, .slice t.ra t.rows.length t.rc]] w fun e w' => ∃ g1 g2, e = .returned (.agg #[.slice (some ⟨g1, 0, none⟩) t.l.length t.l.length, .slice (some ⟨g2, 0, none⟩) t.rows.length t.rows.length]) ∧ NewXo w' g1 g2 t ∧ Below w.heap.size w w' :=
  (toExec_any t.fa t.fb t.fo t.fc t.l t.ra t.rb t.ro t.rc t.rows w hl.l hl.rows hl.each h.f h.r).mono fun _ _ ⟨g1, g2, he, hx, hb⟩ => ⟨g1, g2, he, ⟨hx.f, hx.r.old⟩, hb⟩
theorem eqXo_any (t : Xo) {w : World} {g1 g2 g3 g4 : Nat} (h : NewXo w g1 g2 t) (h' : NewXo w g3 g4 t) (hl : t.Le 1048576) :
    Calls Tryz.prog 13 #[.agg #[.slice (some ⟨g1, 0, none⟩) t.l.length t.l.length, .slice (some ⟨g2, 0, none⟩) t.rows.length t.rows.length], .agg #[.slice (some ⟨g3, 0, none⟩) t.l.length t.l.length, .slice (some ⟨g4, 0, none⟩) t.rows.length t.rows.length]] w fun e w' => e = .returned (.bool true) ∧ Below w.heap.size w w' :=
  eqExec_same _ g1 0 _ _ g2 0 _ _ g3 0 _ _ g4 0 _ t.l t.rows w hl.l hl.rows hl.each h.f h.r h'.f h'.r
theorem ixo_any (a : Option Addr) (b o c : Nat) (ll : List (List M.D)) (t : Xo) (g1 g2 : Nat) (w : World) (hl : ll.length ≤ 1048576) (hls : ∀ t ∈ ll, t.length ≤ 1048576) (ht : t.Le 1048576) (h : DoSS w a b o ll) (hx : NewXo w g1 g2 t) :
    Calls Tryz.prog 18 #[.agg #[.slice a ll.length c], .agg #[.slice (some ⟨g1, 0, none⟩) t.l.length t.l.length, .slice (some ⟨g2, 0, none⟩) t.rows.length t.rows.length]] w fun e w' => e = .returned (.bool (M.execOk ll t.l t.rows)) ∧ Below w.heap.size w w' :=
  iexecOk_any a b o c ll _ g1 0 _ t.l _ g2 0 _ t.rows w hl hls ht.l ht.rows ht.each h hx.f hx.r
theorem sxo_any (a : Option Addr) (b o c : Nat) (ll : List (List M.D)) (t : Xo) (g1 g2 : Nat) (w : World) (hl : ll.length ≤ 1048576) (hls : ∀ t ∈ ll, t.length ≤ 1048576) (ht : t.Le 1048576) (h : DoSS w a b o ll) (hx : NewXo w g1 g2 t) :
    Calls Tryz.prog 21 #[.agg #[.slice a ll.length c], .agg #[.slice (some ⟨g1, 0, none⟩) t.l.length t.l.length, .slice (some ⟨g2, 0, none⟩) t.rows.length t.rows.length]] w fun e w' => e = .returned (.bool (M.execOk ll t.l t.rows)) ∧ Below w.heap.size w w' :=
  sexecOk_any a b o c ll _ g1 0 _ t.l _ g2 0 _ t.rows w hl hls ht.l ht.each h hx.f hx.r

/-- What stands through the law's calls: the boxes of its two arguments, the arguments themselves. -/
structure StP (w W : World) (a : Option Addr) (b o c : Nat) (ll : List (List M.D)) (t : Xo) : Prop where
  bel : Below w.heap.size w W
  lt : w.heap.size + 1 < W.heap.size
  p0 : W.cell? ⟨w.heap.size, 0, none⟩ = some (.slice a ll.length c)
  q0 : W.cell? ⟨w.heap.size + 1, 0, none⟩ = some (.slice t.fa t.l.length t.fc)
  q1 : W.cell? ⟨w.heap.size + 1, 1, none⟩ = some (.slice t.ra t.rows.length t.rc)
  sa : DoSS W a b o ll
  ta : t.At W

theorem StP.below {w W W' : World} {a : Option Addr} {b o c : Nat} {ll : List (List M.D)} {t : Xo} (h : StP w W a b o c ll t) (hb : Below W.heap.size W W') : StP w W' a b o c ll t := by
  have hl := h.lt
  exact ⟨h.bel.trans (hb.mono h.bel.size), Nat.lt_of_lt_of_le hl hb.size, (hb.cell (p := ⟨w.heap.size, 0, none⟩) (by show w.heap.size < _; omega)).trans h.p0,
    (hb.cell (p := ⟨w.heap.size + 1, 0, none⟩) hl).trans h.q0, (hb.cell (p := ⟨w.heap.size + 1, 1, none⟩) hl).trans h.q1, h.sa.below hb (Nat.le_refl _), h.ta.below hb (Nat.le_refl _)⟩

end Go.Proofs.YtjpgpjjejbjldaaGreat

namespace Go.Proofs.YtjpgpjjejbjldaaGreat
open Go.RowKit

theorem ixd_any (a : Option Addr) (b o c : Nat) (ll : List (List M.D)) (t : Xo) (g1 g2 : Nat) (kd : Int) (w : World) (hl : ll.length ≤ 1048576) (hls : ∀ t ∈ ll, t.length ≤ 1048576) (ht : t.Le 1048576) (h : DoSS w a b o ll) (hx : NewXo w g1 g2 t) :
    Calls Tryz.prog 6 #[.agg #[.slice a ll.length c], .agg #[.slice (some ⟨g1, 0, none⟩) t.l.length t.l.length, .slice (some ⟨g2, 0, none⟩) t.rows.length t.rows.length], .int .i64 kd] w fun e w' => e = .returned (.bool (M.orderHolds ll t.l t.rows kd)) ∧ Below w.heap.size w w' :=
  iorderHolds_any a b o c ll _ g1 0 _ t.l _ g2 0 _ t.rows kd w hl hls ht.l ht.rows ht.each h hx.f hx.r
theorem sxd_any (a : Option Addr) (b o c : Nat) (ll : List (List M.D)) (t : Xo) (g1 g2 : Nat) (kd : Int) (w : World) (hl : ll.length ≤ 1048576) (hls : ∀ t ∈ ll, t.length ≤ 1048576) (ht : t.Le 1048576) (h : DoSS w a b o ll) (hx : NewXo w g1 g2 t) :
    Calls Tryz.prog 7 #[.agg #[.slice a ll.length c], .agg #[.slice (some ⟨g1, 0, none⟩) t.l.length t.l.length, .slice (some ⟨g2, 0, none⟩) t.rows.length t.rows.length], .int .i64 kd] w fun e w' => e = .returned (.bool (M.orderHolds ll t.l t.rows kd)) ∧ Below w.heap.size w w' :=
  sorderHolds_any a b o c ll _ g1 0 _ t.l _ g2 0 _ t.rows kd w hl hls ht.l ht.each h hx.f hx.r

set_option maxHeartbeats 1000000 in
set_option maxRecDepth 100000 in
theorem lawOrderHolds_any (a : Option Addr) (b o c : Nat) (ll : List (List M.D)) (t : Xo) (kd : Int) (w : World) (hl0 : ll.length ≤ 9223372036854775807) (hls0 : ∀ t ∈ ll, t.length ≤ 9223372036854775807) (ht0 : t.Le 9223372036854775807) (hsa : DoSS w a b o ll) (hta : t.At w) :
    Calls Tryz.prog 4 #[.agg #[.slice a ll.length c], .agg #[.slice t.fa t.l.length t.fc, .slice t.ra t.rows.length t.rc], .int .i64 kd] w fun e w' => e = .returned (.bool true) ∧ Below w.heap.size w w' := by
  go_enter Tryz.func4, Tryz.ntmps4
  go_wp2_with fail
  refine (szProg_le a b o c ll _ hl0 hls0 (hsa.below (below2 w _ _) (Nat.le_refl _))).mono ?_
  rintro e w1 ⟨r1, rfl, rfl, hor1⟩
  by_cases hn1 : r1 < 0
  · go_wp2_with fail
    go_ret
    exact ⟨rfl, below3 _ _ _ _⟩
  obtain ⟨hr1, _, hl, hls⟩ := hor1.resolve_left hn1
  clear hor1
  go_wp2_with fail
  refine (szXo_any t r1 _ (by omega) hr1 ht0 (hta.below (below3 w _ _ _) (Nat.le_refl _))).mono ?_
  rintro e w1 ⟨r2, rfl, rfl, hr2, hor2⟩
  have hb4 := (below3 w (.cells #[.slice a ll.length c] 36) (.cells #[.slice t.fa t.l.length t.fc, .slice t.ra t.rows.length t.rc] 37) (.cells #[.slice a ll.length c] 36)).alloc (by simp; omega) (.cells #[.slice t.fa t.l.length t.fc, .slice t.ra t.rows.length t.rc] 37)
  by_cases hn2 : r2 < 0
  · go_wp2_with fail
    go_ret
    exact ⟨rfl, hb4⟩
  have ht := (hor2.resolve_left hn2).2
  clear hor2
  have st0 : StP w _ a b o c ll t := ⟨hb4, by simp, by simp [go_sem], by simp [go_sem], by simp [go_sem], hsa.below hb4 (Nat.le_refl _), hta.below hb4 (Nat.le_refl _)⟩
  generalize ((((w.alloc (.cells #[.slice a ll.length c] 36)).alloc (.cells #[.slice t.fa t.l.length t.fc, .slice t.ra t.rows.length t.rc] 37)).alloc (.cells #[.slice a ll.length c] 36)).alloc (.cells #[.slice t.fa t.l.length t.fc, .slice t.ra t.rows.length t.rc] 37)) = W at *
  clear hb4 hsa hta hl0 hls0 ht0
  go_wp2_with fail
  have st1 := st0.below (Below.refl _ _).drew
  have C1 := toProg_any a b o c ll W.drew hl hls st1.sa
  have X0 := st0.p0; have X2 := st0.q0; have X3 := st0.q1
  obtain ⟨ro, hro⟩ : ∃ r, M.orderHolds ll t.l t.rows kd = r := ⟨_, rfl⟩
  have HR : Hid (M.orderHolds ll t.l t.rows kd = ro) := hro
  clear hro
  go_region_held3 (fun w' => w'.cell? ⟨w.heap.size, 0, none⟩ = some (.slice a ll.length c) ∧ w'.cell? ⟨w.heap.size + 1, 0, none⟩ = some (.slice t.fa t.l.length t.fc) ∧ w'.cell? ⟨w.heap.size + 1, 1, none⟩ = some (.slice t.ra t.rows.length t.rc)) (go_keep) (first
    | (go_at_call 10; refine C1.mono ?_; rintro e w1 ⟨g1, rfl, hn1, hb1⟩; have st2 := st1.below hb1; have Y0 := st2.p0; have Y2 := st2.q0; have Y3 := st2.q1)
    | (go_at_call_of 11 (Value.agg #[.slice t.fa t.l.length t.fc, .slice t.ra t.rows.length t.rc]); refine (toXo_any t _ ht st2.ta).mono ?_; rintro e w2 ⟨g3, g4, rfl, hn2, hb2⟩; have st3 := st2.below hb2; have Z0 := st3.p0; have Z2 := st3.q0; have Z3 := st3.q1)
    | (go_at_call 7; refine (sxd_any _ g1 0 ll.length ll t g3 g4 kd _ hl hls ht (hn1.old.below hb2 (Nat.le_refl _)) hn2).mono ?_; (show ∀ e w', e = Ending.returned (.bool (M.orderHolds ll t.l t.rows kd)) ∧ _ → _); rw [HR.out]; rintro e w3 ⟨rfl, hg3⟩; have st4 := st3.below hg3; have U0 := st4.p0; have U2 := st4.q0; have U3 := st4.q1))
  clear X0 X2 X3 Y0 Y2 Y3 Z0 Z2 Z3 st0 st1 st2 st3 C1 hn1 hn2 hb1 hb2 hg3
  go_wp2_with fail
  refine (toProg_any a b o c ll _ hl hls st4.sa).mono ?_
  rintro e w5 ⟨x1, rfl, hx, hb5⟩
  have st5 := st4.below hb5
  have V0 := st5.p0; have V2 := st5.q0; have V3 := st5.q1; have V4 := st5.lt
  clear U0 U2 U3 st4 hb5
  go_wp2_with fail
  have st6 := st5.below (below1 w5 (.cells #[.slice (some ⟨x1, 0, none⟩) ll.length ll.length] 25))
  have hx6 := hx.below (below1 w5 (.cells #[.slice (some ⟨x1, 0, none⟩) ll.length ll.length] 25)) (Nat.le_refl _)
  refine (toXo_any t _ ht st6.ta).mono ?_
  rintro e w7 ⟨y1, y2, rfl, hy, hb7⟩
  have st7 := st6.below hb7
  have hx7 := hx6.below hb7 (Nat.le_refl _)
  have A0 : w7.cell? ⟨w5.heap.size, 0, none⟩ = some (.slice (some ⟨x1, 0, none⟩) ll.length ll.length) := by rw [hb7.cell (p := ⟨w5.heap.size, 0, none⟩) (by simp)]; simp
  have A2 : w5.heap.size < w7.heap.size := World.block_lt_of_cell? _ _ A0
  have V0' := st7.p0; have V2' := st7.q0; have V3' := st7.q1; have V4' := st7.lt
  clear V0 V2 V3 V4 st5 st6 hx hx6 hb7
  go_wp2_with fail
  have hb8 := below1 w7 (.cells #[.slice (some ⟨y1, 0, none⟩) t.l.length t.l.length, .slice (some ⟨y2, 0, none⟩) t.rows.length t.rows.length] 29)
  refine (ixd_any _ x1 0 ll.length ll t y1 y2 kd _ hl hls ht (hx7.old.below hb8 (Nat.le_refl _)) (hy.below hb8 (Nat.le_refl _))).mono ?_
  show ∀ e w', e = Ending.returned (.bool (M.orderHolds ll t.l t.rows kd)) ∧ _ → _
  rw [HR.out]
  rintro e w8 ⟨rfl, hg8⟩
  have hb8' : Below w7.heap.size w7 w8 := hb8.trans (hg8.mono (by simp))
  have st8 := st7.below hb8'
  have hx8 := hx7.below hb8' (Nat.le_refl _)
  have hy8 := hy.below hb8' (Nat.le_refl _)
  have X0 := st8.p0; have X2 := st8.q0; have X3 := st8.q1; have X4 := st8.lt
  have B0 : w8.cell? ⟨w5.heap.size, 0, none⟩ = some (.slice (some ⟨x1, 0, none⟩) ll.length ll.length) := (hb8'.cell (p := ⟨w5.heap.size, 0, none⟩) A2).trans A0
  have B2 : w8.cell? ⟨w7.heap.size, 0, none⟩ = some (.slice (some ⟨y1, 0, none⟩) t.l.length t.l.length) := by rw [hg8.cell (p := ⟨w7.heap.size, 0, none⟩) (by simp)]; simp
  have B3 : w8.cell? ⟨w7.heap.size, 1, none⟩ = some (.slice (some ⟨y2, 0, none⟩) t.rows.length t.rows.length) := by rw [hg8.cell (p := ⟨w7.heap.size, 1, none⟩) (by simp)]; simp
  have L5 : w5.heap.size < w8.heap.size := World.block_lt_of_cell? _ _ B0
  have L7 : w7.heap.size < w8.heap.size := World.block_lt_of_cell? _ _ B2
  clear A0 A2 V0' V2' V3' V4' st7 hx7 hy hb8 hb8' hg8
  generalize w5.heap.size = G5 at *
  generalize w7.heap.size = G7 at *
  go_wp2_with fail
  have st9 := st8.below (Below.refl _ _).drew
  have hx9 := hx8.below (Below.refl _ _).drew (Nat.le_refl _)
  have C1 := toProg_any a b o c ll w8.drew hl hls st9.sa
  go_region_held3 (fun w' => w'.cell? ⟨w.heap.size, 0, none⟩ = some (.slice a ll.length c) ∧ w'.cell? ⟨G5, 0, none⟩ = some (.slice (some ⟨x1, 0, none⟩) ll.length ll.length)) (go_keep) (first
    | (go_at_call 10; refine C1.mono ?_; rintro e w9 ⟨g1, rfl, hn1, hb1⟩; have st10 := st9.below hb1; have Y0 := st10.p0; have D0 := (hb1.cell (p := ⟨G5, 0, none⟩) L5).trans B0)
    | (go_at_call 12; refine (eqProg_same _ x1 0 ll.length _ g1 0 ll.length ll _ hl hls (hx9.below hb1 (Nat.le_refl _)).old hn1.old).mono ?_; rintro e w10 ⟨rfl, hg10⟩; have st11 := st10.below hg10; have Z0 := st11.p0; have E0 := (hg10.cell (p := ⟨G5, 0, none⟩) (Nat.lt_of_lt_of_le L5 hb1.size)).trans D0))
  have hy11 := ((hy8.below (Below.refl _ _).drew (Nat.le_refl _)).below hb1 (Nat.le_refl _)).below hg10 (Nat.le_refl _)
  have hb11 : Below w8.heap.size w8 w10 := ((Below.refl _ _).drew.trans hb1).trans (hg10.mono hb1.size)
  have F0 := (hb11.cell (p := ⟨G7, 0, none⟩) L7).trans B2
  have F1 := (hb11.cell (p := ⟨G7, 1, none⟩) L7).trans B3
  have L7' : G7 < w10.heap.size := World.block_lt_of_cell? _ _ F0
  have Z2 := st11.q0; have Z3 := st11.q1
  clear B0 B2 B3 L5 L7 D0 E0 Y0 X0 X2 X3 X4 st8 st9 st10 hx8 hy8 hx9 C1 hn1 hb1 hg10 hb11
  go_wp2_with fail
  have st12 := st11.below (Below.refl _ _).drew
  have hy12 := hy11.below (Below.refl _ _).drew (Nat.le_refl _)
  have C2 := toXo_any t w10.drew ht st12.ta
  go_region_held3 (fun w' => w'.cell? ⟨w.heap.size + 1, 0, none⟩ = some (.slice t.fa t.l.length t.fc) ∧ w'.cell? ⟨w.heap.size + 1, 1, none⟩ = some (.slice t.ra t.rows.length t.rc) ∧ w'.cell? ⟨G7, 0, none⟩ = some (.slice (some ⟨y1, 0, none⟩) t.l.length t.l.length) ∧ w'.cell? ⟨G7, 1, none⟩ = some (.slice (some ⟨y2, 0, none⟩) t.rows.length t.rows.length)) (go_keep) (first
    | (go_at_call 11; refine C2.mono ?_; rintro e w12 ⟨g3, g4, rfl, hn2, hb2⟩; have st13 := st12.below hb2; have Y0 := st13.q0; have Y1 := st13.q1; have D0 := (hb2.cell (p := ⟨G7, 0, none⟩) L7').trans F0; have D1 := (hb2.cell (p := ⟨G7, 1, none⟩) L7').trans F1)
    | (go_at_call 13; refine (eqXo_any t (hy12.below hb2 (Nat.le_refl _)) hn2 ht).mono ?_; rintro e w13 ⟨rfl, hg13⟩; have st14 := st13.below hg13; have Z4 := st14.q0; have Z5 := st14.q1; have E0 := (hg13.cell (p := ⟨G7, 0, none⟩) (Nat.lt_of_lt_of_le L7' hb2.size)).trans D0; have E1 := (hg13.cell (p := ⟨G7, 1, none⟩) (Nat.lt_of_lt_of_le L7' hb2.size)).trans D1))
  go_wp2_with fail
  go_ret
  exact ⟨rfl, st14.bel⟩

end Go.Proofs.YtjpgpjjejbjldaaGreat
