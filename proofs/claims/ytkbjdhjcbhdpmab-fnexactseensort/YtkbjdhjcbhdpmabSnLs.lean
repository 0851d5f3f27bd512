/- The law's own sizing, copying and comparing of lists of what was seen: laws.szSeenS, toSeenS, eqSeenS. Of lists of at most 1048576 that were seen, each of at most 1048576 numbers (sizing: of at most 9223372036854775807). -/
import Derived.Test.YtkbjdhjcbhdpmabSnIn
import Derived.Test.YtkbjdhjcbhdpmabSnConv
namespace Go.Proofs.Ytkbjdhjcbhdpmab
open Go.RowKit

set_option maxHeartbeats 400000 in
theorem szSeenS_any (a : Option Addr) (b o c : Nat) (ks : List Key) (w : World) (hl : ks.length ≤ 9223372036854775807) (hls : KLe ks 9223372036854775807) (h : KS w a b o ks) :
    Calls Try.prog 5 #[.slice a ks.length c, .int .i64 1048576] w fun e w' => ∃ r : Int, e = .returned (.int .i64 r) ∧ Below w.heap.size w w' ∧ (r < 0 ∨ (r ≤ 1048576 ∧ 0 ≤ r ∧ ks.length ≤ 1048576 ∧ KLe ks 1048576)) := by
  by_cases hs : (1048576 : Int) - ks.length < 0
  · go_enter Try.func5, Try.ntmps5
    go_wp2_with fail
    go_ret
    exact ⟨-1, rfl, Below.refl _ _, Or.inl (by omega)⟩
  · go_enter Try.func5, Try.ntmps5
    go_wp2_with fail
    go_loopw [1, 5] (fun s1 s5 wr => ∃ (r : Int) (n : Nat), s1 = .int .i64 r ∧ s5 = .int .i64 n ∧ n ≤ ks.length ∧ 0 ≤ r ∧ r ≤ 1048576 ∧ (∀ q (_ : q < n) (hq : q < ks.length), ks[q].1.length ≤ 1048576 ∧ ks[q].2.length ≤ 1048576) ∧ Below w.heap.size w wr) (fun _ s5 _ => ks.length - (intOf s5).toNat)
    case atStart => exact ⟨_, 0, rfl, rfl, Nat.zero_le _, by omega, by omega, fun q hq _ => absurd hq (Nat.not_lt_zero _), Below.refl _ _⟩
    case round =>
      obtain ⟨r, n, rfl, rfl, hn, hr0, hr1, hall, hbel⟩ := hrel
      have HA : Hid (∀ q (_ : q < n) (hq : q < ks.length), ks[q].1.length ≤ 1048576 ∧ ks[q].2.length ≤ 1048576) := hall
      clear hall
      by_cases hlt : n < ks.length
      · obtain ⟨rfl⟩ := h.addr (by omega)
        obtain ⟨s, h1, h2, c0, c1, hsa⟩ := (h.below hbel (Nat.le_refl _)).row n hlt
        obtain ⟨e1, e2⟩ := hls _ (List.getElem_mem hlt)
        have i1 : (n : Int) < ks.length := by omega
        have C := szSeen_any s r wr hr0 hr1 ⟨by rw [h1]; exact e1, by rw [h2]; exact e2⟩
        have H1 : Hid (s.l1 = ks[n].1) := h1
        have H2 : Hid (s.l2 = ks[n].2) := h2
        clear h1 h2 e1 e2 hsa
        go_wp2_with fail
        refine C.mono ?_
        rintro e w1 ⟨r', rfl, rfl, hr', hor⟩
        by_cases hr'0 : r' < 0
        · go_wp2_with fail
          go_ret
          exact ⟨-1, rfl, hbel.alloc hbel.size _, Or.inl (by omega)⟩
        · have hle := (hor.resolve_left hr'0).2
          clear hor
          go_wp2_with fail
          exact ⟨⟨r', n + 1, rfl, by go_num, by omega, by omega, hr', fun q hq hql => by
            by_cases e : q = n
            · subst e; exact ⟨by rw [← H1.out]; exact hle.reads, by rw [← H2.out]; exact hle.last⟩
            · exact HA.out q (by omega) hql, hbel.alloc hbel.size _⟩, by simp [intOf]; omega⟩
      · go_wp2_with fail
        go_ret
        exact ⟨r, rfl, hbel, Or.inr ⟨hr1, hr0, by omega, fun k hk => by
          obtain ⟨q, hq, rfl⟩ := List.getElem_of_mem hk
          exact HA.out q (by omega) hq⟩⟩

theorem run_make_pairs {P : Program} (t e : TypeId) (z : Value) (size bytes : Nat) (ht : P.underlying t = some (.slice e)) (hinfo : (P.info? e).map (fun i => (i.zero, i.size, i.bytes)) = some (some z, size, bytes))
    (n : Nat) (hbytes : bytes * n ≤ 281474976710656) (h63 : n ≤ 9223372036854775807) (w : World) :
    (Instr.makeSlice t (.int .i64 (n : Int)) (.int .i64 (n : Int))).run P w = .ok (.slice (some ⟨w.heap.size, 0, none⟩) n n) (w.alloc (.cells (madeCells z.cells (n * size)) e)) := by
  obtain ⟨i, hi, hzz⟩ := Option.map_eq_some_iff.1 hinfo
  simp only [Prod.mk.injEq] at hzz
  obtain ⟨hz, hs, hb⟩ := hzz
  have hb' : (i.bytes : Int) * (n : Int) ≤ 281474976710656 := by
    rw [hb]
    have h : ((bytes * n : Nat) : Int) ≤ 281474976710656 := by omega
    rwa [Int.natCast_mul] at h
  have hr := run_make (P := P) w t e i z ht hi hz .i64 .i64 n n (by omega) (Int.le_refl _) hb' (by omega)
  simp only [Int.toNat_natCast, hs] at hr
  exact hr

theorem Try.info35 : (Try.prog.info? 35).map (fun i => (i.zero, i.size, i.bytes)) = some (some (.agg #[.slice none 0 0, .slice none 0 0]), 2, 48) := by kernel_rfl

/-- The first n are copied. -/
structure PartK (w wr : World) (ks : List Key) (n : Nat) : Prop where
  bel : Below w.heap.size w wr
  own : ∃ f, wr.rowIs w.heap.size 35 (ks.length * 2) f
  done : ∀ q (_ : q < n) (h : q < ks.length), ∃ g1 g2, wr.cell? ⟨w.heap.size, q * 2, none⟩ = some (.slice (some ⟨g1, 0, none⟩) ks[q].1.length ks[q].1.length) ∧ wr.cell? ⟨w.heap.size, q * 2 + 1, none⟩ = some (.slice (some ⟨g2, 0, none⟩) ks[q].2.length ks[q].2.length) ∧ NewSn wr (w.heap.size + 1) g1 g2 ks[q].1 ks[q].2

theorem partK_start (w : World) (ks : List Key) (z : Array Value) : PartK w (w.alloc (.cells (madeCells z (ks.length * 2)) 35)) ks 0 := by
  refine ⟨below1 _ _, ⟨fun i => z[i % z.size]!, ?_⟩, fun q hq _ => absurd hq (Nat.not_lt_zero _)⟩
  have := World.rowIs_alloc w (madeCells z (ks.length * 2)) 35 (fun i => z[i % z.size]!) (fun i hi => by rw [size_madeCells] at hi; simp [madeCells, hi])
  rwa [size_madeCells] at this

theorem cell_far {w : World} {b i j : Nat} {u : Value} (h : i ≠ j) : (w.setCell ⟨b, i, none⟩ u).cell? ⟨b, j, none⟩ = w.cell? ⟨b, j, none⟩ :=
  World.cell?_setCell_other _ _ _ _ (fun e => h (by have := congrArg Addr.off e; simp at this; omega))

theorem partK_step {w wr w1 : World} {ks : List Key} {n g1 g2 : Nat} {k1 k2 : List Int} (hp : PartK w wr ks n) (hlt : n < ks.length) (hb1 : Below wr.heap.size wr w1) (hd : ks[n] = (k1, k2)) (hn : NewSn w1 wr.heap.size g1 g2 k1 k2) :
    PartK w ((w1.setCell ⟨w.heap.size, n * 2, none⟩ (.slice (some ⟨g1, 0, none⟩) k1.length k1.length)).setCell ⟨w.heap.size, n * 2 + 1, none⟩ (.slice (some ⟨g2, 0, none⟩) k2.length k2.length)) ks (n + 1) := by
  obtain ⟨f, hf⟩ := hp.own
  have hlb := hf.lt
  have hf1 : w1.rowIs w.heap.size 35 (ks.length * 2) f := hf.of_block (hb1.block _ hlb)
  have hr := (hf1.set (n * 2) (.slice (some ⟨g1, 0, none⟩) k1.length k1.length)).set (n * 2 + 1) (.slice (some ⟨g2, 0, none⟩) k2.length k2.length)
  refine ⟨((hp.bel.trans (hb1.mono hp.bel.size)).setCell (Nat.le_refl _) _).setCell (Nat.le_refl _) _, ⟨_, hr⟩, fun q hq hql => ?_⟩
  by_cases e : q = n
  · subst e
    have hge := hn.ge
    rw [hd]
    refine ⟨g1, g2, ?_, ?_, ((NewSn.other (NewSn.other hn (by omega) _) (by omega) _)).mono (by omega)⟩
    · rw [hr.cell (by omega)]; simp
    · rw [hr.cell (by omega)]; simp
  · obtain ⟨x1, x2, c1, c2, hx⟩ := hp.done q (by omega) hql
    have hge := hx.ge
    refine ⟨x1, x2, ?_, ?_, NewSn.other (NewSn.other (hx.below hb1 (Nat.le_refl _)) (by omega) _) (by omega) _⟩
    · rw [cell_far (by omega), cell_far (by omega), hb1.cell (p := ⟨w.heap.size, q * 2, none⟩) hlb]; exact c1
    · rw [cell_far (by omega), cell_far (by omega), hb1.cell (p := ⟨w.heap.size, q * 2 + 1, none⟩) hlb]; exact c2

/-- A list of what was seen, laid anew. -/
structure NewKS (w : World) (B g : Nat) (ks : List Key) : Prop where
  ge : B ≤ g
  own : ∃ f, w.rowIs g 35 (ks.length * 2) f
  row : ∀ q (h : q < ks.length), ∃ g1 g2, w.cell? ⟨g, q * 2, none⟩ = some (.slice (some ⟨g1, 0, none⟩) ks[q].1.length ks[q].1.length) ∧ w.cell? ⟨g, q * 2 + 1, none⟩ = some (.slice (some ⟨g2, 0, none⟩) ks[q].2.length ks[q].2.length) ∧ NewSn w B g1 g2 ks[q].1 ks[q].2

theorem NewKS.old {w : World} {B g : Nat} {ks : List Key} (h : NewKS w B g ks) : KS w (some ⟨g, 0, none⟩) g 0 ks :=
  ⟨fun _ => rfl, fun i hi => by
    obtain ⟨g1, g2, c1, c2, hn⟩ := h.row i hi
    exact ⟨newSn g1 g2 ks[i].1 ks[i].2, rfl, rfl, by rw [Nat.zero_add]; exact c1, by rw [Nat.zero_add]; exact c2, hn.at⟩⟩
theorem NewKS.below {w w' : World} {B C g : Nat} {ks : List Key} (h : NewKS w B g ks) (hb : Below C w w') (hC : w.heap.size ≤ C) : NewKS w' B g ks := by
  obtain ⟨f, hf⟩ := h.own
  have hl := Nat.lt_of_lt_of_le hf.lt hC
  refine ⟨h.ge, ⟨f, hf.of_block (hb.block _ hl)⟩, fun i hi => ?_⟩
  obtain ⟨g1, g2, c1, c2, hn⟩ := h.row i hi
  exact ⟨g1, g2, (hb.cell (p := ⟨g, i * 2, none⟩) hl).trans c1, (hb.cell (p := ⟨g, i * 2 + 1, none⟩) hl).trans c2, hn.below hb hC⟩

set_option maxHeartbeats 400000 in
theorem toSeenS_any (a : Option Addr) (b o c : Nat) (ks : List Key) (w : World) (hl : ks.length ≤ 1048576) (hls : KLe ks 1048576) (h : KS w a b o ks) :
    Calls Try.prog 7 #[.slice a ks.length c] w fun e w' => ∃ g, e = .returned (.slice (some ⟨g, 0, none⟩) ks.length ks.length) ∧ NewKS w' w.heap.size g ks ∧ Below w.heap.size w w' := by
  have hmk := run_make_pairs (P := Try.prog) 24 35 (.agg #[.slice none 0 0, .slice none 0 0]) 2 48 Try.underlying24 Try.info35 ks.length (by omega) (by omega)
  go_enter Try.func7, Try.ntmps7
  go_wp2_with fail
  clear hmk
  go_loopw [4] (fun s4 wr => ∃ n : Nat, s4 = .int .i64 n ∧ n ≤ ks.length ∧ PartK w wr ks n) (fun s4 _ => ks.length - (intOf s4).toNat)
  case atStart => exact ⟨0, rfl, Nat.zero_le _, partK_start w ks _⟩
  case round =>
    obtain ⟨n, rfl, hn, hpart⟩ := hrel
    by_cases hlt : n < ks.length
    · obtain ⟨rfl⟩ := h.addr (by omega)
      obtain ⟨s, h1, h2, c0, c1, hsa⟩ := (h.below hpart.bel (Nat.le_refl _)).row n hlt
      obtain ⟨e1, e2⟩ := hls _ (List.getElem_mem hlt)
      have i1 : (n : Int) < ks.length := by omega
      have C := toSeen_any s wr ⟨by rw [h1]; exact e1, by rw [h2]; exact e2⟩ hsa
      have hl0 : ks[n] = (s.l1, s.l2) := by rw [h1, h2]
      have HL : Hid (ks[n] = (s.l1, s.l2)) := hl0
      clear hl0
      clear h1 h2 e1 e2 hsa
      obtain ⟨f, hf⟩ := hpart.own
      have hlb := hf.lt
      go_wp2_with (go_at_call 14; refine C.mono ?_; rintro e w1 ⟨g1, g2, rfl, hn1, hb1⟩; have d0 : w1.cell? ⟨w.heap.size, n * 2, none⟩ = some (f (n * 2)) := (hb1.cell (p := ⟨w.heap.size, n * 2, none⟩) hlb).trans (hf.cell (by omega)); have d1 : w1.cell? ⟨w.heap.size, n * 2 + 1, none⟩ = some (f (n * 2 + 1)) := (hb1.cell (p := ⟨w.heap.size, n * 2 + 1, none⟩) hlb).trans (hf.cell (by omega)); have f0 : ∀ i, w1.frozen? ⟨w.heap.size, i, none⟩ = false := fun i => (hb1.frozen (p := ⟨w.heap.size, i, none⟩) hlb).trans (hf.frozen i))
      exact ⟨⟨n + 1, by go_num, by omega, partK_step hpart hlt hb1 HL.out hn1⟩, by simp [intOf]; omega⟩
    · go_wp2_with fail
      go_ret
      exact ⟨_, rfl, ⟨Nat.le_refl _, hpart.own, fun q hq => by
        obtain ⟨g1, g2, c1, c2, hn⟩ := hpart.done q (by omega) hq
        exact ⟨g1, g2, c1, c2, hn.mono (by omega)⟩⟩, hpart.bel⟩

set_option maxHeartbeats 400000 in
set_option maxRecDepth 100000 in
theorem eqSeenS_same (a : Option Addr) (b o c : Nat) (a2 : Option Addr) (b2 o2 c2 : Nat) (ks : List Key) (w : World) (hl : ks.length ≤ 1048576) (hls : KLe ks 1048576) (h : KS w a b o ks) (h2 : KS w a2 b2 o2 ks) :
    Calls Try.prog 9 #[.slice a ks.length c, .slice a2 ks.length c2] w fun e w' => e = .returned (.bool true) ∧ Below w.heap.size w w' := by
  go_enter Try.func9, Try.ntmps9
  go_wp2_with fail
  go_loopw [5] (fun s5 wr => ∃ n : Nat, s5 = .int .i64 n ∧ n ≤ ks.length ∧ Below w.heap.size w wr) (fun s5 _ => ks.length - (intOf s5).toNat)
  case atStart => exact ⟨0, rfl, Nat.zero_le _, Below.refl _ _⟩
  case round =>
    obtain ⟨n, rfl, hn, hbel⟩ := hrel
    by_cases hlt : n < ks.length
    · obtain ⟨rfl⟩ := h.addr (by omega)
      obtain ⟨rfl⟩ := h2.addr (by omega)
      obtain ⟨s, s1, s2, x0, x1, hsa⟩ := (h.below hbel (Nat.le_refl _)).row n hlt
      obtain ⟨t, t1, t2, y0, y1, hta⟩ := (h2.below hbel (Nat.le_refl _)).row n hlt
      obtain ⟨e1, e2⟩ := hls _ (List.getElem_mem hlt)
      have i1 : (n : Int) < ks.length := by omega
      have C := fun p : BelowOf wr => (eqSeen_same s t p.x ⟨by rw [s1]; exact e1, by rw [s2]; exact e2⟩ (t1.trans s1.symm) (t2.trans s2.symm) (hsa.below p.h (Nat.le_refl _)) (hta.below p.h (Nat.le_refl _))).mono fun _ _ ⟨he, hg⟩ => (⟨he, hg.bel⟩ : _ ∧ Below p.x.heap.size p.x _)
      have K0 := BelowOf.cell x0
      have K1 := BelowOf.cell x1
      have K2 := BelowOf.cell y0
      have K3 := BelowOf.cell y1
      clear s1 s2 t1 t2 e1 e2 hsa hta
      go_wp2_with fail
      haveI : Inhabited (BelowOf wr) := ⟨belOf wr⟩
      refine wp_region_quiet_bel (by kernel_rfl) (by kernel_rfl) ?_
      repeat (quiet_step (first | (go_at_call 16; exact Calls.bel_of (C _))))
      refine wpQuiet_nil ?_
      rintro _ ⟨⟨wq, hwq⟩, rfl⟩
      go_wp2_with fail
      exact ⟨⟨n + 1, by go_num, by omega, hbel.trans (hwq.mono hbel.size)⟩, by simp [intOf]; omega⟩
    · go_wp2_with fail
      go_ret
      exact ⟨rfl, hbel⟩

end Go.Proofs.Ytkbjdhjcbhdpmab
