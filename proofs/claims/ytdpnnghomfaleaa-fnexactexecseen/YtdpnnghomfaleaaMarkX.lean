/- The law's own marking of a way, and of what was seen: laws.markIntSS, markExec, markSeen, heldSeen; eqSeen. Of at most 1048576 rows, each of at most 1048576 numbers. -/
import Derived.Test.YtdpnnghomfaleaaMarkP
import Derived.Test.YtdpnnghomfaleaaXoTo
import Derived.Test.YtdpnnghomfaleaaIntConv
namespace Go.Proofs.Ytdpnnghomfaleaa
open Go.RowKit

theorem IntC.below {w w' : World} {a : Option Addr} {b o n : Nat} (hc : IntC w a b o n) (hb : Below w.heap.size w w') : IntC w' a b o n := by
  refine ⟨hc.addr, fun i hi => ?_, fun hn j => ?_⟩
  · obtain ⟨x, hx⟩ := hc.row i hi
    exact ⟨x, (hb.cell (p := ⟨b, o + i, none⟩) (World.block_lt_of_cell? _ _ hx)).trans hx⟩
  · obtain ⟨x, hx⟩ := hc.row 0 hn
    have hlt : b < w.heap.size := World.block_lt_of_cell? _ _ hx
    exact (hb.frozen (p := ⟨b, j, none⟩) hlt).trans (hc.fz hn j)
/-- Rows of numbers, whichever, that may be written. -/
structure RowsC (w : World) (B N g : Nat) (rows : List (List Int)) : Prop where
  row : ∀ i (h : i < rows.length), ∃ a' b' o' c', w.cell? ⟨g, i, none⟩ = some (.slice a' rows[i].length c') ∧ IntC w a' b' o' rows[i].length ∧ B ≤ b' ∧ b' < N
theorem NewRR.rowsC {w : World} {B N g : Nat} {rows : List (List Int)} (h : NewRR w B N g rows) : RowsC w B N g rows := ⟨fun i hi => by
  obtain ⟨a', b', o', c', hc, hd, hb, hz, hl⟩ := h.row i hi
  exact ⟨a', b', o', c', hc, hd.toC (fun _ j => hz j), hb, hl⟩⟩
theorem RowsC.mk_ {P : Nat → Prop} {w w' : World} {B N g : Nat} {rows : List (List Int)} (h : RowsC w B N g rows) (hm : Mk P w w') : RowsC w' B N g rows := ⟨fun i hi => by
  obtain ⟨a', b', o', c', hc, hd, hb, hl⟩ := h.row i hi
  exact ⟨a', b', o', c', hm.rest _ _ hc (fun _ e => by cases e), hd.mk_ hm, hb, hl⟩⟩

/-- How many numbers they have. -/
def totI : List (List Int) → Nat
  | [] => 0
  | l :: ll => l.length + totI ll
theorem totI_take (ll : List (List Int)) (n : Nat) (h : n < ll.length) : totI (ll.take (n + 1)) = totI (ll.take n) + ll[n].length := by
  have app : ∀ a b : List (List Int), totI (a ++ b) = totI a + totI b := fun a b => by
    induction a with
    | nil => simp [totI]
    | cons x a ih => simp only [List.cons_append, totI, ih]; omega
  rw [List.take_succ_eq_append_getElem h, app]; simp [totI]
theorem totI_le {ll : List (List Int)} (h : ∀ l ∈ ll, l.length ≤ 1048576) : totI ll ≤ 1048576 * ll.length := by
  induction ll with
  | nil => simp [totI]
  | cons l ll ih =>
    have := h l (by simp)
    have := ih (fun x hx => h x (List.mem_cons_of_mem _ hx))
    simp only [totI, List.length_cons]
    omega

set_option maxHeartbeats 1000000 in
theorem markIntSS_any (g c B N : Nat) (ll : List (List Int)) (k : Int) (w : World) (hk : 0 ≤ k) (hk2 : k ≤ 8796093022208) (hl : ll.length ≤ 1048576) (hls : ∀ l ∈ ll, l.length ≤ 1048576) (h : RowsC w B N g ll) :
    Calls Try.prog 52 #[.slice (some ⟨g, 0, none⟩) ll.length c, .int .i64 k] w fun e w' => ∃ k' : Int, e = .returned (.int .i64 k') ∧ 0 ≤ k' ∧ Mk (fun j => B ≤ j ∧ j < N) w w' := by
  go_enter Try.func52, Try.ntmps52
  go_wp2_with fail
  go_loopw [1, 5] (fun s1 s5 wr => ∃ m : Nat, s1 = .int .i64 (k + totI (ll.take m)) ∧ s5 = .int .i64 m ∧ m ≤ ll.length ∧ Mk (fun j => B ≤ j ∧ j < N) w wr) (fun _ s5 _ => ll.length - (intOf s5).toNat)
  case atStart => exact ⟨0, by simp [totI], rfl, Nat.zero_le _, Mk.refl _ _⟩
  case round =>
    obtain ⟨m, rfl, rfl, hm, hmk⟩ := hrel
    by_cases hlt : m < ll.length
    · obtain ⟨a', b', o', c', hc, hd, hb', hl2⟩ := (h.mk_ hmk).row m hlt
      have hle := hls _ (List.getElem_mem hlt)
      have HT : Hid (totI (ll.take (m + 1)) = totI (ll.take m) + ll[m].length) := totI_take ll m hlt
      have hb := totI_le (ll := ll.take m) (fun s hs => hls s (List.mem_of_mem_take hs))
      have hbl : (ll.take m).length ≤ 1048576 := by simp; omega
      generalize ll[m] = l at *
      obtain ⟨T, hT⟩ : ∃ T, totI (ll.take m) = T := ⟨_, rfl⟩
      have HT2 : Hid (totI (ll.take m) = T) := hT
      rw [hT] at hb ⊢
      clear hT
      have i1 : (m : Int) < ll.length := by omega
      have C := markIntS_any a' b' o' l.length c' (k + T) wr hle (by omega) (by omega) hd
      go_wp2_with fail
      refine C.mono ?_
      rintro e w1 ⟨rfl, _, mk1⟩
      go_wp2_with fail
      refine ⟨⟨m + 1, ?_, by go_num, by omega, hmk.trans (mk1.mono (fun j hj => ?_))⟩, by simp [intOf]; omega⟩
      · rw [HT.out, HT2.out]; congr 1; omega
      · obtain ⟨rfl, _⟩ := hj; exact ⟨hb', hl2⟩
    · obtain rfl : m = ll.length := by omega
      go_wp2_with fail
      go_ret
      exact ⟨_, rfl, by omega, hmk⟩

set_option maxHeartbeats 400000 in
theorem markExec_any (B N g1 g2 c1 c2 : Nat) (l : List Int) (rows : List (List Int)) (k : Int) (w : World) (hk : 0 ≤ k) (hk2 : k ≤ 4398046511104) (hl1 : l.length ≤ 1048576) (hl : rows.length ≤ 1048576) (hls : ∀ r ∈ rows, r.length ≤ 1048576) (hc : IntC w (some ⟨g1, 0, none⟩) g1 0 l.length) (hB : B ≤ g1) (hN : g1 < N) (hr : RowsC w B N g2 rows) :
    Calls Try.prog 21 #[.agg #[.slice (some ⟨g1, 0, none⟩) l.length c1, .slice (some ⟨g2, 0, none⟩) rows.length c2], .int .i64 k] w fun e w' => ∃ (k' : Int) (wa : World), e = .returned (.int .i64 k') ∧ 0 ≤ k' ∧ wa = w.alloc (.cells #[.slice (some ⟨g1, 0, none⟩) l.length c1, .slice (some ⟨g2, 0, none⟩) rows.length c2] 36) ∧ Mk (fun j => B ≤ j ∧ j < N) wa w' := by
  have hb1 := below1 w (.cells #[.slice (some ⟨g1, 0, none⟩) l.length c1, .slice (some ⟨g2, 0, none⟩) rows.length c2] 36)
  have k1 : (w.alloc (.cells #[.slice (some ⟨g1, 0, none⟩) l.length c1, .slice (some ⟨g2, 0, none⟩) rows.length c2] 36)).cell? ⟨w.heap.size, 1, none⟩ = some (.slice (some ⟨g2, 0, none⟩) rows.length c2) := by simp
  have hrb : RowsC (w.alloc (.cells #[.slice (some ⟨g1, 0, none⟩) l.length c1, .slice (some ⟨g2, 0, none⟩) rows.length c2] 36)) B N g2 rows := ⟨fun i hi => by
    obtain ⟨a', b', o', c', hc, hd, hb, hl⟩ := hr.row i hi
    exact ⟨a', b', o', c', (hb1.cell (p := ⟨g2, i, none⟩) (World.block_lt_of_cell? _ _ hc)).trans hc, hd.below hb1, hb, hl⟩⟩
  have C := markIntS_any (some ⟨g1, 0, none⟩) g1 0 l.length c1 k _ hl1 hk (by omega) (hc.below hb1)
  go_enter Try.func21, Try.ntmps21
  go_wp2_with fail
  refine C.mono ?_
  rintro e w1 ⟨rfl, _, mk1⟩
  have k1' := mk1.rest _ _ k1 (fun _ e => by cases e)
  have mk1' := mk1.mono (Q := fun j => B ≤ j ∧ j < N) (fun j hj => by obtain ⟨rfl, _⟩ := hj; exact ⟨hB, hN⟩)
  go_wp2_with fail
  refine (markIntSS_any g2 c2 B N rows (k + l.length) w1 (by omega) (by omega) hl hls (hrb.mk_ mk1)).mono ?_
  rintro e w2 ⟨k', rfl, hk', mk2⟩
  go_wp2_with fail
  go_ret
  exact ⟨k', _, rfl, hk', rfl, mk1'.trans mk2⟩

/-- What was seen, marked. -/
structure SnM (w : World) (s : Sn) : Prop where
  reads : IntS w s.a1 s.b1 s.o1 (M.seq 1 s.l1.length)
  last : IntS w s.a2 s.b2 s.o2 (M.seq (1 + s.l1.length) s.l2.length)
theorem SnM.below {w w' : World} {s : Sn} (h : SnM w s) (hb : Below w.heap.size w w') : SnM w' s := ⟨h.reads.below hb (Nat.le_refl _), h.last.below hb (Nat.le_refl _)⟩
/-- .. and may be written. -/
structure SnC (w : World) (s : Sn) : Prop where
  reads : IntC w s.a1 s.b1 s.o1 s.l1.length
  last : IntC w s.a2 s.b2 s.o2 s.l2.length
theorem SnC.below {w w' : World} {s : Sn} (h : SnC w s) (hb : Below w.heap.size w w') : SnC w' s := ⟨h.reads.below hb, h.last.below hb⟩
theorem SnC.mk_ {P : Nat → Prop} {w w' : World} {s : Sn} (h : SnC w s) (hm : Mk P w w') : SnC w' s := ⟨h.reads.mk_ hm, h.last.mk_ hm⟩
theorem IntS.mkFar {P : Nat → Prop} {w w' : World} {a : Option Addr} {b o : Nat} {l : List Int} (h : IntS w a b o l) (hm : Mk P w w') (hne : 0 < l.length → ¬ P b) : IntS w' a b o l :=
  ⟨h.addr, fun i hi => by rw [hm.cell (p := ⟨b, o + i, none⟩) (hne (by omega))]; exact h.row i hi⟩

set_option maxHeartbeats 400000 in
theorem markSeen_any (s : Sn) (w : World) (hl : s.Le 1048576) (hne : 0 < s.l1.length → 0 < s.l2.length → s.b1 ≠ s.b2) (h : SnC w s) :
    Calls Try.prog 22 #[.agg #[.slice s.a1 s.l1.length s.c1, .slice s.a2 s.l2.length s.c2], .int .i64 1] w fun e w' => ∃ wa : World, e = .returned (.int .i64 (1 + s.l1.length + s.l2.length)) ∧ wa = w.alloc (.cells #[.slice s.a1 s.l1.length s.c1, .slice s.a2 s.l2.length s.c2] 42) ∧ Mk s.blk wa w' ∧ SnM w' s := by
  have hb1 := below1 w (.cells #[.slice s.a1 s.l1.length s.c1, .slice s.a2 s.l2.length s.c2] 42)
  have k1 : (w.alloc (.cells #[.slice s.a1 s.l1.length s.c1, .slice s.a2 s.l2.length s.c2] 42)).cell? ⟨w.heap.size, 1, none⟩ = some (.slice s.a2 s.l2.length s.c2) := by simp
  have h1 := h.below hb1
  have hl1 := hl.reads
  have hl2 := hl.last
  have C := markIntS_any s.a1 s.b1 s.o1 s.l1.length s.c1 1 _ hl.reads (by omega) (by omega) h1.reads
  go_enter Try.func22, Try.ntmps22
  go_wp2_with fail
  refine C.mono ?_
  rintro e w1 ⟨rfl, n1, mk1⟩
  have k1' := mk1.rest _ _ k1 (fun _ e => by cases e)
  go_wp2_with fail
  refine (markIntS_any s.a2 s.b2 s.o2 s.l2.length s.c2 (1 + s.l1.length) w1 hl.last (by omega) (by omega) (h1.last.mk_ mk1)).mono ?_
  rintro e w2 ⟨rfl, n2, mk2⟩
  go_wp2_with fail
  go_ret
  refine ⟨_, rfl, rfl, (mk1.mono (fun j hj => Or.inl ⟨hj.2, hj.1⟩)).trans (mk2.mono (fun j hj => Or.inr ⟨hj.2, hj.1⟩)), ⟨n1.mkFar mk2 (fun h0 hp => ?_), n2⟩⟩
  rw [M.seq_len] at h0
  exact hne h0 hp.2 hp.1

set_option maxHeartbeats 400000 in
theorem heldSeen_any (s : Sn) (w : World) (hl : s.Le 1048576) (h : SnM w s) :
    Calls Try.prog 23 #[.agg #[.slice s.a1 s.l1.length s.c1, .slice s.a2 s.l2.length s.c2], .int .i64 1] w fun e w' => e = .returned (.int .i64 (1 + s.l1.length + s.l2.length)) ∧ w' = w.alloc (.cells #[.slice s.a1 s.l1.length s.c1, .slice s.a2 s.l2.length s.c2] 42) := by
  have hb1 := below1 w (.cells #[.slice s.a1 s.l1.length s.c1, .slice s.a2 s.l2.length s.c2] 42)
  have h1 := h.below hb1
  have hl1 := hl.reads
  have hl2 := hl.last
  have C := heldIntS_any s.a1 s.b1 s.o1 s.l1.length s.c1 1 _ hl.reads (by omega) (by omega) h1.reads
  have C2 := heldIntS_any s.a2 s.b2 s.o2 s.l2.length s.c2 (1 + s.l1.length) _ hl.last (by omega) (by omega) h1.last
  have p1 : ¬ ((1 : Int) + s.l1.length < 0) := by omega
  have p1' : decide ((1 : Int) + s.l1.length < 0) = false := by simpa using p1
  have p2 : ¬ ((1 : Int) + s.l1.length + s.l2.length < 0) := by omega
  have p2' : decide ((1 : Int) + s.l1.length + s.l2.length < 0) = false := by simpa using p2
  go_enter Try.func23, Try.ntmps23
  go_wp2_with fail
  refine C.mono ?_
  rintro e w1 ⟨rfl, rfl⟩
  go_wp2_with fail
  refine C2.mono ?_
  rintro e w2 ⟨rfl, rfl⟩
  go_wp2_with fail
  go_ret
  exact ⟨rfl, rfl⟩


set_option maxHeartbeats 400000 in
theorem eqSeen_bel (s t : Sn) (w : World) (hl : s.Le 1048576) (h1 : t.l1 = s.l1) (h2 : t.l2 = s.l2) (hs : s.At w) (ht : t.At w) :
    Calls Try.prog 19 #[.agg #[.slice s.a1 s.l1.length s.c1, .slice s.a2 s.l2.length s.c2], .agg #[.slice t.a1 t.l1.length t.c1, .slice t.a2 t.l2.length t.c2]] w fun e w' => e = .returned (.bool true) ∧ Below w.heap.size w w' := by
  obtain ⟨a1, b1, o1, c1, l1, a2, b2, o2, c2, l2⟩ := s
  obtain ⟨d1, e1, f1, g1, m1, d2, e2, f2, g2, m2⟩ := t
  simp only at h1 h2
  subst h1; subst h2
  have hb2 := below2 w (.cells #[.slice a1 m1.length c1, .slice a2 m2.length c2] 42) (.cells #[.slice d1 m1.length g1, .slice d2 m2.length g2] 42)
  obtain ⟨as1, as2⟩ := hs.below hb2 (Nat.le_refl _)
  obtain ⟨at1, at2⟩ := ht.below hb2 (Nat.le_refl _)
  obtain ⟨hl1, hl2⟩ := hl
  simp only at as1 as2 at1 at2 hl1 hl2
  go_enter Try.func19, Try.ntmps19
  go_wp2_with fail
  refine (eqIntS_same a1 b1 o1 c1 d1 e1 f1 g1 m1 _ hl1 as1 at1).mono ?_
  rintro e w1 ⟨rfl, hg1⟩
  obtain ⟨hc1, hf1⟩ := bcell hg1.bel
  go_wp2_with fail
  refine (eqIntS_same a2 b2 o2 c2 d2 e2 f2 g2 m2 _ hl2 (as2.below hg1.bel (Nat.le_refl _)) (at2.below hg1.bel (Nat.le_refl _))).mono ?_
  rintro e w2 ⟨rfl, hg2⟩
  go_wp2_with fail
  go_ret
  have hb3 := hb2.trans (hg1.bel.mono hb2.size)
  exact ⟨rfl, hb3.trans (hg2.bel.mono hb3.size)⟩

end Go.Proofs.Ytdpnnghomfaleaa
