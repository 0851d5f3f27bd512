/- The law's own marking of numbers, and whether marks still stand: laws.markIntS, heldIntS. Of lists of at most 1048576 numbers. The law's own sizing, copying and comparing of numbers: laws.szIntS, toIntS, eqIntS. Of lists of at most 1048576 numbers (sizing: of at most 9223372036854775807). The law's own sizing, copying and comparing of what was seen: laws.szSeen, toSeen, eqSeen. Of lists of at most 1048576 numbers (sizing: of at most 9223372036854775807). The law's own marking of what was seen, from any number on, and whether the marks still stand: laws.markSeen, heldSeen; eqSeen. Of at most 1048576 numbers in each of its two lists. What both TurnSeen answer, as one said thing of what was seen, laid anew; and what stands through the law's calls. Of programs of at most 1048576 threads and steps of a thread, of as many numbers. What one may not think of: impl's oddOf and ShapeOdd, spec's ShapeOdd. No condition. The law FnExactShapeOdd, walked: it answers true, and leaves all as it was. Of whatever number. -/
import Derived.Test.YtnaljfnijcoheaaSnFar
import Derived.Test.YtnaljfnijcoheaaSnMem
import Derived.Deep.QuietTactic
import Derived.BigQuiet
import Derived.Deep.OwnRows
import Derived.Test.YtnaljfnijcoheaaSnSee
import Derived.Test.YtnaljfnijcoheaaBnOa
import Derived.Test.YtnaljfnijcoheaaShF

namespace Go.Proofs.Ytnaljfnijcoheaa
open Go.RowKit

/-- Of blocks that meet P numbers alone have turned. -/
structure Mk (P : Nat → Prop) (w w' : World) : Prop where
  os : w'.os = w.os
  tape : w'.tape = w.tape
  output : w'.output = w.output
  size : w'.heap.size = w.heap.size
  ints : ∀ p x, w.cell? p = some (.int .i64 x) → ∃ y, w'.cell? p = some (.int .i64 y)
  rest : ∀ p v, w.cell? p = some v → (∀ x, v ≠ .int .i64 x) → w'.cell? p = some v
  fz : ∀ p, w'.frozen? p = w.frozen? p
  block : ∀ k, ¬ P k → w'.heap[k]? = w.heap[k]?
theorem Mk.refl (P : Nat → Prop) (w : World) : Mk P w w := ⟨rfl, rfl, rfl, rfl, fun _ x h => ⟨x, h⟩, fun _ _ h _ => h, fun _ => rfl, fun _ _ => rfl⟩
theorem Mk.trans {P : Nat → Prop} {a b c : World} (h : Mk P a b) (k : Mk P b c) : Mk P a c :=
  ⟨k.os.trans h.os, k.tape.trans h.tape, k.output.trans h.output, k.size.trans h.size, fun p x hx => (let ⟨y, hy⟩ := h.ints p x hx; k.ints p y hy), fun p v hv hn => k.rest p v (h.rest p v hv hn) hn, fun p => (k.fz p).trans (h.fz p), fun i hi => (k.block i hi).trans (h.block i hi)⟩
theorem Mk.mono {P Q : Nat → Prop} {a b : World} (h : Mk P a b) (hPQ : ∀ k, P k → Q k) : Mk Q a b := ⟨h.os, h.tape, h.output, h.size, h.ints, h.rest, h.fz, fun i hi => h.block i (fun hp => hi (hPQ i hp))⟩
theorem Mk.setCell {P : Nat → Prop} {a w : World} (h : Mk P a w) {b i : Nat} {x y : Int} (hb : P b) (hx : w.cell? ⟨b, i, none⟩ = some (.int .i64 x)) : Mk P a (w.setCell ⟨b, i, none⟩ (.int .i64 y)) := by
  refine h.trans ⟨rfl, rfl, rfl, by simp [World.setCell], fun p z hz => ?_, fun p v hv hn => ?_, fun p => World.frozen?_setCell _ _ _ _, fun k hk => Below.heap_setCell _ _ _ _ (fun e => hk (by have e' : k = b := e; rw [e']; exact hb))⟩
  · by_cases e : p = ⟨b, i, none⟩
    · subst e; exact ⟨y, World.cell?_setCell_same _ _ _ hx⟩
    · exact ⟨z, by rw [World.cell?_setCell_other _ _ _ _ (fun h => e h.symm)]; exact hz⟩
  · by_cases e : p = ⟨b, i, none⟩
    · subst e; rw [hx] at hv; exact absurd (Option.some.inj hv).symm (hn x)
    · rw [World.cell?_setCell_other _ _ _ _ (fun h => e h.symm)]; exact hv
theorem Mk.cell {P : Nat → Prop} {w w' : World} (h : Mk P w w') {p : Addr} (hp : ¬ P p.block) : w'.cell? p = w.cell? p := World.cell?_of_block (w := w) (h.block p.block hp)
theorem Mk.below {P : Nat → Prop} {B : Nat} {w w1 w' : World} (h : Below B w w1) (k : Mk P w1 w') (hr : ∀ j, P j → B ≤ j) : Below B w w' :=
  ⟨k.os.trans h.os, k.tape.trans h.tape, k.output.trans h.output, by rw [k.size]; exact h.size, fun i hi => (k.block i (fun hp => by have := hr i hp; omega)).trans (h.block i hi)⟩

/-- A value is a slice of so many numbers, whichever, that may be written. -/
structure IntC (w : World) (a : Option Addr) (b o n : Nat) : Prop where
  addr : 0 < n → a = some ⟨b, o, none⟩
  row : ∀ i, i < n → ∃ x, w.cell? ⟨b, o + i, none⟩ = some (.int .i64 x)
  fz : 0 < n → ∀ j, w.frozen? ⟨b, j, none⟩ = false
theorem IntC.mk_ {P : Nat → Prop} {w w' : World} {a : Option Addr} {b o n : Nat} (h : IntC w a b o n) (hm : Mk P w w') : IntC w' a b o n :=
  ⟨h.addr, fun i hi => (let ⟨x, hx⟩ := h.row i hi; hm.ints _ x hx), fun hn j => (hm.fz _).trans (h.fz hn j)⟩
theorem IntS.toC {w : World} {a : Option Addr} {b o : Nat} {l : List Int} (h : IntS w a b o l) (fz : 0 < l.length → ∀ j, w.frozen? ⟨b, j, none⟩ = false) : IntC w a b o l.length :=
  ⟨h.addr, fun i hi => ⟨_, h.row i hi⟩, fz⟩

namespace M
/-- So many numbers from one on. -/
def seq (k : Int) (n : Nat) : List Int := (List.range n).map fun (i : Nat) => k + (i : Int)
theorem seq_len (k : Int) (n : Nat) : (seq k n).length = n := by simp [seq]
theorem seq_get (k : Int) (n i : Nat) (h : i < (seq k n).length) : (seq k n)[i] = k + i := by simp [seq]
end M

set_option maxHeartbeats 400000 in
theorem markIntS_any (a : Option Addr) (b o n c : Nat) (k : Int) (w : World) (hn : n ≤ 1048576) (hk : 0 ≤ k) (hk2 : k ≤ 4611686018427387904) (h : IntC w a b o n) :
    Calls Try.prog 26 #[.slice a n c, .int .i64 k] w fun e w' => e = .returned (.int .i64 (k + n)) ∧ IntS w' a b o (M.seq k n) ∧ Mk (fun j => j = b ∧ 0 < n) w w' := by
  go_enter Try.func26, Try.ntmps26
  go_wp2_with fail
  go_loopw [1, 5] (fun s1 s5 wr => ∃ m : Nat, s1 = .int .i64 (k + m) ∧ s5 = .int .i64 m ∧ m ≤ n ∧ (∀ i, i < m → wr.cell? ⟨b, o + i, none⟩ = some (.int .i64 (k + i))) ∧ Mk (fun j => j = b ∧ 0 < n) w wr) (fun _ s5 _ => n - (intOf s5).toNat)
  case atStart => exact ⟨0, by simp, rfl, Nat.zero_le _, fun i hi => absurd hi (Nat.not_lt_zero _), Mk.refl _ _⟩
  case round =>
    obtain ⟨m, rfl, rfl, hm, hdone, hmk⟩ := hrel
    by_cases hlt : m < n
    · obtain ⟨rfl⟩ := h.addr (by omega)
      obtain ⟨x, hx⟩ := (h.mk_ hmk).row m hlt
      have fz := (h.mk_ hmk).fz (by omega)
      have i1 : (m : Int) < n := by omega
      have HD : Hid (∀ i, i < m → wr.cell? ⟨b, o + i, none⟩ = some (.int .i64 (k + i))) := hdone
      clear hdone
      go_wp2_with fail
      refine ⟨⟨m + 1, ?_, by go_num, by omega, fun i hi => ?_, hmk.setCell ⟨rfl, by omega⟩ hx⟩, by simp [intOf]; omega⟩
      · rw [Int.natCast_add, ← Int.add_assoc]; rfl
      · by_cases e : i = m
        · subst e; exact World.cell?_setCell_same _ _ _ hx
        · rw [World.cell?_setCell_other _ _ _ _ (fun h => e (by have := congrArg Addr.off h; simp at this; omega))]
          exact HD.out i (by omega)
    · obtain rfl : m = n := by omega
      go_wp2_with fail
      go_ret
      exact ⟨rfl, ⟨fun hl => h.addr (by rw [M.seq_len] at hl; exact hl), fun i hi => by rw [M.seq_get]; exact hdone i (by rw [M.seq_len] at hi; exact hi)⟩, hmk⟩

set_option maxHeartbeats 400000 in
theorem heldIntS_any (a : Option Addr) (b o n c : Nat) (k : Int) (w : World) (hn : n ≤ 1048576) (hk : 0 ≤ k) (hk2 : k ≤ 4611686018427387904) (h : IntS w a b o (M.seq k n)) :
    Calls Try.prog 58 #[.slice a n c, .int .i64 k] w fun e w' => e = .returned (.int .i64 (k + n)) ∧ w' = w := by
  go_enter Try.func58, Try.ntmps58
  go_wp2_with fail
  go_loopw [1, 5] (fun s1 s5 wr => ∃ m : Nat, s1 = .int .i64 (k + m) ∧ s5 = .int .i64 m ∧ m ≤ n ∧ wr = w) (fun _ s5 _ => n - (intOf s5).toNat)
  case atStart => exact ⟨0, by simp, rfl, Nat.zero_le _, rfl⟩
  case round =>
    obtain ⟨m, rfl, rfl, hm, rfl⟩ := hrel
    by_cases hlt : m < n
    · obtain ⟨rfl⟩ := h.addr (by rw [M.seq_len]; omega)
      have hx := h.row m (by rw [M.seq_len]; exact hlt)
      rw [M.seq_get] at hx
      have i1 : (m : Int) < n := by omega
      go_wp2_with fail
      exact ⟨⟨m + 1, by rw [Int.natCast_add, ← Int.add_assoc]; rfl, by go_num, by omega, trivial⟩, by simp [intOf]; omega⟩
    · obtain rfl : m = n := by omega
      go_wp2_with fail
      go_ret
      exact ⟨rfl, rfl⟩

end Go.Proofs.Ytnaljfnijcoheaa

namespace Go.Proofs.Ytnaljfnijcoheaa
open Go.RowKit

set_option maxHeartbeats 400000 in
theorem szIntS_any (a : Option Addr) (n c : Nat) (left : Int) (w : World) (h0 : 0 ≤ left) (h1 : left ≤ 1048576) (hn : n ≤ 9223372036854775807) :
    Calls Try.prog 54 #[.slice a n c, .int .i64 left] w fun e w' => ∃ r : Int, e = .returned (.int .i64 r) ∧ w' = w ∧ r ≤ 1048576 ∧ (r < 0 ∨ (0 ≤ r ∧ n ≤ 1048576)) := by
  by_cases hs : left - n < 0
  · go_enter Try.func54, Try.ntmps54
    go_wp2_with fail
    go_ret
    exact ⟨-1, rfl, rfl, by omega, Or.inl (by omega)⟩
  · go_enter Try.func54, Try.ntmps54
    go_wp2_with fail
    go_ret
    exact ⟨left - n, rfl, rfl, by omega, Or.inr ⟨by omega, by omega⟩⟩

theorem Try.info3 : (Try.prog.info? 3).map (fun i => (i.zero, i.size, i.bytes)) = some (some (.int .i64 0), 1, 8) := by kernel_rfl

/-- The first n numbers are copied. -/
structure PartI (w wr : World) (l : List Int) (n : Nat) : Prop where
  bel : Below w.heap.size w wr
  own : ∃ f, wr.rowIs w.heap.size 3 l.length f
  done : ∀ q (_ : q < n) (h : q < l.length), wr.cell? ⟨w.heap.size, q, none⟩ = some (.int .i64 l[q])

theorem partI_step {w wr : World} {l : List Int} {n : Nat} {x : Int} (hp : PartI w wr l n) (hlt : n < l.length) (hd : l[n] = x) : PartI w (wr.setCell ⟨w.heap.size, n, none⟩ (.int .i64 x)) l (n + 1) := by
  obtain ⟨f, hf⟩ := hp.own
  have hr := hf.set n (.int .i64 x)
  refine ⟨hp.bel.setCell (Nat.le_refl _) _, ⟨_, hr⟩, fun q hq hql => ?_⟩
  by_cases e : q = n
  · subst e
    rw [hd, hr.cell hql]; simp
  · rw [World.cell?_setCell_other _ _ _ _ (fun e' => e (by have := congrArg Addr.off e'; simp at this; omega))]
    exact hp.done q (by omega) hql

set_option maxHeartbeats 400000 in
theorem toIntS_any (a : Option Addr) (b o c : Nat) (l : List Int) (w : World) (hl : l.length ≤ 1048576) (h : IntS w a b o l) :
    Calls Try.prog 20 #[.slice a l.length c] w fun e w' => e = .returned (.slice (some ⟨w.heap.size, 0, none⟩) l.length l.length) ∧ IntS w' (some ⟨w.heap.size, 0, none⟩) w.heap.size 0 l ∧ (∃ f, w'.rowIs w.heap.size 3 l.length f) ∧ Below w.heap.size w w' := by
  have hmk := run_make_row' (P := Try.prog) 26 3 (.int .i64 0) 8 Try.underlying26 Try.info3 rfl .i64 .i64 l.length (by omega) (by omega)
  go_enter Try.func20, Try.ntmps20
  go_wp2_with fail
  clear hmk
  go_loopw [4] (fun s4 wr => ∃ n : Nat, s4 = .int .i64 n ∧ n ≤ l.length ∧ PartI w wr l n) (fun s4 _ => l.length - (intOf s4).toNat)
  case atStart => exact ⟨0, rfl, Nat.zero_le _, ⟨below1 _ _, ⟨_, World.rowIs_made w (.int .i64 0) l.length 3⟩, fun _ hq _ => absurd hq (Nat.not_lt_zero _)⟩⟩
  case round =>
    obtain ⟨n, rfl, hn, hpart⟩ := hrel
    by_cases hlt : n < l.length
    · obtain ⟨rfl⟩ := h.addr (by omega)
      have hc := (h.below hpart.bel (Nat.le_refl _)).row n hlt
      generalize hln : l[n] = x at hc
      have HL : Hid (l[n] = x) := hln
      clear hln
      obtain ⟨f, hf⟩ := hpart.own
      have c0 := hf.cell hlt
      have f0 := hf.frozen
      go_wp2_with fail
      exact ⟨⟨n + 1, by go_num, by omega, partI_step hpart hlt HL.out⟩, by simp [intOf]; omega⟩
    · go_wp2_with fail
      go_ret
      exact ⟨rfl, ⟨fun _ => rfl, fun i hi => by rw [Nat.zero_add]; exact hpart.done i (by omega) hi⟩, hpart.own, hpart.bel⟩

theorem IntS.other {w : World} {a : Option Addr} {b o B i : Nat} {l : List Int} {u : Value} (h : IntS w a b o l) (hb : b ≠ B) : IntS (w.setCell ⟨B, i, none⟩ u) a b o l :=
  ⟨h.addr, fun j hj => by rw [World.cell?_setCell_other _ _ _ _ (fun e => hb (congrArg Addr.block e).symm)]; exact h.row j hj⟩

set_option maxHeartbeats 400000 in
theorem eqIntS_same (a : Option Addr) (b o c : Nat) (a2 : Option Addr) (b2 o2 c2 : Nat) (l : List Int) (w : World) (hl : l.length ≤ 1048576) (h : IntS w a b o l) (h2 : IntS w a2 b2 o2 l) :
    Calls Try.prog 23 #[.slice a l.length c, .slice a2 l.length c2] w fun e w' => e = .returned (.bool true) ∧ Grown w w' := by
  go_enter Try.func23, Try.ntmps23
  go_wp2_with fail
  go_loopw [5] (fun s5 wr => ∃ n : Nat, s5 = .int .i64 n ∧ n ≤ l.length ∧ Grown w wr) (fun s5 _ => l.length - (intOf s5).toNat)
  case atStart => exact ⟨0, rfl, Nat.zero_le _, Grown.refl _⟩
  case round =>
    obtain ⟨n, rfl, hn, hg⟩ := hrel
    by_cases hlt : n < l.length
    · obtain ⟨rfl⟩ := h.addr (by omega)
      obtain ⟨rfl⟩ := h2.addr (by omega)
      have hd := (h.below hg.bel (Nat.le_refl _)).row n hlt
      have hd2 := (h2.below hg.bel (Nat.le_refl _)).row n hlt
      generalize l[n] = x at hd hd2
      have i1 : (n : Int) < l.length := by omega
      go_wp2_with fail
      go_quiet (fail)
      go_wp2_with fail
      exact ⟨⟨n + 1, by go_num, by omega, hg.drewN _⟩, by simp [intOf]; omega⟩
    · go_wp2_with fail
      go_ret
      exact ⟨rfl, hg⟩

end Go.Proofs.Ytnaljfnijcoheaa

namespace Go.Proofs.Ytnaljfnijcoheaa
open Go.RowKit

set_option maxHeartbeats 400000 in
theorem szSeen_any (s : Sn) (left : Int) (w : World) (h0 : 0 ≤ left) (h1 : left ≤ 1048576) (hl : s.Le 9223372036854775807) :
    Calls Try.prog 17 #[.agg #[.slice s.a1 s.l1.length s.c1, .slice s.a2 s.l2.length s.c2], .int .i64 left] w fun e w' => ∃ r : Int, e = .returned (.int .i64 r) ∧ w' = w.alloc (.cells #[.slice s.a1 s.l1.length s.c1, .slice s.a2 s.l2.length s.c2] 42) ∧ r ≤ 1048576 ∧ (r < 0 ∨ (0 ≤ r ∧ s.Le 1048576)) := by
  obtain ⟨a1, b1, o1, c1, l1, a2, b2, o2, c2, l2⟩ := s
  obtain ⟨hl1, hl2⟩ := hl
  simp only at hl1 hl2
  go_enter Try.func17, Try.ntmps17
  go_wp2_with fail
  refine (szIntS_any _ _ _ _ _ h0 h1 hl1).mono ?_
  rintro e w1 ⟨r1, rfl, rfl, hr1, hor1⟩
  by_cases hn1 : r1 < 0
  · go_wp2_with fail
    go_ret
    exact ⟨-1, rfl, rfl, by omega, Or.inl (by omega)⟩
  · go_wp2_with fail
    refine (szIntS_any _ _ _ _ _ (by omega) hr1 hl2).mono ?_
    rintro e w2 ⟨r2, rfl, rfl, hr2, hor2⟩
    by_cases hn2 : r2 < 0
    · go_wp2_with fail
      go_ret
      exact ⟨-1, rfl, rfl, by omega, Or.inl (by omega)⟩
    · go_wp2_with fail
      go_ret
      exact ⟨r2, rfl, rfl, hr2, Or.inr ⟨by omega, ⟨by show l1.length ≤ _; omega, by show l2.length ≤ _; omega⟩⟩⟩

/-- What was seen, laid anew: each list a block of its own, all of it. -/
structure NewSn (w : World) (B g1 g2 : Nat) (l1 l2 : List Int) : Prop where
  ge : B ≤ g1
  lt : g1 < g2
  reads : IntS w (some ⟨g1, 0, none⟩) g1 0 l1
  last : IntS w (some ⟨g2, 0, none⟩) g2 0 l2
  own1 : ∃ f, w.rowIs g1 3 l1.length f
  own2 : ∃ f, w.rowIs g2 3 l2.length f

/-- The value that it is. -/
def newSn (g1 g2 : Nat) (l1 l2 : List Int) : Sn := ⟨some ⟨g1, 0, none⟩, g1, 0, l1.length, l1, some ⟨g2, 0, none⟩, g2, 0, l2.length, l2⟩
theorem NewSn.at {w : World} {B g1 g2 : Nat} {l1 l2 : List Int} (h : NewSn w B g1 g2 l1 l2) : (newSn g1 g2 l1 l2).At w := ⟨h.reads, h.last⟩
theorem NewSn.mono {w : World} {B B' g1 g2 : Nat} {l1 l2 : List Int} (h : NewSn w B g1 g2 l1 l2) (hB : B' ≤ B) : NewSn w B' g1 g2 l1 l2 := ⟨Nat.le_trans hB h.ge, h.lt, h.reads, h.last, h.own1, h.own2⟩
theorem NewSn.below {w w' : World} {B C g1 g2 : Nat} {l1 l2 : List Int} (h : NewSn w B g1 g2 l1 l2) (hb : Below C w w') (hC : w.heap.size ≤ C) : NewSn w' B g1 g2 l1 l2 := by
  obtain ⟨f1, h1⟩ := h.own1
  obtain ⟨f2, h2⟩ := h.own2
  exact ⟨h.ge, h.lt, h.reads.below hb hC, h.last.below hb hC, ⟨f1, h1.of_block (hb.block _ (Nat.lt_of_lt_of_le h1.lt hC))⟩, ⟨f2, h2.of_block (hb.block _ (Nat.lt_of_lt_of_le h2.lt hC))⟩⟩

theorem NewSn.other {w : World} {B g1 g2 : Nat} {l1 l2 : List Int} (h : NewSn w B g1 g2 l1 l2) {b i : Nat} (hb : b < g1) (u : Value) : NewSn (w.setCell ⟨b, i, none⟩ u) B g1 g2 l1 l2 := by
  obtain ⟨f1, h1⟩ := h.own1
  obtain ⟨f2, h2⟩ := h.own2
  have := h.lt
  exact ⟨h.ge, h.lt, h.reads.other (by omega), h.last.other (by omega), ⟨f1, h1.of_block (Below.heap_setCell _ _ _ _ (by simp; omega))⟩, ⟨f2, h2.of_block (Below.heap_setCell _ _ _ _ (by simp; omega))⟩⟩

set_option maxHeartbeats 1000000 in
theorem toSeen_any (s : Sn) (w : World) (hl : s.Le 1048576) (h : s.At w) :
    Calls Try.prog 19 #[.agg #[.slice s.a1 s.l1.length s.c1, .slice s.a2 s.l2.length s.c2]] w fun e w' => ∃ g1 g2, e = .returned (.agg #[.slice (some ⟨g1, 0, none⟩) s.l1.length s.l1.length, .slice (some ⟨g2, 0, none⟩) s.l2.length s.l2.length]) ∧ NewSn w' w.heap.size g1 g2 s.l1 s.l2 ∧ Below w.heap.size w w' := by
  obtain ⟨a1, b1, o1, c1, l1, a2, b2, o2, c2, l2⟩ := s
  obtain ⟨hl1, hl2⟩ := hl
  obtain ⟨as1, as2⟩ := h
  simp only at hl1 hl2 as1 as2
  go_enter Try.func19, Try.ntmps19
  go_wp2_with fail
  have hb3 := below3 w (.cells #[.slice a1 l1.length c1, .slice a2 l2.length c2] 42) (.cells #[.slice none 0 0, .slice none 0 0] 28) (.cells #[.slice none 0 0, .slice none 0 0] 28)
  refine (toIntS_any a1 b1 o1 c1 l1 _ hl1 (as1.below hb3 (Nat.le_refl _))).mono ?_
  rintro e w1 ⟨rfl, hn1, ⟨f1, hr1⟩, hb1⟩
  obtain ⟨hc1, hf1⟩ := bcell hb1
  simp only [World.size_alloc] at hn1 hr1 hb1 hc1 hf1
  have hlt1 := hr1.lt
  go_wp2_with fail
  have hb1' : Below w.heap.size w (w1.setCell ⟨w.heap.size + 1 + 1, 0, none⟩ (.slice (some ⟨w.heap.size + 1 + 1 + 1, 0, none⟩) l1.length l1.length)) := (hb3.trans (hb1.mono (by omega))).setCell (by show w.heap.size ≤ w.heap.size + 1 + 1; omega) _
  refine (toIntS_any a2 b2 o2 c2 l2 _ hl2 (as2.below hb1' (Nat.le_refl _))).mono ?_
  rintro e w2 ⟨rfl, hn2, ⟨f2, hr2⟩, hb2⟩
  obtain ⟨hc2, hf2⟩ := bcell hb2
  have hs2 : (w1.setCell ⟨w.heap.size + 1 + 1, 0, none⟩ (.slice (some ⟨w.heap.size + 1 + 1 + 1, 0, none⟩) l1.length l1.length)).heap.size = w1.heap.size := World.size_setCell _ _ _
  rw [hs2] at hn2 hr2 hb2 hc2 hf2
  have d0 : w1.cell? ⟨w.heap.size + 1 + 1, 0, none⟩ = some (.slice none 0 0) := by
    have h := hc1 (w.heap.size + 1 + 1) 0 (by omega)
    rw [h]
    simp [go_sem]
  have d1 : w1.cell? ⟨w.heap.size + 1 + 1, 1, none⟩ = some (.slice none 0 0) := by
    have h := hc1 (w.heap.size + 1 + 1) 1 (by omega)
    rw [h]
    simp [go_sem]
  have d2 : w1.cell? ⟨w.heap.size + 1, 0, none⟩ = some (.slice none 0 0) := by
    have h := hc1 (w.heap.size + 1) 0 (by omega)
    rw [h]
    simp [go_sem]
  have d3 : w1.cell? ⟨w.heap.size + 1, 1, none⟩ = some (.slice none 0 0) := by
    have h := hc1 (w.heap.size + 1) 1 (by omega)
    rw [h]
    simp [go_sem]
  have e0 : w2.cell? ⟨w.heap.size + 1 + 1, 0, none⟩ = some (.slice (some ⟨w.heap.size + 1 + 1 + 1, 0, none⟩) l1.length l1.length) := by
    rw [hc2 _ _ (by omega)]
    exact World.cell?_setCell_same _ _ _ d0
  have e1 : w2.cell? ⟨w.heap.size + 1 + 1, 1, none⟩ = some (.slice none 0 0) := by
    rw [hc2 _ _ (by omega), World.cell?_setCell_other _ _ _ _ (by simp)]; exact d1
  have e2 : w2.cell? ⟨w.heap.size + 1, 0, none⟩ = some (.slice none 0 0) := by
    rw [hc2 _ _ (by omega), World.cell?_setCell_other _ _ _ _ (by simp)]; exact d2
  have e3 : w2.cell? ⟨w.heap.size + 1, 1, none⟩ = some (.slice none 0 0) := by
    rw [hc2 _ _ (by omega), World.cell?_setCell_other _ _ _ _ (by simp)]; exact d3
  have z0 : w2.frozen? ⟨w.heap.size + 1 + 1, 1, none⟩ = false := by
    rw [hf2 _ _ (by omega), World.frozen?_setCell, hf1 _ _ (by omega)]; simp [go_sem]
  have z1 : w2.frozen? ⟨w.heap.size + 1, 0, none⟩ = false := by
    rw [hf2 _ _ (by omega), World.frozen?_setCell, hf1 _ _ (by omega)]; simp [go_sem]
  have z2 : w2.frozen? ⟨w.heap.size + 1, 1, none⟩ = false := by
    rw [hf2 _ _ (by omega), World.frozen?_setCell, hf1 _ _ (by omega)]; simp [go_sem]
  have hn1' : NewSn w2 w.heap.size (w.heap.size + 1 + 1 + 1) w1.heap.size l1 l2 :=
    ⟨by omega, hlt1, (hn1.other (by omega)).below hb2 (by rw [hs2]; exact Nat.le_refl _), hn2, ⟨f1, (hr1.of_block (by rw [hb2.block _ hlt1]; exact Below.heap_setCell _ _ _ _ (by simp))).of_block rfl⟩, ⟨f2, hr2⟩⟩
  clear hc1 hf1 hc2 hf2 d0 d1 d2 d3
  rw [hs2]
  go_wp2_with fail
  have hbw2 : Below w.heap.size w w2 := hb1'.trans (hb2.mono (by omega))
  refine bodyPost_ret (v := .agg #[.slice (some ⟨w.heap.size + 1 + 1 + 1, 0, none⟩) l1.length l1.length, .slice (some ⟨w1.heap.size, 0, none⟩) l2.length l2.length]) (by simp [results, Try.results19, go_sem, e2, e3]) rfl ⟨_, _, rfl, ?_, ?_⟩
  · exact ((hn1'.other (by omega) _).other (by omega) _).other (by omega) _
  · exact ((hbw2.setCell (by show w.heap.size ≤ w.heap.size + 1 + 1; omega) _).setCell (by show w.heap.size ≤ w.heap.size + 1; omega) _).setCell (by show w.heap.size ≤ w.heap.size + 1; omega) _

set_option maxHeartbeats 400000 in
theorem eqSeen_same (s t : Sn) (w : World) (hl : s.Le 1048576) (h1 : t.l1 = s.l1) (h2 : t.l2 = s.l2) (hs : s.At w) (ht : t.At w) :
    Calls Try.prog 21 #[.agg #[.slice s.a1 s.l1.length s.c1, .slice s.a2 s.l2.length s.c2], .agg #[.slice t.a1 t.l1.length t.c1, .slice t.a2 t.l2.length t.c2]] w fun e w' => e = .returned (.bool true) ∧ Grown w w' := by
  obtain ⟨a1, b1, o1, c1, l1, a2, b2, o2, c2, l2⟩ := s
  obtain ⟨d1, e1, f1, g1, m1, d2, e2, f2, g2, m2⟩ := t
  simp only at h1 h2
  subst h1; subst h2
  have hga := hs.grown (alloc2 w (.cells #[.slice a1 m1.length c1, .slice a2 m2.length c2] 28) (.cells #[.slice d1 m1.length g1, .slice d2 m2.length g2] 28))
  have hgb := ht.grown (alloc2 w (.cells #[.slice a1 m1.length c1, .slice a2 m2.length c2] 28) (.cells #[.slice d1 m1.length g1, .slice d2 m2.length g2] 28))
  obtain ⟨as1, as2⟩ := hga
  obtain ⟨at1, at2⟩ := hgb
  obtain ⟨hl1, hl2⟩ := hl
  simp only at as1 as2 at1 at2 hl1 hl2
  go_enter Try.func21, Try.ntmps21
  go_wp2_with fail
  refine (eqIntS_same a1 b1 o1 c1 d1 e1 f1 g1 m1 _ hl1 as1 at1).mono ?_
  rintro e w1 ⟨rfl, hg1⟩
  obtain ⟨hc1, hf1⟩ := bcell hg1.bel
  go_wp2_with fail
  refine (eqIntS_same a2 b2 o2 c2 d2 e2 f2 g2 m2 _ hl2 (as2.below hg1.bel (Nat.le_refl _)) (at2.below hg1.bel (Nat.le_refl _))).mono ?_
  rintro e w2 ⟨rfl, hg2⟩
  go_wp2_with fail
  go_ret
  exact ⟨rfl, ((alloc2 w _ _).trans hg1).trans hg2⟩

end Go.Proofs.Ytnaljfnijcoheaa

namespace Go.Proofs.Ytnaljfnijcoheaa
open Go.RowKit

theorem IntC.below {w w' : World} {a : Option Addr} {b o n : Nat} (hc : IntC w a b o n) (hb : Below w.heap.size w w') : IntC w' a b o n := by
  refine ⟨hc.addr, fun i hi => ?_, fun hn j => ?_⟩
  · obtain ⟨x, hx⟩ := hc.row i hi
    exact ⟨x, (hb.cell (p := ⟨b, o + i, none⟩) (World.block_lt_of_cell? _ _ hx)).trans hx⟩
  · obtain ⟨x, hx⟩ := hc.row 0 hn
    have hlt : b < w.heap.size := World.block_lt_of_cell? _ _ hx
    exact (hb.frozen (p := ⟨b, j, none⟩) hlt).trans (hc.fz hn j)
/-- What was seen, marked. -/
structure SnM (w : World) (s : Sn) : Prop where
  reads : IntS w s.a1 s.b1 s.o1 (M.seq 1 s.l1.length)
  last : IntS w s.a2 s.b2 s.o2 (M.seq (1 + s.l1.length) s.l2.length)
theorem SnM.below {w w' : World} {s : Sn} (h : SnM w s) (hb : Below w.heap.size w w') : SnM w' s := ⟨h.reads.below hb (Nat.le_refl _), h.last.below hb (Nat.le_refl _)⟩
/-- .. and may be written. -/
structure SnC (w : World) (s : Sn) : Prop where
  reads : IntC w s.a1 s.b1 s.o1 s.l1.length
  last : IntC w s.a2 s.b2 s.o2 s.l2.length
theorem SnC.below {w w' : World} {s : Sn} (h : SnC w s) (hb : Below w.heap.size w w') : SnC w' s := ⟨h.reads.below hb, h.last.below hb⟩
theorem SnC.mk_ {P : Nat → Prop} {w w' : World} {s : Sn} (h : SnC w s) (hm : Mk P w w') : SnC w' s := ⟨h.reads.mk_ hm, h.last.mk_ hm⟩
theorem IntS.mkFar {P : Nat → Prop} {w w' : World} {a : Option Addr} {b o : Nat} {l : List Int} (h : IntS w a b o l) (hm : Mk P w w') (hne : 0 < l.length → ¬ P b) : IntS w' a b o l :=
  ⟨h.addr, fun i hi => by rw [hm.cell (p := ⟨b, o + i, none⟩) (hne (by omega))]; exact h.row i hi⟩

set_option maxHeartbeats 400000 in
theorem markSeen_any (s : Sn) (w : World) (hl : s.Le 1048576) (hne : 0 < s.l1.length → 0 < s.l2.length → s.b1 ≠ s.b2) (h : SnC w s) :
    Calls Try.prog 25 #[.agg #[.slice s.a1 s.l1.length s.c1, .slice s.a2 s.l2.length s.c2], .int .i64 1] w fun e w' => ∃ wa : World, e = .returned (.int .i64 (1 + s.l1.length + s.l2.length)) ∧ wa = w.alloc (.cells #[.slice s.a1 s.l1.length s.c1, .slice s.a2 s.l2.length s.c2] 28) ∧ Mk s.blk wa w' ∧ SnM w' s := by
  have hb1 := below1 w (.cells #[.slice s.a1 s.l1.length s.c1, .slice s.a2 s.l2.length s.c2] 28)
  have k1 : (w.alloc (.cells #[.slice s.a1 s.l1.length s.c1, .slice s.a2 s.l2.length s.c2] 28)).cell? ⟨w.heap.size, 1, none⟩ = some (.slice s.a2 s.l2.length s.c2) := by simp
  have h1 := h.below hb1
  have hl1 := hl.reads
  have hl2 := hl.last
  have C := markIntS_any s.a1 s.b1 s.o1 s.l1.length s.c1 1 _ hl.reads (by omega) (by omega) h1.reads
  go_enter Try.func25, Try.ntmps25
  go_wp2_with fail
  refine C.mono ?_
  rintro e w1 ⟨rfl, n1, mk1⟩
  have k1' := mk1.rest _ _ k1 (fun _ e => by cases e)
  go_wp2_with fail
  refine (markIntS_any s.a2 s.b2 s.o2 s.l2.length s.c2 (1 + s.l1.length) w1 hl.last (by omega) (by omega) (h1.last.mk_ mk1)).mono ?_
  rintro e w2 ⟨rfl, n2, mk2⟩
  go_wp2_with fail
  go_ret
  refine ⟨_, rfl, rfl, (mk1.mono (fun j hj => Or.inl ⟨hj.2, hj.1⟩)).trans (mk2.mono (fun j hj => Or.inr ⟨hj.2, hj.1⟩)), ⟨n1.mkFar mk2 (fun h0 hp => ?_), n2⟩⟩
  rw [M.seq_len] at h0
  exact hne h0 hp.2 hp.1

set_option maxHeartbeats 400000 in
theorem heldSeen_any (s : Sn) (w : World) (hl : s.Le 1048576) (h : SnM w s) :
    Calls Try.prog 27 #[.agg #[.slice s.a1 s.l1.length s.c1, .slice s.a2 s.l2.length s.c2], .int .i64 1] w fun e w' => e = .returned (.int .i64 (1 + s.l1.length + s.l2.length)) ∧ w' = w.alloc (.cells #[.slice s.a1 s.l1.length s.c1, .slice s.a2 s.l2.length s.c2] 28) := by
  have hb1 := below1 w (.cells #[.slice s.a1 s.l1.length s.c1, .slice s.a2 s.l2.length s.c2] 28)
  have h1 := h.below hb1
  have hl1 := hl.reads
  have hl2 := hl.last
  have C := heldIntS_any s.a1 s.b1 s.o1 s.l1.length s.c1 1 _ hl.reads (by omega) (by omega) h1.reads
  have C2 := heldIntS_any s.a2 s.b2 s.o2 s.l2.length s.c2 (1 + s.l1.length) _ hl.last (by omega) (by omega) h1.last
  have p1 : ¬ ((1 : Int) + s.l1.length < 0) := by omega
  have p1' : decide ((1 : Int) + s.l1.length < 0) = false := by simpa using p1
  have p2 : ¬ ((1 : Int) + s.l1.length + s.l2.length < 0) := by omega
  have p2' : decide ((1 : Int) + s.l1.length + s.l2.length < 0) = false := by simpa using p2
  go_enter Try.func27, Try.ntmps27
  go_wp2_with fail
  refine C.mono ?_
  rintro e w1 ⟨rfl, rfl⟩
  go_wp2_with fail
  refine C2.mono ?_
  rintro e w2 ⟨rfl, rfl⟩
  go_wp2_with fail
  go_ret
  exact ⟨rfl, rfl⟩


set_option maxHeartbeats 400000 in
theorem eqSeen_bel (s t : Sn) (w : World) (hl : s.Le 1048576) (h1 : t.l1 = s.l1) (h2 : t.l2 = s.l2) (hs : s.At w) (ht : t.At w) :
    Calls Try.prog 21 #[.agg #[.slice s.a1 s.l1.length s.c1, .slice s.a2 s.l2.length s.c2], .agg #[.slice t.a1 t.l1.length t.c1, .slice t.a2 t.l2.length t.c2]] w fun e w' => e = .returned (.bool true) ∧ Below w.heap.size w w' := by
  obtain ⟨a1, b1, o1, c1, l1, a2, b2, o2, c2, l2⟩ := s
  obtain ⟨d1, e1, f1, g1, m1, d2, e2, f2, g2, m2⟩ := t
  simp only at h1 h2
  subst h1; subst h2
  have hb2 := below2 w (.cells #[.slice a1 m1.length c1, .slice a2 m2.length c2] 28) (.cells #[.slice d1 m1.length g1, .slice d2 m2.length g2] 28)
  obtain ⟨as1, as2⟩ := hs.below hb2 (Nat.le_refl _)
  obtain ⟨at1, at2⟩ := ht.below hb2 (Nat.le_refl _)
  obtain ⟨hl1, hl2⟩ := hl
  simp only at as1 as2 at1 at2 hl1 hl2
  go_enter Try.func21, Try.ntmps21
  go_wp2_with fail
  refine (eqIntS_same a1 b1 o1 c1 d1 e1 f1 g1 m1 _ hl1 as1 at1).mono ?_
  rintro e w1 ⟨rfl, hg1⟩
  obtain ⟨hc1, hf1⟩ := bcell hg1.bel
  go_wp2_with fail
  refine (eqIntS_same a2 b2 o2 c2 d2 e2 f2 g2 m2 _ hl2 (as2.below hg1.bel (Nat.le_refl _)) (at2.below hg1.bel (Nat.le_refl _))).mono ?_
  rintro e w2 ⟨rfl, hg2⟩
  go_wp2_with fail
  go_ret
  have hb3 := hb2.trans (hg1.bel.mono hb2.size)
  exact ⟨rfl, hb3.trans (hg2.bel.mono hb3.size)⟩

set_option maxHeartbeats 400000 in
theorem markSeenK_any (s : Sn) (k : Int) (w : World) (hk0 : 0 ≤ k) (hk1 : k ≤ 4611686018400000000) (hl : s.Le 1048576) (h : SnC w s) :
    Calls Try.prog 25 #[.agg #[.slice s.a1 s.l1.length s.c1, .slice s.a2 s.l2.length s.c2], .int .i64 k] w fun e w' => ∃ wa : World, e = .returned (.int .i64 (k + s.l1.length + s.l2.length)) ∧ wa = w.alloc (.cells #[.slice s.a1 s.l1.length s.c1, .slice s.a2 s.l2.length s.c2] 28) ∧ Mk s.blk wa w' := by
  have hb1 := below1 w (.cells #[.slice s.a1 s.l1.length s.c1, .slice s.a2 s.l2.length s.c2] 28)
  have k1 : (w.alloc (.cells #[.slice s.a1 s.l1.length s.c1, .slice s.a2 s.l2.length s.c2] 28)).cell? ⟨w.heap.size, 1, none⟩ = some (.slice s.a2 s.l2.length s.c2) := by simp
  have h1 := h.below hb1
  have hl1 := hl.reads
  have hl2 := hl.last
  have C := markIntS_any s.a1 s.b1 s.o1 s.l1.length s.c1 k _ hl.reads (by omega) (by omega) h1.reads
  go_enter Try.func25, Try.ntmps25
  go_wp2_with fail
  refine C.mono ?_
  rintro e w1 ⟨rfl, n1, mk1⟩
  have k1' := mk1.rest _ _ k1 (fun _ e => by cases e)
  go_wp2_with fail
  refine (markIntS_any s.a2 s.b2 s.o2 s.l2.length s.c2 (k + s.l1.length) w1 hl.last (by omega) (by omega) (h1.last.mk_ mk1)).mono ?_
  rintro e w2 ⟨rfl, n2, mk2⟩
  go_wp2_with fail
  go_ret
  exact ⟨_, rfl, rfl, (mk1.mono (fun j hj => Or.inl ⟨hj.2, hj.1⟩)).trans (mk2.mono (fun j hj => Or.inr ⟨hj.2, hj.1⟩))⟩

end Go.Proofs.Ytnaljfnijcoheaa

namespace Go.Proofs.Ytnaljfnijcoheaa
open Go.RowKit

theorem cb {W W' : World} {p : Addr} {v : Value} (hb : Below W.heap.size W W') (h : W.cell? p = some v) : W'.cell? p = some v := (hb.cell (p := p) (World.block_lt_of_cell? _ _ h)).trans h

/-- What is seen, laid anew: all its blocks are new ones, from B on. -/
structure NewT (B : Nat) (w : World) (s : Sn) : Prop where
  at_ : s.At w
  ge1 : B ≤ s.b1
  ge2 : B ≤ s.b2
  own : Own2 w s

theorem own_numsF {w : World} {base : Nat} {v : Value} {l : List Int} (h : w.ownsRow base 3 1 v l.length (nums l)) : ∃ a g c, v = .slice a l.length c ∧ IntS w a g 0 l ∧ base ≤ g ∧ (0 < l.length → v.ownBlock = some g ∧ ∀ j, w.frozen? ⟨g, j, none⟩ = false) := by
  rcases h.2 with ⟨hv, hn⟩ | ⟨g, cap, cur, hv, hg, hh, r⟩
  · have : l = [] := List.length_eq_zero_iff.1 hn
    subst this
    exact ⟨none, base, 0, hv, IntS.nil _ _ _ _, Nat.le_refl _, fun h => absurd h (Nat.lt_irrefl _)⟩
  · refine ⟨_, g, cap, hv, ⟨fun _ => rfl, fun i hi => ?_⟩, hg, fun _ => ⟨by rw [hv]; rfl, fun j => by simp [World.frozen?, hh]⟩⟩
    have hc := h.cells (g := g) (by rw [hv]; rfl) i (.int .i64 l[i]) (by simp [nums, hi])
    rwa [Go.WideShapes.add_plain] at hc

theorem TsAns.sn {w w' : World} {v1 v2 : Value} {r1 r2 : List Int} (h : TsAns w w' v1 v2 r1 r2) : ∃ s : Sn, v1 = .slice s.a1 s.l1.length s.c1 ∧ v2 = .slice s.a2 s.l2.length s.c2 ∧ (s.l1 = r1 ∧ s.l2 = r2) ∧ NewT w.heap.size w' s := by
  obtain ⟨a1, g1, c1, e1, i1, ge1, f1⟩ := own_numsF h.o1
  obtain ⟨a2, g2, c2, e2, i2, ge2, f2⟩ := own_numsF h.o2
  refine ⟨⟨a1, g1, 0, c1, r1, a2, g2, 0, c2, r2⟩, e1, e2, ⟨rfl, rfl⟩, ⟨i1, i2⟩, ge1, ge2, ⟨fun p1 p2 e => ?_, fun b hb j => ?_⟩⟩
  · have e' : g1 = g2 := e
    exact h.ap g1 (f1 p1).1 (by rw [e']; exact (f2 p2).1)
  · rcases hb with ⟨hl, e⟩ | ⟨hl, e⟩
    · have e' : b = g1 := e
      rw [e']; exact (f1 hl).2 j
    · have e' : b = g2 := e
      rw [e']; exact (f2 hl).2 j

theorem its_any (a : Option Addr) (b o c : Nat) (ll : List (List M.D)) (s : Sn) (y1 y2 B : Nat) (ga : Option Addr) (gb go gc : Nat) (gs : List Int) (ok : Bool) (r1 r2 : List Int) (w : World) (hl : ll.length ≤ 1048576) (_hpc : ll.length ≤ c) (hls : ∀ t ∈ ll, t.length ≤ 1048576) (hs : s.Le 1048576) (hgl : gs.length ≤ 1048576) (hok : (M.turnSeen ll s.l1 s.l2 gs).isSome = ok) (hr1 : ((M.turnSeen ll s.l1 s.l2 gs).getD ([], [])).1 = r1) (hr2 : ((M.turnSeen ll s.l1 s.l2 gs).getD ([], [])).2 = r2) (h : DoSS w a b o ll) (hy : NewSn w B y1 y2 s.l1 s.l2) (hG : IntS w ga gb go gs) :
    Calls Try.prog 11 #[.agg #[.slice a ll.length c], .agg #[.slice (some ⟨y1, 0, none⟩) s.l1.length s.l1.length, .slice (some ⟨y2, 0, none⟩) s.l2.length s.l2.length], .slice ga gs.length gc] w fun e w' => ∃ t : Sn, e = .returned (.tuple #[.agg #[.slice t.a1 t.l1.length t.c1, .slice t.a2 t.l2.length t.c2], .bool ok]) ∧ Hid (t.l1 = r1 ∧ t.l2 = r2) ∧ NewT w.heap.size w' t ∧ Below w.heap.size w w' := by
  subst hok
  subst hr1
  subst hr2
  refine (iturnSeen_any a b o c ll hl hls (newSn y1 y2 s.l1 s.l2) ⟨hs.1, hs.2⟩ (Nat.le_refl _) ga gb go gc gs hgl w h hy.at hG).mono fun e w' ⟨v1, v2, he, hA⟩ => ?_
  obtain ⟨t, rfl, rfl, ht, hn⟩ := hA.sn
  exact ⟨t, he, ht, hn, hA.bel⟩

theorem sts_any (a : Option Addr) (b o c : Nat) (ll : List (List M.D)) (s : Sn) (y1 y2 B : Nat) (ga : Option Addr) (gb go gc : Nat) (gs : List Int) (ok : Bool) (r1 r2 : List Int) (w : World) (hl : ll.length ≤ 1048576) (hpc : ll.length ≤ c) (hls : ∀ t ∈ ll, t.length ≤ 1048576) (hs : s.Le 1048576) (hgl : gs.length ≤ 1048576) (hok : (M.turnSeen ll s.l1 s.l2 gs).isSome = ok) (hr1 : ((M.turnSeen ll s.l1 s.l2 gs).getD ([], [])).1 = r1) (hr2 : ((M.turnSeen ll s.l1 s.l2 gs).getD ([], [])).2 = r2) (h : DoSS w a b o ll) (hy : NewSn w B y1 y2 s.l1 s.l2) (hG : IntS w ga gb go gs) :
    Calls Try.prog 10 #[.agg #[.slice a ll.length c], .agg #[.slice (some ⟨y1, 0, none⟩) s.l1.length s.l1.length, .slice (some ⟨y2, 0, none⟩) s.l2.length s.l2.length], .slice ga gs.length gc] w fun e w' => ∃ t : Sn, e = .returned (.tuple #[.agg #[.slice t.a1 t.l1.length t.c1, .slice t.a2 t.l2.length t.c2], .bool ok]) ∧ Hid (t.l1 = r1 ∧ t.l2 = r2) ∧ NewT w.heap.size w' t ∧ Below w.heap.size w w' := by
  subst hok
  subst hr1
  subst hr2
  refine (sturnSeen_any a b o c ll hl hpc hls (newSn y1 y2 s.l1 s.l2) ⟨hs.1, hs.2⟩ (Nat.le_refl _) ga gb go gc gs hgl w h hy.at hG).mono fun e w' ⟨v1, v2, he, hA⟩ => ?_
  obtain ⟨t, rfl, rfl, ht, hn⟩ := hA.sn
  exact ⟨t, he, ht, hn, hA.bel⟩

theorem M.turnSeen_small {ll : List (List M.D)} {l1 l2 gs : List Int} {r1 r2 : List Int} (h1 : ((M.turnSeen ll l1 l2 gs).getD ([], [])).1 = r1) (h2 : ((M.turnSeen ll l1 l2 gs).getD ([], [])).2 = r2) : r1.length ≤ 1048576 ∧ r2.length ≤ 1048576 := by
  cases hp : M.seenOk ll l1 l2
  · rw [M.turnSeen_bad hp] at h1 h2
    subst h1; subst h2; simp
  · cases hr : M.rowN gs ll.length
    · rw [M.turnSeen_row hr] at h1 h2
      subst h1; subst h2; simp
    · rw [M.turnSeen_yes hp hr] at h1 h2
      obtain ⟨hpg, hl1, hl2⟩ := M.seenOk_len hp
      obtain ⟨h3, h7⟩ := M.prog_le hpg
      have e1 : (M.pick [] gs (M.parts ll l1)).flatten = r1 := h1
      have e2 : l2 = r2 := h2
      subst e1; subst e2
      refine ⟨?_, by omega⟩
      rw [M.lens_flat]
      have k1 := M.lens_pick gs l1.length (M.parts ll l1) (M.parts_small ll l1)
      have k2 := M.rowN_len hr
      have k3 := (M.prog_uses hpg).1
      have k4 := M.tot_mono (f := M.reads) (g := M.uses) (fun k hk => by simp [M.uses, hk]) ll
      have k5 : l1.length * gs.length ≤ 6 * 3 := Nat.mul_le_mul (by omega) (by omega)
      omega

/-- What stands through the law's calls: the boxes of its arguments, and the arguments. -/
structure St3 (w W : World) (a : Option Addr) (b o c : Nat) (ll : List (List M.D)) (t : Sn) (ga : Option Addr) (gb go : Nat) (gs : List Int) : Prop where
  bel : Below w.heap.size w W
  p0 : W.cell? ⟨w.heap.size, 0, none⟩ = some (.slice a ll.length c)
  q0 : W.cell? ⟨w.heap.size + 1, 0, none⟩ = some (.slice t.a1 t.l1.length t.c1)
  q1 : W.cell? ⟨w.heap.size + 1, 1, none⟩ = some (.slice t.a2 t.l2.length t.c2)
  sa : DoSS W a b o ll
  ta : t.At W
  gi : IntS W ga gb go gs
theorem St3.lt {w W : World} {a : Option Addr} {b o c : Nat} {ll : List (List M.D)} {t : Sn} {ga : Option Addr} {gb go : Nat} {gs : List Int} (h : St3 w W a b o c ll t ga gb go gs) : w.heap.size + 1 < W.heap.size := World.block_lt_of_cell? _ _ h.q0
theorem St3.below {w W W' : World} {a : Option Addr} {b o c : Nat} {ll : List (List M.D)} {t : Sn} {ga : Option Addr} {gb go : Nat} {gs : List Int} (h : St3 w W a b o c ll t ga gb go gs) (hb : Below W.heap.size W W') : St3 w W' a b o c ll t ga gb go gs :=
  ⟨h.bel.trans (hb.mono h.bel.size), cb hb h.p0, cb hb h.q0, cb hb h.q1, h.sa.below hb (Nat.le_refl _), h.ta.below hb (Nat.le_refl _), h.gi.below hb (Nat.le_refl _)⟩
/-- A variable of what was seen. -/
structure BxT (W : World) (X : Nat) (s : Sn) : Prop where
  c0 : W.cell? ⟨X, 0, none⟩ = some (.slice s.a1 s.l1.length s.c1)
  c1 : W.cell? ⟨X, 1, none⟩ = some (.slice s.a2 s.l2.length s.c2)
  at_ : s.At W
theorem BxT.lt {W : World} {X : Nat} {s : Sn} (h : BxT W X s) : X < W.heap.size := World.block_lt_of_cell? _ _ h.c0
theorem BxT.below {W W' : World} {X : Nat} {s : Sn} (h : BxT W X s) (hb : Below W.heap.size W W') : BxT W' X s := ⟨cb hb h.c0, cb hb h.c1, h.at_.below hb (Nat.le_refl _)⟩
theorem BxT.new {W : World} {s : Sn} (h : s.At W) : BxT (W.alloc (.cells #[.slice s.a1 s.l1.length s.c1, .slice s.a2 s.l2.length s.c2] 28)) W.heap.size s := ⟨by simp, by simp, h.below (below1 _ _) (Nat.le_refl _)⟩

end Go.Proofs.Ytnaljfnijcoheaa

namespace Go.Proofs.Ytnaljfnijcoheaa
open Go.RowKit

def M.oddR (s : Int) : List Int := if s = 1 then [0, 0] else if s = 2 then [1, 0] else if s = 3 then [1, 1] else if s = 4 then [1, 0] else if s = 6 then [1, 0] else []
def M.oddL (s : Int) : List Int := if s = 1 then [1, 1, 0] else if s = 2 then [1, 1, 0] else if s = 3 then [1, 1, 0] else if s = 4 then [1, 0, 0] else if s = 5 then [2, 2, 0] else if s = 6 then [1, 1, 0] else []
theorem own_litI {w : World} {B : Nat} (l : List Int) {cs : Array Value} (hB : B ≤ w.heap.size) (hcs : cs.toList = nums l) (hn : l.length ≤ 1000) : (w.alloc (.cells cs 3)).ownsRow B 3 1 (.slice (some ⟨w.heap.size, 0, none⟩) l.length l.length) l.length (nums l) :=
  ⟨by simp [nums], .inr ⟨_, l.length, cs, rfl, hB, heap_alloc_new w _, Nat.le_refl _, by unfold maxLen; omega, by rw [← Array.length_toList, hcs]; simp [nums], by rw [hcs, Nat.mul_one, List.take_of_length_le (by simp [nums])]⟩⟩
/-- Two rows of numbers made one behind the other. -/
theorem ts_lit {w W : World} (r1 r2 : List Int) {c1 c2 : Array Value} (hb : Below w.heap.size w W) (h1 : c1.toList = nums r1) (h2 : c2.toList = nums r2) (n1 : r1.length ≤ 1000) (n2 : r2.length ≤ 1000) :
    TsAns w ((W.alloc (.cells c1 3)).alloc (.cells c2 3)) (.slice (some ⟨W.heap.size, 0, none⟩) r1.length r1.length) (.slice (some ⟨W.heap.size + 1, 0, none⟩) r2.length r2.length) r1 r2 := by
  have R1 := ownsRow_below (own_litI (w := W) (B := w.heap.size) r1 hb.size h1 n1) (below1 _ (.cells c2 3))
  have R2 := own_litI (w := W.alloc (.cells c1 3)) (B := w.heap.size) r2 (by have := hb.size; simp; omega) h2 n2
  rw [World.size_alloc] at R2
  have bb := (hb.alloc hb.size (.cells c1 3)).alloc (hb.alloc hb.size (.cells c1 3)).size (.cells c2 3)
  refine ⟨R1, R2, ?_, bb⟩
  intro k hk e
  simp [Value.ownBlock] at hk e
  omega
theorem ts_lit1 {w W : World} (r2 : List Int) {c2 : Array Value} (hb : Below w.heap.size w W) (h2 : c2.toList = nums r2) (n2 : r2.length ≤ 1000) :
    TsAns w (W.alloc (.cells c2 3)) (.slice none 0 0) (.slice (some ⟨W.heap.size, 0, none⟩) r2.length r2.length) [] r2 := by
  have R2 := own_litI (w := W) (B := w.heap.size) r2 hb.size h2 n2
  have bb := hb.alloc hb.size (.cells c2 3)
  refine ⟨World.ownsRow_nil _ _ _ _, R2, ?_, bb⟩
  intro k hk e
  simp [Value.ownBlock] at hk
theorem Slot2.belo {w w' : World} {b : Nat} {x y : Value} (h : Slot2 w b x y) (hb : Below w.heap.size w w') : Slot2 w' b x y := h.of (hb.block b h.lt)
theorem ts_none {w W : World} (hb : Below w.heap.size w W) : TsAns w W (.slice none 0 0) (.slice none 0 0) [] [] :=
  ⟨World.ownsRow_nil _ _ _ _, World.ownsRow_nil _ _ _ _, fun k hk => by simp [Value.ownBlock] at hk, hb⟩

theorem as_cross_cross (W : World) (v : Value) : (Instr.typeAssert (.iface 119 v) 90 119 true).run Try.prog W = .ok (.tuple #[v, .bool true]) W := by kernel_rfl
theorem as_cross_pass (W : World) (v : Value) : (Instr.typeAssert (.iface 119 v) 90 120 true).run Try.prog W = .ok (.tuple #[.agg #[], .bool false]) W := by kernel_rfl
theorem as_cross_round (W : World) (v : Value) : (Instr.typeAssert (.iface 119 v) 90 121 true).run Try.prog W = .ok (.tuple #[.agg #[], .bool false]) W := by kernel_rfl
theorem as_cross_twice (W : World) (v : Value) : (Instr.typeAssert (.iface 119 v) 90 122 true).run Try.prog W = .ok (.tuple #[.agg #[], .bool false]) W := by kernel_rfl
theorem as_cross_four (W : World) (v : Value) : (Instr.typeAssert (.iface 119 v) 90 123 true).run Try.prog W = .ok (.tuple #[.agg #[], .bool false]) W := by kernel_rfl
theorem as_cross_wait (W : World) (v : Value) : (Instr.typeAssert (.iface 119 v) 90 124 true).run Try.prog W = .ok (.tuple #[.agg #[], .bool false]) W := by kernel_rfl
theorem as_pass_cross (W : World) (v : Value) : (Instr.typeAssert (.iface 120 v) 90 119 true).run Try.prog W = .ok (.tuple #[.agg #[], .bool false]) W := by kernel_rfl
theorem as_pass_pass (W : World) (v : Value) : (Instr.typeAssert (.iface 120 v) 90 120 true).run Try.prog W = .ok (.tuple #[v, .bool true]) W := by kernel_rfl
theorem as_pass_round (W : World) (v : Value) : (Instr.typeAssert (.iface 120 v) 90 121 true).run Try.prog W = .ok (.tuple #[.agg #[], .bool false]) W := by kernel_rfl
theorem as_pass_twice (W : World) (v : Value) : (Instr.typeAssert (.iface 120 v) 90 122 true).run Try.prog W = .ok (.tuple #[.agg #[], .bool false]) W := by kernel_rfl
theorem as_pass_four (W : World) (v : Value) : (Instr.typeAssert (.iface 120 v) 90 123 true).run Try.prog W = .ok (.tuple #[.agg #[], .bool false]) W := by kernel_rfl
theorem as_pass_wait (W : World) (v : Value) : (Instr.typeAssert (.iface 120 v) 90 124 true).run Try.prog W = .ok (.tuple #[.agg #[], .bool false]) W := by kernel_rfl
theorem as_round_cross (W : World) (v : Value) : (Instr.typeAssert (.iface 121 v) 90 119 true).run Try.prog W = .ok (.tuple #[.agg #[], .bool false]) W := by kernel_rfl
theorem as_round_pass (W : World) (v : Value) : (Instr.typeAssert (.iface 121 v) 90 120 true).run Try.prog W = .ok (.tuple #[.agg #[], .bool false]) W := by kernel_rfl
theorem as_round_round (W : World) (v : Value) : (Instr.typeAssert (.iface 121 v) 90 121 true).run Try.prog W = .ok (.tuple #[v, .bool true]) W := by kernel_rfl
theorem as_round_twice (W : World) (v : Value) : (Instr.typeAssert (.iface 121 v) 90 122 true).run Try.prog W = .ok (.tuple #[.agg #[], .bool false]) W := by kernel_rfl
theorem as_round_four (W : World) (v : Value) : (Instr.typeAssert (.iface 121 v) 90 123 true).run Try.prog W = .ok (.tuple #[.agg #[], .bool false]) W := by kernel_rfl
theorem as_round_wait (W : World) (v : Value) : (Instr.typeAssert (.iface 121 v) 90 124 true).run Try.prog W = .ok (.tuple #[.agg #[], .bool false]) W := by kernel_rfl
theorem as_twice_cross (W : World) (v : Value) : (Instr.typeAssert (.iface 122 v) 90 119 true).run Try.prog W = .ok (.tuple #[.agg #[], .bool false]) W := by kernel_rfl
theorem as_twice_pass (W : World) (v : Value) : (Instr.typeAssert (.iface 122 v) 90 120 true).run Try.prog W = .ok (.tuple #[.agg #[], .bool false]) W := by kernel_rfl
theorem as_twice_round (W : World) (v : Value) : (Instr.typeAssert (.iface 122 v) 90 121 true).run Try.prog W = .ok (.tuple #[.agg #[], .bool false]) W := by kernel_rfl
theorem as_twice_twice (W : World) (v : Value) : (Instr.typeAssert (.iface 122 v) 90 122 true).run Try.prog W = .ok (.tuple #[v, .bool true]) W := by kernel_rfl
theorem as_twice_four (W : World) (v : Value) : (Instr.typeAssert (.iface 122 v) 90 123 true).run Try.prog W = .ok (.tuple #[.agg #[], .bool false]) W := by kernel_rfl
theorem as_twice_wait (W : World) (v : Value) : (Instr.typeAssert (.iface 122 v) 90 124 true).run Try.prog W = .ok (.tuple #[.agg #[], .bool false]) W := by kernel_rfl
theorem as_four_cross (W : World) (v : Value) : (Instr.typeAssert (.iface 123 v) 90 119 true).run Try.prog W = .ok (.tuple #[.agg #[], .bool false]) W := by kernel_rfl
theorem as_four_pass (W : World) (v : Value) : (Instr.typeAssert (.iface 123 v) 90 120 true).run Try.prog W = .ok (.tuple #[.agg #[], .bool false]) W := by kernel_rfl
theorem as_four_round (W : World) (v : Value) : (Instr.typeAssert (.iface 123 v) 90 121 true).run Try.prog W = .ok (.tuple #[.agg #[], .bool false]) W := by kernel_rfl
theorem as_four_twice (W : World) (v : Value) : (Instr.typeAssert (.iface 123 v) 90 122 true).run Try.prog W = .ok (.tuple #[.agg #[], .bool false]) W := by kernel_rfl
theorem as_four_four (W : World) (v : Value) : (Instr.typeAssert (.iface 123 v) 90 123 true).run Try.prog W = .ok (.tuple #[v, .bool true]) W := by kernel_rfl
theorem as_four_wait (W : World) (v : Value) : (Instr.typeAssert (.iface 123 v) 90 124 true).run Try.prog W = .ok (.tuple #[.agg #[], .bool false]) W := by kernel_rfl
theorem as_wait_cross (W : World) (v : Value) : (Instr.typeAssert (.iface 124 v) 90 119 true).run Try.prog W = .ok (.tuple #[.agg #[], .bool false]) W := by kernel_rfl
theorem as_wait_pass (W : World) (v : Value) : (Instr.typeAssert (.iface 124 v) 90 120 true).run Try.prog W = .ok (.tuple #[.agg #[], .bool false]) W := by kernel_rfl
theorem as_wait_round (W : World) (v : Value) : (Instr.typeAssert (.iface 124 v) 90 121 true).run Try.prog W = .ok (.tuple #[.agg #[], .bool false]) W := by kernel_rfl
theorem as_wait_twice (W : World) (v : Value) : (Instr.typeAssert (.iface 124 v) 90 122 true).run Try.prog W = .ok (.tuple #[.agg #[], .bool false]) W := by kernel_rfl
theorem as_wait_four (W : World) (v : Value) : (Instr.typeAssert (.iface 124 v) 90 123 true).run Try.prog W = .ok (.tuple #[.agg #[], .bool false]) W := by kernel_rfl
theorem as_wait_wait (W : World) (v : Value) : (Instr.typeAssert (.iface 124 v) 90 124 true).run Try.prog W = .ok (.tuple #[v, .bool true]) W := by kernel_rfl

set_option maxHeartbeats 1000000 in
set_option maxRecDepth 100000 in
theorem odd_cross (w : World) :
    Calls Try.prog 66 #[.iface 119 (.agg #[])] w fun e w' => ∃ v1 v2, e = .returned (.agg #[v1, v2]) ∧ TsAns w w' v1 v2 [0, 0] [1, 1, 0] := by
  have a0 := fun W => as_cross_cross W (.agg #[])
  go_enter Try.func66, Try.ntmps66
  go_wp2_with fail
  have T := ts_lit (w := w) [0, 0] [1, 1, 0] (c1 := #[.int .i64 0, .int .i64 0]) (c2 := #[.int .i64 1, .int .i64 1, .int .i64 0]) (below1 w (.cells #[.slice (some ⟨w.heap.size + 1, 0, none⟩) 2 2, .slice (some ⟨w.heap.size + 1 + 1, 0, none⟩) 3 3] 28)) rfl rfl (by simp) (by simp)
  simp only [World.size_alloc] at T
  go_returns
  exact ⟨_, _, rfl, T⟩

set_option maxHeartbeats 1000000 in
set_option maxRecDepth 100000 in
theorem odd_pass (w : World) :
    Calls Try.prog 66 #[.iface 120 (.agg #[])] w fun e w' => ∃ v1 v2, e = .returned (.agg #[v1, v2]) ∧ TsAns w w' v1 v2 [1, 0] [1, 1, 0] := by
  have a0 := fun W => as_pass_cross W (.agg #[])
  have a1 := fun W => as_pass_pass W (.agg #[])
  have a2 := fun W => as_pass_wait W (.agg #[])
  go_enter Try.func66, Try.ntmps66
  go_wp2_with fail
  have T := ts_lit (w := w) [1, 0] [1, 1, 0] (c1 := #[.int .i64 1, .int .i64 0]) (c2 := #[.int .i64 1, .int .i64 1, .int .i64 0]) (below1 w (.cells #[.slice (some ⟨w.heap.size + 1, 0, none⟩) 2 2, .slice (some ⟨w.heap.size + 1 + 1, 0, none⟩) 3 3] 28)) rfl rfl (by simp) (by simp)
  simp only [World.size_alloc] at T
  go_returns
  exact ⟨_, _, rfl, T⟩

set_option maxHeartbeats 1000000 in
set_option maxRecDepth 100000 in
theorem odd_round (w : World) :
    Calls Try.prog 66 #[.iface 121 (.agg #[])] w fun e w' => ∃ v1 v2, e = .returned (.agg #[v1, v2]) ∧ TsAns w w' v1 v2 [1, 1] [1, 1, 0] := by
  have a0 := fun W => as_round_cross W (.agg #[])
  have a1 := fun W => as_round_pass W (.agg #[])
  have a2 := fun W => as_round_wait W (.agg #[])
  have a3 := fun W => as_round_round W (.agg #[])
  go_enter Try.func66, Try.ntmps66
  go_wp2_with fail
  have T := ts_lit (w := w) [1, 1] [1, 1, 0] (c1 := #[.int .i64 1, .int .i64 1]) (c2 := #[.int .i64 1, .int .i64 1, .int .i64 0]) (below1 w (.cells #[.slice (some ⟨w.heap.size + 1, 0, none⟩) 2 2, .slice (some ⟨w.heap.size + 1 + 1, 0, none⟩) 3 3] 28)) rfl rfl (by simp) (by simp)
  simp only [World.size_alloc] at T
  go_returns
  exact ⟨_, _, rfl, T⟩

set_option maxHeartbeats 1000000 in
set_option maxRecDepth 100000 in
theorem odd_twice (w : World) :
    Calls Try.prog 66 #[.iface 122 (.agg #[])] w fun e w' => ∃ v1 v2, e = .returned (.agg #[v1, v2]) ∧ TsAns w w' v1 v2 [1, 0] [1, 0, 0] := by
  have a0 := fun W => as_twice_cross W (.agg #[])
  have a1 := fun W => as_twice_pass W (.agg #[])
  have a2 := fun W => as_twice_wait W (.agg #[])
  have a3 := fun W => as_twice_round W (.agg #[])
  have a4 := fun W => as_twice_twice W (.agg #[])
  go_enter Try.func66, Try.ntmps66
  go_wp2_with fail
  have T := ts_lit (w := w) [1, 0] [1, 0, 0] (c1 := #[.int .i64 1, .int .i64 0]) (c2 := #[.int .i64 1, .int .i64 0, .int .i64 0]) (below1 w (.cells #[.slice (some ⟨w.heap.size + 1, 0, none⟩) 2 2, .slice (some ⟨w.heap.size + 1 + 1, 0, none⟩) 3 3] 28)) rfl rfl (by simp) (by simp)
  simp only [World.size_alloc] at T
  go_returns
  exact ⟨_, _, rfl, T⟩

set_option maxHeartbeats 1000000 in
set_option maxRecDepth 100000 in
theorem odd_four (w : World) :
    Calls Try.prog 66 #[.iface 123 (.agg #[])] w fun e w' => ∃ v1 v2, e = .returned (.agg #[v1, v2]) ∧ TsAns w w' v1 v2 [] [2, 2, 0] := by
  have a0 := fun W => as_four_cross W (.agg #[])
  have a1 := fun W => as_four_pass W (.agg #[])
  have a2 := fun W => as_four_wait W (.agg #[])
  have a3 := fun W => as_four_round W (.agg #[])
  have a4 := fun W => as_four_twice W (.agg #[])
  have a5 := fun W => as_four_four W (.agg #[])
  go_enter Try.func66, Try.ntmps66
  go_wp2_with fail
  have T := ts_lit1 (w := w) [2, 2, 0] (c2 := #[.int .i64 2, .int .i64 2, .int .i64 0]) (below1 w (.cells #[.slice none 0 0, .slice (some ⟨w.heap.size + 1, 0, none⟩) 3 3] 28)) rfl (by simp)
  simp only [World.size_alloc] at T
  go_returns
  exact ⟨_, _, rfl, T⟩

set_option maxHeartbeats 1000000 in
set_option maxRecDepth 100000 in
theorem odd_wait (w : World) :
    Calls Try.prog 66 #[.iface 124 (.agg #[])] w fun e w' => ∃ v1 v2, e = .returned (.agg #[v1, v2]) ∧ TsAns w w' v1 v2 [1, 0] [1, 1, 0] := by
  have a0 := fun W => as_wait_cross W (.agg #[])
  have a1 := fun W => as_wait_pass W (.agg #[])
  have a2 := fun W => as_wait_wait W (.agg #[])
  go_enter Try.func66, Try.ntmps66
  go_wp2_with fail
  have T := ts_lit (w := w) [1, 0] [1, 1, 0] (c1 := #[.int .i64 1, .int .i64 0]) (c2 := #[.int .i64 1, .int .i64 1, .int .i64 0]) (below1 w (.cells #[.slice (some ⟨w.heap.size + 1, 0, none⟩) 2 2, .slice (some ⟨w.heap.size + 1 + 1, 0, none⟩) 3 3] 28)) rfl rfl (by simp) (by simp)
  simp only [World.size_alloc] at T
  go_returns
  exact ⟨_, _, rfl, T⟩

def M.oddOk (s : Int) : Bool := decide (1 ≤ s) && decide (s ≤ 6)
theorem TsAns.box {w W W' : World} {v1 v2 : Value} {r1 r2 : List Int} (h : TsAns W W' v1 v2 r1 r2) (hb : Below w.heap.size w W) {X : Nat} (hX : w.heap.size ≤ X) (hXW : X < W.heap.size) (u1 u2 : Value) : TsAns w ((W'.setCell ⟨X, 0, none⟩ u1).setCell ⟨X, 1, none⟩ u2) v1 v2 r1 r2 := by
  have g1 := own_ge h.o1
  have g2 := own_ge h.o2
  refine ⟨ownsRow_mono (ownsRow_setCell_other (ownsRow_setCell_other h.o1 (a := ⟨X, 0, none⟩) ?_ _) (a := ⟨X, 1, none⟩) ?_ _) hb.size, ownsRow_mono (ownsRow_setCell_other (ownsRow_setCell_other h.o2 (a := ⟨X, 0, none⟩) ?_ _) (a := ⟨X, 1, none⟩) ?_ _) hb.size, h.ap, ((hb.trans (h.bel.mono hb.size)).setCell hX _).setCell hX _⟩
  · intro e; have := g1 X e; omega
  · intro e; have := g1 X e; omega
  · intro e; have := g2 X e; omega
  · intro e; have := g2 X e; omega

set_option maxHeartbeats 1000000 in
set_option maxRecDepth 100000 in
theorem iodd_any (s : Int) (w : World) :
    Calls Try.prog 32 #[.int .i64 s] w fun e w' => ∃ v1 v2, e = .returned (.tuple #[.agg #[v1, v2], .bool (M.oddOk s)]) ∧ TsAns w w' v1 v2 (M.oddR s) (M.oddL s) := by
  have hb := below1 w (.cells #[.slice none 0 0, .slice none 0 0] 28)
  have hlt : w.heap.size < (w.alloc (.cells #[.slice none 0 0, .slice none 0 0] 28)).heap.size := by simp
  have hS : Slot2 (w.alloc (.cells #[.slice none 0 0, .slice none 0 0] 28)) w.heap.size (.slice none 0 0) (.slice none 0 0) := ⟨heap_alloc_new w _⟩
  by_cases h1 : s = 1
  · subst h1
    go_enter Try.func32, Try.ntmps32
    go_wp2_with fail
    refine (formOf_any 1 _).mono ?_
    rintro e w0 ⟨rfl, rfl⟩
    go_wp2_with fail
    refine (odd_cross _).mono ?_
    rintro e w1 ⟨v1, v2, rfl, hT⟩
    obtain ⟨x1, y1, rfl⟩ := own_slx hT.o1
    obtain ⟨x2, y2, rfl⟩ := own_slx hT.o2
    simp only [List.length_cons, List.length_nil, Nat.zero_add, Nat.reduceAdd] at hT ⊢
    have hS1 := hS.belo hT.bel
    have c0 := hS1.c0
    have c1 := hS1.c1
    have cf := hS1.fz
    have hS2 := (hS1.set0 (.slice x1 2 y1)).set1 (.slice x2 3 y2)
    have d0 := hS2.c0
    have d1 := hS2.c1
    go_wp2_with fail
    exact bodyPost_ret (v := .tuple #[.agg #[.slice x1 2 y1, .slice x2 3 y2], .bool true]) (by simp [results, Try.results32, go_sem, d0, d1]) rfl ⟨_, _, rfl, hT.box hb (Nat.le_refl _) hlt _ _⟩
  by_cases h2 : s = 2
  · subst h2
    go_enter Try.func32, Try.ntmps32
    go_wp2_with fail
    refine (formOf_any 2 _).mono ?_
    rintro e w0 ⟨rfl, rfl⟩
    go_wp2_with fail
    refine (odd_pass _).mono ?_
    rintro e w1 ⟨v1, v2, rfl, hT⟩
    obtain ⟨x1, y1, rfl⟩ := own_slx hT.o1
    obtain ⟨x2, y2, rfl⟩ := own_slx hT.o2
    simp only [List.length_cons, List.length_nil, Nat.zero_add, Nat.reduceAdd] at hT ⊢
    have hS1 := hS.belo hT.bel
    have c0 := hS1.c0
    have c1 := hS1.c1
    have cf := hS1.fz
    have hS2 := (hS1.set0 (.slice x1 2 y1)).set1 (.slice x2 3 y2)
    have d0 := hS2.c0
    have d1 := hS2.c1
    go_wp2_with fail
    exact bodyPost_ret (v := .tuple #[.agg #[.slice x1 2 y1, .slice x2 3 y2], .bool true]) (by simp [results, Try.results32, go_sem, d0, d1]) rfl ⟨_, _, rfl, hT.box hb (Nat.le_refl _) hlt _ _⟩
  by_cases h3 : s = 3
  · subst h3
    go_enter Try.func32, Try.ntmps32
    go_wp2_with fail
    refine (formOf_any 3 _).mono ?_
    rintro e w0 ⟨rfl, rfl⟩
    go_wp2_with fail
    refine (odd_round _).mono ?_
    rintro e w1 ⟨v1, v2, rfl, hT⟩
    obtain ⟨x1, y1, rfl⟩ := own_slx hT.o1
    obtain ⟨x2, y2, rfl⟩ := own_slx hT.o2
    simp only [List.length_cons, List.length_nil, Nat.zero_add, Nat.reduceAdd] at hT ⊢
    have hS1 := hS.belo hT.bel
    have c0 := hS1.c0
    have c1 := hS1.c1
    have cf := hS1.fz
    have hS2 := (hS1.set0 (.slice x1 2 y1)).set1 (.slice x2 3 y2)
    have d0 := hS2.c0
    have d1 := hS2.c1
    go_wp2_with fail
    exact bodyPost_ret (v := .tuple #[.agg #[.slice x1 2 y1, .slice x2 3 y2], .bool true]) (by simp [results, Try.results32, go_sem, d0, d1]) rfl ⟨_, _, rfl, hT.box hb (Nat.le_refl _) hlt _ _⟩
  by_cases h4 : s = 4
  · subst h4
    go_enter Try.func32, Try.ntmps32
    go_wp2_with fail
    refine (formOf_any 4 _).mono ?_
    rintro e w0 ⟨rfl, rfl⟩
    go_wp2_with fail
    refine (odd_twice _).mono ?_
    rintro e w1 ⟨v1, v2, rfl, hT⟩
    obtain ⟨x1, y1, rfl⟩ := own_slx hT.o1
    obtain ⟨x2, y2, rfl⟩ := own_slx hT.o2
    simp only [List.length_cons, List.length_nil, Nat.zero_add, Nat.reduceAdd] at hT ⊢
    have hS1 := hS.belo hT.bel
    have c0 := hS1.c0
    have c1 := hS1.c1
    have cf := hS1.fz
    have hS2 := (hS1.set0 (.slice x1 2 y1)).set1 (.slice x2 3 y2)
    have d0 := hS2.c0
    have d1 := hS2.c1
    go_wp2_with fail
    exact bodyPost_ret (v := .tuple #[.agg #[.slice x1 2 y1, .slice x2 3 y2], .bool true]) (by simp [results, Try.results32, go_sem, d0, d1]) rfl ⟨_, _, rfl, hT.box hb (Nat.le_refl _) hlt _ _⟩
  by_cases h5 : s = 5
  · subst h5
    go_enter Try.func32, Try.ntmps32
    go_wp2_with fail
    refine (formOf_any 5 _).mono ?_
    rintro e w0 ⟨rfl, rfl⟩
    go_wp2_with fail
    refine (odd_four _).mono ?_
    rintro e w1 ⟨v1, v2, rfl, hT⟩
    obtain ⟨x1, y1, rfl⟩ := own_slx hT.o1
    obtain ⟨x2, y2, rfl⟩ := own_slx hT.o2
    simp only [List.length_cons, List.length_nil, Nat.zero_add, Nat.reduceAdd] at hT ⊢
    have hS1 := hS.belo hT.bel
    have c0 := hS1.c0
    have c1 := hS1.c1
    have cf := hS1.fz
    have hS2 := (hS1.set0 (.slice x1 0 y1)).set1 (.slice x2 3 y2)
    have d0 := hS2.c0
    have d1 := hS2.c1
    go_wp2_with fail
    exact bodyPost_ret (v := .tuple #[.agg #[.slice x1 0 y1, .slice x2 3 y2], .bool true]) (by simp [results, Try.results32, go_sem, d0, d1]) rfl ⟨_, _, rfl, hT.box hb (Nat.le_refl _) hlt _ _⟩
  by_cases h6 : s = 6
  · subst h6
    go_enter Try.func32, Try.ntmps32
    go_wp2_with fail
    refine (formOf_any 6 _).mono ?_
    rintro e w0 ⟨rfl, rfl⟩
    go_wp2_with fail
    refine (odd_wait _).mono ?_
    rintro e w1 ⟨v1, v2, rfl, hT⟩
    obtain ⟨x1, y1, rfl⟩ := own_slx hT.o1
    obtain ⟨x2, y2, rfl⟩ := own_slx hT.o2
    simp only [List.length_cons, List.length_nil, Nat.zero_add, Nat.reduceAdd] at hT ⊢
    have hS1 := hS.belo hT.bel
    have c0 := hS1.c0
    have c1 := hS1.c1
    have cf := hS1.fz
    have hS2 := (hS1.set0 (.slice x1 2 y1)).set1 (.slice x2 3 y2)
    have d0 := hS2.c0
    have d1 := hS2.c1
    go_wp2_with fail
    exact bodyPost_ret (v := .tuple #[.agg #[.slice x1 2 y1, .slice x2 3 y2], .bool true]) (by simp [results, Try.results32, go_sem, d0, d1]) rfl ⟨_, _, rfl, hT.box hb (Nat.le_refl _) hlt _ _⟩
  have hno : (decide (1 ≤ s) && decide (s ≤ 6)) = false := by simp; omega
  have e1 : M.oddOk s = false := hno
  have e2 : M.oddR s = [] := by simp [M.oddR, h1, h2, h3, h4, h6]
  have e3 : M.oddL s = [] := by simp [M.oddL, h1, h2, h3, h4, h5, h6]
  have CF : ∀ W, Calls Try.prog 63 #[.int .i64 s] W fun e w' => ∃ fv, e = .returned (.tuple #[fv, .bool false]) ∧ w' = W := fun W => by have C := formOf_any s W; rw [hno] at C; exact C.mono fun _ _ ⟨a, b⟩ => ⟨_, a, b⟩
  rw [e1, e2, e3]
  go_enter Try.func32, Try.ntmps32
  go_wp2_with fail
  refine (CF _).mono ?_
  rintro e w0 ⟨fv, rfl, rfl⟩
  go_wp2_with fail
  go_returns
  exact ⟨_, _, rfl, ts_none hb⟩

set_option maxHeartbeats 1000000 in
set_option maxRecDepth 100000 in
theorem sodd_any (s : Int) (w : World) :
    Calls Try.prog 31 #[.int .i64 s] w fun e w' => ∃ v1 v2, e = .returned (.tuple #[.agg #[v1, v2], .bool (M.oddOk s)]) ∧ TsAns w w' v1 v2 (M.oddR s) (M.oddL s) := by
  by_cases h1 : s = 1
  · subst h1
    have T := ts_lit (w := w) [0, 0] [1, 1, 0] (c1 := #[.int .i64 0, .int .i64 0]) (c2 := #[.int .i64 1, .int .i64 1, .int .i64 0]) (below1 w (.cells #[.slice (some ⟨w.heap.size + 1, 0, none⟩) 2 2, .slice (some ⟨w.heap.size + 1 + 1, 0, none⟩) 3 3] 28)) rfl rfl (by simp) (by simp)
    simp only [World.size_alloc] at T
    go_enter Try.func31, Try.ntmps31
    go_wp2_with fail
    go_returns
    exact ⟨_, _, rfl, T⟩
  have h1' : (s == 1) = false := by simpa using h1
  by_cases h2 : s = 2
  · subst h2
    have T := ts_lit (w := w) [1, 0] [1, 1, 0] (c1 := #[.int .i64 1, .int .i64 0]) (c2 := #[.int .i64 1, .int .i64 1, .int .i64 0]) (below1 w (.cells #[.slice (some ⟨w.heap.size + 1, 0, none⟩) 2 2, .slice (some ⟨w.heap.size + 1 + 1, 0, none⟩) 3 3] 28)) rfl rfl (by simp) (by simp)
    simp only [World.size_alloc] at T
    go_enter Try.func31, Try.ntmps31
    go_wp2_with fail
    go_returns
    exact ⟨_, _, rfl, T⟩
  have h2' : (s == 2) = false := by simpa using h2
  by_cases h3 : s = 3
  · subst h3
    have T := ts_lit (w := w) [1, 1] [1, 1, 0] (c1 := #[.int .i64 1, .int .i64 1]) (c2 := #[.int .i64 1, .int .i64 1, .int .i64 0]) (below1 w (.cells #[.slice (some ⟨w.heap.size + 1, 0, none⟩) 2 2, .slice (some ⟨w.heap.size + 1 + 1, 0, none⟩) 3 3] 28)) rfl rfl (by simp) (by simp)
    simp only [World.size_alloc] at T
    go_enter Try.func31, Try.ntmps31
    go_wp2_with fail
    go_returns
    exact ⟨_, _, rfl, T⟩
  have h3' : (s == 3) = false := by simpa using h3
  by_cases h4 : s = 4
  · subst h4
    have T := ts_lit (w := w) [1, 0] [1, 0, 0] (c1 := #[.int .i64 1, .int .i64 0]) (c2 := #[.int .i64 1, .int .i64 0, .int .i64 0]) (below1 w (.cells #[.slice (some ⟨w.heap.size + 1, 0, none⟩) 2 2, .slice (some ⟨w.heap.size + 1 + 1, 0, none⟩) 3 3] 28)) rfl rfl (by simp) (by simp)
    simp only [World.size_alloc] at T
    go_enter Try.func31, Try.ntmps31
    go_wp2_with fail
    go_returns
    exact ⟨_, _, rfl, T⟩
  have h4' : (s == 4) = false := by simpa using h4
  by_cases h5 : s = 5
  · subst h5
    have T := ts_lit (w := w) [] [2, 2, 0] (c1 := #[]) (c2 := #[.int .i64 2, .int .i64 2, .int .i64 0]) (below1 w (.cells #[.slice (some ⟨w.heap.size + 1, 0, none⟩) 0 0, .slice (some ⟨w.heap.size + 1 + 1, 0, none⟩) 3 3] 28)) rfl rfl (by simp) (by simp)
    simp only [World.size_alloc] at T
    go_enter Try.func31, Try.ntmps31
    go_wp2_with fail
    go_returns
    exact ⟨_, _, rfl, T⟩
  have h5' : (s == 5) = false := by simpa using h5
  by_cases h6 : s = 6
  · subst h6
    have T := ts_lit (w := w) [1, 0] [1, 1, 0] (c1 := #[.int .i64 1, .int .i64 0]) (c2 := #[.int .i64 1, .int .i64 1, .int .i64 0]) (below1 w (.cells #[.slice (some ⟨w.heap.size + 1, 0, none⟩) 2 2, .slice (some ⟨w.heap.size + 1 + 1, 0, none⟩) 3 3] 28)) rfl rfl (by simp) (by simp)
    simp only [World.size_alloc] at T
    go_enter Try.func31, Try.ntmps31
    go_wp2_with fail
    go_returns
    exact ⟨_, _, rfl, T⟩
  have h6' : (s == 6) = false := by simpa using h6
  have hno : (decide (1 ≤ s) && decide (s ≤ 6)) = false := by simp; omega
  have e1 : M.oddOk s = false := hno
  have e2 : M.oddR s = [] := by simp [M.oddR, h1, h2, h3, h4, h6]
  have e3 : M.oddL s = [] := by simp [M.oddL, h1, h2, h3, h4, h5, h6]
  rw [e1, e2, e3]
  go_enter Try.func31, Try.ntmps31
  go_wp2_with fail
  go_returns
  exact ⟨_, _, rfl, ts_none (below1 w _)⟩

end Go.Proofs.Ytnaljfnijcoheaa

namespace Go.Proofs.Ytnaljfnijcoheaa
open Go.RowKit

theorem Sn.At.mkFar' {P : Nat → Prop} {w w' : World} {s : Sn} (h : s.At w) (hm : Mk P w w') (hP : ∀ j, P j → ¬ s.blk j) : s.At w' :=
  ⟨h.reads.mkFar hm (fun hl hp => hP _ hp (Or.inl ⟨hl, rfl⟩)), h.last.mkFar hm (fun hl hp => hP _ hp (Or.inr ⟨hl, rfl⟩))⟩
theorem BxT.mk' {P : Nat → Prop} {W W' : World} {X : Nat} {s : Sn} (h : BxT W X s) (hm : Mk P W W') (hP : ∀ j, P j → ¬ s.blk j) : BxT W' X s := ⟨hm.rest _ _ h.c0 (fun _ e => by cases e), hm.rest _ _ h.c1 (fun _ e => by cases e), h.at_.mkFar' hm hP⟩
theorem M.odd_small (s : Int) : (M.oddR s).length ≤ 3 ∧ (M.oddL s).length ≤ 3 := by
  unfold M.oddR M.oddL
  constructor
  · repeat' split
    all_goals simp
  · repeat' split
    all_goals simp

set_option maxHeartbeats 2000000 in
set_option maxRecDepth 100000 in
theorem lawOd_any (s : Int) (w : World) :
    Calls Try.prog 6 #[.int .i64 s] w fun e w' => e = .returned (.bool true) ∧ Below w.heap.size w w' := by
  have CS := sodd_any s w
  have CI := fun W => iodd_any s W
  obtain ⟨hR3, hL3⟩ := M.odd_small s
  generalize M.oddR s = r1 at *
  generalize M.oddL s = r2 at *
  generalize M.oddOk s = ok at *
  go_enter Try.func6, Try.ntmps6
  go_wp2_with fail
  refine CS.mono ?_
  rintro e w1 ⟨v1, v2, rfl, hA⟩
  have b1 := hA.bel
  obtain ⟨t, rfl, rfl, HT0, hN⟩ := hA.sn
  have HT' : Hid (t.l1 = r1 ∧ t.l2 = r2) := HT0
  have xT := BxT.new hN.at_
  have bwA := b1.alloc b1.size (.cells #[.slice t.a1 t.l1.length t.c1, .slice t.a2 t.l2.length t.c2] 28)
  clear hA CS b1 hN HT0
  go_wp2_with fail
  generalize w1.alloc (.cells #[.slice t.a1 t.l1.length t.c1, .slice t.a2 t.l2.length t.c2] 28) = WA at *
  generalize w1.heap.size = A at *
  refine (CI WA).mono ?_
  rintro e w2 ⟨v1, v2, rfl, hA⟩
  have b2 := hA.bel
  obtain ⟨g, rfl, rfl, HG, hN⟩ := hA.sn
  have hgl : g.Le 1048576 := ⟨by rw [HG.1]; omega, by rw [HG.2]; omega⟩
  have HE : Hid (t.l1 = g.l1 ∧ t.l2 = g.l2) := ⟨HT'.out.1.trans HG.1.symm, HT'.out.2.trans HG.2.symm⟩
  have HG' : Hid (g.l1 = r1 ∧ g.l2 = r2) := HG
  have bB := below1 w2 (.cells #[.slice g.a1 g.l1.length g.c1, .slice g.a2 g.l2.length g.c2] 28)
  have xG := BxT.new hN.at_
  have oG := hN.own.below hN.at_ bB
  have bAB := b2.trans (bB.mono b2.size)
  have xTB := xT.below bAB
  have gA : ∀ j, g.blk j → WA.heap.size ≤ j := fun j hj => by
    have h1 := hN.ge1
    have h2 := hN.ge2
    rcases hj with ⟨_, e⟩ | ⟨_, e⟩ <;> omega
  have gB : ∀ j, g.blk j → j < w2.heap.size := fun j hj => Sn.blk_lt hN.at_ hj
  have tA : ∀ j, t.blk j → j < WA.heap.size := fun j hj => Sn.blk_lt xT.at_ hj
  have bwB := bwA.trans (bAB.mono bwA.size)
  have hwA := bwA.size
  clear hA b2 hN bB bAB xT HG
  have c0 := xG.c0
  have c1 := xG.c1
  have d0 := xTB.c0
  have d1 := xTB.c1
  go_wp2_with fail
  generalize w2.alloc (.cells #[.slice g.a1 g.l1.length g.c1, .slice g.a2 g.l2.length g.c2] 28) = WB at *
  generalize w2.heap.size = B at *
  refine (eqSeen_bel g t WB hgl HE.out.1 HE.out.2 xG.at_ xTB.at_).mono ?_
  rintro e W3 ⟨rfl, b3⟩
  have x3 := xG.below b3
  have y3 := xTB.below b3
  have o3 := oG.below xG.at_ b3
  have bw3 := bwB.trans (b3.mono bwB.size)
  clear c0 c1 d0 d1 xG xTB oG b3 bwB
  have c0 := x3.c0
  have c1 := x3.c1
  go_wp2_with fail
  refine (markSeen_any g W3 hgl o3.ne ⟨x3.at_.reads.toC (fun hl => o3.fz _ (Or.inl ⟨hl, rfl⟩)), x3.at_.last.toC (fun hl => o3.fz _ (Or.inr ⟨hl, rfl⟩))⟩).mono ?_
  rintro e W4 ⟨wc, rfl, rfl, mk4, hm4⟩
  have ba := below1 W3 (.cells #[.slice g.a1 g.l1.length g.c1, .slice g.a2 g.l2.length g.c2] 28)
  have y4 := (y3.below ba).mk' mk4 (fun j hj hb => by have := gA j hj; have := tA j hb; omega)
  have e0 := mk4.rest _ _ (cb ba x3.c0) (fun _ e => by cases e)
  have e1 := mk4.rest _ _ (cb ba x3.c1) (fun _ e => by cases e)
  have bw4 : Below w.heap.size w W4 := mk4.below (bw3.trans (ba.mono bw3.size)) (fun j hj => by have := gA j hj; omega)
  clear c0 c1 x3 y3 o3 ba bw3 mk4
  go_wp2_with fail
  refine (heldSeen_any g W4 hgl hm4).mono ?_
  rintro e W5 ⟨rfl, rfl⟩
  have ba := below1 W4 (.cells #[.slice g.a1 g.l1.length g.c1, .slice g.a2 g.l2.length g.c2] 28)
  have y5 := y4.below ba
  have hm5 := hm4.below ba
  have f0 := cb ba e0
  have f1 := cb ba e1
  have bw5 := bw4.trans (ba.mono bw4.size)
  clear y4 hm4 e0 e1 bw4 ba
  generalize W4.alloc (.cells #[.slice g.a1 g.l1.length g.c1, .slice g.a2 g.l2.length g.c2] 28) = W5 at *
  have q1 : ¬ ((1 : Int) + g.l1.length + g.l2.length < 0) := by omega
  have q1' : decide ((1 : Int) + g.l1.length + g.l2.length < 0) = false := by simpa using q1
  go_wp2_with fail
  refine (CI W5).mono ?_
  rintro e w6 ⟨v1, v2, rfl, hA⟩
  have b6 := hA.bel
  obtain ⟨u, rfl, rfl, HU, hN⟩ := hA.sn
  have HF : Hid (t.l1 = u.l1 ∧ t.l2 = u.l2) := ⟨HT'.out.1.trans HU.1.symm, HT'.out.2.trans HU.2.symm⟩
  have hul : u.Le 1048576 := ⟨by rw [HU.1]; omega, by rw [HU.2]; omega⟩
  have bB := below1 w6 (.cells #[.slice u.a1 u.l1.length u.c1, .slice u.a2 u.l2.length u.c2] 28)
  have b6' := b6.trans (bB.mono b6.size)
  have xU := BxT.new hN.at_
  have y6 := y5.below b6'
  have hm6 := hm5.below b6'
  have g0 := cb b6' f0
  have g1 := cb b6' f1
  have bw6 := bw5.trans (b6'.mono bw5.size)
  clear hA b6 hN bB b6' y5 hm5 f0 f1 bw5 HU
  have c0 := xU.c0
  have c1 := xU.c1
  have d0 := y6.c0
  have d1 := y6.c1
  go_wp2_with fail
  generalize w6.alloc (.cells #[.slice u.a1 u.l1.length u.c1, .slice u.a2 u.l2.length u.c2] 28) = W6 at *
  generalize w6.heap.size = U at *
  refine (eqSeen_bel u t W6 hul HF.out.1 HF.out.2 xU.at_ y6.at_).mono ?_
  rintro e W7 ⟨rfl, b7⟩
  have hm7 := hm6.below b7
  have f0 := cb b7 g0
  have f1 := cb b7 g1
  have bw7 := bw6.trans (b7.mono bw6.size)
  clear c0 c1 d0 d1 g0 g1 hm6 b7 bw6 xU y6
  go_wp2_with fail
  refine (heldSeen_any g W7 hgl hm7).mono ?_
  rintro e W8 ⟨rfl, rfl⟩
  have bw8 := bw7.alloc bw7.size (.cells #[.slice g.a1 g.l1.length g.c1, .slice g.a2 g.l2.length g.c2] 28)
  go_wp2_with fail
  go_ret
  exact ⟨rfl, bw8⟩

end Go.Proofs.Ytnaljfnijcoheaa
