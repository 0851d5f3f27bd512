/- The law's own marking of numbers, and whether marks still stand: laws.markIntS, heldIntS. Of lists of at most 1048576 numbers. The law's own sizing, copying and comparing of numbers: laws.szIntS, toIntS, eqIntS. Of lists of at most 1048576 numbers (sizing: of at most 9223372036854775807). The law's own sizing, copying and comparing of what was seen: laws.szSeen, toSeen, eqSeen. Of lists of at most 1048576 numbers (sizing: of at most 9223372036854775807). The law's own marking of what was seen, from any number on, and whether the marks still stand: laws.markSeen, heldSeen; eqSeen. Of at most 1048576 numbers in each of its two lists. What both TurnSeen answer, as one said thing of what was seen, laid anew; and what stands through the law's calls. Of programs of at most 1048576 threads and steps of a thread, of as many numbers. What was seen, turned, and turned back, plainly: it is as it was, and may be seen of the turned program. No condition. -/
import Derived.Test.YtjdpoemlcchfcaaSnFar
import Derived.Test.YtjdpoemlcchfcaaSnMem
import Derived.Deep.QuietTactic
import Derived.BigQuiet
import Derived.Deep.OwnRows
import Derived.Test.YtjdpoemlcchfcaaSnSee
import Derived.Test.YtjdpoemlcchfcaaBnTza
import Derived.Test.YtjdpoemlcchfcaaTnFact

namespace Go.Proofs.Ytjdpoemlcchfcaa
open Go.RowKit

/-- Of blocks that meet P numbers alone have turned. -/
structure Mk (P : Nat → Prop) (w w' : World) : Prop where
  os : w'.os = w.os
  tape : w'.tape = w.tape
  output : w'.output = w.output
  size : w'.heap.size = w.heap.size
  ints : ∀ p x, w.cell? p = some (.int .i64 x) → ∃ y, w'.cell? p = some (.int .i64 y)
  rest : ∀ p v, w.cell? p = some v → (∀ x, v ≠ .int .i64 x) → w'.cell? p = some v
  fz : ∀ p, w'.frozen? p = w.frozen? p
  block : ∀ k, ¬ P k → w'.heap[k]? = w.heap[k]?
theorem Mk.refl (P : Nat → Prop) (w : World) : Mk P w w := ⟨rfl, rfl, rfl, rfl, fun _ x h => ⟨x, h⟩, fun _ _ h _ => h, fun _ => rfl, fun _ _ => rfl⟩
theorem Mk.trans {P : Nat → Prop} {a b c : World} (h : Mk P a b) (k : Mk P b c) : Mk P a c :=
  ⟨k.os.trans h.os, k.tape.trans h.tape, k.output.trans h.output, k.size.trans h.size, fun p x hx => (let ⟨y, hy⟩ := h.ints p x hx; k.ints p y hy), fun p v hv hn => k.rest p v (h.rest p v hv hn) hn, fun p => (k.fz p).trans (h.fz p), fun i hi => (k.block i hi).trans (h.block i hi)⟩
theorem Mk.mono {P Q : Nat → Prop} {a b : World} (h : Mk P a b) (hPQ : ∀ k, P k → Q k) : Mk Q a b := ⟨h.os, h.tape, h.output, h.size, h.ints, h.rest, h.fz, fun i hi => h.block i (fun hp => hi (hPQ i hp))⟩
theorem Mk.setCell {P : Nat → Prop} {a w : World} (h : Mk P a w) {b i : Nat} {x y : Int} (hb : P b) (hx : w.cell? ⟨b, i, none⟩ = some (.int .i64 x)) : Mk P a (w.setCell ⟨b, i, none⟩ (.int .i64 y)) := by
  refine h.trans ⟨rfl, rfl, rfl, by simp [World.setCell], fun p z hz => ?_, fun p v hv hn => ?_, fun p => World.frozen?_setCell _ _ _ _, fun k hk => Below.heap_setCell _ _ _ _ (fun e => hk (by have e' : k = b := e; rw [e']; exact hb))⟩
  · by_cases e : p = ⟨b, i, none⟩
    · subst e; exact ⟨y, World.cell?_setCell_same _ _ _ hx⟩
    · exact ⟨z, by rw [World.cell?_setCell_other _ _ _ _ (fun h => e h.symm)]; exact hz⟩
  · by_cases e : p = ⟨b, i, none⟩
    · subst e; rw [hx] at hv; exact absurd (Option.some.inj hv).symm (hn x)
    · rw [World.cell?_setCell_other _ _ _ _ (fun h => e h.symm)]; exact hv
theorem Mk.cell {P : Nat → Prop} {w w' : World} (h : Mk P w w') {p : Addr} (hp : ¬ P p.block) : w'.cell? p = w.cell? p := World.cell?_of_block (w := w) (h.block p.block hp)
theorem Mk.below {P : Nat → Prop} {B : Nat} {w w1 w' : World} (h : Below B w w1) (k : Mk P w1 w') (hr : ∀ j, P j → B ≤ j) : Below B w w' :=
  ⟨k.os.trans h.os, k.tape.trans h.tape, k.output.trans h.output, by rw [k.size]; exact h.size, fun i hi => (k.block i (fun hp => by have := hr i hp; omega)).trans (h.block i hi)⟩

/-- A value is a slice of so many numbers, whichever, that may be written. -/
structure IntC (w : World) (a : Option Addr) (b o n : Nat) : Prop where
  addr : 0 < n → a = some ⟨b, o, none⟩
  row : ∀ i, i < n → ∃ x, w.cell? ⟨b, o + i, none⟩ = some (.int .i64 x)
  fz : 0 < n → ∀ j, w.frozen? ⟨b, j, none⟩ = false
theorem IntC.mk_ {P : Nat → Prop} {w w' : World} {a : Option Addr} {b o n : Nat} (h : IntC w a b o n) (hm : Mk P w w') : IntC w' a b o n :=
  ⟨h.addr, fun i hi => (let ⟨x, hx⟩ := h.row i hi; hm.ints _ x hx), fun hn j => (hm.fz _).trans (h.fz hn j)⟩
theorem IntS.toC {w : World} {a : Option Addr} {b o : Nat} {l : List Int} (h : IntS w a b o l) (fz : 0 < l.length → ∀ j, w.frozen? ⟨b, j, none⟩ = false) : IntC w a b o l.length :=
  ⟨h.addr, fun i hi => ⟨_, h.row i hi⟩, fz⟩

namespace M
/-- So many numbers from one on. -/
def seq (k : Int) (n : Nat) : List Int := (List.range n).map fun (i : Nat) => k + (i : Int)
theorem seq_len (k : Int) (n : Nat) : (seq k n).length = n := by simp [seq]
theorem seq_get (k : Int) (n i : Nat) (h : i < (seq k n).length) : (seq k n)[i] = k + i := by simp [seq]
end M

set_option maxHeartbeats 400000 in
theorem markIntS_any (a : Option Addr) (b o n c : Nat) (k : Int) (w : World) (hn : n ≤ 1048576) (hk : 0 ≤ k) (hk2 : k ≤ 4611686018427387904) (h : IntC w a b o n) :
    Calls Try.prog 22 #[.slice a n c, .int .i64 k] w fun e w' => e = .returned (.int .i64 (k + n)) ∧ IntS w' a b o (M.seq k n) ∧ Mk (fun j => j = b ∧ 0 < n) w w' := by
  go_enter Try.func22, Try.ntmps22
  go_wp2_with fail
  go_loopw [1, 5] (fun s1 s5 wr => ∃ m : Nat, s1 = .int .i64 (k + m) ∧ s5 = .int .i64 m ∧ m ≤ n ∧ (∀ i, i < m → wr.cell? ⟨b, o + i, none⟩ = some (.int .i64 (k + i))) ∧ Mk (fun j => j = b ∧ 0 < n) w wr) (fun _ s5 _ => n - (intOf s5).toNat)
  case atStart => exact ⟨0, by simp, rfl, Nat.zero_le _, fun i hi => absurd hi (Nat.not_lt_zero _), Mk.refl _ _⟩
  case round =>
    obtain ⟨m, rfl, rfl, hm, hdone, hmk⟩ := hrel
    by_cases hlt : m < n
    · obtain ⟨rfl⟩ := h.addr (by omega)
      obtain ⟨x, hx⟩ := (h.mk_ hmk).row m hlt
      have fz := (h.mk_ hmk).fz (by omega)
      have i1 : (m : Int) < n := by omega
      have HD : Hid (∀ i, i < m → wr.cell? ⟨b, o + i, none⟩ = some (.int .i64 (k + i))) := hdone
      clear hdone
      go_wp2_with fail
      refine ⟨⟨m + 1, ?_, by go_num, by omega, fun i hi => ?_, hmk.setCell ⟨rfl, by omega⟩ hx⟩, by simp [intOf]; omega⟩
      · rw [Int.natCast_add, ← Int.add_assoc]; rfl
      · by_cases e : i = m
        · subst e; exact World.cell?_setCell_same _ _ _ hx
        · rw [World.cell?_setCell_other _ _ _ _ (fun h => e (by have := congrArg Addr.off h; simp at this; omega))]
          exact HD.out i (by omega)
    · obtain rfl : m = n := by omega
      go_wp2_with fail
      go_ret
      exact ⟨rfl, ⟨fun hl => h.addr (by rw [M.seq_len] at hl; exact hl), fun i hi => by rw [M.seq_get]; exact hdone i (by rw [M.seq_len] at hi; exact hi)⟩, hmk⟩

set_option maxHeartbeats 400000 in
theorem heldIntS_any (a : Option Addr) (b o n c : Nat) (k : Int) (w : World) (hn : n ≤ 1048576) (hk : 0 ≤ k) (hk2 : k ≤ 4611686018427387904) (h : IntS w a b o (M.seq k n)) :
    Calls Try.prog 46 #[.slice a n c, .int .i64 k] w fun e w' => e = .returned (.int .i64 (k + n)) ∧ w' = w := by
  go_enter Try.func46, Try.ntmps46
  go_wp2_with fail
  go_loopw [1, 5] (fun s1 s5 wr => ∃ m : Nat, s1 = .int .i64 (k + m) ∧ s5 = .int .i64 m ∧ m ≤ n ∧ wr = w) (fun _ s5 _ => n - (intOf s5).toNat)
  case atStart => exact ⟨0, by simp, rfl, Nat.zero_le _, rfl⟩
  case round =>
    obtain ⟨m, rfl, rfl, hm, rfl⟩ := hrel
    by_cases hlt : m < n
    · obtain ⟨rfl⟩ := h.addr (by rw [M.seq_len]; omega)
      have hx := h.row m (by rw [M.seq_len]; exact hlt)
      rw [M.seq_get] at hx
      have i1 : (m : Int) < n := by omega
      go_wp2_with fail
      exact ⟨⟨m + 1, by rw [Int.natCast_add, ← Int.add_assoc]; rfl, by go_num, by omega, trivial⟩, by simp [intOf]; omega⟩
    · obtain rfl : m = n := by omega
      go_wp2_with fail
      go_ret
      exact ⟨rfl, rfl⟩

end Go.Proofs.Ytjdpoemlcchfcaa

namespace Go.Proofs.Ytjdpoemlcchfcaa
open Go.RowKit

set_option maxHeartbeats 400000 in
theorem szIntS_any (a : Option Addr) (n c : Nat) (left : Int) (w : World) (h0 : 0 ≤ left) (h1 : left ≤ 1048576) (hn : n ≤ 9223372036854775807) :
    Calls Try.prog 42 #[.slice a n c, .int .i64 left] w fun e w' => ∃ r : Int, e = .returned (.int .i64 r) ∧ w' = w ∧ r ≤ 1048576 ∧ (r < 0 ∨ (0 ≤ r ∧ n ≤ 1048576)) := by
  by_cases hs : left - n < 0
  · go_enter Try.func42, Try.ntmps42
    go_wp2_with fail
    go_ret
    exact ⟨-1, rfl, rfl, by omega, Or.inl (by omega)⟩
  · go_enter Try.func42, Try.ntmps42
    go_wp2_with fail
    go_ret
    exact ⟨left - n, rfl, rfl, by omega, Or.inr ⟨by omega, by omega⟩⟩

theorem Try.info3 : (Try.prog.info? 3).map (fun i => (i.zero, i.size, i.bytes)) = some (some (.int .i64 0), 1, 8) := by kernel_rfl

/-- The first n numbers are copied. -/
structure PartI (w wr : World) (l : List Int) (n : Nat) : Prop where
  bel : Below w.heap.size w wr
  own : ∃ f, wr.rowIs w.heap.size 3 l.length f
  done : ∀ q (_ : q < n) (h : q < l.length), wr.cell? ⟨w.heap.size, q, none⟩ = some (.int .i64 l[q])

theorem partI_step {w wr : World} {l : List Int} {n : Nat} {x : Int} (hp : PartI w wr l n) (hlt : n < l.length) (hd : l[n] = x) : PartI w (wr.setCell ⟨w.heap.size, n, none⟩ (.int .i64 x)) l (n + 1) := by
  obtain ⟨f, hf⟩ := hp.own
  have hr := hf.set n (.int .i64 x)
  refine ⟨hp.bel.setCell (Nat.le_refl _) _, ⟨_, hr⟩, fun q hq hql => ?_⟩
  by_cases e : q = n
  · subst e
    rw [hd, hr.cell hql]; simp
  · rw [World.cell?_setCell_other _ _ _ _ (fun e' => e (by have := congrArg Addr.off e'; simp at this; omega))]
    exact hp.done q (by omega) hql

set_option maxHeartbeats 400000 in
theorem toIntS_any (a : Option Addr) (b o c : Nat) (l : List Int) (w : World) (hl : l.length ≤ 1048576) (h : IntS w a b o l) :
    Calls Try.prog 16 #[.slice a l.length c] w fun e w' => e = .returned (.slice (some ⟨w.heap.size, 0, none⟩) l.length l.length) ∧ IntS w' (some ⟨w.heap.size, 0, none⟩) w.heap.size 0 l ∧ (∃ f, w'.rowIs w.heap.size 3 l.length f) ∧ Below w.heap.size w w' := by
  have hmk := run_make_row' (P := Try.prog) 26 3 (.int .i64 0) 8 Try.underlying26 Try.info3 rfl .i64 .i64 l.length (by omega) (by omega)
  go_enter Try.func16, Try.ntmps16
  go_wp2_with fail
  clear hmk
  go_loopw [4] (fun s4 wr => ∃ n : Nat, s4 = .int .i64 n ∧ n ≤ l.length ∧ PartI w wr l n) (fun s4 _ => l.length - (intOf s4).toNat)
  case atStart => exact ⟨0, rfl, Nat.zero_le _, ⟨below1 _ _, ⟨_, World.rowIs_made w (.int .i64 0) l.length 3⟩, fun _ hq _ => absurd hq (Nat.not_lt_zero _)⟩⟩
  case round =>
    obtain ⟨n, rfl, hn, hpart⟩ := hrel
    by_cases hlt : n < l.length
    · obtain ⟨rfl⟩ := h.addr (by omega)
      have hc := (h.below hpart.bel (Nat.le_refl _)).row n hlt
      generalize hln : l[n] = x at hc
      have HL : Hid (l[n] = x) := hln
      clear hln
      obtain ⟨f, hf⟩ := hpart.own
      have c0 := hf.cell hlt
      have f0 := hf.frozen
      go_wp2_with fail
      exact ⟨⟨n + 1, by go_num, by omega, partI_step hpart hlt HL.out⟩, by simp [intOf]; omega⟩
    · go_wp2_with fail
      go_ret
      exact ⟨rfl, ⟨fun _ => rfl, fun i hi => by rw [Nat.zero_add]; exact hpart.done i (by omega) hi⟩, hpart.own, hpart.bel⟩

theorem IntS.other {w : World} {a : Option Addr} {b o B i : Nat} {l : List Int} {u : Value} (h : IntS w a b o l) (hb : b ≠ B) : IntS (w.setCell ⟨B, i, none⟩ u) a b o l :=
  ⟨h.addr, fun j hj => by rw [World.cell?_setCell_other _ _ _ _ (fun e => hb (congrArg Addr.block e).symm)]; exact h.row j hj⟩

set_option maxHeartbeats 400000 in
theorem eqIntS_same (a : Option Addr) (b o c : Nat) (a2 : Option Addr) (b2 o2 c2 : Nat) (l : List Int) (w : World) (hl : l.length ≤ 1048576) (h : IntS w a b o l) (h2 : IntS w a2 b2 o2 l) :
    Calls Try.prog 19 #[.slice a l.length c, .slice a2 l.length c2] w fun e w' => e = .returned (.bool true) ∧ Grown w w' := by
  go_enter Try.func19, Try.ntmps19
  go_wp2_with fail
  go_loopw [5] (fun s5 wr => ∃ n : Nat, s5 = .int .i64 n ∧ n ≤ l.length ∧ Grown w wr) (fun s5 _ => l.length - (intOf s5).toNat)
  case atStart => exact ⟨0, rfl, Nat.zero_le _, Grown.refl _⟩
  case round =>
    obtain ⟨n, rfl, hn, hg⟩ := hrel
    by_cases hlt : n < l.length
    · obtain ⟨rfl⟩ := h.addr (by omega)
      obtain ⟨rfl⟩ := h2.addr (by omega)
      have hd := (h.below hg.bel (Nat.le_refl _)).row n hlt
      have hd2 := (h2.below hg.bel (Nat.le_refl _)).row n hlt
      generalize l[n] = x at hd hd2
      have i1 : (n : Int) < l.length := by omega
      go_wp2_with fail
      go_quiet (fail)
      go_wp2_with fail
      exact ⟨⟨n + 1, by go_num, by omega, hg.drewN _⟩, by simp [intOf]; omega⟩
    · go_wp2_with fail
      go_ret
      exact ⟨rfl, hg⟩

end Go.Proofs.Ytjdpoemlcchfcaa

namespace Go.Proofs.Ytjdpoemlcchfcaa
open Go.RowKit

set_option maxHeartbeats 400000 in
theorem szSeen_any (s : Sn) (left : Int) (w : World) (h0 : 0 ≤ left) (h1 : left ≤ 1048576) (hl : s.Le 9223372036854775807) :
    Calls Try.prog 13 #[.agg #[.slice s.a1 s.l1.length s.c1, .slice s.a2 s.l2.length s.c2], .int .i64 left] w fun e w' => ∃ r : Int, e = .returned (.int .i64 r) ∧ w' = w.alloc (.cells #[.slice s.a1 s.l1.length s.c1, .slice s.a2 s.l2.length s.c2] 42) ∧ r ≤ 1048576 ∧ (r < 0 ∨ (0 ≤ r ∧ s.Le 1048576)) := by
  obtain ⟨a1, b1, o1, c1, l1, a2, b2, o2, c2, l2⟩ := s
  obtain ⟨hl1, hl2⟩ := hl
  simp only at hl1 hl2
  go_enter Try.func13, Try.ntmps13
  go_wp2_with fail
  refine (szIntS_any _ _ _ _ _ h0 h1 hl1).mono ?_
  rintro e w1 ⟨r1, rfl, rfl, hr1, hor1⟩
  by_cases hn1 : r1 < 0
  · go_wp2_with fail
    go_ret
    exact ⟨-1, rfl, rfl, by omega, Or.inl (by omega)⟩
  · go_wp2_with fail
    refine (szIntS_any _ _ _ _ _ (by omega) hr1 hl2).mono ?_
    rintro e w2 ⟨r2, rfl, rfl, hr2, hor2⟩
    by_cases hn2 : r2 < 0
    · go_wp2_with fail
      go_ret
      exact ⟨-1, rfl, rfl, by omega, Or.inl (by omega)⟩
    · go_wp2_with fail
      go_ret
      exact ⟨r2, rfl, rfl, hr2, Or.inr ⟨by omega, ⟨by show l1.length ≤ _; omega, by show l2.length ≤ _; omega⟩⟩⟩

/-- What was seen, laid anew: each list a block of its own, all of it. -/
structure NewSn (w : World) (B g1 g2 : Nat) (l1 l2 : List Int) : Prop where
  ge : B ≤ g1
  lt : g1 < g2
  reads : IntS w (some ⟨g1, 0, none⟩) g1 0 l1
  last : IntS w (some ⟨g2, 0, none⟩) g2 0 l2
  own1 : ∃ f, w.rowIs g1 3 l1.length f
  own2 : ∃ f, w.rowIs g2 3 l2.length f

/-- The value that it is. -/
def newSn (g1 g2 : Nat) (l1 l2 : List Int) : Sn := ⟨some ⟨g1, 0, none⟩, g1, 0, l1.length, l1, some ⟨g2, 0, none⟩, g2, 0, l2.length, l2⟩
theorem NewSn.at {w : World} {B g1 g2 : Nat} {l1 l2 : List Int} (h : NewSn w B g1 g2 l1 l2) : (newSn g1 g2 l1 l2).At w := ⟨h.reads, h.last⟩
theorem NewSn.mono {w : World} {B B' g1 g2 : Nat} {l1 l2 : List Int} (h : NewSn w B g1 g2 l1 l2) (hB : B' ≤ B) : NewSn w B' g1 g2 l1 l2 := ⟨Nat.le_trans hB h.ge, h.lt, h.reads, h.last, h.own1, h.own2⟩
theorem NewSn.below {w w' : World} {B C g1 g2 : Nat} {l1 l2 : List Int} (h : NewSn w B g1 g2 l1 l2) (hb : Below C w w') (hC : w.heap.size ≤ C) : NewSn w' B g1 g2 l1 l2 := by
  obtain ⟨f1, h1⟩ := h.own1
  obtain ⟨f2, h2⟩ := h.own2
  exact ⟨h.ge, h.lt, h.reads.below hb hC, h.last.below hb hC, ⟨f1, h1.of_block (hb.block _ (Nat.lt_of_lt_of_le h1.lt hC))⟩, ⟨f2, h2.of_block (hb.block _ (Nat.lt_of_lt_of_le h2.lt hC))⟩⟩

theorem NewSn.other {w : World} {B g1 g2 : Nat} {l1 l2 : List Int} (h : NewSn w B g1 g2 l1 l2) {b i : Nat} (hb : b < g1) (u : Value) : NewSn (w.setCell ⟨b, i, none⟩ u) B g1 g2 l1 l2 := by
  obtain ⟨f1, h1⟩ := h.own1
  obtain ⟨f2, h2⟩ := h.own2
  have := h.lt
  exact ⟨h.ge, h.lt, h.reads.other (by omega), h.last.other (by omega), ⟨f1, h1.of_block (Below.heap_setCell _ _ _ _ (by simp; omega))⟩, ⟨f2, h2.of_block (Below.heap_setCell _ _ _ _ (by simp; omega))⟩⟩

set_option maxHeartbeats 1000000 in
theorem toSeen_any (s : Sn) (w : World) (hl : s.Le 1048576) (h : s.At w) :
    Calls Try.prog 15 #[.agg #[.slice s.a1 s.l1.length s.c1, .slice s.a2 s.l2.length s.c2]] w fun e w' => ∃ g1 g2, e = .returned (.agg #[.slice (some ⟨g1, 0, none⟩) s.l1.length s.l1.length, .slice (some ⟨g2, 0, none⟩) s.l2.length s.l2.length]) ∧ NewSn w' w.heap.size g1 g2 s.l1 s.l2 ∧ Below w.heap.size w w' := by
  obtain ⟨a1, b1, o1, c1, l1, a2, b2, o2, c2, l2⟩ := s
  obtain ⟨hl1, hl2⟩ := hl
  obtain ⟨as1, as2⟩ := h
  simp only at hl1 hl2 as1 as2
  go_enter Try.func15, Try.ntmps15
  go_wp2_with fail
  have hb3 := below3 w (.cells #[.slice a1 l1.length c1, .slice a2 l2.length c2] 42) (.cells #[.slice none 0 0, .slice none 0 0] 28) (.cells #[.slice none 0 0, .slice none 0 0] 28)
  refine (toIntS_any a1 b1 o1 c1 l1 _ hl1 (as1.below hb3 (Nat.le_refl _))).mono ?_
  rintro e w1 ⟨rfl, hn1, ⟨f1, hr1⟩, hb1⟩
  obtain ⟨hc1, hf1⟩ := bcell hb1
  simp only [World.size_alloc] at hn1 hr1 hb1 hc1 hf1
  have hlt1 := hr1.lt
  go_wp2_with fail
  have hb1' : Below w.heap.size w (w1.setCell ⟨w.heap.size + 1 + 1, 0, none⟩ (.slice (some ⟨w.heap.size + 1 + 1 + 1, 0, none⟩) l1.length l1.length)) := (hb3.trans (hb1.mono (by omega))).setCell (by show w.heap.size ≤ w.heap.size + 1 + 1; omega) _
  refine (toIntS_any a2 b2 o2 c2 l2 _ hl2 (as2.below hb1' (Nat.le_refl _))).mono ?_
  rintro e w2 ⟨rfl, hn2, ⟨f2, hr2⟩, hb2⟩
  obtain ⟨hc2, hf2⟩ := bcell hb2
  have hs2 : (w1.setCell ⟨w.heap.size + 1 + 1, 0, none⟩ (.slice (some ⟨w.heap.size + 1 + 1 + 1, 0, none⟩) l1.length l1.length)).heap.size = w1.heap.size := World.size_setCell _ _ _
  rw [hs2] at hn2 hr2 hb2 hc2 hf2
  have d0 : w1.cell? ⟨w.heap.size + 1 + 1, 0, none⟩ = some (.slice none 0 0) := by
    have h := hc1 (w.heap.size + 1 + 1) 0 (by omega)
    rw [h]
    simp [go_sem]
  have d1 : w1.cell? ⟨w.heap.size + 1 + 1, 1, none⟩ = some (.slice none 0 0) := by
    have h := hc1 (w.heap.size + 1 + 1) 1 (by omega)
    rw [h]
    simp [go_sem]
  have d2 : w1.cell? ⟨w.heap.size + 1, 0, none⟩ = some (.slice none 0 0) := by
    have h := hc1 (w.heap.size + 1) 0 (by omega)
    rw [h]
    simp [go_sem]
  have d3 : w1.cell? ⟨w.heap.size + 1, 1, none⟩ = some (.slice none 0 0) := by
    have h := hc1 (w.heap.size + 1) 1 (by omega)
    rw [h]
    simp [go_sem]
  have e0 : w2.cell? ⟨w.heap.size + 1 + 1, 0, none⟩ = some (.slice (some ⟨w.heap.size + 1 + 1 + 1, 0, none⟩) l1.length l1.length) := by
    rw [hc2 _ _ (by omega)]
    exact World.cell?_setCell_same _ _ _ d0
  have e1 : w2.cell? ⟨w.heap.size + 1 + 1, 1, none⟩ = some (.slice none 0 0) := by
    rw [hc2 _ _ (by omega), World.cell?_setCell_other _ _ _ _ (by simp)]; exact d1
  have e2 : w2.cell? ⟨w.heap.size + 1, 0, none⟩ = some (.slice none 0 0) := by
    rw [hc2 _ _ (by omega), World.cell?_setCell_other _ _ _ _ (by simp)]; exact d2
  have e3 : w2.cell? ⟨w.heap.size + 1, 1, none⟩ = some (.slice none 0 0) := by
    rw [hc2 _ _ (by omega), World.cell?_setCell_other _ _ _ _ (by simp)]; exact d3
  have z0 : w2.frozen? ⟨w.heap.size + 1 + 1, 1, none⟩ = false := by
    rw [hf2 _ _ (by omega), World.frozen?_setCell, hf1 _ _ (by omega)]; simp [go_sem]
  have z1 : w2.frozen? ⟨w.heap.size + 1, 0, none⟩ = false := by
    rw [hf2 _ _ (by omega), World.frozen?_setCell, hf1 _ _ (by omega)]; simp [go_sem]
  have z2 : w2.frozen? ⟨w.heap.size + 1, 1, none⟩ = false := by
    rw [hf2 _ _ (by omega), World.frozen?_setCell, hf1 _ _ (by omega)]; simp [go_sem]
  have hn1' : NewSn w2 w.heap.size (w.heap.size + 1 + 1 + 1) w1.heap.size l1 l2 :=
    ⟨by omega, hlt1, (hn1.other (by omega)).below hb2 (by rw [hs2]; exact Nat.le_refl _), hn2, ⟨f1, (hr1.of_block (by rw [hb2.block _ hlt1]; exact Below.heap_setCell _ _ _ _ (by simp))).of_block rfl⟩, ⟨f2, hr2⟩⟩
  clear hc1 hf1 hc2 hf2 d0 d1 d2 d3
  rw [hs2]
  go_wp2_with fail
  have hbw2 : Below w.heap.size w w2 := hb1'.trans (hb2.mono (by omega))
  refine bodyPost_ret (v := .agg #[.slice (some ⟨w.heap.size + 1 + 1 + 1, 0, none⟩) l1.length l1.length, .slice (some ⟨w1.heap.size, 0, none⟩) l2.length l2.length]) (by simp [results, Try.results15, go_sem, e2, e3]) rfl ⟨_, _, rfl, ?_, ?_⟩
  · exact ((hn1'.other (by omega) _).other (by omega) _).other (by omega) _
  · exact ((hbw2.setCell (by show w.heap.size ≤ w.heap.size + 1 + 1; omega) _).setCell (by show w.heap.size ≤ w.heap.size + 1; omega) _).setCell (by show w.heap.size ≤ w.heap.size + 1; omega) _

set_option maxHeartbeats 400000 in
theorem eqSeen_same (s t : Sn) (w : World) (hl : s.Le 1048576) (h1 : t.l1 = s.l1) (h2 : t.l2 = s.l2) (hs : s.At w) (ht : t.At w) :
    Calls Try.prog 17 #[.agg #[.slice s.a1 s.l1.length s.c1, .slice s.a2 s.l2.length s.c2], .agg #[.slice t.a1 t.l1.length t.c1, .slice t.a2 t.l2.length t.c2]] w fun e w' => e = .returned (.bool true) ∧ Grown w w' := by
  obtain ⟨a1, b1, o1, c1, l1, a2, b2, o2, c2, l2⟩ := s
  obtain ⟨d1, e1, f1, g1, m1, d2, e2, f2, g2, m2⟩ := t
  simp only at h1 h2
  subst h1; subst h2
  have hga := hs.grown (alloc2 w (.cells #[.slice a1 m1.length c1, .slice a2 m2.length c2] 28) (.cells #[.slice d1 m1.length g1, .slice d2 m2.length g2] 28))
  have hgb := ht.grown (alloc2 w (.cells #[.slice a1 m1.length c1, .slice a2 m2.length c2] 28) (.cells #[.slice d1 m1.length g1, .slice d2 m2.length g2] 28))
  obtain ⟨as1, as2⟩ := hga
  obtain ⟨at1, at2⟩ := hgb
  obtain ⟨hl1, hl2⟩ := hl
  simp only at as1 as2 at1 at2 hl1 hl2
  go_enter Try.func17, Try.ntmps17
  go_wp2_with fail
  refine (eqIntS_same a1 b1 o1 c1 d1 e1 f1 g1 m1 _ hl1 as1 at1).mono ?_
  rintro e w1 ⟨rfl, hg1⟩
  obtain ⟨hc1, hf1⟩ := bcell hg1.bel
  go_wp2_with fail
  refine (eqIntS_same a2 b2 o2 c2 d2 e2 f2 g2 m2 _ hl2 (as2.below hg1.bel (Nat.le_refl _)) (at2.below hg1.bel (Nat.le_refl _))).mono ?_
  rintro e w2 ⟨rfl, hg2⟩
  go_wp2_with fail
  go_ret
  exact ⟨rfl, ((alloc2 w _ _).trans hg1).trans hg2⟩

end Go.Proofs.Ytjdpoemlcchfcaa

namespace Go.Proofs.Ytjdpoemlcchfcaa
open Go.RowKit

theorem IntC.below {w w' : World} {a : Option Addr} {b o n : Nat} (hc : IntC w a b o n) (hb : Below w.heap.size w w') : IntC w' a b o n := by
  refine ⟨hc.addr, fun i hi => ?_, fun hn j => ?_⟩
  · obtain ⟨x, hx⟩ := hc.row i hi
    exact ⟨x, (hb.cell (p := ⟨b, o + i, none⟩) (World.block_lt_of_cell? _ _ hx)).trans hx⟩
  · obtain ⟨x, hx⟩ := hc.row 0 hn
    have hlt : b < w.heap.size := World.block_lt_of_cell? _ _ hx
    exact (hb.frozen (p := ⟨b, j, none⟩) hlt).trans (hc.fz hn j)
/-- What was seen, marked. -/
structure SnM (w : World) (s : Sn) : Prop where
  reads : IntS w s.a1 s.b1 s.o1 (M.seq 1 s.l1.length)
  last : IntS w s.a2 s.b2 s.o2 (M.seq (1 + s.l1.length) s.l2.length)
theorem SnM.below {w w' : World} {s : Sn} (h : SnM w s) (hb : Below w.heap.size w w') : SnM w' s := ⟨h.reads.below hb (Nat.le_refl _), h.last.below hb (Nat.le_refl _)⟩
/-- .. and may be written. -/
structure SnC (w : World) (s : Sn) : Prop where
  reads : IntC w s.a1 s.b1 s.o1 s.l1.length
  last : IntC w s.a2 s.b2 s.o2 s.l2.length
theorem SnC.below {w w' : World} {s : Sn} (h : SnC w s) (hb : Below w.heap.size w w') : SnC w' s := ⟨h.reads.below hb, h.last.below hb⟩
theorem SnC.mk_ {P : Nat → Prop} {w w' : World} {s : Sn} (h : SnC w s) (hm : Mk P w w') : SnC w' s := ⟨h.reads.mk_ hm, h.last.mk_ hm⟩
theorem IntS.mkFar {P : Nat → Prop} {w w' : World} {a : Option Addr} {b o : Nat} {l : List Int} (h : IntS w a b o l) (hm : Mk P w w') (hne : 0 < l.length → ¬ P b) : IntS w' a b o l :=
  ⟨h.addr, fun i hi => by rw [hm.cell (p := ⟨b, o + i, none⟩) (hne (by omega))]; exact h.row i hi⟩

set_option maxHeartbeats 400000 in
theorem markSeen_any (s : Sn) (w : World) (hl : s.Le 1048576) (hne : 0 < s.l1.length → 0 < s.l2.length → s.b1 ≠ s.b2) (h : SnC w s) :
    Calls Try.prog 21 #[.agg #[.slice s.a1 s.l1.length s.c1, .slice s.a2 s.l2.length s.c2], .int .i64 1] w fun e w' => ∃ wa : World, e = .returned (.int .i64 (1 + s.l1.length + s.l2.length)) ∧ wa = w.alloc (.cells #[.slice s.a1 s.l1.length s.c1, .slice s.a2 s.l2.length s.c2] 28) ∧ Mk s.blk wa w' ∧ SnM w' s := by
  have hb1 := below1 w (.cells #[.slice s.a1 s.l1.length s.c1, .slice s.a2 s.l2.length s.c2] 28)
  have k1 : (w.alloc (.cells #[.slice s.a1 s.l1.length s.c1, .slice s.a2 s.l2.length s.c2] 28)).cell? ⟨w.heap.size, 1, none⟩ = some (.slice s.a2 s.l2.length s.c2) := by simp
  have h1 := h.below hb1
  have hl1 := hl.reads
  have hl2 := hl.last
  have C := markIntS_any s.a1 s.b1 s.o1 s.l1.length s.c1 1 _ hl.reads (by omega) (by omega) h1.reads
  go_enter Try.func21, Try.ntmps21
  go_wp2_with fail
  refine C.mono ?_
  rintro e w1 ⟨rfl, n1, mk1⟩
  have k1' := mk1.rest _ _ k1 (fun _ e => by cases e)
  go_wp2_with fail
  refine (markIntS_any s.a2 s.b2 s.o2 s.l2.length s.c2 (1 + s.l1.length) w1 hl.last (by omega) (by omega) (h1.last.mk_ mk1)).mono ?_
  rintro e w2 ⟨rfl, n2, mk2⟩
  go_wp2_with fail
  go_ret
  refine ⟨_, rfl, rfl, (mk1.mono (fun j hj => Or.inl ⟨hj.2, hj.1⟩)).trans (mk2.mono (fun j hj => Or.inr ⟨hj.2, hj.1⟩)), ⟨n1.mkFar mk2 (fun h0 hp => ?_), n2⟩⟩
  rw [M.seq_len] at h0
  exact hne h0 hp.2 hp.1

set_option maxHeartbeats 400000 in
theorem heldSeen_any (s : Sn) (w : World) (hl : s.Le 1048576) (h : SnM w s) :
    Calls Try.prog 23 #[.agg #[.slice s.a1 s.l1.length s.c1, .slice s.a2 s.l2.length s.c2], .int .i64 1] w fun e w' => e = .returned (.int .i64 (1 + s.l1.length + s.l2.length)) ∧ w' = w.alloc (.cells #[.slice s.a1 s.l1.length s.c1, .slice s.a2 s.l2.length s.c2] 28) := by
  have hb1 := below1 w (.cells #[.slice s.a1 s.l1.length s.c1, .slice s.a2 s.l2.length s.c2] 28)
  have h1 := h.below hb1
  have hl1 := hl.reads
  have hl2 := hl.last
  have C := heldIntS_any s.a1 s.b1 s.o1 s.l1.length s.c1 1 _ hl.reads (by omega) (by omega) h1.reads
  have C2 := heldIntS_any s.a2 s.b2 s.o2 s.l2.length s.c2 (1 + s.l1.length) _ hl.last (by omega) (by omega) h1.last
  have p1 : ¬ ((1 : Int) + s.l1.length < 0) := by omega
  have p1' : decide ((1 : Int) + s.l1.length < 0) = false := by simpa using p1
  have p2 : ¬ ((1 : Int) + s.l1.length + s.l2.length < 0) := by omega
  have p2' : decide ((1 : Int) + s.l1.length + s.l2.length < 0) = false := by simpa using p2
  go_enter Try.func23, Try.ntmps23
  go_wp2_with fail
  refine C.mono ?_
  rintro e w1 ⟨rfl, rfl⟩
  go_wp2_with fail
  refine C2.mono ?_
  rintro e w2 ⟨rfl, rfl⟩
  go_wp2_with fail
  go_ret
  exact ⟨rfl, rfl⟩


set_option maxHeartbeats 400000 in
theorem eqSeen_bel (s t : Sn) (w : World) (hl : s.Le 1048576) (h1 : t.l1 = s.l1) (h2 : t.l2 = s.l2) (hs : s.At w) (ht : t.At w) :
    Calls Try.prog 17 #[.agg #[.slice s.a1 s.l1.length s.c1, .slice s.a2 s.l2.length s.c2], .agg #[.slice t.a1 t.l1.length t.c1, .slice t.a2 t.l2.length t.c2]] w fun e w' => e = .returned (.bool true) ∧ Below w.heap.size w w' := by
  obtain ⟨a1, b1, o1, c1, l1, a2, b2, o2, c2, l2⟩ := s
  obtain ⟨d1, e1, f1, g1, m1, d2, e2, f2, g2, m2⟩ := t
  simp only at h1 h2
  subst h1; subst h2
  have hb2 := below2 w (.cells #[.slice a1 m1.length c1, .slice a2 m2.length c2] 28) (.cells #[.slice d1 m1.length g1, .slice d2 m2.length g2] 28)
  obtain ⟨as1, as2⟩ := hs.below hb2 (Nat.le_refl _)
  obtain ⟨at1, at2⟩ := ht.below hb2 (Nat.le_refl _)
  obtain ⟨hl1, hl2⟩ := hl
  simp only at as1 as2 at1 at2 hl1 hl2
  go_enter Try.func17, Try.ntmps17
  go_wp2_with fail
  refine (eqIntS_same a1 b1 o1 c1 d1 e1 f1 g1 m1 _ hl1 as1 at1).mono ?_
  rintro e w1 ⟨rfl, hg1⟩
  obtain ⟨hc1, hf1⟩ := bcell hg1.bel
  go_wp2_with fail
  refine (eqIntS_same a2 b2 o2 c2 d2 e2 f2 g2 m2 _ hl2 (as2.below hg1.bel (Nat.le_refl _)) (at2.below hg1.bel (Nat.le_refl _))).mono ?_
  rintro e w2 ⟨rfl, hg2⟩
  go_wp2_with fail
  go_ret
  have hb3 := hb2.trans (hg1.bel.mono hb2.size)
  exact ⟨rfl, hb3.trans (hg2.bel.mono hb3.size)⟩

set_option maxHeartbeats 400000 in
theorem markSeenK_any (s : Sn) (k : Int) (w : World) (hk0 : 0 ≤ k) (hk1 : k ≤ 4611686018400000000) (hl : s.Le 1048576) (h : SnC w s) :
    Calls Try.prog 21 #[.agg #[.slice s.a1 s.l1.length s.c1, .slice s.a2 s.l2.length s.c2], .int .i64 k] w fun e w' => ∃ wa : World, e = .returned (.int .i64 (k + s.l1.length + s.l2.length)) ∧ wa = w.alloc (.cells #[.slice s.a1 s.l1.length s.c1, .slice s.a2 s.l2.length s.c2] 28) ∧ Mk s.blk wa w' := by
  have hb1 := below1 w (.cells #[.slice s.a1 s.l1.length s.c1, .slice s.a2 s.l2.length s.c2] 28)
  have k1 : (w.alloc (.cells #[.slice s.a1 s.l1.length s.c1, .slice s.a2 s.l2.length s.c2] 28)).cell? ⟨w.heap.size, 1, none⟩ = some (.slice s.a2 s.l2.length s.c2) := by simp
  have h1 := h.below hb1
  have hl1 := hl.reads
  have hl2 := hl.last
  have C := markIntS_any s.a1 s.b1 s.o1 s.l1.length s.c1 k _ hl.reads (by omega) (by omega) h1.reads
  go_enter Try.func21, Try.ntmps21
  go_wp2_with fail
  refine C.mono ?_
  rintro e w1 ⟨rfl, n1, mk1⟩
  have k1' := mk1.rest _ _ k1 (fun _ e => by cases e)
  go_wp2_with fail
  refine (markIntS_any s.a2 s.b2 s.o2 s.l2.length s.c2 (k + s.l1.length) w1 hl.last (by omega) (by omega) (h1.last.mk_ mk1)).mono ?_
  rintro e w2 ⟨rfl, n2, mk2⟩
  go_wp2_with fail
  go_ret
  exact ⟨_, rfl, rfl, (mk1.mono (fun j hj => Or.inl ⟨hj.2, hj.1⟩)).trans (mk2.mono (fun j hj => Or.inr ⟨hj.2, hj.1⟩))⟩

end Go.Proofs.Ytjdpoemlcchfcaa

namespace Go.Proofs.Ytjdpoemlcchfcaa
open Go.RowKit

theorem cb {W W' : World} {p : Addr} {v : Value} (hb : Below W.heap.size W W') (h : W.cell? p = some v) : W'.cell? p = some v := (hb.cell (p := p) (World.block_lt_of_cell? _ _ h)).trans h

/-- What is seen, laid anew: all its blocks are new ones, from B on. -/
structure NewT (B : Nat) (w : World) (s : Sn) : Prop where
  at_ : s.At w
  ge1 : B ≤ s.b1
  ge2 : B ≤ s.b2
  own : Own2 w s

theorem own_numsF {w : World} {base : Nat} {v : Value} {l : List Int} (h : w.ownsRow base 3 1 v l.length (nums l)) : ∃ a g c, v = .slice a l.length c ∧ IntS w a g 0 l ∧ base ≤ g ∧ (0 < l.length → v.ownBlock = some g ∧ ∀ j, w.frozen? ⟨g, j, none⟩ = false) := by
  rcases h.2 with ⟨hv, hn⟩ | ⟨g, cap, cur, hv, hg, hh, r⟩
  · have : l = [] := List.length_eq_zero_iff.1 hn
    subst this
    exact ⟨none, base, 0, hv, IntS.nil _ _ _ _, Nat.le_refl _, fun h => absurd h (Nat.lt_irrefl _)⟩
  · refine ⟨_, g, cap, hv, ⟨fun _ => rfl, fun i hi => ?_⟩, hg, fun _ => ⟨by rw [hv]; rfl, fun j => by simp [World.frozen?, hh]⟩⟩
    have hc := h.cells (g := g) (by rw [hv]; rfl) i (.int .i64 l[i]) (by simp [nums, hi])
    rwa [Go.WideShapes.add_plain] at hc

theorem TsAns.sn {w w' : World} {v1 v2 : Value} {r1 r2 : List Int} (h : TsAns w w' v1 v2 r1 r2) : ∃ s : Sn, v1 = .slice s.a1 s.l1.length s.c1 ∧ v2 = .slice s.a2 s.l2.length s.c2 ∧ (s.l1 = r1 ∧ s.l2 = r2) ∧ NewT w.heap.size w' s := by
  obtain ⟨a1, g1, c1, e1, i1, ge1, f1⟩ := own_numsF h.o1
  obtain ⟨a2, g2, c2, e2, i2, ge2, f2⟩ := own_numsF h.o2
  refine ⟨⟨a1, g1, 0, c1, r1, a2, g2, 0, c2, r2⟩, e1, e2, ⟨rfl, rfl⟩, ⟨i1, i2⟩, ge1, ge2, ⟨fun p1 p2 e => ?_, fun b hb j => ?_⟩⟩
  · have e' : g1 = g2 := e
    exact h.ap g1 (f1 p1).1 (by rw [e']; exact (f2 p2).1)
  · rcases hb with ⟨hl, e⟩ | ⟨hl, e⟩
    · have e' : b = g1 := e
      rw [e']; exact (f1 hl).2 j
    · have e' : b = g2 := e
      rw [e']; exact (f2 hl).2 j

theorem its_any (a : Option Addr) (b o c : Nat) (ll : List (List M.D)) (s : Sn) (y1 y2 B : Nat) (ga : Option Addr) (gb go gc : Nat) (gs : List Int) (ok : Bool) (r1 r2 : List Int) (w : World) (hl : ll.length ≤ 1048576) (_hpc : ll.length ≤ c) (hls : ∀ t ∈ ll, t.length ≤ 1048576) (hs : s.Le 1048576) (hgl : gs.length ≤ 1048576) (hok : (M.turnSeen ll s.l1 s.l2 gs).isSome = ok) (hr1 : ((M.turnSeen ll s.l1 s.l2 gs).getD ([], [])).1 = r1) (hr2 : ((M.turnSeen ll s.l1 s.l2 gs).getD ([], [])).2 = r2) (h : DoSS w a b o ll) (hy : NewSn w B y1 y2 s.l1 s.l2) (hG : IntS w ga gb go gs) :
    Calls Try.prog 7 #[.agg #[.slice a ll.length c], .agg #[.slice (some ⟨y1, 0, none⟩) s.l1.length s.l1.length, .slice (some ⟨y2, 0, none⟩) s.l2.length s.l2.length], .slice ga gs.length gc] w fun e w' => ∃ t : Sn, e = .returned (.tuple #[.agg #[.slice t.a1 t.l1.length t.c1, .slice t.a2 t.l2.length t.c2], .bool ok]) ∧ Hid (t.l1 = r1 ∧ t.l2 = r2) ∧ NewT w.heap.size w' t ∧ Below w.heap.size w w' := by
  subst hok
  subst hr1
  subst hr2
  refine (iturnSeen_any a b o c ll hl hls (newSn y1 y2 s.l1 s.l2) ⟨hs.1, hs.2⟩ (Nat.le_refl _) ga gb go gc gs hgl w h hy.at hG).mono fun e w' ⟨v1, v2, he, hA⟩ => ?_
  obtain ⟨t, rfl, rfl, ht, hn⟩ := hA.sn
  exact ⟨t, he, ht, hn, hA.bel⟩

theorem sts_any (a : Option Addr) (b o c : Nat) (ll : List (List M.D)) (s : Sn) (y1 y2 B : Nat) (ga : Option Addr) (gb go gc : Nat) (gs : List Int) (ok : Bool) (r1 r2 : List Int) (w : World) (hl : ll.length ≤ 1048576) (hpc : ll.length ≤ c) (hls : ∀ t ∈ ll, t.length ≤ 1048576) (hs : s.Le 1048576) (hgl : gs.length ≤ 1048576) (hok : (M.turnSeen ll s.l1 s.l2 gs).isSome = ok) (hr1 : ((M.turnSeen ll s.l1 s.l2 gs).getD ([], [])).1 = r1) (hr2 : ((M.turnSeen ll s.l1 s.l2 gs).getD ([], [])).2 = r2) (h : DoSS w a b o ll) (hy : NewSn w B y1 y2 s.l1 s.l2) (hG : IntS w ga gb go gs) :
    Calls Try.prog 6 #[.agg #[.slice a ll.length c], .agg #[.slice (some ⟨y1, 0, none⟩) s.l1.length s.l1.length, .slice (some ⟨y2, 0, none⟩) s.l2.length s.l2.length], .slice ga gs.length gc] w fun e w' => ∃ t : Sn, e = .returned (.tuple #[.agg #[.slice t.a1 t.l1.length t.c1, .slice t.a2 t.l2.length t.c2], .bool ok]) ∧ Hid (t.l1 = r1 ∧ t.l2 = r2) ∧ NewT w.heap.size w' t ∧ Below w.heap.size w w' := by
  subst hok
  subst hr1
  subst hr2
  refine (sturnSeen_any a b o c ll hl hpc hls (newSn y1 y2 s.l1 s.l2) ⟨hs.1, hs.2⟩ (Nat.le_refl _) ga gb go gc gs hgl w h hy.at hG).mono fun e w' ⟨v1, v2, he, hA⟩ => ?_
  obtain ⟨t, rfl, rfl, ht, hn⟩ := hA.sn
  exact ⟨t, he, ht, hn, hA.bel⟩

theorem M.turnSeen_small {ll : List (List M.D)} {l1 l2 gs : List Int} {r1 r2 : List Int} (h1 : ((M.turnSeen ll l1 l2 gs).getD ([], [])).1 = r1) (h2 : ((M.turnSeen ll l1 l2 gs).getD ([], [])).2 = r2) : r1.length ≤ 1048576 ∧ r2.length ≤ 1048576 := by
  cases hp : M.seenOk ll l1 l2
  · rw [M.turnSeen_bad hp] at h1 h2
    subst h1; subst h2; simp
  · cases hr : M.rowN gs ll.length
    · rw [M.turnSeen_row hr] at h1 h2
      subst h1; subst h2; simp
    · rw [M.turnSeen_yes hp hr] at h1 h2
      obtain ⟨hpg, hl1, hl2⟩ := M.seenOk_len hp
      obtain ⟨h3, h7⟩ := M.prog_le hpg
      have e1 : (M.pick [] gs (M.parts ll l1)).flatten = r1 := h1
      have e2 : l2 = r2 := h2
      subst e1; subst e2
      refine ⟨?_, by omega⟩
      rw [M.lens_flat]
      have k1 := M.lens_pick gs l1.length (M.parts ll l1) (M.parts_small ll l1)
      have k2 := M.rowN_len hr
      have k3 := (M.prog_uses hpg).1
      have k4 := M.tot_mono (f := M.reads) (g := M.uses) (fun k hk => by simp [M.uses, hk]) ll
      have k5 : l1.length * gs.length ≤ 6 * 3 := Nat.mul_le_mul (by omega) (by omega)
      omega

/-- What stands through the law's calls: the boxes of its arguments, and the arguments. -/
structure St3 (w W : World) (a : Option Addr) (b o c : Nat) (ll : List (List M.D)) (t : Sn) (ga : Option Addr) (gb go : Nat) (gs : List Int) : Prop where
  bel : Below w.heap.size w W
  p0 : W.cell? ⟨w.heap.size, 0, none⟩ = some (.slice a ll.length c)
  q0 : W.cell? ⟨w.heap.size + 1, 0, none⟩ = some (.slice t.a1 t.l1.length t.c1)
  q1 : W.cell? ⟨w.heap.size + 1, 1, none⟩ = some (.slice t.a2 t.l2.length t.c2)
  sa : DoSS W a b o ll
  ta : t.At W
  gi : IntS W ga gb go gs
theorem St3.lt {w W : World} {a : Option Addr} {b o c : Nat} {ll : List (List M.D)} {t : Sn} {ga : Option Addr} {gb go : Nat} {gs : List Int} (h : St3 w W a b o c ll t ga gb go gs) : w.heap.size + 1 < W.heap.size := World.block_lt_of_cell? _ _ h.q0
theorem St3.below {w W W' : World} {a : Option Addr} {b o c : Nat} {ll : List (List M.D)} {t : Sn} {ga : Option Addr} {gb go : Nat} {gs : List Int} (h : St3 w W a b o c ll t ga gb go gs) (hb : Below W.heap.size W W') : St3 w W' a b o c ll t ga gb go gs :=
  ⟨h.bel.trans (hb.mono h.bel.size), cb hb h.p0, cb hb h.q0, cb hb h.q1, h.sa.below hb (Nat.le_refl _), h.ta.below hb (Nat.le_refl _), h.gi.below hb (Nat.le_refl _)⟩
/-- A variable of what was seen. -/
structure BxT (W : World) (X : Nat) (s : Sn) : Prop where
  c0 : W.cell? ⟨X, 0, none⟩ = some (.slice s.a1 s.l1.length s.c1)
  c1 : W.cell? ⟨X, 1, none⟩ = some (.slice s.a2 s.l2.length s.c2)
  at_ : s.At W
theorem BxT.lt {W : World} {X : Nat} {s : Sn} (h : BxT W X s) : X < W.heap.size := World.block_lt_of_cell? _ _ h.c0
theorem BxT.below {W W' : World} {X : Nat} {s : Sn} (h : BxT W X s) (hb : Below W.heap.size W W') : BxT W' X s := ⟨cb hb h.c0, cb hb h.c1, h.at_.below hb (Nat.le_refl _)⟩
theorem BxT.new {W : World} {s : Sn} (h : s.At W) : BxT (W.alloc (.cells #[.slice s.a1 s.l1.length s.c1, .slice s.a2 s.l2.length s.c2] 28)) W.heap.size s := ⟨by simp, by simp, h.below (below1 _ _) (Nat.le_refl _)⟩

end Go.Proofs.Ytjdpoemlcchfcaa

namespace Go.Proofs.Ytjdpoemlcchfcaa
namespace M

/-- Each row is as long as its thread has reads. -/
def Fit : List (List D) → List (List Int) → Prop
  | [], [] => True
  | t :: q, r :: rs => r.length = cnt reads t ∧ Fit q rs
  | _, _ => False
theorem parts_fit (ll : List (List D)) : ∀ l : List Int, l.length = tot reads ll → Fit ll (parts ll l) := by
  induction ll with
  | nil => intro l _; trivial
  | cons t ll ih =>
    intro l h
    simp only [tot] at h
    exact ⟨by rw [List.length_take]; omega, ih _ (by rw [List.length_drop]; omega)⟩
theorem fit_parts (q : List (List D)) : ∀ rs : List (List Int), Fit q rs → parts q rs.flatten = rs := by
  induction q with
  | nil =>
    intro rs h
    cases rs with
    | nil => rfl
    | cons r rs => exact h.elim
  | cons t q ih =>
    intro rs h
    cases rs with
    | nil => exact h.elim
    | cons r rs =>
      obtain ⟨h1, h2⟩ := h
      have e := ih rs h2
      simp only [parts, List.flatten_cons]
      rw [List.take_append_of_le_length (by omega), List.take_of_length_le (by omega), List.drop_append_of_le_length (by omega), List.drop_of_length_le (by omega), List.nil_append, e]
theorem fit_tot (q : List (List D)) : ∀ rs : List (List Int), Fit q rs → rs.flatten.length = tot reads q := by
  induction q with
  | nil =>
    intro rs h
    cases rs with
    | nil => rfl
    | cons r rs => exact h.elim
  | cons t q ih =>
    intro rs h
    cases rs with
    | nil => exact h.elim
    | cons r rs =>
      obtain ⟨h1, h2⟩ := h
      have e := ih rs h2
      simp only [List.flatten_cons, List.length_append, tot]
      omega
theorem flat_parts (ll : List (List D)) : ∀ l : List Int, l.length = tot reads ll → (parts ll l).flatten = l := by
  induction ll with
  | nil => intro l h; simp only [tot] at h; rw [List.length_eq_zero_iff.1 h]; rfl
  | cons t ll ih =>
    intro l h
    simp only [tot] at h
    simp only [parts, List.flatten_cons]
    rw [ih _ (by rw [List.length_drop]; omega), List.take_append_drop]
theorem parts_mem (ll : List (List D)) : ∀ (l : List Int), ∀ r ∈ parts ll l, ∀ x ∈ r, x ∈ l := by
  induction ll with
  | nil => intro l r hr; cases hr
  | cons t ll ih =>
    intro l r hr x hx
    simp only [parts, List.mem_cons] at hr
    rcases hr with rfl | hr
    · exact List.mem_of_mem_take hx
    · exact List.mem_of_mem_drop (ih _ r hr x hx)
theorem vals_sub {l m : List Int} (h : ∀ x ∈ m, x ∈ l) (hv : vals l = true) : vals m = true := by
  simp only [vals, List.all_eq_true] at hv ⊢
  exact fun x hx => hv x (h x hx)
theorem fit_pick {ll : List (List D)} {row : List Int} (rs : List (List Int)) (h3 : ll.length ≤ 3) (hr : rowN row ll.length = true) (h : Fit ll rs) :
    Fit (pick [] row ll) (pick [] row rs) ∧ pick [] (back row) (pick [] row rs) = rs := by
  match ll, rs, h3, hr, h with
  | [], [], _, hr, _ => obtain rfl := row0 hr; exact ⟨trivial, rfl⟩
  | [a], [x], _, hr, h =>
    obtain rfl := row1 hr
    obtain ⟨h1, _⟩ := h
    exact ⟨by simp [pick, Fit, h1], rfl⟩
  | [a, b], [x, y], _, hr, h =>
    obtain ⟨h1, h2, _⟩ := h
    rcases row2 hr with rfl | rfl <;> exact ⟨by simp [pick, Fit, h1, h2], rfl⟩
  | [a, b, c], [x, y, z], _, hr, h =>
    obtain ⟨h1, h2, h4, _⟩ := h
    rcases row3 hr with rfl | rfl | rfl | rfl | rfl | rfl <;> exact ⟨by simp [pick, Fit, h1, h2, h4], rfl⟩
theorem seenOk_parts {ll : List (List D)} {l1 l2 : List Int} (h : seenOk ll l1 l2 = true) : vals l1 = true ∧ vals l2 = true := by
  simp only [seenOk, Bool.and_eq_true] at h
  exact h.2.2
theorem turnSeen_fact {mm qq : List (List D)} {l1 l2 gs x1 x2 : List Int} (h : (turnSeen mm l1 l2 gs).isSome = true) (e1 : ((turnSeen mm l1 l2 gs).getD ([], [])).1 = x1) (e2 : ((turnSeen mm l1 l2 gs).getD ([], [])).2 = x2) (eq : (turnThreads mm gs).getD [] = qq) :
    (∀ x ∈ gs, 0 ≤ x ∧ x < gs.length) ∧ seenOk qq x1 x2 = true ∧ (turnSeen qq x1 x2 (back gs)).isSome = true ∧ ((turnSeen qq x1 x2 (back gs)).getD ([], [])).1 = l1 ∧ ((turnSeen qq x1 x2 (back gs)).getD ([], [])).2 = l2 := by
  cases hs : seenOk mm l1 l2
  · rw [turnSeen_bad hs] at h; cases h
  cases hr : rowN gs mm.length
  · rw [turnSeen_row hr] at h; cases h
  obtain ⟨hp, n1, n2⟩ := seenOk_len hs
  obtain ⟨v1, v2⟩ := seenOk_parts hs
  rw [turnSeen_yes hs hr] at e1 e2
  rw [turnThreads_yes hp hr] at eq
  obtain rfl : (pick [] gs (parts mm l1)).flatten = x1 := e1
  obtain rfl : l2 = x2 := e2
  obtain rfl : pick [] gs mm = qq := eq
  obtain ⟨k1, k2, k3, _⟩ := threads_back hp hr
  obtain ⟨f1, f2⟩ := fit_pick (parts mm l1) (prog_le hp).1 hr (parts_fit mm l1 n1)
  have hv : vals (pick [] gs (parts mm l1)).flatten = true := by
    refine vals_sub (fun x hx => ?_) v1
    obtain ⟨r, hr1, hx1⟩ := List.mem_flatten.1 hx
    rcases pick_mem hr1 with hr1 | rfl
    · exact parts_mem mm l1 r hr1 x hx1
    · cases hx1
  have ht := fit_tot _ _ f1
  have hso : seenOk (pick [] gs mm) (pick [] gs (parts mm l1)).flatten l2 = true := by
    rw [seenOk_4 (by rw [nreads_ok k1, ht]) n2 hv]; exact v2
  rw [turnSeen_yes hso k3, fit_parts _ _ f1, f2, flat_parts mm l1 n1]
  exact ⟨fun x hx => by rw [rowN_len hr]; exact rowN_mem hr x hx, hso, rfl, rfl, rfl⟩
end M
end Go.Proofs.Ytjdpoemlcchfcaa
