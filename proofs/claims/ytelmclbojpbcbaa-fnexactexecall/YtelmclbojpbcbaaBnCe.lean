/- The law's own sizing, copying and comparing of numbers: laws.szIntS, toIntS, eqIntS. Of lists of at most 1048576 numbers (sizing: of at most 9223372036854775807). The law's own sizing and comparing of ways: laws.szIntSS, szExec, eqIntSS, eqExec. Of rows of at most 1048576 numbers (sizing: of at most 9223372036854775807). The law's own comparing of all ways: laws.eqExecS. Of ways of at most 1048576 numbers and rows each, at most 5489031744 of them. The law's own marking of numbers, and whether marks still stand: laws.markIntS, heldIntS. Of lists of at most 1048576 numbers. The law's own marking of all ways, and whether marks still stand: laws.markIntSS, heldIntSS, markExecS, heldExecS. Of rows of their own that lie apart, each of at most 64 numbers, at most 64 of a way, at most 5489031744 ways. The law's own marking of a program: laws.markDoS, markDoSS, markProg. Of at most 1048576 threads, each of at most 1048576 steps. The law's own comparing of programs: two that are the same are told so. Of programs of at most 1048576 threads, each of at most 1048576 steps. The law's own look at sizes: behind it, if it is not below nought, a program has at most 1048576 threads, each of at most 1048576 steps. The law FnExactExecAll, walked: it answers true, and leaves all as it was. Of programs of at most 9223372036854775807 parts: more than a machine holds. -/
import Derived.Test.YtelmclbojpbcbaaSnMem
import Derived.Deep.QuietTactic
import Derived.BigQuiet
import Derived.Deep.OwnRows
import Derived.Test.YtelmclbojpbcbaaOkOrd
import Derived.Test.YtelmclbojpbcbaaQuietB
import Derived.Test.YtelmclbojpbcbaaBnCw
import Derived.Test.YtelmclbojpbcbaaSnFar
import Derived.Test.YtelmclbojpbcbaaConv
import Derived.Deep.RegionWith
import Derived.Deep.RegionHeld3

namespace Go.Proofs.Ytelmclbojpbcbaa
open Go.RowKit

theorem Try.info3 : (Try.prog.info? 3).map (fun i => (i.zero, i.size, i.bytes)) = some (some (.int .i64 0), 1, 8) := by kernel_rfl

/-- The first n numbers are copied. -/
structure PartI (w wr : World) (l : List Int) (n : Nat) : Prop where
  bel : Below w.heap.size w wr
  own : ∃ f, wr.rowIs w.heap.size 3 l.length f
  done : ∀ q (_ : q < n) (h : q < l.length), wr.cell? ⟨w.heap.size, q, none⟩ = some (.int .i64 l[q])

theorem partI_step {w wr : World} {l : List Int} {n : Nat} {x : Int} (hp : PartI w wr l n) (hlt : n < l.length) (hd : l[n] = x) : PartI w (wr.setCell ⟨w.heap.size, n, none⟩ (.int .i64 x)) l (n + 1) := by
  obtain ⟨f, hf⟩ := hp.own
  have hr := hf.set n (.int .i64 x)
  refine ⟨hp.bel.setCell (Nat.le_refl _) _, ⟨_, hr⟩, fun q hq hql => ?_⟩
  by_cases e : q = n
  · subst e
    rw [hd, hr.cell hql]; simp
  · rw [World.cell?_setCell_other _ _ _ _ (fun e' => e (by have := congrArg Addr.off e'; simp at this; omega))]
    exact hp.done q (by omega) hql

theorem IntS.other {w : World} {a : Option Addr} {b o B i : Nat} {l : List Int} {u : Value} (h : IntS w a b o l) (hb : b ≠ B) : IntS (w.setCell ⟨B, i, none⟩ u) a b o l :=
  ⟨h.addr, fun j hj => by rw [World.cell?_setCell_other _ _ _ _ (fun e => hb (congrArg Addr.block e).symm)]; exact h.row j hj⟩

set_option maxHeartbeats 400000 in
theorem eqIntS_same (a : Option Addr) (b o c : Nat) (a2 : Option Addr) (b2 o2 c2 : Nat) (l : List Int) (w : World) (hl : l.length ≤ 1048576) (h : IntS w a b o l) (h2 : IntS w a2 b2 o2 l) :
    Calls Try.prog 61 #[.slice a l.length c, .slice a2 l.length c2] w fun e w' => e = .returned (.bool true) ∧ Grown w w' := by
  go_enter Try.func61, Try.ntmps61
  go_wp2_with fail
  go_loopw [5] (fun s5 wr => ∃ n : Nat, s5 = .int .i64 n ∧ n ≤ l.length ∧ Grown w wr) (fun s5 _ => l.length - (intOf s5).toNat)
  case atStart => exact ⟨0, rfl, Nat.zero_le _, Grown.refl _⟩
  case round =>
    obtain ⟨n, rfl, hn, hg⟩ := hrel
    by_cases hlt : n < l.length
    · obtain ⟨rfl⟩ := h.addr (by omega)
      obtain ⟨rfl⟩ := h2.addr (by omega)
      have hd := (h.below hg.bel (Nat.le_refl _)).row n hlt
      have hd2 := (h2.below hg.bel (Nat.le_refl _)).row n hlt
      generalize l[n] = x at hd hd2
      have i1 : (n : Int) < l.length := by omega
      go_wp2_with fail
      go_quiet (fail)
      go_wp2_with fail
      exact ⟨⟨n + 1, by go_num, by omega, hg.drewN _⟩, by simp [intOf]; omega⟩
    · go_wp2_with fail
      go_ret
      exact ⟨rfl, hg⟩

end Go.Proofs.Ytelmclbojpbcbaa

namespace Go.Proofs.Ytelmclbojpbcbaa
open Go.RowKit

theorem eqIntS_bel (a : Option Addr) (b o c : Nat) (a2 : Option Addr) (b2 o2 c2 : Nat) (l : List Int) (w : World) (hl : l.length ≤ 1048576) (h : IntS w a b o l) (h2 : IntS w a2 b2 o2 l) :
    Calls Try.prog 61 #[.slice a l.length c, .slice a2 l.length c2] w fun e w' => e = .returned (.bool true) ∧ Below w.heap.size w w' :=
  (eqIntS_same a b o c a2 b2 o2 c2 l w hl h h2).mono fun _ _ ⟨he, hg⟩ => ⟨he, hg.bel⟩

set_option maxHeartbeats 400000 in
theorem eqIntSS_same (a : Option Addr) (b o c : Nat) (a2 : Option Addr) (b2 o2 c2 : Nat) (rows : List (List Int)) (w : World) (hl : rows.length ≤ 1048576) (hrs : ∀ r ∈ rows, r.length ≤ 1048576) (h : IntSS w a b o rows) (h2 : IntSS w a2 b2 o2 rows) :
    Calls Try.prog 62 #[.slice a rows.length c, .slice a2 rows.length c2] w fun e w' => e = .returned (.bool true) ∧ Below w.heap.size w w' := by
  go_enter Try.func62, Try.ntmps62
  go_wp2_with fail
  go_loopw [5] (fun s5 wr => ∃ n : Nat, s5 = .int .i64 n ∧ n ≤ rows.length ∧ Below w.heap.size w wr) (fun s5 _ => rows.length - (intOf s5).toNat)
  case atStart => exact ⟨0, rfl, Nat.zero_le _, Below.refl _ _⟩
  case round =>
    obtain ⟨n, rfl, hn, hb⟩ := hrel
    by_cases hlt : n < rows.length
    · obtain ⟨rfl⟩ := h.addr (by omega)
      obtain ⟨rfl⟩ := h2.addr (by omega)
      obtain ⟨a', b', o', c', hc, hrow⟩ := (h.below hb (Nat.le_refl _)).row n hlt
      obtain ⟨a3, b3, o3, c3, hc3, hrow3⟩ := (h2.below hb (Nat.le_refl _)).row n hlt
      have hle := hrs _ (List.getElem_mem hlt)
      generalize rows[n] = row at *
      have i1 : (n : Int) < rows.length := by omega
      have K1 := BelowOf.cell hc
      have K2 := BelowOf.cell hc3
      have C := fun q : BelowOf wr => eqIntS_bel a' b' o' c' a3 b3 o3 c3 row q.x hle (hrow.below q.h (Nat.le_refl _)) (hrow3.below q.h (Nat.le_refl _))
      haveI : Inhabited (BelowOf wr) := ⟨belOf wr⟩
      go_wp2_with fail
      refine wp_region_quiet_bel (by kernel_rfl) (by kernel_rfl) ?_
      repeat (quiet_step (first | (go_at_call 61; exact Calls.bel_of (C _))))
      refine wpQuiet_nil ?_
      rintro _ ⟨⟨wq, hwq⟩, rfl⟩
      go_wp2_with fail
      exact ⟨⟨n + 1, by go_num, by omega, hb.trans (hwq.mono hb.size)⟩, by simp [intOf]; omega⟩
    · go_wp2_with fail
      go_ret
      exact ⟨rfl, hb⟩

set_option maxHeartbeats 400000 in
theorem eqExec_same (fa : Option Addr) (fb fo fc : Nat) (ra : Option Addr) (rb ro rc : Nat) (fa2 : Option Addr) (fb2 fo2 fc2 : Nat) (ra2 : Option Addr) (rb2 ro2 rc2 : Nat) (l : List Int) (rows : List (List Int)) (w : World) (hl1 : l.length ≤ 1048576) (hl : rows.length ≤ 1048576) (hrs : ∀ r ∈ rows, r.length ≤ 1048576) (hf : IntS w fa fb fo l) (h : IntSS w ra rb ro rows) (hf2 : IntS w fa2 fb2 fo2 l) (h2 : IntSS w ra2 rb2 ro2 rows) :
    Calls Try.prog 31 #[.agg #[.slice fa l.length fc, .slice ra rows.length rc], .agg #[.slice fa2 l.length fc2, .slice ra2 rows.length rc2]] w fun e w' => e = .returned (.bool true) ∧ Below w.heap.size w w' := by
  have hb2 := below2 w (.cells #[.slice fa l.length fc, .slice ra rows.length rc] 43) (.cells #[.slice fa2 l.length fc2, .slice ra2 rows.length rc2] 43)
  have hfa := hf.below hb2 (Nat.le_refl _)
  have hfb := hf2.below hb2 (Nat.le_refl _)
  have ha := h.below hb2 (Nat.le_refl _)
  have hb := h2.below hb2 (Nat.le_refl _)
  go_enter Try.func31, Try.ntmps31
  go_wp2_with fail
  refine (eqIntS_same fa fb fo fc fa2 fb2 fo2 fc2 l _ hl1 hfa hfb).mono ?_
  rintro e w1 ⟨rfl, hg1⟩
  obtain ⟨hc1, hf1⟩ := bcell hg1.bel
  go_wp2_with fail
  refine (eqIntSS_same ra rb ro rc ra2 rb2 ro2 rc2 rows _ hl hrs (ha.below hg1.bel (Nat.le_refl _)) (hb.below hg1.bel (Nat.le_refl _))).mono ?_
  rintro e w2 ⟨rfl, hb3⟩
  go_wp2_with fail
  go_ret
  have hbw := hb2.trans (hg1.bel.mono hb2.size)
  exact ⟨rfl, hbw.trans (hb3.mono hbw.size)⟩

end Go.Proofs.Ytelmclbojpbcbaa

namespace Go.Proofs.Ytelmclbojpbcbaa
open Go.RowKit

set_option maxHeartbeats 1000000 in
theorem eqExecS_same (a a2 : Option Addr) (g c g2 c2 : Nat) (xs : List M.Wy) (w : World) (hl : xs.length ≤ 5489031744) (hle : ∀ x ∈ xs, WyLe x) (h : LW w a g xs) (h2 : LW w a2 g2 xs) :
    Calls Try.prog 11 #[.slice a xs.length c, .slice a2 xs.length c2] w fun e w' => e = .returned (.bool true) ∧ Below w.heap.size w w' := by
  go_enter Try.func11, Try.ntmps11
  go_wp2_with fail
  go_loopw [5] (fun s5 wr => ∃ n : Nat, s5 = .int .i64 n ∧ n ≤ xs.length ∧ Below w.heap.size w wr) (fun s5 _ => xs.length - (intOf s5).toNat)
  case atStart => exact ⟨0, rfl, Nat.zero_le _, Below.refl _ _⟩
  case round =>
    obtain ⟨n, rfl, hn, hb⟩ := hrel
    by_cases hlt : n < xs.length
    · obtain rfl := h.addr (by omega)
      obtain rfl := h2.addr (by omega)
      obtain ⟨fa, fb, fc, ra, rb, rc, k1, k2, k3, k4⟩ := (h.below hb).row n hlt
      obtain ⟨fa2, fb2, fc2, ra2, rb2, rc2, j1, j2, j3, j4⟩ := (h2.below hb).row n hlt
      have hy := hle _ (List.getElem_mem hlt)
      generalize xs[n] = y at *
      have i1 : (n : Int) < xs.length := by omega
      have i0 : ¬ (n : Int) < 0 := by omega
      have K1 := BelowOf.cell k1
      have K2 := BelowOf.cell k2
      have K3 := BelowOf.cell j1
      have K4 := BelowOf.cell j2
      have C := fun q : BelowOf wr => eqExec_same fa fb 0 fc ra rb 0 rc fa2 fb2 0 fc2 ra2 rb2 0 rc2 y.1 y.2 q.x hy.a hy.b hy.c (k3.below q.h (Nat.le_refl _)) (k4.below q.h (Nat.le_refl _)) (j3.below q.h (Nat.le_refl _)) (j4.below q.h (Nat.le_refl _))
      haveI : Inhabited (BelowOf wr) := ⟨belOf wr⟩
      go_wp2_with fail
      refine wp_region_quiet_bel (by kernel_rfl) (by kernel_rfl) ?_
      repeat (quiet_step (first | (go_at_call 31; exact Calls.bel_of (C _))))
      refine wpQuiet_nil ?_
      rintro _ ⟨⟨wq, hwq⟩, rfl⟩
      go_wp2_with fail
      exact ⟨⟨n + 1, by go_num, by omega, hb.trans (hwq.mono hb.size)⟩, by simp [intOf]; omega⟩
    · go_wp2_with fail
      go_ret
      exact ⟨rfl, hb⟩

end Go.Proofs.Ytelmclbojpbcbaa

namespace Go.Proofs.Ytelmclbojpbcbaa
open Go.RowKit

/-- Of blocks that meet P numbers alone have turned. -/
structure Mk (P : Nat → Prop) (w w' : World) : Prop where
  os : w'.os = w.os
  tape : w'.tape = w.tape
  output : w'.output = w.output
  size : w'.heap.size = w.heap.size
  ints : ∀ p x, w.cell? p = some (.int .i64 x) → ∃ y, w'.cell? p = some (.int .i64 y)
  rest : ∀ p v, w.cell? p = some v → (∀ x, v ≠ .int .i64 x) → w'.cell? p = some v
  fz : ∀ p, w'.frozen? p = w.frozen? p
  block : ∀ k, ¬ P k → w'.heap[k]? = w.heap[k]?
theorem Mk.refl (P : Nat → Prop) (w : World) : Mk P w w := ⟨rfl, rfl, rfl, rfl, fun _ x h => ⟨x, h⟩, fun _ _ h _ => h, fun _ => rfl, fun _ _ => rfl⟩
theorem Mk.trans {P : Nat → Prop} {a b c : World} (h : Mk P a b) (k : Mk P b c) : Mk P a c :=
  ⟨k.os.trans h.os, k.tape.trans h.tape, k.output.trans h.output, k.size.trans h.size, fun p x hx => (let ⟨y, hy⟩ := h.ints p x hx; k.ints p y hy), fun p v hv hn => k.rest p v (h.rest p v hv hn) hn, fun p => (k.fz p).trans (h.fz p), fun i hi => (k.block i hi).trans (h.block i hi)⟩
theorem Mk.mono {P Q : Nat → Prop} {a b : World} (h : Mk P a b) (hPQ : ∀ k, P k → Q k) : Mk Q a b := ⟨h.os, h.tape, h.output, h.size, h.ints, h.rest, h.fz, fun i hi => h.block i (fun hp => hi (hPQ i hp))⟩
theorem Mk.setCell {P : Nat → Prop} {a w : World} (h : Mk P a w) {b i : Nat} {x y : Int} (hb : P b) (hx : w.cell? ⟨b, i, none⟩ = some (.int .i64 x)) : Mk P a (w.setCell ⟨b, i, none⟩ (.int .i64 y)) := by
  refine h.trans ⟨rfl, rfl, rfl, by simp [World.setCell], fun p z hz => ?_, fun p v hv hn => ?_, fun p => World.frozen?_setCell _ _ _ _, fun k hk => Below.heap_setCell _ _ _ _ (fun e => hk (by have e' : k = b := e; rw [e']; exact hb))⟩
  · by_cases e : p = ⟨b, i, none⟩
    · subst e; exact ⟨y, World.cell?_setCell_same _ _ _ hx⟩
    · exact ⟨z, by rw [World.cell?_setCell_other _ _ _ _ (fun h => e h.symm)]; exact hz⟩
  · by_cases e : p = ⟨b, i, none⟩
    · subst e; rw [hx] at hv; exact absurd (Option.some.inj hv).symm (hn x)
    · rw [World.cell?_setCell_other _ _ _ _ (fun h => e h.symm)]; exact hv
theorem Mk.cell {P : Nat → Prop} {w w' : World} (h : Mk P w w') {p : Addr} (hp : ¬ P p.block) : w'.cell? p = w.cell? p := World.cell?_of_block (w := w) (h.block p.block hp)
theorem Mk.below {P : Nat → Prop} {B : Nat} {w w1 w' : World} (h : Below B w w1) (k : Mk P w1 w') (hr : ∀ j, P j → B ≤ j) : Below B w w' :=
  ⟨k.os.trans h.os, k.tape.trans h.tape, k.output.trans h.output, by rw [k.size]; exact h.size, fun i hi => (k.block i (fun hp => by have := hr i hp; omega)).trans (h.block i hi)⟩

/-- A value is a slice of so many numbers, whichever, that may be written. -/
structure IntC (w : World) (a : Option Addr) (b o n : Nat) : Prop where
  addr : 0 < n → a = some ⟨b, o, none⟩
  row : ∀ i, i < n → ∃ x, w.cell? ⟨b, o + i, none⟩ = some (.int .i64 x)
  fz : 0 < n → ∀ j, w.frozen? ⟨b, j, none⟩ = false
theorem IntC.mk_ {P : Nat → Prop} {w w' : World} {a : Option Addr} {b o n : Nat} (h : IntC w a b o n) (hm : Mk P w w') : IntC w' a b o n :=
  ⟨h.addr, fun i hi => (let ⟨x, hx⟩ := h.row i hi; hm.ints _ x hx), fun hn j => (hm.fz _).trans (h.fz hn j)⟩
theorem IntS.toC {w : World} {a : Option Addr} {b o : Nat} {l : List Int} (h : IntS w a b o l) (fz : 0 < l.length → ∀ j, w.frozen? ⟨b, j, none⟩ = false) : IntC w a b o l.length :=
  ⟨h.addr, fun i hi => ⟨_, h.row i hi⟩, fz⟩

namespace M
/-- So many numbers from one on. -/
def seq (k : Int) (n : Nat) : List Int := (List.range n).map fun (i : Nat) => k + (i : Int)
theorem seq_len (k : Int) (n : Nat) : (seq k n).length = n := by simp [seq]
theorem seq_get (k : Int) (n i : Nat) (h : i < (seq k n).length) : (seq k n)[i] = k + i := by simp [seq]
end M

set_option maxHeartbeats 400000 in
theorem markIntS_any (a : Option Addr) (b o n c : Nat) (k : Int) (w : World) (hn : n ≤ 1048576) (hk : 0 ≤ k) (hk2 : k ≤ 4611686018427387904) (h : IntC w a b o n) :
    Calls Try.prog 34 #[.slice a n c, .int .i64 k] w fun e w' => e = .returned (.int .i64 (k + n)) ∧ IntS w' a b o (M.seq k n) ∧ Mk (fun j => j = b ∧ 0 < n) w w' := by
  go_enter Try.func34, Try.ntmps34
  go_wp2_with fail
  go_loopw [1, 5] (fun s1 s5 wr => ∃ m : Nat, s1 = .int .i64 (k + m) ∧ s5 = .int .i64 m ∧ m ≤ n ∧ (∀ i, i < m → wr.cell? ⟨b, o + i, none⟩ = some (.int .i64 (k + i))) ∧ Mk (fun j => j = b ∧ 0 < n) w wr) (fun _ s5 _ => n - (intOf s5).toNat)
  case atStart => exact ⟨0, by simp, rfl, Nat.zero_le _, fun i hi => absurd hi (Nat.not_lt_zero _), Mk.refl _ _⟩
  case round =>
    obtain ⟨m, rfl, rfl, hm, hdone, hmk⟩ := hrel
    by_cases hlt : m < n
    · obtain ⟨rfl⟩ := h.addr (by omega)
      obtain ⟨x, hx⟩ := (h.mk_ hmk).row m hlt
      have fz := (h.mk_ hmk).fz (by omega)
      have i1 : (m : Int) < n := by omega
      have HD : Hid (∀ i, i < m → wr.cell? ⟨b, o + i, none⟩ = some (.int .i64 (k + i))) := hdone
      clear hdone
      go_wp2_with fail
      refine ⟨⟨m + 1, ?_, by go_num, by omega, fun i hi => ?_, hmk.setCell ⟨rfl, by omega⟩ hx⟩, by simp [intOf]; omega⟩
      · rw [Int.natCast_add, ← Int.add_assoc]; rfl
      · by_cases e : i = m
        · subst e; exact World.cell?_setCell_same _ _ _ hx
        · rw [World.cell?_setCell_other _ _ _ _ (fun h => e (by have := congrArg Addr.off h; simp at this; omega))]
          exact HD.out i (by omega)
    · obtain rfl : m = n := by omega
      go_wp2_with fail
      go_ret
      exact ⟨rfl, ⟨fun hl => h.addr (by rw [M.seq_len] at hl; exact hl), fun i hi => by rw [M.seq_get]; exact hdone i (by rw [M.seq_len] at hi; exact hi)⟩, hmk⟩

set_option maxHeartbeats 400000 in
theorem heldIntS_any (a : Option Addr) (b o n c : Nat) (k : Int) (w : World) (hn : n ≤ 1048576) (hk : 0 ≤ k) (hk2 : k ≤ 4611686018427387904) (h : IntS w a b o (M.seq k n)) :
    Calls Try.prog 36 #[.slice a n c, .int .i64 k] w fun e w' => e = .returned (.int .i64 (k + n)) ∧ w' = w := by
  go_enter Try.func36, Try.ntmps36
  go_wp2_with fail
  go_loopw [1, 5] (fun s1 s5 wr => ∃ m : Nat, s1 = .int .i64 (k + m) ∧ s5 = .int .i64 m ∧ m ≤ n ∧ wr = w) (fun _ s5 _ => n - (intOf s5).toNat)
  case atStart => exact ⟨0, by simp, rfl, Nat.zero_le _, rfl⟩
  case round =>
    obtain ⟨m, rfl, rfl, hm, rfl⟩ := hrel
    by_cases hlt : m < n
    · obtain ⟨rfl⟩ := h.addr (by rw [M.seq_len]; omega)
      have hx := h.row m (by rw [M.seq_len]; exact hlt)
      rw [M.seq_get] at hx
      have i1 : (m : Int) < n := by omega
      go_wp2_with fail
      exact ⟨⟨m + 1, by rw [Int.natCast_add, ← Int.add_assoc]; rfl, by go_num, by omega, trivial⟩, by simp [intOf]; omega⟩
    · obtain rfl : m = n := by omega
      go_wp2_with fail
      go_ret
      exact ⟨rfl, rfl⟩

end Go.Proofs.Ytelmclbojpbcbaa

namespace Go.Proofs.Ytelmclbojpbcbaa
open Go.RowKit

/-- So many numbers in a row of their own, that may be written. -/
structure VC (w : World) (v : Value) (n : Nat) : Prop where
  ex : ∃ a b c, v = .slice a n c ∧ IntC w a b 0 n ∧ (0 < n → v.ownBlock = some b)
/-- .. and marked. -/
structure VM (w : World) (v : Value) (k : Int) (n : Nat) : Prop where
  ex : ∃ a b c, v = .slice a n c ∧ IntS w a b 0 (M.seq k n) ∧ (0 < n → v.ownBlock = some b)
theorem VC.of_own {w : World} {base : Nat} {e : TypeId} {v : Value} {l : List Int} (h : w.ownsRow base e 1 v l.length (nums l)) : VC w v l.length := by
  rcases h.2 with ⟨hv, hn⟩ | ⟨g, cap, cur, hv, hg, hh, r⟩
  · have : l = [] := List.length_eq_zero_iff.1 hn
    subst this
    exact ⟨none, 0, 0, hv, ⟨fun h => absurd h (Nat.lt_irrefl _), fun i hi => absurd hi (Nat.not_lt_zero _), fun h => absurd h (Nat.lt_irrefl _)⟩, fun h => absurd h (Nat.lt_irrefl _)⟩
  · refine ⟨_, g, cap, hv, ⟨fun _ => rfl, fun i hi => ?_, fun _ j => by simp [World.frozen?, hh]⟩, fun _ => by rw [hv]; rfl⟩
    have := h.cells (g := g) (by rw [hv]; rfl) i (.int .i64 l[i]) (by simp [nums, hi])
    rw [Go.WideShapes.add_plain] at this
    exact ⟨_, this⟩
theorem VC.mk_ {P : Nat → Prop} {w w' : World} {v : Value} {n : Nat} (h : VC w v n) (hm : Mk P w w') : VC w' v n := by
  obtain ⟨a, b, c, e, hc, ho⟩ := h.ex
  exact ⟨a, b, c, e, hc.mk_ hm, ho⟩
theorem VM.mk_ {P : Nat → Prop} {w w' : World} {v : Value} {k : Int} {n : Nat} (h : VM w v k n) (hm : Mk P w w') (hp : ∀ j, v.ownBlock = some j → ¬ P j) : VM w' v k n := by
  obtain ⟨a, b, c, e, hc, ho⟩ := h.ex
  refine ⟨a, b, c, e, ⟨hc.addr, fun i hi => ?_⟩, ho⟩
  rw [hm.cell (p := ⟨b, 0 + i, none⟩) (hp b (ho (by rw [M.seq_len] at hi; omega)))]
  exact hc.row i hi
theorem VM.below {w w' : World} {v : Value} {k : Int} {n : Nat} (h : VM w v k n) (hb : Below w.heap.size w w') : VM w' v k n := by
  obtain ⟨a, b, c, e, hc, ho⟩ := h.ex
  exact ⟨a, b, c, e, hc.below hb (Nat.le_refl _), ho⟩

namespace M
/-- How many numbers rows have, a way has, ways have. -/
def sumR : List (List Int) → Nat
  | [] => 0
  | r :: rs => r.length + sumR rs
theorem sumR_take (ll : List (List Int)) (n : Nat) (h : n < ll.length) : sumR (ll.take (n + 1)) = sumR (ll.take n) + ll[n].length := by
  have app : ∀ a b : List (List Int), sumR (a ++ b) = sumR a + sumR b := fun a b => by
    induction a with
    | nil => simp [sumR]
    | cons x a ih => simp only [List.cons_append, sumR, ih]; omega
  rw [List.take_succ_eq_append_getElem h, app]; simp [sumR]
theorem sumR_le {ll : List (List Int)} (h : ∀ l ∈ ll, l.length ≤ 64) : sumR ll ≤ 64 * ll.length := by
  induction ll with
  | nil => simp [sumR]
  | cons l ll ih =>
    have := h l (by simp)
    have := ih (fun x hx => h x (List.mem_cons_of_mem _ hx))
    simp only [sumR, List.length_cons]
    omega
def sumW : List Wy → Nat
  | [] => 0
  | x :: xs => x.1.length + sumR x.2 + sumW xs
theorem sumW_take (ll : List Wy) (n : Nat) (h : n < ll.length) : sumW (ll.take (n + 1)) = sumW (ll.take n) + ll[n].1.length + sumR ll[n].2 := by
  have app : ∀ a b : List Wy, sumW (a ++ b) = sumW a + sumW b := fun a b => by
    induction a with
    | nil => simp [sumW]
    | cons x a ih => simp only [List.cons_append, sumW, ih]; omega
  rw [List.take_succ_eq_append_getElem h, app]; simp [sumW]; omega
end M
/-- A small way. -/
structure WySm (x : M.Wy) : Prop where
  a : x.1.length ≤ 64
  b : x.2.length ≤ 64
  c : ∀ r ∈ x.2, r.length ≤ 64
theorem M.sumW_le {ll : List M.Wy} (h : ∀ x ∈ ll, WySm x) : M.sumW ll ≤ 4160 * ll.length := by
  induction ll with
  | nil => simp [M.sumW]
  | cons l ll ih =>
    have h1 := h l (by simp)
    have h2 := M.sumR_le h1.c
    have h3 := h1.a
    have h4 := h1.b
    have := ih (fun x hx => h x (List.mem_cons_of_mem _ hx))
    simp only [M.sumW, List.length_cons]
    omega

theorem markV_any (v : Value) (n : Nat) (k : Int) (w : World) (hn : n ≤ 64) (hk : 0 ≤ k) (hk2 : k ≤ 4611686018427387904) (h : VC w v n) :
    Calls Try.prog 34 #[v, .int .i64 k] w fun e w' => e = .returned (.int .i64 (k + n)) ∧ VM w' v k n ∧ Mk (fun j => v.ownBlock = some j) w w' := by
  obtain ⟨a, b, c, e, hc, ho⟩ := h.ex
  have C := markIntS_any a b 0 n c k w (by omega) hk hk2 hc
  rw [← e] at C
  exact C.mono fun _ _ ⟨h1, h2, h3⟩ => ⟨h1, ⟨a, b, c, e, h2, ho⟩, h3.mono fun j hj => by rw [hj.1]; exact ho hj.2⟩
theorem heldV_any (v : Value) (n : Nat) (k : Int) (w : World) (hn : n ≤ 64) (hk : 0 ≤ k) (hk2 : k ≤ 4611686018427387904) (h : VM w v k n) :
    Calls Try.prog 36 #[v, .int .i64 k] w fun e w' => e = .returned (.int .i64 (k + n)) ∧ w' = w := by
  obtain ⟨a, b, c, e, hc, ho⟩ := h.ex
  have C := heldIntS_any a b 0 n c k w (by omega) hk hk2 hc
  rwa [← e] at C

/-- A row of rows: where each lies. -/
structure YO (w : World) (a : Option Addr) (g n : Nat) (cs : List Value) : Prop where
  addr : 0 < n → a = some ⟨g, 0, none⟩
  cell : ∀ j u, cs[j]? = some u → w.cell? ⟨g, j, none⟩ = some u

set_option maxHeartbeats 1000000 in
theorem markRows_any (a : Option Addr) (g c : Nat) (cs : List Value) (rows : List (List Int)) (k : Int) (w : World) (hk : 0 ≤ k) (hk2 : k ≤ 2305843009213693952) (hl : rows.length ≤ 64) (hls : ∀ r ∈ rows, r.length ≤ 64) (ho : YO w a g rows.length cs)
    (hrow : ∀ j (h : j < rows.length), ∃ u, cs[j]? = some u ∧ VC w u rows[j].length) (hea : ∀ (i j : Nat) (u u' : Value), i ≠ j → cs[i]? = some u → cs[j]? = some u' → Off1 u u'.ownBlock) :
    Calls Try.prog 35 #[.slice a rows.length c, .int .i64 k] w fun e w' => e = .returned (.int .i64 (k + M.sumR rows)) ∧ (∀ j (h : j < rows.length), ∃ u, cs[j]? = some u ∧ VM w' u (k + M.sumR (rows.take j)) rows[j].length) ∧ Mk (fun j => ∃ u ∈ cs, u.ownBlock = some j) w w' := by
  go_enter Try.func35, Try.ntmps35
  go_wp2_with fail
  go_loopw [1, 5] (fun s1 s5 wr => ∃ m : Nat, s1 = .int .i64 (k + M.sumR (rows.take m)) ∧ s5 = .int .i64 m ∧ m ≤ rows.length ∧ Hid (∀ j (_ : j < m) (h : j < rows.length), ∃ u, cs[j]? = some u ∧ VM wr u (k + M.sumR (rows.take j)) rows[j].length) ∧ Mk (fun j => ∃ u ∈ cs, u.ownBlock = some j) w wr) (fun _ s5 _ => rows.length - (intOf s5).toNat)
  case atStart => exact ⟨0, by simp [M.sumR], rfl, Nat.zero_le _, fun j hj => absurd hj (Nat.not_lt_zero _), Mk.refl _ _⟩
  case round =>
    obtain ⟨m, rfl, rfl, hm, HD, hmk⟩ := hrel
    by_cases hlt : m < rows.length
    · obtain rfl := ho.addr (by omega)
      obtain ⟨u, hu, hvc⟩ := hrow m hlt
      have hle := hls _ (List.getElem_mem hlt)
      have HT : Hid (M.sumR (rows.take (m + 1)) = M.sumR (rows.take m) + rows[m].length) := M.sumR_take rows m hlt
      have hb := M.sumR_le (ll := rows.take m) (fun s hs => hls s (List.mem_of_mem_take hs))
      have hbl : (rows.take m).length ≤ 64 := by simp; omega
      have HV : Hid (∀ W x, VM W x (k + M.sumR (rows.take m)) rows[m].length → VM W x (k + M.sumR (rows.take m)) rows[m].length) := fun _ _ h => h
      obtain ⟨a1, b1, c1, eu, hc1, ho1⟩ := hvc.ex
      have hcell : wr.cell? ⟨g, m, none⟩ = some u := hmk.rest _ _ (ho.cell m u hu) (fun x e => by rw [eu] at e; cases e)
      have C := markV_any u rows[m].length (k + M.sumR (rows.take m)) wr hle (by omega) (by omega) (hvc.mk_ hmk)
      have HN : Hid (∀ w1, VM w1 u (k + M.sumR (rows.take m)) rows[m].length → Mk (fun j => u.ownBlock = some j) wr w1 → (∀ j (_ : j < m + 1) (h : j < rows.length), ∃ u, cs[j]? = some u ∧ VM w1 u (k + M.sumR (rows.take j)) rows[j].length) ∧ Mk (fun j => ∃ u ∈ cs, u.ownBlock = some j) w w1) := by
        intro w1 hv1 mk1
        refine ⟨fun j hj h => ?_, hmk.trans (mk1.mono fun j hj => ⟨u, List.mem_of_getElem? hu, hj⟩)⟩
        by_cases e : j = m
        · subst e; exact ⟨u, hu, hv1⟩
        · obtain ⟨u', e1, e2⟩ := HD.out j (by omega) h
          exact ⟨u', e1, e2.mk_ mk1 fun i hi hi' => hea j m u' u e e1 hu i hi hi'⟩
      have HE : Hid (k + (M.sumR (rows.take (m + 1)) : Int) = k + (M.sumR (rows.take m) : Int) + (rows[m].length : Int)) := by show _ = _; rw [HT.out]; omega
      clear HD HV hc1 ho1 hvc
      obtain ⟨T, hT⟩ : ∃ T, M.sumR (rows.take m) = T := ⟨_, rfl⟩
      rw [hT] at C HN HE hb ⊢
      clear hT HT
      generalize rows[m].length = L at *
      have i1 : (m : Int) < rows.length := by omega
      have i0 : ¬ (m : Int) < 0 := by omega
      subst eu
      go_wp2_with fail
      refine C.mono ?_
      rintro e w1 ⟨rfl, hv1, mk1⟩
      obtain ⟨n1, n2⟩ := HN.out w1 hv1 mk1
      go_wp2_with fail
      exact ⟨⟨m + 1, by rw [HE.out], by go_num, by omega, n1, n2⟩, by simp [intOf]; omega⟩
    · obtain rfl : m = rows.length := by omega
      go_wp2_with fail
      go_ret
      exact ⟨by rw [List.take_length]; rfl, fun j h => HD.out j h h, hmk⟩

set_option maxHeartbeats 1000000 in
theorem heldRows_any (a : Option Addr) (g c : Nat) (cs : List Value) (rows : List (List Int)) (k : Int) (w : World) (hk : 0 ≤ k) (hk2 : k ≤ 2305843009213693952) (hl : rows.length ≤ 64) (hls : ∀ r ∈ rows, r.length ≤ 64) (ho : YO w a g rows.length cs)
    (hrow : ∀ j (h : j < rows.length), ∃ u, cs[j]? = some u ∧ VM w u (k + M.sumR (rows.take j)) rows[j].length) :
    Calls Try.prog 37 #[.slice a rows.length c, .int .i64 k] w fun e w' => e = .returned (.int .i64 (k + M.sumR rows)) ∧ w' = w := by
  go_enter Try.func37, Try.ntmps37
  go_wp2_with fail
  go_loopw [1, 5] (fun s1 s5 wr => ∃ m : Nat, s1 = .int .i64 (k + M.sumR (rows.take m)) ∧ s5 = .int .i64 m ∧ m ≤ rows.length ∧ wr = w) (fun _ s5 _ => rows.length - (intOf s5).toNat)
  case atStart => exact ⟨0, by simp [M.sumR], rfl, Nat.zero_le _, rfl⟩
  case round =>
    obtain ⟨m, rfl, rfl, hm, rfl⟩ := hrel
    by_cases hlt : m < rows.length
    · obtain rfl := ho.addr (by omega)
      obtain ⟨u, hu, hvm⟩ := hrow m hlt
      have hle := hls _ (List.getElem_mem hlt)
      have hb := M.sumR_le (ll := rows.take m) (fun s hs => hls s (List.mem_of_mem_take hs))
      have hbl : (rows.take m).length ≤ 64 := by simp; omega
      have hcell := ho.cell m u hu
      obtain ⟨a1, b1, c1, eu, _, _⟩ := hvm.ex
      have C := heldV_any u rows[m].length (k + M.sumR (rows.take m)) _ hle (by omega) (by omega) hvm
      have HE : Hid (k + (M.sumR (rows.take (m + 1)) : Int) = k + (M.sumR (rows.take m) : Int) + (rows[m].length : Int)) := by show _ = _; rw [M.sumR_take rows m hlt]; omega
      clear hvm
      obtain ⟨T, hT⟩ : ∃ T, M.sumR (rows.take m) = T := ⟨_, rfl⟩
      rw [hT] at C HE hb ⊢
      clear hT
      generalize rows[m].length = L at *
      have i1 : (m : Int) < rows.length := by omega
      have i0 : ¬ (m : Int) < 0 := by omega
      have i2 : ¬ k + (T : Int) + (L : Int) < 0 := by omega
      subst eu
      go_wp2_with fail
      refine C.mono ?_
      rintro e w1 ⟨rfl, rfl⟩
      go_wp2_with fail
      exact ⟨⟨m + 1, by rw [HE.out], by go_num, by omega, trivial⟩, by simp [intOf]; omega⟩
    · obtain rfl : m = rows.length := by omega
      go_wp2_with fail
      go_ret
      exact ⟨by rw [List.take_length]; rfl, rfl⟩

/-- A way's rows, where they lie: to be written. -/
structure YC (w : World) (y : Y3) (x : M.Wy) : Prop where
  from_ : VC w y.1 x.1.length
  ord : ∃ a g c, y.2.1 = .slice a x.2.length c ∧ YO w a g x.2.length y.2.2
  row : ∀ j (h : j < x.2.length), ∃ u, y.2.2[j]? = some u ∧ VC w u x.2[j].length
/-- .. marked. -/
structure YM (w : World) (y : Y3) (x : M.Wy) (k : Int) : Prop where
  from_ : VM w y.1 k x.1.length
  row : ∀ j (h : j < x.2.length), ∃ u, y.2.2[j]? = some u ∧ VM w u (k + x.1.length + M.sumR (x.2.take j)) x.2[j].length
/-- .. they lie apart. -/
structure YS (y : Y3) : Prop where
  off : ∀ u ∈ y.2.2, Off1 u y.1.ownBlock
  each : ∀ (i j : Nat) (u u' : Value), i ≠ j → y.2.2[i]? = some u → y.2.2[j]? = some u' → Off1 u u'.ownBlock
theorem VC.sl {w : World} {v : Value} {n : Nat} (h : VC w v n) : ∀ x, v ≠ .int .i64 x := fun x e => by
  obtain ⟨a, b, c, rfl, _⟩ := h.ex
  cases e
theorem YC.mem {w : World} {y : Y3} {x : M.Wy} (h : YC w y x) (hl : y.2.2.length = x.2.length) {u : Value} (hu : u ∈ y.2.2) : ∃ n, VC w u n := by
  obtain ⟨i, hi, e⟩ := List.mem_iff_getElem.1 hu
  obtain ⟨u', e1, e2⟩ := h.row i (by omega)
  rw [List.getElem?_eq_getElem hi, e] at e1
  rw [Option.some.inj e1]
  exact ⟨_, e2⟩
theorem YC.mk_ {P : Nat → Prop} {w w' : World} {y : Y3} {x : M.Wy} (h : YC w y x) (hl : y.2.2.length = x.2.length) (hm : Mk P w w') : YC w' y x := by
  obtain ⟨a, g, c, e, ho⟩ := h.ord
  refine ⟨h.from_.mk_ hm, ⟨a, g, c, e, ho.addr, fun j u hj => ?_⟩, fun j hj => ?_⟩
  · obtain ⟨n, hn⟩ := h.mem hl (List.mem_of_getElem? hj)
    exact hm.rest _ _ (ho.cell j u hj) hn.sl
  · obtain ⟨u, e1, e2⟩ := h.row j hj
    exact ⟨u, e1, e2.mk_ hm⟩
theorem YM.mk_ {P : Nat → Prop} {w w' : World} {y : Y3} {x : M.Wy} {k : Int} (h : YM w y x k) (hm : Mk P w w') (hp : ∀ j, BlkY y j → ¬ P j) : YM w' y x k :=
  ⟨h.from_.mk_ hm fun j hj => hp j (Or.inl hj), fun i hi => by
    obtain ⟨u, e1, e2⟩ := h.row i hi
    exact ⟨u, e1, e2.mk_ hm fun j hj => hp j (Or.inr (Or.inr ⟨u, List.mem_of_getElem? e1, hj⟩))⟩⟩
theorem YM.below {w w' : World} {y : Y3} {x : M.Wy} {k : Int} (h : YM w y x k) (hb : Below w.heap.size w w') : YM w' y x k :=
  ⟨h.from_.below hb, fun i hi => by
    obtain ⟨u, e1, e2⟩ := h.row i hi
    exact ⟨u, e1, e2.below hb⟩⟩

/-- All ways, where they lie. -/
structure LC (w : World) (a : Option Addr) (g : Nat) (ys : List Y3) (xs : List M.Wy) : Prop where
  len : Hid (ys.length = xs.length)
  addr : 0 < xs.length → a = some ⟨g, 0, none⟩
  cell : ∀ i (h : i < ys.length), w.cell? ⟨g, i * 2, none⟩ = some ys[i].1 ∧ w.cell? ⟨g, i * 2 + 1, none⟩ = some ys[i].2.1
  rlen : ∀ i (_ : i < xs.length) (h' : i < ys.length), ys[i].2.2.length = xs[i].2.length
  row : ∀ i (_ : i < xs.length) (h' : i < ys.length), YC w ys[i] xs[i]
  st : ∀ y ∈ ys, YS y
  each : ys.Pairwise fun y z => ∀ k, BlkY y k → ¬ BlkY z k
theorem LC.mk_ {P : Nat → Prop} {w w' : World} {a : Option Addr} {g : Nat} {ys : List Y3} {xs : List M.Wy} (h : LC w a g ys xs) (hm : Mk P w w') : LC w' a g ys xs :=
  ⟨h.len, h.addr, fun i hi => by
    have hi' : i < xs.length := by have := h.len.out; omega
    obtain ⟨c1, c2⟩ := h.cell i hi
    obtain ⟨a, g, c, e, _⟩ := (h.row i hi' hi).ord
    exact ⟨hm.rest _ _ c1 (h.row i hi' hi).from_.sl, hm.rest _ _ c2 (fun x e' => by rw [e] at e'; cases e')⟩, h.rlen, fun i hi hi' => (h.row i hi hi').mk_ (h.rlen i hi hi') hm, h.st, h.each⟩
theorem WL.lc {W : World} {base : Nat} {v : Value} {ys : List Y3} {xs : List M.Wy} (h : WL W base v ys xs) : ∃ a g c, v = .slice a xs.length c ∧ LC W a g ys xs := by
  obtain ⟨a, g, c, e1, e2, e3⟩ := own_two h.own
  have hl := h.len.out
  have rl : ∀ i (_ : i < xs.length) (h' : i < ys.length), ys[i].2.2.length = xs[i].2.length := fun i hi hi' => by have := (h.row i hi hi').ord.1; omega
  refine ⟨a, g, c, e1, h.len, e2, fun i hi => ?_, rl, fun i hi hi' => ?_, fun y hy => ?_, h.each⟩
  · obtain ⟨c1, c2⟩ := cellsY_get ys i hi
    exact ⟨e3 _ _ c1, e3 _ _ c2⟩
  · have hx := h.row i hi hi'
    refine ⟨.of_own hx.from_, ?_, fun j hj => ?_⟩
    · rcases hx.ord.2 with ⟨hv, hn⟩ | ⟨g', cap, cur, hv, hg, hh, r⟩
      · have hc0 : ys[i].2.2 = [] := List.length_eq_zero_iff.1 (by rw [rl i hi hi', hn])
        exact ⟨none, 0, 0, by rw [hv, hn], fun h => absurd h (by omega), fun j u hj => by rw [hc0] at hj; simp at hj⟩
      · refine ⟨_, g', cap, hv, fun _ => rfl, fun j u hj => ?_⟩
        have := hx.ord.cells (g := g') (by rw [hv]; rfl) j u hj
        rwa [Go.WideShapes.add_plain, Nat.zero_add] at this
    · obtain ⟨u, f1, f2, _⟩ := hx.row j hj
      exact ⟨u, f1, .of_own f2⟩
  · obtain ⟨i, hi, rfl⟩ := List.getElem_of_mem hy
    have hx := h.row i (by omega) hi
    refine ⟨fun u hu => ?_, hx.each⟩
    obtain ⟨j, hj, e⟩ := List.mem_iff_getElem.1 hu
    obtain ⟨u', f1, _, _, f4⟩ := hx.row j (by have := rl i (by omega) hi; omega)
    rw [List.getElem?_eq_getElem hj, e] at f1
    rw [Option.some.inj f1]
    exact f4

set_option maxHeartbeats 2000000 in
theorem markExecS_any (a : Option Addr) (g c : Nat) (ys : List Y3) (xs : List M.Wy) (w : World) (hl : xs.length ≤ 5489031744) (hsm : ∀ x ∈ xs, WySm x) (h : LC w a g ys xs) :
    Calls Try.prog 14 #[.slice a xs.length c, .int .i64 1] w fun e w' => e = .returned (.int .i64 (1 + M.sumW xs)) ∧ (∀ i (_ : i < xs.length) (h' : i < ys.length), YM w' ys[i] xs[i] (1 + M.sumW (xs.take i))) ∧ Mk (fun j => ∃ y ∈ ys, BlkY y j) w w' := by
  have hlen := h.len.out
  go_enter Try.func14, Try.ntmps14
  go_wp2_with fail
  go_loopw [1, 5] (fun s1 s5 wr => ∃ m : Nat, s1 = .int .i64 (1 + M.sumW (xs.take m)) ∧ s5 = .int .i64 m ∧ m ≤ xs.length ∧ Hid (∀ i (_ : i < m) (_ : i < xs.length) (h' : i < ys.length), YM wr ys[i] xs[i] (1 + M.sumW (xs.take i))) ∧ Mk (fun j => ∃ y ∈ ys, BlkY y j) w wr) (fun _ s5 _ => xs.length - (intOf s5).toNat)
  case atStart => exact ⟨0, by simp [M.sumW], rfl, Nat.zero_le _, fun j hj => absurd hj (Nat.not_lt_zero _), Mk.refl _ _⟩
  case round =>
    obtain ⟨m, rfl, rfl, hm, HD, hmk⟩ := hrel
    by_cases hlt : m < xs.length
    · have hlt' : m < ys.length := by omega
      obtain rfl := h.addr (by omega)
      have hr := h.mk_ hmk
      obtain ⟨k1, k2⟩ := hr.cell m hlt'
      have hyc := hr.row m hlt hlt'
      have hyl := hr.rlen m hlt hlt'
      have hys := h.st _ (List.getElem_mem hlt')
      have hx := hsm _ (List.getElem_mem hlt)
      have HT : Hid ((1 : Int) + (M.sumW (xs.take (m + 1)) : Int) = 1 + (M.sumW (xs.take m) : Int) + (xs[m].1.length : Int) + (M.sumR xs[m].2 : Int)) := by show _ = _; rw [M.sumW_take xs m hlt]; omega
      have hb := M.sumW_le (ll := xs.take m) (fun s hs => hsm s (List.mem_of_mem_take hs))
      have hbl : (xs.take m).length ≤ 5489031744 := by simp; omega
      have HN : Hid (∀ w1, YM w1 ys[m] xs[m] (1 + M.sumW (xs.take m)) → Mk (fun j => BlkY ys[m] j) wr w1 → (∀ i (_ : i < m + 1) (_ : i < xs.length) (h' : i < ys.length), YM w1 ys[i] xs[i] (1 + M.sumW (xs.take i))) ∧ Mk (fun j => ∃ y ∈ ys, BlkY y j) w w1) := by
        intro w1 hv1 mk1
        refine ⟨fun i hi h1 h2 => ?_, hmk.trans (mk1.mono fun j hj => ⟨_, List.getElem_mem hlt', hj⟩)⟩
        by_cases e : i = m
        · subst e; exact hv1
        · exact (HD.out i (by omega) h1 h2).mk_ mk1 fun j hj => List.pairwise_iff_getElem.1 h.each i m h2 hlt' (by omega) j hj
      clear HD hr
      obtain ⟨T, hT⟩ : ∃ T, M.sumW (xs.take m) = T := ⟨_, rfl⟩
      rw [hT] at HN HT hb ⊢
      clear hT
      generalize xs[m] = x at *
      generalize ys[m] = y at *
      obtain ⟨fv, ov, cs⟩ := y
      obtain ⟨l, rows⟩ := x
      obtain ⟨oa, og, oc, e2, ho⟩ := hyc.ord
      have e2' : ov = .slice oa rows.length oc := e2
      subst e2'
      obtain ⟨fa, fb, fc, e1, _, _⟩ := hyc.from_.ex
      have e1' : fv = .slice fa l.length fc := e1
      subst e1'
      have hxa : l.length ≤ 64 := hx.a
      have i1 : (m : Int) < xs.length := by omega
      have i0 : ¬ (m : Int) < 0 := by omega
      have C := markV_any (.slice fa l.length fc) l.length (1 + T) wr hxa (by omega) (by omega) hyc.from_
      go_wp2_with fail
      refine C.mono ?_
      rintro e w1 ⟨rfl, hv1, mk1⟩
      have hyc1 := hyc.mk_ hyl mk1
      have k2' := mk1.rest _ _ k2 (fun _ e => by cases e)
      obtain ⟨oa', og', oc', e3, ho1⟩ := hyc1.ord
      simp only [Value.slice.injEq] at e3
      obtain ⟨e31, _, e33⟩ := e3
      subst e31 e33
      have C2 := markRows_any oa og' oc cs rows (1 + T + l.length) w1 (by omega) (by omega) hx.b hx.c ho1 hyc1.row hys.each
      clear C
      go_wp2_with fail
      refine C2.mono ?_
      rintro e w2 ⟨rfl, hr2, mk2⟩
      obtain ⟨n1, n2⟩ := HN.out w2 ⟨hv1.mk_ mk2 (fun j hj ⟨u, hu, hj'⟩ => hys.off u hu j hj' hj), hr2⟩ ((mk1.mono fun j hj => Or.inl hj).trans (mk2.mono fun j ⟨u, hu, hj⟩ => Or.inr (Or.inr ⟨u, hu, hj⟩)))
      clear C2
      go_wp2_with fail
      exact ⟨⟨m + 1, by rw [HT.out], by go_num, by omega, n1, n2⟩, by simp [intOf]; omega⟩
    · obtain rfl : m = xs.length := by omega
      go_wp2_with fail
      go_ret
      exact ⟨by rw [List.take_length]; rfl, fun i h1 h2 => HD.out i h1 h1 h2, hmk⟩

/-- All ways, marked. -/
structure LM (w : World) (a : Option Addr) (g : Nat) (ys : List Y3) (xs : List M.Wy) : Prop where
  len : Hid (ys.length = xs.length)
  addr : 0 < xs.length → a = some ⟨g, 0, none⟩
  cell : ∀ i (h : i < ys.length), w.cell? ⟨g, i * 2, none⟩ = some ys[i].1 ∧ w.cell? ⟨g, i * 2 + 1, none⟩ = some ys[i].2.1
  ord : ∀ i (_ : i < xs.length) (h' : i < ys.length), ∃ a g c, ys[i].2.1 = .slice a xs[i].2.length c ∧ YO w a g xs[i].2.length ys[i].2.2
  row : ∀ i (_ : i < xs.length) (h' : i < ys.length), YM w ys[i] xs[i] (1 + M.sumW (xs.take i))
theorem LC.lm {w : World} {a : Option Addr} {g : Nat} {ys : List Y3} {xs : List M.Wy} (h : LC w a g ys xs) (hm : ∀ i (_ : i < xs.length) (h' : i < ys.length), YM w ys[i] xs[i] (1 + M.sumW (xs.take i))) : LM w a g ys xs :=
  ⟨h.len, h.addr, h.cell, fun i hi hi' => (h.row i hi hi').ord, hm⟩
theorem LM.below {w w' : World} {a : Option Addr} {g : Nat} {ys : List Y3} {xs : List M.Wy} (h : LM w a g ys xs) (hb : Below w.heap.size w w') : LM w' a g ys xs :=
  ⟨h.len, h.addr, fun i hi => by
    obtain ⟨c1, c2⟩ := h.cell i hi
    exact ⟨(hb.cell (p := ⟨g, i * 2, none⟩) (World.block_lt_of_cell? _ _ c1)).trans c1, (hb.cell (p := ⟨g, i * 2 + 1, none⟩) (World.block_lt_of_cell? _ _ c2)).trans c2⟩, fun i hi hi' => by
    obtain ⟨a, g, c, e, ho⟩ := h.ord i hi hi'
    exact ⟨a, g, c, e, ho.addr, fun j u hj => (hb.cell (p := ⟨g, j, none⟩) (World.block_lt_of_cell? _ _ (ho.cell j u hj))).trans (ho.cell j u hj)⟩, fun i hi hi' => (h.row i hi hi').below hb⟩

set_option maxHeartbeats 2000000 in
theorem heldExecS_any (a : Option Addr) (g c : Nat) (ys : List Y3) (xs : List M.Wy) (w : World) (hl : xs.length ≤ 5489031744) (hsm : ∀ x ∈ xs, WySm x) (h : LM w a g ys xs) :
    Calls Try.prog 15 #[.slice a xs.length c, .int .i64 1] w fun e w' => e = .returned (.int .i64 (1 + M.sumW xs)) ∧ w' = w := by
  have hlen := h.len.out
  go_enter Try.func15, Try.ntmps15
  go_wp2_with fail
  go_loopw [1, 5] (fun s1 s5 wr => ∃ m : Nat, s1 = .int .i64 (1 + M.sumW (xs.take m)) ∧ s5 = .int .i64 m ∧ m ≤ xs.length ∧ wr = w) (fun _ s5 _ => xs.length - (intOf s5).toNat)
  case atStart => exact ⟨0, by simp [M.sumW], rfl, Nat.zero_le _, rfl⟩
  case round =>
    obtain ⟨m, rfl, rfl, hm, rfl⟩ := hrel
    by_cases hlt : m < xs.length
    · have hlt' : m < ys.length := by omega
      obtain rfl := h.addr (by omega)
      obtain ⟨k1, k2⟩ := h.cell m hlt'
      have hym := h.row m hlt hlt'
      have hord := h.ord m hlt hlt'
      have hx := hsm _ (List.getElem_mem hlt)
      have HT : Hid ((1 : Int) + (M.sumW (xs.take (m + 1)) : Int) = 1 + (M.sumW (xs.take m) : Int) + (xs[m].1.length : Int) + (M.sumR xs[m].2 : Int)) := by show _ = _; rw [M.sumW_take xs m hlt]; omega
      have hb := M.sumW_le (ll := xs.take m) (fun s hs => hsm s (List.mem_of_mem_take hs))
      have hbl : (xs.take m).length ≤ 5489031744 := by simp; omega
      obtain ⟨T, hT⟩ : ∃ T, M.sumW (xs.take m) = T := ⟨_, rfl⟩
      rw [hT] at hym HT hb ⊢
      clear hT
      generalize xs[m] = x at *
      generalize ys[m] = y at *
      obtain ⟨fv, ov, cs⟩ := y
      obtain ⟨l, rows⟩ := x
      obtain ⟨oa, og, oc, e2, ho⟩ := hord
      have e2' : ov = .slice oa rows.length oc := e2
      subst e2'
      obtain ⟨fa, fb, fc, e1, _, _⟩ := hym.from_.ex
      have e1' : fv = .slice fa l.length fc := e1
      subst e1'
      have hxa : l.length ≤ 64 := hx.a
      have i1 : (m : Int) < xs.length := by omega
      have i0 : ¬ (m : Int) < 0 := by omega
      have i2 : ¬ (1 : Int) + (T : Int) + (l.length : Int) < 0 := by omega
      have i3 : ¬ (1 : Int) + (T : Int) + (l.length : Int) + (M.sumR rows : Int) < 0 := by omega
      have C := heldV_any (.slice fa l.length fc) l.length (1 + T) _ hxa (by omega) (by omega) hym.from_
      have C2 := heldRows_any oa og oc cs rows (1 + T + l.length) _ (by omega) (by omega) hx.b hx.c ho hym.row
      go_wp2_with fail
      refine C.mono ?_
      rintro e w1 ⟨rfl, rfl⟩
      clear C
      go_wp2_with fail
      refine C2.mono ?_
      rintro e w2 ⟨rfl, rfl⟩
      clear C2
      go_wp2_with fail
      exact ⟨⟨m + 1, by rw [HT.out], by go_num, by omega, trivial⟩, by simp [intOf]; omega⟩
    · obtain rfl : m = xs.length := by omega
      go_wp2_with fail
      go_ret
      exact ⟨by rw [List.take_length]; rfl, rfl⟩

end Go.Proofs.Ytelmclbojpbcbaa

namespace Go.Proofs.Ytelmclbojpbcbaa
open Go.RowKit

set_option maxHeartbeats 400000 in
theorem markDoS_any (a : Option Addr) (b o n c : Nat) (k : Int) (w : World) (hn : n ≤ 1048576) (hk : 0 ≤ k) (hk2 : k ≤ 4611686018427387904) (had : 0 < n → a = some ⟨b, o, none⟩) (hrow : ∀ i, i < n * 3 → ∃ x, w.cell? ⟨b, o + i, none⟩ = some (.int .i64 x)) (hfz : 0 < n → Fz w b) :
    Calls Try.prog 64 #[.slice a n c, .int .i64 k] w fun e w' => e = .returned (.int .i64 (k + n * 3)) ∧ Mk (fun j => j = b ∧ 0 < n) w w' := by
  go_enter Try.func64, Try.ntmps64
  go_wp2_with fail
  go_loopw [1, 5] (fun s1 s5 wr => ∃ m : Nat, s1 = .int .i64 (k + m * 3) ∧ s5 = .int .i64 m ∧ m ≤ n ∧ Mk (fun j => j = b ∧ 0 < n) w wr) (fun _ s5 _ => n - (intOf s5).toNat)
  case atStart => exact ⟨0, by simp, rfl, Nat.zero_le _, Mk.refl _ _⟩
  case round =>
    obtain ⟨m, rfl, rfl, hm, hmk⟩ := hrel
    by_cases hlt : m < n
    · obtain ⟨rfl⟩ := had (by omega)
      obtain ⟨x0, y0⟩ := hrow (m * 3) (by omega)
      obtain ⟨x1, y1⟩ := hrow (m * 3 + 1) (by omega)
      obtain ⟨x2, y2⟩ := hrow (m * 3 + 2) (by omega)
      obtain ⟨z0, c0⟩ := hmk.ints _ _ y0
      obtain ⟨z1, c1⟩ := hmk.ints _ _ y1
      obtain ⟨z2, c2⟩ := hmk.ints _ _ y2
      have fz : ∀ j, wr.frozen? ⟨b, j, none⟩ = false := fun j => (hmk.fz _).trans (hfz (by omega) j)
      rw [← Nat.add_assoc] at c1 c2
      have i1 : (m : Int) < n := by omega
      have hP : (fun j => j = b ∧ 0 < n) b := ⟨rfl, by omega⟩
      have m1 := hmk.setCell (y := k + m * 3) hP c0
      have c1' : (wr.setCell ⟨b, o + m * 3, none⟩ (.int .i64 (k + m * 3))).cell? ⟨b, o + m * 3 + 1, none⟩ = some (.int .i64 z1) := by rw [World.cell?_setCell_other _ _ _ _ (fun e => by have := congrArg Addr.off e; simp at this)]; exact c1
      have m2 := m1.setCell (y := k + m * 3 + 1) hP c1'
      have c2' : ((wr.setCell ⟨b, o + m * 3, none⟩ (.int .i64 (k + m * 3))).setCell ⟨b, o + m * 3 + 1, none⟩ (.int .i64 (k + m * 3 + 1))).cell? ⟨b, o + m * 3 + 2, none⟩ = some (.int .i64 z2) := by rw [World.cell?_setCell_other _ _ _ _ (fun e => by have := congrArg Addr.off e; simp at this), World.cell?_setCell_other _ _ _ _ (fun e => by have := congrArg Addr.off e; simp at this)]; exact c2
      have m3 := m2.setCell (y := k + m * 3 + 1 + 1) hP c2'
      clear c1' c2' m1 m2 y0 y1 y2
      go_wp2_with fail
      refine ⟨⟨m + 1, ?_, by go_num, by omega, m3⟩, by simp [intOf]; omega⟩
      congr 1; omega
    · obtain rfl : m = n := by omega
      go_wp2_with fail
      go_ret
      exact ⟨rfl, hmk⟩

/-- How many steps they have. -/
def tot3 : List (List M.D) → Nat
  | [] => 0
  | l :: ll => l.length + tot3 ll
theorem tot3_take (ll : List (List M.D)) (n : Nat) (h : n < ll.length) : tot3 (ll.take (n + 1)) = tot3 (ll.take n) + ll[n].length := by
  have app : ∀ a b : List (List M.D), tot3 (a ++ b) = tot3 a + tot3 b := fun a b => by
    induction a with
    | nil => simp [tot3]
    | cons x a ih => simp only [List.cons_append, tot3, ih]; omega
  rw [List.take_succ_eq_append_getElem h, app]; simp [tot3]
theorem tot3_le {ll : List (List M.D)} (h : ∀ l ∈ ll, l.length ≤ 1048576) : tot3 ll ≤ 1048576 * ll.length := by
  induction ll with
  | nil => simp [tot3]
  | cons l ll ih =>
    have := h l (by simp)
    have := ih (fun x hx => h x (List.mem_cons_of_mem _ hx))
    simp only [tot3, List.length_cons]
    omega

set_option maxHeartbeats 1000000 in
theorem markDoSS_any (g c B N : Nat) (ll : List (List M.D)) (w : World) (hl : ll.length ≤ 1048576) (hls : ∀ l ∈ ll, l.length ≤ 1048576) (h : NewSS w B N g ll) :
    Calls Try.prog 33 #[.slice (some ⟨g, 0, none⟩) ll.length c, .int .i64 1] w fun e w' => ∃ k : Int, e = .returned (.int .i64 k) ∧ (0 ≤ k ∧ k ≤ 4398046511104) ∧ Mk (fun j => B ≤ j ∧ j < N) w w' := by
  go_enter Try.func33, Try.ntmps33
  go_wp2_with fail
  go_loopw [1, 5] (fun s1 s5 wr => ∃ m : Nat, s1 = .int .i64 (1 + tot3 (ll.take m) * 3) ∧ s5 = .int .i64 m ∧ m ≤ ll.length ∧ Mk (fun j => B ≤ j ∧ j < N) w wr) (fun _ s5 _ => ll.length - (intOf s5).toNat)
  case atStart => exact ⟨0, by simp [tot3], rfl, Nat.zero_le _, Mk.refl _ _⟩
  case round =>
    obtain ⟨m, rfl, rfl, hm, hmk⟩ := hrel
    by_cases hlt : m < ll.length
    · obtain ⟨a', b', o', c', hc, hd, hb', hz, hl2⟩ := h.row m hlt
      have hc' := hmk.rest _ _ hc (fun _ e => by cases e)
      have hle := hls _ (List.getElem_mem hlt)
      have HT : Hid (tot3 (ll.take (m + 1)) = tot3 (ll.take m) + ll[m].length) := tot3_take ll m hlt
      have hb := tot3_le (ll := ll.take m) (fun s hs => hls s (List.mem_of_mem_take hs))
      have hbl : (ll.take m).length ≤ 1048576 := by simp; omega
      generalize ll[m] = l at *
      obtain ⟨T, hT⟩ : ∃ T, tot3 (ll.take m) = T := ⟨_, rfl⟩
      have HT2 : Hid (tot3 (ll.take m) = T) := hT
      rw [hT] at hb ⊢
      clear hT hc
      have i1 : (m : Int) < ll.length := by omega
      have C := markDoS_any a' b' o' l.length c' (1 + T * 3) wr hle (by omega) (by omega) hd.addr (fun i hi => by
        have hr := hd.row (i / 3) (by omega)
        have key : ∃ x, w.cell? ⟨b', o' + i, none⟩ = some (.int .i64 x) := by
          rcases Nat.lt_or_ge (i % 3) 1 with h0 | h0
          · exact ⟨_, by rw [show o' + i = o' + i / 3 * 3 from by omega]; exact hr.k⟩
          · rcases Nat.lt_or_ge (i % 3) 2 with h1 | h1
            · exact ⟨_, by rw [show o' + i = o' + i / 3 * 3 + 1 from by omega]; exact hr.p⟩
            · exact ⟨_, by rw [show o' + i = o' + i / 3 * 3 + 2 from by omega]; exact hr.v⟩
        obtain ⟨x, hx⟩ := key
        exact hmk.ints _ x hx) (fun _ j => (hmk.fz _).trans (hz j))
      go_wp2_with fail
      refine C.mono ?_
      rintro e w1 ⟨rfl, mk1⟩
      go_wp2_with fail
      refine ⟨⟨m + 1, ?_, by go_num, by omega, hmk.trans (mk1.mono (fun j hj => ?_))⟩, by simp [intOf]; omega⟩
      · rw [HT.out, HT2.out]; congr 1; omega
      · obtain ⟨rfl, _⟩ := hj; exact ⟨hb', hl2⟩
    · obtain rfl : m = ll.length := by omega
      have hb := tot3_le (ll := ll.take ll.length) (fun s hs => hls s (List.mem_of_mem_take hs))
      have hbl : (ll.take ll.length).length ≤ 1048576 := by simp; omega
      go_wp2_with fail
      go_ret
      exact ⟨_, rfl, by omega, hmk⟩

set_option maxHeartbeats 400000 in
theorem markProg_any (g c B N : Nat) (ll : List (List M.D)) (w : World) (hl : ll.length ≤ 1048576) (hls : ∀ l ∈ ll, l.length ≤ 1048576) (h : NewSS w B N g ll) :
    Calls Try.prog 13 #[.agg #[.slice (some ⟨g, 0, none⟩) ll.length c], .int .i64 1] w fun e w' => ∃ (k : Int) (wa : World), e = .returned (.int .i64 k) ∧ (0 ≤ k ∧ k ≤ 4398046511104) ∧ wa = w.alloc (.cells #[.slice (some ⟨g, 0, none⟩) ll.length c] 30) ∧ Mk (fun j => B ≤ j ∧ j < N) wa w' := by
  have hb1 := below1 w (.cells #[.slice (some ⟨g, 0, none⟩) ll.length c] 30)
  have C := markDoSS_any g c B N ll _ hl hls (h.below hb1 (Nat.le_refl _))
  go_enter Try.func13, Try.ntmps13
  go_wp2_with fail
  refine C.mono ?_
  rintro e w1 ⟨k, rfl, hk, hmk⟩
  go_wp2_with fail
  go_ret
  exact ⟨k, _, rfl, hk, rfl, hmk⟩

end Go.Proofs.Ytelmclbojpbcbaa

namespace Go.Proofs.Ytelmclbojpbcbaa
open Go.RowKit

set_option maxHeartbeats 400000 in
theorem eqDo_same (d : M.D) (w : World) :
    Calls Try.prog 84 #[.agg #[.int .i64 d.k, .int .i64 d.p, .int .i64 d.v], .agg #[.int .i64 d.k, .int .i64 d.p, .int .i64 d.v]] w fun e w' => e = .returned (.bool true) ∧ Below w.heap.size w w' := by
  obtain ⟨k, p, v⟩ := d
  go_enter Try.func84, Try.ntmps84
  go_wp2_with fail
  go_ret
  exact ⟨rfl, below2 _ _ _⟩

set_option maxHeartbeats 400000 in
theorem eqDoS_same (a : Option Addr) (b o c : Nat) (a2 : Option Addr) (b2 o2 c2 : Nat) (l : List M.D) (w : World) (hl : l.length ≤ 1048576) (h : DoS w a b o l) (h2 : DoS w a2 b2 o2 l) :
    Calls Try.prog 63 #[.slice a l.length c, .slice a2 l.length c2] w fun e w' => e = .returned (.bool true) ∧ Below w.heap.size w w' := by
  go_enter Try.func63, Try.ntmps63
  go_wp2_with fail
  go_loopw [5] (fun s5 wr => ∃ n : Nat, s5 = .int .i64 n ∧ n ≤ l.length ∧ Below w.heap.size w wr) (fun s5 _ => l.length - (intOf s5).toNat)
  case atStart => exact ⟨0, rfl, Nat.zero_le _, Below.refl _ _⟩
  case round =>
    obtain ⟨n, rfl, hn, hbel⟩ := hrel
    by_cases hlt : n < l.length
    · obtain ⟨rfl⟩ := h.addr (by omega)
      obtain ⟨rfl⟩ := h2.addr (by omega)
      have hd := (h.row n hlt).below hbel (Nat.le_refl _)
      have hd2 := (h2.row n hlt).below hbel (Nat.le_refl _)
      generalize l[n] = d at hd hd2
      obtain ⟨k, p, v⟩ := d
      obtain ⟨ck, cp, cv⟩ := hd
      obtain ⟨ck2, cp2, cv2⟩ := hd2
      go_wp2_with fail
      go_region_with (go_at_call 84; refine (eqDo_same ⟨k, p, v⟩ _).mono ?_; rintro e w1 ⟨rfl, hb1⟩)
      all_goals
        go_wp2_with fail
        exact ⟨⟨n + 1, by go_num, by omega, hbel.drew.trans (hb1.mono hbel.size)⟩, by simp [intOf]; omega⟩
    · go_wp2_with fail
      go_ret
      exact ⟨rfl, hbel⟩

set_option maxHeartbeats 400000 in
theorem eqDoSS_same (a : Option Addr) (b o c : Nat) (a2 : Option Addr) (b2 o2 c2 : Nat) (ll : List (List M.D)) (w : World) (hl : ll.length ≤ 1048576) (hls : ∀ t ∈ ll, t.length ≤ 1048576) (h : DoSS w a b o ll) (h2 : DoSS w a2 b2 o2 ll) :
    Calls Try.prog 32 #[.slice a ll.length c, .slice a2 ll.length c2] w fun e w' => e = .returned (.bool true) ∧ Below w.heap.size w w' := by
  go_enter Try.func32, Try.ntmps32
  go_wp2_with fail
  go_loopw [5] (fun s5 wr => ∃ n : Nat, s5 = .int .i64 n ∧ n ≤ ll.length ∧ Below w.heap.size w wr) (fun s5 _ => ll.length - (intOf s5).toNat)
  case atStart => exact ⟨0, rfl, Nat.zero_le _, Below.refl _ _⟩
  case round =>
    obtain ⟨n, rfl, hn, hbel⟩ := hrel
    by_cases hlt : n < ll.length
    · obtain ⟨rfl⟩ := h.addr (by omega)
      obtain ⟨rfl⟩ := h2.addr (by omega)
      obtain ⟨a', b', o', c', hc, hd⟩ := (h.below hbel (Nat.le_refl _)).row n hlt
      obtain ⟨a3, b3, o3, c3, hc3, hd3⟩ := (h2.below hbel (Nat.le_refl _)).row n hlt
      have hlt' := hls _ (List.getElem_mem hlt)
      generalize ll[n] = t at hd hc hd3 hc3 hlt'
      go_wp2_with fail
      go_region_with (go_at_call 63; refine (eqDoS_same a' b' o' c' a3 b3 o3 c3 t _ hlt' ?_ ?_).mono ?_; exact hd.below (Below.refl _ _).drew (Nat.le_refl _); exact hd3.below (Below.refl _ _).drew (Nat.le_refl _); rintro e w1 ⟨rfl, hb1⟩)
      all_goals
        go_wp2_with fail
        exact ⟨⟨n + 1, by go_num, by omega, hbel.drew.trans (hb1.mono hbel.size)⟩, by simp [intOf]; omega⟩
    · go_wp2_with fail
      go_ret
      exact ⟨rfl, hbel⟩

set_option maxHeartbeats 400000 in
theorem eqProg_same (a : Option Addr) (b o c : Nat) (a2 : Option Addr) (b2 o2 c2 : Nat) (ll : List (List M.D)) (w : World) (hl : ll.length ≤ 1048576) (hls : ∀ t ∈ ll, t.length ≤ 1048576) (h : DoSS w a b o ll) (h2 : DoSS w a2 b2 o2 ll) :
    Calls Try.prog 12 #[.agg #[.slice a ll.length c], .agg #[.slice a2 ll.length c2]] w fun e w' => e = .returned (.bool true) ∧ Below w.heap.size w w' := by
  go_enter Try.func12, Try.ntmps12
  go_wp2_with (go_at_call 32; refine (eqDoSS_same a b o c a2 b2 o2 c2 ll _ hl hls (h.below (below2 w _ _) (Nat.le_refl _)) (h2.below (below2 w _ _) (Nat.le_refl _))).mono ?_; rintro e w1 ⟨rfl, hb1⟩)
  go_ret
  exact ⟨rfl, (below2 w _ _).trans (hb1.mono (by simp; omega))⟩

end Go.Proofs.Ytelmclbojpbcbaa

namespace Go.Proofs.Ytelmclbojpbcbaa
open Go.RowKit

set_option maxHeartbeats 400000 in
theorem szDoS_any (a : Option Addr) (n c : Nat) (left : Int) (w : World) (h0 : 0 ≤ left) (h1 : left ≤ 1048576) (hn : n ≤ 9223372036854775807) :
    Calls Try.prog 47 #[.slice a n c, .int .i64 left] w fun e w' => ∃ r : Int, e = .returned (.int .i64 r) ∧ w' = w ∧ r ≤ 1048576 ∧ (r < 0 ∨ (0 ≤ r ∧ n ≤ 1048576)) := by
  by_cases hs : left - n < 0
  · go_enter Try.func47, Try.ntmps47
    go_wp2_with fail
    go_ret
    exact ⟨-1, rfl, rfl, by omega, Or.inl (by omega)⟩
  · go_enter Try.func47, Try.ntmps47
    go_wp2_with fail
    go_ret
    exact ⟨left - n, rfl, rfl, by omega, Or.inr ⟨by omega, by omega⟩⟩

set_option maxHeartbeats 400000 in
theorem szDoSS_le (a : Option Addr) (b o c : Nat) (ll : List (List M.D)) (left : Int) (w : World) (h0 : 0 ≤ left) (h1 : left ≤ 1048576) (hl : ll.length ≤ 9223372036854775807) (hls : ∀ t ∈ ll, t.length ≤ 9223372036854775807) (h : DoSS w a b o ll) :
    Calls Try.prog 22 #[.slice a ll.length c, .int .i64 left] w fun e w' => ∃ r : Int, e = .returned (.int .i64 r) ∧ w' = w ∧ (r < 0 ∨ (r ≤ 1048576 ∧ 0 ≤ r ∧ ll.length ≤ 1048576 ∧ ∀ t ∈ ll, t.length ≤ 1048576)) := by
  by_cases hs : left - ll.length < 0
  · go_enter Try.func22, Try.ntmps22
    go_wp2_with fail
    go_ret
    exact ⟨-1, rfl, rfl, Or.inl (by omega)⟩
  · go_enter Try.func22, Try.ntmps22
    go_wp2_with fail
    go_loopw [1, 5] (fun s1 s5 wr => ∃ (r : Int) (n : Nat), s1 = .int .i64 r ∧ s5 = .int .i64 n ∧ n ≤ ll.length ∧ 0 ≤ r ∧ r ≤ 1048576 ∧ (∀ q (_ : q < n) (hq : q < ll.length), ll[q].length ≤ 1048576) ∧ wr = w) (fun _ s5 _ => ll.length - (intOf s5).toNat)
    case atStart => exact ⟨_, 0, rfl, rfl, Nat.zero_le _, by omega, by omega, fun q hq _ => absurd hq (Nat.not_lt_zero _), rfl⟩
    case round =>
      obtain ⟨r, n, rfl, rfl, hn, hr0, hr1, hall, rfl⟩ := hrel
      have HA : Hid (∀ q (_ : q < n) (hq : q < ll.length), ll[q].length ≤ 1048576) := hall
      clear hall
      by_cases hlt : n < ll.length
      · obtain ⟨rfl⟩ := h.addr (by omega)
        obtain ⟨a', b', o', c', hc, hd⟩ := h.row n hlt
        have hlt' := hls _ (List.getElem_mem hlt)
        go_wp2_with (go_at_call 47; refine (szDoS_any a' _ c' r _ hr0 hr1 hlt').mono ?_; rintro e w1 ⟨r', rfl, rfl, hr', hor⟩)
        · go_ret
          exact ⟨-1, rfl, rfl, Or.inl (by omega)⟩
        · exact ⟨⟨r', n + 1, rfl, by go_num, by omega, by omega, hr', fun q hq hql => by
            by_cases e : q = n
            · subst e; omega
            · exact HA.out q (by omega) hql, trivial⟩, by simp [intOf]; omega⟩
      · go_wp2_with fail
        go_ret
        exact ⟨r, rfl, rfl, Or.inr ⟨hr1, hr0, by omega, fun t ht => by
          obtain ⟨q, hq, rfl⟩ := List.getElem_of_mem ht
          exact HA.out q (by omega) hq⟩⟩

set_option maxHeartbeats 400000 in
theorem szProg_le (a : Option Addr) (b o c : Nat) (ll : List (List M.D)) (w : World) (hl : ll.length ≤ 9223372036854775807) (hls : ∀ t ∈ ll, t.length ≤ 9223372036854775807) (h : DoSS w a b o ll) :
    Calls Try.prog 7 #[.agg #[.slice a ll.length c], .int .i64 1048576] w fun e w' => ∃ r : Int, e = .returned (.int .i64 r) ∧ w' = w.alloc (.cells #[.slice a ll.length c] 24) ∧ (r < 0 ∨ (r ≤ 1048576 ∧ 0 ≤ r ∧ ll.length ≤ 1048576 ∧ ∀ t ∈ ll, t.length ≤ 1048576)) := by
  go_enter Try.func7, Try.ntmps7
  go_wp2_with (go_at_call 22; refine (szDoSS_le a b o c ll _ _ (by decide) (by decide) hl hls (h.below (below1 w _) (Nat.le_refl _))).mono ?_; rintro e w1 ⟨r', rfl, rfl, hor⟩)
  · go_ret
    exact ⟨-1, rfl, rfl, Or.inl (by omega)⟩
  · go_ret
    exact ⟨r', rfl, rfl, hor⟩

theorem szProg_any (a : Option Addr) (b o c : Nat) (ll : List (List M.D)) (w : World) (hl : ll.length ≤ 9223372036854775807) (hls : ∀ t ∈ ll, t.length ≤ 9223372036854775807) (h : DoSS w a b o ll) :
    Calls Try.prog 7 #[.agg #[.slice a ll.length c], .int .i64 1048576] w fun e w' => ∃ r : Int, e = .returned (.int .i64 r) ∧ w' = w.alloc (.cells #[.slice a ll.length c] 24) ∧ (r < 0 ∨ (0 ≤ r ∧ ll.length ≤ 1048576 ∧ ∀ t ∈ ll, t.length ≤ 1048576)) :=
  (szProg_le a b o c ll w hl hls h).mono fun _ _ ⟨r, he, hw, hor⟩ => ⟨r, he, hw, hor.imp id And.right⟩

end Go.Proofs.Ytelmclbojpbcbaa

namespace Go.Proofs.Ytelmclbojpbcbaa
open Go.RowKit

theorem Slot1.mkE {P : Nat → Prop} {w w' : World} {b : Nat} {x : Value} (h : Slot1 w b x) (hm : Mk P w w') (hP : ¬ P b) : Slot1 w' b x := ⟨(hm.cell (p := ⟨b, 0, none⟩) hP).trans h.c, (hm.fz _).trans h.fz⟩
theorem WL.mkFar {P : Nat → Prop} {W W' : World} {base : Nat} {v : Value} {ys : List Y3} {xs : List M.Wy} (h : WL W base v ys xs) (hm : Mk P W W') (hP : ∀ j, P j → j < base) : WL W' base v ys xs :=
  h.fr (O := fun k => base ≤ k) ⟨hm.os, hm.tape, hm.output, by rw [hm.size]; exact Nat.le_refl _, fun k _ hk => hm.block k (fun hp => by have := hP k hp; omega)⟩ (fun k hk => (h.own.lt k hk).1) (fun _ hy k hk => (h.lt hy hk).1)
theorem M.all_sm {ll : List (List M.D)} (h : ∀ x ∈ M.execAll ll, WyOk (M.deeds ll) x) : ∀ x ∈ M.execAll ll, WySm x := fun x hx => by
  have ho := h x hx
  have hp : M.prog ll = true := by
    cases hp : M.prog ll
    · simp [M.execAll, hp] at hx
    · rfl
  have hb := M.prog_le hp
  have hl := M.deeds_len hb.1 hb.2
  exact ⟨by have := ho.len; omega, by have := ho.ord; omega, fun r hr => by have := ho.row_le r hr; omega⟩
/-- What impl tells. -/
structure EaI (w w' : World) (v : Value) (ys : List Y3) (xs : List M.Wy) : Prop where
  wl : WL w' w.heap.size v ys xs
  sm : ∀ x ∈ xs, WySm x
  le : xs.length ≤ 5489031744
  bel : Below w.heap.size w w'
theorem XaAns.ea {w w' : World} {ll : List (List M.D)} {v : Value} (h : XaAns w w' ll v) : ∃ ys, EaI w w' v ys (M.specAll ll) := by
  obtain ⟨ys, hw⟩ := h.ex
  have hs := M.all_sm h.ok
  obtain ⟨_, _, _, _, _, _, hlen⟩ := h.lw
  rw [M.all_same] at hw hs
  exact ⟨ys, hw, hs, hlen, h.bel⟩
theorem WySm.le {x : M.Wy} (h : WySm x) : WyLe x := ⟨by have := h.a; omega, by have := h.b; omega, fun r hr => by have := h.c r hr; omega⟩

set_option maxHeartbeats 2000000 in
set_option maxRecDepth 100000 in
theorem lawEa_any (a : Option Addr) (b o c : Nat) (ll : List (List M.D)) (w : World) (hl0 : ll.length ≤ 9223372036854775807) (hls0 : ∀ t ∈ ll, t.length ≤ 9223372036854775807) (h : DoSS w a b o ll) :
    Calls Try.prog 3 #[.agg #[.slice a ll.length c]] w fun e w' => e = .returned (.bool true) ∧ Below w.heap.size w w' := by
  go_enter Try.func3, Try.ntmps3
  go_wp2_with (go_at_call 7; refine (szProg_any a b o c ll _ hl0 hls0 (h.below (below1 w _) (Nat.le_refl _))).mono ?_; rintro e w1 ⟨r', rfl, rfl, hor⟩)
  · go_ret
    exact ⟨rfl, below2 _ _ _⟩
  obtain ⟨_, hl, hls⟩ : 0 ≤ r' ∧ ll.length ≤ 1048576 ∧ ∀ t ∈ ll, t.length ≤ 1048576 := hor.resolve_left (by omega)
  clear hor hl0 hls0
  have b0 := below2 w (.cells #[.slice a ll.length c] 24) (.cells #[.slice a ll.length c] 24)
  have s0 := (Slot1.new w (.slice a ll.length c) 24).bl' (below1 _ (.cells #[.slice a ll.length c] 24))
  generalize (w.alloc (.cells #[.slice a ll.length c] 24)).alloc (.cells #[.slice a ll.length c] 24) = W0 at *
  -- the model's answer
  refine (toProg_any a b o c ll W0 hl hls (h.below b0 (Nat.le_refl _))).mono ?_
  rintro e w1 ⟨g1, rfl, hs1, b1⟩
  have bw1 := b0.trans (b1.mono b0.size)
  have CI := fun A B C D W h1 => iexecAll_any A B C D ll W hl hls h1
  go_wp2_with fail
  refine (sexecAllW_any (some ⟨g1, 0, none⟩) g1 0 ll.length ll w1 hl hls hs1.old).mono ?_
  rintro e WA ⟨v3, rfl, hA⟩
  have b3 := hA.bel
  obtain ⟨av, gv, cv, rfl, lwA⟩ := hA.lw
  have bwA := bw1.trans (b3.mono bw1.size)
  have sA := (s0.bl' b1).bl' b3
  clear hA hs1 s0 b0 b1 b3 bw1
  have x0 := sA.c
  go_wp2_with fail
  -- the argument
  refine (toProg_any a b o c ll WA hl hls (h.below bwA (Nat.le_refl _))).mono ?_
  rintro e w4 ⟨g4, rfl, hs4, b4⟩
  have bX := below1 w4 (.cells #[.slice (some ⟨g4, 0, none⟩) ll.length ll.length] 30)
  have bAX := b4.trans (bX.mono b4.size)
  have sX := Slot1.new w4 (.slice (some ⟨g4, 0, none⟩) ll.length ll.length) 30
  have hsX := hs4.below bX (Nat.le_refl _)
  have hX4 : WA.heap.size ≤ w4.heap.size := b4.size
  have hszX : Hid ((w4.alloc (.cells #[.slice (some ⟨g4, 0, none⟩) ll.length ll.length] 30)).heap.size = w4.heap.size + 1) := by show _ = _; simp
  clear hs4 b4 bX x0
  have x1 := sX.c
  go_wp2_with fail
  generalize w4.alloc (.cells #[.slice (some ⟨g4, 0, none⟩) ll.length ll.length] 30) = WX at *
  generalize w4.heap.size = PX at *
  have bwX := bwA.trans (bAX.mono bwA.size)
  -- the program's answer
  refine (CI _ g4 0 ll.length WX hsX.old).mono ?_
  rintro e WG ⟨v5, rfl, hX5⟩
  obtain ⟨ys, wlG, hsm, hlen, bG⟩ := hX5.ea
  clear hX5
  have CH : ∀ A B C D W, DoSS W A B C ll → Calls Try.prog 10 #[.agg #[.slice A ll.length D]] W fun e w' => ∃ v, e = .returned v ∧ ∃ ys, EaI W w' v ys (M.specAll ll) := fun A B C D W h1 => (CI A B C D W h1).mono fun _ _ ⟨v, he, hx⟩ => ⟨v, he, hx.ea⟩
  clear CI
  generalize M.specAll ll = xs at *
  have hwl : ∀ x ∈ xs, WyLe x := fun x hx => (hsm x hx).le
  obtain ⟨ai, gi, ci, rfl, lwG⟩ := wlG.lw
  have bAG := bAX.trans (bG.mono bAX.size)
  have sXG := sX.bl' bG
  have hsXG := hsX.below bG (Nat.le_refl _)
  clear sX hsX x1 bwX
  go_wp2_with fail
  -- the same
  refine (eqExecS_same ai av gi ci gv cv xs WG hlen hwl lwG (lwA.below bAG)).mono ?_
  rintro e WH ⟨rfl, bH⟩
  have bAH := bAG.trans (bH.mono bAG.size)
  have sAH := sA.bl' bAH
  have sXH := sXG.bl' bH
  have hsXH := hsXG.below bH (Nat.le_refl _)
  have wlH := wlG.below bH
  clear lwG sXG hsXG wlG bAG
  have x0 := sAH.c
  have x1 := sXH.c
  have l0 := sAH.lt
  have l1 := sXH.lt
  go_wp2_with fail
  have bwH := bwA.trans (bAH.mono bwA.size)
  have C7 := toProg_any a b o c ll WH.drew hl hls (h.below bwH.drew (Nat.le_refl _))
  go_region_held3 (fun w' => w'.cell? ⟨w.heap.size, 0, none⟩ = some (.slice a ll.length c) ∧ w'.cell? ⟨PX, 0, none⟩ = some (.slice (some ⟨g4, 0, none⟩) ll.length ll.length)) (go_keep) (first
    | (go_at_call 9; refine C7.mono ?_; rintro e w7 ⟨g7, rfl, hs7, hb7⟩; have Y0 := (hb7.cell (p := ⟨w.heap.size, 0, none⟩) l0).trans x0; have Y1 := (hb7.cell (p := ⟨PX, 0, none⟩) l1).trans x1)
    | (go_at_call 12; refine (eqProg_same _ g4 0 ll.length _ g7 0 ll.length ll _ hl hls ((hsXH.old.below (Below.refl _ _).drew (Nat.le_refl _)).below hb7 (Nat.le_refl _)) hs7.old).mono ?_; rintro e w8 ⟨rfl, hb8⟩; have Z0 := (hb8.cell (p := ⟨w.heap.size, 0, none⟩) (Nat.lt_of_lt_of_le l0 hb7.size)).trans Y0; have Z1 := (hb8.cell (p := ⟨PX, 0, none⟩) (Nat.lt_of_lt_of_le l1 hb7.size)).trans Y1))
  have b68 : Below WH.heap.size WH w8 := ((Below.refl WH.heap.size WH).drew.trans hb7).trans (hb8.mono hb7.size)
  have bA8 := bAH.trans (b68.mono bAH.size)
  have sX8 := sXH.bl' b68
  have hsX8 := hsXH.below b68 (Nat.le_refl _)
  have wl8 := wlH.below b68
  clear Z0 Z1 Y0 Y1 C7 hs7 hb7 hb8 b68 bwH bAH sAH sXH hsXH wlH x0 x1 l0 l1 bH
  have x1 := sX8.c
  go_wp2_with fail
  refine (markProg_any g4 ll.length WA.heap.size PX ll w8 hl hls hsX8).mono ?_
  rintro e w11 ⟨k, wa, rfl, hk, rfl, mk11⟩
  have bal := below1 w8 (.cells #[.slice (some ⟨g4, 0, none⟩) ll.length ll.length] 30)
  have bA11 : Below WA.heap.size WA w11 := Mk.below (bA8.trans (bal.mono bA8.size)) mk11 (fun j hj => hj.1)
  have wl11 := (wl8.below bal).mkFar mk11 (fun j hj => by have := hszX.out; omega)
  have hk2 : ¬ (k < 0) := by omega
  have hk3 : decide (k < 0) = false := by simpa using hk2
  clear x1 bal mk11 wl8 sX8 hsX8 bA8
  obtain ⟨_, g11, _, e11, lw11⟩ := wl11.lw
  obtain ⟨rfl, _, rfl⟩ := Value.slice.inj e11
  go_wp2_with fail
  refine (eqExecS_same ai av g11 ci gv cv xs w11 hlen hwl lw11 (lwA.below bA11)).mono ?_
  rintro e w13 ⟨rfl, b13⟩
  have wl13 := wl11.below b13
  have bA13 := bA11.trans (b13.mono bA11.size)
  clear lw11 wl11 b13 bA11
  obtain ⟨_, g13, _, e13, lc13⟩ := wl13.lc
  obtain ⟨rfl, _, rfl⟩ := Value.slice.inj e13
  have hge : WA.heap.size ≤ WX.heap.size := bAX.size
  have hin : ∀ j, (∃ y ∈ ys, BlkY y j) → WA.heap.size ≤ j := fun j ⟨y, hy, hj⟩ => by have := (wl13.lt hy hj).1; omega
  have MK := markExecS_any ai g13 ci ys xs w13 hlen hsm lc13
  have HE := fun W h => heldExecS_any ai g13 ci ys xs W hlen hsm h
  have hT := M.sumW_le hsm
  generalize M.sumW xs = T at *
  have t0 : ¬ (1 + (T : Int) < 0) := by omega
  clear wl13
  go_wp2_with fail
  refine MK.mono ?_
  rintro e w14 ⟨rfl, ym14, mk14⟩
  have bA14 : Below WA.heap.size WA w14 := Mk.below bA13 mk14 hin
  have lm14 := (lc13.mk_ mk14).lm ym14
  clear MK ym14 mk14 lc13 bA13
  have sA14 := sA.bl' bA14
  have bw14 := bwA.trans (bA14.mono bwA.size)
  go_wp2_with fail
  refine (HE w14 lm14).mono ?_
  rintro e w15 ⟨rfl, rfl⟩
  have x0 := sA14.c
  go_wp2_with fail
  -- once more
  refine (toProg_any a b o c ll w15 hl hls (h.below bw14 (Nat.le_refl _))).mono ?_
  rintro e w16 ⟨g16, rfl, hs16, b16⟩
  go_wp2_with fail
  refine (CH _ g16 0 ll.length w16 hs16.old).mono ?_
  rintro e w18 ⟨v18, rfl, ys2, hE18⟩
  have b1518 := b16.trans (hE18.bel.mono b16.size)
  have bA18 := bA14.trans (b1518.mono bA14.size)
  have lm18 := lm14.below b1518
  obtain ⟨ah, gh, ch, rfl, lwh⟩ := hE18.wl.lw
  clear hE18 b16 hs16 lm14 x0 b1518 bw14 sA14 bA14
  go_wp2_with fail
  refine (eqExecS_same ah av gh ch gv cv xs w18 hlen hwl lwh (lwA.below bA18)).mono ?_
  rintro e w19 ⟨rfl, b19⟩
  have bA19 := bA18.trans (b19.mono bA18.size)
  have lm19 := lm18.below b19
  clear lwh b19 lm18 bA18
  go_wp2_with fail
  refine (HE w19 lm19).mono ?_
  rintro e w20 ⟨rfl, rfl⟩
  go_wp2_with fail
  go_ret
  exact ⟨rfl, bwA.trans (bA19.mono bwA.size)⟩

end Go.Proofs.Ytelmclbojpbcbaa
