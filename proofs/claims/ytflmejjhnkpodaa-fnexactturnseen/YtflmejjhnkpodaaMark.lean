/- The law's own marking of numbers, and whether marks still stand: laws.markIntS, heldIntS. Of lists of at most 1048576 numbers. -/
import Derived.Test.YtflmejjhnkpodaaSnFar
namespace Go.Proofs.Ytflmejjhnkpodaa
open Go.RowKit

/-- Of blocks that meet P numbers alone have turned. -/
structure Mk (P : Nat → Prop) (w w' : World) : Prop where
  os : w'.os = w.os
  tape : w'.tape = w.tape
  output : w'.output = w.output
  size : w'.heap.size = w.heap.size
  ints : ∀ p x, w.cell? p = some (.int .i64 x) → ∃ y, w'.cell? p = some (.int .i64 y)
  rest : ∀ p v, w.cell? p = some v → (∀ x, v ≠ .int .i64 x) → w'.cell? p = some v
  fz : ∀ p, w'.frozen? p = w.frozen? p
  block : ∀ k, ¬ P k → w'.heap[k]? = w.heap[k]?
theorem Mk.refl (P : Nat → Prop) (w : World) : Mk P w w := ⟨rfl, rfl, rfl, rfl, fun _ x h => ⟨x, h⟩, fun _ _ h _ => h, fun _ => rfl, fun _ _ => rfl⟩
theorem Mk.trans {P : Nat → Prop} {a b c : World} (h : Mk P a b) (k : Mk P b c) : Mk P a c :=
  ⟨k.os.trans h.os, k.tape.trans h.tape, k.output.trans h.output, k.size.trans h.size, fun p x hx => (let ⟨y, hy⟩ := h.ints p x hx; k.ints p y hy), fun p v hv hn => k.rest p v (h.rest p v hv hn) hn, fun p => (k.fz p).trans (h.fz p), fun i hi => (k.block i hi).trans (h.block i hi)⟩
theorem Mk.mono {P Q : Nat → Prop} {a b : World} (h : Mk P a b) (hPQ : ∀ k, P k → Q k) : Mk Q a b := ⟨h.os, h.tape, h.output, h.size, h.ints, h.rest, h.fz, fun i hi => h.block i (fun hp => hi (hPQ i hp))⟩
theorem Mk.setCell {P : Nat → Prop} {a w : World} (h : Mk P a w) {b i : Nat} {x y : Int} (hb : P b) (hx : w.cell? ⟨b, i, none⟩ = some (.int .i64 x)) : Mk P a (w.setCell ⟨b, i, none⟩ (.int .i64 y)) := by
  refine h.trans ⟨rfl, rfl, rfl, by simp [World.setCell], fun p z hz => ?_, fun p v hv hn => ?_, fun p => World.frozen?_setCell _ _ _ _, fun k hk => Below.heap_setCell _ _ _ _ (fun e => hk (by have e' : k = b := e; rw [e']; exact hb))⟩
  · by_cases e : p = ⟨b, i, none⟩
    · subst e; exact ⟨y, World.cell?_setCell_same _ _ _ hx⟩
    · exact ⟨z, by rw [World.cell?_setCell_other _ _ _ _ (fun h => e h.symm)]; exact hz⟩
  · by_cases e : p = ⟨b, i, none⟩
    · subst e; rw [hx] at hv; exact absurd (Option.some.inj hv).symm (hn x)
    · rw [World.cell?_setCell_other _ _ _ _ (fun h => e h.symm)]; exact hv
theorem Mk.cell {P : Nat → Prop} {w w' : World} (h : Mk P w w') {p : Addr} (hp : ¬ P p.block) : w'.cell? p = w.cell? p := World.cell?_of_block (w := w) (h.block p.block hp)
theorem Mk.below {P : Nat → Prop} {B : Nat} {w w1 w' : World} (h : Below B w w1) (k : Mk P w1 w') (hr : ∀ j, P j → B ≤ j) : Below B w w' :=
  ⟨k.os.trans h.os, k.tape.trans h.tape, k.output.trans h.output, by rw [k.size]; exact h.size, fun i hi => (k.block i (fun hp => by have := hr i hp; omega)).trans (h.block i hi)⟩

/-- A value is a slice of so many numbers, whichever, that may be written. -/
structure IntC (w : World) (a : Option Addr) (b o n : Nat) : Prop where
  addr : 0 < n → a = some ⟨b, o, none⟩
  row : ∀ i, i < n → ∃ x, w.cell? ⟨b, o + i, none⟩ = some (.int .i64 x)
  fz : 0 < n → ∀ j, w.frozen? ⟨b, j, none⟩ = false
theorem IntC.mk_ {P : Nat → Prop} {w w' : World} {a : Option Addr} {b o n : Nat} (h : IntC w a b o n) (hm : Mk P w w') : IntC w' a b o n :=
  ⟨h.addr, fun i hi => (let ⟨x, hx⟩ := h.row i hi; hm.ints _ x hx), fun hn j => (hm.fz _).trans (h.fz hn j)⟩
theorem IntS.toC {w : World} {a : Option Addr} {b o : Nat} {l : List Int} (h : IntS w a b o l) (fz : 0 < l.length → ∀ j, w.frozen? ⟨b, j, none⟩ = false) : IntC w a b o l.length :=
  ⟨h.addr, fun i hi => ⟨_, h.row i hi⟩, fz⟩

namespace M
/-- So many numbers from one on. -/
def seq (k : Int) (n : Nat) : List Int := (List.range n).map fun (i : Nat) => k + (i : Int)
theorem seq_len (k : Int) (n : Nat) : (seq k n).length = n := by simp [seq]
theorem seq_get (k : Int) (n i : Nat) (h : i < (seq k n).length) : (seq k n)[i] = k + i := by simp [seq]
end M

set_option maxHeartbeats 400000 in
theorem markIntS_any (a : Option Addr) (b o n c : Nat) (k : Int) (w : World) (hn : n ≤ 1048576) (hk : 0 ≤ k) (hk2 : k ≤ 4611686018427387904) (h : IntC w a b o n) :
    Calls Try.prog 22 #[.slice a n c, .int .i64 k] w fun e w' => e = .returned (.int .i64 (k + n)) ∧ IntS w' a b o (M.seq k n) ∧ Mk (fun j => j = b ∧ 0 < n) w w' := by
  go_enter Try.func22, Try.ntmps22
  go_wp2_with fail
  go_loopw [1, 5] (fun s1 s5 wr => ∃ m : Nat, s1 = .int .i64 (k + m) ∧ s5 = .int .i64 m ∧ m ≤ n ∧ (∀ i, i < m → wr.cell? ⟨b, o + i, none⟩ = some (.int .i64 (k + i))) ∧ Mk (fun j => j = b ∧ 0 < n) w wr) (fun _ s5 _ => n - (intOf s5).toNat)
  case atStart => exact ⟨0, by simp, rfl, Nat.zero_le _, fun i hi => absurd hi (Nat.not_lt_zero _), Mk.refl _ _⟩
  case round =>
    obtain ⟨m, rfl, rfl, hm, hdone, hmk⟩ := hrel
    by_cases hlt : m < n
    · obtain ⟨rfl⟩ := h.addr (by omega)
      obtain ⟨x, hx⟩ := (h.mk_ hmk).row m hlt
      have fz := (h.mk_ hmk).fz (by omega)
      have i1 : (m : Int) < n := by omega
      have HD : Hid (∀ i, i < m → wr.cell? ⟨b, o + i, none⟩ = some (.int .i64 (k + i))) := hdone
      clear hdone
      go_wp2_with fail
      refine ⟨⟨m + 1, ?_, by go_num, by omega, fun i hi => ?_, hmk.setCell ⟨rfl, by omega⟩ hx⟩, by simp [intOf]; omega⟩
      · rw [Int.natCast_add, ← Int.add_assoc]; rfl
      · by_cases e : i = m
        · subst e; exact World.cell?_setCell_same _ _ _ hx
        · rw [World.cell?_setCell_other _ _ _ _ (fun h => e (by have := congrArg Addr.off h; simp at this; omega))]
          exact HD.out i (by omega)
    · obtain rfl : m = n := by omega
      go_wp2_with fail
      go_ret
      exact ⟨rfl, ⟨fun hl => h.addr (by rw [M.seq_len] at hl; exact hl), fun i hi => by rw [M.seq_get]; exact hdone i (by rw [M.seq_len] at hi; exact hi)⟩, hmk⟩

set_option maxHeartbeats 400000 in
theorem heldIntS_any (a : Option Addr) (b o n c : Nat) (k : Int) (w : World) (hn : n ≤ 1048576) (hk : 0 ≤ k) (hk2 : k ≤ 4611686018427387904) (h : IntS w a b o (M.seq k n)) :
    Calls Try.prog 46 #[.slice a n c, .int .i64 k] w fun e w' => e = .returned (.int .i64 (k + n)) ∧ w' = w := by
  go_enter Try.func46, Try.ntmps46
  go_wp2_with fail
  go_loopw [1, 5] (fun s1 s5 wr => ∃ m : Nat, s1 = .int .i64 (k + m) ∧ s5 = .int .i64 m ∧ m ≤ n ∧ wr = w) (fun _ s5 _ => n - (intOf s5).toNat)
  case atStart => exact ⟨0, by simp, rfl, Nat.zero_le _, rfl⟩
  case round =>
    obtain ⟨m, rfl, rfl, hm, rfl⟩ := hrel
    by_cases hlt : m < n
    · obtain ⟨rfl⟩ := h.addr (by rw [M.seq_len]; omega)
      have hx := h.row m (by rw [M.seq_len]; exact hlt)
      rw [M.seq_get] at hx
      have i1 : (m : Int) < n := by omega
      go_wp2_with fail
      exact ⟨⟨m + 1, by rw [Int.natCast_add, ← Int.add_assoc]; rfl, by go_num, by omega, trivial⟩, by simp [intOf]; omega⟩
    · obtain rfl : m = n := by omega
      go_wp2_with fail
      go_ret
      exact ⟨rfl, rfl⟩

end Go.Proofs.Ytflmejjhnkpodaa
