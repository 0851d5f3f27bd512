/- The library's writers of texts, at this program: what a builder holds behind each. Of texts of at most 140737488355328 bytes. -/
import Derived.Test.YthgmolelipjdaaaTxLay
import Derived.Test.YthgmolelipjdaaaTxMath
namespace Go.Proofs.Ythgmolelipjdaaa
open Go.RowKit

/-- A builder that a call has made, and what it holds. -/
structure Bd (B b : Nat) (acc : List UInt8) (w : World) : Prop where
  is : Lib.IsBuilderF 48 5 B b (Lib.byteCells acc) w
  le : B ≤ w.heap.size

/-- A call has written into a builder alone. -/
structure Wrote (B b : Nat) (w w' : World) : Prop where
  bel : Below B w w'
  oth : Lib.OthersKept 5 (some b) w w'

theorem Wrote.refl (B b : Nat) (w : World) : Wrote B b w w := ⟨Below.refl _ _, Lib.OthersKept.refl _ _ _⟩
theorem Wrote.trans {B b : Nat} {w w1 w2 : World} (h : Wrote B b w w1) (k : Wrote B b w1 w2) : Wrote B b w w2 := ⟨h.bel.trans k.bel, h.oth.trans k.oth⟩
theorem Wrote.alloc {B b : Nat} {w w1 : World} (h : Wrote B b w w1) (hB : B ≤ w1.heap.size) (o : Obj) : Wrote B b w (w1.alloc o) := ⟨h.bel.alloc hB _, h.oth.alloc _⟩
theorem Bd.alloc {B b : Nat} {acc : List UInt8} {w : World} (h : Bd B b acc w) (o : Obj) : Bd B b acc (w.alloc o) := ⟨h.is.alloc o, Nat.le_trans h.le (by simp)⟩
theorem Bd.fresh (w : World) : Bd w.heap.size w.heap.size [] (w.alloc (.cells #[.pointer none, .slice none 0 0] 48)) :=
  ⟨Lib.IsBuilderF.of (Lib.fresh_isBuilder 48 5 w), by simp⟩
/-- A box stands through a write. -/
theorem Wrote.box {B b : Nat} {w w' : World} (h : Wrote B b w w') {k : Nat} {cs : Array Value} {T : TypeId} {f : Nat × Nat} (hk : w.heap[k]? = some (.cells cs T f)) (hkb : k ≠ b) (hT : T ≠ 5) : w'.heap[k]? = some (.cells cs T f) :=
  h.oth k _ hk (fun e => hkb (Option.some.inj e)) (fun c fz e => by
    have e' : Obj.cells cs T f = Obj.cells c 5 fz := e
    injection e' with e1 e2 e3
    exact hT e2)

theorem wString_any (B b : Nat) (acc : List UInt8) (s : ByteArray) (w : World) (h : Bd B b acc w) (hlen : acc.length + s.size ≤ 140737488355328) :
    Calls Try.prog 24 #[.pointer (some ⟨b, 0, none⟩), .string s] w fun e w' => e = .returned (.tuple #[.int .i64 s.size, .nilIface]) ∧ Bd B b (acc ++ s.data.toList) w' ∧ Wrote B b w w' :=
  (Any.Builder_WriteString_k lays166 layX B b (Lib.byteCells acc) s w h.is (by rw [Lib.byteCells_length]; exact hlen) h.le).mono fun e w' ⟨he, h1, b1, k1⟩ =>
    ⟨he, ⟨by rw [Lib.byteCells_append, ← Lib.strCells_eq]; exact Or.inr h1, Nat.le_trans h.le b1.size⟩, ⟨b1, k1⟩⟩

theorem wRune_any (B b : Nat) (acc : List UInt8) (r : Int) (w : World) (h : Bd B b acc w) (h0 : 0 ≤ r) (h1 : r ≤ 127) (hlen : acc.length + 4 ≤ 140737488355328) :
    Calls Try.prog 25 #[.pointer (some ⟨b, 0, none⟩), .int .i32 r] w fun e w' => e = .returned (.tuple #[.int .i64 (Lib.runeCells r).length, .nilIface]) ∧ Bd B b (acc ++ [M.b8 r]) w' ∧ Wrote B b w w' :=
  (Any.Builder_WriteRune_k lays168 layX B b (Lib.byteCells acc) r (by omega) (by omega) w h.is (by rw [Lib.byteCells_length]; exact hlen) h.le).mono fun e w' ⟨he, h2, b1, k1⟩ =>
    ⟨he, ⟨by rw [Lib.byteCells_append, ← M.encode_one r h0 h1, Lib.byteCells_encodeRune]; exact Or.inr h2, Nat.le_trans h.le b1.size⟩, ⟨b1, k1⟩⟩

theorem wText_any (B b : Nat) (acc : List UInt8) (w : World) (h : Bd B b acc w) :
    Calls Try.prog 27 #[.pointer (some ⟨b, 0, none⟩)] w fun e w' => e = .returned (.string ⟨acc.toArray⟩) ∧ Below B w w' :=
  (Any.Builder_String_any_k lays169 layX B b acc w h.is h.le).mono fun _ _ ⟨he, _, b1, _⟩ => ⟨he, b1⟩

end Go.Proofs.Ythgmolelipjdaaa
