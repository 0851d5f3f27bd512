/- Shapes, plainly. No condition. Rows of steps that a slice literal makes, and two threads of such. No condition. impl's shapes: each one's threads, in rows of their own. No condition. impl's (howMade).finish: walls and copies; formOf. Of rows of at most four steps. What one may not think of: impl's oddOf and ShapeOdd, spec's ShapeOdd. No condition. What stands in the loop of impl.ShapeOf: the rows of the shape, and the threads that are told so far. No condition. Shapes, plainly: each is a program of two threads. No condition. -/
import Derived.Test.YtiaibfalmmnipaaMath
import Derived.Test.YtiaibfalmmnipaaRdM
import Derived.Test.YtiaibfalmmnipaaTnGo
import Derived.Handy
import Derived.Test.YtiaibfalmmnipaaBnUt

namespace Go.Proofs.Ytiaibfalmmnipaa
namespace M

/-- A step that stores, and one that reads, made in a way. -/
def kst (h : Int) : Int := if h = 2 then 6 else 1
def kld (h : Int) : Int := if h = 2 then 5 else 2
theorem kst_yes {h : Int} (e : h = 2) : kst h = 6 := by simp [kst, e]
theorem kst_no {h : Int} (e : h ≠ 2) : kst h = 1 := by simp [kst, e]
theorem kld_yes {h : Int} (e : h = 2) : kld h = 5 := by simp [kld, e]
theorem kld_no {h : Int} (e : h ≠ 2) : kld h = 2 := by simp [kld, e]
def sst (h pl v : Int) : D := ⟨kst h, pl, v⟩
def sld (h pl : Int) : D := ⟨kld h, pl, 0⟩
/-- A shape's threads, ahead of walls and copies. -/
def raw (s h : Int) : List (List D) :=
  if s = 1 then [[sst h 0 1, sld h 1], [sst h 1 1, sld h 0]]
  else if s = 2 then [[sst 0 0 1, sst h 1 1], [sld h 1, sld 0 0]]
  else if s = 3 then [[sld h 0, sst h 1 1], [sld h 1, sst h 0 1]]
  else if s = 4 then [[sst h 0 1], [sld h 0, sld h 0]]
  else if s = 5 then [[sst h 0 2, sst h 1 1], [sst h 1 2, sst h 0 1]]
  else [[⟨7, 0, 0⟩, sld 0 1, sld 0 0, ⟨8, 0, 0⟩], [sst 0 0 1, ⟨9, 0, 0⟩, sst h 1 1]]
/-- Walls and copies. -/
def fin (h : Int) (l : List D) : List D :=
  match l with
  | [a, b] => if h = 1 then [a, ⟨4, 0, 0⟩, b] else if h = 3 ∧ reads a.k = true ∧ writes b.k = true then [a, ⟨3, b.p, 0⟩] else [a, b]
  | l => l
def shapeOk (s h : Int) : Bool := decide (1 ≤ s) && decide (s ≤ 6) && decide (0 ≤ h) && decide (h ≤ 3)
def shape (s h : Int) : Option (List (List D)) := if shapeOk s h then some ((raw s h).map (fin h)) else none
theorem fin_len (h : Int) (l : List D) (hl : l.length ≠ 2) : fin h l = l := by
  match l, hl with
  | [], _ => rfl
  | [a], _ => rfl
  | [a, b], hl => simp at hl
  | a :: b :: c :: l, _ => rfl
end M
end Go.Proofs.Ytiaibfalmmnipaa

namespace Go.Proofs.Ytiaibfalmmnipaa
open Go.RowKit

theorem own_lit {w : World} {B : Nat} (l : List M.D) {cs : Array Value} (hB : B ≤ w.heap.size) (hcs : cs.toList = flat l) (hn : l.length ≤ 1000) : (w.alloc (.cells cs 66)).ownsRow B 66 3 (.slice (some ⟨w.heap.size, 0, none⟩) l.length l.length) l.length (flat l) :=
  ⟨flat_length l, .inr ⟨_, l.length, cs, rfl, hB, heap_alloc_new w _, Nat.le_refl _, by unfold maxLen; omega, by rw [← Array.length_toList, hcs, flat_length], by rw [hcs, ← flat_length, List.take_length]⟩⟩
theorem own_lit2 {w : World} {B : Nat} {v1 v2 : Value} (hB : B ≤ w.heap.size) : (w.alloc (.cells #[v1, v2] 63)).ownsRow B 63 1 (.slice (some ⟨w.heap.size, 0, none⟩) 2 2) 2 [v1, v2] :=
  ⟨rfl, .inr ⟨_, 2, _, rfl, hB, heap_alloc_new w _, Nat.le_refl _, by unfold maxLen; omega, rfl, rfl⟩⟩
theorem rdg_two {w : World} {B : Nat} {v v1 v2 : Value} {l1 l2 : List M.D} (r1 : w.ownsRow B 66 3 v1 l1.length (flat l1)) (r2 : w.ownsRow B 66 3 v2 l2.length (flat l2)) (hne : ∀ k, v1.ownBlock = some k → v2.ownBlock ≠ some k) (o : w.ownsRow B 63 1 v 2 [v1, v2]) : Rdg w B v [l1, l2] [v1, v2] := by
  refine ⟨⟨o, rfl, fun i h h' => ?_⟩, fun i j hi hj hij k hk => ?_⟩
  · match i, h, h' with
    | 0, _, _ => exact r1
    | 1, _, _ => exact r2
  · match i, j, hi, hj, hij, hk with
    | 0, 1, _, _, _, hk => exact hne k hk
    | 1, 0, _, _, _, hk => exact fun e => hne k e hk
    | 0, 0, _, _, hij, _ => exact absurd rfl hij
    | 1, 1, _, _, hij, _ => exact absurd rfl hij
theorem own_ne {w w' : World} {B : Nat} {v1 : Value} {n : Nat} {xs : List Value} {e : TypeId} {z : Nat} (r1 : w.ownsRow B e z v1 n xs) (hs : w.heap.size ≤ w'.heap.size) {m c : Nat} : ∀ k, v1.ownBlock = some k → (Value.slice (some ⟨w'.heap.size, 0, none⟩) m c).ownBlock ≠ some k := fun k hk e => by
  have h1 := (r1.lt k hk).2
  have h2 : w'.heap.size = k := Option.some.inj e
  omega

end Go.Proofs.Ytiaibfalmmnipaa

namespace Go.Proofs.Ytiaibfalmmnipaa
open Go.RowKit

set_option maxHeartbeats 400000 in
theorem hstore_any (h pl v k : Int) (w : World) (hk : M.kst h = k) :
    Calls Try.prog 117 #[.int .i64 h, .int .i64 pl, .int .i64 v] w fun e w' => e = .returned (.agg #[.int .i64 k, .int .i64 pl, .int .i64 v]) ∧ Below w.heap.size w w' := by
  subst hk
  by_cases h2 : h = 2
  · rw [M.kst_yes h2]
    subst h2
    go_enter Try.func117, Try.ntmps117
    go_wp2_with fail
    go_returns
    exact ⟨rfl, by go_grown⟩
  · rw [M.kst_no h2]
    have h2' : (h == 2) = false := by simpa using h2
    go_enter Try.func117, Try.ntmps117
    go_wp2_with fail
    go_returns
    exact ⟨rfl, by go_grown⟩

set_option maxHeartbeats 400000 in
theorem hread_any (h pl k : Int) (w : World) (hk : M.kld h = k) :
    Calls Try.prog 115 #[.int .i64 h, .int .i64 pl] w fun e w' => e = .returned (.agg #[.int .i64 k, .int .i64 pl, .int .i64 0]) ∧ Below w.heap.size w w' := by
  subst hk
  by_cases h2 : h = 2
  · rw [M.kld_yes h2]
    subst h2
    go_enter Try.func115, Try.ntmps115
    go_wp2_with fail
    go_returns
    exact ⟨rfl, by go_grown⟩
  · rw [M.kld_no h2]
    have h2' : (h == 2) = false := by simpa using h2
    go_enter Try.func115, Try.ntmps115
    go_wp2_with fail
    go_returns
    exact ⟨rfl, by go_grown⟩

set_option maxHeartbeats 1000000 in
theorem thr_cross (h ks kl : Int) (w : World) (hs : M.kst h = ks) (_hl : M.kld h = kl) :
    Calls Try.prog 116 #[.agg #[], .int .i64 h] w fun e w' => ∃ v vs, e = .returned v ∧ Rdg w' w.heap.size v [[⟨ks, 0, 1⟩, ⟨kl, 1, 0⟩], [⟨ks, 1, 1⟩, ⟨kl, 0, 0⟩]] vs ∧ Below w.heap.size w w' := by
  have hb := below1 w (.cells #[] 108)
  go_enter Try.func116, Try.ntmps116
  go_wp2_with fail
  generalize w.alloc (.cells #[] 108) = V at *
  refine (hstore_any h 0 1 ks _ hs).mono ?_
  rintro e W1 ⟨rfl, b⟩
  replace hb := hb.trans (b.mono hb.size)
  clear b
  go_wp2_with fail
  refine (hread_any h 1 kl _ _hl).mono ?_
  rintro e W2 ⟨rfl, b⟩
  replace hb := hb.trans (b.mono hb.size)
  clear b
  have R0 := own_lit (w := W2) (B := w.heap.size) [⟨ks, 0, 1⟩, ⟨kl, 1, 0⟩] (cs := #[.int .i64 ks, .int .i64 0, .int .i64 1, .int .i64 kl, .int .i64 1, .int .i64 0]) hb.size rfl (by simp)
  replace hb := hb.alloc hb.size (.cells #[.int .i64 ks, .int .i64 0, .int .i64 1, .int .i64 kl, .int .i64 1, .int .i64 0] 66)
  go_wp2_with fail
  generalize W2.alloc (.cells #[.int .i64 ks, .int .i64 0, .int .i64 1, .int .i64 kl, .int .i64 1, .int .i64 0] 66) = V0 at *
  generalize W2.heap.size = G0 at *
  refine (hstore_any h 1 1 ks _ hs).mono ?_
  rintro e W3 ⟨rfl, b⟩
  replace hb := hb.trans (b.mono hb.size)
  replace R0 := ownsRow_below R0 b
  clear b
  go_wp2_with fail
  refine (hread_any h 0 kl _ _hl).mono ?_
  rintro e W4 ⟨rfl, b⟩
  replace hb := hb.trans (b.mono hb.size)
  replace R0 := ownsRow_below R0 b
  clear b
  have R1 := own_lit (w := W4) (B := w.heap.size) [⟨ks, 1, 1⟩, ⟨kl, 0, 0⟩] (cs := #[.int .i64 ks, .int .i64 1, .int .i64 1, .int .i64 kl, .int .i64 0, .int .i64 0]) hb.size rfl (by simp)
  have hne := own_ne (m := 2) (c := 2) R0 (Nat.le_refl W4.heap.size)
  replace R0 := ownsRow_below R0 (below1 W4 (.cells #[.int .i64 ks, .int .i64 1, .int .i64 1, .int .i64 kl, .int .i64 0, .int .i64 0] 66))
  replace hb := hb.alloc hb.size (.cells #[.int .i64 ks, .int .i64 1, .int .i64 1, .int .i64 kl, .int .i64 0, .int .i64 0] 66)
  simp only [List.length_cons, List.length_nil, Nat.zero_add, Nat.reduceAdd] at R0 R1
  go_wp2_with fail
  have O := own_lit2 (w := (W4.alloc (.cells #[.int .i64 ks, .int .i64 1, .int .i64 1, .int .i64 kl, .int .i64 0, .int .i64 0] 66))) (B := w.heap.size) (v1 := (.slice (some ⟨G0, 0, none⟩) 2 2)) (v2 := (.slice (some ⟨W4.heap.size, 0, none⟩) 2 2)) hb.size
  have bo := below1 (W4.alloc (.cells #[.int .i64 ks, .int .i64 1, .int .i64 1, .int .i64 kl, .int .i64 0, .int .i64 0] 66)) (.cells #[.slice (some ⟨G0, 0, none⟩) 2 2, .slice (some ⟨W4.heap.size, 0, none⟩) 2 2] 63)
  replace R0 := ownsRow_below R0 bo
  replace R1 := ownsRow_below R1 bo
  replace hb := hb.trans (bo.mono hb.size)
  rw [World.size_alloc] at O
  go_ret
  exact ⟨_, _, rfl, rdg_two (l1 := [⟨ks, 0, 1⟩, ⟨kl, 1, 0⟩]) (l2 := [⟨ks, 1, 1⟩, ⟨kl, 0, 0⟩]) R0 R1 hne O, hb⟩

set_option maxHeartbeats 1000000 in
theorem thr_pass (h ks kl : Int) (w : World) (hs : M.kst h = ks) (_hl : M.kld h = kl) :
    Calls Try.prog 118 #[.agg #[], .int .i64 h] w fun e w' => ∃ v vs, e = .returned v ∧ Rdg w' w.heap.size v [[⟨1, 0, 1⟩, ⟨ks, 1, 1⟩], [⟨kl, 1, 0⟩, ⟨2, 0, 0⟩]] vs ∧ Below w.heap.size w w' := by
  have hb := below1 w (.cells #[] 109)
  go_enter Try.func118, Try.ntmps118
  go_wp2_with fail
  generalize w.alloc (.cells #[] 109) = V at *
  refine (hstore_any 0 0 1 1 _ rfl).mono ?_
  rintro e W1 ⟨rfl, b⟩
  replace hb := hb.trans (b.mono hb.size)
  clear b
  go_wp2_with fail
  refine (hstore_any h 1 1 ks _ hs).mono ?_
  rintro e W2 ⟨rfl, b⟩
  replace hb := hb.trans (b.mono hb.size)
  clear b
  have R0 := own_lit (w := W2) (B := w.heap.size) [⟨1, 0, 1⟩, ⟨ks, 1, 1⟩] (cs := #[.int .i64 1, .int .i64 0, .int .i64 1, .int .i64 ks, .int .i64 1, .int .i64 1]) hb.size rfl (by simp)
  replace hb := hb.alloc hb.size (.cells #[.int .i64 1, .int .i64 0, .int .i64 1, .int .i64 ks, .int .i64 1, .int .i64 1] 66)
  go_wp2_with fail
  generalize W2.alloc (.cells #[.int .i64 1, .int .i64 0, .int .i64 1, .int .i64 ks, .int .i64 1, .int .i64 1] 66) = V0 at *
  generalize W2.heap.size = G0 at *
  refine (hread_any h 1 kl _ _hl).mono ?_
  rintro e W3 ⟨rfl, b⟩
  replace hb := hb.trans (b.mono hb.size)
  replace R0 := ownsRow_below R0 b
  clear b
  go_wp2_with fail
  refine (hread_any 0 0 2 _ rfl).mono ?_
  rintro e W4 ⟨rfl, b⟩
  replace hb := hb.trans (b.mono hb.size)
  replace R0 := ownsRow_below R0 b
  clear b
  have R1 := own_lit (w := W4) (B := w.heap.size) [⟨kl, 1, 0⟩, ⟨2, 0, 0⟩] (cs := #[.int .i64 kl, .int .i64 1, .int .i64 0, .int .i64 2, .int .i64 0, .int .i64 0]) hb.size rfl (by simp)
  have hne := own_ne (m := 2) (c := 2) R0 (Nat.le_refl W4.heap.size)
  replace R0 := ownsRow_below R0 (below1 W4 (.cells #[.int .i64 kl, .int .i64 1, .int .i64 0, .int .i64 2, .int .i64 0, .int .i64 0] 66))
  replace hb := hb.alloc hb.size (.cells #[.int .i64 kl, .int .i64 1, .int .i64 0, .int .i64 2, .int .i64 0, .int .i64 0] 66)
  simp only [List.length_cons, List.length_nil, Nat.zero_add, Nat.reduceAdd] at R0 R1
  go_wp2_with fail
  have O := own_lit2 (w := (W4.alloc (.cells #[.int .i64 kl, .int .i64 1, .int .i64 0, .int .i64 2, .int .i64 0, .int .i64 0] 66))) (B := w.heap.size) (v1 := (.slice (some ⟨G0, 0, none⟩) 2 2)) (v2 := (.slice (some ⟨W4.heap.size, 0, none⟩) 2 2)) hb.size
  have bo := below1 (W4.alloc (.cells #[.int .i64 kl, .int .i64 1, .int .i64 0, .int .i64 2, .int .i64 0, .int .i64 0] 66)) (.cells #[.slice (some ⟨G0, 0, none⟩) 2 2, .slice (some ⟨W4.heap.size, 0, none⟩) 2 2] 63)
  replace R0 := ownsRow_below R0 bo
  replace R1 := ownsRow_below R1 bo
  replace hb := hb.trans (bo.mono hb.size)
  rw [World.size_alloc] at O
  go_ret
  exact ⟨_, _, rfl, rdg_two (l1 := [⟨1, 0, 1⟩, ⟨ks, 1, 1⟩]) (l2 := [⟨kl, 1, 0⟩, ⟨2, 0, 0⟩]) R0 R1 hne O, hb⟩

set_option maxHeartbeats 1000000 in
theorem thr_round (h ks kl : Int) (w : World) (hs : M.kst h = ks) (_hl : M.kld h = kl) :
    Calls Try.prog 119 #[.agg #[], .int .i64 h] w fun e w' => ∃ v vs, e = .returned v ∧ Rdg w' w.heap.size v [[⟨kl, 0, 0⟩, ⟨ks, 1, 1⟩], [⟨kl, 1, 0⟩, ⟨ks, 0, 1⟩]] vs ∧ Below w.heap.size w w' := by
  have hb := below1 w (.cells #[] 110)
  go_enter Try.func119, Try.ntmps119
  go_wp2_with fail
  generalize w.alloc (.cells #[] 110) = V at *
  refine (hread_any h 0 kl _ _hl).mono ?_
  rintro e W1 ⟨rfl, b⟩
  replace hb := hb.trans (b.mono hb.size)
  clear b
  go_wp2_with fail
  refine (hstore_any h 1 1 ks _ hs).mono ?_
  rintro e W2 ⟨rfl, b⟩
  replace hb := hb.trans (b.mono hb.size)
  clear b
  have R0 := own_lit (w := W2) (B := w.heap.size) [⟨kl, 0, 0⟩, ⟨ks, 1, 1⟩] (cs := #[.int .i64 kl, .int .i64 0, .int .i64 0, .int .i64 ks, .int .i64 1, .int .i64 1]) hb.size rfl (by simp)
  replace hb := hb.alloc hb.size (.cells #[.int .i64 kl, .int .i64 0, .int .i64 0, .int .i64 ks, .int .i64 1, .int .i64 1] 66)
  go_wp2_with fail
  generalize W2.alloc (.cells #[.int .i64 kl, .int .i64 0, .int .i64 0, .int .i64 ks, .int .i64 1, .int .i64 1] 66) = V0 at *
  generalize W2.heap.size = G0 at *
  refine (hread_any h 1 kl _ _hl).mono ?_
  rintro e W3 ⟨rfl, b⟩
  replace hb := hb.trans (b.mono hb.size)
  replace R0 := ownsRow_below R0 b
  clear b
  go_wp2_with fail
  refine (hstore_any h 0 1 ks _ hs).mono ?_
  rintro e W4 ⟨rfl, b⟩
  replace hb := hb.trans (b.mono hb.size)
  replace R0 := ownsRow_below R0 b
  clear b
  have R1 := own_lit (w := W4) (B := w.heap.size) [⟨kl, 1, 0⟩, ⟨ks, 0, 1⟩] (cs := #[.int .i64 kl, .int .i64 1, .int .i64 0, .int .i64 ks, .int .i64 0, .int .i64 1]) hb.size rfl (by simp)
  have hne := own_ne (m := 2) (c := 2) R0 (Nat.le_refl W4.heap.size)
  replace R0 := ownsRow_below R0 (below1 W4 (.cells #[.int .i64 kl, .int .i64 1, .int .i64 0, .int .i64 ks, .int .i64 0, .int .i64 1] 66))
  replace hb := hb.alloc hb.size (.cells #[.int .i64 kl, .int .i64 1, .int .i64 0, .int .i64 ks, .int .i64 0, .int .i64 1] 66)
  simp only [List.length_cons, List.length_nil, Nat.zero_add, Nat.reduceAdd] at R0 R1
  go_wp2_with fail
  have O := own_lit2 (w := (W4.alloc (.cells #[.int .i64 kl, .int .i64 1, .int .i64 0, .int .i64 ks, .int .i64 0, .int .i64 1] 66))) (B := w.heap.size) (v1 := (.slice (some ⟨G0, 0, none⟩) 2 2)) (v2 := (.slice (some ⟨W4.heap.size, 0, none⟩) 2 2)) hb.size
  have bo := below1 (W4.alloc (.cells #[.int .i64 kl, .int .i64 1, .int .i64 0, .int .i64 ks, .int .i64 0, .int .i64 1] 66)) (.cells #[.slice (some ⟨G0, 0, none⟩) 2 2, .slice (some ⟨W4.heap.size, 0, none⟩) 2 2] 63)
  replace R0 := ownsRow_below R0 bo
  replace R1 := ownsRow_below R1 bo
  replace hb := hb.trans (bo.mono hb.size)
  rw [World.size_alloc] at O
  go_ret
  exact ⟨_, _, rfl, rdg_two (l1 := [⟨kl, 0, 0⟩, ⟨ks, 1, 1⟩]) (l2 := [⟨kl, 1, 0⟩, ⟨ks, 0, 1⟩]) R0 R1 hne O, hb⟩

set_option maxHeartbeats 1000000 in
theorem thr_twice (h ks kl : Int) (w : World) (hs : M.kst h = ks) (_hl : M.kld h = kl) :
    Calls Try.prog 120 #[.agg #[], .int .i64 h] w fun e w' => ∃ v vs, e = .returned v ∧ Rdg w' w.heap.size v [[⟨ks, 0, 1⟩], [⟨kl, 0, 0⟩, ⟨kl, 0, 0⟩]] vs ∧ Below w.heap.size w w' := by
  have hb := below1 w (.cells #[] 111)
  go_enter Try.func120, Try.ntmps120
  go_wp2_with fail
  generalize w.alloc (.cells #[] 111) = V at *
  refine (hstore_any h 0 1 ks _ hs).mono ?_
  rintro e W1 ⟨rfl, b⟩
  replace hb := hb.trans (b.mono hb.size)
  clear b
  have R0 := own_lit (w := W1) (B := w.heap.size) [⟨ks, 0, 1⟩] (cs := #[.int .i64 ks, .int .i64 0, .int .i64 1]) hb.size rfl (by simp)
  replace hb := hb.alloc hb.size (.cells #[.int .i64 ks, .int .i64 0, .int .i64 1] 66)
  go_wp2_with fail
  generalize W1.alloc (.cells #[.int .i64 ks, .int .i64 0, .int .i64 1] 66) = V0 at *
  generalize W1.heap.size = G0 at *
  refine (hread_any h 0 kl _ _hl).mono ?_
  rintro e W2 ⟨rfl, b⟩
  replace hb := hb.trans (b.mono hb.size)
  replace R0 := ownsRow_below R0 b
  clear b
  go_wp2_with fail
  refine (hread_any h 0 kl _ _hl).mono ?_
  rintro e W3 ⟨rfl, b⟩
  replace hb := hb.trans (b.mono hb.size)
  replace R0 := ownsRow_below R0 b
  clear b
  have R1 := own_lit (w := W3) (B := w.heap.size) [⟨kl, 0, 0⟩, ⟨kl, 0, 0⟩] (cs := #[.int .i64 kl, .int .i64 0, .int .i64 0, .int .i64 kl, .int .i64 0, .int .i64 0]) hb.size rfl (by simp)
  have hne := own_ne (m := 2) (c := 2) R0 (Nat.le_refl W3.heap.size)
  replace R0 := ownsRow_below R0 (below1 W3 (.cells #[.int .i64 kl, .int .i64 0, .int .i64 0, .int .i64 kl, .int .i64 0, .int .i64 0] 66))
  replace hb := hb.alloc hb.size (.cells #[.int .i64 kl, .int .i64 0, .int .i64 0, .int .i64 kl, .int .i64 0, .int .i64 0] 66)
  simp only [List.length_cons, List.length_nil, Nat.zero_add, Nat.reduceAdd] at R0 R1
  go_wp2_with fail
  have O := own_lit2 (w := (W3.alloc (.cells #[.int .i64 kl, .int .i64 0, .int .i64 0, .int .i64 kl, .int .i64 0, .int .i64 0] 66))) (B := w.heap.size) (v1 := (.slice (some ⟨G0, 0, none⟩) 1 1)) (v2 := (.slice (some ⟨W3.heap.size, 0, none⟩) 2 2)) hb.size
  have bo := below1 (W3.alloc (.cells #[.int .i64 kl, .int .i64 0, .int .i64 0, .int .i64 kl, .int .i64 0, .int .i64 0] 66)) (.cells #[.slice (some ⟨G0, 0, none⟩) 1 1, .slice (some ⟨W3.heap.size, 0, none⟩) 2 2] 63)
  replace R0 := ownsRow_below R0 bo
  replace R1 := ownsRow_below R1 bo
  replace hb := hb.trans (bo.mono hb.size)
  rw [World.size_alloc] at O
  go_ret
  exact ⟨_, _, rfl, rdg_two (l1 := [⟨ks, 0, 1⟩]) (l2 := [⟨kl, 0, 0⟩, ⟨kl, 0, 0⟩]) R0 R1 hne O, hb⟩

set_option maxHeartbeats 1000000 in
theorem thr_four (h ks kl : Int) (w : World) (hs : M.kst h = ks) (_hl : M.kld h = kl) :
    Calls Try.prog 121 #[.agg #[], .int .i64 h] w fun e w' => ∃ v vs, e = .returned v ∧ Rdg w' w.heap.size v [[⟨ks, 0, 2⟩, ⟨ks, 1, 1⟩], [⟨ks, 1, 2⟩, ⟨ks, 0, 1⟩]] vs ∧ Below w.heap.size w w' := by
  have hb := below1 w (.cells #[] 112)
  go_enter Try.func121, Try.ntmps121
  go_wp2_with fail
  generalize w.alloc (.cells #[] 112) = V at *
  refine (hstore_any h 0 2 ks _ hs).mono ?_
  rintro e W1 ⟨rfl, b⟩
  replace hb := hb.trans (b.mono hb.size)
  clear b
  go_wp2_with fail
  refine (hstore_any h 1 1 ks _ hs).mono ?_
  rintro e W2 ⟨rfl, b⟩
  replace hb := hb.trans (b.mono hb.size)
  clear b
  have R0 := own_lit (w := W2) (B := w.heap.size) [⟨ks, 0, 2⟩, ⟨ks, 1, 1⟩] (cs := #[.int .i64 ks, .int .i64 0, .int .i64 2, .int .i64 ks, .int .i64 1, .int .i64 1]) hb.size rfl (by simp)
  replace hb := hb.alloc hb.size (.cells #[.int .i64 ks, .int .i64 0, .int .i64 2, .int .i64 ks, .int .i64 1, .int .i64 1] 66)
  go_wp2_with fail
  generalize W2.alloc (.cells #[.int .i64 ks, .int .i64 0, .int .i64 2, .int .i64 ks, .int .i64 1, .int .i64 1] 66) = V0 at *
  generalize W2.heap.size = G0 at *
  refine (hstore_any h 1 2 ks _ hs).mono ?_
  rintro e W3 ⟨rfl, b⟩
  replace hb := hb.trans (b.mono hb.size)
  replace R0 := ownsRow_below R0 b
  clear b
  go_wp2_with fail
  refine (hstore_any h 0 1 ks _ hs).mono ?_
  rintro e W4 ⟨rfl, b⟩
  replace hb := hb.trans (b.mono hb.size)
  replace R0 := ownsRow_below R0 b
  clear b
  have R1 := own_lit (w := W4) (B := w.heap.size) [⟨ks, 1, 2⟩, ⟨ks, 0, 1⟩] (cs := #[.int .i64 ks, .int .i64 1, .int .i64 2, .int .i64 ks, .int .i64 0, .int .i64 1]) hb.size rfl (by simp)
  have hne := own_ne (m := 2) (c := 2) R0 (Nat.le_refl W4.heap.size)
  replace R0 := ownsRow_below R0 (below1 W4 (.cells #[.int .i64 ks, .int .i64 1, .int .i64 2, .int .i64 ks, .int .i64 0, .int .i64 1] 66))
  replace hb := hb.alloc hb.size (.cells #[.int .i64 ks, .int .i64 1, .int .i64 2, .int .i64 ks, .int .i64 0, .int .i64 1] 66)
  simp only [List.length_cons, List.length_nil, Nat.zero_add, Nat.reduceAdd] at R0 R1
  go_wp2_with fail
  have O := own_lit2 (w := (W4.alloc (.cells #[.int .i64 ks, .int .i64 1, .int .i64 2, .int .i64 ks, .int .i64 0, .int .i64 1] 66))) (B := w.heap.size) (v1 := (.slice (some ⟨G0, 0, none⟩) 2 2)) (v2 := (.slice (some ⟨W4.heap.size, 0, none⟩) 2 2)) hb.size
  have bo := below1 (W4.alloc (.cells #[.int .i64 ks, .int .i64 1, .int .i64 2, .int .i64 ks, .int .i64 0, .int .i64 1] 66)) (.cells #[.slice (some ⟨G0, 0, none⟩) 2 2, .slice (some ⟨W4.heap.size, 0, none⟩) 2 2] 63)
  replace R0 := ownsRow_below R0 bo
  replace R1 := ownsRow_below R1 bo
  replace hb := hb.trans (bo.mono hb.size)
  rw [World.size_alloc] at O
  go_ret
  exact ⟨_, _, rfl, rdg_two (l1 := [⟨ks, 0, 2⟩, ⟨ks, 1, 1⟩]) (l2 := [⟨ks, 1, 2⟩, ⟨ks, 0, 1⟩]) R0 R1 hne O, hb⟩

set_option maxHeartbeats 1000000 in
theorem thr_wait (h ks kl : Int) (w : World) (hs : M.kst h = ks) (_hl : M.kld h = kl) :
    Calls Try.prog 122 #[.agg #[], .int .i64 h] w fun e w' => ∃ v vs, e = .returned v ∧ Rdg w' w.heap.size v [[⟨7, 0, 0⟩, ⟨2, 1, 0⟩, ⟨2, 0, 0⟩, ⟨8, 0, 0⟩], [⟨1, 0, 1⟩, ⟨9, 0, 0⟩, ⟨ks, 1, 1⟩]] vs ∧ Below w.heap.size w w' := by
  have hb := below1 w (.cells #[] 113)
  go_enter Try.func122, Try.ntmps122
  go_wp2_with fail
  generalize w.alloc (.cells #[] 113) = V at *
  refine (hread_any 0 1 2 _ rfl).mono ?_
  rintro e W1 ⟨rfl, b⟩
  replace hb := hb.trans (b.mono hb.size)
  clear b
  go_wp2_with fail
  refine (hread_any 0 0 2 _ rfl).mono ?_
  rintro e W2 ⟨rfl, b⟩
  replace hb := hb.trans (b.mono hb.size)
  clear b
  have R0 := own_lit (w := W2) (B := w.heap.size) [⟨7, 0, 0⟩, ⟨2, 1, 0⟩, ⟨2, 0, 0⟩, ⟨8, 0, 0⟩] (cs := #[.int .i64 7, .int .i64 0, .int .i64 0, .int .i64 2, .int .i64 1, .int .i64 0, .int .i64 2, .int .i64 0, .int .i64 0, .int .i64 8, .int .i64 0, .int .i64 0]) hb.size rfl (by simp)
  replace hb := hb.alloc hb.size (.cells #[.int .i64 7, .int .i64 0, .int .i64 0, .int .i64 2, .int .i64 1, .int .i64 0, .int .i64 2, .int .i64 0, .int .i64 0, .int .i64 8, .int .i64 0, .int .i64 0] 66)
  go_wp2_with fail
  generalize W2.alloc (.cells #[.int .i64 7, .int .i64 0, .int .i64 0, .int .i64 2, .int .i64 1, .int .i64 0, .int .i64 2, .int .i64 0, .int .i64 0, .int .i64 8, .int .i64 0, .int .i64 0] 66) = V0 at *
  generalize W2.heap.size = G0 at *
  refine (hstore_any 0 0 1 1 _ rfl).mono ?_
  rintro e W3 ⟨rfl, b⟩
  replace hb := hb.trans (b.mono hb.size)
  replace R0 := ownsRow_below R0 b
  clear b
  go_wp2_with fail
  refine (hstore_any h 1 1 ks _ hs).mono ?_
  rintro e W4 ⟨rfl, b⟩
  replace hb := hb.trans (b.mono hb.size)
  replace R0 := ownsRow_below R0 b
  clear b
  have R1 := own_lit (w := W4) (B := w.heap.size) [⟨1, 0, 1⟩, ⟨9, 0, 0⟩, ⟨ks, 1, 1⟩] (cs := #[.int .i64 1, .int .i64 0, .int .i64 1, .int .i64 9, .int .i64 0, .int .i64 0, .int .i64 ks, .int .i64 1, .int .i64 1]) hb.size rfl (by simp)
  have hne := own_ne (m := 3) (c := 3) R0 (Nat.le_refl W4.heap.size)
  replace R0 := ownsRow_below R0 (below1 W4 (.cells #[.int .i64 1, .int .i64 0, .int .i64 1, .int .i64 9, .int .i64 0, .int .i64 0, .int .i64 ks, .int .i64 1, .int .i64 1] 66))
  replace hb := hb.alloc hb.size (.cells #[.int .i64 1, .int .i64 0, .int .i64 1, .int .i64 9, .int .i64 0, .int .i64 0, .int .i64 ks, .int .i64 1, .int .i64 1] 66)
  simp only [List.length_cons, List.length_nil, Nat.zero_add, Nat.reduceAdd] at R0 R1
  go_wp2_with fail
  have O := own_lit2 (w := (W4.alloc (.cells #[.int .i64 1, .int .i64 0, .int .i64 1, .int .i64 9, .int .i64 0, .int .i64 0, .int .i64 ks, .int .i64 1, .int .i64 1] 66))) (B := w.heap.size) (v1 := (.slice (some ⟨G0, 0, none⟩) 4 4)) (v2 := (.slice (some ⟨W4.heap.size, 0, none⟩) 3 3)) hb.size
  have bo := below1 (W4.alloc (.cells #[.int .i64 1, .int .i64 0, .int .i64 1, .int .i64 9, .int .i64 0, .int .i64 0, .int .i64 ks, .int .i64 1, .int .i64 1] 66)) (.cells #[.slice (some ⟨G0, 0, none⟩) 4 4, .slice (some ⟨W4.heap.size, 0, none⟩) 3 3] 63)
  replace R0 := ownsRow_below R0 bo
  replace R1 := ownsRow_below R1 bo
  replace hb := hb.trans (bo.mono hb.size)
  rw [World.size_alloc] at O
  go_ret
  exact ⟨_, _, rfl, rdg_two (l1 := [⟨7, 0, 0⟩, ⟨2, 1, 0⟩, ⟨2, 0, 0⟩, ⟨8, 0, 0⟩]) (l2 := [⟨1, 0, 1⟩, ⟨9, 0, 0⟩, ⟨ks, 1, 1⟩]) R0 R1 hne O, hb⟩

end Go.Proofs.Ytiaibfalmmnipaa

namespace Go.Proofs.Ytiaibfalmmnipaa
open Go.RowKit

theorem own_cells {w : World} {B g c : Nat} {l : List M.D} {n : Nat} (h : w.ownsRow B 66 3 (.slice (some ⟨g, 0, none⟩) n c) n (flat l)) (i : Nat) (hi : i < l.length) : w.cell? ⟨g, i * 3, none⟩ = some (.int .i64 l[i].k) ∧ w.cell? ⟨g, i * 3 + 1, none⟩ = some (.int .i64 l[i].p) ∧ w.cell? ⟨g, i * 3 + 2, none⟩ = some (.int .i64 l[i].v) := by
  obtain ⟨h0, h1, h2⟩ := flat_get l i hi
  have c0 := h.cells (g := g) rfl (i * 3) _ h0
  have c1 := h.cells (g := g) rfl (i * 3 + 1) _ h1
  have c2 := h.cells (g := g) rfl (i * 3 + 2) _ h2
  rw [Go.WideShapes.add_plain, Nat.zero_add] at c0 c1 c2
  exact ⟨c0, c1, c2⟩

/-- What is answered: a row of the call's own, the one that was given or a new one. -/
structure FinAns (w w' : World) (B : Nat) (v v' : Value) (l : List M.D) : Prop where
  own : w'.ownsRow B 66 3 v' l.length (flat l)
  at_ : v' = v ∨ ∀ k, v'.ownBlock = some k → w.heap.size ≤ k
  bel : Below w.heap.size w w'

theorem fin_lit {w : World} {B : Nat} (v : Value) (l : List M.D) {cs : Array Value} (hB : B ≤ w.heap.size) (hcs : cs.toList = flat l) (hn : l.length ≤ 1000) (c1 c2 : Array Value) : FinAns w (((w.alloc (.cells c1 66)).alloc (.cells c2 66)).alloc (.cells cs 66)).drew B v (.slice (some ⟨w.heap.size + 1 + 1, 0, none⟩) l.length l.length) l := by
  have R := own_lit (w := (w.alloc (.cells c1 66)).alloc (.cells c2 66)) (B := B) l (by simp; omega) hcs hn
  simp only [World.size_alloc] at R
  have b3 := (below2 w (.cells c1 66) (.cells c2 66)).alloc (by simp; omega) (.cells cs 66)
  refine ⟨R, Or.inr fun k hk => ?_, b3.drew⟩
  have : w.heap.size + 1 + 1 = k := Option.some.inj hk
  omega

set_option maxHeartbeats 1000000 in
set_option maxRecDepth 100000 in
theorem finish_any (h : Int) (B : Nat) (v : Value) (l : List M.D) (w : World) (hB : B ≤ w.heap.size) (hl : l.length ≤ 1000) (ho : w.ownsRow B 66 3 v l.length (flat l)) :
    Calls Try.prog 37 #[.int .i64 h, v] w fun e w' => ∃ v', e = .returned v' ∧ FinAns w w' B v v' (M.fin h l) := by
  obtain ⟨av, cv, rfl⟩ := own_slx ho
  by_cases h2 : l.length = 2
  · match l, h2, ho with
    | [a, b], _, ho =>
      obtain ⟨g, cap, hv, hg, hlt⟩ := ho.form (by simp)
      simp only [Value.slice.injEq] at hv
      obtain ⟨rfl, _, rfl⟩ := hv
      have hcap := own_cap ho
      obtain ⟨k0, k1, k2⟩ := own_cells (l := [a, b]) ho 0 (by simp)
      obtain ⟨j0, j1, j2⟩ := own_cells (l := [a, b]) ho 1 (by simp)
      simp only [List.getElem_cons_zero, List.getElem_cons_succ, Nat.zero_mul, Nat.zero_add, Nat.one_mul] at k0 k1 k2 j0 j1 j2
      simp only [List.length_cons, List.length_nil, Nat.zero_add, Nat.reduceAdd] at ho hcap ⊢
      obtain ⟨ak, ap, av⟩ := a
      obtain ⟨bk, bp, bv⟩ := b
      simp only at k0 k1 k2 j0 j1 j2
      by_cases h1 : h = 1
      · subst h1
        have T := fin_lit (w := w) (B := B) (.slice (some ⟨g, 0, none⟩) 2 cv) [⟨ak, ap, av⟩, ⟨4, 0, 0⟩, ⟨bk, bp, bv⟩] (cs := #[.int .i64 ak, .int .i64 ap, .int .i64 av, .int .i64 4, .int .i64 0, .int .i64 0, .int .i64 bk, .int .i64 bp, .int .i64 bv]) hB rfl (by simp)
        go_enter Try.func37, Try.ntmps37
        go_wp2_with fail
        go_region
        all_goals
          go_wp2_with fail
          go_ret
          exact ⟨_, rfl, T _ _⟩
      · have h1' : (h == 1) = false := by simpa using h1
        by_cases h3 : h = 3 ∧ M.reads ak = true ∧ M.writes bk = true
        · obtain ⟨rfl, hr, hw⟩ := h3
          have e : M.fin 3 [⟨ak, ap, av⟩, ⟨bk, bp, bv⟩] = [⟨ak, ap, av⟩, ⟨3, bp, 0⟩] := by simp [M.fin, hr, hw]
          have T := fin_lit (w := w) (B := B) (.slice (some ⟨g, 0, none⟩) 2 cv) [⟨ak, ap, av⟩, ⟨3, bp, 0⟩] (cs := #[.int .i64 ak, .int .i64 ap, .int .i64 av, .int .i64 3, .int .i64 bp, .int .i64 0]) hB rfl (by simp)
          have C1 := fun W => reads_any ak W
          have C2 := fun W => writes_any bk W
          rw [hr] at C1
          rw [hw] at C2
          rw [e]
          go_enter Try.func37, Try.ntmps37
          go_wp2_with fail
          go_region
          all_goals
            go_wp2_with (first | (go_at_call 47; refine (C1 _).mono ?_; rintro e w' ⟨rfl, rfl⟩) | (go_at_call 58; refine (C2 _).mono ?_; rintro e w' ⟨rfl, rfl⟩))
            go_ret
            exact ⟨_, rfl, T _ _⟩
        · have e : M.fin h [⟨ak, ap, av⟩, ⟨bk, bp, bv⟩] = [⟨ak, ap, av⟩, ⟨bk, bp, bv⟩] := by simp only [M.fin]; rw [if_neg h1, if_neg h3]
          have T : ∀ c1 c2 : Array Value, FinAns w ((w.alloc (.cells c1 66)).alloc (.cells c2 66)).drew B (.slice (some ⟨g, 0, none⟩) 2 cv) (.slice (some ⟨g, 0, none⟩) 2 cv) [⟨ak, ap, av⟩, ⟨bk, bp, bv⟩] := fun c1 c2 => ⟨ownsRow_below ho (below2 w _ _).drew, Or.inl rfl, (below2 w _ _).drew⟩
          have C1 := fun W => reads_any ak W
          have C2 := fun W => writes_any bk W
          rw [e]
          by_cases h3' : h = 3
          · subst h3'
            cases hr : M.reads ak
            · rw [hr] at C1
              go_enter Try.func37, Try.ntmps37
              go_wp2_with fail
              go_region
              all_goals
                go_wp2_with (first | (go_at_call 47; refine (C1 _).mono ?_; rintro e w' ⟨rfl, rfl⟩) | (go_at_call 58; refine (C2 _).mono ?_; rintro e w' ⟨rfl, rfl⟩))
                go_ret
                exact ⟨_, rfl, T _ _⟩
            · have hw : M.writes bk = false := Bool.eq_false_iff.2 fun hw => h3 ⟨rfl, hr, hw⟩
              rw [hr] at C1
              rw [hw] at C2
              go_enter Try.func37, Try.ntmps37
              go_wp2_with fail
              go_region
              all_goals
                go_wp2_with (first | (go_at_call 47; refine (C1 _).mono ?_; rintro e w' ⟨rfl, rfl⟩) | (go_at_call 58; refine (C2 _).mono ?_; rintro e w' ⟨rfl, rfl⟩))
                go_ret
                exact ⟨_, rfl, T _ _⟩
          · have h3'' : (h == 3) = false := by simpa using h3'
            go_enter Try.func37, Try.ntmps37
            go_wp2_with fail
            go_region
            all_goals
              go_wp2_with fail
              go_ret
              exact ⟨_, rfl, T _ _⟩
  · have hne : ¬ ((l.length : Int) = 2) := by omega
    have hne' : ((l.length : Int) == 2) = false := by simpa using hne
    go_enter Try.func37, Try.ntmps37
    go_wp2_with fail
    go_ret
    exact ⟨_, rfl, ⟨by rw [M.fin_len h l h2]; exact ho, Or.inl rfl, Below.refl _ _⟩⟩

set_option maxHeartbeats 1000000 in
theorem formOf_any (s : Int) (w : World) :
    Calls Try.prog 35 #[.int .i64 s] w fun e w' => e = .returned (.tuple #[if s = 1 then .iface 108 (.agg #[]) else if s = 2 then .iface 109 (.agg #[]) else if s = 3 then .iface 110 (.agg #[]) else if s = 4 then .iface 111 (.agg #[]) else if s = 5 then .iface 112 (.agg #[]) else if s = 6 then .iface 113 (.agg #[]) else .nilIface, .bool (decide (1 ≤ s) && decide (s ≤ 6))]) ∧ w' = w := by
  by_cases h1 : s = 1
  · subst h1
    go_enter Try.func35, Try.ntmps35
    go_wp2_with fail
    go_returns
    exact ⟨rfl, rfl⟩
  have h1' : (s == 1) = false := by simpa using h1
  by_cases h2 : s = 2
  · subst h2
    go_enter Try.func35, Try.ntmps35
    go_wp2_with fail
    go_returns
    exact ⟨rfl, rfl⟩
  have h2' : (s == 2) = false := by simpa using h2
  by_cases h3 : s = 3
  · subst h3
    go_enter Try.func35, Try.ntmps35
    go_wp2_with fail
    go_returns
    exact ⟨rfl, rfl⟩
  have h3' : (s == 3) = false := by simpa using h3
  by_cases h4 : s = 4
  · subst h4
    go_enter Try.func35, Try.ntmps35
    go_wp2_with fail
    go_returns
    exact ⟨rfl, rfl⟩
  have h4' : (s == 4) = false := by simpa using h4
  by_cases h5 : s = 5
  · subst h5
    go_enter Try.func35, Try.ntmps35
    go_wp2_with fail
    go_returns
    exact ⟨rfl, rfl⟩
  have h5' : (s == 5) = false := by simpa using h5
  by_cases h6 : s = 6
  · subst h6
    go_enter Try.func35, Try.ntmps35
    go_wp2_with fail
    go_returns
    exact ⟨rfl, rfl⟩
  have h6' : (s == 6) = false := by simpa using h6
  have hno : (decide (1 ≤ s) && decide (s ≤ 6)) = false := by simp; omega
  rw [hno, if_neg h1, if_neg h2, if_neg h3, if_neg h4, if_neg h5, if_neg h6]
  go_enter Try.func35, Try.ntmps35
  go_wp2_with fail
  go_returns
  exact ⟨rfl, rfl⟩

end Go.Proofs.Ytiaibfalmmnipaa

namespace Go.Proofs.Ytiaibfalmmnipaa
open Go.RowKit

def M.oddR (s : Int) : List Int := if s = 1 then [0, 0] else if s = 2 then [1, 0] else if s = 3 then [1, 1] else if s = 4 then [1, 0] else if s = 6 then [1, 0] else []
def M.oddL (s : Int) : List Int := if s = 1 then [1, 1, 0] else if s = 2 then [1, 1, 0] else if s = 3 then [1, 1, 0] else if s = 4 then [1, 0, 0] else if s = 5 then [2, 2, 0] else if s = 6 then [1, 1, 0] else []
theorem own_litI {w : World} {B : Nat} (l : List Int) {cs : Array Value} (hB : B ≤ w.heap.size) (hcs : cs.toList = nums l) (hn : l.length ≤ 1000) : (w.alloc (.cells cs 3)).ownsRow B 3 1 (.slice (some ⟨w.heap.size, 0, none⟩) l.length l.length) l.length (nums l) :=
  ⟨by simp [nums], .inr ⟨_, l.length, cs, rfl, hB, heap_alloc_new w _, Nat.le_refl _, by unfold maxLen; omega, by rw [← Array.length_toList, hcs]; simp [nums], by rw [hcs, Nat.mul_one, List.take_of_length_le (by simp [nums])]⟩⟩
/-- Two rows of numbers made one behind the other. -/
theorem ts_lit {w W : World} (r1 r2 : List Int) {c1 c2 : Array Value} (hb : Below w.heap.size w W) (h1 : c1.toList = nums r1) (h2 : c2.toList = nums r2) (n1 : r1.length ≤ 1000) (n2 : r2.length ≤ 1000) :
    TsAns w ((W.alloc (.cells c1 3)).alloc (.cells c2 3)) (.slice (some ⟨W.heap.size, 0, none⟩) r1.length r1.length) (.slice (some ⟨W.heap.size + 1, 0, none⟩) r2.length r2.length) r1 r2 := by
  have R1 := ownsRow_below (own_litI (w := W) (B := w.heap.size) r1 hb.size h1 n1) (below1 _ (.cells c2 3))
  have R2 := own_litI (w := W.alloc (.cells c1 3)) (B := w.heap.size) r2 (by have := hb.size; simp; omega) h2 n2
  rw [World.size_alloc] at R2
  have bb := (hb.alloc hb.size (.cells c1 3)).alloc (hb.alloc hb.size (.cells c1 3)).size (.cells c2 3)
  refine ⟨R1, R2, ?_, bb⟩
  intro k hk e
  simp [Value.ownBlock] at hk e
  omega
theorem ts_lit1 {w W : World} (r2 : List Int) {c2 : Array Value} (hb : Below w.heap.size w W) (h2 : c2.toList = nums r2) (n2 : r2.length ≤ 1000) :
    TsAns w (W.alloc (.cells c2 3)) (.slice none 0 0) (.slice (some ⟨W.heap.size, 0, none⟩) r2.length r2.length) [] r2 := by
  have R2 := own_litI (w := W) (B := w.heap.size) r2 hb.size h2 n2
  have bb := hb.alloc hb.size (.cells c2 3)
  refine ⟨World.ownsRow_nil _ _ _ _, R2, ?_, bb⟩
  intro k hk e
  simp [Value.ownBlock] at hk
theorem Slot2.belo {w w' : World} {b : Nat} {x y : Value} (h : Slot2 w b x y) (hb : Below w.heap.size w w') : Slot2 w' b x y := h.of (hb.block b h.lt)
theorem ts_none {w W : World} (hb : Below w.heap.size w W) : TsAns w W (.slice none 0 0) (.slice none 0 0) [] [] :=
  ⟨World.ownsRow_nil _ _ _ _, World.ownsRow_nil _ _ _ _, fun k hk => by simp [Value.ownBlock] at hk, hb⟩

theorem as_cross_cross (W : World) (v : Value) : (Instr.typeAssert (.iface 108 v) 75 108 true).run Try.prog W = .ok (.tuple #[v, .bool true]) W := by kernel_rfl
theorem as_cross_pass (W : World) (v : Value) : (Instr.typeAssert (.iface 108 v) 75 109 true).run Try.prog W = .ok (.tuple #[.agg #[], .bool false]) W := by kernel_rfl
theorem as_cross_round (W : World) (v : Value) : (Instr.typeAssert (.iface 108 v) 75 110 true).run Try.prog W = .ok (.tuple #[.agg #[], .bool false]) W := by kernel_rfl
theorem as_cross_twice (W : World) (v : Value) : (Instr.typeAssert (.iface 108 v) 75 111 true).run Try.prog W = .ok (.tuple #[.agg #[], .bool false]) W := by kernel_rfl
theorem as_cross_four (W : World) (v : Value) : (Instr.typeAssert (.iface 108 v) 75 112 true).run Try.prog W = .ok (.tuple #[.agg #[], .bool false]) W := by kernel_rfl
theorem as_cross_wait (W : World) (v : Value) : (Instr.typeAssert (.iface 108 v) 75 113 true).run Try.prog W = .ok (.tuple #[.agg #[], .bool false]) W := by kernel_rfl
theorem as_pass_cross (W : World) (v : Value) : (Instr.typeAssert (.iface 109 v) 75 108 true).run Try.prog W = .ok (.tuple #[.agg #[], .bool false]) W := by kernel_rfl
theorem as_pass_pass (W : World) (v : Value) : (Instr.typeAssert (.iface 109 v) 75 109 true).run Try.prog W = .ok (.tuple #[v, .bool true]) W := by kernel_rfl
theorem as_pass_round (W : World) (v : Value) : (Instr.typeAssert (.iface 109 v) 75 110 true).run Try.prog W = .ok (.tuple #[.agg #[], .bool false]) W := by kernel_rfl
theorem as_pass_twice (W : World) (v : Value) : (Instr.typeAssert (.iface 109 v) 75 111 true).run Try.prog W = .ok (.tuple #[.agg #[], .bool false]) W := by kernel_rfl
theorem as_pass_four (W : World) (v : Value) : (Instr.typeAssert (.iface 109 v) 75 112 true).run Try.prog W = .ok (.tuple #[.agg #[], .bool false]) W := by kernel_rfl
theorem as_pass_wait (W : World) (v : Value) : (Instr.typeAssert (.iface 109 v) 75 113 true).run Try.prog W = .ok (.tuple #[.agg #[], .bool false]) W := by kernel_rfl
theorem as_round_cross (W : World) (v : Value) : (Instr.typeAssert (.iface 110 v) 75 108 true).run Try.prog W = .ok (.tuple #[.agg #[], .bool false]) W := by kernel_rfl
theorem as_round_pass (W : World) (v : Value) : (Instr.typeAssert (.iface 110 v) 75 109 true).run Try.prog W = .ok (.tuple #[.agg #[], .bool false]) W := by kernel_rfl
theorem as_round_round (W : World) (v : Value) : (Instr.typeAssert (.iface 110 v) 75 110 true).run Try.prog W = .ok (.tuple #[v, .bool true]) W := by kernel_rfl
theorem as_round_twice (W : World) (v : Value) : (Instr.typeAssert (.iface 110 v) 75 111 true).run Try.prog W = .ok (.tuple #[.agg #[], .bool false]) W := by kernel_rfl
theorem as_round_four (W : World) (v : Value) : (Instr.typeAssert (.iface 110 v) 75 112 true).run Try.prog W = .ok (.tuple #[.agg #[], .bool false]) W := by kernel_rfl
theorem as_round_wait (W : World) (v : Value) : (Instr.typeAssert (.iface 110 v) 75 113 true).run Try.prog W = .ok (.tuple #[.agg #[], .bool false]) W := by kernel_rfl
theorem as_twice_cross (W : World) (v : Value) : (Instr.typeAssert (.iface 111 v) 75 108 true).run Try.prog W = .ok (.tuple #[.agg #[], .bool false]) W := by kernel_rfl
theorem as_twice_pass (W : World) (v : Value) : (Instr.typeAssert (.iface 111 v) 75 109 true).run Try.prog W = .ok (.tuple #[.agg #[], .bool false]) W := by kernel_rfl
theorem as_twice_round (W : World) (v : Value) : (Instr.typeAssert (.iface 111 v) 75 110 true).run Try.prog W = .ok (.tuple #[.agg #[], .bool false]) W := by kernel_rfl
theorem as_twice_twice (W : World) (v : Value) : (Instr.typeAssert (.iface 111 v) 75 111 true).run Try.prog W = .ok (.tuple #[v, .bool true]) W := by kernel_rfl
theorem as_twice_four (W : World) (v : Value) : (Instr.typeAssert (.iface 111 v) 75 112 true).run Try.prog W = .ok (.tuple #[.agg #[], .bool false]) W := by kernel_rfl
theorem as_twice_wait (W : World) (v : Value) : (Instr.typeAssert (.iface 111 v) 75 113 true).run Try.prog W = .ok (.tuple #[.agg #[], .bool false]) W := by kernel_rfl
theorem as_four_cross (W : World) (v : Value) : (Instr.typeAssert (.iface 112 v) 75 108 true).run Try.prog W = .ok (.tuple #[.agg #[], .bool false]) W := by kernel_rfl
theorem as_four_pass (W : World) (v : Value) : (Instr.typeAssert (.iface 112 v) 75 109 true).run Try.prog W = .ok (.tuple #[.agg #[], .bool false]) W := by kernel_rfl
theorem as_four_round (W : World) (v : Value) : (Instr.typeAssert (.iface 112 v) 75 110 true).run Try.prog W = .ok (.tuple #[.agg #[], .bool false]) W := by kernel_rfl
theorem as_four_twice (W : World) (v : Value) : (Instr.typeAssert (.iface 112 v) 75 111 true).run Try.prog W = .ok (.tuple #[.agg #[], .bool false]) W := by kernel_rfl
theorem as_four_four (W : World) (v : Value) : (Instr.typeAssert (.iface 112 v) 75 112 true).run Try.prog W = .ok (.tuple #[v, .bool true]) W := by kernel_rfl
theorem as_four_wait (W : World) (v : Value) : (Instr.typeAssert (.iface 112 v) 75 113 true).run Try.prog W = .ok (.tuple #[.agg #[], .bool false]) W := by kernel_rfl
theorem as_wait_cross (W : World) (v : Value) : (Instr.typeAssert (.iface 113 v) 75 108 true).run Try.prog W = .ok (.tuple #[.agg #[], .bool false]) W := by kernel_rfl
theorem as_wait_pass (W : World) (v : Value) : (Instr.typeAssert (.iface 113 v) 75 109 true).run Try.prog W = .ok (.tuple #[.agg #[], .bool false]) W := by kernel_rfl
theorem as_wait_round (W : World) (v : Value) : (Instr.typeAssert (.iface 113 v) 75 110 true).run Try.prog W = .ok (.tuple #[.agg #[], .bool false]) W := by kernel_rfl
theorem as_wait_twice (W : World) (v : Value) : (Instr.typeAssert (.iface 113 v) 75 111 true).run Try.prog W = .ok (.tuple #[.agg #[], .bool false]) W := by kernel_rfl
theorem as_wait_four (W : World) (v : Value) : (Instr.typeAssert (.iface 113 v) 75 112 true).run Try.prog W = .ok (.tuple #[.agg #[], .bool false]) W := by kernel_rfl
theorem as_wait_wait (W : World) (v : Value) : (Instr.typeAssert (.iface 113 v) 75 113 true).run Try.prog W = .ok (.tuple #[v, .bool true]) W := by kernel_rfl

set_option maxHeartbeats 1000000 in
set_option maxRecDepth 100000 in
theorem odd_cross (w : World) :
    Calls Try.prog 36 #[.iface 108 (.agg #[])] w fun e w' => ∃ v1 v2, e = .returned (.agg #[v1, v2]) ∧ TsAns w w' v1 v2 [0, 0] [1, 1, 0] := by
  have a0 := fun W => as_cross_cross W (.agg #[])
  go_enter Try.func36, Try.ntmps36
  go_wp2_with fail
  have T := ts_lit (w := w) [0, 0] [1, 1, 0] (c1 := #[.int .i64 0, .int .i64 0]) (c2 := #[.int .i64 1, .int .i64 1, .int .i64 0]) (below1 w (.cells #[.slice (some ⟨w.heap.size + 1, 0, none⟩) 2 2, .slice (some ⟨w.heap.size + 1 + 1, 0, none⟩) 3 3] 39)) rfl rfl (by simp) (by simp)
  simp only [World.size_alloc] at T
  go_returns
  exact ⟨_, _, rfl, T⟩

set_option maxHeartbeats 1000000 in
set_option maxRecDepth 100000 in
theorem odd_pass (w : World) :
    Calls Try.prog 36 #[.iface 109 (.agg #[])] w fun e w' => ∃ v1 v2, e = .returned (.agg #[v1, v2]) ∧ TsAns w w' v1 v2 [1, 0] [1, 1, 0] := by
  have a0 := fun W => as_pass_cross W (.agg #[])
  have a1 := fun W => as_pass_pass W (.agg #[])
  have a2 := fun W => as_pass_wait W (.agg #[])
  go_enter Try.func36, Try.ntmps36
  go_wp2_with fail
  have T := ts_lit (w := w) [1, 0] [1, 1, 0] (c1 := #[.int .i64 1, .int .i64 0]) (c2 := #[.int .i64 1, .int .i64 1, .int .i64 0]) (below1 w (.cells #[.slice (some ⟨w.heap.size + 1, 0, none⟩) 2 2, .slice (some ⟨w.heap.size + 1 + 1, 0, none⟩) 3 3] 39)) rfl rfl (by simp) (by simp)
  simp only [World.size_alloc] at T
  go_returns
  exact ⟨_, _, rfl, T⟩

set_option maxHeartbeats 1000000 in
set_option maxRecDepth 100000 in
theorem odd_round (w : World) :
    Calls Try.prog 36 #[.iface 110 (.agg #[])] w fun e w' => ∃ v1 v2, e = .returned (.agg #[v1, v2]) ∧ TsAns w w' v1 v2 [1, 1] [1, 1, 0] := by
  have a0 := fun W => as_round_cross W (.agg #[])
  have a1 := fun W => as_round_pass W (.agg #[])
  have a2 := fun W => as_round_wait W (.agg #[])
  have a3 := fun W => as_round_round W (.agg #[])
  go_enter Try.func36, Try.ntmps36
  go_wp2_with fail
  have T := ts_lit (w := w) [1, 1] [1, 1, 0] (c1 := #[.int .i64 1, .int .i64 1]) (c2 := #[.int .i64 1, .int .i64 1, .int .i64 0]) (below1 w (.cells #[.slice (some ⟨w.heap.size + 1, 0, none⟩) 2 2, .slice (some ⟨w.heap.size + 1 + 1, 0, none⟩) 3 3] 39)) rfl rfl (by simp) (by simp)
  simp only [World.size_alloc] at T
  go_returns
  exact ⟨_, _, rfl, T⟩

set_option maxHeartbeats 1000000 in
set_option maxRecDepth 100000 in
theorem odd_twice (w : World) :
    Calls Try.prog 36 #[.iface 111 (.agg #[])] w fun e w' => ∃ v1 v2, e = .returned (.agg #[v1, v2]) ∧ TsAns w w' v1 v2 [1, 0] [1, 0, 0] := by
  have a0 := fun W => as_twice_cross W (.agg #[])
  have a1 := fun W => as_twice_pass W (.agg #[])
  have a2 := fun W => as_twice_wait W (.agg #[])
  have a3 := fun W => as_twice_round W (.agg #[])
  have a4 := fun W => as_twice_twice W (.agg #[])
  go_enter Try.func36, Try.ntmps36
  go_wp2_with fail
  have T := ts_lit (w := w) [1, 0] [1, 0, 0] (c1 := #[.int .i64 1, .int .i64 0]) (c2 := #[.int .i64 1, .int .i64 0, .int .i64 0]) (below1 w (.cells #[.slice (some ⟨w.heap.size + 1, 0, none⟩) 2 2, .slice (some ⟨w.heap.size + 1 + 1, 0, none⟩) 3 3] 39)) rfl rfl (by simp) (by simp)
  simp only [World.size_alloc] at T
  go_returns
  exact ⟨_, _, rfl, T⟩

set_option maxHeartbeats 1000000 in
set_option maxRecDepth 100000 in
theorem odd_four (w : World) :
    Calls Try.prog 36 #[.iface 112 (.agg #[])] w fun e w' => ∃ v1 v2, e = .returned (.agg #[v1, v2]) ∧ TsAns w w' v1 v2 [] [2, 2, 0] := by
  have a0 := fun W => as_four_cross W (.agg #[])
  have a1 := fun W => as_four_pass W (.agg #[])
  have a2 := fun W => as_four_wait W (.agg #[])
  have a3 := fun W => as_four_round W (.agg #[])
  have a4 := fun W => as_four_twice W (.agg #[])
  have a5 := fun W => as_four_four W (.agg #[])
  go_enter Try.func36, Try.ntmps36
  go_wp2_with fail
  have T := ts_lit1 (w := w) [2, 2, 0] (c2 := #[.int .i64 2, .int .i64 2, .int .i64 0]) (below1 w (.cells #[.slice none 0 0, .slice (some ⟨w.heap.size + 1, 0, none⟩) 3 3] 39)) rfl (by simp)
  simp only [World.size_alloc] at T
  go_returns
  exact ⟨_, _, rfl, T⟩

set_option maxHeartbeats 1000000 in
set_option maxRecDepth 100000 in
theorem odd_wait (w : World) :
    Calls Try.prog 36 #[.iface 113 (.agg #[])] w fun e w' => ∃ v1 v2, e = .returned (.agg #[v1, v2]) ∧ TsAns w w' v1 v2 [1, 0] [1, 1, 0] := by
  have a0 := fun W => as_wait_cross W (.agg #[])
  have a1 := fun W => as_wait_pass W (.agg #[])
  have a2 := fun W => as_wait_wait W (.agg #[])
  go_enter Try.func36, Try.ntmps36
  go_wp2_with fail
  have T := ts_lit (w := w) [1, 0] [1, 1, 0] (c1 := #[.int .i64 1, .int .i64 0]) (c2 := #[.int .i64 1, .int .i64 1, .int .i64 0]) (below1 w (.cells #[.slice (some ⟨w.heap.size + 1, 0, none⟩) 2 2, .slice (some ⟨w.heap.size + 1 + 1, 0, none⟩) 3 3] 39)) rfl rfl (by simp) (by simp)
  simp only [World.size_alloc] at T
  go_returns
  exact ⟨_, _, rfl, T⟩

def M.oddOk (s : Int) : Bool := decide (1 ≤ s) && decide (s ≤ 6)
theorem TsAns.box {w W W' : World} {v1 v2 : Value} {r1 r2 : List Int} (h : TsAns W W' v1 v2 r1 r2) (hb : Below w.heap.size w W) {X : Nat} (hX : w.heap.size ≤ X) (hXW : X < W.heap.size) (u1 u2 : Value) : TsAns w ((W'.setCell ⟨X, 0, none⟩ u1).setCell ⟨X, 1, none⟩ u2) v1 v2 r1 r2 := by
  have g1 := own_ge h.o1
  have g2 := own_ge h.o2
  refine ⟨ownsRow_mono (ownsRow_setCell_other (ownsRow_setCell_other h.o1 (a := ⟨X, 0, none⟩) ?_ _) (a := ⟨X, 1, none⟩) ?_ _) hb.size, ownsRow_mono (ownsRow_setCell_other (ownsRow_setCell_other h.o2 (a := ⟨X, 0, none⟩) ?_ _) (a := ⟨X, 1, none⟩) ?_ _) hb.size, h.ap, ((hb.trans (h.bel.mono hb.size)).setCell hX _).setCell hX _⟩
  · intro e; have := g1 X e; omega
  · intro e; have := g1 X e; omega
  · intro e; have := g2 X e; omega
  · intro e; have := g2 X e; omega

set_option maxHeartbeats 1000000 in
set_option maxRecDepth 100000 in
theorem iodd_any (s : Int) (w : World) :
    Calls Try.prog 13 #[.int .i64 s] w fun e w' => ∃ v1 v2, e = .returned (.tuple #[.agg #[v1, v2], .bool (M.oddOk s)]) ∧ TsAns w w' v1 v2 (M.oddR s) (M.oddL s) := by
  have hb := below1 w (.cells #[.slice none 0 0, .slice none 0 0] 39)
  have hlt : w.heap.size < (w.alloc (.cells #[.slice none 0 0, .slice none 0 0] 39)).heap.size := by simp
  have hS : Slot2 (w.alloc (.cells #[.slice none 0 0, .slice none 0 0] 39)) w.heap.size (.slice none 0 0) (.slice none 0 0) := ⟨heap_alloc_new w _⟩
  by_cases h1 : s = 1
  · subst h1
    go_enter Try.func13, Try.ntmps13
    go_wp2_with fail
    refine (formOf_any 1 _).mono ?_
    rintro e w0 ⟨rfl, rfl⟩
    go_wp2_with fail
    refine (odd_cross _).mono ?_
    rintro e w1 ⟨v1, v2, rfl, hT⟩
    obtain ⟨x1, y1, rfl⟩ := own_slx hT.o1
    obtain ⟨x2, y2, rfl⟩ := own_slx hT.o2
    simp only [List.length_cons, List.length_nil, Nat.zero_add, Nat.reduceAdd] at hT ⊢
    have hS1 := hS.belo hT.bel
    have c0 := hS1.c0
    have c1 := hS1.c1
    have cf := hS1.fz
    have hS2 := (hS1.set0 (.slice x1 2 y1)).set1 (.slice x2 3 y2)
    have d0 := hS2.c0
    have d1 := hS2.c1
    go_wp2_with fail
    exact bodyPost_ret (v := .tuple #[.agg #[.slice x1 2 y1, .slice x2 3 y2], .bool true]) (by simp [results, Try.results13, go_sem, d0, d1]) rfl ⟨_, _, rfl, hT.box hb (Nat.le_refl _) hlt _ _⟩
  by_cases h2 : s = 2
  · subst h2
    go_enter Try.func13, Try.ntmps13
    go_wp2_with fail
    refine (formOf_any 2 _).mono ?_
    rintro e w0 ⟨rfl, rfl⟩
    go_wp2_with fail
    refine (odd_pass _).mono ?_
    rintro e w1 ⟨v1, v2, rfl, hT⟩
    obtain ⟨x1, y1, rfl⟩ := own_slx hT.o1
    obtain ⟨x2, y2, rfl⟩ := own_slx hT.o2
    simp only [List.length_cons, List.length_nil, Nat.zero_add, Nat.reduceAdd] at hT ⊢
    have hS1 := hS.belo hT.bel
    have c0 := hS1.c0
    have c1 := hS1.c1
    have cf := hS1.fz
    have hS2 := (hS1.set0 (.slice x1 2 y1)).set1 (.slice x2 3 y2)
    have d0 := hS2.c0
    have d1 := hS2.c1
    go_wp2_with fail
    exact bodyPost_ret (v := .tuple #[.agg #[.slice x1 2 y1, .slice x2 3 y2], .bool true]) (by simp [results, Try.results13, go_sem, d0, d1]) rfl ⟨_, _, rfl, hT.box hb (Nat.le_refl _) hlt _ _⟩
  by_cases h3 : s = 3
  · subst h3
    go_enter Try.func13, Try.ntmps13
    go_wp2_with fail
    refine (formOf_any 3 _).mono ?_
    rintro e w0 ⟨rfl, rfl⟩
    go_wp2_with fail
    refine (odd_round _).mono ?_
    rintro e w1 ⟨v1, v2, rfl, hT⟩
    obtain ⟨x1, y1, rfl⟩ := own_slx hT.o1
    obtain ⟨x2, y2, rfl⟩ := own_slx hT.o2
    simp only [List.length_cons, List.length_nil, Nat.zero_add, Nat.reduceAdd] at hT ⊢
    have hS1 := hS.belo hT.bel
    have c0 := hS1.c0
    have c1 := hS1.c1
    have cf := hS1.fz
    have hS2 := (hS1.set0 (.slice x1 2 y1)).set1 (.slice x2 3 y2)
    have d0 := hS2.c0
    have d1 := hS2.c1
    go_wp2_with fail
    exact bodyPost_ret (v := .tuple #[.agg #[.slice x1 2 y1, .slice x2 3 y2], .bool true]) (by simp [results, Try.results13, go_sem, d0, d1]) rfl ⟨_, _, rfl, hT.box hb (Nat.le_refl _) hlt _ _⟩
  by_cases h4 : s = 4
  · subst h4
    go_enter Try.func13, Try.ntmps13
    go_wp2_with fail
    refine (formOf_any 4 _).mono ?_
    rintro e w0 ⟨rfl, rfl⟩
    go_wp2_with fail
    refine (odd_twice _).mono ?_
    rintro e w1 ⟨v1, v2, rfl, hT⟩
    obtain ⟨x1, y1, rfl⟩ := own_slx hT.o1
    obtain ⟨x2, y2, rfl⟩ := own_slx hT.o2
    simp only [List.length_cons, List.length_nil, Nat.zero_add, Nat.reduceAdd] at hT ⊢
    have hS1 := hS.belo hT.bel
    have c0 := hS1.c0
    have c1 := hS1.c1
    have cf := hS1.fz
    have hS2 := (hS1.set0 (.slice x1 2 y1)).set1 (.slice x2 3 y2)
    have d0 := hS2.c0
    have d1 := hS2.c1
    go_wp2_with fail
    exact bodyPost_ret (v := .tuple #[.agg #[.slice x1 2 y1, .slice x2 3 y2], .bool true]) (by simp [results, Try.results13, go_sem, d0, d1]) rfl ⟨_, _, rfl, hT.box hb (Nat.le_refl _) hlt _ _⟩
  by_cases h5 : s = 5
  · subst h5
    go_enter Try.func13, Try.ntmps13
    go_wp2_with fail
    refine (formOf_any 5 _).mono ?_
    rintro e w0 ⟨rfl, rfl⟩
    go_wp2_with fail
    refine (odd_four _).mono ?_
    rintro e w1 ⟨v1, v2, rfl, hT⟩
    obtain ⟨x1, y1, rfl⟩ := own_slx hT.o1
    obtain ⟨x2, y2, rfl⟩ := own_slx hT.o2
    simp only [List.length_cons, List.length_nil, Nat.zero_add, Nat.reduceAdd] at hT ⊢
    have hS1 := hS.belo hT.bel
    have c0 := hS1.c0
    have c1 := hS1.c1
    have cf := hS1.fz
    have hS2 := (hS1.set0 (.slice x1 0 y1)).set1 (.slice x2 3 y2)
    have d0 := hS2.c0
    have d1 := hS2.c1
    go_wp2_with fail
    exact bodyPost_ret (v := .tuple #[.agg #[.slice x1 0 y1, .slice x2 3 y2], .bool true]) (by simp [results, Try.results13, go_sem, d0, d1]) rfl ⟨_, _, rfl, hT.box hb (Nat.le_refl _) hlt _ _⟩
  by_cases h6 : s = 6
  · subst h6
    go_enter Try.func13, Try.ntmps13
    go_wp2_with fail
    refine (formOf_any 6 _).mono ?_
    rintro e w0 ⟨rfl, rfl⟩
    go_wp2_with fail
    refine (odd_wait _).mono ?_
    rintro e w1 ⟨v1, v2, rfl, hT⟩
    obtain ⟨x1, y1, rfl⟩ := own_slx hT.o1
    obtain ⟨x2, y2, rfl⟩ := own_slx hT.o2
    simp only [List.length_cons, List.length_nil, Nat.zero_add, Nat.reduceAdd] at hT ⊢
    have hS1 := hS.belo hT.bel
    have c0 := hS1.c0
    have c1 := hS1.c1
    have cf := hS1.fz
    have hS2 := (hS1.set0 (.slice x1 2 y1)).set1 (.slice x2 3 y2)
    have d0 := hS2.c0
    have d1 := hS2.c1
    go_wp2_with fail
    exact bodyPost_ret (v := .tuple #[.agg #[.slice x1 2 y1, .slice x2 3 y2], .bool true]) (by simp [results, Try.results13, go_sem, d0, d1]) rfl ⟨_, _, rfl, hT.box hb (Nat.le_refl _) hlt _ _⟩
  have hno : (decide (1 ≤ s) && decide (s ≤ 6)) = false := by simp; omega
  have e1 : M.oddOk s = false := hno
  have e2 : M.oddR s = [] := by simp [M.oddR, h1, h2, h3, h4, h6]
  have e3 : M.oddL s = [] := by simp [M.oddL, h1, h2, h3, h4, h5, h6]
  have CF : ∀ W, Calls Try.prog 35 #[.int .i64 s] W fun e w' => ∃ fv, e = .returned (.tuple #[fv, .bool false]) ∧ w' = W := fun W => by have C := formOf_any s W; rw [hno] at C; exact C.mono fun _ _ ⟨a, b⟩ => ⟨_, a, b⟩
  rw [e1, e2, e3]
  go_enter Try.func13, Try.ntmps13
  go_wp2_with fail
  refine (CF _).mono ?_
  rintro e w0 ⟨fv, rfl, rfl⟩
  go_wp2_with fail
  go_returns
  exact ⟨_, _, rfl, ts_none hb⟩

set_option maxHeartbeats 1000000 in
set_option maxRecDepth 100000 in
theorem sodd_any (s : Int) (w : World) :
    Calls Try.prog 12 #[.int .i64 s] w fun e w' => ∃ v1 v2, e = .returned (.tuple #[.agg #[v1, v2], .bool (M.oddOk s)]) ∧ TsAns w w' v1 v2 (M.oddR s) (M.oddL s) := by
  by_cases h1 : s = 1
  · subst h1
    have T := ts_lit (w := w) [0, 0] [1, 1, 0] (c1 := #[.int .i64 0, .int .i64 0]) (c2 := #[.int .i64 1, .int .i64 1, .int .i64 0]) (below1 w (.cells #[.slice (some ⟨w.heap.size + 1, 0, none⟩) 2 2, .slice (some ⟨w.heap.size + 1 + 1, 0, none⟩) 3 3] 39)) rfl rfl (by simp) (by simp)
    simp only [World.size_alloc] at T
    go_enter Try.func12, Try.ntmps12
    go_wp2_with fail
    go_returns
    exact ⟨_, _, rfl, T⟩
  have h1' : (s == 1) = false := by simpa using h1
  by_cases h2 : s = 2
  · subst h2
    have T := ts_lit (w := w) [1, 0] [1, 1, 0] (c1 := #[.int .i64 1, .int .i64 0]) (c2 := #[.int .i64 1, .int .i64 1, .int .i64 0]) (below1 w (.cells #[.slice (some ⟨w.heap.size + 1, 0, none⟩) 2 2, .slice (some ⟨w.heap.size + 1 + 1, 0, none⟩) 3 3] 39)) rfl rfl (by simp) (by simp)
    simp only [World.size_alloc] at T
    go_enter Try.func12, Try.ntmps12
    go_wp2_with fail
    go_returns
    exact ⟨_, _, rfl, T⟩
  have h2' : (s == 2) = false := by simpa using h2
  by_cases h3 : s = 3
  · subst h3
    have T := ts_lit (w := w) [1, 1] [1, 1, 0] (c1 := #[.int .i64 1, .int .i64 1]) (c2 := #[.int .i64 1, .int .i64 1, .int .i64 0]) (below1 w (.cells #[.slice (some ⟨w.heap.size + 1, 0, none⟩) 2 2, .slice (some ⟨w.heap.size + 1 + 1, 0, none⟩) 3 3] 39)) rfl rfl (by simp) (by simp)
    simp only [World.size_alloc] at T
    go_enter Try.func12, Try.ntmps12
    go_wp2_with fail
    go_returns
    exact ⟨_, _, rfl, T⟩
  have h3' : (s == 3) = false := by simpa using h3
  by_cases h4 : s = 4
  · subst h4
    have T := ts_lit (w := w) [1, 0] [1, 0, 0] (c1 := #[.int .i64 1, .int .i64 0]) (c2 := #[.int .i64 1, .int .i64 0, .int .i64 0]) (below1 w (.cells #[.slice (some ⟨w.heap.size + 1, 0, none⟩) 2 2, .slice (some ⟨w.heap.size + 1 + 1, 0, none⟩) 3 3] 39)) rfl rfl (by simp) (by simp)
    simp only [World.size_alloc] at T
    go_enter Try.func12, Try.ntmps12
    go_wp2_with fail
    go_returns
    exact ⟨_, _, rfl, T⟩
  have h4' : (s == 4) = false := by simpa using h4
  by_cases h5 : s = 5
  · subst h5
    have T := ts_lit (w := w) [] [2, 2, 0] (c1 := #[]) (c2 := #[.int .i64 2, .int .i64 2, .int .i64 0]) (below1 w (.cells #[.slice (some ⟨w.heap.size + 1, 0, none⟩) 0 0, .slice (some ⟨w.heap.size + 1 + 1, 0, none⟩) 3 3] 39)) rfl rfl (by simp) (by simp)
    simp only [World.size_alloc] at T
    go_enter Try.func12, Try.ntmps12
    go_wp2_with fail
    go_returns
    exact ⟨_, _, rfl, T⟩
  have h5' : (s == 5) = false := by simpa using h5
  by_cases h6 : s = 6
  · subst h6
    have T := ts_lit (w := w) [1, 0] [1, 1, 0] (c1 := #[.int .i64 1, .int .i64 0]) (c2 := #[.int .i64 1, .int .i64 1, .int .i64 0]) (below1 w (.cells #[.slice (some ⟨w.heap.size + 1, 0, none⟩) 2 2, .slice (some ⟨w.heap.size + 1 + 1, 0, none⟩) 3 3] 39)) rfl rfl (by simp) (by simp)
    simp only [World.size_alloc] at T
    go_enter Try.func12, Try.ntmps12
    go_wp2_with fail
    go_returns
    exact ⟨_, _, rfl, T⟩
  have h6' : (s == 6) = false := by simpa using h6
  have hno : (decide (1 ≤ s) && decide (s ≤ 6)) = false := by simp; omega
  have e1 : M.oddOk s = false := hno
  have e2 : M.oddR s = [] := by simp [M.oddR, h1, h2, h3, h4, h6]
  have e3 : M.oddL s = [] := by simp [M.oddL, h1, h2, h3, h4, h5, h6]
  rw [e1, e2, e3]
  go_enter Try.func12, Try.ntmps12
  go_wp2_with fail
  go_returns
  exact ⟨_, _, rfl, ts_none (below1 w _)⟩

end Go.Proofs.Ytiaibfalmmnipaa

namespace Go.Proofs.Ytiaibfalmmnipaa
open Go.RowKit

theorem ownsRow_keep {w w' : World} {B : Nat} {e : TypeId} {z : Nat} {v : Value} {n : Nat} {xs : List Value} (h : w.ownsRow B e z v n xs) (hk : ∀ b, B ≤ b → b < w.heap.size → w'.heap[b]? = w.heap[b]?) : w'.ownsRow B e z v n xs := by
  obtain ⟨h1, h2⟩ := h
  refine ⟨h1, ?_⟩
  rcases h2 with h2 | ⟨g, cap, cur, hv, hg, hh, r⟩
  · exact .inl h2
  · have hlt : g < w.heap.size := by
      rw [Array.getElem?_eq_some_iff] at hh
      exact hh.1
    exact .inr ⟨g, cap, cur, hv, hg, (hk g hg hlt).trans hh, r⟩
structure ShLp (w W1 wr : World) (h : Int) (ll : List (List M.D)) (us : List Value) (n : Nat) (v : Value) (vs : List Value) : Prop where
  rd : Rdg wr (w.heap.size + 2) v ((ll.take n).map (M.fin h)) vs
  p : Slot1 wr (w.heap.size + 1) v
  q : Slot1 wr w.heap.size (.slice none 0 0)
  bel : Below w.heap.size w wr
  sz : W1.heap.size ≤ wr.heap.size
  keep : ∀ b, w.heap.size + 2 ≤ b → b < W1.heap.size → wr.heap[b]? = W1.heap[b]?
  vb : ∀ k, v.ownBlock = some k → W1.heap.size ≤ k
  at_ : ∀ i (hi : i < vs.length) (hu : i < us.length) k, vs[i].ownBlock = some k → us[i].ownBlock = some k ∨ W1.heap.size ≤ k
theorem ShLp.len {w W1 wr : World} {h : Int} {ll : List (List M.D)} {us : List Value} {n : Nat} {v : Value} {vs : List Value} (H : ShLp w W1 wr h ll us n v vs) (hn : n ≤ ll.length) : vs.length = n := by
  rw [H.rd.b.len, List.length_map, List.length_take]; omega
theorem ShLp.next {w W1 wr w4 w5 : World} {h : Int} {ll : List (List M.D)} {us : List Value} {n : Nat} {v v4 vt : Value} {vs : List Value} {g5 cap5 : Nat} (H : ShLp w W1 wr h ll us n v vs) (R0 : Rdg W1 (w.heap.size + 2) vt ll us) (hn : n < ll.length) (hu : n < us.length)
    (hF : FinAns wr w4 (w.heap.size + 2) us[n] v4 (M.fin h ll[n])) (ho5 : w5.ownsRow (w.heap.size + 2) 63 1 (.slice (some ⟨g5, 0, none⟩) (((ll.take n).map (M.fin h)).length + 1) cap5) (((ll.take n).map (M.fin h)).length + 1) (vs ++ [v4]))
    (hg5 : (w4.alloc (.cells #[v4] 63)).grownBy w5 v.ownBlock) (hat : v.ownBlock = some g5 ∨ g5 = w4.heap.size + 1) (hlt : W1.heap.size ≤ w4.heap.size) :
    Slot1 w5 (w.heap.size + 1) v ∧ Below w.heap.size w w5 ∧ ∀ u, u = Value.slice (some ⟨g5, 0, none⟩) (((ll.take n).map (M.fin h)).length + 1) cap5 → ShLp w W1 (w5.setCell ⟨w.heap.size + 1, 0, none⟩ u) h ll us (n + 1) u (vs ++ [v4]) := by
  have hal := below1 w4 (.cells #[v4] 63)
  have hge := own_ge H.rd.b.outer
  have b4 := hF.bel
  have b4a := b4.trans (hal.mono b4.size)
  have bwa := H.bel.trans (b4a.mono H.bel.size)
  have lp := H.p.lt
  have lenv := H.len (Nat.le_of_lt hn)
  have hS : Slot1 w5 (w.heap.size + 1) v := (H.p.bl' b4a).apart hg5 (fun e => by have := hge _ e; omega)
  have hQ : Slot1 w5 w.heap.size (.slice none 0 0) := (H.q.bl' b4a).apart hg5 (fun e => by have := hge _ e; omega)
  have hB : Below w.heap.size w w5 := below_grown bwa hg5 (fun j hj => by have := hge j hj; omega) bwa.size
  have hR : Rdg w5 (w.heap.size + 2) (.slice (some ⟨g5, 0, none⟩) (((ll.take n).map (M.fin h)).length + 1) cap5) ((ll.take n).map (M.fin h) ++ [M.fin h ll[n]]) (vs ++ [v4]) := by
    refine ((H.rd.below b4).below hal).snocT (ownsRow_below hF.own hal) (fun i hi j hj e => ?_) ho5 hg5
    have hi' : i < us.length := by omega
    have l1 := ((H.rd.b.inner i (by have := H.rd.b.len; omega) hi).lt j hj).2
    rcases hF.at_ with e4 | e4
    · rw [e4] at e
      have l2 := ((R0.b.inner n hn hu).lt j e).2
      rcases H.at_ i hi hi' j hj with e5 | e5
      · exact R0.ap i n hi' hu (by omega) j e5 e
      · omega
    · have := e4 j e
      omega
  refine ⟨hS, hB, fun u hu' => ?_⟩
  subst hu'
  have tk : (ll.take (n + 1)).map (M.fin h) = (ll.take n).map (M.fin h) ++ [M.fin h ll[n]] := by
    rw [List.take_succ_eq_append_getElem hn, List.map_append]; rfl
  refine ⟨by rw [tk]; exact hR.far (by omega) _, hS.set _, hQ.far (by omega) _, hB.setCell (by show w.heap.size ≤ w.heap.size + 1; omega) _, ?_, fun b hb1 hb2 => ?_, fun k hk => ?_, fun i hi hu2 k hk => ?_⟩
  · have h1 := hg5.size
    simp only [World.size_setCell, World.size_alloc] at *
    omega
  · rw [Below.heap_setCell _ _ _ _ (by show b ≠ w.heap.size + 1; omega)]
    have h1 : w5.heap[b]? = (w4.alloc (.cells #[v4] 63)).heap[b]? := hg5.block b (by simp; omega) (fun e => by have := H.vb b e.symm; omega)
    rw [h1, hal.block b (by omega), b4.block b (by have := H.sz; omega)]
    exact H.keep b hb1 hb2
  · have hk' : g5 = k := Option.some.inj hk
    rcases hat with e | e
    · have := H.vb g5 e; omega
    · omega
  · by_cases hi' : i < vs.length
    · rw [List.getElem_append_left hi'] at hk
      exact H.at_ i hi' hu2 k hk
    · have : i = n := by simp at hi; omega
      subst this
      rw [List.getElem_append_right (by omega)] at hk
      have e0 : i - vs.length = 0 := by omega
      simp only [e0, List.getElem_cons_zero] at hk
      rcases hF.at_ with e4 | e4
      · rw [e4] at hk; exact Or.inl hk
      · have := e4 k hk
        exact Or.inr (by have := H.sz; omega)
theorem M.shape_no {s h : Int} (e : M.shapeOk s h = false) : M.shape s h = none := by simp [M.shape, e]
theorem M.shape_yes {s h : Int} (e : M.shapeOk s h = true) : M.shape s h = some ((M.raw s h).map (M.fin h)) := by simp [M.shape, e]
theorem M.raw_two (s h : Int) : (M.raw s h).length = 2 ∧ ∀ t ∈ M.raw s h, t.length ≤ 4 := by
  unfold M.raw
  repeat' split
  all_goals simp [M.sst]
theorem M.fin_le (h : Int) (l : List M.D) : (M.fin h l).length ≤ l.length + 1 := by
  unfold M.fin
  repeat' split
  all_goals simp

end Go.Proofs.Ytiaibfalmmnipaa

namespace Go.Proofs.Ytiaibfalmmnipaa
open Go.RowKit

theorem M.shape_small (s h : Int) : ((M.shape s h).getD []).length ≤ 2 ∧ ∀ t ∈ (M.shape s h).getD [], t.length ≤ 5 := by
  cases hok : M.shapeOk s h
  · rw [M.shape_no hok]; simp
  · rw [M.shape_yes hok]
    obtain ⟨h2, h4⟩ := M.raw_two s h
    refine ⟨by simp [h2], fun t ht => ?_⟩
    simp only [Option.getD_some, List.mem_map] at ht
    obtain ⟨u, hu, rfl⟩ := ht
    have := h4 u hu
    have := M.fin_le h u
    omega

theorem M.shape_some (s h : Int) : (M.shape s h).isSome = M.shapeOk s h := by
  cases hok : M.shapeOk s h
  · rw [M.shape_no hok]; rfl
  · rw [M.shape_yes hok]; rfl
theorem M.shape_cases {s h : Int} (e : M.shapeOk s h = true) : (s = 1 ∨ s = 2 ∨ s = 3 ∨ s = 4 ∨ s = 5 ∨ s = 6) ∧ (h = 0 ∨ h = 1 ∨ h = 2 ∨ h = 3) := by
  simp only [M.shapeOk, Bool.and_eq_true, decide_eq_true_eq] at e
  omega
theorem M.shape_prog {s h : Int} (e : M.shapeOk s h = true) : M.prog ((M.shape s h).getD []) = true ∧ ((M.shape s h).getD []).length = 2 := by
  obtain ⟨hs, hh⟩ := M.shape_cases e
  rcases hs with rfl | rfl | rfl | rfl | rfl | rfl <;> rcases hh with rfl | rfl | rfl | rfl <;> exact ⟨by decide, by decide⟩
theorem M.shape_bad {s h : Int} (e : M.shapeOk s h = false) : s < 1 ∨ (1 ≤ s ∧ 6 < s) ∨ (1 ≤ s ∧ s ≤ 6 ∧ h < 0) ∨ (1 ≤ s ∧ s ≤ 6 ∧ 0 ≤ h ∧ 3 < h) := by
  simp only [M.shapeOk, Bool.and_eq_false_iff, decide_eq_false_iff_not] at e
  omega

end Go.Proofs.Ytiaibfalmmnipaa
