/- Cells of literals; a row of steps more; steps as the cells of their row. No condition. Boxes of one cell kept by what only lays blocks. No condition. Turning about, plainly: rows of numbers, threads, places and values turned, programs side by side, plain ones. No condition. Steps that are changed where they lie: plainly, and in rows of the call's own. No condition. impl's rows: numbersBelow, isRowOf, and what is turned by a row, of numbers and of threads. Of at most 1000 things, rows of at most 1048576 numbers. impl's turn: the things with the numbers of a row; of numbers, of threads. Of at most 1000 things, rows of at most 1048576 numbers. impl.newList of steps, impl.copyProg: a program in rows of its own. Of at most 1048576 threads, and steps of a thread. impl.changeSteps: a program in rows of its own, each step changed by a closure that is met by its contract. Of at most 3 threads of at most 7 steps. Boxes of programs, told apart by their type; a program of one thread; one whose places are moved. No condition. slices.Grow of no slice, slices.Concat of two lists of threads. Of at most 1000 threads each. -/
import Derived.Test.YtdpoiabohkkbcaaDrTh
import Derived.Test.YtdpoiabohkkbcaaMem
import Derived.Deep.AppendLies
import Derived.Test.YtdpoiabohkkbcaaRdM
import Derived.Test.YtdpoiabohkkbcaaRowMore
import Derived.Test.YtdpoiabohkkbcaaMathN
import Derived.Test.YtdpoiabohkkbcaaCont
import Derived.Test.YtdpoiabohkkbcaaLpPg
import Derived.Test.YtdpoiabohkkbcaaIProg
import Derived.Test.YtdpoiabohkkbcaaWide
import Derived.Test.YtdpoiabohkkbcaaDrAn
import Derived.Lib.AppendZerosOnto
import Derived.Lib.SliceRun
import Derived.Laws.AppendOwnNone

namespace Go.Proofs.Ytdpoiabohkkbcaa
open Go.RowKit

theorem own_more {w : World} {B : Nat} {v : Value} {l m : List M.D} {d : M.D} (hm : m = l ++ [d]) (h : w.ownsRow B 55 3 v (l.length + 1) (flat l ++ [.int .i64 d.k, .int .i64 d.p, .int .i64 d.v])) : w.ownsRow B 55 3 v m.length (flat m) := by
  subst hm; rw [flat_append, List.length_append]; exact h
theorem cells_new3 (w : World) (x y z : Value) (t : TypeId) (N : Nat) (hN : N = w.heap.size) : ∀ (j : Nat) (u : Value), [x, y, z][j]? = some u → (w.alloc (.cells #[x, y, z] t)).cell? ((⟨N, 0, none⟩ : Addr).add j) = some u := by
  subst hN
  intro j u hj
  match j, hj with
  | 0, hj => simp at hj; subst hj; simp [Addr.add]
  | 1, hj => simp at hj; subst hj; simp [Addr.add]
  | 2, hj => simp at hj; subst hj; simp [Addr.add]
theorem one3 (x y z : Int) : ∀ u ∈ [Value.int .i64 x, Value.int .i64 y, Value.int .i64 z], u.oneCell' = true := by
  intro u hu; simp at hu; rcases hu with rfl | rfl | rfl <;> rfl
theorem nums_snoc (l : List Int) (x : Int) : nums (l ++ [x]) = nums l ++ [.int .i64 x] := by simp [nums]
theorem cells_new1 (w : World) (x : Value) (t : TypeId) (N : Nat) (hN : N = w.heap.size) : ∀ (j : Nat) (u : Value), [x][j]? = some u → (w.alloc (.cells #[x] t)).cell? ((⟨N, 0, none⟩ : Addr).add j) = some u := by
  subst hN
  intro j u hj
  match j, hj with
  | 0, hj => simp at hj; subst hj; simp [Addr.add]
theorem one1 (x : Int) : ∀ u ∈ [Value.int .i64 x], u.oneCell' = true := by intro u hu; simp at hu; subst hu; rfl
/-- Steps that lie somewhere are the cells of their row. -/
theorem DoS.flat_cells {w : World} {b o : Nat} {l : List M.D} (h : Row w b o l) : ∀ (j : Nat) (u : Value), (flat l)[j]? = some u → w.cell? ((⟨b, o, none⟩ : Addr).add j) = some u := by
  intro j u hj
  have hjl := (List.getElem?_eq_some_iff.1 hj).1
  rw [flat_length] at hjl
  rw [Go.WideShapes.add_plain]
  have hi : j / 3 < l.length := by omega
  obtain ⟨f0, f1, f2⟩ := flat_get l (j / 3) hi
  have hr := h (j / 3) hi
  have hm : j % 3 = 0 ∨ j % 3 = 1 ∨ j % 3 = 2 := by omega
  rcases hm with hm | hm | hm
  · have e : j = j / 3 * 3 := by omega
    rw [e, f0] at hj
    rw [← Option.some.inj hj, show o + j = o + j / 3 * 3 from by omega]
    exact hr.k
  · have e : j = j / 3 * 3 + 1 := by omega
    rw [e, f1] at hj
    rw [← Option.some.inj hj, show o + j = o + j / 3 * 3 + 1 from by omega]
    exact hr.p
  · have e : j = j / 3 * 3 + 2 := by omega
    rw [e, f2] at hj
    rw [← Option.some.inj hj, show o + j = o + j / 3 * 3 + 2 from by omega]
    exact hr.v
theorem flat_one' (l : List M.D) : ∀ y ∈ flat l, y.oneCell' = true := by
  induction l with
  | nil => intro y hy; cases hy
  | cons d l ih =>
    intro y hy
    simp only [flat, List.mem_cons] at hy
    rcases hy with rfl | rfl | rfl | hy
    · rfl
    · rfl
    · rfl
    · exact ih y hy

end Go.Proofs.Ytdpoiabohkkbcaa

namespace Go.Proofs.Ytdpoiabohkkbcaa
open Go.RowKit

theorem Slot1.bl' {w w' : World} {b : Nat} {x : Value} (h : Slot1 w b x) (hb : Below w.heap.size w w') : Slot1 w' b x :=
  ⟨(hb.cell (p := ⟨b, 0, none⟩) h.lt).trans h.c, (hb.frozen (p := ⟨b, 0, none⟩) h.lt).trans h.fz⟩
end Go.Proofs.Ytdpoiabohkkbcaa

namespace Go.Proofs.Ytdpoiabohkkbcaa
namespace M

/-- The numbers below one. -/
def bel (n : Nat) : List Int := (List.range n).map fun i : Nat => (i : Int)
theorem bel_len (n : Nat) : (bel n).length = n := by simp [bel]
theorem bel_get (n i : Nat) (h : i < (bel n).length) : (bel n)[i] = (i : Int) := by simp [bel]
theorem bel_succ (n : Nat) : bel (n + 1) = bel n ++ [(n : Int)] := by simp [bel, List.range_succ]
theorem bel_mem {n : Nat} {x : Int} : x ∈ bel n ↔ 0 ≤ x ∧ x < n := by
  simp only [bel, List.mem_map, List.mem_range]
  constructor
  · rintro ⟨a, ha, rfl⟩; omega
  · rintro ⟨h1, h2⟩; exact ⟨x.toNat, by omega, by omega⟩
theorem bel_nodup (n : Nat) : (bel n).Nodup := by
  induction n with
  | zero => simp [bel]
  | succ n ih =>
    rw [bel_succ, List.nodup_append]
    refine ⟨ih, by simp, fun x hx y hy => ?_⟩
    have := (bel_mem.1 hx).2
    simp at hy
    omega

/-- Of as many, none lacks. -/
def rowOf (row evs : List Int) : Bool := decide (row.length = evs.length) && evs.all (fun v => has row v)
theorem rowOf_short {row evs : List Int} (h : ¬ row.length = evs.length) : rowOf row evs = false := by simp [rowOf, h]
theorem rowOf_same {row evs : List Int} (h : row.length = evs.length) : rowOf row evs = evs.all (fun v => has row v) := by simp [rowOf, h]
theorem rowAll_step {row evs : List Int} {n : Nat} (h : evs.all (fun v => has row v) = (evs.drop n).all (fun v => has row v)) (hn : n < evs.length) : evs.all (fun v => has row v) = (has row evs[n] && (evs.drop (n + 1)).all (fun v => has row v)) := by
  rw [h, ← List.getElem_cons_drop hn, List.all_cons]
/-- A row of so many. -/
def rowN (row : List Int) (n : Nat) : Bool := rowOf row (bel n)

theorem nodupI_le : ∀ {l m : List Int}, l.Nodup → (∀ x ∈ l, x ∈ m) → l.length ≤ m.length := by
  intro l
  induction l with
  | nil => intro m _ _; simp
  | cons x l ih =>
    intro m hn hs
    rw [List.nodup_cons] at hn
    have hx := hs x (by simp)
    have h1 := ih (m := m.erase x) hn.2 (fun y hy => by
      have hne : y ≠ x := fun e => hn.1 (by rw [← e]; exact hy)
      exact (List.mem_erase_of_ne hne).2 (hs y (List.mem_cons_of_mem _ hy)))
    have h2 := List.length_erase_of_mem hx
    have h3 : 0 < m.length := List.length_pos_of_mem hx
    simp only [List.length_cons]
    omega
theorem nodupI_all {l m : List Int} (hn : l.Nodup) (hs : ∀ x ∈ l, x ∈ m) (hlen : m.length = l.length) : ∀ y ∈ m, y ∈ l := by
  intro y hy
  apply Classical.byContradiction
  intro hc
  have h1 := nodupI_le (l := y :: l) (m := m) (List.nodup_cons.2 ⟨hc, hn⟩) (fun x hx => by
    rcases List.mem_cons.1 hx with rfl | hx
    · exact hy
    · exact hs x hx)
  simp only [List.length_cons] at h1
  omega

theorem rowN_len {row : List Int} {n : Nat} (h : rowN row n = true) : row.length = n := by
  simp only [rowN, rowOf, Bool.and_eq_true, decide_eq_true_eq, bel_len] at h; exact h.1
theorem rowN_all {row : List Int} {n : Nat} (h : rowN row n = true) : ∀ x ∈ bel n, x ∈ row := by
  simp only [rowN, rowOf, Bool.and_eq_true, List.all_eq_true, has, List.contains_eq_mem, decide_eq_true_eq] at h; exact h.2
theorem rowN_mem {row : List Int} {n : Nat} (h : rowN row n = true) : ∀ x ∈ row, 0 ≤ x ∧ x < n := fun x hx =>
  bel_mem.1 (nodupI_all (bel_nodup n) (rowN_all h) (by rw [rowN_len h, bel_len]) x hx)
theorem rowN_get {row : List Int} {n : Nat} (h : rowN row n = true) (i : Nat) (hi : i < row.length) : 0 ≤ row[i] ∧ row[i] < n := rowN_mem h _ (List.getElem_mem hi)
theorem rowN_bel (n : Nat) : rowN (bel n) n = true := by
  simp only [rowN, rowOf, Bool.and_eq_true, decide_eq_true_eq, List.all_eq_true, has, List.contains_eq_mem]
  exact ⟨trivial, fun x hx => hx⟩

/-- The things with these numbers. -/
def pick {α : Type} (z : α) (row : List Int) (l : List α) : List α := row.map fun i => l.getD i.toNat z
theorem pick_len {α : Type} (z : α) (row : List Int) (l : List α) : (pick z row l).length = row.length := by simp [pick]
theorem pick_take {α : Type} (z : α) (row : List Int) (l : List α) (n : Nat) (h : n < row.length) : pick z (row.take (n + 1)) l = pick z (row.take n) l ++ [l.getD row[n].toNat z] := by
  rw [List.take_succ_eq_append_getElem h]; unfold pick; rw [List.map_append]; rfl
theorem getD_get {α : Type} {z : α} {l : List α} {i : Nat} (h : i < l.length) : l.getD i z = l[i] := by
  rw [List.getD_eq_getElem?_getD, List.getElem?_eq_getElem h]; rfl
theorem pick_bel {α : Type} (z : α) (l : List α) : pick z (bel l.length) l = l := by
  apply List.ext_getElem
  · simp [pick, bel]
  · intro i h1 h2
    simp only [pick, List.getElem_map, bel_get]
    exact getD_get h2
theorem pick_mem {α : Type} {z : α} {row : List Int} {l : List α} {t : α} (h : t ∈ pick z row l) : t ∈ l ∨ t = z := by
  simp only [pick, List.mem_map] at h
  obtain ⟨i, _, rfl⟩ := h
  by_cases hi : i.toNat < l.length
  · rw [getD_get hi]; exact Or.inl (List.getElem_mem hi)
  · right; rw [List.getD_eq_getElem?_getD, List.getElem?_eq_none (by omega)]; rfl

def turnThreads (ll : List (List D)) (row : List Int) : Option (List (List D)) := if prog ll && rowN row ll.length then some (pick [] row ll) else none
theorem turnThreads_bad {ll : List (List D)} {row : List Int} (h : prog ll = false) : turnThreads ll row = none := by simp [turnThreads, h]
theorem turnThreads_row {ll : List (List D)} {row : List Int} (h : rowN row ll.length = false) : turnThreads ll row = none := by simp [turnThreads, h]
theorem turnThreads_yes {ll : List (List D)} {row : List Int} (h : prog ll = true) (h2 : rowN row ll.length = true) : turnThreads ll row = some (pick [] row ll) := by simp [turnThreads, h, h2]
theorem turnThreads_some {ll mm : List (List D)} {row : List Int} (h : turnThreads ll row = some mm) : prog ll = true ∧ rowN row ll.length = true ∧ mm = pick [] row ll := by
  unfold turnThreads at h
  split at h
  · rename_i hc
    simp only [Bool.and_eq_true] at hc
    exact ⟨hc.1, hc.2, (Option.some.inj h).symm⟩
  · cases h
theorem turnThreads_small {ll mm : List (List D)} {row : List Int} (e : (turnThreads ll row).getD [] = mm) : mm.length ≤ 3 ∧ ∀ t ∈ mm, t.length ≤ 7 := by
  cases h : turnThreads ll row with
  | none => rw [h] at e; subst e; simp
  | some x =>
    rw [h] at e
    obtain rfl : x = mm := e
    obtain ⟨h1, h2, rfl⟩ := turnThreads_some h
    obtain ⟨h3, h7⟩ := prog_le h1
    refine ⟨by rw [pick_len, rowN_len h2]; exact h3, fun t ht => ?_⟩
    rcases pick_mem ht with ht | rfl
    · exact h7 t ht
    · simp

/-- Each step another one. -/
def mapS (f : D → D) (ll : List (List D)) : List (List D) := ll.map fun t => t.map f
theorem mapS_len (f : D → D) (ll : List (List D)) : (mapS f ll).length = ll.length := by simp [mapS]
theorem mapS_small {f : D → D} {ll : List (List D)} (h7 : ∀ t ∈ ll, t.length ≤ 7) : ∀ t ∈ mapS f ll, t.length ≤ 7 := by
  intro t ht
  simp only [mapS, List.mem_map] at ht
  obtain ⟨u, hu, rfl⟩ := ht
  rw [List.length_map]; exact h7 u hu
theorem mapS_take (f : D → D) (ll : List (List D)) (n : Nat) (h : n < ll.length) : mapS f (ll.take (n + 1)) = mapS f (ll.take n) ++ [ll[n].map f] := by
  rw [List.take_succ_eq_append_getElem h]; unfold mapS; rw [List.map_append]; rfl

def placeF (row : List Int) (d : D) : D := if uses d.k then ⟨d.k, row.getD d.p.toNat 0, d.v⟩ else d
def valF (row : List Int) (d : D) : D := ⟨d.k, d.p, row.getD d.v.toNat 0⟩
def plainK (k : Int) : Int := if k = 5 then 2 else if k = 6 then 1 else k
def plainF (d : D) : D := ⟨plainK d.k, d.p, d.v⟩

def turnPlaces (ll : List (List D)) (row : List Int) : Option (List (List D)) := if prog ll && rowN row 3 then some (mapS (placeF row) ll) else none
theorem turnPlaces_bad {ll : List (List D)} {row : List Int} (h : prog ll = false) : turnPlaces ll row = none := by simp [turnPlaces, h]
theorem turnPlaces_row {ll : List (List D)} {row : List Int} (h : rowN row 3 = false) : turnPlaces ll row = none := by simp [turnPlaces, h]
theorem turnPlaces_yes {ll : List (List D)} {row : List Int} (h : prog ll = true) (h2 : rowN row 3 = true) : turnPlaces ll row = some (mapS (placeF row) ll) := by simp [turnPlaces, h, h2]
theorem turnPlaces_some {ll mm : List (List D)} {row : List Int} (h : turnPlaces ll row = some mm) : prog ll = true ∧ rowN row 3 = true ∧ mm = mapS (placeF row) ll := by
  unfold turnPlaces at h
  split at h
  · rename_i hc
    simp only [Bool.and_eq_true] at hc
    exact ⟨hc.1, hc.2, (Option.some.inj h).symm⟩
  · cases h
theorem turnPlaces_small {ll mm : List (List D)} {row : List Int} (e : (turnPlaces ll row).getD [] = mm) : mm.length ≤ 3 ∧ ∀ t ∈ mm, t.length ≤ 7 := by
  cases h : turnPlaces ll row with
  | none => rw [h] at e; subst e; simp
  | some x =>
    rw [h] at e
    obtain rfl : x = mm := e
    obtain ⟨h1, h2, rfl⟩ := turnPlaces_some h
    obtain ⟨h3, h7⟩ := prog_le h1
    exact ⟨by rw [mapS_len]; exact h3, mapS_small h7⟩

def turnVals (ll : List (List D)) (row : List Int) : Option (List (List D)) := if prog ll && rowN row 4 && row.getD 0 0 == 0 then some (mapS (valF row) ll) else none
theorem turnVals_bad {ll : List (List D)} {row : List Int} (h : prog ll = false) : turnVals ll row = none := by simp [turnVals, h]
theorem turnVals_row {ll : List (List D)} {row : List Int} (h : rowN row 4 = false) : turnVals ll row = none := by simp [turnVals, h]
theorem turnVals_first {ll : List (List D)} {row : List Int} (h : (row.getD 0 0 == 0) = false) : turnVals ll row = none := by simp only [turnVals, h]; simp
theorem turnVals_yes {ll : List (List D)} {row : List Int} (h : prog ll = true) (h2 : rowN row 4 = true) (h3 : (row.getD 0 0 == 0) = true) : turnVals ll row = some (mapS (valF row) ll) := by simp only [turnVals, h, h2, h3]; simp
theorem turnVals_some {ll mm : List (List D)} {row : List Int} (h : turnVals ll row = some mm) : prog ll = true ∧ rowN row 4 = true ∧ row.getD 0 0 = 0 ∧ mm = mapS (valF row) ll := by
  unfold turnVals at h
  split at h
  · rename_i hc
    simp only [Bool.and_eq_true, beq_iff_eq] at hc
    exact ⟨hc.1.1, hc.1.2, hc.2, (Option.some.inj h).symm⟩
  · cases h
theorem turnVals_small {ll mm : List (List D)} {row : List Int} (e : (turnVals ll row).getD [] = mm) : mm.length ≤ 3 ∧ ∀ t ∈ mm, t.length ≤ 7 := by
  cases h : turnVals ll row with
  | none => rw [h] at e; subst e; simp
  | some x =>
    rw [h] at e
    obtain rfl : x = mm := e
    obtain ⟨h1, h2, _, rfl⟩ := turnVals_some h
    obtain ⟨h3, h7⟩ := prog_le h1
    exact ⟨by rw [mapS_len]; exact h3, mapS_small h7⟩

def turnPlain (ll : List (List D)) : List (List D) := if prog ll then mapS plainF ll else []
theorem turnPlain_bad {ll : List (List D)} (h : prog ll = false) : turnPlain ll = [] := by simp [turnPlain, h]
theorem turnPlain_yes {ll : List (List D)} (h : prog ll = true) : turnPlain ll = mapS plainF ll := by simp [turnPlain, h]
theorem turnPlain_small {ll mm : List (List D)} (e : turnPlain ll = mm) : mm.length ≤ 3 ∧ ∀ t ∈ mm, t.length ≤ 7 := by
  subst e
  cases h : prog ll with
  | false => rw [turnPlain_bad h]; simp
  | true =>
    rw [turnPlain_yes h]
    obtain ⟨h3, h7⟩ := prog_le h
    exact ⟨by rw [mapS_len]; exact h3, mapS_small h7⟩

def turnBeside (ll mm : List (List D)) : Option (List (List D)) := if prog ll && prog mm && prog (ll ++ mm) then some (ll ++ mm) else none
theorem turnBeside_bad {ll mm : List (List D)} (h : prog ll = false) : turnBeside ll mm = none := by simp [turnBeside, h]
theorem turnBeside_bad2 {ll mm : List (List D)} (h : prog mm = false) : turnBeside ll mm = none := by simp [turnBeside, h]
theorem turnBeside_bad3 {ll mm : List (List D)} (h : prog (ll ++ mm) = false) : turnBeside ll mm = none := by simp [turnBeside, h]
theorem turnBeside_yes {ll mm : List (List D)} (h : prog ll = true) (h2 : prog mm = true) (h3 : prog (ll ++ mm) = true) : turnBeside ll mm = some (ll ++ mm) := by simp [turnBeside, h, h2, h3]
theorem turnBeside_some {ll mm nn : List (List D)} (h : turnBeside ll mm = some nn) : prog ll = true ∧ prog mm = true ∧ prog (ll ++ mm) = true ∧ nn = ll ++ mm := by
  unfold turnBeside at h
  split at h
  · rename_i hc
    simp only [Bool.and_eq_true] at hc
    exact ⟨hc.1.1, hc.1.2, hc.2, (Option.some.inj h).symm⟩
  · cases h
theorem turnBeside_small {ll mm nn : List (List D)} (e : (turnBeside ll mm).getD [] = nn) : nn.length ≤ 3 ∧ ∀ t ∈ nn, t.length ≤ 7 := by
  cases h : turnBeside ll mm with
  | none => rw [h] at e; subst e; simp
  | some x =>
    rw [h] at e
    obtain rfl : x = nn := e
    obtain ⟨_, _, h1, rfl⟩ := turnBeside_some h
    exact prog_le h1
end M
end Go.Proofs.Ytdpoiabohkkbcaa

namespace Go.Proofs.Ytdpoiabohkkbcaa
open Go.RowKit

namespace M
/-- The first so many steps changed. -/
def curT (f : D → D) (k : Nat) (t : List D) : List D := (t.take k).map f ++ t.drop k
theorem curT_zero (f : D → D) (t : List D) : curT f 0 t = t := by simp [curT]
theorem curT_len (f : D → D) (k : Nat) (t : List D) : (curT f k t).length = t.length := by simp [curT]; omega
theorem curT_all (f : D → D) (k : Nat) (t : List D) (h : t.length ≤ k) : curT f k t = t.map f := by
  unfold curT; rw [List.take_of_length_le h, List.drop_eq_nil_of_le h, List.append_nil]
theorem curT_get (f : D → D) (k : Nat) (t : List D) (h : k < t.length) (h' : k < (curT f k t).length) : (curT f k t)[k] = t[k] := by
  have e : (curT f k t)[k]? = t[k]? := by
    unfold curT
    rw [List.getElem?_append_right (by simp; omega)]
    simp [Nat.min_eq_left (Nat.le_of_lt h)]
  rw [List.getElem?_eq_getElem h', List.getElem?_eq_getElem h] at e
  exact Option.some.inj e
theorem curT_set (f : D → D) (k : Nat) (t : List D) (h : k < t.length) : (curT f k t).set k (f t[k]) = curT f (k + 1) t := by
  unfold curT
  have e : (t.drop k).set 0 (f t[k]) = f t[k] :: t.drop (k + 1) := by
    have := (List.getElem_cons_drop h).symm
    generalize t.drop k = x at *
    subst this
    rfl
  rw [List.take_succ_eq_append_getElem h, List.map_append, List.set_append_right _ _ (by simp; omega)]
  simp [Nat.min_eq_left (Nat.le_of_lt h), e]
/-- The first so many threads changed, and of the next one the first so many steps. -/
def cur (f : D → D) (n k : Nat) (ll : List (List D)) : List (List D) := ll.mapIdx fun i t => if i < n then t.map f else if i = n then curT f k t else t
theorem cur_len (f : D → D) (n k : Nat) (ll : List (List D)) : (cur f n k ll).length = ll.length := by simp [cur]
theorem cur_zero (f : D → D) (ll : List (List D)) : cur f 0 0 ll = ll := by
  apply List.ext_getElem (cur_len _ _ _ _)
  intro i h1 h2
  simp only [cur, List.getElem_mapIdx, Nat.not_lt_zero, if_false, curT_zero, ite_self]
theorem cur_get (f : D → D) (n k : Nat) (ll : List (List D)) (h : n < ll.length) (h' : n < (cur f n k ll).length) : (cur f n k ll)[n] = curT f k ll[n] := by
  simp [cur]
theorem cur_set (f : D → D) (n k : Nat) (ll : List (List D)) (h : n < ll.length) (hk : k < ll[n].length) : (cur f n k ll).set n ((curT f k ll[n]).set k (f ll[n][k])) = cur f n (k + 1) ll := by
  rw [curT_set f k _ hk]
  apply List.ext_getElem (by simp [cur])
  intro i h1 h2
  by_cases e : n = i
  · subst e; rw [List.getElem_set_self]; simp [cur]
  · rw [List.getElem_set_ne e]
    have e' : ¬ i = n := fun h => e h.symm
    simp only [cur, List.getElem_mapIdx, e', if_false]
theorem cur_next (f : D → D) (n k : Nat) (ll : List (List D)) (h : n < ll.length) (hk : ll[n].length ≤ k) : cur f n k ll = cur f (n + 1) 0 ll := by
  apply List.ext_getElem (by simp [cur])
  intro i h1 h2
  simp only [cur, List.getElem_mapIdx, curT_zero, ite_self]
  by_cases e : i < n
  · rw [if_pos e, if_pos (by omega)]
  · by_cases e2 : i = n
    · subst e2; rw [if_neg e, if_pos rfl, if_pos (by omega), curT_all f k _ hk]
    · rw [if_neg e, if_neg e2, if_neg (by omega)]
theorem cur_all (f : D → D) (n k : Nat) (ll : List (List D)) (h : ll.length ≤ n) : cur f n k ll = mapS f ll := by
  apply List.ext_getElem (by simp [cur, mapS])
  intro i h1 h2
  have : i < ll.length := by simpa [cur] using h1
  simp only [cur, mapS, List.getElem_mapIdx, List.getElem_map]
  rw [if_pos (by omega)]
end M

theorem flat_set0 (l : List M.D) : ∀ (k : Nat) (h : k < l.length) (d : M.D), d.p = l[k].p → d.v = l[k].v → (flat l).set (k * 3) (.int .i64 d.k) = flat (l.set k d) := by
  induction l with
  | nil => intro k h; exact absurd h (Nat.not_lt_zero _)
  | cons x l ih =>
    intro k h d h1 h2
    cases k with
    | zero => simp only [List.getElem_cons_zero] at h1 h2; simp [flat, h1, h2]
    | succ k => rw [show (k + 1) * 3 = k * 3 + 3 from by omega]; simpa [flat] using ih k (by simpa using h) d (by simpa using h1) (by simpa using h2)
theorem flat_set1 (l : List M.D) : ∀ (k : Nat) (h : k < l.length) (d : M.D), d.k = l[k].k → d.v = l[k].v → (flat l).set (k * 3 + 1) (.int .i64 d.p) = flat (l.set k d) := by
  induction l with
  | nil => intro k h; exact absurd h (Nat.not_lt_zero _)
  | cons x l ih =>
    intro k h d h1 h2
    cases k with
    | zero => simp only [List.getElem_cons_zero] at h1 h2; simp [flat, h1, h2]
    | succ k => rw [show (k + 1) * 3 + 1 = k * 3 + 1 + 3 from by omega]; simpa [flat] using ih k (by simpa using h) d (by simpa using h1) (by simpa using h2)
theorem flat_set2 (l : List M.D) : ∀ (k : Nat) (h : k < l.length) (d : M.D), d.k = l[k].k → d.p = l[k].p → (flat l).set (k * 3 + 2) (.int .i64 d.v) = flat (l.set k d) := by
  induction l with
  | nil => intro k h; exact absurd h (Nat.not_lt_zero _)
  | cons x l ih =>
    intro k h d h1 h2
    cases k with
    | zero => simp only [List.getElem_cons_zero] at h1 h2; simp [flat, h1, h2]
    | succ k => rw [show (k + 1) * 3 + 2 = k * 3 + 2 + 3 from by omega]; simpa [flat] using ih k (by simpa using h) d (by simpa using h1) (by simpa using h2)

/-- A step is another one then; all else is as it was. -/
def Chg (w w' : World) (g off : Nat) (d d' : M.D) : Prop := ∃ q, (w' = w.drewN q ∧ d' = d) ∨ (w' = (w.drewN q).setCell ⟨g, off, none⟩ (.int .i64 d'.k) ∧ d'.p = d.p ∧ d'.v = d.v) ∨ (w' = (w.drewN q).setCell ⟨g, off + 1, none⟩ (.int .i64 d'.p) ∧ d'.k = d.k ∧ d'.v = d.v) ∨ (w' = (w.drewN q).setCell ⟨g, off + 2, none⟩ (.int .i64 d'.v) ∧ d'.k = d.k ∧ d'.p = d.p)

theorem drewN_below (w : World) (q : Nat) : Below w.heap.size w (w.drewN q) := ⟨rfl, rfl, rfl, Nat.le_refl _, fun _ _ => rfl⟩
theorem own_chg {w w' : World} {B g n cap k : Nat} {l : List M.D} {d' : M.D} (h : w.ownsRow B 55 3 (.slice (some ⟨g, 0, none⟩) n cap) n (flat l)) (hk : k < l.length) (hc : Chg w w' g (k * 3) l[k] d') :
    w'.ownsRow B 55 3 (.slice (some ⟨g, 0, none⟩) n cap) n (flat (l.set k d')) ∧ w.grownBy w' (some g) := by
  obtain ⟨q, hc⟩ := hc
  have hq := ownsRow_below h (drewN_below w q)
  have gq : ∀ W, (w.drewN q).grownBy W (some g) → w.grownBy W (some g) := fun W hg => ⟨hg.os, hg.tape, hg.output, hg.size, hg.block⟩
  rcases hc with ⟨rfl, rfl⟩ | ⟨rfl, h1, h2⟩ | ⟨rfl, h1, h2⟩ | ⟨rfl, h1, h2⟩
  · exact ⟨by rw [List.set_getElem_self]; exact hq, ⟨rfl, rfl, rfl, Nat.le_refl _, fun _ _ _ => rfl⟩⟩
  · obtain ⟨ho, hg⟩ := hq.stored (k * 3) (.int .i64 d'.k)
    rw [flat_set0 l k hk d' h1 h2] at ho
    exact ⟨ho, gq _ hg⟩
  · obtain ⟨ho, hg⟩ := hq.stored (k * 3 + 1) (.int .i64 d'.p)
    rw [flat_set1 l k hk d' h1 h2] at ho
    exact ⟨ho, gq _ hg⟩
  · obtain ⟨ho, hg⟩ := hq.stored (k * 3 + 2) (.int .i64 d'.v)
    rw [flat_set2 l k hk d' h1 h2] at ho
    exact ⟨ho, gq _ hg⟩

theorem Rdg.chg {w w' : World} {B : Nat} {v : Value} {ll : List (List M.D)} {vs : List Value} {n k g m cap : Nat} {d' : M.D} (h : Rdg w B v ll vs) (hn : n < ll.length) (hv : n < vs.length) (he : vs[n] = .slice (some ⟨g, 0, none⟩) m cap) (hk : k < ll[n].length) (hc : Chg w w' g (k * 3) ll[n][k] d') :
    Rdg w' B v (ll.set n (ll[n].set k d')) vs ∧ w.grownBy w' (some g) ∧ B ≤ g := by
  have hin := h.b.inner n hn hv
  have hm : m = ll[n].length := by
    rcases hin.2 with ⟨e, _⟩ | ⟨_, _, _, e, _⟩
    · rw [he] at e; simp at e
    · rw [he] at e; simp only [Value.slice.injEq] at e; exact e.2.1
  subst hm
  have hin' := hin
  rw [he] at hin'
  obtain ⟨ho, hg⟩ := own_chg hin' hk hc
  have hBg : B ≤ g := own_ge hin' g rfl
  refine ⟨⟨⟨?_, by rw [List.length_set]; exact h.b.len, fun i h1 h2 => ?_⟩, h.ap⟩, hg, hBg⟩
  · rw [List.length_set]
    refine h.b.outer.kept hg ?_
    rcases own_apart h.b.outer hin' (by decide) with e | e
    · exact Or.inl e
    · exact Or.inr e
  · by_cases e : n = i
    · subst e
      rw [List.getElem_set_self, he, List.length_set]
      exact ho
    · rw [List.getElem_set_ne e]
      have h1' : i < ll.length := by simpa using h1
      refine (h.b.inner i h1' h2).kept hg ?_
      cases hb : vs[i].ownBlock with
      | none => exact Or.inl rfl
      | some kk =>
        refine Or.inr fun e2 => ?_
        have := h.ap i n h2 hv (fun e3 => e e3.symm) kk hb
        rw [he] at this
        exact this (by simp only [Value.ownBlock]; exact e2.symm)

/-- What lies in the list of threads. -/
theorem Rdg.outer_at {w : World} {B cv n : Nat} {av : Option Addr} {ll : List (List M.D)} {vs : List Value} (h : Rdg w B (.slice av ll.length cv) ll vs) (hn : n < ll.length) : ∃ gv, av = some ⟨gv, 0, none⟩ ∧ ∃ hv : n < vs.length, w.cell? ⟨gv, n, none⟩ = some vs[n] := by
  have hv : n < vs.length := by rw [h.b.len]; exact hn
  rcases h.b.outer.2 with ⟨e, h0⟩ | ⟨g, cap, cur, e, hg, hh, r⟩
  · omega
  · simp only [Value.slice.injEq] at e
    obtain ⟨rfl, _, rfl⟩ := e
    have hc := h.b.outer.cells (g := g) rfl n vs[n] (List.getElem?_eq_getElem hv)
    rw [Go.WideShapes.add_plain, Nat.zero_add] at hc
    exact ⟨g, rfl, hv, hc⟩
/-- .. and in a thread. -/
theorem Rdg.inner_at {w : World} {B n : Nat} {v : Value} {ll : List (List M.D)} {vs : List Value} (h : Rdg w B v ll vs) (hn : n < ll.length) (hv : n < vs.length) : ∃ a' c', vs[n] = .slice a' ll[n].length c' ∧ (0 < ll[n].length → ∃ g, a' = some ⟨g, 0, none⟩ ∧ B ≤ g ∧ Row w g 0 ll[n] ∧ ∀ i, w.frozen? ⟨g, i, none⟩ = false) := by
  have hin := h.b.inner n hn hv
  rcases hin.2 with ⟨e, h0⟩ | ⟨g, cap, cur, e, hg, hh, r⟩
  · exact ⟨none, 0, by rw [e, h0], fun h => by omega⟩
  · refine ⟨_, cap, e, fun hpos => ⟨g, rfl, hg, ?_, ?_⟩⟩
    · obtain ⟨a2, g2, c2, e2, hd, _⟩ := own_steps hin
      rw [e] at e2
      simp only [Value.slice.injEq] at e2
      obtain ⟨rfl, _, _⟩ := e2
      have := hd.addr hpos
      simp at this
      rw [this]; exact hd.row
    · rw [e] at hin; exact fun i => own_fzS hin i

end Go.Proofs.Ytdpoiabohkkbcaa

namespace Go.Proofs.Ytdpoiabohkkbcaa
open Go.RowKit

set_option maxHeartbeats 1000000 in
set_option maxRecDepth 100000 in
theorem numbersBelow_any (n : Nat) (w : World) (hn : n ≤ 1000) :
    Calls Try.prog 47 #[.int .i64 n] w fun e w' => ∃ v, e = .returned v ∧ w'.ownsRow w.heap.size 3 1 v (M.bel n).length (nums (M.bel n)) ∧ Below w.heap.size w w' := by
  obtain ⟨i0, hi, hz0, hz1, hz2⟩ := info_parts Try.infoInt
  go_enter Try.func47, Try.ntmps47
  go_wp2_with fail
  go_loopw [3, 6] (fun s3 s6 wr => ∃ k : Nat, s6 = .int .i64 k ∧ k ≤ n ∧ wr.ownsRow w.heap.size 3 1 s3 (M.bel k).length (nums (M.bel k)) ∧ Below w.heap.size w wr) (fun _ s6 _ => n - (intOf s6).toNat)
  case atStart => exact ⟨0, rfl, Nat.zero_le _, World.ownsRow_nil _ _ _ _, Below.refl _ _⟩
  case round =>
    obtain ⟨k, rfl, hk, hown, hbel⟩ := hrel
    by_cases hkn : k < n
    · have hkn' : (k : Int) < n := by omega
      have HB : Hid (M.bel (k + 1) = M.bel k ++ [(k : Int)]) := M.bel_succ k
      have hbl := M.bel_len k
      have hbs := hbel.size
      generalize M.bel k = l at *
      have hl : l.length ≤ 1000 := by omega
      clear hbl
      go_wp2_with (at_builtin; refine wpList_append_own _ rfl (.tmp 9) (.tmp 11) 32 rfl _ 3 i0 _ 1 8 Try.underlying32 hi hz0 hz1 hz2 rfl (by decide) _ _ _ rfl (hown.alloc _) ⟨wr.heap.size, 0, none⟩ 1 1 [.int .i64 k] rfl rfl (cells_new1 _ _ _ _ (by simp)) (one1 _) (by unfold maxLen; omega) (by omega) (by simp; omega) ?_)
      intro v3 w3 hown3 hg3 _
      have hb3 : Below _ _ w3 := below_grown (hbel.trans ((below1 wr _).mono hbel.size)) hg3 (own_ge hown) (by simp; omega)
      have hown4 : w3.ownsRow w.heap.size 3 1 v3 (M.bel (k + 1)).length (nums (M.bel (k + 1))) := by rw [HB.out, nums_snoc, List.length_append]; exact hown3
      clear hown3 hg3 hown
      go_wp2_with fail
      exact ⟨⟨k + 1, by go_num, by omega, hown4, hb3⟩, by simp [intOf]; omega⟩
    · obtain rfl : k = n := by omega
      have hkn' : ¬ (k : Int) < k := by omega
      go_wp2_with fail
      go_ret
      exact ⟨_, rfl, hown, hbel⟩

set_option maxHeartbeats 400000 in
set_option maxRecDepth 100000 in
theorem rowOf_any (a : Option Addr) (b o c : Nat) (row : List Int) (a2 : Option Addr) (b2 o2 c2 : Nat) (evs : List Int) (w : World) (hl : row.length ≤ 1048576) (hl2 : evs.length ≤ 1048576) (h : IntS w a b o row) (h2 : IntS w a2 b2 o2 evs) :
    Calls Try.prog 67 #[.slice a row.length c, .slice a2 evs.length c2] w fun e w' => e = .returned (.bool (M.rowOf row evs)) ∧ w' = w := by
  by_cases hln : row.length = evs.length
  · have HF : Hid (M.rowOf row evs = evs.all (fun v => M.has row v)) := M.rowOf_same hln
    have hq : ((row.length : Int) != evs.length) = false := by simp; omega
    have HL : Hid (row.length = evs.length) := hln
    clear hln
    go_enter Try.func67, Try.ntmps67
    go_wp2_with fail
    go_loopw [14] (fun s14 wr => ∃ n : Nat, s14 = .int .i64 n ∧ n ≤ evs.length ∧ Hid (evs.all (fun v => M.has row v) = (evs.drop n).all (fun v => M.has row v)) ∧ wr = w) (fun s14 _ => evs.length - (intOf s14).toNat)
    case atStart => exact ⟨0, rfl, Nat.zero_le _, by show _ = _; rfl, rfl⟩
    case round =>
      obtain ⟨n, rfl, hn, HA, rfl⟩ := hrel
      by_cases hlt : n < evs.length
      · obtain ⟨rfl⟩ := h2.addr (by omega)
        have hx := h2.row n hlt
        have HS : Hid (evs.all (fun v => M.has row v) = (M.has row evs[n] && (evs.drop (n + 1)).all (fun v => M.has row v))) := M.rowAll_step HA.out hlt
        clear HA
        generalize evs[n] = y at *
        have i1 : (n : Int) < evs.length := by omega
        cases hh : M.has row y
        · go_wp2_with (go_at_call 84; refine (containsI_any a b o c row y _ hl h).mono ?_; rw [hh]; rintro e w' ⟨rfl, rfl⟩)
          go_ret
          exact ⟨ret_bool (by rw [HF.out, HS.out, hh]; rfl), rfl⟩
        · go_wp2_with (go_at_call 84; refine (containsI_any a b o c row y _ hl h).mono ?_; rw [hh]; rintro e w' ⟨rfl, rfl⟩)
          exact ⟨⟨n + 1, by go_num, by omega, by show _ = _; rw [HS.out, hh]; rfl, trivial⟩, by simp [intOf]; omega⟩
      · go_wp2_with fail
        go_ret
        exact ⟨ret_bool (by rw [HF.out, HA.out, List.drop_eq_nil_of_le (by omega)]; rfl), rfl⟩
  · have hln' : ((row.length : Int) == evs.length) = false := by simp; omega
    go_enter Try.func67, Try.ntmps67
    go_wp2_with fail
    go_ret
    exact ⟨ret_bool (M.rowOf_short hln).symm, rfl⟩

end Go.Proofs.Ytdpoiabohkkbcaa

namespace Go.Proofs.Ytdpoiabohkkbcaa
open Go.RowKit

/-- What a row makes of things: nothing, if it is none. -/
def M.turned {α : Type} (z : α) (row : List Int) (l : List α) : List α := if M.rowN row l.length then M.pick z row l else []
theorem M.turned_no {α : Type} {z : α} {row : List Int} {l : List α} (h : M.rowN row l.length = false) : M.turned z row l = [] := by simp [M.turned, h]
theorem M.turned_yes {α : Type} {z : α} {row : List Int} {l : List α} (h : M.rowN row l.length = true) : M.turned z row l = M.pick z row l := by simp [M.turned, h]

/-- Values that are threads. -/
def Thx (w : World) (vs : List Value) (ll : List (List M.D)) : Prop := vs.length = ll.length ∧ ∀ i (h1 : i < ll.length) (h2 : i < vs.length), ∃ a' b' o' c', vs[i] = .slice a' ll[i].length c' ∧ DoS w a' b' o' ll[i]
theorem Thx.nil (w : World) : Thx w [] [] := ⟨rfl, fun _ h => absurd h (Nat.not_lt_zero _)⟩
theorem Thx.below {w w' : World} {vs : List Value} {ll : List (List M.D)} {B : Nat} (h : Thx w vs ll) (hb : Below B w w') (hB : w.heap.size ≤ B) : Thx w' vs ll :=
  ⟨h.1, fun i h1 h2 => by obtain ⟨a', b', o', c', e, hd⟩ := h.2 i h1 h2; exact ⟨a', b', o', c', e, hd.below hb hB⟩⟩
theorem Thx.snoc {w : World} {vs : List Value} {ll : List (List M.D)} {a : Option Addr} {b o c : Nat} {l : List M.D} (h : Thx w vs ll) (hd : DoS w a b o l) : Thx w (vs ++ [.slice a l.length c]) (ll ++ [l]) := by
  have hl := h.1
  refine ⟨by simp [hl], fun i h1 h2 => ?_⟩
  by_cases hi : i < ll.length
  · rw [List.getElem_append_left (by omega), List.getElem_append_left hi]
    exact h.2 i hi (by omega)
  · have : i = ll.length := by simp at h1; omega
    subst this
    have e1 : (ll ++ [l])[ll.length] = l := by simp
    have e2 : (vs ++ [Value.slice a l.length c])[ll.length] = .slice a l.length c := by
      rw [List.getElem_append_right (by omega)]
      simp [hl]
    rw [e1, e2]
    exact ⟨a, b, o, c, rfl, hd⟩
theorem Thx.ss {w : World} {B : Nat} {v : Value} {vs : List Value} {ll : List (List M.D)} (h : Thx w vs ll) (ho : w.ownsRow B 58 1 v ll.length vs) : ∃ a g c, v = .slice a ll.length c ∧ DoSS w a g 0 ll := by
  have hl := h.1
  rcases ho.2 with ⟨hv, hn⟩ | ⟨g, cap, cur, hv, hg, hh, r⟩
  · have : ll = [] := List.length_eq_zero_iff.1 hn
    subst this
    exact ⟨none, 0, 0, hv, ⟨fun h => absurd h (Nat.lt_irrefl _), fun i hi => absurd hi (Nat.not_lt_zero _)⟩⟩
  · refine ⟨_, g, cap, hv, ⟨fun _ => rfl, fun i hi => ?_⟩⟩
    have hc := ho.cells (g := g) (by rw [hv]; rfl) i vs[i] (List.getElem?_eq_getElem (by omega))
    rw [Go.WideShapes.add_plain] at hc
    obtain ⟨a', b', o', c', e, hd⟩ := h.2 i hi (by omega)
    rw [e] at hc
    exact ⟨a', b', o', c', hc, hd⟩

set_option maxHeartbeats 1000000 in
set_option maxRecDepth 100000 in
theorem turnI_any (a : Option Addr) (b o c : Nat) (row : List Int) (a2 : Option Addr) (b2 o2 c2 : Nat) (l : List Int) (w : World) (hl : row.length ≤ 1048576) (hl2 : l.length ≤ 1000) (h : IntS w a b o row) (h2 : IntS w a2 b2 o2 l) :
    Calls Try.prog 46 #[.slice a row.length c, .slice a2 l.length c2] w fun e w' => ∃ v, e = .returned (.tuple #[v, .bool (M.rowN row l.length)]) ∧ w'.ownsRow w.heap.size 3 1 v (M.turned 0 row l).length (nums (M.turned 0 row l)) ∧ Below w.heap.size w w' := by
  obtain ⟨i0, hi, hz0, hz1, hz2⟩ := info_parts Try.infoInt
  go_enter Try.func46, Try.ntmps46
  go_wp2_with fail
  refine (numbersBelow_any l.length w hl2).mono ?_
  rintro e w1 ⟨v1, rfl, hown1, b1⟩
  obtain ⟨a1, g1, c1, rfl, hI1, _, _⟩ := own_nums hown1
  have hbl : (M.bel l.length).length ≤ 1048576 := by rw [M.bel_len]; omega
  have CR := rowOf_any a b o c row a1 g1 0 c1 (M.bel l.length) w1 hl hbl (h.below b1 (Nat.le_refl _)) hI1
  change Calls _ _ _ _ (fun e w' => e = .returned (.bool (M.rowN row l.length)) ∧ _) at CR
  clear hown1 hI1 hbl
  generalize (M.bel l.length).length = bl at *
  cases hr : M.rowN row l.length
  · rw [hr] at CR
    go_wp2_with (first | (go_at_call 67; refine CR.mono ?_; rintro e w2 ⟨rfl, rfl⟩))
    exact bodyPost_ret (v := .tuple #[.slice none 0 0, .bool false]) (by simp [results, Try.results46, go_sem]) rfl ⟨_, by rw [hr], by rw [M.turned_no hr]; exact World.ownsRow_nil _ _ _ _, b1⟩
  · rw [hr] at CR
    have HR : Hid (M.rowN row l.length = true) := hr
    clear hr
    go_wp2_with (first | (go_at_call 67; refine CR.mono ?_; rintro e w2 ⟨rfl, rfl⟩))
    go_loopw [6, 17] (fun s6 s17 wr => ∃ k : Nat, s17 = .int .i64 k ∧ k ≤ row.length ∧ wr.ownsRow w.heap.size 3 1 s6 (M.pick 0 (row.take k) l).length (nums (M.pick 0 (row.take k) l)) ∧ Below w.heap.size w wr) (fun _ s17 _ => row.length - (intOf s17).toNat)
    case atStart => exact ⟨0, rfl, Nat.zero_le _, World.ownsRow_nil _ _ _ _, b1⟩
    case round =>
      obtain ⟨k, rfl, hk, hown, hbel⟩ := hrel
      by_cases hkn : k < row.length
      · have hkn' : (k : Int) < row.length := by omega
        obtain ⟨rfl⟩ := h.addr (by omega)
        have x1 := (h.below hbel (Nat.le_refl _)).row k hkn
        have HB : Hid (M.pick 0 (row.take (k + 1)) l = M.pick 0 (row.take k) l ++ [l.getD row[k].toNat 0]) := M.pick_take 0 row l k hkn
        obtain ⟨r0, r1⟩ := M.rowN_get HR.out k hkn
        obtain ⟨rfl⟩ := h2.addr (by omega)
        generalize row[k] = y at *
        obtain ⟨j, rfl⟩ : ∃ j : Nat, y = j := ⟨y.toNat, by omega⟩
        have hj : j < l.length := by omega
        have x2 := (h2.below hbel (Nat.le_refl _)).row j hj
        have HB2 : Hid (M.pick 0 (row.take (k + 1)) l = M.pick 0 (row.take k) l ++ [l[j]]) := by show _ = _; rw [HB.out]; congr 2; exact M.getD_get hj
        clear HB
        have hpl : (M.pick 0 (row.take k) l).length ≤ 1048576 := by rw [M.pick_len]; simp; omega
        have hbs := hbel.size
        generalize l[j] = z at *
        generalize M.pick 0 (row.take k) l = m at *
        go_wp2_with (at_builtin; refine wpList_append_own _ rfl (.tmp 21) (.tmp 26) 32 rfl _ 3 i0 _ 1 8 Try.underlying32 hi hz0 hz1 hz2 rfl (by decide) _ _ _ rfl (hown.alloc _) ⟨wr.heap.size, 0, none⟩ 1 1 [.int .i64 z] rfl rfl (cells_new1 _ _ _ _ (by simp)) (one1 _) (by unfold maxLen; omega) (by omega) (by simp; omega) ?_)
        intro v3 w3 hown3 hg3 _
        have hb3 : Below _ _ w3 := below_grown (hbel.trans ((below1 wr _).mono hbel.size)) hg3 (own_ge hown) (by simp; omega)
        have hown4 : w3.ownsRow w.heap.size 3 1 v3 (M.pick 0 (row.take (k + 1)) l).length (nums (M.pick 0 (row.take (k + 1)) l)) := by rw [HB2.out, nums_snoc, List.length_append]; exact hown3
        clear hown3 hg3 hown
        go_wp2_with fail
        exact ⟨⟨k + 1, by go_num, by omega, hown4, hb3⟩, by simp [intOf]; omega⟩
      · have htk : row.take k = row := List.take_of_length_le (by omega)
        rw [htk] at hown
        have hkn' : ¬ (k : Int) < row.length := by omega
        go_wp2_with fail
        exact bodyPost_ret (v := .tuple #[u6, .bool true]) (by simp [results, Try.results46, go_sem]) rfl ⟨_, by rw [HR.out], by rw [M.turned_yes HR.out]; exact hown, hbel⟩

theorem Try.infoTh : (Try.prog.info? 58).map (fun i => (i.zero, i.size, i.bytes)) = some (some (.slice none 0 0), 1, 24) := by kernel_rfl
theorem own_sl1 {w : World} {B : Nat} {e : TypeId} {size : Nat} {v : Value} {n : Nat} {xs : List Value} (h : w.ownsRow B e size v n xs) : v.oneCell' = true := by
  rcases h.2 with ⟨hv, h0⟩ | ⟨g, cap, cur, hv, _⟩ <;> rw [hv] <;> rfl

set_option maxHeartbeats 1000000 in
set_option maxRecDepth 100000 in
theorem turnT_any (a : Option Addr) (b o c : Nat) (row : List Int) (a2 : Option Addr) (b2 o2 c2 : Nat) (ll : List (List M.D)) (w : World) (hl : row.length ≤ 1048576) (hl2 : ll.length ≤ 1000) (h : IntS w a b o row) (h2 : DoSS w a2 b2 o2 ll) :
    Calls Try.prog 44 #[.slice a row.length c, .slice a2 ll.length c2] w fun e w' => ∃ v, e = .returned (.tuple #[v, .bool (M.rowN row ll.length)]) ∧ (∃ a', (∃ c', v = .slice a' (M.turned [] row ll).length c') ∧ ∃ g', DoSS w' a' g' 0 (M.turned [] row ll)) ∧ Below w.heap.size w w' := by
  obtain ⟨i0, hi, hz0, hz1, hz2⟩ := info_parts Try.infoTh
  go_enter Try.func44, Try.ntmps44
  go_wp2_with fail
  refine (numbersBelow_any ll.length w hl2).mono ?_
  rintro e w1 ⟨v1, rfl, hown1, b1⟩
  obtain ⟨a1, g1, c1, rfl, hI1, _, _⟩ := own_nums hown1
  have hbl : (M.bel ll.length).length ≤ 1048576 := by rw [M.bel_len]; omega
  have CR := rowOf_any a b o c row a1 g1 0 c1 (M.bel ll.length) w1 hl hbl (h.below b1 (Nat.le_refl _)) hI1
  change Calls _ _ _ _ (fun e w' => e = .returned (.bool (M.rowN row ll.length)) ∧ _) at CR
  clear hown1 hI1 hbl
  generalize (M.bel ll.length).length = bl at *
  cases hr : M.rowN row ll.length
  · rw [hr] at CR
    go_wp2_with (first | (go_at_call 67; refine CR.mono ?_; rintro e w2 ⟨rfl, rfl⟩))
    exact bodyPost_ret (v := .tuple #[.slice none 0 0, .bool false]) (by simp [results, Try.results44, go_sem]) rfl ⟨_, by rw [hr], ⟨none, ⟨0, by rw [M.turned_no hr, List.length_nil]⟩, 0, by rw [M.turned_no hr]; exact ⟨fun h => absurd h (Nat.lt_irrefl _), fun i hi => absurd hi (Nat.not_lt_zero _)⟩⟩, b1⟩
  · rw [hr] at CR
    have HR : Hid (M.rowN row ll.length = true) := hr
    clear hr
    go_wp2_with (first | (go_at_call 67; refine CR.mono ?_; rintro e w2 ⟨rfl, rfl⟩))
    go_loopw [6, 17] (fun s6 s17 wr => ∃ (k : Nat) (vs : List Value), s17 = .int .i64 k ∧ k ≤ row.length ∧ wr.ownsRow w.heap.size 58 1 s6 (M.pick [] (row.take k) ll).length vs ∧ Thx w vs (M.pick [] (row.take k) ll) ∧ Below w.heap.size w wr) (fun _ s17 _ => row.length - (intOf s17).toNat)
    case atStart => exact ⟨0, [], rfl, Nat.zero_le _, World.ownsRow_nil _ _ _ _, Thx.nil _, b1⟩
    case round =>
      obtain ⟨k, vs, rfl, hk, hown, hT, hbel⟩ := hrel
      by_cases hkn : k < row.length
      · have hkn' : (k : Int) < row.length := by omega
        obtain ⟨rfl⟩ := h.addr (by omega)
        have x1 := (h.below hbel (Nat.le_refl _)).row k hkn
        have HB : Hid (M.pick [] (row.take (k + 1)) ll = M.pick [] (row.take k) ll ++ [ll.getD row[k].toNat []]) := M.pick_take [] row ll k hkn
        obtain ⟨r0, r1⟩ := M.rowN_get HR.out k hkn
        obtain ⟨rfl⟩ := h2.addr (by omega)
        generalize row[k] = y at *
        obtain ⟨j, rfl⟩ : ∃ j : Nat, y = j := ⟨y.toNat, by omega⟩
        have hj : j < ll.length := by omega
        obtain ⟨a', b', o', c', hc, hd⟩ := h2.row j hj
        have x2 := (hbel.cell (p := ⟨b2, o2 + j, none⟩) (World.block_lt_of_cell? _ _ hc)).trans hc
        have HB2 : Hid (M.pick [] (row.take (k + 1)) ll = M.pick [] (row.take k) ll ++ [ll[j]]) := by show _ = _; rw [HB.out]; congr 2; exact M.getD_get hj
        clear HB hc
        have hpl : (M.pick [] (row.take k) ll).length ≤ 1048576 := by rw [M.pick_len]; simp; omega
        have hbs := hbel.size
        generalize ll[j] = z at *
        generalize M.pick [] (row.take k) ll = m at *
        go_wp2_with (at_builtin; refine wpList_append_own _ rfl (.tmp 21) (.tmp 26) 23 rfl _ 58 i0 _ 1 24 Try.underlying23 hi hz0 hz1 hz2 rfl (by decide) _ _ _ rfl (hown.alloc _) ⟨wr.heap.size, 0, none⟩ 1 1 [.slice a' z.length c'] rfl rfl (cells_new1 _ _ _ _ (by simp)) (by simp [Value.oneCell']) (by unfold maxLen; omega) (by omega) (by simp; omega) ?_)
        intro v3 w3 hown3 hg3 _
        have hb3 : Below _ _ w3 := below_grown (hbel.trans ((below1 wr _).mono hbel.size)) hg3 (own_ge hown) (by simp; omega)
        have hown4 : w3.ownsRow w.heap.size 58 1 v3 (M.pick [] (row.take (k + 1)) ll).length (vs ++ [.slice a' z.length c']) := by rw [HB2.out, List.length_append]; exact hown3
        have hT4 : Thx w (vs ++ [.slice a' z.length c']) (M.pick [] (row.take (k + 1)) ll) := by rw [HB2.out]; exact hT.snoc hd
        clear hown3 hg3 hown
        go_wp2_with fail
        exact ⟨⟨k + 1, _, by go_num, by omega, hown4, hT4, hb3⟩, by simp [intOf]; omega⟩
      · have htk : row.take k = row := List.take_of_length_le (by omega)
        rw [htk] at hown hT
        have hkn' : ¬ (k : Int) < row.length := by omega
        obtain ⟨a', g', c', rfl, hs⟩ := (hT.below hbel (Nat.le_refl _)).ss hown
        go_wp2_with fail
        exact bodyPost_ret (v := .tuple #[.slice a' (M.pick [] row ll).length c', .bool true]) (by simp [results, Try.results44, go_sem]) rfl ⟨_, by rw [HR.out], ⟨a', ⟨c', by rw [M.turned_yes HR.out]⟩, g', by rw [M.turned_yes HR.out]; exact hs⟩, hbel⟩

end Go.Proofs.Ytdpoiabohkkbcaa

namespace Go.Proofs.Ytdpoiabohkkbcaa
open Go.RowKit

/-- A call that is wanted, met by its contract. -/
theorem step_goV {P : Program} {ops : Array Oper} {o : Oper} {a : Act} {w : World} {K : Act → World → Prop} {Q : Exit → Act → World → Prop} {E : Prop}
    (hw : Region.wanted o (yielded ops a.tmps) = true) (d : Option Tmp) (hd : o.dst = d) (f : FuncId) (os : Array Operand) (ts : Array TypeId) (hop : o.op = Op.call { callee := Callee.value (Operand.func f), args := os, argTypes := ts })
    (vals : Array Value) (hv : os.map a.eval = vals) (he : ∀ args w, (callFunc f args).run P w = .ok (.enter f args) w) {R : Ending → World → Prop} (hc : Calls P f vals w R)
    (hK : ∀ e w', R e w' → ∃ v, e = .returned v ∧ K (a.put d v) w') :
    if Region.wanted o (yielded ops a.tmps) = true then Oper.wp P o a w K Q else E := by
  subst hd
  rw [if_pos hw]
  subst hv
  have hr : (execOp a.eval o).run P w = .ok (.enter f (os.map a.eval)) w := by
    simp [execOp, hop, resolve, invoke, Act.eval, Deferred.ofValue, he]
  unfold Oper.wp
  rw [hr, Oper.upon_enter]
  refine hc.mono fun e w' h => ?_
  obtain ⟨v, rfl, hk⟩ := hK e w' h
  exact hk
theorem run_append_nil0 {P : Program} (w : World) (t ty e : TypeId) (i : TypeInfo) (ht : P.underlying t = some (.slice e)) (hi : P.info? e = some i) (a : Option Addr) (c : Nat) :
    (Builtin.append_ #[t, t] ty #[.slice none 0 0, .slice a 0 c]).run P w = .ok (.slice none 0 0) w := by
  cases a
  · simp [Builtin.append_, run_underlying ht, sizeOf, typeInfo, hi, Builtin.lenOf, Builtin.firstCells]
  · simp [Builtin.append_, run_underlying ht, sizeOf, typeInfo, hi, Builtin.lenOf, Builtin.firstCells, loadCells, loadCellsFrom]
theorem wpList_append_nil0 {P : Program} {w : World} {ops : Array Oper} {rest : List Oper} {o : Oper} {a : Act} {Q : Exit → Act → World → Prop} (hgd : o.guard = none) (s x : Operand) (t : TypeId)
    (ho : o.op = .call { callee := .builtin .append, args := #[s, x], argTypes := #[t, t] }) (e : TypeId) (i : TypeInfo) (ht : P.underlying t = some (.slice e)) (hi : P.info? e = some i)
    (hs : a.eval s = .slice none 0 0) (b : Option Addr) (c : Nat) (hx : a.eval x = .slice b 0 c)
    (h : wpList P ops Q rest (a.put o.dst (.slice none 0 0)) w) : wpList P ops Q (o :: rest) a w := by
  refine wpList_plain hgd fun K hK => ?_
  have hrun := run_append_nil0 (P := P) w t o.type e i ht hi b c
  unfold Oper.wp
  simp [execOp, ho, resolve, invoke, builtin, hs, hx, hrun, Result.andThen]
  exact hK _ _ h

theorem own_slx {w : World} {B : Nat} {e : TypeId} {size : Nat} {v : Value} {n : Nat} {xs : List Value} (h : w.ownsRow B e size v n xs) : ∃ a c, v = .slice a n c := by
  rcases h.2 with ⟨hv, h0⟩ | ⟨g, cap, cur, hv, _⟩
  · exact ⟨none, 0, by rw [hv, h0]⟩
  · exact ⟨_, cap, hv⟩

set_option maxHeartbeats 1000000 in
theorem newListD_any (a : Option Addr) (b o c : Nat) (l : List M.D) (w : World) (hl : l.length ≤ 1048576) (h : DoS w a b o l) :
    Calls Try.prog 68 #[.slice a l.length c] w fun e w' => ∃ v, e = .returned v ∧ w'.ownsRow w.heap.size 55 3 v l.length (flat l) ∧ Below w.heap.size w w' := by
  obtain ⟨i0, hi, hz0, hz1, hz2⟩ := info_parts Try.info55
  rcases Nat.eq_zero_or_pos l.length with h0 | hpos
  · have hl0 : l = [] := List.length_eq_zero_iff.1 h0
    subst hl0
    rw [List.length_nil]
    go_enter Try.func68, Try.ntmps68
    go_wp2_with (at_builtin; refine wpList_append_nil0 rfl (.const (.slice none 0 0)) (.tmp 3) 58 rfl 55 i0 Try.underlying58 hi rfl a c rfl ?_)
    go_wp2_with fail
    go_ret
    exact ⟨_, rfl, World.ownsRow_nil _ _ _ _, Below.refl _ _⟩
  · obtain ⟨rfl⟩ := h.addr hpos
    go_enter Try.func68, Try.ntmps68
    go_wp2_with (at_builtin; refine wpList_append_lies _ rfl (.const (.slice none 0 0)) (.tmp 3) 58 rfl w.heap.size 55 i0 _ 3 24 Try.underlying58 hi hz0 hz1 hz2 rfl (by decide) _ 0 [] rfl (World.ownsRow_nil _ _ _ _) ⟨b, o, none⟩ l.length c (flat l) rfl (flat_length l) (DoS.flat_cells h.row) (flat_one' l) hpos (by unfold maxLen; omega) (by omega) (Nat.le_refl _) w.heap.size rfl ?_)
    intro g cap w1 hown hg hat hlt
    have hb : Below w.heap.size w w1 := ⟨hg.os, hg.tape, hg.output, hg.size, fun k hk => hg.block k hk (fun e => by simp [Value.ownBlock] at e)⟩
    have hown' : w1.ownsRow w.heap.size 55 3 (.slice (some ⟨g, 0, none⟩) l.length cap) l.length (flat l) := by simpa using hown
    go_wp2_with fail
    go_ret
    exact ⟨_, by first | rfl | simp, hown', hb⟩

set_option maxHeartbeats 4000000 in
set_option maxRecDepth 100000 in
set_option linter.unusedSimpArgs false in
theorem copyProg_any (a : Option Addr) (b o c : Nat) (ll : List (List M.D)) (w : World) (hl : ll.length ≤ 1048576) (hls : ∀ t ∈ ll, t.length ≤ 1048576) (h : DoSS w a b o ll) :
    Calls Try.prog 45 #[.agg #[.slice a ll.length c]] w fun e w' => ∃ v, e = .returned (.agg #[v]) ∧ (∃ vs, Rdg w' w.heap.size v ll vs) ∧ Below w.heap.size w w' := by
  obtain ⟨i0, hi, hz0, hz1, hz2⟩ := info_parts Try.info58
  go_enter Try.func45, Try.ntmps45
  go_wp2_with fail
  go_loopw [9] (fun s9 wr => ∃ (n : Nat) (v : Value) (vs : List Value), s9 = .int .i64 n ∧ n ≤ ll.length ∧ Rdg wr (w.heap.size + 3) v (ll.take n) vs ∧ Slot1 wr (w.heap.size + 1 + 1) v ∧ Slot1 wr (w.heap.size + 1) (.slice none 0 0) ∧ Below w.heap.size w wr) (fun s9 _ => ll.length - (intOf s9).toNat)
  case atStart =>
    refine ⟨0, .slice none 0 0, [], rfl, Nat.zero_le _, by simpa using Rdg.nil _ _, ?_, ?_, below3 _ _ _ _⟩
    · have := Slot1.new ((w.alloc (.cells #[.slice a ll.length c] 25)).alloc (.cells #[.slice none 0 0] 25)) (.slice none 0 0) 25
      rwa [World.size_alloc, World.size_alloc] at this
    · have := (Slot1.new (w.alloc (.cells #[.slice a ll.length c] 25)) (.slice none 0 0) 25).bl' (below1 _ (.cells #[.slice none 0 0] 25))
      rwa [World.size_alloc] at this
  case round =>
    obtain ⟨n, v, vs, rfl, hn, hR, hP, hQ, hbel⟩ := hrel
    by_cases hlt : n < ll.length
    · obtain ⟨rfl⟩ := h.addr (by omega)
      obtain ⟨a', b', o', c', hc, hd⟩ := (h.below hbel (Nat.le_refl _)).row n hlt
      have ht := hls _ (List.getElem_mem hlt)
      have HW : Hid (ll.take (n + 1) = ll.take n ++ [ll[n]]) := List.take_succ_eq_append_getElem hlt
      have hmm : (ll.take n).length ≤ 1048576 := by simp; omega
      generalize ll[n] = t at *
      generalize ll.take n = mm at *
      have i1 : (n : Int) < ll.length := by omega
      obtain ⟨av, gv, cv, rfl, _⟩ := hR.b.ss
      have x0 := hP.c
      have lP := hP.lt
      have F4 : Hid (∀ (w4 : World) (v4 : Value), w4.ownsRow wr.heap.size 55 3 v4 t.length (flat t) → Below wr.heap.size wr.drew w4 → ∃ a4 c4, v4 = .slice a4 t.length c4 ∧ Below wr.heap.size wr w4 ∧ Slot1 w4 (w.heap.size + 1 + 1) (.slice av mm.length cv) ∧ Rdg w4 (w.heap.size + 3) (.slice av mm.length cv) mm vs) := by
        intro w4 v4 ho hb
        obtain ⟨a4, c4, e⟩ := own_slx ho
        have b4 : Below wr.heap.size wr w4 := (Below.refl _ _).drew.trans hb
        exact ⟨a4, c4, e, b4, hP.bl' b4, hR.below b4⟩
      have F5 : Hid (∀ (w4 : World) (a4 : Option Addr) (c4 : Nat), Below wr.heap.size wr w4 → w4.ownsRow wr.heap.size 55 3 (.slice a4 t.length c4) t.length (flat t) → ∀ (g5 cap5 : Nat) (w5 : World), w5.ownsRow (w.heap.size + 3) 58 1 (.slice (some ⟨g5, 0, none⟩) (mm.length + 1) cap5) (mm.length + 1) (vs ++ [.slice a4 t.length c4]) → (w4.alloc (.cells #[.slice a4 t.length c4] 58)).grownBy w5 (Value.slice av mm.length cv).ownBlock → Below w.heap.size w w5 ∧ Slot1 w5 (w.heap.size + 1 + 1) (.slice av mm.length cv) ∧ Slot1 w5 (w.heap.size + 1) (.slice none 0 0) ∧ Rdg w5 (w.heap.size + 3) (.slice (some ⟨g5, 0, none⟩) (mm.length + 1) cap5) (mm ++ [t]) (vs ++ [.slice a4 t.length c4])) := by
        intro w4 a4 c4 b4 hx4 g5 cap5 w5 ho hg
        have hal := below1 w4 (.cells #[.slice a4 t.length c4] 58)
        have hge := own_ge hR.b.outer
        have b4a := b4.trans (hal.mono b4.size)
        have bwa := hbel.trans (b4a.mono hbel.size)
        refine ⟨below_grown bwa hg (fun j hj => by have := hge j hj; omega) bwa.size, (hP.bl' b4a).apart hg (fun e => by have := hge _ e; omega), (hQ.bl' b4a).apart hg (fun e => by have := hge _ e; omega), ((hR.below b4).below hal).snocT (ownsRow_mono (ownsRow_below hx4 hal) (by omega)) (fun i hi j hj e => ?_) ho hg⟩
        have h1 := ((hR.b.inner i (by have := hR.b.len; omega) hi).lt j hj).2
        have h2 := own_ge hx4 j e
        omega
      have CN := newListD_any a' b' o' c' t wr.drew ht (hd.below (Below.refl wr.heap.size wr).drew (Nat.le_refl _))
      go_wp2_with fail
      refine wp_region_held_drew (S := fun w' => Below w.heap.size w w') (by kernel_rfl) hbel.drew (fun hH => ?_)
      refine takeD 0 (some 13) (.pointer (some ⟨w.heap.size + 1 + 1, 0, none⟩)) hH rfl rfl (by kernel_rfl) (by kernel_rfl) (by kernel_rfl) (fun _ _ _ h => h) (Or.inl ⟨by rfl, by intro w' hSw; go_simp⟩) ?_
      simp only [Act.put, List.setIfInBounds_toArray, List.set_cons_zero, List.set_cons_succ]
      refine takeD 2 (some 15) (.slice a' t.length c') hH rfl rfl (by kernel_rfl) (by kernel_rfl) (by kernel_rfl) (fun _ _ _ h => h) (Or.inl ⟨by rfl, by intro w' hSw; go_simp⟩) ?_
      simp only [Act.put, List.setIfInBounds_toArray, List.set_cons_zero, List.set_cons_succ]
      refine wpAnyH_ready (rs := [1, 3]) (by kernel_rfl) (by simp) ?_
      refine AllReadyH.cons rfl (fun K' hK => ?_) (AllReadyH.cons rfl (fun K' hK => ?_) AllReadyH.nil)
      · have xx := x0
        rw [if_pos (by rfl)]
        go_simp
        refine hK.out _ _ hH (fun _ => ?_)
        clear hK K' xx
        refine wpAnyH_ready (rs := [3]) (by kernel_rfl) (by simp) ?_
        refine AllReadyH.cons rfl (fun K' hK => ?_) AllReadyH.nil
        refine step_goV (by rfl) (some 16) rfl 68 #[.tmp 15] _ rfl #[.slice a' t.length c'] (by simp [Act.eval]) (fun _ _ => rfl) CN ?_
        rintro e w4 ⟨v4, rfl, ho4, hb4⟩
        obtain ⟨a4, c4, rfl, b4, hS4, hR4⟩ := F4.out w4 v4 ho4 hb4
        refine ⟨_, rfl, ?_⟩
        simp only [Act.put, List.setIfInBounds_toArray, List.set_cons_zero, List.set_cons_succ]
        refine hK.out _ _ (hbel.trans (b4.mono hbel.size)) (fun hH4 => ?_)
        clear hK K'
        have hS4a := hS4.bl' (below1 w4 (.cells #[.slice a4 t.length c4] 58))
        have S4a : Below w.heap.size w (w4.alloc (.cells #[.slice a4 t.length c4] 58)) := hH4.alloc hH4.size _
        refine wpAnyH_ready (rs := [4]) (by kernel_rfl) (by simp) ?_
        refine AllReadyH.cons rfl (fun K' hK => ?_) AllReadyH.nil
        rw [if_pos (by rfl)]
        go_simp
        refine hK.out _ _ S4a (fun _ => ?_)
        clear hK K'
        refine wpAnyH_ready (rs := [5]) (by kernel_rfl) (by simp) ?_
        refine AllReadyH.cons rfl (fun K' hK => ?_) AllReadyH.nil
        refine step_append_lies _ (by rfl) (.tmp 14) (.tmp 17) 23 (by rfl) (w.heap.size + 3) 58 i0 _ 1 24 Try.underlying23 hi hz0 hz1 hz2 rfl (by decide) (.slice av mm.length cv) mm.length vs (by rfl) ((hR4.b.outer).alloc _) ⟨w4.heap.size, 0, none⟩ 1 1 [.slice a4 t.length c4] (by rfl) (by rfl) (World.news_of_block (cs := #[.slice a4 t.length c4]) (t := 58) (fr := (0, 0)) (heap_alloc_new w4 _)) (by simp [Value.oneCell']) (by omega) (by unfold maxLen; omega) (by omega) (by have := b4.size; simp; omega) (w4.heap.size + 1) (by simp) ?_
        intro g5 cap5 w5 hown5 hg5 hat5 hlt5
        obtain ⟨b5, hS5, hQ5, hR5⟩ := F5.out w4 a4 c4 b4 ho4 g5 cap5 w5 hown5 hg5
        simp only [Act.put, List.setIfInBounds_toArray, List.set_cons_zero, List.set_cons_succ]
        refine hK.out _ _ b5 (fun hH5 => ?_)
        clear hK K'
        refine takeD 6 (some 19) (.pointer (some ⟨w.heap.size + 1 + 1, 0, none⟩)) hH5 rfl rfl (by kernel_rfl) (by kernel_rfl) (by kernel_rfl) (fun _ _ _ h => h) (Or.inl ⟨by rfl, by intro w' hSw; go_simp⟩) ?_
        simp only [Act.put, List.setIfInBounds_toArray, List.set_cons_zero, List.set_cons_succ]
        refine wpAnyH_ready (rs := [7]) (by kernel_rfl) (by simp) ?_
        refine AllReadyH.cons rfl (fun K' hK => ?_) AllReadyH.nil
        have xc := hS5.c
        have xz := hS5.fz
        rw [if_pos (by rfl)]
        go_simp
        refine hK.out _ _ (b5.setCell (by show w.heap.size ≤ w.heap.size + 1 + 1; omega) _) (fun _ => ?_)
        clear hK K'
        refine wpAnyH_done (by kernel_rfl) ?_ _
        clear xc xz
        go_wp2_with fail
        exact ⟨⟨n + 1, _, _, by go_num, by omega, by rw [HW.out]; exact hR5.far (by omega) _, hS5.set _, hQ5.far (by omega) _, b5.setCell (by show w.heap.size ≤ w.heap.size + 1 + 1; omega) _⟩, by simp [intOf]; omega⟩
      · refine step_goV (by rfl) (some 16) rfl 68 #[.tmp 15] _ rfl #[.slice a' t.length c'] (by simp [Act.eval]) (fun _ _ => rfl) CN ?_
        rintro e w4 ⟨v4, rfl, ho4, hb4⟩
        obtain ⟨a4, c4, rfl, b4, hS4, hR4⟩ := F4.out w4 v4 ho4 hb4
        refine ⟨_, rfl, ?_⟩
        simp only [Act.put, List.setIfInBounds_toArray, List.set_cons_zero, List.set_cons_succ]
        refine hK.out _ _ (hbel.trans (b4.mono hbel.size)) (fun hH4 => ?_)
        clear hK K'
        have hS4a := hS4.bl' (below1 w4 (.cells #[.slice a4 t.length c4] 58))
        have S4a : Below w.heap.size w (w4.alloc (.cells #[.slice a4 t.length c4] 58)) := hH4.alloc hH4.size _
        refine wpAnyH_ready (rs := [1, 4]) (by kernel_rfl) (by simp) ?_
        refine AllReadyH.cons rfl (fun K' hK => ?_) (AllReadyH.cons rfl (fun K' hK => ?_) AllReadyH.nil)
        · have xx := hS4.c
          rw [if_pos (by rfl)]
          go_simp
          refine hK.out _ _ hH4 (fun _ => ?_)
          clear hK K' xx
          refine wpAnyH_ready (rs := [4]) (by kernel_rfl) (by simp) ?_
          refine AllReadyH.cons rfl (fun K' hK => ?_) AllReadyH.nil
          rw [if_pos (by rfl)]
          go_simp
          refine hK.out _ _ S4a (fun _ => ?_)
          clear hK K'
          refine wpAnyH_ready (rs := [5]) (by kernel_rfl) (by simp) ?_
          refine AllReadyH.cons rfl (fun K' hK => ?_) AllReadyH.nil
          refine step_append_lies _ (by rfl) (.tmp 14) (.tmp 17) 23 (by rfl) (w.heap.size + 3) 58 i0 _ 1 24 Try.underlying23 hi hz0 hz1 hz2 rfl (by decide) (.slice av mm.length cv) mm.length vs (by rfl) ((hR4.b.outer).alloc _) ⟨w4.heap.size, 0, none⟩ 1 1 [.slice a4 t.length c4] (by rfl) (by rfl) (World.news_of_block (cs := #[.slice a4 t.length c4]) (t := 58) (fr := (0, 0)) (heap_alloc_new w4 _)) (by simp [Value.oneCell']) (by omega) (by unfold maxLen; omega) (by omega) (by have := b4.size; simp; omega) (w4.heap.size + 1) (by simp) ?_
          intro g5 cap5 w5 hown5 hg5 hat5 hlt5
          obtain ⟨b5, hS5, hQ5, hR5⟩ := F5.out w4 a4 c4 b4 ho4 g5 cap5 w5 hown5 hg5
          simp only [Act.put, List.setIfInBounds_toArray, List.set_cons_zero, List.set_cons_succ]
          refine hK.out _ _ b5 (fun hH5 => ?_)
          clear hK K'
          refine takeD 6 (some 19) (.pointer (some ⟨w.heap.size + 1 + 1, 0, none⟩)) hH5 rfl rfl (by kernel_rfl) (by kernel_rfl) (by kernel_rfl) (fun _ _ _ h => h) (Or.inl ⟨by rfl, by intro w' hSw; go_simp⟩) ?_
          simp only [Act.put, List.setIfInBounds_toArray, List.set_cons_zero, List.set_cons_succ]
          refine wpAnyH_ready (rs := [7]) (by kernel_rfl) (by simp) ?_
          refine AllReadyH.cons rfl (fun K' hK => ?_) AllReadyH.nil
          have xc := hS5.c
          have xz := hS5.fz
          rw [if_pos (by rfl)]
          go_simp
          refine hK.out _ _ (b5.setCell (by show w.heap.size ≤ w.heap.size + 1 + 1; omega) _) (fun _ => ?_)
          clear hK K'
          refine wpAnyH_done (by kernel_rfl) ?_ _
          clear xc xz
          go_wp2_with fail
          exact ⟨⟨n + 1, _, _, by go_num, by omega, by rw [HW.out]; exact hR5.far (by omega) _, hS5.set _, hQ5.far (by omega) _, b5.setCell (by show w.heap.size ≤ w.heap.size + 1 + 1; omega) _⟩, by simp [intOf]; omega⟩
        · rw [if_pos (by rfl)]
          go_simp
          refine hK.out _ _ S4a (fun _ => ?_)
          clear hK K'
          refine wpAnyH_ready (rs := [1]) (by kernel_rfl) (by simp) ?_
          refine AllReadyH.cons rfl (fun K' hK => ?_) AllReadyH.nil
          have xx := hS4a.c
          rw [if_pos (by rfl)]
          go_simp
          refine hK.out _ _ S4a (fun _ => ?_)
          clear hK K' xx
          refine wpAnyH_ready (rs := [5]) (by kernel_rfl) (by simp) ?_
          refine AllReadyH.cons rfl (fun K' hK => ?_) AllReadyH.nil
          refine step_append_lies _ (by rfl) (.tmp 14) (.tmp 17) 23 (by rfl) (w.heap.size + 3) 58 i0 _ 1 24 Try.underlying23 hi hz0 hz1 hz2 rfl (by decide) (.slice av mm.length cv) mm.length vs (by rfl) ((hR4.b.outer).alloc _) ⟨w4.heap.size, 0, none⟩ 1 1 [.slice a4 t.length c4] (by rfl) (by rfl) (World.news_of_block (cs := #[.slice a4 t.length c4]) (t := 58) (fr := (0, 0)) (heap_alloc_new w4 _)) (by simp [Value.oneCell']) (by omega) (by unfold maxLen; omega) (by omega) (by have := b4.size; simp; omega) (w4.heap.size + 1) (by simp) ?_
          intro g5 cap5 w5 hown5 hg5 hat5 hlt5
          obtain ⟨b5, hS5, hQ5, hR5⟩ := F5.out w4 a4 c4 b4 ho4 g5 cap5 w5 hown5 hg5
          simp only [Act.put, List.setIfInBounds_toArray, List.set_cons_zero, List.set_cons_succ]
          refine hK.out _ _ b5 (fun hH5 => ?_)
          clear hK K'
          refine takeD 6 (some 19) (.pointer (some ⟨w.heap.size + 1 + 1, 0, none⟩)) hH5 rfl rfl (by kernel_rfl) (by kernel_rfl) (by kernel_rfl) (fun _ _ _ h => h) (Or.inl ⟨by rfl, by intro w' hSw; go_simp⟩) ?_
          simp only [Act.put, List.setIfInBounds_toArray, List.set_cons_zero, List.set_cons_succ]
          refine wpAnyH_ready (rs := [7]) (by kernel_rfl) (by simp) ?_
          refine AllReadyH.cons rfl (fun K' hK => ?_) AllReadyH.nil
          have xc := hS5.c
          have xz := hS5.fz
          rw [if_pos (by rfl)]
          go_simp
          refine hK.out _ _ (b5.setCell (by show w.heap.size ≤ w.heap.size + 1 + 1; omega) _) (fun _ => ?_)
          clear hK K'
          refine wpAnyH_done (by kernel_rfl) ?_ _
          clear xc xz
          go_wp2_with fail
          exact ⟨⟨n + 1, _, _, by go_num, by omega, by rw [HW.out]; exact hR5.far (by omega) _, hS5.set _, hQ5.far (by omega) _, b5.setCell (by show w.heap.size ≤ w.heap.size + 1 + 1; omega) _⟩, by simp [intOf]; omega⟩
    · have htk : ll.take n = ll := List.take_of_length_le (by omega)
      rw [htk] at hR
      obtain ⟨av, gv, cv, rfl, _⟩ := hR.b.ss
      have hkn' : ¬ (n : Int) < ll.length := by omega
      have p0 := hP.c
      have pf := hP.fz
      have q0 := hQ.c
      have qf := hQ.fz
      have lP := hP.lt
      have lQ := hQ.lt
      have hne : w.heap.size + 1 ≠ w.heap.size + 1 + 1 := by omega
      go_wp2_with fail
      have q1 := (hQ.set (.slice av ll.length cv)).c
      exact bodyPost_ret (v := .agg #[.slice av ll.length cv]) (by simp [results, Try.results45, go_sem, q1]) rfl ⟨_, rfl, ⟨vs, (hR.far (by omega) _).mono (by omega)⟩, hbel.setCell (by show w.heap.size ≤ w.heap.size + 1; omega) _⟩

end Go.Proofs.Ytdpoiabohkkbcaa

namespace Go.Proofs.Ytdpoiabohkkbcaa
open Go.RowKit

theorem Rdg.step {w w' : World} {B n k g m cap : Nat} {v : Value} {f : M.D → M.D} {ll : List (List M.D)} {vs : List Value} (h : Rdg w B v (M.cur f n k ll) vs) (hn : n < ll.length) (hk : k < ll[n].length) (hv : n < vs.length) (he : vs[n] = .slice (some ⟨g, 0, none⟩) m cap) (hc : Chg w w' g (k * 3) ll[n][k] (f ll[n][k])) :
    Rdg w' B v (M.cur f n (k + 1) ll) vs ∧ w.grownBy w' (some g) ∧ B ≤ g := by
  have hn' : n < (M.cur f n k ll).length := by rw [M.cur_len]; exact hn
  have e := M.cur_get f n k ll hn hn'
  have hk' : k < ((M.cur f n k ll)[n]'hn').length := by rw [e, M.curT_len]; exact hk
  have e2 : ((M.cur f n k ll)[n]'hn')[k]'hk' = ll[n][k] := by
    have key : ∀ (l : List M.D) (h : k < l.length), l = M.curT f k ll[n] → l[k] = ll[n][k] := by
      intro l h e; subst e; exact M.curT_get f k ll[n] hk h
    exact key _ hk' e
  have r := h.chg hn' hv he hk' (by rw [e2]; exact hc)
  rw [e, M.cur_set f n k ll hn hk] at r
  exact r
theorem Rdg.cur_at {w : World} {B n k : Nat} {v : Value} {f : M.D → M.D} {ll : List (List M.D)} {vs : List Value} (h : Rdg w B v (M.cur f n k ll) vs) (hn : n < ll.length) (hv : n < vs.length) :
    ∃ a' c', vs[n] = .slice a' ll[n].length c' ∧ ∀ hk : k < ll[n].length, ∃ g, a' = some ⟨g, 0, none⟩ ∧ B ≤ g ∧ DoAt w g (k * 3) ll[n][k] ∧ ∀ i, w.frozen? ⟨g, i, none⟩ = false := by
  have hn' : n < (M.cur f n k ll).length := by rw [M.cur_len]; exact hn
  have e := M.cur_get f n k ll hn hn'
  obtain ⟨a', c', e1, h1⟩ := h.inner_at hn' hv
  rw [e, M.curT_len] at e1 h1
  refine ⟨a', c', e1, fun hk => ?_⟩
  obtain ⟨g, rfl, hB, hr, hf⟩ := h1 (by omega)
  have := hr k (by rw [M.curT_len]; exact hk)
  rw [Nat.zero_add, M.curT_get f k _ hk] at this
  exact ⟨g, rfl, hB, this, hf⟩

set_option maxHeartbeats 2000000 in
set_option maxRecDepth 10000 in
theorem changeP_any (a : Option Addr) (b o c : Nat) (ll : List (List M.D)) (cap : Nat) (f : M.D → M.D) (w : World) (h3 : ll.length ≤ 3) (h7 : ∀ t ∈ ll, t.length ≤ 7) (h : DoSS w a b o ll)
    (hcl : ∀ (W : World) (g off : Nat) (d : M.D), Below w.heap.size w W → w.heap.size ≤ g → (∃ t ∈ ll, d ∈ t) → DoAt W g off d → (∀ i, W.frozen? ⟨g, i, none⟩ = false) → Calls Try.prog 48 #[.pointer (some ⟨g, off, none⟩), .pointer (some ⟨cap, 0, none⟩)] W fun e w' => e = .returned (.tuple #[]) ∧ Chg W w' g off d (f d)) :
    Calls Try.prog 33 #[.agg #[.slice a ll.length c], .func (.func 48) #[] #[.pointer (some ⟨cap, 0, none⟩)]] w fun e w' => ∃ v, e = .returned (.agg #[v]) ∧ (∃ vs, Rdg w' w.heap.size v (M.mapS f ll) vs) ∧ Below w.heap.size w w' := by
  have b2 := below2 w (.cells #[.slice a ll.length c] 25) (.cells #[.slice none 0 0] 25)
  have h2 := h.below b2 (Nat.le_refl _)
  have hY := Slot1.new (w.alloc (.cells #[.slice a ll.length c] 25)) (.slice none 0 0) 25
  rw [World.size_alloc] at hY
  have hsz : ((w.alloc (.cells #[.slice a ll.length c] 25)).alloc (.cells #[.slice none 0 0] 25)).heap.size = w.heap.size + 2 := by simp
  go_enter Try.func33, Try.ntmps33
  go_wp2_with fail
  generalize (w.alloc (.cells #[.slice a ll.length c] 25)).alloc (.cells #[.slice none 0 0] 25) = W at *
  refine (copyProg_any a b o c ll W (by omega) (fun t ht => by have := h7 t ht; omega) h2).mono ?_
  rintro e W1 ⟨v1, rfl, ⟨vs, hR1⟩, b1⟩
  obtain ⟨av, gv0, cv, rfl, _⟩ := hR1.b.ss
  have HV : ∀ i (hi : i < vs.length) k, vs[i].ownBlock = some k → k < W1.heap.size := fun i hi k hk => ((hR1.b.inner i (by have := hR1.b.len; omega) hi).lt k hk).2
  have bA := below1 W1 (.cells #[.slice av ll.length cv] 25)
  have hRA := (hR1.below bA).mono (show w.heap.size + 2 ≤ W.heap.size by omega)
  have bw1 := b2.trans (b1.mono b2.size)
  have bwA := bw1.trans (bA.mono bw1.size)
  have hYA := (hY.bl' b1).bl' bA
  have hC := Slot1.new W1 (.slice av ll.length cv) 25
  have hb1s : w.heap.size + 2 ≤ W1.heap.size := by have := b1.size; omega
  clear hR1 hY h2 b1 b2 bw1 hsz
  go_wp2_with fail
  generalize W1.alloc (.cells #[.slice av ll.length cv] 25) = WA at *
  generalize W1.heap.size = C at *
  have hlenA : (M.cur f 0 0 ll).length = ll.length := M.cur_len _ _ _ _
  go_loopw [14] (fun s14 wr => ∃ n : Nat, s14 = .int .i64 n ∧ n ≤ ll.length ∧ Rdg wr (w.heap.size + 2) (.slice av ll.length cv) (M.cur f n 0 ll) vs ∧ Slot1 wr C (.slice av ll.length cv) ∧ Slot1 wr (w.heap.size + 1) (.slice none 0 0) ∧ Below w.heap.size w wr) (fun s14 _ => ll.length - (intOf s14).toNat)
  case atStart => exact ⟨0, rfl, Nat.zero_le _, by rw [M.cur_zero]; exact hRA, hC, hYA, bwA⟩
  case round =>
    obtain ⟨n, rfl, hn, hR, hP, hQ, hbel⟩ := hrel
    clear hRA hC hYA bwA hlenA
    by_cases hlt : n < ll.length
    · have hR' := hR
      rw [← M.cur_len f n 0 ll] at hR'
      obtain ⟨gv, rfl, hv, hc⟩ := hR'.outer_at (n := n) (by rw [M.cur_len]; exact hlt)
      obtain ⟨a', c', e1, hin⟩ := hR.cur_at hlt hv
      rw [e1] at hc
      have ht7 := h7 _ (List.getElem_mem hlt)
      have i1 : (n : Int) < ll.length := by omega
      have HT : Hid (∀ k (hk : k < ll[n].length), ∃ t ∈ ll, ll[n][k] ∈ t) := fun k hk => ⟨ll[n], List.getElem_mem hlt, List.getElem_mem hk⟩
      have HS : Hid (∀ (k g : Nat) (W W' : World) (hk : k < ll[n].length), a' = some ⟨g, 0, none⟩ → Rdg W (w.heap.size + 2) (.slice (some ⟨gv, 0, none⟩) ll.length cv) (M.cur f n k ll) vs → Chg W W' g (k * 3) ll[n][k] (f ll[n][k]) → Rdg W' (w.heap.size + 2) (.slice (some ⟨gv, 0, none⟩) ll.length cv) (M.cur f n (k + 1) ll) vs ∧ W.grownBy W' (some g) ∧ w.heap.size + 2 ≤ g ∧ g < C) := by
        intro k g W W' hk ha hr hch
        subst ha
        have r := hr.step hlt hk hv e1 hch
        exact ⟨r.1, r.2.1, r.2.2, HV n hv g (by rw [e1]; rfl)⟩
      have HA : Hid (∀ (k : Nat) (W : World), Rdg W (w.heap.size + 2) (.slice (some ⟨gv, 0, none⟩) ll.length cv) (M.cur f n k ll) vs → ∀ hk : k < ll[n].length, ∃ g, a' = some ⟨g, 0, none⟩ ∧ w.heap.size + 2 ≤ g ∧ DoAt W g (k * 3) ll[n][k] ∧ ∀ i, W.frozen? ⟨g, i, none⟩ = false) := by
        intro k W hr hk
        obtain ⟨a2, c2, e2, h2⟩ := hr.cur_at hlt hv
        rw [e1] at e2
        obtain ⟨rfl, _, rfl⟩ := Value.slice.inj e2
        exact h2 hk
      have HN : Hid (∀ k, ll[n].length ≤ k → M.cur f n k ll = M.cur f (n + 1) 0 ll) := fun k hk => M.cur_next f n k ll hlt hk
      clear hin e1 hR'
      generalize ll[n] = t at *
      go_wp2_with fail
      go_loopw [20] (fun s20 wi => ∃ k : Nat, s20 = .int .i64 k ∧ k ≤ t.length ∧ Rdg wi (w.heap.size + 2) (.slice (some ⟨gv, 0, none⟩) ll.length cv) (M.cur f n k ll) vs ∧ Slot1 wi C (.slice (some ⟨gv, 0, none⟩) ll.length cv) ∧ Slot1 wi (w.heap.size + 1) (.slice none 0 0) ∧ Below w.heap.size w wi) (fun s20 _ => t.length - (intOf s20).toNat)
      case atStart => exact ⟨0, rfl, Nat.zero_le _, hR, hP, hQ, hbel⟩
      case round =>
        obtain ⟨k, rfl, hk, hR, hP, hQ, hbel⟩ := hrel
        by_cases hkt : k < t.length
        · obtain ⟨g, rfl, hg, hd, hf⟩ := HA.out k _ hR hkt
          have j1 : (k : Int) < t.length := by omega
          have HS1 : Hid (∀ W', Chg wr W' g (k * 3) t[k] (f t[k]) → Rdg W' (w.heap.size + 2) (.slice (some ⟨gv, 0, none⟩) ll.length cv) (M.cur f n (k + 1) ll) vs ∧ wr.grownBy W' (some g) ∧ w.heap.size + 2 ≤ g ∧ g < C) := fun W' hch => HS.out k g wr W' hkt rfl hR hch
          have CC := hcl wr g (k * 3) t[k] hbel (by omega) (HT.out k hkt) hd hf
          generalize t[k] = d at *
          go_wp2_with (first | (go_at_call 48; refine CC.mono ?_; rintro e W2 ⟨rfl, hch⟩))
          obtain ⟨r1, r2, r3, r4⟩ := HS1.out _ hch
          exact ⟨⟨k + 1, by go_num, by omega, r1, hP.apart r2 (fun e => by have := Option.some.inj e; omega), hQ.apart r2 (fun e => by have := Option.some.inj e; omega), below_grown hbel r2 (fun j hj => by have := Option.some.inj hj; omega) hbel.size⟩, by simp [intOf]; omega⟩
        · have j1 : ¬ (k : Int) < t.length := by omega
          rw [HN.out k (by omega)] at hR
          go_wp2_with fail
          exact ⟨⟨n + 1, by go_num, by omega, hR, hP, hQ, hbel⟩, by simp [intOf]; omega⟩
    · rw [M.cur_all f n 0 ll (by omega)] at hR
      have i1 : ¬ (n : Int) < ll.length := by omega
      have p0 := hP.c
      have pf := hP.fz
      have q0 := hQ.c
      have qf := hQ.fz
      have lP := hP.lt
      have lQ := hQ.lt
      have hne : w.heap.size + 1 ≠ C := by omega
      go_wp2_with fail
      have q1 := (hQ.set (.slice av ll.length cv)).c
      exact bodyPost_ret (v := .agg #[.slice av ll.length cv]) (by simp [results, Try.results33, go_sem, q1]) rfl ⟨_, rfl, ⟨vs, (hR.far (by omega) _).mono (by omega)⟩, hbel.setCell (by show w.heap.size ≤ w.heap.size + 1; omega) _⟩

set_option maxHeartbeats 2000000 in
set_option maxRecDepth 10000 in
theorem changeV_any (a : Option Addr) (b o c : Nat) (ll : List (List M.D)) (cap : Nat) (f : M.D → M.D) (w : World) (h3 : ll.length ≤ 3) (h7 : ∀ t ∈ ll, t.length ≤ 7) (h : DoSS w a b o ll)
    (hcl : ∀ (W : World) (g off : Nat) (d : M.D), Below w.heap.size w W → w.heap.size ≤ g → (∃ t ∈ ll, d ∈ t) → DoAt W g off d → (∀ i, W.frozen? ⟨g, i, none⟩ = false) → Calls Try.prog 54 #[.pointer (some ⟨g, off, none⟩), .pointer (some ⟨cap, 0, none⟩)] W fun e w' => e = .returned (.tuple #[]) ∧ Chg W w' g off d (f d)) :
    Calls Try.prog 33 #[.agg #[.slice a ll.length c], .func (.func 54) #[] #[.pointer (some ⟨cap, 0, none⟩)]] w fun e w' => ∃ v, e = .returned (.agg #[v]) ∧ (∃ vs, Rdg w' w.heap.size v (M.mapS f ll) vs) ∧ Below w.heap.size w w' := by
  have b2 := below2 w (.cells #[.slice a ll.length c] 25) (.cells #[.slice none 0 0] 25)
  have h2 := h.below b2 (Nat.le_refl _)
  have hY := Slot1.new (w.alloc (.cells #[.slice a ll.length c] 25)) (.slice none 0 0) 25
  rw [World.size_alloc] at hY
  have hsz : ((w.alloc (.cells #[.slice a ll.length c] 25)).alloc (.cells #[.slice none 0 0] 25)).heap.size = w.heap.size + 2 := by simp
  go_enter Try.func33, Try.ntmps33
  go_wp2_with fail
  generalize (w.alloc (.cells #[.slice a ll.length c] 25)).alloc (.cells #[.slice none 0 0] 25) = W at *
  refine (copyProg_any a b o c ll W (by omega) (fun t ht => by have := h7 t ht; omega) h2).mono ?_
  rintro e W1 ⟨v1, rfl, ⟨vs, hR1⟩, b1⟩
  obtain ⟨av, gv0, cv, rfl, _⟩ := hR1.b.ss
  have HV : ∀ i (hi : i < vs.length) k, vs[i].ownBlock = some k → k < W1.heap.size := fun i hi k hk => ((hR1.b.inner i (by have := hR1.b.len; omega) hi).lt k hk).2
  have bA := below1 W1 (.cells #[.slice av ll.length cv] 25)
  have hRA := (hR1.below bA).mono (show w.heap.size + 2 ≤ W.heap.size by omega)
  have bw1 := b2.trans (b1.mono b2.size)
  have bwA := bw1.trans (bA.mono bw1.size)
  have hYA := (hY.bl' b1).bl' bA
  have hC := Slot1.new W1 (.slice av ll.length cv) 25
  have hb1s : w.heap.size + 2 ≤ W1.heap.size := by have := b1.size; omega
  clear hR1 hY h2 b1 b2 bw1 hsz
  go_wp2_with fail
  generalize W1.alloc (.cells #[.slice av ll.length cv] 25) = WA at *
  generalize W1.heap.size = C at *
  have hlenA : (M.cur f 0 0 ll).length = ll.length := M.cur_len _ _ _ _
  go_loopw [14] (fun s14 wr => ∃ n : Nat, s14 = .int .i64 n ∧ n ≤ ll.length ∧ Rdg wr (w.heap.size + 2) (.slice av ll.length cv) (M.cur f n 0 ll) vs ∧ Slot1 wr C (.slice av ll.length cv) ∧ Slot1 wr (w.heap.size + 1) (.slice none 0 0) ∧ Below w.heap.size w wr) (fun s14 _ => ll.length - (intOf s14).toNat)
  case atStart => exact ⟨0, rfl, Nat.zero_le _, by rw [M.cur_zero]; exact hRA, hC, hYA, bwA⟩
  case round =>
    obtain ⟨n, rfl, hn, hR, hP, hQ, hbel⟩ := hrel
    clear hRA hC hYA bwA hlenA
    by_cases hlt : n < ll.length
    · have hR' := hR
      rw [← M.cur_len f n 0 ll] at hR'
      obtain ⟨gv, rfl, hv, hc⟩ := hR'.outer_at (n := n) (by rw [M.cur_len]; exact hlt)
      obtain ⟨a', c', e1, hin⟩ := hR.cur_at hlt hv
      rw [e1] at hc
      have ht7 := h7 _ (List.getElem_mem hlt)
      have i1 : (n : Int) < ll.length := by omega
      have HT : Hid (∀ k (hk : k < ll[n].length), ∃ t ∈ ll, ll[n][k] ∈ t) := fun k hk => ⟨ll[n], List.getElem_mem hlt, List.getElem_mem hk⟩
      have HS : Hid (∀ (k g : Nat) (W W' : World) (hk : k < ll[n].length), a' = some ⟨g, 0, none⟩ → Rdg W (w.heap.size + 2) (.slice (some ⟨gv, 0, none⟩) ll.length cv) (M.cur f n k ll) vs → Chg W W' g (k * 3) ll[n][k] (f ll[n][k]) → Rdg W' (w.heap.size + 2) (.slice (some ⟨gv, 0, none⟩) ll.length cv) (M.cur f n (k + 1) ll) vs ∧ W.grownBy W' (some g) ∧ w.heap.size + 2 ≤ g ∧ g < C) := by
        intro k g W W' hk ha hr hch
        subst ha
        have r := hr.step hlt hk hv e1 hch
        exact ⟨r.1, r.2.1, r.2.2, HV n hv g (by rw [e1]; rfl)⟩
      have HA : Hid (∀ (k : Nat) (W : World), Rdg W (w.heap.size + 2) (.slice (some ⟨gv, 0, none⟩) ll.length cv) (M.cur f n k ll) vs → ∀ hk : k < ll[n].length, ∃ g, a' = some ⟨g, 0, none⟩ ∧ w.heap.size + 2 ≤ g ∧ DoAt W g (k * 3) ll[n][k] ∧ ∀ i, W.frozen? ⟨g, i, none⟩ = false) := by
        intro k W hr hk
        obtain ⟨a2, c2, e2, h2⟩ := hr.cur_at hlt hv
        rw [e1] at e2
        obtain ⟨rfl, _, rfl⟩ := Value.slice.inj e2
        exact h2 hk
      have HN : Hid (∀ k, ll[n].length ≤ k → M.cur f n k ll = M.cur f (n + 1) 0 ll) := fun k hk => M.cur_next f n k ll hlt hk
      clear hin e1 hR'
      generalize ll[n] = t at *
      go_wp2_with fail
      go_loopw [20] (fun s20 wi => ∃ k : Nat, s20 = .int .i64 k ∧ k ≤ t.length ∧ Rdg wi (w.heap.size + 2) (.slice (some ⟨gv, 0, none⟩) ll.length cv) (M.cur f n k ll) vs ∧ Slot1 wi C (.slice (some ⟨gv, 0, none⟩) ll.length cv) ∧ Slot1 wi (w.heap.size + 1) (.slice none 0 0) ∧ Below w.heap.size w wi) (fun s20 _ => t.length - (intOf s20).toNat)
      case atStart => exact ⟨0, rfl, Nat.zero_le _, hR, hP, hQ, hbel⟩
      case round =>
        obtain ⟨k, rfl, hk, hR, hP, hQ, hbel⟩ := hrel
        by_cases hkt : k < t.length
        · obtain ⟨g, rfl, hg, hd, hf⟩ := HA.out k _ hR hkt
          have j1 : (k : Int) < t.length := by omega
          have HS1 : Hid (∀ W', Chg wr W' g (k * 3) t[k] (f t[k]) → Rdg W' (w.heap.size + 2) (.slice (some ⟨gv, 0, none⟩) ll.length cv) (M.cur f n (k + 1) ll) vs ∧ wr.grownBy W' (some g) ∧ w.heap.size + 2 ≤ g ∧ g < C) := fun W' hch => HS.out k g wr W' hkt rfl hR hch
          have CC := hcl wr g (k * 3) t[k] hbel (by omega) (HT.out k hkt) hd hf
          generalize t[k] = d at *
          go_wp2_with (first | (go_at_call 54; refine CC.mono ?_; rintro e W2 ⟨rfl, hch⟩))
          obtain ⟨r1, r2, r3, r4⟩ := HS1.out _ hch
          exact ⟨⟨k + 1, by go_num, by omega, r1, hP.apart r2 (fun e => by have := Option.some.inj e; omega), hQ.apart r2 (fun e => by have := Option.some.inj e; omega), below_grown hbel r2 (fun j hj => by have := Option.some.inj hj; omega) hbel.size⟩, by simp [intOf]; omega⟩
        · have j1 : ¬ (k : Int) < t.length := by omega
          rw [HN.out k (by omega)] at hR
          go_wp2_with fail
          exact ⟨⟨n + 1, by go_num, by omega, hR, hP, hQ, hbel⟩, by simp [intOf]; omega⟩
    · rw [M.cur_all f n 0 ll (by omega)] at hR
      have i1 : ¬ (n : Int) < ll.length := by omega
      have p0 := hP.c
      have pf := hP.fz
      have q0 := hQ.c
      have qf := hQ.fz
      have lP := hP.lt
      have lQ := hQ.lt
      have hne : w.heap.size + 1 ≠ C := by omega
      go_wp2_with fail
      have q1 := (hQ.set (.slice av ll.length cv)).c
      exact bodyPost_ret (v := .agg #[.slice av ll.length cv]) (by simp [results, Try.results33, go_sem, q1]) rfl ⟨_, rfl, ⟨vs, (hR.far (by omega) _).mono (by omega)⟩, hbel.setCell (by show w.heap.size ≤ w.heap.size + 1; omega) _⟩

set_option maxHeartbeats 2000000 in
set_option maxRecDepth 10000 in
theorem changeQ_any (a : Option Addr) (b o c : Nat) (ll : List (List M.D)) (f : M.D → M.D) (w : World) (h3 : ll.length ≤ 3) (h7 : ∀ t ∈ ll, t.length ≤ 7) (h : DoSS w a b o ll)
    (hcl : ∀ (W : World) (g off : Nat) (d : M.D), Below w.heap.size w W → w.heap.size ≤ g → (∃ t ∈ ll, d ∈ t) → DoAt W g off d → (∀ i, W.frozen? ⟨g, i, none⟩ = false) → Calls Try.prog 34 #[.pointer (some ⟨g, off, none⟩)] W fun e w' => e = .returned (.tuple #[]) ∧ Chg W w' g off d (f d)) :
    Calls Try.prog 33 #[.agg #[.slice a ll.length c], .func (.func 34) #[] #[]] w fun e w' => ∃ v, e = .returned (.agg #[v]) ∧ (∃ vs, Rdg w' w.heap.size v (M.mapS f ll) vs) ∧ Below w.heap.size w w' := by
  have b2 := below2 w (.cells #[.slice a ll.length c] 25) (.cells #[.slice none 0 0] 25)
  have h2 := h.below b2 (Nat.le_refl _)
  have hY := Slot1.new (w.alloc (.cells #[.slice a ll.length c] 25)) (.slice none 0 0) 25
  rw [World.size_alloc] at hY
  have hsz : ((w.alloc (.cells #[.slice a ll.length c] 25)).alloc (.cells #[.slice none 0 0] 25)).heap.size = w.heap.size + 2 := by simp
  go_enter Try.func33, Try.ntmps33
  go_wp2_with fail
  generalize (w.alloc (.cells #[.slice a ll.length c] 25)).alloc (.cells #[.slice none 0 0] 25) = W at *
  refine (copyProg_any a b o c ll W (by omega) (fun t ht => by have := h7 t ht; omega) h2).mono ?_
  rintro e W1 ⟨v1, rfl, ⟨vs, hR1⟩, b1⟩
  obtain ⟨av, gv0, cv, rfl, _⟩ := hR1.b.ss
  have HV : ∀ i (hi : i < vs.length) k, vs[i].ownBlock = some k → k < W1.heap.size := fun i hi k hk => ((hR1.b.inner i (by have := hR1.b.len; omega) hi).lt k hk).2
  have bA := below1 W1 (.cells #[.slice av ll.length cv] 25)
  have hRA := (hR1.below bA).mono (show w.heap.size + 2 ≤ W.heap.size by omega)
  have bw1 := b2.trans (b1.mono b2.size)
  have bwA := bw1.trans (bA.mono bw1.size)
  have hYA := (hY.bl' b1).bl' bA
  have hC := Slot1.new W1 (.slice av ll.length cv) 25
  have hb1s : w.heap.size + 2 ≤ W1.heap.size := by have := b1.size; omega
  clear hR1 hY h2 b1 b2 bw1 hsz
  go_wp2_with fail
  generalize W1.alloc (.cells #[.slice av ll.length cv] 25) = WA at *
  generalize W1.heap.size = C at *
  have hlenA : (M.cur f 0 0 ll).length = ll.length := M.cur_len _ _ _ _
  go_loopw [14] (fun s14 wr => ∃ n : Nat, s14 = .int .i64 n ∧ n ≤ ll.length ∧ Rdg wr (w.heap.size + 2) (.slice av ll.length cv) (M.cur f n 0 ll) vs ∧ Slot1 wr C (.slice av ll.length cv) ∧ Slot1 wr (w.heap.size + 1) (.slice none 0 0) ∧ Below w.heap.size w wr) (fun s14 _ => ll.length - (intOf s14).toNat)
  case atStart => exact ⟨0, rfl, Nat.zero_le _, by rw [M.cur_zero]; exact hRA, hC, hYA, bwA⟩
  case round =>
    obtain ⟨n, rfl, hn, hR, hP, hQ, hbel⟩ := hrel
    clear hRA hC hYA bwA hlenA
    by_cases hlt : n < ll.length
    · have hR' := hR
      rw [← M.cur_len f n 0 ll] at hR'
      obtain ⟨gv, rfl, hv, hc⟩ := hR'.outer_at (n := n) (by rw [M.cur_len]; exact hlt)
      obtain ⟨a', c', e1, hin⟩ := hR.cur_at hlt hv
      rw [e1] at hc
      have ht7 := h7 _ (List.getElem_mem hlt)
      have i1 : (n : Int) < ll.length := by omega
      have HT : Hid (∀ k (hk : k < ll[n].length), ∃ t ∈ ll, ll[n][k] ∈ t) := fun k hk => ⟨ll[n], List.getElem_mem hlt, List.getElem_mem hk⟩
      have HS : Hid (∀ (k g : Nat) (W W' : World) (hk : k < ll[n].length), a' = some ⟨g, 0, none⟩ → Rdg W (w.heap.size + 2) (.slice (some ⟨gv, 0, none⟩) ll.length cv) (M.cur f n k ll) vs → Chg W W' g (k * 3) ll[n][k] (f ll[n][k]) → Rdg W' (w.heap.size + 2) (.slice (some ⟨gv, 0, none⟩) ll.length cv) (M.cur f n (k + 1) ll) vs ∧ W.grownBy W' (some g) ∧ w.heap.size + 2 ≤ g ∧ g < C) := by
        intro k g W W' hk ha hr hch
        subst ha
        have r := hr.step hlt hk hv e1 hch
        exact ⟨r.1, r.2.1, r.2.2, HV n hv g (by rw [e1]; rfl)⟩
      have HA : Hid (∀ (k : Nat) (W : World), Rdg W (w.heap.size + 2) (.slice (some ⟨gv, 0, none⟩) ll.length cv) (M.cur f n k ll) vs → ∀ hk : k < ll[n].length, ∃ g, a' = some ⟨g, 0, none⟩ ∧ w.heap.size + 2 ≤ g ∧ DoAt W g (k * 3) ll[n][k] ∧ ∀ i, W.frozen? ⟨g, i, none⟩ = false) := by
        intro k W hr hk
        obtain ⟨a2, c2, e2, h2⟩ := hr.cur_at hlt hv
        rw [e1] at e2
        obtain ⟨rfl, _, rfl⟩ := Value.slice.inj e2
        exact h2 hk
      have HN : Hid (∀ k, ll[n].length ≤ k → M.cur f n k ll = M.cur f (n + 1) 0 ll) := fun k hk => M.cur_next f n k ll hlt hk
      clear hin e1 hR'
      generalize ll[n] = t at *
      go_wp2_with fail
      go_loopw [20] (fun s20 wi => ∃ k : Nat, s20 = .int .i64 k ∧ k ≤ t.length ∧ Rdg wi (w.heap.size + 2) (.slice (some ⟨gv, 0, none⟩) ll.length cv) (M.cur f n k ll) vs ∧ Slot1 wi C (.slice (some ⟨gv, 0, none⟩) ll.length cv) ∧ Slot1 wi (w.heap.size + 1) (.slice none 0 0) ∧ Below w.heap.size w wi) (fun s20 _ => t.length - (intOf s20).toNat)
      case atStart => exact ⟨0, rfl, Nat.zero_le _, hR, hP, hQ, hbel⟩
      case round =>
        obtain ⟨k, rfl, hk, hR, hP, hQ, hbel⟩ := hrel
        by_cases hkt : k < t.length
        · obtain ⟨g, rfl, hg, hd, hf⟩ := HA.out k _ hR hkt
          have j1 : (k : Int) < t.length := by omega
          have HS1 : Hid (∀ W', Chg wr W' g (k * 3) t[k] (f t[k]) → Rdg W' (w.heap.size + 2) (.slice (some ⟨gv, 0, none⟩) ll.length cv) (M.cur f n (k + 1) ll) vs ∧ wr.grownBy W' (some g) ∧ w.heap.size + 2 ≤ g ∧ g < C) := fun W' hch => HS.out k g wr W' hkt rfl hR hch
          have CC := hcl wr g (k * 3) t[k] hbel (by omega) (HT.out k hkt) hd hf
          generalize t[k] = d at *
          go_wp2_with (first | (go_at_call 34; refine CC.mono ?_; rintro e W2 ⟨rfl, hch⟩))
          obtain ⟨r1, r2, r3, r4⟩ := HS1.out _ hch
          exact ⟨⟨k + 1, by go_num, by omega, r1, hP.apart r2 (fun e => by have := Option.some.inj e; omega), hQ.apart r2 (fun e => by have := Option.some.inj e; omega), below_grown hbel r2 (fun j hj => by have := Option.some.inj hj; omega) hbel.size⟩, by simp [intOf]; omega⟩
        · have j1 : ¬ (k : Int) < t.length := by omega
          rw [HN.out k (by omega)] at hR
          go_wp2_with fail
          exact ⟨⟨n + 1, by go_num, by omega, hR, hP, hQ, hbel⟩, by simp [intOf]; omega⟩
    · rw [M.cur_all f n 0 ll (by omega)] at hR
      have i1 : ¬ (n : Int) < ll.length := by omega
      have p0 := hP.c
      have pf := hP.fz
      have q0 := hQ.c
      have qf := hQ.fz
      have lP := hP.lt
      have lQ := hQ.lt
      have hne : w.heap.size + 1 ≠ C := by omega
      go_wp2_with fail
      have q1 := (hQ.set (.slice av ll.length cv)).c
      exact bodyPost_ret (v := .agg #[.slice av ll.length cv]) (by simp [results, Try.results33, go_sem, q1]) rfl ⟨_, rfl, ⟨vs, (hR.far (by omega) _).mono (by omega)⟩, hbel.setCell (by show w.heap.size ≤ w.heap.size + 1; omega) _⟩

end Go.Proofs.Ytdpoiabohkkbcaa

namespace Go.Proofs.Ytdpoiabohkkbcaa
open Go.RowKit

/-- A box of a program. -/
structure PBox (w : World) (b : Nat) (x : Value) : Prop where
  s : Slot1 w b x
  ty : ∃ cur, w.heap[b]? = some (.cells cur 25 (0, 0))
theorem PBox.new (w : World) (x : Value) : PBox (w.alloc (.cells #[x] 25)) w.heap.size x := ⟨Slot1.new _ _ _, _, heap_alloc_new w _⟩
theorem PBox.but {w w' : World} {b rb : Nat} {x : Value} (h : PBox w b x) (hb : But rb w w') (hne : b ≠ rb) : PBox w' b x := by
  obtain ⟨cur, hc⟩ := h.ty
  exact ⟨h.s.but hb hne, cur, (hb.block b h.s.lt hne).trans hc⟩
theorem PBox.below {w w' : World} {b : Nat} {x : Value} (h : PBox w b x) (hb : Below w.heap.size w w') : PBox w' b x := by
  obtain ⟨cur, hc⟩ := h.ty
  exact ⟨h.s.bl' hb, cur, (hb.block b h.s.lt).trans hc⟩
theorem PBox.grown {w w' : World} {b : Nat} {x : Value} {row : Option Nat} (h : PBox w b x) (hg : w.grownBy w' row) (hr : row ≠ some b) : PBox w' b x := by
  obtain ⟨cur, hc⟩ := h.ty
  exact ⟨h.s.apart hg hr, cur, (hg.block b h.s.lt (fun e => hr e.symm)).trans hc⟩
theorem PBox.set {w : World} {b : Nat} {x : Value} (h : PBox w b x) (u : Value) : PBox (w.setCell ⟨b, 0, none⟩ u) b u := by
  obtain ⟨cur, hc⟩ := h.ty
  exact ⟨h.s.set u, _, heap_setCell_same w b 0 cur 25 u hc⟩
theorem PBox.ne {w : World} {b B n size : Nat} {x v : Value} {e : TypeId} {xs : List Value} (h : PBox w b x) (ho : w.ownsRow B e size v n xs) (he : e ≠ 25) : v.ownBlock ≠ some b := by
  intro hb
  obtain ⟨cur, hc⟩ := h.ty
  rcases ho.2 with ⟨hv, _⟩ | ⟨g, cap, cu, hv, _, hh, _⟩
  · rw [hv] at hb; simp [Value.ownBlock] at hb
  · rw [hv] at hb
    simp [Value.ownBlock] at hb
    subst hb
    rw [hc] at hh
    simp at hh
    exact he hh.2.symm
theorem Rdg.box {w : World} {B b : Nat} {v x : Value} {ll : List (List M.D)} {vs : List Value} (h : Rdg w B v ll vs) (hp : PBox w b x) (u : Value) : Rdg (w.setCell ⟨b, 0, none⟩ u) B v ll vs :=
  ⟨⟨ownsRow_setCell_other h.b.outer (a := ⟨b, 0, none⟩) (hp.ne h.b.outer (by decide)) u, h.b.len, fun i h1 h2 => ownsRow_setCell_other (h.b.inner i h1 h2) (a := ⟨b, 0, none⟩) (hp.ne (h.b.inner i h1 h2) (by decide)) u⟩, h.ap⟩
theorem Rdg.but {w w' : World} {B rb : Nat} {v : Value} {ll : List (List M.D)} {vs : List Value} (h : Rdg w B v ll vs) (hb : But rb w w') (hr : rb < B) : Rdg w' B v ll vs := ⟨h.b.but hb hr, h.ap⟩
/-- A program of one thread. -/
theorem Rdg.lit (w : World) (B : Nat) (x : Value) (l : List M.D) (hx : w.ownsRow B 55 3 x l.length (flat l)) (hB : B ≤ w.heap.size) : Rdg (w.alloc (.cells #[x] 58)) B (.slice (some ⟨w.heap.size, 0, none⟩) 1 1) [l] [x] := by
  refine ⟨⟨World.ownsRow_lit w #[x] 1 hB (by decide) rfl, rfl, fun i h1 h2 => ?_⟩, fun i j hi hj hne => ?_⟩
  · obtain rfl : i = 0 := by simp at h1; omega
    exact hx.alloc _
  · simp at hi hj; omega

theorem wrap_eq64 (x : Int) : IntKind.i64.wrap x = wrap64 x := by first | rfl | (rw [IntKind.wrap_i64]; first | rfl | (unfold wrap64; omega))
/-- A step at the next place. -/
def M.incF (d : M.D) : M.D := if M.uses d.k then ⟨d.k, wrap64 (d.p + 1), d.v⟩ else d
theorem Rdg.sn {w : World} {B : Nat} {v : Value} {ll : List (List M.D)} {vs : List Value} (h : Rdg w B v ll vs) : ∃ a g c, v = .slice a ll.length c ∧ DoSN B w a g 0 ll := h.b.sn

/-- What is drawn: two programs. -/
structure TbDrawn (w w' : World) (a : Option Addr) (g : Nat) (mm : List (List M.D)) (a2 : Option Addr) (g2 : Nat) (nn : List (List M.D)) : Prop where
  p : DoSS w' a g 0 mm
  q : DoSS w' a2 g2 0 nn
  ml : mm.length ≤ 3
  nl : nn.length ≤ 3
  ms : ∀ t ∈ mm, t.length ≤ 20
  ns : ∀ t ∈ nn, t.length ≤ 20
  bel : Below w.heap.size w w'

end Go.Proofs.Ytdpoiabohkkbcaa

namespace Go.Proofs.Ytdpoiabohkkbcaa
open Go.RowKit

theorem run_append_zero {P : Program} (w : World) (t ty e : TypeId) (i : TypeInfo) (ht : P.underlying t = some (.slice e)) (hi : P.info? e = some i) {base size n : Nat} {v : Value} {xs : List Value} {e' : TypeId} (hown : w.ownsRow base e' size v n xs) (a : Option Addr) (c : Nat) :
    (Builtin.append_ #[t, t] ty #[v, .slice a 0 c]).run P w = .ok v w := by
  rcases hown.2 with ⟨hv, h0⟩ | ⟨g, cap, cur, hv, _, _, hnc, _⟩
  · subst hv
    cases a
    · simp [Builtin.append_, run_underlying ht, sizeOf, typeInfo, hi, Builtin.lenOf, Builtin.firstCells]
    · simp [Builtin.append_, run_underlying ht, sizeOf, typeInfo, hi, Builtin.lenOf, Builtin.firstCells, loadCells, loadCellsFrom]
  · subst hv
    cases a
    · simp [Builtin.append_, run_underlying ht, sizeOf, typeInfo, hi, Builtin.lenOf, Builtin.firstCells, storeCells, hnc]
    · simp [Builtin.append_, run_underlying ht, sizeOf, typeInfo, hi, Builtin.lenOf, Builtin.firstCells, loadCells, loadCellsFrom, storeCells, hnc]
theorem wpList_append_zero {P : Program} {w : World} {ops : Array Oper} {rest : List Oper} {o : Oper} {a : Act} {Q : Exit → Act → World → Prop} (hgd : o.guard = none) (s x : Operand) (t : TypeId)
    (ho : o.op = .call { callee := .builtin .append, args := #[s, x], argTypes := #[t, t] }) (d : Option Tmp) (hd : o.dst = d) (e : TypeId) (i : TypeInfo) (ht : P.underlying t = some (.slice e)) (hi : P.info? e = some i)
    {base size n : Nat} {v : Value} {xs : List Value} {e' : TypeId} (hs : a.eval s = v) (hown : w.ownsRow base e' size v n xs) (b : Option Addr) (m c : Nat) (hm : m = 0) (hx : a.eval x = .slice b m c)
    (h : wpList P ops Q rest (a.put d v) w) : wpList P ops Q (o :: rest) a w := by
  subst hd
  subst hm
  refine wpList_plain hgd fun K hK => ?_
  have hrun := run_append_zero (P := P) w t o.type e i ht hi hown b c
  unfold Oper.wp
  simp [execOp, ho, resolve, invoke, builtin, hs, hx, hrun, Result.andThen]
  exact hK _ _ h

set_option maxHeartbeats 1000000 in
set_option maxRecDepth 100000 in
theorem growT_any (n : Nat) (w : World) (hn : n ≤ 1000) :
    Calls Try.prog 70 #[.slice none 0 0, .int .i64 n] w fun e w' => ∃ v, e = .returned v ∧ w'.ownsRow w.heap.size 58 1 v 0 [] ∧ Below w.heap.size w w' := by
  obtain ⟨i0, hi, hz0, hz1, hz2⟩ := info_parts Try.infoTh
  have h1 : ¬ ((n : Int) < 0) := by omega
  rcases Nat.eq_zero_or_pos n with h0 | hpos
  · subst h0
    go_enter Try.func70, Try.ntmps70
    go_wp2_with fail
    go_ret
    exact ⟨_, rfl, World.ownsRow_nil _ _ _ _, Below.refl _ _⟩
  · have h4 : (0 : Int) < n := by omega
    have hrz : ∀ ty, (Builtin.append_ #[23, 3] ty #[.slice none 0 0, .int .i64 n]).run Try.prog w = .ok (.slice (some ⟨w.heap.size, 0, none⟩) n (grownCap w n 0 58)) (w.drew.alloc (.cells (#[] ++ Builtin.zeroCells (Value.slice none 0 0).cells n ++ Builtin.zeroCells (Value.slice none 0 0).cells (grownCap w n 0 58 - n)) 58)) := fun ty => by
      have h := Lib.run_append_grow_zeros (P := Try.prog) w 23 3 ty 58 i0 (.slice none 0 0) .i64 .i64 Try.underlying23 Try.underlying3 hi hz0 none 0 0 [] (run_firstCells_none w.drew i0.size 0 0 0) n hpos (by rw [hz1]; decide) (by omega) (by omega) (by rw [hz2]; omega) (by rw [hz2]; simp [Builtin.nextslicecap, hpos]; omega)
      simpa using h
    have hG : n ≤ grownCap w n 0 58 := grownCap_ge w _ _ _
    have hG2 := grownCap_le_maxLen w n 0 58 (by unfold maxLen; omega)
    generalize grownCap w n 0 58 = G at *
    have hsz : (#[] ++ Builtin.zeroCells (Value.slice none 0 0).cells n ++ Builtin.zeroCells (Value.slice none 0 0).cells (G - n)).size = G * 1 := by
      simp [Builtin.zeroCells, Value.cells]; omega
    generalize #[] ++ Builtin.zeroCells (Value.slice none 0 0).cells n ++ Builtin.zeroCells (Value.slice none 0 0).cells (G - n) = Z at *
    have hG3 : (G : Int) ≤ 9223372036854775807 := by unfold maxLen at hG2; omega
    go_enter Try.func70, Try.ntmps70
    go_wp2_with (at_builtin; refine Lib.wpList_append_run _ rfl _ _ _ _ rfl _ _ rfl rfl _ _ (hrz _) ?_)
    go_ret
    exact ⟨_, rfl, World.ownsRow_made w.drew Z G (Nat.le_refl _) hG2 hsz, (Below.refl w.heap.size w).drew.alloc (Nat.le_refl _) _⟩

theorem DoSS.vals {w : World} {a : Option Addr} {b o : Nat} {ll : List (List M.D)} (h : DoSS w a b o ll) : ∃ vs : List Value, Thx w vs ll ∧ ∀ i (h2 : i < vs.length), w.cell? ⟨b, o + i, none⟩ = some vs[i] := by
  have key : ∀ i (hi : i < ll.length), w.cell? ⟨b, o + i, none⟩ = some ((w.cell? ⟨b, o + i, none⟩).getD (.int .i64 0)) := fun i hi => by
    obtain ⟨a', b', o', c', hc, _⟩ := h.row i hi
    rw [hc]; rfl
  refine ⟨(List.range ll.length).map fun i => (w.cell? ⟨b, o + i, none⟩).getD (.int .i64 0), ⟨by simp, fun i h1 h2 => ?_⟩, fun i h2 => ?_⟩
  · obtain ⟨a', b', o', c', hc, hd⟩ := h.row i h1
    refine ⟨a', b', o', c', ?_, hd⟩
    rw [List.getElem_map, List.getElem_range, hc]; rfl
  · rw [List.getElem_map, List.getElem_range]
    exact key i (by simpa using h2)
theorem Thx.one {w : World} {vs : List Value} {ll : List (List M.D)} (h : Thx w vs ll) : ∀ y ∈ vs, y.oneCell' = true := fun y hy => by
  obtain ⟨i, hi, rfl⟩ := List.getElem_of_mem hy
  obtain ⟨a', b', o', c', e, _⟩ := h.2 i (by rw [← h.1]; exact hi) hi
  rw [e]; rfl
theorem Thx.app {w : World} {vs ws : List Value} {ll mm : List (List M.D)} (h : Thx w vs ll) (k : Thx w ws mm) : Thx w (vs ++ ws) (ll ++ mm) := by
  have hl := h.1
  have kl := k.1
  refine ⟨by simp [hl, kl], fun i h1 h2 => ?_⟩
  by_cases hi : i < ll.length
  · rw [List.getElem_append_left (by omega), List.getElem_append_left hi]
    exact h.2 i hi (by omega)
  · have e1 : (vs ++ ws)[i] = ws[i - ll.length]'(by simp at h2; omega) := by rw [List.getElem_append_right (by omega)]; simp only [hl]
    have e2 : (ll ++ mm)[i] = mm[i - ll.length]'(by simp at h1; omega) := List.getElem_append_right (by omega)
    rw [e1, e2]
    exact k.2 _ _ _

/-- What has been put side by side. -/
def M.pre2 (n : Nat) (ll mm : List (List M.D)) : List (List M.D) := if n = 0 then [] else if n = 1 then ll else ll ++ mm
def M.sum2 (n a b : Nat) : Nat := if n = 0 then 0 else if n = 1 then a else a + b

set_option maxHeartbeats 2000000 in
set_option maxRecDepth 100000 in
theorem concatT_any (B : Nat) (a : Option Addr) (b o c : Nat) (ll : List (List M.D)) (a2 : Option Addr) (b2 o2 c2 : Nat) (mm : List (List M.D)) (w : World) (hl : ll.length ≤ 100) (hm : mm.length ≤ 100) (h0 : w.cell? ⟨B, 0, none⟩ = some (.slice a ll.length c)) (h1 : w.cell? ⟨B, 1, none⟩ = some (.slice a2 mm.length c2)) (h : DoSS w a b o ll) (h2 : DoSS w a2 b2 o2 mm) :
    Calls Try.prog 52 #[.slice (some ⟨B, 0, none⟩) 2 2] w fun e w' => ∃ v, e = .returned v ∧ (∃ a', (∃ c', v = .slice a' (ll ++ mm).length c') ∧ ∃ g', DoSS w' a' g' 0 (ll ++ mm)) ∧ Below w.heap.size w w' := by
  obtain ⟨i0, hi, hz0, hz1, hz2⟩ := info_parts Try.infoTh
  obtain ⟨vs1, hv1, hc1⟩ := h.vals
  obtain ⟨vs2, hv2, hc2⟩ := h2.vals
  have ha1 := h.addr
  have ha2 := h2.addr
  have lB : B < w.heap.size := World.block_lt_of_cell? _ _ h0
  clear h h2
  go_enter Try.func52, Try.ntmps52
  go_wp2_with fail
  go_loopw [3, 11] (fun s3 s11 wr => ∃ n : Nat, s11 = .int .i64 n ∧ n ≤ 2 ∧ s3 = .int .i64 (M.sum2 n ll.length mm.length : Nat) ∧ wr = w) (fun _ s11 _ => 2 - (intOf s11).toNat)
  case atStart => exact ⟨0, rfl, by omega, rfl, rfl⟩
  case round =>
    obtain ⟨n, rfl, hn, rfl, rfl⟩ := hrel
    rcases (show n = 0 ∨ n = 1 ∨ n = 2 by omega) with rfl | rfl | rfl
    · have e0 : M.sum2 0 ll.length mm.length = 0 := rfl
      rw [e0]
      have hge : ¬ ((ll.length : Int) < 0) := by omega
      go_wp2_with fail
      exact ⟨⟨1, by go_num, by omega, by simp [M.sum2], trivial⟩, by simp [intOf]⟩
    · have e0 : M.sum2 1 ll.length mm.length = ll.length := rfl
      rw [e0]
      have hge : ¬ ((ll.length : Int) + mm.length < 0) := by omega
      go_wp2_with fail
      exact ⟨⟨2, by go_num, by omega, by simp [M.sum2], trivial⟩, by simp [intOf]⟩
    · have e0 : M.sum2 2 ll.length mm.length = ll.length + mm.length := rfl
      rw [e0]
      go_wp2_with fail
      refine (growT_any (ll.length + mm.length) wr (by omega)).mono ?_
      rintro e w1 ⟨v1, rfl, hown1, b1⟩
      go_wp2_with fail
      obtain ⟨wo, hwo⟩ : ∃ wo, wo = wr := ⟨_, rfl⟩
      subst hwo
      go_loopw [6, 27] (fun s6 s27 wi => ∃ (n : Nat) (vs : List Value), s27 = .int .i64 n ∧ n ≤ 2 ∧ wi.ownsRow wo.heap.size 58 1 s6 (M.pre2 n ll mm).length vs ∧ Thx wo vs (M.pre2 n ll mm) ∧ Below wo.heap.size wo wi) (fun _ s27 _ => 2 - (intOf s27).toNat)
      case atStart => exact ⟨0, [], rfl, by omega, hown1, Thx.nil _, b1⟩
      case round =>
        obtain ⟨n, vs, rfl, hn, hown, hT, hbel⟩ := hrel
        have hbs := hbel.size
        rcases (show n = 0 ∨ n = 1 ∨ n = 2 by omega) with rfl | rfl | rfl
        · have k0 := (hbel.cell (p := ⟨B, 0, none⟩) lB).trans h0
          have hvs : vs = [] := List.length_eq_zero_iff.1 hT.1
          subst hvs
          have hown0 : wr.ownsRow wo.heap.size 58 1 u6 0 [] := hown
          clear hown hT
          rcases Nat.eq_zero_or_pos ll.length with hz | hz
          · have hZ : Hid (ll.length = 0) := hz
            clear hz
            go_wp2_with (at_builtin; refine wpList_append_zero rfl (.tmp 31) (.tmp 32) 23 rfl (some 33) rfl 58 i0 Try.underlying23 hi rfl hown0 a ll.length c hZ.out rfl ?_)
            go_wp2_with fail
            have hll : ll = [] := List.length_eq_zero_iff.1 hZ.out
            exact ⟨⟨1, [], by go_num, by omega, by rw [show M.pre2 1 ll mm = [] from hll]; exact hown0, by rw [show M.pre2 1 ll mm = [] from hll]; exact Thx.nil _, hbel⟩, by simp [intOf]⟩
          · obtain ⟨rfl⟩ := ha1 hz
            go_wp2_with (at_builtin; refine wpList_append_own _ rfl (.tmp 31) (.tmp 32) 23 rfl _ 58 i0 _ 1 24 Try.underlying23 hi hz0 hz1 hz2 rfl (by decide) _ _ _ rfl hown0 ⟨b, o, none⟩ ll.length c vs1 rfl (by rw [hv1.1]; omega) (fun j u hj => by
                obtain ⟨hjl, rfl⟩ := List.getElem?_eq_some_iff.1 hj
                have := hc1 j hjl
                rw [Go.WideShapes.add_plain]
                exact (hbel.cell (p := ⟨b, o + j, none⟩) (World.block_lt_of_cell? _ _ this)).trans this) hv1.one (by unfold maxLen; omega) (by omega) (by omega) ?_)
            intro v3 w3 hown3 hg3 _
            have hb3 : Below _ _ w3 := below_grown hbel hg3 (own_ge hown0) hbel.size
            have hown4 : w3.ownsRow wo.heap.size 58 1 v3 (M.pre2 1 ll mm).length vs1 := by simpa [M.pre2] using hown3
            clear hown3 hg3 hown0
            go_wp2_with fail
            exact ⟨⟨1, vs1, by go_num, by omega, hown4, hv1, hb3⟩, by simp [intOf]⟩
        · have k1 := (hbel.cell (p := ⟨B, 1, none⟩) lB).trans h1
          have hown0 : wr.ownsRow wo.heap.size 58 1 u6 ll.length vs := hown
          have hT0 : Thx wo vs ll := hT
          clear hown hT
          rcases Nat.eq_zero_or_pos mm.length with hz | hz
          · have hZ : Hid (mm.length = 0) := hz
            clear hz
            go_wp2_with (at_builtin; refine wpList_append_zero rfl (.tmp 31) (.tmp 32) 23 rfl (some 33) rfl 58 i0 Try.underlying23 hi rfl hown0 a2 mm.length c2 hZ.out rfl ?_)
            go_wp2_with fail
            have hll : mm = [] := List.length_eq_zero_iff.1 hZ.out
            have hpp : M.pre2 2 ll mm = ll := by rw [hll]; simp [M.pre2]
            exact ⟨⟨2, vs, by go_num, by omega, by rw [hpp]; exact hown0, by rw [hpp]; exact hT0, hbel⟩, by simp [intOf]⟩
          · obtain ⟨rfl⟩ := ha2 hz
            go_wp2_with (at_builtin; refine wpList_append_own _ rfl (.tmp 31) (.tmp 32) 23 rfl _ 58 i0 _ 1 24 Try.underlying23 hi hz0 hz1 hz2 rfl (by decide) _ _ _ rfl hown0 ⟨b2, o2, none⟩ mm.length c2 vs2 rfl (by rw [hv2.1]; omega) (fun j u hj => by
                obtain ⟨hjl, rfl⟩ := List.getElem?_eq_some_iff.1 hj
                have := hc2 j hjl
                rw [Go.WideShapes.add_plain]
                exact (hbel.cell (p := ⟨b2, o2 + j, none⟩) (World.block_lt_of_cell? _ _ this)).trans this) hv2.one (by unfold maxLen; omega) (by omega) (by omega) ?_)
            intro v3 w3 hown3 hg3 _
            have hb3 : Below _ _ w3 := below_grown hbel hg3 (own_ge hown0) hbel.size
            have hown4 : w3.ownsRow wo.heap.size 58 1 v3 (M.pre2 2 ll mm).length (vs ++ vs2) := by simpa [M.pre2] using hown3
            have hT4 : Thx wo (vs ++ vs2) (M.pre2 2 ll mm) := by simpa [M.pre2] using hT0.app hv2
            clear hown3 hg3 hown0
            go_wp2_with fail
            exact ⟨⟨2, _, by go_num, by omega, hown4, hT4, hb3⟩, by simp [intOf]⟩
        · have hown0 : wr.ownsRow wo.heap.size 58 1 u6 (ll ++ mm).length vs := hown
          have hT0 : Thx wo vs (ll ++ mm) := hT
          obtain ⟨a', g', c', rfl, hs⟩ := (hT0.below hbel (Nat.le_refl _)).ss hown0
          clear hown hT
          go_wp2_with fail
          go_ret
          exact ⟨_, rfl, ⟨a', ⟨c', rfl⟩, g', hs⟩, hbel⟩

end Go.Proofs.Ytdpoiabohkkbcaa
