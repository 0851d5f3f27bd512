/- Turning about, plainly: rows of numbers, threads, places and values turned, programs side by side, plain ones. No condition. Rows of few numbers, turned back; programs whose threads, places or values are turned are programs. No condition. Cells of literals; a row of steps more; steps as the cells of their row. No condition. spec.l71Row: a drawn row of one to three numbers (mostly); laws.lpBack: where the numbers of a row stand. Boxes of one cell kept by what only lays blocks. No condition. impl's rows: numbersBelow, isRowOf, and what is turned by a row, of numbers and of threads. Of at most 1000 things, rows of at most 1048576 numbers. impl's turn: the things with the numbers of a row; of numbers, of threads. Of at most 1000 things, rows of at most 1048576 numbers. impl.newList of steps, impl.copyProg: a program in rows of its own. Of at most 1048576 threads, and steps of a thread. spec.DrawTurnPlaces, spec.DrawTurnThreads: a drawn program, and a row. Of codes of at most 1048576 bytes. spec.DrawTurnVals: a drawn program, and a row of four values. Of codes of at most 1048576 bytes. Steps that are changed where they lie: plainly, and in rows of the call's own. No condition. -/
import Derived.Test.YtdpoiabohkkbcaaMathN
import Derived.Test.YtdpoiabohkkbcaaCont
import Derived.Test.YtdpoiabohkkbcaaDrTh
import Derived.Test.YtdpoiabohkkbcaaMem
import Derived.Deep.AppendLies
import Derived.Test.YtdpoiabohkkbcaaRd
import Derived.Test.YtdpoiabohkkbcaaSnFar
import Derived.Laws.OwnMore
import Derived.Test.YtdpoiabohkkbcaaRdM
import Derived.Test.YtdpoiabohkkbcaaRowMore
import Derived.Test.YtdpoiabohkkbcaaIProg
import Derived.Test.YtdpoiabohkkbcaaWide
import Derived.Test.YtdpoiabohkkbcaaDrAn
import Derived.Test.YtdpoiabohkkbcaaDrOp
import Derived.Test.YtdpoiabohkkbcaaLpPg

namespace Go.Proofs.Ytdpoiabohkkbcaa
namespace M

/-- The numbers below one. -/
def bel (n : Nat) : List Int := (List.range n).map fun i : Nat => (i : Int)
theorem bel_len (n : Nat) : (bel n).length = n := by simp [bel]
theorem bel_get (n i : Nat) (h : i < (bel n).length) : (bel n)[i] = (i : Int) := by simp [bel]
theorem bel_succ (n : Nat) : bel (n + 1) = bel n ++ [(n : Int)] := by simp [bel, List.range_succ]
theorem bel_mem {n : Nat} {x : Int} : x ∈ bel n ↔ 0 ≤ x ∧ x < n := by
  simp only [bel, List.mem_map, List.mem_range]
  constructor
  · rintro ⟨a, ha, rfl⟩; omega
  · rintro ⟨h1, h2⟩; exact ⟨x.toNat, by omega, by omega⟩
theorem bel_nodup (n : Nat) : (bel n).Nodup := by
  induction n with
  | zero => simp [bel]
  | succ n ih =>
    rw [bel_succ, List.nodup_append]
    refine ⟨ih, by simp, fun x hx y hy => ?_⟩
    have := (bel_mem.1 hx).2
    simp at hy
    omega

/-- Of as many, none lacks. -/
def rowOf (row evs : List Int) : Bool := decide (row.length = evs.length) && evs.all (fun v => has row v)
theorem rowOf_short {row evs : List Int} (h : ¬ row.length = evs.length) : rowOf row evs = false := by simp [rowOf, h]
theorem rowOf_same {row evs : List Int} (h : row.length = evs.length) : rowOf row evs = evs.all (fun v => has row v) := by simp [rowOf, h]
theorem rowAll_step {row evs : List Int} {n : Nat} (h : evs.all (fun v => has row v) = (evs.drop n).all (fun v => has row v)) (hn : n < evs.length) : evs.all (fun v => has row v) = (has row evs[n] && (evs.drop (n + 1)).all (fun v => has row v)) := by
  rw [h, ← List.getElem_cons_drop hn, List.all_cons]
/-- A row of so many. -/
def rowN (row : List Int) (n : Nat) : Bool := rowOf row (bel n)

theorem nodupI_le : ∀ {l m : List Int}, l.Nodup → (∀ x ∈ l, x ∈ m) → l.length ≤ m.length := by
  intro l
  induction l with
  | nil => intro m _ _; simp
  | cons x l ih =>
    intro m hn hs
    rw [List.nodup_cons] at hn
    have hx := hs x (by simp)
    have h1 := ih (m := m.erase x) hn.2 (fun y hy => by
      have hne : y ≠ x := fun e => hn.1 (by rw [← e]; exact hy)
      exact (List.mem_erase_of_ne hne).2 (hs y (List.mem_cons_of_mem _ hy)))
    have h2 := List.length_erase_of_mem hx
    have h3 : 0 < m.length := List.length_pos_of_mem hx
    simp only [List.length_cons]
    omega
theorem nodupI_all {l m : List Int} (hn : l.Nodup) (hs : ∀ x ∈ l, x ∈ m) (hlen : m.length = l.length) : ∀ y ∈ m, y ∈ l := by
  intro y hy
  apply Classical.byContradiction
  intro hc
  have h1 := nodupI_le (l := y :: l) (m := m) (List.nodup_cons.2 ⟨hc, hn⟩) (fun x hx => by
    rcases List.mem_cons.1 hx with rfl | hx
    · exact hy
    · exact hs x hx)
  simp only [List.length_cons] at h1
  omega

theorem rowN_len {row : List Int} {n : Nat} (h : rowN row n = true) : row.length = n := by
  simp only [rowN, rowOf, Bool.and_eq_true, decide_eq_true_eq, bel_len] at h; exact h.1
theorem rowN_all {row : List Int} {n : Nat} (h : rowN row n = true) : ∀ x ∈ bel n, x ∈ row := by
  simp only [rowN, rowOf, Bool.and_eq_true, List.all_eq_true, has, List.contains_eq_mem, decide_eq_true_eq] at h; exact h.2
theorem rowN_mem {row : List Int} {n : Nat} (h : rowN row n = true) : ∀ x ∈ row, 0 ≤ x ∧ x < n := fun x hx =>
  bel_mem.1 (nodupI_all (bel_nodup n) (rowN_all h) (by rw [rowN_len h, bel_len]) x hx)
theorem rowN_get {row : List Int} {n : Nat} (h : rowN row n = true) (i : Nat) (hi : i < row.length) : 0 ≤ row[i] ∧ row[i] < n := rowN_mem h _ (List.getElem_mem hi)
theorem rowN_bel (n : Nat) : rowN (bel n) n = true := by
  simp only [rowN, rowOf, Bool.and_eq_true, decide_eq_true_eq, List.all_eq_true, has, List.contains_eq_mem]
  exact ⟨trivial, fun x hx => hx⟩

/-- The things with these numbers. -/
def pick {α : Type} (z : α) (row : List Int) (l : List α) : List α := row.map fun i => l.getD i.toNat z
theorem pick_len {α : Type} (z : α) (row : List Int) (l : List α) : (pick z row l).length = row.length := by simp [pick]
theorem pick_take {α : Type} (z : α) (row : List Int) (l : List α) (n : Nat) (h : n < row.length) : pick z (row.take (n + 1)) l = pick z (row.take n) l ++ [l.getD row[n].toNat z] := by
  rw [List.take_succ_eq_append_getElem h]; unfold pick; rw [List.map_append]; rfl
theorem getD_get {α : Type} {z : α} {l : List α} {i : Nat} (h : i < l.length) : l.getD i z = l[i] := by
  rw [List.getD_eq_getElem?_getD, List.getElem?_eq_getElem h]; rfl
theorem pick_bel {α : Type} (z : α) (l : List α) : pick z (bel l.length) l = l := by
  apply List.ext_getElem
  · simp [pick, bel]
  · intro i h1 h2
    simp only [pick, List.getElem_map, bel_get]
    exact getD_get h2
theorem pick_mem {α : Type} {z : α} {row : List Int} {l : List α} {t : α} (h : t ∈ pick z row l) : t ∈ l ∨ t = z := by
  simp only [pick, List.mem_map] at h
  obtain ⟨i, _, rfl⟩ := h
  by_cases hi : i.toNat < l.length
  · rw [getD_get hi]; exact Or.inl (List.getElem_mem hi)
  · right; rw [List.getD_eq_getElem?_getD, List.getElem?_eq_none (by omega)]; rfl

def turnThreads (ll : List (List D)) (row : List Int) : Option (List (List D)) := if prog ll && rowN row ll.length then some (pick [] row ll) else none
theorem turnThreads_bad {ll : List (List D)} {row : List Int} (h : prog ll = false) : turnThreads ll row = none := by simp [turnThreads, h]
theorem turnThreads_row {ll : List (List D)} {row : List Int} (h : rowN row ll.length = false) : turnThreads ll row = none := by simp [turnThreads, h]
theorem turnThreads_yes {ll : List (List D)} {row : List Int} (h : prog ll = true) (h2 : rowN row ll.length = true) : turnThreads ll row = some (pick [] row ll) := by simp [turnThreads, h, h2]
theorem turnThreads_some {ll mm : List (List D)} {row : List Int} (h : turnThreads ll row = some mm) : prog ll = true ∧ rowN row ll.length = true ∧ mm = pick [] row ll := by
  unfold turnThreads at h
  split at h
  · rename_i hc
    simp only [Bool.and_eq_true] at hc
    exact ⟨hc.1, hc.2, (Option.some.inj h).symm⟩
  · cases h
theorem turnThreads_small {ll mm : List (List D)} {row : List Int} (e : (turnThreads ll row).getD [] = mm) : mm.length ≤ 3 ∧ ∀ t ∈ mm, t.length ≤ 7 := by
  cases h : turnThreads ll row with
  | none => rw [h] at e; subst e; simp
  | some x =>
    rw [h] at e
    obtain rfl : x = mm := e
    obtain ⟨h1, h2, rfl⟩ := turnThreads_some h
    obtain ⟨h3, h7⟩ := prog_le h1
    refine ⟨by rw [pick_len, rowN_len h2]; exact h3, fun t ht => ?_⟩
    rcases pick_mem ht with ht | rfl
    · exact h7 t ht
    · simp

/-- Each step another one. -/
def mapS (f : D → D) (ll : List (List D)) : List (List D) := ll.map fun t => t.map f
theorem mapS_len (f : D → D) (ll : List (List D)) : (mapS f ll).length = ll.length := by simp [mapS]
theorem mapS_small {f : D → D} {ll : List (List D)} (h7 : ∀ t ∈ ll, t.length ≤ 7) : ∀ t ∈ mapS f ll, t.length ≤ 7 := by
  intro t ht
  simp only [mapS, List.mem_map] at ht
  obtain ⟨u, hu, rfl⟩ := ht
  rw [List.length_map]; exact h7 u hu
theorem mapS_take (f : D → D) (ll : List (List D)) (n : Nat) (h : n < ll.length) : mapS f (ll.take (n + 1)) = mapS f (ll.take n) ++ [ll[n].map f] := by
  rw [List.take_succ_eq_append_getElem h]; unfold mapS; rw [List.map_append]; rfl

def placeF (row : List Int) (d : D) : D := if uses d.k then ⟨d.k, row.getD d.p.toNat 0, d.v⟩ else d
def valF (row : List Int) (d : D) : D := ⟨d.k, d.p, row.getD d.v.toNat 0⟩
def plainK (k : Int) : Int := if k = 5 then 2 else if k = 6 then 1 else k
def plainF (d : D) : D := ⟨plainK d.k, d.p, d.v⟩

def turnPlaces (ll : List (List D)) (row : List Int) : Option (List (List D)) := if prog ll && rowN row 3 then some (mapS (placeF row) ll) else none
theorem turnPlaces_bad {ll : List (List D)} {row : List Int} (h : prog ll = false) : turnPlaces ll row = none := by simp [turnPlaces, h]
theorem turnPlaces_row {ll : List (List D)} {row : List Int} (h : rowN row 3 = false) : turnPlaces ll row = none := by simp [turnPlaces, h]
theorem turnPlaces_yes {ll : List (List D)} {row : List Int} (h : prog ll = true) (h2 : rowN row 3 = true) : turnPlaces ll row = some (mapS (placeF row) ll) := by simp [turnPlaces, h, h2]
theorem turnPlaces_some {ll mm : List (List D)} {row : List Int} (h : turnPlaces ll row = some mm) : prog ll = true ∧ rowN row 3 = true ∧ mm = mapS (placeF row) ll := by
  unfold turnPlaces at h
  split at h
  · rename_i hc
    simp only [Bool.and_eq_true] at hc
    exact ⟨hc.1, hc.2, (Option.some.inj h).symm⟩
  · cases h
theorem turnPlaces_small {ll mm : List (List D)} {row : List Int} (e : (turnPlaces ll row).getD [] = mm) : mm.length ≤ 3 ∧ ∀ t ∈ mm, t.length ≤ 7 := by
  cases h : turnPlaces ll row with
  | none => rw [h] at e; subst e; simp
  | some x =>
    rw [h] at e
    obtain rfl : x = mm := e
    obtain ⟨h1, h2, rfl⟩ := turnPlaces_some h
    obtain ⟨h3, h7⟩ := prog_le h1
    exact ⟨by rw [mapS_len]; exact h3, mapS_small h7⟩

def turnVals (ll : List (List D)) (row : List Int) : Option (List (List D)) := if prog ll && rowN row 4 && row.getD 0 0 == 0 then some (mapS (valF row) ll) else none
theorem turnVals_bad {ll : List (List D)} {row : List Int} (h : prog ll = false) : turnVals ll row = none := by simp [turnVals, h]
theorem turnVals_row {ll : List (List D)} {row : List Int} (h : rowN row 4 = false) : turnVals ll row = none := by simp [turnVals, h]
theorem turnVals_first {ll : List (List D)} {row : List Int} (h : (row.getD 0 0 == 0) = false) : turnVals ll row = none := by simp only [turnVals, h]; simp
theorem turnVals_yes {ll : List (List D)} {row : List Int} (h : prog ll = true) (h2 : rowN row 4 = true) (h3 : (row.getD 0 0 == 0) = true) : turnVals ll row = some (mapS (valF row) ll) := by simp only [turnVals, h, h2, h3]; simp
theorem turnVals_some {ll mm : List (List D)} {row : List Int} (h : turnVals ll row = some mm) : prog ll = true ∧ rowN row 4 = true ∧ row.getD 0 0 = 0 ∧ mm = mapS (valF row) ll := by
  unfold turnVals at h
  split at h
  · rename_i hc
    simp only [Bool.and_eq_true, beq_iff_eq] at hc
    exact ⟨hc.1.1, hc.1.2, hc.2, (Option.some.inj h).symm⟩
  · cases h
theorem turnVals_small {ll mm : List (List D)} {row : List Int} (e : (turnVals ll row).getD [] = mm) : mm.length ≤ 3 ∧ ∀ t ∈ mm, t.length ≤ 7 := by
  cases h : turnVals ll row with
  | none => rw [h] at e; subst e; simp
  | some x =>
    rw [h] at e
    obtain rfl : x = mm := e
    obtain ⟨h1, h2, _, rfl⟩ := turnVals_some h
    obtain ⟨h3, h7⟩ := prog_le h1
    exact ⟨by rw [mapS_len]; exact h3, mapS_small h7⟩

def turnPlain (ll : List (List D)) : List (List D) := if prog ll then mapS plainF ll else []
theorem turnPlain_bad {ll : List (List D)} (h : prog ll = false) : turnPlain ll = [] := by simp [turnPlain, h]
theorem turnPlain_yes {ll : List (List D)} (h : prog ll = true) : turnPlain ll = mapS plainF ll := by simp [turnPlain, h]
theorem turnPlain_small {ll mm : List (List D)} (e : turnPlain ll = mm) : mm.length ≤ 3 ∧ ∀ t ∈ mm, t.length ≤ 7 := by
  subst e
  cases h : prog ll with
  | false => rw [turnPlain_bad h]; simp
  | true =>
    rw [turnPlain_yes h]
    obtain ⟨h3, h7⟩ := prog_le h
    exact ⟨by rw [mapS_len]; exact h3, mapS_small h7⟩

def turnBeside (ll mm : List (List D)) : Option (List (List D)) := if prog ll && prog mm && prog (ll ++ mm) then some (ll ++ mm) else none
theorem turnBeside_bad {ll mm : List (List D)} (h : prog ll = false) : turnBeside ll mm = none := by simp [turnBeside, h]
theorem turnBeside_bad2 {ll mm : List (List D)} (h : prog mm = false) : turnBeside ll mm = none := by simp [turnBeside, h]
theorem turnBeside_bad3 {ll mm : List (List D)} (h : prog (ll ++ mm) = false) : turnBeside ll mm = none := by simp [turnBeside, h]
theorem turnBeside_yes {ll mm : List (List D)} (h : prog ll = true) (h2 : prog mm = true) (h3 : prog (ll ++ mm) = true) : turnBeside ll mm = some (ll ++ mm) := by simp [turnBeside, h, h2, h3]
theorem turnBeside_some {ll mm nn : List (List D)} (h : turnBeside ll mm = some nn) : prog ll = true ∧ prog mm = true ∧ prog (ll ++ mm) = true ∧ nn = ll ++ mm := by
  unfold turnBeside at h
  split at h
  · rename_i hc
    simp only [Bool.and_eq_true] at hc
    exact ⟨hc.1.1, hc.1.2, hc.2, (Option.some.inj h).symm⟩
  · cases h
theorem turnBeside_small {ll mm nn : List (List D)} (e : (turnBeside ll mm).getD [] = nn) : nn.length ≤ 3 ∧ ∀ t ∈ nn, t.length ≤ 7 := by
  cases h : turnBeside ll mm with
  | none => rw [h] at e; subst e; simp
  | some x =>
    rw [h] at e
    obtain rfl : x = nn := e
    obtain ⟨_, _, h1, rfl⟩ := turnBeside_some h
    exact prog_le h1
end M
end Go.Proofs.Ytdpoiabohkkbcaa

namespace Go.Proofs.Ytdpoiabohkkbcaa
namespace M

/-- Where the numbers of a row stand: those of the first so many. -/
def backUpto (row : List Int) : Nat → List Int
  | 0 => List.replicate row.length 0
  | k + 1 => (backUpto row k).set (row.getD k 0).toNat k
def back (row : List Int) : List Int := backUpto row row.length
theorem backUpto_len (row : List Int) (k : Nat) : (backUpto row k).length = row.length := by
  induction k with
  | zero => simp [backUpto]
  | succ k ih => rw [backUpto, List.length_set, ih]
theorem back_len (row : List Int) : (back row).length = row.length := backUpto_len _ _

theorem three_of {x : Int} (h : 0 ≤ x ∧ x < 3) : x = 0 ∨ x = 1 ∨ x = 2 := by omega
theorem four_of {x : Int} (h : 0 ≤ x ∧ x < 4) : x = 0 ∨ x = 1 ∨ x = 2 ∨ x = 3 := by omega
theorem row0 {row : List Int} (h : rowN row 0 = true) : row = [] := List.length_eq_zero_iff.1 (rowN_len h)
theorem row1 {row : List Int} (h : rowN row 1 = true) : row = [0] := by
  match row, rowN_len h, rowN_mem h with
  | [x], _, hm => have := hm x (by simp); congr 1; omega
theorem row2 {row : List Int} (h : rowN row 2 = true) : row = [0, 1] ∨ row = [1, 0] := by
  match row, rowN_len h, rowN_mem h, h with
  | [x, y], _, hm, h =>
    have hx := hm x (by simp)
    have hy := hm y (by simp)
    have hx : x = 0 ∨ x = 1 := by omega
    have hy : y = 0 ∨ y = 1 := by omega
    clear hm
    rcases hx with rfl | rfl <;> rcases hy with rfl | rfl <;> first | (exact absurd h (by decide)) | simp
theorem row3 {row : List Int} (h : rowN row 3 = true) : row = [0, 1, 2] ∨ row = [0, 2, 1] ∨ row = [1, 0, 2] ∨ row = [1, 2, 0] ∨ row = [2, 0, 1] ∨ row = [2, 1, 0] := by
  match row, rowN_len h, rowN_mem h, h with
  | [x, y, z], _, hm, h =>
    have hx := three_of (hm x (by simp))
    have hy := three_of (hm y (by simp))
    have hz := three_of (hm z (by simp))
    clear hm
    rcases hx with rfl | rfl | rfl <;> rcases hy with rfl | rfl | rfl <;> rcases hz with rfl | rfl | rfl <;> first | (exact absurd h (by decide)) | simp
theorem row4 {row : List Int} (h : rowN row 4 = true) (h0 : row.getD 0 0 = 0) : row = [0, 1, 2, 3] ∨ row = [0, 1, 3, 2] ∨ row = [0, 2, 1, 3] ∨ row = [0, 2, 3, 1] ∨ row = [0, 3, 1, 2] ∨ row = [0, 3, 2, 1] := by
  match row, rowN_len h, rowN_mem h, h, h0 with
  | [x, y, z, u], _, hm, h, h0 =>
    have hy := four_of (hm y (by simp))
    have hz := four_of (hm z (by simp))
    have hu := four_of (hm u (by simp))
    obtain rfl : x = 0 := by simpa using h0
    clear hm h0
    rcases hy with rfl | rfl | rfl | rfl <;> rcases hz with rfl | rfl | rfl | rfl <;> rcases hu with rfl | rfl | rfl | rfl <;> first | (exact absurd h (by decide)) | simp

/-- How many steps there are. -/
def stp : List (List D) → Nat
  | [] => 0
  | t :: l => t.length + stp l
theorem from_iff (l : List (List D)) : ∀ a u : Nat, progFrom a u l = true ↔ (∀ t ∈ l, thread t = true) ∧ a + stp l ≤ 14 ∧ u + tot uses l ≤ 6 := by
  induction l with
  | nil => intro a u; simp [progFrom, stp, tot]
  | cons t l ih =>
    intro a u
    by_cases hb : thread t = true
    · simp only [progFrom, hb, if_true, ih, stp, tot, List.mem_cons, forall_eq_or_imp, true_and]
      constructor
      · rintro ⟨h1, h2, h3⟩; exact ⟨h1, by omega, by omega⟩
      · rintro ⟨h1, h2, h3⟩; exact ⟨h1, by omega, by omega⟩
    · simp [progFrom, hb]
theorem prog_iff (l : List (List D)) : prog l = true ↔ l.length ≤ 3 ∧ (∀ t ∈ l, thread t = true) ∧ stp l ≤ 14 ∧ tot uses l ≤ 6 := by
  simp only [prog, Bool.and_eq_true, decide_eq_true_eq, from_iff, Nat.zero_add]

theorem threads_back {ll : List (List D)} {row : List Int} (h : prog ll = true) (hr : rowN row ll.length = true) :
    prog (pick [] row ll) = true ∧ tot reads (pick [] row ll) = tot reads ll ∧ rowN (back row) (pick [] row ll).length = true ∧ pick [] (back row) (pick [] row ll) = ll := by
  have h3 := (prog_le h).1
  rw [prog_iff] at h ⊢
  obtain ⟨_, h1, h2, h4⟩ := h
  match ll, h3, hr with
  | [], _, hr => obtain rfl := row0 hr; exact ⟨by simp [pick, stp, tot], rfl, rfl, rfl⟩
  | [a], _, hr =>
    obtain rfl := row1 hr
    exact ⟨⟨by simp [pick], by simpa [pick] using h1, by simpa [pick] using h2, by simpa [pick] using h4⟩, rfl, by rw [pick_len]; decide, rfl⟩
  | [a, b], _, hr =>
    simp only [List.mem_cons, List.not_mem_nil, or_false, forall_eq_or_imp, forall_eq] at h1
    simp only [stp, tot] at h2 h4
    rcases row2 hr with rfl | rfl <;> refine ⟨⟨by simp [pick], by simp [pick, h1], by simp [pick, stp]; omega, by simp [pick, tot]; omega⟩, by simp [pick, tot]; try omega, by rw [pick_len]; decide, rfl⟩
  | [a, b, c], _, hr =>
    simp only [List.mem_cons, List.not_mem_nil, or_false, forall_eq_or_imp, forall_eq] at h1
    simp only [stp, tot] at h2 h4
    rcases row3 hr with rfl | rfl | rfl | rfl | rfl | rfl <;> refine ⟨⟨by simp [pick], by simp [pick, h1], by simp [pick, stp]; omega, by simp [pick, tot]; omega⟩, by simp [pick, tot]; try omega, by rw [pick_len]; decide, rfl⟩

/-- A change of steps that leaves all that is asked of a program. -/
structure Kept (f : D → D) (P : D → Prop) : Prop where
  ok : ∀ d, P d → doOk d = true → doOk (f d) = true
  r : ∀ d, reads (f d).k = reads d.k
  u : ∀ d, uses (f d).k = uses d.k
  k3 : ∀ d, ((f d).k == 3) = (d.k == 3)
  k7 : ∀ d, ((f d).k == 7) = (d.k == 7)
  k8 : ∀ d, ((f d).k == 8) = (d.k == 8)
  k9 : ∀ d, ((f d).k == 9) = (d.k == 9)
theorem Kept.copies {f : D → D} {P : D → Prop} (h : Kept f P) (l : List D) : ∀ r, copies r (l.map f) = copies r l := by
  induction l with
  | nil => intro r; rfl
  | cons d l ih => intro r; simp only [List.map_cons, M.copies, h.k3, h.r, ih]
theorem Kept.readers {f : D → D} {P : D → Prop} (h : Kept f P) (l : List D) : ∀ i, readers i (l.map f) = readers i l := by
  induction l with
  | nil => intro i; rfl
  | cons d l ih => intro i; simp only [List.map_cons, M.readers, h.k7, h.k8, h.k9, ih]
theorem Kept.cnt {f : D → D} {P : D → Prop} (h : Kept f P) (l : List D) : cnt uses (l.map f) = cnt uses l := by
  induction l with
  | nil => rfl
  | cons d l ih => rw [List.map_cons, cnt_cons, cnt_cons, h.u, ih]
theorem Kept.cntR {f : D → D} {P : D → Prop} (h : Kept f P) (l : List D) : M.cnt M.reads (l.map f) = M.cnt M.reads l := by
  induction l with
  | nil => rfl
  | cons d l ih => rw [List.map_cons, cnt_cons, cnt_cons, h.r, ih]
theorem Kept.tot {f : D → D} {P : D → Prop} (h : Kept f P) (ll : List (List D)) : tot uses (mapS f ll) = tot uses ll ∧ tot M.reads (mapS f ll) = tot M.reads ll ∧ stp (mapS f ll) = stp ll := by
  induction ll with
  | nil => exact ⟨rfl, rfl, rfl⟩
  | cons t ll ih =>
    obtain ⟨i1, i2, i3⟩ := ih
    unfold mapS at i1 i2 i3 ⊢
    simp only [List.map_cons, M.tot, stp, h.cnt, h.cntR, i1, i2, i3, List.length_map]
    simp
theorem Kept.thread {f : D → D} {P : D → Prop} (h : Kept f P) {t : List D} (ht : thread t = true) (hP : ∀ d ∈ t, P d) : M.thread (t.map f) = true := by
  simp only [M.thread, form, Bool.and_eq_true, decide_eq_true_eq, List.all_eq_true, List.length_map, h.copies, h.readers] at ht ⊢
  refine ⟨⟨⟨ht.1.1.1, fun d hd => ?_⟩, ht.1.2⟩, ht.2⟩
  obtain ⟨x, hx, rfl⟩ := List.mem_map.1 hd
  exact h.ok x (hP x hx) (ht.1.1.2 x hx)
theorem Kept.prog {f : D → D} {P : D → Prop} (h : Kept f P) {ll : List (List D)} (hp : prog ll = true) (hP : ∀ t ∈ ll, ∀ d ∈ t, P d) : M.prog (mapS f ll) = true := by
  rw [prog_iff] at hp ⊢
  obtain ⟨h1, h2, h3, h4⟩ := hp
  obtain ⟨k1, _, k3⟩ := h.tot ll
  refine ⟨by rw [mapS_len]; exact h1, fun t ht => ?_, by rw [k3]; exact h3, by rw [k1]; exact h4⟩
  obtain ⟨x, hx, rfl⟩ := List.mem_map.1 ht
  exact h.thread (h2 x hx) (hP x hx)

theorem place_kept {row : List Int} (hr : rowN row 3 = true) : Kept (placeF row) (fun _ => True) := by
  have hk : ∀ d, (placeF row d).k = d.k := fun d => by unfold placeF; split <;> rfl
  refine ⟨fun d _ hd => ?_, fun d => by rw [hk], fun d => by rw [hk], fun d => by rw [hk], fun d => by rw [hk], fun d => by rw [hk], fun d => by rw [hk]⟩
  unfold placeF
  cases hu : uses d.k
  · simpa using hd
  · simp only [if_true]
    simp only [doOk, placeOk, hu, if_true, Bool.and_eq_true, decide_eq_true_eq] at hd ⊢
    refine ⟨⟨hd.1.1, ?_⟩, hd.2⟩
    have hl := rowN_len hr
    rw [getD_get (by omega)]
    exact rowN_get hr _ (by omega)
theorem place_back {row : List Int} (hr : rowN row 3 = true) {d : D} (hd : doOk d = true) : placeF (back row) (placeF row d) = d := by
  obtain ⟨k, p, v⟩ := d
  unfold placeF
  cases hu : uses k
  · simp [hu]
  · simp only [if_true, hu]
    simp only [doOk, placeOk, hu, if_true, Bool.and_eq_true, decide_eq_true_eq] at hd
    have hp := three_of hd.1.2
    clear hd
    rcases row3 hr with rfl | rfl | rfl | rfl | rfl | rfl <;> rcases hp with rfl | rfl | rfl <;> rfl
theorem back_row3 {row : List Int} (hr : rowN row 3 = true) : rowN (back row) 3 = true := by
  rcases row3 hr with rfl | rfl | rfl | rfl | rfl | rfl <;> decide
theorem mapS_back {f g : D → D} {ll : List (List D)} (h : ∀ t ∈ ll, ∀ d ∈ t, g (f d) = d) : mapS g (mapS f ll) = ll := by
  unfold mapS
  rw [List.map_map]
  conv => rhs; rw [← List.map_id ll]
  apply List.map_congr_left
  intro t ht
  simp only [Function.comp, List.map_map, id]
  conv => rhs; rw [← List.map_id t]
  apply List.map_congr_left
  intro d hd
  exact h t ht d hd
theorem prog_dos {ll : List (List D)} (h : prog ll = true) : ∀ t ∈ ll, ∀ d ∈ t, doOk d = true := by
  intro t ht d hd
  have := ((prog_iff ll).1 h).2.1 t ht
  simp only [M.thread, form, Bool.and_eq_true, List.all_eq_true] at this
  exact this.1.1.2 d hd
theorem places_back {ll : List (List D)} {row : List Int} (h : prog ll = true) (hr : rowN row 3 = true) : prog (mapS (placeF row) ll) = true ∧ rowN (back row) 3 = true ∧ mapS (placeF (back row)) (mapS (placeF row) ll) = ll :=
  ⟨(place_kept hr).prog h (fun _ _ _ _ => trivial), back_row3 hr, mapS_back fun t ht d hd => place_back hr (prog_dos h t ht d hd)⟩

theorem val_in {row : List Int} (hr : rowN row 4 = true) (h0 : row.getD 0 0 = 0) {k v : Int} (h : valOk k v = true) : 0 ≤ v ∧ v < 4 ∧ valOk k (row.getD v.toNat 0) = true ∧ (back row).getD (row.getD v.toNat 0).toNat 0 = v := by
  unfold valOk at h ⊢
  cases hs : stores k
  · simp only [hs, Bool.false_eq_true, if_false, beq_iff_eq] at h ⊢
    subst h
    rcases row4 hr h0 with rfl | rfl | rfl | rfl | rfl | rfl <;> decide
  · simp only [hs, if_true, Bool.and_eq_true, decide_eq_true_eq] at h ⊢
    have hv : v = 1 ∨ v = 2 ∨ v = 3 := by omega
    clear h
    rcases row4 hr h0 with rfl | rfl | rfl | rfl | rfl | rfl <;> rcases hv with rfl | rfl | rfl <;> decide
theorem val_kept {row : List Int} (hr : rowN row 4 = true) (h0 : row.getD 0 0 = 0) : Kept (valF row) (fun _ => True) := by
  refine ⟨fun d _ hd => ?_, fun d => rfl, fun d => rfl, fun d => rfl, fun d => rfl, fun d => rfl, fun d => rfl⟩
  simp only [doOk, valF, Bool.and_eq_true] at hd ⊢
  exact ⟨hd.1, (val_in hr h0 hd.2).2.2.1⟩
theorem val_back {row : List Int} (hr : rowN row 4 = true) (h0 : row.getD 0 0 = 0) {d : D} (hd : doOk d = true) : valF (back row) (valF row d) = d := by
  obtain ⟨k, p, v⟩ := d
  simp only [doOk, Bool.and_eq_true] at hd
  have := (val_in hr h0 hd.2).2.2.2
  simp only [valF]
  congr 1
theorem back_row4 {row : List Int} (hr : rowN row 4 = true) (h0 : row.getD 0 0 = 0) : rowN (back row) 4 = true ∧ (back row).getD 0 0 = 0 := by
  rcases row4 hr h0 with rfl | rfl | rfl | rfl | rfl | rfl <;> decide
theorem vals_back {ll : List (List D)} {row : List Int} (h : prog ll = true) (hr : rowN row 4 = true) (h0 : row.getD 0 0 = 0) : prog (mapS (valF row) ll) = true ∧ rowN (back row) 4 = true ∧ (back row).getD 0 0 = 0 ∧ mapS (valF (back row)) (mapS (valF row) ll) = ll :=
  ⟨(val_kept hr h0).prog h (fun _ _ _ _ => trivial), (back_row4 hr h0).1, (back_row4 hr h0).2, mapS_back fun t ht d hd => val_back hr h0 (prog_dos h t ht d hd)⟩
end M
end Go.Proofs.Ytdpoiabohkkbcaa

namespace Go.Proofs.Ytdpoiabohkkbcaa
open Go.RowKit

theorem own_more {w : World} {B : Nat} {v : Value} {l m : List M.D} {d : M.D} (hm : m = l ++ [d]) (h : w.ownsRow B 55 3 v (l.length + 1) (flat l ++ [.int .i64 d.k, .int .i64 d.p, .int .i64 d.v])) : w.ownsRow B 55 3 v m.length (flat m) := by
  subst hm; rw [flat_append, List.length_append]; exact h
theorem cells_new3 (w : World) (x y z : Value) (t : TypeId) (N : Nat) (hN : N = w.heap.size) : ∀ (j : Nat) (u : Value), [x, y, z][j]? = some u → (w.alloc (.cells #[x, y, z] t)).cell? ((⟨N, 0, none⟩ : Addr).add j) = some u := by
  subst hN
  intro j u hj
  match j, hj with
  | 0, hj => simp at hj; subst hj; simp [Addr.add]
  | 1, hj => simp at hj; subst hj; simp [Addr.add]
  | 2, hj => simp at hj; subst hj; simp [Addr.add]
theorem one3 (x y z : Int) : ∀ u ∈ [Value.int .i64 x, Value.int .i64 y, Value.int .i64 z], u.oneCell' = true := by
  intro u hu; simp at hu; rcases hu with rfl | rfl | rfl <;> rfl
theorem nums_snoc (l : List Int) (x : Int) : nums (l ++ [x]) = nums l ++ [.int .i64 x] := by simp [nums]
theorem cells_new1 (w : World) (x : Value) (t : TypeId) (N : Nat) (hN : N = w.heap.size) : ∀ (j : Nat) (u : Value), [x][j]? = some u → (w.alloc (.cells #[x] t)).cell? ((⟨N, 0, none⟩ : Addr).add j) = some u := by
  subst hN
  intro j u hj
  match j, hj with
  | 0, hj => simp at hj; subst hj; simp [Addr.add]
theorem one1 (x : Int) : ∀ u ∈ [Value.int .i64 x], u.oneCell' = true := by intro u hu; simp at hu; subst hu; rfl
/-- Steps that lie somewhere are the cells of their row. -/
theorem DoS.flat_cells {w : World} {b o : Nat} {l : List M.D} (h : Row w b o l) : ∀ (j : Nat) (u : Value), (flat l)[j]? = some u → w.cell? ((⟨b, o, none⟩ : Addr).add j) = some u := by
  intro j u hj
  have hjl := (List.getElem?_eq_some_iff.1 hj).1
  rw [flat_length] at hjl
  rw [Go.WideShapes.add_plain]
  have hi : j / 3 < l.length := by omega
  obtain ⟨f0, f1, f2⟩ := flat_get l (j / 3) hi
  have hr := h (j / 3) hi
  have hm : j % 3 = 0 ∨ j % 3 = 1 ∨ j % 3 = 2 := by omega
  rcases hm with hm | hm | hm
  · have e : j = j / 3 * 3 := by omega
    rw [e, f0] at hj
    rw [← Option.some.inj hj, show o + j = o + j / 3 * 3 from by omega]
    exact hr.k
  · have e : j = j / 3 * 3 + 1 := by omega
    rw [e, f1] at hj
    rw [← Option.some.inj hj, show o + j = o + j / 3 * 3 + 1 from by omega]
    exact hr.p
  · have e : j = j / 3 * 3 + 2 := by omega
    rw [e, f2] at hj
    rw [← Option.some.inj hj, show o + j = o + j / 3 * 3 + 2 from by omega]
    exact hr.v
theorem flat_one' (l : List M.D) : ∀ y ∈ flat l, y.oneCell' = true := by
  induction l with
  | nil => intro y hy; cases hy
  | cons d l ih =>
    intro y hy
    simp only [flat, List.mem_cons] at hy
    rcases hy with rfl | rfl | rfl | hy
    · rfl
    · rfl
    · rfl
    · exact ih y hy

end Go.Proofs.Ytdpoiabohkkbcaa

namespace Go.Proofs.Ytdpoiabohkkbcaa
open Go.RowKit

theorem M.mod_hit (n : Nat) (h1 : 1 ≤ n) (h3 : n ≤ 3) (x : Nat) (hx : x < n) : ∃ j, 21 ≤ j ∧ j < 21 + n ∧ j % n = x := by
  match n, h1, h3 with
  | 1, _, _ => exact ⟨21, by omega, by omega, by omega⟩
  | 2, _, _ =>
    rcases (show x = 0 ∨ x = 1 by omega) with rfl | rfl
    · exact ⟨22, by omega, by omega, rfl⟩
    · exact ⟨21, by omega, by omega, rfl⟩
  | 3, _, _ =>
    rcases (show x = 0 ∨ x = 1 ∨ x = 2 by omega) with rfl | rfl | rfl
    · exact ⟨21, by omega, by omega, rfl⟩
    · exact ⟨22, by omega, by omega, rfl⟩
    · exact ⟨23, by omega, by omega, rfl⟩
theorem M.row_full {n i : Nat} {gs : List Int} (h1 : 1 ≤ n) (h3 : n ≤ 3) (h : ∀ j, 21 ≤ j → j < i → ((j % n : Nat) : Int) ∈ gs) (hl : gs.length < n) : i < 21 + n := by
  apply Classical.byContradiction
  intro hi
  have := M.nodupI_le (M.bel_nodup n) (m := gs) (fun x hx => by
    obtain ⟨hx0, hx1⟩ := M.bel_mem.1 hx
    obtain ⟨j, j1, j2, j3⟩ := M.mod_hit n h1 h3 x.toNat (by omega)
    have := h j j1 (by omega)
    rw [j3] at this
    rw [show ((x.toNat : Nat) : Int) = x by omega] at this
    exact this)
  rw [M.bel_len] at this
  omega
theorem M.has_mem {l : List Int} {v : Int} (h : M.has l v = true) : v ∈ l := by simpa [M.has] using h

set_option maxHeartbeats 1000000 in
set_option maxRecDepth 100000 in
theorem l71Row_any (B rb p n : Nat) (w : World) (hn1 : 1 ≤ n) (hn3 : n ≤ 3) (hp : p ≤ 100000) (h : Rdr w B rb p) :
    Calls Try.prog 43 #[.pointer (some ⟨rb, 0, none⟩), .int .i64 n] w fun e w' => ∃ v, e = .returned v ∧ ∃ gs : List Int, w'.ownsRow w.heap.size 3 1 v gs.length (nums gs) ∧ gs.length ≤ 4 ∧ ∃ p' : Nat, p' ≤ p + 40 ∧ Rdr w' B rb p' ∧ But rb w w' := by
  obtain ⟨i0, hi, hz0, hz1, hz2⟩ := info_parts Try.infoInt
  have hlt := h.lt
  have hE := World.ownsRow_made (base := w.heap.size) (e := 3) (size := 1) w #[] 0 (Nat.le_refl _) (Nat.zero_le _) rfl
  have hgeB := h.ge
  have hn0 : ¬ ((n : Int) = 0) := by omega
  go_enter Try.func43, Try.ntmps43
  go_wp2_with fail
  go_loopw [5, 6] (fun s5 s6 wr => ∃ (i : Nat) (gs : List Int), s6 = .int .i64 i ∧ i ≤ 24 ∧ gs.length ≤ n ∧ Hid (∀ j, 21 ≤ j → j < i → ((j % n : Nat) : Int) ∈ gs) ∧ wr.ownsRow w.heap.size 3 1 s5 gs.length (nums gs) ∧ Rdr wr B rb (p + i) ∧ But rb w wr) (fun _ s6 _ => 30 - (intOf s6).toNat)
  case atStart => exact ⟨0, [], rfl, Nat.zero_le _, Nat.zero_le _, fun j h1 h2 => by omega, hE, h.alloc _, (But.refl _ _).alloc _⟩
  case round =>
    obtain ⟨i, gs, rfl, hi24, hgn, HJ, hown, hr, hbut⟩ := hrel
    clear hE
    have hbs := hbut.size
    have hge := own_ge hown
    obtain ⟨ga, gg, gc, rfl, hI, hgg, _⟩ := own_nums hown
    by_cases hlt2 : gs.length < n
    · have hi21 := M.row_full hn1 hn3 HJ.out hlt2
      have hlt' : (gs.length : Int) < n := by omega
      go_wp2_with fail
      refine (pick_rdr B rb (p + i) n wr (by omega) (by omega) (by omega) hr).mono ?_
      rintro e w4 ⟨q, rfl, q0, q1, hr4, hb4⟩
      have hb34 := hbut.trans hb4
      have hown4 := ownsRow_but hown hb4 hlt
      have hI4 : IntS w4 ga gg 0 gs := by
        obtain ⟨a2, g2, c2, e2, i2, _, _⟩ := own_nums hown4
        obtain ⟨rfl, _, rfl⟩ := Value.slice.inj e2
        refine ⟨hI.addr, fun k hk => ?_⟩
        have e3 := hI.addr (by omega)
        have e4 := i2.addr (by omega)
        rw [e3] at e4
        simp at e4
        rw [e4]
        exact i2.row k hk
      have hbs4 := hb34.size
      have CH := fun k => l12Has_any ga gg 0 gc gs k w4 (by omega) hI4
      have FIN : Hid (∀ (k : Int), (21 ≤ i → k = ((i % n : Nat) : Int)) → (M.has gs k = true → ∀ j, 21 ≤ j → j < i + 1 → ((j % n : Nat) : Int) ∈ gs) ∧ (∀ j, 21 ≤ j → j < i + 1 → ((j % n : Nat) : Int) ∈ gs ++ [k])) := by
        intro k hk
        refine ⟨fun hh j h1 h2 => ?_, fun j h1 h2 => ?_⟩
        · by_cases e : j = i
          · subst e; rw [← hk h1]; exact M.has_mem hh
          · exact HJ.out j h1 (by omega)
        · by_cases e : j = i
          · subst e; rw [← hk h1]; simp
          · exact List.mem_append_left _ (HJ.out j h1 (by omega))
      clear HJ hown hI hr hbut hb4
      by_cases h20 : 20 < i
      · have h20' : (20 : Int) < i := by omega
        have htm : Int.tmod (i : Int) n = ((i % n : Nat) : Int) := by rw [Int.tmod_eq_emod_of_nonneg (by omega)]; exact (Int.natCast_emod _ _).symm
        have hmod : i % n < n := Nat.mod_lt _ (by omega)
        obtain ⟨f1, f2⟩ := FIN.out ((i % n : Nat) : Int) (fun _ => rfl)
        have F1 : Hid (M.has gs ((i % n : Nat) : Int) = true → ∀ j, 21 ≤ j → j < i + 1 → ((j % n : Nat) : Int) ∈ gs) := f1
        have F2 : Hid (∀ j, 21 ≤ j → j < i + 1 → ((j % n : Nat) : Int) ∈ gs ++ [((i % n : Nat) : Int)]) := f2
        clear f1 f2 FIN
        generalize i % n = m at *
        have CHm := CH (m : Int)
        clear CH
        cases hh : M.has gs (m : Int)
        · rw [hh] at CHm
          go_wp2_with (first | (go_at_call 53; refine CHm.mono ?_; rintro e w5 ⟨rfl, rfl⟩) | (at_builtin; refine wpList_append_own _ rfl (.tmp 27) (.tmp 29) 32 rfl _ 3 i0 _ 1 8 Try.underlying32 hi hz0 hz1 hz2 rfl (by decide) _ _ _ rfl (hown4.alloc _) ⟨w5.heap.size, 0, none⟩ 1 1 [.int .i64 m] rfl rfl (cells_new1 _ _ _ _ (by simp)) (one1 _) (by unfold maxLen; omega) (by omega) (by simp; omega) ?_))
          intro v6 w6 hown6 hg6 _
          have hb6 := (hb34.alloc _).grown hg6 (fun k hk => by have := hge k hk; omega)
          have hr6 := ((hr4.alloc (.cells #[.int .i64 m] 3)).grown hg6 (fun k hk => by have := hge k hk; omega))
          have hown7 : w6.ownsRow w.heap.size 3 1 v6 (gs ++ [(m : Int)]).length (nums (gs ++ [(m : Int)])) := by rw [nums_snoc, List.length_append]; exact hown6
          clear hown6 hg6
          go_wp2_with fail
          exact ⟨⟨i + 1, gs ++ [(m : Int)], by go_num, by omega, by simp; omega, F2, hown7, hr6, hb6⟩, by simp [intOf]; omega⟩
        · rw [hh] at CHm
          go_wp2_with (first | (go_at_call 53; refine CHm.mono ?_; rintro e w5 ⟨rfl, rfl⟩))
          exact ⟨⟨i + 1, gs, by go_num, by omega, hgn, F1.out hh, hown4, hr4, hb34⟩, by simp [intOf]; omega⟩
      · have h20' : ¬ (20 : Int) < i := by omega
        obtain ⟨f1, f2⟩ := FIN.out q (fun h => by omega)
        have F1 : Hid (M.has gs q = true → ∀ j, 21 ≤ j → j < i + 1 → ((j % n : Nat) : Int) ∈ gs) := f1
        have F2 : Hid (∀ j, 21 ≤ j → j < i + 1 → ((j % n : Nat) : Int) ∈ gs ++ [q]) := f2
        clear f1 f2 FIN
        have CHm := CH q
        clear CH
        cases hh : M.has gs q
        · rw [hh] at CHm
          go_wp2_with (first | (go_at_call 53; refine CHm.mono ?_; rintro e w5 ⟨rfl, rfl⟩) | (at_builtin; refine wpList_append_own _ rfl (.tmp 27) (.tmp 29) 32 rfl _ 3 i0 _ 1 8 Try.underlying32 hi hz0 hz1 hz2 rfl (by decide) _ _ _ rfl (hown4.alloc _) ⟨w5.heap.size, 0, none⟩ 1 1 [.int .i64 q] rfl rfl (cells_new1 _ _ _ _ (by simp)) (one1 _) (by unfold maxLen; omega) (by omega) (by simp; omega) ?_))
          intro v6 w6 hown6 hg6 _
          have hb6 := (hb34.alloc _).grown hg6 (fun k hk => by have := hge k hk; omega)
          have hr6 := ((hr4.alloc (.cells #[.int .i64 q] 3)).grown hg6 (fun k hk => by have := hge k hk; omega))
          have hown7 : w6.ownsRow w.heap.size 3 1 v6 (gs ++ [q]).length (nums (gs ++ [q])) := by rw [nums_snoc, List.length_append]; exact hown6
          clear hown6 hg6
          go_wp2_with fail
          exact ⟨⟨i + 1, gs ++ [q], by go_num, by omega, by simp; omega, F2, hown7, hr6, hb6⟩, by simp [intOf]; omega⟩
        · rw [hh] at CHm
          go_wp2_with (first | (go_at_call 53; refine CHm.mono ?_; rintro e w5 ⟨rfl, rfl⟩))
          exact ⟨⟨i + 1, gs, by go_num, by omega, hgn, F1.out hh, hown4, hr4, hb34⟩, by simp [intOf]; omega⟩
    · have hlt' : ¬ (gs.length : Int) < n := by omega
      clear HJ
      go_wp2_with fail
      refine (pick_rdr B rb (p + i) 20 wr (by omega) (by omega) (by omega) hr).mono ?_
      rintro e w4 ⟨q, rfl, q0, q1, hr4, hb4⟩
      have hb34 := hbut.trans hb4
      have hown4 := ownsRow_but hown hb4 hlt
      have hbs4 := hb34.size
      clear hown hr hbut hb4 hI
      by_cases hq : q = 0
      · subst hq
        go_wp2_with fail
        refine (pick_rdr B rb (p + i + 1) 3 w4 (by omega) (by omega) (by omega) hr4).mono ?_
        rintro e w5 ⟨r, rfl, r0, r1, hr5, hb5⟩
        have hb45 := hb34.trans hb5
        have hown5 := ownsRow_but hown4 hb5 hlt
        have hbs5 := hb45.size
        clear hown4 hb34 hb5 hr4
        go_wp2_with (at_builtin; refine wpList_append_own _ rfl (.tmp 34) (.tmp 37) 32 rfl _ 3 i0 _ 1 8 Try.underlying32 hi hz0 hz1 hz2 rfl (by decide) _ _ _ rfl (hown5.alloc _) ⟨w5.heap.size, 0, none⟩ 1 1 [.int .i64 r] rfl rfl (cells_new1 _ _ _ _ (by simp)) (one1 _) (by unfold maxLen; omega) (by omega) (by simp; omega) ?_)
        intro v6 w6 hown6 hg6 _
        have hb6 := (hb45.alloc _).grown hg6 (fun k hk => by have := hge k hk; omega)
        have hr6 := ((hr5.alloc (.cells #[.int .i64 r] 3)).grown hg6 (fun k hk => by have := hge k hk; omega))
        have hown7 : w6.ownsRow w.heap.size 3 1 v6 (gs ++ [r]).length (nums (gs ++ [r])) := by rw [nums_snoc, List.length_append]; exact hown6
        clear hown6 hg6
        go_wp2_with fail
        go_ret
        exact ⟨_, rfl, gs ++ [r], hown7, by simp; omega, p + i + 1 + 1, by omega, hr6, hb6⟩
      · have hq' : (q == 0) = false := by simpa using hq
        go_wp2_with fail
        go_ret
        exact ⟨_, rfl, gs, hown4, by omega, p + i + 1, by omega, hr4, hb34⟩

end Go.Proofs.Ytdpoiabohkkbcaa

namespace Go.Proofs.Ytdpoiabohkkbcaa
open Go.RowKit

theorem Slot1.bl' {w w' : World} {b : Nat} {x : Value} (h : Slot1 w b x) (hb : Below w.heap.size w w') : Slot1 w' b x :=
  ⟨(hb.cell (p := ⟨b, 0, none⟩) h.lt).trans h.c, (hb.frozen (p := ⟨b, 0, none⟩) h.lt).trans h.fz⟩
end Go.Proofs.Ytdpoiabohkkbcaa

namespace Go.Proofs.Ytdpoiabohkkbcaa
open Go.RowKit

set_option maxHeartbeats 1000000 in
set_option maxRecDepth 100000 in
theorem numbersBelow_any (n : Nat) (w : World) (hn : n ≤ 1000) :
    Calls Try.prog 47 #[.int .i64 n] w fun e w' => ∃ v, e = .returned v ∧ w'.ownsRow w.heap.size 3 1 v (M.bel n).length (nums (M.bel n)) ∧ Below w.heap.size w w' := by
  obtain ⟨i0, hi, hz0, hz1, hz2⟩ := info_parts Try.infoInt
  go_enter Try.func47, Try.ntmps47
  go_wp2_with fail
  go_loopw [3, 6] (fun s3 s6 wr => ∃ k : Nat, s6 = .int .i64 k ∧ k ≤ n ∧ wr.ownsRow w.heap.size 3 1 s3 (M.bel k).length (nums (M.bel k)) ∧ Below w.heap.size w wr) (fun _ s6 _ => n - (intOf s6).toNat)
  case atStart => exact ⟨0, rfl, Nat.zero_le _, World.ownsRow_nil _ _ _ _, Below.refl _ _⟩
  case round =>
    obtain ⟨k, rfl, hk, hown, hbel⟩ := hrel
    by_cases hkn : k < n
    · have hkn' : (k : Int) < n := by omega
      have HB : Hid (M.bel (k + 1) = M.bel k ++ [(k : Int)]) := M.bel_succ k
      have hbl := M.bel_len k
      have hbs := hbel.size
      generalize M.bel k = l at *
      have hl : l.length ≤ 1000 := by omega
      clear hbl
      go_wp2_with (at_builtin; refine wpList_append_own _ rfl (.tmp 9) (.tmp 11) 32 rfl _ 3 i0 _ 1 8 Try.underlying32 hi hz0 hz1 hz2 rfl (by decide) _ _ _ rfl (hown.alloc _) ⟨wr.heap.size, 0, none⟩ 1 1 [.int .i64 k] rfl rfl (cells_new1 _ _ _ _ (by simp)) (one1 _) (by unfold maxLen; omega) (by omega) (by simp; omega) ?_)
      intro v3 w3 hown3 hg3 _
      have hb3 : Below _ _ w3 := below_grown (hbel.trans ((below1 wr _).mono hbel.size)) hg3 (own_ge hown) (by simp; omega)
      have hown4 : w3.ownsRow w.heap.size 3 1 v3 (M.bel (k + 1)).length (nums (M.bel (k + 1))) := by rw [HB.out, nums_snoc, List.length_append]; exact hown3
      clear hown3 hg3 hown
      go_wp2_with fail
      exact ⟨⟨k + 1, by go_num, by omega, hown4, hb3⟩, by simp [intOf]; omega⟩
    · obtain rfl : k = n := by omega
      have hkn' : ¬ (k : Int) < k := by omega
      go_wp2_with fail
      go_ret
      exact ⟨_, rfl, hown, hbel⟩

set_option maxHeartbeats 400000 in
set_option maxRecDepth 100000 in
theorem rowOf_any (a : Option Addr) (b o c : Nat) (row : List Int) (a2 : Option Addr) (b2 o2 c2 : Nat) (evs : List Int) (w : World) (hl : row.length ≤ 1048576) (hl2 : evs.length ≤ 1048576) (h : IntS w a b o row) (h2 : IntS w a2 b2 o2 evs) :
    Calls Try.prog 67 #[.slice a row.length c, .slice a2 evs.length c2] w fun e w' => e = .returned (.bool (M.rowOf row evs)) ∧ w' = w := by
  by_cases hln : row.length = evs.length
  · have HF : Hid (M.rowOf row evs = evs.all (fun v => M.has row v)) := M.rowOf_same hln
    have hq : ((row.length : Int) != evs.length) = false := by simp; omega
    have HL : Hid (row.length = evs.length) := hln
    clear hln
    go_enter Try.func67, Try.ntmps67
    go_wp2_with fail
    go_loopw [14] (fun s14 wr => ∃ n : Nat, s14 = .int .i64 n ∧ n ≤ evs.length ∧ Hid (evs.all (fun v => M.has row v) = (evs.drop n).all (fun v => M.has row v)) ∧ wr = w) (fun s14 _ => evs.length - (intOf s14).toNat)
    case atStart => exact ⟨0, rfl, Nat.zero_le _, by show _ = _; rfl, rfl⟩
    case round =>
      obtain ⟨n, rfl, hn, HA, rfl⟩ := hrel
      by_cases hlt : n < evs.length
      · obtain ⟨rfl⟩ := h2.addr (by omega)
        have hx := h2.row n hlt
        have HS : Hid (evs.all (fun v => M.has row v) = (M.has row evs[n] && (evs.drop (n + 1)).all (fun v => M.has row v))) := M.rowAll_step HA.out hlt
        clear HA
        generalize evs[n] = y at *
        have i1 : (n : Int) < evs.length := by omega
        cases hh : M.has row y
        · go_wp2_with (go_at_call 84; refine (containsI_any a b o c row y _ hl h).mono ?_; rw [hh]; rintro e w' ⟨rfl, rfl⟩)
          go_ret
          exact ⟨ret_bool (by rw [HF.out, HS.out, hh]; rfl), rfl⟩
        · go_wp2_with (go_at_call 84; refine (containsI_any a b o c row y _ hl h).mono ?_; rw [hh]; rintro e w' ⟨rfl, rfl⟩)
          exact ⟨⟨n + 1, by go_num, by omega, by show _ = _; rw [HS.out, hh]; rfl, trivial⟩, by simp [intOf]; omega⟩
      · go_wp2_with fail
        go_ret
        exact ⟨ret_bool (by rw [HF.out, HA.out, List.drop_eq_nil_of_le (by omega)]; rfl), rfl⟩
  · have hln' : ((row.length : Int) == evs.length) = false := by simp; omega
    go_enter Try.func67, Try.ntmps67
    go_wp2_with fail
    go_ret
    exact ⟨ret_bool (M.rowOf_short hln).symm, rfl⟩

end Go.Proofs.Ytdpoiabohkkbcaa

namespace Go.Proofs.Ytdpoiabohkkbcaa
open Go.RowKit

/-- What a row makes of things: nothing, if it is none. -/
def M.turned {α : Type} (z : α) (row : List Int) (l : List α) : List α := if M.rowN row l.length then M.pick z row l else []
theorem M.turned_no {α : Type} {z : α} {row : List Int} {l : List α} (h : M.rowN row l.length = false) : M.turned z row l = [] := by simp [M.turned, h]
theorem M.turned_yes {α : Type} {z : α} {row : List Int} {l : List α} (h : M.rowN row l.length = true) : M.turned z row l = M.pick z row l := by simp [M.turned, h]

/-- Values that are threads. -/
def Thx (w : World) (vs : List Value) (ll : List (List M.D)) : Prop := vs.length = ll.length ∧ ∀ i (h1 : i < ll.length) (h2 : i < vs.length), ∃ a' b' o' c', vs[i] = .slice a' ll[i].length c' ∧ DoS w a' b' o' ll[i]
theorem Thx.nil (w : World) : Thx w [] [] := ⟨rfl, fun _ h => absurd h (Nat.not_lt_zero _)⟩
theorem Thx.below {w w' : World} {vs : List Value} {ll : List (List M.D)} {B : Nat} (h : Thx w vs ll) (hb : Below B w w') (hB : w.heap.size ≤ B) : Thx w' vs ll :=
  ⟨h.1, fun i h1 h2 => by obtain ⟨a', b', o', c', e, hd⟩ := h.2 i h1 h2; exact ⟨a', b', o', c', e, hd.below hb hB⟩⟩
theorem Thx.snoc {w : World} {vs : List Value} {ll : List (List M.D)} {a : Option Addr} {b o c : Nat} {l : List M.D} (h : Thx w vs ll) (hd : DoS w a b o l) : Thx w (vs ++ [.slice a l.length c]) (ll ++ [l]) := by
  have hl := h.1
  refine ⟨by simp [hl], fun i h1 h2 => ?_⟩
  by_cases hi : i < ll.length
  · rw [List.getElem_append_left (by omega), List.getElem_append_left hi]
    exact h.2 i hi (by omega)
  · have : i = ll.length := by simp at h1; omega
    subst this
    have e1 : (ll ++ [l])[ll.length] = l := by simp
    have e2 : (vs ++ [Value.slice a l.length c])[ll.length] = .slice a l.length c := by
      rw [List.getElem_append_right (by omega)]
      simp [hl]
    rw [e1, e2]
    exact ⟨a, b, o, c, rfl, hd⟩
theorem Thx.ss {w : World} {B : Nat} {v : Value} {vs : List Value} {ll : List (List M.D)} (h : Thx w vs ll) (ho : w.ownsRow B 58 1 v ll.length vs) : ∃ a g c, v = .slice a ll.length c ∧ DoSS w a g 0 ll := by
  have hl := h.1
  rcases ho.2 with ⟨hv, hn⟩ | ⟨g, cap, cur, hv, hg, hh, r⟩
  · have : ll = [] := List.length_eq_zero_iff.1 hn
    subst this
    exact ⟨none, 0, 0, hv, ⟨fun h => absurd h (Nat.lt_irrefl _), fun i hi => absurd hi (Nat.not_lt_zero _)⟩⟩
  · refine ⟨_, g, cap, hv, ⟨fun _ => rfl, fun i hi => ?_⟩⟩
    have hc := ho.cells (g := g) (by rw [hv]; rfl) i vs[i] (List.getElem?_eq_getElem (by omega))
    rw [Go.WideShapes.add_plain] at hc
    obtain ⟨a', b', o', c', e, hd⟩ := h.2 i hi (by omega)
    rw [e] at hc
    exact ⟨a', b', o', c', hc, hd⟩

set_option maxHeartbeats 1000000 in
set_option maxRecDepth 100000 in
theorem turnI_any (a : Option Addr) (b o c : Nat) (row : List Int) (a2 : Option Addr) (b2 o2 c2 : Nat) (l : List Int) (w : World) (hl : row.length ≤ 1048576) (hl2 : l.length ≤ 1000) (h : IntS w a b o row) (h2 : IntS w a2 b2 o2 l) :
    Calls Try.prog 46 #[.slice a row.length c, .slice a2 l.length c2] w fun e w' => ∃ v, e = .returned (.tuple #[v, .bool (M.rowN row l.length)]) ∧ w'.ownsRow w.heap.size 3 1 v (M.turned 0 row l).length (nums (M.turned 0 row l)) ∧ Below w.heap.size w w' := by
  obtain ⟨i0, hi, hz0, hz1, hz2⟩ := info_parts Try.infoInt
  go_enter Try.func46, Try.ntmps46
  go_wp2_with fail
  refine (numbersBelow_any l.length w hl2).mono ?_
  rintro e w1 ⟨v1, rfl, hown1, b1⟩
  obtain ⟨a1, g1, c1, rfl, hI1, _, _⟩ := own_nums hown1
  have hbl : (M.bel l.length).length ≤ 1048576 := by rw [M.bel_len]; omega
  have CR := rowOf_any a b o c row a1 g1 0 c1 (M.bel l.length) w1 hl hbl (h.below b1 (Nat.le_refl _)) hI1
  change Calls _ _ _ _ (fun e w' => e = .returned (.bool (M.rowN row l.length)) ∧ _) at CR
  clear hown1 hI1 hbl
  generalize (M.bel l.length).length = bl at *
  cases hr : M.rowN row l.length
  · rw [hr] at CR
    go_wp2_with (first | (go_at_call 67; refine CR.mono ?_; rintro e w2 ⟨rfl, rfl⟩))
    exact bodyPost_ret (v := .tuple #[.slice none 0 0, .bool false]) (by simp [results, Try.results46, go_sem]) rfl ⟨_, by rw [hr], by rw [M.turned_no hr]; exact World.ownsRow_nil _ _ _ _, b1⟩
  · rw [hr] at CR
    have HR : Hid (M.rowN row l.length = true) := hr
    clear hr
    go_wp2_with (first | (go_at_call 67; refine CR.mono ?_; rintro e w2 ⟨rfl, rfl⟩))
    go_loopw [6, 17] (fun s6 s17 wr => ∃ k : Nat, s17 = .int .i64 k ∧ k ≤ row.length ∧ wr.ownsRow w.heap.size 3 1 s6 (M.pick 0 (row.take k) l).length (nums (M.pick 0 (row.take k) l)) ∧ Below w.heap.size w wr) (fun _ s17 _ => row.length - (intOf s17).toNat)
    case atStart => exact ⟨0, rfl, Nat.zero_le _, World.ownsRow_nil _ _ _ _, b1⟩
    case round =>
      obtain ⟨k, rfl, hk, hown, hbel⟩ := hrel
      by_cases hkn : k < row.length
      · have hkn' : (k : Int) < row.length := by omega
        obtain ⟨rfl⟩ := h.addr (by omega)
        have x1 := (h.below hbel (Nat.le_refl _)).row k hkn
        have HB : Hid (M.pick 0 (row.take (k + 1)) l = M.pick 0 (row.take k) l ++ [l.getD row[k].toNat 0]) := M.pick_take 0 row l k hkn
        obtain ⟨r0, r1⟩ := M.rowN_get HR.out k hkn
        obtain ⟨rfl⟩ := h2.addr (by omega)
        generalize row[k] = y at *
        obtain ⟨j, rfl⟩ : ∃ j : Nat, y = j := ⟨y.toNat, by omega⟩
        have hj : j < l.length := by omega
        have x2 := (h2.below hbel (Nat.le_refl _)).row j hj
        have HB2 : Hid (M.pick 0 (row.take (k + 1)) l = M.pick 0 (row.take k) l ++ [l[j]]) := by show _ = _; rw [HB.out]; congr 2; exact M.getD_get hj
        clear HB
        have hpl : (M.pick 0 (row.take k) l).length ≤ 1048576 := by rw [M.pick_len]; simp; omega
        have hbs := hbel.size
        generalize l[j] = z at *
        generalize M.pick 0 (row.take k) l = m at *
        go_wp2_with (at_builtin; refine wpList_append_own _ rfl (.tmp 21) (.tmp 26) 32 rfl _ 3 i0 _ 1 8 Try.underlying32 hi hz0 hz1 hz2 rfl (by decide) _ _ _ rfl (hown.alloc _) ⟨wr.heap.size, 0, none⟩ 1 1 [.int .i64 z] rfl rfl (cells_new1 _ _ _ _ (by simp)) (one1 _) (by unfold maxLen; omega) (by omega) (by simp; omega) ?_)
        intro v3 w3 hown3 hg3 _
        have hb3 : Below _ _ w3 := below_grown (hbel.trans ((below1 wr _).mono hbel.size)) hg3 (own_ge hown) (by simp; omega)
        have hown4 : w3.ownsRow w.heap.size 3 1 v3 (M.pick 0 (row.take (k + 1)) l).length (nums (M.pick 0 (row.take (k + 1)) l)) := by rw [HB2.out, nums_snoc, List.length_append]; exact hown3
        clear hown3 hg3 hown
        go_wp2_with fail
        exact ⟨⟨k + 1, by go_num, by omega, hown4, hb3⟩, by simp [intOf]; omega⟩
      · have htk : row.take k = row := List.take_of_length_le (by omega)
        rw [htk] at hown
        have hkn' : ¬ (k : Int) < row.length := by omega
        go_wp2_with fail
        exact bodyPost_ret (v := .tuple #[u6, .bool true]) (by simp [results, Try.results46, go_sem]) rfl ⟨_, by rw [HR.out], by rw [M.turned_yes HR.out]; exact hown, hbel⟩

theorem Try.infoTh : (Try.prog.info? 58).map (fun i => (i.zero, i.size, i.bytes)) = some (some (.slice none 0 0), 1, 24) := by kernel_rfl
theorem own_sl1 {w : World} {B : Nat} {e : TypeId} {size : Nat} {v : Value} {n : Nat} {xs : List Value} (h : w.ownsRow B e size v n xs) : v.oneCell' = true := by
  rcases h.2 with ⟨hv, h0⟩ | ⟨g, cap, cur, hv, _⟩ <;> rw [hv] <;> rfl

set_option maxHeartbeats 1000000 in
set_option maxRecDepth 100000 in
theorem turnT_any (a : Option Addr) (b o c : Nat) (row : List Int) (a2 : Option Addr) (b2 o2 c2 : Nat) (ll : List (List M.D)) (w : World) (hl : row.length ≤ 1048576) (hl2 : ll.length ≤ 1000) (h : IntS w a b o row) (h2 : DoSS w a2 b2 o2 ll) :
    Calls Try.prog 44 #[.slice a row.length c, .slice a2 ll.length c2] w fun e w' => ∃ v, e = .returned (.tuple #[v, .bool (M.rowN row ll.length)]) ∧ (∃ a', (∃ c', v = .slice a' (M.turned [] row ll).length c') ∧ ∃ g', DoSS w' a' g' 0 (M.turned [] row ll)) ∧ Below w.heap.size w w' := by
  obtain ⟨i0, hi, hz0, hz1, hz2⟩ := info_parts Try.infoTh
  go_enter Try.func44, Try.ntmps44
  go_wp2_with fail
  refine (numbersBelow_any ll.length w hl2).mono ?_
  rintro e w1 ⟨v1, rfl, hown1, b1⟩
  obtain ⟨a1, g1, c1, rfl, hI1, _, _⟩ := own_nums hown1
  have hbl : (M.bel ll.length).length ≤ 1048576 := by rw [M.bel_len]; omega
  have CR := rowOf_any a b o c row a1 g1 0 c1 (M.bel ll.length) w1 hl hbl (h.below b1 (Nat.le_refl _)) hI1
  change Calls _ _ _ _ (fun e w' => e = .returned (.bool (M.rowN row ll.length)) ∧ _) at CR
  clear hown1 hI1 hbl
  generalize (M.bel ll.length).length = bl at *
  cases hr : M.rowN row ll.length
  · rw [hr] at CR
    go_wp2_with (first | (go_at_call 67; refine CR.mono ?_; rintro e w2 ⟨rfl, rfl⟩))
    exact bodyPost_ret (v := .tuple #[.slice none 0 0, .bool false]) (by simp [results, Try.results44, go_sem]) rfl ⟨_, by rw [hr], ⟨none, ⟨0, by rw [M.turned_no hr, List.length_nil]⟩, 0, by rw [M.turned_no hr]; exact ⟨fun h => absurd h (Nat.lt_irrefl _), fun i hi => absurd hi (Nat.not_lt_zero _)⟩⟩, b1⟩
  · rw [hr] at CR
    have HR : Hid (M.rowN row ll.length = true) := hr
    clear hr
    go_wp2_with (first | (go_at_call 67; refine CR.mono ?_; rintro e w2 ⟨rfl, rfl⟩))
    go_loopw [6, 17] (fun s6 s17 wr => ∃ (k : Nat) (vs : List Value), s17 = .int .i64 k ∧ k ≤ row.length ∧ wr.ownsRow w.heap.size 58 1 s6 (M.pick [] (row.take k) ll).length vs ∧ Thx w vs (M.pick [] (row.take k) ll) ∧ Below w.heap.size w wr) (fun _ s17 _ => row.length - (intOf s17).toNat)
    case atStart => exact ⟨0, [], rfl, Nat.zero_le _, World.ownsRow_nil _ _ _ _, Thx.nil _, b1⟩
    case round =>
      obtain ⟨k, vs, rfl, hk, hown, hT, hbel⟩ := hrel
      by_cases hkn : k < row.length
      · have hkn' : (k : Int) < row.length := by omega
        obtain ⟨rfl⟩ := h.addr (by omega)
        have x1 := (h.below hbel (Nat.le_refl _)).row k hkn
        have HB : Hid (M.pick [] (row.take (k + 1)) ll = M.pick [] (row.take k) ll ++ [ll.getD row[k].toNat []]) := M.pick_take [] row ll k hkn
        obtain ⟨r0, r1⟩ := M.rowN_get HR.out k hkn
        obtain ⟨rfl⟩ := h2.addr (by omega)
        generalize row[k] = y at *
        obtain ⟨j, rfl⟩ : ∃ j : Nat, y = j := ⟨y.toNat, by omega⟩
        have hj : j < ll.length := by omega
        obtain ⟨a', b', o', c', hc, hd⟩ := h2.row j hj
        have x2 := (hbel.cell (p := ⟨b2, o2 + j, none⟩) (World.block_lt_of_cell? _ _ hc)).trans hc
        have HB2 : Hid (M.pick [] (row.take (k + 1)) ll = M.pick [] (row.take k) ll ++ [ll[j]]) := by show _ = _; rw [HB.out]; congr 2; exact M.getD_get hj
        clear HB hc
        have hpl : (M.pick [] (row.take k) ll).length ≤ 1048576 := by rw [M.pick_len]; simp; omega
        have hbs := hbel.size
        generalize ll[j] = z at *
        generalize M.pick [] (row.take k) ll = m at *
        go_wp2_with (at_builtin; refine wpList_append_own _ rfl (.tmp 21) (.tmp 26) 23 rfl _ 58 i0 _ 1 24 Try.underlying23 hi hz0 hz1 hz2 rfl (by decide) _ _ _ rfl (hown.alloc _) ⟨wr.heap.size, 0, none⟩ 1 1 [.slice a' z.length c'] rfl rfl (cells_new1 _ _ _ _ (by simp)) (by simp [Value.oneCell']) (by unfold maxLen; omega) (by omega) (by simp; omega) ?_)
        intro v3 w3 hown3 hg3 _
        have hb3 : Below _ _ w3 := below_grown (hbel.trans ((below1 wr _).mono hbel.size)) hg3 (own_ge hown) (by simp; omega)
        have hown4 : w3.ownsRow w.heap.size 58 1 v3 (M.pick [] (row.take (k + 1)) ll).length (vs ++ [.slice a' z.length c']) := by rw [HB2.out, List.length_append]; exact hown3
        have hT4 : Thx w (vs ++ [.slice a' z.length c']) (M.pick [] (row.take (k + 1)) ll) := by rw [HB2.out]; exact hT.snoc hd
        clear hown3 hg3 hown
        go_wp2_with fail
        exact ⟨⟨k + 1, _, by go_num, by omega, hown4, hT4, hb3⟩, by simp [intOf]; omega⟩
      · have htk : row.take k = row := List.take_of_length_le (by omega)
        rw [htk] at hown hT
        have hkn' : ¬ (k : Int) < row.length := by omega
        obtain ⟨a', g', c', rfl, hs⟩ := (hT.below hbel (Nat.le_refl _)).ss hown
        go_wp2_with fail
        exact bodyPost_ret (v := .tuple #[.slice a' (M.pick [] row ll).length c', .bool true]) (by simp [results, Try.results44, go_sem]) rfl ⟨_, by rw [HR.out], ⟨a', ⟨c', by rw [M.turned_yes HR.out]⟩, g', by rw [M.turned_yes HR.out]; exact hs⟩, hbel⟩

end Go.Proofs.Ytdpoiabohkkbcaa

namespace Go.Proofs.Ytdpoiabohkkbcaa
open Go.RowKit

/-- A call that is wanted, met by its contract. -/
theorem step_goV {P : Program} {ops : Array Oper} {o : Oper} {a : Act} {w : World} {K : Act → World → Prop} {Q : Exit → Act → World → Prop} {E : Prop}
    (hw : Region.wanted o (yielded ops a.tmps) = true) (d : Option Tmp) (hd : o.dst = d) (f : FuncId) (os : Array Operand) (ts : Array TypeId) (hop : o.op = Op.call { callee := Callee.value (Operand.func f), args := os, argTypes := ts })
    (vals : Array Value) (hv : os.map a.eval = vals) (he : ∀ args w, (callFunc f args).run P w = .ok (.enter f args) w) {R : Ending → World → Prop} (hc : Calls P f vals w R)
    (hK : ∀ e w', R e w' → ∃ v, e = .returned v ∧ K (a.put d v) w') :
    if Region.wanted o (yielded ops a.tmps) = true then Oper.wp P o a w K Q else E := by
  subst hd
  rw [if_pos hw]
  subst hv
  have hr : (execOp a.eval o).run P w = .ok (.enter f (os.map a.eval)) w := by
    simp [execOp, hop, resolve, invoke, Act.eval, Deferred.ofValue, he]
  unfold Oper.wp
  rw [hr, Oper.upon_enter]
  refine hc.mono fun e w' h => ?_
  obtain ⟨v, rfl, hk⟩ := hK e w' h
  exact hk
theorem run_append_nil0 {P : Program} (w : World) (t ty e : TypeId) (i : TypeInfo) (ht : P.underlying t = some (.slice e)) (hi : P.info? e = some i) (a : Option Addr) (c : Nat) :
    (Builtin.append_ #[t, t] ty #[.slice none 0 0, .slice a 0 c]).run P w = .ok (.slice none 0 0) w := by
  cases a
  · simp [Builtin.append_, run_underlying ht, sizeOf, typeInfo, hi, Builtin.lenOf, Builtin.firstCells]
  · simp [Builtin.append_, run_underlying ht, sizeOf, typeInfo, hi, Builtin.lenOf, Builtin.firstCells, loadCells, loadCellsFrom]
theorem wpList_append_nil0 {P : Program} {w : World} {ops : Array Oper} {rest : List Oper} {o : Oper} {a : Act} {Q : Exit → Act → World → Prop} (hgd : o.guard = none) (s x : Operand) (t : TypeId)
    (ho : o.op = .call { callee := .builtin .append, args := #[s, x], argTypes := #[t, t] }) (e : TypeId) (i : TypeInfo) (ht : P.underlying t = some (.slice e)) (hi : P.info? e = some i)
    (hs : a.eval s = .slice none 0 0) (b : Option Addr) (c : Nat) (hx : a.eval x = .slice b 0 c)
    (h : wpList P ops Q rest (a.put o.dst (.slice none 0 0)) w) : wpList P ops Q (o :: rest) a w := by
  refine wpList_plain hgd fun K hK => ?_
  have hrun := run_append_nil0 (P := P) w t o.type e i ht hi b c
  unfold Oper.wp
  simp [execOp, ho, resolve, invoke, builtin, hs, hx, hrun, Result.andThen]
  exact hK _ _ h

theorem own_slx {w : World} {B : Nat} {e : TypeId} {size : Nat} {v : Value} {n : Nat} {xs : List Value} (h : w.ownsRow B e size v n xs) : ∃ a c, v = .slice a n c := by
  rcases h.2 with ⟨hv, h0⟩ | ⟨g, cap, cur, hv, _⟩
  · exact ⟨none, 0, by rw [hv, h0]⟩
  · exact ⟨_, cap, hv⟩

set_option maxHeartbeats 1000000 in
theorem newListD_any (a : Option Addr) (b o c : Nat) (l : List M.D) (w : World) (hl : l.length ≤ 1048576) (h : DoS w a b o l) :
    Calls Try.prog 68 #[.slice a l.length c] w fun e w' => ∃ v, e = .returned v ∧ w'.ownsRow w.heap.size 55 3 v l.length (flat l) ∧ Below w.heap.size w w' := by
  obtain ⟨i0, hi, hz0, hz1, hz2⟩ := info_parts Try.info55
  rcases Nat.eq_zero_or_pos l.length with h0 | hpos
  · have hl0 : l = [] := List.length_eq_zero_iff.1 h0
    subst hl0
    rw [List.length_nil]
    go_enter Try.func68, Try.ntmps68
    go_wp2_with (at_builtin; refine wpList_append_nil0 rfl (.const (.slice none 0 0)) (.tmp 3) 58 rfl 55 i0 Try.underlying58 hi rfl a c rfl ?_)
    go_wp2_with fail
    go_ret
    exact ⟨_, rfl, World.ownsRow_nil _ _ _ _, Below.refl _ _⟩
  · obtain ⟨rfl⟩ := h.addr hpos
    go_enter Try.func68, Try.ntmps68
    go_wp2_with (at_builtin; refine wpList_append_lies _ rfl (.const (.slice none 0 0)) (.tmp 3) 58 rfl w.heap.size 55 i0 _ 3 24 Try.underlying58 hi hz0 hz1 hz2 rfl (by decide) _ 0 [] rfl (World.ownsRow_nil _ _ _ _) ⟨b, o, none⟩ l.length c (flat l) rfl (flat_length l) (DoS.flat_cells h.row) (flat_one' l) hpos (by unfold maxLen; omega) (by omega) (Nat.le_refl _) w.heap.size rfl ?_)
    intro g cap w1 hown hg hat hlt
    have hb : Below w.heap.size w w1 := ⟨hg.os, hg.tape, hg.output, hg.size, fun k hk => hg.block k hk (fun e => by simp [Value.ownBlock] at e)⟩
    have hown' : w1.ownsRow w.heap.size 55 3 (.slice (some ⟨g, 0, none⟩) l.length cap) l.length (flat l) := by simpa using hown
    go_wp2_with fail
    go_ret
    exact ⟨_, by first | rfl | simp, hown', hb⟩

set_option maxHeartbeats 4000000 in
set_option maxRecDepth 100000 in
set_option linter.unusedSimpArgs false in
theorem copyProg_any (a : Option Addr) (b o c : Nat) (ll : List (List M.D)) (w : World) (hl : ll.length ≤ 1048576) (hls : ∀ t ∈ ll, t.length ≤ 1048576) (h : DoSS w a b o ll) :
    Calls Try.prog 45 #[.agg #[.slice a ll.length c]] w fun e w' => ∃ v, e = .returned (.agg #[v]) ∧ (∃ vs, Rdg w' w.heap.size v ll vs) ∧ Below w.heap.size w w' := by
  obtain ⟨i0, hi, hz0, hz1, hz2⟩ := info_parts Try.info58
  go_enter Try.func45, Try.ntmps45
  go_wp2_with fail
  go_loopw [9] (fun s9 wr => ∃ (n : Nat) (v : Value) (vs : List Value), s9 = .int .i64 n ∧ n ≤ ll.length ∧ Rdg wr (w.heap.size + 3) v (ll.take n) vs ∧ Slot1 wr (w.heap.size + 1 + 1) v ∧ Slot1 wr (w.heap.size + 1) (.slice none 0 0) ∧ Below w.heap.size w wr) (fun s9 _ => ll.length - (intOf s9).toNat)
  case atStart =>
    refine ⟨0, .slice none 0 0, [], rfl, Nat.zero_le _, by simpa using Rdg.nil _ _, ?_, ?_, below3 _ _ _ _⟩
    · have := Slot1.new ((w.alloc (.cells #[.slice a ll.length c] 25)).alloc (.cells #[.slice none 0 0] 25)) (.slice none 0 0) 25
      rwa [World.size_alloc, World.size_alloc] at this
    · have := (Slot1.new (w.alloc (.cells #[.slice a ll.length c] 25)) (.slice none 0 0) 25).bl' (below1 _ (.cells #[.slice none 0 0] 25))
      rwa [World.size_alloc] at this
  case round =>
    obtain ⟨n, v, vs, rfl, hn, hR, hP, hQ, hbel⟩ := hrel
    by_cases hlt : n < ll.length
    · obtain ⟨rfl⟩ := h.addr (by omega)
      obtain ⟨a', b', o', c', hc, hd⟩ := (h.below hbel (Nat.le_refl _)).row n hlt
      have ht := hls _ (List.getElem_mem hlt)
      have HW : Hid (ll.take (n + 1) = ll.take n ++ [ll[n]]) := List.take_succ_eq_append_getElem hlt
      have hmm : (ll.take n).length ≤ 1048576 := by simp; omega
      generalize ll[n] = t at *
      generalize ll.take n = mm at *
      have i1 : (n : Int) < ll.length := by omega
      obtain ⟨av, gv, cv, rfl, _⟩ := hR.b.ss
      have x0 := hP.c
      have lP := hP.lt
      have F4 : Hid (∀ (w4 : World) (v4 : Value), w4.ownsRow wr.heap.size 55 3 v4 t.length (flat t) → Below wr.heap.size wr.drew w4 → ∃ a4 c4, v4 = .slice a4 t.length c4 ∧ Below wr.heap.size wr w4 ∧ Slot1 w4 (w.heap.size + 1 + 1) (.slice av mm.length cv) ∧ Rdg w4 (w.heap.size + 3) (.slice av mm.length cv) mm vs) := by
        intro w4 v4 ho hb
        obtain ⟨a4, c4, e⟩ := own_slx ho
        have b4 : Below wr.heap.size wr w4 := (Below.refl _ _).drew.trans hb
        exact ⟨a4, c4, e, b4, hP.bl' b4, hR.below b4⟩
      have F5 : Hid (∀ (w4 : World) (a4 : Option Addr) (c4 : Nat), Below wr.heap.size wr w4 → w4.ownsRow wr.heap.size 55 3 (.slice a4 t.length c4) t.length (flat t) → ∀ (g5 cap5 : Nat) (w5 : World), w5.ownsRow (w.heap.size + 3) 58 1 (.slice (some ⟨g5, 0, none⟩) (mm.length + 1) cap5) (mm.length + 1) (vs ++ [.slice a4 t.length c4]) → (w4.alloc (.cells #[.slice a4 t.length c4] 58)).grownBy w5 (Value.slice av mm.length cv).ownBlock → Below w.heap.size w w5 ∧ Slot1 w5 (w.heap.size + 1 + 1) (.slice av mm.length cv) ∧ Slot1 w5 (w.heap.size + 1) (.slice none 0 0) ∧ Rdg w5 (w.heap.size + 3) (.slice (some ⟨g5, 0, none⟩) (mm.length + 1) cap5) (mm ++ [t]) (vs ++ [.slice a4 t.length c4])) := by
        intro w4 a4 c4 b4 hx4 g5 cap5 w5 ho hg
        have hal := below1 w4 (.cells #[.slice a4 t.length c4] 58)
        have hge := own_ge hR.b.outer
        have b4a := b4.trans (hal.mono b4.size)
        have bwa := hbel.trans (b4a.mono hbel.size)
        refine ⟨below_grown bwa hg (fun j hj => by have := hge j hj; omega) bwa.size, (hP.bl' b4a).apart hg (fun e => by have := hge _ e; omega), (hQ.bl' b4a).apart hg (fun e => by have := hge _ e; omega), ((hR.below b4).below hal).snocT (ownsRow_mono (ownsRow_below hx4 hal) (by omega)) (fun i hi j hj e => ?_) ho hg⟩
        have h1 := ((hR.b.inner i (by have := hR.b.len; omega) hi).lt j hj).2
        have h2 := own_ge hx4 j e
        omega
      have CN := newListD_any a' b' o' c' t wr.drew ht (hd.below (Below.refl wr.heap.size wr).drew (Nat.le_refl _))
      go_wp2_with fail
      refine wp_region_held_drew (S := fun w' => Below w.heap.size w w') (by kernel_rfl) hbel.drew (fun hH => ?_)
      refine takeD 0 (some 13) (.pointer (some ⟨w.heap.size + 1 + 1, 0, none⟩)) hH rfl rfl (by kernel_rfl) (by kernel_rfl) (by kernel_rfl) (fun _ _ _ h => h) (Or.inl ⟨by rfl, by intro w' hSw; go_simp⟩) ?_
      simp only [Act.put, List.setIfInBounds_toArray, List.set_cons_zero, List.set_cons_succ]
      refine takeD 2 (some 15) (.slice a' t.length c') hH rfl rfl (by kernel_rfl) (by kernel_rfl) (by kernel_rfl) (fun _ _ _ h => h) (Or.inl ⟨by rfl, by intro w' hSw; go_simp⟩) ?_
      simp only [Act.put, List.setIfInBounds_toArray, List.set_cons_zero, List.set_cons_succ]
      refine wpAnyH_ready (rs := [1, 3]) (by kernel_rfl) (by simp) ?_
      refine AllReadyH.cons rfl (fun K' hK => ?_) (AllReadyH.cons rfl (fun K' hK => ?_) AllReadyH.nil)
      · have xx := x0
        rw [if_pos (by rfl)]
        go_simp
        refine hK.out _ _ hH (fun _ => ?_)
        clear hK K' xx
        refine wpAnyH_ready (rs := [3]) (by kernel_rfl) (by simp) ?_
        refine AllReadyH.cons rfl (fun K' hK => ?_) AllReadyH.nil
        refine step_goV (by rfl) (some 16) rfl 68 #[.tmp 15] _ rfl #[.slice a' t.length c'] (by simp [Act.eval]) (fun _ _ => rfl) CN ?_
        rintro e w4 ⟨v4, rfl, ho4, hb4⟩
        obtain ⟨a4, c4, rfl, b4, hS4, hR4⟩ := F4.out w4 v4 ho4 hb4
        refine ⟨_, rfl, ?_⟩
        simp only [Act.put, List.setIfInBounds_toArray, List.set_cons_zero, List.set_cons_succ]
        refine hK.out _ _ (hbel.trans (b4.mono hbel.size)) (fun hH4 => ?_)
        clear hK K'
        have hS4a := hS4.bl' (below1 w4 (.cells #[.slice a4 t.length c4] 58))
        have S4a : Below w.heap.size w (w4.alloc (.cells #[.slice a4 t.length c4] 58)) := hH4.alloc hH4.size _
        refine wpAnyH_ready (rs := [4]) (by kernel_rfl) (by simp) ?_
        refine AllReadyH.cons rfl (fun K' hK => ?_) AllReadyH.nil
        rw [if_pos (by rfl)]
        go_simp
        refine hK.out _ _ S4a (fun _ => ?_)
        clear hK K'
        refine wpAnyH_ready (rs := [5]) (by kernel_rfl) (by simp) ?_
        refine AllReadyH.cons rfl (fun K' hK => ?_) AllReadyH.nil
        refine step_append_lies _ (by rfl) (.tmp 14) (.tmp 17) 23 (by rfl) (w.heap.size + 3) 58 i0 _ 1 24 Try.underlying23 hi hz0 hz1 hz2 rfl (by decide) (.slice av mm.length cv) mm.length vs (by rfl) ((hR4.b.outer).alloc _) ⟨w4.heap.size, 0, none⟩ 1 1 [.slice a4 t.length c4] (by rfl) (by rfl) (World.news_of_block (cs := #[.slice a4 t.length c4]) (t := 58) (fr := (0, 0)) (heap_alloc_new w4 _)) (by simp [Value.oneCell']) (by omega) (by unfold maxLen; omega) (by omega) (by have := b4.size; simp; omega) (w4.heap.size + 1) (by simp) ?_
        intro g5 cap5 w5 hown5 hg5 hat5 hlt5
        obtain ⟨b5, hS5, hQ5, hR5⟩ := F5.out w4 a4 c4 b4 ho4 g5 cap5 w5 hown5 hg5
        simp only [Act.put, List.setIfInBounds_toArray, List.set_cons_zero, List.set_cons_succ]
        refine hK.out _ _ b5 (fun hH5 => ?_)
        clear hK K'
        refine takeD 6 (some 19) (.pointer (some ⟨w.heap.size + 1 + 1, 0, none⟩)) hH5 rfl rfl (by kernel_rfl) (by kernel_rfl) (by kernel_rfl) (fun _ _ _ h => h) (Or.inl ⟨by rfl, by intro w' hSw; go_simp⟩) ?_
        simp only [Act.put, List.setIfInBounds_toArray, List.set_cons_zero, List.set_cons_succ]
        refine wpAnyH_ready (rs := [7]) (by kernel_rfl) (by simp) ?_
        refine AllReadyH.cons rfl (fun K' hK => ?_) AllReadyH.nil
        have xc := hS5.c
        have xz := hS5.fz
        rw [if_pos (by rfl)]
        go_simp
        refine hK.out _ _ (b5.setCell (by show w.heap.size ≤ w.heap.size + 1 + 1; omega) _) (fun _ => ?_)
        clear hK K'
        refine wpAnyH_done (by kernel_rfl) ?_ _
        clear xc xz
        go_wp2_with fail
        exact ⟨⟨n + 1, _, _, by go_num, by omega, by rw [HW.out]; exact hR5.far (by omega) _, hS5.set _, hQ5.far (by omega) _, b5.setCell (by show w.heap.size ≤ w.heap.size + 1 + 1; omega) _⟩, by simp [intOf]; omega⟩
      · refine step_goV (by rfl) (some 16) rfl 68 #[.tmp 15] _ rfl #[.slice a' t.length c'] (by simp [Act.eval]) (fun _ _ => rfl) CN ?_
        rintro e w4 ⟨v4, rfl, ho4, hb4⟩
        obtain ⟨a4, c4, rfl, b4, hS4, hR4⟩ := F4.out w4 v4 ho4 hb4
        refine ⟨_, rfl, ?_⟩
        simp only [Act.put, List.setIfInBounds_toArray, List.set_cons_zero, List.set_cons_succ]
        refine hK.out _ _ (hbel.trans (b4.mono hbel.size)) (fun hH4 => ?_)
        clear hK K'
        have hS4a := hS4.bl' (below1 w4 (.cells #[.slice a4 t.length c4] 58))
        have S4a : Below w.heap.size w (w4.alloc (.cells #[.slice a4 t.length c4] 58)) := hH4.alloc hH4.size _
        refine wpAnyH_ready (rs := [1, 4]) (by kernel_rfl) (by simp) ?_
        refine AllReadyH.cons rfl (fun K' hK => ?_) (AllReadyH.cons rfl (fun K' hK => ?_) AllReadyH.nil)
        · have xx := hS4.c
          rw [if_pos (by rfl)]
          go_simp
          refine hK.out _ _ hH4 (fun _ => ?_)
          clear hK K' xx
          refine wpAnyH_ready (rs := [4]) (by kernel_rfl) (by simp) ?_
          refine AllReadyH.cons rfl (fun K' hK => ?_) AllReadyH.nil
          rw [if_pos (by rfl)]
          go_simp
          refine hK.out _ _ S4a (fun _ => ?_)
          clear hK K'
          refine wpAnyH_ready (rs := [5]) (by kernel_rfl) (by simp) ?_
          refine AllReadyH.cons rfl (fun K' hK => ?_) AllReadyH.nil
          refine step_append_lies _ (by rfl) (.tmp 14) (.tmp 17) 23 (by rfl) (w.heap.size + 3) 58 i0 _ 1 24 Try.underlying23 hi hz0 hz1 hz2 rfl (by decide) (.slice av mm.length cv) mm.length vs (by rfl) ((hR4.b.outer).alloc _) ⟨w4.heap.size, 0, none⟩ 1 1 [.slice a4 t.length c4] (by rfl) (by rfl) (World.news_of_block (cs := #[.slice a4 t.length c4]) (t := 58) (fr := (0, 0)) (heap_alloc_new w4 _)) (by simp [Value.oneCell']) (by omega) (by unfold maxLen; omega) (by omega) (by have := b4.size; simp; omega) (w4.heap.size + 1) (by simp) ?_
          intro g5 cap5 w5 hown5 hg5 hat5 hlt5
          obtain ⟨b5, hS5, hQ5, hR5⟩ := F5.out w4 a4 c4 b4 ho4 g5 cap5 w5 hown5 hg5
          simp only [Act.put, List.setIfInBounds_toArray, List.set_cons_zero, List.set_cons_succ]
          refine hK.out _ _ b5 (fun hH5 => ?_)
          clear hK K'
          refine takeD 6 (some 19) (.pointer (some ⟨w.heap.size + 1 + 1, 0, none⟩)) hH5 rfl rfl (by kernel_rfl) (by kernel_rfl) (by kernel_rfl) (fun _ _ _ h => h) (Or.inl ⟨by rfl, by intro w' hSw; go_simp⟩) ?_
          simp only [Act.put, List.setIfInBounds_toArray, List.set_cons_zero, List.set_cons_succ]
          refine wpAnyH_ready (rs := [7]) (by kernel_rfl) (by simp) ?_
          refine AllReadyH.cons rfl (fun K' hK => ?_) AllReadyH.nil
          have xc := hS5.c
          have xz := hS5.fz
          rw [if_pos (by rfl)]
          go_simp
          refine hK.out _ _ (b5.setCell (by show w.heap.size ≤ w.heap.size + 1 + 1; omega) _) (fun _ => ?_)
          clear hK K'
          refine wpAnyH_done (by kernel_rfl) ?_ _
          clear xc xz
          go_wp2_with fail
          exact ⟨⟨n + 1, _, _, by go_num, by omega, by rw [HW.out]; exact hR5.far (by omega) _, hS5.set _, hQ5.far (by omega) _, b5.setCell (by show w.heap.size ≤ w.heap.size + 1 + 1; omega) _⟩, by simp [intOf]; omega⟩
        · rw [if_pos (by rfl)]
          go_simp
          refine hK.out _ _ S4a (fun _ => ?_)
          clear hK K'
          refine wpAnyH_ready (rs := [1]) (by kernel_rfl) (by simp) ?_
          refine AllReadyH.cons rfl (fun K' hK => ?_) AllReadyH.nil
          have xx := hS4a.c
          rw [if_pos (by rfl)]
          go_simp
          refine hK.out _ _ S4a (fun _ => ?_)
          clear hK K' xx
          refine wpAnyH_ready (rs := [5]) (by kernel_rfl) (by simp) ?_
          refine AllReadyH.cons rfl (fun K' hK => ?_) AllReadyH.nil
          refine step_append_lies _ (by rfl) (.tmp 14) (.tmp 17) 23 (by rfl) (w.heap.size + 3) 58 i0 _ 1 24 Try.underlying23 hi hz0 hz1 hz2 rfl (by decide) (.slice av mm.length cv) mm.length vs (by rfl) ((hR4.b.outer).alloc _) ⟨w4.heap.size, 0, none⟩ 1 1 [.slice a4 t.length c4] (by rfl) (by rfl) (World.news_of_block (cs := #[.slice a4 t.length c4]) (t := 58) (fr := (0, 0)) (heap_alloc_new w4 _)) (by simp [Value.oneCell']) (by omega) (by unfold maxLen; omega) (by omega) (by have := b4.size; simp; omega) (w4.heap.size + 1) (by simp) ?_
          intro g5 cap5 w5 hown5 hg5 hat5 hlt5
          obtain ⟨b5, hS5, hQ5, hR5⟩ := F5.out w4 a4 c4 b4 ho4 g5 cap5 w5 hown5 hg5
          simp only [Act.put, List.setIfInBounds_toArray, List.set_cons_zero, List.set_cons_succ]
          refine hK.out _ _ b5 (fun hH5 => ?_)
          clear hK K'
          refine takeD 6 (some 19) (.pointer (some ⟨w.heap.size + 1 + 1, 0, none⟩)) hH5 rfl rfl (by kernel_rfl) (by kernel_rfl) (by kernel_rfl) (fun _ _ _ h => h) (Or.inl ⟨by rfl, by intro w' hSw; go_simp⟩) ?_
          simp only [Act.put, List.setIfInBounds_toArray, List.set_cons_zero, List.set_cons_succ]
          refine wpAnyH_ready (rs := [7]) (by kernel_rfl) (by simp) ?_
          refine AllReadyH.cons rfl (fun K' hK => ?_) AllReadyH.nil
          have xc := hS5.c
          have xz := hS5.fz
          rw [if_pos (by rfl)]
          go_simp
          refine hK.out _ _ (b5.setCell (by show w.heap.size ≤ w.heap.size + 1 + 1; omega) _) (fun _ => ?_)
          clear hK K'
          refine wpAnyH_done (by kernel_rfl) ?_ _
          clear xc xz
          go_wp2_with fail
          exact ⟨⟨n + 1, _, _, by go_num, by omega, by rw [HW.out]; exact hR5.far (by omega) _, hS5.set _, hQ5.far (by omega) _, b5.setCell (by show w.heap.size ≤ w.heap.size + 1 + 1; omega) _⟩, by simp [intOf]; omega⟩
    · have htk : ll.take n = ll := List.take_of_length_le (by omega)
      rw [htk] at hR
      obtain ⟨av, gv, cv, rfl, _⟩ := hR.b.ss
      have hkn' : ¬ (n : Int) < ll.length := by omega
      have p0 := hP.c
      have pf := hP.fz
      have q0 := hQ.c
      have qf := hQ.fz
      have lP := hP.lt
      have lQ := hQ.lt
      have hne : w.heap.size + 1 ≠ w.heap.size + 1 + 1 := by omega
      go_wp2_with fail
      have q1 := (hQ.set (.slice av ll.length cv)).c
      exact bodyPost_ret (v := .agg #[.slice av ll.length cv]) (by simp [results, Try.results45, go_sem, q1]) rfl ⟨_, rfl, ⟨vs, (hR.far (by omega) _).mono (by omega)⟩, hbel.setCell (by show w.heap.size ≤ w.heap.size + 1; omega) _⟩

end Go.Proofs.Ytdpoiabohkkbcaa

namespace Go.Proofs.Ytdpoiabohkkbcaa
open Go.RowKit

theorem IntS.farx {w : World} {a : Option Addr} {b o B i : Nat} {l : List Int} {u : Value} (h : IntS w a b o l) (hb : b ≠ B) : IntS (w.setCell ⟨B, i, none⟩ u) a b o l :=
  ⟨h.addr, fun j hj => by rw [World.cell?_setCell_other _ _ _ _ (fun e => hb (congrArg Addr.block e).symm)]; exact h.row j hj⟩
/-- What is drawn: a program, and a row. -/
structure TnDrawn (w w' : World) (a : Option Addr) (g c : Nat) (mm : List (List M.D)) (ga : Option Addr) (gg : Nat) (gs : List Int) : Prop where
  sn : DoSN (w.heap.size + 1) w' a g 0 mm
  sm : Small mm c
  gi : IntS w' ga gg 0 gs
  gl : gs.length ≤ 20
  bel : Below w.heap.size w w'

set_option maxHeartbeats 1000000 in
set_option maxRecDepth 100000 in
set_option linter.unusedSimpArgs false in
theorem DrawTurnThreads_any (ca : Option Addr) (cb co L C : Nat) (x : Nat → Int) (w : World) (hL : L ≤ C) (had : 0 < L → ca = some ⟨cb, co, none⟩) (hc : ∀ i, i < L → w.cell? ⟨cb, co + i, none⟩ = some (.int .u8 (x i)) ∧ 0 ≤ x i ∧ x i ≤ 255) (hLb : L ≤ 1048576) :
    Calls Try.prog 16 #[.slice ca L C] w fun e w' => ∃ (a : Option Addr) (g c : Nat) (mm : List (List M.D)) (ga : Option Addr) (gg gc : Nat) (gs : List Int), e = .returned (.tuple #[.agg #[.slice a mm.length c], .slice ga gs.length gc]) ∧ TnDrawn w w' a g c mm ga gg gs := by
  go_enter Try.func16, Try.ntmps16
  go_wp2_with fail
  have hb0 := below1 w (.cells #[.slice none 0 0] 25)
  refine (l6Open_any ca cb co L C x _ hL had (fun i hi => ⟨by rw [hb0.cell (p := ⟨cb, co + i, none⟩) (World.block_lt_of_cell? _ _ (hc i hi).1)]; exact (hc i hi).1, (hc i hi).2⟩) hLb).mono ?_
  rintro e w1 ⟨rfl, hr1, hb1⟩
  simp only [World.size_alloc] at hr1 hb1 ⊢
  have hb1w : Below w.heap.size w w1 := hb0.trans (hb1.mono (by omega))
  have hS1 := (Slot1.new w (.slice none 0 0) 25).but (But.of (rb := w.heap.size + 1) (by simpa only [World.size_alloc] using hb1)) (by omega)
  have hlt1 := hr1.lt
  clear hc had hb0 hb1
  go_wp2_with fail
  refine (l71Any_any _ (w.heap.size + 1) 0 _ (by omega) hr1).mono ?_
  rintro e w2 ⟨a, g, c, mm, rfl, hsn, hsm, p2, hp2, hr2, hb2⟩
  have hS2 := hS1.but hb2 (by omega)
  have bw2 := But.below hb1w hb2 (by omega)
  have hl2 : w1.heap.size ≤ w2.heap.size := hb2.size
  have hsn2 := hsn.mono (show w.heap.size + 1 + 1 ≤ w1.heap.size + 1 by omega)
  have bA := (But.refl (w.heap.size + 1) w2).alloc (.cells #[.slice a mm.length c] 25)
  have hSA := hS2.but bA (by omega)
  have hrA := hr2.alloc (.cells #[.slice a mm.length c] 25)
  have hPA := Slot1.new w2 (.slice a mm.length c) 25
  have hsnA := hsn2.but bA (by omega)
  have bwA : Below w.heap.size w (w2.alloc (.cells #[.slice a mm.length c] 25)) := But.below bw2 bA (by omega)
  have hszA : (w2.alloc (.cells #[.slice a mm.length c] 25)).heap.size = w2.heap.size + 1 := by simp
  clear hS1 hS2 hb2 bA hr1 hr2 hsn hsn2 hb1w bw2
  go_wp2_with fail
  generalize w2.alloc (.cells #[.slice a mm.length c] 25) = WA at *
  obtain ⟨P, hP⟩ : ∃ P, w2.heap.size = P := ⟨_, rfl⟩
  rw [hP] at hPA hl2 hszA ⊢
  have HW : Hid (WA.heap.size = P + 1) := hszA
  clear hP hszA
  have CR := l71Row_any _ (w.heap.size + 1) p2 mm.length WA.drew hsm.pos hsm.three (by omega) hrA.drew
  have p0 := hPA.c
  refine wp_region_held_drew (S := fun w' => w'.cell? ⟨P, 0, none⟩ = some (.slice a mm.length c)) (by kernel_rfl) (by exact p0) (fun hH => ?_)
  refine takeD 0 (some 10) (.agg #[.slice a mm.length c]) hH rfl rfl (by kernel_rfl) (by kernel_rfl) (by kernel_rfl) (fun _ _ _ h => h) (Or.inl ⟨by rfl, by intro w' hSw; have hc := hSw; go_simp⟩) ?_
  simp only [Act.put, List.setIfInBounds_toArray, List.set_cons_zero, List.set_cons_succ]
  refine takeD 1 (some 11) (.pointer (some ⟨w.heap.size + 1, 0, none⟩)) hH rfl rfl (by kernel_rfl) (by kernel_rfl) (by kernel_rfl) (fun _ _ _ h => h) (Or.inl ⟨by rfl, by intro w' hSw; go_simp⟩) ?_
  simp only [Act.put, List.setIfInBounds_toArray, List.set_cons_zero, List.set_cons_succ]
  refine takeD 2 (some 12) (.pointer (some ⟨P, 0, none⟩)) hH rfl rfl (by kernel_rfl) (by kernel_rfl) (by kernel_rfl) (fun _ _ _ h => h) (Or.inl ⟨by rfl, by intro w' hSw; go_simp⟩) ?_
  simp only [Act.put, List.setIfInBounds_toArray, List.set_cons_zero, List.set_cons_succ]
  refine takeD 3 (some 13) (.slice a mm.length c) hH rfl rfl (by kernel_rfl) (by kernel_rfl) (by kernel_rfl) (fun _ _ _ h => h) (Or.inl ⟨by rfl, by intro w' hSw; have hc := hSw; go_simp⟩) ?_
  simp only [Act.put, List.setIfInBounds_toArray, List.set_cons_zero, List.set_cons_succ]
  refine takeD 4 (some 14) (.int .i64 mm.length) hH rfl rfl (by kernel_rfl) (by kernel_rfl) (by kernel_rfl) (fun _ _ _ h => h) (Or.inl ⟨by rfl, by intro w' hSw; go_simp⟩) ?_
  simp only [Act.put, List.setIfInBounds_toArray, List.set_cons_zero, List.set_cons_succ]
  refine wpAnyH_ready (rs := [5]) (by kernel_rfl) (by simp) ?_
  refine AllReadyH.cons rfl (fun K' hK => ?_) AllReadyH.nil
  refine step_goV (by rfl) (some 15) rfl 43 #[.tmp 11, .tmp 14] _ rfl #[.pointer (some ⟨w.heap.size + 1, 0, none⟩), .int .i64 mm.length] (by simp [Act.eval]) (fun _ _ => rfl) CR ?_
  rintro e w3 ⟨v3, rfl, gs, hown, hgl, p3, hp3, hr3, hb3⟩
  obtain ⟨ga, gg, gc, rfl, hI, hgg, _⟩ := own_nums hown
  have hb3' : But (w.heap.size + 1) WA w3 := (But.refl _ _).drew.trans hb3
  have hP3 := hPA.but hb3' (by omega)
  have hS3 := hSA.but hb3' (by omega)
  have bw3 := But.below bwA hb3' (by omega)
  have hgg' : P + 1 ≤ gg := by have := HW.out; have e : WA.drew.heap.size = WA.heap.size := rfl; omega
  have hne : gg ≠ w.heap.size := by omega
  have hnP : P ≠ w.heap.size := by omega
  refine ⟨_, rfl, ?_⟩
  simp only [Act.put, List.setIfInBounds_toArray, List.set_cons_zero, List.set_cons_succ]
  refine hK.out _ _ hP3.c (fun hH3 => ?_)
  clear hK K'
  refine wpAnyH_ready (rs := [6]) (by kernel_rfl) (by simp) ?_
  refine AllReadyH.cons rfl (fun K' hK => ?_) AllReadyH.nil
  have xc := hS3.c
  have xz := hS3.fz
  rw [if_pos (by rfl)]
  go_simp
  refine hK.out _ _ (hP3.far (fun e => hnP e.symm) _).c (fun hH4 => ?_)
  clear hK K'
  refine takeD 7 (some 3) (.slice ga gs.length gc) hH4 rfl rfl (by kernel_rfl) (by kernel_rfl) (by kernel_rfl) (fun _ _ _ h => h) (Or.inl ⟨by rfl, by intro w' hSw; go_simp⟩) ?_
  simp only [Act.put, List.setIfInBounds_toArray, List.set_cons_zero, List.set_cons_succ]
  refine wpAnyH_done (by kernel_rfl) ?_ _
  clear xc xz
  go_wp2_with fail
  have q1 := (hS3.set (.slice a mm.length c)).c
  exact bodyPost_ret (v := .tuple #[.agg #[.slice a mm.length c], .slice ga gs.length gc]) (by simp [results, Try.results16, go_sem, q1]) rfl ⟨a, g, c, mm, ga, gg, gc, gs, rfl, ⟨((hsnA.but hb3' (by omega)).mono (by omega)).far (by omega), hsm, hI.farx hne, by omega, bw3.setCell (Nat.le_refl _) _⟩⟩

end Go.Proofs.Ytdpoiabohkkbcaa

namespace Go.Proofs.Ytdpoiabohkkbcaa
open Go.RowKit

theorem M.vals_full {i : Nat} {gs : List Int} (h0 : (0 : Int) ∈ gs) (h : ∀ j, 21 ≤ j → j < i → ((1 + j % 3 : Nat) : Int) ∈ gs) (hl : gs.length ≤ 3) : i < 24 := by
  apply Classical.byContradiction
  intro hi
  have := M.nodupI_le (M.bel_nodup 4) (m := gs) (fun x hx => by
    obtain ⟨hx0, hx1⟩ := M.bel_mem.1 hx
    rcases (show x = 0 ∨ x = 1 ∨ x = 2 ∨ x = 3 by omega) with rfl | rfl | rfl | rfl
    · exact h0
    · exact h 21 (by omega) (by omega)
    · exact h 22 (by omega) (by omega)
    · exact h 23 (by omega) (by omega))
  rw [M.bel_len] at this
  omega
theorem nums_set (l : List Int) (j : Nat) (x : Int) : (nums l).set j (.int .i64 x) = nums (l.set j x) := by
  unfold nums; rw [List.map_set]

set_option maxHeartbeats 1000000 in
set_option maxRecDepth 100000 in
set_option linter.unusedSimpArgs false in
theorem DrawTurnVals_any (ca : Option Addr) (cb co L C : Nat) (x : Nat → Int) (w : World) (hL : L ≤ C) (had : 0 < L → ca = some ⟨cb, co, none⟩) (hc : ∀ i, i < L → w.cell? ⟨cb, co + i, none⟩ = some (.int .u8 (x i)) ∧ 0 ≤ x i ∧ x i ≤ 255) (hLb : L ≤ 1048576) :
    Calls Try.prog 23 #[.slice ca L C] w fun e w' => ∃ (a : Option Addr) (g c : Nat) (mm : List (List M.D)) (ga : Option Addr) (gg gc : Nat) (gs : List Int), e = .returned (.tuple #[.agg #[.slice a mm.length c], .slice ga gs.length gc]) ∧ TnDrawn w w' a g c mm ga gg gs := by
  obtain ⟨i0, hi, hz0, hz1, hz2⟩ := info_parts Try.infoInt
  go_enter Try.func23, Try.ntmps23
  go_wp2_with fail
  have hb0 := below1 w (.cells #[.slice none 0 0] 25)
  refine (l6Open_any ca cb co L C x _ hL had (fun i hi => ⟨by rw [hb0.cell (p := ⟨cb, co + i, none⟩) (World.block_lt_of_cell? _ _ (hc i hi).1)]; exact (hc i hi).1, (hc i hi).2⟩) hLb).mono ?_
  rintro e w1 ⟨rfl, hr1, hb1⟩
  simp only [World.size_alloc] at hr1 hb1 ⊢
  have hb1w : Below w.heap.size w w1 := hb0.trans (hb1.mono (by omega))
  have hS1 := (Slot1.new w (.slice none 0 0) 25).but (But.of (rb := w.heap.size + 1) (by simpa only [World.size_alloc] using hb1)) (by omega)
  have hlt1 := hr1.lt
  clear hc had hb0 hb1
  go_wp2_with fail
  refine (l71Any_any _ (w.heap.size + 1) 0 _ (by omega) hr1).mono ?_
  rintro e w2 ⟨a, g, c, mm, rfl, hsn, hsm, p2, hp2, hr2, hb2⟩
  have hS2 := hS1.but hb2 (by omega)
  have bw2 := But.below hb1w hb2 (by omega)
  have hl2 : w1.heap.size ≤ w2.heap.size := hb2.size
  have hsn2 := hsn.mono (show w.heap.size + 1 + 1 ≤ w1.heap.size + 1 by omega)
  have bA := (But.refl (w.heap.size + 1) w2).alloc (.cells #[.slice a mm.length c] 25)
  have hSA := hS2.but bA (by omega)
  have hrA := hr2.alloc (.cells #[.slice a mm.length c] 25)
  have hPA := Slot1.new w2 (.slice a mm.length c) 25
  have hsnA := hsn2.but bA (by omega)
  have bwA : Below w.heap.size w (w2.alloc (.cells #[.slice a mm.length c] 25)) := But.below bw2 bA (by omega)
  have hszA : (w2.alloc (.cells #[.slice a mm.length c] 25)).heap.size = w2.heap.size + 1 := by simp
  clear hS1 hS2 hb2 bA hr1 hr2 hsn hsn2 hb1w bw2
  go_wp2_with fail
  generalize w2.alloc (.cells #[.slice a mm.length c] 25) = WA at *
  obtain ⟨P, hP⟩ : ∃ P, w2.heap.size = P := ⟨_, rfl⟩
  rw [hP] at hPA hl2 hszA ⊢
  have HW : Hid (WA.heap.size = P + 1) := hszA
  clear hP hszA
  have hE : (WA.alloc (.cells #[.int .i64 0] 3)).ownsRow WA.heap.size 3 1 (.slice (some ⟨WA.heap.size, 0, none⟩) 1 1) 1 (nums [0]) := World.ownsRow_lit WA _ 1 (Nat.le_refl _) (by decide) rfl
  rw [HW.out] at hE
  have bE := (But.refl (w.heap.size + 1) WA).alloc (.cells #[.int .i64 0] 3)
  have hrE := hrA.alloc (.cells #[.int .i64 0] 3)
  go_loopw [6, 7] (fun s6 s7 wr => ∃ (i : Nat) (gs : List Int), s7 = .int .i64 i ∧ i ≤ 24 ∧ gs.length ≤ 4 ∧ Hid ((0 : Int) ∈ gs ∧ ∀ j, 21 ≤ j → j < i → ((1 + j % 3 : Nat) : Int) ∈ gs) ∧ wr.ownsRow (P + 1) 3 1 s6 gs.length (nums gs) ∧ Rdr wr (w.heap.size + 1) (w.heap.size + 1) (p2 + i) ∧ But (w.heap.size + 1) WA wr) (fun _ s7 _ => 30 - (intOf s7).toNat)
  case atStart => exact ⟨0, [0], rfl, Nat.zero_le _, by simp, ⟨by simp, fun j h1 h2 => by omega⟩, hE, hrE, bE⟩
  case round =>
    obtain ⟨i, gs, rfl, hi24, hgn, HJ, hown, hr, hbut⟩ := hrel
    clear hE hrE bE
    have hbs : P + 1 ≤ wr.heap.size := by have := hbut.size; have := HW.out; omega
    have hge := own_ge hown
    obtain ⟨ga, gg, gc, rfl, hI, hgg, _⟩ := own_nums hown
    by_cases hlt2 : gs.length ≤ 3
    · have hi21 := M.vals_full HJ.out.1 HJ.out.2 hlt2
      have hlt' : (gs.length : Int) ≤ 3 := by omega
      go_wp2_with fail
      refine (pick_rdr (w.heap.size + 1) (w.heap.size + 1) (p2 + i) 3 wr (by omega) (by omega) (by omega) hr).mono ?_
      rintro e w4 ⟨q, rfl, q0, q1, hr4, hb4⟩
      have hb34 := hbut.trans hb4
      have hown4 := ownsRow_but hown hb4 (by omega)
      have hI4 : IntS w4 ga gg 0 gs := by
        obtain ⟨a2, g2, c2, e2, i2, _, _⟩ := own_nums hown4
        obtain ⟨rfl, _, rfl⟩ := Value.slice.inj e2
        refine ⟨hI.addr, fun k hk => ?_⟩
        have e3 := hI.addr (by omega)
        have e4 := i2.addr (by omega)
        rw [e3] at e4
        simp at e4
        rw [e4]
        exact i2.row k hk
      have hbs4 : P + 1 ≤ w4.heap.size := by have := hb4.size; omega
      have CH := fun k => l12Has_any ga gg 0 gc gs k w4 (by omega) hI4
      have FIN : Hid (∀ (k : Int), (21 ≤ i → k = ((1 + i % 3 : Nat) : Int)) → (M.has gs k = true → (0 : Int) ∈ gs ∧ ∀ j, 21 ≤ j → j < i + 1 → ((1 + j % 3 : Nat) : Int) ∈ gs) ∧ ((0 : Int) ∈ gs ++ [k] ∧ ∀ j, 21 ≤ j → j < i + 1 → ((1 + j % 3 : Nat) : Int) ∈ gs ++ [k])) := by
        intro k hk
        refine ⟨fun hh => ⟨HJ.out.1, fun j h1 h2 => ?_⟩, ⟨List.mem_append_left _ HJ.out.1, fun j h1 h2 => ?_⟩⟩
        · by_cases e : j = i
          · subst e; rw [← hk h1]; exact M.has_mem hh
          · exact HJ.out.2 j h1 (by omega)
        · by_cases e : j = i
          · subst e; rw [← hk h1]; simp
          · exact List.mem_append_left _ (HJ.out.2 j h1 (by omega))
      clear HJ hown hI hr hbut hb4
      by_cases h20 : 20 < i
      · have h20' : (20 : Int) < i := by omega
        have htm : Int.tmod (i : Int) 3 = ((i % 3 : Nat) : Int) := by rw [Int.tmod_eq_emod_of_nonneg (by omega)]; exact (Int.natCast_emod _ _).symm
        have hmod : i % 3 < 3 := Nat.mod_lt _ (by omega)
        obtain ⟨f1, f2⟩ := FIN.out ((1 + i % 3 : Nat) : Int) (fun _ => rfl)
        generalize i % 3 = m at htm hmod f1 f2
        have F1 : Hid _ := f1
        have F2 : Hid _ := f2
        have hq0 : IntKind.i64.wrap (1 + q) = 1 + q := IntWalk.i64_in _ (by omega)
        have hm0 : IntKind.i64.wrap (1 + (m : Int)) = ((1 + m : Nat) : Int) := by rw [show (1 : Int) + m = ((1 + m : Nat) : Int) by omega]; exact IntWalk.i64_in _ (by omega)
        clear f1 f2 FIN
        have CHm := CH ((1 + m : Nat) : Int)
        clear CH
        have hM3 : 1 + m ≤ 3 := by omega
        generalize 1 + m = mm1 at *
        cases hh : M.has gs (mm1 : Int)
        · rw [hh] at CHm
          go_wp2_with (first | (go_at_call 53; refine CHm.mono ?_; rintro e w5 ⟨rfl, rfl⟩) | (at_builtin; refine wpList_append_own _ rfl (.tmp 31) (.tmp 33) 32 rfl _ 3 i0 _ 1 8 Try.underlying32 hi hz0 hz1 hz2 rfl (by decide) _ _ _ rfl (hown4.alloc _) ⟨w5.heap.size, 0, none⟩ 1 1 [.int .i64 mm1] rfl rfl (cells_new1 _ _ _ _ (by simp)) (one1 _) (by unfold maxLen; omega) (by omega) (by simp; omega) ?_))
          intro v6 w6 hown6 hg6 _
          have hb6 := (hb34.alloc _).grown hg6 (fun k hk => by have := hge k hk; have := HW.out; omega)
          have hr6 := ((hr4.alloc (.cells #[.int .i64 mm1] 3)).grown hg6 (fun k hk => by have := hge k hk; omega))
          have hown7 : w6.ownsRow (P + 1) 3 1 v6 (gs ++ [(mm1 : Int)]).length (nums (gs ++ [(mm1 : Int)])) := by rw [nums_snoc, List.length_append]; exact hown6
          clear hown6 hg6
          go_wp2_with fail
          exact ⟨⟨i + 1, gs ++ [(mm1 : Int)], by go_num, by omega, by simp; omega, F2.out, hown7, hr6, hb6⟩, by simp [intOf]; omega⟩
        · rw [hh] at CHm
          go_wp2_with (first | (go_at_call 53; refine CHm.mono ?_; rintro e w5 ⟨rfl, rfl⟩))
          exact ⟨⟨i + 1, gs, by go_num, by omega, hgn, F1.out hh, hown4, hr4, hb34⟩, by simp [intOf]; omega⟩
      · have h20' : ¬ (20 : Int) < i := by omega
        obtain ⟨qq, hqq⟩ : ∃ qq, 1 + q = qq := ⟨_, rfl⟩
        obtain ⟨f1, f2⟩ := FIN.out qq (fun h => by omega)
        have F1 : Hid _ := f1
        have F2 : Hid _ := f2
        have hq0 : IntKind.i64.wrap (1 + q) = qq := by rw [hqq]; exact IntWalk.i64_in _ (by omega)
        clear f1 f2 FIN
        have CHm := CH qq
        clear CH
        have hq1 : 0 ≤ qq ∧ qq ≤ 3 := by omega
        clear hqq
        cases hh : M.has gs qq
        · rw [hh] at CHm
          go_wp2_with (first | (go_at_call 53; refine CHm.mono ?_; rintro e w5 ⟨rfl, rfl⟩) | (at_builtin; refine wpList_append_own _ rfl (.tmp 31) (.tmp 33) 32 rfl _ 3 i0 _ 1 8 Try.underlying32 hi hz0 hz1 hz2 rfl (by decide) _ _ _ rfl (hown4.alloc _) ⟨w5.heap.size, 0, none⟩ 1 1 [.int .i64 qq] rfl rfl (cells_new1 _ _ _ _ (by simp)) (one1 _) (by unfold maxLen; omega) (by omega) (by simp; omega) ?_))
          intro v6 w6 hown6 hg6 _
          have hb6 := (hb34.alloc _).grown hg6 (fun k hk => by have := hge k hk; have := HW.out; omega)
          have hr6 := ((hr4.alloc (.cells #[.int .i64 qq] 3)).grown hg6 (fun k hk => by have := hge k hk; omega))
          have hown7 : w6.ownsRow (P + 1) 3 1 v6 (gs ++ [(qq : Int)]).length (nums (gs ++ [(qq : Int)])) := by rw [nums_snoc, List.length_append]; exact hown6
          clear hown6 hg6
          go_wp2_with fail
          exact ⟨⟨i + 1, gs ++ [(qq : Int)], by go_num, by omega, by simp; omega, F2.out, hown7, hr6, hb6⟩, by simp [intOf]; omega⟩
        · rw [hh] at CHm
          go_wp2_with (first | (go_at_call 53; refine CHm.mono ?_; rintro e w5 ⟨rfl, rfl⟩))
          exact ⟨⟨i + 1, gs, by go_num, by omega, hgn, F1.out hh, hown4, hr4, hb34⟩, by simp [intOf]; omega⟩
    · have hlt' : ¬ (gs.length : Int) ≤ 3 := by omega
      have hpos : 0 < gs.length := by omega
      obtain ⟨rfl⟩ := hI.addr hpos
      clear HJ
      go_wp2_with fail
      refine (pick_rdr (w.heap.size + 1) (w.heap.size + 1) (p2 + i) 16 wr (by omega) (by omega) (by omega) hr).mono ?_
      rintro e w4 ⟨q, rfl, q0, q1, hr4, hb4⟩
      have hb34 := hbut.trans hb4
      have hown4 := ownsRow_but hown hb4 (by omega)
      have FIN : Hid (∀ (W : World) (gs : List Int) (n : Nat), gs.length = n → n ≤ 20 → W.ownsRow (P + 1) 3 1 (.slice (some ⟨gg, 0, none⟩) n gc) n (nums gs) → But (w.heap.size + 1) WA W → Slot1 W P (.slice a mm.length c) ∧ Slot1 W w.heap.size (.slice none 0 0) ∧ w.heap.size < W.heap.size ∧ TnDrawn w (W.setCell ⟨w.heap.size, 0, none⟩ (.slice a mm.length c)) a g c mm (some ⟨gg, 0, none⟩) gg gs) := by
        intro W gs n hn hl ho hb
        subst hn
        obtain ⟨ga2, gg2, gc2, e2, hI2, hgg2, _⟩ := own_nums ho
        have e3 := (Value.slice.inj e2).1
        have hS := hSA.but hb (by omega)
        have hI3 : IntS W (some ⟨gg, 0, none⟩) gg 0 gs := by
          refine ⟨fun _ => rfl, fun k hk => ?_⟩
          have e4 := hI2.addr (by omega)
          rw [← e3] at e4
          simp at e4
          rw [e4]
          exact hI2.row k hk
        exact ⟨hPA.but hb (by omega), hS, hS.lt, (hsnA.but hb (by omega)).mono (by omega) |>.far (by omega), hsm, hI3.farx (by omega), hl, (But.below bwA hb (by omega)).setCell (Nat.le_refl _) _⟩
      clear hown hr hbut hb4 hI
      by_cases hq : q = 0
      · subst hq
        go_wp2_with fail
        refine (pick_rdr (w.heap.size + 1) (w.heap.size + 1) (p2 + i + 1) gs.length w4 (by omega) (by omega) (by omega) hr4).mono ?_
        rintro e w5 ⟨r, rfl, r0, r1, hr5, hb5⟩
        have hb45 := hb34.trans hb5
        have hown5 := ownsRow_but hown4 hb5 (by omega)
        clear hown4 hb34 hb5 hr4
        go_wp2_with fail
        refine (pick_rdr (w.heap.size + 1) (w.heap.size + 1) (p2 + i + 1 + 1) 4 w5 (by omega) (by omega) (by omega) hr5).mono ?_
        rintro e w6 ⟨s, rfl, s0, s1, hr6, hb6⟩
        have hb46 := hb45.trans hb6
        have hown6 := ownsRow_but hown5 hb6 (by omega)
        clear hown5 hb45 hb6 hr5
        obtain ⟨j, rfl⟩ : ∃ j : Nat, r = j := ⟨r.toNat, by omega⟩
        have hj : j < gs.length := by omega
        have c6 := hown6.cells (g := gg) rfl j (.int .i64 gs[j]) (by simp [nums, hj])
        rw [Go.WideShapes.add_plain, Nat.zero_add] at c6
        have f6 := own_fzS hown6 j
        obtain ⟨hown7, hg7⟩ := hown6.stored j (.int .i64 s)
        rw [nums_set] at hown7
        have hb7 := hb46.grown hg7 (fun k hk => by have : gg = k := Option.some.inj hk; have := HW.out; omega)
        obtain ⟨hPf, hSf, lf, hD⟩ := FIN.out _ (gs.set j s) gs.length (by simp) (by omega) hown7 hb7
        have hP6 := hPA.but hb46 (by omega)
        have hS6 := hSA.but hb46 (by omega)
        have p0 := hP6.c
        have s0 := hS6.c
        have sf := hS6.fz
        have lP6 := hP6.lt
        have lS6 := hS6.lt
        have hn1 : P ≠ gg := by omega
        have hn2 : w.heap.size ≠ gg := by omega
        have hn3 : gg ≠ P := by omega
        have hn4 : gg ≠ w.heap.size := by omega
        clear hown6 hown7 hg7
        go_wp2_with fail
        have s4 := (hSf.set (.slice a mm.length c)).c
        exact bodyPost_ret (v := .tuple #[.agg #[.slice a mm.length c], .slice (some ⟨gg, 0, none⟩) gs.length gc]) (by simp [results, Try.results23, go_sem, s4]) rfl ⟨a, g, c, mm, some ⟨gg, 0, none⟩, gg, gc, gs.set j s, by rw [List.length_set], hD⟩
      · have hq' : (q == 0) = false := by simpa using hq
        obtain ⟨hPf, hSf, lf, hD⟩ := FIN.out w4 gs gs.length rfl (by omega) hown4 hb34
        have p0 := hPf.c
        have s0 := hSf.c
        have sf := hSf.fz
        go_wp2_with fail
        have s4 := (hSf.set (.slice a mm.length c)).c
        exact bodyPost_ret (v := .tuple #[.agg #[.slice a mm.length c], .slice (some ⟨gg, 0, none⟩) gs.length gc]) (by simp [results, Try.results23, go_sem, s4]) rfl ⟨a, g, c, mm, some ⟨gg, 0, none⟩, gg, gc, gs, rfl, hD⟩

end Go.Proofs.Ytdpoiabohkkbcaa

namespace Go.Proofs.Ytdpoiabohkkbcaa
open Go.RowKit

namespace M
/-- The first so many steps changed. -/
def curT (f : D → D) (k : Nat) (t : List D) : List D := (t.take k).map f ++ t.drop k
theorem curT_zero (f : D → D) (t : List D) : curT f 0 t = t := by simp [curT]
theorem curT_len (f : D → D) (k : Nat) (t : List D) : (curT f k t).length = t.length := by simp [curT]; omega
theorem curT_all (f : D → D) (k : Nat) (t : List D) (h : t.length ≤ k) : curT f k t = t.map f := by
  unfold curT; rw [List.take_of_length_le h, List.drop_eq_nil_of_le h, List.append_nil]
theorem curT_get (f : D → D) (k : Nat) (t : List D) (h : k < t.length) (h' : k < (curT f k t).length) : (curT f k t)[k] = t[k] := by
  have e : (curT f k t)[k]? = t[k]? := by
    unfold curT
    rw [List.getElem?_append_right (by simp; omega)]
    simp [Nat.min_eq_left (Nat.le_of_lt h)]
  rw [List.getElem?_eq_getElem h', List.getElem?_eq_getElem h] at e
  exact Option.some.inj e
theorem curT_set (f : D → D) (k : Nat) (t : List D) (h : k < t.length) : (curT f k t).set k (f t[k]) = curT f (k + 1) t := by
  unfold curT
  have e : (t.drop k).set 0 (f t[k]) = f t[k] :: t.drop (k + 1) := by
    have := (List.getElem_cons_drop h).symm
    generalize t.drop k = x at *
    subst this
    rfl
  rw [List.take_succ_eq_append_getElem h, List.map_append, List.set_append_right _ _ (by simp; omega)]
  simp [Nat.min_eq_left (Nat.le_of_lt h), e]
/-- The first so many threads changed, and of the next one the first so many steps. -/
def cur (f : D → D) (n k : Nat) (ll : List (List D)) : List (List D) := ll.mapIdx fun i t => if i < n then t.map f else if i = n then curT f k t else t
theorem cur_len (f : D → D) (n k : Nat) (ll : List (List D)) : (cur f n k ll).length = ll.length := by simp [cur]
theorem cur_zero (f : D → D) (ll : List (List D)) : cur f 0 0 ll = ll := by
  apply List.ext_getElem (cur_len _ _ _ _)
  intro i h1 h2
  simp only [cur, List.getElem_mapIdx, Nat.not_lt_zero, if_false, curT_zero, ite_self]
theorem cur_get (f : D → D) (n k : Nat) (ll : List (List D)) (h : n < ll.length) (h' : n < (cur f n k ll).length) : (cur f n k ll)[n] = curT f k ll[n] := by
  simp [cur]
theorem cur_set (f : D → D) (n k : Nat) (ll : List (List D)) (h : n < ll.length) (hk : k < ll[n].length) : (cur f n k ll).set n ((curT f k ll[n]).set k (f ll[n][k])) = cur f n (k + 1) ll := by
  rw [curT_set f k _ hk]
  apply List.ext_getElem (by simp [cur])
  intro i h1 h2
  by_cases e : n = i
  · subst e; rw [List.getElem_set_self]; simp [cur]
  · rw [List.getElem_set_ne e]
    have e' : ¬ i = n := fun h => e h.symm
    simp only [cur, List.getElem_mapIdx, e', if_false]
theorem cur_next (f : D → D) (n k : Nat) (ll : List (List D)) (h : n < ll.length) (hk : ll[n].length ≤ k) : cur f n k ll = cur f (n + 1) 0 ll := by
  apply List.ext_getElem (by simp [cur])
  intro i h1 h2
  simp only [cur, List.getElem_mapIdx, curT_zero, ite_self]
  by_cases e : i < n
  · rw [if_pos e, if_pos (by omega)]
  · by_cases e2 : i = n
    · subst e2; rw [if_neg e, if_pos rfl, if_pos (by omega), curT_all f k _ hk]
    · rw [if_neg e, if_neg e2, if_neg (by omega)]
theorem cur_all (f : D → D) (n k : Nat) (ll : List (List D)) (h : ll.length ≤ n) : cur f n k ll = mapS f ll := by
  apply List.ext_getElem (by simp [cur, mapS])
  intro i h1 h2
  have : i < ll.length := by simpa [cur] using h1
  simp only [cur, mapS, List.getElem_mapIdx, List.getElem_map]
  rw [if_pos (by omega)]
end M

theorem flat_set0 (l : List M.D) : ∀ (k : Nat) (h : k < l.length) (d : M.D), d.p = l[k].p → d.v = l[k].v → (flat l).set (k * 3) (.int .i64 d.k) = flat (l.set k d) := by
  induction l with
  | nil => intro k h; exact absurd h (Nat.not_lt_zero _)
  | cons x l ih =>
    intro k h d h1 h2
    cases k with
    | zero => simp only [List.getElem_cons_zero] at h1 h2; simp [flat, h1, h2]
    | succ k => rw [show (k + 1) * 3 = k * 3 + 3 from by omega]; simpa [flat] using ih k (by simpa using h) d (by simpa using h1) (by simpa using h2)
theorem flat_set1 (l : List M.D) : ∀ (k : Nat) (h : k < l.length) (d : M.D), d.k = l[k].k → d.v = l[k].v → (flat l).set (k * 3 + 1) (.int .i64 d.p) = flat (l.set k d) := by
  induction l with
  | nil => intro k h; exact absurd h (Nat.not_lt_zero _)
  | cons x l ih =>
    intro k h d h1 h2
    cases k with
    | zero => simp only [List.getElem_cons_zero] at h1 h2; simp [flat, h1, h2]
    | succ k => rw [show (k + 1) * 3 + 1 = k * 3 + 1 + 3 from by omega]; simpa [flat] using ih k (by simpa using h) d (by simpa using h1) (by simpa using h2)
theorem flat_set2 (l : List M.D) : ∀ (k : Nat) (h : k < l.length) (d : M.D), d.k = l[k].k → d.p = l[k].p → (flat l).set (k * 3 + 2) (.int .i64 d.v) = flat (l.set k d) := by
  induction l with
  | nil => intro k h; exact absurd h (Nat.not_lt_zero _)
  | cons x l ih =>
    intro k h d h1 h2
    cases k with
    | zero => simp only [List.getElem_cons_zero] at h1 h2; simp [flat, h1, h2]
    | succ k => rw [show (k + 1) * 3 + 2 = k * 3 + 2 + 3 from by omega]; simpa [flat] using ih k (by simpa using h) d (by simpa using h1) (by simpa using h2)

/-- A step is another one then; all else is as it was. -/
def Chg (w w' : World) (g off : Nat) (d d' : M.D) : Prop := ∃ q, (w' = w.drewN q ∧ d' = d) ∨ (w' = (w.drewN q).setCell ⟨g, off, none⟩ (.int .i64 d'.k) ∧ d'.p = d.p ∧ d'.v = d.v) ∨ (w' = (w.drewN q).setCell ⟨g, off + 1, none⟩ (.int .i64 d'.p) ∧ d'.k = d.k ∧ d'.v = d.v) ∨ (w' = (w.drewN q).setCell ⟨g, off + 2, none⟩ (.int .i64 d'.v) ∧ d'.k = d.k ∧ d'.p = d.p)

theorem drewN_below (w : World) (q : Nat) : Below w.heap.size w (w.drewN q) := ⟨rfl, rfl, rfl, Nat.le_refl _, fun _ _ => rfl⟩
theorem own_chg {w w' : World} {B g n cap k : Nat} {l : List M.D} {d' : M.D} (h : w.ownsRow B 55 3 (.slice (some ⟨g, 0, none⟩) n cap) n (flat l)) (hk : k < l.length) (hc : Chg w w' g (k * 3) l[k] d') :
    w'.ownsRow B 55 3 (.slice (some ⟨g, 0, none⟩) n cap) n (flat (l.set k d')) ∧ w.grownBy w' (some g) := by
  obtain ⟨q, hc⟩ := hc
  have hq := ownsRow_below h (drewN_below w q)
  have gq : ∀ W, (w.drewN q).grownBy W (some g) → w.grownBy W (some g) := fun W hg => ⟨hg.os, hg.tape, hg.output, hg.size, hg.block⟩
  rcases hc with ⟨rfl, rfl⟩ | ⟨rfl, h1, h2⟩ | ⟨rfl, h1, h2⟩ | ⟨rfl, h1, h2⟩
  · exact ⟨by rw [List.set_getElem_self]; exact hq, ⟨rfl, rfl, rfl, Nat.le_refl _, fun _ _ _ => rfl⟩⟩
  · obtain ⟨ho, hg⟩ := hq.stored (k * 3) (.int .i64 d'.k)
    rw [flat_set0 l k hk d' h1 h2] at ho
    exact ⟨ho, gq _ hg⟩
  · obtain ⟨ho, hg⟩ := hq.stored (k * 3 + 1) (.int .i64 d'.p)
    rw [flat_set1 l k hk d' h1 h2] at ho
    exact ⟨ho, gq _ hg⟩
  · obtain ⟨ho, hg⟩ := hq.stored (k * 3 + 2) (.int .i64 d'.v)
    rw [flat_set2 l k hk d' h1 h2] at ho
    exact ⟨ho, gq _ hg⟩

theorem Rdg.chg {w w' : World} {B : Nat} {v : Value} {ll : List (List M.D)} {vs : List Value} {n k g m cap : Nat} {d' : M.D} (h : Rdg w B v ll vs) (hn : n < ll.length) (hv : n < vs.length) (he : vs[n] = .slice (some ⟨g, 0, none⟩) m cap) (hk : k < ll[n].length) (hc : Chg w w' g (k * 3) ll[n][k] d') :
    Rdg w' B v (ll.set n (ll[n].set k d')) vs ∧ w.grownBy w' (some g) ∧ B ≤ g := by
  have hin := h.b.inner n hn hv
  have hm : m = ll[n].length := by
    rcases hin.2 with ⟨e, _⟩ | ⟨_, _, _, e, _⟩
    · rw [he] at e; simp at e
    · rw [he] at e; simp only [Value.slice.injEq] at e; exact e.2.1
  subst hm
  have hin' := hin
  rw [he] at hin'
  obtain ⟨ho, hg⟩ := own_chg hin' hk hc
  have hBg : B ≤ g := own_ge hin' g rfl
  refine ⟨⟨⟨?_, by rw [List.length_set]; exact h.b.len, fun i h1 h2 => ?_⟩, h.ap⟩, hg, hBg⟩
  · rw [List.length_set]
    refine h.b.outer.kept hg ?_
    rcases own_apart h.b.outer hin' (by decide) with e | e
    · exact Or.inl e
    · exact Or.inr e
  · by_cases e : n = i
    · subst e
      rw [List.getElem_set_self, he, List.length_set]
      exact ho
    · rw [List.getElem_set_ne e]
      have h1' : i < ll.length := by simpa using h1
      refine (h.b.inner i h1' h2).kept hg ?_
      cases hb : vs[i].ownBlock with
      | none => exact Or.inl rfl
      | some kk =>
        refine Or.inr fun e2 => ?_
        have := h.ap i n h2 hv (fun e3 => e e3.symm) kk hb
        rw [he] at this
        exact this (by simp only [Value.ownBlock]; exact e2.symm)

/-- What lies in the list of threads. -/
theorem Rdg.outer_at {w : World} {B cv n : Nat} {av : Option Addr} {ll : List (List M.D)} {vs : List Value} (h : Rdg w B (.slice av ll.length cv) ll vs) (hn : n < ll.length) : ∃ gv, av = some ⟨gv, 0, none⟩ ∧ ∃ hv : n < vs.length, w.cell? ⟨gv, n, none⟩ = some vs[n] := by
  have hv : n < vs.length := by rw [h.b.len]; exact hn
  rcases h.b.outer.2 with ⟨e, h0⟩ | ⟨g, cap, cur, e, hg, hh, r⟩
  · omega
  · simp only [Value.slice.injEq] at e
    obtain ⟨rfl, _, rfl⟩ := e
    have hc := h.b.outer.cells (g := g) rfl n vs[n] (List.getElem?_eq_getElem hv)
    rw [Go.WideShapes.add_plain, Nat.zero_add] at hc
    exact ⟨g, rfl, hv, hc⟩
/-- .. and in a thread. -/
theorem Rdg.inner_at {w : World} {B n : Nat} {v : Value} {ll : List (List M.D)} {vs : List Value} (h : Rdg w B v ll vs) (hn : n < ll.length) (hv : n < vs.length) : ∃ a' c', vs[n] = .slice a' ll[n].length c' ∧ (0 < ll[n].length → ∃ g, a' = some ⟨g, 0, none⟩ ∧ B ≤ g ∧ Row w g 0 ll[n] ∧ ∀ i, w.frozen? ⟨g, i, none⟩ = false) := by
  have hin := h.b.inner n hn hv
  rcases hin.2 with ⟨e, h0⟩ | ⟨g, cap, cur, e, hg, hh, r⟩
  · exact ⟨none, 0, by rw [e, h0], fun h => by omega⟩
  · refine ⟨_, cap, e, fun hpos => ⟨g, rfl, hg, ?_, ?_⟩⟩
    · obtain ⟨a2, g2, c2, e2, hd, _⟩ := own_steps hin
      rw [e] at e2
      simp only [Value.slice.injEq] at e2
      obtain ⟨rfl, _, _⟩ := e2
      have := hd.addr hpos
      simp at this
      rw [this]; exact hd.row
    · rw [e] at hin; exact fun i => own_fzS hin i

end Go.Proofs.Ytdpoiabohkkbcaa
