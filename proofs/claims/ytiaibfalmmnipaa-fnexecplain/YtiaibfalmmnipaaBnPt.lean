/- impl.newList of numbers: a row of its own. Of at most 1048576 numbers. Turning about, plainly: rows of numbers, threads, places and values turned, programs side by side, plain ones. No condition. Rows of few numbers, turned back; programs whose threads, places or values are turned are programs. No condition. A program made plain is a program with as many reads, and stays. No condition. The laws' comparing of two programs. Of programs of at most 1048576 threads, each of at most 1048576 steps. Steps that are changed where they lie: plainly, and in rows of the call's own. No condition. impl's rows: numbersBelow, isRowOf, and what is turned by a row, of numbers and of threads. Of at most 1000 things, rows of at most 1048576 numbers. impl's turn: the things with the numbers of a row; of numbers, of threads. Of at most 1000 things, rows of at most 1048576 numbers. impl.newList of steps, impl.copyProg: a program in rows of its own. Of at most 1048576 threads, and steps of a thread. impl.changeSteps: a program in rows of its own, each step changed by a closure that is met by its contract. Of at most 3 threads of at most 7 steps. impl.TurnPlain. Of at most 1048576 threads, and steps of a thread. -/
import Derived.Test.YtiaibfalmmnipaaTnGo
import Derived.Test.YtiaibfalmmnipaaSnFar
import Derived.Deep.AppendLies
import Derived.Test.YtiaibfalmmnipaaMathN
import Derived.Test.YtiaibfalmmnipaaCont
import Derived.Test.YtiaibfalmmnipaaIProg
import Derived.BigQuiet
import Derived.Test.YtiaibfalmmnipaaTnBase
import Derived.Test.YtiaibfalmmnipaaTnB0
import Derived.Test.YtiaibfalmmnipaaWide

namespace Go.Proofs.Ytiaibfalmmnipaa
open Go.RowKit

theorem nums_cells {w : World} {b o : Nat} {l : List Int} {sa : Option Addr} (h : IntS w sa b o l) : ∀ (j : Nat) (u : Value), (nums l)[j]? = some u → w.cell? ((⟨b, o, none⟩ : Addr).add j) = some u := by
  intro j u hj
  have hjl : j < l.length := by
    have := (List.getElem?_eq_some_iff.1 hj).1
    simpa [nums] using this
  rw [Go.WideShapes.add_plain, h.row j hjl]
  simpa [nums, hjl] using hj
theorem nums_one (l : List Int) : ∀ u ∈ nums l, u.oneCell' = true := by intro u hu; simp [nums] at hu; obtain ⟨_, _, rfl⟩ := hu; rfl

set_option maxHeartbeats 1000000 in
set_option maxRecDepth 100000 in
theorem newListO_any (a : Option Addr) (b o c : Nat) (l : List Int) (w : World) (hl : l.length ≤ 1048576) (h : IntS w a b o l) :
    Calls Try.prog 96 #[.slice a l.length c] w fun e w' => ∃ v, e = .returned v ∧ w'.ownsRow w.heap.size 3 1 v l.length (nums l) ∧ Below w.heap.size w w' := by
  obtain ⟨i0, hi, hz0, hz1, hz2⟩ := info_parts Try.infoInt
  rcases Nat.eq_zero_or_pos l.length with h0 | hpos
  · have hl0 : l = [] := List.length_eq_zero_iff.1 h0
    subst hl0
    rw [List.length_nil]
    go_enter Try.func96, Try.ntmps96
    go_wp2_with (at_builtin; refine wpList_append_nilT rfl (.const (.slice none 0 0)) (.tmp 3) 32 rfl 3 i0 Try.underlying32 hi rfl a c rfl ?_)
    go_wp2_with fail
    go_ret
    exact ⟨_, rfl, World.ownsRow_nil _ _ _ _, Below.refl _ _⟩
  · obtain ⟨rfl⟩ := h.addr hpos
    go_enter Try.func96, Try.ntmps96
    go_wp2_with (at_builtin; refine wpList_append_lies _ rfl (.const (.slice none 0 0)) (.tmp 3) 32 rfl w.heap.size 3 i0 _ 1 8 Try.underlying32 hi hz0 hz1 hz2 rfl (by decide) _ 0 [] rfl (World.ownsRow_nil _ _ _ _) ⟨b, o, none⟩ l.length c (nums l) rfl (by simp [nums]) (nums_cells h) (nums_one l) hpos (by unfold maxLen; omega) (by omega) (Nat.le_refl _) w.heap.size rfl ?_)
    intro g cap w1 hown hg hat hlt
    have hb : Below w.heap.size w w1 := ⟨hg.os, hg.tape, hg.output, hg.size, fun k hk => hg.block k hk (fun e => by simp [Value.ownBlock] at e)⟩
    have hown' : w1.ownsRow w.heap.size 3 1 (.slice (some ⟨g, 0, none⟩) l.length cap) l.length (nums l) := by simpa using hown
    go_wp2_with fail
    go_ret
    exact ⟨_, by first | rfl | simp, hown', hb⟩


end Go.Proofs.Ytiaibfalmmnipaa

namespace Go.Proofs.Ytiaibfalmmnipaa
namespace M

/-- The numbers below one. -/
def bel (n : Nat) : List Int := (List.range n).map fun i : Nat => (i : Int)
theorem bel_len (n : Nat) : (bel n).length = n := by simp [bel]
theorem bel_get (n i : Nat) (h : i < (bel n).length) : (bel n)[i] = (i : Int) := by simp [bel]
theorem bel_succ (n : Nat) : bel (n + 1) = bel n ++ [(n : Int)] := by simp [bel, List.range_succ]
theorem bel_mem {n : Nat} {x : Int} : x ∈ bel n ↔ 0 ≤ x ∧ x < n := by
  simp only [bel, List.mem_map, List.mem_range]
  constructor
  · rintro ⟨a, ha, rfl⟩; omega
  · rintro ⟨h1, h2⟩; exact ⟨x.toNat, by omega, by omega⟩
theorem bel_nodup (n : Nat) : (bel n).Nodup := by
  induction n with
  | zero => simp [bel]
  | succ n ih =>
    rw [bel_succ, List.nodup_append]
    refine ⟨ih, by simp, fun x hx y hy => ?_⟩
    have := (bel_mem.1 hx).2
    simp at hy
    omega

/-- Of as many, none lacks. -/
def rowOf (row evs : List Int) : Bool := decide (row.length = evs.length) && evs.all (fun v => has row v)
theorem rowOf_short {row evs : List Int} (h : ¬ row.length = evs.length) : rowOf row evs = false := by simp [rowOf, h]
theorem rowOf_same {row evs : List Int} (h : row.length = evs.length) : rowOf row evs = evs.all (fun v => has row v) := by simp [rowOf, h]
theorem rowAll_step {row evs : List Int} {n : Nat} (h : evs.all (fun v => has row v) = (evs.drop n).all (fun v => has row v)) (hn : n < evs.length) : evs.all (fun v => has row v) = (has row evs[n] && (evs.drop (n + 1)).all (fun v => has row v)) := by
  rw [h, ← List.getElem_cons_drop hn, List.all_cons]
/-- A row of so many. -/
def rowN (row : List Int) (n : Nat) : Bool := rowOf row (bel n)

theorem nodupI_le : ∀ {l m : List Int}, l.Nodup → (∀ x ∈ l, x ∈ m) → l.length ≤ m.length := by
  intro l
  induction l with
  | nil => intro m _ _; simp
  | cons x l ih =>
    intro m hn hs
    rw [List.nodup_cons] at hn
    have hx := hs x (by simp)
    have h1 := ih (m := m.erase x) hn.2 (fun y hy => by
      have hne : y ≠ x := fun e => hn.1 (by rw [← e]; exact hy)
      exact (List.mem_erase_of_ne hne).2 (hs y (List.mem_cons_of_mem _ hy)))
    have h2 := List.length_erase_of_mem hx
    have h3 : 0 < m.length := List.length_pos_of_mem hx
    simp only [List.length_cons]
    omega
theorem nodupI_all {l m : List Int} (hn : l.Nodup) (hs : ∀ x ∈ l, x ∈ m) (hlen : m.length = l.length) : ∀ y ∈ m, y ∈ l := by
  intro y hy
  apply Classical.byContradiction
  intro hc
  have h1 := nodupI_le (l := y :: l) (m := m) (List.nodup_cons.2 ⟨hc, hn⟩) (fun x hx => by
    rcases List.mem_cons.1 hx with rfl | hx
    · exact hy
    · exact hs x hx)
  simp only [List.length_cons] at h1
  omega

theorem rowN_len {row : List Int} {n : Nat} (h : rowN row n = true) : row.length = n := by
  simp only [rowN, rowOf, Bool.and_eq_true, decide_eq_true_eq, bel_len] at h; exact h.1
theorem rowN_all {row : List Int} {n : Nat} (h : rowN row n = true) : ∀ x ∈ bel n, x ∈ row := by
  simp only [rowN, rowOf, Bool.and_eq_true, List.all_eq_true, has, List.contains_eq_mem, decide_eq_true_eq] at h; exact h.2
theorem rowN_mem {row : List Int} {n : Nat} (h : rowN row n = true) : ∀ x ∈ row, 0 ≤ x ∧ x < n := fun x hx =>
  bel_mem.1 (nodupI_all (bel_nodup n) (rowN_all h) (by rw [rowN_len h, bel_len]) x hx)
theorem rowN_get {row : List Int} {n : Nat} (h : rowN row n = true) (i : Nat) (hi : i < row.length) : 0 ≤ row[i] ∧ row[i] < n := rowN_mem h _ (List.getElem_mem hi)
theorem rowN_bel (n : Nat) : rowN (bel n) n = true := by
  simp only [rowN, rowOf, Bool.and_eq_true, decide_eq_true_eq, List.all_eq_true, has, List.contains_eq_mem]
  exact ⟨trivial, fun x hx => hx⟩

/-- The things with these numbers. -/
def pick {α : Type} (z : α) (row : List Int) (l : List α) : List α := row.map fun i => l.getD i.toNat z
theorem pick_len {α : Type} (z : α) (row : List Int) (l : List α) : (pick z row l).length = row.length := by simp [pick]
theorem pick_take {α : Type} (z : α) (row : List Int) (l : List α) (n : Nat) (h : n < row.length) : pick z (row.take (n + 1)) l = pick z (row.take n) l ++ [l.getD row[n].toNat z] := by
  rw [List.take_succ_eq_append_getElem h]; unfold pick; rw [List.map_append]; rfl
theorem getD_get {α : Type} {z : α} {l : List α} {i : Nat} (h : i < l.length) : l.getD i z = l[i] := by
  rw [List.getD_eq_getElem?_getD, List.getElem?_eq_getElem h]; rfl
theorem pick_bel {α : Type} (z : α) (l : List α) : pick z (bel l.length) l = l := by
  apply List.ext_getElem
  · simp [pick, bel]
  · intro i h1 h2
    simp only [pick, List.getElem_map, bel_get]
    exact getD_get h2
theorem pick_mem {α : Type} {z : α} {row : List Int} {l : List α} {t : α} (h : t ∈ pick z row l) : t ∈ l ∨ t = z := by
  simp only [pick, List.mem_map] at h
  obtain ⟨i, _, rfl⟩ := h
  by_cases hi : i.toNat < l.length
  · rw [getD_get hi]; exact Or.inl (List.getElem_mem hi)
  · right; rw [List.getD_eq_getElem?_getD, List.getElem?_eq_none (by omega)]; rfl

def turnThreads (ll : List (List D)) (row : List Int) : Option (List (List D)) := if prog ll && rowN row ll.length then some (pick [] row ll) else none
theorem turnThreads_bad {ll : List (List D)} {row : List Int} (h : prog ll = false) : turnThreads ll row = none := by simp [turnThreads, h]
theorem turnThreads_row {ll : List (List D)} {row : List Int} (h : rowN row ll.length = false) : turnThreads ll row = none := by simp [turnThreads, h]
theorem turnThreads_yes {ll : List (List D)} {row : List Int} (h : prog ll = true) (h2 : rowN row ll.length = true) : turnThreads ll row = some (pick [] row ll) := by simp [turnThreads, h, h2]
theorem turnThreads_some {ll mm : List (List D)} {row : List Int} (h : turnThreads ll row = some mm) : prog ll = true ∧ rowN row ll.length = true ∧ mm = pick [] row ll := by
  unfold turnThreads at h
  split at h
  · rename_i hc
    simp only [Bool.and_eq_true] at hc
    exact ⟨hc.1, hc.2, (Option.some.inj h).symm⟩
  · cases h
theorem turnThreads_small {ll mm : List (List D)} {row : List Int} (e : (turnThreads ll row).getD [] = mm) : mm.length ≤ 3 ∧ ∀ t ∈ mm, t.length ≤ 7 := by
  cases h : turnThreads ll row with
  | none => rw [h] at e; subst e; simp
  | some x =>
    rw [h] at e
    obtain rfl : x = mm := e
    obtain ⟨h1, h2, rfl⟩ := turnThreads_some h
    obtain ⟨h3, h7⟩ := prog_le h1
    refine ⟨by rw [pick_len, rowN_len h2]; exact h3, fun t ht => ?_⟩
    rcases pick_mem ht with ht | rfl
    · exact h7 t ht
    · simp

/-- Each step another one. -/
def mapS (f : D → D) (ll : List (List D)) : List (List D) := ll.map fun t => t.map f
theorem mapS_len (f : D → D) (ll : List (List D)) : (mapS f ll).length = ll.length := by simp [mapS]
theorem mapS_small {f : D → D} {ll : List (List D)} (h7 : ∀ t ∈ ll, t.length ≤ 7) : ∀ t ∈ mapS f ll, t.length ≤ 7 := by
  intro t ht
  simp only [mapS, List.mem_map] at ht
  obtain ⟨u, hu, rfl⟩ := ht
  rw [List.length_map]; exact h7 u hu
theorem mapS_take (f : D → D) (ll : List (List D)) (n : Nat) (h : n < ll.length) : mapS f (ll.take (n + 1)) = mapS f (ll.take n) ++ [ll[n].map f] := by
  rw [List.take_succ_eq_append_getElem h]; unfold mapS; rw [List.map_append]; rfl

def placeF (row : List Int) (d : D) : D := if uses d.k then ⟨d.k, row.getD d.p.toNat 0, d.v⟩ else d
def valF (row : List Int) (d : D) : D := ⟨d.k, d.p, row.getD d.v.toNat 0⟩
def plainK (k : Int) : Int := if k = 5 then 2 else if k = 6 then 1 else k
def plainF (d : D) : D := ⟨plainK d.k, d.p, d.v⟩

def turnPlaces (ll : List (List D)) (row : List Int) : Option (List (List D)) := if prog ll && rowN row 3 then some (mapS (placeF row) ll) else none
theorem turnPlaces_bad {ll : List (List D)} {row : List Int} (h : prog ll = false) : turnPlaces ll row = none := by simp [turnPlaces, h]
theorem turnPlaces_row {ll : List (List D)} {row : List Int} (h : rowN row 3 = false) : turnPlaces ll row = none := by simp [turnPlaces, h]
theorem turnPlaces_yes {ll : List (List D)} {row : List Int} (h : prog ll = true) (h2 : rowN row 3 = true) : turnPlaces ll row = some (mapS (placeF row) ll) := by simp [turnPlaces, h, h2]
theorem turnPlaces_some {ll mm : List (List D)} {row : List Int} (h : turnPlaces ll row = some mm) : prog ll = true ∧ rowN row 3 = true ∧ mm = mapS (placeF row) ll := by
  unfold turnPlaces at h
  split at h
  · rename_i hc
    simp only [Bool.and_eq_true] at hc
    exact ⟨hc.1, hc.2, (Option.some.inj h).symm⟩
  · cases h
theorem turnPlaces_small {ll mm : List (List D)} {row : List Int} (e : (turnPlaces ll row).getD [] = mm) : mm.length ≤ 3 ∧ ∀ t ∈ mm, t.length ≤ 7 := by
  cases h : turnPlaces ll row with
  | none => rw [h] at e; subst e; simp
  | some x =>
    rw [h] at e
    obtain rfl : x = mm := e
    obtain ⟨h1, h2, rfl⟩ := turnPlaces_some h
    obtain ⟨h3, h7⟩ := prog_le h1
    exact ⟨by rw [mapS_len]; exact h3, mapS_small h7⟩

def turnVals (ll : List (List D)) (row : List Int) : Option (List (List D)) := if prog ll && rowN row 4 && row.getD 0 0 == 0 then some (mapS (valF row) ll) else none
theorem turnVals_bad {ll : List (List D)} {row : List Int} (h : prog ll = false) : turnVals ll row = none := by simp [turnVals, h]
theorem turnVals_row {ll : List (List D)} {row : List Int} (h : rowN row 4 = false) : turnVals ll row = none := by simp [turnVals, h]
theorem turnVals_first {ll : List (List D)} {row : List Int} (h : (row.getD 0 0 == 0) = false) : turnVals ll row = none := by simp only [turnVals, h]; simp
theorem turnVals_yes {ll : List (List D)} {row : List Int} (h : prog ll = true) (h2 : rowN row 4 = true) (h3 : (row.getD 0 0 == 0) = true) : turnVals ll row = some (mapS (valF row) ll) := by simp only [turnVals, h, h2, h3]; simp
theorem turnVals_some {ll mm : List (List D)} {row : List Int} (h : turnVals ll row = some mm) : prog ll = true ∧ rowN row 4 = true ∧ row.getD 0 0 = 0 ∧ mm = mapS (valF row) ll := by
  unfold turnVals at h
  split at h
  · rename_i hc
    simp only [Bool.and_eq_true, beq_iff_eq] at hc
    exact ⟨hc.1.1, hc.1.2, hc.2, (Option.some.inj h).symm⟩
  · cases h
theorem turnVals_small {ll mm : List (List D)} {row : List Int} (e : (turnVals ll row).getD [] = mm) : mm.length ≤ 3 ∧ ∀ t ∈ mm, t.length ≤ 7 := by
  cases h : turnVals ll row with
  | none => rw [h] at e; subst e; simp
  | some x =>
    rw [h] at e
    obtain rfl : x = mm := e
    obtain ⟨h1, h2, _, rfl⟩ := turnVals_some h
    obtain ⟨h3, h7⟩ := prog_le h1
    exact ⟨by rw [mapS_len]; exact h3, mapS_small h7⟩

def turnPlain (ll : List (List D)) : List (List D) := if prog ll then mapS plainF ll else []
theorem turnPlain_bad {ll : List (List D)} (h : prog ll = false) : turnPlain ll = [] := by simp [turnPlain, h]
theorem turnPlain_yes {ll : List (List D)} (h : prog ll = true) : turnPlain ll = mapS plainF ll := by simp [turnPlain, h]
theorem turnPlain_small {ll mm : List (List D)} (e : turnPlain ll = mm) : mm.length ≤ 3 ∧ ∀ t ∈ mm, t.length ≤ 7 := by
  subst e
  cases h : prog ll with
  | false => rw [turnPlain_bad h]; simp
  | true =>
    rw [turnPlain_yes h]
    obtain ⟨h3, h7⟩ := prog_le h
    exact ⟨by rw [mapS_len]; exact h3, mapS_small h7⟩

def turnBeside (ll mm : List (List D)) : Option (List (List D)) := if prog ll && prog mm && prog (ll ++ mm) then some (ll ++ mm) else none
theorem turnBeside_bad {ll mm : List (List D)} (h : prog ll = false) : turnBeside ll mm = none := by simp [turnBeside, h]
theorem turnBeside_bad2 {ll mm : List (List D)} (h : prog mm = false) : turnBeside ll mm = none := by simp [turnBeside, h]
theorem turnBeside_bad3 {ll mm : List (List D)} (h : prog (ll ++ mm) = false) : turnBeside ll mm = none := by simp [turnBeside, h]
theorem turnBeside_yes {ll mm : List (List D)} (h : prog ll = true) (h2 : prog mm = true) (h3 : prog (ll ++ mm) = true) : turnBeside ll mm = some (ll ++ mm) := by simp [turnBeside, h, h2, h3]
theorem turnBeside_some {ll mm nn : List (List D)} (h : turnBeside ll mm = some nn) : prog ll = true ∧ prog mm = true ∧ prog (ll ++ mm) = true ∧ nn = ll ++ mm := by
  unfold turnBeside at h
  split at h
  · rename_i hc
    simp only [Bool.and_eq_true] at hc
    exact ⟨hc.1.1, hc.1.2, hc.2, (Option.some.inj h).symm⟩
  · cases h
theorem turnBeside_small {ll mm nn : List (List D)} (e : (turnBeside ll mm).getD [] = nn) : nn.length ≤ 3 ∧ ∀ t ∈ nn, t.length ≤ 7 := by
  cases h : turnBeside ll mm with
  | none => rw [h] at e; subst e; simp
  | some x =>
    rw [h] at e
    obtain rfl : x = nn := e
    obtain ⟨_, _, h1, rfl⟩ := turnBeside_some h
    exact prog_le h1
end M
end Go.Proofs.Ytiaibfalmmnipaa

namespace Go.Proofs.Ytiaibfalmmnipaa
namespace M

/-- Where the numbers of a row stand: those of the first so many. -/
def backUpto (row : List Int) : Nat → List Int
  | 0 => List.replicate row.length 0
  | k + 1 => (backUpto row k).set (row.getD k 0).toNat k
def back (row : List Int) : List Int := backUpto row row.length
theorem backUpto_len (row : List Int) (k : Nat) : (backUpto row k).length = row.length := by
  induction k with
  | zero => simp [backUpto]
  | succ k ih => rw [backUpto, List.length_set, ih]
theorem back_len (row : List Int) : (back row).length = row.length := backUpto_len _ _

theorem three_of {x : Int} (h : 0 ≤ x ∧ x < 3) : x = 0 ∨ x = 1 ∨ x = 2 := by omega
theorem four_of {x : Int} (h : 0 ≤ x ∧ x < 4) : x = 0 ∨ x = 1 ∨ x = 2 ∨ x = 3 := by omega
theorem row0 {row : List Int} (h : rowN row 0 = true) : row = [] := List.length_eq_zero_iff.1 (rowN_len h)
theorem row1 {row : List Int} (h : rowN row 1 = true) : row = [0] := by
  match row, rowN_len h, rowN_mem h with
  | [x], _, hm => have := hm x (by simp); congr 1; omega
theorem row2 {row : List Int} (h : rowN row 2 = true) : row = [0, 1] ∨ row = [1, 0] := by
  match row, rowN_len h, rowN_mem h, h with
  | [x, y], _, hm, h =>
    have hx := hm x (by simp)
    have hy := hm y (by simp)
    have hx : x = 0 ∨ x = 1 := by omega
    have hy : y = 0 ∨ y = 1 := by omega
    clear hm
    rcases hx with rfl | rfl <;> rcases hy with rfl | rfl <;> first | (exact absurd h (by decide)) | simp
theorem row3 {row : List Int} (h : rowN row 3 = true) : row = [0, 1, 2] ∨ row = [0, 2, 1] ∨ row = [1, 0, 2] ∨ row = [1, 2, 0] ∨ row = [2, 0, 1] ∨ row = [2, 1, 0] := by
  match row, rowN_len h, rowN_mem h, h with
  | [x, y, z], _, hm, h =>
    have hx := three_of (hm x (by simp))
    have hy := three_of (hm y (by simp))
    have hz := three_of (hm z (by simp))
    clear hm
    rcases hx with rfl | rfl | rfl <;> rcases hy with rfl | rfl | rfl <;> rcases hz with rfl | rfl | rfl <;> first | (exact absurd h (by decide)) | simp
theorem row4 {row : List Int} (h : rowN row 4 = true) (h0 : row.getD 0 0 = 0) : row = [0, 1, 2, 3] ∨ row = [0, 1, 3, 2] ∨ row = [0, 2, 1, 3] ∨ row = [0, 2, 3, 1] ∨ row = [0, 3, 1, 2] ∨ row = [0, 3, 2, 1] := by
  match row, rowN_len h, rowN_mem h, h, h0 with
  | [x, y, z, u], _, hm, h, h0 =>
    have hy := four_of (hm y (by simp))
    have hz := four_of (hm z (by simp))
    have hu := four_of (hm u (by simp))
    obtain rfl : x = 0 := by simpa using h0
    clear hm h0
    rcases hy with rfl | rfl | rfl | rfl <;> rcases hz with rfl | rfl | rfl | rfl <;> rcases hu with rfl | rfl | rfl | rfl <;> first | (exact absurd h (by decide)) | simp

/-- How many steps there are. -/
def stp : List (List D) → Nat
  | [] => 0
  | t :: l => t.length + stp l
theorem from_iff (l : List (List D)) : ∀ a u : Nat, progFrom a u l = true ↔ (∀ t ∈ l, thread t = true) ∧ a + stp l ≤ 14 ∧ u + tot uses l ≤ 6 := by
  induction l with
  | nil => intro a u; simp [progFrom, stp, tot]
  | cons t l ih =>
    intro a u
    by_cases hb : thread t = true
    · simp only [progFrom, hb, if_true, ih, stp, tot, List.mem_cons, forall_eq_or_imp, true_and]
      constructor
      · rintro ⟨h1, h2, h3⟩; exact ⟨h1, by omega, by omega⟩
      · rintro ⟨h1, h2, h3⟩; exact ⟨h1, by omega, by omega⟩
    · simp [progFrom, hb]
theorem prog_iff (l : List (List D)) : prog l = true ↔ l.length ≤ 3 ∧ (∀ t ∈ l, thread t = true) ∧ stp l ≤ 14 ∧ tot uses l ≤ 6 := by
  simp only [prog, Bool.and_eq_true, decide_eq_true_eq, from_iff, Nat.zero_add]

theorem threads_back {ll : List (List D)} {row : List Int} (h : prog ll = true) (hr : rowN row ll.length = true) :
    prog (pick [] row ll) = true ∧ tot reads (pick [] row ll) = tot reads ll ∧ rowN (back row) (pick [] row ll).length = true ∧ pick [] (back row) (pick [] row ll) = ll := by
  have h3 := (prog_le h).1
  rw [prog_iff] at h ⊢
  obtain ⟨_, h1, h2, h4⟩ := h
  match ll, h3, hr with
  | [], _, hr => obtain rfl := row0 hr; exact ⟨by simp [pick, stp, tot], rfl, rfl, rfl⟩
  | [a], _, hr =>
    obtain rfl := row1 hr
    exact ⟨⟨by simp [pick], by simpa [pick] using h1, by simpa [pick] using h2, by simpa [pick] using h4⟩, rfl, by rw [pick_len]; decide, rfl⟩
  | [a, b], _, hr =>
    simp only [List.mem_cons, List.not_mem_nil, or_false, forall_eq_or_imp, forall_eq] at h1
    simp only [stp, tot] at h2 h4
    rcases row2 hr with rfl | rfl <;> refine ⟨⟨by simp [pick], by simp [pick, h1], by simp [pick, stp]; omega, by simp [pick, tot]; omega⟩, by simp [pick, tot]; try omega, by rw [pick_len]; decide, rfl⟩
  | [a, b, c], _, hr =>
    simp only [List.mem_cons, List.not_mem_nil, or_false, forall_eq_or_imp, forall_eq] at h1
    simp only [stp, tot] at h2 h4
    rcases row3 hr with rfl | rfl | rfl | rfl | rfl | rfl <;> refine ⟨⟨by simp [pick], by simp [pick, h1], by simp [pick, stp]; omega, by simp [pick, tot]; omega⟩, by simp [pick, tot]; try omega, by rw [pick_len]; decide, rfl⟩

/-- A change of steps that leaves all that is asked of a program. -/
structure Kept (f : D → D) (P : D → Prop) : Prop where
  ok : ∀ d, P d → doOk d = true → doOk (f d) = true
  r : ∀ d, reads (f d).k = reads d.k
  u : ∀ d, uses (f d).k = uses d.k
  k3 : ∀ d, ((f d).k == 3) = (d.k == 3)
  k7 : ∀ d, ((f d).k == 7) = (d.k == 7)
  k8 : ∀ d, ((f d).k == 8) = (d.k == 8)
  k9 : ∀ d, ((f d).k == 9) = (d.k == 9)
theorem Kept.copies {f : D → D} {P : D → Prop} (h : Kept f P) (l : List D) : ∀ r, copies r (l.map f) = copies r l := by
  induction l with
  | nil => intro r; rfl
  | cons d l ih => intro r; simp only [List.map_cons, M.copies, h.k3, h.r, ih]
theorem Kept.readers {f : D → D} {P : D → Prop} (h : Kept f P) (l : List D) : ∀ i, readers i (l.map f) = readers i l := by
  induction l with
  | nil => intro i; rfl
  | cons d l ih => intro i; simp only [List.map_cons, M.readers, h.k7, h.k8, h.k9, ih]
theorem Kept.cnt {f : D → D} {P : D → Prop} (h : Kept f P) (l : List D) : cnt uses (l.map f) = cnt uses l := by
  induction l with
  | nil => rfl
  | cons d l ih => rw [List.map_cons, cnt_cons, cnt_cons, h.u, ih]
theorem Kept.cntR {f : D → D} {P : D → Prop} (h : Kept f P) (l : List D) : M.cnt M.reads (l.map f) = M.cnt M.reads l := by
  induction l with
  | nil => rfl
  | cons d l ih => rw [List.map_cons, cnt_cons, cnt_cons, h.r, ih]
theorem Kept.tot {f : D → D} {P : D → Prop} (h : Kept f P) (ll : List (List D)) : tot uses (mapS f ll) = tot uses ll ∧ tot M.reads (mapS f ll) = tot M.reads ll ∧ stp (mapS f ll) = stp ll := by
  induction ll with
  | nil => exact ⟨rfl, rfl, rfl⟩
  | cons t ll ih =>
    obtain ⟨i1, i2, i3⟩ := ih
    unfold mapS at i1 i2 i3 ⊢
    simp only [List.map_cons, M.tot, stp, h.cnt, h.cntR, i1, i2, i3, List.length_map]
    simp
theorem Kept.thread {f : D → D} {P : D → Prop} (h : Kept f P) {t : List D} (ht : thread t = true) (hP : ∀ d ∈ t, P d) : M.thread (t.map f) = true := by
  simp only [M.thread, form, Bool.and_eq_true, decide_eq_true_eq, List.all_eq_true, List.length_map, h.copies, h.readers] at ht ⊢
  refine ⟨⟨⟨ht.1.1.1, fun d hd => ?_⟩, ht.1.2⟩, ht.2⟩
  obtain ⟨x, hx, rfl⟩ := List.mem_map.1 hd
  exact h.ok x (hP x hx) (ht.1.1.2 x hx)
theorem Kept.prog {f : D → D} {P : D → Prop} (h : Kept f P) {ll : List (List D)} (hp : prog ll = true) (hP : ∀ t ∈ ll, ∀ d ∈ t, P d) : M.prog (mapS f ll) = true := by
  rw [prog_iff] at hp ⊢
  obtain ⟨h1, h2, h3, h4⟩ := hp
  obtain ⟨k1, _, k3⟩ := h.tot ll
  refine ⟨by rw [mapS_len]; exact h1, fun t ht => ?_, by rw [k3]; exact h3, by rw [k1]; exact h4⟩
  obtain ⟨x, hx, rfl⟩ := List.mem_map.1 ht
  exact h.thread (h2 x hx) (hP x hx)

theorem place_kept {row : List Int} (hr : rowN row 3 = true) : Kept (placeF row) (fun _ => True) := by
  have hk : ∀ d, (placeF row d).k = d.k := fun d => by unfold placeF; split <;> rfl
  refine ⟨fun d _ hd => ?_, fun d => by rw [hk], fun d => by rw [hk], fun d => by rw [hk], fun d => by rw [hk], fun d => by rw [hk], fun d => by rw [hk]⟩
  unfold placeF
  cases hu : uses d.k
  · simpa using hd
  · simp only [if_true]
    simp only [doOk, placeOk, hu, if_true, Bool.and_eq_true, decide_eq_true_eq] at hd ⊢
    refine ⟨⟨hd.1.1, ?_⟩, hd.2⟩
    have hl := rowN_len hr
    rw [getD_get (by omega)]
    exact rowN_get hr _ (by omega)
theorem place_back {row : List Int} (hr : rowN row 3 = true) {d : D} (hd : doOk d = true) : placeF (back row) (placeF row d) = d := by
  obtain ⟨k, p, v⟩ := d
  unfold placeF
  cases hu : uses k
  · simp [hu]
  · simp only [if_true, hu]
    simp only [doOk, placeOk, hu, if_true, Bool.and_eq_true, decide_eq_true_eq] at hd
    have hp := three_of hd.1.2
    clear hd
    rcases row3 hr with rfl | rfl | rfl | rfl | rfl | rfl <;> rcases hp with rfl | rfl | rfl <;> rfl
theorem back_row3 {row : List Int} (hr : rowN row 3 = true) : rowN (back row) 3 = true := by
  rcases row3 hr with rfl | rfl | rfl | rfl | rfl | rfl <;> decide
theorem mapS_back {f g : D → D} {ll : List (List D)} (h : ∀ t ∈ ll, ∀ d ∈ t, g (f d) = d) : mapS g (mapS f ll) = ll := by
  unfold mapS
  rw [List.map_map]
  conv => rhs; rw [← List.map_id ll]
  apply List.map_congr_left
  intro t ht
  simp only [Function.comp, List.map_map, id]
  conv => rhs; rw [← List.map_id t]
  apply List.map_congr_left
  intro d hd
  exact h t ht d hd
theorem prog_dos {ll : List (List D)} (h : prog ll = true) : ∀ t ∈ ll, ∀ d ∈ t, doOk d = true := by
  intro t ht d hd
  have := ((prog_iff ll).1 h).2.1 t ht
  simp only [M.thread, form, Bool.and_eq_true, List.all_eq_true] at this
  exact this.1.1.2 d hd
theorem places_back {ll : List (List D)} {row : List Int} (h : prog ll = true) (hr : rowN row 3 = true) : prog (mapS (placeF row) ll) = true ∧ rowN (back row) 3 = true ∧ mapS (placeF (back row)) (mapS (placeF row) ll) = ll :=
  ⟨(place_kept hr).prog h (fun _ _ _ _ => trivial), back_row3 hr, mapS_back fun t ht d hd => place_back hr (prog_dos h t ht d hd)⟩

theorem val_in {row : List Int} (hr : rowN row 4 = true) (h0 : row.getD 0 0 = 0) {k v : Int} (h : valOk k v = true) : 0 ≤ v ∧ v < 4 ∧ valOk k (row.getD v.toNat 0) = true ∧ (back row).getD (row.getD v.toNat 0).toNat 0 = v := by
  unfold valOk at h ⊢
  cases hs : stores k
  · simp only [hs, Bool.false_eq_true, if_false, beq_iff_eq] at h ⊢
    subst h
    rcases row4 hr h0 with rfl | rfl | rfl | rfl | rfl | rfl <;> decide
  · simp only [hs, if_true, Bool.and_eq_true, decide_eq_true_eq] at h ⊢
    have hv : v = 1 ∨ v = 2 ∨ v = 3 := by omega
    clear h
    rcases row4 hr h0 with rfl | rfl | rfl | rfl | rfl | rfl <;> rcases hv with rfl | rfl | rfl <;> decide
theorem val_kept {row : List Int} (hr : rowN row 4 = true) (h0 : row.getD 0 0 = 0) : Kept (valF row) (fun _ => True) := by
  refine ⟨fun d _ hd => ?_, fun d => rfl, fun d => rfl, fun d => rfl, fun d => rfl, fun d => rfl, fun d => rfl⟩
  simp only [doOk, valF, Bool.and_eq_true] at hd ⊢
  exact ⟨hd.1, (val_in hr h0 hd.2).2.2.1⟩
theorem val_back {row : List Int} (hr : rowN row 4 = true) (h0 : row.getD 0 0 = 0) {d : D} (hd : doOk d = true) : valF (back row) (valF row d) = d := by
  obtain ⟨k, p, v⟩ := d
  simp only [doOk, Bool.and_eq_true] at hd
  have := (val_in hr h0 hd.2).2.2.2
  simp only [valF]
  congr 1
theorem back_row4 {row : List Int} (hr : rowN row 4 = true) (h0 : row.getD 0 0 = 0) : rowN (back row) 4 = true ∧ (back row).getD 0 0 = 0 := by
  rcases row4 hr h0 with rfl | rfl | rfl | rfl | rfl | rfl <;> decide
theorem vals_back {ll : List (List D)} {row : List Int} (h : prog ll = true) (hr : rowN row 4 = true) (h0 : row.getD 0 0 = 0) : prog (mapS (valF row) ll) = true ∧ rowN (back row) 4 = true ∧ (back row).getD 0 0 = 0 ∧ mapS (valF (back row)) (mapS (valF row) ll) = ll :=
  ⟨(val_kept hr h0).prog h (fun _ _ _ _ => trivial), (back_row4 hr h0).1, (back_row4 hr h0).2, mapS_back fun t ht d hd => val_back hr h0 (prog_dos h t ht d hd)⟩
end M
end Go.Proofs.Ytiaibfalmmnipaa

namespace Go.Proofs.Ytiaibfalmmnipaa
namespace M

theorem plainK_cases (k : Int) : (k = 5 ∧ plainK k = 2) ∨ (k = 6 ∧ plainK k = 1) ∨ (plainK k = k ∧ k ≠ 5 ∧ k ≠ 6) := by
  unfold plainK
  by_cases h5 : k = 5
  · left; exact ⟨h5, by simp [h5]⟩
  · by_cases h6 : k = 6
    · right; left; exact ⟨h6, by simp [h6]⟩
    · right; right; exact ⟨by simp [h5, h6], h5, h6⟩
theorem plain_kept : Kept plainF (fun _ => True) := by
  refine ⟨fun d _ hd => ?_, fun d => ?_, fun d => ?_, fun d => ?_, fun d => ?_, fun d => ?_, fun d => ?_⟩
  · obtain ⟨k, p, v⟩ := d
    simp only [plainF]
    rcases plainK_cases k with ⟨rfl, e⟩ | ⟨rfl, e⟩ | ⟨e, _⟩
    · rw [e]; simpa [doOk, wordOk, placeOk, valOk, uses, reads, writes, stores] using hd
    · rw [e]; simpa [doOk, wordOk, placeOk, valOk, uses, reads, writes, stores] using hd
    · rw [e]; exact hd
  all_goals
    obtain ⟨k, p, v⟩ := d
    simp only [plainF]
    rcases plainK_cases k with ⟨rfl, e⟩ | ⟨rfl, e⟩ | ⟨e, _⟩ <;> rw [e] <;> rfl
theorem plain_twice (d : D) : plainF (plainF d) = plainF d := by
  obtain ⟨k, p, v⟩ := d
  simp only [plainF]
  congr 1
  rcases plainK_cases k with ⟨rfl, e⟩ | ⟨rfl, e⟩ | ⟨e, _⟩
  · rfl
  · rfl
  · rw [e, e]
theorem mapS_twice (ll : List (List D)) : mapS plainF (mapS plainF ll) = mapS plainF ll := by
  unfold mapS
  rw [List.map_map]
  apply List.map_congr_left
  intro t _
  simp only [Function.comp, List.map_map]
  apply List.map_congr_left
  intro d _
  exact plain_twice d
theorem turnPlain_fact {ll qq : List (List D)} (e : turnPlain ll = qq) (h : prog ll = true) : prog qq = true ∧ turnPlain qq = qq ∧ nreads qq = nreads ll := by
  rw [turnPlain_yes h] at e
  subst e
  have hp := plain_kept.prog h (fun _ _ _ _ => trivial)
  exact ⟨hp, by rw [turnPlain_yes hp, mapS_twice], by rw [nreads_ok hp, nreads_ok h, (plain_kept.tot ll).2.1]⟩
end M
end Go.Proofs.Ytiaibfalmmnipaa

namespace Go.Proofs.Ytiaibfalmmnipaa
open Go.RowKit

def M.eqD (d e : M.D) : Bool := d.k == e.k && d.p == e.p && d.v == e.v
theorem M.eqD_iff (d e : M.D) : M.eqD d e = true ↔ d = e := by
  obtain ⟨k, p, v⟩ := d
  obtain ⟨k', p', v'⟩ := e
  simp [M.eqD, and_assoc]

theorem Try.eqDo (d e : M.D) (w : World) : (Op.equalIn 10000 66 (.agg #[.int .i64 d.k, .int .i64 d.p, .int .i64 d.v]) (.agg #[.int .i64 e.k, .int .i64 e.p, .int .i64 e.v])).run Try.prog w = .ok (M.eqD d e) w := by
  have hs : Try.prog.stoodInHeld 66 = false := by kernel_rfl
  obtain ⟨k, p, v⟩ := d
  obtain ⟨k', p', v'⟩ := e
  rw [show (10000 : Nat) = 9998 + 1 + 1 from rfl]
  unfold Op.equalIn
  by_cases h1 : k = k'
  · subst h1
    by_cases h2 : p = p'
    · subst h2
      by_cases h3 : v = v'
      · subst h3
        simp [run_underlying Try.underlying66, hs, part, go_sem, M.eqD]
      · have e3 : (v == v') = false := by simpa using h3
        simp [run_underlying Try.underlying66, hs, part, go_sem, M.eqD, e3]
    · have e2 : (p == p') = false := by simpa using h2
      simp [run_underlying Try.underlying66, hs, part, go_sem, M.eqD, e2]
  · have e1 : (k == k') = false := by simpa using h1
    simp [run_underlying Try.underlying66, hs, part, go_sem, M.eqD, e1]

/-- Two programs are the same. -/
noncomputable def M.eqLL (ll mm : List (List M.D)) : Bool := @decide (ll = mm) (Classical.propDecidable _)
theorem M.eqLL_yes {ll mm : List (List M.D)} (h : ll = mm) : M.eqLL ll mm = true := by unfold M.eqLL; exact @decide_eq_true _ (Classical.propDecidable _) h
theorem M.eqLL_no {ll mm : List (List M.D)} (h : ll ≠ mm) : M.eqLL ll mm = false := by unfold M.eqLL; exact @decide_eq_false _ (Classical.propDecidable _) h
theorem Below.drewN' {B : Nat} {a b : World} (h : Below B a b) (n : Nat) : Below B a (b.drewN n) := h.trans ⟨rfl, rfl, rfl, Nat.le_refl _, fun _ _ => rfl⟩

/-- As many, and the same so far. -/
def AsFar {α : Type} (l m : List α) (n : Nat) : Prop := ∀ i, i < n → l[i]? = m[i]?
theorem AsFar.all {α : Type} {l m : List α} {n : Nat} (h : AsFar l m n) (hl : l.length = m.length) (hn : l.length ≤ n) : l = m := by
  apply List.ext_getElem?
  intro i
  rcases Nat.lt_or_ge i n with hi | hi
  · exact h i hi
  · rw [List.getElem?_eq_none (by omega), List.getElem?_eq_none (by omega)]
theorem AsFar.step {α : Type} {l m : List α} {n : Nat} (h : AsFar l m n) (e : l[n]? = m[n]?) : AsFar l m (n + 1) := fun i hi => by
  rcases Nat.lt_or_ge i n with h1 | h1
  · exact h i h1
  · obtain rfl : i = n := by omega
    exact e

end Go.Proofs.Ytiaibfalmmnipaa

namespace Go.Proofs.Ytiaibfalmmnipaa
open Go.RowKit

namespace M
/-- The first so many steps changed. -/
def curT (f : D → D) (k : Nat) (t : List D) : List D := (t.take k).map f ++ t.drop k
theorem curT_zero (f : D → D) (t : List D) : curT f 0 t = t := by simp [curT]
theorem curT_len (f : D → D) (k : Nat) (t : List D) : (curT f k t).length = t.length := by simp [curT]; omega
theorem curT_all (f : D → D) (k : Nat) (t : List D) (h : t.length ≤ k) : curT f k t = t.map f := by
  unfold curT; rw [List.take_of_length_le h, List.drop_eq_nil_of_le h, List.append_nil]
theorem curT_get (f : D → D) (k : Nat) (t : List D) (h : k < t.length) (h' : k < (curT f k t).length) : (curT f k t)[k] = t[k] := by
  have e : (curT f k t)[k]? = t[k]? := by
    unfold curT
    rw [List.getElem?_append_right (by simp; omega)]
    simp [Nat.min_eq_left (Nat.le_of_lt h)]
  rw [List.getElem?_eq_getElem h', List.getElem?_eq_getElem h] at e
  exact Option.some.inj e
theorem curT_set (f : D → D) (k : Nat) (t : List D) (h : k < t.length) : (curT f k t).set k (f t[k]) = curT f (k + 1) t := by
  unfold curT
  have e : (t.drop k).set 0 (f t[k]) = f t[k] :: t.drop (k + 1) := by
    have := (List.getElem_cons_drop h).symm
    generalize t.drop k = x at *
    subst this
    rfl
  rw [List.take_succ_eq_append_getElem h, List.map_append, List.set_append_right _ _ (by simp; omega)]
  simp [Nat.min_eq_left (Nat.le_of_lt h), e]
/-- The first so many threads changed, and of the next one the first so many steps. -/
def cur (f : D → D) (n k : Nat) (ll : List (List D)) : List (List D) := ll.mapIdx fun i t => if i < n then t.map f else if i = n then curT f k t else t
theorem cur_len (f : D → D) (n k : Nat) (ll : List (List D)) : (cur f n k ll).length = ll.length := by simp [cur]
theorem cur_zero (f : D → D) (ll : List (List D)) : cur f 0 0 ll = ll := by
  apply List.ext_getElem (cur_len _ _ _ _)
  intro i h1 h2
  simp only [cur, List.getElem_mapIdx, Nat.not_lt_zero, if_false, curT_zero, ite_self]
theorem cur_get (f : D → D) (n k : Nat) (ll : List (List D)) (h : n < ll.length) (h' : n < (cur f n k ll).length) : (cur f n k ll)[n] = curT f k ll[n] := by
  simp [cur]
theorem cur_set (f : D → D) (n k : Nat) (ll : List (List D)) (h : n < ll.length) (hk : k < ll[n].length) : (cur f n k ll).set n ((curT f k ll[n]).set k (f ll[n][k])) = cur f n (k + 1) ll := by
  rw [curT_set f k _ hk]
  apply List.ext_getElem (by simp [cur])
  intro i h1 h2
  by_cases e : n = i
  · subst e; rw [List.getElem_set_self]; simp [cur]
  · rw [List.getElem_set_ne e]
    have e' : ¬ i = n := fun h => e h.symm
    simp only [cur, List.getElem_mapIdx, e', if_false]
theorem cur_next (f : D → D) (n k : Nat) (ll : List (List D)) (h : n < ll.length) (hk : ll[n].length ≤ k) : cur f n k ll = cur f (n + 1) 0 ll := by
  apply List.ext_getElem (by simp [cur])
  intro i h1 h2
  simp only [cur, List.getElem_mapIdx, curT_zero, ite_self]
  by_cases e : i < n
  · rw [if_pos e, if_pos (by omega)]
  · by_cases e2 : i = n
    · subst e2; rw [if_neg e, if_pos rfl, if_pos (by omega), curT_all f k _ hk]
    · rw [if_neg e, if_neg e2, if_neg (by omega)]
theorem cur_all (f : D → D) (n k : Nat) (ll : List (List D)) (h : ll.length ≤ n) : cur f n k ll = mapS f ll := by
  apply List.ext_getElem (by simp [cur, mapS])
  intro i h1 h2
  have : i < ll.length := by simpa [cur] using h1
  simp only [cur, mapS, List.getElem_mapIdx, List.getElem_map]
  rw [if_pos (by omega)]
end M

theorem flat_set0 (l : List M.D) : ∀ (k : Nat) (h : k < l.length) (d : M.D), d.p = l[k].p → d.v = l[k].v → (flat l).set (k * 3) (.int .i64 d.k) = flat (l.set k d) := by
  induction l with
  | nil => intro k h; exact absurd h (Nat.not_lt_zero _)
  | cons x l ih =>
    intro k h d h1 h2
    cases k with
    | zero => simp only [List.getElem_cons_zero] at h1 h2; simp [flat, h1, h2]
    | succ k => rw [show (k + 1) * 3 = k * 3 + 3 from by omega]; simpa [flat] using ih k (by simpa using h) d (by simpa using h1) (by simpa using h2)
theorem flat_set1 (l : List M.D) : ∀ (k : Nat) (h : k < l.length) (d : M.D), d.k = l[k].k → d.v = l[k].v → (flat l).set (k * 3 + 1) (.int .i64 d.p) = flat (l.set k d) := by
  induction l with
  | nil => intro k h; exact absurd h (Nat.not_lt_zero _)
  | cons x l ih =>
    intro k h d h1 h2
    cases k with
    | zero => simp only [List.getElem_cons_zero] at h1 h2; simp [flat, h1, h2]
    | succ k => rw [show (k + 1) * 3 + 1 = k * 3 + 1 + 3 from by omega]; simpa [flat] using ih k (by simpa using h) d (by simpa using h1) (by simpa using h2)
theorem flat_set2 (l : List M.D) : ∀ (k : Nat) (h : k < l.length) (d : M.D), d.k = l[k].k → d.p = l[k].p → (flat l).set (k * 3 + 2) (.int .i64 d.v) = flat (l.set k d) := by
  induction l with
  | nil => intro k h; exact absurd h (Nat.not_lt_zero _)
  | cons x l ih =>
    intro k h d h1 h2
    cases k with
    | zero => simp only [List.getElem_cons_zero] at h1 h2; simp [flat, h1, h2]
    | succ k => rw [show (k + 1) * 3 + 2 = k * 3 + 2 + 3 from by omega]; simpa [flat] using ih k (by simpa using h) d (by simpa using h1) (by simpa using h2)

/-- A step is another one then; all else is as it was. -/
def Chg (w w' : World) (g off : Nat) (d d' : M.D) : Prop := ∃ q, (w' = w.drewN q ∧ d' = d) ∨ (w' = (w.drewN q).setCell ⟨g, off, none⟩ (.int .i64 d'.k) ∧ d'.p = d.p ∧ d'.v = d.v) ∨ (w' = (w.drewN q).setCell ⟨g, off + 1, none⟩ (.int .i64 d'.p) ∧ d'.k = d.k ∧ d'.v = d.v) ∨ (w' = (w.drewN q).setCell ⟨g, off + 2, none⟩ (.int .i64 d'.v) ∧ d'.k = d.k ∧ d'.p = d.p)

theorem drewN_below (w : World) (q : Nat) : Below w.heap.size w (w.drewN q) := ⟨rfl, rfl, rfl, Nat.le_refl _, fun _ _ => rfl⟩
theorem own_chg {w w' : World} {B g n cap k : Nat} {l : List M.D} {d' : M.D} (h : w.ownsRow B 66 3 (.slice (some ⟨g, 0, none⟩) n cap) n (flat l)) (hk : k < l.length) (hc : Chg w w' g (k * 3) l[k] d') :
    w'.ownsRow B 66 3 (.slice (some ⟨g, 0, none⟩) n cap) n (flat (l.set k d')) ∧ w.grownBy w' (some g) := by
  obtain ⟨q, hc⟩ := hc
  have hq := ownsRow_below h (drewN_below w q)
  have gq : ∀ W, (w.drewN q).grownBy W (some g) → w.grownBy W (some g) := fun W hg => ⟨hg.os, hg.tape, hg.output, hg.size, hg.block⟩
  rcases hc with ⟨rfl, rfl⟩ | ⟨rfl, h1, h2⟩ | ⟨rfl, h1, h2⟩ | ⟨rfl, h1, h2⟩
  · exact ⟨by rw [List.set_getElem_self]; exact hq, ⟨rfl, rfl, rfl, Nat.le_refl _, fun _ _ _ => rfl⟩⟩
  · obtain ⟨ho, hg⟩ := hq.stored (k * 3) (.int .i64 d'.k)
    rw [flat_set0 l k hk d' h1 h2] at ho
    exact ⟨ho, gq _ hg⟩
  · obtain ⟨ho, hg⟩ := hq.stored (k * 3 + 1) (.int .i64 d'.p)
    rw [flat_set1 l k hk d' h1 h2] at ho
    exact ⟨ho, gq _ hg⟩
  · obtain ⟨ho, hg⟩ := hq.stored (k * 3 + 2) (.int .i64 d'.v)
    rw [flat_set2 l k hk d' h1 h2] at ho
    exact ⟨ho, gq _ hg⟩

theorem Rdg.chg {w w' : World} {B : Nat} {v : Value} {ll : List (List M.D)} {vs : List Value} {n k g m cap : Nat} {d' : M.D} (h : Rdg w B v ll vs) (hn : n < ll.length) (hv : n < vs.length) (he : vs[n] = .slice (some ⟨g, 0, none⟩) m cap) (hk : k < ll[n].length) (hc : Chg w w' g (k * 3) ll[n][k] d') :
    Rdg w' B v (ll.set n (ll[n].set k d')) vs ∧ w.grownBy w' (some g) ∧ B ≤ g := by
  have hin := h.b.inner n hn hv
  have hm : m = ll[n].length := by
    rcases hin.2 with ⟨e, _⟩ | ⟨_, _, _, e, _⟩
    · rw [he] at e; simp at e
    · rw [he] at e; simp only [Value.slice.injEq] at e; exact e.2.1
  subst hm
  have hin' := hin
  rw [he] at hin'
  obtain ⟨ho, hg⟩ := own_chg hin' hk hc
  have hBg : B ≤ g := own_ge hin' g rfl
  refine ⟨⟨⟨?_, by rw [List.length_set]; exact h.b.len, fun i h1 h2 => ?_⟩, h.ap⟩, hg, hBg⟩
  · rw [List.length_set]
    refine h.b.outer.kept hg ?_
    rcases own_apart h.b.outer hin' (by decide) with e | e
    · exact Or.inl e
    · exact Or.inr e
  · by_cases e : n = i
    · subst e
      rw [List.getElem_set_self, he, List.length_set]
      exact ho
    · rw [List.getElem_set_ne e]
      have h1' : i < ll.length := by simpa using h1
      refine (h.b.inner i h1' h2).kept hg ?_
      cases hb : vs[i].ownBlock with
      | none => exact Or.inl rfl
      | some kk =>
        refine Or.inr fun e2 => ?_
        have := h.ap i n h2 hv (fun e3 => e e3.symm) kk hb
        rw [he] at this
        exact this (by simp only [Value.ownBlock]; exact e2.symm)

/-- What lies in the list of threads. -/
theorem Rdg.outer_at {w : World} {B cv n : Nat} {av : Option Addr} {ll : List (List M.D)} {vs : List Value} (h : Rdg w B (.slice av ll.length cv) ll vs) (hn : n < ll.length) : ∃ gv, av = some ⟨gv, 0, none⟩ ∧ ∃ hv : n < vs.length, w.cell? ⟨gv, n, none⟩ = some vs[n] := by
  have hv : n < vs.length := by rw [h.b.len]; exact hn
  rcases h.b.outer.2 with ⟨e, h0⟩ | ⟨g, cap, cur, e, hg, hh, r⟩
  · omega
  · simp only [Value.slice.injEq] at e
    obtain ⟨rfl, _, rfl⟩ := e
    have hc := h.b.outer.cells (g := g) rfl n vs[n] (List.getElem?_eq_getElem hv)
    rw [Go.WideShapes.add_plain, Nat.zero_add] at hc
    exact ⟨g, rfl, hv, hc⟩
/-- .. and in a thread. -/
theorem Rdg.inner_at {w : World} {B n : Nat} {v : Value} {ll : List (List M.D)} {vs : List Value} (h : Rdg w B v ll vs) (hn : n < ll.length) (hv : n < vs.length) : ∃ a' c', vs[n] = .slice a' ll[n].length c' ∧ (0 < ll[n].length → ∃ g, a' = some ⟨g, 0, none⟩ ∧ B ≤ g ∧ Row w g 0 ll[n] ∧ ∀ i, w.frozen? ⟨g, i, none⟩ = false) := by
  have hin := h.b.inner n hn hv
  rcases hin.2 with ⟨e, h0⟩ | ⟨g, cap, cur, e, hg, hh, r⟩
  · exact ⟨none, 0, by rw [e, h0], fun h => by omega⟩
  · refine ⟨_, cap, e, fun hpos => ⟨g, rfl, hg, ?_, ?_⟩⟩
    · obtain ⟨a2, g2, c2, e2, hd, _⟩ := own_steps hin
      rw [e] at e2
      simp only [Value.slice.injEq] at e2
      obtain ⟨rfl, _, _⟩ := e2
      have := hd.addr hpos
      simp at this
      rw [this]; exact hd.row
    · rw [e] at hin; exact fun i => own_fzS hin i

end Go.Proofs.Ytiaibfalmmnipaa

namespace Go.Proofs.Ytiaibfalmmnipaa
open Go.RowKit

set_option maxHeartbeats 400000 in
set_option maxRecDepth 100000 in
theorem rowOf_any (a : Option Addr) (b o c : Nat) (row : List Int) (a2 : Option Addr) (b2 o2 c2 : Nat) (evs : List Int) (w : World) (hl : row.length ≤ 1048576) (hl2 : evs.length ≤ 1048576) (h : IntS w a b o row) (h2 : IntS w a2 b2 o2 evs) :
    Calls Try.prog 94 #[.slice a row.length c, .slice a2 evs.length c2] w fun e w' => e = .returned (.bool (M.rowOf row evs)) ∧ w' = w := by
  by_cases hln : row.length = evs.length
  · have HF : Hid (M.rowOf row evs = evs.all (fun v => M.has row v)) := M.rowOf_same hln
    have hq : ((row.length : Int) != evs.length) = false := by simp; omega
    have HL : Hid (row.length = evs.length) := hln
    clear hln
    go_enter Try.func94, Try.ntmps94
    go_wp2_with fail
    go_loopw [14] (fun s14 wr => ∃ n : Nat, s14 = .int .i64 n ∧ n ≤ evs.length ∧ Hid (evs.all (fun v => M.has row v) = (evs.drop n).all (fun v => M.has row v)) ∧ wr = w) (fun s14 _ => evs.length - (intOf s14).toNat)
    case atStart => exact ⟨0, rfl, Nat.zero_le _, by show _ = _; rfl, rfl⟩
    case round =>
      obtain ⟨n, rfl, hn, HA, rfl⟩ := hrel
      by_cases hlt : n < evs.length
      · obtain ⟨rfl⟩ := h2.addr (by omega)
        have hx := h2.row n hlt
        have HS : Hid (evs.all (fun v => M.has row v) = (M.has row evs[n] && (evs.drop (n + 1)).all (fun v => M.has row v))) := M.rowAll_step HA.out hlt
        clear HA
        generalize evs[n] = y at *
        have i1 : (n : Int) < evs.length := by omega
        cases hh : M.has row y
        · go_wp2_with (go_at_call 92; refine (containsI_any a b o c row y _ hl h).mono ?_; rw [hh]; rintro e w' ⟨rfl, rfl⟩)
          go_ret
          exact ⟨ret_bool (by rw [HF.out, HS.out, hh]; rfl), rfl⟩
        · go_wp2_with (go_at_call 92; refine (containsI_any a b o c row y _ hl h).mono ?_; rw [hh]; rintro e w' ⟨rfl, rfl⟩)
          exact ⟨⟨n + 1, by go_num, by omega, by show _ = _; rw [HS.out, hh]; rfl, trivial⟩, by simp [intOf]; omega⟩
      · go_wp2_with fail
        go_ret
        exact ⟨ret_bool (by rw [HF.out, HA.out, List.drop_eq_nil_of_le (by omega)]; rfl), rfl⟩
  · have hln' : ((row.length : Int) == evs.length) = false := by simp; omega
    go_enter Try.func94, Try.ntmps94
    go_wp2_with fail
    go_ret
    exact ⟨ret_bool (M.rowOf_short hln).symm, rfl⟩

end Go.Proofs.Ytiaibfalmmnipaa

namespace Go.Proofs.Ytiaibfalmmnipaa
open Go.RowKit

/-- What a row makes of things: nothing, if it is none. -/
def M.turned {α : Type} (z : α) (row : List Int) (l : List α) : List α := if M.rowN row l.length then M.pick z row l else []
theorem M.turned_no {α : Type} {z : α} {row : List Int} {l : List α} (h : M.rowN row l.length = false) : M.turned z row l = [] := by simp [M.turned, h]
theorem M.turned_yes {α : Type} {z : α} {row : List Int} {l : List α} (h : M.rowN row l.length = true) : M.turned z row l = M.pick z row l := by simp [M.turned, h]

/-- Values that are threads. -/
def Thx (w : World) (vs : List Value) (ll : List (List M.D)) : Prop := vs.length = ll.length ∧ ∀ i (h1 : i < ll.length) (h2 : i < vs.length), ∃ a' b' o' c', vs[i] = .slice a' ll[i].length c' ∧ DoS w a' b' o' ll[i]
theorem Thx.nil (w : World) : Thx w [] [] := ⟨rfl, fun _ h => absurd h (Nat.not_lt_zero _)⟩
theorem Thx.below {w w' : World} {vs : List Value} {ll : List (List M.D)} {B : Nat} (h : Thx w vs ll) (hb : Below B w w') (hB : w.heap.size ≤ B) : Thx w' vs ll :=
  ⟨h.1, fun i h1 h2 => by obtain ⟨a', b', o', c', e, hd⟩ := h.2 i h1 h2; exact ⟨a', b', o', c', e, hd.below hb hB⟩⟩
theorem Thx.snoc {w : World} {vs : List Value} {ll : List (List M.D)} {a : Option Addr} {b o c : Nat} {l : List M.D} (h : Thx w vs ll) (hd : DoS w a b o l) : Thx w (vs ++ [.slice a l.length c]) (ll ++ [l]) := by
  have hl := h.1
  refine ⟨by simp [hl], fun i h1 h2 => ?_⟩
  by_cases hi : i < ll.length
  · rw [List.getElem_append_left (by omega), List.getElem_append_left hi]
    exact h.2 i hi (by omega)
  · have : i = ll.length := by simp at h1; omega
    subst this
    have e1 : (ll ++ [l])[ll.length] = l := by simp
    have e2 : (vs ++ [Value.slice a l.length c])[ll.length] = .slice a l.length c := by
      rw [List.getElem_append_right (by omega)]
      simp [hl]
    rw [e1, e2]
    exact ⟨a, b, o, c, rfl, hd⟩
theorem Thx.ss {w : World} {B : Nat} {v : Value} {vs : List Value} {ll : List (List M.D)} (h : Thx w vs ll) (ho : w.ownsRow B 63 1 v ll.length vs) : ∃ a g c, v = .slice a ll.length c ∧ DoSS w a g 0 ll := by
  have hl := h.1
  rcases ho.2 with ⟨hv, hn⟩ | ⟨g, cap, cur, hv, hg, hh, r⟩
  · have : ll = [] := List.length_eq_zero_iff.1 hn
    subst this
    exact ⟨none, 0, 0, hv, ⟨fun h => absurd h (Nat.lt_irrefl _), fun i hi => absurd hi (Nat.not_lt_zero _)⟩⟩
  · refine ⟨_, g, cap, hv, ⟨fun _ => rfl, fun i hi => ?_⟩⟩
    have hc := ho.cells (g := g) (by rw [hv]; rfl) i vs[i] (List.getElem?_eq_getElem (by omega))
    rw [Go.WideShapes.add_plain] at hc
    obtain ⟨a', b', o', c', e, hd⟩ := h.2 i hi (by omega)
    rw [e] at hc
    exact ⟨a', b', o', c', hc, hd⟩

end Go.Proofs.Ytiaibfalmmnipaa

namespace Go.Proofs.Ytiaibfalmmnipaa
open Go.RowKit

set_option maxHeartbeats 1000000 in
theorem newListD_any (a : Option Addr) (b o c : Nat) (l : List M.D) (w : World) (hl : l.length ≤ 1048576) (h : DoS w a b o l) :
    Calls Try.prog 77 #[.slice a l.length c] w fun e w' => ∃ v, e = .returned v ∧ w'.ownsRow w.heap.size 66 3 v l.length (flat l) ∧ Below w.heap.size w w' := by
  obtain ⟨i0, hi, hz0, hz1, hz2⟩ := info_parts Try.info66
  rcases Nat.eq_zero_or_pos l.length with h0 | hpos
  · have hl0 : l = [] := List.length_eq_zero_iff.1 h0
    subst hl0
    rw [List.length_nil]
    go_enter Try.func77, Try.ntmps77
    go_wp2_with (at_builtin; refine wpList_append_nilT rfl (.const (.slice none 0 0)) (.tmp 3) 63 rfl 66 i0 Try.underlying63 hi rfl a c rfl ?_)
    go_wp2_with fail
    go_ret
    exact ⟨_, rfl, World.ownsRow_nil _ _ _ _, Below.refl _ _⟩
  · obtain ⟨rfl⟩ := h.addr hpos
    go_enter Try.func77, Try.ntmps77
    go_wp2_with (at_builtin; refine wpList_append_lies _ rfl (.const (.slice none 0 0)) (.tmp 3) 63 rfl w.heap.size 66 i0 _ 3 24 Try.underlying63 hi hz0 hz1 hz2 rfl (by decide) _ 0 [] rfl (World.ownsRow_nil _ _ _ _) ⟨b, o, none⟩ l.length c (flat l) rfl (flat_length l) (DoS.flat_cells h.row) (flat_one' l) hpos (by unfold maxLen; omega) (by omega) (Nat.le_refl _) w.heap.size rfl ?_)
    intro g cap w1 hown hg hat hlt
    have hb : Below w.heap.size w w1 := ⟨hg.os, hg.tape, hg.output, hg.size, fun k hk => hg.block k hk (fun e => by simp [Value.ownBlock] at e)⟩
    have hown' : w1.ownsRow w.heap.size 66 3 (.slice (some ⟨g, 0, none⟩) l.length cap) l.length (flat l) := by simpa using hown
    go_wp2_with fail
    go_ret
    exact ⟨_, by first | rfl | simp, hown', hb⟩

set_option maxHeartbeats 4000000 in
set_option maxRecDepth 100000 in
set_option linter.unusedSimpArgs false in
theorem copyProg_any (a : Option Addr) (b o c : Nat) (ll : List (List M.D)) (w : World) (hl : ll.length ≤ 1048576) (hls : ∀ t ∈ ll, t.length ≤ 1048576) (h : DoSS w a b o ll) :
    Calls Try.prog 57 #[.agg #[.slice a ll.length c]] w fun e w' => ∃ v, e = .returned (.agg #[v]) ∧ (∃ vs, Rdg w' w.heap.size v ll vs) ∧ Below w.heap.size w w' := by
  obtain ⟨i0, hi, hz0, hz1, hz2⟩ := info_parts Try.info63
  go_enter Try.func57, Try.ntmps57
  go_wp2_with fail
  go_loopw [9] (fun s9 wr => ∃ (n : Nat) (v : Value) (vs : List Value), s9 = .int .i64 n ∧ n ≤ ll.length ∧ Rdg wr (w.heap.size + 3) v (ll.take n) vs ∧ Slot1 wr (w.heap.size + 1 + 1) v ∧ Slot1 wr (w.heap.size + 1) (.slice none 0 0) ∧ Below w.heap.size w wr) (fun s9 _ => ll.length - (intOf s9).toNat)
  case atStart =>
    refine ⟨0, .slice none 0 0, [], rfl, Nat.zero_le _, by simpa using Rdg.nil _ _, ?_, ?_, below3 _ _ _ _⟩
    · have := Slot1.new ((w.alloc (.cells #[.slice a ll.length c] 25)).alloc (.cells #[.slice none 0 0] 25)) (.slice none 0 0) 25
      rwa [World.size_alloc, World.size_alloc] at this
    · have := (Slot1.new (w.alloc (.cells #[.slice a ll.length c] 25)) (.slice none 0 0) 25).bl' (below1 _ (.cells #[.slice none 0 0] 25))
      rwa [World.size_alloc] at this
  case round =>
    obtain ⟨n, v, vs, rfl, hn, hR, hP, hQ, hbel⟩ := hrel
    by_cases hlt : n < ll.length
    · obtain ⟨rfl⟩ := h.addr (by omega)
      obtain ⟨a', b', o', c', hc, hd⟩ := (h.below hbel (Nat.le_refl _)).row n hlt
      have ht := hls _ (List.getElem_mem hlt)
      have HW : Hid (ll.take (n + 1) = ll.take n ++ [ll[n]]) := List.take_succ_eq_append_getElem hlt
      have hmm : (ll.take n).length ≤ 1048576 := by simp; omega
      generalize ll[n] = t at *
      generalize ll.take n = mm at *
      have i1 : (n : Int) < ll.length := by omega
      obtain ⟨av, gv, cv, rfl, _⟩ := hR.b.ss
      have x0 := hP.c
      have lP := hP.lt
      have F4 : Hid (∀ (w4 : World) (v4 : Value), w4.ownsRow wr.heap.size 66 3 v4 t.length (flat t) → Below wr.heap.size wr.drew w4 → ∃ a4 c4, v4 = .slice a4 t.length c4 ∧ Below wr.heap.size wr w4 ∧ Slot1 w4 (w.heap.size + 1 + 1) (.slice av mm.length cv) ∧ Rdg w4 (w.heap.size + 3) (.slice av mm.length cv) mm vs) := by
        intro w4 v4 ho hb
        obtain ⟨a4, c4, e⟩ := own_slx ho
        have b4 : Below wr.heap.size wr w4 := (Below.refl _ _).drew.trans hb
        exact ⟨a4, c4, e, b4, hP.bl' b4, hR.below b4⟩
      have F5 : Hid (∀ (w4 : World) (a4 : Option Addr) (c4 : Nat), Below wr.heap.size wr w4 → w4.ownsRow wr.heap.size 66 3 (.slice a4 t.length c4) t.length (flat t) → ∀ (g5 cap5 : Nat) (w5 : World), w5.ownsRow (w.heap.size + 3) 63 1 (.slice (some ⟨g5, 0, none⟩) (mm.length + 1) cap5) (mm.length + 1) (vs ++ [.slice a4 t.length c4]) → (w4.alloc (.cells #[.slice a4 t.length c4] 63)).grownBy w5 (Value.slice av mm.length cv).ownBlock → Below w.heap.size w w5 ∧ Slot1 w5 (w.heap.size + 1 + 1) (.slice av mm.length cv) ∧ Slot1 w5 (w.heap.size + 1) (.slice none 0 0) ∧ Rdg w5 (w.heap.size + 3) (.slice (some ⟨g5, 0, none⟩) (mm.length + 1) cap5) (mm ++ [t]) (vs ++ [.slice a4 t.length c4])) := by
        intro w4 a4 c4 b4 hx4 g5 cap5 w5 ho hg
        have hal := below1 w4 (.cells #[.slice a4 t.length c4] 63)
        have hge := own_ge hR.b.outer
        have b4a := b4.trans (hal.mono b4.size)
        have bwa := hbel.trans (b4a.mono hbel.size)
        refine ⟨below_grown bwa hg (fun j hj => by have := hge j hj; omega) bwa.size, (hP.bl' b4a).apart hg (fun e => by have := hge _ e; omega), (hQ.bl' b4a).apart hg (fun e => by have := hge _ e; omega), ((hR.below b4).below hal).snocT (ownsRow_mono (ownsRow_below hx4 hal) (by omega)) (fun i hi j hj e => ?_) ho hg⟩
        have h1 := ((hR.b.inner i (by have := hR.b.len; omega) hi).lt j hj).2
        have h2 := own_ge hx4 j e
        omega
      have CN := newListD_any a' b' o' c' t wr.drew ht (hd.below (Below.refl wr.heap.size wr).drew (Nat.le_refl _))
      go_wp2_with fail
      refine wp_region_held_drew (S := fun w' => Below w.heap.size w w') (by kernel_rfl) hbel.drew (fun hH => ?_)
      refine takeD 0 (some 13) (.pointer (some ⟨w.heap.size + 1 + 1, 0, none⟩)) hH rfl rfl (by kernel_rfl) (by kernel_rfl) (by kernel_rfl) (fun _ _ _ h => h) (Or.inl ⟨by rfl, by intro w' hSw; go_simp⟩) ?_
      simp only [Act.put, List.setIfInBounds_toArray, List.set_cons_zero, List.set_cons_succ]
      refine takeD 2 (some 15) (.slice a' t.length c') hH rfl rfl (by kernel_rfl) (by kernel_rfl) (by kernel_rfl) (fun _ _ _ h => h) (Or.inl ⟨by rfl, by intro w' hSw; go_simp⟩) ?_
      simp only [Act.put, List.setIfInBounds_toArray, List.set_cons_zero, List.set_cons_succ]
      refine wpAnyH_ready (rs := [1, 3]) (by kernel_rfl) (by simp) ?_
      refine AllReadyH.cons rfl (fun K' hK => ?_) (AllReadyH.cons rfl (fun K' hK => ?_) AllReadyH.nil)
      · have xx := x0
        rw [if_pos (by rfl)]
        go_simp
        refine hK.out _ _ hH (fun _ => ?_)
        clear hK K' xx
        refine wpAnyH_ready (rs := [3]) (by kernel_rfl) (by simp) ?_
        refine AllReadyH.cons rfl (fun K' hK => ?_) AllReadyH.nil
        refine step_goV (by rfl) (some 16) rfl 77 #[.tmp 15] _ rfl #[.slice a' t.length c'] (by simp [Act.eval]) (fun _ _ => rfl) CN ?_
        rintro e w4 ⟨v4, rfl, ho4, hb4⟩
        obtain ⟨a4, c4, rfl, b4, hS4, hR4⟩ := F4.out w4 v4 ho4 hb4
        refine ⟨_, rfl, ?_⟩
        simp only [Act.put, List.setIfInBounds_toArray, List.set_cons_zero, List.set_cons_succ]
        refine hK.out _ _ (hbel.trans (b4.mono hbel.size)) (fun hH4 => ?_)
        clear hK K'
        have hS4a := hS4.bl' (below1 w4 (.cells #[.slice a4 t.length c4] 63))
        have S4a : Below w.heap.size w (w4.alloc (.cells #[.slice a4 t.length c4] 63)) := hH4.alloc hH4.size _
        refine wpAnyH_ready (rs := [4]) (by kernel_rfl) (by simp) ?_
        refine AllReadyH.cons rfl (fun K' hK => ?_) AllReadyH.nil
        rw [if_pos (by rfl)]
        go_simp
        refine hK.out _ _ S4a (fun _ => ?_)
        clear hK K'
        refine wpAnyH_ready (rs := [5]) (by kernel_rfl) (by simp) ?_
        refine AllReadyH.cons rfl (fun K' hK => ?_) AllReadyH.nil
        refine step_append_lies _ (by rfl) (.tmp 14) (.tmp 17) 23 (by rfl) (w.heap.size + 3) 63 i0 _ 1 24 Try.underlying23 hi hz0 hz1 hz2 rfl (by decide) (.slice av mm.length cv) mm.length vs (by rfl) ((hR4.b.outer).alloc _) ⟨w4.heap.size, 0, none⟩ 1 1 [.slice a4 t.length c4] (by rfl) (by rfl) (World.news_of_block (cs := #[.slice a4 t.length c4]) (t := 63) (fr := (0, 0)) (heap_alloc_new w4 _)) (by simp [Value.oneCell']) (by omega) (by unfold maxLen; omega) (by omega) (by have := b4.size; simp; omega) (w4.heap.size + 1) (by simp) ?_
        intro g5 cap5 w5 hown5 hg5 hat5 hlt5
        obtain ⟨b5, hS5, hQ5, hR5⟩ := F5.out w4 a4 c4 b4 ho4 g5 cap5 w5 hown5 hg5
        simp only [Act.put, List.setIfInBounds_toArray, List.set_cons_zero, List.set_cons_succ]
        refine hK.out _ _ b5 (fun hH5 => ?_)
        clear hK K'
        refine takeD 6 (some 19) (.pointer (some ⟨w.heap.size + 1 + 1, 0, none⟩)) hH5 rfl rfl (by kernel_rfl) (by kernel_rfl) (by kernel_rfl) (fun _ _ _ h => h) (Or.inl ⟨by rfl, by intro w' hSw; go_simp⟩) ?_
        simp only [Act.put, List.setIfInBounds_toArray, List.set_cons_zero, List.set_cons_succ]
        refine wpAnyH_ready (rs := [7]) (by kernel_rfl) (by simp) ?_
        refine AllReadyH.cons rfl (fun K' hK => ?_) AllReadyH.nil
        have xc := hS5.c
        have xz := hS5.fz
        rw [if_pos (by rfl)]
        go_simp
        refine hK.out _ _ (b5.setCell (by show w.heap.size ≤ w.heap.size + 1 + 1; omega) _) (fun _ => ?_)
        clear hK K'
        refine wpAnyH_done (by kernel_rfl) ?_ _
        clear xc xz
        go_wp2_with fail
        exact ⟨⟨n + 1, _, _, by go_num, by omega, by rw [HW.out]; exact hR5.far (by omega) _, hS5.set _, hQ5.far (by omega) _, b5.setCell (by show w.heap.size ≤ w.heap.size + 1 + 1; omega) _⟩, by simp [intOf]; omega⟩
      · refine step_goV (by rfl) (some 16) rfl 77 #[.tmp 15] _ rfl #[.slice a' t.length c'] (by simp [Act.eval]) (fun _ _ => rfl) CN ?_
        rintro e w4 ⟨v4, rfl, ho4, hb4⟩
        obtain ⟨a4, c4, rfl, b4, hS4, hR4⟩ := F4.out w4 v4 ho4 hb4
        refine ⟨_, rfl, ?_⟩
        simp only [Act.put, List.setIfInBounds_toArray, List.set_cons_zero, List.set_cons_succ]
        refine hK.out _ _ (hbel.trans (b4.mono hbel.size)) (fun hH4 => ?_)
        clear hK K'
        have hS4a := hS4.bl' (below1 w4 (.cells #[.slice a4 t.length c4] 63))
        have S4a : Below w.heap.size w (w4.alloc (.cells #[.slice a4 t.length c4] 63)) := hH4.alloc hH4.size _
        refine wpAnyH_ready (rs := [1, 4]) (by kernel_rfl) (by simp) ?_
        refine AllReadyH.cons rfl (fun K' hK => ?_) (AllReadyH.cons rfl (fun K' hK => ?_) AllReadyH.nil)
        · have xx := hS4.c
          rw [if_pos (by rfl)]
          go_simp
          refine hK.out _ _ hH4 (fun _ => ?_)
          clear hK K' xx
          refine wpAnyH_ready (rs := [4]) (by kernel_rfl) (by simp) ?_
          refine AllReadyH.cons rfl (fun K' hK => ?_) AllReadyH.nil
          rw [if_pos (by rfl)]
          go_simp
          refine hK.out _ _ S4a (fun _ => ?_)
          clear hK K'
          refine wpAnyH_ready (rs := [5]) (by kernel_rfl) (by simp) ?_
          refine AllReadyH.cons rfl (fun K' hK => ?_) AllReadyH.nil
          refine step_append_lies _ (by rfl) (.tmp 14) (.tmp 17) 23 (by rfl) (w.heap.size + 3) 63 i0 _ 1 24 Try.underlying23 hi hz0 hz1 hz2 rfl (by decide) (.slice av mm.length cv) mm.length vs (by rfl) ((hR4.b.outer).alloc _) ⟨w4.heap.size, 0, none⟩ 1 1 [.slice a4 t.length c4] (by rfl) (by rfl) (World.news_of_block (cs := #[.slice a4 t.length c4]) (t := 63) (fr := (0, 0)) (heap_alloc_new w4 _)) (by simp [Value.oneCell']) (by omega) (by unfold maxLen; omega) (by omega) (by have := b4.size; simp; omega) (w4.heap.size + 1) (by simp) ?_
          intro g5 cap5 w5 hown5 hg5 hat5 hlt5
          obtain ⟨b5, hS5, hQ5, hR5⟩ := F5.out w4 a4 c4 b4 ho4 g5 cap5 w5 hown5 hg5
          simp only [Act.put, List.setIfInBounds_toArray, List.set_cons_zero, List.set_cons_succ]
          refine hK.out _ _ b5 (fun hH5 => ?_)
          clear hK K'
          refine takeD 6 (some 19) (.pointer (some ⟨w.heap.size + 1 + 1, 0, none⟩)) hH5 rfl rfl (by kernel_rfl) (by kernel_rfl) (by kernel_rfl) (fun _ _ _ h => h) (Or.inl ⟨by rfl, by intro w' hSw; go_simp⟩) ?_
          simp only [Act.put, List.setIfInBounds_toArray, List.set_cons_zero, List.set_cons_succ]
          refine wpAnyH_ready (rs := [7]) (by kernel_rfl) (by simp) ?_
          refine AllReadyH.cons rfl (fun K' hK => ?_) AllReadyH.nil
          have xc := hS5.c
          have xz := hS5.fz
          rw [if_pos (by rfl)]
          go_simp
          refine hK.out _ _ (b5.setCell (by show w.heap.size ≤ w.heap.size + 1 + 1; omega) _) (fun _ => ?_)
          clear hK K'
          refine wpAnyH_done (by kernel_rfl) ?_ _
          clear xc xz
          go_wp2_with fail
          exact ⟨⟨n + 1, _, _, by go_num, by omega, by rw [HW.out]; exact hR5.far (by omega) _, hS5.set _, hQ5.far (by omega) _, b5.setCell (by show w.heap.size ≤ w.heap.size + 1 + 1; omega) _⟩, by simp [intOf]; omega⟩
        · rw [if_pos (by rfl)]
          go_simp
          refine hK.out _ _ S4a (fun _ => ?_)
          clear hK K'
          refine wpAnyH_ready (rs := [1]) (by kernel_rfl) (by simp) ?_
          refine AllReadyH.cons rfl (fun K' hK => ?_) AllReadyH.nil
          have xx := hS4a.c
          rw [if_pos (by rfl)]
          go_simp
          refine hK.out _ _ S4a (fun _ => ?_)
          clear hK K' xx
          refine wpAnyH_ready (rs := [5]) (by kernel_rfl) (by simp) ?_
          refine AllReadyH.cons rfl (fun K' hK => ?_) AllReadyH.nil
          refine step_append_lies _ (by rfl) (.tmp 14) (.tmp 17) 23 (by rfl) (w.heap.size + 3) 63 i0 _ 1 24 Try.underlying23 hi hz0 hz1 hz2 rfl (by decide) (.slice av mm.length cv) mm.length vs (by rfl) ((hR4.b.outer).alloc _) ⟨w4.heap.size, 0, none⟩ 1 1 [.slice a4 t.length c4] (by rfl) (by rfl) (World.news_of_block (cs := #[.slice a4 t.length c4]) (t := 63) (fr := (0, 0)) (heap_alloc_new w4 _)) (by simp [Value.oneCell']) (by omega) (by unfold maxLen; omega) (by omega) (by have := b4.size; simp; omega) (w4.heap.size + 1) (by simp) ?_
          intro g5 cap5 w5 hown5 hg5 hat5 hlt5
          obtain ⟨b5, hS5, hQ5, hR5⟩ := F5.out w4 a4 c4 b4 ho4 g5 cap5 w5 hown5 hg5
          simp only [Act.put, List.setIfInBounds_toArray, List.set_cons_zero, List.set_cons_succ]
          refine hK.out _ _ b5 (fun hH5 => ?_)
          clear hK K'
          refine takeD 6 (some 19) (.pointer (some ⟨w.heap.size + 1 + 1, 0, none⟩)) hH5 rfl rfl (by kernel_rfl) (by kernel_rfl) (by kernel_rfl) (fun _ _ _ h => h) (Or.inl ⟨by rfl, by intro w' hSw; go_simp⟩) ?_
          simp only [Act.put, List.setIfInBounds_toArray, List.set_cons_zero, List.set_cons_succ]
          refine wpAnyH_ready (rs := [7]) (by kernel_rfl) (by simp) ?_
          refine AllReadyH.cons rfl (fun K' hK => ?_) AllReadyH.nil
          have xc := hS5.c
          have xz := hS5.fz
          rw [if_pos (by rfl)]
          go_simp
          refine hK.out _ _ (b5.setCell (by show w.heap.size ≤ w.heap.size + 1 + 1; omega) _) (fun _ => ?_)
          clear hK K'
          refine wpAnyH_done (by kernel_rfl) ?_ _
          clear xc xz
          go_wp2_with fail
          exact ⟨⟨n + 1, _, _, by go_num, by omega, by rw [HW.out]; exact hR5.far (by omega) _, hS5.set _, hQ5.far (by omega) _, b5.setCell (by show w.heap.size ≤ w.heap.size + 1 + 1; omega) _⟩, by simp [intOf]; omega⟩
    · have htk : ll.take n = ll := List.take_of_length_le (by omega)
      rw [htk] at hR
      obtain ⟨av, gv, cv, rfl, _⟩ := hR.b.ss
      have hkn' : ¬ (n : Int) < ll.length := by omega
      have p0 := hP.c
      have pf := hP.fz
      have q0 := hQ.c
      have qf := hQ.fz
      have lP := hP.lt
      have lQ := hQ.lt
      have hne : w.heap.size + 1 ≠ w.heap.size + 1 + 1 := by omega
      go_wp2_with fail
      have q1 := (hQ.set (.slice av ll.length cv)).c
      exact bodyPost_ret (v := .agg #[.slice av ll.length cv]) (by simp [results, Try.results57, go_sem, q1]) rfl ⟨_, rfl, ⟨vs, (hR.far (by omega) _).mono (by omega)⟩, hbel.setCell (by show w.heap.size ≤ w.heap.size + 1; omega) _⟩

end Go.Proofs.Ytiaibfalmmnipaa

namespace Go.Proofs.Ytiaibfalmmnipaa
open Go.RowKit

theorem Rdg.step {w w' : World} {B n k g m cap : Nat} {v : Value} {f : M.D → M.D} {ll : List (List M.D)} {vs : List Value} (h : Rdg w B v (M.cur f n k ll) vs) (hn : n < ll.length) (hk : k < ll[n].length) (hv : n < vs.length) (he : vs[n] = .slice (some ⟨g, 0, none⟩) m cap) (hc : Chg w w' g (k * 3) ll[n][k] (f ll[n][k])) :
    Rdg w' B v (M.cur f n (k + 1) ll) vs ∧ w.grownBy w' (some g) ∧ B ≤ g := by
  have hn' : n < (M.cur f n k ll).length := by rw [M.cur_len]; exact hn
  have e := M.cur_get f n k ll hn hn'
  have hk' : k < ((M.cur f n k ll)[n]'hn').length := by rw [e, M.curT_len]; exact hk
  have e2 : ((M.cur f n k ll)[n]'hn')[k]'hk' = ll[n][k] := by
    have key : ∀ (l : List M.D) (h : k < l.length), l = M.curT f k ll[n] → l[k] = ll[n][k] := by
      intro l h e; subst e; exact M.curT_get f k ll[n] hk h
    exact key _ hk' e
  have r := h.chg hn' hv he hk' (by rw [e2]; exact hc)
  rw [e, M.cur_set f n k ll hn hk] at r
  exact r
theorem Rdg.cur_at {w : World} {B n k : Nat} {v : Value} {f : M.D → M.D} {ll : List (List M.D)} {vs : List Value} (h : Rdg w B v (M.cur f n k ll) vs) (hn : n < ll.length) (hv : n < vs.length) :
    ∃ a' c', vs[n] = .slice a' ll[n].length c' ∧ ∀ hk : k < ll[n].length, ∃ g, a' = some ⟨g, 0, none⟩ ∧ B ≤ g ∧ DoAt w g (k * 3) ll[n][k] ∧ ∀ i, w.frozen? ⟨g, i, none⟩ = false := by
  have hn' : n < (M.cur f n k ll).length := by rw [M.cur_len]; exact hn
  have e := M.cur_get f n k ll hn hn'
  obtain ⟨a', c', e1, h1⟩ := h.inner_at hn' hv
  rw [e, M.curT_len] at e1 h1
  refine ⟨a', c', e1, fun hk => ?_⟩
  obtain ⟨g, rfl, hB, hr, hf⟩ := h1 (by omega)
  have := hr k (by rw [M.curT_len]; exact hk)
  rw [Nat.zero_add, M.curT_get f k _ hk] at this
  exact ⟨g, rfl, hB, this, hf⟩

set_option maxHeartbeats 2000000 in
set_option maxRecDepth 10000 in
theorem changeQ_any (a : Option Addr) (b o c : Nat) (ll : List (List M.D)) (f : M.D → M.D) (w : World) (h3 : ll.length ≤ 3) (h7 : ∀ t ∈ ll, t.length ≤ 7) (h : DoSS w a b o ll)
    (hcl : ∀ (W : World) (g off : Nat) (d : M.D), Below w.heap.size w W → w.heap.size ≤ g → (∃ t ∈ ll, d ∈ t) → DoAt W g off d → (∀ i, W.frozen? ⟨g, i, none⟩ = false) → Calls Try.prog 31 #[.pointer (some ⟨g, off, none⟩)] W fun e w' => e = .returned (.tuple #[]) ∧ Chg W w' g off d (f d)) :
    Calls Try.prog 30 #[.agg #[.slice a ll.length c], .func (.func 31) #[] #[]] w fun e w' => ∃ v, e = .returned (.agg #[v]) ∧ (∃ vs, Rdg w' w.heap.size v (M.mapS f ll) vs) ∧ Below w.heap.size w w' := by
  have b2 := below2 w (.cells #[.slice a ll.length c] 25) (.cells #[.slice none 0 0] 25)
  have h2 := h.below b2 (Nat.le_refl _)
  have hY := Slot1.new (w.alloc (.cells #[.slice a ll.length c] 25)) (.slice none 0 0) 25
  rw [World.size_alloc] at hY
  have hsz : ((w.alloc (.cells #[.slice a ll.length c] 25)).alloc (.cells #[.slice none 0 0] 25)).heap.size = w.heap.size + 2 := by simp
  go_enter Try.func30, Try.ntmps30
  go_wp2_with fail
  generalize (w.alloc (.cells #[.slice a ll.length c] 25)).alloc (.cells #[.slice none 0 0] 25) = W at *
  refine (copyProg_any a b o c ll W (by omega) (fun t ht => by have := h7 t ht; omega) h2).mono ?_
  rintro e W1 ⟨v1, rfl, ⟨vs, hR1⟩, b1⟩
  obtain ⟨av, gv0, cv, rfl, _⟩ := hR1.b.ss
  have HV : ∀ i (hi : i < vs.length) k, vs[i].ownBlock = some k → k < W1.heap.size := fun i hi k hk => ((hR1.b.inner i (by have := hR1.b.len; omega) hi).lt k hk).2
  have bA := below1 W1 (.cells #[.slice av ll.length cv] 25)
  have hRA := (hR1.below bA).mono (show w.heap.size + 2 ≤ W.heap.size by omega)
  have bw1 := b2.trans (b1.mono b2.size)
  have bwA := bw1.trans (bA.mono bw1.size)
  have hYA := (hY.bl' b1).bl' bA
  have hC := Slot1.new W1 (.slice av ll.length cv) 25
  have hb1s : w.heap.size + 2 ≤ W1.heap.size := by have := b1.size; omega
  clear hR1 hY h2 b1 b2 bw1 hsz
  go_wp2_with fail
  generalize W1.alloc (.cells #[.slice av ll.length cv] 25) = WA at *
  generalize W1.heap.size = C at *
  have hlenA : (M.cur f 0 0 ll).length = ll.length := M.cur_len _ _ _ _
  go_loopw [14] (fun s14 wr => ∃ n : Nat, s14 = .int .i64 n ∧ n ≤ ll.length ∧ Rdg wr (w.heap.size + 2) (.slice av ll.length cv) (M.cur f n 0 ll) vs ∧ Slot1 wr C (.slice av ll.length cv) ∧ Slot1 wr (w.heap.size + 1) (.slice none 0 0) ∧ Below w.heap.size w wr) (fun s14 _ => ll.length - (intOf s14).toNat)
  case atStart => exact ⟨0, rfl, Nat.zero_le _, by rw [M.cur_zero]; exact hRA, hC, hYA, bwA⟩
  case round =>
    obtain ⟨n, rfl, hn, hR, hP, hQ, hbel⟩ := hrel
    clear hRA hC hYA bwA hlenA
    by_cases hlt : n < ll.length
    · have hR' := hR
      rw [← M.cur_len f n 0 ll] at hR'
      obtain ⟨gv, rfl, hv, hc⟩ := hR'.outer_at (n := n) (by rw [M.cur_len]; exact hlt)
      obtain ⟨a', c', e1, hin⟩ := hR.cur_at hlt hv
      rw [e1] at hc
      have ht7 := h7 _ (List.getElem_mem hlt)
      have i1 : (n : Int) < ll.length := by omega
      have HT : Hid (∀ k (hk : k < ll[n].length), ∃ t ∈ ll, ll[n][k] ∈ t) := fun k hk => ⟨ll[n], List.getElem_mem hlt, List.getElem_mem hk⟩
      have HS : Hid (∀ (k g : Nat) (W W' : World) (hk : k < ll[n].length), a' = some ⟨g, 0, none⟩ → Rdg W (w.heap.size + 2) (.slice (some ⟨gv, 0, none⟩) ll.length cv) (M.cur f n k ll) vs → Chg W W' g (k * 3) ll[n][k] (f ll[n][k]) → Rdg W' (w.heap.size + 2) (.slice (some ⟨gv, 0, none⟩) ll.length cv) (M.cur f n (k + 1) ll) vs ∧ W.grownBy W' (some g) ∧ w.heap.size + 2 ≤ g ∧ g < C) := by
        intro k g W W' hk ha hr hch
        subst ha
        have r := hr.step hlt hk hv e1 hch
        exact ⟨r.1, r.2.1, r.2.2, HV n hv g (by rw [e1]; rfl)⟩
      have HA : Hid (∀ (k : Nat) (W : World), Rdg W (w.heap.size + 2) (.slice (some ⟨gv, 0, none⟩) ll.length cv) (M.cur f n k ll) vs → ∀ hk : k < ll[n].length, ∃ g, a' = some ⟨g, 0, none⟩ ∧ w.heap.size + 2 ≤ g ∧ DoAt W g (k * 3) ll[n][k] ∧ ∀ i, W.frozen? ⟨g, i, none⟩ = false) := by
        intro k W hr hk
        obtain ⟨a2, c2, e2, h2⟩ := hr.cur_at hlt hv
        rw [e1] at e2
        obtain ⟨rfl, _, rfl⟩ := Value.slice.inj e2
        exact h2 hk
      have HN : Hid (∀ k, ll[n].length ≤ k → M.cur f n k ll = M.cur f (n + 1) 0 ll) := fun k hk => M.cur_next f n k ll hlt hk
      clear hin e1 hR'
      generalize ll[n] = t at *
      go_wp2_with fail
      go_loopw [20] (fun s20 wi => ∃ k : Nat, s20 = .int .i64 k ∧ k ≤ t.length ∧ Rdg wi (w.heap.size + 2) (.slice (some ⟨gv, 0, none⟩) ll.length cv) (M.cur f n k ll) vs ∧ Slot1 wi C (.slice (some ⟨gv, 0, none⟩) ll.length cv) ∧ Slot1 wi (w.heap.size + 1) (.slice none 0 0) ∧ Below w.heap.size w wi) (fun s20 _ => t.length - (intOf s20).toNat)
      case atStart => exact ⟨0, rfl, Nat.zero_le _, hR, hP, hQ, hbel⟩
      case round =>
        obtain ⟨k, rfl, hk, hR, hP, hQ, hbel⟩ := hrel
        by_cases hkt : k < t.length
        · obtain ⟨g, rfl, hg, hd, hf⟩ := HA.out k _ hR hkt
          have j1 : (k : Int) < t.length := by omega
          have HS1 : Hid (∀ W', Chg wr W' g (k * 3) t[k] (f t[k]) → Rdg W' (w.heap.size + 2) (.slice (some ⟨gv, 0, none⟩) ll.length cv) (M.cur f n (k + 1) ll) vs ∧ wr.grownBy W' (some g) ∧ w.heap.size + 2 ≤ g ∧ g < C) := fun W' hch => HS.out k g wr W' hkt rfl hR hch
          have CC := hcl wr g (k * 3) t[k] hbel (by omega) (HT.out k hkt) hd hf
          generalize t[k] = d at *
          go_wp2_with (first | (go_at_call 31; refine CC.mono ?_; rintro e W2 ⟨rfl, hch⟩))
          obtain ⟨r1, r2, r3, r4⟩ := HS1.out _ hch
          exact ⟨⟨k + 1, by go_num, by omega, r1, hP.apart r2 (fun e => by have := Option.some.inj e; omega), hQ.apart r2 (fun e => by have := Option.some.inj e; omega), below_grown hbel r2 (fun j hj => by have := Option.some.inj hj; omega) hbel.size⟩, by simp [intOf]; omega⟩
        · have j1 : ¬ (k : Int) < t.length := by omega
          rw [HN.out k (by omega)] at hR
          go_wp2_with fail
          exact ⟨⟨n + 1, by go_num, by omega, hR, hP, hQ, hbel⟩, by simp [intOf]; omega⟩
    · rw [M.cur_all f n 0 ll (by omega)] at hR
      have i1 : ¬ (n : Int) < ll.length := by omega
      have p0 := hP.c
      have pf := hP.fz
      have q0 := hQ.c
      have qf := hQ.fz
      have lP := hP.lt
      have lQ := hQ.lt
      have hne : w.heap.size + 1 ≠ C := by omega
      go_wp2_with fail
      have q1 := (hQ.set (.slice av ll.length cv)).c
      exact bodyPost_ret (v := .agg #[.slice av ll.length cv]) (by simp [results, Try.results30, go_sem, q1]) rfl ⟨_, rfl, ⟨vs, (hR.far (by omega) _).mono (by omega)⟩, hbel.setCell (by show w.heap.size ≤ w.heap.size + 1; omega) _⟩

end Go.Proofs.Ytiaibfalmmnipaa

namespace Go.Proofs.Ytiaibfalmmnipaa
open Go.RowKit

set_option maxHeartbeats 400000 in
theorem plain_any (k : Int) (w : World) :
    Calls Try.prog 32 #[.int .i64 k] w fun e w' => e = .returned (.int .i64 (M.plainK k)) ∧ w' = w := by
  by_cases h5 : k = 5
  · subst h5
    go_enter Try.func32, Try.ntmps32
    go_wp2_with fail
    go_ret
    exact ⟨rfl, rfl⟩
  · have h5' : (k == 5) = false := by simpa using h5
    by_cases h6 : k = 6
    · subst h6
      go_enter Try.func32, Try.ntmps32
      go_wp2_with fail
      go_ret
      exact ⟨rfl, rfl⟩
    · have h6' : (k == 6) = false := by simpa using h6
      go_enter Try.func32, Try.ntmps32
      go_wp2_with fail
      go_ret
      exact ⟨by simp [M.plainK, h5, h6], rfl⟩

set_option maxHeartbeats 1000000 in
theorem plainC_any (g off : Nat) (d : M.D) (W : World) (hd : DoAt W g off d) (hf : ∀ i, W.frozen? ⟨g, i, none⟩ = false) :
    Calls Try.prog 31 #[.pointer (some ⟨g, off, none⟩)] W fun e w' => e = .returned (.tuple #[]) ∧ Chg W w' g off d (M.plainF d) := by
  obtain ⟨kk, pp, vv⟩ := d
  obtain ⟨ck, cp, cv⟩ := hd
  have f0 := hf off
  go_enter Try.func31, Try.ntmps31
  go_wp2_with (go_at_call 32; refine (plain_any _ _).mono ?_; rintro e w' ⟨rfl, rfl⟩)
  exact bodyPost_end (v := .tuple #[]) (results_none Try.results31 _ _ _) rfl ⟨rfl, 0, Or.inr (Or.inl ⟨rfl, rfl, rfl⟩)⟩

set_option maxHeartbeats 1000000 in
theorem iturnPlain_any (a : Option Addr) (b o c : Nat) (ll : List (List M.D)) (hl : ll.length ≤ 1048576) (hls : ∀ t ∈ ll, t.length ≤ 1048576) (w : World) (h : DoSS w a b o ll) :
    Calls Try.prog 9 #[.agg #[.slice a ll.length c]] w fun e w' => ∃ v, e = .returned (.agg #[v]) ∧ (∃ vs, Rdg w' w.heap.size v (M.turnPlain ll) vs) ∧ Below w.heap.size w w' := by
  have b2 := below2 w (.cells #[.slice a ll.length c] 25) (.cells #[.slice none 0 0] 25)
  have h2 := h.below b2 (Nat.le_refl _)
  have hX := (Slot1.new w (.slice a ll.length c) 25).bl' (below1 _ (.cells #[.slice none 0 0] 25))
  have hY := Slot1.new (w.alloc (.cells #[.slice a ll.length c] 25)) (.slice none 0 0) 25
  rw [World.size_alloc] at hY
  go_enter Try.func9, Try.ntmps9
  go_wp2_with fail
  generalize (w.alloc (.cells #[.slice a ll.length c] 25)).alloc (.cells #[.slice none 0 0] 25) = W at *
  have CP := iprog_any a b o c ll W hl hls h2
  cases hp : M.prog ll
  · rw [hp] at CP
    refine CP.mono ?_
    rintro e W1 ⟨rfl, b1⟩
    have hY1 := hY.bl' b1
    have y0 := hY1.c
    have yf := hY1.fz
    have ly := hY1.lt
    have bw1 := b2.trans (b1.mono b2.size)
    have hno := M.turnPlain_bad hp
    go_wp2_with fail
    have q1 := (hY1.set (.slice none 0 0)).c
    exact bodyPost_ret (v := .agg #[.slice none 0 0]) (by simp [results, Try.results9, go_sem, q1]) rfl ⟨_, rfl, ⟨[], by rw [hno]; exact Rdg.nil _ _⟩, bw1.setCell (by show w.heap.size ≤ w.heap.size + 1; omega) _⟩
  · rw [hp] at CP
    obtain ⟨h3, h7⟩ := M.prog_le hp
    have HY : Hid (M.turnPlain ll = M.mapS M.plainF ll) := M.turnPlain_yes hp
    clear hp
    refine CP.mono ?_
    rintro e W1 ⟨rfl, b1⟩
    have h1 := h2.below b1 (Nat.le_refl _)
    have hX1 := hX.bl' b1
    have hY1 := hY.bl' b1
    have bw1 := b2.trans (b1.mono b2.size)
    have x0 := hX1.c
    have ly1 := hY1.lt
    clear CP h2 hX hY b1 b2
    go_wp2_with fail
    refine (changeQ_any a b o c ll M.plainF W1 h3 h7 h1 (fun Wx g off d _ _ _ hda hf => plainC_any g off d Wx hda hf)).mono ?_
    rintro e W3 ⟨v3, rfl, ⟨vs, hR⟩, b3⟩
    have hY3 := hY1.bl' b3
    have y0 := hY3.c
    have yf := hY3.fz
    have ly := hY3.lt
    have bw3 := bw1.trans (b3.mono bw1.size)
    obtain ⟨av, gv, cv, rfl, _⟩ := hR.b.ss
    rw [M.mapS_len] at hR ⊢
    go_wp2_with fail
    have q1 := (hY3.set (.slice av ll.length cv)).c
    exact bodyPost_ret (v := .agg #[.slice av ll.length cv]) (by simp [results, Try.results9, go_sem, q1]) rfl ⟨_, rfl, ⟨vs, by rw [HY.out]; exact (hR.far (by omega) _).mono (by have := bw1.size; omega)⟩, bw3.setCell (by show w.heap.size ≤ w.heap.size + 1; omega) _⟩

end Go.Proofs.Ytiaibfalmmnipaa
