/- impl.newList of numbers: a row of its own. Of at most 1048576 numbers. Turning about, plainly: rows of numbers, threads, places and values turned, programs side by side, plain ones. No condition. impl's rows: numbersBelow, isRowOf, and what is turned by a row, of numbers and of threads. Of at most 1000 things, rows of at most 1048576 numbers. impl's turn: the things with the numbers of a row; of numbers, of threads. Of at most 1000 things, rows of at most 1048576 numbers. What was seen, turned as the threads are, plainly. No condition. slices.Grow of no slice, slices.Concat of two lists of threads. Of at most 1000 threads each. impl.newList of steps, impl.copyProg: a program in rows of its own. Of at most 1048576 threads, and steps of a thread. impl's readsByThread, the turn of lists of numbers, slices.Concat of numbers, newList of numbers. Of at most 1000 lists, and numbers. impl.TurnSeen. Of programs of at most 1048576 threads and steps of a thread, of as many numbers. append of numbers onto a row of the call's own, wherever they lie and however many. No condition. spec.l22Row: whether numbers are a row. Of at most 1000, rows of at most 1048576 numbers. The plain mathematics of reads: a program's reads are its threads' together, and no more than its uses. No condition. spec.TurnSeen. Of programs of at most 1048576 threads and steps of a thread, of as many numbers. The law's own marking of numbers, and whether marks still stand: laws.markIntS, heldIntS. Of lists of at most 1048576 numbers. The law's own sizing, copying and comparing of numbers: laws.szIntS, toIntS, eqIntS. Of lists of at most 1048576 numbers (sizing: of at most 9223372036854775807). The law's own sizing, copying and comparing of what was seen: laws.szSeen, toSeen, eqSeen. Of lists of at most 1048576 numbers (sizing: of at most 9223372036854775807). The law's own marking of what was seen, from any number on, and whether the marks still stand: laws.markSeen, heldSeen; eqSeen. Of at most 1048576 numbers in each of its two lists. What both TurnSeen answer, as one said thing of what was seen, laid anew; and what stands through the law's calls. Of programs of at most 1048576 threads and steps of a thread, of as many numbers. -/
import Derived.Test.YtiaibfalmmnipaaTnGo
import Derived.Test.YtiaibfalmmnipaaSnFar
import Derived.Deep.AppendLies
import Derived.Test.YtiaibfalmmnipaaMathN
import Derived.Test.YtiaibfalmmnipaaCont
import Derived.Test.YtiaibfalmmnipaaTnB0
import Derived.Test.YtiaibfalmmnipaaIProg
import Derived.Test.YtiaibfalmmnipaaBnUs
import Derived.Lib.AppendZerosOnto
import Derived.Lib.SliceRun
import Derived.Laws.AppendOwnNone
import Derived.Test.YtiaibfalmmnipaaTnBase
import Derived.Test.YtiaibfalmmnipaaWide
import Derived.Test.YtiaibfalmmnipaaCount
import Derived.Maps.AppendAt
import Derived.Test.YtiaibfalmmnipaaSnMem
import Derived.Deep.QuietTactic
import Derived.BigQuiet
import Derived.Deep.OwnRows

namespace Go.Proofs.Ytiaibfalmmnipaa
open Go.RowKit

theorem nums_cells {w : World} {b o : Nat} {l : List Int} {sa : Option Addr} (h : IntS w sa b o l) : ∀ (j : Nat) (u : Value), (nums l)[j]? = some u → w.cell? ((⟨b, o, none⟩ : Addr).add j) = some u := by
  intro j u hj
  have hjl : j < l.length := by
    have := (List.getElem?_eq_some_iff.1 hj).1
    simpa [nums] using this
  rw [Go.WideShapes.add_plain, h.row j hjl]
  simpa [nums, hjl] using hj
theorem nums_one (l : List Int) : ∀ u ∈ nums l, u.oneCell' = true := by intro u hu; simp [nums] at hu; obtain ⟨_, _, rfl⟩ := hu; rfl

set_option maxHeartbeats 1000000 in
set_option maxRecDepth 100000 in
theorem newListO_any (a : Option Addr) (b o c : Nat) (l : List Int) (w : World) (hl : l.length ≤ 1048576) (h : IntS w a b o l) :
    Calls Try.prog 96 #[.slice a l.length c] w fun e w' => ∃ v, e = .returned v ∧ w'.ownsRow w.heap.size 3 1 v l.length (nums l) ∧ Below w.heap.size w w' := by
  obtain ⟨i0, hi, hz0, hz1, hz2⟩ := info_parts Try.infoInt
  rcases Nat.eq_zero_or_pos l.length with h0 | hpos
  · have hl0 : l = [] := List.length_eq_zero_iff.1 h0
    subst hl0
    rw [List.length_nil]
    go_enter Try.func96, Try.ntmps96
    go_wp2_with (at_builtin; refine wpList_append_nilT rfl (.const (.slice none 0 0)) (.tmp 3) 32 rfl 3 i0 Try.underlying32 hi rfl a c rfl ?_)
    go_wp2_with fail
    go_ret
    exact ⟨_, rfl, World.ownsRow_nil _ _ _ _, Below.refl _ _⟩
  · obtain ⟨rfl⟩ := h.addr hpos
    go_enter Try.func96, Try.ntmps96
    go_wp2_with (at_builtin; refine wpList_append_lies _ rfl (.const (.slice none 0 0)) (.tmp 3) 32 rfl w.heap.size 3 i0 _ 1 8 Try.underlying32 hi hz0 hz1 hz2 rfl (by decide) _ 0 [] rfl (World.ownsRow_nil _ _ _ _) ⟨b, o, none⟩ l.length c (nums l) rfl (by simp [nums]) (nums_cells h) (nums_one l) hpos (by unfold maxLen; omega) (by omega) (Nat.le_refl _) w.heap.size rfl ?_)
    intro g cap w1 hown hg hat hlt
    have hb : Below w.heap.size w w1 := ⟨hg.os, hg.tape, hg.output, hg.size, fun k hk => hg.block k hk (fun e => by simp [Value.ownBlock] at e)⟩
    have hown' : w1.ownsRow w.heap.size 3 1 (.slice (some ⟨g, 0, none⟩) l.length cap) l.length (nums l) := by simpa using hown
    go_wp2_with fail
    go_ret
    exact ⟨_, by first | rfl | simp, hown', hb⟩


end Go.Proofs.Ytiaibfalmmnipaa

namespace Go.Proofs.Ytiaibfalmmnipaa
namespace M

/-- The numbers below one. -/
def bel (n : Nat) : List Int := (List.range n).map fun i : Nat => (i : Int)
theorem bel_len (n : Nat) : (bel n).length = n := by simp [bel]
theorem bel_get (n i : Nat) (h : i < (bel n).length) : (bel n)[i] = (i : Int) := by simp [bel]
theorem bel_succ (n : Nat) : bel (n + 1) = bel n ++ [(n : Int)] := by simp [bel, List.range_succ]
theorem bel_mem {n : Nat} {x : Int} : x ∈ bel n ↔ 0 ≤ x ∧ x < n := by
  simp only [bel, List.mem_map, List.mem_range]
  constructor
  · rintro ⟨a, ha, rfl⟩; omega
  · rintro ⟨h1, h2⟩; exact ⟨x.toNat, by omega, by omega⟩
theorem bel_nodup (n : Nat) : (bel n).Nodup := by
  induction n with
  | zero => simp [bel]
  | succ n ih =>
    rw [bel_succ, List.nodup_append]
    refine ⟨ih, by simp, fun x hx y hy => ?_⟩
    have := (bel_mem.1 hx).2
    simp at hy
    omega

/-- Of as many, none lacks. -/
def rowOf (row evs : List Int) : Bool := decide (row.length = evs.length) && evs.all (fun v => has row v)
theorem rowOf_short {row evs : List Int} (h : ¬ row.length = evs.length) : rowOf row evs = false := by simp [rowOf, h]
theorem rowOf_same {row evs : List Int} (h : row.length = evs.length) : rowOf row evs = evs.all (fun v => has row v) := by simp [rowOf, h]
theorem rowAll_step {row evs : List Int} {n : Nat} (h : evs.all (fun v => has row v) = (evs.drop n).all (fun v => has row v)) (hn : n < evs.length) : evs.all (fun v => has row v) = (has row evs[n] && (evs.drop (n + 1)).all (fun v => has row v)) := by
  rw [h, ← List.getElem_cons_drop hn, List.all_cons]
/-- A row of so many. -/
def rowN (row : List Int) (n : Nat) : Bool := rowOf row (bel n)

theorem nodupI_le : ∀ {l m : List Int}, l.Nodup → (∀ x ∈ l, x ∈ m) → l.length ≤ m.length := by
  intro l
  induction l with
  | nil => intro m _ _; simp
  | cons x l ih =>
    intro m hn hs
    rw [List.nodup_cons] at hn
    have hx := hs x (by simp)
    have h1 := ih (m := m.erase x) hn.2 (fun y hy => by
      have hne : y ≠ x := fun e => hn.1 (by rw [← e]; exact hy)
      exact (List.mem_erase_of_ne hne).2 (hs y (List.mem_cons_of_mem _ hy)))
    have h2 := List.length_erase_of_mem hx
    have h3 : 0 < m.length := List.length_pos_of_mem hx
    simp only [List.length_cons]
    omega
theorem nodupI_all {l m : List Int} (hn : l.Nodup) (hs : ∀ x ∈ l, x ∈ m) (hlen : m.length = l.length) : ∀ y ∈ m, y ∈ l := by
  intro y hy
  apply Classical.byContradiction
  intro hc
  have h1 := nodupI_le (l := y :: l) (m := m) (List.nodup_cons.2 ⟨hc, hn⟩) (fun x hx => by
    rcases List.mem_cons.1 hx with rfl | hx
    · exact hy
    · exact hs x hx)
  simp only [List.length_cons] at h1
  omega

theorem rowN_len {row : List Int} {n : Nat} (h : rowN row n = true) : row.length = n := by
  simp only [rowN, rowOf, Bool.and_eq_true, decide_eq_true_eq, bel_len] at h; exact h.1
theorem rowN_all {row : List Int} {n : Nat} (h : rowN row n = true) : ∀ x ∈ bel n, x ∈ row := by
  simp only [rowN, rowOf, Bool.and_eq_true, List.all_eq_true, has, List.contains_eq_mem, decide_eq_true_eq] at h; exact h.2
theorem rowN_mem {row : List Int} {n : Nat} (h : rowN row n = true) : ∀ x ∈ row, 0 ≤ x ∧ x < n := fun x hx =>
  bel_mem.1 (nodupI_all (bel_nodup n) (rowN_all h) (by rw [rowN_len h, bel_len]) x hx)
theorem rowN_get {row : List Int} {n : Nat} (h : rowN row n = true) (i : Nat) (hi : i < row.length) : 0 ≤ row[i] ∧ row[i] < n := rowN_mem h _ (List.getElem_mem hi)
theorem rowN_bel (n : Nat) : rowN (bel n) n = true := by
  simp only [rowN, rowOf, Bool.and_eq_true, decide_eq_true_eq, List.all_eq_true, has, List.contains_eq_mem]
  exact ⟨trivial, fun x hx => hx⟩

/-- The things with these numbers. -/
def pick {α : Type} (z : α) (row : List Int) (l : List α) : List α := row.map fun i => l.getD i.toNat z
theorem pick_len {α : Type} (z : α) (row : List Int) (l : List α) : (pick z row l).length = row.length := by simp [pick]
theorem pick_take {α : Type} (z : α) (row : List Int) (l : List α) (n : Nat) (h : n < row.length) : pick z (row.take (n + 1)) l = pick z (row.take n) l ++ [l.getD row[n].toNat z] := by
  rw [List.take_succ_eq_append_getElem h]; unfold pick; rw [List.map_append]; rfl
theorem getD_get {α : Type} {z : α} {l : List α} {i : Nat} (h : i < l.length) : l.getD i z = l[i] := by
  rw [List.getD_eq_getElem?_getD, List.getElem?_eq_getElem h]; rfl
theorem pick_bel {α : Type} (z : α) (l : List α) : pick z (bel l.length) l = l := by
  apply List.ext_getElem
  · simp [pick, bel]
  · intro i h1 h2
    simp only [pick, List.getElem_map, bel_get]
    exact getD_get h2
theorem pick_mem {α : Type} {z : α} {row : List Int} {l : List α} {t : α} (h : t ∈ pick z row l) : t ∈ l ∨ t = z := by
  simp only [pick, List.mem_map] at h
  obtain ⟨i, _, rfl⟩ := h
  by_cases hi : i.toNat < l.length
  · rw [getD_get hi]; exact Or.inl (List.getElem_mem hi)
  · right; rw [List.getD_eq_getElem?_getD, List.getElem?_eq_none (by omega)]; rfl

def turnThreads (ll : List (List D)) (row : List Int) : Option (List (List D)) := if prog ll && rowN row ll.length then some (pick [] row ll) else none
theorem turnThreads_bad {ll : List (List D)} {row : List Int} (h : prog ll = false) : turnThreads ll row = none := by simp [turnThreads, h]
theorem turnThreads_row {ll : List (List D)} {row : List Int} (h : rowN row ll.length = false) : turnThreads ll row = none := by simp [turnThreads, h]
theorem turnThreads_yes {ll : List (List D)} {row : List Int} (h : prog ll = true) (h2 : rowN row ll.length = true) : turnThreads ll row = some (pick [] row ll) := by simp [turnThreads, h, h2]
theorem turnThreads_some {ll mm : List (List D)} {row : List Int} (h : turnThreads ll row = some mm) : prog ll = true ∧ rowN row ll.length = true ∧ mm = pick [] row ll := by
  unfold turnThreads at h
  split at h
  · rename_i hc
    simp only [Bool.and_eq_true] at hc
    exact ⟨hc.1, hc.2, (Option.some.inj h).symm⟩
  · cases h
theorem turnThreads_small {ll mm : List (List D)} {row : List Int} (e : (turnThreads ll row).getD [] = mm) : mm.length ≤ 3 ∧ ∀ t ∈ mm, t.length ≤ 7 := by
  cases h : turnThreads ll row with
  | none => rw [h] at e; subst e; simp
  | some x =>
    rw [h] at e
    obtain rfl : x = mm := e
    obtain ⟨h1, h2, rfl⟩ := turnThreads_some h
    obtain ⟨h3, h7⟩ := prog_le h1
    refine ⟨by rw [pick_len, rowN_len h2]; exact h3, fun t ht => ?_⟩
    rcases pick_mem ht with ht | rfl
    · exact h7 t ht
    · simp

/-- Each step another one. -/
def mapS (f : D → D) (ll : List (List D)) : List (List D) := ll.map fun t => t.map f
theorem mapS_len (f : D → D) (ll : List (List D)) : (mapS f ll).length = ll.length := by simp [mapS]
theorem mapS_small {f : D → D} {ll : List (List D)} (h7 : ∀ t ∈ ll, t.length ≤ 7) : ∀ t ∈ mapS f ll, t.length ≤ 7 := by
  intro t ht
  simp only [mapS, List.mem_map] at ht
  obtain ⟨u, hu, rfl⟩ := ht
  rw [List.length_map]; exact h7 u hu
theorem mapS_take (f : D → D) (ll : List (List D)) (n : Nat) (h : n < ll.length) : mapS f (ll.take (n + 1)) = mapS f (ll.take n) ++ [ll[n].map f] := by
  rw [List.take_succ_eq_append_getElem h]; unfold mapS; rw [List.map_append]; rfl

def placeF (row : List Int) (d : D) : D := if uses d.k then ⟨d.k, row.getD d.p.toNat 0, d.v⟩ else d
def valF (row : List Int) (d : D) : D := ⟨d.k, d.p, row.getD d.v.toNat 0⟩
def plainK (k : Int) : Int := if k = 5 then 2 else if k = 6 then 1 else k
def plainF (d : D) : D := ⟨plainK d.k, d.p, d.v⟩

def turnPlaces (ll : List (List D)) (row : List Int) : Option (List (List D)) := if prog ll && rowN row 3 then some (mapS (placeF row) ll) else none
theorem turnPlaces_bad {ll : List (List D)} {row : List Int} (h : prog ll = false) : turnPlaces ll row = none := by simp [turnPlaces, h]
theorem turnPlaces_row {ll : List (List D)} {row : List Int} (h : rowN row 3 = false) : turnPlaces ll row = none := by simp [turnPlaces, h]
theorem turnPlaces_yes {ll : List (List D)} {row : List Int} (h : prog ll = true) (h2 : rowN row 3 = true) : turnPlaces ll row = some (mapS (placeF row) ll) := by simp [turnPlaces, h, h2]
theorem turnPlaces_some {ll mm : List (List D)} {row : List Int} (h : turnPlaces ll row = some mm) : prog ll = true ∧ rowN row 3 = true ∧ mm = mapS (placeF row) ll := by
  unfold turnPlaces at h
  split at h
  · rename_i hc
    simp only [Bool.and_eq_true] at hc
    exact ⟨hc.1, hc.2, (Option.some.inj h).symm⟩
  · cases h
theorem turnPlaces_small {ll mm : List (List D)} {row : List Int} (e : (turnPlaces ll row).getD [] = mm) : mm.length ≤ 3 ∧ ∀ t ∈ mm, t.length ≤ 7 := by
  cases h : turnPlaces ll row with
  | none => rw [h] at e; subst e; simp
  | some x =>
    rw [h] at e
    obtain rfl : x = mm := e
    obtain ⟨h1, h2, rfl⟩ := turnPlaces_some h
    obtain ⟨h3, h7⟩ := prog_le h1
    exact ⟨by rw [mapS_len]; exact h3, mapS_small h7⟩

def turnVals (ll : List (List D)) (row : List Int) : Option (List (List D)) := if prog ll && rowN row 4 && row.getD 0 0 == 0 then some (mapS (valF row) ll) else none
theorem turnVals_bad {ll : List (List D)} {row : List Int} (h : prog ll = false) : turnVals ll row = none := by simp [turnVals, h]
theorem turnVals_row {ll : List (List D)} {row : List Int} (h : rowN row 4 = false) : turnVals ll row = none := by simp [turnVals, h]
theorem turnVals_first {ll : List (List D)} {row : List Int} (h : (row.getD 0 0 == 0) = false) : turnVals ll row = none := by simp only [turnVals, h]; simp
theorem turnVals_yes {ll : List (List D)} {row : List Int} (h : prog ll = true) (h2 : rowN row 4 = true) (h3 : (row.getD 0 0 == 0) = true) : turnVals ll row = some (mapS (valF row) ll) := by simp only [turnVals, h, h2, h3]; simp
theorem turnVals_some {ll mm : List (List D)} {row : List Int} (h : turnVals ll row = some mm) : prog ll = true ∧ rowN row 4 = true ∧ row.getD 0 0 = 0 ∧ mm = mapS (valF row) ll := by
  unfold turnVals at h
  split at h
  · rename_i hc
    simp only [Bool.and_eq_true, beq_iff_eq] at hc
    exact ⟨hc.1.1, hc.1.2, hc.2, (Option.some.inj h).symm⟩
  · cases h
theorem turnVals_small {ll mm : List (List D)} {row : List Int} (e : (turnVals ll row).getD [] = mm) : mm.length ≤ 3 ∧ ∀ t ∈ mm, t.length ≤ 7 := by
  cases h : turnVals ll row with
  | none => rw [h] at e; subst e; simp
  | some x =>
    rw [h] at e
    obtain rfl : x = mm := e
    obtain ⟨h1, h2, _, rfl⟩ := turnVals_some h
    obtain ⟨h3, h7⟩ := prog_le h1
    exact ⟨by rw [mapS_len]; exact h3, mapS_small h7⟩

def turnPlain (ll : List (List D)) : List (List D) := if prog ll then mapS plainF ll else []
theorem turnPlain_bad {ll : List (List D)} (h : prog ll = false) : turnPlain ll = [] := by simp [turnPlain, h]
theorem turnPlain_yes {ll : List (List D)} (h : prog ll = true) : turnPlain ll = mapS plainF ll := by simp [turnPlain, h]
theorem turnPlain_small {ll mm : List (List D)} (e : turnPlain ll = mm) : mm.length ≤ 3 ∧ ∀ t ∈ mm, t.length ≤ 7 := by
  subst e
  cases h : prog ll with
  | false => rw [turnPlain_bad h]; simp
  | true =>
    rw [turnPlain_yes h]
    obtain ⟨h3, h7⟩ := prog_le h
    exact ⟨by rw [mapS_len]; exact h3, mapS_small h7⟩

def turnBeside (ll mm : List (List D)) : Option (List (List D)) := if prog ll && prog mm && prog (ll ++ mm) then some (ll ++ mm) else none
theorem turnBeside_bad {ll mm : List (List D)} (h : prog ll = false) : turnBeside ll mm = none := by simp [turnBeside, h]
theorem turnBeside_bad2 {ll mm : List (List D)} (h : prog mm = false) : turnBeside ll mm = none := by simp [turnBeside, h]
theorem turnBeside_bad3 {ll mm : List (List D)} (h : prog (ll ++ mm) = false) : turnBeside ll mm = none := by simp [turnBeside, h]
theorem turnBeside_yes {ll mm : List (List D)} (h : prog ll = true) (h2 : prog mm = true) (h3 : prog (ll ++ mm) = true) : turnBeside ll mm = some (ll ++ mm) := by simp [turnBeside, h, h2, h3]
theorem turnBeside_some {ll mm nn : List (List D)} (h : turnBeside ll mm = some nn) : prog ll = true ∧ prog mm = true ∧ prog (ll ++ mm) = true ∧ nn = ll ++ mm := by
  unfold turnBeside at h
  split at h
  · rename_i hc
    simp only [Bool.and_eq_true] at hc
    exact ⟨hc.1.1, hc.1.2, hc.2, (Option.some.inj h).symm⟩
  · cases h
theorem turnBeside_small {ll mm nn : List (List D)} (e : (turnBeside ll mm).getD [] = nn) : nn.length ≤ 3 ∧ ∀ t ∈ nn, t.length ≤ 7 := by
  cases h : turnBeside ll mm with
  | none => rw [h] at e; subst e; simp
  | some x =>
    rw [h] at e
    obtain rfl : x = nn := e
    obtain ⟨_, _, h1, rfl⟩ := turnBeside_some h
    exact prog_le h1
end M
end Go.Proofs.Ytiaibfalmmnipaa

namespace Go.Proofs.Ytiaibfalmmnipaa
open Go.RowKit

set_option maxHeartbeats 400000 in
set_option maxRecDepth 100000 in
theorem rowOf_any (a : Option Addr) (b o c : Nat) (row : List Int) (a2 : Option Addr) (b2 o2 c2 : Nat) (evs : List Int) (w : World) (hl : row.length ≤ 1048576) (hl2 : evs.length ≤ 1048576) (h : IntS w a b o row) (h2 : IntS w a2 b2 o2 evs) :
    Calls Try.prog 94 #[.slice a row.length c, .slice a2 evs.length c2] w fun e w' => e = .returned (.bool (M.rowOf row evs)) ∧ w' = w := by
  by_cases hln : row.length = evs.length
  · have HF : Hid (M.rowOf row evs = evs.all (fun v => M.has row v)) := M.rowOf_same hln
    have hq : ((row.length : Int) != evs.length) = false := by simp; omega
    have HL : Hid (row.length = evs.length) := hln
    clear hln
    go_enter Try.func94, Try.ntmps94
    go_wp2_with fail
    go_loopw [14] (fun s14 wr => ∃ n : Nat, s14 = .int .i64 n ∧ n ≤ evs.length ∧ Hid (evs.all (fun v => M.has row v) = (evs.drop n).all (fun v => M.has row v)) ∧ wr = w) (fun s14 _ => evs.length - (intOf s14).toNat)
    case atStart => exact ⟨0, rfl, Nat.zero_le _, by show _ = _; rfl, rfl⟩
    case round =>
      obtain ⟨n, rfl, hn, HA, rfl⟩ := hrel
      by_cases hlt : n < evs.length
      · obtain ⟨rfl⟩ := h2.addr (by omega)
        have hx := h2.row n hlt
        have HS : Hid (evs.all (fun v => M.has row v) = (M.has row evs[n] && (evs.drop (n + 1)).all (fun v => M.has row v))) := M.rowAll_step HA.out hlt
        clear HA
        generalize evs[n] = y at *
        have i1 : (n : Int) < evs.length := by omega
        cases hh : M.has row y
        · go_wp2_with (go_at_call 92; refine (containsI_any a b o c row y _ hl h).mono ?_; rw [hh]; rintro e w' ⟨rfl, rfl⟩)
          go_ret
          exact ⟨ret_bool (by rw [HF.out, HS.out, hh]; rfl), rfl⟩
        · go_wp2_with (go_at_call 92; refine (containsI_any a b o c row y _ hl h).mono ?_; rw [hh]; rintro e w' ⟨rfl, rfl⟩)
          exact ⟨⟨n + 1, by go_num, by omega, by show _ = _; rw [HS.out, hh]; rfl, trivial⟩, by simp [intOf]; omega⟩
      · go_wp2_with fail
        go_ret
        exact ⟨ret_bool (by rw [HF.out, HA.out, List.drop_eq_nil_of_le (by omega)]; rfl), rfl⟩
  · have hln' : ((row.length : Int) == evs.length) = false := by simp; omega
    go_enter Try.func94, Try.ntmps94
    go_wp2_with fail
    go_ret
    exact ⟨ret_bool (M.rowOf_short hln).symm, rfl⟩

end Go.Proofs.Ytiaibfalmmnipaa

namespace Go.Proofs.Ytiaibfalmmnipaa
open Go.RowKit

/-- What a row makes of things: nothing, if it is none. -/
def M.turned {α : Type} (z : α) (row : List Int) (l : List α) : List α := if M.rowN row l.length then M.pick z row l else []
theorem M.turned_no {α : Type} {z : α} {row : List Int} {l : List α} (h : M.rowN row l.length = false) : M.turned z row l = [] := by simp [M.turned, h]
theorem M.turned_yes {α : Type} {z : α} {row : List Int} {l : List α} (h : M.rowN row l.length = true) : M.turned z row l = M.pick z row l := by simp [M.turned, h]

/-- Values that are threads. -/
def Thx (w : World) (vs : List Value) (ll : List (List M.D)) : Prop := vs.length = ll.length ∧ ∀ i (h1 : i < ll.length) (h2 : i < vs.length), ∃ a' b' o' c', vs[i] = .slice a' ll[i].length c' ∧ DoS w a' b' o' ll[i]
theorem Thx.nil (w : World) : Thx w [] [] := ⟨rfl, fun _ h => absurd h (Nat.not_lt_zero _)⟩
theorem Thx.below {w w' : World} {vs : List Value} {ll : List (List M.D)} {B : Nat} (h : Thx w vs ll) (hb : Below B w w') (hB : w.heap.size ≤ B) : Thx w' vs ll :=
  ⟨h.1, fun i h1 h2 => by obtain ⟨a', b', o', c', e, hd⟩ := h.2 i h1 h2; exact ⟨a', b', o', c', e, hd.below hb hB⟩⟩
theorem Thx.snoc {w : World} {vs : List Value} {ll : List (List M.D)} {a : Option Addr} {b o c : Nat} {l : List M.D} (h : Thx w vs ll) (hd : DoS w a b o l) : Thx w (vs ++ [.slice a l.length c]) (ll ++ [l]) := by
  have hl := h.1
  refine ⟨by simp [hl], fun i h1 h2 => ?_⟩
  by_cases hi : i < ll.length
  · rw [List.getElem_append_left (by omega), List.getElem_append_left hi]
    exact h.2 i hi (by omega)
  · have : i = ll.length := by simp at h1; omega
    subst this
    have e1 : (ll ++ [l])[ll.length] = l := by simp
    have e2 : (vs ++ [Value.slice a l.length c])[ll.length] = .slice a l.length c := by
      rw [List.getElem_append_right (by omega)]
      simp [hl]
    rw [e1, e2]
    exact ⟨a, b, o, c, rfl, hd⟩
theorem Thx.ss {w : World} {B : Nat} {v : Value} {vs : List Value} {ll : List (List M.D)} (h : Thx w vs ll) (ho : w.ownsRow B 63 1 v ll.length vs) : ∃ a g c, v = .slice a ll.length c ∧ DoSS w a g 0 ll := by
  have hl := h.1
  rcases ho.2 with ⟨hv, hn⟩ | ⟨g, cap, cur, hv, hg, hh, r⟩
  · have : ll = [] := List.length_eq_zero_iff.1 hn
    subst this
    exact ⟨none, 0, 0, hv, ⟨fun h => absurd h (Nat.lt_irrefl _), fun i hi => absurd hi (Nat.not_lt_zero _)⟩⟩
  · refine ⟨_, g, cap, hv, ⟨fun _ => rfl, fun i hi => ?_⟩⟩
    have hc := ho.cells (g := g) (by rw [hv]; rfl) i vs[i] (List.getElem?_eq_getElem (by omega))
    rw [Go.WideShapes.add_plain] at hc
    obtain ⟨a', b', o', c', e, hd⟩ := h.2 i hi (by omega)
    rw [e] at hc
    exact ⟨a', b', o', c', hc, hd⟩

end Go.Proofs.Ytiaibfalmmnipaa

namespace Go.Proofs.Ytiaibfalmmnipaa
namespace M

/-- What each thread read. -/
def parts : List (List D) → List Int → List (List Int)
  | [], _ => []
  | t :: ll, l => l.take (cnt reads t) :: parts ll (l.drop (cnt reads t))
theorem parts_len (ll : List (List D)) : ∀ l, (parts ll l).length = ll.length := by
  induction ll with
  | nil => intro l; rfl
  | cons t ll ih => intro l; simp [parts, ih]
theorem tot_take (f : Int → Bool) (ll : List (List D)) (n : Nat) (h : n < ll.length) : tot f (ll.take (n + 1)) = tot f (ll.take n) + cnt f ll[n] := by
  have app : ∀ a b : List (List D), tot f (a ++ b) = tot f a + tot f b := fun a b => by
    induction a with
    | nil => simp [tot]
    | cons x a ih => simp only [List.cons_append, tot, ih]; omega
  rw [List.take_succ_eq_append_getElem h, app]; simp [tot]
theorem parts_get (ll : List (List D)) : ∀ (l : List Int) (n : Nat) (h : n < ll.length) (h' : n < (parts ll l).length), (parts ll l)[n] = (l.drop (tot reads (ll.take n))).take (cnt reads ll[n]) := by
  induction ll with
  | nil => intro l n h; simp at h
  | cons t ll ih =>
    intro l n h h'
    cases n with
    | zero => simp [parts, tot]
    | succ n =>
      have := ih (l.drop (cnt reads t)) n (by simpa using h) (by rw [parts_len]; simpa using h)
      simp only [parts, List.getElem_cons_succ, List.take_succ_cons, tot]
      rw [this, List.drop_drop]
theorem tot_take_le (f : Int → Bool) (ll : List (List D)) (n : Nat) : tot f (ll.take n) ≤ tot f ll := by
  have app : ∀ a b : List (List D), tot f (a ++ b) = tot f a + tot f b := fun a b => by
    induction a with
    | nil => simp [tot]
    | cons x a ih => simp only [List.cons_append, tot, ih]; omega
  have := app (ll.take n) (ll.drop n)
  rw [List.take_append_drop] at this
  omega
def turnSeen (ll : List (List D)) (l1 l2 row : List Int) : Option (List Int × List Int) := if seenOk ll l1 l2 && rowN row ll.length then some ((pick [] row (parts ll l1)).flatten, l2) else none
theorem turnSeen_bad {ll : List (List D)} {l1 l2 row : List Int} (h : seenOk ll l1 l2 = false) : turnSeen ll l1 l2 row = none := by simp [turnSeen, h]
theorem turnSeen_row {ll : List (List D)} {l1 l2 row : List Int} (h : rowN row ll.length = false) : turnSeen ll l1 l2 row = none := by simp [turnSeen, h]
theorem turnSeen_yes {ll : List (List D)} {l1 l2 row : List Int} (h : seenOk ll l1 l2 = true) (h2 : rowN row ll.length = true) : turnSeen ll l1 l2 row = some ((pick [] row (parts ll l1)).flatten, l2) := by simp [turnSeen, h, h2]
theorem seenOk_len {ll : List (List D)} {l1 l2 : List Int} (h : seenOk ll l1 l2 = true) : prog ll = true ∧ l1.length = tot reads ll ∧ l2.length = 3 := by
  by_cases h1 : (l1.length : Int) = nreads ll
  · by_cases h2 : l2.length = 3
    · cases hp : prog ll
      · rw [nreads_no hp] at h1; omega
      · rw [nreads_ok hp] at h1; exact ⟨rfl, by omega, h2⟩
    · rw [seenOk_2 h2] at h; cases h
  · rw [seenOk_1 h1] at h; cases h
/-- How many numbers the first rows have. -/
def lens : List (List Int) → Nat
  | [] => 0
  | r :: rs => r.length + lens rs
theorem lens_take (rs : List (List Int)) (n : Nat) (h : n < rs.length) : lens (rs.take (n + 1)) = lens (rs.take n) + rs[n].length := by
  have app : ∀ a b : List (List Int), lens (a ++ b) = lens a + lens b := fun a b => by
    induction a with
    | nil => simp [lens]
    | cons x a ih => simp only [List.cons_append, lens, ih]; omega
  rw [List.take_succ_eq_append_getElem h, app]; simp [lens]
theorem lens_flat (rs : List (List Int)) : rs.flatten.length = lens rs := by
  induction rs with
  | nil => rfl
  | cons r rs ih => simp [lens, ih]
theorem flat_take (rs : List (List Int)) (n : Nat) (h : n < rs.length) : (rs.take (n + 1)).flatten = (rs.take n).flatten ++ rs[n] := by
  rw [List.take_succ_eq_append_getElem h]; simp only [List.flatten_append, List.flatten_cons, List.flatten_nil, List.append_nil]
end M
end Go.Proofs.Ytiaibfalmmnipaa

namespace Go.Proofs.Ytiaibfalmmnipaa
open Go.RowKit

theorem run_append_zero {P : Program} (w : World) (t ty e : TypeId) (i : TypeInfo) (ht : P.underlying t = some (.slice e)) (hi : P.info? e = some i) {base size n : Nat} {v : Value} {xs : List Value} {e' : TypeId} (hown : w.ownsRow base e' size v n xs) (a : Option Addr) (c : Nat) :
    (Builtin.append_ #[t, t] ty #[v, .slice a 0 c]).run P w = .ok v w := by
  rcases hown.2 with ⟨hv, h0⟩ | ⟨g, cap, cur, hv, _, _, hnc, _⟩
  · subst hv
    cases a
    · simp [Builtin.append_, run_underlying ht, sizeOf, typeInfo, hi, Builtin.lenOf, Builtin.firstCells]
    · simp [Builtin.append_, run_underlying ht, sizeOf, typeInfo, hi, Builtin.lenOf, Builtin.firstCells, loadCells, loadCellsFrom]
  · subst hv
    cases a
    · simp [Builtin.append_, run_underlying ht, sizeOf, typeInfo, hi, Builtin.lenOf, Builtin.firstCells, storeCells, hnc]
    · simp [Builtin.append_, run_underlying ht, sizeOf, typeInfo, hi, Builtin.lenOf, Builtin.firstCells, loadCells, loadCellsFrom, storeCells, hnc]
theorem wpList_append_zero {P : Program} {w : World} {ops : Array Oper} {rest : List Oper} {o : Oper} {a : Act} {Q : Exit → Act → World → Prop} (hgd : o.guard = none) (s x : Operand) (t : TypeId)
    (ho : o.op = .call { callee := .builtin .append, args := #[s, x], argTypes := #[t, t] }) (d : Option Tmp) (hd : o.dst = d) (e : TypeId) (i : TypeInfo) (ht : P.underlying t = some (.slice e)) (hi : P.info? e = some i)
    {base size n : Nat} {v : Value} {xs : List Value} {e' : TypeId} (hs : a.eval s = v) (hown : w.ownsRow base e' size v n xs) (b : Option Addr) (m c : Nat) (hm : m = 0) (hx : a.eval x = .slice b m c)
    (h : wpList P ops Q rest (a.put d v) w) : wpList P ops Q (o :: rest) a w := by
  subst hd
  subst hm
  refine wpList_plain hgd fun K hK => ?_
  have hrun := run_append_zero (P := P) w t o.type e i ht hi hown b c
  unfold Oper.wp
  simp [execOp, ho, resolve, invoke, builtin, hs, hx, hrun, Result.andThen]
  exact hK _ _ h

end Go.Proofs.Ytiaibfalmmnipaa

namespace Go.Proofs.Ytiaibfalmmnipaa
open Go.RowKit

set_option maxHeartbeats 1000000 in
theorem newListD_any (a : Option Addr) (b o c : Nat) (l : List M.D) (w : World) (hl : l.length ≤ 1048576) (h : DoS w a b o l) :
    Calls Try.prog 77 #[.slice a l.length c] w fun e w' => ∃ v, e = .returned v ∧ w'.ownsRow w.heap.size 66 3 v l.length (flat l) ∧ Below w.heap.size w w' := by
  obtain ⟨i0, hi, hz0, hz1, hz2⟩ := info_parts Try.info66
  rcases Nat.eq_zero_or_pos l.length with h0 | hpos
  · have hl0 : l = [] := List.length_eq_zero_iff.1 h0
    subst hl0
    rw [List.length_nil]
    go_enter Try.func77, Try.ntmps77
    go_wp2_with (at_builtin; refine wpList_append_nilT rfl (.const (.slice none 0 0)) (.tmp 3) 63 rfl 66 i0 Try.underlying63 hi rfl a c rfl ?_)
    go_wp2_with fail
    go_ret
    exact ⟨_, rfl, World.ownsRow_nil _ _ _ _, Below.refl _ _⟩
  · obtain ⟨rfl⟩ := h.addr hpos
    go_enter Try.func77, Try.ntmps77
    go_wp2_with (at_builtin; refine wpList_append_lies _ rfl (.const (.slice none 0 0)) (.tmp 3) 63 rfl w.heap.size 66 i0 _ 3 24 Try.underlying63 hi hz0 hz1 hz2 rfl (by decide) _ 0 [] rfl (World.ownsRow_nil _ _ _ _) ⟨b, o, none⟩ l.length c (flat l) rfl (flat_length l) (DoS.flat_cells h.row) (flat_one' l) hpos (by unfold maxLen; omega) (by omega) (Nat.le_refl _) w.heap.size rfl ?_)
    intro g cap w1 hown hg hat hlt
    have hb : Below w.heap.size w w1 := ⟨hg.os, hg.tape, hg.output, hg.size, fun k hk => hg.block k hk (fun e => by simp [Value.ownBlock] at e)⟩
    have hown' : w1.ownsRow w.heap.size 66 3 (.slice (some ⟨g, 0, none⟩) l.length cap) l.length (flat l) := by simpa using hown
    go_wp2_with fail
    go_ret
    exact ⟨_, by first | rfl | simp, hown', hb⟩

set_option maxHeartbeats 4000000 in
set_option maxRecDepth 100000 in
set_option linter.unusedSimpArgs false in
theorem copyProg_any (a : Option Addr) (b o c : Nat) (ll : List (List M.D)) (w : World) (hl : ll.length ≤ 1048576) (hls : ∀ t ∈ ll, t.length ≤ 1048576) (h : DoSS w a b o ll) :
    Calls Try.prog 57 #[.agg #[.slice a ll.length c]] w fun e w' => ∃ v, e = .returned (.agg #[v]) ∧ (∃ vs, Rdg w' w.heap.size v ll vs) ∧ Below w.heap.size w w' := by
  obtain ⟨i0, hi, hz0, hz1, hz2⟩ := info_parts Try.info63
  go_enter Try.func57, Try.ntmps57
  go_wp2_with fail
  go_loopw [9] (fun s9 wr => ∃ (n : Nat) (v : Value) (vs : List Value), s9 = .int .i64 n ∧ n ≤ ll.length ∧ Rdg wr (w.heap.size + 3) v (ll.take n) vs ∧ Slot1 wr (w.heap.size + 1 + 1) v ∧ Slot1 wr (w.heap.size + 1) (.slice none 0 0) ∧ Below w.heap.size w wr) (fun s9 _ => ll.length - (intOf s9).toNat)
  case atStart =>
    refine ⟨0, .slice none 0 0, [], rfl, Nat.zero_le _, by simpa using Rdg.nil _ _, ?_, ?_, below3 _ _ _ _⟩
    · have := Slot1.new ((w.alloc (.cells #[.slice a ll.length c] 25)).alloc (.cells #[.slice none 0 0] 25)) (.slice none 0 0) 25
      rwa [World.size_alloc, World.size_alloc] at this
    · have := (Slot1.new (w.alloc (.cells #[.slice a ll.length c] 25)) (.slice none 0 0) 25).bl' (below1 _ (.cells #[.slice none 0 0] 25))
      rwa [World.size_alloc] at this
  case round =>
    obtain ⟨n, v, vs, rfl, hn, hR, hP, hQ, hbel⟩ := hrel
    by_cases hlt : n < ll.length
    · obtain ⟨rfl⟩ := h.addr (by omega)
      obtain ⟨a', b', o', c', hc, hd⟩ := (h.below hbel (Nat.le_refl _)).row n hlt
      have ht := hls _ (List.getElem_mem hlt)
      have HW : Hid (ll.take (n + 1) = ll.take n ++ [ll[n]]) := List.take_succ_eq_append_getElem hlt
      have hmm : (ll.take n).length ≤ 1048576 := by simp; omega
      generalize ll[n] = t at *
      generalize ll.take n = mm at *
      have i1 : (n : Int) < ll.length := by omega
      obtain ⟨av, gv, cv, rfl, _⟩ := hR.b.ss
      have x0 := hP.c
      have lP := hP.lt
      have F4 : Hid (∀ (w4 : World) (v4 : Value), w4.ownsRow wr.heap.size 66 3 v4 t.length (flat t) → Below wr.heap.size wr.drew w4 → ∃ a4 c4, v4 = .slice a4 t.length c4 ∧ Below wr.heap.size wr w4 ∧ Slot1 w4 (w.heap.size + 1 + 1) (.slice av mm.length cv) ∧ Rdg w4 (w.heap.size + 3) (.slice av mm.length cv) mm vs) := by
        intro w4 v4 ho hb
        obtain ⟨a4, c4, e⟩ := own_slx ho
        have b4 : Below wr.heap.size wr w4 := (Below.refl _ _).drew.trans hb
        exact ⟨a4, c4, e, b4, hP.bl' b4, hR.below b4⟩
      have F5 : Hid (∀ (w4 : World) (a4 : Option Addr) (c4 : Nat), Below wr.heap.size wr w4 → w4.ownsRow wr.heap.size 66 3 (.slice a4 t.length c4) t.length (flat t) → ∀ (g5 cap5 : Nat) (w5 : World), w5.ownsRow (w.heap.size + 3) 63 1 (.slice (some ⟨g5, 0, none⟩) (mm.length + 1) cap5) (mm.length + 1) (vs ++ [.slice a4 t.length c4]) → (w4.alloc (.cells #[.slice a4 t.length c4] 63)).grownBy w5 (Value.slice av mm.length cv).ownBlock → Below w.heap.size w w5 ∧ Slot1 w5 (w.heap.size + 1 + 1) (.slice av mm.length cv) ∧ Slot1 w5 (w.heap.size + 1) (.slice none 0 0) ∧ Rdg w5 (w.heap.size + 3) (.slice (some ⟨g5, 0, none⟩) (mm.length + 1) cap5) (mm ++ [t]) (vs ++ [.slice a4 t.length c4])) := by
        intro w4 a4 c4 b4 hx4 g5 cap5 w5 ho hg
        have hal := below1 w4 (.cells #[.slice a4 t.length c4] 63)
        have hge := own_ge hR.b.outer
        have b4a := b4.trans (hal.mono b4.size)
        have bwa := hbel.trans (b4a.mono hbel.size)
        refine ⟨below_grown bwa hg (fun j hj => by have := hge j hj; omega) bwa.size, (hP.bl' b4a).apart hg (fun e => by have := hge _ e; omega), (hQ.bl' b4a).apart hg (fun e => by have := hge _ e; omega), ((hR.below b4).below hal).snocT (ownsRow_mono (ownsRow_below hx4 hal) (by omega)) (fun i hi j hj e => ?_) ho hg⟩
        have h1 := ((hR.b.inner i (by have := hR.b.len; omega) hi).lt j hj).2
        have h2 := own_ge hx4 j e
        omega
      have CN := newListD_any a' b' o' c' t wr.drew ht (hd.below (Below.refl wr.heap.size wr).drew (Nat.le_refl _))
      go_wp2_with fail
      refine wp_region_held_drew (S := fun w' => Below w.heap.size w w') (by kernel_rfl) hbel.drew (fun hH => ?_)
      refine takeD 0 (some 13) (.pointer (some ⟨w.heap.size + 1 + 1, 0, none⟩)) hH rfl rfl (by kernel_rfl) (by kernel_rfl) (by kernel_rfl) (fun _ _ _ h => h) (Or.inl ⟨by rfl, by intro w' hSw; go_simp⟩) ?_
      simp only [Act.put, List.setIfInBounds_toArray, List.set_cons_zero, List.set_cons_succ]
      refine takeD 2 (some 15) (.slice a' t.length c') hH rfl rfl (by kernel_rfl) (by kernel_rfl) (by kernel_rfl) (fun _ _ _ h => h) (Or.inl ⟨by rfl, by intro w' hSw; go_simp⟩) ?_
      simp only [Act.put, List.setIfInBounds_toArray, List.set_cons_zero, List.set_cons_succ]
      refine wpAnyH_ready (rs := [1, 3]) (by kernel_rfl) (by simp) ?_
      refine AllReadyH.cons rfl (fun K' hK => ?_) (AllReadyH.cons rfl (fun K' hK => ?_) AllReadyH.nil)
      · have xx := x0
        rw [if_pos (by rfl)]
        go_simp
        refine hK.out _ _ hH (fun _ => ?_)
        clear hK K' xx
        refine wpAnyH_ready (rs := [3]) (by kernel_rfl) (by simp) ?_
        refine AllReadyH.cons rfl (fun K' hK => ?_) AllReadyH.nil
        refine step_goV (by rfl) (some 16) rfl 77 #[.tmp 15] _ rfl #[.slice a' t.length c'] (by simp [Act.eval]) (fun _ _ => rfl) CN ?_
        rintro e w4 ⟨v4, rfl, ho4, hb4⟩
        obtain ⟨a4, c4, rfl, b4, hS4, hR4⟩ := F4.out w4 v4 ho4 hb4
        refine ⟨_, rfl, ?_⟩
        simp only [Act.put, List.setIfInBounds_toArray, List.set_cons_zero, List.set_cons_succ]
        refine hK.out _ _ (hbel.trans (b4.mono hbel.size)) (fun hH4 => ?_)
        clear hK K'
        have hS4a := hS4.bl' (below1 w4 (.cells #[.slice a4 t.length c4] 63))
        have S4a : Below w.heap.size w (w4.alloc (.cells #[.slice a4 t.length c4] 63)) := hH4.alloc hH4.size _
        refine wpAnyH_ready (rs := [4]) (by kernel_rfl) (by simp) ?_
        refine AllReadyH.cons rfl (fun K' hK => ?_) AllReadyH.nil
        rw [if_pos (by rfl)]
        go_simp
        refine hK.out _ _ S4a (fun _ => ?_)
        clear hK K'
        refine wpAnyH_ready (rs := [5]) (by kernel_rfl) (by simp) ?_
        refine AllReadyH.cons rfl (fun K' hK => ?_) AllReadyH.nil
        refine step_append_lies _ (by rfl) (.tmp 14) (.tmp 17) 23 (by rfl) (w.heap.size + 3) 63 i0 _ 1 24 Try.underlying23 hi hz0 hz1 hz2 rfl (by decide) (.slice av mm.length cv) mm.length vs (by rfl) ((hR4.b.outer).alloc _) ⟨w4.heap.size, 0, none⟩ 1 1 [.slice a4 t.length c4] (by rfl) (by rfl) (World.news_of_block (cs := #[.slice a4 t.length c4]) (t := 63) (fr := (0, 0)) (heap_alloc_new w4 _)) (by simp [Value.oneCell']) (by omega) (by unfold maxLen; omega) (by omega) (by have := b4.size; simp; omega) (w4.heap.size + 1) (by simp) ?_
        intro g5 cap5 w5 hown5 hg5 hat5 hlt5
        obtain ⟨b5, hS5, hQ5, hR5⟩ := F5.out w4 a4 c4 b4 ho4 g5 cap5 w5 hown5 hg5
        simp only [Act.put, List.setIfInBounds_toArray, List.set_cons_zero, List.set_cons_succ]
        refine hK.out _ _ b5 (fun hH5 => ?_)
        clear hK K'
        refine takeD 6 (some 19) (.pointer (some ⟨w.heap.size + 1 + 1, 0, none⟩)) hH5 rfl rfl (by kernel_rfl) (by kernel_rfl) (by kernel_rfl) (fun _ _ _ h => h) (Or.inl ⟨by rfl, by intro w' hSw; go_simp⟩) ?_
        simp only [Act.put, List.setIfInBounds_toArray, List.set_cons_zero, List.set_cons_succ]
        refine wpAnyH_ready (rs := [7]) (by kernel_rfl) (by simp) ?_
        refine AllReadyH.cons rfl (fun K' hK => ?_) AllReadyH.nil
        have xc := hS5.c
        have xz := hS5.fz
        rw [if_pos (by rfl)]
        go_simp
        refine hK.out _ _ (b5.setCell (by show w.heap.size ≤ w.heap.size + 1 + 1; omega) _) (fun _ => ?_)
        clear hK K'
        refine wpAnyH_done (by kernel_rfl) ?_ _
        clear xc xz
        go_wp2_with fail
        exact ⟨⟨n + 1, _, _, by go_num, by omega, by rw [HW.out]; exact hR5.far (by omega) _, hS5.set _, hQ5.far (by omega) _, b5.setCell (by show w.heap.size ≤ w.heap.size + 1 + 1; omega) _⟩, by simp [intOf]; omega⟩
      · refine step_goV (by rfl) (some 16) rfl 77 #[.tmp 15] _ rfl #[.slice a' t.length c'] (by simp [Act.eval]) (fun _ _ => rfl) CN ?_
        rintro e w4 ⟨v4, rfl, ho4, hb4⟩
        obtain ⟨a4, c4, rfl, b4, hS4, hR4⟩ := F4.out w4 v4 ho4 hb4
        refine ⟨_, rfl, ?_⟩
        simp only [Act.put, List.setIfInBounds_toArray, List.set_cons_zero, List.set_cons_succ]
        refine hK.out _ _ (hbel.trans (b4.mono hbel.size)) (fun hH4 => ?_)
        clear hK K'
        have hS4a := hS4.bl' (below1 w4 (.cells #[.slice a4 t.length c4] 63))
        have S4a : Below w.heap.size w (w4.alloc (.cells #[.slice a4 t.length c4] 63)) := hH4.alloc hH4.size _
        refine wpAnyH_ready (rs := [1, 4]) (by kernel_rfl) (by simp) ?_
        refine AllReadyH.cons rfl (fun K' hK => ?_) (AllReadyH.cons rfl (fun K' hK => ?_) AllReadyH.nil)
        · have xx := hS4.c
          rw [if_pos (by rfl)]
          go_simp
          refine hK.out _ _ hH4 (fun _ => ?_)
          clear hK K' xx
          refine wpAnyH_ready (rs := [4]) (by kernel_rfl) (by simp) ?_
          refine AllReadyH.cons rfl (fun K' hK => ?_) AllReadyH.nil
          rw [if_pos (by rfl)]
          go_simp
          refine hK.out _ _ S4a (fun _ => ?_)
          clear hK K'
          refine wpAnyH_ready (rs := [5]) (by kernel_rfl) (by simp) ?_
          refine AllReadyH.cons rfl (fun K' hK => ?_) AllReadyH.nil
          refine step_append_lies _ (by rfl) (.tmp 14) (.tmp 17) 23 (by rfl) (w.heap.size + 3) 63 i0 _ 1 24 Try.underlying23 hi hz0 hz1 hz2 rfl (by decide) (.slice av mm.length cv) mm.length vs (by rfl) ((hR4.b.outer).alloc _) ⟨w4.heap.size, 0, none⟩ 1 1 [.slice a4 t.length c4] (by rfl) (by rfl) (World.news_of_block (cs := #[.slice a4 t.length c4]) (t := 63) (fr := (0, 0)) (heap_alloc_new w4 _)) (by simp [Value.oneCell']) (by omega) (by unfold maxLen; omega) (by omega) (by have := b4.size; simp; omega) (w4.heap.size + 1) (by simp) ?_
          intro g5 cap5 w5 hown5 hg5 hat5 hlt5
          obtain ⟨b5, hS5, hQ5, hR5⟩ := F5.out w4 a4 c4 b4 ho4 g5 cap5 w5 hown5 hg5
          simp only [Act.put, List.setIfInBounds_toArray, List.set_cons_zero, List.set_cons_succ]
          refine hK.out _ _ b5 (fun hH5 => ?_)
          clear hK K'
          refine takeD 6 (some 19) (.pointer (some ⟨w.heap.size + 1 + 1, 0, none⟩)) hH5 rfl rfl (by kernel_rfl) (by kernel_rfl) (by kernel_rfl) (fun _ _ _ h => h) (Or.inl ⟨by rfl, by intro w' hSw; go_simp⟩) ?_
          simp only [Act.put, List.setIfInBounds_toArray, List.set_cons_zero, List.set_cons_succ]
          refine wpAnyH_ready (rs := [7]) (by kernel_rfl) (by simp) ?_
          refine AllReadyH.cons rfl (fun K' hK => ?_) AllReadyH.nil
          have xc := hS5.c
          have xz := hS5.fz
          rw [if_pos (by rfl)]
          go_simp
          refine hK.out _ _ (b5.setCell (by show w.heap.size ≤ w.heap.size + 1 + 1; omega) _) (fun _ => ?_)
          clear hK K'
          refine wpAnyH_done (by kernel_rfl) ?_ _
          clear xc xz
          go_wp2_with fail
          exact ⟨⟨n + 1, _, _, by go_num, by omega, by rw [HW.out]; exact hR5.far (by omega) _, hS5.set _, hQ5.far (by omega) _, b5.setCell (by show w.heap.size ≤ w.heap.size + 1 + 1; omega) _⟩, by simp [intOf]; omega⟩
        · rw [if_pos (by rfl)]
          go_simp
          refine hK.out _ _ S4a (fun _ => ?_)
          clear hK K'
          refine wpAnyH_ready (rs := [1]) (by kernel_rfl) (by simp) ?_
          refine AllReadyH.cons rfl (fun K' hK => ?_) AllReadyH.nil
          have xx := hS4a.c
          rw [if_pos (by rfl)]
          go_simp
          refine hK.out _ _ S4a (fun _ => ?_)
          clear hK K' xx
          refine wpAnyH_ready (rs := [5]) (by kernel_rfl) (by simp) ?_
          refine AllReadyH.cons rfl (fun K' hK => ?_) AllReadyH.nil
          refine step_append_lies _ (by rfl) (.tmp 14) (.tmp 17) 23 (by rfl) (w.heap.size + 3) 63 i0 _ 1 24 Try.underlying23 hi hz0 hz1 hz2 rfl (by decide) (.slice av mm.length cv) mm.length vs (by rfl) ((hR4.b.outer).alloc _) ⟨w4.heap.size, 0, none⟩ 1 1 [.slice a4 t.length c4] (by rfl) (by rfl) (World.news_of_block (cs := #[.slice a4 t.length c4]) (t := 63) (fr := (0, 0)) (heap_alloc_new w4 _)) (by simp [Value.oneCell']) (by omega) (by unfold maxLen; omega) (by omega) (by have := b4.size; simp; omega) (w4.heap.size + 1) (by simp) ?_
          intro g5 cap5 w5 hown5 hg5 hat5 hlt5
          obtain ⟨b5, hS5, hQ5, hR5⟩ := F5.out w4 a4 c4 b4 ho4 g5 cap5 w5 hown5 hg5
          simp only [Act.put, List.setIfInBounds_toArray, List.set_cons_zero, List.set_cons_succ]
          refine hK.out _ _ b5 (fun hH5 => ?_)
          clear hK K'
          refine takeD 6 (some 19) (.pointer (some ⟨w.heap.size + 1 + 1, 0, none⟩)) hH5 rfl rfl (by kernel_rfl) (by kernel_rfl) (by kernel_rfl) (fun _ _ _ h => h) (Or.inl ⟨by rfl, by intro w' hSw; go_simp⟩) ?_
          simp only [Act.put, List.setIfInBounds_toArray, List.set_cons_zero, List.set_cons_succ]
          refine wpAnyH_ready (rs := [7]) (by kernel_rfl) (by simp) ?_
          refine AllReadyH.cons rfl (fun K' hK => ?_) AllReadyH.nil
          have xc := hS5.c
          have xz := hS5.fz
          rw [if_pos (by rfl)]
          go_simp
          refine hK.out _ _ (b5.setCell (by show w.heap.size ≤ w.heap.size + 1 + 1; omega) _) (fun _ => ?_)
          clear hK K'
          refine wpAnyH_done (by kernel_rfl) ?_ _
          clear xc xz
          go_wp2_with fail
          exact ⟨⟨n + 1, _, _, by go_num, by omega, by rw [HW.out]; exact hR5.far (by omega) _, hS5.set _, hQ5.far (by omega) _, b5.setCell (by show w.heap.size ≤ w.heap.size + 1 + 1; omega) _⟩, by simp [intOf]; omega⟩
    · have htk : ll.take n = ll := List.take_of_length_le (by omega)
      rw [htk] at hR
      obtain ⟨av, gv, cv, rfl, _⟩ := hR.b.ss
      have hkn' : ¬ (n : Int) < ll.length := by omega
      have p0 := hP.c
      have pf := hP.fz
      have q0 := hQ.c
      have qf := hQ.fz
      have lP := hP.lt
      have lQ := hQ.lt
      have hne : w.heap.size + 1 ≠ w.heap.size + 1 + 1 := by omega
      go_wp2_with fail
      have q1 := (hQ.set (.slice av ll.length cv)).c
      exact bodyPost_ret (v := .agg #[.slice av ll.length cv]) (by simp [results, Try.results57, go_sem, q1]) rfl ⟨_, rfl, ⟨vs, (hR.far (by omega) _).mono (by omega)⟩, hbel.setCell (by show w.heap.size ≤ w.heap.size + 1; omega) _⟩

end Go.Proofs.Ytiaibfalmmnipaa

namespace Go.Proofs.Ytiaibfalmmnipaa
open Go.RowKit

/-- Values that are lists of numbers. -/
def Ixs (w : World) (vs : List Value) (rows : List (List Int)) : Prop := vs.length = rows.length ∧ ∀ i (h1 : i < rows.length) (h2 : i < vs.length), ∃ a' b' o' c', vs[i] = .slice a' rows[i].length c' ∧ IntS w a' b' o' rows[i]
/-- A value is a list of lists of numbers. -/
structure ISS (w : World) (a : Option Addr) (b o : Nat) (rows : List (List Int)) : Prop where
  addr : 0 < rows.length → a = some ⟨b, o, none⟩
  row : ∀ i (h : i < rows.length), ∃ a' b' o' c', w.cell? ⟨b, o + i, none⟩ = some (.slice a' rows[i].length c') ∧ IntS w a' b' o' rows[i]
theorem ISS.below {w w' : World} {a : Option Addr} {B b o : Nat} {rows : List (List Int)} (h : ISS w a b o rows) (hb : Below B w w') (hB : w.heap.size ≤ B) : ISS w' a b o rows :=
  ⟨h.addr, fun i hi => by
    obtain ⟨a', b', o', c', hc, hr⟩ := h.row i hi
    exact ⟨a', b', o', c', (hb.cell (p := ⟨b, o + i, none⟩) (Nat.lt_of_lt_of_le (World.block_lt_of_cell? _ _ hc) hB)).trans hc, hr.below hb hB⟩⟩
theorem Ixs.nil (w : World) : Ixs w [] [] := ⟨rfl, fun _ h => absurd h (Nat.not_lt_zero _)⟩
theorem Ixs.below {w w' : World} {vs : List Value} {rows : List (List Int)} {B : Nat} (h : Ixs w vs rows) (hb : Below B w w') (hB : w.heap.size ≤ B) : Ixs w' vs rows :=
  ⟨h.1, fun i h1 h2 => by obtain ⟨a', b', o', c', e, hd⟩ := h.2 i h1 h2; exact ⟨a', b', o', c', e, hd.below hb hB⟩⟩
theorem Ixs.snoc {w : World} {vs : List Value} {rows : List (List Int)} {a : Option Addr} {b o c : Nat} {l : List Int} (h : Ixs w vs rows) (hd : IntS w a b o l) : Ixs w (vs ++ [.slice a l.length c]) (rows ++ [l]) := by
  have hl := h.1
  refine ⟨by simp [hl], fun i h1 h2 => ?_⟩
  by_cases hi : i < rows.length
  · rw [List.getElem_append_left (by omega), List.getElem_append_left hi]
    exact h.2 i hi (by omega)
  · have : i = rows.length := by simp at h1; omega
    subst this
    have e1 : (rows ++ [l])[rows.length] = l := by simp
    have e2 : (vs ++ [Value.slice a l.length c])[rows.length] = .slice a l.length c := by
      rw [List.getElem_append_right (by omega)]
      simp [hl]
    rw [e1, e2]
    exact ⟨a, b, o, c, rfl, hd⟩
theorem Ixs.ss {w : World} {B : Nat} {v : Value} {vs : List Value} {rows : List (List Int)} (h : Ixs w vs rows) (ho : w.ownsRow B 32 1 v rows.length vs) : ∃ a g c, v = .slice a rows.length c ∧ ISS w a g 0 rows := by
  have hl := h.1
  rcases ho.2 with ⟨hv, hn⟩ | ⟨g, cap, cur, hv, hg, hh, r⟩
  · have : rows = [] := List.length_eq_zero_iff.1 hn
    subst this
    exact ⟨none, 0, 0, hv, ⟨fun h => absurd h (Nat.lt_irrefl _), fun i hi => absurd hi (Nat.not_lt_zero _)⟩⟩
  · refine ⟨_, g, cap, hv, ⟨fun _ => rfl, fun i hi => ?_⟩⟩
    have hc := ho.cells (g := g) (by rw [hv]; rfl) i vs[i] (List.getElem?_eq_getElem (by omega))
    rw [Go.WideShapes.add_plain] at hc
    obtain ⟨a', b', o', c', e, hd⟩ := h.2 i hi (by omega)
    rw [e] at hc
    exact ⟨a', b', o', c', hc, hd⟩
theorem Try.infoIs : (Try.prog.info? 32).map (fun i => (i.zero, i.size, i.bytes)) = some (some (.slice none 0 0), 1, 24) := by kernel_rfl


end Go.Proofs.Ytiaibfalmmnipaa

namespace Go.Proofs.Ytiaibfalmmnipaa
open Go.RowKit

theorem M.lens_pick (row : List Int) (n : Nat) (rows : List (List Int)) (h : ∀ r ∈ rows, r.length ≤ n) : M.lens (M.pick [] row rows) ≤ n * row.length := by
  induction row with
  | nil => simp [M.pick, M.lens]
  | cons i row ih =>
    have h1 : (rows.getD i.toNat []).length ≤ n := by
      by_cases hi : i.toNat < rows.length
      · rw [M.getD_get hi]; exact h _ (List.getElem_mem hi)
      · rw [List.getD_eq_getElem?_getD, List.getElem?_eq_none (by omega)]; simp
    have : M.lens (M.pick [] (i :: row) rows) = (rows.getD i.toNat []).length + M.lens (M.pick [] row rows) := rfl
    rw [this, List.length_cons, Nat.mul_add]
    omega
theorem M.parts_small (ll : List (List M.D)) : ∀ l, ∀ r ∈ M.parts ll l, r.length ≤ l.length := by
  induction ll with
  | nil => intro l r hr; cases hr
  | cons t ll ih =>
    intro l r hr
    simp only [M.parts, List.mem_cons] at hr
    rcases hr with rfl | hr
    · rw [List.length_take]; omega
    · have := ih _ r hr
      rw [List.length_drop] at this
      omega

theorem Slot2.bel2 {w w' : World} {b : Nat} {x y : Value} (h : Slot2 w b x y) (hb : Below w.heap.size w w') : Slot2 w' b x y := h.of (hb.block b h.lt)
/-- What is answered: two lists in rows of the call's own, apart. -/
structure TsAns (w w' : World) (v1 v2 : Value) (r1 r2 : List Int) : Prop where
  o1 : w'.ownsRow w.heap.size 3 1 v1 r1.length (nums r1)
  o2 : w'.ownsRow w.heap.size 3 1 v2 r2.length (nums r2)
  ap : ∀ k, v1.ownBlock = some k → v2.ownBlock ≠ some k
  bel : Below w.heap.size w w'

end Go.Proofs.Ytiaibfalmmnipaa

namespace Go.Proofs.Ytiaibfalmmnipaa
open Go.RowKit

theorem wp_append_nums {P : Program} {o : Oper} {a : Act} {w : World} {K : Act → World → Prop} {Q : Exit → Act → World → Prop} (s x : Operand) (t : TypeId)
    (ho : o.op = .call { callee := .builtin .append, args := #[s, x], argTypes := #[t, t] }) (d : Option Tmp) (hd : o.dst = d) (base : Nat) (e : TypeId) (i : TypeInfo) (ht : P.underlying t = some (.slice e)) (hi : P.info? e = some i) (hz0 : i.zero = some (.int .i64 0)) (hz1 : i.size = 1) (hz2 : i.bytes = 8)
    (v : Value) (n : Nat) (xs : List Value) (hs : a.eval s = v) (hown : w.ownsRow base e 1 v n xs) (hbase : base ≤ w.heap.size) (sa : Option Addr) (b off c m : Nat) (l : List Int) (hm : m = l.length) (hx : a.eval x = .slice sa m c) (hI : IntS w sa b off l) (hl : n + l.length ≤ 1048576)
    (h : ∀ v' w', w'.ownsRow base e 1 v' (n + l.length) (xs ++ nums l) → w.grownBy w' v.ownBlock → (v'.ownBlock = v.ownBlock ∨ v'.ownBlock = some w.heap.size) → K (a.put d v') w') :
    Oper.wp P o a w K Q := by
  subst hd
  subst hm
  rcases Nat.eq_zero_or_pos l.length with h0 | hpos
  · have hl0 : l = [] := List.length_eq_zero_iff.1 h0
    subst hl0
    rw [List.length_nil] at hx
    have hrun := run_append_zero (P := P) w t o.type e i ht hi hown sa c
    have hk := h v w (by simpa [nums] using hown) ⟨rfl, rfl, rfl, Nat.le_refl _, fun _ _ _ => rfl⟩ (Or.inl rfl)
    unfold Oper.wp
    simp [execOp, ho, resolve, invoke, builtin, hs, hx, hrun, Result.andThen]
    exact hk
  · obtain ⟨rfl⟩ := hI.addr hpos
    obtain ⟨v', w', hrun, h2, h3, _, h5⟩ := run_append_own_at (P := P) w base t o.type e i (.int .i64 0) 1 8 ht hi hz0 hz1 hz2 rfl (by decide) v n xs hown ⟨b, off, none⟩ l.length c (nums l) (by simp [nums]) (nums_cells hI) (nums_one l) (by unfold maxLen; omega) (by omega) hbase
    have hk := h v' w' h2 h3 h5
    unfold Oper.wp
    simp [execOp, ho, resolve, invoke, builtin, hs, hx, hrun, Result.andThen]
    exact hk
theorem step_append_nums {P : Program} {ops : Array Oper} {o : Oper} {a : Act} {w : World} {K : Act → World → Prop} {Q : Exit → Act → World → Prop} {E : Prop} (hgd : o.guard = none) (s x : Operand) (t : TypeId)
    (ho : o.op = .call { callee := .builtin .append, args := #[s, x], argTypes := #[t, t] }) (d : Option Tmp) (hd : o.dst = d) (base : Nat) (e : TypeId) (i : TypeInfo) (ht : P.underlying t = some (.slice e)) (hi : P.info? e = some i) (hz0 : i.zero = some (.int .i64 0)) (hz1 : i.size = 1) (hz2 : i.bytes = 8)
    (v : Value) (n : Nat) (xs : List Value) (hs : a.eval s = v) (hown : w.ownsRow base e 1 v n xs) (hbase : base ≤ w.heap.size) (sa : Option Addr) (b off c m : Nat) (l : List Int) (hm : m = l.length) (hx : a.eval x = .slice sa m c) (hI : IntS w sa b off l) (hl : n + l.length ≤ 1048576)
    (h : ∀ v' w', w'.ownsRow base e 1 v' (n + l.length) (xs ++ nums l) → w.grownBy w' v.ownBlock → (v'.ownBlock = v.ownBlock ∨ v'.ownBlock = some w.heap.size) → K (a.put d v') w') :
    if Region.wanted o (yielded ops a.tmps) = true then Oper.wp P o a w K Q else E := by
  have hw : Region.wanted o (yielded ops a.tmps) = true := by simp [Region.wanted, hgd]
  rw [if_pos hw]
  exact wp_append_nums s x t ho d hd base e i ht hi hz0 hz1 hz2 v n xs hs hown hbase sa b off c m l hm hx hI hl h
theorem wpList_append_nums {P : Program} {ops : Array Oper} {rest : List Oper} {o : Oper} {a : Act} {w : World} {Q : Exit → Act → World → Prop} (hgd : o.guard = none) (s x : Operand) (t : TypeId)
    (ho : o.op = .call { callee := .builtin .append, args := #[s, x], argTypes := #[t, t] }) (d : Option Tmp) (hd : o.dst = d) (base : Nat) (e : TypeId) (i : TypeInfo) (ht : P.underlying t = some (.slice e)) (hi : P.info? e = some i) (hz0 : i.zero = some (.int .i64 0)) (hz1 : i.size = 1) (hz2 : i.bytes = 8)
    (v : Value) (n : Nat) (xs : List Value) (hs : a.eval s = v) (hown : w.ownsRow base e 1 v n xs) (hbase : base ≤ w.heap.size) (sa : Option Addr) (b off c m : Nat) (l : List Int) (hm : m = l.length) (hx : a.eval x = .slice sa m c) (hI : IntS w sa b off l) (hl : n + l.length ≤ 1048576)
    (h : ∀ v' w', w'.ownsRow base e 1 v' (n + l.length) (xs ++ nums l) → w.grownBy w' v.ownBlock → (v'.ownBlock = v.ownBlock ∨ v'.ownBlock = some w.heap.size) → wpList P ops Q rest (a.put d v') w') :
    wpList P ops Q (o :: rest) a w :=
  wpList_plain hgd fun _ hK => wp_append_nums s x t ho d hd base e i ht hi hz0 hz1 hz2 v n xs hs hown hbase sa b off c m l hm hx hI hl fun v' w' h1 h2 h3 => by
    subst hd
    exact hK _ _ (h v' w' h1 h2 h3)

end Go.Proofs.Ytiaibfalmmnipaa

namespace Go.Proofs.Ytiaibfalmmnipaa
open Go.RowKit

end Go.Proofs.Ytiaibfalmmnipaa

namespace Go.Proofs.Ytiaibfalmmnipaa
namespace M

theorem cnt_mono {f g : Int → Bool} (h : ∀ k, f k = true → g k = true) (l : List D) : cnt f l ≤ cnt g l := by
  induction l with
  | nil => exact Nat.le_refl _
  | cons d l ih =>
    rw [cnt_cons, cnt_cons]
    cases hf : f d.k
    · simp; omega
    · rw [h _ hf]; omega
theorem tot_mono {f g : Int → Bool} (h : ∀ k, f k = true → g k = true) (l : List (List D)) : tot f l ≤ tot g l := by
  induction l with
  | nil => exact Nat.le_refl _
  | cons t l ih => have := cnt_mono h t; simp only [tot]; omega
theorem from_uses {l : List (List D)} : ∀ {a u : Nat}, progFrom a u l = true → u + tot uses l ≤ 6 ∧ ∀ t ∈ l, thread t = true := by
  induction l with
  | nil => intro a u h; simp [progFrom] at h; exact ⟨by simp [tot]; omega, fun t ht => absurd ht (by simp)⟩
  | cons t l ih =>
    intro a u h
    by_cases hb : thread t = true
    · simp only [progFrom, hb, if_true] at h
      obtain ⟨h1, h2⟩ := ih h
      refine ⟨by simp only [tot]; omega, fun t' ht' => ?_⟩
      rcases List.mem_cons.1 ht' with rfl | hm
      · exact hb
      · exact h2 t' hm
    · simp [progFrom, hb] at h
theorem cnt_tot {f : Int → Bool} {l : List (List D)} {t : List D} (h : t ∈ l) : cnt f t ≤ tot f l := by
  induction l with
  | nil => simp at h
  | cons t' l ih =>
    simp only [tot]
    rcases List.mem_cons.1 h with rfl | hm
    · omega
    · have := ih hm; omega
theorem prog_uses {l : List (List D)} (h : prog l = true) : tot uses l ≤ 6 ∧ ∀ t ∈ l, thread t = true := by
  simp only [prog, Bool.and_eq_true, decide_eq_true_eq] at h
  have := from_uses h.2
  exact ⟨by omega, this.2⟩
/-- A thread of a program is one by itself. -/
theorem prog_alone {l : List (List D)} (h : prog l = true) {t : List D} (ht : t ∈ l) : prog [t] = true := by
  obtain ⟨h1, h2⟩ := prog_uses h
  have h3 := h2 t ht
  have h4 := thread_le h3
  have h5 := cnt_tot (f := uses) ht
  simp only [prog, progFrom, h3, if_true, List.length_singleton, Nat.zero_add, Bool.and_eq_true, decide_eq_true_eq]
  omega
theorem nreads_alone {l : List (List D)} (h : prog l = true) {t : List D} (ht : t ∈ l) : nreads [t] = cnt reads t := by
  rw [nreads_ok (prog_alone h ht)]; simp [tot]
theorem nreads_le {l : List (List D)} (h : prog l = true) : tot reads l ≤ 6 := by
  have h1 := (prog_uses h).1
  have h2 := tot_mono (f := reads) (g := uses) (fun k hk => by simp [uses, hk]) l
  omega

end M
end Go.Proofs.Ytiaibfalmmnipaa

namespace Go.Proofs.Ytiaibfalmmnipaa
open Go.RowKit

/-- Where the reads of the first threads begin. -/
def M.froms (ll : List (List M.D)) (n : Nat) : List Int := (List.range (n + 1)).map fun i => ((M.tot M.reads (ll.take i) : Nat) : Int)
theorem M.froms_len (ll : List (List M.D)) (n : Nat) : (M.froms ll n).length = n + 1 := by simp [M.froms]
theorem M.froms_get (ll : List (List M.D)) (n i : Nat) (h : i < (M.froms ll n).length) : (M.froms ll n)[i] = ((M.tot M.reads (ll.take i) : Nat) : Int) := by simp [M.froms]
theorem M.froms_succ (ll : List (List M.D)) (n : Nat) : M.froms ll (n + 1) = M.froms ll n ++ [((M.tot M.reads (ll.take (n + 1)) : Nat) : Int)] := by
  unfold M.froms
  rw [List.range_succ (n := n + 1), List.map_append]; rfl

theorem nums_app (l m : List Int) : nums (l ++ m) = nums l ++ nums m := by simp [nums]
theorem ownsRow_blk {w w' : World} {base : Nat} {e : TypeId} {size : Nat} {v : Value} {n : Nat} {xs : List Value} (h : w.ownsRow base e size v n xs) (hb : ∀ k, v.ownBlock = some k → w'.heap[k]? = w.heap[k]?) : w'.ownsRow base e size v n xs := by
  obtain ⟨h1, h2⟩ := h
  refine ⟨h1, ?_⟩
  rcases h2 with h2 | ⟨g, cap, cur, hv, hg, hh, r⟩
  · exact Or.inl h2
  · refine Or.inr ⟨g, cap, cur, hv, hg, ?_, r⟩
    rw [hb g (by rw [hv]; rfl)]
    exact hh

end Go.Proofs.Ytiaibfalmmnipaa

namespace Go.Proofs.Ytiaibfalmmnipaa
open Go.RowKit

/-- Of blocks that meet P numbers alone have turned. -/
structure Mk (P : Nat → Prop) (w w' : World) : Prop where
  os : w'.os = w.os
  tape : w'.tape = w.tape
  output : w'.output = w.output
  size : w'.heap.size = w.heap.size
  ints : ∀ p x, w.cell? p = some (.int .i64 x) → ∃ y, w'.cell? p = some (.int .i64 y)
  rest : ∀ p v, w.cell? p = some v → (∀ x, v ≠ .int .i64 x) → w'.cell? p = some v
  fz : ∀ p, w'.frozen? p = w.frozen? p
  block : ∀ k, ¬ P k → w'.heap[k]? = w.heap[k]?
theorem Mk.refl (P : Nat → Prop) (w : World) : Mk P w w := ⟨rfl, rfl, rfl, rfl, fun _ x h => ⟨x, h⟩, fun _ _ h _ => h, fun _ => rfl, fun _ _ => rfl⟩
theorem Mk.trans {P : Nat → Prop} {a b c : World} (h : Mk P a b) (k : Mk P b c) : Mk P a c :=
  ⟨k.os.trans h.os, k.tape.trans h.tape, k.output.trans h.output, k.size.trans h.size, fun p x hx => (let ⟨y, hy⟩ := h.ints p x hx; k.ints p y hy), fun p v hv hn => k.rest p v (h.rest p v hv hn) hn, fun p => (k.fz p).trans (h.fz p), fun i hi => (k.block i hi).trans (h.block i hi)⟩
theorem Mk.mono {P Q : Nat → Prop} {a b : World} (h : Mk P a b) (hPQ : ∀ k, P k → Q k) : Mk Q a b := ⟨h.os, h.tape, h.output, h.size, h.ints, h.rest, h.fz, fun i hi => h.block i (fun hp => hi (hPQ i hp))⟩
theorem Mk.setCell {P : Nat → Prop} {a w : World} (h : Mk P a w) {b i : Nat} {x y : Int} (hb : P b) (hx : w.cell? ⟨b, i, none⟩ = some (.int .i64 x)) : Mk P a (w.setCell ⟨b, i, none⟩ (.int .i64 y)) := by
  refine h.trans ⟨rfl, rfl, rfl, by simp [World.setCell], fun p z hz => ?_, fun p v hv hn => ?_, fun p => World.frozen?_setCell _ _ _ _, fun k hk => Below.heap_setCell _ _ _ _ (fun e => hk (by have e' : k = b := e; rw [e']; exact hb))⟩
  · by_cases e : p = ⟨b, i, none⟩
    · subst e; exact ⟨y, World.cell?_setCell_same _ _ _ hx⟩
    · exact ⟨z, by rw [World.cell?_setCell_other _ _ _ _ (fun h => e h.symm)]; exact hz⟩
  · by_cases e : p = ⟨b, i, none⟩
    · subst e; rw [hx] at hv; exact absurd (Option.some.inj hv).symm (hn x)
    · rw [World.cell?_setCell_other _ _ _ _ (fun h => e h.symm)]; exact hv
theorem Mk.cell {P : Nat → Prop} {w w' : World} (h : Mk P w w') {p : Addr} (hp : ¬ P p.block) : w'.cell? p = w.cell? p := World.cell?_of_block (w := w) (h.block p.block hp)
theorem Mk.below {P : Nat → Prop} {B : Nat} {w w1 w' : World} (h : Below B w w1) (k : Mk P w1 w') (hr : ∀ j, P j → B ≤ j) : Below B w w' :=
  ⟨k.os.trans h.os, k.tape.trans h.tape, k.output.trans h.output, by rw [k.size]; exact h.size, fun i hi => (k.block i (fun hp => by have := hr i hp; omega)).trans (h.block i hi)⟩

/-- A value is a slice of so many numbers, whichever, that may be written. -/
structure IntC (w : World) (a : Option Addr) (b o n : Nat) : Prop where
  addr : 0 < n → a = some ⟨b, o, none⟩
  row : ∀ i, i < n → ∃ x, w.cell? ⟨b, o + i, none⟩ = some (.int .i64 x)
  fz : 0 < n → ∀ j, w.frozen? ⟨b, j, none⟩ = false
theorem IntC.mk_ {P : Nat → Prop} {w w' : World} {a : Option Addr} {b o n : Nat} (h : IntC w a b o n) (hm : Mk P w w') : IntC w' a b o n :=
  ⟨h.addr, fun i hi => (let ⟨x, hx⟩ := h.row i hi; hm.ints _ x hx), fun hn j => (hm.fz _).trans (h.fz hn j)⟩
theorem IntS.toC {w : World} {a : Option Addr} {b o : Nat} {l : List Int} (h : IntS w a b o l) (fz : 0 < l.length → ∀ j, w.frozen? ⟨b, j, none⟩ = false) : IntC w a b o l.length :=
  ⟨h.addr, fun i hi => ⟨_, h.row i hi⟩, fz⟩

namespace M
/-- So many numbers from one on. -/
def seq (k : Int) (n : Nat) : List Int := (List.range n).map fun (i : Nat) => k + (i : Int)
theorem seq_len (k : Int) (n : Nat) : (seq k n).length = n := by simp [seq]
theorem seq_get (k : Int) (n i : Nat) (h : i < (seq k n).length) : (seq k n)[i] = k + i := by simp [seq]
end M


end Go.Proofs.Ytiaibfalmmnipaa

namespace Go.Proofs.Ytiaibfalmmnipaa
open Go.RowKit

theorem Try.info3 : (Try.prog.info? 3).map (fun i => (i.zero, i.size, i.bytes)) = some (some (.int .i64 0), 1, 8) := by kernel_rfl

/-- The first n numbers are copied. -/
structure PartI (w wr : World) (l : List Int) (n : Nat) : Prop where
  bel : Below w.heap.size w wr
  own : ∃ f, wr.rowIs w.heap.size 3 l.length f
  done : ∀ q (_ : q < n) (h : q < l.length), wr.cell? ⟨w.heap.size, q, none⟩ = some (.int .i64 l[q])

theorem partI_step {w wr : World} {l : List Int} {n : Nat} {x : Int} (hp : PartI w wr l n) (hlt : n < l.length) (hd : l[n] = x) : PartI w (wr.setCell ⟨w.heap.size, n, none⟩ (.int .i64 x)) l (n + 1) := by
  obtain ⟨f, hf⟩ := hp.own
  have hr := hf.set n (.int .i64 x)
  refine ⟨hp.bel.setCell (Nat.le_refl _) _, ⟨_, hr⟩, fun q hq hql => ?_⟩
  by_cases e : q = n
  · subst e
    rw [hd, hr.cell hql]; simp
  · rw [World.cell?_setCell_other _ _ _ _ (fun e' => e (by have := congrArg Addr.off e'; simp at this; omega))]
    exact hp.done q (by omega) hql

theorem IntS.other {w : World} {a : Option Addr} {b o B i : Nat} {l : List Int} {u : Value} (h : IntS w a b o l) (hb : b ≠ B) : IntS (w.setCell ⟨B, i, none⟩ u) a b o l :=
  ⟨h.addr, fun j hj => by rw [World.cell?_setCell_other _ _ _ _ (fun e => hb (congrArg Addr.block e).symm)]; exact h.row j hj⟩

end Go.Proofs.Ytiaibfalmmnipaa

namespace Go.Proofs.Ytiaibfalmmnipaa
open Go.RowKit

/-- What was seen, laid anew: each list a block of its own, all of it. -/
structure NewSn (w : World) (B g1 g2 : Nat) (l1 l2 : List Int) : Prop where
  ge : B ≤ g1
  lt : g1 < g2
  reads : IntS w (some ⟨g1, 0, none⟩) g1 0 l1
  last : IntS w (some ⟨g2, 0, none⟩) g2 0 l2
  own1 : ∃ f, w.rowIs g1 3 l1.length f
  own2 : ∃ f, w.rowIs g2 3 l2.length f

/-- The value that it is. -/
def newSn (g1 g2 : Nat) (l1 l2 : List Int) : Sn := ⟨some ⟨g1, 0, none⟩, g1, 0, l1.length, l1, some ⟨g2, 0, none⟩, g2, 0, l2.length, l2⟩
theorem NewSn.at {w : World} {B g1 g2 : Nat} {l1 l2 : List Int} (h : NewSn w B g1 g2 l1 l2) : (newSn g1 g2 l1 l2).At w := ⟨h.reads, h.last⟩
theorem NewSn.mono {w : World} {B B' g1 g2 : Nat} {l1 l2 : List Int} (h : NewSn w B g1 g2 l1 l2) (hB : B' ≤ B) : NewSn w B' g1 g2 l1 l2 := ⟨Nat.le_trans hB h.ge, h.lt, h.reads, h.last, h.own1, h.own2⟩
theorem NewSn.below {w w' : World} {B C g1 g2 : Nat} {l1 l2 : List Int} (h : NewSn w B g1 g2 l1 l2) (hb : Below C w w') (hC : w.heap.size ≤ C) : NewSn w' B g1 g2 l1 l2 := by
  obtain ⟨f1, h1⟩ := h.own1
  obtain ⟨f2, h2⟩ := h.own2
  exact ⟨h.ge, h.lt, h.reads.below hb hC, h.last.below hb hC, ⟨f1, h1.of_block (hb.block _ (Nat.lt_of_lt_of_le h1.lt hC))⟩, ⟨f2, h2.of_block (hb.block _ (Nat.lt_of_lt_of_le h2.lt hC))⟩⟩

theorem NewSn.other {w : World} {B g1 g2 : Nat} {l1 l2 : List Int} (h : NewSn w B g1 g2 l1 l2) {b i : Nat} (hb : b < g1) (u : Value) : NewSn (w.setCell ⟨b, i, none⟩ u) B g1 g2 l1 l2 := by
  obtain ⟨f1, h1⟩ := h.own1
  obtain ⟨f2, h2⟩ := h.own2
  have := h.lt
  exact ⟨h.ge, h.lt, h.reads.other (by omega), h.last.other (by omega), ⟨f1, h1.of_block (Below.heap_setCell _ _ _ _ (by simp; omega))⟩, ⟨f2, h2.of_block (Below.heap_setCell _ _ _ _ (by simp; omega))⟩⟩

end Go.Proofs.Ytiaibfalmmnipaa

namespace Go.Proofs.Ytiaibfalmmnipaa
open Go.RowKit

theorem IntC.below {w w' : World} {a : Option Addr} {b o n : Nat} (hc : IntC w a b o n) (hb : Below w.heap.size w w') : IntC w' a b o n := by
  refine ⟨hc.addr, fun i hi => ?_, fun hn j => ?_⟩
  · obtain ⟨x, hx⟩ := hc.row i hi
    exact ⟨x, (hb.cell (p := ⟨b, o + i, none⟩) (World.block_lt_of_cell? _ _ hx)).trans hx⟩
  · obtain ⟨x, hx⟩ := hc.row 0 hn
    have hlt : b < w.heap.size := World.block_lt_of_cell? _ _ hx
    exact (hb.frozen (p := ⟨b, j, none⟩) hlt).trans (hc.fz hn j)
/-- What was seen, marked. -/
structure SnM (w : World) (s : Sn) : Prop where
  reads : IntS w s.a1 s.b1 s.o1 (M.seq 1 s.l1.length)
  last : IntS w s.a2 s.b2 s.o2 (M.seq (1 + s.l1.length) s.l2.length)
theorem SnM.below {w w' : World} {s : Sn} (h : SnM w s) (hb : Below w.heap.size w w') : SnM w' s := ⟨h.reads.below hb (Nat.le_refl _), h.last.below hb (Nat.le_refl _)⟩
/-- .. and may be written. -/
structure SnC (w : World) (s : Sn) : Prop where
  reads : IntC w s.a1 s.b1 s.o1 s.l1.length
  last : IntC w s.a2 s.b2 s.o2 s.l2.length
theorem SnC.below {w w' : World} {s : Sn} (h : SnC w s) (hb : Below w.heap.size w w') : SnC w' s := ⟨h.reads.below hb, h.last.below hb⟩
theorem SnC.mk_ {P : Nat → Prop} {w w' : World} {s : Sn} (h : SnC w s) (hm : Mk P w w') : SnC w' s := ⟨h.reads.mk_ hm, h.last.mk_ hm⟩
theorem IntS.mkFar {P : Nat → Prop} {w w' : World} {a : Option Addr} {b o : Nat} {l : List Int} (h : IntS w a b o l) (hm : Mk P w w') (hne : 0 < l.length → ¬ P b) : IntS w' a b o l :=
  ⟨h.addr, fun i hi => by rw [hm.cell (p := ⟨b, o + i, none⟩) (hne (by omega))]; exact h.row i hi⟩

end Go.Proofs.Ytiaibfalmmnipaa

namespace Go.Proofs.Ytiaibfalmmnipaa
open Go.RowKit

theorem cb {W W' : World} {p : Addr} {v : Value} (hb : Below W.heap.size W W') (h : W.cell? p = some v) : W'.cell? p = some v := (hb.cell (p := p) (World.block_lt_of_cell? _ _ h)).trans h

/-- What is seen, laid anew: all its blocks are new ones, from B on. -/
structure NewT (B : Nat) (w : World) (s : Sn) : Prop where
  at_ : s.At w
  ge1 : B ≤ s.b1
  ge2 : B ≤ s.b2
  own : Own2 w s

theorem own_numsF {w : World} {base : Nat} {v : Value} {l : List Int} (h : w.ownsRow base 3 1 v l.length (nums l)) : ∃ a g c, v = .slice a l.length c ∧ IntS w a g 0 l ∧ base ≤ g ∧ (0 < l.length → v.ownBlock = some g ∧ ∀ j, w.frozen? ⟨g, j, none⟩ = false) := by
  rcases h.2 with ⟨hv, hn⟩ | ⟨g, cap, cur, hv, hg, hh, r⟩
  · have : l = [] := List.length_eq_zero_iff.1 hn
    subst this
    exact ⟨none, base, 0, hv, IntS.nil _ _ _ _, Nat.le_refl _, fun h => absurd h (Nat.lt_irrefl _)⟩
  · refine ⟨_, g, cap, hv, ⟨fun _ => rfl, fun i hi => ?_⟩, hg, fun _ => ⟨by rw [hv]; rfl, fun j => by simp [World.frozen?, hh]⟩⟩
    have hc := h.cells (g := g) (by rw [hv]; rfl) i (.int .i64 l[i]) (by simp [nums, hi])
    rwa [Go.WideShapes.add_plain] at hc

theorem TsAns.sn {w w' : World} {v1 v2 : Value} {r1 r2 : List Int} (h : TsAns w w' v1 v2 r1 r2) : ∃ s : Sn, v1 = .slice s.a1 s.l1.length s.c1 ∧ v2 = .slice s.a2 s.l2.length s.c2 ∧ (s.l1 = r1 ∧ s.l2 = r2) ∧ NewT w.heap.size w' s := by
  obtain ⟨a1, g1, c1, e1, i1, ge1, f1⟩ := own_numsF h.o1
  obtain ⟨a2, g2, c2, e2, i2, ge2, f2⟩ := own_numsF h.o2
  refine ⟨⟨a1, g1, 0, c1, r1, a2, g2, 0, c2, r2⟩, e1, e2, ⟨rfl, rfl⟩, ⟨i1, i2⟩, ge1, ge2, ⟨fun p1 p2 e => ?_, fun b hb j => ?_⟩⟩
  · have e' : g1 = g2 := e
    exact h.ap g1 (f1 p1).1 (by rw [e']; exact (f2 p2).1)
  · rcases hb with ⟨hl, e⟩ | ⟨hl, e⟩
    · have e' : b = g1 := e
      rw [e']; exact (f1 hl).2 j
    · have e' : b = g2 := e
      rw [e']; exact (f2 hl).2 j

theorem M.turnSeen_small {ll : List (List M.D)} {l1 l2 gs : List Int} {r1 r2 : List Int} (h1 : ((M.turnSeen ll l1 l2 gs).getD ([], [])).1 = r1) (h2 : ((M.turnSeen ll l1 l2 gs).getD ([], [])).2 = r2) : r1.length ≤ 1048576 ∧ r2.length ≤ 1048576 := by
  cases hp : M.seenOk ll l1 l2
  · rw [M.turnSeen_bad hp] at h1 h2
    subst h1; subst h2; simp
  · cases hr : M.rowN gs ll.length
    · rw [M.turnSeen_row hr] at h1 h2
      subst h1; subst h2; simp
    · rw [M.turnSeen_yes hp hr] at h1 h2
      obtain ⟨hpg, hl1, hl2⟩ := M.seenOk_len hp
      obtain ⟨h3, h7⟩ := M.prog_le hpg
      have e1 : (M.pick [] gs (M.parts ll l1)).flatten = r1 := h1
      have e2 : l2 = r2 := h2
      subst e1; subst e2
      refine ⟨?_, by omega⟩
      rw [M.lens_flat]
      have k1 := M.lens_pick gs l1.length (M.parts ll l1) (M.parts_small ll l1)
      have k2 := M.rowN_len hr
      have k3 := (M.prog_uses hpg).1
      have k4 := M.tot_mono (f := M.reads) (g := M.uses) (fun k hk => by simp [M.uses, hk]) ll
      have k5 : l1.length * gs.length ≤ 6 * 3 := Nat.mul_le_mul (by omega) (by omega)
      omega

/-- What stands through the law's calls: the boxes of its arguments, and the arguments. -/
structure St3 (w W : World) (a : Option Addr) (b o c : Nat) (ll : List (List M.D)) (t : Sn) (ga : Option Addr) (gb go : Nat) (gs : List Int) : Prop where
  bel : Below w.heap.size w W
  p0 : W.cell? ⟨w.heap.size, 0, none⟩ = some (.slice a ll.length c)
  q0 : W.cell? ⟨w.heap.size + 1, 0, none⟩ = some (.slice t.a1 t.l1.length t.c1)
  q1 : W.cell? ⟨w.heap.size + 1, 1, none⟩ = some (.slice t.a2 t.l2.length t.c2)
  sa : DoSS W a b o ll
  ta : t.At W
  gi : IntS W ga gb go gs
theorem St3.lt {w W : World} {a : Option Addr} {b o c : Nat} {ll : List (List M.D)} {t : Sn} {ga : Option Addr} {gb go : Nat} {gs : List Int} (h : St3 w W a b o c ll t ga gb go gs) : w.heap.size + 1 < W.heap.size := World.block_lt_of_cell? _ _ h.q0
theorem St3.below {w W W' : World} {a : Option Addr} {b o c : Nat} {ll : List (List M.D)} {t : Sn} {ga : Option Addr} {gb go : Nat} {gs : List Int} (h : St3 w W a b o c ll t ga gb go gs) (hb : Below W.heap.size W W') : St3 w W' a b o c ll t ga gb go gs :=
  ⟨h.bel.trans (hb.mono h.bel.size), cb hb h.p0, cb hb h.q0, cb hb h.q1, h.sa.below hb (Nat.le_refl _), h.ta.below hb (Nat.le_refl _), h.gi.below hb (Nat.le_refl _)⟩
/-- A variable of what was seen. -/
structure BxT (W : World) (X : Nat) (s : Sn) : Prop where
  c0 : W.cell? ⟨X, 0, none⟩ = some (.slice s.a1 s.l1.length s.c1)
  c1 : W.cell? ⟨X, 1, none⟩ = some (.slice s.a2 s.l2.length s.c2)
  at_ : s.At W
theorem BxT.lt {W : World} {X : Nat} {s : Sn} (h : BxT W X s) : X < W.heap.size := World.block_lt_of_cell? _ _ h.c0
theorem BxT.below {W W' : World} {X : Nat} {s : Sn} (h : BxT W X s) (hb : Below W.heap.size W W') : BxT W' X s := ⟨cb hb h.c0, cb hb h.c1, h.at_.below hb (Nat.le_refl _)⟩
theorem BxT.new {W : World} {s : Sn} (h : s.At W) : BxT (W.alloc (.cells #[.slice s.a1 s.l1.length s.c1, .slice s.a2 s.l2.length s.c2] 39)) W.heap.size s := ⟨by simp, by simp, h.below (below1 _ _) (Nat.le_refl _)⟩

end Go.Proofs.Ytiaibfalmmnipaa
