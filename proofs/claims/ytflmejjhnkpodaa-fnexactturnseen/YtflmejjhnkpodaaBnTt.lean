/- Turning about, plainly: rows of numbers, threads, places and values turned, programs side by side, plain ones. No condition. impl's rows: numbersBelow, isRowOf, and what is turned by a row, of numbers and of threads. Of at most 1000 things, rows of at most 1048576 numbers. impl's turn: the things with the numbers of a row; of numbers, of threads. Of at most 1000 things, rows of at most 1048576 numbers. What was seen, turned as the threads are, plainly. No condition. slices.Grow of no slice, slices.Concat of two lists of threads. Of at most 1000 threads each. impl.newList of steps, impl.copyProg: a program in rows of its own. Of at most 1048576 threads, and steps of a thread. impl.newList of numbers: a row of its own. Of at most 1048576 numbers. impl's readsByThread, the turn of lists of numbers, slices.Concat of numbers, newList of numbers. Of at most 1000 lists, and numbers. impl.TurnSeen. Of programs of at most 1048576 threads and steps of a thread, of as many numbers. append of numbers onto a row of the call's own, wherever they lie and however many. No condition. spec.l22Row: whether numbers are a row. Of at most 1000, rows of at most 1048576 numbers. The plain mathematics of reads: a program's reads are its threads' together, and no more than its uses. No condition. spec.TurnSeen. Of programs of at most 1048576 threads and steps of a thread, of as many numbers. The law's own sizing, copying and comparing of what was seen: laws.szSeen, toSeen, eqSeen. Of lists of at most 1048576 numbers (sizing: of at most 9223372036854775807). The law's own marking of what was seen, from any number on, and whether the marks still stand: laws.markSeen, heldSeen; eqSeen. Of at most 1048576 numbers in each of its two lists. What both TurnSeen answer, as one said thing of what was seen, laid anew; and what stands through the law's calls. Of programs of at most 1048576 threads and steps of a thread, of as many numbers. -/
import Derived.Test.YtflmejjhnkpodaaMathN
import Derived.Test.YtflmejjhnkpodaaCont
import Derived.Test.YtflmejjhnkpodaaTnB0
import Derived.Test.YtflmejjhnkpodaaIProg
import Derived.Test.YtflmejjhnkpodaaSnOk
import Derived.Lib.AppendZerosOnto
import Derived.Lib.SliceRun
import Derived.Laws.AppendOwnNone
import Derived.Test.YtflmejjhnkpodaaTnBase
import Derived.Test.YtflmejjhnkpodaaWide
import Derived.Test.YtflmejjhnkpodaaTnGo
import Derived.Test.YtflmejjhnkpodaaSnFar
import Derived.Deep.AppendLies
import Derived.Test.YtflmejjhnkpodaaCount
import Derived.Maps.AppendAt
import Derived.Test.YtflmejjhnkpodaaReads
import Derived.Test.YtflmejjhnkpodaaSnSee
import Derived.Test.YtflmejjhnkpodaaIntConv
import Derived.Test.YtflmejjhnkpodaaMark

namespace Go.Proofs.Ytflmejjhnkpodaa
namespace M

/-- The numbers below one. -/
def bel (n : Nat) : List Int := (List.range n).map fun i : Nat => (i : Int)
theorem bel_len (n : Nat) : (bel n).length = n := by simp [bel]
theorem bel_get (n i : Nat) (h : i < (bel n).length) : (bel n)[i] = (i : Int) := by simp [bel]
theorem bel_succ (n : Nat) : bel (n + 1) = bel n ++ [(n : Int)] := by simp [bel, List.range_succ]
theorem bel_mem {n : Nat} {x : Int} : x ∈ bel n ↔ 0 ≤ x ∧ x < n := by
  simp only [bel, List.mem_map, List.mem_range]
  constructor
  · rintro ⟨a, ha, rfl⟩; omega
  · rintro ⟨h1, h2⟩; exact ⟨x.toNat, by omega, by omega⟩
theorem bel_nodup (n : Nat) : (bel n).Nodup := by
  induction n with
  | zero => simp [bel]
  | succ n ih =>
    rw [bel_succ, List.nodup_append]
    refine ⟨ih, by simp, fun x hx y hy => ?_⟩
    have := (bel_mem.1 hx).2
    simp at hy
    omega

/-- Of as many, none lacks. -/
def rowOf (row evs : List Int) : Bool := decide (row.length = evs.length) && evs.all (fun v => has row v)
theorem rowOf_short {row evs : List Int} (h : ¬ row.length = evs.length) : rowOf row evs = false := by simp [rowOf, h]
theorem rowOf_same {row evs : List Int} (h : row.length = evs.length) : rowOf row evs = evs.all (fun v => has row v) := by simp [rowOf, h]
theorem rowAll_step {row evs : List Int} {n : Nat} (h : evs.all (fun v => has row v) = (evs.drop n).all (fun v => has row v)) (hn : n < evs.length) : evs.all (fun v => has row v) = (has row evs[n] && (evs.drop (n + 1)).all (fun v => has row v)) := by
  rw [h, ← List.getElem_cons_drop hn, List.all_cons]
/-- A row of so many. -/
def rowN (row : List Int) (n : Nat) : Bool := rowOf row (bel n)

theorem nodupI_le : ∀ {l m : List Int}, l.Nodup → (∀ x ∈ l, x ∈ m) → l.length ≤ m.length := by
  intro l
  induction l with
  | nil => intro m _ _; simp
  | cons x l ih =>
    intro m hn hs
    rw [List.nodup_cons] at hn
    have hx := hs x (by simp)
    have h1 := ih (m := m.erase x) hn.2 (fun y hy => by
      have hne : y ≠ x := fun e => hn.1 (by rw [← e]; exact hy)
      exact (List.mem_erase_of_ne hne).2 (hs y (List.mem_cons_of_mem _ hy)))
    have h2 := List.length_erase_of_mem hx
    have h3 : 0 < m.length := List.length_pos_of_mem hx
    simp only [List.length_cons]
    omega
theorem nodupI_all {l m : List Int} (hn : l.Nodup) (hs : ∀ x ∈ l, x ∈ m) (hlen : m.length = l.length) : ∀ y ∈ m, y ∈ l := by
  intro y hy
  apply Classical.byContradiction
  intro hc
  have h1 := nodupI_le (l := y :: l) (m := m) (List.nodup_cons.2 ⟨hc, hn⟩) (fun x hx => by
    rcases List.mem_cons.1 hx with rfl | hx
    · exact hy
    · exact hs x hx)
  simp only [List.length_cons] at h1
  omega

theorem rowN_len {row : List Int} {n : Nat} (h : rowN row n = true) : row.length = n := by
  simp only [rowN, rowOf, Bool.and_eq_true, decide_eq_true_eq, bel_len] at h; exact h.1
theorem rowN_all {row : List Int} {n : Nat} (h : rowN row n = true) : ∀ x ∈ bel n, x ∈ row := by
  simp only [rowN, rowOf, Bool.and_eq_true, List.all_eq_true, has, List.contains_eq_mem, decide_eq_true_eq] at h; exact h.2
theorem rowN_mem {row : List Int} {n : Nat} (h : rowN row n = true) : ∀ x ∈ row, 0 ≤ x ∧ x < n := fun x hx =>
  bel_mem.1 (nodupI_all (bel_nodup n) (rowN_all h) (by rw [rowN_len h, bel_len]) x hx)
theorem rowN_get {row : List Int} {n : Nat} (h : rowN row n = true) (i : Nat) (hi : i < row.length) : 0 ≤ row[i] ∧ row[i] < n := rowN_mem h _ (List.getElem_mem hi)
theorem rowN_bel (n : Nat) : rowN (bel n) n = true := by
  simp only [rowN, rowOf, Bool.and_eq_true, decide_eq_true_eq, List.all_eq_true, has, List.contains_eq_mem]
  exact ⟨trivial, fun x hx => hx⟩

/-- The things with these numbers. -/
def pick {α : Type} (z : α) (row : List Int) (l : List α) : List α := row.map fun i => l.getD i.toNat z
theorem pick_len {α : Type} (z : α) (row : List Int) (l : List α) : (pick z row l).length = row.length := by simp [pick]
theorem pick_take {α : Type} (z : α) (row : List Int) (l : List α) (n : Nat) (h : n < row.length) : pick z (row.take (n + 1)) l = pick z (row.take n) l ++ [l.getD row[n].toNat z] := by
  rw [List.take_succ_eq_append_getElem h]; unfold pick; rw [List.map_append]; rfl
theorem getD_get {α : Type} {z : α} {l : List α} {i : Nat} (h : i < l.length) : l.getD i z = l[i] := by
  rw [List.getD_eq_getElem?_getD, List.getElem?_eq_getElem h]; rfl
theorem pick_bel {α : Type} (z : α) (l : List α) : pick z (bel l.length) l = l := by
  apply List.ext_getElem
  · simp [pick, bel]
  · intro i h1 h2
    simp only [pick, List.getElem_map, bel_get]
    exact getD_get h2
theorem pick_mem {α : Type} {z : α} {row : List Int} {l : List α} {t : α} (h : t ∈ pick z row l) : t ∈ l ∨ t = z := by
  simp only [pick, List.mem_map] at h
  obtain ⟨i, _, rfl⟩ := h
  by_cases hi : i.toNat < l.length
  · rw [getD_get hi]; exact Or.inl (List.getElem_mem hi)
  · right; rw [List.getD_eq_getElem?_getD, List.getElem?_eq_none (by omega)]; rfl

def turnThreads (ll : List (List D)) (row : List Int) : Option (List (List D)) := if prog ll && rowN row ll.length then some (pick [] row ll) else none
theorem turnThreads_bad {ll : List (List D)} {row : List Int} (h : prog ll = false) : turnThreads ll row = none := by simp [turnThreads, h]
theorem turnThreads_row {ll : List (List D)} {row : List Int} (h : rowN row ll.length = false) : turnThreads ll row = none := by simp [turnThreads, h]
theorem turnThreads_yes {ll : List (List D)} {row : List Int} (h : prog ll = true) (h2 : rowN row ll.length = true) : turnThreads ll row = some (pick [] row ll) := by simp [turnThreads, h, h2]
theorem turnThreads_some {ll mm : List (List D)} {row : List Int} (h : turnThreads ll row = some mm) : prog ll = true ∧ rowN row ll.length = true ∧ mm = pick [] row ll := by
  unfold turnThreads at h
  split at h
  · rename_i hc
    simp only [Bool.and_eq_true] at hc
    exact ⟨hc.1, hc.2, (Option.some.inj h).symm⟩
  · cases h
theorem turnThreads_small {ll mm : List (List D)} {row : List Int} (e : (turnThreads ll row).getD [] = mm) : mm.length ≤ 3 ∧ ∀ t ∈ mm, t.length ≤ 7 := by
  cases h : turnThreads ll row with
  | none => rw [h] at e; subst e; simp
  | some x =>
    rw [h] at e
    obtain rfl : x = mm := e
    obtain ⟨h1, h2, rfl⟩ := turnThreads_some h
    obtain ⟨h3, h7⟩ := prog_le h1
    refine ⟨by rw [pick_len, rowN_len h2]; exact h3, fun t ht => ?_⟩
    rcases pick_mem ht with ht | rfl
    · exact h7 t ht
    · simp

/-- Each step another one. -/
def mapS (f : D → D) (ll : List (List D)) : List (List D) := ll.map fun t => t.map f
theorem mapS_len (f : D → D) (ll : List (List D)) : (mapS f ll).length = ll.length := by simp [mapS]
theorem mapS_small {f : D → D} {ll : List (List D)} (h7 : ∀ t ∈ ll, t.length ≤ 7) : ∀ t ∈ mapS f ll, t.length ≤ 7 := by
  intro t ht
  simp only [mapS, List.mem_map] at ht
  obtain ⟨u, hu, rfl⟩ := ht
  rw [List.length_map]; exact h7 u hu
theorem mapS_take (f : D → D) (ll : List (List D)) (n : Nat) (h : n < ll.length) : mapS f (ll.take (n + 1)) = mapS f (ll.take n) ++ [ll[n].map f] := by
  rw [List.take_succ_eq_append_getElem h]; unfold mapS; rw [List.map_append]; rfl

def placeF (row : List Int) (d : D) : D := if uses d.k then ⟨d.k, row.getD d.p.toNat 0, d.v⟩ else d
def valF (row : List Int) (d : D) : D := ⟨d.k, d.p, row.getD d.v.toNat 0⟩
def plainK (k : Int) : Int := if k = 5 then 2 else if k = 6 then 1 else k
def plainF (d : D) : D := ⟨plainK d.k, d.p, d.v⟩

def turnPlaces (ll : List (List D)) (row : List Int) : Option (List (List D)) := if prog ll && rowN row 3 then some (mapS (placeF row) ll) else none
theorem turnPlaces_bad {ll : List (List D)} {row : List Int} (h : prog ll = false) : turnPlaces ll row = none := by simp [turnPlaces, h]
theorem turnPlaces_row {ll : List (List D)} {row : List Int} (h : rowN row 3 = false) : turnPlaces ll row = none := by simp [turnPlaces, h]
theorem turnPlaces_yes {ll : List (List D)} {row : List Int} (h : prog ll = true) (h2 : rowN row 3 = true) : turnPlaces ll row = some (mapS (placeF row) ll) := by simp [turnPlaces, h, h2]
theorem turnPlaces_some {ll mm : List (List D)} {row : List Int} (h : turnPlaces ll row = some mm) : prog ll = true ∧ rowN row 3 = true ∧ mm = mapS (placeF row) ll := by
  unfold turnPlaces at h
  split at h
  · rename_i hc
    simp only [Bool.and_eq_true] at hc
    exact ⟨hc.1, hc.2, (Option.some.inj h).symm⟩
  · cases h
theorem turnPlaces_small {ll mm : List (List D)} {row : List Int} (e : (turnPlaces ll row).getD [] = mm) : mm.length ≤ 3 ∧ ∀ t ∈ mm, t.length ≤ 7 := by
  cases h : turnPlaces ll row with
  | none => rw [h] at e; subst e; simp
  | some x =>
    rw [h] at e
    obtain rfl : x = mm := e
    obtain ⟨h1, h2, rfl⟩ := turnPlaces_some h
    obtain ⟨h3, h7⟩ := prog_le h1
    exact ⟨by rw [mapS_len]; exact h3, mapS_small h7⟩

def turnVals (ll : List (List D)) (row : List Int) : Option (List (List D)) := if prog ll && rowN row 4 && row.getD 0 0 == 0 then some (mapS (valF row) ll) else none
theorem turnVals_bad {ll : List (List D)} {row : List Int} (h : prog ll = false) : turnVals ll row = none := by simp [turnVals, h]
theorem turnVals_row {ll : List (List D)} {row : List Int} (h : rowN row 4 = false) : turnVals ll row = none := by simp [turnVals, h]
theorem turnVals_first {ll : List (List D)} {row : List Int} (h : (row.getD 0 0 == 0) = false) : turnVals ll row = none := by simp only [turnVals, h]; simp
theorem turnVals_yes {ll : List (List D)} {row : List Int} (h : prog ll = true) (h2 : rowN row 4 = true) (h3 : (row.getD 0 0 == 0) = true) : turnVals ll row = some (mapS (valF row) ll) := by simp only [turnVals, h, h2, h3]; simp
theorem turnVals_some {ll mm : List (List D)} {row : List Int} (h : turnVals ll row = some mm) : prog ll = true ∧ rowN row 4 = true ∧ row.getD 0 0 = 0 ∧ mm = mapS (valF row) ll := by
  unfold turnVals at h
  split at h
  · rename_i hc
    simp only [Bool.and_eq_true, beq_iff_eq] at hc
    exact ⟨hc.1.1, hc.1.2, hc.2, (Option.some.inj h).symm⟩
  · cases h
theorem turnVals_small {ll mm : List (List D)} {row : List Int} (e : (turnVals ll row).getD [] = mm) : mm.length ≤ 3 ∧ ∀ t ∈ mm, t.length ≤ 7 := by
  cases h : turnVals ll row with
  | none => rw [h] at e; subst e; simp
  | some x =>
    rw [h] at e
    obtain rfl : x = mm := e
    obtain ⟨h1, h2, _, rfl⟩ := turnVals_some h
    obtain ⟨h3, h7⟩ := prog_le h1
    exact ⟨by rw [mapS_len]; exact h3, mapS_small h7⟩

def turnPlain (ll : List (List D)) : List (List D) := if prog ll then mapS plainF ll else []
theorem turnPlain_bad {ll : List (List D)} (h : prog ll = false) : turnPlain ll = [] := by simp [turnPlain, h]
theorem turnPlain_yes {ll : List (List D)} (h : prog ll = true) : turnPlain ll = mapS plainF ll := by simp [turnPlain, h]
theorem turnPlain_small {ll mm : List (List D)} (e : turnPlain ll = mm) : mm.length ≤ 3 ∧ ∀ t ∈ mm, t.length ≤ 7 := by
  subst e
  cases h : prog ll with
  | false => rw [turnPlain_bad h]; simp
  | true =>
    rw [turnPlain_yes h]
    obtain ⟨h3, h7⟩ := prog_le h
    exact ⟨by rw [mapS_len]; exact h3, mapS_small h7⟩

def turnBeside (ll mm : List (List D)) : Option (List (List D)) := if prog ll && prog mm && prog (ll ++ mm) then some (ll ++ mm) else none
theorem turnBeside_bad {ll mm : List (List D)} (h : prog ll = false) : turnBeside ll mm = none := by simp [turnBeside, h]
theorem turnBeside_bad2 {ll mm : List (List D)} (h : prog mm = false) : turnBeside ll mm = none := by simp [turnBeside, h]
theorem turnBeside_bad3 {ll mm : List (List D)} (h : prog (ll ++ mm) = false) : turnBeside ll mm = none := by simp [turnBeside, h]
theorem turnBeside_yes {ll mm : List (List D)} (h : prog ll = true) (h2 : prog mm = true) (h3 : prog (ll ++ mm) = true) : turnBeside ll mm = some (ll ++ mm) := by simp [turnBeside, h, h2, h3]
theorem turnBeside_some {ll mm nn : List (List D)} (h : turnBeside ll mm = some nn) : prog ll = true ∧ prog mm = true ∧ prog (ll ++ mm) = true ∧ nn = ll ++ mm := by
  unfold turnBeside at h
  split at h
  · rename_i hc
    simp only [Bool.and_eq_true] at hc
    exact ⟨hc.1.1, hc.1.2, hc.2, (Option.some.inj h).symm⟩
  · cases h
theorem turnBeside_small {ll mm nn : List (List D)} (e : (turnBeside ll mm).getD [] = nn) : nn.length ≤ 3 ∧ ∀ t ∈ nn, t.length ≤ 7 := by
  cases h : turnBeside ll mm with
  | none => rw [h] at e; subst e; simp
  | some x =>
    rw [h] at e
    obtain rfl : x = nn := e
    obtain ⟨_, _, h1, rfl⟩ := turnBeside_some h
    exact prog_le h1
end M
end Go.Proofs.Ytflmejjhnkpodaa

namespace Go.Proofs.Ytflmejjhnkpodaa
open Go.RowKit

set_option maxHeartbeats 1000000 in
set_option maxRecDepth 100000 in
theorem numbersBelow_any (n : Nat) (w : World) (hn : n ≤ 1000) :
    Calls Try.prog 55 #[.int .i64 n] w fun e w' => ∃ v, e = .returned v ∧ w'.ownsRow w.heap.size 3 1 v (M.bel n).length (nums (M.bel n)) ∧ Below w.heap.size w w' := by
  obtain ⟨i0, hi, hz0, hz1, hz2⟩ := info_parts Try.infoInt
  go_enter Try.func55, Try.ntmps55
  go_wp2_with fail
  go_loopw [3, 6] (fun s3 s6 wr => ∃ k : Nat, s6 = .int .i64 k ∧ k ≤ n ∧ wr.ownsRow w.heap.size 3 1 s3 (M.bel k).length (nums (M.bel k)) ∧ Below w.heap.size w wr) (fun _ s6 _ => n - (intOf s6).toNat)
  case atStart => exact ⟨0, rfl, Nat.zero_le _, World.ownsRow_nil _ _ _ _, Below.refl _ _⟩
  case round =>
    obtain ⟨k, rfl, hk, hown, hbel⟩ := hrel
    by_cases hkn : k < n
    · have hkn' : (k : Int) < n := by omega
      have HB : Hid (M.bel (k + 1) = M.bel k ++ [(k : Int)]) := M.bel_succ k
      have hbl := M.bel_len k
      have hbs := hbel.size
      generalize M.bel k = l at *
      have hl : l.length ≤ 1000 := by omega
      clear hbl
      go_wp2_with (at_builtin; refine wpList_append_own _ rfl (.tmp 9) (.tmp 11) 26 rfl _ 3 i0 _ 1 8 Try.underlying26 hi hz0 hz1 hz2 rfl (by decide) _ _ _ rfl (hown.alloc _) ⟨wr.heap.size, 0, none⟩ 1 1 [.int .i64 k] rfl rfl (cells_new1 _ _ _ _ (by simp)) (one1 _) (by unfold maxLen; omega) (by omega) (by simp; omega) ?_)
      intro v3 w3 hown3 hg3 _
      have hb3 : Below _ _ w3 := below_grown (hbel.trans ((below1 wr _).mono hbel.size)) hg3 (own_ge hown) (by simp; omega)
      have hown4 : w3.ownsRow w.heap.size 3 1 v3 (M.bel (k + 1)).length (nums (M.bel (k + 1))) := by rw [HB.out, nums_snoc, List.length_append]; exact hown3
      clear hown3 hg3 hown
      go_wp2_with fail
      exact ⟨⟨k + 1, by go_num, by omega, hown4, hb3⟩, by simp [intOf]; omega⟩
    · obtain rfl : k = n := by omega
      have hkn' : ¬ (k : Int) < k := by omega
      go_wp2_with fail
      go_ret
      exact ⟨_, rfl, hown, hbel⟩

set_option maxHeartbeats 400000 in
set_option maxRecDepth 100000 in
theorem rowOf_any (a : Option Addr) (b o c : Nat) (row : List Int) (a2 : Option Addr) (b2 o2 c2 : Nat) (evs : List Int) (w : World) (hl : row.length ≤ 1048576) (hl2 : evs.length ≤ 1048576) (h : IntS w a b o row) (h2 : IntS w a2 b2 o2 evs) :
    Calls Try.prog 54 #[.slice a row.length c, .slice a2 evs.length c2] w fun e w' => e = .returned (.bool (M.rowOf row evs)) ∧ w' = w := by
  by_cases hln : row.length = evs.length
  · have HF : Hid (M.rowOf row evs = evs.all (fun v => M.has row v)) := M.rowOf_same hln
    have hq : ((row.length : Int) != evs.length) = false := by simp; omega
    have HL : Hid (row.length = evs.length) := hln
    clear hln
    go_enter Try.func54, Try.ntmps54
    go_wp2_with fail
    go_loopw [14] (fun s14 wr => ∃ n : Nat, s14 = .int .i64 n ∧ n ≤ evs.length ∧ Hid (evs.all (fun v => M.has row v) = (evs.drop n).all (fun v => M.has row v)) ∧ wr = w) (fun s14 _ => evs.length - (intOf s14).toNat)
    case atStart => exact ⟨0, rfl, Nat.zero_le _, by show _ = _; rfl, rfl⟩
    case round =>
      obtain ⟨n, rfl, hn, HA, rfl⟩ := hrel
      by_cases hlt : n < evs.length
      · obtain ⟨rfl⟩ := h2.addr (by omega)
        have hx := h2.row n hlt
        have HS : Hid (evs.all (fun v => M.has row v) = (M.has row evs[n] && (evs.drop (n + 1)).all (fun v => M.has row v))) := M.rowAll_step HA.out hlt
        clear HA
        generalize evs[n] = y at *
        have i1 : (n : Int) < evs.length := by omega
        cases hh : M.has row y
        · go_wp2_with (go_at_call 74; refine (containsI_any a b o c row y _ hl h).mono ?_; rw [hh]; rintro e w' ⟨rfl, rfl⟩)
          go_ret
          exact ⟨ret_bool (by rw [HF.out, HS.out, hh]; rfl), rfl⟩
        · go_wp2_with (go_at_call 74; refine (containsI_any a b o c row y _ hl h).mono ?_; rw [hh]; rintro e w' ⟨rfl, rfl⟩)
          exact ⟨⟨n + 1, by go_num, by omega, by show _ = _; rw [HS.out, hh]; rfl, trivial⟩, by simp [intOf]; omega⟩
      · go_wp2_with fail
        go_ret
        exact ⟨ret_bool (by rw [HF.out, HA.out, List.drop_eq_nil_of_le (by omega)]; rfl), rfl⟩
  · have hln' : ((row.length : Int) == evs.length) = false := by simp; omega
    go_enter Try.func54, Try.ntmps54
    go_wp2_with fail
    go_ret
    exact ⟨ret_bool (M.rowOf_short hln).symm, rfl⟩

end Go.Proofs.Ytflmejjhnkpodaa

namespace Go.Proofs.Ytflmejjhnkpodaa
open Go.RowKit

/-- What a row makes of things: nothing, if it is none. -/
def M.turned {α : Type} (z : α) (row : List Int) (l : List α) : List α := if M.rowN row l.length then M.pick z row l else []
theorem M.turned_no {α : Type} {z : α} {row : List Int} {l : List α} (h : M.rowN row l.length = false) : M.turned z row l = [] := by simp [M.turned, h]
theorem M.turned_yes {α : Type} {z : α} {row : List Int} {l : List α} (h : M.rowN row l.length = true) : M.turned z row l = M.pick z row l := by simp [M.turned, h]

/-- Values that are threads. -/
def Thx (w : World) (vs : List Value) (ll : List (List M.D)) : Prop := vs.length = ll.length ∧ ∀ i (h1 : i < ll.length) (h2 : i < vs.length), ∃ a' b' o' c', vs[i] = .slice a' ll[i].length c' ∧ DoS w a' b' o' ll[i]
theorem Thx.nil (w : World) : Thx w [] [] := ⟨rfl, fun _ h => absurd h (Nat.not_lt_zero _)⟩
theorem Thx.below {w w' : World} {vs : List Value} {ll : List (List M.D)} {B : Nat} (h : Thx w vs ll) (hb : Below B w w') (hB : w.heap.size ≤ B) : Thx w' vs ll :=
  ⟨h.1, fun i h1 h2 => by obtain ⟨a', b', o', c', e, hd⟩ := h.2 i h1 h2; exact ⟨a', b', o', c', e, hd.below hb hB⟩⟩
theorem Thx.snoc {w : World} {vs : List Value} {ll : List (List M.D)} {a : Option Addr} {b o c : Nat} {l : List M.D} (h : Thx w vs ll) (hd : DoS w a b o l) : Thx w (vs ++ [.slice a l.length c]) (ll ++ [l]) := by
  have hl := h.1
  refine ⟨by simp [hl], fun i h1 h2 => ?_⟩
  by_cases hi : i < ll.length
  · rw [List.getElem_append_left (by omega), List.getElem_append_left hi]
    exact h.2 i hi (by omega)
  · have : i = ll.length := by simp at h1; omega
    subst this
    have e1 : (ll ++ [l])[ll.length] = l := by simp
    have e2 : (vs ++ [Value.slice a l.length c])[ll.length] = .slice a l.length c := by
      rw [List.getElem_append_right (by omega)]
      simp [hl]
    rw [e1, e2]
    exact ⟨a, b, o, c, rfl, hd⟩
theorem Thx.ss {w : World} {B : Nat} {v : Value} {vs : List Value} {ll : List (List M.D)} (h : Thx w vs ll) (ho : w.ownsRow B 70 1 v ll.length vs) : ∃ a g c, v = .slice a ll.length c ∧ DoSS w a g 0 ll := by
  have hl := h.1
  rcases ho.2 with ⟨hv, hn⟩ | ⟨g, cap, cur, hv, hg, hh, r⟩
  · have : ll = [] := List.length_eq_zero_iff.1 hn
    subst this
    exact ⟨none, 0, 0, hv, ⟨fun h => absurd h (Nat.lt_irrefl _), fun i hi => absurd hi (Nat.not_lt_zero _)⟩⟩
  · refine ⟨_, g, cap, hv, ⟨fun _ => rfl, fun i hi => ?_⟩⟩
    have hc := ho.cells (g := g) (by rw [hv]; rfl) i vs[i] (List.getElem?_eq_getElem (by omega))
    rw [Go.WideShapes.add_plain] at hc
    obtain ⟨a', b', o', c', e, hd⟩ := h.2 i hi (by omega)
    rw [e] at hc
    exact ⟨a', b', o', c', hc, hd⟩

theorem Try.infoTh : (Try.prog.info? 70).map (fun i => (i.zero, i.size, i.bytes)) = some (some (.slice none 0 0), 1, 24) := by kernel_rfl
theorem own_sl1 {w : World} {B : Nat} {e : TypeId} {size : Nat} {v : Value} {n : Nat} {xs : List Value} (h : w.ownsRow B e size v n xs) : v.oneCell' = true := by
  rcases h.2 with ⟨hv, h0⟩ | ⟨g, cap, cur, hv, _⟩ <;> rw [hv] <;> rfl

set_option maxHeartbeats 1000000 in
set_option maxRecDepth 100000 in
theorem turnT_any (a : Option Addr) (b o c : Nat) (row : List Int) (a2 : Option Addr) (b2 o2 c2 : Nat) (ll : List (List M.D)) (w : World) (hl : row.length ≤ 1048576) (hl2 : ll.length ≤ 1000) (h : IntS w a b o row) (h2 : DoSS w a2 b2 o2 ll) :
    Calls Try.prog 37 #[.slice a row.length c, .slice a2 ll.length c2] w fun e w' => ∃ v, e = .returned (.tuple #[v, .bool (M.rowN row ll.length)]) ∧ (∃ a', (∃ c', v = .slice a' (M.turned [] row ll).length c') ∧ ∃ g', DoSS w' a' g' 0 (M.turned [] row ll)) ∧ Below w.heap.size w w' := by
  obtain ⟨i0, hi, hz0, hz1, hz2⟩ := info_parts Try.infoTh
  go_enter Try.func37, Try.ntmps37
  go_wp2_with fail
  refine (numbersBelow_any ll.length w hl2).mono ?_
  rintro e w1 ⟨v1, rfl, hown1, b1⟩
  obtain ⟨a1, g1, c1, rfl, hI1, _, _⟩ := own_nums hown1
  have hbl : (M.bel ll.length).length ≤ 1048576 := by rw [M.bel_len]; omega
  have CR := rowOf_any a b o c row a1 g1 0 c1 (M.bel ll.length) w1 hl hbl (h.below b1 (Nat.le_refl _)) hI1
  change Calls _ _ _ _ (fun e w' => e = .returned (.bool (M.rowN row ll.length)) ∧ _) at CR
  clear hown1 hI1 hbl
  generalize (M.bel ll.length).length = bl at *
  cases hr : M.rowN row ll.length
  · rw [hr] at CR
    go_wp2_with (first | (go_at_call 54; refine CR.mono ?_; rintro e w2 ⟨rfl, rfl⟩))
    exact bodyPost_ret (v := .tuple #[.slice none 0 0, .bool false]) (by simp [results, Try.results37, go_sem]) rfl ⟨_, by rw [hr], ⟨none, ⟨0, by rw [M.turned_no hr, List.length_nil]⟩, 0, by rw [M.turned_no hr]; exact ⟨fun h => absurd h (Nat.lt_irrefl _), fun i hi => absurd hi (Nat.not_lt_zero _)⟩⟩, b1⟩
  · rw [hr] at CR
    have HR : Hid (M.rowN row ll.length = true) := hr
    clear hr
    go_wp2_with (first | (go_at_call 54; refine CR.mono ?_; rintro e w2 ⟨rfl, rfl⟩))
    go_loopw [6, 17] (fun s6 s17 wr => ∃ (k : Nat) (vs : List Value), s17 = .int .i64 k ∧ k ≤ row.length ∧ wr.ownsRow w.heap.size 70 1 s6 (M.pick [] (row.take k) ll).length vs ∧ Thx w vs (M.pick [] (row.take k) ll) ∧ Below w.heap.size w wr) (fun _ s17 _ => row.length - (intOf s17).toNat)
    case atStart => exact ⟨0, [], rfl, Nat.zero_le _, World.ownsRow_nil _ _ _ _, Thx.nil _, b1⟩
    case round =>
      obtain ⟨k, vs, rfl, hk, hown, hT, hbel⟩ := hrel
      by_cases hkn : k < row.length
      · have hkn' : (k : Int) < row.length := by omega
        obtain ⟨rfl⟩ := h.addr (by omega)
        have x1 := (h.below hbel (Nat.le_refl _)).row k hkn
        have HB : Hid (M.pick [] (row.take (k + 1)) ll = M.pick [] (row.take k) ll ++ [ll.getD row[k].toNat []]) := M.pick_take [] row ll k hkn
        obtain ⟨r0, r1⟩ := M.rowN_get HR.out k hkn
        obtain ⟨rfl⟩ := h2.addr (by omega)
        generalize row[k] = y at *
        obtain ⟨j, rfl⟩ : ∃ j : Nat, y = j := ⟨y.toNat, by omega⟩
        have hj : j < ll.length := by omega
        obtain ⟨a', b', o', c', hc, hd⟩ := h2.row j hj
        have x2 := (hbel.cell (p := ⟨b2, o2 + j, none⟩) (World.block_lt_of_cell? _ _ hc)).trans hc
        have HB2 : Hid (M.pick [] (row.take (k + 1)) ll = M.pick [] (row.take k) ll ++ [ll[j]]) := by show _ = _; rw [HB.out]; congr 2; exact M.getD_get hj
        clear HB hc
        have hpl : (M.pick [] (row.take k) ll).length ≤ 1048576 := by rw [M.pick_len]; simp; omega
        have hbs := hbel.size
        generalize ll[j] = z at *
        generalize M.pick [] (row.take k) ll = m at *
        go_wp2_with (at_builtin; refine wpList_append_own _ rfl (.tmp 21) (.tmp 26) 23 rfl _ 70 i0 _ 1 24 Try.underlying23 hi hz0 hz1 hz2 rfl (by decide) _ _ _ rfl (hown.alloc _) ⟨wr.heap.size, 0, none⟩ 1 1 [.slice a' z.length c'] rfl rfl (cells_new1 _ _ _ _ (by simp)) (by simp [Value.oneCell']) (by unfold maxLen; omega) (by omega) (by simp; omega) ?_)
        intro v3 w3 hown3 hg3 _
        have hb3 : Below _ _ w3 := below_grown (hbel.trans ((below1 wr _).mono hbel.size)) hg3 (own_ge hown) (by simp; omega)
        have hown4 : w3.ownsRow w.heap.size 70 1 v3 (M.pick [] (row.take (k + 1)) ll).length (vs ++ [.slice a' z.length c']) := by rw [HB2.out, List.length_append]; exact hown3
        have hT4 : Thx w (vs ++ [.slice a' z.length c']) (M.pick [] (row.take (k + 1)) ll) := by rw [HB2.out]; exact hT.snoc hd
        clear hown3 hg3 hown
        go_wp2_with fail
        exact ⟨⟨k + 1, _, by go_num, by omega, hown4, hT4, hb3⟩, by simp [intOf]; omega⟩
      · have htk : row.take k = row := List.take_of_length_le (by omega)
        rw [htk] at hown hT
        have hkn' : ¬ (k : Int) < row.length := by omega
        obtain ⟨a', g', c', rfl, hs⟩ := (hT.below hbel (Nat.le_refl _)).ss hown
        go_wp2_with fail
        exact bodyPost_ret (v := .tuple #[.slice a' (M.pick [] row ll).length c', .bool true]) (by simp [results, Try.results37, go_sem]) rfl ⟨_, by rw [HR.out], ⟨a', ⟨c', by rw [M.turned_yes HR.out]⟩, g', by rw [M.turned_yes HR.out]; exact hs⟩, hbel⟩

end Go.Proofs.Ytflmejjhnkpodaa

namespace Go.Proofs.Ytflmejjhnkpodaa
namespace M

/-- What each thread read. -/
def parts : List (List D) → List Int → List (List Int)
  | [], _ => []
  | t :: ll, l => l.take (cnt reads t) :: parts ll (l.drop (cnt reads t))
theorem parts_len (ll : List (List D)) : ∀ l, (parts ll l).length = ll.length := by
  induction ll with
  | nil => intro l; rfl
  | cons t ll ih => intro l; simp [parts, ih]
theorem tot_take (f : Int → Bool) (ll : List (List D)) (n : Nat) (h : n < ll.length) : tot f (ll.take (n + 1)) = tot f (ll.take n) + cnt f ll[n] := by
  have app : ∀ a b : List (List D), tot f (a ++ b) = tot f a + tot f b := fun a b => by
    induction a with
    | nil => simp [tot]
    | cons x a ih => simp only [List.cons_append, tot, ih]; omega
  rw [List.take_succ_eq_append_getElem h, app]; simp [tot]
theorem parts_get (ll : List (List D)) : ∀ (l : List Int) (n : Nat) (h : n < ll.length) (h' : n < (parts ll l).length), (parts ll l)[n] = (l.drop (tot reads (ll.take n))).take (cnt reads ll[n]) := by
  induction ll with
  | nil => intro l n h; simp at h
  | cons t ll ih =>
    intro l n h h'
    cases n with
    | zero => simp [parts, tot]
    | succ n =>
      have := ih (l.drop (cnt reads t)) n (by simpa using h) (by rw [parts_len]; simpa using h)
      simp only [parts, List.getElem_cons_succ, List.take_succ_cons, tot]
      rw [this, List.drop_drop]
theorem tot_take_le (f : Int → Bool) (ll : List (List D)) (n : Nat) : tot f (ll.take n) ≤ tot f ll := by
  have app : ∀ a b : List (List D), tot f (a ++ b) = tot f a + tot f b := fun a b => by
    induction a with
    | nil => simp [tot]
    | cons x a ih => simp only [List.cons_append, tot, ih]; omega
  have := app (ll.take n) (ll.drop n)
  rw [List.take_append_drop] at this
  omega
def turnSeen (ll : List (List D)) (l1 l2 row : List Int) : Option (List Int × List Int) := if seenOk ll l1 l2 && rowN row ll.length then some ((pick [] row (parts ll l1)).flatten, l2) else none
theorem turnSeen_bad {ll : List (List D)} {l1 l2 row : List Int} (h : seenOk ll l1 l2 = false) : turnSeen ll l1 l2 row = none := by simp [turnSeen, h]
theorem turnSeen_row {ll : List (List D)} {l1 l2 row : List Int} (h : rowN row ll.length = false) : turnSeen ll l1 l2 row = none := by simp [turnSeen, h]
theorem turnSeen_yes {ll : List (List D)} {l1 l2 row : List Int} (h : seenOk ll l1 l2 = true) (h2 : rowN row ll.length = true) : turnSeen ll l1 l2 row = some ((pick [] row (parts ll l1)).flatten, l2) := by simp [turnSeen, h, h2]
theorem seenOk_len {ll : List (List D)} {l1 l2 : List Int} (h : seenOk ll l1 l2 = true) : prog ll = true ∧ l1.length = tot reads ll ∧ l2.length = 3 := by
  by_cases h1 : (l1.length : Int) = nreads ll
  · by_cases h2 : l2.length = 3
    · cases hp : prog ll
      · rw [nreads_no hp] at h1; omega
      · rw [nreads_ok hp] at h1; exact ⟨rfl, by omega, h2⟩
    · rw [seenOk_2 h2] at h; cases h
  · rw [seenOk_1 h1] at h; cases h
/-- How many numbers the first rows have. -/
def lens : List (List Int) → Nat
  | [] => 0
  | r :: rs => r.length + lens rs
theorem lens_take (rs : List (List Int)) (n : Nat) (h : n < rs.length) : lens (rs.take (n + 1)) = lens (rs.take n) + rs[n].length := by
  have app : ∀ a b : List (List Int), lens (a ++ b) = lens a + lens b := fun a b => by
    induction a with
    | nil => simp [lens]
    | cons x a ih => simp only [List.cons_append, lens, ih]; omega
  rw [List.take_succ_eq_append_getElem h, app]; simp [lens]
theorem lens_flat (rs : List (List Int)) : rs.flatten.length = lens rs := by
  induction rs with
  | nil => rfl
  | cons r rs ih => simp [lens, ih]
theorem flat_take (rs : List (List Int)) (n : Nat) (h : n < rs.length) : (rs.take (n + 1)).flatten = (rs.take n).flatten ++ rs[n] := by
  rw [List.take_succ_eq_append_getElem h]; simp only [List.flatten_append, List.flatten_cons, List.flatten_nil, List.append_nil]
end M
end Go.Proofs.Ytflmejjhnkpodaa

namespace Go.Proofs.Ytflmejjhnkpodaa
open Go.RowKit

theorem run_append_zero {P : Program} (w : World) (t ty e : TypeId) (i : TypeInfo) (ht : P.underlying t = some (.slice e)) (hi : P.info? e = some i) {base size n : Nat} {v : Value} {xs : List Value} {e' : TypeId} (hown : w.ownsRow base e' size v n xs) (a : Option Addr) (c : Nat) :
    (Builtin.append_ #[t, t] ty #[v, .slice a 0 c]).run P w = .ok v w := by
  rcases hown.2 with ⟨hv, h0⟩ | ⟨g, cap, cur, hv, _, _, hnc, _⟩
  · subst hv
    cases a
    · simp [Builtin.append_, run_underlying ht, sizeOf, typeInfo, hi, Builtin.lenOf, Builtin.firstCells]
    · simp [Builtin.append_, run_underlying ht, sizeOf, typeInfo, hi, Builtin.lenOf, Builtin.firstCells, loadCells, loadCellsFrom]
  · subst hv
    cases a
    · simp [Builtin.append_, run_underlying ht, sizeOf, typeInfo, hi, Builtin.lenOf, Builtin.firstCells, storeCells, hnc]
    · simp [Builtin.append_, run_underlying ht, sizeOf, typeInfo, hi, Builtin.lenOf, Builtin.firstCells, loadCells, loadCellsFrom, storeCells, hnc]
theorem wpList_append_zero {P : Program} {w : World} {ops : Array Oper} {rest : List Oper} {o : Oper} {a : Act} {Q : Exit → Act → World → Prop} (hgd : o.guard = none) (s x : Operand) (t : TypeId)
    (ho : o.op = .call { callee := .builtin .append, args := #[s, x], argTypes := #[t, t] }) (d : Option Tmp) (hd : o.dst = d) (e : TypeId) (i : TypeInfo) (ht : P.underlying t = some (.slice e)) (hi : P.info? e = some i)
    {base size n : Nat} {v : Value} {xs : List Value} {e' : TypeId} (hs : a.eval s = v) (hown : w.ownsRow base e' size v n xs) (b : Option Addr) (m c : Nat) (hm : m = 0) (hx : a.eval x = .slice b m c)
    (h : wpList P ops Q rest (a.put d v) w) : wpList P ops Q (o :: rest) a w := by
  subst hd
  subst hm
  refine wpList_plain hgd fun K hK => ?_
  have hrun := run_append_zero (P := P) w t o.type e i ht hi hown b c
  unfold Oper.wp
  simp [execOp, ho, resolve, invoke, builtin, hs, hx, hrun, Result.andThen]
  exact hK _ _ h

end Go.Proofs.Ytflmejjhnkpodaa

namespace Go.Proofs.Ytflmejjhnkpodaa
open Go.RowKit

set_option maxHeartbeats 1000000 in
theorem newListD_any (a : Option Addr) (b o c : Nat) (l : List M.D) (w : World) (hl : l.length ≤ 1048576) (h : DoS w a b o l) :
    Calls Try.prog 61 #[.slice a l.length c] w fun e w' => ∃ v, e = .returned v ∧ w'.ownsRow w.heap.size 83 3 v l.length (flat l) ∧ Below w.heap.size w w' := by
  obtain ⟨i0, hi, hz0, hz1, hz2⟩ := info_parts Try.info83
  rcases Nat.eq_zero_or_pos l.length with h0 | hpos
  · have hl0 : l = [] := List.length_eq_zero_iff.1 h0
    subst hl0
    rw [List.length_nil]
    go_enter Try.func61, Try.ntmps61
    go_wp2_with (at_builtin; refine wpList_append_nilT rfl (.const (.slice none 0 0)) (.tmp 3) 70 rfl 83 i0 Try.underlying70 hi rfl a c rfl ?_)
    go_wp2_with fail
    go_ret
    exact ⟨_, rfl, World.ownsRow_nil _ _ _ _, Below.refl _ _⟩
  · obtain ⟨rfl⟩ := h.addr hpos
    go_enter Try.func61, Try.ntmps61
    go_wp2_with (at_builtin; refine wpList_append_lies _ rfl (.const (.slice none 0 0)) (.tmp 3) 70 rfl w.heap.size 83 i0 _ 3 24 Try.underlying70 hi hz0 hz1 hz2 rfl (by decide) _ 0 [] rfl (World.ownsRow_nil _ _ _ _) ⟨b, o, none⟩ l.length c (flat l) rfl (flat_length l) (DoS.flat_cells h.row) (flat_one' l) hpos (by unfold maxLen; omega) (by omega) (Nat.le_refl _) w.heap.size rfl ?_)
    intro g cap w1 hown hg hat hlt
    have hb : Below w.heap.size w w1 := ⟨hg.os, hg.tape, hg.output, hg.size, fun k hk => hg.block k hk (fun e => by simp [Value.ownBlock] at e)⟩
    have hown' : w1.ownsRow w.heap.size 83 3 (.slice (some ⟨g, 0, none⟩) l.length cap) l.length (flat l) := by simpa using hown
    go_wp2_with fail
    go_ret
    exact ⟨_, by first | rfl | simp, hown', hb⟩

set_option maxHeartbeats 4000000 in
set_option maxRecDepth 100000 in
set_option linter.unusedSimpArgs false in
theorem copyProg_any (a : Option Addr) (b o c : Nat) (ll : List (List M.D)) (w : World) (hl : ll.length ≤ 1048576) (hls : ∀ t ∈ ll, t.length ≤ 1048576) (h : DoSS w a b o ll) :
    Calls Try.prog 38 #[.agg #[.slice a ll.length c]] w fun e w' => ∃ v, e = .returned (.agg #[v]) ∧ (∃ vs, Rdg w' w.heap.size v ll vs) ∧ Below w.heap.size w w' := by
  obtain ⟨i0, hi, hz0, hz1, hz2⟩ := info_parts Try.info70
  go_enter Try.func38, Try.ntmps38
  go_wp2_with fail
  go_loopw [9] (fun s9 wr => ∃ (n : Nat) (v : Value) (vs : List Value), s9 = .int .i64 n ∧ n ≤ ll.length ∧ Rdg wr (w.heap.size + 3) v (ll.take n) vs ∧ Slot1 wr (w.heap.size + 1 + 1) v ∧ Slot1 wr (w.heap.size + 1) (.slice none 0 0) ∧ Below w.heap.size w wr) (fun s9 _ => ll.length - (intOf s9).toNat)
  case atStart =>
    refine ⟨0, .slice none 0 0, [], rfl, Nat.zero_le _, by simpa using Rdg.nil _ _, ?_, ?_, below3 _ _ _ _⟩
    · have := Slot1.new ((w.alloc (.cells #[.slice a ll.length c] 25)).alloc (.cells #[.slice none 0 0] 25)) (.slice none 0 0) 25
      rwa [World.size_alloc, World.size_alloc] at this
    · have := (Slot1.new (w.alloc (.cells #[.slice a ll.length c] 25)) (.slice none 0 0) 25).bl' (below1 _ (.cells #[.slice none 0 0] 25))
      rwa [World.size_alloc] at this
  case round =>
    obtain ⟨n, v, vs, rfl, hn, hR, hP, hQ, hbel⟩ := hrel
    by_cases hlt : n < ll.length
    · obtain ⟨rfl⟩ := h.addr (by omega)
      obtain ⟨a', b', o', c', hc, hd⟩ := (h.below hbel (Nat.le_refl _)).row n hlt
      have ht := hls _ (List.getElem_mem hlt)
      have HW : Hid (ll.take (n + 1) = ll.take n ++ [ll[n]]) := List.take_succ_eq_append_getElem hlt
      have hmm : (ll.take n).length ≤ 1048576 := by simp; omega
      generalize ll[n] = t at *
      generalize ll.take n = mm at *
      have i1 : (n : Int) < ll.length := by omega
      obtain ⟨av, gv, cv, rfl, _⟩ := hR.b.ss
      have x0 := hP.c
      have lP := hP.lt
      have F4 : Hid (∀ (w4 : World) (v4 : Value), w4.ownsRow wr.heap.size 83 3 v4 t.length (flat t) → Below wr.heap.size wr.drew w4 → ∃ a4 c4, v4 = .slice a4 t.length c4 ∧ Below wr.heap.size wr w4 ∧ Slot1 w4 (w.heap.size + 1 + 1) (.slice av mm.length cv) ∧ Rdg w4 (w.heap.size + 3) (.slice av mm.length cv) mm vs) := by
        intro w4 v4 ho hb
        obtain ⟨a4, c4, e⟩ := own_slx ho
        have b4 : Below wr.heap.size wr w4 := (Below.refl _ _).drew.trans hb
        exact ⟨a4, c4, e, b4, hP.bl' b4, hR.below b4⟩
      have F5 : Hid (∀ (w4 : World) (a4 : Option Addr) (c4 : Nat), Below wr.heap.size wr w4 → w4.ownsRow wr.heap.size 83 3 (.slice a4 t.length c4) t.length (flat t) → ∀ (g5 cap5 : Nat) (w5 : World), w5.ownsRow (w.heap.size + 3) 70 1 (.slice (some ⟨g5, 0, none⟩) (mm.length + 1) cap5) (mm.length + 1) (vs ++ [.slice a4 t.length c4]) → (w4.alloc (.cells #[.slice a4 t.length c4] 70)).grownBy w5 (Value.slice av mm.length cv).ownBlock → Below w.heap.size w w5 ∧ Slot1 w5 (w.heap.size + 1 + 1) (.slice av mm.length cv) ∧ Slot1 w5 (w.heap.size + 1) (.slice none 0 0) ∧ Rdg w5 (w.heap.size + 3) (.slice (some ⟨g5, 0, none⟩) (mm.length + 1) cap5) (mm ++ [t]) (vs ++ [.slice a4 t.length c4])) := by
        intro w4 a4 c4 b4 hx4 g5 cap5 w5 ho hg
        have hal := below1 w4 (.cells #[.slice a4 t.length c4] 70)
        have hge := own_ge hR.b.outer
        have b4a := b4.trans (hal.mono b4.size)
        have bwa := hbel.trans (b4a.mono hbel.size)
        refine ⟨below_grown bwa hg (fun j hj => by have := hge j hj; omega) bwa.size, (hP.bl' b4a).apart hg (fun e => by have := hge _ e; omega), (hQ.bl' b4a).apart hg (fun e => by have := hge _ e; omega), ((hR.below b4).below hal).snocT (ownsRow_mono (ownsRow_below hx4 hal) (by omega)) (fun i hi j hj e => ?_) ho hg⟩
        have h1 := ((hR.b.inner i (by have := hR.b.len; omega) hi).lt j hj).2
        have h2 := own_ge hx4 j e
        omega
      have CN := newListD_any a' b' o' c' t wr.drew ht (hd.below (Below.refl wr.heap.size wr).drew (Nat.le_refl _))
      go_wp2_with fail
      refine wp_region_held_drew (S := fun w' => Below w.heap.size w w') (by kernel_rfl) hbel.drew (fun hH => ?_)
      refine takeD 0 (some 13) (.pointer (some ⟨w.heap.size + 1 + 1, 0, none⟩)) hH rfl rfl (by kernel_rfl) (by kernel_rfl) (by kernel_rfl) (fun _ _ _ h => h) (Or.inl ⟨by rfl, by intro w' hSw; go_simp⟩) ?_
      simp only [Act.put, List.setIfInBounds_toArray, List.set_cons_zero, List.set_cons_succ]
      refine takeD 2 (some 15) (.slice a' t.length c') hH rfl rfl (by kernel_rfl) (by kernel_rfl) (by kernel_rfl) (fun _ _ _ h => h) (Or.inl ⟨by rfl, by intro w' hSw; go_simp⟩) ?_
      simp only [Act.put, List.setIfInBounds_toArray, List.set_cons_zero, List.set_cons_succ]
      refine wpAnyH_ready (rs := [1, 3]) (by kernel_rfl) (by simp) ?_
      refine AllReadyH.cons rfl (fun K' hK => ?_) (AllReadyH.cons rfl (fun K' hK => ?_) AllReadyH.nil)
      · have xx := x0
        rw [if_pos (by rfl)]
        go_simp
        refine hK.out _ _ hH (fun _ => ?_)
        clear hK K' xx
        refine wpAnyH_ready (rs := [3]) (by kernel_rfl) (by simp) ?_
        refine AllReadyH.cons rfl (fun K' hK => ?_) AllReadyH.nil
        refine step_goV (by rfl) (some 16) rfl 61 #[.tmp 15] _ rfl #[.slice a' t.length c'] (by simp [Act.eval]) (fun _ _ => rfl) CN ?_
        rintro e w4 ⟨v4, rfl, ho4, hb4⟩
        obtain ⟨a4, c4, rfl, b4, hS4, hR4⟩ := F4.out w4 v4 ho4 hb4
        refine ⟨_, rfl, ?_⟩
        simp only [Act.put, List.setIfInBounds_toArray, List.set_cons_zero, List.set_cons_succ]
        refine hK.out _ _ (hbel.trans (b4.mono hbel.size)) (fun hH4 => ?_)
        clear hK K'
        have hS4a := hS4.bl' (below1 w4 (.cells #[.slice a4 t.length c4] 70))
        have S4a : Below w.heap.size w (w4.alloc (.cells #[.slice a4 t.length c4] 70)) := hH4.alloc hH4.size _
        refine wpAnyH_ready (rs := [4]) (by kernel_rfl) (by simp) ?_
        refine AllReadyH.cons rfl (fun K' hK => ?_) AllReadyH.nil
        rw [if_pos (by rfl)]
        go_simp
        refine hK.out _ _ S4a (fun _ => ?_)
        clear hK K'
        refine wpAnyH_ready (rs := [5]) (by kernel_rfl) (by simp) ?_
        refine AllReadyH.cons rfl (fun K' hK => ?_) AllReadyH.nil
        refine step_append_lies _ (by rfl) (.tmp 14) (.tmp 17) 23 (by rfl) (w.heap.size + 3) 70 i0 _ 1 24 Try.underlying23 hi hz0 hz1 hz2 rfl (by decide) (.slice av mm.length cv) mm.length vs (by rfl) ((hR4.b.outer).alloc _) ⟨w4.heap.size, 0, none⟩ 1 1 [.slice a4 t.length c4] (by rfl) (by rfl) (World.news_of_block (cs := #[.slice a4 t.length c4]) (t := 70) (fr := (0, 0)) (heap_alloc_new w4 _)) (by simp [Value.oneCell']) (by omega) (by unfold maxLen; omega) (by omega) (by have := b4.size; simp; omega) (w4.heap.size + 1) (by simp) ?_
        intro g5 cap5 w5 hown5 hg5 hat5 hlt5
        obtain ⟨b5, hS5, hQ5, hR5⟩ := F5.out w4 a4 c4 b4 ho4 g5 cap5 w5 hown5 hg5
        simp only [Act.put, List.setIfInBounds_toArray, List.set_cons_zero, List.set_cons_succ]
        refine hK.out _ _ b5 (fun hH5 => ?_)
        clear hK K'
        refine takeD 6 (some 19) (.pointer (some ⟨w.heap.size + 1 + 1, 0, none⟩)) hH5 rfl rfl (by kernel_rfl) (by kernel_rfl) (by kernel_rfl) (fun _ _ _ h => h) (Or.inl ⟨by rfl, by intro w' hSw; go_simp⟩) ?_
        simp only [Act.put, List.setIfInBounds_toArray, List.set_cons_zero, List.set_cons_succ]
        refine wpAnyH_ready (rs := [7]) (by kernel_rfl) (by simp) ?_
        refine AllReadyH.cons rfl (fun K' hK => ?_) AllReadyH.nil
        have xc := hS5.c
        have xz := hS5.fz
        rw [if_pos (by rfl)]
        go_simp
        refine hK.out _ _ (b5.setCell (by show w.heap.size ≤ w.heap.size + 1 + 1; omega) _) (fun _ => ?_)
        clear hK K'
        refine wpAnyH_done (by kernel_rfl) ?_ _
        clear xc xz
        go_wp2_with fail
        exact ⟨⟨n + 1, _, _, by go_num, by omega, by rw [HW.out]; exact hR5.far (by omega) _, hS5.set _, hQ5.far (by omega) _, b5.setCell (by show w.heap.size ≤ w.heap.size + 1 + 1; omega) _⟩, by simp [intOf]; omega⟩
      · refine step_goV (by rfl) (some 16) rfl 61 #[.tmp 15] _ rfl #[.slice a' t.length c'] (by simp [Act.eval]) (fun _ _ => rfl) CN ?_
        rintro e w4 ⟨v4, rfl, ho4, hb4⟩
        obtain ⟨a4, c4, rfl, b4, hS4, hR4⟩ := F4.out w4 v4 ho4 hb4
        refine ⟨_, rfl, ?_⟩
        simp only [Act.put, List.setIfInBounds_toArray, List.set_cons_zero, List.set_cons_succ]
        refine hK.out _ _ (hbel.trans (b4.mono hbel.size)) (fun hH4 => ?_)
        clear hK K'
        have hS4a := hS4.bl' (below1 w4 (.cells #[.slice a4 t.length c4] 70))
        have S4a : Below w.heap.size w (w4.alloc (.cells #[.slice a4 t.length c4] 70)) := hH4.alloc hH4.size _
        refine wpAnyH_ready (rs := [1, 4]) (by kernel_rfl) (by simp) ?_
        refine AllReadyH.cons rfl (fun K' hK => ?_) (AllReadyH.cons rfl (fun K' hK => ?_) AllReadyH.nil)
        · have xx := hS4.c
          rw [if_pos (by rfl)]
          go_simp
          refine hK.out _ _ hH4 (fun _ => ?_)
          clear hK K' xx
          refine wpAnyH_ready (rs := [4]) (by kernel_rfl) (by simp) ?_
          refine AllReadyH.cons rfl (fun K' hK => ?_) AllReadyH.nil
          rw [if_pos (by rfl)]
          go_simp
          refine hK.out _ _ S4a (fun _ => ?_)
          clear hK K'
          refine wpAnyH_ready (rs := [5]) (by kernel_rfl) (by simp) ?_
          refine AllReadyH.cons rfl (fun K' hK => ?_) AllReadyH.nil
          refine step_append_lies _ (by rfl) (.tmp 14) (.tmp 17) 23 (by rfl) (w.heap.size + 3) 70 i0 _ 1 24 Try.underlying23 hi hz0 hz1 hz2 rfl (by decide) (.slice av mm.length cv) mm.length vs (by rfl) ((hR4.b.outer).alloc _) ⟨w4.heap.size, 0, none⟩ 1 1 [.slice a4 t.length c4] (by rfl) (by rfl) (World.news_of_block (cs := #[.slice a4 t.length c4]) (t := 70) (fr := (0, 0)) (heap_alloc_new w4 _)) (by simp [Value.oneCell']) (by omega) (by unfold maxLen; omega) (by omega) (by have := b4.size; simp; omega) (w4.heap.size + 1) (by simp) ?_
          intro g5 cap5 w5 hown5 hg5 hat5 hlt5
          obtain ⟨b5, hS5, hQ5, hR5⟩ := F5.out w4 a4 c4 b4 ho4 g5 cap5 w5 hown5 hg5
          simp only [Act.put, List.setIfInBounds_toArray, List.set_cons_zero, List.set_cons_succ]
          refine hK.out _ _ b5 (fun hH5 => ?_)
          clear hK K'
          refine takeD 6 (some 19) (.pointer (some ⟨w.heap.size + 1 + 1, 0, none⟩)) hH5 rfl rfl (by kernel_rfl) (by kernel_rfl) (by kernel_rfl) (fun _ _ _ h => h) (Or.inl ⟨by rfl, by intro w' hSw; go_simp⟩) ?_
          simp only [Act.put, List.setIfInBounds_toArray, List.set_cons_zero, List.set_cons_succ]
          refine wpAnyH_ready (rs := [7]) (by kernel_rfl) (by simp) ?_
          refine AllReadyH.cons rfl (fun K' hK => ?_) AllReadyH.nil
          have xc := hS5.c
          have xz := hS5.fz
          rw [if_pos (by rfl)]
          go_simp
          refine hK.out _ _ (b5.setCell (by show w.heap.size ≤ w.heap.size + 1 + 1; omega) _) (fun _ => ?_)
          clear hK K'
          refine wpAnyH_done (by kernel_rfl) ?_ _
          clear xc xz
          go_wp2_with fail
          exact ⟨⟨n + 1, _, _, by go_num, by omega, by rw [HW.out]; exact hR5.far (by omega) _, hS5.set _, hQ5.far (by omega) _, b5.setCell (by show w.heap.size ≤ w.heap.size + 1 + 1; omega) _⟩, by simp [intOf]; omega⟩
        · rw [if_pos (by rfl)]
          go_simp
          refine hK.out _ _ S4a (fun _ => ?_)
          clear hK K'
          refine wpAnyH_ready (rs := [1]) (by kernel_rfl) (by simp) ?_
          refine AllReadyH.cons rfl (fun K' hK => ?_) AllReadyH.nil
          have xx := hS4a.c
          rw [if_pos (by rfl)]
          go_simp
          refine hK.out _ _ S4a (fun _ => ?_)
          clear hK K' xx
          refine wpAnyH_ready (rs := [5]) (by kernel_rfl) (by simp) ?_
          refine AllReadyH.cons rfl (fun K' hK => ?_) AllReadyH.nil
          refine step_append_lies _ (by rfl) (.tmp 14) (.tmp 17) 23 (by rfl) (w.heap.size + 3) 70 i0 _ 1 24 Try.underlying23 hi hz0 hz1 hz2 rfl (by decide) (.slice av mm.length cv) mm.length vs (by rfl) ((hR4.b.outer).alloc _) ⟨w4.heap.size, 0, none⟩ 1 1 [.slice a4 t.length c4] (by rfl) (by rfl) (World.news_of_block (cs := #[.slice a4 t.length c4]) (t := 70) (fr := (0, 0)) (heap_alloc_new w4 _)) (by simp [Value.oneCell']) (by omega) (by unfold maxLen; omega) (by omega) (by have := b4.size; simp; omega) (w4.heap.size + 1) (by simp) ?_
          intro g5 cap5 w5 hown5 hg5 hat5 hlt5
          obtain ⟨b5, hS5, hQ5, hR5⟩ := F5.out w4 a4 c4 b4 ho4 g5 cap5 w5 hown5 hg5
          simp only [Act.put, List.setIfInBounds_toArray, List.set_cons_zero, List.set_cons_succ]
          refine hK.out _ _ b5 (fun hH5 => ?_)
          clear hK K'
          refine takeD 6 (some 19) (.pointer (some ⟨w.heap.size + 1 + 1, 0, none⟩)) hH5 rfl rfl (by kernel_rfl) (by kernel_rfl) (by kernel_rfl) (fun _ _ _ h => h) (Or.inl ⟨by rfl, by intro w' hSw; go_simp⟩) ?_
          simp only [Act.put, List.setIfInBounds_toArray, List.set_cons_zero, List.set_cons_succ]
          refine wpAnyH_ready (rs := [7]) (by kernel_rfl) (by simp) ?_
          refine AllReadyH.cons rfl (fun K' hK => ?_) AllReadyH.nil
          have xc := hS5.c
          have xz := hS5.fz
          rw [if_pos (by rfl)]
          go_simp
          refine hK.out _ _ (b5.setCell (by show w.heap.size ≤ w.heap.size + 1 + 1; omega) _) (fun _ => ?_)
          clear hK K'
          refine wpAnyH_done (by kernel_rfl) ?_ _
          clear xc xz
          go_wp2_with fail
          exact ⟨⟨n + 1, _, _, by go_num, by omega, by rw [HW.out]; exact hR5.far (by omega) _, hS5.set _, hQ5.far (by omega) _, b5.setCell (by show w.heap.size ≤ w.heap.size + 1 + 1; omega) _⟩, by simp [intOf]; omega⟩
    · have htk : ll.take n = ll := List.take_of_length_le (by omega)
      rw [htk] at hR
      obtain ⟨av, gv, cv, rfl, _⟩ := hR.b.ss
      have hkn' : ¬ (n : Int) < ll.length := by omega
      have p0 := hP.c
      have pf := hP.fz
      have q0 := hQ.c
      have qf := hQ.fz
      have lP := hP.lt
      have lQ := hQ.lt
      have hne : w.heap.size + 1 ≠ w.heap.size + 1 + 1 := by omega
      go_wp2_with fail
      have q1 := (hQ.set (.slice av ll.length cv)).c
      exact bodyPost_ret (v := .agg #[.slice av ll.length cv]) (by simp [results, Try.results38, go_sem, q1]) rfl ⟨_, rfl, ⟨vs, (hR.far (by omega) _).mono (by omega)⟩, hbel.setCell (by show w.heap.size ≤ w.heap.size + 1; omega) _⟩

end Go.Proofs.Ytflmejjhnkpodaa

namespace Go.Proofs.Ytflmejjhnkpodaa
open Go.RowKit

theorem nums_cells {w : World} {b o : Nat} {l : List Int} {sa : Option Addr} (h : IntS w sa b o l) : ∀ (j : Nat) (u : Value), (nums l)[j]? = some u → w.cell? ((⟨b, o, none⟩ : Addr).add j) = some u := by
  intro j u hj
  have hjl : j < l.length := by
    have := (List.getElem?_eq_some_iff.1 hj).1
    simpa [nums] using this
  rw [Go.WideShapes.add_plain, h.row j hjl]
  simpa [nums, hjl] using hj
theorem nums_one (l : List Int) : ∀ u ∈ nums l, u.oneCell' = true := by intro u hu; simp [nums] at hu; obtain ⟨_, _, rfl⟩ := hu; rfl

set_option maxHeartbeats 1000000 in
set_option maxRecDepth 100000 in
theorem newListO_any (a : Option Addr) (b o c : Nat) (l : List Int) (w : World) (hl : l.length ≤ 1048576) (h : IntS w a b o l) :
    Calls Try.prog 34 #[.slice a l.length c] w fun e w' => ∃ v, e = .returned v ∧ w'.ownsRow w.heap.size 3 1 v l.length (nums l) ∧ Below w.heap.size w w' := by
  obtain ⟨i0, hi, hz0, hz1, hz2⟩ := info_parts Try.infoInt
  rcases Nat.eq_zero_or_pos l.length with h0 | hpos
  · have hl0 : l = [] := List.length_eq_zero_iff.1 h0
    subst hl0
    rw [List.length_nil]
    go_enter Try.func34, Try.ntmps34
    go_wp2_with (at_builtin; refine wpList_append_nilT rfl (.const (.slice none 0 0)) (.tmp 3) 26 rfl 3 i0 Try.underlying26 hi rfl a c rfl ?_)
    go_wp2_with fail
    go_ret
    exact ⟨_, rfl, World.ownsRow_nil _ _ _ _, Below.refl _ _⟩
  · obtain ⟨rfl⟩ := h.addr hpos
    go_enter Try.func34, Try.ntmps34
    go_wp2_with (at_builtin; refine wpList_append_lies _ rfl (.const (.slice none 0 0)) (.tmp 3) 26 rfl w.heap.size 3 i0 _ 1 8 Try.underlying26 hi hz0 hz1 hz2 rfl (by decide) _ 0 [] rfl (World.ownsRow_nil _ _ _ _) ⟨b, o, none⟩ l.length c (nums l) rfl (by simp [nums]) (nums_cells h) (nums_one l) hpos (by unfold maxLen; omega) (by omega) (Nat.le_refl _) w.heap.size rfl ?_)
    intro g cap w1 hown hg hat hlt
    have hb : Below w.heap.size w w1 := ⟨hg.os, hg.tape, hg.output, hg.size, fun k hk => hg.block k hk (fun e => by simp [Value.ownBlock] at e)⟩
    have hown' : w1.ownsRow w.heap.size 3 1 (.slice (some ⟨g, 0, none⟩) l.length cap) l.length (nums l) := by simpa using hown
    go_wp2_with fail
    go_ret
    exact ⟨_, by first | rfl | simp, hown', hb⟩


end Go.Proofs.Ytflmejjhnkpodaa

namespace Go.Proofs.Ytflmejjhnkpodaa
open Go.RowKit

/-- Values that are lists of numbers. -/
def Ixs (w : World) (vs : List Value) (rows : List (List Int)) : Prop := vs.length = rows.length ∧ ∀ i (h1 : i < rows.length) (h2 : i < vs.length), ∃ a' b' o' c', vs[i] = .slice a' rows[i].length c' ∧ IntS w a' b' o' rows[i]
/-- A value is a list of lists of numbers. -/
structure ISS (w : World) (a : Option Addr) (b o : Nat) (rows : List (List Int)) : Prop where
  addr : 0 < rows.length → a = some ⟨b, o, none⟩
  row : ∀ i (h : i < rows.length), ∃ a' b' o' c', w.cell? ⟨b, o + i, none⟩ = some (.slice a' rows[i].length c') ∧ IntS w a' b' o' rows[i]
theorem ISS.below {w w' : World} {a : Option Addr} {B b o : Nat} {rows : List (List Int)} (h : ISS w a b o rows) (hb : Below B w w') (hB : w.heap.size ≤ B) : ISS w' a b o rows :=
  ⟨h.addr, fun i hi => by
    obtain ⟨a', b', o', c', hc, hr⟩ := h.row i hi
    exact ⟨a', b', o', c', (hb.cell (p := ⟨b, o + i, none⟩) (Nat.lt_of_lt_of_le (World.block_lt_of_cell? _ _ hc) hB)).trans hc, hr.below hb hB⟩⟩
theorem Ixs.nil (w : World) : Ixs w [] [] := ⟨rfl, fun _ h => absurd h (Nat.not_lt_zero _)⟩
theorem Ixs.below {w w' : World} {vs : List Value} {rows : List (List Int)} {B : Nat} (h : Ixs w vs rows) (hb : Below B w w') (hB : w.heap.size ≤ B) : Ixs w' vs rows :=
  ⟨h.1, fun i h1 h2 => by obtain ⟨a', b', o', c', e, hd⟩ := h.2 i h1 h2; exact ⟨a', b', o', c', e, hd.below hb hB⟩⟩
theorem Ixs.snoc {w : World} {vs : List Value} {rows : List (List Int)} {a : Option Addr} {b o c : Nat} {l : List Int} (h : Ixs w vs rows) (hd : IntS w a b o l) : Ixs w (vs ++ [.slice a l.length c]) (rows ++ [l]) := by
  have hl := h.1
  refine ⟨by simp [hl], fun i h1 h2 => ?_⟩
  by_cases hi : i < rows.length
  · rw [List.getElem_append_left (by omega), List.getElem_append_left hi]
    exact h.2 i hi (by omega)
  · have : i = rows.length := by simp at h1; omega
    subst this
    have e1 : (rows ++ [l])[rows.length] = l := by simp
    have e2 : (vs ++ [Value.slice a l.length c])[rows.length] = .slice a l.length c := by
      rw [List.getElem_append_right (by omega)]
      simp [hl]
    rw [e1, e2]
    exact ⟨a, b, o, c, rfl, hd⟩
theorem Ixs.ss {w : World} {B : Nat} {v : Value} {vs : List Value} {rows : List (List Int)} (h : Ixs w vs rows) (ho : w.ownsRow B 26 1 v rows.length vs) : ∃ a g c, v = .slice a rows.length c ∧ ISS w a g 0 rows := by
  have hl := h.1
  rcases ho.2 with ⟨hv, hn⟩ | ⟨g, cap, cur, hv, hg, hh, r⟩
  · have : rows = [] := List.length_eq_zero_iff.1 hn
    subst this
    exact ⟨none, 0, 0, hv, ⟨fun h => absurd h (Nat.lt_irrefl _), fun i hi => absurd hi (Nat.not_lt_zero _)⟩⟩
  · refine ⟨_, g, cap, hv, ⟨fun _ => rfl, fun i hi => ?_⟩⟩
    have hc := ho.cells (g := g) (by rw [hv]; rfl) i vs[i] (List.getElem?_eq_getElem (by omega))
    rw [Go.WideShapes.add_plain] at hc
    obtain ⟨a', b', o', c', e, hd⟩ := h.2 i hi (by omega)
    rw [e] at hc
    exact ⟨a', b', o', c', hc, hd⟩
theorem Try.infoIs : (Try.prog.info? 26).map (fun i => (i.zero, i.size, i.bytes)) = some (some (.slice none 0 0), 1, 24) := by kernel_rfl


set_option maxHeartbeats 1000000 in
set_option maxRecDepth 100000 in
theorem growI_any (n : Nat) (w : World) (hn : n ≤ 1000) :
    Calls Try.prog 58 #[.slice none 0 0, .int .i64 n] w fun e w' => ∃ v, e = .returned v ∧ w'.ownsRow w.heap.size 3 1 v 0 [] ∧ Below w.heap.size w w' := by
  obtain ⟨i0, hi, hz0, hz1, hz2⟩ := info_parts Try.infoInt
  have h1 : ¬ ((n : Int) < 0) := by omega
  rcases Nat.eq_zero_or_pos n with h0 | hpos
  · subst h0
    go_enter Try.func58, Try.ntmps58
    go_wp2_with fail
    go_ret
    exact ⟨_, rfl, World.ownsRow_nil _ _ _ _, Below.refl _ _⟩
  · have h4 : (0 : Int) < n := by omega
    have hrz : ∀ ty, (Builtin.append_ #[26, 3] ty #[.slice none 0 0, .int .i64 n]).run Try.prog w = .ok (.slice (some ⟨w.heap.size, 0, none⟩) n (grownCap w n 0 3)) (w.drew.alloc (.cells (#[] ++ Builtin.zeroCells (Value.int .i64 0).cells n ++ Builtin.zeroCells (Value.int .i64 0).cells (grownCap w n 0 3 - n)) 3)) := fun ty => by
      have h := Lib.run_append_grow_zeros (P := Try.prog) w 26 3 ty 3 i0 (.int .i64 0) .i64 .i64 Try.underlying26 Try.underlying3 hi hz0 none 0 0 [] (run_firstCells_none w.drew i0.size 0 0 0) n hpos (by rw [hz1]; decide) (by omega) (by omega) (by rw [hz2]; omega) (by rw [hz2]; simp [Builtin.nextslicecap, hpos]; omega)
      simpa using h
    have hG : n ≤ grownCap w n 0 3 := grownCap_ge w _ _ _
    have hG2 := grownCap_le_maxLen w n 0 3 (by unfold maxLen; omega)
    generalize grownCap w n 0 3 = G at *
    have hsz : (#[] ++ Builtin.zeroCells (Value.int .i64 0).cells n ++ Builtin.zeroCells (Value.int .i64 0).cells (G - n)).size = G * 1 := by
      simp [Builtin.zeroCells, Value.cells]; omega
    generalize #[] ++ Builtin.zeroCells (Value.int .i64 0).cells n ++ Builtin.zeroCells (Value.int .i64 0).cells (G - n) = Z at *
    have hG3 : (G : Int) ≤ 9223372036854775807 := by unfold maxLen at hG2; omega
    go_enter Try.func58, Try.ntmps58
    go_wp2_with (at_builtin; refine Lib.wpList_append_run _ rfl _ _ _ _ rfl _ _ rfl rfl _ _ (hrz _) ?_)
    go_ret
    exact ⟨_, rfl, World.ownsRow_made w.drew Z G (Nat.le_refl _) hG2 hsz, (Below.refl w.heap.size w).drew.alloc (Nat.le_refl _) _⟩

set_option maxHeartbeats 2000000 in
set_option maxRecDepth 100000 in
theorem concatI_any (a : Option Addr) (b o c : Nat) (rows : List (List Int)) (w : World) (hl : rows.length ≤ 1000) (hs : M.lens rows ≤ 1000) (h : ISS w a b o rows) :
    Calls Try.prog 33 #[.slice a rows.length c] w fun e w' => ∃ v, e = .returned v ∧ w'.ownsRow w.heap.size 3 1 v (M.lens rows) (nums rows.flatten) ∧ Below w.heap.size w w' := by
  obtain ⟨i0, hi, hz0, hz1, hz2⟩ := info_parts Try.infoInt
  have hle : ∀ n, M.lens (rows.take n) ≤ M.lens rows := fun n => by
    have app : ∀ a b : List (List Int), M.lens (a ++ b) = M.lens a + M.lens b := fun a b => by
      induction a with
      | nil => simp [M.lens]
      | cons x a ih => simp only [List.cons_append, M.lens, ih]; omega
    have := app (rows.take n) (rows.drop n)
    rw [List.take_append_drop] at this
    omega
  go_enter Try.func33, Try.ntmps33
  go_wp2_with fail
  go_loopw [3, 11] (fun s3 s11 wr => ∃ n : Nat, s11 = .int .i64 n ∧ n ≤ rows.length ∧ s3 = .int .i64 (M.lens (rows.take n) : Nat) ∧ wr = w) (fun _ s11 _ => rows.length - (intOf s11).toNat)
  case atStart => exact ⟨0, rfl, Nat.zero_le _, rfl, rfl⟩
  case round =>
    obtain ⟨n, rfl, hn, rfl, rfl⟩ := hrel
    by_cases hlt : n < rows.length
    · obtain ⟨rfl⟩ := h.addr (by omega)
      obtain ⟨a', b', o', c', hc, hd⟩ := h.row n hlt
      have HT : Hid (M.lens (rows.take (n + 1)) = M.lens (rows.take n) + rows[n].length) := M.lens_take rows n hlt
      have hb1 := hle (n + 1)
      rw [HT.out] at hb1
      generalize rows[n] = r at *
      generalize M.lens (rows.take n) = T at *
      have i1 : (n : Int) < rows.length := by omega
      have hge : ¬ ((T : Int) + r.length < 0) := by omega
      go_wp2_with fail
      exact ⟨⟨n + 1, by go_num, by omega, by rw [HT.out]; go_num, trivial⟩, by simp [intOf]; omega⟩
    · have i1 : ¬ (n : Int) < rows.length := by omega
      have hT := hle n
      generalize M.lens (rows.take n) = T at *
      go_wp2_with fail
      refine (growI_any T wr (by omega)).mono ?_
      rintro e w1 ⟨v1, rfl, hown1, b1⟩
      go_wp2_with fail
      obtain ⟨wo, hwo⟩ : ∃ wo, wo = wr := ⟨_, rfl⟩
      subst hwo
      go_loopw [6, 27] (fun s6 s27 wi => ∃ n : Nat, s27 = .int .i64 n ∧ n ≤ rows.length ∧ wi.ownsRow wo.heap.size 3 1 s6 (rows.take n).flatten.length (nums (rows.take n).flatten) ∧ Below wo.heap.size wo wi) (fun _ s27 _ => rows.length - (intOf s27).toNat)
      case atStart => exact ⟨0, rfl, Nat.zero_le _, hown1, b1⟩
      case round =>
        obtain ⟨k, rfl, hk, hown, hbel⟩ := hrel
        have hbs := hbel.size
        by_cases hkt : k < rows.length
        · obtain ⟨rfl⟩ := h.addr (by omega)
          obtain ⟨a', b', o', c', hc0, hd⟩ := h.row k hkt
          have hc := (hbel.cell (p := ⟨b, o + k, none⟩) (World.block_lt_of_cell? _ _ hc0)).trans hc0
          have HF : Hid ((rows.take (k + 1)).flatten = (rows.take k).flatten ++ rows[k]) := M.flat_take rows k hkt
          have hfl : (rows.take (k + 1)).flatten.length ≤ 1000 := by rw [M.lens_flat]; have := hle (k + 1); omega
          rw [HF.out, List.length_append] at hfl
          generalize rows[k] = r at *
          generalize (rows.take k).flatten = fl at *
          have i2 : (k : Int) < rows.length := by omega
          clear hc0
          rcases Nat.eq_zero_or_pos r.length with hz | hz
          · have hZ : Hid (r.length = 0) := hz
            clear hz
            go_wp2_with (at_builtin; refine wpList_append_zero rfl (.tmp 31) (.tmp 32) 26 rfl (some 33) rfl 3 i0 Try.underlying26 hi rfl hown a' r.length c' hZ.out rfl ?_)
            go_wp2_with fail
            have hr0 : r = [] := List.length_eq_zero_iff.1 hZ.out
            exact ⟨⟨k + 1, by go_num, by omega, by rw [HF.out, hr0, List.append_nil]; exact hown, hbel⟩, by simp [intOf]; omega⟩
          · obtain ⟨rfl⟩ := hd.addr hz
            go_wp2_with (at_builtin; refine wpList_append_own _ rfl (.tmp 31) (.tmp 32) 26 rfl _ 3 i0 _ 1 8 Try.underlying26 hi hz0 hz1 hz2 rfl (by decide) _ _ _ rfl hown ⟨b', o', none⟩ r.length c' (nums r) rfl (by simp [nums]) (nums_cells (hd.below hbel (Nat.le_refl _))) (nums_one r) (by unfold maxLen; omega) (by omega) (by omega) ?_)
            intro v3 w3 hown3 hg3 _
            have hb3 : Below _ _ w3 := below_grown hbel hg3 (own_ge hown) hbel.size
            have hown4 : w3.ownsRow wo.heap.size 3 1 v3 (rows.take (k + 1)).flatten.length (nums (rows.take (k + 1)).flatten) := by rw [HF.out, List.length_append, show nums (fl ++ r) = nums fl ++ nums r from by simp [nums]]; exact hown3
            clear hown3 hg3 hown
            go_wp2_with fail
            exact ⟨⟨k + 1, by go_num, by omega, hown4, hb3⟩, by simp [intOf]; omega⟩
        · have i2 : ¬ (k : Int) < rows.length := by omega
          rw [List.take_of_length_le (show rows.length ≤ k by omega)] at hown
          go_wp2_with fail
          go_ret
          exact ⟨u6, rfl, by rw [← M.lens_flat]; exact hown, hbel⟩

set_option maxHeartbeats 1000000 in
set_option maxRecDepth 100000 in
theorem turnS_any (a : Option Addr) (b o c : Nat) (row : List Int) (a2 : Option Addr) (b2 o2 c2 : Nat) (rows : List (List Int)) (w : World) (hl : row.length ≤ 1048576) (hl2 : rows.length ≤ 1000) (h : IntS w a b o row) (h2 : ISS w a2 b2 o2 rows) :
    Calls Try.prog 31 #[.slice a row.length c, .slice a2 rows.length c2] w fun e w' => ∃ v, e = .returned (.tuple #[v, .bool (M.rowN row rows.length)]) ∧ (∃ a', (∃ c', v = .slice a' (M.turned [] row rows).length c') ∧ ∃ g', ISS w' a' g' 0 (M.turned [] row rows)) ∧ Below w.heap.size w w' := by
  obtain ⟨i0, hi, hz0, hz1, hz2⟩ := info_parts Try.infoIs
  go_enter Try.func31, Try.ntmps31
  go_wp2_with fail
  refine (numbersBelow_any rows.length w hl2).mono ?_
  rintro e w1 ⟨v1, rfl, hown1, b1⟩
  obtain ⟨a1, g1, c1, rfl, hI1, _, _⟩ := own_nums hown1
  have hbl : (M.bel rows.length).length ≤ 1048576 := by rw [M.bel_len]; omega
  have CR := rowOf_any a b o c row a1 g1 0 c1 (M.bel rows.length) w1 hl hbl (h.below b1 (Nat.le_refl _)) hI1
  change Calls _ _ _ _ (fun e w' => e = .returned (.bool (M.rowN row rows.length)) ∧ _) at CR
  clear hown1 hI1 hbl
  generalize (M.bel rows.length).length = bl at *
  cases hr : M.rowN row rows.length
  · rw [hr] at CR
    go_wp2_with (first | (go_at_call 54; refine CR.mono ?_; rintro e w2 ⟨rfl, rfl⟩))
    exact bodyPost_ret (v := .tuple #[.slice none 0 0, .bool false]) (by simp [results, Try.results31, go_sem]) rfl ⟨_, by rw [hr], ⟨none, ⟨0, by rw [M.turned_no hr, List.length_nil]⟩, 0, by rw [M.turned_no hr]; exact ⟨fun h => absurd h (Nat.lt_irrefl _), fun i hi => absurd hi (Nat.not_lt_zero _)⟩⟩, b1⟩
  · rw [hr] at CR
    have HR : Hid (M.rowN row rows.length = true) := hr
    clear hr
    go_wp2_with (first | (go_at_call 54; refine CR.mono ?_; rintro e w2 ⟨rfl, rfl⟩))
    go_loopw [6, 17] (fun s6 s17 wr => ∃ (k : Nat) (vs : List Value), s17 = .int .i64 k ∧ k ≤ row.length ∧ wr.ownsRow w.heap.size 26 1 s6 (M.pick [] (row.take k) rows).length vs ∧ Ixs w vs (M.pick [] (row.take k) rows) ∧ Below w.heap.size w wr) (fun _ s17 _ => row.length - (intOf s17).toNat)
    case atStart => exact ⟨0, [], rfl, Nat.zero_le _, World.ownsRow_nil _ _ _ _, Ixs.nil _, b1⟩
    case round =>
      obtain ⟨k, vs, rfl, hk, hown, hT, hbel⟩ := hrel
      by_cases hkn : k < row.length
      · have hkn' : (k : Int) < row.length := by omega
        obtain ⟨rfl⟩ := h.addr (by omega)
        have x1 := (h.below hbel (Nat.le_refl _)).row k hkn
        have HB : Hid (M.pick [] (row.take (k + 1)) rows = M.pick [] (row.take k) rows ++ [rows.getD row[k].toNat []]) := M.pick_take [] row rows k hkn
        obtain ⟨r0, r1⟩ := M.rowN_get HR.out k hkn
        obtain ⟨rfl⟩ := h2.addr (by omega)
        generalize row[k] = y at *
        obtain ⟨j, rfl⟩ : ∃ j : Nat, y = j := ⟨y.toNat, by omega⟩
        have hj : j < rows.length := by omega
        obtain ⟨a', b', o', c', hc, hd⟩ := h2.row j hj
        have x2 := (hbel.cell (p := ⟨b2, o2 + j, none⟩) (World.block_lt_of_cell? _ _ hc)).trans hc
        have HB2 : Hid (M.pick [] (row.take (k + 1)) rows = M.pick [] (row.take k) rows ++ [rows[j]]) := by show _ = _; rw [HB.out]; congr 2; exact M.getD_get hj
        clear HB hc
        have hpl : (M.pick [] (row.take k) rows).length ≤ 1048576 := by rw [M.pick_len]; simp; omega
        have hbs := hbel.size
        generalize rows[j] = z at *
        generalize M.pick [] (row.take k) rows = m at *
        go_wp2_with (at_builtin; refine wpList_append_own _ rfl (.tmp 21) (.tmp 26) 60 rfl _ 26 i0 _ 1 24 Try.underlying60 hi hz0 hz1 hz2 rfl (by decide) _ _ _ rfl (hown.alloc _) ⟨wr.heap.size, 0, none⟩ 1 1 [.slice a' z.length c'] rfl rfl (cells_new1 _ _ _ _ (by simp)) (by simp [Value.oneCell']) (by unfold maxLen; omega) (by omega) (by simp; omega) ?_)
        intro v3 w3 hown3 hg3 _
        have hb3 : Below _ _ w3 := below_grown (hbel.trans ((below1 wr _).mono hbel.size)) hg3 (own_ge hown) (by simp; omega)
        have hown4 : w3.ownsRow w.heap.size 26 1 v3 (M.pick [] (row.take (k + 1)) rows).length (vs ++ [.slice a' z.length c']) := by rw [HB2.out, List.length_append]; exact hown3
        have hT4 : Ixs w (vs ++ [.slice a' z.length c']) (M.pick [] (row.take (k + 1)) rows) := by rw [HB2.out]; exact hT.snoc hd
        clear hown3 hg3 hown
        go_wp2_with fail
        exact ⟨⟨k + 1, _, by go_num, by omega, hown4, hT4, hb3⟩, by simp [intOf]; omega⟩
      · have htk : row.take k = row := List.take_of_length_le (by omega)
        rw [htk] at hown hT
        have hkn' : ¬ (k : Int) < row.length := by omega
        obtain ⟨a', g', c', rfl, hs⟩ := (hT.below hbel (Nat.le_refl _)).ss hown
        go_wp2_with fail
        exact bodyPost_ret (v := .tuple #[.slice a' (M.pick [] row rows).length c', .bool true]) (by simp [results, Try.results31, go_sem]) rfl ⟨_, by rw [HR.out], ⟨a', ⟨c', by rw [M.turned_yes HR.out]⟩, g', by rw [M.turned_yes HR.out]; exact hs⟩, hbel⟩

set_option maxHeartbeats 2000000 in
set_option maxRecDepth 100000 in
theorem readsBy_any (a : Option Addr) (b o c : Nat) (ll : List (List M.D)) (ra : Option Addr) (rb ro rc : Nat) (l : List Int) (w : World) (h3 : ll.length ≤ 3) (h7 : ∀ t ∈ ll, t.length ≤ 7) (hl : l.length = M.tot M.reads ll) (hlc : l.length ≤ rc) (h : DoSS w a b o ll) (hI : IntS w ra rb ro l) :
    Calls Try.prog 32 #[.agg #[.slice a ll.length c], .slice ra l.length rc] w fun e w' => ∃ v, e = .returned v ∧ (∃ a', (∃ c', v = .slice a' (M.parts ll l).length c') ∧ ∃ g', ISS w' a' g' 0 (M.parts ll l)) ∧ Below w.heap.size w w' := by
  obtain ⟨i0, hi, hz0, hz1, hz2⟩ := info_parts Try.infoIs
  go_enter Try.func32, Try.ntmps32
  go_wp2_with fail
  go_loopw [1, 5, 12] (fun s1 s5 s12 wr => ∃ (n : Nat) (vs : List Value) (a' : Option Addr) (o' c' : Nat), s12 = .int .i64 n ∧ n ≤ ll.length ∧ s1 = .slice a' (l.drop (M.tot M.reads (ll.take n))).length c' ∧ (l.drop (M.tot M.reads (ll.take n))).length ≤ c' ∧ IntS w a' rb o' (l.drop (M.tot M.reads (ll.take n))) ∧ wr.ownsRow w.heap.size 26 1 s5 ((M.parts ll l).take n).length vs ∧ Ixs w vs ((M.parts ll l).take n) ∧ Below w.heap.size w wr) (fun _ _ s12 _ => ll.length - (intOf s12).toNat)
  case atStart => exact ⟨0, [], ra, ro, rc, rfl, Nat.zero_le _, by simp [M.tot], by simpa [M.tot] using hlc, by simpa [M.tot] using hI, World.ownsRow_nil _ _ _ _, Ixs.nil _, below1 _ _⟩
  case round =>
    obtain ⟨n, vs, a', o', c', rfl, hn, rfl, hcap, hI', hown, hT, hbel⟩ := hrel
    have hbs := hbel.size
    by_cases hlt : n < ll.length
    · obtain ⟨rfl⟩ := h.addr (by omega)
      obtain ⟨ta, tb, to_, tc, hc0, hd0⟩ := h.row n hlt
      have hc := (hbel.cell (p := ⟨b, o + n, none⟩) (World.block_lt_of_cell? _ _ hc0)).trans hc0
      have hd := hd0.below hbel (Nat.le_refl _)
      have hpl : n < (M.parts ll l).length := by rw [M.parts_len]; exact hlt
      have HP : Hid ((M.parts ll l).take (n + 1) = (M.parts ll l).take n ++ [(l.drop (M.tot M.reads (ll.take n))).take (M.cnt M.reads ll[n])]) := by show _ = _; rw [List.take_succ_eq_append_getElem hpl, M.parts_get ll l n hlt]
      have HD : Hid (l.drop (M.tot M.reads (ll.take (n + 1))) = (l.drop (M.tot M.reads (ll.take n))).drop (M.cnt M.reads ll[n])) := by show _ = _; rw [M.tot_take M.reads ll n hlt, List.drop_drop]
      have hcn : M.cnt M.reads ll[n] ≤ (l.drop (M.tot M.reads (ll.take n))).length := by
        have h1 := M.tot_take_le M.reads ll (n + 1)
        rw [M.tot_take M.reads ll n hlt] at h1
        rw [List.length_drop]; omega
      have ht7 := h7 _ (List.getElem_mem hlt)
      have hpn : ((M.parts ll l).take n).length ≤ 3 := by simp [M.parts_len]; omega
      generalize l.drop (M.tot M.reads (ll.take n)) = lr at *
      have C := cntReads_any ta tb to_ tc ll[n] wr (by omega) hd
      generalize ll[n] = t at *
      generalize M.cnt M.reads t = m at *
      obtain ⟨pr, hpr⟩ : ∃ pr, lr.take m = pr := ⟨_, rfl⟩
      have hprl : pr.length = m := by rw [← hpr]; simp; omega
      have hIp : IntS w a' rb o' pr := ⟨fun hp => hI'.addr (by omega), fun i hi => by
        have hi' : i < lr.length := by omega
        have := hI'.row i hi'
        have e : pr[i] = lr[i] := by simp only [← hpr, List.getElem_take]
        rw [e]; exact this⟩
      have HPr : Hid ((M.parts ll l).take (n + 1) = (M.parts ll l).take n ++ [pr]) := by show _ = _; rw [HP.out, hpr]
      have hId : IntS w (if c' = m then a' else Option.map (fun x => x.add m) a') rb (o' + m) (lr.drop m) := ⟨fun hp => by
        rw [List.length_drop] at hp
        rw [if_neg (by omega), hI'.addr (by omega)]
        show some ((⟨rb, o', none⟩ : Addr).add m) = _
        rw [Go.WideShapes.add_plain], fun i hi => by
        rw [List.length_drop] at hi
        have := hI'.row (m + i) (by omega)
        rw [List.getElem_drop, Nat.add_assoc]; exact this⟩
      have hdl : (lr.drop m).length = lr.length - m := List.length_drop
      have hI'' : Hid (IntS w (if c' = m then a' else Option.map (fun x => x.add m) a') rb (o' + m) (lr.drop m)) := hId
      clear hId hpr HP hI' hc0 hd0
      have hmc : (m : Int) ≤ c' := by omega
      have hml : (m : Int) ≤ lr.length := by omega
      have i1 : (n : Int) < ll.length := by omega
      go_wp2_with fail
      refine C.mono ?_
      rintro e w1 ⟨rfl, b1⟩
      have hown1 := ownsRow_below hown b1
      have hb1 := hbel.trans (b1.mono hbel.size)
      have hbs1 := hb1.size
      go_wp2_with (at_builtin; refine wpList_append_own _ rfl (.tmp 18) (.tmp 22) 60 rfl _ 26 i0 _ 1 24 Try.underlying60 hi hz0 hz1 hz2 rfl (by decide) _ _ _ rfl (hown1.alloc _) ⟨w1.heap.size, 0, none⟩ 1 1 [.slice a' m c'] rfl rfl (cells_new1 _ _ _ _ (by simp)) (by simp [Value.oneCell']) (by unfold maxLen; omega) (by omega) (by simp; omega) ?_)
      intro v3 w3 hown3 hg3 _
      have hb3 : Below _ _ w3 := below_grown (hb1.trans ((below1 w1 _).mono hb1.size)) hg3 (own_ge hown1) (by simp; omega)
      have hown4 : w3.ownsRow w.heap.size 26 1 v3 ((M.parts ll l).take (n + 1)).length (vs ++ [.slice a' pr.length c']) := by rw [HPr.out, List.length_append, List.length_take, hprl]; exact hown3
      have hT4 : Ixs w (vs ++ [.slice a' pr.length c']) ((M.parts ll l).take (n + 1)) := by rw [HPr.out]; exact hT.snoc hIp
      clear hown3 hg3 hown hown1
      go_wp2_with fail
      exact ⟨⟨n + 1, _, _, o' + m, c' - m, by go_num, by omega, by rw [HD.out, hdl], by rw [HD.out, hdl]; omega, by rw [HD.out]; exact hI''.out, hown4, hT4, hb3⟩, by simp [intOf]; omega⟩
    · have i1 : ¬ (n : Int) < ll.length := by omega
      rw [List.take_of_length_le (show (M.parts ll l).length ≤ n by rw [M.parts_len]; omega)] at hown hT
      obtain ⟨av, gv, cv, rfl, hs⟩ := (hT.below hbel (Nat.le_refl _)).ss hown
      go_wp2_with fail
      go_ret
      exact ⟨_, rfl, ⟨av, ⟨cv, rfl⟩, gv, hs⟩, hbel⟩

end Go.Proofs.Ytflmejjhnkpodaa

namespace Go.Proofs.Ytflmejjhnkpodaa
open Go.RowKit

theorem M.lens_pick (row : List Int) (n : Nat) (rows : List (List Int)) (h : ∀ r ∈ rows, r.length ≤ n) : M.lens (M.pick [] row rows) ≤ n * row.length := by
  induction row with
  | nil => simp [M.pick, M.lens]
  | cons i row ih =>
    have h1 : (rows.getD i.toNat []).length ≤ n := by
      by_cases hi : i.toNat < rows.length
      · rw [M.getD_get hi]; exact h _ (List.getElem_mem hi)
      · rw [List.getD_eq_getElem?_getD, List.getElem?_eq_none (by omega)]; simp
    have : M.lens (M.pick [] (i :: row) rows) = (rows.getD i.toNat []).length + M.lens (M.pick [] row rows) := rfl
    rw [this, List.length_cons, Nat.mul_add]
    omega
theorem M.parts_small (ll : List (List M.D)) : ∀ l, ∀ r ∈ M.parts ll l, r.length ≤ l.length := by
  induction ll with
  | nil => intro l r hr; cases hr
  | cons t ll ih =>
    intro l r hr
    simp only [M.parts, List.mem_cons] at hr
    rcases hr with rfl | hr
    · rw [List.length_take]; omega
    · have := ih _ r hr
      rw [List.length_drop] at this
      omega

theorem Slot2.bel2 {w w' : World} {b : Nat} {x y : Value} (h : Slot2 w b x y) (hb : Below w.heap.size w w') : Slot2 w' b x y := h.of (hb.block b h.lt)
/-- What is answered: two lists in rows of the call's own, apart. -/
structure TsAns (w w' : World) (v1 v2 : Value) (r1 r2 : List Int) : Prop where
  o1 : w'.ownsRow w.heap.size 3 1 v1 r1.length (nums r1)
  o2 : w'.ownsRow w.heap.size 3 1 v2 r2.length (nums r2)
  ap : ∀ k, v1.ownBlock = some k → v2.ownBlock ≠ some k
  bel : Below w.heap.size w w'

set_option maxHeartbeats 2000000 in
set_option maxRecDepth 100000 in
set_option linter.unusedSimpArgs false in
theorem iturnSeen_any (a : Option Addr) (b o c : Nat) (ll : List (List M.D)) (hl : ll.length ≤ 1048576) (hls : ∀ t ∈ ll, t.length ≤ 1048576) (s : Sn) (hs : s.Le 1048576) (hcap : s.l1.length ≤ s.c1) (ga : Option Addr) (gb go gc : Nat) (gs : List Int) (hgl : gs.length ≤ 1048576) (w : World) (h : DoSS w a b o ll) (sa : s.At w) (hG : IntS w ga gb go gs) :
    Calls Try.prog 7 #[.agg #[.slice a ll.length c], .agg #[.slice s.a1 s.l1.length s.c1, .slice s.a2 s.l2.length s.c2], .slice ga gs.length gc] w fun e w' => ∃ v1 v2, e = .returned (.tuple #[.agg #[v1, v2], .bool (M.turnSeen ll s.l1 s.l2 gs).isSome]) ∧ TsAns w w' v1 v2 ((M.turnSeen ll s.l1 s.l2 gs).getD ([], [])).1 ((M.turnSeen ll s.l1 s.l2 gs).getD ([], [])).2 := by
  have b3 := below3 w (.cells #[.slice a ll.length c] 25) (.cells #[.slice s.a1 s.l1.length s.c1, .slice s.a2 s.l2.length s.c2] 28) (.cells #[.slice none 0 0, .slice none 0 0] 28)
  have h1 := h.below b3 (Nat.le_refl _)
  have sa1 := sa.below b3 (Nat.le_refl _)
  have hG1 := hG.below b3 (Nat.le_refl _)
  have hX := ((Slot1.new w (.slice a ll.length c) 25).bl' (below1 _ (.cells #[.slice s.a1 s.l1.length s.c1, .slice s.a2 s.l2.length s.c2] 28))).bl' (below1 _ (.cells #[.slice none 0 0, .slice none 0 0] 28))
  have hY : Slot2 ((w.alloc (.cells #[.slice a ll.length c] 25)).alloc (.cells #[.slice s.a1 s.l1.length s.c1, .slice s.a2 s.l2.length s.c2] 28)) (w.heap.size + 1) (.slice s.a1 s.l1.length s.c1) (.slice s.a2 s.l2.length s.c2) := ⟨by have := heap_alloc_new (w.alloc (.cells #[.slice a ll.length c] 25)) (.cells #[.slice s.a1 s.l1.length s.c1, .slice s.a2 s.l2.length s.c2] 28); rwa [World.size_alloc] at this⟩
  have hZ : Slot2 (((w.alloc (.cells #[.slice a ll.length c] 25)).alloc (.cells #[.slice s.a1 s.l1.length s.c1, .slice s.a2 s.l2.length s.c2] 28)).alloc (.cells #[.slice none 0 0, .slice none 0 0] 28)) (w.heap.size + 1 + 1) (.slice none 0 0) (.slice none 0 0) := ⟨by have := heap_alloc_new ((w.alloc (.cells #[.slice a ll.length c] 25)).alloc (.cells #[.slice s.a1 s.l1.length s.c1, .slice s.a2 s.l2.length s.c2] 28)) (.cells #[.slice none 0 0, .slice none 0 0] 28); rwa [World.size_alloc, World.size_alloc] at this⟩
  have hY' := hY.bel2 (below1 _ (.cells #[.slice none 0 0, .slice none 0 0] 28))
  go_enter Try.func7, Try.ntmps7
  go_wp2_with fail
  generalize ((w.alloc (.cells #[.slice a ll.length c] 25)).alloc (.cells #[.slice s.a1 s.l1.length s.c1, .slice s.a2 s.l2.length s.c2] 28)).alloc (.cells #[.slice none 0 0, .slice none 0 0] 28) = W at *
  clear hY
  have CP := iseenOk_any a b o c ll s W hl hls hs h1 sa1
  obtain ⟨hs1, hs2⟩ := hs
  cases hp : M.seenOk ll s.l1 s.l2
  · rw [hp] at CP
    have hno := M.turnSeen_bad (row := gs) hp
    refine CP.mono ?_
    rintro e W1 ⟨rfl, b1⟩
    have hZ1 := hZ.bel2 b1
    have z0 := hZ1.c0
    have z1 := hZ1.c1
    have zf := hZ1.fz
    have lz := hZ1.lt
    have bw1 := b3.trans (b1.mono b3.size)
    go_wp2_with fail
    have q1 := (hZ1.set0 (.slice none 0 0)).set1 (.slice none 0 0)
    have q0 := q1.c0
    have q2 := q1.c1
    exact bodyPost_ret (v := .tuple #[.agg #[.slice none 0 0, .slice none 0 0], .bool false]) (by simp [results, Try.results7, go_sem, q0, q2]) rfl ⟨_, _, by rw [hno]; rfl, by rw [hno]; exact ⟨World.ownsRow_nil _ _ _ _, World.ownsRow_nil _ _ _ _, fun k hk => by simp [Value.ownBlock] at hk, (bw1.setCell (by show w.heap.size ≤ w.heap.size + 1 + 1; omega) _).setCell (by show w.heap.size ≤ w.heap.size + 1 + 1; omega) _⟩⟩
  · rw [hp] at CP
    obtain ⟨hpg, hl1, hl2⟩ := M.seenOk_len hp
    obtain ⟨h3, h7⟩ := M.prog_le hpg
    have hlt6 : M.tot M.reads ll ≤ 21 := by
      have key : ∀ l : List (List M.D), (∀ t ∈ l, t.length ≤ 7) → M.tot M.reads l ≤ 7 * l.length := fun l => by
        induction l with
        | nil => intro _; simp [M.tot]
        | cons t l ih => intro ht; have := ih (fun x hx => ht x (List.mem_cons_of_mem _ hx)); have := ht t (by simp); have := M.cnt_le M.reads t; simp only [M.tot, List.length_cons]; omega
      have := key ll h7
      omega
    obtain ⟨rows, hrows⟩ : ∃ rows, M.turned [] gs (M.parts ll s.l1) = rows := ⟨_, rfl⟩
    obtain ⟨ok, hok⟩ : ∃ ok, M.rowN gs ll.length = ok := ⟨_, rfl⟩
    have hpl := M.parts_len ll s.l1
    have hrow : M.rowN gs (M.parts ll s.l1).length = ok := by rw [hpl]; exact hok
    have E1 : Hid ((M.turnSeen ll s.l1 s.l2 gs).isSome = ok ∧ (ok = true → ((M.turnSeen ll s.l1 s.l2 gs).getD ([], [])) = (rows.flatten, s.l2)) ∧ (ok = false → M.turnSeen ll s.l1 s.l2 gs = none)) := by
      cases ok
      · rw [M.turnSeen_row hok]; exact ⟨rfl, fun h => by (cases h), fun _ => rfl⟩
      · rw [M.turnSeen_yes hp hok]; exact ⟨rfl, fun _ => by rw [← hrows, M.turned_yes hrow]; rfl, fun h => by cases h⟩
    have hlens : M.lens rows ≤ 1000 := by
      rw [← hrows]
      cases ok
      · rw [M.turned_no hrow]; simp [M.lens]
      · rw [M.turned_yes hrow]
        have h1 := M.lens_pick gs s.l1.length (M.parts ll s.l1) (M.parts_small ll s.l1)
        have h2 := M.rowN_len hok
        have h4 : s.l1.length * gs.length ≤ 21 * 3 := Nat.mul_le_mul (by omega) (by omega)
        omega
    have hrl : rows.length ≤ 3 := by
      rw [← hrows]
      cases ok
      · rw [M.turned_no hrow]; simp
      · rw [M.turned_yes hrow, M.pick_len, M.rowN_len hok]; exact h3
    have CT := fun A B C D W x y => turnS_any ga gb go gc gs A B C D (M.parts ll s.l1) W hgl (by rw [hpl]; omega) x y
    rw [hrows, hrow] at CT
    have CR := fun W x y => readsBy_any a b o c ll s.a1 s.b1 s.o1 s.c1 s.l1 W h3 h7 hl1 hcap x y
    have HL1 : Hid (s.l1.length = M.tot M.reads ll) := hl1
    have HL2 : Hid (s.l2.length = 3) := hl2
    clear hp hrows hok hrow hpl hl1 hl2
    generalize M.parts ll s.l1 = pt at *
    refine CP.mono ?_
    rintro e W1 ⟨rfl, b1⟩
    have h1' := h1.below b1 (Nat.le_refl _)
    have hG1' := hG1.below b1 (Nat.le_refl _)
    have sa1' := sa1.below b1 (Nat.le_refl _)
    have hX1 := hX.bl' b1
    have hY1 := hY'.bel2 b1
    have hZ1 := hZ.bel2 b1
    have bw1 := b3.trans (b1.mono b3.size)
    have x0 := hX1.c
    have y0 := hY1.c0
    clear CP h1 hG1 sa1 hX hY' hZ b1 b3
    go_wp2_with fail
    refine (CR W1 h1' sa1'.reads).mono ?_
    rintro e W2 ⟨v2, rfl, ⟨a2, ⟨c2, rfl⟩, g2, hs2'⟩, b2⟩
    go_wp2_with fail
    refine (CT a2 g2 0 c2 W2 (hG1'.below b2 (Nat.le_refl _)) hs2').mono ?_
    rintro e W3 ⟨v3, rfl, ⟨a3, ⟨c3, rfl⟩, g3, hs3⟩, b3⟩
    have b13 := b2.trans (b3.mono b2.size)
    have hY3 := hY1.bel2 b13
    have hZ3 := hZ1.bel2 b13
    have bw3 := bw1.trans (b13.mono bw1.size)
    have hL3 := sa1'.last.below b13 (Nat.le_refl _)
    have lY1 := hY1.lt
    have lZ1 := hZ1.lt
    have hs13 := b13.size
    clear x0 y0 CR CT
    cases ok
    · obtain ⟨e1, _, e3⟩ := E1.out
      have z0 := hZ3.c0
      have z1 := hZ3.c1
      have zf := hZ3.fz
      have lz := hZ3.lt
      have hno := e3 (by first | rfl | trivial)
      clear e1 e3 E1
      go_wp2_with fail
      have q1 := (hZ3.set0 (.slice none 0 0)).set1 (.slice none 0 0)
      have q0 := q1.c0
      have q2 := q1.c1
      exact bodyPost_ret (v := .tuple #[.agg #[.slice none 0 0, .slice none 0 0], .bool false]) (by simp [results, Try.results7, go_sem, q0, q2]) rfl ⟨_, _, by rw [hno]; rfl, by rw [hno]; exact ⟨World.ownsRow_nil _ _ _ _, World.ownsRow_nil _ _ _ _, fun k hk => by simp [Value.ownBlock] at hk, (bw3.setCell (by show w.heap.size ≤ w.heap.size + 1 + 1; omega) _).setCell (by show w.heap.size ≤ w.heap.size + 1 + 1; omega) _⟩⟩
    · have y1 := hY3.c1
      go_wp2_with fail
      refine wp_region_held_drew (S := fun w' => w'.cell? ⟨w.heap.size + 1, 1, none⟩ = some (.slice s.a2 s.l2.length s.c2)) (by kernel_rfl) (by exact y1) (fun hH => ?_)
      refine takeD 0 (some 27) (.slice a3 rows.length c3) hH rfl rfl (by kernel_rfl) (by kernel_rfl) (by kernel_rfl) (fun _ _ _ h => h) (Or.inl ⟨by rfl, by intro w' hSw; go_simp⟩) ?_
      simp only [Act.put, List.setIfInBounds_toArray, List.set_cons_zero, List.set_cons_succ]
      refine takeD 2 (some 29) (.pointer (some ⟨w.heap.size + 1, 1, none⟩)) hH rfl rfl (by kernel_rfl) (by kernel_rfl) (by kernel_rfl) (fun _ _ _ h => h) (Or.inl ⟨by rfl, by intro w' hSw; go_simp⟩) ?_
      simp only [Act.put, List.setIfInBounds_toArray, List.set_cons_zero, List.set_cons_succ]
      refine takeD 3 (some 30) (.slice s.a2 s.l2.length s.c2) hH rfl rfl (by kernel_rfl) (by kernel_rfl) (by kernel_rfl) (fun _ _ _ h => h) (Or.inl ⟨by rfl, by intro w' hSw; have hc := hSw; go_simp⟩) ?_
      simp only [Act.put, List.setIfInBounds_toArray, List.set_cons_zero, List.set_cons_succ]
      refine wpAnyH_ready (rs := [1]) (by kernel_rfl) (by simp) ?_
      refine AllReadyH.cons rfl (fun K' hK => ?_) AllReadyH.nil
      refine step_goV (by rfl) (some 28) rfl 33 #[.tmp 27] _ rfl #[.slice a3 rows.length c3] (by simp [Act.eval]) (fun _ _ => rfl) (concatI_any a3 g3 0 c3 rows W3.drew (by omega) hlens (hs3.below (Below.refl _ _).drew (Nat.le_refl _))) ?_
      rintro e r1 ⟨v1, rfl, ho1, bb1⟩
      have b1r : Below W3.heap.size W3 r1 := (Below.refl _ _).drew.trans bb1
      have hY1 := hY3.bel2 b1r
      have hZ1 := hZ3.bel2 b1r
      refine ⟨_, rfl, ?_⟩
      simp only [Act.put, List.setIfInBounds_toArray, List.set_cons_zero, List.set_cons_succ]
      refine hK.out _ _ hY1.c1 (fun hH1 => ?_)
      clear hK K'
      refine wpAnyH_ready (rs := [4]) (by kernel_rfl) (by simp) ?_
      refine AllReadyH.cons rfl (fun K' hK => ?_) AllReadyH.nil
      refine step_goV (by rfl) (some 31) rfl 34 #[.tmp 30] _ rfl #[.slice s.a2 s.l2.length s.c2] (by simp [Act.eval]) (fun _ _ => rfl) (newListO_any s.a2 s.b2 s.o2 s.c2 s.l2 r1 (by omega) (hL3.below b1r (Nat.le_refl _))) ?_
      rintro e r2 ⟨v2, rfl, ho2, bb2⟩
      have hZ2 := hZ1.bel2 bb2
      have hY2 := hY1.bel2 bb2
      have ho1' := ownsRow_below ho1 bb2
      have hap : ∀ k, v1.ownBlock = some k → v2.ownBlock ≠ some k := fun k h1 h2 => by
        have e1 := (ho1.lt k h1).2
        have e2 := (ho2.lt k h2).1
        omega
      have b2r := b1r.trans (bb2.mono b1r.size)
      obtain ⟨xa, xc, rfl⟩ := own_slx ho1'
      obtain ⟨ya, yc, rfl⟩ := own_slx ho2
      refine ⟨_, rfl, ?_⟩
      simp only [Act.put, List.setIfInBounds_toArray, List.set_cons_zero, List.set_cons_succ]
      refine hK.out _ _ hY2.c1 (fun hH2 => ?_)
      clear hK K'
      refine takeD 5 (some 32) (.agg #[.slice xa (M.lens rows) xc, .slice ya s.l2.length yc]) hH2 rfl rfl (by kernel_rfl) (by kernel_rfl) (by kernel_rfl) (fun _ _ _ h => h) (Or.inl ⟨by rfl, by intro w' hSw; go_simp⟩) ?_
      simp only [Act.put, List.setIfInBounds_toArray, List.set_cons_zero, List.set_cons_succ]
      refine wpAnyH_ready (rs := [6]) (by kernel_rfl) (by simp) ?_
      refine AllReadyH.cons rfl (fun K' hK => ?_) AllReadyH.nil
      have z0 := hZ2.c0
      have z1 := hZ2.c1
      have zf := hZ2.fz
      have lz := hZ2.lt
      rw [if_pos (by rfl)]
      go_simp
      refine hK.out _ _ ((hY2.far (by omega) _).far (by omega) _).c1 (fun hH3 => ?_)
      clear hK K'
      refine takeD 7 (some 7) (.bool true) hH3 rfl rfl (by kernel_rfl) (by kernel_rfl) (by kernel_rfl) (fun _ _ _ h => h) (Or.inl ⟨by rfl, by intro w' hSw; go_simp⟩) ?_
      simp only [Act.put, List.setIfInBounds_toArray, List.set_cons_zero, List.set_cons_succ]
      refine wpAnyH_done (by kernel_rfl) ?_ _
      clear z0 z1 zf
      go_wp2_with fail
      have q1 := (hZ2.set0 (.slice xa (M.lens rows) xc)).set1 (.slice ya s.l2.length yc)
      have q0 := q1.c0
      have q2 := q1.c1
      obtain ⟨e1, e2, _⟩ := E1.out
      have e2 := e2 (by first | rfl | trivial)
      have bF := ((bw3.trans (b2r.mono bw3.size)).setCell (p := ⟨w.heap.size + 1 + 1, 0, none⟩) (by show w.heap.size ≤ w.heap.size + 1 + 1; omega) (.slice xa (M.lens rows) xc)).setCell (p := ⟨w.heap.size + 1 + 1, 1, none⟩) (by show w.heap.size ≤ w.heap.size + 1 + 1; omega) (.slice ya s.l2.length yc)
      have f1 := (ownsRow_far (ownsRow_far ho1' (b := w.heap.size + 1 + 1) (i := 0) (by show _ < W3.heap.size; omega) (.slice xa (M.lens rows) xc)) (b := w.heap.size + 1 + 1) (i := 1) (by show _ < W3.heap.size; omega) (.slice ya s.l2.length yc))
      have f2 := (ownsRow_far (ownsRow_far ho2 (b := w.heap.size + 1 + 1) (i := 0) (by have := b1r.size; omega) (.slice xa (M.lens rows) xc)) (b := w.heap.size + 1 + 1) (i := 1) (by have := b1r.size; omega) (.slice ya s.l2.length yc))
      have hbw3 := bw3.size
      exact bodyPost_ret (v := .tuple #[.agg #[.slice xa (M.lens rows) xc, .slice ya s.l2.length yc], .bool true]) (by simp [results, Try.results7, go_sem, q0, q2]) rfl ⟨_, _, by rw [e1], by rw [e2]; exact ⟨by rw [M.lens_flat]; exact ownsRow_mono f1 (by show w.heap.size ≤ W3.heap.size; omega), ownsRow_mono f2 (by have := b1r.size; omega), hap, bF⟩⟩

end Go.Proofs.Ytflmejjhnkpodaa

namespace Go.Proofs.Ytflmejjhnkpodaa
open Go.RowKit

theorem wp_append_nums {P : Program} {o : Oper} {a : Act} {w : World} {K : Act → World → Prop} {Q : Exit → Act → World → Prop} (s x : Operand) (t : TypeId)
    (ho : o.op = .call { callee := .builtin .append, args := #[s, x], argTypes := #[t, t] }) (d : Option Tmp) (hd : o.dst = d) (base : Nat) (e : TypeId) (i : TypeInfo) (ht : P.underlying t = some (.slice e)) (hi : P.info? e = some i) (hz0 : i.zero = some (.int .i64 0)) (hz1 : i.size = 1) (hz2 : i.bytes = 8)
    (v : Value) (n : Nat) (xs : List Value) (hs : a.eval s = v) (hown : w.ownsRow base e 1 v n xs) (hbase : base ≤ w.heap.size) (sa : Option Addr) (b off c m : Nat) (l : List Int) (hm : m = l.length) (hx : a.eval x = .slice sa m c) (hI : IntS w sa b off l) (hl : n + l.length ≤ 1048576)
    (h : ∀ v' w', w'.ownsRow base e 1 v' (n + l.length) (xs ++ nums l) → w.grownBy w' v.ownBlock → (v'.ownBlock = v.ownBlock ∨ v'.ownBlock = some w.heap.size) → K (a.put d v') w') :
    Oper.wp P o a w K Q := by
  subst hd
  subst hm
  rcases Nat.eq_zero_or_pos l.length with h0 | hpos
  · have hl0 : l = [] := List.length_eq_zero_iff.1 h0
    subst hl0
    rw [List.length_nil] at hx
    have hrun := run_append_zero (P := P) w t o.type e i ht hi hown sa c
    have hk := h v w (by simpa [nums] using hown) ⟨rfl, rfl, rfl, Nat.le_refl _, fun _ _ _ => rfl⟩ (Or.inl rfl)
    unfold Oper.wp
    simp [execOp, ho, resolve, invoke, builtin, hs, hx, hrun, Result.andThen]
    exact hk
  · obtain ⟨rfl⟩ := hI.addr hpos
    obtain ⟨v', w', hrun, h2, h3, _, h5⟩ := run_append_own_at (P := P) w base t o.type e i (.int .i64 0) 1 8 ht hi hz0 hz1 hz2 rfl (by decide) v n xs hown ⟨b, off, none⟩ l.length c (nums l) (by simp [nums]) (nums_cells hI) (nums_one l) (by unfold maxLen; omega) (by omega) hbase
    have hk := h v' w' h2 h3 h5
    unfold Oper.wp
    simp [execOp, ho, resolve, invoke, builtin, hs, hx, hrun, Result.andThen]
    exact hk
theorem step_append_nums {P : Program} {ops : Array Oper} {o : Oper} {a : Act} {w : World} {K : Act → World → Prop} {Q : Exit → Act → World → Prop} {E : Prop} (hgd : o.guard = none) (s x : Operand) (t : TypeId)
    (ho : o.op = .call { callee := .builtin .append, args := #[s, x], argTypes := #[t, t] }) (d : Option Tmp) (hd : o.dst = d) (base : Nat) (e : TypeId) (i : TypeInfo) (ht : P.underlying t = some (.slice e)) (hi : P.info? e = some i) (hz0 : i.zero = some (.int .i64 0)) (hz1 : i.size = 1) (hz2 : i.bytes = 8)
    (v : Value) (n : Nat) (xs : List Value) (hs : a.eval s = v) (hown : w.ownsRow base e 1 v n xs) (hbase : base ≤ w.heap.size) (sa : Option Addr) (b off c m : Nat) (l : List Int) (hm : m = l.length) (hx : a.eval x = .slice sa m c) (hI : IntS w sa b off l) (hl : n + l.length ≤ 1048576)
    (h : ∀ v' w', w'.ownsRow base e 1 v' (n + l.length) (xs ++ nums l) → w.grownBy w' v.ownBlock → (v'.ownBlock = v.ownBlock ∨ v'.ownBlock = some w.heap.size) → K (a.put d v') w') :
    if Region.wanted o (yielded ops a.tmps) = true then Oper.wp P o a w K Q else E := by
  have hw : Region.wanted o (yielded ops a.tmps) = true := by simp [Region.wanted, hgd]
  rw [if_pos hw]
  exact wp_append_nums s x t ho d hd base e i ht hi hz0 hz1 hz2 v n xs hs hown hbase sa b off c m l hm hx hI hl h
theorem wpList_append_nums {P : Program} {ops : Array Oper} {rest : List Oper} {o : Oper} {a : Act} {w : World} {Q : Exit → Act → World → Prop} (hgd : o.guard = none) (s x : Operand) (t : TypeId)
    (ho : o.op = .call { callee := .builtin .append, args := #[s, x], argTypes := #[t, t] }) (d : Option Tmp) (hd : o.dst = d) (base : Nat) (e : TypeId) (i : TypeInfo) (ht : P.underlying t = some (.slice e)) (hi : P.info? e = some i) (hz0 : i.zero = some (.int .i64 0)) (hz1 : i.size = 1) (hz2 : i.bytes = 8)
    (v : Value) (n : Nat) (xs : List Value) (hs : a.eval s = v) (hown : w.ownsRow base e 1 v n xs) (hbase : base ≤ w.heap.size) (sa : Option Addr) (b off c m : Nat) (l : List Int) (hm : m = l.length) (hx : a.eval x = .slice sa m c) (hI : IntS w sa b off l) (hl : n + l.length ≤ 1048576)
    (h : ∀ v' w', w'.ownsRow base e 1 v' (n + l.length) (xs ++ nums l) → w.grownBy w' v.ownBlock → (v'.ownBlock = v.ownBlock ∨ v'.ownBlock = some w.heap.size) → wpList P ops Q rest (a.put d v') w') :
    wpList P ops Q (o :: rest) a w :=
  wpList_plain hgd fun _ hK => wp_append_nums s x t ho d hd base e i ht hi hz0 hz1 hz2 v n xs hs hown hbase sa b off c m l hm hx hI hl fun v' w' h1 h2 h3 => by
    subst hd
    exact hK _ _ (h v' w' h1 h2 h3)

end Go.Proofs.Ytflmejjhnkpodaa

namespace Go.Proofs.Ytflmejjhnkpodaa
open Go.RowKit

set_option maxHeartbeats 400000 in
set_option maxRecDepth 100000 in
theorem l22Row_any (a : Option Addr) (b o c : Nat) (row : List Int) (m : Nat) (w : World) (hl : row.length ≤ 1048576) (hm : m ≤ 1000) (h : IntS w a b o row) :
    Calls Try.prog 29 #[.slice a row.length c, .int .i64 m] w fun e w' => e = .returned (.bool (M.rowN row m)) ∧ w' = w := by
  by_cases hln : row.length = m
  · have HF : Hid (M.rowN row m = (M.bel m).all (fun v => M.has row v)) := M.rowOf_same (by rw [M.bel_len]; exact hln)
    have hq : ((row.length : Int) != m) = false := by simp; omega
    have HL : Hid (row.length = m) := hln
    clear hln
    go_enter Try.func29, Try.ntmps29
    go_wp2_with fail
    go_loopw [5] (fun s5 wr => ∃ n : Nat, s5 = .int .i64 n ∧ n ≤ m ∧ Hid ((M.bel m).all (fun v => M.has row v) = ((M.bel m).drop n).all (fun v => M.has row v)) ∧ wr = w) (fun s5 _ => m - (intOf s5).toNat)
    case atStart => exact ⟨0, rfl, Nat.zero_le _, by show _ = _; rfl, rfl⟩
    case round =>
      obtain ⟨n, rfl, hn, HA, rfl⟩ := hrel
      by_cases hlt : n < m
      · have hlt2 : n < (M.bel m).length := by rw [M.bel_len]; exact hlt
        have HS : Hid ((M.bel m).all (fun v => M.has row v) = (M.has row (n : Int) && ((M.bel m).drop (n + 1)).all (fun v => M.has row v))) := by
          have := M.rowAll_step HA.out hlt2
          rw [M.bel_get] at this
          exact this
        clear HA hlt2
        have i1 : (n : Int) < m := by omega
        cases hh : M.has row (n : Int)
        · go_wp2_with (go_at_call 50; refine (l12Has_any a b o c row n _ hl h).mono ?_; rw [hh]; rintro e w' ⟨rfl, rfl⟩)
          go_ret
          exact ⟨ret_bool (by rw [HF.out, HS.out, hh]; rfl), rfl⟩
        · go_wp2_with (go_at_call 50; refine (l12Has_any a b o c row n _ hl h).mono ?_; rw [hh]; rintro e w' ⟨rfl, rfl⟩)
          exact ⟨⟨n + 1, by go_num, by omega, by show _ = _; rw [HS.out, hh]; rfl, trivial⟩, by simp [intOf]; omega⟩
      · have i1 : ¬ (n : Int) < m := by omega
        go_wp2_with fail
        go_ret
        exact ⟨ret_bool (by rw [HF.out, HA.out, List.drop_eq_nil_of_le (by rw [M.bel_len]; omega)]; rfl), rfl⟩
  · have hln' : ((row.length : Int) == m) = false := by simp; omega
    go_enter Try.func29, Try.ntmps29
    go_wp2_with fail
    go_ret
    exact ⟨ret_bool (M.rowOf_short (by rw [M.bel_len]; exact hln)).symm, rfl⟩

end Go.Proofs.Ytflmejjhnkpodaa

namespace Go.Proofs.Ytflmejjhnkpodaa
namespace M

theorem cnt_mono {f g : Int → Bool} (h : ∀ k, f k = true → g k = true) (l : List D) : cnt f l ≤ cnt g l := by
  induction l with
  | nil => exact Nat.le_refl _
  | cons d l ih =>
    rw [cnt_cons, cnt_cons]
    cases hf : f d.k
    · simp; omega
    · rw [h _ hf]; omega
theorem tot_mono {f g : Int → Bool} (h : ∀ k, f k = true → g k = true) (l : List (List D)) : tot f l ≤ tot g l := by
  induction l with
  | nil => exact Nat.le_refl _
  | cons t l ih => have := cnt_mono h t; simp only [tot]; omega
theorem from_uses {l : List (List D)} : ∀ {a u : Nat}, progFrom a u l = true → u + tot uses l ≤ 6 ∧ ∀ t ∈ l, thread t = true := by
  induction l with
  | nil => intro a u h; simp [progFrom] at h; exact ⟨by simp [tot]; omega, fun t ht => absurd ht (by simp)⟩
  | cons t l ih =>
    intro a u h
    by_cases hb : thread t = true
    · simp only [progFrom, hb, if_true] at h
      obtain ⟨h1, h2⟩ := ih h
      refine ⟨by simp only [tot]; omega, fun t' ht' => ?_⟩
      rcases List.mem_cons.1 ht' with rfl | hm
      · exact hb
      · exact h2 t' hm
    · simp [progFrom, hb] at h
theorem cnt_tot {f : Int → Bool} {l : List (List D)} {t : List D} (h : t ∈ l) : cnt f t ≤ tot f l := by
  induction l with
  | nil => simp at h
  | cons t' l ih =>
    simp only [tot]
    rcases List.mem_cons.1 h with rfl | hm
    · omega
    · have := ih hm; omega
theorem prog_uses {l : List (List D)} (h : prog l = true) : tot uses l ≤ 6 ∧ ∀ t ∈ l, thread t = true := by
  simp only [prog, Bool.and_eq_true, decide_eq_true_eq] at h
  have := from_uses h.2
  exact ⟨by omega, this.2⟩
/-- A thread of a program is one by itself. -/
theorem prog_alone {l : List (List D)} (h : prog l = true) {t : List D} (ht : t ∈ l) : prog [t] = true := by
  obtain ⟨h1, h2⟩ := prog_uses h
  have h3 := h2 t ht
  have h4 := thread_le h3
  have h5 := cnt_tot (f := uses) ht
  simp only [prog, progFrom, h3, if_true, List.length_singleton, Nat.zero_add, Bool.and_eq_true, decide_eq_true_eq]
  omega
theorem nreads_alone {l : List (List D)} (h : prog l = true) {t : List D} (ht : t ∈ l) : nreads [t] = cnt reads t := by
  rw [nreads_ok (prog_alone h ht)]; simp [tot]
theorem nreads_le {l : List (List D)} (h : prog l = true) : tot reads l ≤ 6 := by
  have h1 := (prog_uses h).1
  have h2 := tot_mono (f := reads) (g := uses) (fun k hk => by simp [uses, hk]) l
  omega

end M
end Go.Proofs.Ytflmejjhnkpodaa

namespace Go.Proofs.Ytflmejjhnkpodaa
open Go.RowKit

/-- Where the reads of the first threads begin. -/
def M.froms (ll : List (List M.D)) (n : Nat) : List Int := (List.range (n + 1)).map fun i => ((M.tot M.reads (ll.take i) : Nat) : Int)
theorem M.froms_len (ll : List (List M.D)) (n : Nat) : (M.froms ll n).length = n + 1 := by simp [M.froms]
theorem M.froms_get (ll : List (List M.D)) (n i : Nat) (h : i < (M.froms ll n).length) : (M.froms ll n)[i] = ((M.tot M.reads (ll.take i) : Nat) : Int) := by simp [M.froms]
theorem M.froms_succ (ll : List (List M.D)) (n : Nat) : M.froms ll (n + 1) = M.froms ll n ++ [((M.tot M.reads (ll.take (n + 1)) : Nat) : Int)] := by
  unfold M.froms
  rw [List.range_succ (n := n + 1), List.map_append]; rfl

theorem nums_app (l m : List Int) : nums (l ++ m) = nums l ++ nums m := by simp [nums]
theorem ownsRow_blk {w w' : World} {base : Nat} {e : TypeId} {size : Nat} {v : Value} {n : Nat} {xs : List Value} (h : w.ownsRow base e size v n xs) (hb : ∀ k, v.ownBlock = some k → w'.heap[k]? = w.heap[k]?) : w'.ownsRow base e size v n xs := by
  obtain ⟨h1, h2⟩ := h
  refine ⟨h1, ?_⟩
  rcases h2 with h2 | ⟨g, cap, cur, hv, hg, hh, r⟩
  · exact Or.inl h2
  · refine Or.inr ⟨g, cap, cur, hv, hg, ?_, r⟩
    rw [hb g (by rw [hv]; rfl)]
    exact hh

set_option maxHeartbeats 4000000 in
set_option maxRecDepth 100000 in
set_option linter.unusedSimpArgs false in
theorem sturnSeen_any (a : Option Addr) (b o c : Nat) (ll : List (List M.D)) (hl : ll.length ≤ 1048576) (hpc : ll.length ≤ c) (hls : ∀ t ∈ ll, t.length ≤ 1048576) (s : Sn) (hs : s.Le 1048576) (hcap : s.l1.length ≤ s.c1) (ga : Option Addr) (gb go gc : Nat) (gs : List Int) (hgl : gs.length ≤ 1048576) (w : World) (h : DoSS w a b o ll) (sa : s.At w) (hG : IntS w ga gb go gs) :
    Calls Try.prog 6 #[.agg #[.slice a ll.length c], .agg #[.slice s.a1 s.l1.length s.c1, .slice s.a2 s.l2.length s.c2], .slice ga gs.length gc] w fun e w' => ∃ v1 v2, e = .returned (.tuple #[.agg #[v1, v2], .bool (M.turnSeen ll s.l1 s.l2 gs).isSome]) ∧ TsAns w w' v1 v2 ((M.turnSeen ll s.l1 s.l2 gs).getD ([], [])).1 ((M.turnSeen ll s.l1 s.l2 gs).getD ([], [])).2 := by
  obtain ⟨i0, hi, hz0, hz1, hz2⟩ := info_parts Try.infoInt
  have b3 := below3 w (.cells #[.slice a ll.length c] 25) (.cells #[.slice s.a1 s.l1.length s.c1, .slice s.a2 s.l2.length s.c2] 28) (.cells #[.slice none 0 0, .slice none 0 0] 28)
  have h1 := h.below b3 (Nat.le_refl _)
  have sa1 := sa.below b3 (Nat.le_refl _)
  have hG1 := hG.below b3 (Nat.le_refl _)
  have hX := ((Slot1.new w (.slice a ll.length c) 25).bl' (below1 _ (.cells #[.slice s.a1 s.l1.length s.c1, .slice s.a2 s.l2.length s.c2] 28))).bl' (below1 _ (.cells #[.slice none 0 0, .slice none 0 0] 28))
  have hY : Slot2 ((w.alloc (.cells #[.slice a ll.length c] 25)).alloc (.cells #[.slice s.a1 s.l1.length s.c1, .slice s.a2 s.l2.length s.c2] 28)) (w.heap.size + 1) (.slice s.a1 s.l1.length s.c1) (.slice s.a2 s.l2.length s.c2) := ⟨by have := heap_alloc_new (w.alloc (.cells #[.slice a ll.length c] 25)) (.cells #[.slice s.a1 s.l1.length s.c1, .slice s.a2 s.l2.length s.c2] 28); rwa [World.size_alloc] at this⟩
  have hZ : Slot2 (((w.alloc (.cells #[.slice a ll.length c] 25)).alloc (.cells #[.slice s.a1 s.l1.length s.c1, .slice s.a2 s.l2.length s.c2] 28)).alloc (.cells #[.slice none 0 0, .slice none 0 0] 28)) (w.heap.size + 1 + 1) (.slice none 0 0) (.slice none 0 0) := ⟨by have := heap_alloc_new ((w.alloc (.cells #[.slice a ll.length c] 25)).alloc (.cells #[.slice s.a1 s.l1.length s.c1, .slice s.a2 s.l2.length s.c2] 28)) (.cells #[.slice none 0 0, .slice none 0 0] 28); rwa [World.size_alloc, World.size_alloc] at this⟩
  have hY' := hY.bel2 (below1 _ (.cells #[.slice none 0 0, .slice none 0 0] 28))
  go_enter Try.func6, Try.ntmps6
  go_wp2_with fail
  generalize ((w.alloc (.cells #[.slice a ll.length c] 25)).alloc (.cells #[.slice s.a1 s.l1.length s.c1, .slice s.a2 s.l2.length s.c2] 28)).alloc (.cells #[.slice none 0 0, .slice none 0 0] 28) = W at *
  clear hY
  have CP := sseenOk_any a b o c ll s W hl hls hs h1 sa1
  obtain ⟨hs1, hs2⟩ := hs
  cases hp : M.seenOk ll s.l1 s.l2
  · rw [hp] at CP
    have hno := M.turnSeen_bad (row := gs) hp
    refine CP.mono ?_
    rintro e W1 ⟨rfl, b1⟩
    have hZ1 := hZ.bel2 b1
    have z0 := hZ1.c0
    have z1 := hZ1.c1
    have zf := hZ1.fz
    have lz := hZ1.lt
    have bw1 := b3.trans (b1.mono b3.size)
    go_wp2_with fail
    have q1 := (hZ1.set0 (.slice none 0 0)).set1 (.slice none 0 0)
    have q0 := q1.c0
    have q2 := q1.c1
    exact bodyPost_ret (v := .tuple #[.agg #[.slice none 0 0, .slice none 0 0], .bool false]) (by simp [results, Try.results6, go_sem, q0, q2]) rfl ⟨_, _, by rw [hno]; rfl, by rw [hno]; exact ⟨World.ownsRow_nil _ _ _ _, World.ownsRow_nil _ _ _ _, fun k hk => by simp [Value.ownBlock] at hk, (bw1.setCell (by show w.heap.size ≤ w.heap.size + 1 + 1; omega) _).setCell (by show w.heap.size ≤ w.heap.size + 1 + 1; omega) _⟩⟩
  · rw [hp] at CP
    obtain ⟨hpg, hl1, hl2⟩ := M.seenOk_len hp
    obtain ⟨h3, h7⟩ := M.prog_le hpg
    have CO := fun W hW => l22Row_any ga gb go gc gs ll.length W hgl (by omega) hW
    cases hok : M.rowN gs ll.length
    · rw [hok] at CO
      have hno := M.turnSeen_row (l1 := s.l1) (l2 := s.l2) hok
      clear hl1 hl2
      refine CP.mono ?_
      rintro e W1 ⟨rfl, b1⟩
      have hZ1 := hZ.bel2 b1
      have z0 := hZ1.c0
      have z1 := hZ1.c1
      have zf := hZ1.fz
      have lz := hZ1.lt
      have x0 := (hX.bl' b1).c
      have hG2 := hG1.below b1 (Nat.le_refl _)
      have bw1 := b3.trans (b1.mono b3.size)
      go_wp2_with (first | (go_at_call 29; refine (CO _ hG2).mono ?_; rintro e W2 ⟨rfl, rfl⟩))
      have q1 := (hZ1.set0 (.slice none 0 0)).set1 (.slice none 0 0)
      have q0 := q1.c0
      have q2 := q1.c1
      exact bodyPost_ret (v := .tuple #[.agg #[.slice none 0 0, .slice none 0 0], .bool false]) (by simp [results, Try.results6, go_sem, q0, q2]) rfl ⟨_, _, by rw [hno]; rfl, by rw [hno]; exact ⟨World.ownsRow_nil _ _ _ _, World.ownsRow_nil _ _ _ _, fun k hk => by simp [Value.ownBlock] at hk, (bw1.setCell (by show w.heap.size ≤ w.heap.size + 1 + 1; omega) _).setCell (by show w.heap.size ≤ w.heap.size + 1 + 1; omega) _⟩⟩
    · rw [hok] at CO
      have HYES : Hid (M.turnSeen ll s.l1 s.l2 gs = some ((M.pick [] gs (M.parts ll s.l1)).flatten, s.l2)) := M.turnSeen_yes hp hok
      have HR : Hid (M.rowN gs ll.length = true) := hok
      have HL1 : Hid (s.l1.length = M.tot M.reads ll) := hl1
      have HL2 : Hid (s.l2.length = 3) := hl2
      have HPG : Hid (M.prog ll = true) := hpg
      clear hp hok hl1 hl2 hpg
      refine CP.mono ?_
      rintro e W1 ⟨rfl, b1⟩
      have x0 := (hX.bl' b1).c
      have hG2 := hG1.below b1 (Nat.le_refl _)
      go_wp2_with (first | (go_at_call 29; refine (CO _ hG2).mono ?_; rintro e W2 ⟨rfl, rfl⟩))
      have bw1 := b3.trans (b1.mono b3.size)
      have hX2 := hX.bl' b1
      have hY2 := hY'.bel2 b1
      have hZ2 := hZ.bel2 b1
      have D2 := h1.below b1 (Nat.le_refl _)
      have sa2 := sa1.below b1 (Nat.le_refl _)
      have lX := hX2.lt
      clear CP CO h1 hG1 sa1 hX hY' hZ b1 b3 x0
      have hE : (W2.alloc (.cells #[.int .i64 0] 3)).ownsRow W2.heap.size 3 1 (.slice (some ⟨W2.heap.size, 0, none⟩) 1 1) 1 (nums [0]) := World.ownsRow_lit W2 _ 1 (Nat.le_refl _) (by decide) rfl
      go_loopw [8, 9] (fun s8 s9 wr => ∃ n : Nat, s9 = .int .i64 n ∧ n ≤ ll.length ∧ wr.ownsRow W2.heap.size 3 1 s8 (M.froms ll n).length (nums (M.froms ll n)) ∧ Below W2.heap.size W2 wr) (fun _ s9 _ => ll.length - (intOf s9).toNat)
      case atStart => exact ⟨0, rfl, Nat.zero_le _, hE, below1 _ _⟩
      case round =>
        obtain ⟨n, rfl, hn, hown, hbel⟩ := hrel
        clear hE
        have hbs := hbel.size
        have hXr := hX2.bl' hbel
        have x0 := hXr.c
        have lXr := hXr.lt
        by_cases hlt : n < ll.length
        · obtain ⟨rfl⟩ := h.addr (by omega)
          have i1 : (n : Int) < ll.length := by omega
          have HF : Hid (M.froms ll (n + 1) = M.froms ll n ++ [((M.tot M.reads (ll.take n) + M.cnt M.reads ll[n] : Nat) : Int)]) := by show _ = _; rw [M.froms_succ, M.tot_take M.reads ll n hlt]
          have HFL : Hid ((M.froms ll n).length = n + 1) := M.froms_len ll n
          have hf0 : (M.froms ll n)[n]'(by rw [M.froms_len]; omega) = ((M.tot M.reads (ll.take n) : Nat) : Int) := M.froms_get ll n n _
          obtain ⟨fa, fg, fc, e8, hIf, hfge, _⟩ := own_nums hown
          have f0 := hIf.row n (by rw [M.froms_len]; omega)
          rw [hf0, Nat.zero_add] at f0
          obtain rfl : fa = some ⟨fg, 0, none⟩ := hIf.addr (by rw [M.froms_len]; omega)
          obtain rfl := e8
          have hTb : M.tot M.reads (ll.take n) ≤ 1000 ∧ M.cnt M.reads ll[n] ≤ 7 := by
            have h1 := M.tot_take_le M.reads ll n
            have h2 := (M.prog_uses HPG.out).1
            have h4 := M.tot_mono (f := M.reads) (g := M.uses) (fun k hk => by simp [M.uses, hk]) ll
            have h5 := M.cnt_le M.reads ll[n]
            have h6 := h7 _ (List.getElem_mem hlt)
            omega
          have hal := M.prog_alone HPG.out (List.getElem_mem hlt)
          have hDr := (D2.below hbel (Nat.le_refl _)).below (Below.refl wr.heap.size wr).drew (Nat.le_refl _)
          have hOne : DoSS wr.drew (if c = n then some ⟨b, o, none⟩ else some ⟨b, o + n, none⟩) b (o + n) [ll[n]] := by
            refine ⟨fun _ => ?_, fun i hi => ?_⟩
            · rw [if_neg (by omega)]
            · obtain rfl : i = 0 := by simp at hi; omega
              exact hDr.row n hlt
          have CR := sreads_any (if c = n then some ⟨b, o, none⟩ else some ⟨b, o + n, none⟩) b (o + n) (c - n) [ll[n]] wr.drew (by simp) (fun t ht => by simp at ht; rw [ht]; have := h7 _ (List.getElem_mem hlt); omega) hOne
          have hnr : M.nreads [ll[n]] = ((M.cnt M.reads ll[n] : Nat) : Int) := by rw [M.nreads_ok hal]; simp [M.tot]
          rw [hnr] at CR
          clear hnr hOne hDr hal hf0 hIf
          generalize M.cnt M.reads ll[n] = m at *
          generalize M.tot M.reads (ll.take n) = T at *
          generalize hfs : M.froms ll n = fs at *
          obtain ⟨fl, hfl⟩ : ∃ fl, fs.length = fl := ⟨_, rfl⟩
          rw [hfl] at hown ⊢
          have HFL2 : Hid (fl = n + 1) := by show _ = _; have := HFL.out; omega
          have HFL : Hid (fs.length = fl) := hfl
          have hfl1 : fl = n + 1 := HFL2.out
          have hnfl : (n : Int) < fl := by omega
          have hfl9 : fl ≤ 1000 := by omega
          clear hfl hfl1
          have hnc : (n : Int) + 1 ≤ c := by omega
          have hwTm : IntKind.i64.wrap ((T : Int) + m) = ((T + m : Nat) : Int) := by rw [show ((T : Int) + m) = ((T + m : Nat) : Int) by omega]; exact IntWalk.i64_in _ (by omega)
          have lfg : fg < wr.heap.size := World.block_lt_of_cell? _ _ f0
          have F5 : Hid (∀ (r1 : World), Below wr.heap.size wr r1 → ∀ (u5 : World), (r1.alloc (.cells #[.int .i64 ((T + m : Nat) : Int)] 3)).grownBy u5 (Value.slice (some ⟨fg, 0, none⟩) fl fc).ownBlock → Below W2.heap.size W2 u5 ∧ u5.cell? ⟨w.heap.size, 0, none⟩ = some (.slice (some ⟨b, o, none⟩) ll.length c)) := by
            intro r1 hb1 u5 hg
            have hb2 := hb1.trans ((below1 r1 (.cells #[.int .i64 ((T + m : Nat) : Int)] 3)).mono hb1.size)
            have hb3 := hbel.trans (hb2.mono hbel.size)
            have hb4 : Below W2.heap.size W2 u5 := below_grown hb3 hg (fun k hk => by have : fg = k := Option.some.inj hk; omega) hb3.size
            exact ⟨hb4, (hX2.bl' hb4).c⟩
          go_wp2_with fail
          refine wp_region_held_drew (S := fun w' => w'.cell? ⟨w.heap.size, 0, none⟩ = some (.slice (some ⟨b, o, none⟩) ll.length c)) (by kernel_rfl) (by exact x0) (fun hH => ?_)
          refine takeD 0 (some 33) (.slice (some ⟨fg, 0, none⟩) fl fc) hH rfl rfl (by kernel_rfl) (by kernel_rfl) (by kernel_rfl) (fun _ _ _ h => h) (Or.inl ⟨by rfl, by intro w' hSw; go_simp⟩) ?_
          simp only [Act.put, List.setIfInBounds_toArray, List.set_cons_zero, List.set_cons_succ]
          refine takeD 1 (some 34) (.slice (some ⟨fg, 0, none⟩) fl fc) hH rfl rfl (by kernel_rfl) (by kernel_rfl) (by kernel_rfl) (fun _ _ _ h => h) (Or.inl ⟨by rfl, by intro w' hSw; go_simp⟩) ?_
          simp only [Act.put, List.setIfInBounds_toArray, List.set_cons_zero, List.set_cons_succ]
          refine takeD 2 (some 35) (.int .i64 n) hH rfl rfl (by kernel_rfl) (by kernel_rfl) (by kernel_rfl) (fun _ _ _ h => h) (Or.inl ⟨by rfl, by intro w' hSw; go_simp⟩) ?_
          simp only [Act.put, List.setIfInBounds_toArray, List.set_cons_zero, List.set_cons_succ]
          refine takeD 3 (some 36) (.pointer (some ⟨fg, n, none⟩)) hH rfl rfl (by kernel_rfl) (by kernel_rfl) (by kernel_rfl) (fun _ _ _ h => h) (Or.inl ⟨by rfl, by intro w' hSw; go_simp⟩) ?_
          simp only [Act.put, List.setIfInBounds_toArray, List.set_cons_zero, List.set_cons_succ]
          refine takeD 5 (some 38) (.pointer (some ⟨w.heap.size, 0, none⟩)) hH rfl rfl (by kernel_rfl) (by kernel_rfl) (by kernel_rfl) (fun _ _ _ h => h) (Or.inl ⟨by rfl, by intro w' hSw; go_simp⟩) ?_
          simp only [Act.put, List.setIfInBounds_toArray, List.set_cons_zero, List.set_cons_succ]
          refine takeD 6 (some 39) (.slice (some ⟨b, o, none⟩) ll.length c) hH rfl rfl (by kernel_rfl) (by kernel_rfl) (by kernel_rfl) (fun _ _ _ h => h) (Or.inl ⟨by rfl, by intro w' hSw; have hc := hSw; go_simp⟩) ?_
          simp only [Act.put, List.setIfInBounds_toArray, List.set_cons_zero, List.set_cons_succ]
          refine takeD 7 (some 40) (.int .i64 n) hH rfl rfl (by kernel_rfl) (by kernel_rfl) (by kernel_rfl) (fun _ _ _ h => h) (Or.inl ⟨by rfl, by intro w' hSw; go_simp⟩) ?_
          simp only [Act.put, List.setIfInBounds_toArray, List.set_cons_zero, List.set_cons_succ]
          refine takeD 8 (some 41) (.int .i64 n) hH rfl rfl (by kernel_rfl) (by kernel_rfl) (by kernel_rfl) (fun _ _ _ h => h) (Or.inl ⟨by rfl, by intro w' hSw; go_simp⟩) ?_
          simp only [Act.put, List.setIfInBounds_toArray, List.set_cons_zero, List.set_cons_succ]
          refine takeD 9 (some 42) (.int .i64 ((n : Int) + 1)) hH rfl rfl (by kernel_rfl) (by kernel_rfl) (by kernel_rfl) (fun _ _ _ h => h) (Or.inl ⟨by rfl, by intro w' hSw; go_simp; exact IntWalk.i64_in _ (by omega)⟩) ?_
          simp only [Act.put, List.setIfInBounds_toArray, List.set_cons_zero, List.set_cons_succ]
          refine takeD 10 (some 43) (.slice (if c = n then some ⟨b, o, none⟩ else some ⟨b, o + n, none⟩) 1 (c - n)) hH rfl rfl (by kernel_rfl) (by kernel_rfl) (by kernel_rfl) (fun _ _ _ h => h) (Or.inl ⟨by rfl, by intro w' hSw; have hn1 : ((n : Int) + 1).toNat = n + 1 := (by omega); go_simp; intro hneg; omega⟩) ?_
          simp only [Act.put, List.setIfInBounds_toArray, List.set_cons_zero, List.set_cons_succ]
          refine takeD 11 (some 44) (.agg #[.slice (if c = n then some ⟨b, o, none⟩ else some ⟨b, o + n, none⟩) 1 (c - n)]) hH rfl rfl (by kernel_rfl) (by kernel_rfl) (by kernel_rfl) (fun _ _ _ h => h) (Or.inl ⟨by rfl, by intro w' hSw; go_simp⟩) ?_
          simp only [Act.put, List.setIfInBounds_toArray, List.set_cons_zero, List.set_cons_succ]
          refine wpAnyH_ready (rs := [4, 12]) (by kernel_rfl) (by simp) ?_
          refine AllReadyH.cons rfl (fun K' hK => ?_) (AllReadyH.cons rfl (fun K' hK => ?_) AllReadyH.nil)
          · have xx := f0
            rw [if_pos (by rfl)]
            go_simp
            refine hK.out _ _ hH (fun _ => ?_)
            clear hK K' xx
            refine wpAnyH_ready (rs := [12]) (by kernel_rfl) (by simp) ?_
            refine AllReadyH.cons rfl (fun K' hK => ?_) AllReadyH.nil
            refine step_goV (by rfl) (some 45) rfl 30 #[.tmp 44] _ rfl #[.agg #[.slice (if c = n then some ⟨b, o, none⟩ else some ⟨b, o + n, none⟩) 1 (c - n)]] (by simp [Act.eval]) (fun _ _ => rfl) CR ?_
            rintro e r1 ⟨rfl, bb1⟩
            have b1r : Below wr.heap.size wr r1 := (Below.refl _ _).drew.trans bb1
            have x0r := (b1r.cell (p := ⟨w.heap.size, 0, none⟩) lXr).trans x0
            have f1 := (b1r.cell (p := ⟨fg, n, none⟩) lfg).trans f0
            have ho1 := ownsRow_below hown b1r
            refine ⟨_, rfl, ?_⟩
            simp only [Act.put, List.setIfInBounds_toArray, List.set_cons_zero, List.set_cons_succ]
            refine hK.out _ _ x0r (fun hH1 => ?_)
            clear hK K'
            refine takeD 13 (some 46) (.int .i64 (T + m : Nat)) hH1 rfl rfl (by kernel_rfl) (by kernel_rfl) (by kernel_rfl) (fun _ _ _ h => h) (Or.inl ⟨by rfl, by intro w' hSw; go_simp⟩) ?_
            simp only [Act.put, List.setIfInBounds_toArray, List.set_cons_zero, List.set_cons_succ]
            refine wpAnyH_ready (rs := [14]) (by kernel_rfl) (by simp) ?_
            refine AllReadyH.cons rfl (fun K' hK => ?_) AllReadyH.nil
            have x0a := (((below1 r1 (.cells #[.int .i64 ((T + m : Nat) : Int)] 3)).cell (p := ⟨w.heap.size, 0, none⟩) (Nat.lt_of_lt_of_le lXr b1r.size))).trans x0r
            rw [if_pos (by rfl)]
            go_simp
            refine hK.out _ _ x0a (fun _ => ?_)
            clear hK K'
            refine wpAnyH_ready (rs := [15]) (by kernel_rfl) (by simp) ?_
            refine AllReadyH.cons rfl (fun K' hK => ?_) AllReadyH.nil
            refine step_append_lies _ (by rfl) (.tmp 33) (.tmp 47) 26 (by rfl) W2.heap.size 3 i0 _ 1 8 Try.underlying26 hi hz0 hz1 hz2 rfl (by decide) (.slice (some ⟨fg, 0, none⟩) fl fc) fl (nums fs) (by rfl) (ho1.alloc _) ⟨r1.heap.size, 0, none⟩ 1 1 [.int .i64 ((T + m : Nat) : Int)] (by rfl) (by rfl) (World.news_of_block (cs := #[.int .i64 ((T + m : Nat) : Int)]) (t := 3) (fr := (0, 0)) (heap_alloc_new r1 _)) (by simp [Value.oneCell']) (by omega) (by unfold maxLen; omega) (by omega) (by have := b1r.size; simp; omega) (r1.heap.size + 1) (by simp) ?_
            intro g5 cap5 u5 hown5 hg5 hat5 hlt5
            obtain ⟨hb5, x5⟩ := F5.out r1 b1r u5 hg5
            simp only [Act.put, List.setIfInBounds_toArray, List.set_cons_zero, List.set_cons_succ]
            refine hK.out _ _ x5 (fun hH5 => ?_)
            clear hK K'
            refine takeD 16 (some 8) (.slice (some ⟨g5, 0, none⟩) (fl + 1) cap5) hH5 rfl rfl (by kernel_rfl) (by kernel_rfl) (by kernel_rfl) (fun _ _ _ h => h) (Or.inl ⟨by rfl, by intro w' hSw; go_simp⟩) ?_
            simp only [Act.put, List.setIfInBounds_toArray, List.set_cons_zero, List.set_cons_succ]
            refine wpAnyH_done (by kernel_rfl) ?_ _
            go_wp2_with fail
            exact ⟨⟨n + 1, by go_num, by omega, by rw [HF.out, nums_snoc, List.length_append, HFL.out]; exact hown5, hb5⟩, by simp [intOf]; omega⟩
          · refine step_goV (by rfl) (some 45) rfl 30 #[.tmp 44] _ rfl #[.agg #[.slice (if c = n then some ⟨b, o, none⟩ else some ⟨b, o + n, none⟩) 1 (c - n)]] (by simp [Act.eval]) (fun _ _ => rfl) CR ?_
            rintro e r1 ⟨rfl, bb1⟩
            have b1r : Below wr.heap.size wr r1 := (Below.refl _ _).drew.trans bb1
            have x0r := (b1r.cell (p := ⟨w.heap.size, 0, none⟩) lXr).trans x0
            have f1 := (b1r.cell (p := ⟨fg, n, none⟩) lfg).trans f0
            have ho1 := ownsRow_below hown b1r
            refine ⟨_, rfl, ?_⟩
            simp only [Act.put, List.setIfInBounds_toArray, List.set_cons_zero, List.set_cons_succ]
            refine hK.out _ _ x0r (fun hH1 => ?_)
            clear hK K'
            refine wpAnyH_ready (rs := [4]) (by kernel_rfl) (by simp) ?_
            refine AllReadyH.cons rfl (fun K' hK => ?_) AllReadyH.nil
            have xx := f1
            rw [if_pos (by rfl)]
            go_simp
            refine hK.out _ _ hH1 (fun _ => ?_)
            clear hK K' xx
            refine takeD 13 (some 46) (.int .i64 (T + m : Nat)) hH1 rfl rfl (by kernel_rfl) (by kernel_rfl) (by kernel_rfl) (fun _ _ _ h => h) (Or.inl ⟨by rfl, by intro w' hSw; go_simp⟩) ?_
            simp only [Act.put, List.setIfInBounds_toArray, List.set_cons_zero, List.set_cons_succ]
            refine wpAnyH_ready (rs := [14]) (by kernel_rfl) (by simp) ?_
            refine AllReadyH.cons rfl (fun K' hK => ?_) AllReadyH.nil
            have x0a := (((below1 r1 (.cells #[.int .i64 ((T + m : Nat) : Int)] 3)).cell (p := ⟨w.heap.size, 0, none⟩) (Nat.lt_of_lt_of_le lXr b1r.size))).trans x0r
            rw [if_pos (by rfl)]
            go_simp
            refine hK.out _ _ x0a (fun _ => ?_)
            clear hK K'
            refine wpAnyH_ready (rs := [15]) (by kernel_rfl) (by simp) ?_
            refine AllReadyH.cons rfl (fun K' hK => ?_) AllReadyH.nil
            refine step_append_lies _ (by rfl) (.tmp 33) (.tmp 47) 26 (by rfl) W2.heap.size 3 i0 _ 1 8 Try.underlying26 hi hz0 hz1 hz2 rfl (by decide) (.slice (some ⟨fg, 0, none⟩) fl fc) fl (nums fs) (by rfl) (ho1.alloc _) ⟨r1.heap.size, 0, none⟩ 1 1 [.int .i64 ((T + m : Nat) : Int)] (by rfl) (by rfl) (World.news_of_block (cs := #[.int .i64 ((T + m : Nat) : Int)]) (t := 3) (fr := (0, 0)) (heap_alloc_new r1 _)) (by simp [Value.oneCell']) (by omega) (by unfold maxLen; omega) (by omega) (by have := b1r.size; simp; omega) (r1.heap.size + 1) (by simp) ?_
            intro g5 cap5 u5 hown5 hg5 hat5 hlt5
            obtain ⟨hb5, x5⟩ := F5.out r1 b1r u5 hg5
            simp only [Act.put, List.setIfInBounds_toArray, List.set_cons_zero, List.set_cons_succ]
            refine hK.out _ _ x5 (fun hH5 => ?_)
            clear hK K'
            refine takeD 16 (some 8) (.slice (some ⟨g5, 0, none⟩) (fl + 1) cap5) hH5 rfl rfl (by kernel_rfl) (by kernel_rfl) (by kernel_rfl) (fun _ _ _ h => h) (Or.inl ⟨by rfl, by intro w' hSw; go_simp⟩) ?_
            simp only [Act.put, List.setIfInBounds_toArray, List.set_cons_zero, List.set_cons_succ]
            refine wpAnyH_done (by kernel_rfl) ?_ _
            go_wp2_with fail
            exact ⟨⟨n + 1, by go_num, by omega, by rw [HF.out, nums_snoc, List.length_append, HFL.out]; exact hown5, hb5⟩, by simp [intOf]; omega⟩
        · have i1 : ¬ (n : Int) < ll.length := by omega
          obtain rfl : n = ll.length := by omega
          obtain ⟨fs, hfs⟩ : ∃ fs, M.froms ll ll.length = fs := ⟨_, rfl⟩
          rw [hfs] at hown
          have FG : Hid (∀ (i : Nat) (h : i < fs.length), fs[i] = ((M.tot M.reads (ll.take i) : Nat) : Int)) := by subst hfs; exact fun i h => M.froms_get _ _ _ h
          have FL : Hid (fs.length = ll.length + 1) := by subst hfs; exact M.froms_len ll ll.length
          clear hfs
          obtain ⟨fa, fg, fc, e8, hIf, _, _⟩ := own_nums hown
          obtain rfl : fa = some ⟨fg, 0, none⟩ := hIf.addr (by rw [FL.out]; omega)
          obtain rfl := e8
          obtain ⟨fl, hfl⟩ : ∃ fl, fs.length = fl := ⟨_, rfl⟩
          rw [hfl]
          clear hown
          have hYr := hY2.bel2 hbel
          have y1 := hYr.c1
          have ly := hYr.lt
          have hL3 := sa2.last.below hbel (Nat.le_refl _)
          have E9 : (wr.alloc (.cells #[] 3)).ownsRow wr.heap.size 3 1 (.slice (some ⟨wr.heap.size, 0, none⟩) 0 0) 0 (nums []) := World.ownsRow_made wr _ 0 (Nat.le_refl _) (Nat.zero_le _) rfl
          have E10 : ((wr.alloc (.cells #[] 3)).alloc (.cells #[] 3)).ownsRow (wr.heap.size + 1) 3 1 (.slice (some ⟨wr.heap.size + 1, 0, none⟩) 0 0) 0 (nums []) := by
            have := World.ownsRow_made (base := wr.heap.size + 1) (e := 3) (size := 1) (wr.alloc (.cells #[] 3)) #[] 0 (by simp) (Nat.zero_le _) rfl
            rwa [World.size_alloc] at this
          have hL4 := hL3.below (below2 wr (.cells #[] 3) (.cells #[] 3)) (Nat.le_refl _)
          go_wp2_with (at_builtin; refine wpList_append_nums rfl (.tmp 50) (.tmp 52) 26 rfl (some 53) rfl (wr.heap.size + 1) 3 i0 Try.underlying26 hi hz0 hz1 hz2 (.slice (some ⟨wr.heap.size + 1, 0, none⟩) 0 0) 0 (nums []) rfl E10 (by simp) s.a2 s.b2 s.o2 s.c2 s.l2.length s.l2 rfl rfl hL4 (by omega) ?_)
          intro vL WO hL hgL hbL
          have bA : Below (wr.alloc (.cells #[] 3)).heap.size (wr.alloc (.cells #[] 3)) WO := below_grown (below1 _ _) hgL (fun k hk => by simp [Value.ownBlock] at hk; simp; omega) (by simp)
          have bO : Below wr.heap.size wr WO := (below1 wr (.cells #[] 3)).trans (bA.mono (below1 wr (.cells #[] 3)).size)
          have E9O := ownsRow_below E9 bA
          have hAs := bA.size
          rw [World.size_alloc] at hAs
          obtain ⟨ya, yc, rfl⟩ := own_slx hL
          clear hL4 E9 E10 hgL hbL y1
          go_wp2_with fail
          have hO : Slot2 (WO.alloc (.cells #[.slice (some ⟨wr.heap.size, 0, none⟩) 0 0, .slice ya s.l2.length yc] 28)) WO.heap.size (.slice (some ⟨wr.heap.size, 0, none⟩) 0 0) (.slice ya s.l2.length yc) := Slot2.mk (heap_alloc_new WO _)
          have bX := below1 WO (.cells #[.slice (some ⟨wr.heap.size, 0, none⟩) 0 0, .slice ya s.l2.length yc] 28)
          try simp only [Nat.zero_add] at hL
          generalize WO.alloc (.cells #[.slice (some ⟨wr.heap.size, 0, none⟩) 0 0, .slice ya s.l2.length yc] 28) = WX at *
          obtain ⟨wo, rfl⟩ : ∃ wo, wo = wr := ⟨_, rfl⟩
          have hbX := bO.trans (bX.mono bO.size)
          have E9X := ownsRow_below E9O bX
          go_loopw [11] (fun s11 wq => ∃ n : Nat, s11 = .int .i64 n ∧ n ≤ gs.length ∧ ∃ v1, Slot2 wq WO.heap.size v1 (.slice ya s.l2.length yc) ∧ wq.ownsRow wo.heap.size 3 1 v1 (M.pick [] (gs.take n) (M.parts ll s.l1)).flatten.length (nums (M.pick [] (gs.take n) (M.parts ll s.l1)).flatten) ∧ (∀ k, v1.ownBlock = some k → k = wo.heap.size ∨ WO.heap.size < k) ∧ Below wo.heap.size wo wq ∧ ∀ k, k < WO.heap.size → k ≠ wo.heap.size → wq.heap[k]? = WO.heap[k]?) (fun s11 _ => gs.length - (intOf s11).toNat)
          case atStart => exact ⟨0, rfl, Nat.zero_le _, _, hO, by simpa [M.pick] using E9X, fun k hk => Or.inl (by simp [Value.ownBlock] at hk; exact hk.symm), hbX, fun k hk _ => bX.block k hk⟩
          case round =>
            obtain ⟨n, rfl, hn, v1, hS, hown1, hblk, hbq, hfr⟩ := hrel
            clear hO bX hbX E9X E9O
            have hqs := hbq.size
            have hSl := hS.lt
            by_cases hlt : n < gs.length
            · have i2 : (n : Int) < gs.length := by omega
              obtain ⟨rfl⟩ := hG.addr (by omega)
              have hgl3 := M.rowN_len HR.out
              obtain ⟨hx0, hxl⟩ := M.rowN_get HR.out n hlt
              have hgc := (hG2.below hbel (Nat.le_refl _)).row n hlt
              obtain ⟨x, hx⟩ : ∃ x : Nat, gs[n] = (x : Int) := ⟨gs[n].toNat, by omega⟩
              have hxx : gs[n].toNat = x := by omega
              have hxl' : x < ll.length := by omega
              rw [hx] at hgc
              have hf0 := hIf.row x (by rw [FL.out]; omega)
              have hf1 := hIf.row (x + 1) (by rw [FL.out]; omega)
              rw [FG.out, Nat.zero_add] at hf0 hf1
              have hTU : M.tot M.reads (ll.take (x + 1)) = M.tot M.reads (ll.take x) + M.cnt M.reads ll[x] := M.tot_take M.reads ll x hxl'
              have hUl : M.tot M.reads (ll.take (x + 1)) ≤ s.l1.length := by rw [HL1.out]; exact M.tot_take_le M.reads ll (x + 1)
              have hl1k : s.l1.length ≤ 1000 := by
                have h2 := (M.prog_uses HPG.out).1
                have h4 := M.tot_mono (f := M.reads) (g := M.uses) (fun k hk => by simp [M.uses, hk]) ll
                have h5 := HL1.out
                omega
              have hLk : (M.pick [] (gs.take n) (M.parts ll s.l1)).flatten.length ≤ 3000 := by
                rw [M.lens_flat]
                have h1 := M.lens_pick (gs.take n) s.l1.length (M.parts ll s.l1) (M.parts_small ll s.l1)
                have h4 : s.l1.length * (gs.take n).length ≤ 1000 * 3 := Nat.mul_le_mul hl1k (by rw [List.length_take]; omega)
                omega
              have HN : Hid ((M.pick [] (gs.take (n + 1)) (M.parts ll s.l1)).flatten = (M.pick [] (gs.take n) (M.parts ll s.l1)).flatten ++ (s.l1.drop (M.tot M.reads (ll.take x))).take (M.tot M.reads (ll.take (x + 1)) - M.tot M.reads (ll.take x))) := by
                show _ = _
                rw [M.pick_take [] gs (M.parts ll s.l1) n hlt, List.flatten_append, hxx]
                have hp : x < (M.parts ll s.l1).length := by rw [M.parts_len]; exact hxl'
                rw [List.getD_eq_getElem?_getD, List.getElem?_eq_getElem hp, Option.getD_some, M.parts_get ll s.l1 x hxl' hp, hTU, Nat.add_sub_cancel_left]
                simp
              clear hx0 hxl hx hxx hgl3
              have hTU2 : M.tot M.reads (ll.take x) ≤ M.tot M.reads (ll.take (x + 1)) := by omega
              clear hTU
              generalize M.tot M.reads (ll.take (x + 1)) = U at *
              generalize M.tot M.reads (ll.take x) = T at *
              have hIr := sa2.reads.below hbel (Nat.le_refl _)
              have hIs : IntS wo (if s.c1 = T then s.a1 else Option.map (fun x => x.add T) s.a1) s.b1 (s.o1 + T) ((s.l1.drop T).take (U - T)) := ⟨fun hp => by
                rw [List.length_take, List.length_drop] at hp
                rw [if_neg (by omega), hIr.addr (by omega)]
                show some ((⟨s.b1, s.o1, none⟩ : Addr).add T) = _
                rw [Go.WideShapes.add_plain], fun i hi => by
                rw [List.length_take, List.length_drop] at hi
                have := hIr.row (T + i) (by omega)
                rw [List.getElem_take, List.getElem_drop, Nat.add_assoc]; exact this⟩
              have hsl : U - T = ((s.l1.drop T).take (U - T)).length := by rw [List.length_take, List.length_drop]; omega
              obtain ⟨sl, hslE⟩ : ∃ sl, (s.l1.drop T).take (U - T) = sl := ⟨_, rfl⟩
              rw [hslE] at HN hIs hsl
              have HSL : Hid (U - T = sl.length) := hsl
              have hsk : sl.length ≤ 1000 := by omega
              clear hslE hIr hsl
              obtain ⟨fl0, hfl0⟩ : ∃ l, (M.pick [] (gs.take n) (M.parts ll s.l1)).flatten = l := ⟨_, rfl⟩
              rw [hfl0] at HN hown1 hLk
              clear hfl0
              obtain ⟨L, hLE⟩ : ∃ L, fl0.length = L := ⟨_, rfl⟩
              rw [hLE] at hown1 hLk
              have HLE : Hid (fl0.length = L) := hLE
              clear hLE
              obtain ⟨va, vc, rfl⟩ := own_slx hown1
              have y0 := hYr.c0
              have lgb := World.block_lt_of_cell? _ _ hgc
              have lfg := World.block_lt_of_cell? _ _ hf0
              have hxf : (x : Int) < fl := by have := FL.out; omega
              have hxf1 : (x : Int) + 1 < fl := by have := FL.out; omega
              have hx3 : x ≤ 3 := by omega
              clear hl1k
              have hxn1 : ((x : Int) + 1).toNat = x + 1 := by omega
              have hTc : (T : Int) ≤ U := by omega
              have hUc : (U : Int) ≤ s.c1 := by omega
              go_wp2_with fail
              refine wp_region_held_drew (S := fun w' => Below wo.heap.size wo w') (by kernel_rfl) (by first | exact hbq | exact hbq.drew) (fun hH => ?_)
              refine takeD 0 (some 61) (.pointer (some ⟨WO.heap.size, 0, none⟩)) hH rfl rfl (by kernel_rfl) (by kernel_rfl) (by kernel_rfl) (fun _ _ _ h => h) (Or.inl ⟨by rfl, by intro w' hSw; go_simp⟩) ?_
              simp only [Act.put, List.setIfInBounds_toArray, List.set_cons_zero, List.set_cons_succ]
              refine takeD 2 (some 63) (.pointer (some ⟨w.heap.size + 1, 0, none⟩)) hH rfl rfl (by kernel_rfl) (by kernel_rfl) (by kernel_rfl) (fun _ _ _ h => h) (Or.inl ⟨by rfl, by intro w' hSw; go_simp⟩) ?_
              simp only [Act.put, List.setIfInBounds_toArray, List.set_cons_zero, List.set_cons_succ]
              refine takeD 3 (some 64) (.slice s.a1 s.l1.length s.c1) hH rfl rfl (by kernel_rfl) (by kernel_rfl) (by kernel_rfl) (fun _ _ _ h => h) (Or.inl ⟨by rfl, by intro w' hSw; have hc := (hSw.cell (p := ⟨w.heap.size + 1, 0, none⟩) hYr.lt).trans y0; go_simp⟩) ?_
              simp only [Act.put, List.setIfInBounds_toArray, List.set_cons_zero, List.set_cons_succ]
              refine takeD 4 (some 65) (.slice (some ⟨fg, 0, none⟩) fl fc) hH rfl rfl (by kernel_rfl) (by kernel_rfl) (by kernel_rfl) (fun _ _ _ h => h) (Or.inl ⟨by rfl, by intro w' hSw; go_simp⟩) ?_
              simp only [Act.put, List.setIfInBounds_toArray, List.set_cons_zero, List.set_cons_succ]
              refine takeD 5 (some 66) (.slice (some ⟨gb, go, none⟩) gs.length gc) hH rfl rfl (by kernel_rfl) (by kernel_rfl) (by kernel_rfl) (fun _ _ _ h => h) (Or.inl ⟨by rfl, by intro w' hSw; go_simp⟩) ?_
              simp only [Act.put, List.setIfInBounds_toArray, List.set_cons_zero, List.set_cons_succ]
              refine takeD 6 (some 67) (.int .i64 n) hH rfl rfl (by kernel_rfl) (by kernel_rfl) (by kernel_rfl) (fun _ _ _ h => h) (Or.inl ⟨by rfl, by intro w' hSw; go_simp⟩) ?_
              simp only [Act.put, List.setIfInBounds_toArray, List.set_cons_zero, List.set_cons_succ]
              refine takeD 7 (some 68) (.pointer (some ⟨gb, go + n, none⟩)) hH rfl rfl (by kernel_rfl) (by kernel_rfl) (by kernel_rfl) (fun _ _ _ h => h) (Or.inl ⟨by rfl, by intro w' hSw; go_simp⟩) ?_
              simp only [Act.put, List.setIfInBounds_toArray, List.set_cons_zero, List.set_cons_succ]
              refine takeD 8 (some 69) (.int .i64 x) hH rfl rfl (by kernel_rfl) (by kernel_rfl) (by kernel_rfl) (fun _ _ _ h => h) (Or.inl ⟨by rfl, by intro w' hSw; have hc := (hSw.cell (p := ⟨gb, go + n, none⟩) lgb).trans hgc; go_simp⟩) ?_
              simp only [Act.put, List.setIfInBounds_toArray, List.set_cons_zero, List.set_cons_succ]
              refine takeD 9 (some 70) (.pointer (some ⟨fg, x, none⟩)) hH rfl rfl (by kernel_rfl) (by kernel_rfl) (by kernel_rfl) (fun _ _ _ h => h) (Or.inl ⟨by rfl, by intro w' hSw; go_simp⟩) ?_
              simp only [Act.put, List.setIfInBounds_toArray, List.set_cons_zero, List.set_cons_succ]
              refine takeD 10 (some 71) (.int .i64 T) hH rfl rfl (by kernel_rfl) (by kernel_rfl) (by kernel_rfl) (fun _ _ _ h => h) (Or.inl ⟨by rfl, by intro w' hSw; have hc := (hSw.cell (p := ⟨fg, x, none⟩) lfg).trans hf0; go_simp⟩) ?_
              simp only [Act.put, List.setIfInBounds_toArray, List.set_cons_zero, List.set_cons_succ]
              refine takeD 11 (some 72) (.slice (some ⟨fg, 0, none⟩) fl fc) hH rfl rfl (by kernel_rfl) (by kernel_rfl) (by kernel_rfl) (fun _ _ _ h => h) (Or.inl ⟨by rfl, by intro w' hSw; go_simp⟩) ?_
              simp only [Act.put, List.setIfInBounds_toArray, List.set_cons_zero, List.set_cons_succ]
              refine takeD 12 (some 73) (.slice (some ⟨gb, go, none⟩) gs.length gc) hH rfl rfl (by kernel_rfl) (by kernel_rfl) (by kernel_rfl) (fun _ _ _ h => h) (Or.inl ⟨by rfl, by intro w' hSw; go_simp⟩) ?_
              simp only [Act.put, List.setIfInBounds_toArray, List.set_cons_zero, List.set_cons_succ]
              refine takeD 13 (some 74) (.int .i64 n) hH rfl rfl (by kernel_rfl) (by kernel_rfl) (by kernel_rfl) (fun _ _ _ h => h) (Or.inl ⟨by rfl, by intro w' hSw; go_simp⟩) ?_
              simp only [Act.put, List.setIfInBounds_toArray, List.set_cons_zero, List.set_cons_succ]
              refine takeD 14 (some 75) (.pointer (some ⟨gb, go + n, none⟩)) hH rfl rfl (by kernel_rfl) (by kernel_rfl) (by kernel_rfl) (fun _ _ _ h => h) (Or.inl ⟨by rfl, by intro w' hSw; go_simp⟩) ?_
              simp only [Act.put, List.setIfInBounds_toArray, List.set_cons_zero, List.set_cons_succ]
              refine takeD 15 (some 76) (.int .i64 x) hH rfl rfl (by kernel_rfl) (by kernel_rfl) (by kernel_rfl) (fun _ _ _ h => h) (Or.inl ⟨by rfl, by intro w' hSw; have hc := (hSw.cell (p := ⟨gb, go + n, none⟩) lgb).trans hgc; go_simp⟩) ?_
              simp only [Act.put, List.setIfInBounds_toArray, List.set_cons_zero, List.set_cons_succ]
              refine takeD 16 (some 77) (.int .i64 ((x : Int) + 1)) hH rfl rfl (by kernel_rfl) (by kernel_rfl) (by kernel_rfl) (fun _ _ _ h => h) (Or.inl ⟨by rfl, by intro w' hSw; go_simp; exact IntWalk.i64_in _ (by omega)⟩) ?_
              simp only [Act.put, List.setIfInBounds_toArray, List.set_cons_zero, List.set_cons_succ]
              refine takeD 17 (some 78) (.pointer (some ⟨fg, x + 1, none⟩)) hH rfl rfl (by kernel_rfl) (by kernel_rfl) (by kernel_rfl) (fun _ _ _ h => h) (Or.inl ⟨by rfl, by intro w' hSw; go_simp; first | done | (intro hneg; omega)⟩) ?_
              simp only [Act.put, List.setIfInBounds_toArray, List.set_cons_zero, List.set_cons_succ]
              refine takeD 18 (some 79) (.int .i64 U) hH rfl rfl (by kernel_rfl) (by kernel_rfl) (by kernel_rfl) (fun _ _ _ h => h) (Or.inl ⟨by rfl, by intro w' hSw; have hc := (hSw.cell (p := ⟨fg, x + 1, none⟩) lfg).trans hf1; go_simp⟩) ?_
              simp only [Act.put, List.setIfInBounds_toArray, List.set_cons_zero, List.set_cons_succ]
              refine takeD 19 (some 80) (.slice (if s.c1 = T then s.a1 else Option.map (fun x => x.add T) s.a1) (U - T) (s.c1 - T)) hH rfl rfl (by kernel_rfl) (by kernel_rfl) (by kernel_rfl) (fun _ _ _ h => h) (Or.inl ⟨by rfl, by intro w' hSw; go_simp⟩) ?_
              simp only [Act.put, List.setIfInBounds_toArray, List.set_cons_zero, List.set_cons_succ]
              refine wpAnyH_ready (rs := [1]) (by kernel_rfl) (by simp) ?_
              refine AllReadyH.cons rfl (fun K' hK => ?_) AllReadyH.nil
              have o0 := hS.c0
              rw [if_pos (by rfl)]
              go_simp
              refine hK.out _ _ hH (fun _ => ?_)
              clear hK K' o0
              refine wpAnyH_ready (rs := [20]) (by kernel_rfl) (by simp) ?_
              refine AllReadyH.cons rfl (fun K' hK => ?_) AllReadyH.nil
              refine step_append_nums (by rfl) (.tmp 62) (.tmp 80) 26 (by rfl) (some 81) rfl wo.heap.size 3 i0 Try.underlying26 hi hz0 hz1 hz2 (.slice va L vc) L (nums fl0) (by rfl) (ownsRow_below hown1 (Below.refl _ _).drew) (by first | exact hqs | (simp; omega)) (if s.c1 = T then s.a1 else Option.map (fun x => x.add T) s.a1) s.b1 (s.o1 + T) (s.c1 - T) (U - T) sl HSL.out (by rfl) (hIs.below hH (Nat.le_refl _)) (by omega) ?_
              intro v5 u5 hown5 hg5 hb5
              have hS5 := (hS.bel2 (Below.refl _ _).drew).grown hg5 (ownsRow_below hown1 (Below.refl _ _).drew)
              have hb5' : Below wo.heap.size wo u5 := below_grown hH hg5 (fun k hk => by rcases hblk k hk with h | h <;> omega) (by first | exact hqs | (simp; omega))
              simp only [Act.put, List.setIfInBounds_toArray, List.set_cons_zero, List.set_cons_succ]
              refine hK.out _ _ hb5' (fun hH5 => ?_)
              clear hK K'
              refine takeD 21 (some 82) (.pointer (some ⟨WO.heap.size, 0, none⟩)) hH5 rfl rfl (by kernel_rfl) (by kernel_rfl) (by kernel_rfl) (fun _ _ _ h => h) (Or.inl ⟨by rfl, by intro w' hSw; go_simp⟩) ?_
              simp only [Act.put, List.setIfInBounds_toArray, List.set_cons_zero, List.set_cons_succ]
              refine wpAnyH_ready (rs := [22]) (by kernel_rfl) (by simp) ?_
              refine AllReadyH.cons rfl (fun K' hK => ?_) AllReadyH.nil
              have o0 := hS5.c0
              have o1 := hS5.fz
              have lo := hS5.lt
              obtain ⟨v5a, v5c, rfl⟩ := own_slx hown5
              rw [if_pos (by rfl)]
              go_simp
              have hb6 := hb5'.setCell (p := ⟨WO.heap.size, 0, none⟩) (by show wo.heap.size ≤ WO.heap.size; omega) (.slice v5a (L + sl.length) v5c)
              refine hK.out _ _ hb6 (fun _ => ?_)
              clear hK K'
              refine wpAnyH_done (by kernel_rfl) ?_ _
              have hbk5 : ∀ k, (Value.slice v5a (L + sl.length) v5c).ownBlock = some k → k = wo.heap.size ∨ WO.heap.size < k := fun k hk => by
                rcases hb5 with h | h
                · exact hblk k (h.symm.trans hk)
                · right
                  have := Option.some.inj (h.symm.trans hk)
                  simp at this
                  omega
              have hown6 := ownsRow_blk (w' := u5.setCell ⟨WO.heap.size, 0, none⟩ (.slice v5a (L + sl.length) v5c)) hown5 (fun k hk => Below.heap_setCell _ _ _ _ (fun e => by
                rcases hbk5 k hk with h | h
                · have e' : k = WO.heap.size := e
                  omega
                · have e' : k = WO.heap.size := e
                  omega))
              have hfr6 : ∀ k, k < WO.heap.size → k ≠ wo.heap.size → (u5.setCell ⟨WO.heap.size, 0, none⟩ (.slice v5a (L + sl.length) v5c)).heap[k]? = WO.heap[k]? := fun k h1 h2 => by
                rw [Below.heap_setCell _ _ _ _ (fun e => by have e' : k = WO.heap.size := e; omega)]
                exact (hg5.block k (by simp; omega) (fun e => by rcases hblk k e.symm with h | h <;> omega)).trans (hfr k h1 h2)
              clear o0 o1
              go_wp2_with fail
              exact ⟨⟨n + 1, by go_num, by omega, _, hS5.set0 _, by rw [HN.out, nums_app, List.length_append, HLE.out]; exact hown6, hbk5, hb6, hfr6⟩, by simp [intOf]; omega⟩
            · have i2 : ¬ (n : Int) < gs.length := by omega
              obtain rfl : n = gs.length := by omega
              rw [List.take_length] at hown1
              obtain ⟨l9, h9⟩ : ∃ l, (M.pick [] gs (M.parts ll s.l1)).flatten = l := ⟨_, rfl⟩
              rw [h9] at hown1 HYES
              clear h9
              have hZo := hZ2.bel2 hbel
              have lZo := hZo.lt
              have hZq := hZo.bel2 hbq
              have z0 := hZq.c0
              have z1 := hZq.c1
              have zf := hZq.fz
              have lz := hZq.lt
              have o0 := hS.c0
              have o1 := hS.c1
              obtain ⟨xa, xc, rfl⟩ := own_slx hown1
              go_wp2_with fail
              have q1 := (hZq.set0 (.slice xa l9.length xc)).set1 (.slice ya s.l2.length yc)
              have q0 := q1.c0
              have q2 := q1.c1
              have bwo := bw1.trans (hbel.mono bw1.size)
              have bwq := bwo.trans (hbq.mono bwo.size)
              have hws := bwo.size
              have bF := (bwq.setCell (p := ⟨w.heap.size + 1 + 1, 0, none⟩) (by show w.heap.size ≤ w.heap.size + 1 + 1; omega) (.slice xa l9.length xc)).setCell (p := ⟨w.heap.size + 1 + 1, 1, none⟩) (by show w.heap.size ≤ w.heap.size + 1 + 1; omega) (.slice ya s.l2.length yc)
              have hLq := ownsRow_blk hL (fun k hk => hfr k (hL.lt k hk).2 (by have := (hL.lt k hk).1; omega))
              have hap : ∀ k, (Value.slice xa l9.length xc).ownBlock = some k → (Value.slice ya s.l2.length yc).ownBlock ≠ some k := fun k h1 h2 => by
                have e1 := hL.lt k h2
                rcases hblk k h1 with h | h <;> omega
              have f1 := (ownsRow_far (ownsRow_far hown1 (b := w.heap.size + 1 + 1) (i := 0) lZo (.slice xa l9.length xc)) (b := w.heap.size + 1 + 1) (i := 1) lZo (.slice ya s.l2.length yc))
              have f2 := (ownsRow_far (ownsRow_far hLq (b := w.heap.size + 1 + 1) (i := 0) (by omega) (.slice xa l9.length xc)) (b := w.heap.size + 1 + 1) (i := 1) (by omega) (.slice ya s.l2.length yc))
              exact bodyPost_ret (v := .tuple #[.agg #[.slice xa l9.length xc, .slice ya s.l2.length yc], .bool true]) (by simp [results, Try.results6, go_sem, q0, q2]) rfl ⟨_, _, by rw [HYES.out]; rfl, by rw [HYES.out]; exact ⟨ownsRow_mono f1 (by omega), ownsRow_mono f2 (by omega), hap, bF⟩⟩

end Go.Proofs.Ytflmejjhnkpodaa

namespace Go.Proofs.Ytflmejjhnkpodaa
open Go.RowKit

set_option maxHeartbeats 400000 in
theorem szSeen_any (s : Sn) (left : Int) (w : World) (h0 : 0 ≤ left) (h1 : left ≤ 1048576) (hl : s.Le 9223372036854775807) :
    Calls Try.prog 13 #[.agg #[.slice s.a1 s.l1.length s.c1, .slice s.a2 s.l2.length s.c2], .int .i64 left] w fun e w' => ∃ r : Int, e = .returned (.int .i64 r) ∧ w' = w.alloc (.cells #[.slice s.a1 s.l1.length s.c1, .slice s.a2 s.l2.length s.c2] 42) ∧ r ≤ 1048576 ∧ (r < 0 ∨ (0 ≤ r ∧ s.Le 1048576)) := by
  obtain ⟨a1, b1, o1, c1, l1, a2, b2, o2, c2, l2⟩ := s
  obtain ⟨hl1, hl2⟩ := hl
  simp only at hl1 hl2
  go_enter Try.func13, Try.ntmps13
  go_wp2_with fail
  refine (szIntS_any _ _ _ _ _ h0 h1 hl1).mono ?_
  rintro e w1 ⟨r1, rfl, rfl, hr1, hor1⟩
  by_cases hn1 : r1 < 0
  · go_wp2_with fail
    go_ret
    exact ⟨-1, rfl, rfl, by omega, Or.inl (by omega)⟩
  · go_wp2_with fail
    refine (szIntS_any _ _ _ _ _ (by omega) hr1 hl2).mono ?_
    rintro e w2 ⟨r2, rfl, rfl, hr2, hor2⟩
    by_cases hn2 : r2 < 0
    · go_wp2_with fail
      go_ret
      exact ⟨-1, rfl, rfl, by omega, Or.inl (by omega)⟩
    · go_wp2_with fail
      go_ret
      exact ⟨r2, rfl, rfl, hr2, Or.inr ⟨by omega, ⟨by show l1.length ≤ _; omega, by show l2.length ≤ _; omega⟩⟩⟩

/-- What was seen, laid anew: each list a block of its own, all of it. -/
structure NewSn (w : World) (B g1 g2 : Nat) (l1 l2 : List Int) : Prop where
  ge : B ≤ g1
  lt : g1 < g2
  reads : IntS w (some ⟨g1, 0, none⟩) g1 0 l1
  last : IntS w (some ⟨g2, 0, none⟩) g2 0 l2
  own1 : ∃ f, w.rowIs g1 3 l1.length f
  own2 : ∃ f, w.rowIs g2 3 l2.length f

/-- The value that it is. -/
def newSn (g1 g2 : Nat) (l1 l2 : List Int) : Sn := ⟨some ⟨g1, 0, none⟩, g1, 0, l1.length, l1, some ⟨g2, 0, none⟩, g2, 0, l2.length, l2⟩
theorem NewSn.at {w : World} {B g1 g2 : Nat} {l1 l2 : List Int} (h : NewSn w B g1 g2 l1 l2) : (newSn g1 g2 l1 l2).At w := ⟨h.reads, h.last⟩
theorem NewSn.mono {w : World} {B B' g1 g2 : Nat} {l1 l2 : List Int} (h : NewSn w B g1 g2 l1 l2) (hB : B' ≤ B) : NewSn w B' g1 g2 l1 l2 := ⟨Nat.le_trans hB h.ge, h.lt, h.reads, h.last, h.own1, h.own2⟩
theorem NewSn.below {w w' : World} {B C g1 g2 : Nat} {l1 l2 : List Int} (h : NewSn w B g1 g2 l1 l2) (hb : Below C w w') (hC : w.heap.size ≤ C) : NewSn w' B g1 g2 l1 l2 := by
  obtain ⟨f1, h1⟩ := h.own1
  obtain ⟨f2, h2⟩ := h.own2
  exact ⟨h.ge, h.lt, h.reads.below hb hC, h.last.below hb hC, ⟨f1, h1.of_block (hb.block _ (Nat.lt_of_lt_of_le h1.lt hC))⟩, ⟨f2, h2.of_block (hb.block _ (Nat.lt_of_lt_of_le h2.lt hC))⟩⟩

theorem NewSn.other {w : World} {B g1 g2 : Nat} {l1 l2 : List Int} (h : NewSn w B g1 g2 l1 l2) {b i : Nat} (hb : b < g1) (u : Value) : NewSn (w.setCell ⟨b, i, none⟩ u) B g1 g2 l1 l2 := by
  obtain ⟨f1, h1⟩ := h.own1
  obtain ⟨f2, h2⟩ := h.own2
  have := h.lt
  exact ⟨h.ge, h.lt, h.reads.other (by omega), h.last.other (by omega), ⟨f1, h1.of_block (Below.heap_setCell _ _ _ _ (by simp; omega))⟩, ⟨f2, h2.of_block (Below.heap_setCell _ _ _ _ (by simp; omega))⟩⟩

set_option maxHeartbeats 1000000 in
theorem toSeen_any (s : Sn) (w : World) (hl : s.Le 1048576) (h : s.At w) :
    Calls Try.prog 15 #[.agg #[.slice s.a1 s.l1.length s.c1, .slice s.a2 s.l2.length s.c2]] w fun e w' => ∃ g1 g2, e = .returned (.agg #[.slice (some ⟨g1, 0, none⟩) s.l1.length s.l1.length, .slice (some ⟨g2, 0, none⟩) s.l2.length s.l2.length]) ∧ NewSn w' w.heap.size g1 g2 s.l1 s.l2 ∧ Below w.heap.size w w' := by
  obtain ⟨a1, b1, o1, c1, l1, a2, b2, o2, c2, l2⟩ := s
  obtain ⟨hl1, hl2⟩ := hl
  obtain ⟨as1, as2⟩ := h
  simp only at hl1 hl2 as1 as2
  go_enter Try.func15, Try.ntmps15
  go_wp2_with fail
  have hb3 := below3 w (.cells #[.slice a1 l1.length c1, .slice a2 l2.length c2] 42) (.cells #[.slice none 0 0, .slice none 0 0] 28) (.cells #[.slice none 0 0, .slice none 0 0] 28)
  refine (toIntS_any a1 b1 o1 c1 l1 _ hl1 (as1.below hb3 (Nat.le_refl _))).mono ?_
  rintro e w1 ⟨rfl, hn1, ⟨f1, hr1⟩, hb1⟩
  obtain ⟨hc1, hf1⟩ := bcell hb1
  simp only [World.size_alloc] at hn1 hr1 hb1 hc1 hf1
  have hlt1 := hr1.lt
  go_wp2_with fail
  have hb1' : Below w.heap.size w (w1.setCell ⟨w.heap.size + 1 + 1, 0, none⟩ (.slice (some ⟨w.heap.size + 1 + 1 + 1, 0, none⟩) l1.length l1.length)) := (hb3.trans (hb1.mono (by omega))).setCell (by show w.heap.size ≤ w.heap.size + 1 + 1; omega) _
  refine (toIntS_any a2 b2 o2 c2 l2 _ hl2 (as2.below hb1' (Nat.le_refl _))).mono ?_
  rintro e w2 ⟨rfl, hn2, ⟨f2, hr2⟩, hb2⟩
  obtain ⟨hc2, hf2⟩ := bcell hb2
  have hs2 : (w1.setCell ⟨w.heap.size + 1 + 1, 0, none⟩ (.slice (some ⟨w.heap.size + 1 + 1 + 1, 0, none⟩) l1.length l1.length)).heap.size = w1.heap.size := World.size_setCell _ _ _
  rw [hs2] at hn2 hr2 hb2 hc2 hf2
  have d0 : w1.cell? ⟨w.heap.size + 1 + 1, 0, none⟩ = some (.slice none 0 0) := by
    have h := hc1 (w.heap.size + 1 + 1) 0 (by omega)
    rw [h]
    simp [go_sem]
  have d1 : w1.cell? ⟨w.heap.size + 1 + 1, 1, none⟩ = some (.slice none 0 0) := by
    have h := hc1 (w.heap.size + 1 + 1) 1 (by omega)
    rw [h]
    simp [go_sem]
  have d2 : w1.cell? ⟨w.heap.size + 1, 0, none⟩ = some (.slice none 0 0) := by
    have h := hc1 (w.heap.size + 1) 0 (by omega)
    rw [h]
    simp [go_sem]
  have d3 : w1.cell? ⟨w.heap.size + 1, 1, none⟩ = some (.slice none 0 0) := by
    have h := hc1 (w.heap.size + 1) 1 (by omega)
    rw [h]
    simp [go_sem]
  have e0 : w2.cell? ⟨w.heap.size + 1 + 1, 0, none⟩ = some (.slice (some ⟨w.heap.size + 1 + 1 + 1, 0, none⟩) l1.length l1.length) := by
    rw [hc2 _ _ (by omega)]
    exact World.cell?_setCell_same _ _ _ d0
  have e1 : w2.cell? ⟨w.heap.size + 1 + 1, 1, none⟩ = some (.slice none 0 0) := by
    rw [hc2 _ _ (by omega), World.cell?_setCell_other _ _ _ _ (by simp)]; exact d1
  have e2 : w2.cell? ⟨w.heap.size + 1, 0, none⟩ = some (.slice none 0 0) := by
    rw [hc2 _ _ (by omega), World.cell?_setCell_other _ _ _ _ (by simp)]; exact d2
  have e3 : w2.cell? ⟨w.heap.size + 1, 1, none⟩ = some (.slice none 0 0) := by
    rw [hc2 _ _ (by omega), World.cell?_setCell_other _ _ _ _ (by simp)]; exact d3
  have z0 : w2.frozen? ⟨w.heap.size + 1 + 1, 1, none⟩ = false := by
    rw [hf2 _ _ (by omega), World.frozen?_setCell, hf1 _ _ (by omega)]; simp [go_sem]
  have z1 : w2.frozen? ⟨w.heap.size + 1, 0, none⟩ = false := by
    rw [hf2 _ _ (by omega), World.frozen?_setCell, hf1 _ _ (by omega)]; simp [go_sem]
  have z2 : w2.frozen? ⟨w.heap.size + 1, 1, none⟩ = false := by
    rw [hf2 _ _ (by omega), World.frozen?_setCell, hf1 _ _ (by omega)]; simp [go_sem]
  have hn1' : NewSn w2 w.heap.size (w.heap.size + 1 + 1 + 1) w1.heap.size l1 l2 :=
    ⟨by omega, hlt1, (hn1.other (by omega)).below hb2 (by rw [hs2]; exact Nat.le_refl _), hn2, ⟨f1, (hr1.of_block (by rw [hb2.block _ hlt1]; exact Below.heap_setCell _ _ _ _ (by simp))).of_block rfl⟩, ⟨f2, hr2⟩⟩
  clear hc1 hf1 hc2 hf2 d0 d1 d2 d3
  rw [hs2]
  go_wp2_with fail
  have hbw2 : Below w.heap.size w w2 := hb1'.trans (hb2.mono (by omega))
  refine bodyPost_ret (v := .agg #[.slice (some ⟨w.heap.size + 1 + 1 + 1, 0, none⟩) l1.length l1.length, .slice (some ⟨w1.heap.size, 0, none⟩) l2.length l2.length]) (by simp [results, Try.results15, go_sem, e2, e3]) rfl ⟨_, _, rfl, ?_, ?_⟩
  · exact ((hn1'.other (by omega) _).other (by omega) _).other (by omega) _
  · exact ((hbw2.setCell (by show w.heap.size ≤ w.heap.size + 1 + 1; omega) _).setCell (by show w.heap.size ≤ w.heap.size + 1; omega) _).setCell (by show w.heap.size ≤ w.heap.size + 1; omega) _

set_option maxHeartbeats 400000 in
theorem eqSeen_same (s t : Sn) (w : World) (hl : s.Le 1048576) (h1 : t.l1 = s.l1) (h2 : t.l2 = s.l2) (hs : s.At w) (ht : t.At w) :
    Calls Try.prog 17 #[.agg #[.slice s.a1 s.l1.length s.c1, .slice s.a2 s.l2.length s.c2], .agg #[.slice t.a1 t.l1.length t.c1, .slice t.a2 t.l2.length t.c2]] w fun e w' => e = .returned (.bool true) ∧ Grown w w' := by
  obtain ⟨a1, b1, o1, c1, l1, a2, b2, o2, c2, l2⟩ := s
  obtain ⟨d1, e1, f1, g1, m1, d2, e2, f2, g2, m2⟩ := t
  simp only at h1 h2
  subst h1; subst h2
  have hga := hs.grown (alloc2 w (.cells #[.slice a1 m1.length c1, .slice a2 m2.length c2] 28) (.cells #[.slice d1 m1.length g1, .slice d2 m2.length g2] 28))
  have hgb := ht.grown (alloc2 w (.cells #[.slice a1 m1.length c1, .slice a2 m2.length c2] 28) (.cells #[.slice d1 m1.length g1, .slice d2 m2.length g2] 28))
  obtain ⟨as1, as2⟩ := hga
  obtain ⟨at1, at2⟩ := hgb
  obtain ⟨hl1, hl2⟩ := hl
  simp only at as1 as2 at1 at2 hl1 hl2
  go_enter Try.func17, Try.ntmps17
  go_wp2_with fail
  refine (eqIntS_same a1 b1 o1 c1 d1 e1 f1 g1 m1 _ hl1 as1 at1).mono ?_
  rintro e w1 ⟨rfl, hg1⟩
  obtain ⟨hc1, hf1⟩ := bcell hg1.bel
  go_wp2_with fail
  refine (eqIntS_same a2 b2 o2 c2 d2 e2 f2 g2 m2 _ hl2 (as2.below hg1.bel (Nat.le_refl _)) (at2.below hg1.bel (Nat.le_refl _))).mono ?_
  rintro e w2 ⟨rfl, hg2⟩
  go_wp2_with fail
  go_ret
  exact ⟨rfl, ((alloc2 w _ _).trans hg1).trans hg2⟩

end Go.Proofs.Ytflmejjhnkpodaa

namespace Go.Proofs.Ytflmejjhnkpodaa
open Go.RowKit

theorem IntC.below {w w' : World} {a : Option Addr} {b o n : Nat} (hc : IntC w a b o n) (hb : Below w.heap.size w w') : IntC w' a b o n := by
  refine ⟨hc.addr, fun i hi => ?_, fun hn j => ?_⟩
  · obtain ⟨x, hx⟩ := hc.row i hi
    exact ⟨x, (hb.cell (p := ⟨b, o + i, none⟩) (World.block_lt_of_cell? _ _ hx)).trans hx⟩
  · obtain ⟨x, hx⟩ := hc.row 0 hn
    have hlt : b < w.heap.size := World.block_lt_of_cell? _ _ hx
    exact (hb.frozen (p := ⟨b, j, none⟩) hlt).trans (hc.fz hn j)
/-- What was seen, marked. -/
structure SnM (w : World) (s : Sn) : Prop where
  reads : IntS w s.a1 s.b1 s.o1 (M.seq 1 s.l1.length)
  last : IntS w s.a2 s.b2 s.o2 (M.seq (1 + s.l1.length) s.l2.length)
theorem SnM.below {w w' : World} {s : Sn} (h : SnM w s) (hb : Below w.heap.size w w') : SnM w' s := ⟨h.reads.below hb (Nat.le_refl _), h.last.below hb (Nat.le_refl _)⟩
/-- .. and may be written. -/
structure SnC (w : World) (s : Sn) : Prop where
  reads : IntC w s.a1 s.b1 s.o1 s.l1.length
  last : IntC w s.a2 s.b2 s.o2 s.l2.length
theorem SnC.below {w w' : World} {s : Sn} (h : SnC w s) (hb : Below w.heap.size w w') : SnC w' s := ⟨h.reads.below hb, h.last.below hb⟩
theorem SnC.mk_ {P : Nat → Prop} {w w' : World} {s : Sn} (h : SnC w s) (hm : Mk P w w') : SnC w' s := ⟨h.reads.mk_ hm, h.last.mk_ hm⟩
theorem IntS.mkFar {P : Nat → Prop} {w w' : World} {a : Option Addr} {b o : Nat} {l : List Int} (h : IntS w a b o l) (hm : Mk P w w') (hne : 0 < l.length → ¬ P b) : IntS w' a b o l :=
  ⟨h.addr, fun i hi => by rw [hm.cell (p := ⟨b, o + i, none⟩) (hne (by omega))]; exact h.row i hi⟩

set_option maxHeartbeats 400000 in
theorem markSeen_any (s : Sn) (w : World) (hl : s.Le 1048576) (hne : 0 < s.l1.length → 0 < s.l2.length → s.b1 ≠ s.b2) (h : SnC w s) :
    Calls Try.prog 21 #[.agg #[.slice s.a1 s.l1.length s.c1, .slice s.a2 s.l2.length s.c2], .int .i64 1] w fun e w' => ∃ wa : World, e = .returned (.int .i64 (1 + s.l1.length + s.l2.length)) ∧ wa = w.alloc (.cells #[.slice s.a1 s.l1.length s.c1, .slice s.a2 s.l2.length s.c2] 28) ∧ Mk s.blk wa w' ∧ SnM w' s := by
  have hb1 := below1 w (.cells #[.slice s.a1 s.l1.length s.c1, .slice s.a2 s.l2.length s.c2] 28)
  have k1 : (w.alloc (.cells #[.slice s.a1 s.l1.length s.c1, .slice s.a2 s.l2.length s.c2] 28)).cell? ⟨w.heap.size, 1, none⟩ = some (.slice s.a2 s.l2.length s.c2) := by simp
  have h1 := h.below hb1
  have hl1 := hl.reads
  have hl2 := hl.last
  have C := markIntS_any s.a1 s.b1 s.o1 s.l1.length s.c1 1 _ hl.reads (by omega) (by omega) h1.reads
  go_enter Try.func21, Try.ntmps21
  go_wp2_with fail
  refine C.mono ?_
  rintro e w1 ⟨rfl, n1, mk1⟩
  have k1' := mk1.rest _ _ k1 (fun _ e => by cases e)
  go_wp2_with fail
  refine (markIntS_any s.a2 s.b2 s.o2 s.l2.length s.c2 (1 + s.l1.length) w1 hl.last (by omega) (by omega) (h1.last.mk_ mk1)).mono ?_
  rintro e w2 ⟨rfl, n2, mk2⟩
  go_wp2_with fail
  go_ret
  refine ⟨_, rfl, rfl, (mk1.mono (fun j hj => Or.inl ⟨hj.2, hj.1⟩)).trans (mk2.mono (fun j hj => Or.inr ⟨hj.2, hj.1⟩)), ⟨n1.mkFar mk2 (fun h0 hp => ?_), n2⟩⟩
  rw [M.seq_len] at h0
  exact hne h0 hp.2 hp.1

set_option maxHeartbeats 400000 in
theorem heldSeen_any (s : Sn) (w : World) (hl : s.Le 1048576) (h : SnM w s) :
    Calls Try.prog 23 #[.agg #[.slice s.a1 s.l1.length s.c1, .slice s.a2 s.l2.length s.c2], .int .i64 1] w fun e w' => e = .returned (.int .i64 (1 + s.l1.length + s.l2.length)) ∧ w' = w.alloc (.cells #[.slice s.a1 s.l1.length s.c1, .slice s.a2 s.l2.length s.c2] 28) := by
  have hb1 := below1 w (.cells #[.slice s.a1 s.l1.length s.c1, .slice s.a2 s.l2.length s.c2] 28)
  have h1 := h.below hb1
  have hl1 := hl.reads
  have hl2 := hl.last
  have C := heldIntS_any s.a1 s.b1 s.o1 s.l1.length s.c1 1 _ hl.reads (by omega) (by omega) h1.reads
  have C2 := heldIntS_any s.a2 s.b2 s.o2 s.l2.length s.c2 (1 + s.l1.length) _ hl.last (by omega) (by omega) h1.last
  have p1 : ¬ ((1 : Int) + s.l1.length < 0) := by omega
  have p1' : decide ((1 : Int) + s.l1.length < 0) = false := by simpa using p1
  have p2 : ¬ ((1 : Int) + s.l1.length + s.l2.length < 0) := by omega
  have p2' : decide ((1 : Int) + s.l1.length + s.l2.length < 0) = false := by simpa using p2
  go_enter Try.func23, Try.ntmps23
  go_wp2_with fail
  refine C.mono ?_
  rintro e w1 ⟨rfl, rfl⟩
  go_wp2_with fail
  refine C2.mono ?_
  rintro e w2 ⟨rfl, rfl⟩
  go_wp2_with fail
  go_ret
  exact ⟨rfl, rfl⟩


set_option maxHeartbeats 400000 in
theorem eqSeen_bel (s t : Sn) (w : World) (hl : s.Le 1048576) (h1 : t.l1 = s.l1) (h2 : t.l2 = s.l2) (hs : s.At w) (ht : t.At w) :
    Calls Try.prog 17 #[.agg #[.slice s.a1 s.l1.length s.c1, .slice s.a2 s.l2.length s.c2], .agg #[.slice t.a1 t.l1.length t.c1, .slice t.a2 t.l2.length t.c2]] w fun e w' => e = .returned (.bool true) ∧ Below w.heap.size w w' := by
  obtain ⟨a1, b1, o1, c1, l1, a2, b2, o2, c2, l2⟩ := s
  obtain ⟨d1, e1, f1, g1, m1, d2, e2, f2, g2, m2⟩ := t
  simp only at h1 h2
  subst h1; subst h2
  have hb2 := below2 w (.cells #[.slice a1 m1.length c1, .slice a2 m2.length c2] 28) (.cells #[.slice d1 m1.length g1, .slice d2 m2.length g2] 28)
  obtain ⟨as1, as2⟩ := hs.below hb2 (Nat.le_refl _)
  obtain ⟨at1, at2⟩ := ht.below hb2 (Nat.le_refl _)
  obtain ⟨hl1, hl2⟩ := hl
  simp only at as1 as2 at1 at2 hl1 hl2
  go_enter Try.func17, Try.ntmps17
  go_wp2_with fail
  refine (eqIntS_same a1 b1 o1 c1 d1 e1 f1 g1 m1 _ hl1 as1 at1).mono ?_
  rintro e w1 ⟨rfl, hg1⟩
  obtain ⟨hc1, hf1⟩ := bcell hg1.bel
  go_wp2_with fail
  refine (eqIntS_same a2 b2 o2 c2 d2 e2 f2 g2 m2 _ hl2 (as2.below hg1.bel (Nat.le_refl _)) (at2.below hg1.bel (Nat.le_refl _))).mono ?_
  rintro e w2 ⟨rfl, hg2⟩
  go_wp2_with fail
  go_ret
  have hb3 := hb2.trans (hg1.bel.mono hb2.size)
  exact ⟨rfl, hb3.trans (hg2.bel.mono hb3.size)⟩

set_option maxHeartbeats 400000 in
theorem markSeenK_any (s : Sn) (k : Int) (w : World) (hk0 : 0 ≤ k) (hk1 : k ≤ 4611686018400000000) (hl : s.Le 1048576) (h : SnC w s) :
    Calls Try.prog 21 #[.agg #[.slice s.a1 s.l1.length s.c1, .slice s.a2 s.l2.length s.c2], .int .i64 k] w fun e w' => ∃ wa : World, e = .returned (.int .i64 (k + s.l1.length + s.l2.length)) ∧ wa = w.alloc (.cells #[.slice s.a1 s.l1.length s.c1, .slice s.a2 s.l2.length s.c2] 28) ∧ Mk s.blk wa w' := by
  have hb1 := below1 w (.cells #[.slice s.a1 s.l1.length s.c1, .slice s.a2 s.l2.length s.c2] 28)
  have k1 : (w.alloc (.cells #[.slice s.a1 s.l1.length s.c1, .slice s.a2 s.l2.length s.c2] 28)).cell? ⟨w.heap.size, 1, none⟩ = some (.slice s.a2 s.l2.length s.c2) := by simp
  have h1 := h.below hb1
  have hl1 := hl.reads
  have hl2 := hl.last
  have C := markIntS_any s.a1 s.b1 s.o1 s.l1.length s.c1 k _ hl.reads (by omega) (by omega) h1.reads
  go_enter Try.func21, Try.ntmps21
  go_wp2_with fail
  refine C.mono ?_
  rintro e w1 ⟨rfl, n1, mk1⟩
  have k1' := mk1.rest _ _ k1 (fun _ e => by cases e)
  go_wp2_with fail
  refine (markIntS_any s.a2 s.b2 s.o2 s.l2.length s.c2 (k + s.l1.length) w1 hl.last (by omega) (by omega) (h1.last.mk_ mk1)).mono ?_
  rintro e w2 ⟨rfl, n2, mk2⟩
  go_wp2_with fail
  go_ret
  exact ⟨_, rfl, rfl, (mk1.mono (fun j hj => Or.inl ⟨hj.2, hj.1⟩)).trans (mk2.mono (fun j hj => Or.inr ⟨hj.2, hj.1⟩))⟩

end Go.Proofs.Ytflmejjhnkpodaa

namespace Go.Proofs.Ytflmejjhnkpodaa
open Go.RowKit

theorem cb {W W' : World} {p : Addr} {v : Value} (hb : Below W.heap.size W W') (h : W.cell? p = some v) : W'.cell? p = some v := (hb.cell (p := p) (World.block_lt_of_cell? _ _ h)).trans h

/-- What is seen, laid anew: all its blocks are new ones, from B on. -/
structure NewT (B : Nat) (w : World) (s : Sn) : Prop where
  at_ : s.At w
  ge1 : B ≤ s.b1
  ge2 : B ≤ s.b2
  own : Own2 w s

theorem own_numsF {w : World} {base : Nat} {v : Value} {l : List Int} (h : w.ownsRow base 3 1 v l.length (nums l)) : ∃ a g c, v = .slice a l.length c ∧ IntS w a g 0 l ∧ base ≤ g ∧ (0 < l.length → v.ownBlock = some g ∧ ∀ j, w.frozen? ⟨g, j, none⟩ = false) := by
  rcases h.2 with ⟨hv, hn⟩ | ⟨g, cap, cur, hv, hg, hh, r⟩
  · have : l = [] := List.length_eq_zero_iff.1 hn
    subst this
    exact ⟨none, base, 0, hv, IntS.nil _ _ _ _, Nat.le_refl _, fun h => absurd h (Nat.lt_irrefl _)⟩
  · refine ⟨_, g, cap, hv, ⟨fun _ => rfl, fun i hi => ?_⟩, hg, fun _ => ⟨by rw [hv]; rfl, fun j => by simp [World.frozen?, hh]⟩⟩
    have hc := h.cells (g := g) (by rw [hv]; rfl) i (.int .i64 l[i]) (by simp [nums, hi])
    rwa [Go.WideShapes.add_plain] at hc

theorem TsAns.sn {w w' : World} {v1 v2 : Value} {r1 r2 : List Int} (h : TsAns w w' v1 v2 r1 r2) : ∃ s : Sn, v1 = .slice s.a1 s.l1.length s.c1 ∧ v2 = .slice s.a2 s.l2.length s.c2 ∧ (s.l1 = r1 ∧ s.l2 = r2) ∧ NewT w.heap.size w' s := by
  obtain ⟨a1, g1, c1, e1, i1, ge1, f1⟩ := own_numsF h.o1
  obtain ⟨a2, g2, c2, e2, i2, ge2, f2⟩ := own_numsF h.o2
  refine ⟨⟨a1, g1, 0, c1, r1, a2, g2, 0, c2, r2⟩, e1, e2, ⟨rfl, rfl⟩, ⟨i1, i2⟩, ge1, ge2, ⟨fun p1 p2 e => ?_, fun b hb j => ?_⟩⟩
  · have e' : g1 = g2 := e
    exact h.ap g1 (f1 p1).1 (by rw [e']; exact (f2 p2).1)
  · rcases hb with ⟨hl, e⟩ | ⟨hl, e⟩
    · have e' : b = g1 := e
      rw [e']; exact (f1 hl).2 j
    · have e' : b = g2 := e
      rw [e']; exact (f2 hl).2 j

theorem its_any (a : Option Addr) (b o c : Nat) (ll : List (List M.D)) (s : Sn) (y1 y2 B : Nat) (ga : Option Addr) (gb go gc : Nat) (gs : List Int) (ok : Bool) (r1 r2 : List Int) (w : World) (hl : ll.length ≤ 1048576) (_hpc : ll.length ≤ c) (hls : ∀ t ∈ ll, t.length ≤ 1048576) (hs : s.Le 1048576) (hgl : gs.length ≤ 1048576) (hok : (M.turnSeen ll s.l1 s.l2 gs).isSome = ok) (hr1 : ((M.turnSeen ll s.l1 s.l2 gs).getD ([], [])).1 = r1) (hr2 : ((M.turnSeen ll s.l1 s.l2 gs).getD ([], [])).2 = r2) (h : DoSS w a b o ll) (hy : NewSn w B y1 y2 s.l1 s.l2) (hG : IntS w ga gb go gs) :
    Calls Try.prog 7 #[.agg #[.slice a ll.length c], .agg #[.slice (some ⟨y1, 0, none⟩) s.l1.length s.l1.length, .slice (some ⟨y2, 0, none⟩) s.l2.length s.l2.length], .slice ga gs.length gc] w fun e w' => ∃ t : Sn, e = .returned (.tuple #[.agg #[.slice t.a1 t.l1.length t.c1, .slice t.a2 t.l2.length t.c2], .bool ok]) ∧ Hid (t.l1 = r1 ∧ t.l2 = r2) ∧ NewT w.heap.size w' t ∧ Below w.heap.size w w' := by
  subst hok
  subst hr1
  subst hr2
  refine (iturnSeen_any a b o c ll hl hls (newSn y1 y2 s.l1 s.l2) ⟨hs.1, hs.2⟩ (Nat.le_refl _) ga gb go gc gs hgl w h hy.at hG).mono fun e w' ⟨v1, v2, he, hA⟩ => ?_
  obtain ⟨t, rfl, rfl, ht, hn⟩ := hA.sn
  exact ⟨t, he, ht, hn, hA.bel⟩

theorem sts_any (a : Option Addr) (b o c : Nat) (ll : List (List M.D)) (s : Sn) (y1 y2 B : Nat) (ga : Option Addr) (gb go gc : Nat) (gs : List Int) (ok : Bool) (r1 r2 : List Int) (w : World) (hl : ll.length ≤ 1048576) (hpc : ll.length ≤ c) (hls : ∀ t ∈ ll, t.length ≤ 1048576) (hs : s.Le 1048576) (hgl : gs.length ≤ 1048576) (hok : (M.turnSeen ll s.l1 s.l2 gs).isSome = ok) (hr1 : ((M.turnSeen ll s.l1 s.l2 gs).getD ([], [])).1 = r1) (hr2 : ((M.turnSeen ll s.l1 s.l2 gs).getD ([], [])).2 = r2) (h : DoSS w a b o ll) (hy : NewSn w B y1 y2 s.l1 s.l2) (hG : IntS w ga gb go gs) :
    Calls Try.prog 6 #[.agg #[.slice a ll.length c], .agg #[.slice (some ⟨y1, 0, none⟩) s.l1.length s.l1.length, .slice (some ⟨y2, 0, none⟩) s.l2.length s.l2.length], .slice ga gs.length gc] w fun e w' => ∃ t : Sn, e = .returned (.tuple #[.agg #[.slice t.a1 t.l1.length t.c1, .slice t.a2 t.l2.length t.c2], .bool ok]) ∧ Hid (t.l1 = r1 ∧ t.l2 = r2) ∧ NewT w.heap.size w' t ∧ Below w.heap.size w w' := by
  subst hok
  subst hr1
  subst hr2
  refine (sturnSeen_any a b o c ll hl hpc hls (newSn y1 y2 s.l1 s.l2) ⟨hs.1, hs.2⟩ (Nat.le_refl _) ga gb go gc gs hgl w h hy.at hG).mono fun e w' ⟨v1, v2, he, hA⟩ => ?_
  obtain ⟨t, rfl, rfl, ht, hn⟩ := hA.sn
  exact ⟨t, he, ht, hn, hA.bel⟩

theorem M.turnSeen_small {ll : List (List M.D)} {l1 l2 gs : List Int} {r1 r2 : List Int} (h1 : ((M.turnSeen ll l1 l2 gs).getD ([], [])).1 = r1) (h2 : ((M.turnSeen ll l1 l2 gs).getD ([], [])).2 = r2) : r1.length ≤ 1048576 ∧ r2.length ≤ 1048576 := by
  cases hp : M.seenOk ll l1 l2
  · rw [M.turnSeen_bad hp] at h1 h2
    subst h1; subst h2; simp
  · cases hr : M.rowN gs ll.length
    · rw [M.turnSeen_row hr] at h1 h2
      subst h1; subst h2; simp
    · rw [M.turnSeen_yes hp hr] at h1 h2
      obtain ⟨hpg, hl1, hl2⟩ := M.seenOk_len hp
      obtain ⟨h3, h7⟩ := M.prog_le hpg
      have e1 : (M.pick [] gs (M.parts ll l1)).flatten = r1 := h1
      have e2 : l2 = r2 := h2
      subst e1; subst e2
      refine ⟨?_, by omega⟩
      rw [M.lens_flat]
      have k1 := M.lens_pick gs l1.length (M.parts ll l1) (M.parts_small ll l1)
      have k2 := M.rowN_len hr
      have k3 := (M.prog_uses hpg).1
      have k4 := M.tot_mono (f := M.reads) (g := M.uses) (fun k hk => by simp [M.uses, hk]) ll
      have k5 : l1.length * gs.length ≤ 6 * 3 := Nat.mul_le_mul (by omega) (by omega)
      omega

/-- What stands through the law's calls: the boxes of its arguments, and the arguments. -/
structure St3 (w W : World) (a : Option Addr) (b o c : Nat) (ll : List (List M.D)) (t : Sn) (ga : Option Addr) (gb go : Nat) (gs : List Int) : Prop where
  bel : Below w.heap.size w W
  p0 : W.cell? ⟨w.heap.size, 0, none⟩ = some (.slice a ll.length c)
  q0 : W.cell? ⟨w.heap.size + 1, 0, none⟩ = some (.slice t.a1 t.l1.length t.c1)
  q1 : W.cell? ⟨w.heap.size + 1, 1, none⟩ = some (.slice t.a2 t.l2.length t.c2)
  sa : DoSS W a b o ll
  ta : t.At W
  gi : IntS W ga gb go gs
theorem St3.lt {w W : World} {a : Option Addr} {b o c : Nat} {ll : List (List M.D)} {t : Sn} {ga : Option Addr} {gb go : Nat} {gs : List Int} (h : St3 w W a b o c ll t ga gb go gs) : w.heap.size + 1 < W.heap.size := World.block_lt_of_cell? _ _ h.q0
theorem St3.below {w W W' : World} {a : Option Addr} {b o c : Nat} {ll : List (List M.D)} {t : Sn} {ga : Option Addr} {gb go : Nat} {gs : List Int} (h : St3 w W a b o c ll t ga gb go gs) (hb : Below W.heap.size W W') : St3 w W' a b o c ll t ga gb go gs :=
  ⟨h.bel.trans (hb.mono h.bel.size), cb hb h.p0, cb hb h.q0, cb hb h.q1, h.sa.below hb (Nat.le_refl _), h.ta.below hb (Nat.le_refl _), h.gi.below hb (Nat.le_refl _)⟩
/-- A variable of what was seen. -/
structure BxT (W : World) (X : Nat) (s : Sn) : Prop where
  c0 : W.cell? ⟨X, 0, none⟩ = some (.slice s.a1 s.l1.length s.c1)
  c1 : W.cell? ⟨X, 1, none⟩ = some (.slice s.a2 s.l2.length s.c2)
  at_ : s.At W
theorem BxT.lt {W : World} {X : Nat} {s : Sn} (h : BxT W X s) : X < W.heap.size := World.block_lt_of_cell? _ _ h.c0
theorem BxT.below {W W' : World} {X : Nat} {s : Sn} (h : BxT W X s) (hb : Below W.heap.size W W') : BxT W' X s := ⟨cb hb h.c0, cb hb h.c1, h.at_.below hb (Nat.le_refl _)⟩
theorem BxT.new {W : World} {s : Sn} (h : s.At W) : BxT (W.alloc (.cells #[.slice s.a1 s.l1.length s.c1, .slice s.a2 s.l2.length s.c2] 28)) W.heap.size s := ⟨by simp, by simp, h.below (below1 _ _) (Nat.le_refl _)⟩

end Go.Proofs.Ytflmejjhnkpodaa
