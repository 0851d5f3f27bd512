/- Turning about, plainly: rows of numbers, threads, places and values turned, programs side by side, plain ones. No condition. -/
import Derived.Test.YtnaljfnijcoheaaMathN
import Derived.Test.YtnaljfnijcoheaaCont
namespace Go.Proofs.Ytnaljfnijcoheaa
namespace M

/-- The numbers below one. -/
def bel (n : Nat) : List Int := (List.range n).map fun i : Nat => (i : Int)
theorem bel_len (n : Nat) : (bel n).length = n := by simp [bel]
theorem bel_get (n i : Nat) (h : i < (bel n).length) : (bel n)[i] = (i : Int) := by simp [bel]
theorem bel_succ (n : Nat) : bel (n + 1) = bel n ++ [(n : Int)] := by simp [bel, List.range_succ]
theorem bel_mem {n : Nat} {x : Int} : x ∈ bel n ↔ 0 ≤ x ∧ x < n := by
  simp only [bel, List.mem_map, List.mem_range]
  constructor
  · rintro ⟨a, ha, rfl⟩; omega
  · rintro ⟨h1, h2⟩; exact ⟨x.toNat, by omega, by omega⟩
theorem bel_nodup (n : Nat) : (bel n).Nodup := by
  induction n with
  | zero => simp [bel]
  | succ n ih =>
    rw [bel_succ, List.nodup_append]
    refine ⟨ih, by simp, fun x hx y hy => ?_⟩
    have := (bel_mem.1 hx).2
    simp at hy
    omega

/-- Of as many, none lacks. -/
def rowOf (row evs : List Int) : Bool := decide (row.length = evs.length) && evs.all (fun v => has row v)
theorem rowOf_short {row evs : List Int} (h : ¬ row.length = evs.length) : rowOf row evs = false := by simp [rowOf, h]
theorem rowOf_same {row evs : List Int} (h : row.length = evs.length) : rowOf row evs = evs.all (fun v => has row v) := by simp [rowOf, h]
theorem rowAll_step {row evs : List Int} {n : Nat} (h : evs.all (fun v => has row v) = (evs.drop n).all (fun v => has row v)) (hn : n < evs.length) : evs.all (fun v => has row v) = (has row evs[n] && (evs.drop (n + 1)).all (fun v => has row v)) := by
  rw [h, ← List.getElem_cons_drop hn, List.all_cons]
/-- A row of so many. -/
def rowN (row : List Int) (n : Nat) : Bool := rowOf row (bel n)

theorem nodupI_le : ∀ {l m : List Int}, l.Nodup → (∀ x ∈ l, x ∈ m) → l.length ≤ m.length := by
  intro l
  induction l with
  | nil => intro m _ _; simp
  | cons x l ih =>
    intro m hn hs
    rw [List.nodup_cons] at hn
    have hx := hs x (by simp)
    have h1 := ih (m := m.erase x) hn.2 (fun y hy => by
      have hne : y ≠ x := fun e => hn.1 (by rw [← e]; exact hy)
      exact (List.mem_erase_of_ne hne).2 (hs y (List.mem_cons_of_mem _ hy)))
    have h2 := List.length_erase_of_mem hx
    have h3 : 0 < m.length := List.length_pos_of_mem hx
    simp only [List.length_cons]
    omega
theorem nodupI_all {l m : List Int} (hn : l.Nodup) (hs : ∀ x ∈ l, x ∈ m) (hlen : m.length = l.length) : ∀ y ∈ m, y ∈ l := by
  intro y hy
  apply Classical.byContradiction
  intro hc
  have h1 := nodupI_le (l := y :: l) (m := m) (List.nodup_cons.2 ⟨hc, hn⟩) (fun x hx => by
    rcases List.mem_cons.1 hx with rfl | hx
    · exact hy
    · exact hs x hx)
  simp only [List.length_cons] at h1
  omega

theorem rowN_len {row : List Int} {n : Nat} (h : rowN row n = true) : row.length = n := by
  simp only [rowN, rowOf, Bool.and_eq_true, decide_eq_true_eq, bel_len] at h; exact h.1
theorem rowN_all {row : List Int} {n : Nat} (h : rowN row n = true) : ∀ x ∈ bel n, x ∈ row := by
  simp only [rowN, rowOf, Bool.and_eq_true, List.all_eq_true, has, List.contains_eq_mem, decide_eq_true_eq] at h; exact h.2
theorem rowN_mem {row : List Int} {n : Nat} (h : rowN row n = true) : ∀ x ∈ row, 0 ≤ x ∧ x < n := fun x hx =>
  bel_mem.1 (nodupI_all (bel_nodup n) (rowN_all h) (by rw [rowN_len h, bel_len]) x hx)
theorem rowN_get {row : List Int} {n : Nat} (h : rowN row n = true) (i : Nat) (hi : i < row.length) : 0 ≤ row[i] ∧ row[i] < n := rowN_mem h _ (List.getElem_mem hi)
theorem rowN_bel (n : Nat) : rowN (bel n) n = true := by
  simp only [rowN, rowOf, Bool.and_eq_true, decide_eq_true_eq, List.all_eq_true, has, List.contains_eq_mem]
  exact ⟨trivial, fun x hx => hx⟩

/-- The things with these numbers. -/
def pick {α : Type} (z : α) (row : List Int) (l : List α) : List α := row.map fun i => l.getD i.toNat z
theorem pick_len {α : Type} (z : α) (row : List Int) (l : List α) : (pick z row l).length = row.length := by simp [pick]
theorem pick_take {α : Type} (z : α) (row : List Int) (l : List α) (n : Nat) (h : n < row.length) : pick z (row.take (n + 1)) l = pick z (row.take n) l ++ [l.getD row[n].toNat z] := by
  rw [List.take_succ_eq_append_getElem h]; unfold pick; rw [List.map_append]; rfl
theorem getD_get {α : Type} {z : α} {l : List α} {i : Nat} (h : i < l.length) : l.getD i z = l[i] := by
  rw [List.getD_eq_getElem?_getD, List.getElem?_eq_getElem h]; rfl
theorem pick_bel {α : Type} (z : α) (l : List α) : pick z (bel l.length) l = l := by
  apply List.ext_getElem
  · simp [pick, bel]
  · intro i h1 h2
    simp only [pick, List.getElem_map, bel_get]
    exact getD_get h2
theorem pick_mem {α : Type} {z : α} {row : List Int} {l : List α} {t : α} (h : t ∈ pick z row l) : t ∈ l ∨ t = z := by
  simp only [pick, List.mem_map] at h
  obtain ⟨i, _, rfl⟩ := h
  by_cases hi : i.toNat < l.length
  · rw [getD_get hi]; exact Or.inl (List.getElem_mem hi)
  · right; rw [List.getD_eq_getElem?_getD, List.getElem?_eq_none (by omega)]; rfl

def turnThreads (ll : List (List D)) (row : List Int) : Option (List (List D)) := if prog ll && rowN row ll.length then some (pick [] row ll) else none
theorem turnThreads_bad {ll : List (List D)} {row : List Int} (h : prog ll = false) : turnThreads ll row = none := by simp [turnThreads, h]
theorem turnThreads_row {ll : List (List D)} {row : List Int} (h : rowN row ll.length = false) : turnThreads ll row = none := by simp [turnThreads, h]
theorem turnThreads_yes {ll : List (List D)} {row : List Int} (h : prog ll = true) (h2 : rowN row ll.length = true) : turnThreads ll row = some (pick [] row ll) := by simp [turnThreads, h, h2]
theorem turnThreads_some {ll mm : List (List D)} {row : List Int} (h : turnThreads ll row = some mm) : prog ll = true ∧ rowN row ll.length = true ∧ mm = pick [] row ll := by
  unfold turnThreads at h
  split at h
  · rename_i hc
    simp only [Bool.and_eq_true] at hc
    exact ⟨hc.1, hc.2, (Option.some.inj h).symm⟩
  · cases h
theorem turnThreads_small {ll mm : List (List D)} {row : List Int} (e : (turnThreads ll row).getD [] = mm) : mm.length ≤ 3 ∧ ∀ t ∈ mm, t.length ≤ 7 := by
  cases h : turnThreads ll row with
  | none => rw [h] at e; subst e; simp
  | some x =>
    rw [h] at e
    obtain rfl : x = mm := e
    obtain ⟨h1, h2, rfl⟩ := turnThreads_some h
    obtain ⟨h3, h7⟩ := prog_le h1
    refine ⟨by rw [pick_len, rowN_len h2]; exact h3, fun t ht => ?_⟩
    rcases pick_mem ht with ht | rfl
    · exact h7 t ht
    · simp

/-- Each step another one. -/
def mapS (f : D → D) (ll : List (List D)) : List (List D) := ll.map fun t => t.map f
theorem mapS_len (f : D → D) (ll : List (List D)) : (mapS f ll).length = ll.length := by simp [mapS]
theorem mapS_small {f : D → D} {ll : List (List D)} (h7 : ∀ t ∈ ll, t.length ≤ 7) : ∀ t ∈ mapS f ll, t.length ≤ 7 := by
  intro t ht
  simp only [mapS, List.mem_map] at ht
  obtain ⟨u, hu, rfl⟩ := ht
  rw [List.length_map]; exact h7 u hu
theorem mapS_take (f : D → D) (ll : List (List D)) (n : Nat) (h : n < ll.length) : mapS f (ll.take (n + 1)) = mapS f (ll.take n) ++ [ll[n].map f] := by
  rw [List.take_succ_eq_append_getElem h]; unfold mapS; rw [List.map_append]; rfl

def placeF (row : List Int) (d : D) : D := if uses d.k then ⟨d.k, row.getD d.p.toNat 0, d.v⟩ else d
def valF (row : List Int) (d : D) : D := ⟨d.k, d.p, row.getD d.v.toNat 0⟩
def plainK (k : Int) : Int := if k = 5 then 2 else if k = 6 then 1 else k
def plainF (d : D) : D := ⟨plainK d.k, d.p, d.v⟩

def turnPlaces (ll : List (List D)) (row : List Int) : Option (List (List D)) := if prog ll && rowN row 3 then some (mapS (placeF row) ll) else none
theorem turnPlaces_bad {ll : List (List D)} {row : List Int} (h : prog ll = false) : turnPlaces ll row = none := by simp [turnPlaces, h]
theorem turnPlaces_row {ll : List (List D)} {row : List Int} (h : rowN row 3 = false) : turnPlaces ll row = none := by simp [turnPlaces, h]
theorem turnPlaces_yes {ll : List (List D)} {row : List Int} (h : prog ll = true) (h2 : rowN row 3 = true) : turnPlaces ll row = some (mapS (placeF row) ll) := by simp [turnPlaces, h, h2]
theorem turnPlaces_some {ll mm : List (List D)} {row : List Int} (h : turnPlaces ll row = some mm) : prog ll = true ∧ rowN row 3 = true ∧ mm = mapS (placeF row) ll := by
  unfold turnPlaces at h
  split at h
  · rename_i hc
    simp only [Bool.and_eq_true] at hc
    exact ⟨hc.1, hc.2, (Option.some.inj h).symm⟩
  · cases h
theorem turnPlaces_small {ll mm : List (List D)} {row : List Int} (e : (turnPlaces ll row).getD [] = mm) : mm.length ≤ 3 ∧ ∀ t ∈ mm, t.length ≤ 7 := by
  cases h : turnPlaces ll row with
  | none => rw [h] at e; subst e; simp
  | some x =>
    rw [h] at e
    obtain rfl : x = mm := e
    obtain ⟨h1, h2, rfl⟩ := turnPlaces_some h
    obtain ⟨h3, h7⟩ := prog_le h1
    exact ⟨by rw [mapS_len]; exact h3, mapS_small h7⟩

def turnVals (ll : List (List D)) (row : List Int) : Option (List (List D)) := if prog ll && rowN row 4 && row.getD 0 0 == 0 then some (mapS (valF row) ll) else none
theorem turnVals_bad {ll : List (List D)} {row : List Int} (h : prog ll = false) : turnVals ll row = none := by simp [turnVals, h]
theorem turnVals_row {ll : List (List D)} {row : List Int} (h : rowN row 4 = false) : turnVals ll row = none := by simp [turnVals, h]
theorem turnVals_first {ll : List (List D)} {row : List Int} (h : (row.getD 0 0 == 0) = false) : turnVals ll row = none := by simp only [turnVals, h]; simp
theorem turnVals_yes {ll : List (List D)} {row : List Int} (h : prog ll = true) (h2 : rowN row 4 = true) (h3 : (row.getD 0 0 == 0) = true) : turnVals ll row = some (mapS (valF row) ll) := by simp only [turnVals, h, h2, h3]; simp
theorem turnVals_some {ll mm : List (List D)} {row : List Int} (h : turnVals ll row = some mm) : prog ll = true ∧ rowN row 4 = true ∧ row.getD 0 0 = 0 ∧ mm = mapS (valF row) ll := by
  unfold turnVals at h
  split at h
  · rename_i hc
    simp only [Bool.and_eq_true, beq_iff_eq] at hc
    exact ⟨hc.1.1, hc.1.2, hc.2, (Option.some.inj h).symm⟩
  · cases h
theorem turnVals_small {ll mm : List (List D)} {row : List Int} (e : (turnVals ll row).getD [] = mm) : mm.length ≤ 3 ∧ ∀ t ∈ mm, t.length ≤ 7 := by
  cases h : turnVals ll row with
  | none => rw [h] at e; subst e; simp
  | some x =>
    rw [h] at e
    obtain rfl : x = mm := e
    obtain ⟨h1, h2, _, rfl⟩ := turnVals_some h
    obtain ⟨h3, h7⟩ := prog_le h1
    exact ⟨by rw [mapS_len]; exact h3, mapS_small h7⟩

def turnPlain (ll : List (List D)) : List (List D) := if prog ll then mapS plainF ll else []
theorem turnPlain_bad {ll : List (List D)} (h : prog ll = false) : turnPlain ll = [] := by simp [turnPlain, h]
theorem turnPlain_yes {ll : List (List D)} (h : prog ll = true) : turnPlain ll = mapS plainF ll := by simp [turnPlain, h]
theorem turnPlain_small {ll mm : List (List D)} (e : turnPlain ll = mm) : mm.length ≤ 3 ∧ ∀ t ∈ mm, t.length ≤ 7 := by
  subst e
  cases h : prog ll with
  | false => rw [turnPlain_bad h]; simp
  | true =>
    rw [turnPlain_yes h]
    obtain ⟨h3, h7⟩ := prog_le h
    exact ⟨by rw [mapS_len]; exact h3, mapS_small h7⟩

def turnBeside (ll mm : List (List D)) : Option (List (List D)) := if prog ll && prog mm && prog (ll ++ mm) then some (ll ++ mm) else none
theorem turnBeside_bad {ll mm : List (List D)} (h : prog ll = false) : turnBeside ll mm = none := by simp [turnBeside, h]
theorem turnBeside_bad2 {ll mm : List (List D)} (h : prog mm = false) : turnBeside ll mm = none := by simp [turnBeside, h]
theorem turnBeside_bad3 {ll mm : List (List D)} (h : prog (ll ++ mm) = false) : turnBeside ll mm = none := by simp [turnBeside, h]
theorem turnBeside_yes {ll mm : List (List D)} (h : prog ll = true) (h2 : prog mm = true) (h3 : prog (ll ++ mm) = true) : turnBeside ll mm = some (ll ++ mm) := by simp [turnBeside, h, h2, h3]
theorem turnBeside_some {ll mm nn : List (List D)} (h : turnBeside ll mm = some nn) : prog ll = true ∧ prog mm = true ∧ prog (ll ++ mm) = true ∧ nn = ll ++ mm := by
  unfold turnBeside at h
  split at h
  · rename_i hc
    simp only [Bool.and_eq_true] at hc
    exact ⟨hc.1.1, hc.1.2, hc.2, (Option.some.inj h).symm⟩
  · cases h
theorem turnBeside_small {ll mm nn : List (List D)} (e : (turnBeside ll mm).getD [] = nn) : nn.length ≤ 3 ∧ ∀ t ∈ nn, t.length ≤ 7 := by
  cases h : turnBeside ll mm with
  | none => rw [h] at e; subst e; simp
  | some x =>
    rw [h] at e
    obtain rfl : x = nn := e
    obtain ⟨_, _, h1, rfl⟩ := turnBeside_some h
    exact prog_le h1
end M
end Go.Proofs.Ytnaljfnijcoheaa
