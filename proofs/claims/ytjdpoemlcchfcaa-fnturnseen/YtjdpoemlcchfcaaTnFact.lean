/- Rows of few numbers, turned back; programs whose threads, places or values are turned are programs. No condition. -/
import Derived.Test.YtjdpoemlcchfcaaTnMath
namespace Go.Proofs.Ytjdpoemlcchfcaa
namespace M

/-- Where the numbers of a row stand: those of the first so many. -/
def backUpto (row : List Int) : Nat → List Int
  | 0 => List.replicate row.length 0
  | k + 1 => (backUpto row k).set (row.getD k 0).toNat k
def back (row : List Int) : List Int := backUpto row row.length
theorem backUpto_len (row : List Int) (k : Nat) : (backUpto row k).length = row.length := by
  induction k with
  | zero => simp [backUpto]
  | succ k ih => rw [backUpto, List.length_set, ih]
theorem back_len (row : List Int) : (back row).length = row.length := backUpto_len _ _

theorem three_of {x : Int} (h : 0 ≤ x ∧ x < 3) : x = 0 ∨ x = 1 ∨ x = 2 := by omega
theorem four_of {x : Int} (h : 0 ≤ x ∧ x < 4) : x = 0 ∨ x = 1 ∨ x = 2 ∨ x = 3 := by omega
theorem row0 {row : List Int} (h : rowN row 0 = true) : row = [] := List.length_eq_zero_iff.1 (rowN_len h)
theorem row1 {row : List Int} (h : rowN row 1 = true) : row = [0] := by
  match row, rowN_len h, rowN_mem h with
  | [x], _, hm => have := hm x (by simp); congr 1; omega
theorem row2 {row : List Int} (h : rowN row 2 = true) : row = [0, 1] ∨ row = [1, 0] := by
  match row, rowN_len h, rowN_mem h, h with
  | [x, y], _, hm, h =>
    have hx := hm x (by simp)
    have hy := hm y (by simp)
    have hx : x = 0 ∨ x = 1 := by omega
    have hy : y = 0 ∨ y = 1 := by omega
    clear hm
    rcases hx with rfl | rfl <;> rcases hy with rfl | rfl <;> first | (exact absurd h (by decide)) | simp
theorem row3 {row : List Int} (h : rowN row 3 = true) : row = [0, 1, 2] ∨ row = [0, 2, 1] ∨ row = [1, 0, 2] ∨ row = [1, 2, 0] ∨ row = [2, 0, 1] ∨ row = [2, 1, 0] := by
  match row, rowN_len h, rowN_mem h, h with
  | [x, y, z], _, hm, h =>
    have hx := three_of (hm x (by simp))
    have hy := three_of (hm y (by simp))
    have hz := three_of (hm z (by simp))
    clear hm
    rcases hx with rfl | rfl | rfl <;> rcases hy with rfl | rfl | rfl <;> rcases hz with rfl | rfl | rfl <;> first | (exact absurd h (by decide)) | simp
theorem row4 {row : List Int} (h : rowN row 4 = true) (h0 : row.getD 0 0 = 0) : row = [0, 1, 2, 3] ∨ row = [0, 1, 3, 2] ∨ row = [0, 2, 1, 3] ∨ row = [0, 2, 3, 1] ∨ row = [0, 3, 1, 2] ∨ row = [0, 3, 2, 1] := by
  match row, rowN_len h, rowN_mem h, h, h0 with
  | [x, y, z, u], _, hm, h, h0 =>
    have hy := four_of (hm y (by simp))
    have hz := four_of (hm z (by simp))
    have hu := four_of (hm u (by simp))
    obtain rfl : x = 0 := by simpa using h0
    clear hm h0
    rcases hy with rfl | rfl | rfl | rfl <;> rcases hz with rfl | rfl | rfl | rfl <;> rcases hu with rfl | rfl | rfl | rfl <;> first | (exact absurd h (by decide)) | simp

/-- How many steps there are. -/
def stp : List (List D) → Nat
  | [] => 0
  | t :: l => t.length + stp l
theorem from_iff (l : List (List D)) : ∀ a u : Nat, progFrom a u l = true ↔ (∀ t ∈ l, thread t = true) ∧ a + stp l ≤ 14 ∧ u + tot uses l ≤ 6 := by
  induction l with
  | nil => intro a u; simp [progFrom, stp, tot]
  | cons t l ih =>
    intro a u
    by_cases hb : thread t = true
    · simp only [progFrom, hb, if_true, ih, stp, tot, List.mem_cons, forall_eq_or_imp, true_and]
      constructor
      · rintro ⟨h1, h2, h3⟩; exact ⟨h1, by omega, by omega⟩
      · rintro ⟨h1, h2, h3⟩; exact ⟨h1, by omega, by omega⟩
    · simp [progFrom, hb]
theorem prog_iff (l : List (List D)) : prog l = true ↔ l.length ≤ 3 ∧ (∀ t ∈ l, thread t = true) ∧ stp l ≤ 14 ∧ tot uses l ≤ 6 := by
  simp only [prog, Bool.and_eq_true, decide_eq_true_eq, from_iff, Nat.zero_add]

theorem threads_back {ll : List (List D)} {row : List Int} (h : prog ll = true) (hr : rowN row ll.length = true) :
    prog (pick [] row ll) = true ∧ tot reads (pick [] row ll) = tot reads ll ∧ rowN (back row) (pick [] row ll).length = true ∧ pick [] (back row) (pick [] row ll) = ll := by
  have h3 := (prog_le h).1
  rw [prog_iff] at h ⊢
  obtain ⟨_, h1, h2, h4⟩ := h
  match ll, h3, hr with
  | [], _, hr => obtain rfl := row0 hr; exact ⟨by simp [pick, stp, tot], rfl, rfl, rfl⟩
  | [a], _, hr =>
    obtain rfl := row1 hr
    exact ⟨⟨by simp [pick], by simpa [pick] using h1, by simpa [pick] using h2, by simpa [pick] using h4⟩, rfl, by rw [pick_len]; decide, rfl⟩
  | [a, b], _, hr =>
    simp only [List.mem_cons, List.not_mem_nil, or_false, forall_eq_or_imp, forall_eq] at h1
    simp only [stp, tot] at h2 h4
    rcases row2 hr with rfl | rfl <;> refine ⟨⟨by simp [pick], by simp [pick, h1], by simp [pick, stp]; omega, by simp [pick, tot]; omega⟩, by simp [pick, tot]; try omega, by rw [pick_len]; decide, rfl⟩
  | [a, b, c], _, hr =>
    simp only [List.mem_cons, List.not_mem_nil, or_false, forall_eq_or_imp, forall_eq] at h1
    simp only [stp, tot] at h2 h4
    rcases row3 hr with rfl | rfl | rfl | rfl | rfl | rfl <;> refine ⟨⟨by simp [pick], by simp [pick, h1], by simp [pick, stp]; omega, by simp [pick, tot]; omega⟩, by simp [pick, tot]; try omega, by rw [pick_len]; decide, rfl⟩

/-- A change of steps that leaves all that is asked of a program. -/
structure Kept (f : D → D) (P : D → Prop) : Prop where
  ok : ∀ d, P d → doOk d = true → doOk (f d) = true
  r : ∀ d, reads (f d).k = reads d.k
  u : ∀ d, uses (f d).k = uses d.k
  k3 : ∀ d, ((f d).k == 3) = (d.k == 3)
  k7 : ∀ d, ((f d).k == 7) = (d.k == 7)
  k8 : ∀ d, ((f d).k == 8) = (d.k == 8)
  k9 : ∀ d, ((f d).k == 9) = (d.k == 9)
theorem Kept.copies {f : D → D} {P : D → Prop} (h : Kept f P) (l : List D) : ∀ r, copies r (l.map f) = copies r l := by
  induction l with
  | nil => intro r; rfl
  | cons d l ih => intro r; simp only [List.map_cons, M.copies, h.k3, h.r, ih]
theorem Kept.readers {f : D → D} {P : D → Prop} (h : Kept f P) (l : List D) : ∀ i, readers i (l.map f) = readers i l := by
  induction l with
  | nil => intro i; rfl
  | cons d l ih => intro i; simp only [List.map_cons, M.readers, h.k7, h.k8, h.k9, ih]
theorem Kept.cnt {f : D → D} {P : D → Prop} (h : Kept f P) (l : List D) : cnt uses (l.map f) = cnt uses l := by
  induction l with
  | nil => rfl
  | cons d l ih => rw [List.map_cons, cnt_cons, cnt_cons, h.u, ih]
theorem Kept.cntR {f : D → D} {P : D → Prop} (h : Kept f P) (l : List D) : M.cnt M.reads (l.map f) = M.cnt M.reads l := by
  induction l with
  | nil => rfl
  | cons d l ih => rw [List.map_cons, cnt_cons, cnt_cons, h.r, ih]
theorem Kept.tot {f : D → D} {P : D → Prop} (h : Kept f P) (ll : List (List D)) : tot uses (mapS f ll) = tot uses ll ∧ tot M.reads (mapS f ll) = tot M.reads ll ∧ stp (mapS f ll) = stp ll := by
  induction ll with
  | nil => exact ⟨rfl, rfl, rfl⟩
  | cons t ll ih =>
    obtain ⟨i1, i2, i3⟩ := ih
    unfold mapS at i1 i2 i3 ⊢
    simp only [List.map_cons, M.tot, stp, h.cnt, h.cntR, i1, i2, i3, List.length_map]
    simp
theorem Kept.thread {f : D → D} {P : D → Prop} (h : Kept f P) {t : List D} (ht : thread t = true) (hP : ∀ d ∈ t, P d) : M.thread (t.map f) = true := by
  simp only [M.thread, form, Bool.and_eq_true, decide_eq_true_eq, List.all_eq_true, List.length_map, h.copies, h.readers] at ht ⊢
  refine ⟨⟨⟨ht.1.1.1, fun d hd => ?_⟩, ht.1.2⟩, ht.2⟩
  obtain ⟨x, hx, rfl⟩ := List.mem_map.1 hd
  exact h.ok x (hP x hx) (ht.1.1.2 x hx)
theorem Kept.prog {f : D → D} {P : D → Prop} (h : Kept f P) {ll : List (List D)} (hp : prog ll = true) (hP : ∀ t ∈ ll, ∀ d ∈ t, P d) : M.prog (mapS f ll) = true := by
  rw [prog_iff] at hp ⊢
  obtain ⟨h1, h2, h3, h4⟩ := hp
  obtain ⟨k1, _, k3⟩ := h.tot ll
  refine ⟨by rw [mapS_len]; exact h1, fun t ht => ?_, by rw [k3]; exact h3, by rw [k1]; exact h4⟩
  obtain ⟨x, hx, rfl⟩ := List.mem_map.1 ht
  exact h.thread (h2 x hx) (hP x hx)

theorem place_kept {row : List Int} (hr : rowN row 3 = true) : Kept (placeF row) (fun _ => True) := by
  have hk : ∀ d, (placeF row d).k = d.k := fun d => by unfold placeF; split <;> rfl
  refine ⟨fun d _ hd => ?_, fun d => by rw [hk], fun d => by rw [hk], fun d => by rw [hk], fun d => by rw [hk], fun d => by rw [hk], fun d => by rw [hk]⟩
  unfold placeF
  cases hu : uses d.k
  · simpa using hd
  · simp only [if_true]
    simp only [doOk, placeOk, hu, if_true, Bool.and_eq_true, decide_eq_true_eq] at hd ⊢
    refine ⟨⟨hd.1.1, ?_⟩, hd.2⟩
    have hl := rowN_len hr
    rw [getD_get (by omega)]
    exact rowN_get hr _ (by omega)
theorem place_back {row : List Int} (hr : rowN row 3 = true) {d : D} (hd : doOk d = true) : placeF (back row) (placeF row d) = d := by
  obtain ⟨k, p, v⟩ := d
  unfold placeF
  cases hu : uses k
  · simp [hu]
  · simp only [if_true, hu]
    simp only [doOk, placeOk, hu, if_true, Bool.and_eq_true, decide_eq_true_eq] at hd
    have hp := three_of hd.1.2
    clear hd
    rcases row3 hr with rfl | rfl | rfl | rfl | rfl | rfl <;> rcases hp with rfl | rfl | rfl <;> rfl
theorem back_row3 {row : List Int} (hr : rowN row 3 = true) : rowN (back row) 3 = true := by
  rcases row3 hr with rfl | rfl | rfl | rfl | rfl | rfl <;> decide
theorem mapS_back {f g : D → D} {ll : List (List D)} (h : ∀ t ∈ ll, ∀ d ∈ t, g (f d) = d) : mapS g (mapS f ll) = ll := by
  unfold mapS
  rw [List.map_map]
  conv => rhs; rw [← List.map_id ll]
  apply List.map_congr_left
  intro t ht
  simp only [Function.comp, List.map_map, id]
  conv => rhs; rw [← List.map_id t]
  apply List.map_congr_left
  intro d hd
  exact h t ht d hd
theorem prog_dos {ll : List (List D)} (h : prog ll = true) : ∀ t ∈ ll, ∀ d ∈ t, doOk d = true := by
  intro t ht d hd
  have := ((prog_iff ll).1 h).2.1 t ht
  simp only [M.thread, form, Bool.and_eq_true, List.all_eq_true] at this
  exact this.1.1.2 d hd
theorem places_back {ll : List (List D)} {row : List Int} (h : prog ll = true) (hr : rowN row 3 = true) : prog (mapS (placeF row) ll) = true ∧ rowN (back row) 3 = true ∧ mapS (placeF (back row)) (mapS (placeF row) ll) = ll :=
  ⟨(place_kept hr).prog h (fun _ _ _ _ => trivial), back_row3 hr, mapS_back fun t ht d hd => place_back hr (prog_dos h t ht d hd)⟩

theorem val_in {row : List Int} (hr : rowN row 4 = true) (h0 : row.getD 0 0 = 0) {k v : Int} (h : valOk k v = true) : 0 ≤ v ∧ v < 4 ∧ valOk k (row.getD v.toNat 0) = true ∧ (back row).getD (row.getD v.toNat 0).toNat 0 = v := by
  unfold valOk at h ⊢
  cases hs : stores k
  · simp only [hs, Bool.false_eq_true, if_false, beq_iff_eq] at h ⊢
    subst h
    rcases row4 hr h0 with rfl | rfl | rfl | rfl | rfl | rfl <;> decide
  · simp only [hs, if_true, Bool.and_eq_true, decide_eq_true_eq] at h ⊢
    have hv : v = 1 ∨ v = 2 ∨ v = 3 := by omega
    clear h
    rcases row4 hr h0 with rfl | rfl | rfl | rfl | rfl | rfl <;> rcases hv with rfl | rfl | rfl <;> decide
theorem val_kept {row : List Int} (hr : rowN row 4 = true) (h0 : row.getD 0 0 = 0) : Kept (valF row) (fun _ => True) := by
  refine ⟨fun d _ hd => ?_, fun d => rfl, fun d => rfl, fun d => rfl, fun d => rfl, fun d => rfl, fun d => rfl⟩
  simp only [doOk, valF, Bool.and_eq_true] at hd ⊢
  exact ⟨hd.1, (val_in hr h0 hd.2).2.2.1⟩
theorem val_back {row : List Int} (hr : rowN row 4 = true) (h0 : row.getD 0 0 = 0) {d : D} (hd : doOk d = true) : valF (back row) (valF row d) = d := by
  obtain ⟨k, p, v⟩ := d
  simp only [doOk, Bool.and_eq_true] at hd
  have := (val_in hr h0 hd.2).2.2.2
  simp only [valF]
  congr 1
theorem back_row4 {row : List Int} (hr : rowN row 4 = true) (h0 : row.getD 0 0 = 0) : rowN (back row) 4 = true ∧ (back row).getD 0 0 = 0 := by
  rcases row4 hr h0 with rfl | rfl | rfl | rfl | rfl | rfl <;> decide
theorem vals_back {ll : List (List D)} {row : List Int} (h : prog ll = true) (hr : rowN row 4 = true) (h0 : row.getD 0 0 = 0) : prog (mapS (valF row) ll) = true ∧ rowN (back row) 4 = true ∧ (back row).getD 0 0 = 0 ∧ mapS (valF (back row)) (mapS (valF row) ll) = ll :=
  ⟨(val_kept hr h0).prog h (fun _ _ _ _ => trivial), (back_row4 hr h0).1, (back_row4 hr h0).2, mapS_back fun t ht d hd => val_back hr h0 (prog_dos h t ht d hd)⟩
end M
end Go.Proofs.Ytjdpoemlcchfcaa
