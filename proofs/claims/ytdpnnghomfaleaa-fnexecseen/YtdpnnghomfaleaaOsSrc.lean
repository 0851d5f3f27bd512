/- spec's ways: who read what a copy stores. Of at most 1048576 threads, steps. -/
import Derived.Test.YtdpnnghomfaleaaOsDo
import Derived.BigQuiet
namespace Go.Proofs.Ytdpnnghomfaleaa
open Go.RowKit

/-- The last event of a thread that reads, ahead of a place; -1, if there is none. -/
def M.src (ds : List M.De) (t : Nat) : Nat → Int
  | 0 => -1
  | k + 1 => match ds[k]? with
    | some y => if y.t == t && y.reads then (k : Int) else M.src ds t k
    | none => M.src ds t k
theorem M.src_step {ds : List M.De} {t k : Nat} (h : k < ds.length) : M.src ds t (k + 1) = if ds[k].t == t && ds[k].reads then (k : Int) else M.src ds t k := by
  rw [M.src, List.getElem?_eq_getElem h]
theorem M.src_pre (l m : List M.De) (t : Nat) : ∀ k, k ≤ l.length → M.src (l ++ m) t k = M.src l t k := by
  intro k
  induction k with
  | zero => intro _; rfl
  | succ k ih =>
    intro hk
    rw [M.src_step (by simp; omega), M.src_step (by omega), ih (by omega), List.getElem_append_left (by omega)]
theorem M.src_none (l : List M.De) (t : Nat) (h : ∀ x ∈ l, x.t ≠ t) : ∀ k, k ≤ l.length → M.src l t k = -1 := by
  intro k
  induction k with
  | zero => intro _; rfl
  | succ k ih =>
    intro hk
    rw [M.src_step (by omega), ih (by omega), if_neg]
    have := h _ (List.getElem_mem (show k < l.length by omega))
    simp [this]
theorem M.src_snoc (l : List M.De) (x : M.De) : M.src (l ++ [x]) x.t (l.length + 1) = if x.reads then (l.length : Int) else M.src l x.t l.length := by
  rw [M.src_step (by simp), M.src_pre _ _ _ _ (Nat.le_refl _)]
  simp
/-- What is told of an event's source is so. -/
def M.Src (l : List M.De) : Prop := ∀ n (h : n < l.length), l[n].reads = false → M.src l l[n].t n = l[n].lr
theorem M.Src.snoc {l : List M.De} {x : M.De} (h : M.Src l) (hx : x.reads = false → M.src l x.t l.length = x.lr) : M.Src (l ++ [x]) := by
  intro n hn hr
  rw [M.src_pre _ _ _ _ (by simp at hn; omega)]
  rcases Nat.lt_or_ge n l.length with h1 | h1
  · rw [List.getElem_append_left h1] at hr ⊢
    exact h n h1 hr
  · have : n = l.length := by simp at hn; omega
    subst this
    simp only [List.getElem_append_right (Nat.le_refl _), Nat.sub_self, List.getElem_cons_zero] at hr ⊢
    exact hx hr
theorem M.src_T (t : Nat) (l : List M.D) : ∀ (i : Nat) (lr : Int) (pre : List M.De), M.Src pre → M.src pre t pre.length = lr → (∀ x ∈ pre, x.t ≤ t) → M.Src (pre ++ M.deT t i lr pre.length l) ∧ ∀ x ∈ pre ++ M.deT t i lr pre.length l, x.t ≤ t := by
  induction l with
  | nil => intro i lr pre h _ ht; simp only [M.deT, List.append_nil]; exact ⟨h, ht⟩
  | cons d l ih =>
    intro i lr pre h hs ht
    have one : ∀ (pre : List M.De) (x : M.De), x.t = t → (∀ y ∈ pre, y.t ≤ t) → ∀ y ∈ pre ++ [x], y.t ≤ t := by
      intro pre x hx hp y hy
      rcases List.mem_append.1 hy with hy | hy
      · exact hp y hy
      · rw [List.mem_singleton.1 hy, hx]; exact Nat.le_refl _
    rw [M.deT]
    cases h9 : (d.k == 9)
    · rw [M.deD_one h9]
      have h1 : M.Src (pre ++ [⟨t, i, false, d, M.lrOf lr pre.length d⟩]) := h.snoc fun hr => by
        have hr : M.reads d.k = false := hr
        show M.src pre t pre.length = M.lrOf lr pre.length d
        rw [hs, M.lrOf, hr]; rfl
      have h2 := ih (i + 1) (M.lrOf lr pre.length d) _ h1 (by
        have := M.src_snoc pre ⟨t, i, false, d, M.lrOf lr pre.length d⟩
        rw [List.length_append]
        refine this.trans ?_
        show (if M.reads d.k = true then (pre.length : Int) else M.src pre t pre.length) = _
        rw [hs]; rfl) (one _ _ rfl ht)
      rw [List.length_append] at h2
      rw [← List.append_assoc]
      exact h2
    · have hr : M.reads d.k = false := by
        have : d.k = 9 := by simpa using h9
        rw [this]; decide
      have hlr : M.lrOf lr pre.length d = lr := by rw [M.lrOf, hr]; rfl
      rw [M.deD_wait h9]
      have h1 : M.Src (pre ++ [⟨t, i, false, d, M.lrOf lr pre.length d⟩]) := h.snoc fun _ => by rw [hlr]; exact hs
      have s1 : M.src (pre ++ [⟨t, i, false, d, M.lrOf lr pre.length d⟩]) t (pre ++ [(⟨t, i, false, d, M.lrOf lr pre.length d⟩ : M.De)]).length = lr := by
        have := M.src_snoc pre ⟨t, i, false, d, M.lrOf lr pre.length d⟩
        rw [List.length_append]
        refine this.trans ?_
        show (if M.reads d.k = true then (pre.length : Int) else M.src pre t pre.length) = _
        rw [hr]; exact hs
      have h2 : M.Src ((pre ++ [⟨t, i, false, d, M.lrOf lr pre.length d⟩]) ++ [⟨t, i, true, d, M.lrOf lr pre.length d⟩]) := h1.snoc fun _ => by rw [hlr] at s1 ⊢; exact s1
      have s2 : M.src ((pre ++ [⟨t, i, false, d, M.lrOf lr pre.length d⟩]) ++ [⟨t, i, true, d, M.lrOf lr pre.length d⟩]) t ((pre ++ [(⟨t, i, false, d, M.lrOf lr pre.length d⟩ : M.De)]) ++ [(⟨t, i, true, d, M.lrOf lr pre.length d⟩ : M.De)]).length = M.lrOf lr pre.length d := by
        have := M.src_snoc (pre ++ [⟨t, i, false, d, M.lrOf lr pre.length d⟩]) ⟨t, i, true, d, M.lrOf lr pre.length d⟩
        rw [List.length_append]
        refine this.trans ?_
        show (if M.reads d.k = true then _ else M.src (pre ++ [⟨t, i, false, d, M.lrOf lr pre.length d⟩]) t (pre ++ [(⟨t, i, false, d, M.lrOf lr pre.length d⟩ : M.De)]).length) = _
        rw [hr, hlr]; rw [hlr] at s1; exact s1
      have h3 := ih (i + 1) (M.lrOf lr pre.length d) _ h2 s2 (one _ _ rfl (one _ _ rfl ht))
      rw [List.length_append, List.length_append] at h3
      rw [List.append_assoc, List.append_assoc] at h3
      rw [List.append_assoc]
      exact h3
theorem M.src_F (ll : List (List M.D)) : ∀ (t : Nat) (pre : List M.De), M.Src pre → (∀ x ∈ pre, x.t < t) → M.Src (pre ++ M.deF t pre.length ll) := by
  induction ll with
  | nil => intro t pre h _; simp only [M.deF, List.append_nil]; exact h
  | cons l ll ih =>
    intro t pre h ht
    obtain ⟨h1, h2⟩ := M.src_T t l 0 (-1) pre h (M.src_none _ _ (fun x hx e => by have := ht x hx; omega) _ (Nat.le_refl _)) (fun x hx => Nat.le_of_lt (ht x hx))
    have := ih (t + 1) _ h1 (fun x hx => Nat.lt_succ_of_le (h2 x hx))
    rw [M.deF, ← List.append_assoc]
    rw [List.length_append] at this
    exact this
theorem M.src_ok (ll : List (List M.D)) : M.Src (M.deeds ll) := by
  have := M.src_F ll 0 [] (fun n h => absurd h (Nat.not_lt_zero _)) (fun x hx => by cases hx)
  exact this

theorem l1Reads_bel (d : M.D) (w : World) : Calls Try.prog 62 #[.agg #[.int .i64 d.k, .int .i64 d.p, .int .i64 d.v]] w fun e w' => e = .returned (.bool (M.reads d.k)) ∧ Below w.heap.size w w' :=
  (l1Reads_any d w).mono fun e w' ⟨he, hw⟩ => ⟨he, by rw [hw]; exact below1 _ _⟩

set_option maxHeartbeats 1000000 in
set_option maxRecDepth 100000 in
theorem l12Source_any (a : Option Addr) (b o c : Nat) (ll : List (List M.D)) (va : Option Addr) (g cc : Nat) (n tn : Nat) (w : World) (hn : n < (M.deeds ll).length) (htn : (M.deeds ll)[n].t = tn) (hl : ll.length ≤ 1048576) (hls : ∀ t ∈ ll, t.length ≤ 1048576) (hdl : (M.deeds ll).length ≤ 42) (h : DoSS w a b o ll) (hd : DvS w va g (M.deeds ll)) :
    Calls Try.prog 84 #[.agg #[.slice a ll.length c], .slice va (M.deeds ll).length cc, .int .i64 n] w fun e w' => e = .returned (.int .i64 (M.src (M.deeds ll) tn n)) ∧ Below w.heap.size w w' := by
  have hof := M.ofEv (ll := ll)
  generalize M.deeds ll = ds at *
  have hb0 := below1 w (.cells #[.slice a ll.length c] 34)
  have k0 : (w.alloc (.cells #[.slice a ll.length c] 34)).cell? ⟨w.heap.size, 0, none⟩ = some (.slice a ll.length c) := by simp
  go_enter Try.func84, Try.ntmps84
  go_wp2_with fail
  generalize w.alloc (.cells #[.slice a ll.length c] 34) = WB at *
  have lt0 : w.heap.size < WB.heap.size := World.block_lt_of_cell? _ _ k0
  replace h := h.below hb0 (Nat.le_refl _)
  replace hd := hd.bel hb0 (Nat.le_refl _)
  obtain ⟨rfl⟩ := hd.addr (by omega)
  obtain ⟨cn, _, _⟩ := hd.at hn
  rw [htn] at cn
  clear htn
  have in1 : (n : Int) < ds.length := by omega
  go_loopw [7] (fun s7 wr => ∃ m : Nat, s7 = .int .i64 ((m : Int) - 1) ∧ m ≤ n ∧ Hid (M.src ds tn n = M.src ds tn m) ∧ Below WB.heap.size WB wr) (fun s7 _ => (intOf s7 + 1).toNat)
  case atStart => exact ⟨n, by go_num, Nat.le_refl _, by show _ = _; rfl, Below.refl _ _⟩
  case round =>
    obtain ⟨m, rfl, hm, HS, hb⟩ := hrel
    have hbw := hb0.trans (hb.mono hb0.size)
    cases m with
    | zero =>
      go_wp2_with fail
      go_ret
      exact ⟨by rw [HS.out]; rfl, hbw⟩
    | succ m =>
      have e1 : (((m + 1 : Nat) : Int) - 1) = m := by omega
      rw [e1]
      have hlt : m < ds.length := by omega
      have HS2 : Hid (M.src ds tn n = if ds[m].t == tn && ds[m].reads then (m : Int) else M.src ds tn m) := by show _ = _; rw [HS.out]; exact M.src_step hlt
      have hox := hof _ (List.getElem_mem hlt)
      obtain ⟨c0, c1, c2⟩ := (hd.bel hb (Nat.le_refl _)).at hlt
      have cn' := (hb.cell (p := ⟨g, n * 3, none⟩) (World.block_lt_of_cell? _ _ cn)).trans cn
      have kr := (hb.cell (p := ⟨w.heap.size, 0, none⟩) lt0).trans k0
      clear HS e1
      generalize ds[m] = x at *
      have i1 : (m : Int) < ds.length := by omega
      have K0 := BelowOf.cell kr
      have KN := BelowOf.cell cn'
      have Y0 := BelowOf.cell c0
      have Y1 := BelowOf.cell c1
      have Y2 := BelowOf.cell c2
      have C1 := fun q : BelowOf wr => l12Do_ev a b o c ll x q.x hox hl hls ((h.below hb (Nat.le_refl _)).below q.h (Nat.le_refl _))
      have C2 := fun q : BelowOf wr => l1Reads_bel x.d q.x
      haveI : Inhabited (BelowOf wr) := ⟨belOf wr⟩
      have hx : Hid (x.reads = M.reads x.d.k) := by show _ = _; rfl
      have hxr : x.reads = M.reads x.d.k := rfl
      rw [hxr] at HS2
      clear hx hxr
      generalize x.t = xt at *
      go_wp2_with fail
      by_cases ht : xt = tn
      · subst xt
        cases hr : M.reads x.d.k
        · have HS3 : Hid (M.src ds tn n = M.src ds tn m) := by show _ = _; rw [HS2.out, hr]; simp
          rw [hr] at C2
          refine wp_region_quiet_bel (by kernel_rfl) (by kernel_rfl) ?_
          repeat (quiet_step (first | (go_at_call 66; exact Calls.bel_of (C1 _)) | (go_at_call 62; exact Calls.bel_of (C2 _))))
          refine wpQuiet_nil ?_
          rintro _ ⟨⟨wq, hwq⟩, rfl⟩
          go_wp2_with fail
          exact ⟨⟨m, by go_num, by omega, HS3, hb.trans (hwq.mono hb.size)⟩, by simp [intOf]⟩
        · have HS3 : Hid (M.src ds tn n = m) := by show _ = _; rw [HS2.out, hr]; simp
          rw [hr] at C2
          refine wp_region_quiet_bel (by kernel_rfl) (by kernel_rfl) ?_
          repeat (quiet_step (first | (go_at_call 66; exact Calls.bel_of (C1 _)) | (go_at_call 62; exact Calls.bel_of (C2 _))))
          refine wpQuiet_nil ?_
          rintro _ ⟨⟨wq, hwq⟩, rfl⟩
          go_wp2_with fail
          go_ret
          exact ⟨by rw [HS3.out]; rfl, hbw.trans (hwq.mono hbw.size)⟩
      · have HS3 : Hid (M.src ds tn n = M.src ds tn m) := by show _ = _; rw [HS2.out]; simp [ht]
        have ht' : ((xt : Int) == tn) = false := by simp; omega
        refine wp_region_quiet_bel (by kernel_rfl) (by kernel_rfl) ?_
        iterate 12 (quiet_step (fail))
        iterate 7 go_big_quiet_skip
        iterate 1 (quiet_step (fail))
        refine wpQuiet_nil ?_
        rintro _ ⟨⟨wq, hwq⟩, rfl⟩
        go_wp2_with fail
        exact ⟨⟨m, by go_num, by omega, HS3, hb.trans (hwq.mono hb.size)⟩, by simp [intOf]⟩

end Go.Proofs.Ytdpnnghomfaleaa
