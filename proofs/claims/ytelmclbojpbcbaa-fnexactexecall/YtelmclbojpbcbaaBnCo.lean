/- spec's ways: who read what a copy stores. Of at most 1048576 threads, steps. spec's ways: what an event reads or writes. Of at most 1048576 threads, steps. spec's ways: whether nothing that is copied goes back to itself. Of at most 1048576 threads, steps. spec's ways: whether all is told that must be. Of at most 1048576 threads, steps, numbers, rows. Both say the same of a way. No condition. spec's ExecOk: whether a way is told just so. Of at most 1048576 threads, steps, numbers and rows. -/
import Derived.Test.YtelmclbojpbcbaaOsDo
import Derived.BigQuiet
import Derived.Test.YtelmclbojpbcbaaOsWr
import Derived.Test.YtelmclbojpbcbaaOkEnd
import Derived.Test.YtelmclbojpbcbaaOkOrd
import Derived.Test.YtelmclbojpbcbaaOkFrom

namespace Go.Proofs.Ytelmclbojpbcbaa
open Go.RowKit

/-- The last event of a thread that reads, ahead of a place; -1, if there is none. -/
def M.src (ds : List M.De) (t : Nat) : Nat → Int
  | 0 => -1
  | k + 1 => match ds[k]? with
    | some y => if y.t == t && y.reads then (k : Int) else M.src ds t k
    | none => M.src ds t k
theorem M.src_step {ds : List M.De} {t k : Nat} (h : k < ds.length) : M.src ds t (k + 1) = if ds[k].t == t && ds[k].reads then (k : Int) else M.src ds t k := by
  rw [M.src, List.getElem?_eq_getElem h]
theorem M.src_pre (l m : List M.De) (t : Nat) : ∀ k, k ≤ l.length → M.src (l ++ m) t k = M.src l t k := by
  intro k
  induction k with
  | zero => intro _; rfl
  | succ k ih =>
    intro hk
    rw [M.src_step (by simp; omega), M.src_step (by omega), ih (by omega), List.getElem_append_left (by omega)]
theorem M.src_none (l : List M.De) (t : Nat) (h : ∀ x ∈ l, x.t ≠ t) : ∀ k, k ≤ l.length → M.src l t k = -1 := by
  intro k
  induction k with
  | zero => intro _; rfl
  | succ k ih =>
    intro hk
    rw [M.src_step (by omega), ih (by omega), if_neg]
    have := h _ (List.getElem_mem (show k < l.length by omega))
    simp [this]
theorem M.src_snoc (l : List M.De) (x : M.De) : M.src (l ++ [x]) x.t (l.length + 1) = if x.reads then (l.length : Int) else M.src l x.t l.length := by
  rw [M.src_step (by simp), M.src_pre _ _ _ _ (Nat.le_refl _)]
  simp
/-- What is told of an event's source is so. -/
def M.Src (l : List M.De) : Prop := ∀ n (h : n < l.length), l[n].reads = false → M.src l l[n].t n = l[n].lr
theorem M.Src.snoc {l : List M.De} {x : M.De} (h : M.Src l) (hx : x.reads = false → M.src l x.t l.length = x.lr) : M.Src (l ++ [x]) := by
  intro n hn hr
  rw [M.src_pre _ _ _ _ (by simp at hn; omega)]
  rcases Nat.lt_or_ge n l.length with h1 | h1
  · rw [List.getElem_append_left h1] at hr ⊢
    exact h n h1 hr
  · have : n = l.length := by simp at hn; omega
    subst this
    simp only [List.getElem_append_right (Nat.le_refl _), Nat.sub_self, List.getElem_cons_zero] at hr ⊢
    exact hx hr
theorem M.src_T (t : Nat) (l : List M.D) : ∀ (i : Nat) (lr : Int) (pre : List M.De), M.Src pre → M.src pre t pre.length = lr → (∀ x ∈ pre, x.t ≤ t) → M.Src (pre ++ M.deT t i lr pre.length l) ∧ ∀ x ∈ pre ++ M.deT t i lr pre.length l, x.t ≤ t := by
  induction l with
  | nil => intro i lr pre h _ ht; simp only [M.deT, List.append_nil]; exact ⟨h, ht⟩
  | cons d l ih =>
    intro i lr pre h hs ht
    have one : ∀ (pre : List M.De) (x : M.De), x.t = t → (∀ y ∈ pre, y.t ≤ t) → ∀ y ∈ pre ++ [x], y.t ≤ t := by
      intro pre x hx hp y hy
      rcases List.mem_append.1 hy with hy | hy
      · exact hp y hy
      · rw [List.mem_singleton.1 hy, hx]; exact Nat.le_refl _
    rw [M.deT]
    cases h9 : (d.k == 9)
    · rw [M.deD_one h9]
      have h1 : M.Src (pre ++ [⟨t, i, false, d, M.lrOf lr pre.length d⟩]) := h.snoc fun hr => by
        have hr : M.reads d.k = false := hr
        show M.src pre t pre.length = M.lrOf lr pre.length d
        rw [hs, M.lrOf, hr]; rfl
      have h2 := ih (i + 1) (M.lrOf lr pre.length d) _ h1 (by
        have := M.src_snoc pre ⟨t, i, false, d, M.lrOf lr pre.length d⟩
        rw [List.length_append]
        refine this.trans ?_
        show (if M.reads d.k = true then (pre.length : Int) else M.src pre t pre.length) = _
        rw [hs]; rfl) (one _ _ rfl ht)
      rw [List.length_append] at h2
      rw [← List.append_assoc]
      exact h2
    · have hr : M.reads d.k = false := by
        have : d.k = 9 := by simpa using h9
        rw [this]; decide
      have hlr : M.lrOf lr pre.length d = lr := by rw [M.lrOf, hr]; rfl
      rw [M.deD_wait h9]
      have h1 : M.Src (pre ++ [⟨t, i, false, d, M.lrOf lr pre.length d⟩]) := h.snoc fun _ => by rw [hlr]; exact hs
      have s1 : M.src (pre ++ [⟨t, i, false, d, M.lrOf lr pre.length d⟩]) t (pre ++ [(⟨t, i, false, d, M.lrOf lr pre.length d⟩ : M.De)]).length = lr := by
        have := M.src_snoc pre ⟨t, i, false, d, M.lrOf lr pre.length d⟩
        rw [List.length_append]
        refine this.trans ?_
        show (if M.reads d.k = true then (pre.length : Int) else M.src pre t pre.length) = _
        rw [hr]; exact hs
      have h2 : M.Src ((pre ++ [⟨t, i, false, d, M.lrOf lr pre.length d⟩]) ++ [⟨t, i, true, d, M.lrOf lr pre.length d⟩]) := h1.snoc fun _ => by rw [hlr] at s1 ⊢; exact s1
      have s2 : M.src ((pre ++ [⟨t, i, false, d, M.lrOf lr pre.length d⟩]) ++ [⟨t, i, true, d, M.lrOf lr pre.length d⟩]) t ((pre ++ [(⟨t, i, false, d, M.lrOf lr pre.length d⟩ : M.De)]) ++ [(⟨t, i, true, d, M.lrOf lr pre.length d⟩ : M.De)]).length = M.lrOf lr pre.length d := by
        have := M.src_snoc (pre ++ [⟨t, i, false, d, M.lrOf lr pre.length d⟩]) ⟨t, i, true, d, M.lrOf lr pre.length d⟩
        rw [List.length_append]
        refine this.trans ?_
        show (if M.reads d.k = true then _ else M.src (pre ++ [⟨t, i, false, d, M.lrOf lr pre.length d⟩]) t (pre ++ [(⟨t, i, false, d, M.lrOf lr pre.length d⟩ : M.De)]).length) = _
        rw [hr, hlr]; rw [hlr] at s1; exact s1
      have h3 := ih (i + 1) (M.lrOf lr pre.length d) _ h2 s2 (one _ _ rfl (one _ _ rfl ht))
      rw [List.length_append, List.length_append] at h3
      rw [List.append_assoc, List.append_assoc] at h3
      rw [List.append_assoc]
      exact h3
theorem M.src_F (ll : List (List M.D)) : ∀ (t : Nat) (pre : List M.De), M.Src pre → (∀ x ∈ pre, x.t < t) → M.Src (pre ++ M.deF t pre.length ll) := by
  induction ll with
  | nil => intro t pre h _; simp only [M.deF, List.append_nil]; exact h
  | cons l ll ih =>
    intro t pre h ht
    obtain ⟨h1, h2⟩ := M.src_T t l 0 (-1) pre h (M.src_none _ _ (fun x hx e => by have := ht x hx; omega) _ (Nat.le_refl _)) (fun x hx => Nat.le_of_lt (ht x hx))
    have := ih (t + 1) _ h1 (fun x hx => Nat.lt_succ_of_le (h2 x hx))
    rw [M.deF, ← List.append_assoc]
    rw [List.length_append] at this
    exact this
theorem M.src_ok (ll : List (List M.D)) : M.Src (M.deeds ll) := by
  have := M.src_F ll 0 [] (fun n h => absurd h (Nat.not_lt_zero _)) (fun x hx => by cases hx)
  exact this

theorem l1Reads_bel (d : M.D) (w : World) : Calls Try.prog 43 #[.agg #[.int .i64 d.k, .int .i64 d.p, .int .i64 d.v]] w fun e w' => e = .returned (.bool (M.reads d.k)) ∧ Below w.heap.size w w' :=
  (l1Reads_any d w).mono fun e w' ⟨he, hw⟩ => ⟨he, by rw [hw]; exact below1 _ _⟩

set_option maxHeartbeats 1000000 in
set_option maxRecDepth 100000 in
theorem l12Source_any (a : Option Addr) (b o c : Nat) (ll : List (List M.D)) (va : Option Addr) (g cc : Nat) (n tn : Nat) (w : World) (hn : n < (M.deeds ll).length) (htn : (M.deeds ll)[n].t = tn) (hl : ll.length ≤ 1048576) (hls : ∀ t ∈ ll, t.length ≤ 1048576) (hdl : (M.deeds ll).length ≤ 42) (h : DoSS w a b o ll) (hd : DvS w va g (M.deeds ll)) :
    Calls Try.prog 73 #[.agg #[.slice a ll.length c], .slice va (M.deeds ll).length cc, .int .i64 n] w fun e w' => e = .returned (.int .i64 (M.src (M.deeds ll) tn n)) ∧ Below w.heap.size w w' := by
  have hof := M.ofEv (ll := ll)
  generalize M.deeds ll = ds at *
  have hb0 := below1 w (.cells #[.slice a ll.length c] 30)
  have k0 : (w.alloc (.cells #[.slice a ll.length c] 30)).cell? ⟨w.heap.size, 0, none⟩ = some (.slice a ll.length c) := by simp
  go_enter Try.func73, Try.ntmps73
  go_wp2_with fail
  generalize w.alloc (.cells #[.slice a ll.length c] 30) = WB at *
  have lt0 : w.heap.size < WB.heap.size := World.block_lt_of_cell? _ _ k0
  replace h := h.below hb0 (Nat.le_refl _)
  replace hd := hd.bel hb0 (Nat.le_refl _)
  obtain ⟨rfl⟩ := hd.addr (by omega)
  obtain ⟨cn, _, _⟩ := hd.at hn
  rw [htn] at cn
  clear htn
  have in1 : (n : Int) < ds.length := by omega
  go_loopw [7] (fun s7 wr => ∃ m : Nat, s7 = .int .i64 ((m : Int) - 1) ∧ m ≤ n ∧ Hid (M.src ds tn n = M.src ds tn m) ∧ Below WB.heap.size WB wr) (fun s7 _ => (intOf s7 + 1).toNat)
  case atStart => exact ⟨n, by go_num, Nat.le_refl _, by show _ = _; rfl, Below.refl _ _⟩
  case round =>
    obtain ⟨m, rfl, hm, HS, hb⟩ := hrel
    have hbw := hb0.trans (hb.mono hb0.size)
    cases m with
    | zero =>
      go_wp2_with fail
      go_ret
      exact ⟨by rw [HS.out]; rfl, hbw⟩
    | succ m =>
      have e1 : (((m + 1 : Nat) : Int) - 1) = m := by omega
      rw [e1]
      have hlt : m < ds.length := by omega
      have HS2 : Hid (M.src ds tn n = if ds[m].t == tn && ds[m].reads then (m : Int) else M.src ds tn m) := by show _ = _; rw [HS.out]; exact M.src_step hlt
      have hox := hof _ (List.getElem_mem hlt)
      obtain ⟨c0, c1, c2⟩ := (hd.bel hb (Nat.le_refl _)).at hlt
      have cn' := (hb.cell (p := ⟨g, n * 3, none⟩) (World.block_lt_of_cell? _ _ cn)).trans cn
      have kr := (hb.cell (p := ⟨w.heap.size, 0, none⟩) lt0).trans k0
      clear HS e1
      generalize ds[m] = x at *
      have i1 : (m : Int) < ds.length := by omega
      have K0 := BelowOf.cell kr
      have KN := BelowOf.cell cn'
      have Y0 := BelowOf.cell c0
      have Y1 := BelowOf.cell c1
      have Y2 := BelowOf.cell c2
      have C1 := fun q : BelowOf wr => l12Do_ev a b o c ll x q.x hox hl hls ((h.below hb (Nat.le_refl _)).below q.h (Nat.le_refl _))
      have C2 := fun q : BelowOf wr => l1Reads_bel x.d q.x
      haveI : Inhabited (BelowOf wr) := ⟨belOf wr⟩
      have hx : Hid (x.reads = M.reads x.d.k) := by show _ = _; rfl
      have hxr : x.reads = M.reads x.d.k := rfl
      rw [hxr] at HS2
      clear hx hxr
      generalize x.t = xt at *
      go_wp2_with fail
      by_cases ht : xt = tn
      · subst xt
        cases hr : M.reads x.d.k
        · have HS3 : Hid (M.src ds tn n = M.src ds tn m) := by show _ = _; rw [HS2.out, hr]; simp
          rw [hr] at C2
          refine wp_region_quiet_bel (by kernel_rfl) (by kernel_rfl) ?_
          repeat (quiet_step (first | (go_at_call 48; exact Calls.bel_of (C1 _)) | (go_at_call 43; exact Calls.bel_of (C2 _))))
          refine wpQuiet_nil ?_
          rintro _ ⟨⟨wq, hwq⟩, rfl⟩
          go_wp2_with fail
          exact ⟨⟨m, by go_num, by omega, HS3, hb.trans (hwq.mono hb.size)⟩, by simp [intOf]⟩
        · have HS3 : Hid (M.src ds tn n = m) := by show _ = _; rw [HS2.out, hr]; simp
          rw [hr] at C2
          refine wp_region_quiet_bel (by kernel_rfl) (by kernel_rfl) ?_
          repeat (quiet_step (first | (go_at_call 48; exact Calls.bel_of (C1 _)) | (go_at_call 43; exact Calls.bel_of (C2 _))))
          refine wpQuiet_nil ?_
          rintro _ ⟨⟨wq, hwq⟩, rfl⟩
          go_wp2_with fail
          go_ret
          exact ⟨by rw [HS3.out]; rfl, hbw.trans (hwq.mono hbw.size)⟩
      · have HS3 : Hid (M.src ds tn n = M.src ds tn m) := by show _ = _; rw [HS2.out]; simp [ht]
        have ht' : ((xt : Int) == tn) = false := by simp; omega
        refine wp_region_quiet_bel (by kernel_rfl) (by kernel_rfl) ?_
        iterate 12 (quiet_step (fail))
        iterate 7 go_big_quiet_skip
        iterate 1 (quiet_step (fail))
        refine wpQuiet_nil ?_
        rintro _ ⟨⟨wq, hwq⟩, rfl⟩
        go_wp2_with fail
        exact ⟨⟨m, by go_num, by omega, HS3, hb.trans (hwq.mono hb.size)⟩, by simp [intOf]⟩

end Go.Proofs.Ytelmclbojpbcbaa

namespace Go.Proofs.Ytelmclbojpbcbaa
open Go.RowKit

/-- What an event reads, or writes, in so many steps at most. -/
def M.val (ds : List M.De) (l : List Int) : Nat → Int → Int
  | 0, i => if i < 0 then 0 else -1
  | m + 1, i => if i < 0 then 0 else match ds[i.toNat]? with
    | none => 0
    | some x => if x.reads then M.val ds l m (l.getD i.toNat 0) else if x.d.k == 3 then M.val ds l m x.lr else x.d.v
theorem M.val_neg (ds : List M.De) (l : List Int) (m : Nat) {i : Int} (h : i < 0) : M.val ds l m i = 0 := by
  cases m <;> simp [M.val, h]
theorem M.val_at (ds : List M.De) (l : List Int) (m n : Nat) (h : n < ds.length) (h2 : n < l.length) : M.val ds l (m + 1) n = if ds[n].reads then M.val ds l m l[n] else if ds[n].d.k == 3 then M.val ds l m ds[n].lr else ds[n].d.v := by
  rw [M.val, if_neg (by omega), Int.toNat_natCast, List.getElem?_eq_getElem h, List.getD_eq_getElem?_getD, List.getElem?_eq_getElem h2]
  rfl
/-- It comes to an end just where the origin is found. -/
theorem M.val_orig {ds : List M.De} {l : List Int} (hin : M.In ds l) (hv : ∀ x ∈ ds, 0 ≤ x.d.v) (hll : l.length = ds.length) : ∀ (m n : Nat), n < ds.length → (decide (0 ≤ M.val ds l m n) = (M.orig ds l m n).isSome) := by
  intro m
  induction m with
  | zero => intro n _; rw [M.val, if_neg (by omega)]; rfl
  | succ m ih =>
    intro n hn
    have hi := hin n hn
    rw [M.val_at ds l m n hn (by omega), M.orig]
    have hvf : M.valFrom ds l n = if ds[n].reads then l[n] else if ds[n].d.k == 3 then ds[n].lr else -1 := by
      simp [M.valFrom, hn, show n < l.length by omega]
    have step : ∀ f : Int, f < ds.length → decide (0 ≤ M.val ds l m f) = (if f < 0 then some n else M.orig ds l m f.toNat).isSome := by
      intro f hf
      by_cases h0 : f < 0
      · rw [M.val_neg _ _ _ h0, if_pos h0]; rfl
      · rw [if_neg h0]
        obtain ⟨k, rfl⟩ : ∃ k : Nat, f = k := ⟨f.toNat, by omega⟩
        rw [Int.toNat_natCast]
        exact ih k (by omega)
    rw [hvf] at hi ⊢
    by_cases hr : ds[n].reads = true
    · rw [if_pos hr] at hi ⊢
      rw [if_pos hr]
      exact step _ hi
    · rw [if_neg hr] at hi ⊢
      rw [if_neg hr]
      by_cases h3 : (ds[n].d.k == 3) = true
      · rw [if_pos h3] at hi ⊢
        rw [if_pos h3]
        exact step _ hi
      · rw [if_neg h3, if_neg h3, if_pos (by omega)]
        simp [hv _ (List.getElem_mem hn)]

set_option maxHeartbeats 2000000 in
set_option maxRecDepth 100000 in
theorem l12Val_any (a : Option Addr) (b o c : Nat) (ll : List (List M.D)) (va : Option Addr) (g cc : Nat) (fa : Option Addr) (fb fo fc : Nat) (l : List Int) (ra : Value) (hl : ll.length ≤ 1048576) (hls : ∀ t ∈ ll, t.length ≤ 1048576) (hdl : (M.deeds ll).length ≤ 42) (HLL : Hid (l.length = (M.deeds ll).length)) (hin : M.In (M.deeds ll) l) :
    ∀ (m : Nat) (i : Int) (w : World), m ≤ 1048576 → i < (M.deeds ll).length → DoSS w a b o ll → DvS w va g (M.deeds ll) → IntS w fa fb fo l →
    Calls Try.prog 51 #[.agg #[.slice a ll.length c], .slice va (M.deeds ll).length cc, .agg #[.slice fa l.length fc, ra], .int .i64 i, .int .i64 m] w fun e w' => e = .returned (.int .i64 (M.val (M.deeds ll) l m i)) ∧ Below w.heap.size w w' := by
  intro m
  induction m with
  | zero =>
    intro i w _ hi h hd hf
    have hb2 := below2 w (.cells #[.slice a ll.length c] 30) (.cells #[.slice fa l.length fc, ra] 43)
    by_cases h0 : i < 0
    · go_enter Try.func51, Try.ntmps51
      go_wp2_with fail
      go_ret
      exact ⟨by rw [M.val_neg _ _ _ h0]; rfl, hb2⟩
    · have h0' : decide (i < 0) = false := by simpa using h0
      go_enter Try.func51, Try.ntmps51
      go_wp2_with fail
      go_ret
      exact ⟨by rw [M.val, if_neg (by omega)]; rfl, hb2⟩
  | succ m ih =>
    intro i w hm hi h hd hf
    have hb2 := below2 w (.cells #[.slice a ll.length c] 30) (.cells #[.slice fa l.length fc, ra] 43)
    by_cases h0 : i < 0
    · go_enter Try.func51, Try.ntmps51
      go_wp2_with fail
      go_ret
      exact ⟨by rw [M.val_neg _ _ _ h0]; rfl, hb2⟩
    · obtain ⟨n, rfl⟩ : ∃ n : Nat, i = n := ⟨i.toNat, by omega⟩
      have hn : n < (M.deeds ll).length := by omega
      have hnl : n < l.length := by rw [HLL.out]; exact hn
      have HV : Hid (M.val (M.deeds ll) l (m + 1) n = if (M.deeds ll)[n].reads then M.val (M.deeds ll) l m l[n] else if (M.deeds ll)[n].d.k == 3 then M.val (M.deeds ll) l m (M.deeds ll)[n].lr else (M.deeds ll)[n].d.v) := M.val_at _ _ _ _ hn hnl
      have hox := M.ofEv _ (List.getElem_mem hn)
      have hfr := hin n hn
      have hvf : M.valFrom (M.deeds ll) l n = if (M.deeds ll)[n].reads then l[n] else if (M.deeds ll)[n].d.k == 3 then (M.deeds ll)[n].lr else -1 := by
        simp [M.valFrom, hn, hnl]
      rw [hvf] at hfr
      have HFR : Hid ((if (M.deeds ll)[n].reads then l[n] else if (M.deeds ll)[n].d.k == 3 then (M.deeds ll)[n].lr else -1) < ((M.deeds ll).length : Int)) := hfr
      have HSR : Hid ((M.deeds ll)[n].reads = false → M.src (M.deeds ll) (M.deeds ll)[n].t n = (M.deeds ll)[n].lr) := M.src_ok ll n hn
      clear hvf hfr
      obtain ⟨rfl⟩ := hd.addr (by omega)
      obtain ⟨rfl⟩ := hf.addr (by omega)
      obtain ⟨f, hfe⟩ : ∃ f, l[n] = f := ⟨_, rfl⟩
      have hfc := hf.row n hnl
      rw [hfe] at hfc HV HFR
      clear hfe
      obtain ⟨x, hxe⟩ : ∃ x, (M.deeds ll)[n] = x := ⟨_, rfl⟩
      have HXT : Hid ((M.deeds ll)[n].t = x.t) := by show _ = _; rw [hxe]
      obtain ⟨c0, c1, c2⟩ := hd.at hn
      rw [hxe] at HV HFR HSR hox c0 c1 c2
      clear hxe
      have i1 : (n : Int) < (M.deeds ll).length := by omega
      have i2 : (n : Int) < l.length := by omega
      have kp : ((w.alloc (.cells #[.slice a ll.length c] 30)).alloc (.cells #[.slice (some ⟨fb, fo, none⟩) l.length fc, ra] 43)).cell? ⟨w.heap.size, 0, none⟩ = some (.slice a ll.length c) := by simp
      have k0 : ((w.alloc (.cells #[.slice a ll.length c] 30)).alloc (.cells #[.slice (some ⟨fb, fo, none⟩) l.length fc, ra] 43)).cell? ⟨w.heap.size + 1, 0, none⟩ = some (.slice (some ⟨fb, fo, none⟩) l.length fc) := by simp
      have k1 : ((w.alloc (.cells #[.slice a ll.length c] 30)).alloc (.cells #[.slice (some ⟨fb, fo, none⟩) l.length fc, ra] 43)).cell? ⟨w.heap.size + 1, 1, none⟩ = some ra := by simp
      have c0 := (hb2.cell (p := ⟨g, n * 3, none⟩) (World.block_lt_of_cell? _ _ c0)).trans c0
      have c1 := (hb2.cell (p := ⟨g, n * 3 + 1, none⟩) (World.block_lt_of_cell? _ _ c1)).trans c1
      have c2 := (hb2.cell (p := ⟨g, n * 3 + 2, none⟩) (World.block_lt_of_cell? _ _ c2)).trans c2
      have hfc := (hb2.cell (p := ⟨fb, fo + n, none⟩) (World.block_lt_of_cell? _ _ hfc)).trans hfc
      replace h := h.below hb2 (Nat.le_refl _)
      replace hd := hd.bel hb2 (Nat.le_refl _)
      replace hf := hf.below hb2 (Nat.le_refl _)
      go_enter Try.func51, Try.ntmps51
      go_wp2_with fail
      generalize (w.alloc (.cells #[.slice a ll.length c] 30)).alloc (.cells #[.slice (some ⟨fb, fo, none⟩) l.length fc, ra] 43) = wr at *
      have lg : g < wr.heap.size := World.block_lt_of_cell? _ _ c0
      have lf : fb < wr.heap.size := World.block_lt_of_cell? _ _ hfc
      have lw1 : w.heap.size + 1 < wr.heap.size := World.block_lt_of_cell? _ _ k0
      have lw : w.heap.size < wr.heap.size := World.block_lt_of_cell? _ _ kp
      have C := fun W (hb : Below wr.heap.size wr W) => l12Do_ev a b o c ll x W hox hl hls (h.below hb (Nat.le_refl _))
      have hbA := below1 wr (.cells #[.int .i64 0, .int .i64 0, .int .i64 0] 51)
      have A0 : (wr.alloc (.cells #[.int .i64 0, .int .i64 0, .int .i64 0] 51)).cell? ⟨wr.heap.size, 0, none⟩ = some (.int .i64 0) := by simp
      have A1 : (wr.alloc (.cells #[.int .i64 0, .int .i64 0, .int .i64 0] 51)).cell? ⟨wr.heap.size, 1, none⟩ = some (.int .i64 0) := by simp
      have A2 : (wr.alloc (.cells #[.int .i64 0, .int .i64 0, .int .i64 0] 51)).cell? ⟨wr.heap.size, 2, none⟩ = some (.int .i64 0) := by simp
      have Af : ∀ j, (wr.alloc (.cells #[.int .i64 0, .int .i64 0, .int .i64 0] 51)).frozen? ⟨wr.heap.size, j, none⟩ = false := by intro j; simp
      have Asz : wr.heap.size < (wr.alloc (.cells #[.int .i64 0, .int .i64 0, .int .i64 0] 51)).heap.size := by simp
      have N0 : wr.heap.size ≠ w.heap.size := Nat.ne_of_gt lw
      have N1 : wr.heap.size ≠ g := Nat.ne_of_gt lg
      have B0 := (hbA.cell (p := ⟨w.heap.size, 0, none⟩) lw).trans kp
      have B1 := (hbA.cell (p := ⟨g, n * 3, none⟩) lg).trans c0
      have B2 := (hbA.cell (p := ⟨g, n * 3 + 1, none⟩) lg).trans c1
      have B3 := (hbA.cell (p := ⟨g, n * 3 + 2, none⟩) lg).trans c2
      go_region_held3 (fun w' => w'.cell? ⟨w.heap.size, 0, none⟩ = some (.slice a ll.length c) ∧ w'.cell? ⟨g, n * 3, none⟩ = some (.int .i64 x.t) ∧ w'.cell? ⟨g, n * 3 + 1, none⟩ = some (.int .i64 x.i) ∧ w'.cell? ⟨g, n * 3 + 2, none⟩ = some (.bool x.last)) (go_keep) (first
        | (go_at_call 48; refine (C _ ((Below.refl _ _).drew)).mono ?_; rintro e w1 ⟨rfl, hb1⟩; have Y0 := (hb1.cell (p := ⟨w.heap.size, 0, none⟩) lw).trans kp; have Y1 := (hb1.cell (p := ⟨g, n * 3, none⟩) lg).trans c0; have Y2 := (hb1.cell (p := ⟨g, n * 3 + 1, none⟩) lg).trans c1; have Y3 := (hb1.cell (p := ⟨g, n * 3 + 2, none⟩) lg).trans c2)
        | (go_at_call 48; refine (C _ ((below1 _ _).drew)).mono ?_; rintro e w1 ⟨rfl, hb1⟩; have Y0 := (hb1.cell (p := ⟨w.heap.size, 0, none⟩) (Nat.lt_trans lw Asz)).trans B0; have Y1 := (hb1.cell (p := ⟨g, n * 3, none⟩) (Nat.lt_trans lg Asz)).trans B1; have Y2 := (hb1.cell (p := ⟨g, n * 3 + 1, none⟩) (Nat.lt_trans lg Asz)).trans B2; have Y3 := (hb1.cell (p := ⟨g, n * 3 + 2, none⟩) (Nat.lt_trans lg Asz)).trans B3; have Z0 := (hb1.cell (p := ⟨wr.heap.size, 0, none⟩) Asz).trans A0; have Z1 := (hb1.cell (p := ⟨wr.heap.size, 1, none⟩) Asz).trans A1; have Z2 := (hb1.cell (p := ⟨wr.heap.size, 2, none⟩) Asz).trans A2; have Zf := fun j => (hb1.frozen (p := ⟨wr.heap.size, j, none⟩) Asz).trans (Af j)))
      · have F : DoIn wr _ _ x.d := DoIn.behind (d := x.d) ((Below.refl wr.heap.size wr).drew.trans hb1)
        generalize w1.alloc (.cells #[.int .i64 x.d.k, .int .i64 x.d.p, .int .i64 x.d.v] 51) = W1 at F ⊢
        generalize w1.heap.size = X at F ⊢
        clear hb1 A0 A1 A2 Af B0 B1 B2 B3 N0 N1 Y0 Y1 Y2 Y3 C hbA
        obtain ⟨hbF, hgF, d0, d1, d2⟩ := F
        have lX : X < W1.heap.size := World.block_lt_of_cell? _ _ d0
        have hbG := hbF.trans ((below1 W1 (.cells #[.int .i64 x.d.k, .int .i64 x.d.p, .int .i64 x.d.v] 51)).mono hbF.size)
        have D0 := ((below1 W1 (.cells #[.int .i64 x.d.k, .int .i64 x.d.p, .int .i64 x.d.v] 51)).cell (p := ⟨X, 0, none⟩) lX).trans d0
        have D2 := ((below1 W1 (.cells #[.int .i64 x.d.k, .int .i64 x.d.p, .int .i64 x.d.v] 51)).cell (p := ⟨X, 2, none⟩) lX).trans d2
        have hbZ := hb2.trans (hbG.mono hb2.size)
        cases hr : M.reads x.d.k
        · have HV2 : Hid (M.val (M.deeds ll) l (m + 1) n = if x.d.k == 3 then M.val (M.deeds ll) l m x.lr else x.d.v) := by show _ = _; rw [HV.out, show x.reads = false from hr]; rfl
          cases h3 : (x.d.k == 3)
          · go_wp2_with (go_at_call 43; refine (l1Reads_any x.d _).mono ?_; rw [hr]; rintro e w' ⟨rfl, rfl⟩)
            go_ret
            exact ⟨by rw [HV2.out, h3]; rfl, hbZ⟩
          · have HL : Hid (x.lr < ((M.deeds ll).length : Int)) := by
              have := HFR.out
              rw [show x.reads = false from hr, h3] at this
              exact this
            have HS : Hid (M.src (M.deeds ll) x.t n = x.lr) := HSR.out hr
            go_wp2_with (go_at_call 43; refine (l1Reads_any x.d _).mono ?_; rw [hr]; rintro e w' ⟨rfl, rfl⟩)
            replace h := h.below hbG (Nat.le_refl _)
            replace hd := hd.bel hbG (Nat.le_refl _)
            replace hf := hf.below hbG (Nat.le_refl _)
            replace kp := (hbG.cell (p := ⟨w.heap.size, 0, none⟩) lw).trans kp
            replace k0 := (hbG.cell (p := ⟨w.heap.size + 1, 0, none⟩) lw1).trans k0
            replace k1 := (hbG.cell (p := ⟨w.heap.size + 1, 1, none⟩) lw1).trans k1
            generalize W1.alloc (.cells #[.int .i64 x.d.k, .int .i64 x.d.p, .int .i64 x.d.v] 51) = W2 at *
            have KP := BelowOf.cell kp
            have K0 := BelowOf.cell k0
            have K1 := BelowOf.cell k1
            have C1 := fun q : BelowOf W2 => l12Source_any a b o c ll (some ⟨g, 0, none⟩) g cc n x.t q.x hn HXT.out hl hls hdl (h.below q.h (Nat.le_refl _)) (hd.bel q.h (Nat.le_refl _))
            have C2 := fun q : BelowOf W2 => ih x.lr q.x (by omega) HL.out (h.below q.h (Nat.le_refl _)) (hd.bel q.h (Nat.le_refl _)) (hf.below q.h (Nat.le_refl _))
            rw [HS.out] at C1
            haveI : Inhabited (BelowOf W2) := ⟨belOf W2⟩
            clear ih
            have em : IntKind.i64.wrap (m : Int) = m := by rw [IntKind.wrap_i64]; omega
            refine wp_region_quiet_bel (by kernel_rfl) (by kernel_rfl) ?_
            repeat (quiet_step (first | (go_at_call 73; exact Calls.bel_of (C1 _)) | (go_at_call 51; exact Calls.bel_of (C2 _))))
            refine wpQuiet_nil ?_
            rintro _ ⟨⟨wq, hwq⟩, rfl⟩
            go_wp2_with fail
            go_ret
            exact ⟨by rw [HV2.out, h3]; rfl, hbZ.trans (hwq.mono hbZ.size)⟩
        · have HV2 : Hid (M.val (M.deeds ll) l (m + 1) n = M.val (M.deeds ll) l m f) := by show _ = _; rw [HV.out, show x.reads = true from hr]; rfl
          have HL : Hid (f < ((M.deeds ll).length : Int)) := by
            have := HFR.out
            rw [show x.reads = true from hr] at this
            exact this
          go_wp2_with (go_at_call 43; refine (l1Reads_any x.d _).mono ?_; rw [hr]; rintro e w' ⟨rfl, rfl⟩)
          replace h := h.below hbG (Nat.le_refl _)
          replace hd := hd.bel hbG (Nat.le_refl _)
          replace hf := hf.below hbG (Nat.le_refl _)
          replace kp := (hbG.cell (p := ⟨w.heap.size, 0, none⟩) lw).trans kp
          replace k0 := (hbG.cell (p := ⟨w.heap.size + 1, 0, none⟩) lw1).trans k0
          replace k1 := (hbG.cell (p := ⟨w.heap.size + 1, 1, none⟩) lw1).trans k1
          replace hfc := (hbG.cell (p := ⟨fb, fo + n, none⟩) lf).trans hfc
          generalize W1.alloc (.cells #[.int .i64 x.d.k, .int .i64 x.d.p, .int .i64 x.d.v] 51) = W2 at *
          have KP := BelowOf.cell kp
          have K0 := BelowOf.cell k0
          have K1 := BelowOf.cell k1
          have KF := BelowOf.cell hfc
          have C2 := fun q : BelowOf W2 => ih f q.x (by omega) HL.out (h.below q.h (Nat.le_refl _)) (hd.bel q.h (Nat.le_refl _)) (hf.below q.h (Nat.le_refl _))
          haveI : Inhabited (BelowOf W2) := ⟨belOf W2⟩
          clear ih
          have em : IntKind.i64.wrap (m : Int) = m := by rw [IntKind.wrap_i64]; omega
          refine wp_region_quiet_bel (by kernel_rfl) (by kernel_rfl) ?_
          repeat (quiet_step (first | (go_at_call 51; exact Calls.bel_of (C2 _))))
          refine wpQuiet_nil ?_
          rintro _ ⟨⟨wq, hwq⟩, rfl⟩
          go_wp2_with fail
          go_ret
          exact ⟨by rw [HV2.out]; rfl, hbZ.trans (hwq.mono hbZ.size)⟩
      · have F : DoIn wr _ _ x.d := DoIn.ahead (d := x.d) (hbA.drew.trans (hb1.mono (Nat.le_of_lt Asz))) Z0 Z1 Z2
        generalize ((w1.setCell ⟨wr.heap.size, 0, none⟩ (.int .i64 x.d.k)).setCell ⟨wr.heap.size, 1, none⟩ (.int .i64 x.d.p)).setCell ⟨wr.heap.size, 2, none⟩ (.int .i64 x.d.v) = W1 at F ⊢
        obtain ⟨X, hX, F⟩ : ∃ X, X = wr.heap.size ∧ DoIn wr W1 X x.d := ⟨_, rfl, F⟩
        rw [← hX]
        clear hX
        clear hb1 A0 A1 A2 Af B0 B1 B2 B3 N0 N1 Y0 Y1 Y2 Y3 C hbA
        obtain ⟨hbF, hgF, d0, d1, d2⟩ := F
        have lX : X < W1.heap.size := World.block_lt_of_cell? _ _ d0
        have hbG := hbF.trans ((below1 W1 (.cells #[.int .i64 x.d.k, .int .i64 x.d.p, .int .i64 x.d.v] 51)).mono hbF.size)
        have D0 := ((below1 W1 (.cells #[.int .i64 x.d.k, .int .i64 x.d.p, .int .i64 x.d.v] 51)).cell (p := ⟨X, 0, none⟩) lX).trans d0
        have D2 := ((below1 W1 (.cells #[.int .i64 x.d.k, .int .i64 x.d.p, .int .i64 x.d.v] 51)).cell (p := ⟨X, 2, none⟩) lX).trans d2
        have hbZ := hb2.trans (hbG.mono hb2.size)
        cases hr : M.reads x.d.k
        · have HV2 : Hid (M.val (M.deeds ll) l (m + 1) n = if x.d.k == 3 then M.val (M.deeds ll) l m x.lr else x.d.v) := by show _ = _; rw [HV.out, show x.reads = false from hr]; rfl
          cases h3 : (x.d.k == 3)
          · go_wp2_with (go_at_call 43; refine (l1Reads_any x.d _).mono ?_; rw [hr]; rintro e w' ⟨rfl, rfl⟩)
            go_ret
            exact ⟨by rw [HV2.out, h3]; rfl, hbZ⟩
          · have HL : Hid (x.lr < ((M.deeds ll).length : Int)) := by
              have := HFR.out
              rw [show x.reads = false from hr, h3] at this
              exact this
            have HS : Hid (M.src (M.deeds ll) x.t n = x.lr) := HSR.out hr
            go_wp2_with (go_at_call 43; refine (l1Reads_any x.d _).mono ?_; rw [hr]; rintro e w' ⟨rfl, rfl⟩)
            replace h := h.below hbG (Nat.le_refl _)
            replace hd := hd.bel hbG (Nat.le_refl _)
            replace hf := hf.below hbG (Nat.le_refl _)
            replace kp := (hbG.cell (p := ⟨w.heap.size, 0, none⟩) lw).trans kp
            replace k0 := (hbG.cell (p := ⟨w.heap.size + 1, 0, none⟩) lw1).trans k0
            replace k1 := (hbG.cell (p := ⟨w.heap.size + 1, 1, none⟩) lw1).trans k1
            generalize W1.alloc (.cells #[.int .i64 x.d.k, .int .i64 x.d.p, .int .i64 x.d.v] 51) = W2 at *
            have KP := BelowOf.cell kp
            have K0 := BelowOf.cell k0
            have K1 := BelowOf.cell k1
            have C1 := fun q : BelowOf W2 => l12Source_any a b o c ll (some ⟨g, 0, none⟩) g cc n x.t q.x hn HXT.out hl hls hdl (h.below q.h (Nat.le_refl _)) (hd.bel q.h (Nat.le_refl _))
            have C2 := fun q : BelowOf W2 => ih x.lr q.x (by omega) HL.out (h.below q.h (Nat.le_refl _)) (hd.bel q.h (Nat.le_refl _)) (hf.below q.h (Nat.le_refl _))
            rw [HS.out] at C1
            haveI : Inhabited (BelowOf W2) := ⟨belOf W2⟩
            clear ih
            have em : IntKind.i64.wrap (m : Int) = m := by rw [IntKind.wrap_i64]; omega
            refine wp_region_quiet_bel (by kernel_rfl) (by kernel_rfl) ?_
            repeat (quiet_step (first | (go_at_call 73; exact Calls.bel_of (C1 _)) | (go_at_call 51; exact Calls.bel_of (C2 _))))
            refine wpQuiet_nil ?_
            rintro _ ⟨⟨wq, hwq⟩, rfl⟩
            go_wp2_with fail
            go_ret
            exact ⟨by rw [HV2.out, h3]; rfl, hbZ.trans (hwq.mono hbZ.size)⟩
        · have HV2 : Hid (M.val (M.deeds ll) l (m + 1) n = M.val (M.deeds ll) l m f) := by show _ = _; rw [HV.out, show x.reads = true from hr]; rfl
          have HL : Hid (f < ((M.deeds ll).length : Int)) := by
            have := HFR.out
            rw [show x.reads = true from hr] at this
            exact this
          go_wp2_with (go_at_call 43; refine (l1Reads_any x.d _).mono ?_; rw [hr]; rintro e w' ⟨rfl, rfl⟩)
          replace h := h.below hbG (Nat.le_refl _)
          replace hd := hd.bel hbG (Nat.le_refl _)
          replace hf := hf.below hbG (Nat.le_refl _)
          replace kp := (hbG.cell (p := ⟨w.heap.size, 0, none⟩) lw).trans kp
          replace k0 := (hbG.cell (p := ⟨w.heap.size + 1, 0, none⟩) lw1).trans k0
          replace k1 := (hbG.cell (p := ⟨w.heap.size + 1, 1, none⟩) lw1).trans k1
          replace hfc := (hbG.cell (p := ⟨fb, fo + n, none⟩) lf).trans hfc
          generalize W1.alloc (.cells #[.int .i64 x.d.k, .int .i64 x.d.p, .int .i64 x.d.v] 51) = W2 at *
          have KP := BelowOf.cell kp
          have K0 := BelowOf.cell k0
          have K1 := BelowOf.cell k1
          have KF := BelowOf.cell hfc
          have C2 := fun q : BelowOf W2 => ih f q.x (by omega) HL.out (h.below q.h (Nat.le_refl _)) (hd.bel q.h (Nat.le_refl _)) (hf.below q.h (Nat.le_refl _))
          haveI : Inhabited (BelowOf W2) := ⟨belOf W2⟩
          clear ih
          have em : IntKind.i64.wrap (m : Int) = m := by rw [IntKind.wrap_i64]; omega
          refine wp_region_quiet_bel (by kernel_rfl) (by kernel_rfl) ?_
          repeat (quiet_step (first | (go_at_call 51; exact Calls.bel_of (C2 _))))
          refine wpQuiet_nil ?_
          rintro _ ⟨⟨wq, hwq⟩, rfl⟩
          go_wp2_with fail
          go_ret
          exact ⟨by rw [HV2.out]; rfl, hbZ.trans (hwq.mono hbZ.size)⟩

end Go.Proofs.Ytelmclbojpbcbaa

namespace Go.Proofs.Ytelmclbojpbcbaa
open Go.RowKit

def M.vEnds (ds : List M.De) (l : List Int) : Nat → List M.De → Bool
  | _, [] => true
  | n, _ :: xs => decide (0 ≤ M.val ds l (2 * ds.length + 2) n) && M.vEnds ds l (n + 1) xs
theorem M.vEnds_step {ds : List M.De} {l : List Int} {n : Nat} (h : M.vEnds ds l 0 ds = M.vEnds ds l n (ds.drop n)) (hn : n < ds.length) : M.vEnds ds l 0 ds = (decide (0 ≤ M.val ds l (2 * ds.length + 2) n) && M.vEnds ds l (n + 1) (ds.drop (n + 1))) := by
  rw [h, ← List.getElem_cons_drop hn, M.vEnds]

set_option maxHeartbeats 1000000 in
set_option maxRecDepth 100000 in
theorem l12Ends_any (a : Option Addr) (b o c : Nat) (ll : List (List M.D)) (va : Option Addr) (g cc : Nat) (fa : Option Addr) (fb fo fc : Nat) (l : List Int) (ra : Value) (w : World) (hl : ll.length ≤ 1048576) (hls : ∀ t ∈ ll, t.length ≤ 1048576) (hdl : (M.deeds ll).length ≤ 42) (HLL : Hid (l.length = (M.deeds ll).length)) (hin : M.In (M.deeds ll) l) (h : DoSS w a b o ll) (hd : DvS w va g (M.deeds ll)) (hf : IntS w fa fb fo l) :
    Calls Try.prog 26 #[.agg #[.slice a ll.length c], .slice va (M.deeds ll).length cc, .agg #[.slice fa l.length fc, ra]] w fun e w' => e = .returned (.bool (M.vEnds (M.deeds ll) l 0 (M.deeds ll))) ∧ Below w.heap.size w w' := by
  have hb2 := below2 w (.cells #[.slice a ll.length c] 30) (.cells #[.slice fa l.length fc, ra] 43)
  have kp : ((w.alloc (.cells #[.slice a ll.length c] 30)).alloc (.cells #[.slice fa l.length fc, ra] 43)).cell? ⟨w.heap.size, 0, none⟩ = some (.slice a ll.length c) := by simp
  have k0 : ((w.alloc (.cells #[.slice a ll.length c] 30)).alloc (.cells #[.slice fa l.length fc, ra] 43)).cell? ⟨w.heap.size + 1, 0, none⟩ = some (.slice fa l.length fc) := by simp
  have k1 : ((w.alloc (.cells #[.slice a ll.length c] 30)).alloc (.cells #[.slice fa l.length fc, ra] 43)).cell? ⟨w.heap.size + 1, 1, none⟩ = some ra := by simp
  have C := l12Val_any a b o c ll va g cc fa fb fo fc l ra hl hls hdl HLL hin (2 * (M.deeds ll).length + 2)
  rw [show ((2 * (M.deeds ll).length + 2 : Nat) : Int) = 2 * ((M.deeds ll).length : Int) + 2 from by omega] at C
  generalize M.deeds ll = ds at *
  replace h := h.below hb2 (Nat.le_refl _)
  replace hd := hd.bel hb2 (Nat.le_refl _)
  replace hf := hf.below hb2 (Nat.le_refl _)
  go_enter Try.func26, Try.ntmps26
  go_wp2_with fail
  generalize (w.alloc (.cells #[.slice a ll.length c] 30)).alloc (.cells #[.slice fa l.length fc, ra] 43) = WB at *
  have lw1 : w.heap.size + 1 < WB.heap.size := World.block_lt_of_cell? _ _ k0
  have lw : w.heap.size < WB.heap.size := World.block_lt_of_cell? _ _ kp
  go_loopw [7] (fun s7 wr => ∃ n : Nat, s7 = .int .i64 n ∧ n ≤ ds.length ∧ Hid (M.vEnds ds l 0 ds = M.vEnds ds l n (ds.drop n)) ∧ Below WB.heap.size WB wr) (fun s7 _ => ds.length - (intOf s7).toNat)
  case atStart => exact ⟨0, rfl, Nat.zero_le _, by show _ = _; rfl, Below.refl _ _⟩
  case round =>
    obtain ⟨n, rfl, hn, HA, hb⟩ := hrel
    have hbw := hb2.trans (hb.mono hb2.size)
    have kp' := (hb.cell (p := ⟨w.heap.size, 0, none⟩) lw).trans kp
    have k0' := (hb.cell (p := ⟨w.heap.size + 1, 0, none⟩) lw1).trans k0
    have k1' := (hb.cell (p := ⟨w.heap.size + 1, 1, none⟩) lw1).trans k1
    by_cases hlt : n < ds.length
    · have HS : Hid (M.vEnds ds l 0 ds = (decide (0 ≤ M.val ds l (2 * ds.length + 2) n) && M.vEnds ds l (n + 1) (ds.drop (n + 1)))) := M.vEnds_step HA.out hlt
      have C1 := C n wr (by omega) (by omega) (h.below hb (Nat.le_refl _)) (hd.bel hb (Nat.le_refl _)) (hf.below hb (Nat.le_refl _))
      clear HA C
      generalize M.val ds l (2 * ds.length + 2) n = r at *
      have i1 : (n : Int) < ds.length := by omega
      by_cases hr : r < 0
      · have HT : Hid (M.vEnds ds l 0 ds = false) := by show _ = _; rw [HS.out, decide_eq_false (by omega)]; rfl
        go_wp2_with (go_at_call 51; refine C1.mono ?_; rintro e w1 ⟨rfl, hb1⟩)
        go_ret
        exact ⟨ret_bool HT.out.symm, hbw.trans (hb1.mono hbw.size)⟩
      · have HT : Hid (M.vEnds ds l 0 ds = M.vEnds ds l (n + 1) (ds.drop (n + 1))) := by show _ = _; rw [HS.out, decide_eq_true (by omega)]; rfl
        have hr' : decide (r < 0) = false := by simpa using hr
        go_wp2_with (go_at_call 51; refine C1.mono ?_; rintro e w1 ⟨rfl, hb1⟩)
        exact ⟨⟨n + 1, by go_num, by omega, HT, hb.trans (hb1.mono hb.size)⟩, by simp [intOf]; omega⟩
    · go_wp2_with fail
      go_ret
      exact ⟨ret_bool (by rw [HA.out, List.drop_eq_nil_of_le (by omega)]; rfl), hbw⟩

end Go.Proofs.Ytelmclbojpbcbaa

namespace Go.Proofs.Ytelmclbojpbcbaa
open Go.RowKit

def M.sTell (rows : List (List Int)) (x : M.De) (f : Int) : Bool := if x.reads then f == -1 || M.has (rows.getD x.d.p.toNat []) f else f == -2
def M.sFrom (rows : List (List Int)) : List M.De → List Int → Bool
  | [], _ => true
  | x :: xs, f :: fs => M.sTell rows x f && M.sFrom rows xs fs
  | _ :: _, [] => false
theorem M.sFrom_step {rows : List (List Int)} {ds : List M.De} {l : List Int} {n : Nat} (h : M.sFrom rows ds l = M.sFrom rows (ds.drop n) (l.drop n)) (hn : n < ds.length) (hl : n < l.length) : M.sFrom rows ds l = (M.sTell rows ds[n] l[n] && M.sFrom rows (ds.drop (n + 1)) (l.drop (n + 1))) := by
  rw [h, ← List.getElem_cons_drop hn, ← List.getElem_cons_drop hl, M.sFrom]
def M.sForm (ds : List M.De) (l : List Int) (rows : List (List Int)) : Bool := decide (l.length = ds.length) && (decide (rows.length = 3) && (M.orderAt ds 0 rows && M.sFrom rows ds l))

set_option maxHeartbeats 8000000 in
set_option maxRecDepth 100000 in
theorem l12Form_any (a : Option Addr) (b o c : Nat) (ll : List (List M.D)) (va : Option Addr) (g cc : Nat) (fa : Option Addr) (fb fo fc : Nat) (l : List Int) (ra : Option Addr) (rb ro rc : Nat) (rows : List (List Int)) (w : World) (hl : ll.length ≤ 1048576) (hls : ∀ t ∈ ll, t.length ≤ 1048576) (hdl : (M.deeds ll).length ≤ 42) (hpl : ∀ x ∈ M.deeds ll, x.reads = true → 0 ≤ x.d.p ∧ x.d.p < 3) (hl1 : l.length ≤ 1048576) (hrs : ∀ r ∈ rows, r.length ≤ 1048576) (h : DoSS w a b o ll) (hd : DvS w va g (M.deeds ll)) (hf : IntS w fa fb fo l) (hr : IntSS w ra rb ro rows) :
    Calls Try.prog 46 #[.agg #[.slice a ll.length c], .slice va (M.deeds ll).length cc, .agg #[.slice fa l.length fc, .slice ra rows.length rc]] w fun e w' => e = .returned (.bool (M.sForm (M.deeds ll) l rows)) ∧ Below w.heap.size w w' := by
  have hof := M.ofEv (ll := ll)
  have CW := fun (p : Int) W => l12Writes_any a b o c ll va g cc p W hl hls hdl
  generalize M.deeds ll = ds at *
  have hb2 := below2 w (.cells #[.slice a ll.length c] 30) (.cells #[.slice fa l.length fc, .slice ra rows.length rc] 43)
  by_cases hln : l.length = ds.length
  · by_cases hl3 : rows.length = 3
    · have HF : Hid (M.sForm ds l rows = (M.orderAt ds 0 rows && M.sFrom rows ds l)) := by show _ = _; simp [M.sForm, hln, hl3]
      have hq : ((l.length : Int) != ds.length) = false := by simp; omega
      have hq3 : ((rows.length : Int) != 3) = false := by simp; omega
      have HL : Hid (l.length = ds.length) := hln
      have HR : Hid (rows.length = 3) := hl3
      have kp : ((w.alloc (.cells #[.slice a ll.length c] 30)).alloc (.cells #[.slice fa l.length fc, .slice ra rows.length rc] 43)).cell? ⟨w.heap.size, 0, none⟩ = some (.slice a ll.length c) := by simp
      have k0 : ((w.alloc (.cells #[.slice a ll.length c] 30)).alloc (.cells #[.slice fa l.length fc, .slice ra rows.length rc] 43)).cell? ⟨w.heap.size + 1, 0, none⟩ = some (.slice fa l.length fc) := by simp
      have k1 : ((w.alloc (.cells #[.slice a ll.length c] 30)).alloc (.cells #[.slice fa l.length fc, .slice ra rows.length rc] 43)).cell? ⟨w.heap.size + 1, 1, none⟩ = some (.slice ra rows.length rc) := by simp
      obtain ⟨rfl⟩ := hr.addr (by omega)
      clear hln hl3
      replace h := h.below hb2 (Nat.le_refl _)
      replace hd := hd.bel hb2 (Nat.le_refl _)
      replace hf := hf.below hb2 (Nat.le_refl _)
      replace hr := hr.below hb2 (Nat.le_refl _)
      go_enter Try.func46, Try.ntmps46
      go_wp2_with fail
      generalize (w.alloc (.cells #[.slice a ll.length c] 30)).alloc (.cells #[.slice fa l.length fc, .slice (some ⟨rb, ro, none⟩) rows.length rc] 43) = WB at *
      have lw1 : w.heap.size + 1 < WB.heap.size := World.block_lt_of_cell? _ _ k0
      have lw : w.heap.size < WB.heap.size := World.block_lt_of_cell? _ _ kp
      go_loopw [7] (fun s7 wr => ∃ n : Nat, s7 = .int .i64 n ∧ n ≤ 3 ∧ Hid (M.orderAt ds 0 rows = M.orderAt ds n (rows.drop n)) ∧ Below WB.heap.size WB wr) (fun s7 _ => 3 - (intOf s7).toNat)
      case atStart => exact ⟨0, rfl, Nat.zero_le _, by show _ = _; rfl, Below.refl _ _⟩
      case round =>
        obtain ⟨n, rfl, hn, HA, hb⟩ := hrel
        have hbw := hb2.trans (hb.mono hb2.size)
        have kp' := (hb.cell (p := ⟨w.heap.size, 0, none⟩) lw).trans kp
        by_cases hlt : n < 3
        · have hlr : n < rows.length := by rw [HR.out]; exact hlt
          have HS : Hid (M.orderAt ds 0 rows = (M.isRow rows[n] (M.wrs n 0 ds) && M.orderAt ds (n + 1) (rows.drop (n + 1)))) := M.order_step HA.out hlr
          clear HA
          obtain ⟨a', b', o', c', hc, hrow⟩ := hr.row n hlr
          have hle := hrs _ (List.getElem_mem hlr)
          generalize rows[n] = row at *
          have i1 : (n : Int) < rows.length := by omega
          have i3 : (n : Int) < 3 := by omega
          have hwl : (M.wrs (n : Int) 0 ds).length ≤ 42 := Nat.le_trans (M.wrs_len _ _ _) hdl
          go_wp2_with fail
          refine (CW n wr (h.below hb (Nat.le_refl _)) (hd.bel hb (Nat.le_refl _))).mono ?_
          rintro e w1 ⟨v1, rfl, hown1, hb1⟩
          obtain ⟨va1, g1, c1, rfl, hi1, _⟩ := own_nums hown1
          have hb' := hb.trans (hb1.mono hb.size)
          have hbb := hb2.trans (hb'.mono hb2.size)
          have k1' := (hb'.cell (p := ⟨w.heap.size + 1, 1, none⟩) lw1).trans k1
          have hc' := (hb'.cell (p := ⟨rb, ro + n, none⟩) (World.block_lt_of_cell? _ _ hc)).trans hc
          have hrow' := hrow.below hb' (Nat.le_refl _)
          obtain ⟨evs, hevs⟩ : ∃ evs, M.wrs (n : Int) 0 ds = evs := ⟨_, rfl⟩
          rw [hevs] at hi1 hwl HS ⊢
          clear hevs hown1 CW
          by_cases hlen : row.length = evs.length
          · have HI : Hid (M.isRow row evs = evs.all (row.contains ·)) := by show _ = _; simp [M.isRow, hlen]
            have hq5 : ((evs.length : Int) != row.length) = false := by simp; omega
            clear hlen
            go_wp2_with fail
            go_loopw [9] (fun s9 wr' => ∃ i : Nat, s9 = .int .i64 i ∧ i ≤ evs.length ∧ Hid (evs.all (row.contains ·) = (evs.drop i).all (row.contains ·)) ∧ Below w1.heap.size w1 wr') (fun s9 _ => evs.length - (intOf s9).toNat)
            case atStart => exact ⟨0, rfl, Nat.zero_le _, by show _ = _; rfl, Below.refl _ _⟩
            case round =>
              obtain ⟨i, rfl, hi, HB, hb3⟩ := hrel
              have hb'' := hb'.trans (hb3.mono hb'.size)
              have hbb3 := hb2.trans (hb''.mono hb2.size)
              by_cases hlt2 : i < evs.length
              · have HS2 : Hid (evs.all (row.contains ·) = (M.has row evs[i] && (evs.drop (i + 1)).all (row.contains ·))) := M.all_step HB.out hlt2
                clear HB
                obtain ⟨rfl⟩ := hi1.addr (by omega)
                have hev := hi1.row i hlt2
                rw [Nat.zero_add] at hev
                generalize evs[i] = ev at *
                have K1 := BelowOf.cell ((hb3.cell (p := ⟨w.heap.size + 1, 1, none⟩) (World.block_lt_of_cell? _ _ k1')).trans k1')
                have KC := BelowOf.cell ((hb3.cell (p := ⟨rb, ro + n, none⟩) (World.block_lt_of_cell? _ _ hc')).trans hc')
                have KE := BelowOf.cell ((hb3.cell (p := ⟨g1, i, none⟩) (World.block_lt_of_cell? _ _ hev)).trans hev)
                have C := fun q : BelowOf wr => l12Has_any a' b' o' c' row ev q.x hle ((hrow'.below hb3 (Nat.le_refl _)).below q.h (Nat.le_refl _))
                haveI : Inhabited (BelowOf wr) := ⟨belOf wr⟩
                have i4 : (i : Int) < evs.length := by omega
                go_wp2_with fail
                cases hh : M.has row ev
                · have HT : Hid (M.sForm ds l rows = false) := by show _ = _; rw [HF.out, HS.out, HI.out, HS2.out, hh]; rfl
                  rw [hh] at C
                  refine wp_region_quiet_bel (by kernel_rfl) (by kernel_rfl) ?_
                  repeat (quiet_step (first | (go_at_call 72; exact Calls.bel_of_same (C _))))
                  refine wpQuiet_nil ?_
                  rintro _ ⟨⟨wq, hwq⟩, rfl⟩
                  go_wp2_with fail
                  go_ret
                  exact ⟨ret_bool HT.out.symm, hbb3.trans (hwq.mono hbb3.size)⟩
                · have HT : Hid (evs.all (row.contains ·) = (evs.drop (i + 1)).all (row.contains ·)) := by show _ = _; rw [HS2.out, hh]; rfl
                  rw [hh] at C
                  refine wp_region_quiet_bel (by kernel_rfl) (by kernel_rfl) ?_
                  repeat (quiet_step (first | (go_at_call 72; exact Calls.bel_of_same (C _))))
                  refine wpQuiet_nil ?_
                  rintro _ ⟨⟨wq, hwq⟩, rfl⟩
                  go_wp2_with fail
                  exact ⟨⟨i + 1, by go_num, by omega, HT, hb3.trans (hwq.mono hb3.size)⟩, by simp [intOf]; omega⟩
              · have HT : Hid (M.orderAt ds 0 rows = M.orderAt ds (n + 1) (rows.drop (n + 1))) := by show _ = _; rw [HS.out, HI.out, HB.out, List.drop_eq_nil_of_le (by omega)]; rfl
                go_wp2_with fail
                exact ⟨⟨n + 1, by go_num, by omega, HT, hb''⟩, by simp [intOf]; omega⟩
          · have HT : Hid (M.sForm ds l rows = false) := by show _ = _; rw [HF.out, HS.out]; simp [M.isRow, hlen]
            have hq5 : ((evs.length : Int) == row.length) = false := by simp; omega
            go_wp2_with fail
            go_ret
            exact ⟨ret_bool HT.out.symm, hbb⟩
        · have HO : Hid (M.orderAt ds 0 rows = true) := by show _ = _; rw [HA.out, List.drop_eq_nil_of_le (by rw [HR.out]; omega)]; rfl
          have HF2 : Hid (M.sForm ds l rows = M.sFrom rows ds l) := by show _ = _; rw [HF.out, HO.out]; rfl
          clear HF HO HA CW
          have i3 : ¬ ((n : Int) < 3) := by omega
          go_wp2_with fail
          go_loopw [10] (fun s10 wr => ∃ n : Nat, s10 = .int .i64 n ∧ n ≤ ds.length ∧ Hid (M.sFrom rows ds l = M.sFrom rows (ds.drop n) (l.drop n)) ∧ Below WB.heap.size WB wr) (fun s10 _ => ds.length - (intOf s10).toNat)
          case atStart => exact ⟨0, rfl, Nat.zero_le _, by show _ = _; rfl, hb⟩
          case round =>
            clear hb hbw kp' i3 hlt hn
            obtain ⟨n, rfl, hn, HA, hb⟩ := hrel
            have hbw := hb2.trans (hb.mono hb2.size)
            have kp' := (hb.cell (p := ⟨w.heap.size, 0, none⟩) lw).trans kp
            by_cases hlt : n < ds.length
            · have hltl : n < l.length := by rw [HL.out]; exact hlt
              have HS : Hid (M.sFrom rows ds l = (M.sTell rows ds[n] l[n] && M.sFrom rows (ds.drop (n + 1)) (l.drop (n + 1)))) := M.sFrom_step HA.out hlt hltl
              have hox := hof _ (List.getElem_mem hlt)
              have HPX : Hid (ds[n].reads = true → 0 ≤ ds[n].d.p ∧ ds[n].d.p < 3) := hpl _ (List.getElem_mem hlt)
              clear HA
              obtain ⟨rfl⟩ := hd.addr (by omega)
              obtain ⟨rfl⟩ := hf.addr (by omega)
              obtain ⟨c0, c1, c2⟩ := (hd.bel hb (Nat.le_refl _)).at hlt
              have hfc := hf.row n hltl
              generalize ds[n] = x at *
              generalize l[n] = f at *
              have i1 : (n : Int) < ds.length := by omega
              have i2 : (n : Int) < l.length := by omega
              have lg : g < wr.heap.size := World.block_lt_of_cell? _ _ c0
              have lww : w.heap.size < wr.heap.size := World.block_lt_of_cell? _ _ kp'
              have C := fun W (hb' : Below wr.heap.size wr W) => l12Do_ev a b o c ll x W hox hl hls ((h.below hb (Nat.le_refl _)).below hb' (Nat.le_refl _))
              have hbA := below1 wr (.cells #[.int .i64 0, .int .i64 0, .int .i64 0] 51)
              have A0 : (wr.alloc (.cells #[.int .i64 0, .int .i64 0, .int .i64 0] 51)).cell? ⟨wr.heap.size, 0, none⟩ = some (.int .i64 0) := by simp
              have A1 : (wr.alloc (.cells #[.int .i64 0, .int .i64 0, .int .i64 0] 51)).cell? ⟨wr.heap.size, 1, none⟩ = some (.int .i64 0) := by simp
              have A2 : (wr.alloc (.cells #[.int .i64 0, .int .i64 0, .int .i64 0] 51)).cell? ⟨wr.heap.size, 2, none⟩ = some (.int .i64 0) := by simp
              have Af : ∀ j, (wr.alloc (.cells #[.int .i64 0, .int .i64 0, .int .i64 0] 51)).frozen? ⟨wr.heap.size, j, none⟩ = false := by intro j; simp
              have Asz : wr.heap.size < (wr.alloc (.cells #[.int .i64 0, .int .i64 0, .int .i64 0] 51)).heap.size := by simp
              have N0 : wr.heap.size ≠ w.heap.size := Nat.ne_of_gt lww
              have N1 : wr.heap.size ≠ g := Nat.ne_of_gt lg
              have B0 := (hbA.cell (p := ⟨w.heap.size, 0, none⟩) lww).trans kp'
              have B1 := (hbA.cell (p := ⟨g, n * 3, none⟩) lg).trans c0
              have B2 := (hbA.cell (p := ⟨g, n * 3 + 1, none⟩) lg).trans c1
              have B3 := (hbA.cell (p := ⟨g, n * 3 + 2, none⟩) lg).trans c2
              go_wp2_with fail
              go_region_held3 (fun w' => w'.cell? ⟨w.heap.size, 0, none⟩ = some (.slice a ll.length c) ∧ w'.cell? ⟨g, n * 3, none⟩ = some (.int .i64 x.t) ∧ w'.cell? ⟨g, n * 3 + 1, none⟩ = some (.int .i64 x.i) ∧ w'.cell? ⟨g, n * 3 + 2, none⟩ = some (.bool x.last)) (go_keep) (first
                | (go_at_call 48; refine (C _ ((Below.refl _ _).drew)).mono ?_; rintro e w1 ⟨rfl, hb1⟩; have Y0 := (hb1.cell (p := ⟨w.heap.size, 0, none⟩) lww).trans kp'; have Y1 := (hb1.cell (p := ⟨g, n * 3, none⟩) lg).trans c0; have Y2 := (hb1.cell (p := ⟨g, n * 3 + 1, none⟩) lg).trans c1; have Y3 := (hb1.cell (p := ⟨g, n * 3 + 2, none⟩) lg).trans c2)
                | (go_at_call 48; refine (C _ ((below1 _ _).drew)).mono ?_; rintro e w1 ⟨rfl, hb1⟩; have Y0 := (hb1.cell (p := ⟨w.heap.size, 0, none⟩) (Nat.lt_trans lww Asz)).trans B0; have Y1 := (hb1.cell (p := ⟨g, n * 3, none⟩) (Nat.lt_trans lg Asz)).trans B1; have Y2 := (hb1.cell (p := ⟨g, n * 3 + 1, none⟩) (Nat.lt_trans lg Asz)).trans B2; have Y3 := (hb1.cell (p := ⟨g, n * 3 + 2, none⟩) (Nat.lt_trans lg Asz)).trans B3; have Z0 := (hb1.cell (p := ⟨wr.heap.size, 0, none⟩) Asz).trans A0; have Z1 := (hb1.cell (p := ⟨wr.heap.size, 1, none⟩) Asz).trans A1; have Z2 := (hb1.cell (p := ⟨wr.heap.size, 2, none⟩) Asz).trans A2; have Zf := fun j => (hb1.frozen (p := ⟨wr.heap.size, j, none⟩) Asz).trans (Af j)))
              · have F : DoIn wr _ _ x.d := DoIn.behind (d := x.d) ((Below.refl wr.heap.size wr).drew.trans hb1)
                generalize w1.alloc (.cells #[.int .i64 x.d.k, .int .i64 x.d.p, .int .i64 x.d.v] 51) = W1 at F ⊢
                generalize w1.heap.size = X at F ⊢
                clear hb1 A0 A1 A2 Af B0 B1 B2 B3 N0 N1 Y0 Y1 Y2 Y3 C hbA
                obtain ⟨hbF, hgF, d0, d1, d2⟩ := F
                have hbG := hb.trans (hbF.mono hb.size)
                have hbZ := hb2.trans (hbG.mono hb2.size)
                have K0 := BelowOf.cell ((hbG.cell (p := ⟨w.heap.size + 1, 0, none⟩) lw1).trans k0)
                have K1 := BelowOf.cell ((hbG.cell (p := ⟨w.heap.size + 1, 1, none⟩) lw1).trans k1)
                have KF := BelowOf.cell ((hbG.cell (p := ⟨fb, fo + n, none⟩) (World.block_lt_of_cell? _ _ hfc)).trans hfc)
                have D0 := BelowOf.cell d0
                have D1 := BelowOf.cell d1
                have D2 := BelowOf.cell d2
                have CR := fun q : BelowOf W1 => l1Reads_bel x.d q.x
                haveI : Inhabited (BelowOf W1) := ⟨belOf W1⟩
                clear d0 d1 d2 kp' k0 k1 hfc c0 c1 c2
                go_wp2_with fail
                cases hrd : M.reads x.d.k
                · have HS3 : Hid (M.sFrom rows ds l = ((f == -2) && M.sFrom rows (ds.drop (n + 1)) (l.drop (n + 1)))) := by show _ = _; rw [HS.out, M.sTell, show x.reads = false from hrd]; rfl
                  rw [hrd] at CR
                  by_cases hf2 : f = -2
                  · subst hf2
                    have HT : Hid (M.sFrom rows ds l = M.sFrom rows (ds.drop (n + 1)) (l.drop (n + 1))) := by show _ = _; rw [HS3.out]; rfl
                    refine wp_region_quiet_bel (by kernel_rfl) (by kernel_rfl) ?_
                    iterate 12 (quiet_step (first | (go_at_call 43; exact Calls.bel_of (CR _))))
                    iterate 3 (quiet_step (first | (go_at_call 43; exact Calls.bel_of (CR _))))
                    iterate 6 go_big_quiet_skip
                    iterate 2 (quiet_step (fail))
                    iterate 13 go_big_quiet_skip
                    iterate 2 (quiet_step (fail))
                    refine wpQuiet_nil ?_
                    rintro _ ⟨⟨wq, hwq⟩, rfl⟩
                    go_wp2_with fail
                    exact ⟨⟨n + 1, by go_num, by omega, HT, hbG.trans (hwq.mono hbG.size)⟩, by simp [intOf]; omega⟩
                  · have hf2' : (f == -2) = false := by simpa using hf2
                    have hf2n : (f != -2) = true := by simpa using hf2
                    have HT : Hid (M.sForm ds l rows = false) := by show _ = _; rw [HF2.out, HS3.out, hf2']; rfl
                    refine wp_region_quiet_bel (by kernel_rfl) (by kernel_rfl) ?_
                    iterate 12 (quiet_step (first | (go_at_call 43; exact Calls.bel_of (CR _))))
                    iterate 25 go_big_quiet_skip
                    iterate 1 (quiet_step (fail))
                    refine wpQuiet_nil ?_
                    rintro _ ⟨⟨wq, hwq⟩, rfl⟩
                    go_wp2_with fail
                    go_ret
                    exact ⟨ret_bool HT.out.symm, hbZ.trans (hwq.mono hbZ.size)⟩
                · have HS3 : Hid (M.sFrom rows ds l = ((f == -1 || M.has (rows.getD x.d.p.toNat []) f) && M.sFrom rows (ds.drop (n + 1)) (l.drop (n + 1)))) := by show _ = _; rw [HS.out, M.sTell, show x.reads = true from hrd]; rfl
                  rw [hrd] at CR
                  by_cases hf1 : f = -1
                  · subst hf1
                    have HT : Hid (M.sFrom rows ds l = M.sFrom rows (ds.drop (n + 1)) (l.drop (n + 1))) := by show _ = _; rw [HS3.out]; rfl
                    refine wp_region_quiet_bel (by kernel_rfl) (by kernel_rfl) ?_
                    iterate 4 (quiet_step (first | (go_at_call 43; exact Calls.bel_of (CR _))))
                    iterate 6 go_big_quiet_skip
                    iterate 13 (quiet_step (first | (go_at_call 43; exact Calls.bel_of (CR _))))
                    iterate 13 go_big_quiet_skip
                    iterate 2 (quiet_step (fail))
                    refine wpQuiet_nil ?_
                    rintro _ ⟨⟨wq, hwq⟩, rfl⟩
                    go_wp2_with fail
                    exact ⟨⟨n + 1, by go_num, by omega, HT, hbG.trans (hwq.mono hbG.size)⟩, by simp [intOf]; omega⟩
                  · have hf1' : (f == -1) = false := by simpa using hf1
                    have hf1n : (f != -1) = true := by simpa using hf1
                    obtain ⟨hp0, hp3⟩ := HPX.out hrd
                    obtain ⟨pn, hpn⟩ : ∃ pn : Nat, x.d.p = pn := ⟨x.d.p.toNat, by omega⟩
                    have hpr : pn < rows.length := by rw [HR.out]; omega
                    have HS4 : Hid (M.sFrom rows ds l = (M.has rows[pn] f && M.sFrom rows (ds.drop (n + 1)) (l.drop (n + 1)))) := by
                      show _ = _
                      rw [HS3.out, hf1', hpn, Int.toNat_natCast, List.getD_eq_getElem?_getD, List.getElem?_eq_getElem hpr]; rfl
                    rw [hpn] at D1
                    obtain ⟨a', b', o', c', hc, hrow⟩ := hr.row pn hpr
                    have hle := hrs _ (List.getElem_mem hpr)
                    generalize rows[pn] = row at *
                    have KC := BelowOf.cell ((hbG.cell (p := ⟨rb, ro + pn, none⟩) (World.block_lt_of_cell? _ _ hc)).trans hc)
                    have CH := fun q : BelowOf W1 => l12Has_any a' b' o' c' row f q.x hle ((hrow.below hbG (Nat.le_refl _)).below q.h (Nat.le_refl _))
                    have i5 : (pn : Int) < rows.length := by omega
                    have CR := fun q : BelowOf W1 => l1Reads_bel ⟨x.d.k, pn, x.d.v⟩ q.x
                    rw [show M.reads (⟨x.d.k, pn, x.d.v⟩ : M.D).k = true from hrd] at CR
                    clear hpn hp0 hp3 hc
                    cases hh : M.has row f
                    · have HT : Hid (M.sForm ds l rows = false) := by show _ = _; rw [HF2.out, HS4.out, hh]; rfl
                      rw [hh] at CH
                      refine wp_region_quiet_bel (by kernel_rfl) (by kernel_rfl) ?_
                      iterate 4 (quiet_step (first | (go_at_call 43; exact Calls.bel_of (CR _))))
                      iterate 6 go_big_quiet_skip
                      iterate 28 (quiet_step (first | (go_at_call 43; exact Calls.bel_of (CR _)) | (go_at_call 72; exact Calls.bel_of_same (CH _))))
                      refine wpQuiet_nil ?_
                      rintro _ ⟨⟨wq, hwq⟩, rfl⟩
                      go_wp2_with fail
                      go_ret
                      exact ⟨ret_bool HT.out.symm, hbZ.trans (hwq.mono hbZ.size)⟩
                    · have HT : Hid (M.sFrom rows ds l = M.sFrom rows (ds.drop (n + 1)) (l.drop (n + 1))) := by show _ = _; rw [HS4.out, hh]; rfl
                      rw [hh] at CH
                      refine wp_region_quiet_bel (by kernel_rfl) (by kernel_rfl) ?_
                      iterate 4 (quiet_step (first | (go_at_call 43; exact Calls.bel_of (CR _))))
                      iterate 6 go_big_quiet_skip
                      iterate 28 (quiet_step (first | (go_at_call 43; exact Calls.bel_of (CR _)) | (go_at_call 72; exact Calls.bel_of_same (CH _))))
                      refine wpQuiet_nil ?_
                      rintro _ ⟨⟨wq, hwq⟩, rfl⟩
                      go_wp2_with fail
                      exact ⟨⟨n + 1, by go_num, by omega, HT, hbG.trans (hwq.mono hbG.size)⟩, by simp [intOf]; omega⟩
              · have F : DoIn wr _ _ x.d := DoIn.ahead (d := x.d) (hbA.drew.trans (hb1.mono (Nat.le_of_lt Asz))) Z0 Z1 Z2
                generalize ((w1.setCell ⟨wr.heap.size, 0, none⟩ (.int .i64 x.d.k)).setCell ⟨wr.heap.size, 1, none⟩ (.int .i64 x.d.p)).setCell ⟨wr.heap.size, 2, none⟩ (.int .i64 x.d.v) = W1 at F ⊢
                obtain ⟨X, hX, F⟩ : ∃ X, X = wr.heap.size ∧ DoIn wr W1 X x.d := ⟨_, rfl, F⟩
                rw [← hX]
                clear hX
                clear hb1 A0 A1 A2 Af B0 B1 B2 B3 N0 N1 Y0 Y1 Y2 Y3 C hbA
                obtain ⟨hbF, hgF, d0, d1, d2⟩ := F
                have hbG := hb.trans (hbF.mono hb.size)
                have hbZ := hb2.trans (hbG.mono hb2.size)
                have K0 := BelowOf.cell ((hbG.cell (p := ⟨w.heap.size + 1, 0, none⟩) lw1).trans k0)
                have K1 := BelowOf.cell ((hbG.cell (p := ⟨w.heap.size + 1, 1, none⟩) lw1).trans k1)
                have KF := BelowOf.cell ((hbG.cell (p := ⟨fb, fo + n, none⟩) (World.block_lt_of_cell? _ _ hfc)).trans hfc)
                have D0 := BelowOf.cell d0
                have D1 := BelowOf.cell d1
                have D2 := BelowOf.cell d2
                have CR := fun q : BelowOf W1 => l1Reads_bel x.d q.x
                haveI : Inhabited (BelowOf W1) := ⟨belOf W1⟩
                clear d0 d1 d2 kp' k0 k1 hfc c0 c1 c2
                go_wp2_with fail
                cases hrd : M.reads x.d.k
                · have HS3 : Hid (M.sFrom rows ds l = ((f == -2) && M.sFrom rows (ds.drop (n + 1)) (l.drop (n + 1)))) := by show _ = _; rw [HS.out, M.sTell, show x.reads = false from hrd]; rfl
                  rw [hrd] at CR
                  by_cases hf2 : f = -2
                  · subst hf2
                    have HT : Hid (M.sFrom rows ds l = M.sFrom rows (ds.drop (n + 1)) (l.drop (n + 1))) := by show _ = _; rw [HS3.out]; rfl
                    refine wp_region_quiet_bel (by kernel_rfl) (by kernel_rfl) ?_
                    iterate 12 (quiet_step (first | (go_at_call 43; exact Calls.bel_of (CR _))))
                    iterate 3 (quiet_step (first | (go_at_call 43; exact Calls.bel_of (CR _))))
                    iterate 6 go_big_quiet_skip
                    iterate 2 (quiet_step (fail))
                    iterate 13 go_big_quiet_skip
                    iterate 2 (quiet_step (fail))
                    refine wpQuiet_nil ?_
                    rintro _ ⟨⟨wq, hwq⟩, rfl⟩
                    go_wp2_with fail
                    exact ⟨⟨n + 1, by go_num, by omega, HT, hbG.trans (hwq.mono hbG.size)⟩, by simp [intOf]; omega⟩
                  · have hf2' : (f == -2) = false := by simpa using hf2
                    have hf2n : (f != -2) = true := by simpa using hf2
                    have HT : Hid (M.sForm ds l rows = false) := by show _ = _; rw [HF2.out, HS3.out, hf2']; rfl
                    refine wp_region_quiet_bel (by kernel_rfl) (by kernel_rfl) ?_
                    iterate 12 (quiet_step (first | (go_at_call 43; exact Calls.bel_of (CR _))))
                    iterate 25 go_big_quiet_skip
                    iterate 1 (quiet_step (fail))
                    refine wpQuiet_nil ?_
                    rintro _ ⟨⟨wq, hwq⟩, rfl⟩
                    go_wp2_with fail
                    go_ret
                    exact ⟨ret_bool HT.out.symm, hbZ.trans (hwq.mono hbZ.size)⟩
                · have HS3 : Hid (M.sFrom rows ds l = ((f == -1 || M.has (rows.getD x.d.p.toNat []) f) && M.sFrom rows (ds.drop (n + 1)) (l.drop (n + 1)))) := by show _ = _; rw [HS.out, M.sTell, show x.reads = true from hrd]; rfl
                  rw [hrd] at CR
                  by_cases hf1 : f = -1
                  · subst hf1
                    have HT : Hid (M.sFrom rows ds l = M.sFrom rows (ds.drop (n + 1)) (l.drop (n + 1))) := by show _ = _; rw [HS3.out]; rfl
                    refine wp_region_quiet_bel (by kernel_rfl) (by kernel_rfl) ?_
                    iterate 4 (quiet_step (first | (go_at_call 43; exact Calls.bel_of (CR _))))
                    iterate 6 go_big_quiet_skip
                    iterate 13 (quiet_step (first | (go_at_call 43; exact Calls.bel_of (CR _))))
                    iterate 13 go_big_quiet_skip
                    iterate 2 (quiet_step (fail))
                    refine wpQuiet_nil ?_
                    rintro _ ⟨⟨wq, hwq⟩, rfl⟩
                    go_wp2_with fail
                    exact ⟨⟨n + 1, by go_num, by omega, HT, hbG.trans (hwq.mono hbG.size)⟩, by simp [intOf]; omega⟩
                  · have hf1' : (f == -1) = false := by simpa using hf1
                    have hf1n : (f != -1) = true := by simpa using hf1
                    obtain ⟨hp0, hp3⟩ := HPX.out hrd
                    obtain ⟨pn, hpn⟩ : ∃ pn : Nat, x.d.p = pn := ⟨x.d.p.toNat, by omega⟩
                    have hpr : pn < rows.length := by rw [HR.out]; omega
                    have HS4 : Hid (M.sFrom rows ds l = (M.has rows[pn] f && M.sFrom rows (ds.drop (n + 1)) (l.drop (n + 1)))) := by
                      show _ = _
                      rw [HS3.out, hf1', hpn, Int.toNat_natCast, List.getD_eq_getElem?_getD, List.getElem?_eq_getElem hpr]; rfl
                    rw [hpn] at D1
                    obtain ⟨a', b', o', c', hc, hrow⟩ := hr.row pn hpr
                    have hle := hrs _ (List.getElem_mem hpr)
                    generalize rows[pn] = row at *
                    have KC := BelowOf.cell ((hbG.cell (p := ⟨rb, ro + pn, none⟩) (World.block_lt_of_cell? _ _ hc)).trans hc)
                    have CH := fun q : BelowOf W1 => l12Has_any a' b' o' c' row f q.x hle ((hrow.below hbG (Nat.le_refl _)).below q.h (Nat.le_refl _))
                    have i5 : (pn : Int) < rows.length := by omega
                    have CR := fun q : BelowOf W1 => l1Reads_bel ⟨x.d.k, pn, x.d.v⟩ q.x
                    rw [show M.reads (⟨x.d.k, pn, x.d.v⟩ : M.D).k = true from hrd] at CR
                    clear hpn hp0 hp3 hc
                    cases hh : M.has row f
                    · have HT : Hid (M.sForm ds l rows = false) := by show _ = _; rw [HF2.out, HS4.out, hh]; rfl
                      rw [hh] at CH
                      refine wp_region_quiet_bel (by kernel_rfl) (by kernel_rfl) ?_
                      iterate 4 (quiet_step (first | (go_at_call 43; exact Calls.bel_of (CR _))))
                      iterate 6 go_big_quiet_skip
                      iterate 28 (quiet_step (first | (go_at_call 43; exact Calls.bel_of (CR _)) | (go_at_call 72; exact Calls.bel_of_same (CH _))))
                      refine wpQuiet_nil ?_
                      rintro _ ⟨⟨wq, hwq⟩, rfl⟩
                      go_wp2_with fail
                      go_ret
                      exact ⟨ret_bool HT.out.symm, hbZ.trans (hwq.mono hbZ.size)⟩
                    · have HT : Hid (M.sFrom rows ds l = M.sFrom rows (ds.drop (n + 1)) (l.drop (n + 1))) := by show _ = _; rw [HS4.out, hh]; rfl
                      rw [hh] at CH
                      refine wp_region_quiet_bel (by kernel_rfl) (by kernel_rfl) ?_
                      iterate 4 (quiet_step (first | (go_at_call 43; exact Calls.bel_of (CR _))))
                      iterate 6 go_big_quiet_skip
                      iterate 28 (quiet_step (first | (go_at_call 43; exact Calls.bel_of (CR _)) | (go_at_call 72; exact Calls.bel_of_same (CH _))))
                      refine wpQuiet_nil ?_
                      rintro _ ⟨⟨wq, hwq⟩, rfl⟩
                      go_wp2_with fail
                      exact ⟨⟨n + 1, by go_num, by omega, HT, hbG.trans (hwq.mono hbG.size)⟩, by simp [intOf]; omega⟩
            · go_wp2_with fail
              go_ret
              exact ⟨ret_bool (by rw [HF2.out, HA.out, List.drop_eq_nil_of_le (by omega)]; rfl), hbw⟩
    · have hq : ((l.length : Int) != ds.length) = false := by simp; omega
      have hq3 : ((rows.length : Int) == 3) = false := by simp; omega
      have HT : Hid (M.sForm ds l rows = false) := by show _ = _; simp [M.sForm, hl3]
      clear hln hl3
      go_enter Try.func46, Try.ntmps46
      go_wp2_with fail
      go_ret
      exact ⟨ret_bool HT.out.symm, hb2⟩
  · have hq : ((l.length : Int) == ds.length) = false := by simp; omega
    have HT : Hid (M.sForm ds l rows = false) := by show _ = _; simp [M.sForm, hln]
    go_enter Try.func46, Try.ntmps46
    go_wp2_with fail
    go_ret
    exact ⟨ret_bool HT.out.symm, hb2⟩

end Go.Proofs.Ytelmclbojpbcbaa

namespace Go.Proofs.Ytelmclbojpbcbaa

/-- What is there once each, within a list, is not more than that. -/
theorem nodup_le : ∀ {l m : List Int}, l.Nodup → (∀ x ∈ l, x ∈ m) → l.length ≤ m.length := by
  intro l
  induction l with
  | nil => intro m _ _; exact Nat.zero_le _
  | cons x l ih =>
    intro m hn hs
    obtain ⟨hx, hl⟩ := List.nodup_cons.1 hn
    have hm := hs x (List.mem_cons_self ..)
    have := ih (m := m.erase x) hl (fun y hy => by
      have hne : y ≠ x := fun e => hx (e ▸ hy)
      exact (List.mem_erase_of_ne hne).2 (hs y (List.mem_cons_of_mem _ hy)))
    rw [List.length_erase_of_mem hm] at this
    have hpos : 0 < m.length := List.length_pos_of_mem hm
    simp only [List.length_cons]
    omega
theorem nodup_all {l m : List Int} (hn : l.Nodup) (hs : ∀ x ∈ l, x ∈ m) (hlen : m.length = l.length) : ∀ y ∈ m, y ∈ l := by
  intro y hy
  rcases Classical.em (y ∈ l) with h | h
  · exact h
  · have := nodup_le (l := y :: l) (m := m) (List.nodup_cons.2 ⟨h, hn⟩) (fun x hx => by
      rcases List.mem_cons.1 hx with rfl | hx
      · exact hy
      · exact hs x hx)
    simp only [List.length_cons] at this
    omega
/-- A row of just the writers has just the writers. -/
theorem M.isRow_mem {ds : List M.De} {p : Int} {row : List Int} (h : M.isRow row (M.wrs p 0 ds) = true) (f : Int) : f ∈ row ↔ f ∈ M.wrs p 0 ds := by
  simp only [M.isRow, Bool.and_eq_true, decide_eq_true_eq, List.all_eq_true] at h
  obtain ⟨hlen, hall⟩ := h
  have hs : ∀ x ∈ M.wrs p 0 ds, x ∈ row := fun x hx => by simpa using hall x hx
  exact ⟨nodup_all (M.nodup_wrs p ds 0) hs hlen f, hs f⟩
theorem M.orderAt_get {ds : List M.De} : ∀ {rows : List (List Int)} {p : Nat}, M.orderAt ds p rows = true → ∀ n (h : n < rows.length), M.isRow rows[n] (M.wrs ((p + n : Nat) : Int) 0 ds) = true := by
  intro rows
  induction rows with
  | nil => intro p _ n h; exact absurd h (Nat.not_lt_zero _)
  | cons row rows ih =>
    intro p h n hn
    simp only [M.orderAt, Bool.and_eq_true] at h
    cases n with
    | zero => exact h.1
    | succ n =>
      have := ih h.2 n (by simpa using hn)
      rw [show p + 1 + n = p + (n + 1) from by omega] at this
      simpa using this
theorem M.tell_wrs {ds : List M.De} {x : M.De} {f : Int} (h : x.reads = true) : M.mayTell ds x f = (f == -1 || decide (f ∈ M.wrs x.d.p 0 ds)) := by
  by_cases h1 : f = -1
  · subst h1; rw [M.mayTell, if_pos h]; simp
  · have h1' : (f == -1) = false := by simpa using h1
    rw [h1', Bool.false_or]
    by_cases h0 : 0 ≤ f ∧ f < ds.length
    · obtain ⟨n, rfl⟩ : ∃ n : Nat, f = n := ⟨f.toNat, by omega⟩
      have hn : n < ds.length := by omega
      rw [M.tell_at h hn]
      have : ((n : Int) ∈ M.wrs x.d.p 0 ds) ↔ (ds[n]).to x.d.p = true := by
        rw [M.mem_wrs]
        constructor
        · rintro ⟨i, hi, e, t⟩
          have : i = n := by omega
          subst this; exact t
        · intro t; exact ⟨n, hn, by simp, t⟩
      cases ht : (ds[n]).to x.d.p
      · rw [ht] at this; exact (decide_eq_false (fun h => by have := this.1 h; cases this)).symm
      · rw [ht] at this; exact (decide_eq_true (this.2 rfl)).symm
    · have : f ∉ M.wrs x.d.p 0 ds := fun h => by
        obtain ⟨i, hi, e, _⟩ := M.mem_wrs.1 h
        omega
      rw [decide_eq_false this]
      rcases Int.lt_or_le f 0 with hl | hl
      · exact M.tell_low h h1 (by omega)
      · exact M.tell_high h h1 (by omega)

/-- The events back from one. -/
def M.backQ (ds : List M.De) (l : List Int) (n : Nat) : Nat → Nat
  | 0 => n
  | k + 1 => (M.valFrom ds l (M.backQ ds l n k)).toNat
theorem M.backQ_succ (ds : List M.De) (l : List Int) (n : Nat) : ∀ k, M.backQ ds l n (k + 1) = M.backQ ds l (M.valFrom ds l n).toNat k := by
  intro k
  induction k with
  | zero => rfl
  | succ k ih => rw [M.backQ, ih, M.backQ]
theorem M.backQ_add (ds : List M.De) (l : List Int) (n a : Nat) : ∀ k, M.backQ ds l n (a + k) = M.backQ ds l (M.backQ ds l n a) k := by
  intro k
  induction k with
  | zero => rfl
  | succ k ih => rw [← Nat.add_assoc, M.backQ, ih, M.backQ]
theorem M.orig_iff (ds : List M.De) (l : List Int) : ∀ (m n : Nat), (M.orig ds l m n).isSome = true ↔ ∃ k, k < m ∧ M.valFrom ds l (M.backQ ds l n k) < 0 := by
  intro m
  induction m with
  | zero => intro n; simp [M.orig]
  | succ m ih =>
    intro n
    rw [M.orig]
    by_cases h : M.valFrom ds l n < 0
    · rw [if_pos h]; exact ⟨fun _ => ⟨0, by omega, h⟩, fun _ => rfl⟩
    · rw [if_neg h, ih]
      constructor
      · rintro ⟨k, hk, h2⟩; exact ⟨k + 1, by omega, by rw [M.backQ_succ]; exact h2⟩
      · rintro ⟨k, hk, h2⟩
        cases k with
        | zero => exact absurd h2 h
        | succ k => rw [M.backQ_succ] at h2; exact ⟨k, by omega, h2⟩
theorem M.backQ_short {ds : List M.De} {l : List Int} (hin : M.In ds l) {n : Nat} (hn : n < ds.length) : ∀ k, M.valFrom ds l (M.backQ ds l n k) < 0 → ∃ j, j < ds.length ∧ M.valFrom ds l (M.backQ ds l n j) < 0 := by
  intro k
  induction k using Nat.strongRecOn with
  | ind k ih =>
    intro hk
    by_cases hlt : k < ds.length
    · exact ⟨k, hlt, hk⟩
    · by_cases hex : ∃ j, j < k ∧ M.valFrom ds l (M.backQ ds l n j) < 0
      · obtain ⟨j, hj, h2⟩ := hex
        exact ih j hj h2
      · have hall : ∀ j, j ≤ k → M.backQ ds l n j < ds.length := by
          intro j
          induction j with
          | zero => intro _; exact hn
          | succ j ihj =>
            intro hj
            have h1 := hin _ (ihj (by omega))
            have h2 : ¬ M.valFrom ds l (M.backQ ds l n j) < 0 := fun h => hex ⟨j, by omega, h⟩
            rw [M.backQ]; omega
        have hpg : ∃ a b, a < b ∧ b ≤ ds.length ∧ M.backQ ds l n a = M.backQ ds l n b := by
          refine Classical.byContradiction fun hno => ?_
          have hnd : ((List.range (ds.length + 1)).map (fun j => (M.backQ ds l n j : Int))).Nodup := by
            unfold List.Nodup
            rw [List.pairwise_map]
            refine List.Pairwise.imp_of_mem ?_ List.pairwise_lt_range
            intro a b ha hb hab e
            rw [List.mem_range] at ha hb
            exact hno ⟨a, b, hab, by omega, by omega⟩
          have := nodup_le (m := (List.range ds.length).map (fun j : Nat => (j : Int))) hnd (by
            intro x hx
            obtain ⟨j, hj, rfl⟩ := List.mem_map.1 hx
            rw [List.mem_range] at hj
            exact List.mem_map.2 ⟨_, List.mem_range.2 (hall j (by omega)), rfl⟩)
          simp at this
          omega
        obtain ⟨a, b, hab, hb, e⟩ := hpg
        refine ih (a + (k - b)) (by omega) ?_
        rw [M.backQ_add, e, ← M.backQ_add, show b + (k - b) = k from by omega]
        exact hk
theorem M.orig_more {ds : List M.De} {l : List Int} (hin : M.In ds l) {n : Nat} (hn : n < ds.length) : (M.orig ds l (2 * ds.length + 2) n).isSome = (M.orig ds l ds.length n).isSome := by
  rw [Bool.eq_iff_iff, M.orig_iff, M.orig_iff]
  constructor
  · rintro ⟨k, _, h⟩; exact M.backQ_short hin hn k h
  · rintro ⟨k, hk, h⟩; exact ⟨k, by omega, h⟩
theorem M.vEnds_eq {ds : List M.De} {l : List Int} (hin : M.In ds l) (hv : ∀ x ∈ ds, 0 ≤ x.d.v) (hll : l.length = ds.length) : M.vEnds ds l 0 ds = M.ends ds l := by
  have key : ∀ (xs : List M.De) (n : Nat), n + xs.length = ds.length → M.vEnds ds l n xs = M.endsAt ds l n xs := by
    intro xs
    induction xs with
    | nil => intro n _; rfl
    | cons x xs ih =>
      intro n hn
      simp only [List.length_cons] at hn
      rw [M.vEnds, M.endsAt, ih (n + 1) (by omega), M.val_orig hin hv hll _ n (by omega), M.orig_more hin (by omega)]
  exact key ds 0 (by omega)
theorem M.sFrom_eq {ds : List M.De} {rows : List (List Int)} (hrow : rows.length = 3) (ho : M.orderAt ds 0 rows = true) : ∀ (xs : List M.De) (l : List Int), (∀ x ∈ xs, x.reads = true → 0 ≤ x.d.p ∧ x.d.p < 3) → M.sFrom rows xs l = M.fromAt ds xs l := by
  intro xs
  induction xs with
  | nil => intro l _; cases l <;> rfl
  | cons x xs ih =>
    intro l hp
    cases l with
    | nil => rfl
    | cons f l =>
      rw [M.sFrom, M.fromAt, ih l (fun y hy => hp y (List.mem_cons_of_mem _ hy))]
      congr 1
      cases hr : x.reads
      · rw [M.tell_no hr, M.sTell, if_neg (by rw [hr]; simp)]
      · obtain ⟨h0, h3⟩ := hp x (List.mem_cons_self ..) hr
        have hlt : x.d.p.toNat < rows.length := by omega
        rw [M.tell_wrs hr, M.sTell, if_pos hr, List.getD_eq_getElem?_getD, List.getElem?_eq_getElem hlt]
        congr 1
        have hg := M.orderAt_get ho _ hlt
        rw [show ((0 + x.d.p.toNat : Nat) : Int) = x.d.p from by omega] at hg
        have := M.isRow_mem hg f
        show M.has rows[x.d.p.toNat] f = _
        rw [Bool.eq_iff_iff, decide_eq_true_eq, ← this]
        simp [M.has]
/-- Both say the same. -/
theorem M.way_eq {ds : List M.De} {l : List Int} {rows : List (List Int)} (hp : ∀ x ∈ ds, x.reads = true → 0 ≤ x.d.p ∧ x.d.p < 3) : M.sForm ds l rows = (M.fromOk ds l && M.orderOk ds rows) := by
  unfold M.sForm M.fromOk M.orderOk
  by_cases h1 : l.length = ds.length
  · by_cases h2 : rows.length = 3
    · cases h3 : M.orderAt ds 0 rows
      · simp
      · rw [M.sFrom_eq h2 h3 ds l hp]
        simp [h1, h2]
    · simp [h2]
  · simp [h1]

end Go.Proofs.Ytelmclbojpbcbaa

namespace Go.Proofs.Ytelmclbojpbcbaa
open Go.RowKit

theorem M.prog_do {ll : List (List M.D)} (h : M.prog ll = true) : ∀ l ∈ ll, ∀ d ∈ l, M.doOk d = true := by
  simp only [M.prog, Bool.and_eq_true, decide_eq_true_eq] at h
  have key : ∀ (ll : List (List M.D)) (a u : Nat), M.progFrom a u ll = true → ∀ l ∈ ll, ∀ d ∈ l, M.doOk d = true := by
    intro ll
    induction ll with
    | nil => intro a u _ l hl; cases hl
    | cons x ll ih =>
      intro a u hp l hl
      simp only [M.progFrom] at hp
      split at hp
      · rename_i hx
        rcases List.mem_cons.1 hl with rfl | hl
        · simp only [M.thread, Bool.and_eq_true, M.form, List.all_eq_true] at hx
          exact hx.1.1.2
        · exact ih _ _ hp l hl
      · cases hp
  exact key ll 0 0 h.2
theorem M.deed_do {ll : List (List M.D)} (h : M.prog ll = true) : ∀ x ∈ M.deeds ll, M.doOk x.d = true := by
  intro x hx
  obtain ⟨ht, hi, e⟩ := M.ofEv x hx
  rw [← e]
  exact M.prog_do h _ (List.getElem_mem ht) _ (List.getElem_mem hi)
theorem M.deed_v {ll : List (List M.D)} (h : M.prog ll = true) : ∀ x ∈ M.deeds ll, 0 ≤ x.d.v := by
  intro x hx
  have := M.deed_do h x hx
  simp only [M.doOk, Bool.and_eq_true, M.valOk] at this
  have hv := this.2
  split at hv
  · simp at hv; omega
  · simp at hv; omega
theorem M.deed_p {ll : List (List M.D)} (h : M.prog ll = true) : ∀ x ∈ M.deeds ll, x.reads = true → 0 ≤ x.d.p ∧ x.d.p < 3 := by
  intro x hx hr
  have := M.deed_do h x hx
  simp only [M.doOk, Bool.and_eq_true, M.placeOk] at this
  have hv := this.1.2
  rw [if_pos (by rw [M.uses, show M.reads x.d.k = true from hr]; rfl)] at hv
  simpa using hv

set_option maxHeartbeats 1000000 in
set_option maxRecDepth 100000 in
theorem sexecOk_any (a : Option Addr) (b o c : Nat) (ll : List (List M.D)) (fa : Option Addr) (fb fo fc : Nat) (l : List Int) (ra : Option Addr) (rb ro rc : Nat) (rows : List (List Int)) (w : World) (hl : ll.length ≤ 1048576) (hls : ∀ t ∈ ll, t.length ≤ 1048576) (hl1 : l.length ≤ 1048576) (hrs : ∀ r ∈ rows, r.length ≤ 1048576) (h : DoSS w a b o ll) (hf : IntS w fa fb fo l) (hr : IntSS w ra rb ro rows) :
    Calls Try.prog 21 #[.agg #[.slice a ll.length c], .agg #[.slice fa l.length fc, .slice ra rows.length rc]] w fun e w' => e = .returned (.bool (M.execOk ll l rows)) ∧ Below w.heap.size w w' := by
  have hb2 := below2 w (.cells #[.slice a ll.length c] 30) (.cells #[.slice fa l.length fc, .slice ra rows.length rc] 43)
  have kp : ((w.alloc (.cells #[.slice a ll.length c] 30)).alloc (.cells #[.slice fa l.length fc, .slice ra rows.length rc] 43)).cell? ⟨w.heap.size, 0, none⟩ = some (.slice a ll.length c) := by simp
  have k0 : ((w.alloc (.cells #[.slice a ll.length c] 30)).alloc (.cells #[.slice fa l.length fc, .slice ra rows.length rc] 43)).cell? ⟨w.heap.size + 1, 0, none⟩ = some (.slice fa l.length fc) := by simp
  have k1 : ((w.alloc (.cells #[.slice a ll.length c] 30)).alloc (.cells #[.slice fa l.length fc, .slice ra rows.length rc] 43)).cell? ⟨w.heap.size + 1, 1, none⟩ = some (.slice ra rows.length rc) := by simp
  replace h := h.below hb2 (Nat.le_refl _)
  replace hf := hf.below hb2 (Nat.le_refl _)
  replace hr := hr.below hb2 (Nat.le_refl _)
  go_enter Try.func21, Try.ntmps21
  go_wp2_with fail
  generalize (w.alloc (.cells #[.slice a ll.length c] 30)).alloc (.cells #[.slice fa l.length fc, .slice ra rows.length rc] 43) = W at *
  have lw1 : w.heap.size + 1 < W.heap.size := World.block_lt_of_cell? _ _ k0
  have lw : w.heap.size < W.heap.size := World.block_lt_of_cell? _ _ kp
  have C1 := sprog_any a b o c ll W hl hls h
  cases hp : M.prog ll
  · rw [hp] at C1
    refine C1.mono ?_
    rintro e w1 ⟨rfl, hb1⟩
    go_wp2_with fail
    go_ret
    exact ⟨ret_bool (by simp [M.execOk, hp]), hb2.trans (hb1.mono hb2.size)⟩
  · rw [hp] at C1
    obtain ⟨h3, h7⟩ := M.prog_bounds hp
    have hdl := M.deeds_len h3 h7
    have HE : Hid (M.evAll ll = (M.deeds ll).map M.De.ev) := by show _ = _; simp [M.evAll, hp, M.events]
    have HX : Hid (M.execOk ll l rows = ((M.fromOk (M.deeds ll) l && M.orderOk (M.deeds ll) rows) && M.ends (M.deeds ll) l)) := by show _ = _; simp [M.execOk, hp, M.wayOk, Bool.and_assoc]
    refine C1.mono ?_
    rintro e w1 ⟨rfl, hb1⟩
    have kp1 := (hb1.cell (p := ⟨w.heap.size, 0, none⟩) lw).trans kp
    go_wp2_with fail
    refine (sexecEvents_any a b o c ll w1 hl hls (h.below hb1 (Nat.le_refl _))).mono ?_
    rintro e w2 ⟨v2, rfl, hown2, hb3⟩
    obtain ⟨va, g, cap, rfl, hev, _, _⟩ := own_rs M.Ev.len hown2
    rw [HE.out] at hev
    have hd := DvS.of hev
    have hle : (M.evAll ll).length = (M.deeds ll).length := by rw [HE.out, List.length_map]
    rw [hle]
    have hb12 := hb1.trans (hb3.mono hb1.size)
    have kp2 := (hb12.cell (p := ⟨w.heap.size, 0, none⟩) lw).trans kp
    have k02 := (hb12.cell (p := ⟨w.heap.size + 1, 0, none⟩) lw1).trans k0
    have k12 := (hb12.cell (p := ⟨w.heap.size + 1, 1, none⟩) lw1).trans k1
    have h2 := h.below hb12 (Nat.le_refl _)
    have hf2 := hf.below hb12 (Nat.le_refl _)
    have hr2 := hr.below hb12 (Nat.le_refl _)
    have hbZ := hb2.trans (hb12.mono hb2.size)
    have lw12 := Nat.lt_of_lt_of_le lw1 hb12.size
    have lw2 := Nat.lt_of_lt_of_le lw hb12.size
    have C4 := l12Form_any a b o c ll va g cap fa fb fo fc l ra rb ro rc rows w2 hl hls hdl (M.deed_p hp) hl1 hrs h2 hd hf2 hr2
    rw [M.way_eq (M.deed_p hp)] at C4
    clear hle hown2 hev kp k0 k1 kp1 HE C1
    cases hw : (M.fromOk (M.deeds ll) l && M.orderOk (M.deeds ll) rows)
    · rw [hw] at C4
      go_wp2_with fail
      refine C4.mono ?_
      rintro e w3 ⟨rfl, hb4⟩
      go_wp2_with fail
      go_ret
      exact ⟨ret_bool (by rw [HX.out, hw]; rfl), hbZ.trans (hb4.mono hbZ.size)⟩
    · rw [hw] at C4
      have hfo : M.fromOk (M.deeds ll) l = true := by
        simp only [Bool.and_eq_true] at hw; exact hw.1
      have HIN := M.in_of hfo
      have HLN : Hid (l.length = (M.deeds ll).length) := by
        show _ = _
        simp only [M.fromOk, Bool.and_eq_true, decide_eq_true_eq] at hfo
        exact hfo.1
      go_wp2_with fail
      refine C4.mono ?_
      rintro e w3 ⟨rfl, hb4⟩
      have kp3 := (hb4.cell (p := ⟨w.heap.size, 0, none⟩) lw2).trans kp2
      have k03 := (hb4.cell (p := ⟨w.heap.size + 1, 0, none⟩) lw12).trans k02
      have k13 := (hb4.cell (p := ⟨w.heap.size + 1, 1, none⟩) lw12).trans k12
      have C5 := l12Ends_any a b o c ll va g cap fa fb fo fc l (.slice ra rows.length rc) w3 hl hls hdl HLN HIN (h2.below hb4 (Nat.le_refl _)) (hd.bel hb4 (Nat.le_refl _)) (hf2.below hb4 (Nat.le_refl _))
      rw [M.vEnds_eq HIN (M.deed_v hp) HLN.out] at C5
      have hbY := hbZ.trans (hb4.mono hbZ.size)
      clear kp2 k02 k12 hfo
      go_wp2_with fail
      refine C5.mono ?_
      rintro e w4 ⟨rfl, hb5⟩
      go_wp2_with fail
      go_ret
      exact ⟨ret_bool (by rw [HX.out, hw]; rfl), hbY.trans (hb5.mono hbY.size)⟩

end Go.Proofs.Ytelmclbojpbcbaa
