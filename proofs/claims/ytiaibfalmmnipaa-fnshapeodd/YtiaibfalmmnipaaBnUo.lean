/- spec's ways: who read what a copy stores. Of at most 1048576 threads, steps. spec's ways: what an event reads or writes. Of at most 1048576 threads, steps. spec's ways: whether nothing that is copied goes back to itself. Of at most 1048576 threads, steps. spec's ways: whether all is told that must be. Of at most 1048576 threads, steps, numbers, rows. Both say the same of a way. No condition. spec's ExecOk: whether a way is told just so. Of at most 1048576 threads, steps, numbers and rows. impl's ways: what an event reads or writes. Of at most 1048576 events. impl's ExecOk: whether a way is told just so. Of at most 1048576 threads, steps, numbers and rows. What is seen in a way: plainly, and impl.ExecSeen. Of at most 1048576 threads, steps, numbers and rows. -/
import Derived.Test.YtiaibfalmmnipaaOsDo
import Derived.BigQuiet
import Derived.Test.YtiaibfalmmnipaaBnUx
import Derived.Test.YtiaibfalmmnipaaOkEnd
import Derived.Test.YtiaibfalmmnipaaOkOrd
import Derived.Test.YtiaibfalmmnipaaOkFrom
import Derived.Deep.RegionHeld3
import Derived.Test.YtiaibfalmmnipaaStepGo
import Derived.Deep.OwnRows

namespace Go.Proofs.Ytiaibfalmmnipaa
open Go.RowKit

/-- The last event of a thread that reads, ahead of a place; -1, if there is none. -/
def M.src (ds : List M.De) (t : Nat) : Nat → Int
  | 0 => -1
  | k + 1 => match ds[k]? with
    | some y => if y.t == t && y.reads then (k : Int) else M.src ds t k
    | none => M.src ds t k
theorem M.src_step {ds : List M.De} {t k : Nat} (h : k < ds.length) : M.src ds t (k + 1) = if ds[k].t == t && ds[k].reads then (k : Int) else M.src ds t k := by
  rw [M.src, List.getElem?_eq_getElem h]
theorem M.src_pre (l m : List M.De) (t : Nat) : ∀ k, k ≤ l.length → M.src (l ++ m) t k = M.src l t k := by
  intro k
  induction k with
  | zero => intro _; rfl
  | succ k ih =>
    intro hk
    rw [M.src_step (by simp; omega), M.src_step (by omega), ih (by omega), List.getElem_append_left (by omega)]
theorem M.src_none (l : List M.De) (t : Nat) (h : ∀ x ∈ l, x.t ≠ t) : ∀ k, k ≤ l.length → M.src l t k = -1 := by
  intro k
  induction k with
  | zero => intro _; rfl
  | succ k ih =>
    intro hk
    rw [M.src_step (by omega), ih (by omega), if_neg]
    have := h _ (List.getElem_mem (show k < l.length by omega))
    simp [this]
theorem M.src_snoc (l : List M.De) (x : M.De) : M.src (l ++ [x]) x.t (l.length + 1) = if x.reads then (l.length : Int) else M.src l x.t l.length := by
  rw [M.src_step (by simp), M.src_pre _ _ _ _ (Nat.le_refl _)]
  simp
/-- What is told of an event's source is so. -/
def M.Src (l : List M.De) : Prop := ∀ n (h : n < l.length), l[n].reads = false → M.src l l[n].t n = l[n].lr
theorem M.Src.snoc {l : List M.De} {x : M.De} (h : M.Src l) (hx : x.reads = false → M.src l x.t l.length = x.lr) : M.Src (l ++ [x]) := by
  intro n hn hr
  rw [M.src_pre _ _ _ _ (by simp at hn; omega)]
  rcases Nat.lt_or_ge n l.length with h1 | h1
  · rw [List.getElem_append_left h1] at hr ⊢
    exact h n h1 hr
  · have : n = l.length := by simp at hn; omega
    subst this
    simp only [List.getElem_append_right (Nat.le_refl _), Nat.sub_self, List.getElem_cons_zero] at hr ⊢
    exact hx hr
theorem M.src_T (t : Nat) (l : List M.D) : ∀ (i : Nat) (lr : Int) (pre : List M.De), M.Src pre → M.src pre t pre.length = lr → (∀ x ∈ pre, x.t ≤ t) → M.Src (pre ++ M.deT t i lr pre.length l) ∧ ∀ x ∈ pre ++ M.deT t i lr pre.length l, x.t ≤ t := by
  induction l with
  | nil => intro i lr pre h _ ht; simp only [M.deT, List.append_nil]; exact ⟨h, ht⟩
  | cons d l ih =>
    intro i lr pre h hs ht
    have one : ∀ (pre : List M.De) (x : M.De), x.t = t → (∀ y ∈ pre, y.t ≤ t) → ∀ y ∈ pre ++ [x], y.t ≤ t := by
      intro pre x hx hp y hy
      rcases List.mem_append.1 hy with hy | hy
      · exact hp y hy
      · rw [List.mem_singleton.1 hy, hx]; exact Nat.le_refl _
    rw [M.deT]
    cases h9 : (d.k == 9)
    · rw [M.deD_one h9]
      have h1 : M.Src (pre ++ [⟨t, i, false, d, M.lrOf lr pre.length d⟩]) := h.snoc fun hr => by
        have hr : M.reads d.k = false := hr
        show M.src pre t pre.length = M.lrOf lr pre.length d
        rw [hs, M.lrOf, hr]; rfl
      have h2 := ih (i + 1) (M.lrOf lr pre.length d) _ h1 (by
        have := M.src_snoc pre ⟨t, i, false, d, M.lrOf lr pre.length d⟩
        rw [List.length_append]
        refine this.trans ?_
        show (if M.reads d.k = true then (pre.length : Int) else M.src pre t pre.length) = _
        rw [hs]; rfl) (one _ _ rfl ht)
      rw [List.length_append] at h2
      rw [← List.append_assoc]
      exact h2
    · have hr : M.reads d.k = false := by
        have : d.k = 9 := by simpa using h9
        rw [this]; decide
      have hlr : M.lrOf lr pre.length d = lr := by rw [M.lrOf, hr]; rfl
      rw [M.deD_wait h9]
      have h1 : M.Src (pre ++ [⟨t, i, false, d, M.lrOf lr pre.length d⟩]) := h.snoc fun _ => by rw [hlr]; exact hs
      have s1 : M.src (pre ++ [⟨t, i, false, d, M.lrOf lr pre.length d⟩]) t (pre ++ [(⟨t, i, false, d, M.lrOf lr pre.length d⟩ : M.De)]).length = lr := by
        have := M.src_snoc pre ⟨t, i, false, d, M.lrOf lr pre.length d⟩
        rw [List.length_append]
        refine this.trans ?_
        show (if M.reads d.k = true then (pre.length : Int) else M.src pre t pre.length) = _
        rw [hr]; exact hs
      have h2 : M.Src ((pre ++ [⟨t, i, false, d, M.lrOf lr pre.length d⟩]) ++ [⟨t, i, true, d, M.lrOf lr pre.length d⟩]) := h1.snoc fun _ => by rw [hlr] at s1 ⊢; exact s1
      have s2 : M.src ((pre ++ [⟨t, i, false, d, M.lrOf lr pre.length d⟩]) ++ [⟨t, i, true, d, M.lrOf lr pre.length d⟩]) t ((pre ++ [(⟨t, i, false, d, M.lrOf lr pre.length d⟩ : M.De)]) ++ [(⟨t, i, true, d, M.lrOf lr pre.length d⟩ : M.De)]).length = M.lrOf lr pre.length d := by
        have := M.src_snoc (pre ++ [⟨t, i, false, d, M.lrOf lr pre.length d⟩]) ⟨t, i, true, d, M.lrOf lr pre.length d⟩
        rw [List.length_append]
        refine this.trans ?_
        show (if M.reads d.k = true then _ else M.src (pre ++ [⟨t, i, false, d, M.lrOf lr pre.length d⟩]) t (pre ++ [(⟨t, i, false, d, M.lrOf lr pre.length d⟩ : M.De)]).length) = _
        rw [hr, hlr]; rw [hlr] at s1; exact s1
      have h3 := ih (i + 1) (M.lrOf lr pre.length d) _ h2 s2 (one _ _ rfl (one _ _ rfl ht))
      rw [List.length_append, List.length_append] at h3
      rw [List.append_assoc, List.append_assoc] at h3
      rw [List.append_assoc]
      exact h3
theorem M.src_F (ll : List (List M.D)) : ∀ (t : Nat) (pre : List M.De), M.Src pre → (∀ x ∈ pre, x.t < t) → M.Src (pre ++ M.deF t pre.length ll) := by
  induction ll with
  | nil => intro t pre h _; simp only [M.deF, List.append_nil]; exact h
  | cons l ll ih =>
    intro t pre h ht
    obtain ⟨h1, h2⟩ := M.src_T t l 0 (-1) pre h (M.src_none _ _ (fun x hx e => by have := ht x hx; omega) _ (Nat.le_refl _)) (fun x hx => Nat.le_of_lt (ht x hx))
    have := ih (t + 1) _ h1 (fun x hx => Nat.lt_succ_of_le (h2 x hx))
    rw [M.deF, ← List.append_assoc]
    rw [List.length_append] at this
    exact this
theorem M.src_ok (ll : List (List M.D)) : M.Src (M.deeds ll) := by
  have := M.src_F ll 0 [] (fun n h => absurd h (Nat.not_lt_zero _)) (fun x hx => by cases hx)
  exact this

theorem l1Reads_bel (d : M.D) (w : World) : Calls Try.prog 28 #[.agg #[.int .i64 d.k, .int .i64 d.p, .int .i64 d.v]] w fun e w' => e = .returned (.bool (M.reads d.k)) ∧ Below w.heap.size w w' :=
  (l1Reads_any d w).mono fun e w' ⟨he, hw⟩ => ⟨he, by rw [hw]; exact below1 _ _⟩

set_option maxHeartbeats 1000000 in
set_option maxRecDepth 100000 in
theorem l12Source_any (a : Option Addr) (b o c : Nat) (ll : List (List M.D)) (va : Option Addr) (g cc : Nat) (n tn : Nat) (w : World) (hn : n < (M.deeds ll).length) (htn : (M.deeds ll)[n].t = tn) (hl : ll.length ≤ 1048576) (hls : ∀ t ∈ ll, t.length ≤ 1048576) (hdl : (M.deeds ll).length ≤ 42) (h : DoSS w a b o ll) (hd : DvS w va g (M.deeds ll)) :
    Calls Try.prog 75 #[.agg #[.slice a ll.length c], .slice va (M.deeds ll).length cc, .int .i64 n] w fun e w' => e = .returned (.int .i64 (M.src (M.deeds ll) tn n)) ∧ Below w.heap.size w w' := by
  have hof := M.ofEv (ll := ll)
  generalize M.deeds ll = ds at *
  have hb0 := below1 w (.cells #[.slice a ll.length c] 25)
  have k0 : (w.alloc (.cells #[.slice a ll.length c] 25)).cell? ⟨w.heap.size, 0, none⟩ = some (.slice a ll.length c) := by simp
  go_enter Try.func75, Try.ntmps75
  go_wp2_with fail
  generalize w.alloc (.cells #[.slice a ll.length c] 25) = WB at *
  have lt0 : w.heap.size < WB.heap.size := World.block_lt_of_cell? _ _ k0
  replace h := h.below hb0 (Nat.le_refl _)
  replace hd := hd.bel hb0 (Nat.le_refl _)
  obtain ⟨rfl⟩ := hd.addr (by omega)
  obtain ⟨cn, _, _⟩ := hd.at hn
  rw [htn] at cn
  clear htn
  have in1 : (n : Int) < ds.length := by omega
  go_loopw [7] (fun s7 wr => ∃ m : Nat, s7 = .int .i64 ((m : Int) - 1) ∧ m ≤ n ∧ Hid (M.src ds tn n = M.src ds tn m) ∧ Below WB.heap.size WB wr) (fun s7 _ => (intOf s7 + 1).toNat)
  case atStart => exact ⟨n, by go_num, Nat.le_refl _, by show _ = _; rfl, Below.refl _ _⟩
  case round =>
    obtain ⟨m, rfl, hm, HS, hb⟩ := hrel
    have hbw := hb0.trans (hb.mono hb0.size)
    cases m with
    | zero =>
      go_wp2_with fail
      go_ret
      exact ⟨by rw [HS.out]; rfl, hbw⟩
    | succ m =>
      have e1 : (((m + 1 : Nat) : Int) - 1) = m := by omega
      rw [e1]
      have hlt : m < ds.length := by omega
      have HS2 : Hid (M.src ds tn n = if ds[m].t == tn && ds[m].reads then (m : Int) else M.src ds tn m) := by show _ = _; rw [HS.out]; exact M.src_step hlt
      have hox := hof _ (List.getElem_mem hlt)
      obtain ⟨c0, c1, c2⟩ := (hd.bel hb (Nat.le_refl _)).at hlt
      have cn' := (hb.cell (p := ⟨g, n * 3, none⟩) (World.block_lt_of_cell? _ _ cn)).trans cn
      have kr := (hb.cell (p := ⟨w.heap.size, 0, none⟩) lt0).trans k0
      clear HS e1
      generalize ds[m] = x at *
      have i1 : (m : Int) < ds.length := by omega
      have K0 := BelowOf.cell kr
      have KN := BelowOf.cell cn'
      have Y0 := BelowOf.cell c0
      have Y1 := BelowOf.cell c1
      have Y2 := BelowOf.cell c2
      have C1 := fun q : BelowOf wr => l12Do_ev a b o c ll x q.x hox hl hls ((h.below hb (Nat.le_refl _)).below q.h (Nat.le_refl _))
      have C2 := fun q : BelowOf wr => l1Reads_bel x.d q.x
      haveI : Inhabited (BelowOf wr) := ⟨belOf wr⟩
      have hx : Hid (x.reads = M.reads x.d.k) := by show _ = _; rfl
      have hxr : x.reads = M.reads x.d.k := rfl
      rw [hxr] at HS2
      clear hx hxr
      generalize x.t = xt at *
      go_wp2_with fail
      by_cases ht : xt = tn
      · subst xt
        cases hr : M.reads x.d.k
        · have HS3 : Hid (M.src ds tn n = M.src ds tn m) := by show _ = _; rw [HS2.out, hr]; simp
          rw [hr] at C2
          refine wp_region_quiet_bel (by kernel_rfl) (by kernel_rfl) ?_
          repeat (quiet_step (first | (go_at_call 52; exact Calls.bel_of (C1 _)) | (go_at_call 28; exact Calls.bel_of (C2 _))))
          refine wpQuiet_nil ?_
          rintro _ ⟨⟨wq, hwq⟩, rfl⟩
          go_wp2_with fail
          exact ⟨⟨m, by go_num, by omega, HS3, hb.trans (hwq.mono hb.size)⟩, by simp [intOf]⟩
        · have HS3 : Hid (M.src ds tn n = m) := by show _ = _; rw [HS2.out, hr]; simp
          rw [hr] at C2
          refine wp_region_quiet_bel (by kernel_rfl) (by kernel_rfl) ?_
          repeat (quiet_step (first | (go_at_call 52; exact Calls.bel_of (C1 _)) | (go_at_call 28; exact Calls.bel_of (C2 _))))
          refine wpQuiet_nil ?_
          rintro _ ⟨⟨wq, hwq⟩, rfl⟩
          go_wp2_with fail
          go_ret
          exact ⟨by rw [HS3.out]; rfl, hbw.trans (hwq.mono hbw.size)⟩
      · have HS3 : Hid (M.src ds tn n = M.src ds tn m) := by show _ = _; rw [HS2.out]; simp [ht]
        have ht' : ((xt : Int) == tn) = false := by simp; omega
        refine wp_region_quiet_bel (by kernel_rfl) (by kernel_rfl) ?_
        iterate 12 (quiet_step (fail))
        iterate 7 go_big_quiet_skip
        iterate 1 (quiet_step (fail))
        refine wpQuiet_nil ?_
        rintro _ ⟨⟨wq, hwq⟩, rfl⟩
        go_wp2_with fail
        exact ⟨⟨m, by go_num, by omega, HS3, hb.trans (hwq.mono hb.size)⟩, by simp [intOf]⟩

end Go.Proofs.Ytiaibfalmmnipaa

namespace Go.Proofs.Ytiaibfalmmnipaa
open Go.RowKit

/-- What an event reads, or writes, in so many steps at most. -/
def M.val (ds : List M.De) (l : List Int) : Nat → Int → Int
  | 0, i => if i < 0 then 0 else -1
  | m + 1, i => if i < 0 then 0 else match ds[i.toNat]? with
    | none => 0
    | some x => if x.reads then M.val ds l m (l.getD i.toNat 0) else if x.d.k == 3 then M.val ds l m x.lr else x.d.v
theorem M.val_neg (ds : List M.De) (l : List Int) (m : Nat) {i : Int} (h : i < 0) : M.val ds l m i = 0 := by
  cases m <;> simp [M.val, h]
theorem M.val_at (ds : List M.De) (l : List Int) (m n : Nat) (h : n < ds.length) (h2 : n < l.length) : M.val ds l (m + 1) n = if ds[n].reads then M.val ds l m l[n] else if ds[n].d.k == 3 then M.val ds l m ds[n].lr else ds[n].d.v := by
  rw [M.val, if_neg (by omega), Int.toNat_natCast, List.getElem?_eq_getElem h, List.getD_eq_getElem?_getD, List.getElem?_eq_getElem h2]
  rfl
/-- It comes to an end just where the origin is found. -/
theorem M.val_orig {ds : List M.De} {l : List Int} (hin : M.In ds l) (hv : ∀ x ∈ ds, 0 ≤ x.d.v) (hll : l.length = ds.length) : ∀ (m n : Nat), n < ds.length → (decide (0 ≤ M.val ds l m n) = (M.orig ds l m n).isSome) := by
  intro m
  induction m with
  | zero => intro n _; rw [M.val, if_neg (by omega)]; rfl
  | succ m ih =>
    intro n hn
    have hi := hin n hn
    rw [M.val_at ds l m n hn (by omega), M.orig]
    have hvf : M.valFrom ds l n = if ds[n].reads then l[n] else if ds[n].d.k == 3 then ds[n].lr else -1 := by
      simp [M.valFrom, hn, show n < l.length by omega]
    have step : ∀ f : Int, f < ds.length → decide (0 ≤ M.val ds l m f) = (if f < 0 then some n else M.orig ds l m f.toNat).isSome := by
      intro f hf
      by_cases h0 : f < 0
      · rw [M.val_neg _ _ _ h0, if_pos h0]; rfl
      · rw [if_neg h0]
        obtain ⟨k, rfl⟩ : ∃ k : Nat, f = k := ⟨f.toNat, by omega⟩
        rw [Int.toNat_natCast]
        exact ih k (by omega)
    rw [hvf] at hi ⊢
    by_cases hr : ds[n].reads = true
    · rw [if_pos hr] at hi ⊢
      rw [if_pos hr]
      exact step _ hi
    · rw [if_neg hr] at hi ⊢
      rw [if_neg hr]
      by_cases h3 : (ds[n].d.k == 3) = true
      · rw [if_pos h3] at hi ⊢
        rw [if_pos h3]
        exact step _ hi
      · rw [if_neg h3, if_neg h3, if_pos (by omega)]
        simp [hv _ (List.getElem_mem hn)]

set_option maxHeartbeats 2000000 in
set_option maxRecDepth 100000 in
theorem l12Val_any (a : Option Addr) (b o c : Nat) (ll : List (List M.D)) (va : Option Addr) (g cc : Nat) (fa : Option Addr) (fb fo fc : Nat) (l : List Int) (ra : Value) (hl : ll.length ≤ 1048576) (hls : ∀ t ∈ ll, t.length ≤ 1048576) (hdl : (M.deeds ll).length ≤ 42) (HLL : Hid (l.length = (M.deeds ll).length)) (hin : M.In (M.deeds ll) l) :
    ∀ (m : Nat) (i : Int) (w : World), m ≤ 1048576 → i < (M.deeds ll).length → DoSS w a b o ll → DvS w va g (M.deeds ll) → IntS w fa fb fo l →
    Calls Try.prog 55 #[.agg #[.slice a ll.length c], .slice va (M.deeds ll).length cc, .agg #[.slice fa l.length fc, ra], .int .i64 i, .int .i64 m] w fun e w' => e = .returned (.int .i64 (M.val (M.deeds ll) l m i)) ∧ Below w.heap.size w w' := by
  intro m
  induction m with
  | zero =>
    intro i w _ hi h hd hf
    have hb2 := below2 w (.cells #[.slice a ll.length c] 25) (.cells #[.slice fa l.length fc, ra] 35)
    by_cases h0 : i < 0
    · go_enter Try.func55, Try.ntmps55
      go_wp2_with fail
      go_ret
      exact ⟨by rw [M.val_neg _ _ _ h0]; rfl, hb2⟩
    · have h0' : decide (i < 0) = false := by simpa using h0
      go_enter Try.func55, Try.ntmps55
      go_wp2_with fail
      go_ret
      exact ⟨by rw [M.val, if_neg (by omega)]; rfl, hb2⟩
  | succ m ih =>
    intro i w hm hi h hd hf
    have hb2 := below2 w (.cells #[.slice a ll.length c] 25) (.cells #[.slice fa l.length fc, ra] 35)
    by_cases h0 : i < 0
    · go_enter Try.func55, Try.ntmps55
      go_wp2_with fail
      go_ret
      exact ⟨by rw [M.val_neg _ _ _ h0]; rfl, hb2⟩
    · obtain ⟨n, rfl⟩ : ∃ n : Nat, i = n := ⟨i.toNat, by omega⟩
      have hn : n < (M.deeds ll).length := by omega
      have hnl : n < l.length := by rw [HLL.out]; exact hn
      have HV : Hid (M.val (M.deeds ll) l (m + 1) n = if (M.deeds ll)[n].reads then M.val (M.deeds ll) l m l[n] else if (M.deeds ll)[n].d.k == 3 then M.val (M.deeds ll) l m (M.deeds ll)[n].lr else (M.deeds ll)[n].d.v) := M.val_at _ _ _ _ hn hnl
      have hox := M.ofEv _ (List.getElem_mem hn)
      have hfr := hin n hn
      have hvf : M.valFrom (M.deeds ll) l n = if (M.deeds ll)[n].reads then l[n] else if (M.deeds ll)[n].d.k == 3 then (M.deeds ll)[n].lr else -1 := by
        simp [M.valFrom, hn, hnl]
      rw [hvf] at hfr
      have HFR : Hid ((if (M.deeds ll)[n].reads then l[n] else if (M.deeds ll)[n].d.k == 3 then (M.deeds ll)[n].lr else -1) < ((M.deeds ll).length : Int)) := hfr
      have HSR : Hid ((M.deeds ll)[n].reads = false → M.src (M.deeds ll) (M.deeds ll)[n].t n = (M.deeds ll)[n].lr) := M.src_ok ll n hn
      clear hvf hfr
      obtain ⟨rfl⟩ := hd.addr (by omega)
      obtain ⟨rfl⟩ := hf.addr (by omega)
      obtain ⟨f, hfe⟩ : ∃ f, l[n] = f := ⟨_, rfl⟩
      have hfc := hf.row n hnl
      rw [hfe] at hfc HV HFR
      clear hfe
      obtain ⟨x, hxe⟩ : ∃ x, (M.deeds ll)[n] = x := ⟨_, rfl⟩
      have HXT : Hid ((M.deeds ll)[n].t = x.t) := by show _ = _; rw [hxe]
      obtain ⟨c0, c1, c2⟩ := hd.at hn
      rw [hxe] at HV HFR HSR hox c0 c1 c2
      clear hxe
      have i1 : (n : Int) < (M.deeds ll).length := by omega
      have i2 : (n : Int) < l.length := by omega
      have kp : ((w.alloc (.cells #[.slice a ll.length c] 25)).alloc (.cells #[.slice (some ⟨fb, fo, none⟩) l.length fc, ra] 35)).cell? ⟨w.heap.size, 0, none⟩ = some (.slice a ll.length c) := by simp
      have k0 : ((w.alloc (.cells #[.slice a ll.length c] 25)).alloc (.cells #[.slice (some ⟨fb, fo, none⟩) l.length fc, ra] 35)).cell? ⟨w.heap.size + 1, 0, none⟩ = some (.slice (some ⟨fb, fo, none⟩) l.length fc) := by simp
      have k1 : ((w.alloc (.cells #[.slice a ll.length c] 25)).alloc (.cells #[.slice (some ⟨fb, fo, none⟩) l.length fc, ra] 35)).cell? ⟨w.heap.size + 1, 1, none⟩ = some ra := by simp
      have c0 := (hb2.cell (p := ⟨g, n * 3, none⟩) (World.block_lt_of_cell? _ _ c0)).trans c0
      have c1 := (hb2.cell (p := ⟨g, n * 3 + 1, none⟩) (World.block_lt_of_cell? _ _ c1)).trans c1
      have c2 := (hb2.cell (p := ⟨g, n * 3 + 2, none⟩) (World.block_lt_of_cell? _ _ c2)).trans c2
      have hfc := (hb2.cell (p := ⟨fb, fo + n, none⟩) (World.block_lt_of_cell? _ _ hfc)).trans hfc
      replace h := h.below hb2 (Nat.le_refl _)
      replace hd := hd.bel hb2 (Nat.le_refl _)
      replace hf := hf.below hb2 (Nat.le_refl _)
      go_enter Try.func55, Try.ntmps55
      go_wp2_with fail
      generalize (w.alloc (.cells #[.slice a ll.length c] 25)).alloc (.cells #[.slice (some ⟨fb, fo, none⟩) l.length fc, ra] 35) = wr at *
      have lg : g < wr.heap.size := World.block_lt_of_cell? _ _ c0
      have lf : fb < wr.heap.size := World.block_lt_of_cell? _ _ hfc
      have lw1 : w.heap.size + 1 < wr.heap.size := World.block_lt_of_cell? _ _ k0
      have lw : w.heap.size < wr.heap.size := World.block_lt_of_cell? _ _ kp
      have C := fun W (hb : Below wr.heap.size wr W) => l12Do_ev a b o c ll x W hox hl hls (h.below hb (Nat.le_refl _))
      have hbA := below1 wr (.cells #[.int .i64 0, .int .i64 0, .int .i64 0] 66)
      have A0 : (wr.alloc (.cells #[.int .i64 0, .int .i64 0, .int .i64 0] 66)).cell? ⟨wr.heap.size, 0, none⟩ = some (.int .i64 0) := by simp
      have A1 : (wr.alloc (.cells #[.int .i64 0, .int .i64 0, .int .i64 0] 66)).cell? ⟨wr.heap.size, 1, none⟩ = some (.int .i64 0) := by simp
      have A2 : (wr.alloc (.cells #[.int .i64 0, .int .i64 0, .int .i64 0] 66)).cell? ⟨wr.heap.size, 2, none⟩ = some (.int .i64 0) := by simp
      have Af : ∀ j, (wr.alloc (.cells #[.int .i64 0, .int .i64 0, .int .i64 0] 66)).frozen? ⟨wr.heap.size, j, none⟩ = false := by intro j; simp
      have Asz : wr.heap.size < (wr.alloc (.cells #[.int .i64 0, .int .i64 0, .int .i64 0] 66)).heap.size := by simp
      have N0 : wr.heap.size ≠ w.heap.size := Nat.ne_of_gt lw
      have N1 : wr.heap.size ≠ g := Nat.ne_of_gt lg
      have B0 := (hbA.cell (p := ⟨w.heap.size, 0, none⟩) lw).trans kp
      have B1 := (hbA.cell (p := ⟨g, n * 3, none⟩) lg).trans c0
      have B2 := (hbA.cell (p := ⟨g, n * 3 + 1, none⟩) lg).trans c1
      have B3 := (hbA.cell (p := ⟨g, n * 3 + 2, none⟩) lg).trans c2
      go_region_held3 (fun w' => w'.cell? ⟨w.heap.size, 0, none⟩ = some (.slice a ll.length c) ∧ w'.cell? ⟨g, n * 3, none⟩ = some (.int .i64 x.t) ∧ w'.cell? ⟨g, n * 3 + 1, none⟩ = some (.int .i64 x.i) ∧ w'.cell? ⟨g, n * 3 + 2, none⟩ = some (.bool x.last)) (go_keep) (first
        | (go_at_call 52; refine (C _ ((Below.refl _ _).drew)).mono ?_; rintro e w1 ⟨rfl, hb1⟩; have Y0 := (hb1.cell (p := ⟨w.heap.size, 0, none⟩) lw).trans kp; have Y1 := (hb1.cell (p := ⟨g, n * 3, none⟩) lg).trans c0; have Y2 := (hb1.cell (p := ⟨g, n * 3 + 1, none⟩) lg).trans c1; have Y3 := (hb1.cell (p := ⟨g, n * 3 + 2, none⟩) lg).trans c2)
        | (go_at_call 52; refine (C _ ((below1 _ _).drew)).mono ?_; rintro e w1 ⟨rfl, hb1⟩; have Y0 := (hb1.cell (p := ⟨w.heap.size, 0, none⟩) (Nat.lt_trans lw Asz)).trans B0; have Y1 := (hb1.cell (p := ⟨g, n * 3, none⟩) (Nat.lt_trans lg Asz)).trans B1; have Y2 := (hb1.cell (p := ⟨g, n * 3 + 1, none⟩) (Nat.lt_trans lg Asz)).trans B2; have Y3 := (hb1.cell (p := ⟨g, n * 3 + 2, none⟩) (Nat.lt_trans lg Asz)).trans B3; have Z0 := (hb1.cell (p := ⟨wr.heap.size, 0, none⟩) Asz).trans A0; have Z1 := (hb1.cell (p := ⟨wr.heap.size, 1, none⟩) Asz).trans A1; have Z2 := (hb1.cell (p := ⟨wr.heap.size, 2, none⟩) Asz).trans A2; have Zf := fun j => (hb1.frozen (p := ⟨wr.heap.size, j, none⟩) Asz).trans (Af j)))
      · have F : DoIn wr _ _ x.d := DoIn.behind (d := x.d) ((Below.refl wr.heap.size wr).drew.trans hb1)
        generalize w1.alloc (.cells #[.int .i64 x.d.k, .int .i64 x.d.p, .int .i64 x.d.v] 66) = W1 at F ⊢
        generalize w1.heap.size = X at F ⊢
        clear hb1 A0 A1 A2 Af B0 B1 B2 B3 N0 N1 Y0 Y1 Y2 Y3 C hbA
        obtain ⟨hbF, hgF, d0, d1, d2⟩ := F
        have lX : X < W1.heap.size := World.block_lt_of_cell? _ _ d0
        have hbG := hbF.trans ((below1 W1 (.cells #[.int .i64 x.d.k, .int .i64 x.d.p, .int .i64 x.d.v] 66)).mono hbF.size)
        have D0 := ((below1 W1 (.cells #[.int .i64 x.d.k, .int .i64 x.d.p, .int .i64 x.d.v] 66)).cell (p := ⟨X, 0, none⟩) lX).trans d0
        have D2 := ((below1 W1 (.cells #[.int .i64 x.d.k, .int .i64 x.d.p, .int .i64 x.d.v] 66)).cell (p := ⟨X, 2, none⟩) lX).trans d2
        have hbZ := hb2.trans (hbG.mono hb2.size)
        cases hr : M.reads x.d.k
        · have HV2 : Hid (M.val (M.deeds ll) l (m + 1) n = if x.d.k == 3 then M.val (M.deeds ll) l m x.lr else x.d.v) := by show _ = _; rw [HV.out, show x.reads = false from hr]; rfl
          cases h3 : (x.d.k == 3)
          · go_wp2_with (go_at_call 28; refine (l1Reads_any x.d _).mono ?_; rw [hr]; rintro e w' ⟨rfl, rfl⟩)
            go_ret
            exact ⟨by rw [HV2.out, h3]; rfl, hbZ⟩
          · have HL : Hid (x.lr < ((M.deeds ll).length : Int)) := by
              have := HFR.out
              rw [show x.reads = false from hr, h3] at this
              exact this
            have HS : Hid (M.src (M.deeds ll) x.t n = x.lr) := HSR.out hr
            go_wp2_with (go_at_call 28; refine (l1Reads_any x.d _).mono ?_; rw [hr]; rintro e w' ⟨rfl, rfl⟩)
            replace h := h.below hbG (Nat.le_refl _)
            replace hd := hd.bel hbG (Nat.le_refl _)
            replace hf := hf.below hbG (Nat.le_refl _)
            replace kp := (hbG.cell (p := ⟨w.heap.size, 0, none⟩) lw).trans kp
            replace k0 := (hbG.cell (p := ⟨w.heap.size + 1, 0, none⟩) lw1).trans k0
            replace k1 := (hbG.cell (p := ⟨w.heap.size + 1, 1, none⟩) lw1).trans k1
            generalize W1.alloc (.cells #[.int .i64 x.d.k, .int .i64 x.d.p, .int .i64 x.d.v] 66) = W2 at *
            have KP := BelowOf.cell kp
            have K0 := BelowOf.cell k0
            have K1 := BelowOf.cell k1
            have C1 := fun q : BelowOf W2 => l12Source_any a b o c ll (some ⟨g, 0, none⟩) g cc n x.t q.x hn HXT.out hl hls hdl (h.below q.h (Nat.le_refl _)) (hd.bel q.h (Nat.le_refl _))
            have C2 := fun q : BelowOf W2 => ih x.lr q.x (by omega) HL.out (h.below q.h (Nat.le_refl _)) (hd.bel q.h (Nat.le_refl _)) (hf.below q.h (Nat.le_refl _))
            rw [HS.out] at C1
            haveI : Inhabited (BelowOf W2) := ⟨belOf W2⟩
            clear ih
            have em : IntKind.i64.wrap (m : Int) = m := by rw [IntKind.wrap_i64]; omega
            refine wp_region_quiet_bel (by kernel_rfl) (by kernel_rfl) ?_
            repeat (quiet_step (first | (go_at_call 75; exact Calls.bel_of (C1 _)) | (go_at_call 55; exact Calls.bel_of (C2 _))))
            refine wpQuiet_nil ?_
            rintro _ ⟨⟨wq, hwq⟩, rfl⟩
            go_wp2_with fail
            go_ret
            exact ⟨by rw [HV2.out, h3]; rfl, hbZ.trans (hwq.mono hbZ.size)⟩
        · have HV2 : Hid (M.val (M.deeds ll) l (m + 1) n = M.val (M.deeds ll) l m f) := by show _ = _; rw [HV.out, show x.reads = true from hr]; rfl
          have HL : Hid (f < ((M.deeds ll).length : Int)) := by
            have := HFR.out
            rw [show x.reads = true from hr] at this
            exact this
          go_wp2_with (go_at_call 28; refine (l1Reads_any x.d _).mono ?_; rw [hr]; rintro e w' ⟨rfl, rfl⟩)
          replace h := h.below hbG (Nat.le_refl _)
          replace hd := hd.bel hbG (Nat.le_refl _)
          replace hf := hf.below hbG (Nat.le_refl _)
          replace kp := (hbG.cell (p := ⟨w.heap.size, 0, none⟩) lw).trans kp
          replace k0 := (hbG.cell (p := ⟨w.heap.size + 1, 0, none⟩) lw1).trans k0
          replace k1 := (hbG.cell (p := ⟨w.heap.size + 1, 1, none⟩) lw1).trans k1
          replace hfc := (hbG.cell (p := ⟨fb, fo + n, none⟩) lf).trans hfc
          generalize W1.alloc (.cells #[.int .i64 x.d.k, .int .i64 x.d.p, .int .i64 x.d.v] 66) = W2 at *
          have KP := BelowOf.cell kp
          have K0 := BelowOf.cell k0
          have K1 := BelowOf.cell k1
          have KF := BelowOf.cell hfc
          have C2 := fun q : BelowOf W2 => ih f q.x (by omega) HL.out (h.below q.h (Nat.le_refl _)) (hd.bel q.h (Nat.le_refl _)) (hf.below q.h (Nat.le_refl _))
          haveI : Inhabited (BelowOf W2) := ⟨belOf W2⟩
          clear ih
          have em : IntKind.i64.wrap (m : Int) = m := by rw [IntKind.wrap_i64]; omega
          refine wp_region_quiet_bel (by kernel_rfl) (by kernel_rfl) ?_
          repeat (quiet_step (first | (go_at_call 55; exact Calls.bel_of (C2 _))))
          refine wpQuiet_nil ?_
          rintro _ ⟨⟨wq, hwq⟩, rfl⟩
          go_wp2_with fail
          go_ret
          exact ⟨by rw [HV2.out]; rfl, hbZ.trans (hwq.mono hbZ.size)⟩
      · have F : DoIn wr _ _ x.d := DoIn.ahead (d := x.d) (hbA.drew.trans (hb1.mono (Nat.le_of_lt Asz))) Z0 Z1 Z2
        generalize ((w1.setCell ⟨wr.heap.size, 0, none⟩ (.int .i64 x.d.k)).setCell ⟨wr.heap.size, 1, none⟩ (.int .i64 x.d.p)).setCell ⟨wr.heap.size, 2, none⟩ (.int .i64 x.d.v) = W1 at F ⊢
        obtain ⟨X, hX, F⟩ : ∃ X, X = wr.heap.size ∧ DoIn wr W1 X x.d := ⟨_, rfl, F⟩
        rw [← hX]
        clear hX
        clear hb1 A0 A1 A2 Af B0 B1 B2 B3 N0 N1 Y0 Y1 Y2 Y3 C hbA
        obtain ⟨hbF, hgF, d0, d1, d2⟩ := F
        have lX : X < W1.heap.size := World.block_lt_of_cell? _ _ d0
        have hbG := hbF.trans ((below1 W1 (.cells #[.int .i64 x.d.k, .int .i64 x.d.p, .int .i64 x.d.v] 66)).mono hbF.size)
        have D0 := ((below1 W1 (.cells #[.int .i64 x.d.k, .int .i64 x.d.p, .int .i64 x.d.v] 66)).cell (p := ⟨X, 0, none⟩) lX).trans d0
        have D2 := ((below1 W1 (.cells #[.int .i64 x.d.k, .int .i64 x.d.p, .int .i64 x.d.v] 66)).cell (p := ⟨X, 2, none⟩) lX).trans d2
        have hbZ := hb2.trans (hbG.mono hb2.size)
        cases hr : M.reads x.d.k
        · have HV2 : Hid (M.val (M.deeds ll) l (m + 1) n = if x.d.k == 3 then M.val (M.deeds ll) l m x.lr else x.d.v) := by show _ = _; rw [HV.out, show x.reads = false from hr]; rfl
          cases h3 : (x.d.k == 3)
          · go_wp2_with (go_at_call 28; refine (l1Reads_any x.d _).mono ?_; rw [hr]; rintro e w' ⟨rfl, rfl⟩)
            go_ret
            exact ⟨by rw [HV2.out, h3]; rfl, hbZ⟩
          · have HL : Hid (x.lr < ((M.deeds ll).length : Int)) := by
              have := HFR.out
              rw [show x.reads = false from hr, h3] at this
              exact this
            have HS : Hid (M.src (M.deeds ll) x.t n = x.lr) := HSR.out hr
            go_wp2_with (go_at_call 28; refine (l1Reads_any x.d _).mono ?_; rw [hr]; rintro e w' ⟨rfl, rfl⟩)
            replace h := h.below hbG (Nat.le_refl _)
            replace hd := hd.bel hbG (Nat.le_refl _)
            replace hf := hf.below hbG (Nat.le_refl _)
            replace kp := (hbG.cell (p := ⟨w.heap.size, 0, none⟩) lw).trans kp
            replace k0 := (hbG.cell (p := ⟨w.heap.size + 1, 0, none⟩) lw1).trans k0
            replace k1 := (hbG.cell (p := ⟨w.heap.size + 1, 1, none⟩) lw1).trans k1
            generalize W1.alloc (.cells #[.int .i64 x.d.k, .int .i64 x.d.p, .int .i64 x.d.v] 66) = W2 at *
            have KP := BelowOf.cell kp
            have K0 := BelowOf.cell k0
            have K1 := BelowOf.cell k1
            have C1 := fun q : BelowOf W2 => l12Source_any a b o c ll (some ⟨g, 0, none⟩) g cc n x.t q.x hn HXT.out hl hls hdl (h.below q.h (Nat.le_refl _)) (hd.bel q.h (Nat.le_refl _))
            have C2 := fun q : BelowOf W2 => ih x.lr q.x (by omega) HL.out (h.below q.h (Nat.le_refl _)) (hd.bel q.h (Nat.le_refl _)) (hf.below q.h (Nat.le_refl _))
            rw [HS.out] at C1
            haveI : Inhabited (BelowOf W2) := ⟨belOf W2⟩
            clear ih
            have em : IntKind.i64.wrap (m : Int) = m := by rw [IntKind.wrap_i64]; omega
            refine wp_region_quiet_bel (by kernel_rfl) (by kernel_rfl) ?_
            repeat (quiet_step (first | (go_at_call 75; exact Calls.bel_of (C1 _)) | (go_at_call 55; exact Calls.bel_of (C2 _))))
            refine wpQuiet_nil ?_
            rintro _ ⟨⟨wq, hwq⟩, rfl⟩
            go_wp2_with fail
            go_ret
            exact ⟨by rw [HV2.out, h3]; rfl, hbZ.trans (hwq.mono hbZ.size)⟩
        · have HV2 : Hid (M.val (M.deeds ll) l (m + 1) n = M.val (M.deeds ll) l m f) := by show _ = _; rw [HV.out, show x.reads = true from hr]; rfl
          have HL : Hid (f < ((M.deeds ll).length : Int)) := by
            have := HFR.out
            rw [show x.reads = true from hr] at this
            exact this
          go_wp2_with (go_at_call 28; refine (l1Reads_any x.d _).mono ?_; rw [hr]; rintro e w' ⟨rfl, rfl⟩)
          replace h := h.below hbG (Nat.le_refl _)
          replace hd := hd.bel hbG (Nat.le_refl _)
          replace hf := hf.below hbG (Nat.le_refl _)
          replace kp := (hbG.cell (p := ⟨w.heap.size, 0, none⟩) lw).trans kp
          replace k0 := (hbG.cell (p := ⟨w.heap.size + 1, 0, none⟩) lw1).trans k0
          replace k1 := (hbG.cell (p := ⟨w.heap.size + 1, 1, none⟩) lw1).trans k1
          replace hfc := (hbG.cell (p := ⟨fb, fo + n, none⟩) lf).trans hfc
          generalize W1.alloc (.cells #[.int .i64 x.d.k, .int .i64 x.d.p, .int .i64 x.d.v] 66) = W2 at *
          have KP := BelowOf.cell kp
          have K0 := BelowOf.cell k0
          have K1 := BelowOf.cell k1
          have KF := BelowOf.cell hfc
          have C2 := fun q : BelowOf W2 => ih f q.x (by omega) HL.out (h.below q.h (Nat.le_refl _)) (hd.bel q.h (Nat.le_refl _)) (hf.below q.h (Nat.le_refl _))
          haveI : Inhabited (BelowOf W2) := ⟨belOf W2⟩
          clear ih
          have em : IntKind.i64.wrap (m : Int) = m := by rw [IntKind.wrap_i64]; omega
          refine wp_region_quiet_bel (by kernel_rfl) (by kernel_rfl) ?_
          repeat (quiet_step (first | (go_at_call 55; exact Calls.bel_of (C2 _))))
          refine wpQuiet_nil ?_
          rintro _ ⟨⟨wq, hwq⟩, rfl⟩
          go_wp2_with fail
          go_ret
          exact ⟨by rw [HV2.out]; rfl, hbZ.trans (hwq.mono hbZ.size)⟩

end Go.Proofs.Ytiaibfalmmnipaa

namespace Go.Proofs.Ytiaibfalmmnipaa
open Go.RowKit

def M.vEnds (ds : List M.De) (l : List Int) : Nat → List M.De → Bool
  | _, [] => true
  | n, _ :: xs => decide (0 ≤ M.val ds l (2 * ds.length + 2) n) && M.vEnds ds l (n + 1) xs
theorem M.vEnds_step {ds : List M.De} {l : List Int} {n : Nat} (h : M.vEnds ds l 0 ds = M.vEnds ds l n (ds.drop n)) (hn : n < ds.length) : M.vEnds ds l 0 ds = (decide (0 ≤ M.val ds l (2 * ds.length + 2) n) && M.vEnds ds l (n + 1) (ds.drop (n + 1))) := by
  rw [h, ← List.getElem_cons_drop hn, M.vEnds]

set_option maxHeartbeats 1000000 in
set_option maxRecDepth 100000 in
theorem l12Ends_any (a : Option Addr) (b o c : Nat) (ll : List (List M.D)) (va : Option Addr) (g cc : Nat) (fa : Option Addr) (fb fo fc : Nat) (l : List Int) (ra : Value) (w : World) (hl : ll.length ≤ 1048576) (hls : ∀ t ∈ ll, t.length ≤ 1048576) (hdl : (M.deeds ll).length ≤ 42) (HLL : Hid (l.length = (M.deeds ll).length)) (hin : M.In (M.deeds ll) l) (h : DoSS w a b o ll) (hd : DvS w va g (M.deeds ll)) (hf : IntS w fa fb fo l) :
    Calls Try.prog 26 #[.agg #[.slice a ll.length c], .slice va (M.deeds ll).length cc, .agg #[.slice fa l.length fc, ra]] w fun e w' => e = .returned (.bool (M.vEnds (M.deeds ll) l 0 (M.deeds ll))) ∧ Below w.heap.size w w' := by
  have hb2 := below2 w (.cells #[.slice a ll.length c] 25) (.cells #[.slice fa l.length fc, ra] 35)
  have kp : ((w.alloc (.cells #[.slice a ll.length c] 25)).alloc (.cells #[.slice fa l.length fc, ra] 35)).cell? ⟨w.heap.size, 0, none⟩ = some (.slice a ll.length c) := by simp
  have k0 : ((w.alloc (.cells #[.slice a ll.length c] 25)).alloc (.cells #[.slice fa l.length fc, ra] 35)).cell? ⟨w.heap.size + 1, 0, none⟩ = some (.slice fa l.length fc) := by simp
  have k1 : ((w.alloc (.cells #[.slice a ll.length c] 25)).alloc (.cells #[.slice fa l.length fc, ra] 35)).cell? ⟨w.heap.size + 1, 1, none⟩ = some ra := by simp
  have C := l12Val_any a b o c ll va g cc fa fb fo fc l ra hl hls hdl HLL hin (2 * (M.deeds ll).length + 2)
  rw [show ((2 * (M.deeds ll).length + 2 : Nat) : Int) = 2 * ((M.deeds ll).length : Int) + 2 from by omega] at C
  generalize M.deeds ll = ds at *
  replace h := h.below hb2 (Nat.le_refl _)
  replace hd := hd.bel hb2 (Nat.le_refl _)
  replace hf := hf.below hb2 (Nat.le_refl _)
  go_enter Try.func26, Try.ntmps26
  go_wp2_with fail
  generalize (w.alloc (.cells #[.slice a ll.length c] 25)).alloc (.cells #[.slice fa l.length fc, ra] 35) = WB at *
  have lw1 : w.heap.size + 1 < WB.heap.size := World.block_lt_of_cell? _ _ k0
  have lw : w.heap.size < WB.heap.size := World.block_lt_of_cell? _ _ kp
  go_loopw [7] (fun s7 wr => ∃ n : Nat, s7 = .int .i64 n ∧ n ≤ ds.length ∧ Hid (M.vEnds ds l 0 ds = M.vEnds ds l n (ds.drop n)) ∧ Below WB.heap.size WB wr) (fun s7 _ => ds.length - (intOf s7).toNat)
  case atStart => exact ⟨0, rfl, Nat.zero_le _, by show _ = _; rfl, Below.refl _ _⟩
  case round =>
    obtain ⟨n, rfl, hn, HA, hb⟩ := hrel
    have hbw := hb2.trans (hb.mono hb2.size)
    have kp' := (hb.cell (p := ⟨w.heap.size, 0, none⟩) lw).trans kp
    have k0' := (hb.cell (p := ⟨w.heap.size + 1, 0, none⟩) lw1).trans k0
    have k1' := (hb.cell (p := ⟨w.heap.size + 1, 1, none⟩) lw1).trans k1
    by_cases hlt : n < ds.length
    · have HS : Hid (M.vEnds ds l 0 ds = (decide (0 ≤ M.val ds l (2 * ds.length + 2) n) && M.vEnds ds l (n + 1) (ds.drop (n + 1)))) := M.vEnds_step HA.out hlt
      have C1 := C n wr (by omega) (by omega) (h.below hb (Nat.le_refl _)) (hd.bel hb (Nat.le_refl _)) (hf.below hb (Nat.le_refl _))
      clear HA C
      generalize M.val ds l (2 * ds.length + 2) n = r at *
      have i1 : (n : Int) < ds.length := by omega
      by_cases hr : r < 0
      · have HT : Hid (M.vEnds ds l 0 ds = false) := by show _ = _; rw [HS.out, decide_eq_false (by omega)]; rfl
        go_wp2_with (go_at_call 55; refine C1.mono ?_; rintro e w1 ⟨rfl, hb1⟩)
        go_ret
        exact ⟨ret_bool HT.out.symm, hbw.trans (hb1.mono hbw.size)⟩
      · have HT : Hid (M.vEnds ds l 0 ds = M.vEnds ds l (n + 1) (ds.drop (n + 1))) := by show _ = _; rw [HS.out, decide_eq_true (by omega)]; rfl
        have hr' : decide (r < 0) = false := by simpa using hr
        go_wp2_with (go_at_call 55; refine C1.mono ?_; rintro e w1 ⟨rfl, hb1⟩)
        exact ⟨⟨n + 1, by go_num, by omega, HT, hb.trans (hb1.mono hb.size)⟩, by simp [intOf]; omega⟩
    · go_wp2_with fail
      go_ret
      exact ⟨ret_bool (by rw [HA.out, List.drop_eq_nil_of_le (by omega)]; rfl), hbw⟩

end Go.Proofs.Ytiaibfalmmnipaa

namespace Go.Proofs.Ytiaibfalmmnipaa
open Go.RowKit

def M.sTell (rows : List (List Int)) (x : M.De) (f : Int) : Bool := if x.reads then f == -1 || M.has (rows.getD x.d.p.toNat []) f else f == -2
def M.sFrom (rows : List (List Int)) : List M.De → List Int → Bool
  | [], _ => true
  | x :: xs, f :: fs => M.sTell rows x f && M.sFrom rows xs fs
  | _ :: _, [] => false
theorem M.sFrom_step {rows : List (List Int)} {ds : List M.De} {l : List Int} {n : Nat} (h : M.sFrom rows ds l = M.sFrom rows (ds.drop n) (l.drop n)) (hn : n < ds.length) (hl : n < l.length) : M.sFrom rows ds l = (M.sTell rows ds[n] l[n] && M.sFrom rows (ds.drop (n + 1)) (l.drop (n + 1))) := by
  rw [h, ← List.getElem_cons_drop hn, ← List.getElem_cons_drop hl, M.sFrom]
def M.sForm (ds : List M.De) (l : List Int) (rows : List (List Int)) : Bool := decide (l.length = ds.length) && (decide (rows.length = 3) && (M.orderAt ds 0 rows && M.sFrom rows ds l))

end Go.Proofs.Ytiaibfalmmnipaa

namespace Go.Proofs.Ytiaibfalmmnipaa

/-- What is there once each, within a list, is not more than that. -/
theorem nodup_le : ∀ {l m : List Int}, l.Nodup → (∀ x ∈ l, x ∈ m) → l.length ≤ m.length := by
  intro l
  induction l with
  | nil => intro m _ _; exact Nat.zero_le _
  | cons x l ih =>
    intro m hn hs
    obtain ⟨hx, hl⟩ := List.nodup_cons.1 hn
    have hm := hs x (List.mem_cons_self ..)
    have := ih (m := m.erase x) hl (fun y hy => by
      have hne : y ≠ x := fun e => hx (e ▸ hy)
      exact (List.mem_erase_of_ne hne).2 (hs y (List.mem_cons_of_mem _ hy)))
    rw [List.length_erase_of_mem hm] at this
    have hpos : 0 < m.length := List.length_pos_of_mem hm
    simp only [List.length_cons]
    omega
theorem nodup_all {l m : List Int} (hn : l.Nodup) (hs : ∀ x ∈ l, x ∈ m) (hlen : m.length = l.length) : ∀ y ∈ m, y ∈ l := by
  intro y hy
  rcases Classical.em (y ∈ l) with h | h
  · exact h
  · have := nodup_le (l := y :: l) (m := m) (List.nodup_cons.2 ⟨h, hn⟩) (fun x hx => by
      rcases List.mem_cons.1 hx with rfl | hx
      · exact hy
      · exact hs x hx)
    simp only [List.length_cons] at this
    omega
/-- A row of just the writers has just the writers. -/
theorem M.isRow_mem {ds : List M.De} {p : Int} {row : List Int} (h : M.isRow row (M.wrs p 0 ds) = true) (f : Int) : f ∈ row ↔ f ∈ M.wrs p 0 ds := by
  simp only [M.isRow, Bool.and_eq_true, decide_eq_true_eq, List.all_eq_true] at h
  obtain ⟨hlen, hall⟩ := h
  have hs : ∀ x ∈ M.wrs p 0 ds, x ∈ row := fun x hx => by simpa using hall x hx
  exact ⟨nodup_all (M.nodup_wrs p ds 0) hs hlen f, hs f⟩
theorem M.orderAt_get {ds : List M.De} : ∀ {rows : List (List Int)} {p : Nat}, M.orderAt ds p rows = true → ∀ n (h : n < rows.length), M.isRow rows[n] (M.wrs ((p + n : Nat) : Int) 0 ds) = true := by
  intro rows
  induction rows with
  | nil => intro p _ n h; exact absurd h (Nat.not_lt_zero _)
  | cons row rows ih =>
    intro p h n hn
    simp only [M.orderAt, Bool.and_eq_true] at h
    cases n with
    | zero => exact h.1
    | succ n =>
      have := ih h.2 n (by simpa using hn)
      rw [show p + 1 + n = p + (n + 1) from by omega] at this
      simpa using this
theorem M.tell_wrs {ds : List M.De} {x : M.De} {f : Int} (h : x.reads = true) : M.mayTell ds x f = (f == -1 || decide (f ∈ M.wrs x.d.p 0 ds)) := by
  by_cases h1 : f = -1
  · subst h1; rw [M.mayTell, if_pos h]; simp
  · have h1' : (f == -1) = false := by simpa using h1
    rw [h1', Bool.false_or]
    by_cases h0 : 0 ≤ f ∧ f < ds.length
    · obtain ⟨n, rfl⟩ : ∃ n : Nat, f = n := ⟨f.toNat, by omega⟩
      have hn : n < ds.length := by omega
      rw [M.tell_at h hn]
      have : ((n : Int) ∈ M.wrs x.d.p 0 ds) ↔ (ds[n]).to x.d.p = true := by
        rw [M.mem_wrs]
        constructor
        · rintro ⟨i, hi, e, t⟩
          have : i = n := by omega
          subst this; exact t
        · intro t; exact ⟨n, hn, by simp, t⟩
      cases ht : (ds[n]).to x.d.p
      · rw [ht] at this; exact (decide_eq_false (fun h => by have := this.1 h; cases this)).symm
      · rw [ht] at this; exact (decide_eq_true (this.2 rfl)).symm
    · have : f ∉ M.wrs x.d.p 0 ds := fun h => by
        obtain ⟨i, hi, e, _⟩ := M.mem_wrs.1 h
        omega
      rw [decide_eq_false this]
      rcases Int.lt_or_le f 0 with hl | hl
      · exact M.tell_low h h1 (by omega)
      · exact M.tell_high h h1 (by omega)

/-- The events back from one. -/
def M.backQ (ds : List M.De) (l : List Int) (n : Nat) : Nat → Nat
  | 0 => n
  | k + 1 => (M.valFrom ds l (M.backQ ds l n k)).toNat
theorem M.backQ_succ (ds : List M.De) (l : List Int) (n : Nat) : ∀ k, M.backQ ds l n (k + 1) = M.backQ ds l (M.valFrom ds l n).toNat k := by
  intro k
  induction k with
  | zero => rfl
  | succ k ih => rw [M.backQ, ih, M.backQ]
theorem M.backQ_add (ds : List M.De) (l : List Int) (n a : Nat) : ∀ k, M.backQ ds l n (a + k) = M.backQ ds l (M.backQ ds l n a) k := by
  intro k
  induction k with
  | zero => rfl
  | succ k ih => rw [← Nat.add_assoc, M.backQ, ih, M.backQ]
theorem M.orig_iff (ds : List M.De) (l : List Int) : ∀ (m n : Nat), (M.orig ds l m n).isSome = true ↔ ∃ k, k < m ∧ M.valFrom ds l (M.backQ ds l n k) < 0 := by
  intro m
  induction m with
  | zero => intro n; simp [M.orig]
  | succ m ih =>
    intro n
    rw [M.orig]
    by_cases h : M.valFrom ds l n < 0
    · rw [if_pos h]; exact ⟨fun _ => ⟨0, by omega, h⟩, fun _ => rfl⟩
    · rw [if_neg h, ih]
      constructor
      · rintro ⟨k, hk, h2⟩; exact ⟨k + 1, by omega, by rw [M.backQ_succ]; exact h2⟩
      · rintro ⟨k, hk, h2⟩
        cases k with
        | zero => exact absurd h2 h
        | succ k => rw [M.backQ_succ] at h2; exact ⟨k, by omega, h2⟩
theorem M.backQ_short {ds : List M.De} {l : List Int} (hin : M.In ds l) {n : Nat} (hn : n < ds.length) : ∀ k, M.valFrom ds l (M.backQ ds l n k) < 0 → ∃ j, j < ds.length ∧ M.valFrom ds l (M.backQ ds l n j) < 0 := by
  intro k
  induction k using Nat.strongRecOn with
  | ind k ih =>
    intro hk
    by_cases hlt : k < ds.length
    · exact ⟨k, hlt, hk⟩
    · by_cases hex : ∃ j, j < k ∧ M.valFrom ds l (M.backQ ds l n j) < 0
      · obtain ⟨j, hj, h2⟩ := hex
        exact ih j hj h2
      · have hall : ∀ j, j ≤ k → M.backQ ds l n j < ds.length := by
          intro j
          induction j with
          | zero => intro _; exact hn
          | succ j ihj =>
            intro hj
            have h1 := hin _ (ihj (by omega))
            have h2 : ¬ M.valFrom ds l (M.backQ ds l n j) < 0 := fun h => hex ⟨j, by omega, h⟩
            rw [M.backQ]; omega
        have hpg : ∃ a b, a < b ∧ b ≤ ds.length ∧ M.backQ ds l n a = M.backQ ds l n b := by
          refine Classical.byContradiction fun hno => ?_
          have hnd : ((List.range (ds.length + 1)).map (fun j => (M.backQ ds l n j : Int))).Nodup := by
            unfold List.Nodup
            rw [List.pairwise_map]
            refine List.Pairwise.imp_of_mem ?_ List.pairwise_lt_range
            intro a b ha hb hab e
            rw [List.mem_range] at ha hb
            exact hno ⟨a, b, hab, by omega, by omega⟩
          have := nodup_le (m := (List.range ds.length).map (fun j : Nat => (j : Int))) hnd (by
            intro x hx
            obtain ⟨j, hj, rfl⟩ := List.mem_map.1 hx
            rw [List.mem_range] at hj
            exact List.mem_map.2 ⟨_, List.mem_range.2 (hall j (by omega)), rfl⟩)
          simp at this
          omega
        obtain ⟨a, b, hab, hb, e⟩ := hpg
        refine ih (a + (k - b)) (by omega) ?_
        rw [M.backQ_add, e, ← M.backQ_add, show b + (k - b) = k from by omega]
        exact hk
theorem M.orig_more {ds : List M.De} {l : List Int} (hin : M.In ds l) {n : Nat} (hn : n < ds.length) : (M.orig ds l (2 * ds.length + 2) n).isSome = (M.orig ds l ds.length n).isSome := by
  rw [Bool.eq_iff_iff, M.orig_iff, M.orig_iff]
  constructor
  · rintro ⟨k, _, h⟩; exact M.backQ_short hin hn k h
  · rintro ⟨k, hk, h⟩; exact ⟨k, by omega, h⟩
theorem M.vEnds_eq {ds : List M.De} {l : List Int} (hin : M.In ds l) (hv : ∀ x ∈ ds, 0 ≤ x.d.v) (hll : l.length = ds.length) : M.vEnds ds l 0 ds = M.ends ds l := by
  have key : ∀ (xs : List M.De) (n : Nat), n + xs.length = ds.length → M.vEnds ds l n xs = M.endsAt ds l n xs := by
    intro xs
    induction xs with
    | nil => intro n _; rfl
    | cons x xs ih =>
      intro n hn
      simp only [List.length_cons] at hn
      rw [M.vEnds, M.endsAt, ih (n + 1) (by omega), M.val_orig hin hv hll _ n (by omega), M.orig_more hin (by omega)]
  exact key ds 0 (by omega)
theorem M.sFrom_eq {ds : List M.De} {rows : List (List Int)} (hrow : rows.length = 3) (ho : M.orderAt ds 0 rows = true) : ∀ (xs : List M.De) (l : List Int), (∀ x ∈ xs, x.reads = true → 0 ≤ x.d.p ∧ x.d.p < 3) → M.sFrom rows xs l = M.fromAt ds xs l := by
  intro xs
  induction xs with
  | nil => intro l _; cases l <;> rfl
  | cons x xs ih =>
    intro l hp
    cases l with
    | nil => rfl
    | cons f l =>
      rw [M.sFrom, M.fromAt, ih l (fun y hy => hp y (List.mem_cons_of_mem _ hy))]
      congr 1
      cases hr : x.reads
      · rw [M.tell_no hr, M.sTell, if_neg (by rw [hr]; simp)]
      · obtain ⟨h0, h3⟩ := hp x (List.mem_cons_self ..) hr
        have hlt : x.d.p.toNat < rows.length := by omega
        rw [M.tell_wrs hr, M.sTell, if_pos hr, List.getD_eq_getElem?_getD, List.getElem?_eq_getElem hlt]
        congr 1
        have hg := M.orderAt_get ho _ hlt
        rw [show ((0 + x.d.p.toNat : Nat) : Int) = x.d.p from by omega] at hg
        have := M.isRow_mem hg f
        show M.has rows[x.d.p.toNat] f = _
        rw [Bool.eq_iff_iff, decide_eq_true_eq, ← this]
        simp [M.has]
/-- Both say the same. -/
theorem M.way_eq {ds : List M.De} {l : List Int} {rows : List (List Int)} (hp : ∀ x ∈ ds, x.reads = true → 0 ≤ x.d.p ∧ x.d.p < 3) : M.sForm ds l rows = (M.fromOk ds l && M.orderOk ds rows) := by
  unfold M.sForm M.fromOk M.orderOk
  by_cases h1 : l.length = ds.length
  · by_cases h2 : rows.length = 3
    · cases h3 : M.orderAt ds 0 rows
      · simp
      · rw [M.sFrom_eq h2 h3 ds l hp]
        simp [h1, h2]
    · simp [h2]
  · simp [h1]

end Go.Proofs.Ytiaibfalmmnipaa

namespace Go.Proofs.Ytiaibfalmmnipaa
open Go.RowKit

theorem M.prog_do {ll : List (List M.D)} (h : M.prog ll = true) : ∀ l ∈ ll, ∀ d ∈ l, M.doOk d = true := by
  simp only [M.prog, Bool.and_eq_true, decide_eq_true_eq] at h
  have key : ∀ (ll : List (List M.D)) (a u : Nat), M.progFrom a u ll = true → ∀ l ∈ ll, ∀ d ∈ l, M.doOk d = true := by
    intro ll
    induction ll with
    | nil => intro a u _ l hl; cases hl
    | cons x ll ih =>
      intro a u hp l hl
      simp only [M.progFrom] at hp
      split at hp
      · rename_i hx
        rcases List.mem_cons.1 hl with rfl | hl
        · simp only [M.thread, Bool.and_eq_true, M.form, List.all_eq_true] at hx
          exact hx.1.1.2
        · exact ih _ _ hp l hl
      · cases hp
  exact key ll 0 0 h.2
theorem M.deed_do {ll : List (List M.D)} (h : M.prog ll = true) : ∀ x ∈ M.deeds ll, M.doOk x.d = true := by
  intro x hx
  obtain ⟨ht, hi, e⟩ := M.ofEv x hx
  rw [← e]
  exact M.prog_do h _ (List.getElem_mem ht) _ (List.getElem_mem hi)
theorem M.deed_v {ll : List (List M.D)} (h : M.prog ll = true) : ∀ x ∈ M.deeds ll, 0 ≤ x.d.v := by
  intro x hx
  have := M.deed_do h x hx
  simp only [M.doOk, Bool.and_eq_true, M.valOk] at this
  have hv := this.2
  split at hv
  · simp at hv; omega
  · simp at hv; omega
theorem M.deed_p {ll : List (List M.D)} (h : M.prog ll = true) : ∀ x ∈ M.deeds ll, x.reads = true → 0 ≤ x.d.p ∧ x.d.p < 3 := by
  intro x hx hr
  have := M.deed_do h x hx
  simp only [M.doOk, Bool.and_eq_true, M.placeOk] at this
  have hv := this.1.2
  rw [if_pos (by rw [M.uses, show M.reads x.d.k = true from hr]; rfl)] at hv
  simpa using hv

end Go.Proofs.Ytiaibfalmmnipaa

namespace Go.Proofs.Ytiaibfalmmnipaa
open Go.RowKit

theorem M.orig_lt {ds : List M.De} {l : List Int} (hin : M.In ds l) : ∀ (m n q : Nat), n < ds.length → M.orig ds l m n = some q → q < ds.length := by
  intro m
  induction m with
  | zero => intro n q _ h; simp [M.orig] at h
  | succ m ih =>
    intro n q hn h
    rw [M.orig] at h
    split at h
    · obtain rfl := Option.some.inj h; exact hn
    · have := hin n hn
      exact ih _ q (by omega) h

set_option maxHeartbeats 400000 in
theorem value_any (va : Option Addr) (g c : Nat) (ds : List M.De) (a : Option Addr) (b o c2 : Nat) (l : List Int) (n q : Nat) (w : World) (hn : n < ds.length) (HLL : Hid (l.length = ds.length)) (hin : M.In ds l) (ho : M.orig ds l ds.length n = some q) (hq : q < ds.length) (hl : ds.length ≤ 1048576) (h : DeS w va g ds) (h2 : IntS w a b o l) :
    Calls Try.prog 61 #[.slice va ds.length c, .slice a l.length c2, .int .i64 n] w fun e w' => e = .returned (.int .i64 ds[q].d.v) ∧ Below w.heap.size w w' := by
  have C := origin_any va g c ds a b o c2 l n w hn HLL.out hin hl h h2
  rw [ho] at C
  change Calls _ _ _ _ fun e w' => e = .returned (.tuple #[.int .i64 q, .bool true]) ∧ _ at C
  obtain ⟨rfl⟩ := h.addr (by omega)
  have i1 : (q : Int) < ds.length := by omega
  go_enter Try.func61, Try.ntmps61
  go_wp2_with (go_at_call 82; refine C.mono ?_; rintro e w1 ⟨rfl, hb1⟩; obtain ⟨_, _, _, _, _, c5, _⟩ := DeS.at (h.bel hb1 (Nat.le_refl _)) hq)
  go_ret
  exact ⟨rfl, hb1⟩

/-- Both read the same of an event. -/
theorem M.val_of_orig {ds : List M.De} {l : List Int} (hin : M.In ds l) (hll : l.length = ds.length) (hz : ∀ x ∈ ds, x.reads = true ∨ x.d.k = 3 → x.d.v = 0) : ∀ (m n q : Nat), n < ds.length → (hq : q < ds.length) → M.orig ds l m n = some q → M.val ds l m n = ds[q].d.v := by
  intro m
  induction m with
  | zero => intro n q _ _ h; simp [M.orig] at h
  | succ m ih =>
    intro n q hn hq h
    have hi := hin n hn
    have hvf : M.valFrom ds l n = if ds[n].reads then l[n] else if ds[n].d.k == 3 then ds[n].lr else -1 := by
      simp [M.valFrom, hn, show n < l.length by omega]
    rw [M.val_at ds l m n hn (by omega)]
    rw [M.orig] at h
    have step : ∀ f : Int, M.valFrom ds l n = f → (ds[n].reads = true ∨ ds[n].d.k = 3) → M.val ds l m f = ds[q].d.v := by
      intro f hf hk
      rw [hf] at h hi
      by_cases h0 : f < 0
      · rw [if_pos h0] at h
        obtain rfl := Option.some.inj h
        rw [M.val_neg _ _ _ h0, hz _ (List.getElem_mem hn) hk]
      · rw [if_neg h0] at h
        obtain ⟨k, rfl⟩ : ∃ k : Nat, f = k := ⟨f.toNat, by omega⟩
        rw [Int.toNat_natCast] at h
        exact ih k q (by omega) hq h
    by_cases hr : ds[n].reads = true
    · rw [if_pos hr]
      rw [if_pos hr] at hvf
      exact step _ hvf (Or.inl hr)
    · rw [if_neg hr]
      rw [if_neg hr] at hvf
      by_cases h3 : (ds[n].d.k == 3) = true
      · rw [if_pos h3]
        rw [if_pos h3] at hvf
        exact step _ hvf (Or.inr (by simpa using h3))
      · rw [if_neg h3]
        rw [if_neg h3] at hvf
        rw [hvf, if_pos (by omega)] at h
        obtain rfl := Option.some.inj h
        rfl

end Go.Proofs.Ytiaibfalmmnipaa

namespace Go.Proofs.Ytiaibfalmmnipaa
open Go.RowKit

set_option maxHeartbeats 1000000 in
theorem wayOk_any (va : Option Addr) (g c : Nat) (ll : List (List M.D)) (fa : Option Addr) (fb fo fc : Nat) (l : List Int) (ra : Option Addr) (rb ro rc : Nat) (rows : List (List Int)) (w : World) (hl : (M.deeds ll).length ≤ 1048576) (hl1 : l.length ≤ 1048576) (hl2 : rows.length ≤ 1048576) (hls : ∀ r ∈ rows, r.length ≤ 1048576) (h : DeS w va g (M.deeds ll)) (hf : IntS w fa fb fo l) (hr : IntSS w ra rb ro rows) :
    Calls Try.prog 59 #[.slice va (M.deeds ll).length c, .agg #[.slice fa l.length fc, .slice ra rows.length rc]] w fun e w' => e = .returned (.bool (M.wayOk (M.deeds ll) l rows)) ∧ Below w.heap.size w w' := by
  have hb1 := below1 w (.cells #[.slice fa l.length fc, .slice ra rows.length rc] 35)
  have k0 : (w.alloc (.cells #[.slice fa l.length fc, .slice ra rows.length rc] 35)).cell? ⟨w.heap.size, 0, none⟩ = some (.slice fa l.length fc) := by simp
  have k1 : (w.alloc (.cells #[.slice fa l.length fc, .slice ra rows.length rc] 35)).cell? ⟨w.heap.size, 1, none⟩ = some (.slice ra rows.length rc) := by simp
  have hd1 := h.bel hb1 (Nat.le_refl _)
  have hf1 := hf.below hb1 (Nat.le_refl _)
  have hr1 := hr.below hb1 (Nat.le_refl _)
  go_enter Try.func59, Try.ntmps59
  go_wp2_with fail
  generalize w.alloc (.cells #[.slice fa l.length fc, .slice ra rows.length rc] 35) = W at *
  have lt0 : w.heap.size < W.heap.size := World.block_lt_of_cell? _ _ k0
  clear h hf hr
  have C1 := fromOk_any va g c (M.deeds ll) fa fb fo fc l W hl hl1 hd1 hf1
  cases h1 : M.fromOk (M.deeds ll) l
  · rw [h1] at C1
    refine C1.mono ?_
    rintro e w1 ⟨rfl, hb2⟩
    go_wp2_with fail
    go_ret
    exact ⟨ret_bool (by simp [M.wayOk, h1]), hb1.trans (hb2.mono hb1.size)⟩
  · rw [h1] at C1
    have HIN : M.In (M.deeds ll) l := M.in_of h1
    have HLN : Hid (l.length = (M.deeds ll).length) := by
      show _ = _
      simp only [M.fromOk, Bool.and_eq_true, decide_eq_true_eq] at h1
      exact h1.1
    refine C1.mono ?_
    rintro e w1 ⟨rfl, hb2⟩
    have k0' := (hb2.cell (p := ⟨w.heap.size, 0, none⟩) lt0).trans k0
    have k1' := (hb2.cell (p := ⟨w.heap.size, 1, none⟩) lt0).trans k1
    have lt1 := Nat.lt_of_lt_of_le lt0 hb2.size
    go_wp2_with fail
    have C2 := orderOk_any va g c (M.deeds ll) ra rb ro rc rows w1 hl hl2 hls (hd1.bel hb2 (Nat.le_refl _)) (hr1.below hb2 (Nat.le_refl _))
    have hb12 := hb1.trans (hb2.mono hb1.size)
    clear k0 k1 C1
    cases h2 : M.orderOk (M.deeds ll) rows
    · rw [h2] at C2
      refine C2.mono ?_
      rintro e w2 ⟨rfl, hb3⟩
      go_wp2_with fail
      go_ret
      exact ⟨ret_bool (by simp [M.wayOk, h1, h2]), hb12.trans (hb3.mono hb12.size)⟩
    · rw [h2] at C2
      refine C2.mono ?_
      rintro e w2 ⟨rfl, hb3⟩
      have k0'' := (hb3.cell (p := ⟨w.heap.size, 0, none⟩) lt1).trans k0'
      have hb123 := hb12.trans (hb3.mono hb12.size)
      have C3 := copiesEnd_any va g c (M.deeds ll) fa fb fo fc l w2 HLN.out HIN hl ((hd1.bel hb2 (Nat.le_refl _)).bel hb3 (Nat.le_refl _)) ((hf1.below hb2 (Nat.le_refl _)).below hb3 (Nat.le_refl _))
      clear k0' k1'
      go_wp2_with fail
      refine C3.mono ?_
      rintro e w3 ⟨rfl, hb4⟩
      go_wp2_with fail
      go_ret
      exact ⟨ret_bool (by simp [M.wayOk, h1, h2]), hb123.trans (hb4.mono hb123.size)⟩

set_option maxHeartbeats 1000000 in
set_option maxRecDepth 100000 in
theorem iexecOk_any (a : Option Addr) (b o c : Nat) (ll : List (List M.D)) (fa : Option Addr) (fb fo fc : Nat) (l : List Int) (ra : Option Addr) (rb ro rc : Nat) (rows : List (List Int)) (w : World) (hl : ll.length ≤ 1048576) (hls : ∀ t ∈ ll, t.length ≤ 1048576) (hl1 : l.length ≤ 1048576) (hl2 : rows.length ≤ 1048576) (hrs : ∀ r ∈ rows, r.length ≤ 1048576) (h : DoSS w a b o ll) (hf : IntS w fa fb fo l) (hr : IntSS w ra rb ro rows) :
    Calls Try.prog 38 #[.agg #[.slice a ll.length c], .agg #[.slice fa l.length fc, .slice ra rows.length rc]] w fun e w' => e = .returned (.bool (M.execOk ll l rows)) ∧ Below w.heap.size w w' := by
  have hb1 := below2 w (.cells #[.slice a ll.length c] 25) (.cells #[.slice fa l.length fc, .slice ra rows.length rc] 35)
  have kp : ((w.alloc (.cells #[.slice a ll.length c] 25)).alloc (.cells #[.slice fa l.length fc, .slice ra rows.length rc] 35)).cell? ⟨w.heap.size, 0, none⟩ = some (.slice a ll.length c) := by simp
  have k0 : ((w.alloc (.cells #[.slice a ll.length c] 25)).alloc (.cells #[.slice fa l.length fc, .slice ra rows.length rc] 35)).cell? ⟨w.heap.size + 1, 0, none⟩ = some (.slice fa l.length fc) := by simp
  have k1 : ((w.alloc (.cells #[.slice a ll.length c] 25)).alloc (.cells #[.slice fa l.length fc, .slice ra rows.length rc] 35)).cell? ⟨w.heap.size + 1, 1, none⟩ = some (.slice ra rows.length rc) := by simp
  have hp1 := h.below hb1 (Nat.le_refl _)
  have hf1 := hf.below hb1 (Nat.le_refl _)
  have hr1 := hr.below hb1 (Nat.le_refl _)
  go_enter Try.func38, Try.ntmps38
  go_wp2_with fail
  generalize (w.alloc (.cells #[.slice a ll.length c] 25)).alloc (.cells #[.slice fa l.length fc, .slice ra rows.length rc] 35) = W at *
  have lt0 : w.heap.size + 1 < W.heap.size := World.block_lt_of_cell? _ _ k0
  clear h hf hr
  cases hp : M.prog ll
  · have KP := BelowOf.cell kp
    have C := fun q : BelowOf W => iprog_any a b o c ll q.x hl hls (hp1.below q.h (Nat.le_refl _))
    rw [hp] at C
    haveI : Inhabited (BelowOf W) := ⟨belOf W⟩
    refine wp_region_quiet_bel (by kernel_rfl) (by kernel_rfl) ?_
    iterate 3 (quiet_step (first | (go_at_call 20; exact Calls.bel_of (C _))))
    iterate 4 go_big_quiet_skip
    iterate 2 (quiet_step (fail))
    refine wpQuiet_nil ?_
    rintro _ ⟨⟨wq, hwq⟩, rfl⟩
    go_wp2_with fail
    go_ret
    exact ⟨ret_bool (by simp [M.execOk, hp]), hb1.trans (hwq.mono hb1.size)⟩
  · obtain ⟨h3, h7⟩ := M.prog_bounds hp
    have hdl := M.deeds_len h3 h7
    have hp2 := hp1.below (Below.refl W.heap.size W).drew (Nat.le_refl _)
    have C1 := iprog_any a b o c ll W.drew hl hls hp2
    rw [hp] at C1
    go_region_held3 (fun w' => w'.cell? ⟨w.heap.size, 0, none⟩ = some (.slice a ll.length c) ∧ w'.cell? ⟨w.heap.size + 1, 0, none⟩ = some (.slice fa l.length fc) ∧ w'.cell? ⟨w.heap.size + 1, 1, none⟩ = some (.slice ra rows.length rc)) (go_keep) (first
      | (go_at_call 20; refine C1.mono ?_; rintro e w1 ⟨rfl, hb2⟩; have Y0 := (hb2.cell (p := ⟨w.heap.size, 0, none⟩) (Nat.lt_of_succ_lt lt0)).trans kp; have Y1 := (hb2.cell (p := ⟨w.heap.size + 1, 0, none⟩) lt0).trans k0; have Y2 := (hb2.cell (p := ⟨w.heap.size + 1, 1, none⟩) lt0).trans k1; have ltY := Nat.lt_of_lt_of_le lt0 hb2.size)
      | (go_at_call 21; refine (deedsOf_any a b o c ll _ h3 h7 (hp2.below hb2 (Nat.le_refl _))).mono ?_; rintro e w2 ⟨v2, rfl, hown, hb3⟩; obtain ⟨va, g, cap, rfl, hrs2, _, _⟩ := own_rs M.De.len hown; have Z0 := (hb3.cell (p := ⟨w.heap.size, 0, none⟩) (Nat.lt_of_succ_lt ltY)).trans Y0; have Z1 := (hb3.cell (p := ⟨w.heap.size + 1, 0, none⟩) ltY).trans Y1; have Z2 := (hb3.cell (p := ⟨w.heap.size + 1, 1, none⟩) ltY).trans Y2; have ltZ := Nat.lt_of_lt_of_le ltY hb3.size)
      | (go_at_call 59; refine (wayOk_any va g cap ll fa fb fo fc l ra rb ro rc rows w2 (by omega) hl1 hl2 hrs hrs2 (((hf1.below (Below.refl _ _).drew (Nat.le_refl _)).below hb2 (Nat.le_refl _)).below hb3 (Nat.le_refl _)) (((hr1.below (Below.refl _ _).drew (Nat.le_refl _)).below hb2 (Nat.le_refl _)).below hb3 (Nat.le_refl _))).mono ?_; rintro e w3 ⟨rfl, hb4⟩; have X0 := (hb4.cell (p := ⟨w.heap.size, 0, none⟩) (Nat.lt_of_succ_lt ltZ)).trans Z0; have X1 := (hb4.cell (p := ⟨w.heap.size + 1, 0, none⟩) ltZ).trans Z1; have X2 := (hb4.cell (p := ⟨w.heap.size + 1, 1, none⟩) ltZ).trans Z2))
    go_wp2_with fail
    go_ret
    have hb5 := ((Below.refl W.heap.size W).drew.trans hb2).trans (hb3.mono hb2.size)
    exact ⟨ret_bool (by simp [M.execOk, hp]), hb1.trans ((hb5.trans (hb4.mono hb5.size)).mono hb1.size)⟩

end Go.Proofs.Ytiaibfalmmnipaa

namespace Go.Proofs.Ytiaibfalmmnipaa
open Go.RowKit
namespace M

theorem orig_mono {ds : List De} {l : List Int} : ∀ (m k n q : Nat), m ≤ k → orig ds l m n = some q → orig ds l k n = some q := by
  intro m
  induction m with
  | zero => intro k n q _ h; simp [orig] at h
  | succ m ih =>
    intro k n q hk h
    obtain ⟨k, rfl⟩ : ∃ k', k = k' + 1 := ⟨k - 1, by omega⟩
    rw [orig] at h ⊢
    split at h
    · rename_i h0; rw [if_pos h0]; exact h
    · rename_i h0; rw [if_neg h0]; exact ih k _ q (by omega) h

/-- The value of an event. -/
def vl (ds : List De) (l : List Int) (i : Int) : Int := val ds l (2 * ds.length + 2) i
theorem endsAt_get {ds : List De} {l : List Int} : ∀ (xs : List De) (n : Nat), endsAt ds l n xs = true → ∀ i, i < xs.length → (orig ds l ds.length (n + i)).isSome = true := by
  intro xs
  induction xs with
  | nil => intro n _ i h; exact absurd h (Nat.not_lt_zero _)
  | cons x xs ih =>
    intro n h i hi
    simp only [endsAt, Bool.and_eq_true] at h
    cases i with
    | zero => exact h.1
    | succ i =>
      have := ih (n + 1) h.2 i (by simpa using hi)
      rwa [show n + 1 + i = n + (i + 1) from by omega] at this
theorem vl_of {ds : List De} {l : List Int} (hin : In ds l) (hll : l.length = ds.length) (hz : ∀ x ∈ ds, x.reads = true ∨ x.d.k = 3 → x.d.v = 0) (he : ends ds l = true) (n : Nat) (hn : n < ds.length) :
    ∃ q, ∃ hq : q < ds.length, orig ds l ds.length n = some q ∧ vl ds l n = ds[q].d.v := by
  have h := endsAt_get ds 0 he n hn
  rw [Nat.zero_add] at h
  obtain ⟨q, hq⟩ := Option.isSome_iff_exists.1 h
  have hql := orig_lt hin _ _ _ hn hq
  exact ⟨q, hql, hq, val_of_orig hin hll hz _ n q hn hql (orig_mono _ _ _ _ (by omega) hq)⟩

/-- The values of all reads from one on. -/
def rdAt (ds : List De) (l : List Int) : Nat → List De → List Int
  | _, [] => []
  | n, x :: xs => if x.reads then vl ds l n :: rdAt ds l (n + 1) xs else rdAt ds l (n + 1) xs
theorem rd_step {ds : List De} {l : List Int} {acc : List Int} {n : Nat} (h : rdAt ds l 0 ds = acc ++ rdAt ds l n (ds.drop n)) (hn : n < ds.length) : rdAt ds l 0 ds = (if (ds[n]).reads then acc ++ [vl ds l n] else acc) ++ rdAt ds l (n + 1) (ds.drop (n + 1)) := by
  rw [h, ← List.getElem_cons_drop hn, rdAt]
  split <;> simp
theorem rd_fin {ds : List De} {l : List Int} {acc : List Int} {n : Nat} (h : rdAt ds l 0 ds = acc ++ rdAt ds l n (ds.drop n)) (hn : ds.length ≤ n) : rdAt ds l 0 ds = acc := by
  rw [h, List.drop_eq_nil_of_le hn]; simp [rdAt]
theorem rd_len (ds : List De) (l : List Int) (xs : List De) : ∀ n, (rdAt ds l n xs).length ≤ xs.length := by
  induction xs with
  | nil => intro n; simp [rdAt]
  | cons x xs ih =>
    intro n
    have := ih (n + 1)
    unfold rdAt
    split <;> simp <;> omega
def seenR (ds : List De) (l : List Int) : List Int := rdAt ds l 0 ds
/-- What is there at last, of a row of those who wrote there. -/
def lastOf (ds : List De) (l : List Int) (row : List Int) : Int := vl ds l (row.getLastD (-1))
theorem last_nil (ds : List De) (l : List Int) : lastOf ds l [] = 0 := by simp [lastOf, vl, val]
theorem last_some (ds : List De) (l : List Int) {row : List Int} (h : 0 < row.length) : lastOf ds l row = vl ds l (row[row.length - 1]) := by
  obtain ⟨i, row, rfl⟩ : ∃ i r, row = i :: r := by cases row with
    | nil => exact absurd h (Nat.lt_irrefl _)
    | cons i r => exact ⟨i, r, rfl⟩
  rw [lastOf]
  congr 1
  rw [List.getLastD_eq_getLast?, List.getLast?_eq_getElem?, List.getElem?_eq_getElem (by simp)]
  rfl
def seenL (ds : List De) (l : List Int) (rows : List (List Int)) : List Int := rows.map (lastOf ds l)

end M

/-- What is seen, laid anew: all its blocks are new ones, from B on. -/
structure NewS (B : Nat) (w : World) (s : Sn) : Prop where
  at_ : s.At w
  ge1 : B ≤ s.b1
  ge2 : B ≤ s.b2
  own : Own2 w s

theorem value_vl (va : Option Addr) (g c : Nat) (ds : List M.De) (a : Option Addr) (b o c2 : Nat) (l : List Int) (n : Nat) (w : World) (hn : n < ds.length) (HLL : Hid (l.length = ds.length)) (hin : M.In ds l) (hz : ∀ x ∈ ds, x.reads = true ∨ x.d.k = 3 → x.d.v = 0) (he : M.ends ds l = true) (hl : ds.length ≤ 1048576) (h : DeS w va g ds) (h2 : IntS w a b o l) :
    Calls Try.prog 61 #[.slice va ds.length c, .slice a l.length c2, .int .i64 n] w fun e w' => e = .returned (.int .i64 (M.vl ds l n)) ∧ Below w.heap.size w w' := by
  obtain ⟨q, hq, ho, hv⟩ := M.vl_of hin HLL.out hz he n hn
  rw [hv]
  exact value_any va g c ds a b o c2 l n q w hn HLL hin ho hq hl h h2

theorem Try.infoIntR : (Try.prog.info? 3).map (fun i => (i.zero, i.size, i.bytes)) = some (some (.int .i64 0), 1, 8) := by kernel_rfl

theorem own_far {w : World} {b i B n : Nat} {v : Value} {xs : List Value} (ho : w.ownsRow B 3 1 v n xs) (hb : b < B) (u : Value) : (w.setCell ⟨b, i, none⟩ u).ownsRow B 3 1 v n xs := by
  refine ⟨ho.1, ?_⟩
  rcases ho.2 with h0 | ⟨g, cap, cur, hv, hg, hh, r⟩
  · exact Or.inl h0
  · exact Or.inr ⟨g, cap, cur, hv, hg, (Below.heap_setCell _ _ _ _ (fun e => by simp at e; omega)).trans hh, r⟩

/-- While what is seen is told: the way's box, the answer's, the row of what is there at last, the box of what is told. -/
structure SxA (w wr : World) (e1 e2 v : Value) (acc : List Int) (f : Nat → Int) : Prop where
  bel : Below w.heap.size w wr
  x0 : wr.cell? ⟨w.heap.size, 0, none⟩ = some e1
  x1 : wr.cell? ⟨w.heap.size, 1, none⟩ = some e2
  res : Slot2 wr (w.heap.size + 1) (.slice none 0 0) (.slice none 0 0)
  row : wr.rowIs (w.heap.size + 1 + 1) 3 3 (fun i => .int .i64 (f i))
  s : Slot2 wr (w.heap.size + 1 + 1 + 1) v (.slice (some ⟨w.heap.size + 1 + 1, 0, none⟩) 3 3)
  own : wr.ownsRow (w.heap.size + 1 + 1 + 1 + 1) 3 1 v acc.length (nums acc)
theorem SxA.lt {w wr : World} {e1 e2 v : Value} {acc : List Int} {f : Nat → Int} (h : SxA w wr e1 e2 v acc f) : w.heap.size + 1 + 1 + 1 < wr.heap.size := h.s.lt
theorem SxA.below {w wr w1 : World} {e1 e2 v : Value} {acc : List Int} {f : Nat → Int} (h : SxA w wr e1 e2 v acc f) (hb : Below wr.heap.size wr w1) : SxA w w1 e1 e2 v acc f := by
  have hl := h.lt
  exact ⟨h.bel.trans (hb.mono h.bel.size), (hb.cell (p := ⟨w.heap.size, 0, none⟩) (by show w.heap.size < _; omega)).trans h.x0, (hb.cell (p := ⟨w.heap.size, 1, none⟩) (by show w.heap.size < _; omega)).trans h.x1,
    h.res.of (hb.block _ (by omega)), h.row.of_block (hb.block _ (by omega)), h.s.of (hb.block _ hl), ownsRow_below h.own hb⟩
theorem SxA.snoc {w wr w3 : World} {e1 e2 v v' : Value} {acc acc' : List Int} {f : Nat → Int} {o : Obj} (h : SxA w wr e1 e2 v acc f) (hg : (wr.alloc o).grownBy w3 v.ownBlock) (ho : w3.ownsRow (w.heap.size + 1 + 1 + 1 + 1) 3 1 v' acc'.length (nums acc')) :
    SxA w (w3.setCell ⟨w.heap.size + 1 + 1 + 1, 0, none⟩ v') e1 e2 v' acc' f := by
  have h1 := h.below (below1 wr o)
  have hl := h1.lt
  have hge := own_ge h.own
  have blk : ∀ k, k < w.heap.size + 1 + 1 + 1 + 1 → w3.heap[k]? = (wr.alloc o).heap[k]? := fun k hk => hg.block k (by omega) (fun e => by have := hge k e.symm; omega)
  have hs := h1.s.of (blk _ (by omega))
  refine ⟨(below_grown h1.bel hg (fun k hk => by have := hge k hk; omega) (by omega)).setCell (by show w.heap.size ≤ w.heap.size + 1 + 1 + 1; omega) _, ?_, ?_, (h1.res.of (blk _ (by omega))).far (by omega) _, (h1.row.of_block (blk _ (by omega))).setOther (by show _ ≠ w.heap.size + 1 + 1 + 1; omega) _, hs.set0 _, own_slot ho hs _⟩
  · rw [World.cell?_setCell_other _ _ _ _ (fun e => by have := congrArg Addr.block e; simp at this; omega)]
    exact (World.cell?_of_block (blk _ (by show w.heap.size < _; omega))).trans h1.x0
  · rw [World.cell?_setCell_other _ _ _ _ (fun e => by have := congrArg Addr.block e; simp at this; omega)]
    exact (World.cell?_of_block (blk _ (by show w.heap.size < _; omega))).trans h1.x1
theorem SxA.store {w wr : World} {e1 e2 v : Value} {acc : List Int} {f : Nat → Int} (h : SxA w wr e1 e2 v acc f) (n : Nat) (x : Int) :
    SxA w (wr.setCell ⟨w.heap.size + 1 + 1, n, none⟩ (.int .i64 x)) e1 e2 v acc (fun j => if j = n then x else f j) := by
  refine ⟨h.bel.setCell (by show w.heap.size ≤ w.heap.size + 1 + 1; omega) _, ?_, ?_, h.res.far (by omega) _, (h.row.set n (.int .i64 x)).congr (fun i _ => ?_), h.s.far (by omega) _, own_far h.own (by omega) _⟩
  · rw [World.cell?_setCell_other _ _ _ _ (fun e => by have := congrArg Addr.block e; simp at this; omega)]; exact h.x0
  · rw [World.cell?_setCell_other _ _ _ _ (fun e => by have := congrArg Addr.block e; simp at this; omega)]; exact h.x1
  · by_cases e : i = n <;> simp [e]

set_option maxHeartbeats 1000000 in
set_option maxRecDepth 100000 in
theorem iseen_any (va : Option Addr) (g c : Nat) (ds : List M.De) (fa : Option Addr) (fb fo fc : Nat) (l : List Int) (ra : Option Addr) (rb ro rc : Nat) (rows : List (List Int)) (w : World) (HLL : Hid (l.length = ds.length)) (hin : M.In ds l) (hz : ∀ x ∈ ds, x.reads = true ∨ x.d.k = 3 → x.d.v = 0) (he : M.ends ds l = true) (hl : ds.length ≤ 1048576) (HR3 : Hid (rows.length = 3)) (hrl : ∀ r ∈ rows, r.length ≤ 1048576) (hrm : ∀ r ∈ rows, ∀ x ∈ r, 0 ≤ x ∧ x < ds.length) (h : DeS w va g ds) (hf : IntS w fa fb fo l) (hr : IntSS w ra rb ro rows) :
    Calls Try.prog 39 #[.slice va ds.length c, .agg #[.slice fa l.length fc, .slice ra rows.length rc]] w fun e w' => ∃ s : Sn, e = .returned (.agg #[.slice s.a1 s.l1.length s.c1, .slice s.a2 s.l2.length s.c2]) ∧ s.l1 = M.seenR ds l ∧ s.l2 = M.seenL ds l rows ∧ NewS w.heap.size w' s ∧ Below w.heap.size w w' := by
  have hmk : ∀ w : World, (Instr.makeSlice 32 (.int .i64 3) (.int .i64 3)).run Try.prog w = .ok (.slice (some ⟨w.heap.size, 0, none⟩) 3 3) (w.alloc (.cells #[.int .i64 0, .int .i64 0, .int .i64 0] 3)) := fun w => by
    have := run_make_row' (P := Try.prog) 32 3 (.int .i64 0) 8 Try.underlying32 Try.infoIntR rfl .i64 .i64 3 (by omega) (by omega) w
    rw [show madeCells #[Value.int .i64 0] 3 = #[.int .i64 0, .int .i64 0, .int .i64 0] from by kernel_rfl] at this
    exact this
  obtain ⟨i0, hi, hz0, hz1, hz2⟩ := info_parts Try.infoInt
  go_enter Try.func39, Try.ntmps39
  go_wp2_with fail
  have A0 : SxA w ((((w.alloc (.cells #[.slice fa l.length fc, .slice ra rows.length rc] 35)).alloc (.cells #[.slice none 0 0, .slice none 0 0] 39)).alloc (.cells #[.int .i64 0, .int .i64 0, .int .i64 0] 3)).alloc (.cells #[.slice none 0 0, .slice (some ⟨w.heap.size + 1 + 1, 0, none⟩) 3 3] 39)) (.slice fa l.length fc) (.slice ra rows.length rc) (.slice none 0 0) [] (fun _ => 0) := by
    refine ⟨(below3 w _ _ _).alloc (by simp; omega) _, by simp [go_sem], by simp [go_sem], ⟨?_⟩, ?_, ⟨alloc_new _ _ _ (by simp)⟩, World.ownsRow_nil _ _ _ _⟩
    · rw [alloc_old _ _ _ (by simp), alloc_old _ _ _ (by simp)]; exact alloc_new _ _ _ (by simp)
    · refine World.rowIs.alloc ?_ _
      have := World.rowIs_alloc ((w.alloc (.cells #[.slice fa l.length fc, .slice ra rows.length rc] 35)).alloc (.cells #[.slice none 0 0, .slice none 0 0] 39)) #[.int .i64 0, .int .i64 0, .int .i64 0] 3 (fun _ => .int .i64 0) (fun i hi => by
        match i, hi with
        | 0, _ => rfl
        | 1, _ => rfl
        | 2, _ => rfl)
      simpa using this
  generalize ((((w.alloc (.cells #[.slice fa l.length fc, .slice ra rows.length rc] 35)).alloc (.cells #[.slice none 0 0, .slice none 0 0] 39)).alloc (.cells #[.int .i64 0, .int .i64 0, .int .i64 0] 3)).alloc (.cells #[.slice none 0 0, .slice (some ⟨w.heap.size + 1 + 1, 0, none⟩) 3 3] 39)) = W0 at *
  clear hmk
  have hev : ∀ args w, (callFunc 61 args).run Try.prog w = .ok (.enter 61 args) w := enters_of Try.func61 (by kernel_rfl) rfl
  go_loopw [14] (fun s14 wr => ∃ (n : Nat) (acc : List Int) (v : Value), s14 = .int .i64 n ∧ n ≤ ds.length ∧ acc.length ≤ n ∧ Hid (M.rdAt ds l 0 ds = acc ++ M.rdAt ds l n (ds.drop n)) ∧ SxA w wr (.slice fa l.length fc) (.slice ra rows.length rc) v acc (fun _ => 0)) (fun s14 _ => ds.length - (intOf s14).toNat)
  case atStart => exact ⟨0, [], _, rfl, Nat.zero_le _, Nat.le_refl _, by show _ = _; rfl, A0⟩
  case round =>
    clear A0
    obtain ⟨n, acc, v, rfl, hn, hacc, HW, A⟩ := hrel
    by_cases hlt : n < ds.length
    · obtain ⟨rfl⟩ := h.addr (by omega)
      have hx := DeS.at (h.bel A.bel (Nat.le_refl _)) hlt
      have HW2 : Hid (M.rdAt ds l 0 ds = (if (ds[n]).reads then acc ++ [M.vl ds l n] else acc) ++ M.rdAt ds l (n + 1) (ds.drop (n + 1))) := M.rd_step HW.out hlt
      clear HW
      generalize ds[n] = x at *
      obtain ⟨c0, c1, c2, c3, c4, c5, c6⟩ := hx
      have i1 : (n : Int) < ds.length := by omega
      have lg : g < wr.heap.size := World.block_lt_of_cell? _ _ c0
      have A2 := A.below (below2 wr (.cells #[.int .i64 (x.t : Int), .int .i64 (x.i : Int), .bool x.last, .int .i64 x.d.k, .int .i64 x.d.p, .int .i64 x.d.v, .int .i64 x.lr] 95) (.cells #[.int .i64 (x.t : Int), .int .i64 (x.i : Int), .bool x.last, .int .i64 x.d.k, .int .i64 x.d.p, .int .i64 x.d.v, .int .i64 x.lr] 95))
      cases ht : x.reads
      · go_wp2_with (go_at_call 60; refine (deReads_any x _).mono ?_; rw [ht]; rintro e w' ⟨rfl, rfl⟩)
        exact ⟨⟨n + 1, acc, v, by go_num, by omega, by omega, by show _ = _; have := HW2.out; rw [ht] at this; exact this, A2⟩, by simp [intOf]; omega⟩
      · go_wp2_with (go_at_call 60; refine (deReads_any x _).mono ?_; rw [ht]; rintro e w' ⟨rfl, rfl⟩)
        generalize (wr.alloc (.cells #[.int .i64 (x.t : Int), .int .i64 (x.i : Int), .bool x.last, .int .i64 x.d.k, .int .i64 x.d.p, .int .i64 x.d.v, .int .i64 x.lr] 95)).alloc (.cells #[.int .i64 (x.t : Int), .int .i64 (x.i : Int), .bool x.last, .int .i64 x.d.k, .int .i64 x.d.p, .int .i64 x.d.v, .int .i64 x.lr] 95) = W2 at *
        clear c0 c1 c2 c3 c4 c5 c6 lg A
        have cS := A2.s.c0
        have cX := A2.x0
        have lS := A2.lt
        have fS := A2.s.fz
        go_region_law (first
          | (refine step_go3 (by rfl) 61 _ _ _ _ (by rfl) _ _ _ (by rfl) (by rfl) (by rfl) hev (value_vl (some ⟨g, 0, none⟩) g c ds fa fb fo fc l n W2.drew hlt HLL hin hz he hl (h.bel A2.bel.drew (Nat.le_refl _)) (hf.below A2.bel.drew (Nat.le_refl _))) ?_; rintro e w2 ⟨rfl, hb2⟩; have A3 := A2.below ((Below.refl _ _).drew.trans hb2); have cS2 := A3.s.c0; have fS2 := A3.s.fz; have lS2 := A3.lt; refine ⟨_, rfl, ?_⟩)
          | (refine step_append_lies _ (by rfl) _ _ _ (by rfl) (w.heap.size + 1 + 1 + 1 + 1) 3 i0 _ 1 8 Try.underlying32 hi hz0 hz1 hz2 rfl (by omega) v acc.length (nums acc) (by rfl) (A3.own.alloc _) ⟨w2.heap.size, 0, none⟩ 1 1 [.int .i64 (M.vl ds l n)] (by rfl) (by rfl) (World.news_of_block (cs := #[.int .i64 (M.vl ds l n)]) (t := 3) (fr := (0, 0)) (heap_alloc_new w2 _)) (by simp [Value.oneCell']) (by omega) (by unfold maxLen; omega) (by omega) (by simp only [World.size_alloc]; omega) (w2.heap.size + 1) (by simp) ?_; intro g3 cap w3 hown3 hgr hat hltg; have hown3' : w3.ownsRow (w.heap.size + 1 + 1 + 1 + 1) 3 1 (.slice (some ⟨g3, 0, none⟩) (acc.length + 1) cap) (acc ++ [M.vl ds l n]).length (nums (acc ++ [M.vl ds l n])) := (by rw [List.length_append]; simpa [nums] using hown3); have A4 := A3.snoc hgr hown3'; have hge := own_ge A3.own; have cS3 : w3.cell? ⟨w.heap.size + 1 + 1 + 1, 0, none⟩ = some v := hgr.cell (((below1 w2 (.cells #[.int .i64 (M.vl ds l n)] 3)).cell (p := ⟨w.heap.size + 1 + 1 + 1, 0, none⟩) lS2).trans cS2) (fun e => by have : w.heap.size + 1 + 1 + 1 + 1 ≤ w.heap.size + 1 + 1 + 1 := hge _ e.symm; omega); have fS3 : ∀ i, w3.frozen? ⟨w.heap.size + 1 + 1 + 1, i, none⟩ = false := fun i => (hgr.frozen_far ⟨w.heap.size + 1 + 1 + 1, i, none⟩ (by simp only [World.size_alloc]; omega) (fun e => by have : w.heap.size + 1 + 1 + 1 + 1 ≤ w.heap.size + 1 + 1 + 1 := hge _ e.symm; omega)).trans (((below1 w2 (.cells #[.int .i64 (M.vl ds l n)] 3)).frozen (p := ⟨w.heap.size + 1 + 1 + 1, i, none⟩) lS2).trans (fS2 i)); clear hge hown3 hown3' hgr hat hltg))
        all_goals
          go_wp2_with fail
          exact ⟨⟨n + 1, acc ++ [M.vl ds l n], _, by go_num, by omega, by simp; omega, by show _ = _; have := HW2.out; rw [ht] at this; exact this, A4⟩, by simp [intOf]; omega⟩
    · have HF : Hid (M.seenR ds l = acc) := M.rd_fin HW.out (by omega)
      clear HW
      have cX := A.x1
      go_wp2_with fail
      go_loopw [35] (fun s35 wr => ∃ (n : Nat) (f : Nat → Int), s35 = .int .i64 n ∧ n ≤ rows.length ∧ Hid (∀ j, f j = if j < n then M.lastOf ds l (rows.getD j []) else 0) ∧ SxA w wr (.slice fa l.length fc) (.slice ra rows.length rc) v acc f) (fun s35 _ => rows.length - (intOf s35).toNat)
      case atStart => exact ⟨0, fun _ => 0, rfl, Nat.zero_le _, (fun j => by simp), A⟩
      case round =>
        clear A cX hn hacc hlt
        obtain ⟨n, f, rfl, hn, HW, A⟩ := hrel
        by_cases hlt : n < rows.length
        · obtain ⟨rfl⟩ := hr.addr (by omega)
          obtain ⟨a', b', o', c', hc, hd⟩ := (hr.below A.bel (Nat.le_refl _)).row n hlt
          have hlr := hrl _ (List.getElem_mem hlt)
          have hmr := hrm _ (List.getElem_mem hlt)
          have HG : Hid (rows.getD n [] = rows[n]) := by show _ = _; rw [List.getD_eq_getElem?_getD, List.getElem?_eq_getElem hlt]; rfl
          have H3 : n < 3 := by have := HR3.out; omega
          generalize rows[n] = row at *
          by_cases h0 : 0 < row.length
          · have HX : Hid (M.lastOf ds l row = M.vl ds l row[row.length - 1]) := M.last_some ds l h0
            have hmx := hmr _ (List.getElem_mem (l := row) (n := row.length - 1) (by omega))
            have hcx := hd.row (row.length - 1) (by omega)
            obtain ⟨rfl⟩ := hd.addr h0
            generalize row[row.length - 1] = y at *
            obtain ⟨m, rfl⟩ : ∃ m : Nat, y = m := ⟨y.toNat, by omega⟩
            have hm : m < ds.length := by omega
            obtain ⟨k, hk⟩ : ∃ k, row.length = k + 1 := ⟨row.length - 1, by omega⟩
            have HK : Hid (row.length = k + 1) := hk
            rw [hk, Nat.add_sub_cancel] at hcx
            rw [hk] at hc hlr
            clear hk h0 hmx
            have cS := A.s.c1
            have cX := A.x0
            have lS := A.lt
            have cR := A.row.cell H3
            have fR := A.row.frozen
            have k1 : (k : Int) < (k : Int) + 1 := by omega
            have k2 : IntKind.i64.wrap (k : Int) = k := by rw [IntKind.wrap_i64]; omega
            have n3 : (n : Int) < 3 := by omega
            have ln : (n : Int) < rows.length := by omega
            go_wp2_with fail
            go_region_law (refine step_go3 (by rfl) 61 _ _ _ _ (by rfl) _ _ _ (by rfl) (by rfl) (by rfl) hev (value_vl va g c ds fa fb fo fc l m wr.drew hm HLL hin hz he hl (h.bel A.bel.drew (Nat.le_refl _)) (hf.below A.bel.drew (Nat.le_refl _))) ?_; rintro e w2 ⟨rfl, hb2⟩; have A3 := A.below ((Below.refl _ _).drew.trans hb2); have cS2 := A3.s.c1; have lS2 := A3.lt; have cR2 := A3.row.cell H3; have fR2 := A3.row.frozen; refine ⟨_, rfl, ?_⟩)
            all_goals
              have A4 := A3.store n (M.vl ds l m)
              go_wp2_with fail
              refine ⟨⟨n + 1, _, by go_num, by omega, (fun j => ?_), A4⟩, by simp [intOf]; omega⟩
              show (if j = n then M.vl ds l m else f j) = _
              by_cases e : j = n
              · subst e
                rw [if_pos rfl, if_pos (by omega), HG.out, HX.out]
              · rw [if_neg e, HW.out j]
                by_cases e2 : j < n
                · rw [if_pos e2, if_pos (by omega)]
                · rw [if_neg e2, if_neg (by omega)]
          · obtain rfl : row = [] := List.length_eq_zero_iff.1 (by omega)
            have ln : (n : Int) < rows.length := by omega
            rw [List.length_nil] at hc
            go_wp2_with fail
            refine ⟨⟨n + 1, f, by go_num, by omega, (fun j => ?_), A⟩, by simp [intOf]; omega⟩
            rw [HW.out j]
            by_cases e : j = n
            · subst e
              rw [if_neg (by omega), if_pos (by omega), HG.out, M.last_nil]
            · by_cases e2 : j < n
              · rw [if_pos e2, if_pos (by omega)]
              · rw [if_neg e2, if_neg (by omega)]
        · obtain ⟨a1, g1, c1, rfl, i1, ge1, nc1⟩ := own_nums A.own
          have x0 := A.s.c0
          have x1 := A.s.c1
          have lS := A.lt
          have y0 := A.res.c0
          have y1 := A.res.c1
          have yf := A.res.fz
          go_wp2_with fail
          have hl3 : (M.seenL ds l rows).length = 3 := by rw [M.seenL, List.length_map]; exact HR3.out
          have i2 : IntS wr (some ⟨w.heap.size + 1 + 1, 0, none⟩) (w.heap.size + 1 + 1) 0 (M.seenL ds l rows) := ⟨fun _ => rfl, fun i hi => by
            have hir : i < rows.length := by simpa [M.seenL] using hi
            have := A.row.cell (i := i) (by omega)
            rw [HW.out i, if_pos (by omega), List.getD_eq_getElem?_getD, List.getElem?_eq_getElem hir] at this
            rw [Nat.zero_add, this]
            simp [M.seenL]⟩
          refine bodyPost_ret (v := .agg #[.slice a1 acc.length c1, .slice (some ⟨w.heap.size + 1 + 1, 0, none⟩) 3 3]) (by simp [results, Try.results39, go_sem, y0, y1]) rfl ⟨⟨a1, g1, 0, c1, acc, some ⟨w.heap.size + 1 + 1, 0, none⟩, w.heap.size + 1 + 1, 0, 3, M.seenL ds l rows⟩, ?_, HF.out.symm, rfl, ⟨⟨?_, ?_⟩, by show w.heap.size ≤ g1; omega, by show w.heap.size ≤ w.heap.size + 1 + 1; omega, ⟨fun _ _ => by show g1 ≠ w.heap.size + 1 + 1; omega, ?_⟩⟩, ?_⟩
          · rw [hl3]
          · exact (i1.far (by omega)).far (by omega)
          · exact (i2.far (by omega)).far (by omega)
          · intro b hb j
            rw [World.frozen?_setCell, World.frozen?_setCell]
            rcases hb with ⟨h0, e⟩ | ⟨_, e⟩
            · have e' : b = g1 := e
              subst e'
              obtain ⟨rfl⟩ := i1.addr h0
              exact own_fzS A.own j
            · have e' : b = w.heap.size + 1 + 1 := e
              subst e'
              exact A.row.frozen j
          · exact (A.bel.setCell (by show w.heap.size ≤ w.heap.size + 1; omega) _).setCell (by show w.heap.size ≤ w.heap.size + 1; omega) _


namespace M
/-- What is seen in a way. -/
def execSeen (ll : List (List D)) (l : List Int) (rows : List (List Int)) : List Int × List Int := if execOk ll l rows then (seenR (deeds ll) l, seenL (deeds ll) l rows) else ([], [])
/-- What is known of a way that is ok. -/
structure Way (ll : List (List D)) (l : List Int) (rows : List (List Int)) : Prop where
  prog : prog ll = true
  len : Hid (l.length = (deeds ll).length)
  inn : In (deeds ll) l
  fin : ends (deeds ll) l = true
  three : Hid (rows.length = 3)
  mem : ∀ r ∈ rows, ∀ x ∈ r, 0 ≤ x ∧ x < (deeds ll).length
  zero : ∀ x ∈ deeds ll, x.reads = true ∨ x.d.k = 3 → x.d.v = 0
theorem deed_z {ll : List (List D)} (h : prog ll = true) : ∀ x ∈ deeds ll, x.reads = true ∨ x.d.k = 3 → x.d.v = 0 := by
  intro x hx hk
  have := deed_do h x hx
  simp only [doOk, Bool.and_eq_true, valOk] at this
  have hv := this.2
  rw [if_neg ?_] at hv
  · simpa using hv
  · rcases hk with hk | hk
    · simp only [De.reads, reads, Bool.or_eq_true, beq_iff_eq] at hk
      rcases hk with hk | hk <;> simp [stores, hk]
    · simp [stores, hk]
theorem way_of {ll : List (List D)} {l : List Int} {rows : List (List Int)} (h : execOk ll l rows = true) : Way ll l rows := by
  simp only [execOk, wayOk, Bool.and_eq_true] at h
  obtain ⟨hp, hf, ho, he⟩ := h
  have hlen : l.length = (deeds ll).length := by
    simp only [fromOk, Bool.and_eq_true, decide_eq_true_eq] at hf
    exact hf.1
  simp only [orderOk, Bool.and_eq_true, decide_eq_true_eq] at ho
  refine ⟨hp, hlen, in_of hf, he, ho.1, fun r hr x hx => ?_, deed_z hp⟩
  obtain ⟨n, hn, rfl⟩ := List.getElem_of_mem hr
  obtain ⟨i, hi, e, _⟩ := mem_wrs.1 ((isRow_mem (orderAt_get ho.2 n hn) x).1 hx)
  omega
end M

set_option maxHeartbeats 1000000 in
set_option maxRecDepth 100000 in
theorem iexecSeen_any (a : Option Addr) (b o c : Nat) (ll : List (List M.D)) (fa : Option Addr) (fb fo fc : Nat) (l : List Int) (ra : Option Addr) (rb ro rc : Nat) (rows : List (List Int)) (w : World) (hl : ll.length ≤ 1048576) (hls : ∀ t ∈ ll, t.length ≤ 1048576) (hl1 : l.length ≤ 1048576) (hl2 : rows.length ≤ 1048576) (hrs : ∀ r ∈ rows, r.length ≤ 1048576) (h : DoSS w a b o ll) (hf : IntS w fa fb fo l) (hr : IntSS w ra rb ro rows) :
    Calls Try.prog 16 #[.agg #[.slice a ll.length c], .agg #[.slice fa l.length fc, .slice ra rows.length rc]] w fun e w' => ∃ s : Sn, e = .returned (.tuple #[.agg #[.slice s.a1 s.l1.length s.c1, .slice s.a2 s.l2.length s.c2], .bool (M.execOk ll l rows)]) ∧ s.l1 = (M.execSeen ll l rows).1 ∧ s.l2 = (M.execSeen ll l rows).2 ∧ NewS w.heap.size w' s ∧ Below w.heap.size w w' := by
  have hb1 := below3 w (.cells #[.slice a ll.length c] 25) (.cells #[.slice fa l.length fc, .slice ra rows.length rc] 35) (.cells #[.slice none 0 0, .slice none 0 0] 39)
  have kp : (((w.alloc (.cells #[.slice a ll.length c] 25)).alloc (.cells #[.slice fa l.length fc, .slice ra rows.length rc] 35)).alloc (.cells #[.slice none 0 0, .slice none 0 0] 39)).cell? ⟨w.heap.size, 0, none⟩ = some (.slice a ll.length c) := by simp [go_sem]
  have k0 : (((w.alloc (.cells #[.slice a ll.length c] 25)).alloc (.cells #[.slice fa l.length fc, .slice ra rows.length rc] 35)).alloc (.cells #[.slice none 0 0, .slice none 0 0] 39)).cell? ⟨w.heap.size + 1, 0, none⟩ = some (.slice fa l.length fc) := by simp [go_sem]
  have k1 : (((w.alloc (.cells #[.slice a ll.length c] 25)).alloc (.cells #[.slice fa l.length fc, .slice ra rows.length rc] 35)).alloc (.cells #[.slice none 0 0, .slice none 0 0] 39)).cell? ⟨w.heap.size + 1, 1, none⟩ = some (.slice ra rows.length rc) := by simp [go_sem]
  have r0 : Slot2 (((w.alloc (.cells #[.slice a ll.length c] 25)).alloc (.cells #[.slice fa l.length fc, .slice ra rows.length rc] 35)).alloc (.cells #[.slice none 0 0, .slice none 0 0] 39)) (w.heap.size + 1 + 1) (.slice none 0 0) (.slice none 0 0) := ⟨alloc_new _ _ _ (by simp)⟩
  have hp1 := h.below hb1 (Nat.le_refl _)
  have hf1 := hf.below hb1 (Nat.le_refl _)
  have hr1 := hr.below hb1 (Nat.le_refl _)
  obtain ⟨ok, hok⟩ : ∃ r, M.execOk ll l rows = r := ⟨_, rfl⟩
  have HOK : Hid (M.execOk ll l rows = ok) := hok
  have HES : Hid (M.execSeen ll l rows = if ok then (M.seenR (M.deeds ll) l, M.seenL (M.deeds ll) l rows) else ([], [])) := by show _ = _; rw [M.execSeen, hok]
  rw [hok]
  clear hok
  go_enter Try.func16, Try.ntmps16
  go_wp2_with fail
  generalize (((w.alloc (.cells #[.slice a ll.length c] 25)).alloc (.cells #[.slice fa l.length fc, .slice ra rows.length rc] 35)).alloc (.cells #[.slice none 0 0, .slice none 0 0] 39)) = W at *
  have lt0 := r0.lt
  clear h hf hr
  have C1 := iexecOk_any a b o c ll fa fb fo fc l ra rb ro rc rows W hl hls hl1 hl2 hrs hp1 hf1 hr1
  rw [HOK.out] at C1
  cases ok
  · refine C1.mono ?_
    rintro e w1 ⟨rfl, hb2⟩
    have r1 := r0.of (hb2.block _ lt0)
    have y0 := r1.c0
    have y1 := r1.c1
    have yf := r1.fz
    go_wp2_with fail
    have hb12 := hb1.trans (hb2.mono hb1.size)
    refine bodyPost_ret (v := .tuple #[.agg #[.slice none 0 0, .slice none 0 0], .bool false]) (by simp [results, Try.results16, go_sem, y0, y1]) rfl ⟨⟨none, w.heap.size, 0, 0, [], none, w.heap.size, 0, 0, []⟩, rfl, by rw [HES.out]; rfl, by rw [HES.out]; rfl, ⟨⟨IntS.nil _ _ _ _, IntS.nil _ _ _ _⟩, Nat.le_refl _, Nat.le_refl _, ⟨fun h => absurd h (Nat.lt_irrefl _), fun b hb => ?_⟩⟩, ?_⟩
    · rcases hb with ⟨h0, _⟩ | ⟨h0, _⟩ <;> exact absurd h0 (Nat.lt_irrefl _)
    · exact (hb12.setCell (by show w.heap.size ≤ w.heap.size + 1 + 1; omega) _).setCell (by show w.heap.size ≤ w.heap.size + 1 + 1; omega) _
  · have hW := M.way_of HOK.out
    obtain ⟨h3, h7⟩ := M.prog_bounds hW.prog
    have hdl := M.deeds_len h3 h7
    refine C1.mono ?_
    rintro e w1 ⟨rfl, hb2⟩
    have kp1 := (hb2.cell (p := ⟨w.heap.size, 0, none⟩) (by show w.heap.size < _; omega)).trans kp
    have k01 := (hb2.cell (p := ⟨w.heap.size + 1, 0, none⟩) (by show w.heap.size + 1 < _; omega)).trans k0
    have k11 := (hb2.cell (p := ⟨w.heap.size + 1, 1, none⟩) (by show w.heap.size + 1 < _; omega)).trans k1
    have r1 := r0.of (hb2.block _ lt0)
    have lt1 := r1.lt
    have hb12 := hb1.trans (hb2.mono hb1.size)
    have hp2 := (hp1.below hb2 (Nat.le_refl _)).below (Below.refl w1.heap.size w1).drew (Nat.le_refl _)
    have hf2 := (hf1.below hb2 (Nat.le_refl _)).below (Below.refl w1.heap.size w1).drew (Nat.le_refl _)
    have hr2 := (hr1.below hb2 (Nat.le_refl _)).below (Below.refl w1.heap.size w1).drew (Nat.le_refl _)
    clear kp k0 k1 r0 lt0 C1 hp1 hf1 hr1 hb2 hb1
    go_wp2_with fail
    have N0 : w.heap.size + 1 + 1 ≠ w.heap.size := by omega
    have N1 : w.heap.size + 1 + 1 ≠ w.heap.size + 1 := by omega
    have C2 := deedsOf_any a b o c ll w1.drew h3 h7 hp2
    go_region_held3 (fun w' => w'.cell? ⟨w.heap.size, 0, none⟩ = some (.slice a ll.length c) ∧ w'.cell? ⟨w.heap.size + 1, 0, none⟩ = some (.slice fa l.length fc) ∧ w'.cell? ⟨w.heap.size + 1, 1, none⟩ = some (.slice ra rows.length rc)) (go_keep) (first
      | (go_at_call 21; refine C2.mono ?_; rintro e w2 ⟨v2, rfl, hown, hb3⟩; obtain ⟨va, g, cap, rfl, hrs2, _, _⟩ := own_rs M.De.len hown; have Z0 := (hb3.cell (p := ⟨w.heap.size, 0, none⟩) (show w.heap.size < w1.heap.size by omega)).trans kp1; have Z1 := (hb3.cell (p := ⟨w.heap.size + 1, 0, none⟩) (show w.heap.size + 1 < w1.heap.size by omega)).trans k01; have Z2 := (hb3.cell (p := ⟨w.heap.size + 1, 1, none⟩) (show w.heap.size + 1 < w1.heap.size by omega)).trans k11; have r2 := r1.of (hb3.block _ lt1); have lt2 := r2.lt)
      | (go_at_call 39; refine (iseen_any va g cap (M.deeds ll) fa fb fo fc l ra rb ro rc rows w2 hW.len hW.inn hW.zero hW.fin (by omega) hW.three hrs hW.mem hrs2 (hf2.below hb3 (Nat.le_refl _)) (hr2.below hb3 (Nat.le_refl _))).mono ?_; rintro e w3 ⟨s, rfl, hs1, hs2, hnew, hb4⟩; have HS1 : Hid (s.l1 = M.seenR (M.deeds ll) l) := hs1; have HS2 : Hid (s.l2 = M.seenL (M.deeds ll) l rows) := hs2; clear hs1 hs2; have X0 := (hb4.cell (p := ⟨w.heap.size, 0, none⟩) (show w.heap.size < w2.heap.size by omega)).trans Z0; have X1 := (hb4.cell (p := ⟨w.heap.size + 1, 0, none⟩) (show w.heap.size + 1 < w2.heap.size by omega)).trans Z1; have X2 := (hb4.cell (p := ⟨w.heap.size + 1, 1, none⟩) (show w.heap.size + 1 < w2.heap.size by omega)).trans Z2; have r3 := r2.of (hb4.block _ lt2); have y0 := r3.c0; have y1 := r3.c1; have yf := r3.fz))
    go_wp2_with fail
    have hlt3 := r3.lt
    have hne : ∀ bb, w2.heap.size ≤ bb → bb ≠ w.heap.size + 1 + 1 := fun bb hb => by omega
    have hb3' : Below w.heap.size w w2 := hb12.trans (((Below.refl _ _).drew.trans hb3).mono hb12.size)
    have hb4' := hb3'.trans (hb4.mono hb3'.size)
    have hg1 := hnew.ge1
    have hg2 := hnew.ge2
    have hsz := hb3'.size
    refine bodyPost_ret (v := .tuple #[.agg #[.slice s.a1 s.l1.length s.c1, .slice s.a2 s.l2.length s.c2], .bool true]) (by simp [results, Try.results16, go_sem, y0, y1]) rfl ⟨s, rfl, by rw [HES.out]; exact HS1.out, by rw [HES.out]; exact HS2.out, ⟨⟨?_, ?_⟩, by omega, by omega, hnew.own.far.far⟩, ?_⟩
    · exact (hnew.at_.reads.far (fun _ => hne _ hg1)).far (fun _ => hne _ hg1)
    · exact (hnew.at_.last.far (fun _ => hne _ hg2)).far (fun _ => hne _ hg2)
    · exact (hb4'.setCell (by show w.heap.size ≤ w.heap.size + 1 + 1; omega) _).setCell (by show w.heap.size ≤ w.heap.size + 1 + 1; omega) _

end Go.Proofs.Ytiaibfalmmnipaa
