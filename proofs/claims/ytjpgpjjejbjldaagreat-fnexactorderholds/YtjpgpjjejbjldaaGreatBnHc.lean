/- Who waits and readers: what can be added of them, plainly. No condition. Whether a way holds by an order, plainly. No condition. impl's ahead: which events must be ahead of which, as words of bits. Of at most 28 events. impl's choices of who waits and readers. Of at most 28 events. -/
import Derived.Test.YtjpgpjjejbjldaaGreatBnHm
import Derived.Test.YtjpgpjjejbjldaaGreatBnHr
import Derived.Test.YtjpgpjjejbjldaaGreatBnHa

namespace Go.Proofs.YtjpgpjjejbjldaaGreat
namespace M

/-- Who waits is followed by the end of waiting. -/
def Ends (ds : List De) : Prop := ∀ n (h : n < ds.length), ds[n].d.k = 9 → ds[n].last = false → ∃ h' : n + 1 < ds.length, ds[n + 1].d.k = 9
theorem Ends.append {l m : List De} (hl : Ends l) (hm : Ends m) : Ends (l ++ m) := fun n h hk hf => by
  rcases Nat.lt_or_ge n l.length with h1 | h1
  · rw [List.getElem_append_left h1] at hk hf
    obtain ⟨h2, h3⟩ := hl n h1 hk hf
    exact ⟨by rw [List.length_append]; omega, by rw [List.getElem_append_left h2]; exact h3⟩
  · rw [List.getElem_append_right h1] at hk hf
    rw [List.length_append] at h
    obtain ⟨h2, h3⟩ := hm (n - l.length) (by omega) hk hf
    refine ⟨by rw [List.length_append]; omega, ?_⟩
    rw [List.getElem_append_right (by omega)]
    have e : n + 1 - l.length = n - l.length + 1 := by omega
    simp only [e]
    exact h3
theorem ends_deD (t i : Nat) (lr : Int) (n : Nat) (d : D) : Ends (deD t i lr n d) := by
  unfold deD
  by_cases h : d.k == 9
  · rw [if_pos h]
    have h9 : d.k = 9 := by simpa using h
    intro q hq hk hf
    have hq' : q = 0 ∨ q = 1 := by simp at hq; omega
    rcases hq' with rfl | rfl
    · exact ⟨by simp, by simpa using h9⟩
    · simp at hf
  · rw [if_neg h]
    intro q hq hk _
    have hq' : q = 0 := by simp at hq; omega
    subst hq'
    exact absurd (by simpa using hk) h
theorem ends_deT (t : Nat) : ∀ (l : List D) (i : Nat) (lr : Int) (n : Nat), Ends (deT t i lr n l)
  | [], _, _, _ => fun n h => by simp [deT] at h
  | d :: l, i, lr, n => by rw [deT]; exact (ends_deD t i lr n d).append (ends_deT t l _ _ _)
theorem ends_deF : ∀ (ll : List (List D)) (t n : Nat), Ends (deF t n ll)
  | [], _, _ => fun n h => by simp [deF] at h
  | l :: ll, t, n => by rw [deF]; exact (ends_deT t l _ _ _).append (ends_deF ll _ _)
theorem ends_deeds (ll : List (List D)) : Ends (deeds ll) := ends_deF ll 0 0
/-- Where a reader goes out. -/
theorem out_at {ds : List De} {n : Nat} (h : run false ds = some false) (hn : n < ds.length) (hk : ds[n].d.k = 7) : ∃ hm : outOf ds n < ds.length, ds[outOf ds n].d.k = 8 := by
  obtain ⟨m, h1, hm, h8⟩ := has_out h hn hk
  have lt : outOf ds n < ds.length := by
    rcases Nat.lt_or_ge m (outOf ds n) with h2 | h2
    · exact absurd h8 ((le_outOf (a := n) (b := m + 1) (by omega) (by omega)).1 (by omega) m hm (by omega) (by omega))
    · omega
  refine ⟨lt, ?_⟩
  have no : ¬ (outOf ds n + 1 ≤ outOf ds n) := by omega
  rw [le_outOf (a := n) (b := outOf ds n + 1) (by omega) (by omega)] at no
  have yes := (le_outOf (a := n) (b := outOf ds n) (by omega) (by omega)).1 (Nat.le_refl _)
  apply Classical.byContradiction
  intro hne
  apply no
  intro q hq q1 q2
  rcases Nat.lt_or_ge q (outOf ds n) with h3 | h3
  · exact yes q hq q1 h3
  · have e : q = outOf ds n := by omega
    subst e
    exact hne
/-- All pairs of who waits and a reader, by their events. -/
def choicesAt (ds : List De) (begin_ : Nat) : List Ch := ((List.range ds.length).filter fun r => kAt ds r == 7).map fun r => ((outOf ds r, begin_ + 1), (begin_, r))
def waitsAt (ds : List De) (n : Nat) : Bool := match ds[n]? with | some x => x.d.k == 9 && !x.last | none => false
def choices (ds : List De) : List Ch := ((List.range ds.length).filter (waitsAt ds)).flatMap (choicesAt ds)
theorem choices_ok {ll : List (List D)} (h : run false (deeds ll) = some false) : ∀ c ∈ choices (deeds ll), Inn (deeds ll).length c ∧ Two c := by
  intro c hc
  simp only [choices, List.mem_flatMap, choicesAt, List.mem_map, List.mem_filter, List.mem_range] at hc
  obtain ⟨b, ⟨hb, hw⟩, r, ⟨hr, hk⟩, rfl⟩ := hc
  have hk7 : (deeds ll)[r].d.k = 7 := by rw [kAt_eq hr] at hk; simpa using hk
  have hw' : (deeds ll)[b].d.k = 9 ∧ (deeds ll)[b].last = false := by
    unfold waitsAt at hw
    rw [List.getElem?_eq_getElem hb] at hw
    simpa using hw
  obtain ⟨he, he9⟩ := ends_deeds ll b hb hw'.1 hw'.2
  obtain ⟨ho, ho8⟩ := out_at h hr hk7
  refine ⟨⟨⟨ho, he⟩, hb, hr⟩, fun e => ?_, fun e => ?_⟩
  · simp only at e
    have e8 := kAt_eq ho
    have e9 := kAt_eq he
    rw [ho8] at e8
    rw [he9] at e9
    rw [e] at e8
    omega
  · simp only at e
    subst e
    rw [hk7] at hw'
    omega
end M
end Go.Proofs.YtjpgpjjejbjldaaGreat

namespace Go.Proofs.YtjpgpjjejbjldaaGreat
namespace M

theorem len_prog : ∀ (ll : List (List D)) (t n a u : Nat), progFrom a u ll = true → (deF t n ll).length + 2 * a ≤ 28
  | [], _, _, a, u, h => by simp [progFrom] at h; simp [deF]; omega
  | l :: ll, t, n, a, u, h => by
    by_cases hb : thread l = true
    · simp only [progFrom, hb, if_true] at h
      have h1 := len_prog ll (t + 1) (n + (deT t 0 (-1) n l).length) _ _ h
      have h2 := deT_len t l 0 (-1) n
      rw [deF, List.length_append]
      omega
    · simp [progFrom, hb] at h
/-- An ok program has at most 28 events. -/
theorem deeds28 {ll : List (List D)} (h : prog ll = true) : (deeds ll).length ≤ 28 := by
  simp only [prog, Bool.and_eq_true, decide_eq_true_eq] at h
  have := len_prog ll 0 0 0 0 h.2
  unfold deeds
  omega
/-- Which must be ahead of which by itself. -/
def netOf (ds : List De) (l : List Int) (rows : List (List Int)) (k : Nat) : Nat → Nat → Bool := mustAt ds l rows k
def orderHolds (ll : List (List D)) (l : List Int) (rows : List (List Int)) (kind : Int) : Bool :=
  (decide (1 ≤ kind) && decide (kind ≤ 3)) && (execOk ll l rows && (holdsA (netOf (deeds ll) l rows 0) (deeds ll).length && waitsA (deeds ll).length (netOf (deeds ll) l rows kind.toNat) (choices (deeds ll))))
theorem run_of {ll : List (List D)} (h : prog ll = true) : run false (deeds ll) = some false := by
  simp only [prog, Bool.and_eq_true, decide_eq_true_eq] at h
  exact run_ok (from_thr ll 0 0 h.2)
/-- impl's way to tell it. -/
theorem holds_impl {ll : List (List D)} {l : List Int} {rows : List (List Int)} (h : prog ll = true) (k : Nat) :
    (!goesRound (bitsOf (netOf (deeds ll) l rows 0) (deeds ll).length) 28 && (!goesRound (bitsOf (netOf (deeds ll) l rows k) (deeds ll).length) 28 && choose ((choices (deeds ll)).length + 1) (bitsOf (netOf (deeds ll) l rows k) (deeds ll).length) (choices (deeds ll)))) = (holdsA (netOf (deeds ll) l rows 0) (deeds ll).length && waitsA (deeds ll).length (netOf (deeds ll) l rows k) (choices (deeds ll))) :=
  holds_eq (deeds28 h) (fun c hc => (choices_ok (run_of h) c hc).1) (fun c hc => (choices_ok (run_of h) c hc).2)
end M
end Go.Proofs.YtjpgpjjejbjldaaGreat

namespace Go.Proofs.YtjpgpjjejbjldaaGreat
open Go.RowKit

namespace M
def wordsOf (ls : List Lk) : Nat → Nat := ls.foldl addW (fun _ => 0)
theorem wordsOf_snoc (ls : List Lk) (l : Lk) : wordsOf (ls ++ [l]) = addW (wordsOf ls) l := by simp [wordsOf]
theorem words_fold : ∀ (ls : List Lk) (N : Nat → Nat) (S : Bits), Words 28 N S → (∀ l ∈ ls, l.2 < 28) → Words 28 (ls.foldl addW N) (ls.foldl addB S)
  | [], _, _, h, _ => h
  | l :: ls, _, _, h, hl => words_fold ls _ _ (h.add (hl l (by simp))) (fun x hx => hl x (List.mem_cons_of_mem _ hx))
theorem words_bits {A : Nat → Nat → Bool} {n : Nat} (hn : n ≤ 28) : Words 28 (wordsOf (linksOf A n)) (bitsOf A n) :=
  words_fold _ _ _ (Words.zero 28) (fun l hl => by obtain ⟨a, b⟩ := l; have := mem_links.1 hl; simp; omega)
theorem words_lt : ∀ (ls : List Lk) (N : Nat → Nat), (∀ a, N a < 4294967296) → (∀ l ∈ ls, l.2 < 28) → ∀ a, ls.foldl addW N a < 4294967296
  | [], _, h, _ => h
  | l :: ls, _, h, hl => words_lt ls _ (addW_lt (k := 32) h (by have := hl l (by simp); omega)) (fun x hx => hl x (List.mem_cons_of_mem _ hx))
def lkP (A : Nat → Nat → Bool) (n k : Nat) : List Lk := (List.range k).flatMap fun a => ((List.range n).filter fun b => A a b).map fun b => (a, b)
def lkQ (A : Nat → Nat → Bool) (a m : Nat) : List Lk := ((List.range m).filter fun b => A a b).map fun b => (a, b)
theorem lkP_all (A : Nat → Nat → Bool) (n : Nat) : lkP A n n = linksOf A n := rfl
theorem lkP_succ (A : Nat → Nat → Bool) (n k : Nat) : lkP A n (k + 1) = lkP A n k ++ lkQ A k n := by
  unfold lkP lkQ
  rw [List.range_succ, List.flatMap_append]
  simp
theorem lkQ_succ (A : Nat → Nat → Bool) (a m : Nat) : lkQ A a (m + 1) = lkQ A a m ++ (if A a m then [(a, m)] else []) := by
  unfold lkQ
  rw [List.range_succ, List.filter_append, List.map_append]
  congr 1
  cases h : A a m <;> simp [h]
theorem mustAt_of {ds : List De} {l : List Int} {rows : List (List Int)} {k a b : Nat} {x y : De} (hx : ds[a]? = some x) (hy : ds[b]? = some y) : mustAt ds l rows k a b = must ds l rows k a b x y := by unfold mustAt; rw [hx, hy]
end M

/-- A way that is looked at, and where it lies. -/
structure Wy (w : World) (va : Option Addr) (g c : Nat) (ds : List M.De) (fa : Option Addr) (fb fo fc : Nat) (l : List Int) (ra : Option Addr) (rb ro rc : Nat) (rows : List (List Int)) : Prop where
  d : DeS w va g ds
  f : IntS w fa fb fo l
  r : IntSS w ra rb ro rows
  dl : ds.length ≤ 28
  len : Hid (l.length = ds.length)
  three : Hid (rows.length = 3)
  rl : ∀ r ∈ rows, r.length ≤ 1048576
  run : M.run false ds = some false
  pl : ∀ x ∈ ds, x.uses = true → 0 ≤ x.d.p ∧ x.d.p < 3
theorem Wy.below {w w' : World} {va : Option Addr} {g c : Nat} {ds : List M.De} {fa : Option Addr} {fb fo fc : Nat} {l : List Int} {ra : Option Addr} {rb ro rc : Nat} {rows : List (List Int)} {B : Nat} (h : Wy w va g c ds fa fb fo fc l ra rb ro rc rows) (hb : Below B w w') (hB : w.heap.size ≤ B) : Wy w' va g c ds fa fb fo fc l ra rb ro rc rows :=
  ⟨h.d.bel hb hB, h.f.below hb hB, h.r.below hb hB, h.dl, h.len, h.three, h.rl, h.run, h.pl⟩

theorem grown_then' {w w1 w2 : World} {row : Option Nat} (h : w.grownBy w1 row) (k : Below w1.heap.size w1 w2) : w.grownBy w2 row :=
  ⟨k.os.trans h.os, k.tape.trans h.tape, k.output.trans h.output, Nat.le_trans h.size k.size, fun _ hi hn => (k.block _ (Nat.lt_of_lt_of_le hi h.size)).trans (h.block _ hi hn)⟩
theorem grown_trans' {w w1 w2 : World} {row : Option Nat} (h : w.grownBy w1 row) (k : w1.grownBy w2 row) : w.grownBy w2 row :=
  ⟨k.os.trans h.os, k.tape.trans h.tape, k.output.trans h.output, Nat.le_trans h.size k.size, fun _ hi hn => (k.block _ (Nat.lt_of_lt_of_le hi h.size) hn).trans (h.block _ hi hn)⟩
theorem grownBy_rfl (w : World) (row : Option Nat) : w.grownBy w row := ⟨rfl, rfl, rfl, Nat.le_refl _, fun _ _ _ => rfl⟩
theorem cell_first3 (w : World) (A B C : Obj) (i : Nat) : (((w.alloc A).alloc B).alloc C).cell? ⟨w.heap.size, i, none⟩ = (w.alloc A).cell? ⟨w.heap.size, i, none⟩ := (below2 (w.alloc A) B C).cell (p := ⟨w.heap.size, i, none⟩) (show w.heap.size < (w.alloc A).heap.size by simp)

set_option maxHeartbeats 4000000 in
set_option maxRecDepth 100000 in
theorem ahead_of (k : Nat) (f0 f1 f2 : FuncId)
    (hR : ∀ w, Calls Tryz.prog 74 #[.int .i64 k] w fun e w' => e = .returned (.agg #[.func (.func f0) #[] #[], .func (.func f1) #[] #[], .func (.func f2) #[] #[]]) ∧ Below w.heap.size w w')
    (hM : ∀ (t : Wx) (a b : Nat) (x y : M.De) (w : World), t.Ok → t.At w → t.ds[a]? = some x → t.ds[b]? = some y → Calls Tryz.prog 75 #[.agg #[.slice (some ⟨t.g, 0, none⟩) t.ds.length t.c, .slice (some ⟨t.fb, t.fo, none⟩) t.l.length t.fc, .slice (some ⟨t.rb, t.ro, none⟩) t.rows.length t.rc], .agg #[.func (.func f0) #[] #[], .func (.func f1) #[] #[], .func (.func f2) #[] #[]], .int .i64 (a : Int), .int .i64 (b : Int)] w fun e w' => e = .returned (.bool (M.must t.ds t.l t.rows k a b x y)) ∧ Below w.heap.size w w')
    (va : Option Addr) (g c : Nat) (ds : List M.De) (fa : Option Addr) (fb fo fc : Nat) (l : List Int) (ra : Option Addr) (rb ro rc : Nat) (rows : List (List Int)) (w : World) (h : Wy w va g c ds fa fb fo fc l ra rb ro rc rows) :
    Calls Tryz.prog 44 #[.agg #[.slice va ds.length c, .slice fa l.length fc, .slice ra rows.length rc], .int .i64 k] w fun e w' => e = .returned (.agg (btA (M.wordsOf (M.linksOf (M.mustAt ds l rows k) ds.length)))) ∧ Below w.heap.size w w' := by
  have hdl := h.dl
  go_enter Tryz.func44, Tryz.ntmps44
  go_wp2_with fail
  have hz : btA (fun _ => 0) = #[.int .u32 0, .int .u32 0, .int .u32 0, .int .u32 0, .int .u32 0, .int .u32 0, .int .u32 0, .int .u32 0, .int .u32 0, .int .u32 0, .int .u32 0, .int .u32 0, .int .u32 0, .int .u32 0, .int .u32 0, .int .u32 0, .int .u32 0, .int .u32 0, .int .u32 0, .int .u32 0, .int .u32 0, .int .u32 0, .int .u32 0, .int .u32 0, .int .u32 0, .int .u32 0, .int .u32 0, .int .u32 0] := by rfl
  rw [← hz]
  clear hz
  have b3 := below3 w (.cells #[.slice va ds.length c, .slice fa l.length fc, .slice ra rows.length rc] 56) (.cells (btA fun _ => 0) 94) (.cells (btA fun _ => 0) 94)
  have BR : Bt (((w.alloc (.cells #[.slice va ds.length c, .slice fa l.length fc, .slice ra rows.length rc] 56)).alloc (.cells (btA fun _ => 0) 94)).alloc (.cells (btA fun _ => 0) 94)) (w.heap.size + 1) (fun _ => 0) := (Bt.of_block (t := 94) (alloc_new _ _ _ (by simp)) (fun _ => by decide)).below (below1 _ _)
  have BS : Bt (((w.alloc (.cells #[.slice va ds.length c, .slice fa l.length fc, .slice ra rows.length rc] 56)).alloc (.cells (btA fun _ => 0) 94)).alloc (.cells (btA fun _ => 0) 94)) (w.heap.size + 1 + 1) (fun _ => 0) := Bt.of_block (t := 94) (alloc_new _ _ _ (by simp)) (fun _ => by decide)
  have k0 : (((w.alloc (.cells #[.slice va ds.length c, .slice fa l.length fc, .slice ra rows.length rc] 56)).alloc (.cells (btA fun _ => 0) 94)).alloc (.cells (btA fun _ => 0) 94)).cell? ⟨w.heap.size, 0, none⟩ = some (.slice va ds.length c) := by rw [cell_first3]; simp
  have k1 : (((w.alloc (.cells #[.slice va ds.length c, .slice fa l.length fc, .slice ra rows.length rc] 56)).alloc (.cells (btA fun _ => 0) 94)).alloc (.cells (btA fun _ => 0) 94)).cell? ⟨w.heap.size, 1, none⟩ = some (.slice fa l.length fc) := by rw [cell_first3]; simp
  have k2 : (((w.alloc (.cells #[.slice va ds.length c, .slice fa l.length fc, .slice ra rows.length rc] 56)).alloc (.cells (btA fun _ => 0) 94)).alloc (.cells (btA fun _ => 0) 94)).cell? ⟨w.heap.size, 2, none⟩ = some (.slice ra rows.length rc) := by rw [cell_first3]; simp
  generalize ((w.alloc (.cells #[.slice va ds.length c, .slice fa l.length fc, .slice ra rows.length rc] 56)).alloc (.cells (btA fun _ => 0) 94)).alloc (.cells (btA fun _ => 0) 94) = W at *
  refine (hR W).mono ?_
  rintro e W1 ⟨rfl, b1⟩
  have bR := below1 W1 (.cells #[.func (.func f0) #[] #[], .func (.func f1) #[] #[], .func (.func f2) #[] #[]] 127)
  have b1R := b1.trans (bR.mono b1.size)
  have bwR := b3.trans (b1R.mono b3.size)
  have BR1 := BR.below b1R
  have BS1 := BS.below b1R
  have lS : w.heap.size + 1 + 1 < W.heap.size := BS.lt_
  have lK : w.heap.size < W.heap.size := World.block_lt_of_cell? _ _ k0
  have y0 := (b1R.cell (p := ⟨w.heap.size, 0, none⟩) lK).trans k0
  have y1 := (b1R.cell (p := ⟨w.heap.size, 1, none⟩) lK).trans k1
  have y2 := (b1R.cell (p := ⟨w.heap.size, 2, none⟩) lK).trans k2
  have r0 : (W1.alloc (.cells #[.func (.func f0) #[] #[], .func (.func f1) #[] #[], .func (.func f2) #[] #[]] 127)).cell? ⟨W1.heap.size, 0, none⟩ = some (.func (.func f0) #[] #[]) := by simp
  have r1 : (W1.alloc (.cells #[.func (.func f0) #[] #[], .func (.func f1) #[] #[], .func (.func f2) #[] #[]] 127)).cell? ⟨W1.heap.size, 1, none⟩ = some (.func (.func f1) #[] #[]) := by simp
  have r2 : (W1.alloc (.cells #[.func (.func f0) #[] #[], .func (.func f1) #[] #[], .func (.func f2) #[] #[]] 127)).cell? ⟨W1.heap.size, 2, none⟩ = some (.func (.func f2) #[] #[]) := by simp
  clear BR BS k0 k1 k2
  go_wp2_with fail
  generalize W1.alloc (.cells #[.func (.func f0) #[] #[], .func (.func f1) #[] #[], .func (.func f2) #[] #[]] 127) = W2 at *
  obtain ⟨P, hP⟩ : ∃ P, W1.heap.size = P := ⟨_, rfl⟩
  rw [hP] at r0 r1 r2 ⊢
  have hPW : W.heap.size ≤ P := by rw [← hP]; exact b1.size
  have hWs : w.heap.size + 1 + 1 < W.heap.size := lS
  clear hP bR b1R b1
  go_loopw [14] (fun s14 wr => ∃ n : Nat, s14 = .int .i64 n ∧ n ≤ ds.length ∧ Bt wr (w.heap.size + 1 + 1) (M.wordsOf (M.lkP (M.mustAt ds l rows k) ds.length n)) ∧ W2.grownBy wr (some (w.heap.size + 1 + 1))) (fun s14 _ => ds.length - (intOf s14).toNat)
  case atStart => exact ⟨0, rfl, Nat.zero_le _, BS1, grownBy_rfl _ _⟩
  case round =>
    obtain ⟨n, rfl, hn, hB, hg⟩ := hrel
    have z0 := hg.cell y0 (fun e => by have : w.heap.size = w.heap.size + 1 + 1 := Option.some.inj e; omega)
    have z1 := hg.cell y1 (fun e => by have : w.heap.size = w.heap.size + 1 + 1 := Option.some.inj e; omega)
    have z2 := hg.cell y2 (fun e => by have : w.heap.size = w.heap.size + 1 + 1 := Option.some.inj e; omega)
    by_cases hlt : n < ds.length
    · have i1 : (n : Int) < ds.length := by omega
      have HP : Hid (M.lkP (M.mustAt ds l rows k) ds.length (n + 1) = M.lkP (M.mustAt ds l rows k) ds.length n ++ M.lkQ (M.mustAt ds l rows k) n ds.length) := M.lkP_succ _ _ _
      generalize M.lkP (M.mustAt ds l rows k) ds.length n = LP at *
      go_wp2_with fail
      go_loopw [20] (fun s20 wi => ∃ m : Nat, s20 = .int .i64 m ∧ m ≤ ds.length ∧ Bt wi (w.heap.size + 1 + 1) (M.wordsOf (LP ++ M.lkQ (M.mustAt ds l rows k) n m)) ∧ W2.grownBy wi (some (w.heap.size + 1 + 1))) (fun s20 _ => ds.length - (intOf s20).toNat)
      case atStart => exact ⟨0, rfl, Nat.zero_le _, by rw [show M.lkQ (M.mustAt ds l rows k) n 0 = [] from rfl, List.append_nil]; exact hB, hg⟩
      case round =>
        obtain ⟨m, rfl, hm, hBi, hgi⟩ := hrel
        clear z0 z1 z2
        have z0 := hgi.cell y0 (fun e => by have : w.heap.size = w.heap.size + 1 + 1 := Option.some.inj e; omega)
        have z1 := hgi.cell y1 (fun e => by have : w.heap.size = w.heap.size + 1 + 1 := Option.some.inj e; omega)
        have z2 := hgi.cell y2 (fun e => by have : w.heap.size = w.heap.size + 1 + 1 := Option.some.inj e; omega)
        have q0 := hgi.cell r0 (fun e => by have : P = w.heap.size + 1 + 1 := Option.some.inj e; omega)
        have q1 := hgi.cell r1 (fun e => by have : P = w.heap.size + 1 + 1 := Option.some.inj e; omega)
        have q2 := hgi.cell r2 (fun e => by have : P = w.heap.size + 1 + 1 := Option.some.inj e; omega)
        by_cases hmt : m < ds.length
        · have bwi : Below w.heap.size w wr := below_grown bwR hgi (fun j hj => by have : w.heap.size + 1 + 1 = j := Option.some.inj hj; omega) bwR.size
          have hWr := h.below bwi (Nat.le_refl _)
          obtain ⟨rfl⟩ := hWr.d.addr (by omega)
          obtain ⟨rfl⟩ := hWr.f.addr (by have := h.len.out; omega)
          obtain ⟨rfl⟩ := hWr.r.addr (by have := h.three.out; omega)
          have j1 : (m : Int) < ds.length := by omega
          have HQ : Hid (M.lkQ (M.mustAt ds l rows k) n (m + 1) = M.lkQ (M.mustAt ds l rows k) n m ++ (if M.mustAt ds l rows k n m then [(n, m)] else [])) := M.lkQ_succ _ _ _
          have hmu := M.mustAt_of (l := l) (rows := rows) (k := k) (List.getElem?_eq_getElem hlt) (List.getElem?_eq_getElem hmt)
          have C1 := hM ⟨g, c, ds, fb, fo, fc, l, rb, ro, rc, rows⟩ n m ds[n] ds[m] wr ⟨show ds.length ≤ 1048576 from by omega, h.len, h.three, h.rl, h.run, h.pl⟩ ⟨hWr.d, hWr.f, hWr.r⟩ (List.getElem?_eq_getElem hlt) (List.getElem?_eq_getElem hmt)
          simp only at C1
          rw [← hmu] at C1
          have hn28 : n < 28 := by have := h.dl; omega
          have hm28 : m < 28 := by have := h.dl; omega
          cases hA : M.mustAt ds l rows k n m
          · rw [hA] at C1
            have HQ2 : Hid (LP ++ M.lkQ (M.mustAt ds l rows k) n (m + 1) = LP ++ M.lkQ (M.mustAt ds l rows k) n m) := by show _ = _; rw [HQ.out, hA]; simp
            clear HQ hmu hA
            go_wp2_with fail
            refine C1.mono ?_
            rintro e W3 ⟨rfl, c3⟩
            clear z0 z1 z2 q0 q1 q2
            go_wp2_with fail
            exact ⟨⟨m + 1, by go_num, by omega, by rw [HQ2.out]; exact hBi.below c3, grown_then' hgi c3⟩, by simp [intOf]; omega⟩
          · rw [hA] at C1
            have HQ2 : Hid (M.wordsOf (LP ++ M.lkQ (M.mustAt ds l rows k) n (m + 1)) = M.addW (M.wordsOf (LP ++ M.lkQ (M.mustAt ds l rows k) n m)) (n, m)) := by show _ = _; rw [HQ.out, hA, if_pos rfl, ← List.append_assoc, M.wordsOf_snoc]
            clear HQ hmu hA
            go_wp2_with fail
            refine C1.mono ?_
            rintro e W3 ⟨rfl, c3⟩
            clear z0 z1 z2 q0 q1 q2
            go_wp2_with fail
            refine (add_any (w.heap.size + 1 + 1) _ (n, m) W3 hn28 hm28 (hBi.below c3)).mono ?_
            rintro e W4 ⟨rfl, hB4, hg4⟩
            go_wp2_with fail
            exact ⟨⟨m + 1, by go_num, by omega, by rw [HQ2.out]; exact hB4, grown_trans' (grown_then' hgi c3) hg4⟩, by simp [intOf]; omega⟩
        · obtain rfl : m = ds.length := by omega
          have j1 : ¬ ((ds.length : Nat) : Int) < ds.length := by omega
          go_wp2_with fail
          exact ⟨⟨n + 1, by go_num, by omega, by rw [HP.out]; exact hBi, hgi⟩, by simp [intOf]; omega⟩
    · obtain rfl : n = ds.length := by omega
      have j1 : ¬ ((ds.length : Nat) : Int) < ds.length := by omega
      rw [M.lkP_all] at hB
      have hN : ∀ i, M.wordsOf (M.linksOf (M.mustAt ds l rows k) ds.length) i < 4294967296 := hB.lt
      have BRn := BR1.grown hg (fun e => by have : w.heap.size + 1 = w.heap.size + 1 + 1 := Option.some.inj e; omega)
      have bwr : Below w.heap.size w wr := below_grown bwR hg (fun j hj => by have : w.heap.size + 1 + 1 = j := Option.some.inj hj; omega) bwR.size
      have hr := hB.range
      have hi2 : (Tryz.prog.info? 94).map (·.size) = some (btA (M.wordsOf (M.linksOf (M.mustAt ds l rows k) ds.length))).toList.length := by rw [Tryz.infoSets]; simp [btA]
      have hi3 : (Tryz.prog.info? 94).map (·.size) = some (btA (M.wordsOf (M.linksOf (M.mustAt ds l rows k) ds.length))).toList.toArray.size := by rw [Tryz.infoSets]; simp [btA]
      have hone : (btA (M.wordsOf (M.linksOf (M.mustAt ds l rows k) ds.length))).toList.toArray.all (·.oneCell') = true := by simpa using btA_one (M.wordsOf (M.linksOf (M.mustAt ds l rows k) ds.length))
      have hth : wr.there (w.heap.size + 1) 0 (btA (M.wordsOf (M.linksOf (M.mustAt ds l rows k) ds.length))).toList.toArray.size := by
        have : (btA (M.wordsOf (M.linksOf (M.mustAt ds l rows k) ds.length))).toList.toArray.size = 28 := by simp [btA]
        rw [this]; exact BRn.there
      have hrF := (BRn.stored hN).range
      have bF : Below w.heap.size w (wr.setCells (w.heap.size + 1) 0 (btA (M.wordsOf (M.linksOf (M.mustAt ds l rows k) ds.length))).toList) := Below.setCells (by omega) _ _ _ bwr
      generalize hAe : btA (M.wordsOf (M.linksOf (M.mustAt ds l rows k) ds.length)) = A at hr hi2 hi3 hone hth hrF bF ⊢
      have HA : Hid (btA (M.wordsOf (M.linksOf (M.mustAt ds l rows k) ds.length)) = A) := hAe
      clear hAe hB BRn BR1 BS1
      go_wp2_with (first | (refine wpList_load_mid rfl 94 (.tmp 5) rfl (w.heap.size + 1 + 1) 0 rfl A.toList _ hr Tryz.undSets rfl hi2 ?_) | (refine wpList_store_mid rfl 94 (.tmp 4) (.tmp 34) rfl (w.heap.size + 1) 0 A.toList.toArray rfl rfl hth hi3 hone ?_))
      refine bodyPost_ret (v := .agg A) ?_ rfl ⟨by rw [HA.out], bF⟩
      have := fun tmps hp => results_cell_mid (P := Tryz.prog) Tryz.results44 tmps (wr.setCells (w.heap.size + 1) 0 A.toList) (w.heap.size + 1) 0 A.toList _ hp hrF Tryz.undSets rfl hi2
      simp only [Array.toArray_toList] at this
      exact this _ (by rfl)

end Go.Proofs.YtjpgpjjejbjldaaGreat

namespace Go.Proofs.YtjpgpjjejbjldaaGreat
open Go.RowKit

namespace M
def chP (ds : List De) (n : Nat) : List Ch := ((List.range n).filter (waitsAt ds)).flatMap (choicesAt ds)
def chQ (ds : List De) (b m : Nat) : List Ch := ((List.range m).filter fun r => kAt ds r == 7).map fun r => ((outOf ds r, b + 1), (b, r))
theorem chP_all (ds : List De) : chP ds ds.length = choices ds := rfl
theorem chQ_all (ds : List De) (b : Nat) : chQ ds b ds.length = choicesAt ds b := rfl
theorem chP_succ (ds : List De) (n : Nat) : chP ds (n + 1) = chP ds n ++ (if waitsAt ds n then choicesAt ds n else []) := by
  unfold chP
  rw [List.range_succ, List.filter_append, List.flatMap_append]
  congr 1
  cases h : waitsAt ds n <;> simp [h]
theorem chQ_succ (ds : List De) (b m : Nat) : chQ ds b (m + 1) = chQ ds b m ++ (if kAt ds m == 7 then [((outOf ds m, b + 1), (b, m))] else []) := by
  unfold chQ
  rw [List.range_succ, List.filter_append, List.map_append]
  congr 1
  cases h : (kAt ds m == 7) <;> simp [h]
theorem chQ_len (ds : List De) (b m : Nat) : (chQ ds b m).length ≤ m := by
  unfold chQ
  rw [List.length_map]
  have := List.length_filter_le (fun r => kAt ds r == 7) (List.range m)
  simpa using this
theorem chP_len (ds : List De) (n : Nat) : (chP ds n).length ≤ n * ds.length := by
  induction n with
  | zero => simp [chP]
  | succ n ih =>
    rw [chP_succ, List.length_append]
    have : (if waitsAt ds n then choicesAt ds n else []).length ≤ ds.length := by
      split
      · rw [← chQ_all]; exact chQ_len ds n ds.length
      · simp
    rw [Nat.succ_mul]
    omega
theorem waitsAt_of {ds : List De} {n : Nat} {x : De} (h : ds[n]? = some x) : waitsAt ds n = (x.d.k == 9 && !x.last) := by unfold waitsAt; rw [h]
theorem kAt_of {ds : List De} {n : Nat} {x : De} (h : ds[n]? = some x) : kAt ds n = x.d.k := by unfold kAt; rw [h]
end M

set_option maxHeartbeats 4000000 in
set_option maxRecDepth 100000 in
theorem waitChoices_any (va : Option Addr) (g c : Nat) (ds : List M.De) (w : World) (hl : ds.length ≤ 28) (hrun : M.run false ds = some false) (h : DeS w va g ds) :
    Calls Tryz.prog 47 #[.slice va ds.length c] w fun e w' => ∃ va' g' c', e = .returned (.slice va' (M.choices ds).length c') ∧ ChS w' va' g' 0 (M.choices ds) ∧ Below w.heap.size w w' := by
  obtain ⟨i0, hi, hz0, hz1, hz2⟩ := info_parts Tryz.infoCh
  go_enter Tryz.func47, Tryz.ntmps47
  go_wp2_with fail
  go_loopw [3, 11] (fun s3 s11 wr => ∃ n : Nat, s11 = .int .i64 n ∧ n ≤ ds.length ∧ wr.ownsRow w.heap.size 136 4 s3 (M.chP ds n).length ((M.chP ds n).map M.c4).flatten ∧ Below w.heap.size w wr) (fun _ s11 _ => ds.length - (intOf s11).toNat)
  case atStart => exact ⟨0, rfl, Nat.zero_le _, World.ownsRow_nil _ _ _ _, Below.refl _ _⟩
  case round =>
    obtain ⟨n, rfl, hn, hown, hbel⟩ := hrel
    have hbs := hbel.size
    by_cases hlt : n < ds.length
    · obtain ⟨rfl⟩ := h.addr (by omega)
      have hx := DeS.at (h.bel hbel (Nat.le_refl _)) hlt
      have HX : Hid (ds[n]? = some ds[n]) := List.getElem?_eq_getElem hlt
      have HC : Hid (M.chP ds (n + 1) = M.chP ds n ++ (if M.waitsAt ds n then M.choicesAt ds n else [])) := M.chP_succ ds n
      have hcl := M.chP_len ds n
      have hcl2 : (M.chP ds n).length ≤ 784 := Nat.le_trans hcl (Nat.mul_le_mul (show n ≤ 28 by omega) hl)
      clear hcl
      generalize ds[n] = x at *
      generalize M.chP ds n = L at *
      have HW : Hid (M.waitsAt ds n = (x.d.k == 9 && !x.last)) := M.waitsAt_of HX.out
      obtain ⟨c0, c1, c2, c3, c4, c5, c6⟩ := hx
      have i1 : (n : Int) < ds.length := by omega
      by_cases hk : x.d.k = 9
      · have hk' : (x.d.k != 9) = false := by simp [hk]
        cases hla : x.last
        · -- who waits
          have HC2 : Hid (M.chP ds (n + 1) = L ++ M.chQ ds n ds.length) := by show _ = _; rw [HC.out, HW.out, hk, hla]; rfl
          rw [hla] at c2
          clear HC HW HX hk hla
          go_wp2_with fail
          have bA := hbel.alloc hbel.size (.cells #[.int .i64 (x.t : Int), .int .i64 (x.i : Int), .bool false, .int .i64 x.d.k, .int .i64 x.d.p, .int .i64 x.d.v, .int .i64 x.lr] 90)
          have hownA := hown.alloc (.cells #[.int .i64 (x.t : Int), .int .i64 (x.i : Int), .bool false, .int .i64 x.d.k, .int .i64 x.d.p, .int .i64 x.d.v, .int .i64 x.lr] 90)
          generalize wr.alloc (.cells #[.int .i64 (x.t : Int), .int .i64 (x.i : Int), .bool false, .int .i64 x.d.k, .int .i64 x.d.p, .int .i64 x.d.v, .int .i64 x.lr] 90) = WA at *
          clear hown hbel c0 c1 c2 c3 c4 c5 c6
          go_loopw [3, 29] (fun s3 s29 wi => ∃ m : Nat, s29 = .int .i64 m ∧ m ≤ ds.length ∧ wi.ownsRow w.heap.size 136 4 s3 (L ++ M.chQ ds n m).length ((L ++ M.chQ ds n m).map M.c4).flatten ∧ Below w.heap.size w wi) (fun _ s29 _ => ds.length - (intOf s29).toNat)
          case atStart => exact ⟨0, rfl, Nat.zero_le _, by rw [show M.chQ ds n 0 = [] from rfl, List.append_nil]; exact hownA, bA⟩
          case round =>
            obtain ⟨m, rfl, hm, hown, hbi⟩ := hrel
            clear hownA bA
            have hbs := hbi.size
            by_cases hmt : m < ds.length
            · have hy := DeS.at (h.bel hbi (Nat.le_refl _)) hmt
              have HK : Hid (M.kAt ds m = ds[m].d.k) := M.kAt_of (List.getElem?_eq_getElem hmt)
              have HQ : Hid (M.chQ ds n (m + 1) = M.chQ ds n m ++ (if M.kAt ds m == 7 then [((M.outOf ds m, n + 1), (n, m))] else [])) := M.chQ_succ ds n m
              have HO : ds[m].d.k = 7 → ∃ q, m ≤ q ∧ ∃ hq : q < ds.length, ds[q].d.k = 8 := fun h7 => by
                obtain ⟨q, h1, h2, h3⟩ := M.has_out hrun hmt h7
                exact ⟨q, by omega, h2, h3⟩
              have hql := M.chQ_len ds n m
              have hql2 : (L ++ M.chQ ds n m).length ≤ 900 := by rw [List.length_append]; omega
              clear hql
              obtain ⟨d0, d1, d2, d3, d4, d5, d6⟩ := hy
              generalize ds[m] = y at *
              have j1 : (m : Int) < ds.length := by omega
              by_cases h7 : y.d.k = 7
              · have h7' : (y.d.k == 7) = true := by simp [h7]
                have HQ2 : Hid (L ++ M.chQ ds n (m + 1) = (L ++ M.chQ ds n m) ++ [((M.outOf ds m, n + 1), (n, m))]) := by show _ = _; rw [HQ.out, HK.out, h7', if_pos rfl, List.append_assoc]
                have bB := below1 wr (.cells #[.int .i64 (y.t : Int), .int .i64 (y.i : Int), .bool y.last, .int .i64 y.d.k, .int .i64 y.d.p, .int .i64 y.d.v, .int .i64 y.lr] 90)
                have CO := outOf_any g c ds m (wr.alloc (.cells #[.int .i64 (y.t : Int), .int .i64 (y.i : Int), .bool y.last, .int .i64 y.d.k, .int .i64 y.d.p, .int .i64 y.d.v, .int .i64 y.lr] 90)) (by omega) (HO h7) ((h.bel hbi (Nat.le_refl _)).bel bB (Nat.le_refl _))
                have hownB := ownsRow_below hown bB
                have bwB := hbi.trans (bB.mono hbi.size)
                have hbsB := bwB.size
                generalize L ++ M.chQ ds n m = LL at *
                generalize M.outOf ds m = O at *
                clear HQ HK HO h7 hown bB
                go_wp2_with fail
                generalize wr.alloc (.cells #[.int .i64 (y.t : Int), .int .i64 (y.i : Int), .bool y.last, .int .i64 y.d.k, .int .i64 y.d.p, .int .i64 y.d.v, .int .i64 y.lr] 90) = WB at *
                refine CO.mono ?_
                rintro e w1 ⟨rfl, rfl⟩
                go_wp2_with (at_builtin; refine wpList_append_own _ rfl (.tmp 38) (.tmp 48) 97 rfl _ 136 i0 _ 4 32 Tryz.underlying97 hi hz0 hz1 hz2 rfl (by decide) _ _ _ rfl (hownB.alloc _) ⟨w1.heap.size, 0, none⟩ 1 1 [.int .i64 O, .int .i64 ((n : Int) + 1), .int .i64 n, .int .i64 m] rfl rfl (cells_new4 _ _ _ _ _ _ _ (by simp)) (one4 _ _ _ _) (by unfold maxLen; omega) (by omega) (by simp; omega) ?_)
                intro v4 W4 hown4 hg4 _
                have hge := own_ge hownB
                have bw4 : Below w.heap.size w W4 := below_grown (bwB.alloc bwB.size _) hg4 hge (by simp; omega)
                have hown5 : W4.ownsRow w.heap.size 136 4 v4 (LL ++ [((O, n + 1), (n, m))]).length ((LL ++ [((O, n + 1), (n, m))]).map M.c4).flatten := own_moreC (by simpa using hown4)
                clear hown4 hg4 hownB
                go_wp2_with fail
                exact ⟨⟨m + 1, by go_num, by omega, by rw [HQ2.out]; exact hown5, bw4⟩, by simp [intOf]; omega⟩
              · have h7' : (y.d.k == 7) = false := by simpa using h7
                have HQ2 : Hid (L ++ M.chQ ds n (m + 1) = L ++ M.chQ ds n m) := by show _ = _; rw [HQ.out, HK.out, h7']; simp
                clear HQ HK HO h7
                go_wp2_with fail
                exact ⟨⟨m + 1, by go_num, by omega, by rw [HQ2.out]; exact ownsRow_below hown (below1 _ _), hbi.alloc hbi.size _⟩, by simp [intOf]; omega⟩
            · obtain rfl : m = ds.length := by omega
              go_wp2_with fail
              exact ⟨⟨n + 1, by go_num, by omega, by rw [HC2.out]; exact hown, hbi⟩, by simp [intOf]; omega⟩
        · have HC2 : Hid (M.chP ds (n + 1) = L) := by show _ = _; rw [HC.out, HW.out, hk, hla]; simp
          rw [hla] at c2
          clear HC HW HX hk hla
          go_wp2_with fail
          exact ⟨⟨n + 1, by go_num, by omega, by rw [HC2.out]; exact ownsRow_below hown (below1 _ _), hbel.alloc hbel.size _⟩, by simp [intOf]; omega⟩
      · have hk' : (x.d.k != 9) = true := by simpa using hk
        have hk2 : (x.d.k == 9) = false := by simpa using hk
        have HC2 : Hid (M.chP ds (n + 1) = L) := by show _ = _; rw [HC.out, HW.out, hk2]; simp
        clear HC HW HX hk hk2
        go_wp2_with fail
        exact ⟨⟨n + 1, by go_num, by omega, by rw [HC2.out]; exact ownsRow_below hown (below1 _ _), hbel.alloc hbel.size _⟩, by simp [intOf]; omega⟩
    · obtain rfl : n = ds.length := by omega
      rw [M.chP_all] at hown
      obtain ⟨va', g', c', rfl, hC, _, _⟩ := own_ch hown
      go_wp2_with fail
      go_ret
      exact ⟨va', g', c', rfl, hC, hbel⟩

end Go.Proofs.YtjpgpjjejbjldaaGreat
