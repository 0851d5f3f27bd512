/- How many ways there are, against a product over places, plainly. No condition. spec.DrawExecAll: a drawn program. Of codes of at most 1048576 bytes. A drawn program in a box of a law. No condition. The law FnExecCount, walked: it answers true, and leaves all as it was. Of whatever code. -/
import Derived.Test.YtelmclbojpbcbaaBnCw
import Derived.Test.YtelmclbojpbcbaaBnCo
import Derived.Test.YtelmclbojpbcbaaDrAn
import Derived.Test.YtelmclbojpbcbaaDrOp
import Derived.Test.YtelmclbojpbcbaaSProg

namespace Go.Proofs.Ytelmclbojpbcbaa
namespace M

def fac : Nat → Nat
  | 0 => 1
  | n + 1 => (n + 1) * fac n
theorem fac_pos : ∀ n, 0 < fac n
  | 0 => Nat.one_pos
  | n + 1 => Nat.mul_pos (Nat.succ_pos _) (fac_pos n)
/-- What the law counts of one place: the product, who writes, who reads. -/
def stp (p : Int) (st : Nat × Nat × Nat) (d : D) : Nat × Nat × Nat := if d.p = p then (if writes d.k then (st.1 * (st.2.1 + 1), st.2.1 + 1, st.2.2) else if reads d.k then (st.1, st.2.1, st.2.2 + 1) else st) else st
def wN (p : Int) (l : List D) : Nat := (l.filter fun d => writes d.k && d.p == p).length
def rN (p : Int) (l : List D) : Nat := (l.filter fun d => reads d.k && d.p == p).length
theorem rd_not_wr {k : Int} (h : reads k = true) : writes k = false := by
  simp only [reads, Bool.or_eq_true, beq_iff_eq] at h
  rcases h with h | h <;> simp [writes, stores, h]
theorem wN_cons (p : Int) (d : D) (l : List D) : wN p (d :: l) = (if writes d.k && d.p == p then 1 else 0) + wN p l := by
  unfold wN; rw [List.filter_cons]; split <;> simp <;> omega
theorem rN_cons (p : Int) (d : D) (l : List D) : rN p (d :: l) = (if reads d.k && d.p == p then 1 else 0) + rN p l := by
  unfold rN; rw [List.filter_cons]; split <;> simp <;> omega
theorem stp_eq (p : Int) : ∀ (l : List D) (m w r : Nat), (l.foldl (stp p) (m, w, r)).2.1 = w + wN p l ∧ (l.foldl (stp p) (m, w, r)).2.2 = r + rN p l ∧ (l.foldl (stp p) (m, w, r)).1 * fac w = m * fac (w + wN p l)
  | [], m, w, r => by simp [wN, rN]
  | d :: l, m, w, r => by
    rw [List.foldl_cons, wN_cons, rN_cons]
    by_cases hp : d.p = p
    · have hb : (d.p == p) = true := by simpa using hp
      cases hw : writes d.k
      · cases hr : reads d.k
        · have e : stp p (m, w, r) d = (m, w, r) := by simp [stp, hp, hw, hr]
          rw [e]
          simpa using stp_eq p l m w r
        · have e : stp p (m, w, r) d = (m, w, r + 1) := by simp [stp, hp, hw, hr]
          rw [e]
          obtain ⟨h1, h2, h3⟩ := stp_eq p l m w (r + 1)
          simp only [hb, Bool.false_and, Bool.true_and, Bool.false_eq_true, if_false, if_true, Nat.zero_add]
          exact ⟨h1, by omega, h3⟩
      · have hr : reads d.k = false := by
          cases hr : reads d.k
          · rfl
          · rw [rd_not_wr hr] at hw; cases hw
        have e : stp p (m, w, r) d = (m * (w + 1), w + 1, r) := by simp [stp, hp, hw]
        rw [e]
        obtain ⟨h1, h2, h3⟩ := stp_eq p l (m * (w + 1)) (w + 1) r
        simp only [hb, hr, Bool.false_and, Bool.true_and, Bool.false_eq_true, if_false, if_true, Nat.zero_add]
        refine ⟨by omega, h2, ?_⟩
        have e2 : w + (1 + wN p l) = w + 1 + wN p l := by omega
        rw [e2]
        have hpos : 0 < w + 1 := Nat.succ_pos _
        refine Nat.eq_of_mul_eq_mul_left hpos ?_
        have : (w + 1) * (((l.foldl (stp p) (m * (w + 1), w + 1, r)).1) * fac w) = (l.foldl (stp p) (m * (w + 1), w + 1, r)).1 * fac (w + 1) := by
          rw [fac]; rw [Nat.mul_left_comm]
        rw [this, h3, Nat.mul_comm m (w + 1), Nat.mul_assoc]
    · have hb : (d.p == p) = false := by simpa using hp
      have e : stp p (m, w, r) d = (m, w, r) := by simp [stp, hp]
      rw [e]
      simpa [hb] using stp_eq p l m w r
/-- One place more. -/
def plc (l : List D) (m : Nat) (p : Int) : Nat := m * fac (wN p l) * (wN p l + 1) ^ rN p l
theorem stp_zero (p : Int) (l : List D) (m : Nat) : l.foldl (stp p) (m, 0, 0) = (m * fac (wN p l), wN p l, rN p l) := by
  obtain ⟨h1, h2, h3⟩ := stp_eq p l m 0 0
  simp only [Nat.zero_add, fac, Nat.mul_one] at h1 h2 h3
  exact Prod.ext h3 (Prod.ext h1 h2)
/-- Rows of a place are at most so many. -/
theorem nodup_sub : ∀ (a b : List Int), a.Nodup → (∀ v ∈ a, v ∈ b) → a.length ≤ b.length
  | [], b, _, _ => Nat.zero_le _
  | x :: a, b, hn, hs => by
    have hx := hs x (by simp)
    have hn' := List.nodup_cons.1 hn
    have ih := nodup_sub a (b.erase x) hn'.2 (fun v hv => (List.mem_erase_of_ne (fun (e : v = x) => hn'.1 (e ▸ hv))).2 (hs v (List.mem_cons_of_mem _ hv)))
    rw [List.length_erase_of_mem hx] at ih
    have := List.length_pos_of_mem hx
    rw [List.length_cons]
    omega
theorem filter_split (q : Int → Bool) : ∀ l : List Int, (l.filter q).length + (l.filter fun v => !q v).length = l.length
  | [] => rfl
  | v :: l => by
    have := filter_split q l
    rw [List.filter_cons, List.filter_cons]
    cases hq : q v <;> simp <;> omega
theorem rows_fac {ws : List Int} (hw : ws.Nodup) : ∀ (n : Nat) (h : List Int), h.Nodup → (∀ v ∈ h, v ∈ ws) → h.length + n = ws.length → (rowsOf ws n h).length ≤ fac n
  | 0, h, _, _, _ => by simp [rowsOf, fac]
  | n + 1, h, hn, hs, hl => by
    rw [rowsOf]
    have key : ∀ l : List Int, (∀ v ∈ l, v ∈ ws) → (l.flatMap fun v => if has h v then [] else rowsOf ws n (h ++ [v])).length ≤ (l.filter fun v => !has h v).length * fac n := by
      intro l
      induction l with
      | nil => intro _; simp
      | cons v l ih =>
        intro hm
        have ih' := ih (fun u hu => hm u (List.mem_cons_of_mem _ hu))
        rw [List.flatMap_cons, List.length_append, List.filter_cons]
        cases hh : has h v
        · have hvh : v ∉ h := fun e => by have : has h v = true := by simpa [has] using e
                                          rw [this] at hh; cases hh
          have h1 := rows_fac hw n (h ++ [v]) (List.nodup_append.2 ⟨hn, by simp, fun a ha b hb e => by rw [List.mem_singleton.1 hb] at e; exact hvh (e ▸ ha)⟩) (fun u hu => by
            rcases List.mem_append.1 hu with hu | hu
            · exact hs u hu
            · rw [List.mem_singleton.1 hu]; exact hm v (by simp)) (by simp; omega)
          simp only [Bool.not_false, if_true, Bool.false_eq_true, if_false, List.length_cons, Nat.succ_mul]
          omega
        · simp only [Bool.not_true, Bool.false_eq_true, if_false, if_true, List.length_nil, Nat.zero_add]
          exact ih'
    refine Nat.le_trans (key ws (fun _ h => h)) ?_
    rw [fac]
    refine Nat.mul_le_mul_right _ ?_
    have e1 : (ws.filter fun v => has h v).length + (ws.filter fun v => !has h v).length = ws.length := filter_split _ ws
    have e2 : h.length ≤ (ws.filter fun v => has h v).length := nodup_sub _ _ hn (fun v hv => List.mem_filter.2 ⟨hs v hv, by simpa [has] using hv⟩)
    omega
theorem orders_fac (ds : List De) : (ordersOf ds).length ≤ fac (wrs 0 0 ds).length * fac (wrs 1 0 ds).length * fac (wrs 2 0 ds).length := by
  unfold ordersOf
  rw [addPlace_len, addPlace_len, addPlace_len]
  simp only [List.length_singleton, Nat.one_mul]
  have r := fun p : Int => rows_fac (nodup_wrs p ds 0) (wrs p 0 ds).length [] List.nodup_nil (fun v hv => by cases hv) (by simp)
  exact Nat.mul_le_mul (Nat.mul_le_mul (r 0) (r 1)) (r 2)
/-- Those that read are at most so many. -/
def prR (ds : List De) : List De → Nat
  | [] => 1
  | x :: xs => (if x.reads then (wrs x.d.p 0 ds).length + 1 else 1) * prR ds xs
theorem froms_pr (ds : List De) : ∀ (n : Nat) (f : List Int), f.length + n = ds.length → (fromsOf ds n f).length ≤ prR ds (ds.drop f.length)
  | 0, f, h => by
    rw [List.drop_eq_nil_of_le (by omega)]
    simp [fromsOf, prR]
  | n + 1, f, h => by
    have hlt : f.length < ds.length := by omega
    have hst : ∀ v : Int, (fromsOf ds n (f ++ [v])).length ≤ prR ds (ds.drop (f.length + 1)) := fun v => by
      have := froms_pr ds n (f ++ [v]) (by simp; omega)
      simpa using this
    rw [← List.getElem_cons_drop hlt, prR]
    cases hr : De.reads ds[f.length]
    · rw [froms_no hlt rfl hr]
      simpa using hst _
    · rw [froms_yes hlt rfl hr, List.length_append]
      have h1 := hst (-1)
      have h2 := flatMap_le (fun v => fromsOf ds n (f ++ [v])) _ (wrs (ds[f.length]).d.p 0 ds) (fun v _ => hst v)
      simp only [if_true, Nat.add_mul, Nat.one_mul]
      omega
def rE (p : Int) (xs : List De) : Nat := (xs.filter fun x => x.reads && x.d.p == p).length
theorem prR_eq (ds : List De) : ∀ (xs : List De), (∀ x ∈ xs, x.reads = true → x.d.p = 0 ∨ x.d.p = 1 ∨ x.d.p = 2) → prR ds xs = ((wrs 0 0 ds).length + 1) ^ rE 0 xs * ((wrs 1 0 ds).length + 1) ^ rE 1 xs * ((wrs 2 0 ds).length + 1) ^ rE 2 xs
  | [], _ => by simp [prR, rE]
  | x :: xs, h => by
    have ih := prR_eq ds xs (fun y hy => h y (List.mem_cons_of_mem _ hy))
    have hx := h x (by simp)
    rw [prR, ih]
    unfold rE
    simp only [List.filter_cons]
    cases hr : x.reads
    · simp
    · rcases hx hr with e | e | e
      · simp [e, Nat.pow_succ]
        ac_rfl
      · simp [e, Nat.pow_succ]
        ac_rfl
      · simp [e, Nat.pow_succ]
        ac_rfl
/-- Events as steps. -/
theorem wrs_cnt (p : Int) : ∀ (n : Nat) (ds : List De), (wrs p n ds).length = (ds.filter fun x => x.to p).length
  | n, [] => by simp [wrs]
  | n, x :: ds => by
    rw [wrs, List.filter_cons]
    have := wrs_cnt p (n + 1) ds
    split <;> simp_all
theorem cnt_deD (g : D → Bool) (hg : ∀ d, d.k = 9 → g d = false) (t i : Nat) (lr : Int) (n : Nat) (d : D) : ((deD t i lr n d).filter fun x => g x.d).length = if g d then 1 else 0 := by
  unfold deD
  split
  · rename_i h9
    have := hg d (by simpa using h9)
    simp [this]
  · cases hgd : g d <;> simp [hgd]
theorem cnt_deT (g : D → Bool) (hg : ∀ d, d.k = 9 → g d = false) (t : Nat) : ∀ (l : List D) (i : Nat) (lr : Int) (n : Nat), ((deT t i lr n l).filter fun x => g x.d).length = (l.filter g).length
  | [], i, lr, n => by simp [deT]
  | d :: l, i, lr, n => by
    rw [deT, List.filter_append, List.length_append, cnt_deD g hg, cnt_deT g hg t l, List.filter_cons]
    split <;> simp <;> omega
theorem cnt_deF (g : D → Bool) (hg : ∀ d, d.k = 9 → g d = false) : ∀ (ll : List (List D)) (t n : Nat), ((deF t n ll).filter fun x => g x.d).length = (ll.flatten.filter g).length
  | [], t, n => by simp [deF]
  | l :: ll, t, n => by
    rw [deF, List.filter_append, List.length_append, cnt_deT g hg, cnt_deF g hg ll, List.flatten_cons, List.filter_append, List.length_append]
theorem wrs_steps (ll : List (List D)) (p : Int) : (wrs p 0 (deeds ll)).length = wN p ll.flatten := by
  rw [wrs_cnt]
  exact cnt_deF (fun d => writes d.k && d.p == p) (fun d h => by simp [writes, stores, h]) ll 0 0
theorem rds_steps (ll : List (List D)) (p : Int) : rE p (deeds ll) = rN p ll.flatten :=
  cnt_deF (fun d => reads d.k && d.p == p) (fun d h => by simp [reads, h]) ll 0 0
theorem deed_u2 {ll : List (List D)} (h : prog ll = true) : ∀ x ∈ deeds ll, x.reads = true → x.d.p = 0 ∨ x.d.p = 1 ∨ x.d.p = 2 := by
  intro x hx hr
  have hd := deed_do h x hx
  simp only [doOk, Bool.and_eq_true, placeOk] at hd
  have hu : uses x.d.k = true := by simp only [De.reads] at hr; simp [uses, hr]
  have hp := hd.1.2
  rw [if_pos hu] at hp
  simp only [Bool.and_eq_true, decide_eq_true_eq] at hp
  omega
theorem ways_cnt {ll : List (List D)} (h : prog ll = true) : (ways (deeds ll)).length ≤ plc ll.flatten (plc ll.flatten (plc ll.flatten 1 0) 1) 2 := by
  rw [ways_eq (cop_deeds ll)]
  have key : ∀ (fs : List (List Int)), (fs.flatMap fun f => if ends (deeds ll) f then (ordersOf (deeds ll)).map fun o => (f, o) else []).length ≤ fs.length * (ordersOf (deeds ll)).length := fun fs => flatMap_le _ _ fs (fun f _ => by
    split
    · simp
    · simp)
  have hf := froms_pr (deeds ll) (deeds ll).length [] (by simp)
  simp only [List.length_nil, List.drop_zero] at hf
  rw [prR_eq (deeds ll) (deeds ll) (deed_u2 h)] at hf
  have ho := orders_fac (deeds ll)
  simp only [wrs_steps, rds_steps] at hf ho
  unfold allWays
  refine Nat.le_trans (key _) (Nat.le_trans (Nat.mul_le_mul hf ho) (Nat.le_of_eq ?_))
  unfold plc
  rw [Nat.one_mul]
  ac_rfl
/-- The product behind so many places. -/
def mst (l : List D) : Nat → Nat
  | 0 => 1
  | p + 1 => plc l (mst l p) p
theorem ways_mst {ll : List (List D)} (h : prog ll = true) : (ways (deeds ll)).length ≤ mst ll.flatten 3 := ways_cnt h
set_option linter.unusedSimpArgs false in
theorem sum6 : ∀ (l : List D), wN 0 l + rN 0 l + wN 1 l + rN 1 l + wN 2 l + rN 2 l ≤ (l.filter fun d => uses d.k).length
  | [] => by simp [wN, rN]
  | d :: l => by
    have ih := sum6 l
    simp only [wN_cons, rN_cons, List.filter_cons]
    cases hw : writes d.k
    · cases hr : reads d.k
      · simp only [uses, hw, hr, Bool.false_and, Bool.or_self, Bool.false_eq_true, if_false, Nat.zero_add]
        exact ih
      · have hu : uses d.k = true := by simp [uses, hr]
        simp only [hu, hw, hr, Bool.false_and, Bool.true_and, Bool.false_eq_true, if_false, if_true, List.length_cons, Nat.zero_add]
        by_cases h0 : d.p = 0
        · simp [h0]; omega
        · by_cases h1 : d.p = 1
          · simp [h1]; omega
          · by_cases h2 : d.p = 2
            · simp [h2]; omega
            · simp [h0, h1, h2]; omega
    · have hr : reads d.k = false := by
        cases hr : reads d.k
        · rfl
        · rw [rd_not_wr hr] at hw; cases hw
      have hu : uses d.k = true := by simp [uses, hw]
      simp only [hu, hw, hr, Bool.false_and, Bool.true_and, Bool.false_eq_true, if_false, if_true, List.length_cons, Nat.zero_add]
      by_cases h0 : d.p = 0
      · simp [h0]; omega
      · by_cases h1 : d.p = 1
        · simp [h1]; omega
        · by_cases h2 : d.p = 2
          · simp [h2]; omega
          · simp [h0, h1, h2]; omega
theorem sum_six {ll : List (List D)} (h : prog ll = true) : wN 0 ll.flatten + rN 0 ll.flatten + wN 1 ll.flatten + rN 1 ll.flatten + wN 2 ll.flatten + rN 2 ll.flatten ≤ 6 := by
  have h1 := sum6 ll.flatten
  have h2 := use6 h
  have h3 : useN (deeds ll) = (ll.flatten.filter fun d => uses d.k).length := cnt_deF (fun d => uses d.k) (fun d h => by simp [uses, reads, writes, stores, h]) ll 0 0
  omega
theorem fac_le : ∀ w, w ≤ 6 → fac w ≤ 7 ^ w
  | 0, _ => Nat.le_refl _
  | w + 1, h => by
    have ih := fac_le w (by omega)
    rw [fac, Nat.pow_succ, Nat.mul_comm]
    exact Nat.mul_le_mul ih (by omega)
theorem plc_le {l : List D} {p : Int} (m : Nat) (h : wN p l ≤ 6) : plc l m p ≤ m * 7 ^ (wN p l + rN p l) := by
  unfold plc
  rw [Nat.pow_add, Nat.mul_assoc]
  exact Nat.mul_le_mul_left _ (Nat.mul_le_mul (fac_le _ h) (Nat.pow_le_pow_left (by omega) _))
theorem mst_le {ll : List (List D)} (h : prog ll = true) {p : Nat} (hp : p ≤ 3) : mst ll.flatten p ≤ 117649 := by
  have hs := sum_six h
  have h0 : mst ll.flatten 1 ≤ 7 ^ (wN 0 ll.flatten + rN 0 ll.flatten) := by
    have := plc_le (l := ll.flatten) (p := 0) 1 (by omega)
    simpa [mst] using this
  have h1 : mst ll.flatten 2 ≤ 7 ^ (wN 0 ll.flatten + rN 0 ll.flatten + (wN 1 ll.flatten + rN 1 ll.flatten)) := by
    have := plc_le (l := ll.flatten) (p := 1) (mst ll.flatten 1) (by omega)
    rw [Nat.pow_add]
    exact Nat.le_trans this (Nat.mul_le_mul_right _ h0)
  have h2 : mst ll.flatten 3 ≤ 7 ^ (wN 0 ll.flatten + rN 0 ll.flatten + (wN 1 ll.flatten + rN 1 ll.flatten) + (wN 2 ll.flatten + rN 2 ll.flatten)) := by
    have := plc_le (l := ll.flatten) (p := 2) (mst ll.flatten 2) (by omega)
    rw [Nat.pow_add]
    exact Nat.le_trans this (Nat.mul_le_mul_right _ h1)
  have h6 : ∀ k, k ≤ 6 → 7 ^ k ≤ 117649 := fun k hk => Nat.le_trans (Nat.pow_le_pow_right (by omega) hk) (by decide)
  match p, hp with
  | 0, _ => show 1 ≤ 117649; decide
  | 1, _ => exact Nat.le_trans h0 (h6 _ (by omega))
  | 2, _ => exact Nat.le_trans h1 (h6 _ (by omega))
  | 3, _ => exact Nat.le_trans h2 (h6 _ (by omega))
theorem w6 {ll : List (List D)} (h : prog ll = true) {p : Nat} (hp : p < 3) : wN p ll.flatten ≤ 6 ∧ rN p ll.flatten ≤ 6 := by
  have hs := sum_six h
  match p, hp with
  | 0, _ => exact ⟨by show wN 0 _ ≤ 6; omega, by show rN 0 _ ≤ 6; omega⟩
  | 1, _ => exact ⟨by show wN 1 _ ≤ 6; omega, by show rN 1 _ ≤ 6; omega⟩
  | 2, _ => exact ⟨by show wN 2 _ ≤ 6; omega, by show rN 2 _ ≤ 6; omega⟩
theorem wN_app (p : Int) (a b : List D) : wN p (a ++ b) = wN p a + wN p b := by simp [wN]
theorem rN_app (p : Int) (a b : List D) : rN p (a ++ b) = rN p a + rN p b := by simp [rN]
theorem fac720 {w : Nat} (h : w ≤ 6) : fac w ≤ 720 := by
  match w, h with
  | 0, _ => decide
  | 1, _ => decide
  | 2, _ => decide
  | 3, _ => decide
  | 4, _ => decide
  | 5, _ => decide
  | 6, _ => decide
theorem cnt_bnd {ll : List (List D)} (h : prog ll = true) {p : Nat} (hp : p < 3) {pr : List D} (hpr : pr <+: ll.flatten) {m w r : Nat} (e : pr.foldl (stp p) (mst ll.flatten p, 0, 0) = (m, w, r)) : m ≤ 84707280 ∧ w ≤ 6 ∧ r ≤ 6 := by
  rw [stp_zero] at e
  simp only [Prod.mk.injEq] at e
  obtain ⟨rfl, rfl, rfl⟩ := e
  obtain ⟨t, ht⟩ := hpr
  have hw := w6 h hp
  rw [← ht, wN_app, rN_app] at hw
  have h1 := mst_le h (p := p) (by omega)
  have h2 := fac720 (w := wN p pr) (by omega)
  exact ⟨Nat.le_trans (Nat.mul_le_mul h1 h2) (by decide), by omega, by omega⟩
end M
end Go.Proofs.Ytelmclbojpbcbaa

namespace Go.Proofs.Ytelmclbojpbcbaa
open Go.RowKit

set_option maxHeartbeats 1000000 in
set_option maxRecDepth 100000 in
theorem DrawExecAll_any (ca : Option Addr) (cb co L C : Nat) (x : Nat → Int) (w : World) (hL : L ≤ C) (had : 0 < L → ca = some ⟨cb, co, none⟩) (hc : ∀ i, i < L → w.cell? ⟨cb, co + i, none⟩ = some (.int .u8 (x i)) ∧ 0 ≤ x i ∧ x i ≤ 255) (hLb : L ≤ 1048576) :
    Calls Try.prog 16 #[.slice ca L C] w fun e w' => ∃ (a : Option Addr) (g c : Nat) (mm : List (List M.D)), e = .returned (.agg #[.slice a mm.length c]) ∧ DoSN (w.heap.size + 1) w' a g 0 mm ∧ Small mm c ∧ Below w.heap.size w w' := by
  go_enter Try.func16, Try.ntmps16
  go_wp2_with fail
  have hb0 := below1 w (.cells #[.slice none 0 0] 30)
  refine (l6Open_any ca cb co L C x _ hL had (fun i hi => ⟨by rw [hb0.cell (p := ⟨cb, co + i, none⟩) (World.block_lt_of_cell? _ _ (hc i hi).1)]; exact (hc i hi).1, (hc i hi).2⟩) hLb).mono ?_
  rintro e w1 ⟨rfl, hr1, hb1⟩
  simp only [World.size_alloc] at hr1 hb1 ⊢
  have hb1w : Below w.heap.size w w1 := hb0.trans (hb1.mono (by omega))
  have hS1 := (Slot1.new w (.slice none 0 0) 30).but (But.of (rb := w.heap.size + 1) (by simpa only [World.size_alloc] using hb1)) (by omega)
  have hlt1 := hr1.lt
  clear hc had hb0 hb1
  go_wp2_with fail
  refine (l71Any_any _ (w.heap.size + 1) 0 _ (by omega) hr1).mono ?_
  rintro e w2 ⟨a, g, c, mm, rfl, hsn, hsm, p2, hp2, hr2, hb2⟩
  have hS2 := hS1.but hb2 (by omega)
  have s0 := hS2.c
  have sf := hS2.fz
  have hsl := hS2.lt
  have hbw : Below w.heap.size w w2 := But.below hb1w hb2 (by omega)
  go_wp2_with fail
  have s4 := (hS2.set (.slice a mm.length c)).c
  refine bodyPost_ret (v := .agg #[.slice a mm.length c]) (by simp [results, Try.results16, go_sem, s4]) rfl ⟨a, g, c, mm, rfl, (hsn.far (by omega)).mono (by omega), hsm, hbw.setCell (Nat.le_refl _) _⟩

end Go.Proofs.Ytelmclbojpbcbaa

namespace Go.Proofs.Ytelmclbojpbcbaa
open Go.RowKit

theorem Slot1.bel {w w' : World} {b : Nat} {x : Value} (h : Slot1 w b x) (hb : Below w.heap.size w w') : Slot1 w' b x :=
  ⟨(hb.cell (p := ⟨b, 0, none⟩) h.lt).trans h.c, (hb.frozen (p := ⟨b, 0, none⟩) h.lt).trans h.fz⟩

/-- A program, in its box. -/
structure BoxP (w W : World) (P : Nat) (a : Option Addr) (g c : Nat) (mm : List (List M.D)) : Prop where
  bel : Below w.heap.size w W
  p : Slot1 W P (.slice a mm.length c)
  ss : DoSS W a g 0 mm
theorem BoxP.below {w W W' : World} {P : Nat} {a : Option Addr} {g c : Nat} {mm : List (List M.D)} (h : BoxP w W P a g c mm) (hb : Below W.heap.size W W') : BoxP w W' P a g c mm :=
  ⟨h.bel.trans (hb.mono h.bel.size), h.p.bel hb, h.ss.below hb (Nat.le_refl _)⟩
theorem BoxP.new {w w1 : World} {a : Option Addr} {g c : Nat} {mm : List (List M.D)} (hb1 : Below w.heap.size w w1) (hs : DoSS w1 a g 0 mm) : BoxP w (w1.alloc (.cells #[.slice a mm.length c] 30)) w1.heap.size a g c mm :=
  ⟨hb1.alloc hb1.size _, Slot1.new w1 _ _, hs.below (below1 w1 _) (Nat.le_refl _)⟩
/-- One thread of it alone. -/
theorem DoSS.alone {w : World} {g o i : Nat} {mm : List (List M.D)} (h : DoSS w (some ⟨g, o, none⟩) g o mm) (hi : i < mm.length) : DoSS w (some ⟨g, o + i, none⟩) g (o + i) [mm[i]] := by
  refine ⟨fun _ => rfl, fun j hj => ?_⟩
  have : j = 0 := by simp at hj; omega
  subst this
  exact h.row i hi
theorem Small.le {mm : List (List M.D)} {c : Nat} (h : Small mm c) : ∀ t ∈ mm, t.length ≤ 1048576 := fun t ht => by have := h.steps t ht; omega

end Go.Proofs.Ytelmclbojpbcbaa

namespace Go.Proofs.Ytelmclbojpbcbaa
open Go.RowKit Go.Shelf

theorem M.pre_take {ll : List (List M.D)} {i k : Nat} (hi : i < ll.length) : (ll.take i).flatten ++ ll[i].take k <+: ll.flatten := by
  refine ⟨ll[i].drop k ++ (ll.drop (i + 1)).flatten, ?_⟩
  rw [List.append_assoc, ← List.append_assoc (ll[i].take k), List.take_append_drop]
  rw [← List.flatten_cons, List.getElem_cons_drop, ← List.flatten_append, List.take_append_drop]
theorem M.pre_next {ll : List (List M.D)} {i : Nat} (hi : i < ll.length) : (ll.take (i + 1)).flatten = (ll.take i).flatten ++ ll[i] := by
  rw [List.take_succ_eq_append_getElem hi, List.flatten_append]; simp
theorem M.spec_len {ll : List (List M.D)} (h : M.prog ll = true) : (M.specAll ll).length ≤ M.mst ll.flatten 3 := by
  rw [← M.all_same]
  unfold M.execAll
  rw [if_pos h]
  exact M.ways_mst h

set_option maxHeartbeats 4000000 in
set_option maxRecDepth 100000 in
theorem lawCount_any (ca : Option Addr) (cb co L C : Nat) (x : Nat → Int) (w : World) (hL : L ≤ C) (had : 0 < L → ca = some ⟨cb, co, none⟩) (hc : ∀ i, i < L → w.cell? ⟨cb, co + i, none⟩ = some (.int .u8 (x i)) ∧ 0 ≤ x i ∧ x i ≤ 255) :
    Calls Try.prog 6 #[.slice ca L C] w fun e w' => e = .returned (.bool true) ∧ Below w.heap.size w w' := by
  by_cases hLb : L ≤ 1048576
  · go_enter Try.func6, Try.ntmps6
    go_wp2_with fail
    refine (DrawExecAll_any ca cb co L C x _ hL had hc hLb).mono ?_
    rintro e w1 ⟨a, g, c, mm, rfl, hsn, hsm, hb1⟩
    have hls := hsm.le
    have hl3 : mm.length ≤ 1048576 := by have := hsm.three; omega
    clear had hc
    have bx0 := BoxP.new (c := c) hb1 hsn.ss
    go_wp2_with fail
    generalize w1.alloc (.cells #[.slice a mm.length c] 30) = W0 at *
    generalize w1.heap.size = P at *
    clear hsn hb1 hsm
    refine (iexecAll_any a g 0 c mm W0 hl3 hls bx0.ss).mono ?_
    rintro e W1 ⟨v1, rfl, hA⟩
    have bx1 := bx0.below hA.bel
    obtain ⟨aw, gw, cw, rfl, _, _, hlen⟩ := hA.lw
    have p1 := bx1.p.c
    clear hA bx0
    go_wp2_with fail
    refine (sexecAllW_any a g 0 c mm W1 hl3 hls bx1.ss).mono ?_
    rintro e W2 ⟨v2, rfl, hB⟩
    have bx2 := bx1.below hB.bel
    obtain ⟨a4, g4, c4, rfl, _⟩ := hB.lw
    have p2 := bx2.p.c
    have E0 : (((M.specAll mm).length : Int) != ((M.specAll mm).length : Int)) = false := by simp
    have E1 : (((M.specAll mm).length : Int) == ((M.specAll mm).length : Int)) = true := by simp
    have C9 := sprog_any a g 0 c mm W2 hl3 hls bx2.ss
    clear hB bx1 p1
    cases hp : M.prog mm
    · rw [hp] at C9
      go_wp2_with fail
      refine C9.mono ?_
      rintro e W3 ⟨rfl, b3⟩
      have bx3 := bx2.below b3
      have p3 := bx3.p.c
      go_wp2_with fail
      refine (sexecAllW_any a g 0 c mm W3 hl3 hls bx3.ss).mono ?_
      rintro e W4 ⟨v4, rfl, hB⟩
      have bx4 := bx3.below hB.bel
      obtain ⟨a5, g5, c5, rfl, _⟩ := hB.lw
      go_wp2_with fail
      go_ret
      exact ⟨ret_bool (by simp), bx4.bel⟩
    · rw [hp] at C9
      have hSL := M.spec_len hp
      have BND := fun (p : Nat) (hp3 : p < 3) (pr : List M.D) (hpr : pr <+: mm.flatten) (m w r : Nat) (e : pr.foldl (M.stp p) (M.mst mm.flatten p, 0, 0) = (m, w, r)) => M.cnt_bnd hp hp3 hpr e
      have MLE := fun (p : Nat) (hp3 : p ≤ 3) => M.mst_le hp hp3
      generalize (M.specAll mm).length = N at *
      go_wp2_with fail
      refine C9.mono ?_
      rintro e W3 ⟨rfl, b3⟩
      have bx3 := bx2.below b3
      clear C9 bx2 p2 b3 E0 E1 hp
      go_wp2_with fail
      go_loopw [5, 6] (fun s5 s6 wr => ∃ (p m : Nat), s5 = .int .i64 m ∧ s6 = .int .i64 p ∧ p ≤ 3 ∧ Hid (m = M.mst mm.flatten p) ∧ Below W3.heap.size W3 wr) (fun _ s6 _ => 3 - (intOf s6).toNat)
      case atStart => exact ⟨0, 1, rfl, rfl, by omega, by show _ = _; rfl, Below.refl _ _⟩
      case round =>
        obtain ⟨p, m, rfl, rfl, hp3, HM, hb⟩ := hrel
        by_cases hlt : p < 3
        · have i1 : (p : Int) < 3 := by omega
          have bxr := bx3.below hb
          go_wp2_with fail
          go_loopw [5, 7, 8, 9] (fun s5 s7 s8 s9 wr => ∃ (i m w r : Nat), s5 = .int .i64 m ∧ s7 = .int .i64 w ∧ s8 = .int .i64 r ∧ s9 = .int .i64 i ∧ i ≤ mm.length ∧ Hid ((mm.take i).flatten.foldl (M.stp p) (M.mst mm.flatten p, 0, 0) = (m, w, r)) ∧ Below W3.heap.size W3 wr) (fun _ _ _ s9 _ => mm.length - (intOf s9).toNat)
          case atStart => exact ⟨0, m, 0, 0, rfl, rfl, rfl, rfl, Nat.zero_le _, by show _ = _; rw [HM.out]; rfl, hb⟩
          case round =>
            clear hb bxr HM
            obtain ⟨i, m, w', r, rfl, rfl, rfl, rfl, hi, HF, hb⟩ := hrel
            have bxr := bx3.below hb
            have p9 := bxr.p.c
            by_cases hit : i < mm.length
            · have i2 : (i : Int) < mm.length := by omega
              have i3 : ¬ (i : Int) < 0 := by omega
              go_wp2_with fail
              go_loopw [5, 7, 8, 10] (fun s5 s7 s8 s10 wr => ∃ (k m w r : Nat), s5 = .int .i64 m ∧ s7 = .int .i64 w ∧ s8 = .int .i64 r ∧ s10 = .int .i64 k ∧ k ≤ mm[i].length ∧ Hid (((mm.take i).flatten ++ mm[i].take k).foldl (M.stp p) (M.mst mm.flatten p, 0, 0) = (m, w, r)) ∧ Below W3.heap.size W3 wr) (fun _ _ _ s10 _ => mm[i].length - (intOf s10).toNat)
              case atStart => exact ⟨0, m, w', r, rfl, rfl, rfl, rfl, Nat.zero_le _, by show _ = _; rw [List.take_zero, List.append_nil]; exact HF.out, hb⟩
              case round =>
                clear hb bxr HF p9
                obtain ⟨k, m, w', r, rfl, rfl, rfl, rfl, hk, HF, hb⟩ := hrel
                have bxr := bx3.below hb
                have p9 := bxr.p.c
                obtain rfl := bxr.ss.addr (by omega)
                obtain ⟨a', b', o', c', hcell, hdo⟩ := bxr.ss.row i hit
                rw [Nat.zero_add] at hcell
                have HLE := hls _ (List.getElem_mem hit)
                have HPN : Hid ((mm.take (i + 1)).flatten = (mm.take i).flatten ++ mm[i]) := M.pre_next hit
                have HPT : ∀ k, Hid ((mm.take i).flatten ++ mm[i].take k <+: mm.flatten) := fun k => M.pre_take hit
                generalize mm[i] = t at *
                by_cases hkt : k < t.length
                · have i4 : (k : Int) < t.length := by omega
                  have i5 : ¬ (k : Int) < 0 := by omega
                  obtain rfl := hdo.addr (by omega)
                  obtain ⟨d0, d1, d2⟩ := hdo.row k hkt
                  obtain ⟨bm, bw, br⟩ := BND p hlt _ (HPT k).out _ _ _ HF.out
                  have HT : Hid (((mm.take i).flatten ++ t.take (k + 1)).foldl (M.stp p) (M.mst mm.flatten p, 0, 0) = M.stp p (m, w', r) t[k]) := by
                    show _ = _
                    rw [List.take_succ_eq_append_getElem hkt, ← List.append_assoc, List.foldl_append, HF.out]; rfl
                  generalize t[k] = d at *
                  have lb : b' < wr.heap.size := World.block_lt_of_cell? _ _ d0
                  have lg : g < wr.heap.size := World.block_lt_of_cell? _ _ hcell
                  have hbN := hb.alloc hb.size (.cells #[.int .i64 d.k, .int .i64 d.p, .int .i64 d.v] 51)
                  by_cases hdp : d.p = p
                  · have q0 : (d.p != (p : Int)) = false := by simpa using hdp
                    rw [hdp] at hbN
                    have fin : ∀ (m2 w2 r2 : Nat), M.stp p (m, w', r) d = (m2, w2, r2) → Hid (((mm.take i).flatten ++ t.take (k + 1)).foldl (M.stp p) (M.mst mm.flatten p, 0, 0) = (m2, w2, r2)) := fun m2 w2 r2 e => by show _ = _; rw [HT.out, e]
                    have ew : IntKind.i64.wrap ((w' : Int) + 1) = (w' : Int) + 1 := by rw [IntKind.wrap_i64]; omega
                    have er : IntKind.i64.wrap ((r : Int) + 1) = (r : Int) + 1 := by rw [IntKind.wrap_i64]; omega
                    have hmw : m * (w' + 1) ≤ 592950960 := Nat.le_trans (Nat.mul_le_mul bm (show w' + 1 ≤ 7 by omega)) (by decide)
                    have em : IntKind.i64.wrap ((m : Int) * ((w' : Int) + 1)) = (m : Int) * ((w' : Int) + 1) := by
                      have : (m : Int) * ((w' : Int) + 1) = ((m * (w' + 1) : Nat) : Int) := by push_cast; rfl
                      rw [this, IntKind.wrap_i64]; omega
                    by_cases k1 : d.k = 1 ∨ d.k = 3 ∨ d.k = 6
                    · have F := fin (m * (w' + 1)) (w' + 1) r (by
                        have : M.writes d.k = true := by rcases k1 with e | e | e <;> simp [M.writes, M.stores, e]
                        simp [M.stp, hdp, this])
                      rcases k1 with e | e | e
                      all_goals
                        rw [e] at d0
                        go_wp2_with fail
                        exact ⟨⟨k + 1, m * (w' + 1), w' + 1, r, by push_cast; rfl, by push_cast; rfl, rfl, by go_num, by omega, F, by simpa [e] using hbN⟩, by simp [intOf]; omega⟩
                    · by_cases k2 : d.k = 2 ∨ d.k = 5
                      · have F := fin m w' (r + 1) (by
                          have h1 : M.reads d.k = true := by rcases k2 with e | e <;> simp [M.reads, e]
                          have h2 := M.rd_not_wr h1
                          simp [M.stp, hdp, h1, h2])
                        rcases k2 with e | e
                        all_goals
                          rw [e] at d0
                          go_wp2_with fail
                          exact ⟨⟨k + 1, m, w', r + 1, rfl, rfl, by push_cast; rfl, by go_num, by omega, F, by simpa [e] using hbN⟩, by simp [intOf]; omega⟩
                      · have F := fin m w' r (by
                          have h1 : M.reads d.k = false := by simp [M.reads]; omega
                          have h2 : M.writes d.k = false := by simp [M.writes, M.stores]; omega
                          simp [M.stp, hdp, h1, h2])
                        have e1 : (d.k == 1) = false := by simp; omega
                        have e2 : (d.k == 2) = false := by simp; omega
                        have e3 : (d.k == 3) = false := by simp; omega
                        have e5 : (d.k == 5) = false := by simp; omega
                        have e6 : (d.k == 6) = false := by simp; omega
                        go_wp2_with fail
                        exact ⟨⟨k + 1, m, w', r, rfl, rfl, rfl, by go_num, by omega, F, hbN⟩, by simp [intOf]; omega⟩
                  · have q0 : (d.p != (p : Int)) = true := by simpa using hdp
                    have F : Hid (((mm.take i).flatten ++ t.take (k + 1)).foldl (M.stp p) (M.mst mm.flatten p, 0, 0) = (m, w', r)) := by show _ = _; rw [HT.out]; simp [M.stp, hdp]
                    go_wp2_with fail
                    exact ⟨⟨k + 1, m, w', r, rfl, rfl, rfl, by go_num, by omega, F, hbN⟩, by simp [intOf]; omega⟩
                · have i4 : ¬ (k : Int) < t.length := by omega
                  have F : Hid ((mm.take (i + 1)).flatten.foldl (M.stp p) (M.mst mm.flatten p, 0, 0) = (m, w', r)) := by show _ = _; rw [HPN.out, ← HF.out, List.take_of_length_le (show t.length ≤ k by omega)]
                  go_wp2_with fail
                  exact ⟨⟨i + 1, m, w', r, rfl, rfl, rfl, by go_num, by omega, F, hb⟩, by simp [intOf]; omega⟩
            · have i2 : ¬ (i : Int) < mm.length := by omega
              have HF2 := HF.out
              rw [List.take_of_length_le (by omega)] at HF2
              obtain ⟨bm, bw, br⟩ := BND p hlt _ (List.prefix_refl _) _ _ _ HF2
              rw [M.stp_zero] at HF2
              simp only [Prod.mk.injEq] at HF2
              obtain ⟨em0, ew0, er0⟩ := HF2
              have HX : Hid (m * (w' + 1) ^ r = M.mst mm.flatten (p + 1)) := by show _ = _; rw [M.mst, M.plc, em0, ew0, er0]
              have hmx := MLE (p + 1) (by omega)
              clear em0 ew0 er0 HF
              go_wp2_with fail
              go_loopw [5, 8] (fun s5 s8 wr => ∃ (m r : Nat), s5 = .int .i64 m ∧ s8 = .int .i64 r ∧ r ≤ 6 ∧ Hid (m * (w' + 1) ^ r = M.mst mm.flatten (p + 1)) ∧ Below W3.heap.size W3 wr) (fun _ s8 _ => (intOf s8).toNat)
              case atStart => exact ⟨m, r, rfl, rfl, br, HX, hb⟩
              case round =>
                clear hb bxr HX p9 bm br
                obtain ⟨m, r, rfl, rfl, hr, HX, hb⟩ := hrel
                cases r with
                | zero =>
                  have e0 : Hid (m = M.mst mm.flatten (p + 1)) := by show _ = _; have := HX.out; rw [Nat.pow_zero, Nat.mul_one] at this; exact this
                  clear HX
                  go_wp2_with fail
                  exact ⟨⟨p + 1, m, rfl, by go_num, by omega, e0, hb⟩, by simp [intOf]; omega⟩
                | succ r =>
                  have hm1 : m * (w' + 1) ≤ 117649 := by
                    have h1 := HX.out
                    rw [Nat.pow_succ, Nat.mul_comm ((w' + 1) ^ r), ← Nat.mul_assoc] at h1
                    have h2 : 0 < (w' + 1) ^ r := Nat.pow_pos (Nat.succ_pos _)
                    have h3 := Nat.le_mul_of_pos_right (m * (w' + 1)) h2
                    omega
                  have HX2 : Hid (m * (w' + 1) * (w' + 1) ^ r = M.mst mm.flatten (p + 1)) := by
                    show _ = _
                    rw [← HX.out, Nat.pow_succ, Nat.mul_comm ((w' + 1) ^ r), ← Nat.mul_assoc]
                  clear HX
                  have ew : IntKind.i64.wrap ((w' : Int) + 1) = (w' : Int) + 1 := by rw [IntKind.wrap_i64]; omega
                  have em : IntKind.i64.wrap ((m : Int) * ((w' : Int) + 1)) = (m : Int) * ((w' : Int) + 1) := by
                    have : (m : Int) * ((w' : Int) + 1) = ((m * (w' + 1) : Nat) : Int) := by push_cast; rfl
                    rw [this, IntKind.wrap_i64]; omega
                  have er : IntKind.i64.wrap (r : Int) = r := by rw [IntKind.wrap_i64]; omega
                  have i6 : (0 : Int) < (r : Int) + 1 := by omega
                  simp only [Int.natCast_succ] at *
                  go_wp2_with fail
                  exact ⟨⟨m * (w' + 1), r, by push_cast; rfl, rfl, by omega, HX2, hb⟩, by simp [intOf]⟩
        · have i1 : ¬ (p : Int) < 3 := by omega
          have hpe : p = 3 := by omega
          subst hpe
          have hle : (N : Int) ≤ m := by have := HM.out; omega
          go_wp2_with fail
          go_ret
          exact ⟨ret_bool (by simp), (bx3.below hb).bel⟩
  · go_enter Try.func6, Try.ntmps6
    go_wp2_with fail
    go_ret
    exact ⟨rfl, Below.refl _ _⟩

end Go.Proofs.Ytelmclbojpbcbaa
