/- The events of one program among those of another one: the ways of the one are the ways of the other. Plainly. No condition but what is said. laws.lpPlain: whether a program only reads and stores, at one place. Of at most 1048576 threads and steps. -/
import Derived.Test.YtphijhpleemjoaaGreatBAag
import Derived.Test.YtphijhpleemjoaaGreatBAbj
import Derived.Test.YtphijhpleemjoaaGreatBAby
namespace Go.Proofs.YtphijhpleemjoaaGreat
namespace M
def up (f : Nat → Nat) (z : Int) : Int := if z < 0 then z else (f z.toNat : Int)
theorem lt_of_get {α : Type} {l : List α} {n : Nat} {x : α} (h : l[n]? = some x) : n < l.length := (List.getElem?_eq_some_iff.1 h).1
theorem mem_of_get {α : Type} {l : List α} {n : Nat} {x : α} (h : l[n]? = some x) : x ∈ l := List.mem_of_getElem? h
def Fro (ds : List De) (l : List Int) : Prop := ∀ (a : Nat) (x : De), ds[a]? = some x → if x.reads then l.getD a 0 = -1 ∨ ∃ (b : Nat) (y : De), l.getD a 0 = (b : Int) ∧ ds[b]? = some y ∧ y.to x.d.p = true else l.getD a 0 = -2
structure WO (ds : List De) (l : List Int) (rows : List (List Int)) : Prop where
 len : l.length = ds.length
 fro : Fro ds l
 three : rows.length = 3
 row : ∀ p : Int, 0 ≤ p → p < 3 → (rows.getD p.toNat []).Perm (wrs p 0 ds)
 fin : ends ds l = true
theorem isRow_iff {row evs : List Int} (hn : evs.Nodup) : isRow row evs = true ↔ row.Perm evs := by
 simp only [isRow, Bool.and_eq_true, decide_eq_true_eq, List.all_eq_true]
 constructor
 ·rintro ⟨h1, h2⟩
  exact (perm_of evs row hn (fun v hv => by simpa using h2 v hv) (by omega)).symm
 ·intro h
  exact ⟨h.length_eq, fun v hv => by simpa using h.mem_iff.2 hv⟩
theorem wo_iff {ds : List De} {l : List Int} {rows : List (List Int)} : wayOk ds l rows = true ↔ WO ds l rows := by
 simp only [wayOk, Bool.and_eq_true, fromOk, orderOk, decide_eq_true_eq]
 have fr : ∀ (h : l.length = ds.length), fromAt ds ds l = true ↔ Fro ds l := fun h => by
  rw [fromAt_iff ds l h]
  constructor
  ·intro hk a x hx
   obtain ⟨ha, rfl⟩ := List.getElem?_eq_some_iff.1 hx
   have := hk a ha
   rw [mayTell_iff] at this
   split at this
   ·rename_i hr
    rw [if_pos hr]
    refine this.imp id fun hm => ?_
    obtain ⟨i, hi, e, ht⟩ := mem_wrs.1 hm
    exact ⟨i, ds[i], by rw [e]; simp, List.getElem?_eq_getElem hi, ht⟩
   ·rename_i hr
    rw [if_neg hr]
    exact this
  ·intro hk a ha
   have := hk a _ (List.getElem?_eq_getElem ha)
   rw [mayTell_iff]
   split at this
   ·rename_i hr
    rw [if_pos hr]
    refine this.imp id fun ⟨b, y, e, hy, ht⟩ => ?_
    obtain ⟨hb, rfl⟩ := List.getElem?_eq_some_iff.1 hy
    rw [e]
    exact mem_wrs.2 ⟨b, hb, by simp, ht⟩
   ·rename_i hr
    rw [if_neg hr]
    exact this
 have od : ∀ (h : rows.length = 3), orderAt ds 0 rows = true ↔ ∀ p : Int, 0 ≤ p → p < 3 → (rows.getD p.toNat []).Perm (wrs p 0 ds) := fun h => by
  match rows, h with
  | [r0, r1, r2], _ =>
   simp only [orderAt, Bool.and_eq_true, and_true]
   rw [isRow_iff (nodup_wrs _ _ _), isRow_iff (nodup_wrs _ _ _), isRow_iff (nodup_wrs _ _ _)]
   constructor
   ·rintro ⟨h0, h1, h2⟩ p hp hp3
    rcases (show p = 0 ∨ p = 1 ∨ p = 2 by omega) with rfl | rfl | rfl
    ·exact h0
    ·exact h1
    ·exact h2
   ·intro hk
    exact ⟨hk 0 (by omega) (by omega), hk 1 (by omega) (by omega), hk 2 (by omega) (by omega)⟩
 constructor
 ·rintro ⟨⟨h1, h2⟩, ⟨h3, h4⟩, h5⟩
  exact ⟨h1, (fr h1).1 h2, h3, (od h3).1 h4, h5⟩
 ·intro h
  exact ⟨⟨h.len, (fr h.len).2 h.fro⟩, ⟨h.three, (od h.three).2 h.row⟩, h.fin⟩
section
variable {ds es : List De} {f : Nat → Nat} {g v : Int → Int}
end
end M
end Go.Proofs.YtphijhpleemjoaaGreat
namespace Go.Proofs.YtphijhpleemjoaaGreat
open Go.RowKit
namespace M
def plainD (d : D) : Bool := d.p == 0 && decide (d.k ≤ 6)
def plainP (ll : List (List D)) : Bool := ll.all fun t => t.all plainD
theorem plainP_no {ll : List (List D)} {t : List D} {d : D} (ht : t ∈ ll) (hd : d ∈ t) (h : plainD d = false) : plainP ll = false := by
 cases hp : plainP ll
 ·rfl
 ·have := List.all_eq_true.1 (List.all_eq_true.1 hp t ht) d hd
  rw [h] at this; cases this
theorem plainP_yes {ll : List (List D)} (h : plainP ll = true) : ∀ t ∈ ll, ∀ d ∈ t, d.p = 0 ∧ d.k ≤ 6 := fun t ht d hd => by
 have := List.all_eq_true.1 (List.all_eq_true.1 h t ht) d hd
 simpa [plainD] using this
end M
set_option maxHeartbeats 2000000 in
set_option maxRecDepth 100000 in
theorem lpPlain_any (a : Option Addr) (b o c : Nat) (ll : List (List M.D)) (w : World) (hl : ll.length ≤ 1048576) (hls : ∀ t ∈ ll, t.length ≤ 1048576) (h : DoSS w a b o ll) :
  Calls Tryz.prog 28 #[.agg #[.slice a ll.length c]] w fun e w' => e = .returned (.bool (M.plainP ll)) ∧ Below w.heap.size w w' := by
 have hb0 := below1 w (.cells #[.slice a ll.length c] 25)
 have k0 : (w.alloc (.cells #[.slice a ll.length c] 25)).cell? ⟨w.heap.size, 0, none⟩ = some (.slice a ll.length c) := by simp
 have hp0 := h.below hb0 (Nat.le_refl _)
 go_enter Tryz.func28, Tryz.ntmps28
 go_wp2_with fail
 generalize w.alloc (.cells #[.slice a ll.length c] 25) = W at *
 clear h
 go_loopw [3] (fun s3 wr => ∃ n : Nat, s3 = .int .i64 n ∧ n ≤ ll.length ∧ Hid (∀ i (h : i < ll.length), i < n → ∀ d ∈ ll[i], M.plainD d = true) ∧ Below W.heap.size W wr) (fun s3 _ => ll.length - (intOf s3).toNat)
 case atStart => exact ⟨0, rfl, Nat.zero_le _, fun i _ hi => absurd hi (Nat.not_lt_zero _), Below.refl _ _⟩
 case round =>
  obtain ⟨n, rfl, hn, HA, hbw⟩ := hrel
  have hb0w := hb0.trans (hbw.mono hb0.size)
  have k1 := (hbw.cell (p := ⟨w.heap.size, 0, none⟩) (World.block_lt_of_cell? _ _ k0)).trans k0
  by_cases hlt : n < ll.length
  ·have i1 : (n : Int) < ll.length := by omega
   obtain ⟨rfl⟩ := hp0.addr (by omega)
   obtain ⟨ta, tb, to', tc, hc0, ht0⟩ := hp0.row n hlt
   have hc := (hbw.cell (p := ⟨b, o + n, none⟩) (World.block_lt_of_cell? _ _ hc0)).trans hc0
   have htl := hls _ (List.getElem_mem hlt)
   obtain ⟨t, hte⟩ : ∃ t, ll[n] = t := ⟨_, rfl⟩
   rw [hte] at hc hc0 ht0 htl
   have HT : Hid (ll[n] = t) := hte
   clear hte
   go_wp2_with fail
   go_loopw [4] (fun s4 wr => ∃ m : Nat, s4 = .int .i64 m ∧ m ≤ t.length ∧ Hid (∀ i (h : i < t.length), i < m → M.plainD t[i] = true) ∧ Below W.heap.size W wr) (fun s4 _ => t.length - (intOf s4).toNat)
   case atStart => exact ⟨0, rfl, Nat.zero_le _, fun i _ hi => absurd hi (Nat.not_lt_zero _), hbw⟩
   case round =>
    clear hbw hb0w k1 hc
    obtain ⟨m, rfl, hm, HB, hbw⟩ := hrel
    have hb0w := hb0.trans (hbw.mono hb0.size)
    have k1 := (hbw.cell (p := ⟨w.heap.size, 0, none⟩) (World.block_lt_of_cell? _ _ k0)).trans k0
    have hc := (hbw.cell (p := ⟨b, o + n, none⟩) (World.block_lt_of_cell? _ _ hc0)).trans hc0
    have ht := ht0.below hbw (Nat.le_refl _)
    by_cases hlm : m < t.length
    ·have i2 : (m : Int) < t.length := by omega
     obtain ⟨rfl⟩ := ht.addr (by omega)
     obtain ⟨c0, c1, c2⟩ := ht.row m hlm
     obtain ⟨d, hd⟩ : ∃ d, t[m] = d := ⟨_, rfl⟩
     rw [hd] at c0 c1 c2
     have HD : Hid (t[m] = d) := hd
     clear hd
     by_cases e1 : d.p = 0
     ·by_cases e2 : d.k ≤ 6
      ·have e3 : (d.p != 0) = false := by simp [e1]
       have hnk : ¬ 6 < d.k := by omega
       have HB2 : Hid (∀ i (h : i < t.length), i < m + 1 → M.plainD t[i] = true) := fun i h hi => by
        by_cases e : i = m
        ·subst e; rw [HD.out]; simp [M.plainD, e1, e2]
        ·exact HB.out i h (by omega)
       clear e1 e2
       go_wp2_with fail
       exact ⟨⟨m + 1, by go_num, by omega, HB2, hbw⟩, by simp [intOf]; omega⟩
      ·have hk6 : 6 < d.k := by omega
       have e3 : (d.p != 0) = false := by simp [e1]
       have HF : Hid (M.plainP ll = false) := M.plainP_no (List.getElem_mem hlt) (by rw [HT.out]; exact List.getElem_mem hlm) (by rw [HD.out]; simp [M.plainD, e2])
       clear e1 e2
       go_wp2_with fail
       go_ret
       exact ⟨ret_bool HF.out.symm, hb0w⟩
     ·have e3 : (d.p != 0) = true := by simp [e1]
      have HF : Hid (M.plainP ll = false) := M.plainP_no (List.getElem_mem hlt) (by rw [HT.out]; exact List.getElem_mem hlm) (by rw [HD.out]; simp [M.plainD, e1])
      clear e1
      go_wp2_with fail
      go_ret
      exact ⟨ret_bool HF.out.symm, hb0w⟩
    ·have i2 : ¬ (m : Int) < t.length := by omega
     have HA2 : Hid (∀ i (h : i < ll.length), i < n + 1 → ∀ d ∈ ll[i], M.plainD d = true) := fun i h hi d hd => by
      by_cases e : i = n
      ·subst e
       rw [HT.out] at hd
       obtain ⟨q, hq, rfl⟩ := List.getElem_of_mem hd
       exact HB.out q hq (by omega)
      ·exact HA.out i h (by omega) d hd
     go_wp2_with fail
     exact ⟨⟨n + 1, by go_num, by omega, HA2, hbw⟩, by simp [intOf]; omega⟩
  ·have i1 : ¬ (n : Int) < ll.length := by omega
   have HF : Hid (M.plainP ll = true) := by
    show _ = _
    refine List.all_eq_true.2 fun t ht => List.all_eq_true.2 fun d hd => ?_
    obtain ⟨q, hq, rfl⟩ := List.getElem_of_mem ht
    exact HA.out q hq (by omega) d hd
   go_wp2_with fail
   go_ret
   exact ⟨ret_bool HF.out.symm, hb0w⟩
end Go.Proofs.YtphijhpleemjoaaGreat
