/- impl's countKinds over usesPlace. Of threads of at most 1048576 steps. impl's ProgOk. Of programs of at most 1048576 threads, each of at most 1048576 steps. Whether a number is among others: slices.Index and slices.Contains over numbers, spec.l12Has. Of at most 1048576 numbers. -/
import Derived.Test.YtphijhpleemjoaaGreatBFae
import Derived.Test.YtphijhpleemjoaaGreatBFaf
namespace Go.Proofs.YtphijhpleemjoaaGreat
open Go.RowKit
theorem M.cnt_step {f : Int → Bool} {l : List M.D} {m n : Nat} {d : M.D} (hp : M.cnt f l = m + M.cnt f (l.drop n)) (hd : l.drop n = d :: l.drop (n + 1)) {m' : Nat} (hm : m' = m + if f d.k then 1 else 0) : M.cnt f l = m' + M.cnt f (l.drop (n + 1)) := by
 subst hm; rw [hp, hd, M.cnt_cons]; omega
theorem M.cnt_fin {f : Int → Bool} {l : List M.D} {m n : Nat} (hp : M.cnt f l = m + M.cnt f (l.drop n)) (hn : l.length ≤ n) : m = M.cnt f l := by
 rw [hp, List.drop_eq_nil_of_le hn]; rfl
theorem ret_int {k : IntKind} {a b : Int} (h : a = b) : Ending.returned (.int k a) = .returned (.int k b) := by rw [h]
set_option maxHeartbeats 400000 in
theorem cntUses_any (a : Option Addr) (b o c : Nat) (l : List M.D) (w : World) (hl : l.length ≤ 1048576) (h : DoS w a b o l) :
  Calls Tryz.prog 83 #[.slice a l.length c, .func (.func 84) #[] #[]] w fun e w' => e = .returned (.int .i64 (M.cnt M.uses l)) ∧ Below w.heap.size w w' := by
 go_enter Tryz.func83, Tryz.ntmps83
 go_wp2_with fail
 go_loopw [5, 10] (fun s5 s10 wr => ∃ m n : Nat, s5 = .int .i64 m ∧ s10 = .int .i64 n ∧ n ≤ l.length ∧ m ≤ n ∧ M.cnt M.uses l = m + M.cnt M.uses (l.drop n) ∧ Below w.heap.size w wr) (fun _ s10 _ => l.length - (intOf s10).toNat)
 case atStart => exact ⟨0, 0, rfl, rfl, Nat.zero_le _, Nat.le_refl _, by simp, Below.refl _ _⟩
 case round =>
  obtain ⟨m, n, rfl, rfl, hn, hmn, hpass, hbel⟩ := hrel
  have HP : Hid (M.cnt M.uses l = m + M.cnt M.uses (l.drop n)) := hpass
  clear hpass
  by_cases hlt : n < l.length
  ·obtain ⟨rfl⟩ := h.addr (by omega)
   have hd := (h.row n hlt).below hbel (Nat.le_refl _)
   have HD : Hid (l.drop n = l[n] :: l.drop (n + 1)) := M.drop_at l n hlt
   generalize l[n] = d at hd HD
   obtain ⟨k, p, v⟩ := d
   obtain ⟨ck, cp, cv⟩ := hd
   cases hu : M.uses k
   ·go_wp2_with (go_at_call 84; refine (uses_any _ _).mono ?_; rintro e w1 ⟨rfl, rfl⟩)
    exact ⟨⟨m, n + 1, rfl, by go_num, by omega, by omega, M.cnt_step HP.out HD.out (by simp [hu]), hbel.alloc hbel.size _⟩, by simp [intOf]; omega⟩
   ·go_wp2_with (go_at_call 84; refine (uses_any _ _).mono ?_; rintro e w1 ⟨rfl, rfl⟩)
    exact ⟨⟨m + 1, n + 1, by go_num, by go_num, by omega, by omega, M.cnt_step HP.out HD.out (by simp [hu]), hbel.alloc hbel.size _⟩, by simp [intOf]; omega⟩
  ·go_wp2_with fail
   go_ret
   exact ⟨ret_int (by rw [M.cnt_fin HP.out (by omega)]), hbel⟩
end Go.Proofs.YtphijhpleemjoaaGreat
namespace Go.Proofs.YtphijhpleemjoaaGreat
open Go.RowKit
structure DoSS (w : World) (a : Option Addr) (b o : Nat) (ll : List (List M.D)) : Prop where
 addr : 0 < ll.length → a = some ⟨b, o, none⟩
 row : ∀ i (h : i < ll.length), ∃ a' b' o' c', w.cell? ⟨b, o + i, none⟩ = some (.slice a' ll[i].length c') ∧ DoS w a' b' o' ll[i]
theorem DoSS.below {w w' : World} {a : Option Addr} {B b o : Nat} {ll : List (List M.D)} (h : DoSS w a b o ll) (hb : Below B w w') (hB : w.heap.size ≤ B) : DoSS w' a b o ll := by
 refine ⟨h.addr, fun i hi => ?_⟩
 obtain ⟨a', b', o', c', hc, hd⟩ := h.row i hi
 have hl := World.block_lt_of_cell? _ _ hc
 exact ⟨a', b', o', c', by rw [hb.cell (p := ⟨b, o + i, none⟩) (by show b < B; exact Nat.lt_of_lt_of_le hl hB)]; exact hc, hd.below hb hB⟩
theorem M.thread_le {t : List M.D} (h : M.thread t = true) : t.length ≤ 7 := by
 simp only [M.thread, Bool.and_eq_true, decide_eq_true_eq] at h; exact h.1.1.1
theorem M.drop_at' (l : List (List M.D)) (n : Nat) (h : n < l.length) : l.drop n = l[n] :: l.drop (n + 1) := (List.getElem_cons_drop h).symm
theorem M.from_bad {l : List (List M.D)} {x u n : Nat} {t : List M.D} (hp : M.progFrom 0 0 l = M.progFrom x u (l.drop n)) (hd : l.drop n = t :: l.drop (n + 1)) (hb : M.thread t = false) : M.prog l = false := by
 simp [M.prog, hp, hd, M.progFrom, hb]
theorem M.from_ok {l : List (List M.D)} {x u n : Nat} {t : List M.D} (hp : M.progFrom 0 0 l = M.progFrom x u (l.drop n)) (hd : l.drop n = t :: l.drop (n + 1)) (hb : M.thread t = true) : M.progFrom 0 0 l = M.progFrom (x + t.length) (u + M.cnt M.uses t) (l.drop (n + 1)) := by
 rw [hp, hd]; simp [M.progFrom, hb]
theorem M.from_fin {l : List (List M.D)} {x u n : Nat} (hp : M.progFrom 0 0 l = M.progFrom x u (l.drop n)) (hn : l.length ≤ n) (h3 : l.length ≤ 3) : M.prog l = (decide (x ≤ 14) && decide (u ≤ 6)) := by
 rw [List.drop_eq_nil_of_le hn] at hp
 simp [M.prog, hp, M.progFrom, h3]
set_option maxHeartbeats 400000 in
theorem iprog_any (a : Option Addr) (b o c : Nat) (ll : List (List M.D)) (w : World) (hl : ll.length ≤ 1048576) (hls : ∀ t ∈ ll, t.length ≤ 1048576) (h : DoSS w a b o ll) :
    Calls Tryz.prog 43 #[.agg #[.slice a ll.length c]] w fun e w' => e = .returned (.bool (M.prog ll)) ∧ Below w.heap.size w w' := by
  by_cases h3 : ll.length ≤ 3
  · have h3' : ¬ (3 : Int) < ll.length := by omega
    go_enter Tryz.func43, Tryz.ntmps43
    go_wp2_with fail
    go_loopw [3, 4, 14] (fun s3 s4 s14 wr => ∃ x u n : Nat, s3 = .int .i64 x ∧ s4 = .int .i64 u ∧ s14 = .int .i64 n ∧ n ≤ ll.length ∧ x ≤ 7 * n ∧ u ≤ 7 * n ∧ M.progFrom 0 0 ll = M.progFrom x u (ll.drop n) ∧ Below w.heap.size w wr) (fun _ _ s14 _ => ll.length - (intOf s14).toNat)
    case atStart => exact ⟨0, 0, 0, rfl, rfl, rfl, Nat.zero_le _, Nat.le_refl _, Nat.le_refl _, rfl, below1 _ _⟩
    case round =>
      obtain ⟨x, u, n, rfl, rfl, rfl, hn, hx, hu, hpass, hbel⟩ := hrel
      have HP : Hid (M.progFrom 0 0 ll = M.progFrom x u (ll.drop n)) := hpass
      clear hpass
      by_cases hlt : n < ll.length
      · obtain ⟨rfl⟩ := h.addr (by omega)
        obtain ⟨a', b', o', c', hc, hd⟩ := (h.below hbel (Nat.le_refl _)).row n hlt
        have HD : Hid (ll.drop n = ll[n] :: ll.drop (n + 1)) := M.drop_at' ll n hlt
        have hlt' := hls _ (List.getElem_mem hlt)
        generalize ll[n] = t at hd hc HD hlt'
        cases ht : M.thread t
        · go_wp2_with (go_at_call 82; refine (ithread_any a' b' o' c' t _ hlt' hd).mono ?_; rintro e w1 ⟨rfl, hb1⟩)
          go_ret
          exact ⟨ret_bool (M.from_bad HP.out HD.out ht).symm, hbel.trans (hb1.mono hbel.size)⟩
        · have ht7 := M.thread_le ht
          have hcn := M.cnt_le M.uses t
          go_wp2_with (first | (go_at_call 82; refine (ithread_any a' b' o' c' t _ hlt' hd).mono ?_; rintro e w1 ⟨rfl, hb1⟩) | (go_at_call 83; refine (cntUses_any a' b' o' c' t _ hlt' (hd.below hb1 (Nat.le_refl _))).mono ?_; rintro e w2 ⟨rfl, hb2⟩))
          exact ⟨⟨x + t.length, u + M.cnt M.uses t, n + 1, by go_num, by go_num, by go_num, by omega, by omega, by omega, M.from_ok HP.out HD.out ht, (hbel.trans (hb1.mono hbel.size)).trans (hb2.mono (Nat.le_trans hbel.size hb1.size))⟩, by simp [intOf]; omega⟩
      · by_cases hx14 : (x : Int) ≤ 14
        · go_wp2_with fail
          go_ret
          exact ⟨ret_bool (by rw [M.from_fin HP.out (by omega) h3]; have : x ≤ 14 := by omega
                              simp [this]; omega), hbel⟩
        · have hx14' : decide ((x : Int) ≤ 14) = false := by simpa using hx14
          go_wp2_with fail
          go_ret
          exact ⟨ret_bool (by rw [M.from_fin HP.out (by omega) h3]; have : ¬ x ≤ 14 := by omega
                              simp [this]), hbel⟩
  · have h3' : (3 : Int) < ll.length := by omega
    go_enter Tryz.func43, Tryz.ntmps43
    go_wp2_with fail
    go_ret
    exact ⟨ret_bool (by simp [M.prog, h3]), below1 _ _⟩
end Go.Proofs.YtphijhpleemjoaaGreat
namespace Go.Proofs.YtphijhpleemjoaaGreat
open Go.RowKit
namespace M
def has (l : List Int) (v : Int) : Bool := l.contains v
theorem has_hit {l : List Int} {v : Int} {n : Nat} (hn : n < l.length) (h : l[n] = v) : has l v = true := by
 simp [has]; rw [← h]; exact List.getElem_mem hn
theorem has_fin {l : List Int} {v : Int} (h : ∀ i (_ : i < l.length), l[i] ≠ v) : has l v = false := by
 simp only [has, List.contains_eq_mem, decide_eq_false_iff_not]
 intro hm
 obtain ⟨i, hi, e⟩ := List.getElem_of_mem hm
 exact h i hi e
end M
set_option maxHeartbeats 400000 in
theorem indexI_any (a : Option Addr) (b o c : Nat) (l : List Int) (v : Int) (w : World) (hl : l.length ≤ 1048576) (h : IntS w a b o l) :
  Calls Tryz.prog 206 #[.slice a l.length c, .int .i64 v] w fun e w' => ∃ r : Int, e = .returned (.int .i64 r) ∧ decide (0 ≤ r) = M.has l v ∧ w' = w := by
 go_enter Tryz.func206, Tryz.ntmps206
 go_wp2_with fail
 go_loopw [8] (fun s8 wr => ∃ n : Nat, s8 = .int .i64 n ∧ n ≤ l.length ∧ Hid (∀ i (_ : i < n) (h : i < l.length), l[i] ≠ v) ∧ wr = w) (fun s8 _ => l.length - (intOf s8).toNat)
 case atStart => exact ⟨0, rfl, Nat.zero_le _, fun i hi => absurd hi (Nat.not_lt_zero _), rfl⟩
 case round =>
  obtain ⟨n, rfl, hn, HA, rfl⟩ := hrel
  by_cases hlt : n < l.length
  ·obtain ⟨rfl⟩ := h.addr (by omega)
   have hx := h.row n hlt
   obtain ⟨y, hy⟩ : ∃ y, l[n] = y := ⟨_, rfl⟩
   have HY : Hid (l[n] = y) := hy
   rw [hy] at hx
   clear hy
   have i1 : (n : Int) < l.length := by omega
   by_cases e : v = y
   ·subst e
    go_wp2_with fail
    go_ret
    exact ⟨n, rfl, by rw [M.has_hit hlt HY.out]; simp, rfl⟩
   ·have e' : (v == y) = false := by simpa using e
    go_wp2_with fail
    exact ⟨⟨n + 1, by go_num, by omega, fun i hi hl => by
     by_cases ei : i = n
     ·subst ei; rw [HY.out]; exact fun h => e h.symm
     ·exact HA.out i (by omega) hl, trivial⟩, by simp [intOf]; omega⟩
  ·go_wp2_with fail
   go_ret
   exact ⟨-1, rfl, by rw [M.has_fin (fun i hi => HA.out i (by omega) hi)]; rfl, rfl⟩
theorem containsI_any (a : Option Addr) (b o c : Nat) (l : List Int) (v : Int) (w : World) (hl : l.length ≤ 1048576) (h : IntS w a b o l) :
  Calls Tryz.prog 178 #[.slice a l.length c, .int .i64 v] w fun e w' => e = .returned (.bool (M.has l v)) ∧ w' = w := by
 go_enter Tryz.func178, Tryz.ntmps178
 go_wp2_with (go_at_call 206; refine (indexI_any a b o c l v _ hl h).mono ?_; rintro e w' ⟨r, rfl, hr, rfl⟩)
 go_ret
 exact ⟨rfl, rfl⟩
set_option maxHeartbeats 400000 in
theorem l12Has_any (a : Option Addr) (b o c : Nat) (l : List Int) (v : Int) (w : World) (hl : l.length ≤ 1048576) (h : IntS w a b o l) :
  Calls Tryz.prog 157 #[.slice a l.length c, .int .i64 v] w fun e w' => e = .returned (.bool (M.has l v)) ∧ w' = w := by
 go_enter Tryz.func157, Tryz.ntmps157
 go_wp2_with fail
 go_loopw [5] (fun s5 wr => ∃ n : Nat, s5 = .int .i64 n ∧ n ≤ l.length ∧ Hid (∀ i (_ : i < n) (h : i < l.length), l[i] ≠ v) ∧ wr = w) (fun s5 _ => l.length - (intOf s5).toNat)
 case atStart => exact ⟨0, rfl, Nat.zero_le _, fun i hi => absurd hi (Nat.not_lt_zero _), rfl⟩
 case round =>
  obtain ⟨n, rfl, hn, HA, rfl⟩ := hrel
  by_cases hlt : n < l.length
  ·obtain ⟨rfl⟩ := h.addr (by omega)
   have hx := h.row n hlt
   obtain ⟨y, hy⟩ : ∃ y, l[n] = y := ⟨_, rfl⟩
   have HY : Hid (l[n] = y) := hy
   rw [hy] at hx
   clear hy
   have i1 : (n : Int) < l.length := by omega
   by_cases e : y = v
   ·subst e
    go_wp2_with fail
    go_ret
    exact ⟨ret_bool (M.has_hit hlt HY.out).symm, rfl⟩
   ·have e' : (y == v) = false := by simpa using e
    go_wp2_with fail
    exact ⟨⟨n + 1, by go_num, by omega, fun i hi hl => by
     by_cases ei : i = n
     ·subst ei; rw [HY.out]; exact e
     ·exact HA.out i (by omega) hl, trivial⟩, by simp [intOf]; omega⟩
  ·go_wp2_with fail
   go_ret
   exact ⟨ret_bool (M.has_fin (fun i hi => HA.out i (by omega) hi)).symm, rfl⟩
end Go.Proofs.YtphijhpleemjoaaGreat
