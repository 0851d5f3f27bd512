/- The order of what was seen is one: two are the same, or one stands ahead; what stands ahead of what stands ahead stands ahead. No condition. How impl and spec compare what was seen: cmp.Compare, slices.Compare, cmp.Or, impl.compareSeen; spec.l2Comp, l2Seen. Of lists of at most 1048576 numbers. impl.compareSeen; spec.l2Comp, l2Seen. Of lists of at most 1048576 numbers. impl's and spec's ProgReads: how many reads a program has. Of programs of at most 1048576 threads, each of at most 1048576 steps. impl's and spec's SeenOk. Of programs of at most 1048576 threads, each of at most 1048576 steps, and of lists of at most 1048576 numbers. impl's and spec's SeenLess. Of lists of at most 1048576 numbers. The laws' own comparing: laws.lpInts, lpSame. Of lists of at most 1048576 numbers. -/
import Derived.Test.YtiaibfalmmnipaaSnMath
import Derived.Test.YtiaibfalmmnipaaSnMem
import Derived.Deep.RegionWith
import Derived.Deep.QuietTactic
import Derived.BigQuiet
import Derived.Deep.RegionHeld3
import Derived.Test.YtiaibfalmmnipaaSProg
import Derived.Test.YtiaibfalmmnipaaMathN
import Derived.Test.YtiaibfalmmnipaaQuietB

namespace Go.Proofs.Ytiaibfalmmnipaa
namespace M

theorem comp_self (l : List Int) : comp l l = 0 := by
  induction l with
  | nil => rfl
  | cons x l ih => rw [comp, if_neg (by omega), if_neg (by omega)]; exact ih
theorem comp_zero : ∀ l m : List Int, comp l m = 0 → l = m
  | [], [], _ => rfl
  | [], _ :: _, h => by rw [comp] at h; cases h
  | _ :: _, [], h => by rw [comp] at h; cases h
  | x :: l, y :: m, h => by
    rw [comp] at h
    by_cases h1 : x < y
    · rw [if_pos h1] at h; cases h
    · rw [if_neg h1] at h
      by_cases h2 : y < x
      · rw [if_pos h2] at h; cases h
      · rw [if_neg h2] at h
        rw [comp_zero l m h, show x = y by omega]
theorem comp_neg : ∀ l m : List Int, comp m l = - comp l m
  | [], [] => rfl
  | [], _ :: _ => rfl
  | _ :: _, [] => rfl
  | x :: l, y :: m => by
    rw [comp, comp]
    by_cases h1 : x < y
    · rw [if_pos h1, if_neg (by omega), if_pos h1]; rfl
    · by_cases h2 : y < x
      · rw [if_pos h2, if_neg h1, if_pos h2]
      · rw [if_neg h2, if_neg h1, if_neg h1, if_neg h2]; exact comp_neg l m
theorem comp_trans : ∀ l m n : List Int, comp l m < 0 → comp m n < 0 → comp l n < 0
  | [], [], _, h, _ => by rw [comp] at h; omega
  | [], _ :: _, [], _, h => by rw [comp] at h; omega
  | [], _ :: _, _ :: _, _, _ => by rw [comp]; omega
  | _ :: _, [], _, h, _ => by rw [comp] at h; omega
  | _ :: _, _ :: _, [], _, h => by rw [comp] at h; omega
  | x :: l, y :: m, z :: n, h, k => by
    rw [comp] at h k ⊢
    by_cases h1 : x < y
    · by_cases k1 : y < z
      · rw [if_pos (by omega)]; omega
      · rw [if_neg k1] at k
        by_cases k2 : z < y
        · rw [if_pos k2] at k; omega
        · rw [if_pos (by omega)]; omega
    · rw [if_neg h1] at h
      by_cases h2 : y < x
      · rw [if_pos h2] at h; omega
      · rw [if_neg h2] at h
        by_cases k1 : y < z
        · rw [if_pos (by omega)]; omega
        · rw [if_neg k1] at k
          by_cases k2 : z < y
          · rw [if_pos k2] at k; omega
          · rw [if_neg k2] at k
            rw [if_neg (by omega), if_neg (by omega)]
            exact comp_trans l m n h k

theorem cmpS_self (a b : List Int) : cmpS a b a b = 0 := by rw [cmpS, comp_self, if_pos rfl, comp_self]
theorem cmpS_zero {a1 a2 b1 b2 : List Int} (h : cmpS a1 a2 b1 b2 = 0) : a1 = b1 ∧ a2 = b2 := by
  unfold cmpS at h
  by_cases h0 : comp a1 b1 = 0
  · rw [if_pos h0] at h; exact ⟨comp_zero _ _ h0, comp_zero _ _ h⟩
  · rw [if_neg h0] at h; exact absurd h h0
theorem cmpS_neg (a1 a2 b1 b2 : List Int) : cmpS b1 b2 a1 a2 = - cmpS a1 a2 b1 b2 := by
  unfold cmpS
  rw [comp_neg a1 b1, comp_neg a2 b2]
  by_cases h0 : comp a1 b1 = 0
  · rw [if_pos h0, if_pos (by omega)]
  · rw [if_neg h0, if_neg (by omega)]
theorem cmpS_trans {a1 a2 b1 b2 c1 c2 : List Int} (h : cmpS a1 a2 b1 b2 < 0) (k : cmpS b1 b2 c1 c2 < 0) : cmpS a1 a2 c1 c2 < 0 := by
  unfold cmpS at h k ⊢
  by_cases h0 : comp a1 b1 = 0
  · rw [if_pos h0] at h
    have e := comp_zero _ _ h0
    subst e
    by_cases k0 : comp a1 c1 = 0
    · rw [if_pos k0] at k ⊢; exact comp_trans _ _ _ h k
    · rw [if_neg k0] at k ⊢; exact k
  · rw [if_neg h0] at h
    by_cases k0 : comp b1 c1 = 0
    · have e := comp_zero _ _ k0
      subst e
      rw [if_neg h0]; exact h
    · rw [if_neg k0] at k
      have ht := comp_trans _ _ _ h k
      rw [if_neg (by omega)]; exact ht

/-- The same numbers. -/
def same : List Int → List Int → Bool
  | [], [] => true
  | x :: l, y :: m => x == y && same l m
  | _, _ => false
theorem same_eq : ∀ l m : List Int, same l m = true ↔ l = m
  | [], [] => by simp [same]
  | [], _ :: _ => by simp [same]
  | _ :: _, [] => by simp [same]
  | x :: l, y :: m => by simp [same, same_eq l m]
def sameS (a1 a2 b1 b2 : List Int) : Bool := same a1 b1 && same a2 b2
theorem sameS_eq (a1 a2 b1 b2 : List Int) : sameS a1 a2 b1 b2 = decide (cmpS a1 a2 b1 b2 = 0) := by
  by_cases h : cmpS a1 a2 b1 b2 = 0
  · obtain ⟨rfl, rfl⟩ := cmpS_zero h
    simp [sameS, h, (same_eq _ _).2]
  · rw [decide_eq_false h]
    by_cases h1 : a1 = b1
    · by_cases h2 : a2 = b2
      · subst h1; subst h2; exact absurd (cmpS_self _ _) h
      · have : same a2 b2 = false := by
          cases e : same a2 b2
          · rfl
          · exact absurd ((same_eq _ _).1 e) h2
        rw [sameS, this, Bool.and_false]
    · have : same a1 b1 = false := by
        cases e : same a1 b1
        · rfl
        · exact absurd ((same_eq _ _).1 e) h1
      rw [sameS, this, Bool.false_and]

theorem same_len {l m : List Int} (h : l.length ≠ m.length) : same l m = false := by
  cases e : same l m
  · rfl
  · exact absurd (congrArg List.length ((same_eq _ _).1 e)) h
theorem same_bad {l m : List Int} {n : Nat} {x y : Int} (hd : l.drop n = x :: l.drop (n + 1)) (hm : m.drop n = y :: m.drop (n + 1)) (hxy : ¬ x = y) : same l m = false := by
  cases e : same l m
  · rfl
  · have := (same_eq _ _).1 e
    subst this
    rw [hd] at hm
    simp at hm
    exact absurd hm hxy
theorem same_fin {l m : List Int} (hl : l.length = m.length) (h : ∀ q (h1 : q < l.length) (h2 : q < m.length), l[q] = m[q]) : same l m = true :=
  (same_eq _ _).2 (List.ext_getElem hl h)

end M
end Go.Proofs.Ytiaibfalmmnipaa

namespace Go.Proofs.Ytiaibfalmmnipaa
open Go.RowKit

theorem ret_i {a b : Int} (h : a = b) : Ending.returned (.int .i64 a) = .returned (.int .i64 b) := by rw [h]

end Go.Proofs.Ytiaibfalmmnipaa

namespace Go.Proofs.Ytiaibfalmmnipaa
open Go.RowKit

theorem alloc2 (w : World) (x y : Obj) : Grown w ((w.alloc x).alloc y) := ((Grown.refl w).alloc x).alloc y

end Go.Proofs.Ytiaibfalmmnipaa

namespace Go.Proofs.Ytiaibfalmmnipaa
open Go.RowKit

set_option maxHeartbeats 400000 in
theorem cntReads_any (a : Option Addr) (b o c : Nat) (l : List M.D) (w : World) (hl : l.length ≤ 1048576) (h : DoS w a b o l) :
    Calls Try.prog 45 #[.slice a l.length c, .func (.func 47) #[] #[]] w fun e w' => e = .returned (.int .i64 (M.cnt M.reads l)) ∧ Below w.heap.size w w' := by
  go_enter Try.func45, Try.ntmps45
  go_wp2_with fail
  go_loopw [5, 10] (fun s5 s10 wr => ∃ m n : Nat, s5 = .int .i64 m ∧ s10 = .int .i64 n ∧ n ≤ l.length ∧ m ≤ n ∧ M.cnt M.reads l = m + M.cnt M.reads (l.drop n) ∧ Below w.heap.size w wr) (fun _ s10 _ => l.length - (intOf s10).toNat)
  case atStart => exact ⟨0, 0, rfl, rfl, Nat.zero_le _, Nat.le_refl _, by simp, Below.refl _ _⟩
  case round =>
    obtain ⟨m, n, rfl, rfl, hn, hmn, hpass, hbel⟩ := hrel
    have HP : Hid (M.cnt M.reads l = m + M.cnt M.reads (l.drop n)) := hpass
    clear hpass
    by_cases hlt : n < l.length
    · obtain ⟨rfl⟩ := h.addr (by omega)
      have hd := (h.row n hlt).below hbel (Nat.le_refl _)
      have HD : Hid (l.drop n = l[n] :: l.drop (n + 1)) := M.drop_at l n hlt
      generalize l[n] = d at hd HD
      obtain ⟨k, p, v⟩ := d
      obtain ⟨ck, cp, cv⟩ := hd
      cases hu : M.reads k
      · go_wp2_with (go_at_call 47; refine (reads_any _ _).mono ?_; rintro e w1 ⟨rfl, rfl⟩)
        exact ⟨⟨m, n + 1, rfl, by go_num, by omega, by omega, M.cnt_step HP.out HD.out (by simp [hu]), hbel.alloc hbel.size _⟩, by simp [intOf]; omega⟩
      · go_wp2_with (go_at_call 47; refine (reads_any _ _).mono ?_; rintro e w1 ⟨rfl, rfl⟩)
        exact ⟨⟨m + 1, n + 1, by go_num, by go_num, by omega, by omega, M.cnt_step HP.out HD.out (by simp [hu]), hbel.alloc hbel.size _⟩, by simp [intOf]; omega⟩
    · go_wp2_with fail
      go_ret
      exact ⟨ret_int (by rw [M.cnt_fin HP.out (by omega)]), hbel⟩

set_option maxHeartbeats 400000 in
theorem ireads_any (a : Option Addr) (b o c : Nat) (ll : List (List M.D)) (w : World) (hl : ll.length ≤ 1048576) (hls : ∀ t ∈ ll, t.length ≤ 1048576) (h : DoSS w a b o ll) :
    Calls Try.prog 40 #[.agg #[.slice a ll.length c]] w fun e w' => e = .returned (.int .i64 (M.nreads ll)) ∧ Below w.heap.size w w' := by
  cases hp : M.prog ll
  · go_enter Try.func40, Try.ntmps40
    go_wp2_with (go_at_call 20; refine (iprog_any a b o c ll _ hl hls (h.below (below1 w _) (Nat.le_refl _))).mono ?_; rintro e w1 ⟨rfl, hb1⟩)
    go_ret
    exact ⟨ret_int (M.nreads_no hp).symm, (below1 w _).trans (hb1.mono (by simp))⟩
  · obtain ⟨h3, h7⟩ := M.prog_le hp
    go_enter Try.func40, Try.ntmps40
    go_wp2_with (go_at_call 20; refine (iprog_any a b o c ll _ hl hls (h.below (below1 w _) (Nat.le_refl _))).mono ?_; rintro e w1 ⟨rfl, hb1⟩; obtain ⟨hc1, hf1⟩ := bcell hb1)
    have hs1 := (h.below (below1 w _) (Nat.le_refl _)).below hb1 (Nat.le_refl _)
    have hbw : Below w.heap.size w w1 := (below1 w _).trans (hb1.mono (by simp))
    clear hb1 hc1 hf1 h
    go_loopw [3, 12] (fun s3 s12 wr => ∃ m n : Nat, s3 = .int .i64 m ∧ s12 = .int .i64 n ∧ n ≤ ll.length ∧ m ≤ 7 * n ∧ M.tot M.reads ll = m + M.tot M.reads (ll.drop n) ∧ Below w1.heap.size w1 wr) (fun _ s12 _ => ll.length - (intOf s12).toNat)
    case atStart => exact ⟨0, 0, rfl, rfl, Nat.zero_le _, Nat.le_refl _, by simp, Below.refl _ _⟩
    case round =>
      obtain ⟨m, n, rfl, rfl, hn, hmn, hpass, hbel⟩ := hrel
      have HP : Hid (M.tot M.reads ll = m + M.tot M.reads (ll.drop n)) := hpass
      clear hpass
      by_cases hlt : n < ll.length
      · obtain ⟨rfl⟩ := hs1.addr (by omega)
        obtain ⟨a', b', o', c', hc, hd⟩ := (hs1.below hbel (Nat.le_refl _)).row n hlt
        have HD : Hid (ll.drop n = ll[n] :: ll.drop (n + 1)) := M.drop_at' ll n hlt
        have hlt' := hls _ (List.getElem_mem hlt)
        have hlt7 := h7 _ (List.getElem_mem hlt)
        generalize ll[n] = t at hd hc HD hlt' hlt7
        have hcn := M.cnt_le M.reads t
        go_wp2_with (go_at_call 45; refine (cntReads_any a' b' o' c' t _ hlt' hd).mono ?_; rintro e w2 ⟨rfl, hb2⟩)
        exact ⟨⟨m + M.cnt M.reads t, n + 1, by go_num, by go_num, by omega, by omega, M.tot_step HP.out HD.out, hbel.trans (hb2.mono hbel.size)⟩, by simp [intOf]; omega⟩
      · go_wp2_with fail
        go_ret
        exact ⟨ret_int (by rw [M.nreads_ok hp, M.tot_fin HP.out (by omega)]), hbw.trans (hbel.mono hbw.size)⟩

end Go.Proofs.Ytiaibfalmmnipaa

namespace Go.Proofs.Ytiaibfalmmnipaa
open Go.RowKit

set_option maxHeartbeats 400000 in
theorem valsOk_any (a : Option Addr) (b o c : Nat) (l : List Int) (w : World) (hl : l.length ≤ 1048576) (h : IntS w a b o l) :
    Calls Try.prog 41 #[.slice a l.length c] w fun e w' => e = .returned (.bool (M.vals l)) ∧ w' = w := by
  go_enter Try.func41, Try.ntmps41
  go_wp2_with fail
  go_loopw [7] (fun s7 wr => ∃ n : Nat, s7 = .int .i64 n ∧ n ≤ l.length ∧ M.vals l = M.vals (l.drop n) ∧ wr = w) (fun s7 _ => l.length - (intOf s7).toNat)
  case atStart => exact ⟨0, rfl, Nat.zero_le _, rfl, rfl⟩
  case round =>
    obtain ⟨n, rfl, hn, hpass, rfl⟩ := hrel
    have HP : Hid (M.vals l = M.vals (l.drop n)) := hpass
    clear hpass
    by_cases hlt : n < l.length
    · obtain ⟨rfl⟩ := h.addr (by omega)
      have HD : Hid (l.drop n = l[n] :: l.drop (n + 1)) := M.drop_int l n hlt
      have hc := h.row n hlt
      generalize l[n] = x at HD hc
      by_cases h0 : x < 0
      · go_wp2_with fail
        go_ret
        exact ⟨ret_bool (M.vals_bad HP.out HD.out (by omega)).symm, rfl⟩
      · have h0' : decide (x < 0) = false := by simpa using h0
        by_cases h3 : 3 < x
        · go_wp2_with fail
          go_ret
          exact ⟨ret_bool (M.vals_bad HP.out HD.out (by omega)).symm, rfl⟩
        · go_wp2_with fail
          exact ⟨⟨n + 1, by go_num, by omega, M.vals_ok HP.out HD.out (by omega) (by omega), trivial⟩, by simp [intOf]; omega⟩
    · go_wp2_with fail
      go_ret
      exact ⟨ret_bool (M.vals_fin HP.out (by omega)).symm, rfl⟩

namespace M
/-- What was seen can be of a program. -/
def seenOk (ll : List (List D)) (l1 l2 : List Int) : Bool := decide ((l1.length : Int) = nreads ll) && (decide (l2.length = 3) && (vals l1 && vals l2))
theorem seenOk_1 {ll : List (List D)} {l1 l2 : List Int} (h : ¬ (l1.length : Int) = nreads ll) : seenOk ll l1 l2 = false := by simp [seenOk, h]
theorem seenOk_2 {ll : List (List D)} {l1 l2 : List Int} (h : ¬ l2.length = 3) : seenOk ll l1 l2 = false := by simp [seenOk, h]
theorem seenOk_3 {ll : List (List D)} {l1 l2 : List Int} (h : vals l1 = false) : seenOk ll l1 l2 = false := by simp [seenOk, h]
theorem seenOk_4 {ll : List (List D)} {l1 l2 : List Int} (h : (l1.length : Int) = nreads ll) (h2 : l2.length = 3) (h3 : vals l1 = true) : seenOk ll l1 l2 = vals l2 := by simp [seenOk, h, h2, h3]
end M

set_option maxHeartbeats 1000000 in
set_option maxRecDepth 100000 in
theorem iseenOk_any (a : Option Addr) (b o c : Nat) (ll : List (List M.D)) (s : Sn) (w : World) (hl : ll.length ≤ 1048576) (hls : ∀ t ∈ ll, t.length ≤ 1048576) (hs : s.Le 1048576) (h : DoSS w a b o ll) (sa : s.At w) :
    Calls Try.prog 17 #[.agg #[.slice a ll.length c], .agg #[.slice s.a1 s.l1.length s.c1, .slice s.a2 s.l2.length s.c2]] w fun e w' => e = .returned (.bool (M.seenOk ll s.l1 s.l2)) ∧ Below w.heap.size w w' := by
  have hb2 := below2 w (.cells #[.slice a ll.length c] 25) (.cells #[.slice s.a1 s.l1.length s.c1, .slice s.a2 s.l2.length s.c2] 39)
  obtain ⟨hs1, hs2⟩ := hs
  obtain ⟨r, hr⟩ : ∃ r, M.nreads ll = r := ⟨_, rfl⟩
  go_enter Try.func17, Try.ntmps17
  go_wp2_with fail
  have k0 : ((w.alloc (.cells #[.slice a ll.length c] 25)).alloc (.cells #[.slice s.a1 s.l1.length s.c1, .slice s.a2 s.l2.length s.c2] 39)).cell? ⟨w.heap.size, 0, none⟩ = some (.slice a ll.length c) := by simp
  have k1 : ((w.alloc (.cells #[.slice a ll.length c] 25)).alloc (.cells #[.slice s.a1 s.l1.length s.c1, .slice s.a2 s.l2.length s.c2] 39)).cell? ⟨w.heap.size + 1, 0, none⟩ = some (.slice s.a1 s.l1.length s.c1) := by simp
  have k2 : ((w.alloc (.cells #[.slice a ll.length c] 25)).alloc (.cells #[.slice s.a1 s.l1.length s.c1, .slice s.a2 s.l2.length s.c2] 39)).cell? ⟨w.heap.size + 1, 1, none⟩ = some (.slice s.a2 s.l2.length s.c2) := by simp
  generalize (w.alloc (.cells #[.slice a ll.length c] 25)).alloc (.cells #[.slice s.a1 s.l1.length s.c1, .slice s.a2 s.l2.length s.c2] 39) = W at *
  have hlt : w.heap.size + 1 < W.heap.size := World.block_lt_of_cell? _ _ k1
  have C1 := fun p : BelowOf W => ireads_any a b o c ll p.x hl hls ((h.below hb2 (Nat.le_refl _)).below p.h (Nat.le_refl _))
  rw [hr] at C1
  have saW := sa.below hb2 (Nat.le_refl _)
  have C2 := fun p : BelowOf W => valsOk_any s.a1 s.b1 s.o1 s.c1 s.l1 p.x hs1 (saW.below p.h (Nat.le_refl _)).reads
  have C3 := fun p : BelowOf W => valsOk_any s.a2 s.b2 s.o2 s.c2 s.l2 p.x hs2 (saW.below p.h (Nat.le_refl _)).last
  have K0 := BelowOf.cell k0
  have K1 := BelowOf.cell k1
  have K2 := BelowOf.cell k2
  clear k0 k1 k2 h sa saW
  by_cases g1 : (s.l1.length : Int) = r
  · by_cases g2 : s.l2.length = 3
    · cases g3 : M.vals s.l1
      · rw [g3] at C2
        rw [g2] at K2 C3
        haveI : Inhabited (BelowOf W) := ⟨belOf W⟩
        refine wp_region_quiet_bel (by kernel_rfl) (by kernel_rfl) ?_
        repeat (quiet_step (first | (go_at_call 40; exact Calls.bel_of (C1 _)) | (go_at_call_of 41 (Value.slice s.a1 s.l1.length s.c1); exact Calls.bel_of_same (C2 _))))
        refine wpQuiet_nil ?_
        rintro _ ⟨⟨wq, hwq⟩, rfl⟩
        go_wp2_with fail
        go_ret
        exact ⟨ret_bool (M.seenOk_3 g3).symm, hb2.trans (hwq.mono hb2.size)⟩
      · rw [g3] at C2
        rw [g2] at K2 C3
        generalize hv : M.vals s.l2 = v at C3
        haveI : Inhabited (BelowOf W) := ⟨belOf W⟩
        refine wp_region_quiet_bel (by kernel_rfl) (by kernel_rfl) ?_
        repeat (quiet_step (first | (go_at_call 40; exact Calls.bel_of (C1 _)) | (go_at_call_of 41 (Value.slice s.a1 s.l1.length s.c1); exact Calls.bel_of_same (C2 _)) | (go_at_call_of 41 (Value.slice s.a2 3 s.c2); exact Calls.bel_of_same (C3 _))))
        refine wpQuiet_nil ?_
        rintro _ ⟨⟨wq, hwq⟩, rfl⟩
        go_wp2_with fail
        go_ret
        exact ⟨ret_bool (by rw [M.seenOk_4 (by rw [hr]; exact g1) g2 g3, hv]), hb2.trans (hwq.mono hb2.size)⟩
    · have g2' : ((s.l2.length : Int) == 3) = false := by simp; omega
      haveI : Inhabited (BelowOf W) := ⟨belOf W⟩
      refine wp_region_quiet_bel (by kernel_rfl) (by kernel_rfl) ?_
      repeat (quiet_step (first | (go_at_call 40; exact Calls.bel_of (C1 _))))
      refine wpQuiet_nil ?_
      rintro _ ⟨⟨wq, hwq⟩, rfl⟩
      go_wp2_with fail
      go_ret
      exact ⟨ret_bool (M.seenOk_2 g2).symm, hb2.trans (hwq.mono hb2.size)⟩
  · have g1' : ((s.l1.length : Int) == r) = false := by simpa using g1
    haveI : Inhabited (BelowOf W) := ⟨belOf W⟩
    refine wp_region_quiet_bel (by kernel_rfl) (by kernel_rfl) ?_
    repeat (quiet_step (first | (go_at_call 40; exact Calls.bel_of (C1 _))))
    refine wpQuiet_nil ?_
    rintro _ ⟨⟨wq, hwq⟩, rfl⟩
    go_wp2_with fail
    go_ret
    exact ⟨ret_bool (M.seenOk_1 (by rw [hr]; exact g1)).symm, hb2.trans (hwq.mono hb2.size)⟩

end Go.Proofs.Ytiaibfalmmnipaa

namespace Go.Proofs.Ytiaibfalmmnipaa
open Go.RowKit

end Go.Proofs.Ytiaibfalmmnipaa

namespace Go.Proofs.Ytiaibfalmmnipaa
open Go.RowKit

set_option maxHeartbeats 400000 in
theorem lpInts_any (a : Option Addr) (b o c : Nat) (l : List Int) (a2 : Option Addr) (b2 o2 c2 : Nat) (m : List Int) (w : World) (hl : l.length ≤ 1048576) (h : IntS w a b o l) (h2 : IntS w a2 b2 o2 m) :
    Calls Try.prog 33 #[.slice a l.length c, .slice a2 m.length c2] w fun e w' => e = .returned (.bool (M.same l m)) ∧ Grown w w' := by
  by_cases hlm : l.length = m.length
  · have hlm' : ((l.length : Int) == m.length) = true := by simp; omega
    have hlm2 : (l.length : Int) = m.length := by omega
    go_enter Try.func33, Try.ntmps33
    go_wp2_with fail
    go_loopw [5] (fun s5 wr => ∃ n : Nat, s5 = .int .i64 n ∧ n ≤ l.length ∧ (∀ q (_ : q < n) (h1 : q < l.length) (h2 : q < m.length), l[q] = m[q]) ∧ Grown w wr) (fun s5 _ => l.length - (intOf s5).toNat)
    case atStart => exact ⟨0, rfl, Nat.zero_le _, fun _ hq _ _ => absurd hq (Nat.not_lt_zero _), Grown.refl _⟩
    case round =>
      obtain ⟨n, rfl, hn, hall, hg⟩ := hrel
      have HA : Hid (∀ q (_ : q < n) (h1 : q < l.length) (h2 : q < m.length), l[q] = m[q]) := hall
      clear hall
      by_cases hlt : n < l.length
      · have hmt : n < m.length := by omega
        obtain ⟨rfl⟩ := h.addr (by omega)
        obtain ⟨rfl⟩ := h2.addr (by omega)
        have hc := (h.below hg.bel (Nat.le_refl _)).row n hlt
        have hc2 := (h2.below hg.bel (Nat.le_refl _)).row n hmt
        have HD : Hid (l.drop n = l[n] :: l.drop (n + 1)) := M.drop_int l n hlt
        have HD2 : Hid (m.drop n = m[n] :: m.drop (n + 1)) := M.drop_int m n hmt
        have i1 : (n : Int) < l.length := by omega
        have i2 : (n : Int) < m.length := by omega
        by_cases hxy : l[n] = m[n]
        · have HX : Hid (l[n] = m[n]) := hxy
          rw [← hxy] at hc2
          clear hxy HD HD2
          generalize l[n] = x at hc hc2
          go_wp2_with fail
          go_quiet (fail)
          go_wp2_with fail
          exact ⟨⟨n + 1, by go_num, by omega, fun q hq h1 h2 => by
            by_cases e : q = n
            · subst e; exact HX.out
            · exact HA.out q (by omega) h1 h2, hg.drewN _⟩, by simp [intOf]; omega⟩
        · generalize l[n] = x at hc hxy HD
          generalize m[n] = y at hc2 hxy HD2
          have hxy' : (x == y) = false := by simpa using hxy
          go_wp2_with fail
          go_quiet (fail)
          go_wp2_with fail
          go_ret
          exact ⟨ret_bool (M.same_bad HD.out HD2.out hxy).symm, hg.drewN _⟩
      · go_wp2_with fail
        go_ret
        exact ⟨ret_bool (M.same_fin hlm fun q h1 h2 => HA.out q (by omega) h1 h2).symm, hg⟩
  · have hlm' : ((l.length : Int) == m.length) = false := by simp; omega
    have hlm2 : ¬ (l.length : Int) = m.length := by omega
    go_enter Try.func33, Try.ntmps33
    go_wp2_with fail
    go_ret
    exact ⟨ret_bool (M.same_len hlm).symm, Grown.refl _⟩

set_option maxHeartbeats 400000 in
theorem lpSame_any (s t : Sn) (w : World) (hs : s.Le 1048576) (hsa : s.At w) (hta : t.At w) :
    Calls Try.prog 14 #[.agg #[.slice s.a1 s.l1.length s.c1, .slice s.a2 s.l2.length s.c2], .agg #[.slice t.a1 t.l1.length t.c1, .slice t.a2 t.l2.length t.c2]] w fun e w' => e = .returned (.bool (M.sameS s.l1 s.l2 t.l1 t.l2)) ∧ Grown w w' := by
  have hga := hsa.grown (alloc2 w (.cells #[.slice s.a1 s.l1.length s.c1, .slice s.a2 s.l2.length s.c2] 39) (.cells #[.slice t.a1 t.l1.length t.c1, .slice t.a2 t.l2.length t.c2] 39))
  have hgb := hta.grown (alloc2 w (.cells #[.slice s.a1 s.l1.length s.c1, .slice s.a2 s.l2.length s.c2] 39) (.cells #[.slice t.a1 t.l1.length t.c1, .slice t.a2 t.l2.length t.c2] 39))
  have C1 := lpInts_any s.a1 s.b1 s.o1 s.c1 s.l1 t.a1 t.b1 t.o1 t.c1 t.l1 _ hs.reads hga.reads hgb.reads
  obtain ⟨r1, hr1⟩ : ∃ r, M.same s.l1 t.l1 = r := ⟨_, rfl⟩
  rw [hr1] at C1
  cases r1
  · go_enter Try.func14, Try.ntmps14
    go_wp2_with fail
    refine C1.mono ?_
    rintro e w1 ⟨rfl, hg1⟩
    go_wp2_with fail
    go_ret
    exact ⟨ret_bool (by simp [M.sameS, hr1]), (alloc2 w _ _).trans hg1⟩
  · go_enter Try.func14, Try.ntmps14
    go_wp2_with fail
    refine C1.mono ?_
    rintro e w1 ⟨rfl, hg1⟩
    obtain ⟨hc1, hf1⟩ := bcell hg1.bel
    have C2 := lpInts_any s.a2 s.b2 s.o2 s.c2 s.l2 t.a2 t.b2 t.o2 t.c2 t.l2 _ hs.last (hga.grown hg1).last (hgb.grown hg1).last
    go_wp2_with fail
    refine C2.mono ?_
    rintro e w2 ⟨rfl, hg2⟩
    go_wp2_with fail
    go_ret
    exact ⟨ret_bool (by simp [M.sameS, hr1]), ((alloc2 w _ _).trans hg1).trans hg2⟩

end Go.Proofs.Ytiaibfalmmnipaa
