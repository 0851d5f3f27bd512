/- impl's and spec's ProgReads: how many reads a program has. Of programs of at most 1048576 threads, each of at most 1048576 steps. impl's and spec's SeenOk. Of programs of at most 1048576 threads, each of at most 1048576 steps, and of lists of at most 1048576 numbers. What is seen in a way that is ok may be seen of the program: plainly. No condition. -/
import Derived.Test.YtphijhpleemjoaaGreatBAad
import Derived.Test.YtphijhpleemjoaaGreatBAae
import Derived.Test.YtphijhpleemjoaaGreatBAai
import Derived.Test.YtphijhpleemjoaaGreatBAas
import Derived.Test.YtphijhpleemjoaaGreatBAbj
namespace Go.Proofs.YtphijhpleemjoaaGreat
open Go.RowKit
set_option maxHeartbeats 400000 in
theorem cntReads_any (a : Option Addr) (b o c : Nat) (l : List M.D) (w : World) (hl : l.length ≤ 1048576) (h : DoS w a b o l) :
  Calls Tryz.prog 83 #[.slice a l.length c, .func (.func 85) #[] #[]] w fun e w' => e = .returned (.int .i64 (M.cnt M.reads l)) ∧ Below w.heap.size w w' := by
 go_enter Tryz.func83, Tryz.ntmps83
 go_wp2_with fail
 go_loopw [5, 10] (fun s5 s10 wr => ∃ m n : Nat, s5 = .int .i64 m ∧ s10 = .int .i64 n ∧ n ≤ l.length ∧ m ≤ n ∧ M.cnt M.reads l = m + M.cnt M.reads (l.drop n) ∧ Below w.heap.size w wr) (fun _ s10 _ => l.length - (intOf s10).toNat)
 case atStart => exact ⟨0, 0, rfl, rfl, Nat.zero_le _, Nat.le_refl _, by simp, Below.refl _ _⟩
 case round =>
  obtain ⟨m, n, rfl, rfl, hn, hmn, hpass, hbel⟩ := hrel
  have HP : Hid (M.cnt M.reads l = m + M.cnt M.reads (l.drop n)) := hpass
  clear hpass
  by_cases hlt : n < l.length
  ·obtain ⟨rfl⟩ := h.addr (by omega)
   have hd := (h.row n hlt).below hbel (Nat.le_refl _)
   have HD : Hid (l.drop n = l[n] :: l.drop (n + 1)) := M.drop_at l n hlt
   generalize l[n] = d at hd HD
   obtain ⟨k, p, v⟩ := d
   obtain ⟨ck, cp, cv⟩ := hd
   cases hu : M.reads k
   ·go_wp2_with (go_at_call 85; refine (reads_any _ _).mono ?_; rintro e w1 ⟨rfl, rfl⟩)
    exact ⟨⟨m, n + 1, rfl, by go_num, by omega, by omega, M.cnt_step HP.out HD.out (by simp [hu]), hbel.alloc hbel.size _⟩, by simp [intOf]; omega⟩
   ·go_wp2_with (go_at_call 85; refine (reads_any _ _).mono ?_; rintro e w1 ⟨rfl, rfl⟩)
    exact ⟨⟨m + 1, n + 1, by go_num, by go_num, by omega, by omega, M.cnt_step HP.out HD.out (by simp [hu]), hbel.alloc hbel.size _⟩, by simp [intOf]; omega⟩
  ·go_wp2_with fail
   go_ret
   exact ⟨ret_int (by rw [M.cnt_fin HP.out (by omega)]), hbel⟩
set_option maxHeartbeats 400000 in
theorem ireads_any (a : Option Addr) (b o c : Nat) (ll : List (List M.D)) (w : World) (hl : ll.length ≤ 1048576) (hls : ∀ t ∈ ll, t.length ≤ 1048576) (h : DoSS w a b o ll) :
  Calls Tryz.prog 65 #[.agg #[.slice a ll.length c]] w fun e w' => e = .returned (.int .i64 (M.nreads ll)) ∧ Below w.heap.size w w' := by
 cases hp : M.prog ll
 ·go_enter Tryz.func65, Tryz.ntmps65
  go_wp2_with (go_at_call 43; refine (iprog_any a b o c ll _ hl hls (h.below (below1 w _) (Nat.le_refl _))).mono ?_; rintro e w1 ⟨rfl, hb1⟩)
  go_ret
  exact ⟨ret_int (M.nreads_no hp).symm, (below1 w _).trans (hb1.mono (by simp))⟩
 ·obtain ⟨h3, h7⟩ := M.prog_le hp
  go_enter Tryz.func65, Tryz.ntmps65
  go_wp2_with (go_at_call 43; refine (iprog_any a b o c ll _ hl hls (h.below (below1 w _) (Nat.le_refl _))).mono ?_; rintro e w1 ⟨rfl, hb1⟩; obtain ⟨hc1, hf1⟩ := bcell hb1)
  have hs1 := (h.below (below1 w _) (Nat.le_refl _)).below hb1 (Nat.le_refl _)
  have hbw : Below w.heap.size w w1 := (below1 w _).trans (hb1.mono (by simp))
  clear hb1 hc1 hf1 h
  go_loopw [3, 12] (fun s3 s12 wr => ∃ m n : Nat, s3 = .int .i64 m ∧ s12 = .int .i64 n ∧ n ≤ ll.length ∧ m ≤ 7 * n ∧ M.tot M.reads ll = m + M.tot M.reads (ll.drop n) ∧ Below w1.heap.size w1 wr) (fun _ s12 _ => ll.length - (intOf s12).toNat)
  case atStart => exact ⟨0, 0, rfl, rfl, Nat.zero_le _, Nat.le_refl _, by simp, Below.refl _ _⟩
  case round =>
   obtain ⟨m, n, rfl, rfl, hn, hmn, hpass, hbel⟩ := hrel
   have HP : Hid (M.tot M.reads ll = m + M.tot M.reads (ll.drop n)) := hpass
   clear hpass
   by_cases hlt : n < ll.length
   ·obtain ⟨rfl⟩ := hs1.addr (by omega)
    obtain ⟨a', b', o', c', hc, hd⟩ := (hs1.below hbel (Nat.le_refl _)).row n hlt
    have HD : Hid (ll.drop n = ll[n] :: ll.drop (n + 1)) := M.drop_at' ll n hlt
    have hlt' := hls _ (List.getElem_mem hlt)
    have hlt7 := h7 _ (List.getElem_mem hlt)
    generalize ll[n] = t at hd hc HD hlt' hlt7
    have hcn := M.cnt_le M.reads t
    go_wp2_with (go_at_call 83; refine (cntReads_any a' b' o' c' t _ hlt' hd).mono ?_; rintro e w2 ⟨rfl, hb2⟩)
    exact ⟨⟨m + M.cnt M.reads t, n + 1, by go_num, by go_num, by omega, by omega, M.tot_step HP.out HD.out, hbel.trans (hb2.mono hbel.size)⟩, by simp [intOf]; omega⟩
   ·go_wp2_with fail
    go_ret
    exact ⟨ret_int (by rw [M.nreads_ok hp, M.tot_fin HP.out (by omega)]), hbw.trans (hbel.mono hbw.size)⟩
end Go.Proofs.YtphijhpleemjoaaGreat
namespace Go.Proofs.YtphijhpleemjoaaGreat
open Go.RowKit
set_option maxHeartbeats 400000 in
theorem valsOk_any (a : Option Addr) (b o c : Nat) (l : List Int) (w : World) (hl : l.length ≤ 1048576) (h : IntS w a b o l) :
  Calls Tryz.prog 66 #[.slice a l.length c] w fun e w' => e = .returned (.bool (M.vals l)) ∧ w' = w := by
 go_enter Tryz.func66, Tryz.ntmps66
 go_wp2_with fail
 go_loopw [7] (fun s7 wr => ∃ n : Nat, s7 = .int .i64 n ∧ n ≤ l.length ∧ M.vals l = M.vals (l.drop n) ∧ wr = w) (fun s7 _ => l.length - (intOf s7).toNat)
 case atStart => exact ⟨0, rfl, Nat.zero_le _, rfl, rfl⟩
 case round =>
  obtain ⟨n, rfl, hn, hpass, rfl⟩ := hrel
  have HP : Hid (M.vals l = M.vals (l.drop n)) := hpass
  clear hpass
  by_cases hlt : n < l.length
  ·obtain ⟨rfl⟩ := h.addr (by omega)
   have HD : Hid (l.drop n = l[n] :: l.drop (n + 1)) := M.drop_int l n hlt
   have hc := h.row n hlt
   generalize l[n] = x at HD hc
   by_cases h0 : x < 0
   ·go_wp2_with fail
    go_ret
    exact ⟨ret_bool (M.vals_bad HP.out HD.out (by omega)).symm, rfl⟩
   ·have h0' : decide (x < 0) = false := by simpa using h0
    by_cases h3 : 3 < x
    ·go_wp2_with fail
     go_ret
     exact ⟨ret_bool (M.vals_bad HP.out HD.out (by omega)).symm, rfl⟩
    ·go_wp2_with fail
     exact ⟨⟨n + 1, by go_num, by omega, M.vals_ok HP.out HD.out (by omega) (by omega), trivial⟩, by simp [intOf]; omega⟩
  ·go_wp2_with fail
   go_ret
   exact ⟨ret_bool (M.vals_fin HP.out (by omega)).symm, rfl⟩
namespace M
def seenOk (ll : List (List D)) (l1 l2 : List Int) : Bool := decide ((l1.length : Int) = nreads ll) && (decide (l2.length = 3) && (vals l1 && vals l2))
theorem seenOk_1 {ll : List (List D)} {l1 l2 : List Int} (h : ¬ (l1.length : Int) = nreads ll) : seenOk ll l1 l2 = false := by simp [seenOk, h]
theorem seenOk_2 {ll : List (List D)} {l1 l2 : List Int} (h : ¬ l2.length = 3) : seenOk ll l1 l2 = false := by simp [seenOk, h]
theorem seenOk_3 {ll : List (List D)} {l1 l2 : List Int} (h : vals l1 = false) : seenOk ll l1 l2 = false := by simp [seenOk, h]
theorem seenOk_4 {ll : List (List D)} {l1 l2 : List Int} (h : (l1.length : Int) = nreads ll) (h2 : l2.length = 3) (h3 : vals l1 = true) : seenOk ll l1 l2 = vals l2 := by simp [seenOk, h, h2, h3]
end M
set_option maxHeartbeats 1000000 in
set_option maxRecDepth 100000 in
theorem iseenOk_any (a : Option Addr) (b o c : Nat) (ll : List (List M.D)) (s : Sn) (w : World) (hl : ll.length ≤ 1048576) (hls : ∀ t ∈ ll, t.length ≤ 1048576) (hs : s.Le 1048576) (h : DoSS w a b o ll) (sa : s.At w) :
  Calls Tryz.prog 25 #[.agg #[.slice a ll.length c], .agg #[.slice s.a1 s.l1.length s.c1, .slice s.a2 s.l2.length s.c2]] w fun e w' => e = .returned (.bool (M.seenOk ll s.l1 s.l2)) ∧ Below w.heap.size w w' := by
 have hb2 := below2 w (.cells #[.slice a ll.length c] 25) (.cells #[.slice s.a1 s.l1.length s.c1, .slice s.a2 s.l2.length s.c2] 40)
 obtain ⟨hs1, hs2⟩ := hs
 obtain ⟨r, hr⟩ : ∃ r, M.nreads ll = r := ⟨_, rfl⟩
 go_enter Tryz.func25, Tryz.ntmps25
 go_wp2_with fail
 have k0 : ((w.alloc (.cells #[.slice a ll.length c] 25)).alloc (.cells #[.slice s.a1 s.l1.length s.c1, .slice s.a2 s.l2.length s.c2] 40)).cell? ⟨w.heap.size, 0, none⟩ = some (.slice a ll.length c) := by simp
 have k1 : ((w.alloc (.cells #[.slice a ll.length c] 25)).alloc (.cells #[.slice s.a1 s.l1.length s.c1, .slice s.a2 s.l2.length s.c2] 40)).cell? ⟨w.heap.size + 1, 0, none⟩ = some (.slice s.a1 s.l1.length s.c1) := by simp
 have k2 : ((w.alloc (.cells #[.slice a ll.length c] 25)).alloc (.cells #[.slice s.a1 s.l1.length s.c1, .slice s.a2 s.l2.length s.c2] 40)).cell? ⟨w.heap.size + 1, 1, none⟩ = some (.slice s.a2 s.l2.length s.c2) := by simp
 generalize (w.alloc (.cells #[.slice a ll.length c] 25)).alloc (.cells #[.slice s.a1 s.l1.length s.c1, .slice s.a2 s.l2.length s.c2] 40) = W at *
 have hlt : w.heap.size + 1 < W.heap.size := World.block_lt_of_cell? _ _ k1
 have C1 := fun p : BelowOf W => ireads_any a b o c ll p.x hl hls ((h.below hb2 (Nat.le_refl _)).below p.h (Nat.le_refl _))
 rw [hr] at C1
 have saW := sa.below hb2 (Nat.le_refl _)
 have C2 := fun p : BelowOf W => valsOk_any s.a1 s.b1 s.o1 s.c1 s.l1 p.x hs1 (saW.below p.h (Nat.le_refl _)).reads
 have C3 := fun p : BelowOf W => valsOk_any s.a2 s.b2 s.o2 s.c2 s.l2 p.x hs2 (saW.below p.h (Nat.le_refl _)).last
 have K0 := BelowOf.cell k0
 have K1 := BelowOf.cell k1
 have K2 := BelowOf.cell k2
 clear k0 k1 k2 h sa saW
 by_cases g1 : (s.l1.length : Int) = r
 ·by_cases g2 : s.l2.length = 3
  ·cases g3 : M.vals s.l1
   ·rw [g3] at C2
    rw [g2] at K2 C3
    haveI : Inhabited (BelowOf W) := ⟨belOf W⟩
    refine wp_region_quiet_bel (by kernel_rfl) (by kernel_rfl) ?_
    repeat (quiet_step (first | (go_at_call 65; exact Calls.bel_of (C1 _)) | (go_at_call_of 66 (Value.slice s.a1 s.l1.length s.c1); exact Calls.bel_of_same (C2 _))))
    refine wpQuiet_nil ?_
    rintro _ ⟨⟨wq, hwq⟩, rfl⟩
    go_wp2_with fail
    go_ret
    exact ⟨ret_bool (M.seenOk_3 g3).symm, hb2.trans (hwq.mono hb2.size)⟩
   ·rw [g3] at C2
    rw [g2] at K2 C3
    generalize hv : M.vals s.l2 = v at C3
    haveI : Inhabited (BelowOf W) := ⟨belOf W⟩
    refine wp_region_quiet_bel (by kernel_rfl) (by kernel_rfl) ?_
    repeat (quiet_step (first | (go_at_call 65; exact Calls.bel_of (C1 _)) | (go_at_call_of 66 (Value.slice s.a1 s.l1.length s.c1); exact Calls.bel_of_same (C2 _)) | (go_at_call_of 66 (Value.slice s.a2 3 s.c2); exact Calls.bel_of_same (C3 _))))
    refine wpQuiet_nil ?_
    rintro _ ⟨⟨wq, hwq⟩, rfl⟩
    go_wp2_with fail
    go_ret
    exact ⟨ret_bool (by rw [M.seenOk_4 (by rw [hr]; exact g1) g2 g3, hv]), hb2.trans (hwq.mono hb2.size)⟩
  ·have g2' : ((s.l2.length : Int) == 3) = false := by simp; omega
   haveI : Inhabited (BelowOf W) := ⟨belOf W⟩
   refine wp_region_quiet_bel (by kernel_rfl) (by kernel_rfl) ?_
   repeat (quiet_step (first | (go_at_call 65; exact Calls.bel_of (C1 _))))
   refine wpQuiet_nil ?_
   rintro _ ⟨⟨wq, hwq⟩, rfl⟩
   go_wp2_with fail
   go_ret
   exact ⟨ret_bool (M.seenOk_2 g2).symm, hb2.trans (hwq.mono hb2.size)⟩
 ·have g1' : ((s.l1.length : Int) == r) = false := by simpa using g1
  haveI : Inhabited (BelowOf W) := ⟨belOf W⟩
  refine wp_region_quiet_bel (by kernel_rfl) (by kernel_rfl) ?_
  repeat (quiet_step (first | (go_at_call 65; exact Calls.bel_of (C1 _))))
  refine wpQuiet_nil ?_
  rintro _ ⟨⟨wq, hwq⟩, rfl⟩
  go_wp2_with fail
  go_ret
  exact ⟨ret_bool (M.seenOk_1 (by rw [hr]; exact g1)).symm, hb2.trans (hwq.mono hb2.size)⟩
end Go.Proofs.YtphijhpleemjoaaGreat
namespace Go.Proofs.YtphijhpleemjoaaGreat
namespace M
theorem rdN_append (l m : List De) : rdN (l ++ m) = rdN l + rdN m := by simp [rdN]
theorem rdN_deD (t i : Nat) (lr : Int) (n : Nat) (d : D) : rdN (deD t i lr n d) = if reads d.k then 1 else 0 := by
 unfold deD rdN
 by_cases h : d.k == 9
 ·have h9 : d.k = 9 := by simpa using h
  have hu : reads d.k = false := by rw [h9]; decide
  rw [if_pos h]; simp [De.reads, hu]
 ·rw [if_neg h]
  cases hu : reads d.k <;> simp [De.reads, hu]
theorem rdN_deT (t : Nat) : ∀ (l : List D) (i : Nat) (lr : Int) (n : Nat), rdN (deT t i lr n l) = cnt reads l
 | [], _, _, _ => by simp [deT, rdN, cnt]
 | d :: l, i, lr, n => by
  rw [deT, rdN_append, rdN_deD, rdN_deT t l, cnt_cons]
theorem rdN_deF : ∀ (ll : List (List D)) (t n : Nat), rdN (deF t n ll) = tot reads ll
 | [], _, _ => by simp [deF, rdN, tot]
 | l :: ll, t, n => by rw [deF, rdN_append, rdN_deT, rdN_deF ll, tot]
theorem rdAt_len (ds : List De) (l : List Int) : ∀ (xs : List De) (n : Nat), (rdAt ds l n xs).length = rdN xs
 | [], _ => by simp [rdAt, rdN]
 | x :: xs, n => by
  have ih := rdAt_len ds l xs (n + 1)
  unfold rdAt
  cases hx : x.reads
  ·simpa [rdN, hx] using ih
  ·simp [rdN, hx]; simpa [rdN] using ih
theorem deed_v3 {ll : List (List D)} (h : prog ll = true) : ∀ x ∈ deeds ll, 0 ≤ x.d.v ∧ x.d.v ≤ 3 := by
 intro x hx
 have := deed_do h x hx
 simp only [doOk, Bool.and_eq_true, valOk] at this
 have hv := this.2
 split at hv
 ·simp at hv; omega
 ·simp at hv; omega
theorem vl_in {ll : List (List D)} {l : List Int} {rows : List (List Int)} (h : Way ll l rows) (n : Nat) (hn : n < (deeds ll).length) : 0 ≤ vl (deeds ll) l n ∧ vl (deeds ll) l n ≤ 3 := by
 obtain ⟨q, hq, _, e⟩ := vl_of h.inn h.len.out h.zero h.fin n hn
 rw [e]
 exact deed_v3 h.prog _ (List.getElem_mem hq)
theorem rdAt_in {ll : List (List D)} {l : List Int} {rows : List (List Int)} (h : Way ll l rows) : ∀ (xs : List De) (n : Nat), n + xs.length ≤ (deeds ll).length → vals (rdAt (deeds ll) l n xs) = true
 | [], _, _ => by simp [rdAt, vals]
 | x :: xs, n, hn => by
  simp only [List.length_cons] at hn
  have ih := rdAt_in h xs (n + 1) (by omega)
  have hv := vl_in h n (by omega)
  unfold rdAt
  split
  ·simp only [vals, List.all_cons, Bool.and_eq_true, decide_eq_true_eq] at ih ⊢
   exact ⟨hv, ih⟩
  ·exact ih
theorem last_in {ll : List (List D)} {l : List Int} {rows : List (List Int)} (h : Way ll l rows) : ∀ (rs : List (List Int)), (∀ r ∈ rs, r ∈ rows) → vals (seenL (deeds ll) l rs) = true
 | [], _ => by simp [seenL, vals]
 | r :: rs, hr => by
  have ih := last_in h rs (fun x hx => hr x (List.mem_cons_of_mem _ hx))
  have hv : 0 ≤ lastOf (deeds ll) l r ∧ lastOf (deeds ll) l r ≤ 3 := by
   rcases Nat.eq_zero_or_pos r.length with h0 | h0
   ·rw [List.length_eq_zero_iff.1 h0, last_nil]; omega
   ·rw [last_some _ _ h0]
    obtain ⟨m0, m1⟩ := h.mem r (hr r (List.mem_cons_self ..)) _ (List.getElem_mem (show r.length - 1 < r.length by omega))
    obtain ⟨q, hq⟩ := Int.eq_ofNat_of_zero_le m0
    rw [hq] at m1 ⊢
    exact vl_in h q (by omega)
  simp only [seenL, List.map_cons, vals, List.all_cons, Bool.and_eq_true, decide_eq_true_eq] at ih ⊢
  exact ⟨hv, ih⟩
theorem exec_seenOk {ll : List (List D)} {l : List Int} {rows : List (List Int)} (h : execOk ll l rows = true) : seenOk ll (execSeen ll l rows).1 (execSeen ll l rows).2 = true := by
 have W := way_of h
 have e : execSeen ll l rows = (seenR (deeds ll) l, seenL (deeds ll) l rows) := by simp [execSeen, h]
 have h1 : ((seenR (deeds ll) l).length : Int) = nreads ll := by
  rw [nreads_ok W.prog, seenR, rdAt_len, deeds, rdN_deF]
 have h2 : (seenL (deeds ll) l rows).length = 3 := by rw [seenL, List.length_map, W.three.out]
 have h3 : vals (seenR (deeds ll) l) = true := rdAt_in W _ _ (by simp)
 have h4 : vals (seenL (deeds ll) l rows) = true := last_in W rows (fun _ h => h)
 rw [e]
 simp only [seenOk, h1, h2, h3, h4, decide_true, Bool.and_true]
end M
end Go.Proofs.YtphijhpleemjoaaGreat
