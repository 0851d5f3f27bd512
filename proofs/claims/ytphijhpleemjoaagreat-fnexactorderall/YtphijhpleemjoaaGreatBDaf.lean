/- The law's own comparing of programs: two that are the same are told so. Of programs of at most 1048576 threads, each of at most 1048576 steps. The law's own look at sizes: behind it, if it is not below nought, a program has at most 1048576 threads, each of at most 1048576 steps. -/
import Derived.Deep.RegionWith
import Derived.Test.YtphijhpleemjoaaGreatBDad
namespace Go.Proofs.YtphijhpleemjoaaGreat
open Go.RowKit
set_option maxHeartbeats 400000 in
theorem eqDo_same (d : M.D) (w : World) :
  Calls Tryz.prog 167 #[.agg #[.int .i64 d.k, .int .i64 d.p, .int .i64 d.v], .agg #[.int .i64 d.k, .int .i64 d.p, .int .i64 d.v]] w fun e w' => e = .returned (.bool true) ∧ Below w.heap.size w w' := by
 obtain ⟨k, p, v⟩ := d
 go_enter Tryz.func167, Tryz.ntmps167
 go_wp2_with fail
 go_ret
 exact ⟨rfl, below2 _ _ _⟩
set_option maxHeartbeats 400000 in
theorem eqDoS_same (a : Option Addr) (b o c : Nat) (a2 : Option Addr) (b2 o2 c2 : Nat) (l : List M.D) (w : World) (hl : l.length ≤ 1048576) (h : DoS w a b o l) (h2 : DoS w a2 b2 o2 l) :
  Calls Tryz.prog 126 #[.slice a l.length c, .slice a2 l.length c2] w fun e w' => e = .returned (.bool true) ∧ Below w.heap.size w w' := by
 go_enter Tryz.func126, Tryz.ntmps126
 go_wp2_with fail
 go_loopw [5] (fun s5 wr => ∃ n : Nat, s5 = .int .i64 n ∧ n ≤ l.length ∧ Below w.heap.size w wr) (fun s5 _ => l.length - (intOf s5).toNat)
 case atStart => exact ⟨0, rfl, Nat.zero_le _, Below.refl _ _⟩
 case round =>
  obtain ⟨n, rfl, hn, hbel⟩ := hrel
  by_cases hlt : n < l.length
  ·obtain ⟨rfl⟩ := h.addr (by omega)
   obtain ⟨rfl⟩ := h2.addr (by omega)
   have hd := (h.row n hlt).below hbel (Nat.le_refl _)
   have hd2 := (h2.row n hlt).below hbel (Nat.le_refl _)
   generalize l[n] = d at hd hd2
   obtain ⟨k, p, v⟩ := d
   obtain ⟨ck, cp, cv⟩ := hd
   obtain ⟨ck2, cp2, cv2⟩ := hd2
   go_wp2_with fail
   go_region_with (go_at_call 167; refine (eqDo_same ⟨k, p, v⟩ _).mono ?_; rintro e w1 ⟨rfl, hb1⟩)
   all_goals
    go_wp2_with fail
    exact ⟨⟨n + 1, by go_num, by omega, hbel.drew.trans (hb1.mono hbel.size)⟩, by simp [intOf]; omega⟩
  ·go_wp2_with fail
   go_ret
   exact ⟨rfl, hbel⟩
set_option maxHeartbeats 400000 in
theorem eqDoSS_same (a : Option Addr) (b o c : Nat) (a2 : Option Addr) (b2 o2 c2 : Nat) (ll : List (List M.D)) (w : World) (hl : ll.length ≤ 1048576) (hls : ∀ t ∈ ll, t.length ≤ 1048576) (h : DoSS w a b o ll) (h2 : DoSS w a2 b2 o2 ll) :
  Calls Tryz.prog 75 #[.slice a ll.length c, .slice a2 ll.length c2] w fun e w' => e = .returned (.bool true) ∧ Below w.heap.size w w' := by
 go_enter Tryz.func75, Tryz.ntmps75
 go_wp2_with fail
 go_loopw [5] (fun s5 wr => ∃ n : Nat, s5 = .int .i64 n ∧ n ≤ ll.length ∧ Below w.heap.size w wr) (fun s5 _ => ll.length - (intOf s5).toNat)
 case atStart => exact ⟨0, rfl, Nat.zero_le _, Below.refl _ _⟩
 case round =>
  obtain ⟨n, rfl, hn, hbel⟩ := hrel
  by_cases hlt : n < ll.length
  ·obtain ⟨rfl⟩ := h.addr (by omega)
   obtain ⟨rfl⟩ := h2.addr (by omega)
   obtain ⟨a', b', o', c', hc, hd⟩ := (h.below hbel (Nat.le_refl _)).row n hlt
   obtain ⟨a3, b3, o3, c3, hc3, hd3⟩ := (h2.below hbel (Nat.le_refl _)).row n hlt
   have hlt' := hls _ (List.getElem_mem hlt)
   generalize ll[n] = t at hd hc hd3 hc3 hlt'
   go_wp2_with fail
   go_region_with (go_at_call 126; refine (eqDoS_same a' b' o' c' a3 b3 o3 c3 t _ hlt' ?_ ?_).mono ?_; exact hd.below (Below.refl _ _).drew (Nat.le_refl _); exact hd3.below (Below.refl _ _).drew (Nat.le_refl _); rintro e w1 ⟨rfl, hb1⟩)
   all_goals
    go_wp2_with fail
    exact ⟨⟨n + 1, by go_num, by omega, hbel.drew.trans (hb1.mono hbel.size)⟩, by simp [intOf]; omega⟩
  ·go_wp2_with fail
   go_ret
   exact ⟨rfl, hbel⟩
set_option maxHeartbeats 400000 in
theorem eqProg_same (a : Option Addr) (b o c : Nat) (a2 : Option Addr) (b2 o2 c2 : Nat) (ll : List (List M.D)) (w : World) (hl : ll.length ≤ 1048576) (hls : ∀ t ∈ ll, t.length ≤ 1048576) (h : DoSS w a b o ll) (h2 : DoSS w a2 b2 o2 ll) :
  Calls Tryz.prog 35 #[.agg #[.slice a ll.length c], .agg #[.slice a2 ll.length c2]] w fun e w' => e = .returned (.bool true) ∧ Below w.heap.size w w' := by
 go_enter Tryz.func35, Tryz.ntmps35
 go_wp2_with (go_at_call 75; refine (eqDoSS_same a b o c a2 b2 o2 c2 ll _ hl hls (h.below (below2 w _ _) (Nat.le_refl _)) (h2.below (below2 w _ _) (Nat.le_refl _))).mono ?_; rintro e w1 ⟨rfl, hb1⟩)
 go_ret
 exact ⟨rfl, (below2 w _ _).trans (hb1.mono (by simp; omega))⟩
end Go.Proofs.YtphijhpleemjoaaGreat
namespace Go.Proofs.YtphijhpleemjoaaGreat
open Go.RowKit
set_option maxHeartbeats 400000 in
theorem szDoS_any (a : Option Addr) (n c : Nat) (left : Int) (w : World) (h0 : 0 ≤ left) (h1 : left ≤ 1048576) (hn : n ≤ 9223372036854775807) :
  Calls Tryz.prog 123 #[.slice a n c, .int .i64 left] w fun e w' => ∃ r : Int, e = .returned (.int .i64 r) ∧ w' = w ∧ r ≤ 1048576 ∧ (r < 0 ∨ (0 ≤ r ∧ n ≤ 1048576)) := by
 by_cases hs : left - n < 0
 ·go_enter Tryz.func123, Tryz.ntmps123
  go_wp2_with fail
  go_ret
  exact ⟨-1, rfl, rfl, by omega, Or.inl (by omega)⟩
 ·go_enter Tryz.func123, Tryz.ntmps123
  go_wp2_with fail
  go_ret
  exact ⟨left - n, rfl, rfl, by omega, Or.inr ⟨by omega, by omega⟩⟩
set_option maxHeartbeats 400000 in
theorem szDoSS_le (a : Option Addr) (b o c : Nat) (ll : List (List M.D)) (left : Int) (w : World) (h0 : 0 ≤ left) (h1 : left ≤ 1048576) (hl : ll.length ≤ 9223372036854775807) (hls : ∀ t ∈ ll, t.length ≤ 9223372036854775807) (h : DoSS w a b o ll) :
  Calls Tryz.prog 72 #[.slice a ll.length c, .int .i64 left] w fun e w' => ∃ r : Int, e = .returned (.int .i64 r) ∧ w' = w ∧ (r < 0 ∨ (r ≤ 1048576 ∧ 0 ≤ r ∧ ll.length ≤ 1048576 ∧ ∀ t ∈ ll, t.length ≤ 1048576)) := by
 by_cases hs : left - ll.length < 0
 ·go_enter Tryz.func72, Tryz.ntmps72
  go_wp2_with fail
  go_ret
  exact ⟨-1, rfl, rfl, Or.inl (by omega)⟩
 ·go_enter Tryz.func72, Tryz.ntmps72
  go_wp2_with fail
  go_loopw [1, 5] (fun s1 s5 wr => ∃ (r : Int) (n : Nat), s1 = .int .i64 r ∧ s5 = .int .i64 n ∧ n ≤ ll.length ∧ 0 ≤ r ∧ r ≤ 1048576 ∧ (∀ q (_ : q < n) (hq : q < ll.length), ll[q].length ≤ 1048576) ∧ wr = w) (fun _ s5 _ => ll.length - (intOf s5).toNat)
  case atStart => exact ⟨_, 0, rfl, rfl, Nat.zero_le _, by omega, by omega, fun q hq _ => absurd hq (Nat.not_lt_zero _), rfl⟩
  case round =>
   obtain ⟨r, n, rfl, rfl, hn, hr0, hr1, hall, rfl⟩ := hrel
   have HA : Hid (∀ q (_ : q < n) (hq : q < ll.length), ll[q].length ≤ 1048576) := hall
   clear hall
   by_cases hlt : n < ll.length
   ·obtain ⟨rfl⟩ := h.addr (by omega)
    obtain ⟨a', b', o', c', hc, hd⟩ := h.row n hlt
    have hlt' := hls _ (List.getElem_mem hlt)
    go_wp2_with (go_at_call 123; refine (szDoS_any a' _ c' r _ hr0 hr1 hlt').mono ?_; rintro e w1 ⟨r', rfl, rfl, hr', hor⟩)
    ·go_ret
     exact ⟨-1, rfl, rfl, Or.inl (by omega)⟩
    ·exact ⟨⟨r', n + 1, rfl, by go_num, by omega, by omega, hr', fun q hq hql => by
      by_cases e : q = n
      ·subst e; omega
      ·exact HA.out q (by omega) hql, trivial⟩, by simp [intOf]; omega⟩
   ·go_wp2_with fail
    go_ret
    exact ⟨r, rfl, rfl, Or.inr ⟨hr1, hr0, by omega, fun t ht => by
     obtain ⟨q, hq, rfl⟩ := List.getElem_of_mem ht
     exact HA.out q (by omega) hq⟩⟩
set_option maxHeartbeats 400000 in
theorem szProg_le (a : Option Addr) (b o c : Nat) (ll : List (List M.D)) (w : World) (hl : ll.length ≤ 9223372036854775807) (hls : ∀ t ∈ ll, t.length ≤ 9223372036854775807) (h : DoSS w a b o ll) :
  Calls Tryz.prog 32 #[.agg #[.slice a ll.length c], .int .i64 1048576] w fun e w' => ∃ r : Int, e = .returned (.int .i64 r) ∧ w' = w.alloc (.cells #[.slice a ll.length c] 57) ∧ (r < 0 ∨ (r ≤ 1048576 ∧ 0 ≤ r ∧ ll.length ≤ 1048576 ∧ ∀ t ∈ ll, t.length ≤ 1048576)) := by
 go_enter Tryz.func32, Tryz.ntmps32
 go_wp2_with (go_at_call 72; refine (szDoSS_le a b o c ll _ _ (by decide) (by decide) hl hls (h.below (below1 w _) (Nat.le_refl _))).mono ?_; rintro e w1 ⟨r', rfl, rfl, hor⟩)
 ·go_ret
  exact ⟨-1, rfl, rfl, Or.inl (by omega)⟩
 ·go_ret
  exact ⟨r', rfl, rfl, hor⟩
theorem szProg_any (a : Option Addr) (b o c : Nat) (ll : List (List M.D)) (w : World) (hl : ll.length ≤ 9223372036854775807) (hls : ∀ t ∈ ll, t.length ≤ 9223372036854775807) (h : DoSS w a b o ll) :
  Calls Tryz.prog 32 #[.agg #[.slice a ll.length c], .int .i64 1048576] w fun e w' => ∃ r : Int, e = .returned (.int .i64 r) ∧ w' = w.alloc (.cells #[.slice a ll.length c] 57) ∧ (r < 0 ∨ (0 ≤ r ∧ ll.length ≤ 1048576 ∧ ∀ t ∈ ll, t.length ≤ 1048576)) :=
 (szProg_le a b o c ll w hl hls h).mono fun _ _ ⟨r, he, hw, hor⟩ => ⟨r, he, hw, hor.imp id And.right⟩
end Go.Proofs.YtphijhpleemjoaaGreat
