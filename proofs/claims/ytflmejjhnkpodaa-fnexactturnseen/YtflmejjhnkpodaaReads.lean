/- impl's and spec's ProgReads: how many reads a program has. Of programs of at most 1048576 threads, each of at most 1048576 steps. -/
import Derived.Test.YtflmejjhnkpodaaSProg
import Derived.Test.YtflmejjhnkpodaaMathN
namespace Go.Proofs.Ytflmejjhnkpodaa
open Go.RowKit

set_option maxHeartbeats 400000 in
theorem cntReads_any (a : Option Addr) (b o c : Nat) (l : List M.D) (w : World) (hl : l.length ≤ 1048576) (h : DoS w a b o l) :
    Calls Try.prog 56 #[.slice a l.length c, .func (.func 57) #[] #[]] w fun e w' => e = .returned (.int .i64 (M.cnt M.reads l)) ∧ Below w.heap.size w w' := by
  go_enter Try.func56, Try.ntmps56
  go_wp2_with fail
  go_loopw [5, 10] (fun s5 s10 wr => ∃ m n : Nat, s5 = .int .i64 m ∧ s10 = .int .i64 n ∧ n ≤ l.length ∧ m ≤ n ∧ M.cnt M.reads l = m + M.cnt M.reads (l.drop n) ∧ Below w.heap.size w wr) (fun _ s10 _ => l.length - (intOf s10).toNat)
  case atStart => exact ⟨0, 0, rfl, rfl, Nat.zero_le _, Nat.le_refl _, by simp, Below.refl _ _⟩
  case round =>
    obtain ⟨m, n, rfl, rfl, hn, hmn, hpass, hbel⟩ := hrel
    have HP : Hid (M.cnt M.reads l = m + M.cnt M.reads (l.drop n)) := hpass
    clear hpass
    by_cases hlt : n < l.length
    · obtain ⟨rfl⟩ := h.addr (by omega)
      have hd := (h.row n hlt).below hbel (Nat.le_refl _)
      have HD : Hid (l.drop n = l[n] :: l.drop (n + 1)) := M.drop_at l n hlt
      generalize l[n] = d at hd HD
      obtain ⟨k, p, v⟩ := d
      obtain ⟨ck, cp, cv⟩ := hd
      cases hu : M.reads k
      · go_wp2_with (go_at_call 57; refine (reads_any _ _).mono ?_; rintro e w1 ⟨rfl, rfl⟩)
        exact ⟨⟨m, n + 1, rfl, by go_num, by omega, by omega, M.cnt_step HP.out HD.out (by simp [hu]), hbel.alloc hbel.size _⟩, by simp [intOf]; omega⟩
      · go_wp2_with (go_at_call 57; refine (reads_any _ _).mono ?_; rintro e w1 ⟨rfl, rfl⟩)
        exact ⟨⟨m + 1, n + 1, by go_num, by go_num, by omega, by omega, M.cnt_step HP.out HD.out (by simp [hu]), hbel.alloc hbel.size _⟩, by simp [intOf]; omega⟩
    · go_wp2_with fail
      go_ret
      exact ⟨ret_int (by rw [M.cnt_fin HP.out (by omega)]), hbel⟩

set_option maxHeartbeats 400000 in
theorem ireads_any (a : Option Addr) (b o c : Nat) (ll : List (List M.D)) (w : World) (hl : ll.length ≤ 1048576) (hls : ∀ t ∈ ll, t.length ≤ 1048576) (h : DoSS w a b o ll) :
    Calls Try.prog 39 #[.agg #[.slice a ll.length c]] w fun e w' => e = .returned (.int .i64 (M.nreads ll)) ∧ Below w.heap.size w w' := by
  cases hp : M.prog ll
  · go_enter Try.func39, Try.ntmps39
    go_wp2_with (go_at_call 36; refine (iprog_any a b o c ll _ hl hls (h.below (below1 w _) (Nat.le_refl _))).mono ?_; rintro e w1 ⟨rfl, hb1⟩)
    go_ret
    exact ⟨ret_int (M.nreads_no hp).symm, (below1 w _).trans (hb1.mono (by simp))⟩
  · obtain ⟨h3, h7⟩ := M.prog_le hp
    go_enter Try.func39, Try.ntmps39
    go_wp2_with (go_at_call 36; refine (iprog_any a b o c ll _ hl hls (h.below (below1 w _) (Nat.le_refl _))).mono ?_; rintro e w1 ⟨rfl, hb1⟩; obtain ⟨hc1, hf1⟩ := bcell hb1)
    have hs1 := (h.below (below1 w _) (Nat.le_refl _)).below hb1 (Nat.le_refl _)
    have hbw : Below w.heap.size w w1 := (below1 w _).trans (hb1.mono (by simp))
    clear hb1 hc1 hf1 h
    go_loopw [3, 12] (fun s3 s12 wr => ∃ m n : Nat, s3 = .int .i64 m ∧ s12 = .int .i64 n ∧ n ≤ ll.length ∧ m ≤ 7 * n ∧ M.tot M.reads ll = m + M.tot M.reads (ll.drop n) ∧ Below w1.heap.size w1 wr) (fun _ s12 _ => ll.length - (intOf s12).toNat)
    case atStart => exact ⟨0, 0, rfl, rfl, Nat.zero_le _, Nat.le_refl _, by simp, Below.refl _ _⟩
    case round =>
      obtain ⟨m, n, rfl, rfl, hn, hmn, hpass, hbel⟩ := hrel
      have HP : Hid (M.tot M.reads ll = m + M.tot M.reads (ll.drop n)) := hpass
      clear hpass
      by_cases hlt : n < ll.length
      · obtain ⟨rfl⟩ := hs1.addr (by omega)
        obtain ⟨a', b', o', c', hc, hd⟩ := (hs1.below hbel (Nat.le_refl _)).row n hlt
        have HD : Hid (ll.drop n = ll[n] :: ll.drop (n + 1)) := M.drop_at' ll n hlt
        have hlt' := hls _ (List.getElem_mem hlt)
        have hlt7 := h7 _ (List.getElem_mem hlt)
        generalize ll[n] = t at hd hc HD hlt' hlt7
        have hcn := M.cnt_le M.reads t
        go_wp2_with (go_at_call 56; refine (cntReads_any a' b' o' c' t _ hlt' hd).mono ?_; rintro e w2 ⟨rfl, hb2⟩)
        exact ⟨⟨m + M.cnt M.reads t, n + 1, by go_num, by go_num, by omega, by omega, M.tot_step HP.out HD.out, hbel.trans (hb2.mono hbel.size)⟩, by simp [intOf]; omega⟩
      · go_wp2_with fail
        go_ret
        exact ⟨ret_int (by rw [M.nreads_ok hp, M.tot_fin HP.out (by omega)]), hbw.trans (hbel.mono hbw.size)⟩

set_option maxHeartbeats 1000000 in
theorem sreads_any (a : Option Addr) (b o c : Nat) (ll : List (List M.D)) (w : World) (hl : ll.length ≤ 1048576) (hls : ∀ t ∈ ll, t.length ≤ 1048576) (h : DoSS w a b o ll) :
    Calls Try.prog 30 #[.agg #[.slice a ll.length c]] w fun e w' => e = .returned (.int .i64 (M.nreads ll)) ∧ Below w.heap.size w w' := by
  cases hp : M.prog ll
  · go_enter Try.func30, Try.ntmps30
    go_wp2_with (go_at_call 51; refine (sprog_any a b o c ll _ hl hls (h.below (below1 w _) (Nat.le_refl _))).mono ?_; rintro e w1 ⟨rfl, hb1⟩)
    go_ret
    exact ⟨ret_int (M.nreads_no hp).symm, (below1 w _).trans (hb1.mono (by simp))⟩
  · obtain ⟨h3, h7⟩ := M.prog_le hp
    go_enter Try.func30, Try.ntmps30
    go_wp2_with (go_at_call 51; refine (sprog_any a b o c ll _ hl hls (h.below (below1 w _) (Nat.le_refl _))).mono ?_; rintro e w1 ⟨rfl, hb1⟩; obtain ⟨hc1, hf1⟩ := bcell hb1)
    have hs1 := (h.below (below1 w _) (Nat.le_refl _)).below hb1 (Nat.le_refl _)
    have hbw : Below w.heap.size w w1 := (below1 w _).trans (hb1.mono (by simp))
    have hbox1 : w1.cell? ⟨w.heap.size, 0, none⟩ = some (.slice a ll.length c) := by rw [hc1 _ _ (by simp)]; simp
    have hlt1 : w.heap.size < w1.heap.size := World.block_lt_of_cell? _ _ hbox1
    clear hb1 hc1 hf1 h
    go_loopw [3, 4] (fun s3 s4 wr => ∃ m n : Nat, s3 = .int .i64 m ∧ s4 = .int .i64 n ∧ n ≤ ll.length ∧ m ≤ 7 * n ∧ M.tot M.reads ll = m + M.tot M.reads (ll.drop n) ∧ Below w1.heap.size w1 wr) (fun _ s4 _ => ll.length - (intOf s4).toNat)
    case atStart => exact ⟨0, 0, rfl, rfl, Nat.zero_le _, Nat.le_refl _, by simp, Below.refl _ _⟩
    case round =>
      obtain ⟨m, n, rfl, rfl, hn, hmn, hpass, hbel⟩ := hrel
      have HP : Hid (M.tot M.reads ll = m + M.tot M.reads (ll.drop n)) := hpass
      clear hpass
      have hbox : wr.cell? ⟨w.heap.size, 0, none⟩ = some (.slice a ll.length c) := (hbel.cell (p := ⟨w.heap.size, 0, none⟩) hlt1).trans hbox1
      by_cases hlt : n < ll.length
      · obtain ⟨rfl⟩ := hs1.addr (by omega)
        obtain ⟨a', b', o', c', hc, hd⟩ := (hs1.below hbel (Nat.le_refl _)).row n hlt
        have HD : Hid (ll.drop n = ll[n] :: ll.drop (n + 1)) := M.drop_at' ll n hlt
        have hlt' := hls _ (List.getElem_mem hlt)
        have hlt7 := h7 _ (List.getElem_mem hlt)
        generalize ll[n] = t at hd hc HD hlt' hlt7
        have hcn := M.cnt_le M.reads t
        have hbl : b < wr.heap.size := World.block_lt_of_cell? _ _ hc
        have hltr : w.heap.size < wr.heap.size := World.block_lt_of_cell? _ _ hbox
        go_wp2_with fail
        go_loopw [3, 5] (fun s3 s5 wi => ∃ q k : Nat, s3 = .int .i64 (m + q) ∧ s5 = .int .i64 k ∧ k ≤ t.length ∧ q ≤ k ∧ M.cnt M.reads t = q + M.cnt M.reads (t.drop k) ∧ Below wr.heap.size wr wi) (fun _ s5 _ => t.length - (intOf s5).toNat)
        case atStart => exact ⟨0, 0, by simp, rfl, Nat.zero_le _, Nat.le_refl _, by simp, Below.refl _ _⟩
        case round =>
          obtain ⟨q, k, rfl, rfl, hk, hqk, hpass, hbi⟩ := hrel
          have HP2 : Hid (M.cnt M.reads t = q + M.cnt M.reads (t.drop k)) := hpass
          clear hpass
          have hboxi := (hbi.cell (p := ⟨w.heap.size, 0, none⟩) hltr).trans hbox
          have hci := (hbi.cell (p := ⟨b, o + n, none⟩) hbl).trans hc
          clear hbox hc
          by_cases hkt : k < t.length
          · obtain ⟨rfl⟩ := hd.addr (by omega)
            have hdk := (hd.row k hkt).below hbi (Nat.le_refl _)
            have HK : Hid (t.drop k = t[k] :: t.drop (k + 1)) := M.drop_at t k hkt
            generalize t[k] = d at hdk HK
            obtain ⟨kk, p, v⟩ := d
            obtain ⟨ck, cp, cv⟩ := hdk
            cases hr : M.reads kk
            · go_wp2_with (go_at_call 53; refine (l1Reads_any ⟨_, _, _⟩ _).mono ?_; rintro e w2 ⟨rfl, rfl⟩)
              exact ⟨⟨q, k + 1, rfl, by go_num, by omega, by omega, M.cnt_step HP2.out HK.out (by simp [hr]), hbi.alloc hbi.size _⟩, by simp [intOf]; omega⟩
            · go_wp2_with (go_at_call 53; refine (l1Reads_any ⟨_, _, _⟩ _).mono ?_; rintro e w2 ⟨rfl, rfl⟩)
              exact ⟨⟨q + 1, k + 1, by go_num, by go_num, by omega, by omega, M.cnt_step HP2.out HK.out (by simp [hr]), hbi.alloc hbi.size _⟩, by simp [intOf]; omega⟩
          · go_wp2_with fail
            have hm := M.cnt_fin HP2.out (by omega)
            exact ⟨⟨m + q, n + 1, by go_num, by go_num, by omega, by omega, by rw [hm]; exact M.tot_step HP.out HD.out, hbel.trans (hbi.mono hbel.size)⟩, by simp [intOf]; omega⟩
      · go_wp2_with fail
        go_ret
        exact ⟨ret_int (by rw [M.nreads_ok hp, M.tot_fin HP.out (by omega)]), hbw.trans (hbel.mono hbw.size)⟩

end Go.Proofs.Ytflmejjhnkpodaa
