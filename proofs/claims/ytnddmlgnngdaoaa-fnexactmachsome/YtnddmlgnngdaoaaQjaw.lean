/- spec's ProgOk. Of programs of at most 1048576 threads, each of at most 1048576 steps. spec.l71Thread: a drawn thread. spec.l71Prog: a drawn program that is ok. -/
import Derived.BigQuiet
import Derived.Deep.AppendLies
import Derived.Sort.Grow
import Derived.Test.YtnddmlgnngdaoaaRows
import Derived.Test.YtnddmlgnngdaoaaQjao
import Derived.Test.YtnddmlgnngdaoaaQjav
namespace Go.Proofs.Ytnddmlgnngdaoaa
section
open Go.RowKit
set_option maxHeartbeats 1000000 in
theorem sprog_any (a : Option Addr) (b o c : Nat) (ll : List (List M.D)) (w : World) (hl : ll.length ≤ 1048576) (hls : ∀ t ∈ ll, t.length ≤ 1048576) (h : DoSS w a b o ll) :
    Calls Try.prog 28 #[.agg #[.slice a ll.length c]] w fun e w' => e = .returned (.bool (M.prog ll)) ∧ Below w.heap.size w w' := by
  by_cases h3 : ll.length ≤ 3
  · have h3' : ¬ (3 : Int) < ll.length := by omega
    go_enter Try.func28, Try.ntmps28
    go_wp2_with fail
    go_loopw [3, 4, 5] (fun s3 s4 s5 wr => ∃ x u n : Nat, s3 = .int .i64 x ∧ s4 = .int .i64 u ∧ s5 = .int .i64 n ∧ n ≤ ll.length ∧ x ≤ 7 * n ∧ u ≤ 7 * n ∧ M.progFrom 0 0 ll = M.progFrom x u (ll.drop n) ∧ Below (w.heap.size + 1) (w.alloc (.cells #[.slice a ll.length c] 33)) wr) (fun _ _ s5 _ => ll.length - (intOf s5).toNat)
    case atStart => exact ⟨0, 0, 0, rfl, rfl, rfl, Nat.zero_le _, Nat.le_refl _, Nat.le_refl _, rfl, Below.refl _ _⟩
    case round =>
      obtain ⟨x, u, n, rfl, rfl, rfl, hn, hx, hu, hpass, hbel⟩ := hrel
      have HP : Hid (M.progFrom 0 0 ll = M.progFrom x u (ll.drop n)) := hpass
      clear hpass
      have hbox : wr.cell? ⟨w.heap.size, 0, none⟩ = some (.slice a ll.length c) := by rw [hbel.cell (p := ⟨w.heap.size, 0, none⟩) (by show w.heap.size < w.heap.size + 1; omega)]; simp
      have hsz := hbel.size
      simp only [World.size_alloc] at hsz
      by_cases hlt : n < ll.length
      · obtain ⟨rfl⟩ := h.addr (by omega)
        obtain ⟨a', b', o', c', hc, hd⟩ := ((h.below (below1 w _) (Nat.le_refl _)).below hbel (by simp)).row n hlt
        have HD : Hid (ll.drop n = ll[n] :: ll.drop (n + 1)) := M.drop_at' ll n hlt
        have hlt' := hls _ (List.getElem_mem hlt)
        generalize ll[n] = t at hd hc HD hlt'
        cases ht : M.thread t
        · go_wp2_with (go_at_call 49; refine (l1Thread_any a' b' o' c' t _ hlt' hd).mono ?_; rw [M.sthread_eq]; rintro e w1 ⟨rfl, hb1⟩)
          go_ret
          exact ⟨ret_bool (M.from_bad HP.out HD.out ht).symm, (below1 w _).trans ((hbel.mono (by omega)).trans (hb1.mono (by omega)))⟩
        · have ht7 := M.thread_le ht
          have hcn := M.cnt_le M.uses t
          have hbl : b < wr.heap.size := World.block_lt_of_cell? _ _ hc
          go_wp2_with (go_at_call 49; go_must (refine (l1Thread_any a' b' o' c' t _ hlt' hd).mono ?_; rw [M.sthread_eq]; rintro e w1 ⟨rfl, hb1⟩; have hbox1 : w1.cell? ⟨w.heap.size, 0, none⟩ = some (.slice (some ⟨b, o, none⟩) ll.length c) := (hb1.cell (p := ⟨w.heap.size, 0, none⟩) hsz).trans hbox; have hc1 : w1.cell? ⟨b, o + n, none⟩ = some (.slice a' t.length c') := (hb1.cell (p := ⟨b, o + n, none⟩) hbl).trans hc))
          have hd1 := hd.below hb1 (Nat.le_refl _)
          have hw1 : Below (w.heap.size + 1) (w.alloc (.cells #[.slice (some ⟨b, o, none⟩) ll.length c] 33)) w1 := hbel.trans (hb1.mono hsz)
          have hsz1 : w.heap.size + 1 ≤ w1.heap.size := Nat.le_trans hsz hb1.size
          have hbl1 : b < w1.heap.size := Nat.lt_of_lt_of_le hbl hb1.size
          clear hbox hc hd hbel hb1 hsz hbl
          go_loopw [4, 6] (fun s4 s6 wi => ∃ m k : Nat, s4 = .int .i64 (u + m) ∧ s6 = .int .i64 k ∧ k ≤ t.length ∧ m ≤ k ∧ M.cnt M.uses t = m + M.cnt M.uses (t.drop k) ∧ Below w1.heap.size w1 wi) (fun _ s6 _ => t.length - (intOf s6).toNat)
          case atStart => exact ⟨0, 0, by simp, rfl, Nat.zero_le _, Nat.le_refl _, by simp, Below.refl _ _⟩
          case round =>
            obtain ⟨m, k, rfl, rfl, hk, hmk, hpass, hbi⟩ := hrel
            have HP2 : Hid (M.cnt M.uses t = m + M.cnt M.uses (t.drop k)) := hpass
            clear hpass
            have hbox : wr.cell? ⟨w.heap.size, 0, none⟩ = some (.slice (some ⟨b, o, none⟩) ll.length c) := by rw [hbi.cell (p := ⟨w.heap.size, 0, none⟩) hsz1]; exact hbox1
            have hc : wr.cell? ⟨b, o + n, none⟩ = some (.slice a' t.length c') := by rw [hbi.cell (p := ⟨b, o + n, none⟩) hbl1]; exact hc1
            clear hbox1 hc1
            by_cases hkt : k < t.length
            · obtain ⟨rfl⟩ := hd1.addr (by omega)
              have hdk := (hd1.row k hkt).below hbi (Nat.le_refl _)
              have HK : Hid (t.drop k = t[k] :: t.drop (k + 1)) := M.drop_at t k hkt
              generalize t[k] = d at hdk HK
              obtain ⟨kk, p, v⟩ := d
              have hl2 : b' < wr.heap.size := hdk.lt
              have hl3 : w.heap.size < wr.heap.size := Nat.lt_of_lt_of_le hsz1 hbi.size
              have hl4 : b < wr.heap.size := Nat.lt_of_lt_of_le hbl1 hbi.size
              obtain ⟨ck, cp, cv⟩ := hdk
              cases hr : M.reads kk
              · cases hw : M.writes kk
                · go_wp2_with (first | (go_at_call 50; refine (l1Reads_any ⟨_, _, _⟩ _).mono ?_; rintro e w2 ⟨rfl, rfl⟩) | (go_at_call 51; refine (l1Writes_any ⟨_, _, _⟩ _).mono ?_; rintro e w2 ⟨rfl, rfl⟩))
                  exact ⟨⟨m, k + 1, rfl, by go_num, by omega, by omega, M.cnt_step HP2.out HK.out (by simp [M.uses, hr, hw]), (hbi.alloc hbi.size _).alloc (by have := hbi.size; simp; omega) _⟩, by simp [intOf]; omega⟩
                · go_wp2_with (first | (go_at_call 50; refine (l1Reads_any ⟨_, _, _⟩ _).mono ?_; rintro e w2 ⟨rfl, rfl⟩) | (go_at_call 51; refine (l1Writes_any ⟨_, _, _⟩ _).mono ?_; rintro e w2 ⟨rfl, rfl⟩))
                  exact ⟨⟨m + 1, k + 1, by go_num, by go_num, by omega, by omega, M.cnt_step HP2.out HK.out (by simp [M.uses, hr, hw]), (hbi.alloc hbi.size _).alloc (by have := hbi.size; simp; omega) _⟩, by simp [intOf]; omega⟩
              · go_wp2_with (first | (go_at_call 50; refine (l1Reads_any ⟨_, _, _⟩ _).mono ?_; rintro e w2 ⟨rfl, rfl⟩) | (go_at_call 51; refine (l1Writes_any ⟨_, _, _⟩ _).mono ?_; rintro e w2 ⟨rfl, rfl⟩))
                exact ⟨⟨m + 1, k + 1, by go_num, by go_num, by omega, by omega, M.cnt_step HP2.out HK.out (by simp [M.uses, hr]), hbi.alloc hbi.size _⟩, by simp [intOf]; omega⟩
            · go_wp2_with fail
              have hm := M.cnt_fin HP2.out (by omega)
              exact ⟨⟨x + t.length, u + m, n + 1, by go_num, by go_num, by go_num, by omega, by omega, by omega, by rw [hm]; exact M.from_ok HP.out HD.out ht, hw1.trans (hbi.mono hsz1)⟩, by simp [intOf]; omega⟩
      · by_cases hx14 : (x : Int) ≤ 14
        · go_wp2_with fail
          go_ret
          exact ⟨ret_bool (by rw [M.from_fin HP.out (by omega) h3]; have : x ≤ 14 := by omega
                              simp [this]; omega), (below1 w _).trans (hbel.mono (by omega))⟩
        · have hx14' : decide ((x : Int) ≤ 14) = false := by simpa using hx14
          go_wp2_with fail
          go_ret
          exact ⟨ret_bool (by rw [M.from_fin HP.out (by omega) h3]; have : ¬ x ≤ 14 := by omega
                              simp [this]), (below1 w _).trans (hbel.mono (by omega))⟩
  · have h3' : (3 : Int) < ll.length := by omega
    go_enter Try.func28, Try.ntmps28
    go_wp2_with fail
    go_ret
    exact ⟨ret_bool (by simp [M.prog, h3]), below1 _ _⟩
end
section
open Go.RowKit
theorem Try.info84:(Try.prog.info? 84).map (fun i=>(i.zero,i.size,i.bytes))=some (some (.agg #[.int .i64 0,.int .i64 0,.int .i64 0]),3,24):=by kernel_rfl
end
section
open Go.RowKit
theorem Try.info60:(Try.prog.info? 60).map (fun i=>(i.zero,i.size,i.bytes))=some (some (.slice none 0 0),1,24):=by kernel_rfl
end
end Go.Proofs.Ytnddmlgnngdaoaa
