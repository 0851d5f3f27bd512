/- impl's and spec's WallGaps: how many gaps a program has. Of programs of at most 1048576 threads, each of at most 1048576 steps. -/
import Derived.Test.YtoabfiocjjfjeaaSProg
import Derived.Test.YtoabfiocjjfjeaaWlMath
namespace Go.Proofs.Ytoabfiocjjfjeaa
open Go.RowKit

set_option maxHeartbeats 400000 in
theorem igaps_any (a : Option Addr) (b o c : Nat) (ll : List (List M.D)) (w : World) (hl : ll.length ≤ 1048576) (hls : ∀ t ∈ ll, t.length ≤ 1048576) (h : DoSS w a b o ll) :
    Calls Try.prog 29 #[.agg #[.slice a ll.length c]] w fun e w' => e = .returned (.int .i64 (M.gaps ll)) ∧ Below w.heap.size w w' := by
  cases hp : M.prog ll
  · go_enter Try.func29, Try.ntmps29
    go_wp2_with (go_at_call 32; refine (iprog_any a b o c ll _ hl hls (h.below (below1 w _) (Nat.le_refl _))).mono ?_; rintro e w1 ⟨rfl, hb1⟩)
    go_ret
    exact ⟨ret_int (M.gaps_no hp).symm, (below1 w _).trans (hb1.mono (by simp))⟩
  · obtain ⟨h3, h7⟩ := M.prog_le hp
    go_enter Try.func29, Try.ntmps29
    go_wp2_with (go_at_call 32; refine (iprog_any a b o c ll _ hl hls (h.below (below1 w _) (Nat.le_refl _))).mono ?_; rintro e w1 ⟨rfl, hb1⟩; obtain ⟨hc1, hf1⟩ := bcell hb1)
    have hs1 := (h.below (below1 w _) (Nat.le_refl _)).below hb1 (Nat.le_refl _)
    have hbw : Below w.heap.size w w1 := (below1 w _).trans (hb1.mono (by simp))
    clear hb1 hc1 hf1 h
    go_loopw [3, 12] (fun s3 s12 wr => ∃ m n : Nat, s3 = .int .i64 m ∧ s12 = .int .i64 n ∧ n ≤ ll.length ∧ m ≤ 7 * n ∧ M.gapsN ll = m + M.gapsN (ll.drop n) ∧ wr = w1) (fun _ s12 _ => ll.length - (intOf s12).toNat)
    case atStart => exact ⟨0, 0, rfl, rfl, Nat.zero_le _, Nat.le_refl _, by simp, rfl⟩
    case round =>
      obtain ⟨m, n, rfl, rfl, hn, hmn, hpass, rfl⟩ := hrel
      have HP : Hid (M.gapsN ll = m + M.gapsN (ll.drop n)) := hpass
      clear hpass
      by_cases hlt : n < ll.length
      · obtain ⟨rfl⟩ := hs1.addr (by omega)
        obtain ⟨a', b', o', c', hc, hd⟩ := hs1.row n hlt
        have HD : Hid (ll.drop n = ll[n] :: ll.drop (n + 1)) := M.drop_at' ll n hlt
        have hlt7 := h7 _ (List.getElem_mem hlt)
        generalize ll[n] = t at hd hc HD hlt7
        have i1 : (n : Int) < ll.length := by omega
        go_wp2_with fail
        exact ⟨⟨m + (t.length - 1), n + 1, by congr 1; split <;> omega, by go_num, by omega, by omega, M.gapsN_step HP.out HD.out, trivial⟩, by simp [intOf]; omega⟩
      · go_wp2_with fail
        go_ret
        exact ⟨ret_int (by rw [M.gaps_ok hp, M.gapsN_fin HP.out (by omega)]), hbw⟩

set_option maxHeartbeats 400000 in
theorem sgaps_any (a : Option Addr) (b o c : Nat) (ll : List (List M.D)) (w : World) (hl : ll.length ≤ 1048576) (hls : ∀ t ∈ ll, t.length ≤ 1048576) (h : DoSS w a b o ll) :
    Calls Try.prog 24 #[.agg #[.slice a ll.length c]] w fun e w' => e = .returned (.int .i64 (M.gaps ll)) ∧ Below w.heap.size w w' := by
  cases hp : M.prog ll
  · go_enter Try.func24, Try.ntmps24
    go_wp2_with (go_at_call 26; refine (sprog_any a b o c ll _ hl hls (h.below (below1 w _) (Nat.le_refl _))).mono ?_; rintro e w1 ⟨rfl, hb1⟩)
    go_ret
    exact ⟨ret_int (M.gaps_no hp).symm, (below1 w _).trans (hb1.mono (by simp))⟩
  · obtain ⟨h3, h7⟩ := M.prog_le hp
    go_enter Try.func24, Try.ntmps24
    go_wp2_with (go_at_call 26; refine (sprog_any a b o c ll _ hl hls (h.below (below1 w _) (Nat.le_refl _))).mono ?_; rintro e w1 ⟨rfl, hb1⟩; obtain ⟨hc1, hf1⟩ := bcell hb1)
    have hs1 := (h.below (below1 w _) (Nat.le_refl _)).below hb1 (Nat.le_refl _)
    have hbw : Below w.heap.size w w1 := (below1 w _).trans (hb1.mono (by simp))
    have hbox1 : w1.cell? ⟨w.heap.size, 0, none⟩ = some (.slice a ll.length c) := by rw [hc1 _ _ (by simp)]; simp
    clear hb1 hc1 hf1 h
    go_loopw [3, 4] (fun s3 s4 wr => ∃ m n : Nat, s3 = .int .i64 m ∧ s4 = .int .i64 n ∧ n ≤ ll.length ∧ m ≤ 7 * n ∧ M.gapsN ll = m + M.gapsN (ll.drop n) ∧ wr = w1) (fun _ s4 _ => ll.length - (intOf s4).toNat)
    case atStart => exact ⟨0, 0, rfl, rfl, Nat.zero_le _, Nat.le_refl _, by simp, rfl⟩
    case round =>
      obtain ⟨m, n, rfl, rfl, hn, hmn, hpass, rfl⟩ := hrel
      have HP : Hid (M.gapsN ll = m + M.gapsN (ll.drop n)) := hpass
      clear hpass
      by_cases hlt : n < ll.length
      · obtain ⟨rfl⟩ := hs1.addr (by omega)
        obtain ⟨a', b', o', c', hc, hd⟩ := hs1.row n hlt
        have HD : Hid (ll.drop n = ll[n] :: ll.drop (n + 1)) := M.drop_at' ll n hlt
        have hlt7 := h7 _ (List.getElem_mem hlt)
        generalize ll[n] = t at hd hc HD hlt7
        have i1 : (n : Int) < ll.length := by omega
        go_wp2_with fail
        exact ⟨⟨m + (t.length - 1), n + 1, by congr 1; split <;> omega, by go_num, by omega, by omega, M.gapsN_step HP.out HD.out, trivial⟩, by simp [intOf]; omega⟩
      · go_wp2_with fail
        go_ret
        exact ⟨ret_int (by rw [M.gaps_ok hp, M.gapsN_fin HP.out (by omega)]), hbw⟩

end Go.Proofs.Ytoabfiocjjfjeaa
