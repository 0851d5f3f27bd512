/- How a list of what was seen lies in memory; impl's and spec's SeenIn. Of lists of at most 1048576 that were seen, each of at most 1048576 numbers. -/
import Derived.Test.YtkbjdhjcbhdpmabSnSee
import Derived.Test.YtkbjdhjcbhdpmabQuietB
import Derived.Shelf.Abstract
namespace Go.Proofs.Ytkbjdhjcbhdpmab
open Go.RowKit

abbrev Key := List Int × List Int

/-- A value is a slice of what was seen. -/
structure KS (w : World) (a : Option Addr) (b o : Nat) (ks : List Key) : Prop where
  addr : 0 < ks.length → a = some ⟨b, o, none⟩
  row : ∀ i (h : i < ks.length), ∃ s : Sn, s.l1 = ks[i].1 ∧ s.l2 = ks[i].2 ∧ w.cell? ⟨b, o + i * 2, none⟩ = some (.slice s.a1 s.l1.length s.c1) ∧ w.cell? ⟨b, o + i * 2 + 1, none⟩ = some (.slice s.a2 s.l2.length s.c2) ∧ s.At w

/-- None is longer than that. -/
def KLe (ks : List Key) (n : Nat) : Prop := ∀ k ∈ ks, k.1.length ≤ n ∧ k.2.length ≤ n

theorem KS.below {w w' : World} {a : Option Addr} {B b o : Nat} {ks : List Key} (h : KS w a b o ks) (hb : Below B w w') (hB : w.heap.size ≤ B) : KS w' a b o ks :=
  ⟨h.addr, fun i hi => by
    obtain ⟨s, h1, h2, c1, c2, ha⟩ := h.row i hi
    have hl := Nat.lt_of_lt_of_le (World.block_lt_of_cell? _ _ c1) hB
    exact ⟨s, h1, h2, (hb.cell (p := ⟨b, o + i * 2, none⟩) hl).trans c1, (hb.cell (p := ⟨b, o + i * 2 + 1, none⟩) hl).trans c2, ha.below hb hB⟩⟩
theorem KS.nil (w : World) (a : Option Addr) (b o : Nat) : KS w a b o [] := ⟨fun h => absurd h (Nat.lt_irrefl _), fun _ hi => absurd hi (Nat.not_lt_zero _)⟩

namespace M
/-- That is among them. -/
def isIn (ks : List Key) (t1 t2 : List Int) : Bool := ks.any fun k => cmpS k.1 k.2 t1 t2 == 0
theorem isIn_hit {ks : List Key} {t1 t2 : List Int} {n : Nat} {k : Key} (h : isIn ks t1 t2 = isIn (ks.drop n) t1 t2) (hd : ks.drop n = k :: ks.drop (n + 1)) (hk : (cmpS k.1 k.2 t1 t2 == 0) = true) : isIn ks t1 t2 = true := by
  rw [h, hd, isIn, List.any_cons, hk, Bool.true_or]
theorem isIn_miss {ks : List Key} {t1 t2 : List Int} {n : Nat} {k : Key} (h : isIn ks t1 t2 = isIn (ks.drop n) t1 t2) (hd : ks.drop n = k :: ks.drop (n + 1)) (hk : (cmpS k.1 k.2 t1 t2 == 0) = false) : isIn ks t1 t2 = isIn (ks.drop (n + 1)) t1 t2 := by
  rw [h, hd, isIn, List.any_cons, hk, Bool.false_or]; rfl
theorem isIn_fin {ks : List Key} {t1 t2 : List Int} {n : Nat} (h : isIn ks t1 t2 = isIn (ks.drop n) t1 t2) (hn : ks.length ≤ n) : isIn ks t1 t2 = false := by
  rw [h, List.drop_eq_nil_of_le hn]; rfl
theorem drop_key (ks : List Key) (n : Nat) (h : n < ks.length) : ks.drop n = ks[n] :: ks.drop (n + 1) := (List.getElem_cons_drop h).symm
end M

set_option maxHeartbeats 400000 in
/-- The closure that impl's SeenIn hands on: it looks at t, which lies in a box. -/
theorem closure_any (s t : Sn) (cb : Nat) (w : World) (hs : s.Le 1048576) (ht : t.Le 1048576) (hsa : s.At w) (hta : t.At w) (k0 : w.cell? ⟨cb, 0, none⟩ = some (.slice t.a1 t.l1.length t.c1)) (k1 : w.cell? ⟨cb, 1, none⟩ = some (.slice t.a2 t.l2.length t.c2)) :
    Calls Try.prog 28 #[.agg #[.slice s.a1 s.l1.length s.c1, .slice s.a2 s.l2.length s.c2], .pointer (some ⟨cb, 0, none⟩)] w fun e w' => e = .returned (.bool (M.cmpS s.l1 s.l2 t.l1 t.l2 == 0)) ∧ Grown w w' := by
  have hg : Grown w (w.alloc (.cells #[.slice s.a1 s.l1.length s.c1, .slice s.a2 s.l2.length s.c2] 35)) := (Grown.refl w).alloc _
  have C := compareSeen_any s t _ hs ht (hsa.grown hg) (hta.grown hg)
  have hcb : cb < w.heap.size := World.block_lt_of_cell? _ _ k0
  go_enter Try.func28, Try.ntmps28
  go_wp2_with (go_at_call 20; refine C.mono ?_; rintro e w' ⟨rfl, hg'⟩)
  go_ret
  exact ⟨rfl, hg.trans hg'⟩

set_option maxHeartbeats 400000 in
theorem indexFunc_any (a : Option Addr) (b o c : Nat) (ks : List Key) (t : Sn) (cb : Nat) (w : World) (hl : ks.length ≤ 1048576) (hls : KLe ks 1048576) (ht : t.Le 1048576) (h : KS w a b o ks) (hta : t.At w) (k0 : w.cell? ⟨cb, 0, none⟩ = some (.slice t.a1 t.l1.length t.c1)) (k1 : w.cell? ⟨cb, 1, none⟩ = some (.slice t.a2 t.l2.length t.c2)) :
    Calls Try.prog 38 #[.slice a ks.length c, .func (.func 28) #[] #[.pointer (some ⟨cb, 0, none⟩)]] w fun e w' => ∃ r : Int, e = .returned (.int .i64 r) ∧ decide (0 ≤ r) = M.isIn ks t.l1 t.l2 ∧ Grown w w' := by
  have eg : ∀ args w, (callFunc 28 args).run Try.prog w = .ok (.enter 28 args) w := enters_of Try.func28 (by kernel_rfl) rfl
  have hcb : cb < w.heap.size := World.block_lt_of_cell? _ _ k0
  go_enter Try.func38, Try.ntmps38
  go_wp2_with fail
  go_loopw [8] (fun s8 wr => ∃ n : Nat, s8 = .int .i64 n ∧ n ≤ ks.length ∧ M.isIn ks t.l1 t.l2 = M.isIn (ks.drop n) t.l1 t.l2 ∧ Grown w wr) (fun s8 _ => ks.length - (intOf s8).toNat)
  case atStart => exact ⟨0, rfl, Nat.zero_le _, rfl, Grown.refl _⟩
  case round =>
    obtain ⟨n, rfl, hn, hpass, hg⟩ := hrel
    have HP : Hid (M.isIn ks t.l1 t.l2 = M.isIn (ks.drop n) t.l1 t.l2) := hpass
    clear hpass
    by_cases hlt : n < ks.length
    · obtain ⟨rfl⟩ := h.addr (by omega)
      have HD : Hid (ks.drop n = ks[n] :: ks.drop (n + 1)) := M.drop_key ks n hlt
      obtain ⟨s, h1, h2, c0, c1, hsa⟩ := (h.below hg.bel (Nat.le_refl _)).row n hlt
      obtain ⟨e1, e2⟩ := hls _ (List.getElem_mem hlt)
      generalize ks[n] = k at HD h1 h2 e1 e2
      have C := closure_any s t cb wr ⟨by rw [h1]; exact e1, by rw [h2]; exact e2⟩ ht hsa (hta.grown hg) ((hg.bel.cell (p := ⟨cb, 0, none⟩) hcb).trans k0) ((hg.bel.cell (p := ⟨cb, 1, none⟩) hcb).trans k1)
      obtain ⟨q, hq⟩ : ∃ q, (M.cmpS s.l1 s.l2 t.l1 t.l2 == 0) = q := ⟨_, rfl⟩
      rw [hq] at C
      rw [h1, h2] at hq
      have HQ : Hid ((M.cmpS k.1 k.2 t.l1 t.l2 == 0) = q) := hq
      clear hq h1 h2 e1 e2 hsa
      have i1 : (n : Int) < ks.length := by omega
      cases q
      · go_wp2_with (go_at_call 28; refine C.mono ?_; rintro e w' ⟨rfl, hg'⟩)
        exact ⟨⟨n + 1, by go_num, by omega, M.isIn_miss HP.out HD.out HQ.out, hg.trans hg'⟩, by simp [intOf]; omega⟩
      · go_wp2_with (go_at_call 28; refine C.mono ?_; rintro e w' ⟨rfl, hg'⟩)
        go_ret
        exact ⟨n, rfl, by rw [M.isIn_hit HP.out HD.out HQ.out]; simp, hg.trans hg'⟩
    · go_wp2_with fail
      go_ret
      exact ⟨-1, rfl, by rw [M.isIn_fin HP.out (by omega)]; rfl, hg⟩

set_option maxHeartbeats 400000 in
theorem containsFunc_any (a : Option Addr) (b o c : Nat) (ks : List Key) (t : Sn) (cb : Nat) (w : World) (hl : ks.length ≤ 1048576) (hls : KLe ks 1048576) (ht : t.Le 1048576) (h : KS w a b o ks) (hta : t.At w) (k0 : w.cell? ⟨cb, 0, none⟩ = some (.slice t.a1 t.l1.length t.c1)) (k1 : w.cell? ⟨cb, 1, none⟩ = some (.slice t.a2 t.l2.length t.c2)) :
    Calls Try.prog 27 #[.slice a ks.length c, .func (.func 28) #[] #[.pointer (some ⟨cb, 0, none⟩)]] w fun e w' => e = .returned (.bool (M.isIn ks t.l1 t.l2)) ∧ Grown w w' := by
  have C := indexFunc_any a b o c ks t cb w hl hls ht h hta k0 k1
  go_enter Try.func27, Try.ntmps27
  go_wp2_with (go_at_call 38; refine C.mono ?_; rintro e w' ⟨r, rfl, hr, hg'⟩)
  go_ret
  exact ⟨rfl, hg'⟩

set_option maxHeartbeats 400000 in
theorem iseenIn_any (a : Option Addr) (b o c : Nat) (ks : List Key) (t : Sn) (w : World) (hl : ks.length ≤ 1048576) (hls : KLe ks 1048576) (ht : t.Le 1048576) (h : KS w a b o ks) (hta : t.At w) :
    Calls Try.prog 15 #[.slice a ks.length c, .agg #[.slice t.a1 t.l1.length t.c1, .slice t.a2 t.l2.length t.c2]] w fun e w' => e = .returned (.bool (M.isIn ks t.l1 t.l2)) ∧ Grown w w' := by
  have hg : Grown w (w.alloc (.cells #[.slice t.a1 t.l1.length t.c1, .slice t.a2 t.l2.length t.c2] 35)) := (Grown.refl w).alloc _
  have C := containsFunc_any a b o c ks t w.heap.size _ hl hls ht (h.below hg.bel (Nat.le_refl _)) (hta.grown hg) (by simp) (by simp)
  go_enter Try.func15, Try.ntmps15
  go_wp2_with (go_at_call 27; refine C.mono ?_; rintro e w' ⟨rfl, hg'⟩)
  go_ret
  exact ⟨rfl, hg.trans hg'⟩

set_option maxHeartbeats 1000000 in
set_option maxRecDepth 100000 in
theorem sseenIn_any (a : Option Addr) (b o c : Nat) (ks : List Key) (t : Sn) (w : World) (hl : ks.length ≤ 1048576) (hls : KLe ks 1048576) (ht : t.Le 1048576) (h : KS w a b o ks) (hta : t.At w) :
    Calls Try.prog 13 #[.slice a ks.length c, .agg #[.slice t.a1 t.l1.length t.c1, .slice t.a2 t.l2.length t.c2]] w fun e w' => e = .returned (.bool (M.isIn ks t.l1 t.l2)) ∧ Below w.heap.size w w' := by
  have hb0 := below1 w (.cells #[.slice t.a1 t.l1.length t.c1, .slice t.a2 t.l2.length t.c2] 35)
  go_enter Try.func13, Try.ntmps13
  go_wp2_with fail
  have k0 : (w.alloc (.cells #[.slice t.a1 t.l1.length t.c1, .slice t.a2 t.l2.length t.c2] 35)).cell? ⟨w.heap.size, 0, none⟩ = some (.slice t.a1 t.l1.length t.c1) := by simp
  have k1 : (w.alloc (.cells #[.slice t.a1 t.l1.length t.c1, .slice t.a2 t.l2.length t.c2] 35)).cell? ⟨w.heap.size, 1, none⟩ = some (.slice t.a2 t.l2.length t.c2) := by simp
  generalize w.alloc (.cells #[.slice t.a1 t.l1.length t.c1, .slice t.a2 t.l2.length t.c2] 35) = W at *
  have hW := h.below hb0 (Nat.le_refl _)
  have htW := hta.below hb0 (Nat.le_refl _)
  have hcb : w.heap.size < W.heap.size := World.block_lt_of_cell? _ _ k0
  clear h hta
  go_loopw [5] (fun s5 wr => ∃ n : Nat, s5 = .int .i64 n ∧ n ≤ ks.length ∧ M.isIn ks t.l1 t.l2 = M.isIn (ks.drop n) t.l1 t.l2 ∧ Below W.heap.size W wr) (fun s5 _ => ks.length - (intOf s5).toNat)
  case atStart => exact ⟨0, rfl, Nat.zero_le _, rfl, Below.refl _ _⟩
  case round =>
    obtain ⟨n, rfl, hn, hpass, hg⟩ := hrel
    have HP : Hid (M.isIn ks t.l1 t.l2 = M.isIn (ks.drop n) t.l1 t.l2) := hpass
    clear hpass
    by_cases hlt : n < ks.length
    · obtain ⟨rfl⟩ := hW.addr (by omega)
      have HD : Hid (ks.drop n = ks[n] :: ks.drop (n + 1)) := M.drop_key ks n hlt
      obtain ⟨s, h1, h2, c0, c1, hsa⟩ := (hW.below hg (Nat.le_refl _)).row n hlt
      obtain ⟨e1, e2⟩ := hls _ (List.getElem_mem hlt)
      generalize ks[n] = k at HD h1 h2 e1 e2
      have C := fun p : BelowOf wr => (l2Seen_any s t p.x ⟨by rw [h1]; exact e1, by rw [h2]; exact e2⟩ ht (hsa.below p.h (Nat.le_refl _)) ((htW.below hg (Nat.le_refl _)).below p.h (Nat.le_refl _))).mono fun _ _ ⟨he, hg⟩ => (⟨he, hg.bel⟩ : _ ∧ Below p.x.heap.size p.x _)
      obtain ⟨r, hr⟩ : ∃ r, M.cmpS s.l1 s.l2 t.l1 t.l2 = r := ⟨_, rfl⟩
      rw [hr] at C
      rw [h1, h2] at hr
      have HQ : Hid (M.cmpS k.1 k.2 t.l1 t.l2 = r) := hr
      clear hr h1 h2 e1 e2 hsa
      have i1 : (n : Int) < ks.length := by omega
      have K0 := BelowOf.cell c0
      have K1 := BelowOf.cell c1
      have K2 := BelowOf.cell ((hg.cell (p := ⟨w.heap.size, 0, none⟩) hcb).trans k0)
      have K3 := BelowOf.cell ((hg.cell (p := ⟨w.heap.size, 1, none⟩) hcb).trans k1)
      by_cases h0 : r = 0
      · subst h0
        go_wp2_with fail
        haveI : Inhabited (BelowOf wr) := ⟨belOf wr⟩
        refine wp_region_quiet_bel (by kernel_rfl) (by kernel_rfl) ?_
        repeat (quiet_step (first | (go_at_call 25; exact Calls.bel_of (C _))))
        refine wpQuiet_nil ?_
        rintro _ ⟨⟨wq, hwq⟩, rfl⟩
        go_wp2_with fail
        go_ret
        exact ⟨ret_bool (M.isIn_hit HP.out HD.out (by rw [HQ.out]; rfl)).symm, hb0.trans ((hg.trans (hwq.mono hg.size)).mono hb0.size)⟩
      · have h0' : (r == 0) = false := by simpa using h0
        go_wp2_with fail
        haveI : Inhabited (BelowOf wr) := ⟨belOf wr⟩
        refine wp_region_quiet_bel (by kernel_rfl) (by kernel_rfl) ?_
        repeat (quiet_step (first | (go_at_call 25; exact Calls.bel_of (C _))))
        refine wpQuiet_nil ?_
        rintro _ ⟨⟨wq, hwq⟩, rfl⟩
        go_wp2_with fail
        exact ⟨⟨n + 1, by go_num, by omega, M.isIn_miss HP.out HD.out (by rw [HQ.out]; exact h0'), hg.trans (hwq.mono hg.size)⟩, by simp [intOf]; omega⟩
    · go_wp2_with fail
      go_ret
      exact ⟨ret_bool (M.isIn_fin HP.out (by omega)).symm, hb0.trans (hg.mono hb0.size)⟩

end Go.Proofs.Ytkbjdhjcbhdpmab
