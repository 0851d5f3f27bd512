/- impl.TurnThreads. Of at most 1048576 threads, steps of a thread and numbers. laws.lpBack: where the numbers of a row stand. Of rows of at most 1000 numbers, each below how many there are. impl's and spec's SeenLess. Of lists of at most 1048576 numbers. The order of what was seen is one: two are the same, or one stands ahead; what stands ahead of what stands ahead stands ahead. No condition. The laws' own comparing: laws.lpInts, lpSame. Of lists of at most 1048576 numbers. The law FnTurnSeen, walked: it answers true, and leaves all as it was. Of whatever code. -/
import Derived.Test.YtjdpoemlcchfcaaTnCp
import Derived.Test.YtjdpoemlcchfcaaTnFact
import Derived.Test.YtjdpoemlcchfcaaBnTzb
import Derived.Test.YtjdpoemlcchfcaaSnSee
import Derived.Test.YtjdpoemlcchfcaaSnMath
import Derived.Test.YtjdpoemlcchfcaaQuietB
import Derived.Test.YtjdpoemlcchfcaaDrTs
import Derived.BigQuiet

namespace Go.Proofs.Ytjdpoemlcchfcaa
open Go.RowKit

theorem M.turnThreads_get {ll : List (List M.D)} {row : List Int} (h : M.prog ll = true) : (M.turnThreads ll row).getD [] = M.turned [] row ll ∧ (M.turnThreads ll row).isSome = M.rowN row ll.length := by
  cases hr : M.rowN row ll.length
  · rw [M.turnThreads_row hr, M.turned_no hr]; exact ⟨rfl, rfl⟩
  · rw [M.turnThreads_yes h hr, M.turned_yes hr]; exact ⟨rfl, rfl⟩
theorem M.turned_small {ll mm : List (List M.D)} {row : List Int} (h : M.prog ll = true) (e : M.turned [] row ll = mm) : mm.length ≤ 3 ∧ ∀ t ∈ mm, t.length ≤ 7 :=
  M.turnThreads_small (ll := ll) (row := row) (by rw [(M.turnThreads_get h).1]; exact e)

set_option maxHeartbeats 1000000 in
set_option maxRecDepth 100000 in
theorem iturnThreads_any (a : Option Addr) (b o c : Nat) (ll : List (List M.D)) (hl : ll.length ≤ 1048576) (hls : ∀ t ∈ ll, t.length ≤ 1048576) (ga : Option Addr) (gb go gc : Nat) (gs : List Int) (hgl : gs.length ≤ 1048576) (w : World) (h : DoSS w a b o ll) (hG : IntS w ga gb go gs) :
    Calls Try.prog 9 #[.agg #[.slice a ll.length c], .slice ga gs.length gc] w fun e w' => ∃ v, e = .returned (.tuple #[.agg #[v], .bool (M.turnThreads ll gs).isSome]) ∧ (∃ vs, Rdg w' w.heap.size v ((M.turnThreads ll gs).getD []) vs) ∧ Below w.heap.size w w' := by
  have b2 := below2 w (.cells #[.slice a ll.length c] 25) (.cells #[.slice none 0 0] 25)
  have h2 := h.below b2 (Nat.le_refl _)
  have hG2 := hG.below b2 (Nat.le_refl _)
  have hX := (Slot1.new w (.slice a ll.length c) 25).bl' (below1 _ (.cells #[.slice none 0 0] 25))
  have hY := Slot1.new (w.alloc (.cells #[.slice a ll.length c] 25)) (.slice none 0 0) 25
  rw [World.size_alloc] at hY
  go_enter Try.func9, Try.ntmps9
  go_wp2_with fail
  generalize (w.alloc (.cells #[.slice a ll.length c] 25)).alloc (.cells #[.slice none 0 0] 25) = W at *
  have CP := iprog_any a b o c ll W hl hls h2
  cases hp : M.prog ll
  · rw [hp] at CP
    refine CP.mono ?_
    rintro e W1 ⟨rfl, b1⟩
    have hY1 := hY.bl' b1
    have y0 := hY1.c
    have yf := hY1.fz
    have ly := hY1.lt
    have bw1 := b2.trans (b1.mono b2.size)
    have hno := M.turnThreads_bad (row := gs) hp
    go_wp2_with fail
    have q1 := (hY1.set (.slice none 0 0)).c
    exact bodyPost_ret (v := .tuple #[.agg #[.slice none 0 0], .bool false]) (by simp [results, Try.results9, go_sem, q1]) rfl ⟨_, by rw [hno]; rfl, ⟨[], by rw [hno]; exact Rdg.nil _ _⟩, bw1.setCell (by show w.heap.size ≤ w.heap.size + 1; omega) _⟩
  · rw [hp] at CP
    obtain ⟨h3, h7⟩ := M.prog_le hp
    obtain ⟨e1, e2⟩ := M.turnThreads_get (row := gs) hp
    obtain ⟨mm, hmm⟩ : ∃ mm, M.turned [] gs ll = mm := ⟨_, rfl⟩
    obtain ⟨hm3, hm7⟩ := M.turned_small hp hmm
    obtain ⟨ok, hok⟩ : ∃ ok, M.rowN gs ll.length = ok := ⟨_, rfl⟩
    have E1 : Hid ((M.turnThreads ll gs).getD [] = mm) := e1.trans hmm
    have E2 : Hid ((M.turnThreads ll gs).isSome = ok) := e2.trans hok
    have CT := fun A B C D W x y => turnT_any ga gb go gc gs A B C D ll W hgl (by omega) x y
    rw [hmm, hok] at CT
    clear hp hmm hok e1 e2
    refine CP.mono ?_
    rintro e W1 ⟨rfl, b1⟩
    have h1 := h2.below b1 (Nat.le_refl _)
    have hG1 := hG2.below b1 (Nat.le_refl _)
    have hX1 := hX.bl' b1
    have hY1 := hY.bl' b1
    have bw1 := b2.trans (b1.mono b2.size)
    have x0 := hX1.c
    clear CP h2 hG2 hX hY b1 b2
    go_wp2_with fail
    refine (CT a b o c W1 hG1 h1).mono ?_
    rintro e W2 ⟨v2, rfl, ⟨a2, ⟨c2, rfl⟩, g2, hs2⟩, b2⟩
    go_wp2_with fail
    refine (copyProg_any a2 g2 0 c2 mm W2 (by omega) (fun t ht => by have := hm7 t ht; omega) hs2).mono ?_
    rintro e W3 ⟨v3, rfl, ⟨vs, hR⟩, b3⟩
    have hY3 := (hY1.bl' b2).bl' b3
    have y0 := hY3.c
    have yf := hY3.fz
    have ly := hY3.lt
    have ly1 := hY1.lt
    have b13 := b2.trans (b3.mono b2.size)
    have bw3 := bw1.trans (b13.mono bw1.size)
    have hsz := b2.size
    obtain ⟨av, gv, cv, rfl, _⟩ := hR.b.ss
    go_wp2_with fail
    have q1 := (hY3.set (.slice av mm.length cv)).c
    exact bodyPost_ret (v := .tuple #[.agg #[.slice av mm.length cv], .bool ok]) (by simp [results, Try.results9, go_sem, q1]) rfl ⟨_, by rw [E2.out], ⟨vs, by rw [E1.out]; exact (hR.far (by omega) _).mono (by have := bw1.size; omega)⟩, bw3.setCell (by show w.heap.size ≤ w.heap.size + 1; omega) _⟩

end Go.Proofs.Ytjdpoemlcchfcaa

namespace Go.Proofs.Ytjdpoemlcchfcaa
open Go.RowKit

/-- The first k numbers are looked at. -/
structure PartB (w wr : World) (row : List Int) (k : Nat) : Prop where
  bel : Below w.heap.size w wr
  own : ∃ f, wr.rowIs w.heap.size 3 row.length f
  done : ∀ q (h : q < (M.backUpto row k).length), wr.cell? ⟨w.heap.size, q, none⟩ = some (.int .i64 (M.backUpto row k)[q])
theorem partB_step {w wr : World} {row : List Int} {k m : Nat} (hp : PartB w wr row k) (hlt : k < row.length) (hd : row[k] = (m : Int)) (hm : m < row.length) : PartB w (wr.setCell ⟨w.heap.size, m, none⟩ (.int .i64 k)) row (k + 1) := by
  obtain ⟨f, hf⟩ := hp.own
  have hr := hf.set m (.int .i64 k)
  have e : M.backUpto row (k + 1) = (M.backUpto row k).set m k := by
    rw [M.backUpto, M.getD_get hlt, hd]; rfl
  refine ⟨hp.bel.setCell (Nat.le_refl _) _, ⟨_, hr⟩, fun q hq => ?_⟩
  have hql : q < (M.backUpto row k).length := by rw [M.backUpto_len] at hq ⊢; exact hq
  have e2 : (M.backUpto row (k + 1))[q] = if q = m then (k : Int) else (M.backUpto row k)[q] := by
    simp only [e, List.getElem_set]
    by_cases h : q = m
    · subst h; simp
    · rw [if_neg (fun e => h e.symm), if_neg h]
  rw [e2]
  by_cases h : q = m
  · subst h
    rw [if_pos rfl, hr.cell hm]; simp
  · rw [if_neg h, World.cell?_setCell_other _ _ _ _ (fun e' => h (by have := congrArg Addr.off e'; simp at this; omega))]
    exact hp.done q hql

set_option maxHeartbeats 400000 in
set_option maxRecDepth 100000 in
theorem lpBack_any (a : Option Addr) (b o c : Nat) (row : List Int) (w : World) (hl : row.length ≤ 1000) (hin : ∀ x ∈ row, 0 ≤ x ∧ x < row.length) (h : IntS w a b o row) :
    Calls Try.prog 10 #[.slice a row.length c] w fun e w' => e = .returned (.slice (some ⟨w.heap.size, 0, none⟩) row.length row.length) ∧ IntS w' (some ⟨w.heap.size, 0, none⟩) w.heap.size 0 (M.back row) ∧ Below w.heap.size w w' := by
  have hmk := run_make_row' (P := Try.prog) 26 3 (.int .i64 0) 8 Try.underlying26 Try.info3 rfl .i64 .i64 row.length (by omega) (by omega)
  go_enter Try.func10, Try.ntmps10
  go_wp2_with fail
  clear hmk
  go_loopw [4] (fun s4 wr => ∃ n : Nat, s4 = .int .i64 n ∧ n ≤ row.length ∧ PartB w wr row n) (fun s4 _ => row.length - (intOf s4).toNat)
  case atStart =>
    have hm := World.rowIs_made w (.int .i64 0) row.length 3
    refine ⟨0, rfl, Nat.zero_le _, ⟨below1 _ _, ⟨_, hm⟩, fun q hq => ?_⟩⟩
    have hq' : q < row.length := by rw [M.backUpto_len] at hq; exact hq
    rw [hm.cell hq']
    simp [M.backUpto]
  case round =>
    obtain ⟨n, rfl, hn, hpart⟩ := hrel
    by_cases hlt : n < row.length
    · obtain ⟨rfl⟩ := h.addr (by omega)
      have hc := (h.below hpart.bel (Nat.le_refl _)).row n hlt
      have hx := hin _ (List.getElem_mem hlt)
      generalize hln : row[n] = x at hc hx
      obtain ⟨m, rfl⟩ : ∃ m : Nat, x = m := ⟨x.toNat, by omega⟩
      have HL : Hid (row[n] = (m : Int)) := hln
      clear hln
      have hm : m < row.length := by omega
      have hm' : (m : Int) < row.length := by omega
      have hn' : (n : Int) < row.length := by omega
      obtain ⟨f, hf⟩ := hpart.own
      have c0 := hf.cell hm
      have f0 := hf.frozen
      go_wp2_with fail
      exact ⟨⟨n + 1, by go_num, by omega, partB_step hpart hlt HL.out hm⟩, by simp [intOf]; omega⟩
    · have hn' : ¬ (n : Int) < row.length := by omega
      obtain rfl : n = row.length := by omega
      go_wp2_with fail
      go_ret
      exact ⟨rfl, ⟨fun _ => rfl, fun i hi => by rw [Nat.zero_add]; exact hpart.done i hi⟩, hpart.bel⟩

end Go.Proofs.Ytjdpoemlcchfcaa

namespace Go.Proofs.Ytjdpoemlcchfcaa
open Go.RowKit

end Go.Proofs.Ytjdpoemlcchfcaa

namespace Go.Proofs.Ytjdpoemlcchfcaa
namespace M

theorem comp_self (l : List Int) : comp l l = 0 := by
  induction l with
  | nil => rfl
  | cons x l ih => rw [comp, if_neg (by omega), if_neg (by omega)]; exact ih
theorem comp_zero : ∀ l m : List Int, comp l m = 0 → l = m
  | [], [], _ => rfl
  | [], _ :: _, h => by rw [comp] at h; cases h
  | _ :: _, [], h => by rw [comp] at h; cases h
  | x :: l, y :: m, h => by
    rw [comp] at h
    by_cases h1 : x < y
    · rw [if_pos h1] at h; cases h
    · rw [if_neg h1] at h
      by_cases h2 : y < x
      · rw [if_pos h2] at h; cases h
      · rw [if_neg h2] at h
        rw [comp_zero l m h, show x = y by omega]
theorem comp_neg : ∀ l m : List Int, comp m l = - comp l m
  | [], [] => rfl
  | [], _ :: _ => rfl
  | _ :: _, [] => rfl
  | x :: l, y :: m => by
    rw [comp, comp]
    by_cases h1 : x < y
    · rw [if_pos h1, if_neg (by omega), if_pos h1]; rfl
    · by_cases h2 : y < x
      · rw [if_pos h2, if_neg h1, if_pos h2]
      · rw [if_neg h2, if_neg h1, if_neg h1, if_neg h2]; exact comp_neg l m
theorem comp_trans : ∀ l m n : List Int, comp l m < 0 → comp m n < 0 → comp l n < 0
  | [], [], _, h, _ => by rw [comp] at h; omega
  | [], _ :: _, [], _, h => by rw [comp] at h; omega
  | [], _ :: _, _ :: _, _, _ => by rw [comp]; omega
  | _ :: _, [], _, h, _ => by rw [comp] at h; omega
  | _ :: _, _ :: _, [], _, h => by rw [comp] at h; omega
  | x :: l, y :: m, z :: n, h, k => by
    rw [comp] at h k ⊢
    by_cases h1 : x < y
    · by_cases k1 : y < z
      · rw [if_pos (by omega)]; omega
      · rw [if_neg k1] at k
        by_cases k2 : z < y
        · rw [if_pos k2] at k; omega
        · rw [if_pos (by omega)]; omega
    · rw [if_neg h1] at h
      by_cases h2 : y < x
      · rw [if_pos h2] at h; omega
      · rw [if_neg h2] at h
        by_cases k1 : y < z
        · rw [if_pos (by omega)]; omega
        · rw [if_neg k1] at k
          by_cases k2 : z < y
          · rw [if_pos k2] at k; omega
          · rw [if_neg k2] at k
            rw [if_neg (by omega), if_neg (by omega)]
            exact comp_trans l m n h k

theorem cmpS_self (a b : List Int) : cmpS a b a b = 0 := by rw [cmpS, comp_self, if_pos rfl, comp_self]
theorem cmpS_zero {a1 a2 b1 b2 : List Int} (h : cmpS a1 a2 b1 b2 = 0) : a1 = b1 ∧ a2 = b2 := by
  unfold cmpS at h
  by_cases h0 : comp a1 b1 = 0
  · rw [if_pos h0] at h; exact ⟨comp_zero _ _ h0, comp_zero _ _ h⟩
  · rw [if_neg h0] at h; exact absurd h h0
theorem cmpS_neg (a1 a2 b1 b2 : List Int) : cmpS b1 b2 a1 a2 = - cmpS a1 a2 b1 b2 := by
  unfold cmpS
  rw [comp_neg a1 b1, comp_neg a2 b2]
  by_cases h0 : comp a1 b1 = 0
  · rw [if_pos h0, if_pos (by omega)]
  · rw [if_neg h0, if_neg (by omega)]
theorem cmpS_trans {a1 a2 b1 b2 c1 c2 : List Int} (h : cmpS a1 a2 b1 b2 < 0) (k : cmpS b1 b2 c1 c2 < 0) : cmpS a1 a2 c1 c2 < 0 := by
  unfold cmpS at h k ⊢
  by_cases h0 : comp a1 b1 = 0
  · rw [if_pos h0] at h
    have e := comp_zero _ _ h0
    subst e
    by_cases k0 : comp a1 c1 = 0
    · rw [if_pos k0] at k ⊢; exact comp_trans _ _ _ h k
    · rw [if_neg k0] at k ⊢; exact k
  · rw [if_neg h0] at h
    by_cases k0 : comp b1 c1 = 0
    · have e := comp_zero _ _ k0
      subst e
      rw [if_neg h0]; exact h
    · rw [if_neg k0] at k
      have ht := comp_trans _ _ _ h k
      rw [if_neg (by omega)]; exact ht

/-- The same numbers. -/
def same : List Int → List Int → Bool
  | [], [] => true
  | x :: l, y :: m => x == y && same l m
  | _, _ => false
theorem same_eq : ∀ l m : List Int, same l m = true ↔ l = m
  | [], [] => by simp [same]
  | [], _ :: _ => by simp [same]
  | _ :: _, [] => by simp [same]
  | x :: l, y :: m => by simp [same, same_eq l m]
def sameS (a1 a2 b1 b2 : List Int) : Bool := same a1 b1 && same a2 b2
theorem sameS_eq (a1 a2 b1 b2 : List Int) : sameS a1 a2 b1 b2 = decide (cmpS a1 a2 b1 b2 = 0) := by
  by_cases h : cmpS a1 a2 b1 b2 = 0
  · obtain ⟨rfl, rfl⟩ := cmpS_zero h
    simp [sameS, h, (same_eq _ _).2]
  · rw [decide_eq_false h]
    by_cases h1 : a1 = b1
    · by_cases h2 : a2 = b2
      · subst h1; subst h2; exact absurd (cmpS_self _ _) h
      · have : same a2 b2 = false := by
          cases e : same a2 b2
          · rfl
          · exact absurd ((same_eq _ _).1 e) h2
        rw [sameS, this, Bool.and_false]
    · have : same a1 b1 = false := by
        cases e : same a1 b1
        · rfl
        · exact absurd ((same_eq _ _).1 e) h1
      rw [sameS, this, Bool.false_and]

theorem same_len {l m : List Int} (h : l.length ≠ m.length) : same l m = false := by
  cases e : same l m
  · rfl
  · exact absurd (congrArg List.length ((same_eq _ _).1 e)) h
theorem same_bad {l m : List Int} {n : Nat} {x y : Int} (hd : l.drop n = x :: l.drop (n + 1)) (hm : m.drop n = y :: m.drop (n + 1)) (hxy : ¬ x = y) : same l m = false := by
  cases e : same l m
  · rfl
  · have := (same_eq _ _).1 e
    subst this
    rw [hd] at hm
    simp at hm
    exact absurd hm hxy
theorem same_fin {l m : List Int} (hl : l.length = m.length) (h : ∀ q (h1 : q < l.length) (h2 : q < m.length), l[q] = m[q]) : same l m = true :=
  (same_eq _ _).2 (List.ext_getElem hl h)

end M
end Go.Proofs.Ytjdpoemlcchfcaa

namespace Go.Proofs.Ytjdpoemlcchfcaa
open Go.RowKit

set_option maxHeartbeats 400000 in
theorem lpInts_any (a : Option Addr) (b o c : Nat) (l : List Int) (a2 : Option Addr) (b2 o2 c2 : Nat) (m : List Int) (w : World) (hl : l.length ≤ 1048576) (h : IntS w a b o l) (h2 : IntS w a2 b2 o2 m) :
    Calls Try.prog 35 #[.slice a l.length c, .slice a2 m.length c2] w fun e w' => e = .returned (.bool (M.same l m)) ∧ Grown w w' := by
  by_cases hlm : l.length = m.length
  · have hlm' : ((l.length : Int) == m.length) = true := by simp; omega
    have hlm2 : (l.length : Int) = m.length := by omega
    go_enter Try.func35, Try.ntmps35
    go_wp2_with fail
    go_loopw [5] (fun s5 wr => ∃ n : Nat, s5 = .int .i64 n ∧ n ≤ l.length ∧ (∀ q (_ : q < n) (h1 : q < l.length) (h2 : q < m.length), l[q] = m[q]) ∧ Grown w wr) (fun s5 _ => l.length - (intOf s5).toNat)
    case atStart => exact ⟨0, rfl, Nat.zero_le _, fun _ hq _ _ => absurd hq (Nat.not_lt_zero _), Grown.refl _⟩
    case round =>
      obtain ⟨n, rfl, hn, hall, hg⟩ := hrel
      have HA : Hid (∀ q (_ : q < n) (h1 : q < l.length) (h2 : q < m.length), l[q] = m[q]) := hall
      clear hall
      by_cases hlt : n < l.length
      · have hmt : n < m.length := by omega
        obtain ⟨rfl⟩ := h.addr (by omega)
        obtain ⟨rfl⟩ := h2.addr (by omega)
        have hc := (h.below hg.bel (Nat.le_refl _)).row n hlt
        have hc2 := (h2.below hg.bel (Nat.le_refl _)).row n hmt
        have HD : Hid (l.drop n = l[n] :: l.drop (n + 1)) := M.drop_int l n hlt
        have HD2 : Hid (m.drop n = m[n] :: m.drop (n + 1)) := M.drop_int m n hmt
        have i1 : (n : Int) < l.length := by omega
        have i2 : (n : Int) < m.length := by omega
        by_cases hxy : l[n] = m[n]
        · have HX : Hid (l[n] = m[n]) := hxy
          rw [← hxy] at hc2
          clear hxy HD HD2
          generalize l[n] = x at hc hc2
          go_wp2_with fail
          go_quiet (fail)
          go_wp2_with fail
          exact ⟨⟨n + 1, by go_num, by omega, fun q hq h1 h2 => by
            by_cases e : q = n
            · subst e; exact HX.out
            · exact HA.out q (by omega) h1 h2, hg.drewN _⟩, by simp [intOf]; omega⟩
        · generalize l[n] = x at hc hxy HD
          generalize m[n] = y at hc2 hxy HD2
          have hxy' : (x == y) = false := by simpa using hxy
          go_wp2_with fail
          go_quiet (fail)
          go_wp2_with fail
          go_ret
          exact ⟨ret_bool (M.same_bad HD.out HD2.out hxy).symm, hg.drewN _⟩
      · go_wp2_with fail
        go_ret
        exact ⟨ret_bool (M.same_fin hlm fun q h1 h2 => HA.out q (by omega) h1 h2).symm, hg⟩
  · have hlm' : ((l.length : Int) == m.length) = false := by simp; omega
    have hlm2 : ¬ (l.length : Int) = m.length := by omega
    go_enter Try.func35, Try.ntmps35
    go_wp2_with fail
    go_ret
    exact ⟨ret_bool (M.same_len hlm).symm, Grown.refl _⟩

set_option maxHeartbeats 400000 in
theorem lpSame_any (s t : Sn) (w : World) (hs : s.Le 1048576) (hsa : s.At w) (hta : t.At w) :
    Calls Try.prog 8 #[.agg #[.slice s.a1 s.l1.length s.c1, .slice s.a2 s.l2.length s.c2], .agg #[.slice t.a1 t.l1.length t.c1, .slice t.a2 t.l2.length t.c2]] w fun e w' => e = .returned (.bool (M.sameS s.l1 s.l2 t.l1 t.l2)) ∧ Grown w w' := by
  have hga := hsa.grown (alloc2 w (.cells #[.slice s.a1 s.l1.length s.c1, .slice s.a2 s.l2.length s.c2] 28) (.cells #[.slice t.a1 t.l1.length t.c1, .slice t.a2 t.l2.length t.c2] 28))
  have hgb := hta.grown (alloc2 w (.cells #[.slice s.a1 s.l1.length s.c1, .slice s.a2 s.l2.length s.c2] 28) (.cells #[.slice t.a1 t.l1.length t.c1, .slice t.a2 t.l2.length t.c2] 28))
  have C1 := lpInts_any s.a1 s.b1 s.o1 s.c1 s.l1 t.a1 t.b1 t.o1 t.c1 t.l1 _ hs.reads hga.reads hgb.reads
  obtain ⟨r1, hr1⟩ : ∃ r, M.same s.l1 t.l1 = r := ⟨_, rfl⟩
  rw [hr1] at C1
  cases r1
  · go_enter Try.func8, Try.ntmps8
    go_wp2_with fail
    refine C1.mono ?_
    rintro e w1 ⟨rfl, hg1⟩
    go_wp2_with fail
    go_ret
    exact ⟨ret_bool (by simp [M.sameS, hr1]), (alloc2 w _ _).trans hg1⟩
  · go_enter Try.func8, Try.ntmps8
    go_wp2_with fail
    refine C1.mono ?_
    rintro e w1 ⟨rfl, hg1⟩
    obtain ⟨hc1, hf1⟩ := bcell hg1.bel
    have C2 := lpInts_any s.a2 s.b2 s.o2 s.c2 s.l2 t.a2 t.b2 t.o2 t.c2 t.l2 _ hs.last (hga.grown hg1).last (hgb.grown hg1).last
    go_wp2_with fail
    refine C2.mono ?_
    rintro e w2 ⟨rfl, hg2⟩
    go_wp2_with fail
    go_ret
    exact ⟨ret_bool (by simp [M.sameS, hr1]), ((alloc2 w _ _).trans hg1).trans hg2⟩

end Go.Proofs.Ytjdpoemlcchfcaa

namespace Go.Proofs.Ytjdpoemlcchfcaa
open Go.RowKit

theorem Slot2.belT {w w' : World} {b : Nat} {x y : Value} (h : Slot2 w b x y) (hb : Below w.heap.size w w') : Slot2 w' b x y := h.of (hb.block b h.lt)
theorem slotT_of {v2 v3 : World} (hb : Below (v2.alloc (.cells #[.slice none 0 0, .slice none 0 0] 28)).heap.size (v2.alloc (.cells #[.slice none 0 0, .slice none 0 0] 28)) v3) : Slot2 v3 v2.heap.size (.slice none 0 0) (.slice none 0 0) :=
  ⟨(hb.block v2.heap.size (by simp)).trans (heap_alloc_new _ _)⟩
theorem M.sameS_yes {a1 a2 b1 b2 : List Int} (h1 : a1 = b1) (h2 : a2 = b2) : M.sameS a1 a2 b1 b2 = true := by
  subst h1; subst h2
  simp [M.sameS, (M.same_eq _ _).2]
theorem TsAns.snC {w w' : World} {v1 v2 : Value} {r1 r2 : List Int} (h : TsAns w w' v1 v2 r1 r2) : ∃ s : Sn, v1 = .slice s.a1 s.l1.length s.c1 ∧ v2 = .slice s.a2 s.l2.length s.c2 ∧ (s.l1 = r1 ∧ s.l2 = r2) ∧ s.At w' ∧ s.l1.length ≤ s.c1 ∧ w.heap.size ≤ s.b1 ∧ w.heap.size ≤ s.b2 := by
  obtain ⟨a1, g1, c1, e1, i1, ge1, _, hc⟩ := own_numsC h.o1
  obtain ⟨a2, g2, c2, e2, i2, ge2, _, _⟩ := own_numsC h.o2
  exact ⟨⟨a1, g1, 0, c1, r1, a2, g2, 0, c2, r2⟩, e1, e2, ⟨rfl, rfl⟩, ⟨i1, i2⟩, hc, ge1, ge2⟩
theorem lpSame_yes (s t : Sn) (w : World) (hs : s.Le 1048576) (h1 : s.l1 = t.l1) (h2 : s.l2 = t.l2) (hsa : s.At w) (hta : t.At w) :
    Calls Try.prog 8 #[.agg #[.slice s.a1 s.l1.length s.c1, .slice s.a2 s.l2.length s.c2], .agg #[.slice t.a1 t.l1.length t.c1, .slice t.a2 t.l2.length t.c2]] w fun e w' => e = .returned (.bool true) ∧ Below w.heap.size w w' :=
  (lpSame_any s t w hs hsa hta).mono fun _ _ ⟨h, hg⟩ => ⟨by rw [h, M.sameS_yes h1 h2], hg.bel⟩

set_option maxHeartbeats 2000000 in
set_option maxRecDepth 100000 in
set_option linter.unusedSimpArgs false in
theorem lawTz_any (ca : Option Addr) (cb co L C : Nat) (x : Nat → Int) (w : World) (hL : L ≤ C) (had : 0 < L → ca = some ⟨cb, co, none⟩) (hc : ∀ i, i < L → w.cell? ⟨cb, co + i, none⟩ = some (.int .u8 (x i)) ∧ 0 ≤ x i ∧ x i ≤ 255) :
    Calls Try.prog 3 #[.slice ca L C] w fun e w' => e = .returned (.bool true) ∧ Below w.heap.size w w' := by
  by_cases hLb : L ≤ 1048576
  · go_enter Try.func3, Try.ntmps3
    go_wp2_with fail
    refine (DrawTurnSeen_any ca cb co L C x _ hL had hc hLb).mono ?_
    rintro e w1 ⟨a, g, c, mm, s, ga, gg, gc, gs, rfl, hD⟩
    have hle : ∀ t ∈ mm, t.length ≤ 1048576 := fun t ht => by have := hD.sm.steps t ht; omega
    have hml : mm.length ≤ 1048576 := by have := hD.sm.three; omega
    have hgl : gs.length ≤ 1048576 := by have := hD.gl; omega
    have hgl20 : gs.length ≤ 1000 := by have := hD.gl; omega
    have hsl : s.Le 1048576 := ⟨by have := hD.le.reads; omega, by have := hD.le.last; omega⟩
    have bP := below1 w1 (.cells #[.slice a mm.length c] 25)
    have bQ := below1 (w1.alloc (.cells #[.slice a mm.length c] 25)) (.cells #[.slice s.a1 s.l1.length s.c1, .slice s.a2 s.l2.length s.c2] 28)
    have sP := (Slot1.new w1 (.slice a mm.length c) 25).bl' bQ
    have xQ := BxT.new (hD.at_.below bP (Nat.le_refl _))
    have bPQ := bP.trans (bQ.mono bP.size)
    have bwA := hD.bel.trans (bPQ.mono hD.bel.size)
    have ssP := hD.sn.ss.below bPQ (Nat.le_refl _)
    have giP := hD.gi.below bPQ (Nat.le_refl _)
    have hcp := hD.cap
    have hpc := hD.sm.cap
    clear had hc hD bP bQ bPQ
    rw [World.size_alloc] at xQ
    go_wp2_with fail
    generalize (w1.alloc (.cells #[.slice a mm.length c] 25)).alloc (.cells #[.slice s.a1 s.l1.length s.c1, .slice s.a2 s.l2.length s.c2] 28) = WA at *
    generalize w1.heap.size + 1 = Q at *
    generalize w1.heap.size = P at *
    have CS := sturnSeen_any a g 0 c mm hml hpc hle s hsl hcp ga gg 0 gc gs hgl WA ssP xQ.at_ giP
    have CI := iturnSeen_any a g 0 c mm hml hle s hsl hcp ga gg 0 gc gs hgl
    have CT := iturnThreads_any a g 0 c mm hml hle ga gg 0 gc gs hgl
    obtain ⟨ok, hok⟩ : ∃ r, (M.turnSeen mm s.l1 s.l2 gs).isSome = r := ⟨_, rfl⟩
    obtain ⟨x1, hx1⟩ : ∃ r, ((M.turnSeen mm s.l1 s.l2 gs).getD ([], [])).1 = r := ⟨_, rfl⟩
    obtain ⟨x2, hx2⟩ : ∃ r, ((M.turnSeen mm s.l1 s.l2 gs).getD ([], [])).2 = r := ⟨_, rfl⟩
    obtain ⟨qq, hqq⟩ : ∃ r, (M.turnThreads mm gs).getD [] = r := ⟨_, rfl⟩
    obtain ⟨okt, hokt⟩ : ∃ r, (M.turnThreads mm gs).isSome = r := ⟨_, rfl⟩
    have HS : Hid (ok = true → (∀ x ∈ gs, 0 ≤ x ∧ x < gs.length) ∧ M.seenOk qq x1 x2 = true ∧ (M.turnSeen qq x1 x2 (M.back gs)).isSome = true ∧ ((M.turnSeen qq x1 x2 (M.back gs)).getD ([], [])).1 = s.l1 ∧ ((M.turnSeen qq x1 x2 (M.back gs)).getD ([], [])).2 = s.l2) := fun h => M.turnSeen_fact (hok.trans h) hx1 hx2 hqq
    obtain ⟨hx1l, hx2l⟩ := M.turnSeen_small hx1 hx2
    obtain ⟨hq3, hq7⟩ := M.turnThreads_small hqq
    have hql : qq.length ≤ 1048576 := by omega
    have hqls : ∀ t ∈ qq, t.length ≤ 1048576 := fun t ht => by have := hq7 t ht; omega
    rw [hok, hx1, hx2] at CS CI
    rw [hqq, hokt] at CT
    clear hok hx1 hx2 hqq hokt
    refine CS.mono ?_
    rintro e w2 ⟨v1, v2, rfl, hA2⟩
    have b2 := hA2.bel
    obtain ⟨y, rfl, rfl, ⟨ey1, ey2⟩, hy2, _, _, _⟩ := hA2.snC
    have HY : Hid (y.l1 = x1 ∧ y.l2 = x2) := ⟨ey1, ey2⟩
    have bW := below1 w2 (.cells #[.slice y.a1 y.l1.length y.c1, .slice y.a2 y.l2.length y.c2] 28)
    have xY := BxT.new hy2
    have bAB := b2.trans (bW.mono b2.size)
    have sPB := sP.bl' bAB
    have xQB := xQ.below bAB
    have ssB := ssP.below bAB (Nat.le_refl _)
    have giB := giP.below bAB (Nat.le_refl _)
    clear hA2 ey1 ey2 hy2 CS b2 bW
    have p0 := sPB.c
    have q0 := xQB.c0
    have q1 := xQB.c1
    go_wp2_with fail
    generalize w2.alloc (.cells #[.slice y.a1 y.l1.length y.c1, .slice y.a2 y.l2.length y.c2] 28) = WB at *
    generalize w2.heap.size = Y at *
    refine (CI WB ssB xQB.at_ giB).mono ?_
    rintro e w3 ⟨v1, v2, rfl, hA3⟩
    have b3 := hA3.bel
    obtain ⟨z, rfl, rfl, ⟨ez1, ez2⟩, hz3, hzc, hzb1, hzb2⟩ := hA3.snC
    have HZ : Hid (z.l1 = x1 ∧ z.l2 = x2) := ⟨ez1, ez2⟩
    have hzl : z.Le 1048576 := ⟨by rw [ez1]; exact hx1l, by rw [ez2]; exact hx2l⟩
    have bX := below1 w3 (.cells #[.slice z.a1 z.l1.length z.c1, .slice z.a2 z.l2.length z.c2] 28)
    have xZ := BxT.new hz3
    have bBC := b3.trans (bX.mono b3.size)
    have bAC := bAB.trans (bBC.mono bAB.size)
    have sPC := sPB.bl' bBC
    have xQC := xQB.below bBC
    have xYC := xY.below bBC
    have ssC := ssB.below bBC (Nat.le_refl _)
    have giC := giB.below bBC (Nat.le_refl _)
    have bwC := bwA.trans (bAC.mono bwA.size)
    clear hA3 ez1 ez2 hz3 CI b3 bX p0 q0 q1 sP xQ xQB sPB ssB giB ssP giP bwA bAC bAB bBC xY
    have z0 := xZ.c0
    have z1 := xZ.c1
    have y0 := xYC.c0
    have y1 := xYC.c1
    go_wp2_with fail
    generalize w3.alloc (.cells #[.slice z.a1 z.l1.length z.c1, .slice z.a2 z.l2.length z.c2] 28) = WC at *
    generalize w3.heap.size = Z at *
    cases ok
    · go_wp2_with fail
      refine (lpSame_yes z y WC hzl (HZ.out.1.trans HY.out.1.symm) (HZ.out.2.trans HY.out.2.symm) xZ.at_ xYC.at_).mono ?_
      rintro e WD ⟨rfl, b4⟩
      have xZD := xZ.below b4
      have xYD := xYC.below b4
      clear z0 z1 y0 y1
      have z0 := xZD.c0
      have z1 := xZD.c1
      have y0 := xYD.c0
      have y1 := xYD.c1
      go_wp2_with fail
      refine (lpSame_yes z y WD hzl (HZ.out.1.trans HY.out.1.symm) (HZ.out.2.trans HY.out.2.symm) xZD.at_ xYD.at_).mono ?_
      rintro e WE ⟨rfl, b5⟩
      have b45 := b4.trans (b5.mono b4.size)
      go_wp2_with fail
      go_ret
      exact ⟨rfl, bwC.trans (b45.mono bwC.size)⟩
    · obtain ⟨hin, hso, hbs, hb1, hb2⟩ := HS.out rfl
      clear HS
      have HBS : Hid ((M.turnSeen qq x1 x2 (M.back gs)).isSome = true) := hbs
      have HB1 : Hid (((M.turnSeen qq x1 x2 (M.back gs)).getD ([], [])).1 = s.l1) := hb1
      have HB2 : Hid (((M.turnSeen qq x1 x2 (M.back gs)).getD ([], [])).2 = s.l2) := hb2
      have HSO : Hid (M.seenOk qq x1 x2 = true) := hso
      clear hbs hb1 hb2 hso
      go_wp2_with fail
      refine (lpSame_yes z y WC hzl (HZ.out.1.trans HY.out.1.symm) (HZ.out.2.trans HY.out.2.symm) xZ.at_ xYC.at_).mono ?_
      rintro e w4 ⟨rfl, b4⟩
      have sP4 := sPC.bl' b4
      have xQ4 := xQC.below b4
      have xZ4 := xZ.below b4
      have ss4 := ssC.below b4 (Nat.le_refl _)
      have gi4 := giC.below b4 (Nat.le_refl _)
      have bw4 := bwC.trans (b4.mono bwC.size)
      clear z0 z1 y0 y1 xYC HY sPC xQC xZ ssC giC bwC b4
      have p0 := sP4.c
      go_wp2_with fail
      refine (CT w4 ss4 gi4).mono ?_
      rintro e w5 ⟨v5, rfl, ⟨vs5, hR5⟩, b5⟩
      obtain ⟨ai, gi, ci, rfl, hss5⟩ := hR5.b.ss
      have bq := below1 w5 (.cells #[.slice ai qq.length ci] 25)
      have b5q := b5.trans (bq.mono b5.size)
      have sN := Slot1.new w5 (.slice ai qq.length ci) 25
      have ssN := hss5.below bq (Nat.le_refl _)
      have xQD := xQ4.below b5q
      have xZD := xZ4.below b5q
      have giD := gi4.below b5q (Nat.le_refl _)
      have bwD := bw4.trans (b5q.mono bw4.size)
      clear hR5 hss5 bq b5 b5q p0 sP4 xQ4 xZ4 ss4 gi4 bw4 CT
      go_wp2_with fail
      generalize w5.alloc (.cells #[.slice ai qq.length ci] 25) = WD at *
      generalize w5.heap.size = N at *
      have x0 := sN.c
      have z0 := xZD.c0
      have z1 := xZD.c1
      have CL : ∀ (W : World) (Z : Nat), Below WD.heap.size WD W → W.heap.size = Z → Calls Try.prog 10 #[.slice ga gs.length gc] W fun e w' => e = .returned (.slice (some ⟨Z, 0, none⟩) gs.length gs.length) ∧ IntS w' (some ⟨Z, 0, none⟩) Z 0 (M.back gs) ∧ Below W.heap.size W w' ∧ Below WD.heap.size WD w' := by
        intro W Z hb hz
        subst hz
        refine (lpBack_any ga gg 0 gc gs W hgl20 hin (giD.below hb (Nat.le_refl _))).mono ?_
        rintro e w' ⟨h1, h2, h3⟩
        exact ⟨h1, h2, h3, hb.trans (h3.mono hb.size)⟩
      have CC : ∀ (W : World) (Z : Nat), Below WD.heap.size WD W → IntS W (some ⟨Z, 0, none⟩) Z 0 (M.back gs) → Calls Try.prog 7 #[.agg #[.slice ai qq.length ci], .agg #[.slice z.a1 z.l1.length z.c1, .slice z.a2 z.l2.length z.c2], .slice (some ⟨Z, 0, none⟩) gs.length gs.length] W fun e w' => ∃ u : Sn, e = .returned (.tuple #[.agg #[.slice u.a1 u.l1.length u.c1, .slice u.a2 u.l2.length u.c2], .bool true]) ∧ Hid (u.l1 = s.l1 ∧ u.l2 = s.l2) ∧ u.At w' ∧ W.heap.size ≤ u.b1 ∧ W.heap.size ≤ u.b2 ∧ Below W.heap.size W w' := by
        intro W Z hb hi
        have C6 := iturnSeen_any ai gi 0 ci qq hql hqls z hzl hzc (some ⟨Z, 0, none⟩) Z 0 gs.length (M.back gs) (by rw [M.back_len]; omega) W (ssN.below hb (Nat.le_refl _)) (xZD.at_.below hb (Nat.le_refl _)) hi
        rw [HZ.out.1, HZ.out.2, HBS.out, HB1.out, HB2.out, M.back_len, ← HZ.out.1, ← HZ.out.2] at C6
        refine C6.mono ?_
        rintro e w' ⟨v1, v2, rfl, hA⟩
        obtain ⟨u, rfl, rfl, hu, hat, _, g1, g2⟩ := hA.snC
        exact ⟨u, rfl, hu, hat, g1, g2, hA.bel⟩
      refine wp_region_held_drew (S := fun w' => Below WD.heap.size WD w') (by kernel_rfl) (Below.refl _ _).drew (fun hH => ?_)
      refine takeD 0 (some 65) (.agg #[.slice ai qq.length ci]) hH rfl rfl (by kernel_rfl) (by kernel_rfl) (by kernel_rfl) (fun _ _ _ h => h) (Or.inl ⟨by rfl, by intro w' hSw; have hc := (hSw.cell (p := ⟨N, 0, none⟩) sN.lt).trans x0; go_simp⟩) ?_
      simp only [Act.put, List.setIfInBounds_toArray, List.set_cons_zero, List.set_cons_succ]
      refine takeD 1 (some 66) (.agg #[.slice z.a1 z.l1.length z.c1, .slice z.a2 z.l2.length z.c2]) hH rfl rfl (by kernel_rfl) (by kernel_rfl) (by kernel_rfl) (fun _ _ _ h => h) (Or.inl ⟨by rfl, by intro w' hSw; have hc0 := (hSw.cell (p := ⟨Z, 0, none⟩) xZD.lt).trans z0; have hc1 := (hSw.cell (p := ⟨Z, 1, none⟩) xZD.lt).trans z1; go_simp⟩) ?_
      simp only [Act.put, List.setIfInBounds_toArray, List.set_cons_zero, List.set_cons_succ]
      refine takeD 2 (some 67) (.slice ga gs.length gc) hH rfl rfl (by kernel_rfl) (by kernel_rfl) (by kernel_rfl) (fun _ _ _ h => h) (Or.inl ⟨by rfl, by intro w' hSw; go_simp⟩) ?_
      simp only [Act.put, List.setIfInBounds_toArray, List.set_cons_zero, List.set_cons_succ]
      refine wpAnyH_ready (rs := [3, 8]) (by kernel_rfl) (by simp) ?_
      refine AllReadyH.cons rfl (fun K' hK => ?_) (AllReadyH.cons rfl (fun K' hK => ?_) AllReadyH.nil)
      · refine step_goV (by rfl) (some 68) rfl 10 #[.tmp 67] _ rfl #[.slice ga gs.length gc] (by simp [Act.eval]) (fun _ _ => rfl) (CL (WD.drew) (WD.heap.size) (Below.refl _ _).drew rfl) ?_
        rintro e w5 ⟨rfl, hI5, b5x, b5⟩
        refine ⟨_, rfl, ?_⟩
        simp only [Act.put, List.setIfInBounds_toArray, List.set_cons_zero, List.set_cons_succ]
        refine hK.out _ _ b5 (fun hH5 => ?_)
        clear hK K'
        refine wpAnyH_ready (rs := [4, 8]) (by kernel_rfl) (by simp) ?_
        refine AllReadyH.cons rfl (fun K' hK => ?_) (AllReadyH.cons rfl (fun K' hK => ?_) AllReadyH.nil)
        · refine step_goV (by rfl) (some 69) rfl 7 #[.tmp 65, .tmp 66, .tmp 68] _ rfl #[.agg #[.slice ai qq.length ci], .agg #[.slice z.a1 z.l1.length z.c1, .slice z.a2 z.l2.length z.c2], .slice (some ⟨WD.heap.size, 0, none⟩) gs.length gs.length] (by simp [Act.eval]) (fun _ _ => rfl) (CC (w5) (WD.heap.size) b5 (by first | exact hI5 | exact hI5.below (below1 _ _) (Nat.le_refl _))) ?_
          rintro e w6 ⟨u, rfl, hu, hat, ug1, ug2, b56⟩
          have b6 : Below WD.heap.size WD w6 := Below.trans b5 (b56.mono (Below.size b5))
          refine ⟨_, rfl, ?_⟩
          simp only [Act.put, List.setIfInBounds_toArray, List.set_cons_zero, List.set_cons_succ]
          refine hK.out _ _ b6 (fun hH6 => ?_)
          clear hK K'
          refine takeD 5 (some 64) (.tuple #[.agg #[.slice u.a1 u.l1.length u.c1, .slice u.a2 u.l2.length u.c2], .bool true]) hH6 rfl rfl (by kernel_rfl) (by kernel_rfl) (by kernel_rfl) (fun _ _ _ h => h) (Or.inl ⟨by rfl, by intro w' hSw; go_simp⟩) ?_
          simp only [Act.put, List.setIfInBounds_toArray, List.set_cons_zero, List.set_cons_succ]
          refine takeD 6 (some 70) (.agg #[.slice u.a1 u.l1.length u.c1, .slice u.a2 u.l2.length u.c2]) hH6 rfl rfl (by kernel_rfl) (by kernel_rfl) (by kernel_rfl) (fun _ _ _ h => h) (Or.inl ⟨by rfl, by intro w' hSw; go_simp⟩) ?_
          simp only [Act.put, List.setIfInBounds_toArray, List.set_cons_zero, List.set_cons_succ]
          refine takeD 7 (some 71) (.bool true) hH6 rfl rfl (by kernel_rfl) (by kernel_rfl) (by kernel_rfl) (fun _ _ _ h => h) (Or.inl ⟨by rfl, by intro w' hSw; go_simp⟩) ?_
          simp only [Act.put, List.setIfInBounds_toArray, List.set_cons_zero, List.set_cons_succ]
          refine wpAnyH_ready (rs := [8]) (by kernel_rfl) (by simp) ?_
          refine AllReadyH.cons rfl (fun K' hK => ?_) AllReadyH.nil
          rw [if_pos (by rfl)]
          go_simp
          refine hK.out _ _ (b6.alloc b6.size _) (fun hHa => ?_)
          clear hK K'
          refine wpAnyH_ready (rs := [9]) (by kernel_rfl) (by simp) ?_
          refine AllReadyH.cons rfl (fun K' hK => ?_) AllReadyH.nil
          rw [if_pos (by rfl)]
          go_simp
          refine hK.out _ _ (b6.alloc b6.size _) (fun hHb => ?_)
          clear hK K'
          refine takeD 10 (some 13) (.bool true) hHb rfl rfl (by kernel_rfl) (by kernel_rfl) (by kernel_rfl) (fun _ _ _ h => h) (Or.inl ⟨by rfl, by intro w' hSw; go_simp⟩) ?_
          simp only [Act.put, List.setIfInBounds_toArray, List.set_cons_zero, List.set_cons_succ]
          refine wpAnyH_done (by kernel_rfl) ?_ _
          have xU := BxT.new (s := u) hat
          have bF := b6.alloc b6.size (.cells #[.slice u.a1 u.l1.length u.c1, .slice u.a2 u.l2.length u.c2] 28)
          generalize w6.alloc (.cells #[.slice u.a1 u.l1.length u.c1, .slice u.a2 u.l2.length u.c2] 28) = WF at *
          generalize w6.heap.size = NX at *
          have ssF := ssN.below bF (Nat.le_refl _)
          have xZF := xZD.below bF
          have xQF := xQD.below bF
          have bwF := bwD.trans (bF.mono bwD.size)
          have CK := iseenOk_any ai gi 0 ci qq z WF hql hqls hzl ssF xZF.at_
          rw [HZ.out.1, HZ.out.2, HSO.out, ← HZ.out.1, ← HZ.out.2] at CK
          have u0 := (sN.bl' bF).c
          clear x0 z0 z1
          have z0 := xZF.c0
          have z1 := xZF.c1
          go_wp2_with fail
          refine CK.mono ?_
          rintro e W1 ⟨rfl, c1⟩
          have xU1 := xU.below c1
          have xQ1 := xQF.below c1
          clear u0 z0 z1 CK
          have z0 := xU1.c0
          have z1 := xU1.c1
          have q0 := xQ1.c0
          have q1 := xQ1.c1
          go_wp2_with fail
          refine (lpSame_yes u s W1 ⟨by rw [hu.out.1]; exact hsl.reads, by rw [hu.out.2]; exact hsl.last⟩ hu.out.1 hu.out.2 xU1.at_ xQ1.at_).mono ?_
          rintro e W2 ⟨rfl, c2⟩
          have c12 := c1.trans (c2.mono c1.size)
          go_wp2_with fail
          go_ret
          exact ⟨rfl, bwF.trans (c12.mono bwF.size)⟩
        · rw [if_pos (by rfl)]
          go_simp
          refine hK.out _ _ (b5.alloc b5.size _) (fun hHa => ?_)
          clear hK K'
          refine wpAnyH_ready (rs := [4]) (by kernel_rfl) (by simp) ?_
          refine AllReadyH.cons rfl (fun K' hK => ?_) AllReadyH.nil
          refine step_goV (by rfl) (some 69) rfl 7 #[.tmp 65, .tmp 66, .tmp 68] _ rfl #[.agg #[.slice ai qq.length ci], .agg #[.slice z.a1 z.l1.length z.c1, .slice z.a2 z.l2.length z.c2], .slice (some ⟨WD.heap.size, 0, none⟩) gs.length gs.length] (by simp [Act.eval]) (fun _ _ => rfl) (CC (w5.alloc (.cells #[.slice none 0 0, .slice none 0 0] 28)) (WD.heap.size) (b5.alloc b5.size _) (by first | exact hI5 | exact hI5.below (below1 _ _) (Nat.le_refl _))) ?_
          rintro e w6 ⟨u, rfl, hu, hat, ug1, ug2, b56⟩
          have b6 : Below WD.heap.size WD w6 := Below.trans (b5.alloc b5.size _) (b56.mono (Below.size (b5.alloc b5.size _)))
          refine ⟨_, rfl, ?_⟩
          simp only [Act.put, List.setIfInBounds_toArray, List.set_cons_zero, List.set_cons_succ]
          refine hK.out _ _ b6 (fun hH6 => ?_)
          clear hK K'
          refine takeD 5 (some 64) (.tuple #[.agg #[.slice u.a1 u.l1.length u.c1, .slice u.a2 u.l2.length u.c2], .bool true]) hH6 rfl rfl (by kernel_rfl) (by kernel_rfl) (by kernel_rfl) (fun _ _ _ h => h) (Or.inl ⟨by rfl, by intro w' hSw; go_simp⟩) ?_
          simp only [Act.put, List.setIfInBounds_toArray, List.set_cons_zero, List.set_cons_succ]
          refine takeD 6 (some 70) (.agg #[.slice u.a1 u.l1.length u.c1, .slice u.a2 u.l2.length u.c2]) hH6 rfl rfl (by kernel_rfl) (by kernel_rfl) (by kernel_rfl) (fun _ _ _ h => h) (Or.inl ⟨by rfl, by intro w' hSw; go_simp⟩) ?_
          simp only [Act.put, List.setIfInBounds_toArray, List.set_cons_zero, List.set_cons_succ]
          refine takeD 7 (some 71) (.bool true) hH6 rfl rfl (by kernel_rfl) (by kernel_rfl) (by kernel_rfl) (fun _ _ _ h => h) (Or.inl ⟨by rfl, by intro w' hSw; go_simp⟩) ?_
          simp only [Act.put, List.setIfInBounds_toArray, List.set_cons_zero, List.set_cons_succ]
          refine wpAnyH_ready (rs := [9]) (by kernel_rfl) (by simp) ?_
          refine AllReadyH.cons rfl (fun K' hK => ?_) AllReadyH.nil
          have sV : Slot2 w6 w5.heap.size (.slice none 0 0) (.slice none 0 0) := slotT_of b56
          have xc := sV.c0
          have xd := sV.c1
          have xz := sV.fz
          have hgeN : WD.heap.size ≤ w5.heap.size := b5.size
          rw [if_pos (by rfl)]
          go_simp
          refine hK.out _ _ ((b6.setCell (p := ⟨w5.heap.size, 0, none⟩) hgeN _).setCell (p := ⟨w5.heap.size, 1, none⟩) hgeN _) (fun hHb => ?_)
          clear hK K' xc xd xz
          refine takeD 10 (some 13) (.bool true) hHb rfl rfl (by kernel_rfl) (by kernel_rfl) (by kernel_rfl) (fun _ _ _ h => h) (Or.inl ⟨by rfl, by intro w' hSw; go_simp⟩) ?_
          simp only [Act.put, List.setIfInBounds_toArray, List.set_cons_zero, List.set_cons_succ]
          refine wpAnyH_done (by kernel_rfl) ?_ _
          have V2 := (sV.set0 (.slice u.a1 u.l1.length u.c1)).set1 (.slice u.a2 u.l2.length u.c2)
          have bF := (b6.setCell (p := ⟨w5.heap.size, 0, none⟩) hgeN (.slice u.a1 u.l1.length u.c1)).setCell (p := ⟨w5.heap.size, 1, none⟩) hgeN (.slice u.a2 u.l2.length u.c2)
          have hnb : w5.heap.size < u.b1 ∧ w5.heap.size < u.b2 := by (simp only [World.size_alloc] at ug1 ug2; omega)
          have xU : BxT ((w6.setCell ⟨w5.heap.size, 0, none⟩ (.slice u.a1 u.l1.length u.c1)).setCell ⟨w5.heap.size, 1, none⟩ (.slice u.a2 u.l2.length u.c2)) (w5.heap.size) u := ⟨V2.c0, V2.c1, (hat.far (fun _ => by omega) (fun _ => by omega)).far (fun _ => by omega) (fun _ => by omega)⟩
          generalize (w6.setCell ⟨w5.heap.size, 0, none⟩ (.slice u.a1 u.l1.length u.c1)).setCell ⟨w5.heap.size, 1, none⟩ (.slice u.a2 u.l2.length u.c2) = WF at *
          have ssF := ssN.below bF (Nat.le_refl _)
          have xZF := xZD.below bF
          have xQF := xQD.below bF
          have bwF := bwD.trans (bF.mono bwD.size)
          have CK := iseenOk_any ai gi 0 ci qq z WF hql hqls hzl ssF xZF.at_
          rw [HZ.out.1, HZ.out.2, HSO.out, ← HZ.out.1, ← HZ.out.2] at CK
          have u0 := (sN.bl' bF).c
          clear x0 z0 z1
          have z0 := xZF.c0
          have z1 := xZF.c1
          go_wp2_with fail
          refine CK.mono ?_
          rintro e W1 ⟨rfl, c1⟩
          have xU1 := xU.below c1
          have xQ1 := xQF.below c1
          clear u0 z0 z1 CK
          have z0 := xU1.c0
          have z1 := xU1.c1
          have q0 := xQ1.c0
          have q1 := xQ1.c1
          go_wp2_with fail
          refine (lpSame_yes u s W1 ⟨by rw [hu.out.1]; exact hsl.reads, by rw [hu.out.2]; exact hsl.last⟩ hu.out.1 hu.out.2 xU1.at_ xQ1.at_).mono ?_
          rintro e W2 ⟨rfl, c2⟩
          have c12 := c1.trans (c2.mono c1.size)
          go_wp2_with fail
          go_ret
          exact ⟨rfl, bwF.trans (c12.mono bwF.size)⟩
      · rw [if_pos (by rfl)]
        go_simp
        refine hK.out _ _ ((Below.refl WD.heap.size WD).drew.alloc (Nat.le_refl _) _) (fun hHa => ?_)
        clear hK K'
        refine wpAnyH_ready (rs := [3]) (by kernel_rfl) (by simp) ?_
        refine AllReadyH.cons rfl (fun K' hK => ?_) AllReadyH.nil
        refine step_goV (by rfl) (some 68) rfl 10 #[.tmp 67] _ rfl #[.slice ga gs.length gc] (by simp [Act.eval]) (fun _ _ => rfl) (CL (WD.drew.alloc (.cells #[.slice none 0 0, .slice none 0 0] 28)) (WD.heap.size + 1) ((Below.refl WD.heap.size WD).drew.alloc (Nat.le_refl _) _) (by simp)) ?_
        rintro e w5 ⟨rfl, hI5, b5x, b5⟩
        refine ⟨_, rfl, ?_⟩
        simp only [Act.put, List.setIfInBounds_toArray, List.set_cons_zero, List.set_cons_succ]
        refine hK.out _ _ b5 (fun hH5 => ?_)
        clear hK K'
        refine wpAnyH_ready (rs := [4]) (by kernel_rfl) (by simp) ?_
        refine AllReadyH.cons rfl (fun K' hK => ?_) AllReadyH.nil
        refine step_goV (by rfl) (some 69) rfl 7 #[.tmp 65, .tmp 66, .tmp 68] _ rfl #[.agg #[.slice ai qq.length ci], .agg #[.slice z.a1 z.l1.length z.c1, .slice z.a2 z.l2.length z.c2], .slice (some ⟨WD.heap.size + 1, 0, none⟩) gs.length gs.length] (by simp [Act.eval]) (fun _ _ => rfl) (CC (w5) (WD.heap.size + 1) b5 (by first | exact hI5 | exact hI5.below (below1 _ _) (Nat.le_refl _))) ?_
        rintro e w6 ⟨u, rfl, hu, hat, ug1, ug2, b56⟩
        have b6 : Below WD.heap.size WD w6 := Below.trans b5 (b56.mono (Below.size b5))
        refine ⟨_, rfl, ?_⟩
        simp only [Act.put, List.setIfInBounds_toArray, List.set_cons_zero, List.set_cons_succ]
        refine hK.out _ _ b6 (fun hH6 => ?_)
        clear hK K'
        refine takeD 5 (some 64) (.tuple #[.agg #[.slice u.a1 u.l1.length u.c1, .slice u.a2 u.l2.length u.c2], .bool true]) hH6 rfl rfl (by kernel_rfl) (by kernel_rfl) (by kernel_rfl) (fun _ _ _ h => h) (Or.inl ⟨by rfl, by intro w' hSw; go_simp⟩) ?_
        simp only [Act.put, List.setIfInBounds_toArray, List.set_cons_zero, List.set_cons_succ]
        refine takeD 6 (some 70) (.agg #[.slice u.a1 u.l1.length u.c1, .slice u.a2 u.l2.length u.c2]) hH6 rfl rfl (by kernel_rfl) (by kernel_rfl) (by kernel_rfl) (fun _ _ _ h => h) (Or.inl ⟨by rfl, by intro w' hSw; go_simp⟩) ?_
        simp only [Act.put, List.setIfInBounds_toArray, List.set_cons_zero, List.set_cons_succ]
        refine takeD 7 (some 71) (.bool true) hH6 rfl rfl (by kernel_rfl) (by kernel_rfl) (by kernel_rfl) (fun _ _ _ h => h) (Or.inl ⟨by rfl, by intro w' hSw; go_simp⟩) ?_
        simp only [Act.put, List.setIfInBounds_toArray, List.set_cons_zero, List.set_cons_succ]
        refine wpAnyH_ready (rs := [9]) (by kernel_rfl) (by simp) ?_
        refine AllReadyH.cons rfl (fun K' hK => ?_) AllReadyH.nil
        have sV : Slot2 w6 WD.heap.size (.slice none 0 0) (.slice none 0 0) := ((slotT_of (v2 := WD.drew) b5x).belT b56)
        have xc := sV.c0
        have xd := sV.c1
        have xz := sV.fz
        have hgeN : WD.heap.size ≤ WD.heap.size := (Nat.le_refl _)
        rw [if_pos (by rfl)]
        go_simp
        refine hK.out _ _ ((b6.setCell (p := ⟨WD.heap.size, 0, none⟩) hgeN _).setCell (p := ⟨WD.heap.size, 1, none⟩) hgeN _) (fun hHb => ?_)
        clear hK K' xc xd xz
        refine takeD 10 (some 13) (.bool true) hHb rfl rfl (by kernel_rfl) (by kernel_rfl) (by kernel_rfl) (fun _ _ _ h => h) (Or.inl ⟨by rfl, by intro w' hSw; go_simp⟩) ?_
        simp only [Act.put, List.setIfInBounds_toArray, List.set_cons_zero, List.set_cons_succ]
        refine wpAnyH_done (by kernel_rfl) ?_ _
        have V2 := (sV.set0 (.slice u.a1 u.l1.length u.c1)).set1 (.slice u.a2 u.l2.length u.c2)
        have bF := (b6.setCell (p := ⟨WD.heap.size, 0, none⟩) hgeN (.slice u.a1 u.l1.length u.c1)).setCell (p := ⟨WD.heap.size, 1, none⟩) hgeN (.slice u.a2 u.l2.length u.c2)
        have hnb : WD.heap.size < u.b1 ∧ WD.heap.size < u.b2 := by (have := b5x.size; simp at this; omega)
        have xU : BxT ((w6.setCell ⟨WD.heap.size, 0, none⟩ (.slice u.a1 u.l1.length u.c1)).setCell ⟨WD.heap.size, 1, none⟩ (.slice u.a2 u.l2.length u.c2)) (WD.heap.size) u := ⟨V2.c0, V2.c1, (hat.far (fun _ => by omega) (fun _ => by omega)).far (fun _ => by omega) (fun _ => by omega)⟩
        generalize (w6.setCell ⟨WD.heap.size, 0, none⟩ (.slice u.a1 u.l1.length u.c1)).setCell ⟨WD.heap.size, 1, none⟩ (.slice u.a2 u.l2.length u.c2) = WF at *
        have ssF := ssN.below bF (Nat.le_refl _)
        have xZF := xZD.below bF
        have xQF := xQD.below bF
        have bwF := bwD.trans (bF.mono bwD.size)
        have CK := iseenOk_any ai gi 0 ci qq z WF hql hqls hzl ssF xZF.at_
        rw [HZ.out.1, HZ.out.2, HSO.out, ← HZ.out.1, ← HZ.out.2] at CK
        have u0 := (sN.bl' bF).c
        clear x0 z0 z1
        have z0 := xZF.c0
        have z1 := xZF.c1
        go_wp2_with fail
        refine CK.mono ?_
        rintro e W1 ⟨rfl, c1⟩
        have xU1 := xU.below c1
        have xQ1 := xQF.below c1
        clear u0 z0 z1 CK
        have z0 := xU1.c0
        have z1 := xU1.c1
        have q0 := xQ1.c0
        have q1 := xQ1.c1
        go_wp2_with fail
        refine (lpSame_yes u s W1 ⟨by rw [hu.out.1]; exact hsl.reads, by rw [hu.out.2]; exact hsl.last⟩ hu.out.1 hu.out.2 xU1.at_ xQ1.at_).mono ?_
        rintro e W2 ⟨rfl, c2⟩
        have c12 := c1.trans (c2.mono c1.size)
        go_wp2_with fail
        go_ret
        exact ⟨rfl, bwF.trans (c12.mono bwF.size)⟩
  · go_enter Try.func3, Try.ntmps3
    go_wp2_with fail
    go_ret
    exact ⟨rfl, Below.refl _ _⟩

end Go.Proofs.Ytjdpoemlcchfcaa
