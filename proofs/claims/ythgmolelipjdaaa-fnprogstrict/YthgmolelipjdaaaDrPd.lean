/- spec.DrawProgRead: some text. Of codes of at most 1048576 bytes. -/
import Derived.Test.YthgmolelipjdaaaDrPr
import Derived.Test.YthgmolelipjdaaaDrOp
import Derived.Test.YthgmolelipjdaaaRsSp
import Derived.Test.YthgmolelipjdaaaTxS
import Derived.Test.YthgmolelipjdaaaTxBack
import Derived.BigQuiet
import Derived.Great.BuildSlice
namespace Go.Proofs.Ythgmolelipjdaaa
open Go.RowKit

/-- A row of texts. -/
structure StrT (w : World) (g : Nat) (ws : List (List UInt8)) : Prop where
  row : ∀ i x, ws[i]? = some x → w.cell? ⟨g, i, none⟩ = some (.string ⟨x.toArray⟩)

set_option maxHeartbeats 1000000 in
theorem of_any (B rb p g cp : Nat) (ws : List (List UInt8)) (w : World) (hp : p ≤ 1000000) (h0 : 0 < ws.length) (hl : ws.length ≤ 1000) (hs : StrT w g ws) (hg : g ≠ rb) (h : Rdr w B rb p) :
    Calls Try.prog 35 #[.pointer (some ⟨rb, 0, none⟩), .slice (some ⟨g, 0, none⟩) ws.length cp] w fun e w' => ∃ s : List UInt8, s ∈ ws ∧ e = .returned (.string ⟨s.toArray⟩) ∧ Rdr w' B rb (p + 1) ∧ But rb w w' := by
  go_enter Try.func35, Try.ntmps35
  go_wp2_with fail
  refine (pick_rdr B rb p _ _ (by omega) (by omega) hp h).mono ?_
  rintro e w1 ⟨r, rfl, r0, r1, hr1, hb1⟩
  obtain ⟨q, rfl⟩ := Int.eq_ofNat_of_zero_le r0
  have hq : q < ws.length := by omega
  have c0 := hs.row q ws[q] (List.getElem?_eq_getElem hq)
  have c1 := (hb1.cell (p := ⟨g, q, none⟩) (World.block_lt_of_cell? _ _ c0) hg).trans c0
  have hm : ws[q] ∈ ws := List.getElem_mem hq
  generalize ws[q] = s at *
  clear c0 hs
  go_wp2_with fail
  go_ret
  exact ⟨s, hm, rfl, hr1, hb1⟩

set_option maxHeartbeats 1000000 in
theorem l6Many_any (s : List UInt8) (n : Nat) (w : World) (hn : n ≤ 1000) (hs : s.length ≤ 1000) :
    Calls Try.prog 36 #[.string ⟨s.toArray⟩, .int .i64 n] w fun e w' => ∃ t : List UInt8, e = .returned (.string ⟨t.toArray⟩) ∧ t.length ≤ 1000000 ∧ w' = w := by
  go_enter Try.func36, Try.ntmps36
  go_wp2_with fail
  go_loopw [0, 1, 5] (fun s0 s1 s5 wr => ∃ (x y : List UInt8) (k : Nat), s0 = .string ⟨x.toArray⟩ ∧ s1 = .int .i64 k ∧ s5 = .string ⟨y.toArray⟩ ∧ k ≤ 1000 ∧ x.length ≤ 2000000 ∧ y.length + x.length * k ≤ 1000000 ∧ wr = w) (fun _ s1 _ _ => (intOf s1).toNat)
  case atStart => exact ⟨s, [], n, rfl, rfl, rfl, hn, by omega, by have := Nat.mul_le_mul hs hn; simp; omega, rfl⟩
  case round =>
    obtain ⟨x, y, k, rfl, rfl, rfl, hk, hx, hy, rfl⟩ := hrel
    by_cases hk0 : 0 < k
    · have hk0' : (0 : Int) < k := by omega
      have hxx : x.length ≤ x.length * k := Nat.le_mul_of_pos_right _ hk0
      have hq : Int.tdiv (k : Int) 2 = ((k / 2 : Nat) : Int) := by rw [Int.tdiv_eq_ediv_of_nonneg (by omega)]; omega
      have hr : Int.tmod (k : Int) 2 = ((k % 2 : Nat) : Int) := by rw [Int.tmod_eq_emod_of_nonneg (by omega)]; omega
      have hz1 : ¬ 9223372036854775807 < x.length + x.length := by omega
      have hz2 : ¬ 9223372036854775807 < y.length + x.length := by omega
      have hkk : k = 2 * (k / 2) + k % 2 := by omega
      have hm2 : k % 2 = 0 ∨ k % 2 = 1 := by omega
      have HK : Hid (x.length * k = (x.length + x.length) * (k / 2) + x.length * (k % 2)) := by
        show _ = _
        conv => lhs; rw [hkk]
        rw [Nat.mul_add, Nat.add_mul, ← Nat.mul_assoc, Nat.mul_comm x.length 2, Nat.two_mul, Nat.add_mul]
      have hlt : k / 2 < k := by omega
      clear hkk
      have wq : IntKind.i64.wrap ((k / 2 : Nat) : Int) = (k / 2 : Nat) := IntWalk.i64_in _ (by omega)
      rcases hm2 with hm | hm
      · rw [hm] at hr HK
        generalize k / 2 = h at *
        go_wp2_with fail
        have hh := HK.out
        refine ⟨⟨x ++ x, y, h, by rw [← bytes_add], rfl, rfl, by omega, by simp; omega, by simp; omega, trivial⟩, by simp [intOf]; omega⟩
      · rw [hm] at hr HK
        generalize k / 2 = h at *
        go_wp2_with fail
        have hh := HK.out
        refine ⟨⟨x ++ x, y ++ x, h, by rw [← bytes_add], rfl, by rw [← bytes_add], by omega, by simp; omega, by simp; omega, trivial⟩, by simp [intOf]; omega⟩
    · have hk0' : ¬ (0 : Int) < k := by omega
      go_wp2_with fail
      go_ret
      exact ⟨y, rfl, by omega, rfl⟩

theorem StrT.new (w : World) (l : List (List UInt8)) (t : TypeId) : StrT (w.alloc (.cells (strs l).toArray t)) w.heap.size l :=
  ⟨fun i x hx => by
    rw [World.cell?_alloc_at _ _ _ _ (by simp)]
    simp [strs, hx]⟩
theorem StrT.drew {w : World} {g : Nat} {ws : List (List UInt8)} (h : StrT w g ws) : StrT w.drew g ws := ⟨h.row⟩
theorem cut2 (t : List UInt8) (q : Nat) : (⟨t.toArray⟩ : ByteArray).extract 0 q ++ (⟨t.toArray⟩ : ByteArray).extract (q + 1) t.length = ⟨((t.drop 0).take (q - 0) ++ (t.drop (q + 1)).take (t.length - (q + 1))).toArray⟩ := by
  rw [bytes_extract, bytes_extract, bytes_add]
theorem cut3 (t s : List UInt8) (q : Nat) : (⟨t.toArray⟩ : ByteArray).extract 0 q ++ ⟨s.toArray⟩ ++ (⟨t.toArray⟩ : ByteArray).extract q t.length = ⟨((t.drop 0).take (q - 0) ++ s ++ (t.drop q).take (t.length - q)).toArray⟩ := by
  rw [bytes_extract, bytes_extract, bytes_add, bytes_add]
theorem Below.drewN2 {B : Nat} {a b : World} (h : Below B a b) (n : Nat) : Below B a (b.drewN n) := h.trans ⟨rfl, rfl, rfl, Nat.le_refl _, fun _ _ => rfl⟩
def L7 : List (List UInt8) := [[32], [10], [120], [49], [116, 104, 114, 101, 97, 100, 10], [119, 97, 108, 108, 10], [108, 111, 97, 100, 32, 121, 10]]
def L8 : List (List UInt8) := [[], [116, 104, 114, 101, 97, 100], [119, 97, 108, 108, 10], [116, 104, 114, 101, 97, 100, 10, 108, 111, 97, 100, 10], [116, 104, 114, 101, 97, 100, 10, 115, 116, 111, 114, 101, 32, 120, 32, 48, 10], [116, 104, 114, 101, 97, 100, 10, 115, 116, 111, 114, 101, 32, 120, 32, 52, 10], [116, 104, 114, 101, 97, 100, 10, 108, 111, 97, 100, 32, 119, 10], [116, 104, 114, 101, 97, 100, 10, 99, 111, 112, 121, 32, 120, 10]]

set_option maxHeartbeats 4000000 in
set_option maxRecDepth 100000 in
theorem DrawProgRead_any (ca : Option Addr) (cb co L C : Nat) (x : Nat → Int) (w : World) (hL : L ≤ C) (had : 0 < L → ca = some ⟨cb, co, none⟩) (hc : ∀ i, i < L → w.cell? ⟨cb, co + i, none⟩ = some (.int .u8 (x i)) ∧ 0 ≤ x i ∧ x i ≤ 255) (hLb : L ≤ 1048576) :
    Calls Try.prog 14 #[.slice ca L C] w fun e w' => ∃ s : List UInt8, e = .returned (.string ⟨s.toArray⟩) ∧ s.length ≤ 9223372036854775807 ∧ Below w.heap.size w w' := by
  go_enter Try.func14, Try.ntmps14
  go_wp2_with fail
  refine (l6Open_any ca cb co L C x _ hL had hc hLb).mono ?_
  rintro e w1 ⟨rfl, hr1, hb1⟩
  have hlt1 := hr1.lt
  clear hc had
  go_wp2_with fail
  refine (l71Prog_any _ w.heap.size 0 _ (by omega) hr1).mono ?_
  rintro e w2 ⟨ll, vs, v, rfl, hB, hpk, _, hlen, p2, hp2, hr2, hb2⟩
  obtain ⟨a, g, c, rfl, hss⟩ := hB.ss
  obtain ⟨h3, hth⟩ := M.prog_thread hpk
  have hl := M.sayProg_le ll (fun t ht => M.thread_le (hth t ht))
  have hml : M.text ll = M.sayProg ll := by simp [M.text, hpk]
  have hbw : Below w.heap.size w w2 := But.below hb1 hb2 (by omega)
  go_wp2_with fail
  refine (sprogText_any a g 0 c ll w2 (by omega) (fun t ht => by have := M.thread_le (hth t ht); omega) hss).mono ?_
  rintro e w3 ⟨rfl, b3⟩
  have hr3 := hr2.below b3 (Nat.le_refl _)
  have hbw3 : Below w.heap.size w w3 := hbw.trans (b3.mono hbw.size)
  have htl : (M.text ll).length ≤ 100000 := by rw [hml]; omega
  clear hml hl hth hss hB hr2 b3 hbw hb2 hr1
  generalize M.text ll = t at *
  go_wp2_with fail
  refine (pick_rdr _ w.heap.size p2 _ _ (by omega) (by omega) (by omega) hr3).mono ?_
  rintro e w4 ⟨r, rfl, r0, r1, hr4, hb4⟩
  have hbw4 : Below w.heap.size w w4 := But.below hbw3 hb4 (by omega)
  clear hbw3 hr3 hb4
  have hr01 : r = 0 ∨ r = 1 := by omega
  rcases hr01 with rfl | rfl
  · go_wp2_with fail
    go_ret
    exact ⟨t, rfl, by omega, hbw4⟩
  by_cases ht : t = []
  · subst ht
    go_wp2_with fail
    go_ret
    exact ⟨[], rfl, by simp, hbw4⟩
  have htp : 0 < t.length := List.length_pos_iff.2 ht
  have hte : (t == []) = false := by simpa using ht
  go_wp2_with fail
  refine (pick_big _ w.heap.size (p2 + 1) _ _ (by omega) (by omega) (by omega) hr4).mono ?_
  rintro e w5 ⟨q0, rfl, q00, q01, hr5, hb5⟩
  obtain ⟨q, rfl⟩ := Int.eq_ofNat_of_zero_le q00
  have hbw5 : Below w.heap.size w w5 := But.below hbw4 hb5 (by omega)
  clear hbw4 hr4 hb5
  go_wp2_with fail
  refine (pick_rdr _ w.heap.size (p2 + 1 + 1) _ _ (by omega) (by omega) (by omega) hr5).mono ?_
  rintro e w6 ⟨r6, rfl, r60, r61, hr6, hb6⟩
  have hbw6 : Below w.heap.size w w6 := But.below hbw5 hb6 (by omega)
  clear hbw5 hr5 hb6
  have hq : q < t.length := by omega
  have hlt6 := hr6.lt
  have hr65 : r6 = 0 ∨ r6 = 1 ∨ r6 = 2 ∨ r6 = 3 ∨ r6 = 4 := by omega
  rcases hr65 with rfl | rfl | rfl | rfl | rfl
  · as_aux_lemma =>
      go_wp2_with fail
      go_quiet (fail)
      go_wp2_with fail
      go_ret
      exact ⟨_, congrArg (fun b => Ending.returned (Value.string b)) (cut2 t q), by simp; omega, Below.drewN2 hbw6 _⟩
  · have hm7 : ∀ s ∈ L7, s.length ≤ 10 := by decide
    have hofc : ∀ W : World, StrT W w6.heap.size L7 → Rdr W w.heap.size w.heap.size (p2 + 1 + 1 + 1) → _ := fun W hs hr => of_any w.heap.size w.heap.size (p2 + 1 + 1 + 1) w6.heap.size 7 L7 W (by omega) (by decide) (by decide) hs (by omega) hr
    have hA : (strs L7).toArray = #[Value.string { data := #[32] }, Value.string { data := #[10] }, Value.string { data := #[120] }, Value.string { data := #[49] }, Value.string { data := #[116, 104, 114, 101, 97, 100, 10] }, Value.string { data := #[119, 97, 108, 108, 10] }, Value.string { data := #[108, 111, 97, 100, 32, 121, 10] }] := rfl
    have hs1 := StrT.drew (StrT.new w6 L7 9)
    have hs2 := StrT.new w6.drew L7 9
    have hr1 := (hr6.alloc (.cells (strs L7).toArray 9)).drew
    have hr2 := hr6.drew.alloc (.cells (strs L7).toArray 9)
    have hb1 : Below w.heap.size w (w6.alloc (.cells (strs L7).toArray 9)).drew := (hbw6.alloc hbw6.size _).drew
    have hb2 : Below w.heap.size w (w6.drew.alloc (.cells (strs L7).toArray 9)) := hbw6.drew.alloc hbw6.drew.size _
    rw [hA] at hs1 hs2 hr1 hr2 hb1 hb2
    go_wp2_with fail
    go_region_with (go_at_call 35; refine (hofc _ (by first | exact hs1 | exact hs2) (by first | exact hr1 | exact hr2)).mono ?_; rintro e w7 ⟨s, hs7, rfl, hr7, hb7⟩; have hsl := hm7 s hs7)
    all_goals (as_aux_lemma =>
      go_wp2_with fail
      go_ret
      exact ⟨_, congrArg (fun b => Ending.returned (Value.string b)) (cut3 t s q), by simp; omega, by first | exact But.below hb1 hb7 (Nat.le_refl _) | exact But.below hb2 hb7 (Nat.le_refl _)⟩)
  · as_aux_lemma =>
      go_wp2_with fail
      go_ret
      exact ⟨t ++ t, congrArg (fun b => Ending.returned (Value.string b)) (bytes_add t t), by simp; omega, hbw6⟩
  · as_aux_lemma =>
      obtain ⟨i0, hi, hz0, hz1, hz2⟩ := info_parts Try.infoStr
      have hmany : Calls Try.prog 36 #[.string ⟨#[116, 104, 114, 101, 97, 100, 10]⟩, .int .i64 70] w6 fun e w' => ∃ t : List UInt8, e = .returned (.string ⟨t.toArray⟩) ∧ t.length ≤ 1000000 ∧ w' = w6 := l6Many_any [116, 104, 114, 101, 97, 100, 10] 70 w6 (by decide) (by decide)
      go_wp2_with fail
      refine hmany.mono ?_
      rintro e w6' ⟨m, rfl, hml, hw6⟩
      subst w6'
      have hs1 := StrT.new w6 (L8 ++ [m]) 9
      have hL9 : (L8 ++ [m]).length = 9 := by simp [L8]
      have hofc : ∀ W : World, StrT W w6.heap.size (L8 ++ [m]) → Rdr W w.heap.size w.heap.size (p2 + 1 + 1 + 1) → _ := fun W hs hr => of_any w.heap.size w.heap.size (p2 + 1 + 1 + 1) w6.heap.size 9 (L8 ++ [m]) W (by omega) (by omega) (by omega) hs (by omega) hr
      rw [hL9] at hofc
      rename_i hK
      refine hK _ _ ?_
      refine wpList_buildSlice rfl 64 9 9 _ rfl (strs (L8 ++ [m])).toArray i0 _ Try.underlying64 hi hz0 (by rw [hz1]; decide) (by rw [hz1]; decide) (by rw [hz1]; as_aux_lemma => kernel_rfl) ?_
      generalize hLL : L8 ++ [m] = LL at *
      go_wp2_with fail
      refine (hofc _ hs1 (hr6.alloc _)).mono ?_
      rintro e w7 ⟨s, hs7, rfl, hr7, hb7⟩
      have hsl : s.length ≤ 1000000 := by
        rw [← hLL] at hs7
        rcases List.mem_append.1 hs7 with h | h
        · have := (by decide : ∀ s ∈ L8, s.length ≤ 20) s h
          omega
        · obtain rfl : s = m := by simpa using h
          exact hml
      go_wp2_with fail
      go_ret
      exact ⟨s, rfl, by omega, But.below (hbw6.alloc hbw6.size _) hb7 (Nat.le_refl _)⟩
  · as_aux_lemma =>
      go_wp2_with fail
      go_ret
      exact ⟨_, congrArg (fun b => Ending.returned (Value.string b)) (bytes_extract t 0 q), by simp; omega, hbw6⟩
end Go.Proofs.Ythgmolelipjdaaa
