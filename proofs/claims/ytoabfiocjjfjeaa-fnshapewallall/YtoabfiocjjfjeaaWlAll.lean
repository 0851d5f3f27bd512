/- impl's and spec's WallAll: walls at all gaps. Of programs of at most 1048576 threads, each of at most 1048576 steps. -/
import Derived.Test.YtoabfiocjjfjeaaWlSp
namespace Go.Proofs.Ytoabfiocjjfjeaa
open Go.RowKit

namespace M
/-- The first so many gaps. -/
def upto (n : Nat) : List Int := (List.range n).map fun (i : Nat) => (i : Int)
theorem upto_len (n : Nat) : (upto n).length = n := by simp [upto]
theorem upto_succ (n : Nat) : upto (n + 1) = upto n ++ [(n : Int)] := by simp [upto, List.range_succ]
def wallAll (ll : List (List D)) : Option (List (List D)) := wallPut ll (upto (gaps ll).toNat)
theorem gaps_le (ll : List (List D)) : -1 ≤ gaps ll ∧ gaps ll ≤ 18 := by
  unfold gaps
  split
  · rename_i hp
    obtain ⟨h3, h7⟩ := prog_le hp
    have := gapsN_le h7
    omega
  · omega
end M

set_option maxHeartbeats 1000000 in
set_option maxRecDepth 100000 in
theorem iwallAll_any (a : Option Addr) (b o c : Nat) (ll : List (List M.D)) (hl : ll.length ≤ 1048576) (hls : ∀ t ∈ ll, t.length ≤ 1048576) (w : World) (h : DoSS w a b o ll) :
    Calls Try.prog 15 #[.agg #[.slice a ll.length c]] w fun e w' => ∃ v, e = .returned (.tuple #[.agg #[v], .bool (M.wallAll ll).isSome]) ∧ ∃ vs, Rdg w' w.heap.size v ((M.wallAll ll).getD []) vs ∧ Below w.heap.size w w' := by
  obtain ⟨i0, hi, hz0, hz1, hz2⟩ := info_parts Try.infoInt
  have b2 := below2 w (.cells #[.slice a ll.length c] 25) (.cells #[.slice none 0 0] 25)
  have h2 := h.below b2 (Nat.le_refl _)
  have hX := (Slot1.new w (.slice a ll.length c) 25).bl' (below1 _ (.cells #[.slice none 0 0] 25))
  have hY := Slot1.new (w.alloc (.cells #[.slice a ll.length c] 25)) (.slice none 0 0) 25
  rw [World.size_alloc] at hY
  go_enter Try.func15, Try.ntmps15
  go_wp2_with fail
  generalize (w.alloc (.cells #[.slice a ll.length c] 25)).alloc (.cells #[.slice none 0 0] 25) = W at *
  refine (igaps_any a b o c ll W hl hls h2).mono ?_
  rintro e W1 ⟨rfl, b1⟩
  have hX1 := hX.bl' b1
  have hY1 := hY.bl' b1
  have bw1 := b2.trans (b1.mono b2.size)
  have CP := fun ga gb go gc W h1 h2 => iwallPut_any a b o c ll hl hls ga gb go gc (M.upto (M.gaps ll).toNat) (by rw [M.upto_len]; have := M.gaps_le ll; omega) W h1 h2
  rw [show M.wallPut ll (M.upto (M.gaps ll).toNat) = M.wallAll ll from rfl, M.upto_len] at CP
  obtain ⟨hg1, hg2⟩ := M.gaps_le ll
  generalize M.gaps ll = G at *
  clear h2 hX hY b1 b2
  go_wp2_with fail
  go_loopw [4, 8] (fun s4 s8 wr => ∃ n : Nat, s8 = .int .i64 n ∧ n ≤ G.toNat ∧ wr.ownsRow W1.heap.size 3 1 s4 (M.upto n).length (nums (M.upto n)) ∧ Below W1.heap.size W1 wr) (fun _ s8 _ => G.toNat - (intOf s8).toNat)
  case atStart => exact ⟨0, rfl, Nat.zero_le _, World.ownsRow_nil _ _ _ _, Below.refl _ _⟩
  case round =>
    obtain ⟨n, rfl, hn, hown, hbel⟩ := hrel
    have hbs := hbel.size
    by_cases hlt : (n : Int) < G
    · have hun : (M.upto n).length = n := M.upto_len n
      rw [hun] at hown
      clear hun
      go_wp2_with (at_builtin; refine wpList_append_own _ rfl (.tmp 11) (.tmp 13) 26 rfl _ 3 i0 _ 1 8 Try.underlying26 hi hz0 hz1 hz2 rfl (by decide) _ _ _ rfl (hown.alloc _) ⟨wr.heap.size, 0, none⟩ 1 1 [.int .i64 n] rfl rfl (cells_new1 _ _ _ _ (by simp)) (one1 _) (by unfold maxLen; omega) (by omega) (by simp; omega) ?_)
      intro v3 w3 hown3 hg3 _
      have hb3 : Below _ _ w3 := below_grown (hbel.trans ((below1 wr _).mono hbel.size)) hg3 (own_ge hown) (by simp; omega)
      have hown4 : w3.ownsRow W1.heap.size 3 1 v3 (M.upto (n + 1)).length (nums (M.upto (n + 1))) := by
        rw [M.upto_len, M.upto_succ, nums_snoc]; exact hown3
      clear hown3 hg3 hown
      go_wp2_with fail
      exact ⟨⟨n + 1, by go_num, by omega, hown4, hb3⟩, by simp [intOf]; omega⟩
    · obtain rfl : n = G.toNat := by omega
      obtain ⟨ga, gb, gc, rfl, hI, _, _⟩ := own_nums hown
      rw [M.upto_len]
      have hX3 := hX1.bl' hbel
      have hY3 := hY1.bl' hbel
      have bw3 := bw1.trans (hbel.mono bw1.size)
      have x0 := hX3.c
      have hC := CP ga gb 0 gc wr (h.below bw3 (Nat.le_refl _)) hI
      go_wp2_with fail
      refine hC.mono ?_
      rintro e w4 ⟨v4, rfl, vs4, hR4, b4⟩
      obtain ⟨av, gv, cv, rfl, _⟩ := hR4.b.ss
      have hY4 := hY3.bl' b4
      have bw4 := bw3.trans (b4.mono bw3.size)
      have y0 := hY4.c
      have yf := hY4.fz
      have ly := hY3.lt
      go_wp2_with fail
      have q1 := (hY4.set (.slice av ((M.wallAll ll).getD []).length cv)).c
      exact bodyPost_ret (v := .tuple #[.agg #[.slice av ((M.wallAll ll).getD []).length cv], .bool (M.wallAll ll).isSome]) (by simp [results, Try.results15, go_sem, q1]) rfl ⟨_, rfl, vs4, (hR4.far ly _).mono bw3.size, bw4.setCell (by show w.heap.size ≤ w.heap.size + 1; omega) _⟩

set_option maxHeartbeats 1000000 in
set_option maxRecDepth 100000 in
theorem swallAll_any (a : Option Addr) (b o c : Nat) (ll : List (List M.D)) (hl : ll.length ≤ 1048576) (hls : ∀ t ∈ ll, t.length ≤ 1048576) (w : World) (h : DoSS w a b o ll) :
    Calls Try.prog 13 #[.agg #[.slice a ll.length c]] w fun e w' => ∃ v, e = .returned (.tuple #[.agg #[v], .bool (M.wallAll ll).isSome]) ∧ ∃ vs, Rdg w' w.heap.size v ((M.wallAll ll).getD []) vs ∧ Below w.heap.size w w' := by
  obtain ⟨i0, hi, hz0, hz1, hz2⟩ := info_parts Try.infoInt
  have b2 := below2 w (.cells #[.slice a ll.length c] 25) (.cells #[.slice none 0 0] 25)
  have hX := (Slot1.new w (.slice a ll.length c) 25).bl' (below1 _ (.cells #[.slice none 0 0] 25))
  have hY := Slot1.new (w.alloc (.cells #[.slice a ll.length c] 25)) (.slice none 0 0) 25
  rw [World.size_alloc] at hY
  have CP := fun ga gb go gc W h1 h2 => swallPut_any a b o c ll hl hls ga gb go gc (M.upto (M.gaps ll).toNat) (by rw [M.upto_len]; have := M.gaps_le ll; omega) W h1 h2
  rw [show M.wallPut ll (M.upto (M.gaps ll).toNat) = M.wallAll ll from rfl, M.upto_len] at CP
  have CG := fun W hW => sgaps_any a b o c ll W hl hls hW
  obtain ⟨hg1, hg2⟩ := M.gaps_le ll
  generalize M.gaps ll = G at *
  have hE := World.ownsRow_made (base := w.heap.size + 1 + 1) (e := 3) (size := 1) ((w.alloc (.cells #[.slice a ll.length c] 25)).alloc (.cells #[.slice none 0 0] 25)) #[] 0 (by simp) (Nat.zero_le _) rfl
  have bE := below1 ((w.alloc (.cells #[.slice a ll.length c] 25)).alloc (.cells #[.slice none 0 0] 25)) (.cells #[] 3)
  have HW : Hid (((w.alloc (.cells #[.slice a ll.length c] 25)).alloc (.cells #[.slice none 0 0] 25)).heap.size = w.heap.size + 1 + 1) := by show _ = _; simp
  go_enter Try.func13, Try.ntmps13
  go_wp2_with fail
  generalize (w.alloc (.cells #[.slice a ll.length c] 25)).alloc (.cells #[.slice none 0 0] 25) = W at *
  rw [HW.out] at hE bE
  go_loopw [4, 5] (fun s4 s5 wr => ∃ n : Nat, s5 = .int .i64 n ∧ n ≤ G.toNat ∧ wr.ownsRow (w.heap.size + 1 + 1) 3 1 s4 (M.upto n).length (nums (M.upto n)) ∧ Below (w.heap.size + 1 + 1) W wr) (fun _ s5 _ => G.toNat - (intOf s5).toNat)
  case atStart => exact ⟨0, rfl, Nat.zero_le _, hE, bE⟩
  case round =>
    obtain ⟨n, rfl, hn, hown, hbel⟩ := hrel
    have hbel' : Below W.heap.size W wr := by rw [HW.out]; exact hbel
    have bwr := b2.trans (hbel'.mono b2.size)
    have hXr := hX.bl' hbel'
    have hYr := hY.bl' hbel'
    have x0 := hXr.c
    have hbs := hbel.size
    have hGC := CG wr (h.below bwr (Nat.le_refl _))
    by_cases hlt : (n : Int) < G
    · go_wp2_with (first | (go_at_call 24; refine hGC.mono ?_; rintro e w2 ⟨rfl, b2'⟩; have hown2 := ownsRow_below hown b2'; rw [M.upto_len] at hown2; have hs2 := b2'.size) | (at_builtin; refine wpList_append_own _ rfl (.tmp 13) (.tmp 15) 26 rfl _ 3 i0 _ 1 8 Try.underlying26 hi hz0 hz1 hz2 rfl (by decide) _ _ _ rfl (hown2.alloc _) ⟨w2.heap.size, 0, none⟩ 1 1 [.int .i64 n] rfl rfl (cells_new1 _ _ _ _ (by simp)) (one1 _) (by unfold maxLen; omega) (by omega) (by have := HW.out; simp; omega) ?_))
      intro v3 w3 hown3 hg3 _
      have hb2 : Below (w.heap.size + 1 + 1) W w2 := hbel.trans (b2'.mono (by have := HW.out; omega))
      have hb3 : Below (w.heap.size + 1 + 1) W w3 := below_grown (hb2.trans ((below1 w2 _).mono (by have := HW.out; omega))) hg3 (own_ge hown2) (by have := HW.out; simp; omega)
      have hown4 : w3.ownsRow (w.heap.size + 1 + 1) 3 1 v3 (M.upto (n + 1)).length (nums (M.upto (n + 1))) := by
        rw [M.upto_len, M.upto_succ, nums_snoc]; exact hown3
      clear hown3 hg3 hown hown2
      go_wp2_with fail
      exact ⟨⟨n + 1, by go_num, by omega, hown4, hb3⟩, by simp [intOf]; omega⟩
    · obtain rfl : n = G.toNat := by omega
      have hnn : ¬ ((G.toNat : Nat) : Int) < G := by omega
      obtain ⟨ga, gb, gc, rfl, hI, _, _⟩ := own_nums hown
      rw [M.upto_len]
      have hC := fun w2 (b2' : Below wr.heap.size wr w2) => CP ga gb 0 gc w2 (h.below (bwr.trans (b2'.mono bwr.size)) (Nat.le_refl _)) (hI.below b2' (Nat.le_refl _))
      go_wp2_with (first | (go_at_call 24; refine hGC.mono ?_; rintro e w2 ⟨rfl, b2'⟩; have hX2 := hXr.bl' b2'; have x2 := hX2.c))
      refine (hC w2 b2').mono ?_
      rintro e w4 ⟨v4, rfl, vs4, hR4, b4⟩
      obtain ⟨av, gv, cv, rfl, _⟩ := hR4.b.ss
      have bw2 := bwr.trans (b2'.mono bwr.size)
      have hY2 := hYr.bl' b2'
      have hY4 := hY2.bl' b4
      have bw4 := bw2.trans (b4.mono bw2.size)
      have y0 := hY4.c
      have yf := hY4.fz
      have ly := hY2.lt
      go_wp2_with fail
      have q1 := (hY4.set (.slice av ((M.wallAll ll).getD []).length cv)).c
      exact bodyPost_ret (v := .tuple #[.agg #[.slice av ((M.wallAll ll).getD []).length cv], .bool (M.wallAll ll).isSome]) (by simp [results, Try.results13, go_sem, q1]) rfl ⟨_, rfl, vs4, (hR4.far ly _).mono bw2.size, bw4.setCell (by show w.heap.size ≤ w.heap.size + 1; omega) _⟩

end Go.Proofs.Ytoabfiocjjfjeaa
