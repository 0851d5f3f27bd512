/- The law FnProgLess, walked: it answers true, and leaves all as it was. Of whatever code. -/
import Derived.Test.YtfekeknnphoelaaBxP
import Derived.Test.YtfekeknnphoelaaDrawOk
import Derived.Test.YtfekeknnphoelaaMathL
import Derived.Test.YtfekeknnphoelaaRowMore
import Derived.Deep.AppendLies
import Derived.Deep.RegionLaw
namespace Go.Proofs.Ytfekeknnphoelaa
open Go.RowKit

set_option maxHeartbeats 4000000 in
set_option maxRecDepth 100000 in
theorem lawLess_any (ca : Option Addr) (cb co L C : Nat) (x : Nat → Int) (w : World) (hL : L ≤ C) (had : 0 < L → ca = some ⟨cb, co, none⟩) (hc : ∀ i, i < L → w.cell? ⟨cb, co + i, none⟩ = some (.int .u8 (x i)) ∧ 0 ≤ x i ∧ x i ≤ 255) :
    Calls Try.prog 6 #[.slice ca L C] w fun e w' => e = .returned (.bool true) ∧ Below w.heap.size w w' := by
  by_cases hLb : L ≤ 1048576
  · obtain ⟨i0, hi, hz0, hz1, hz2⟩ := info_parts Try.info35
    go_enter Try.func6, Try.ntmps6
    go_wp2_with fail
    refine (DrawProgOk_any ca cb co L C x _ hL had hc hLb).mono ?_
    rintro e w1 ⟨a, g, c, mm, rfl, hsn, hsm, hb1⟩
    have hle := hsm.le
    have h3 := hsm.three
    have hcap := hsm.cap
    have hpos := hsm.pos
    have h14 := hsm.steps
    obtain ⟨rfl⟩ := hsn.addr hpos
    obtain ⟨fr, la, rfl⟩ : ∃ fr la, mm = fr ++ [la] := ⟨mm.dropLast, mm.getLast (by intro h; rw [h] at hpos; simp at hpos), (List.dropLast_concat_getLast _).symm⟩
    rw [snoc_len] at h3 hcap
    clear had hc hpos
    have bx0 := BoxP.new (c := c) hb1 hsn.ss
    have hsn0 := hsn.but (rb := 0) ((But.refl 0 w1).alloc (.cells #[.slice (some ⟨g, 0, none⟩) (fr ++ [la]).length c] 25)) (by omega)
    rw [snoc_len] at bx0 hsn0 ⊢
    go_wp2_with fail
    generalize w1.alloc (.cells #[.slice (some ⟨g, 0, none⟩) (fr.length + 1) c] 25) = W0 at *
    generalize w1.heap.size = P at *
    clear hsn hb1
    obtain ⟨vs, hthr, hcells⟩ := hsn0.vals
    clear hsn0
    have C1 := iprog_any _ g 0 c (fr ++ [la]) W0 (by rw [snoc_len]; omega) hle bx0.ss
    rw [snoc_len] at C1
    cases hp : M.prog (fr ++ [la])
    · rw [hp] at C1
      refine C1.mono ?_
      rintro e W1 ⟨rfl, b1⟩
      have bx1 := bx0.below b1
      have C2 := sprog_any _ g 0 c (fr ++ [la]) W1 (by rw [snoc_len]; omega) hle bx1.ss
      rw [hp, snoc_len] at C2
      have p0 := bx1.p.c
      rw [snoc_len] at p0
      go_wp2_with fail
      refine C2.mono ?_
      rintro e W2 ⟨rfl, b2⟩
      have bx2 := bx1.below b2
      have C3 := sprog_any _ g 0 c (fr ++ [la]) W2 (by rw [snoc_len]; omega) hle bx2.ss
      rw [hp, snoc_len] at C3
      clear p0
      have p0 := bx2.p.c
      rw [snoc_len] at p0
      go_wp2_with fail
      refine C3.mono ?_
      rintro e W3 ⟨rfl, b3⟩
      have bx3 := bx2.below b3
      go_wp2_with fail
      go_ret
      exact ⟨rfl, bx3.bel⟩
    · rw [hp] at C1
      refine C1.mono ?_
      rintro e W1 ⟨rfl, b1⟩
      have bx1 := bx0.below b1
      have hthr1 := hthr.below b1 (Nat.le_refl _)
      have hcells1 : ∀ i (h2 : i < vs.length), W1.cell? ⟨g, 0 + i, none⟩ = some vs[i] := fun i h2 => (b1.cell (p := ⟨g, 0 + i, none⟩) (World.block_lt_of_cell? _ _ (hcells i h2))).trans (hcells i h2)
      have C2 := sprog_any _ g 0 c (fr ++ [la]) W1 (by rw [snoc_len]; omega) hle bx1.ss
      rw [hp, snoc_len] at C2
      have p0 := bx1.p.c
      rw [snoc_len] at p0
      go_wp2_with fail
      refine C2.mono ?_
      rintro e W2 ⟨rfl, b2⟩
      have bx2 := bx1.below b2
      have hthr2 := hthr1.below b2 (Nat.le_refl _)
      have hcells2 : ∀ i (h2 : i < vs.length), W2.cell? ⟨g, 0 + i, none⟩ = some vs[i] := fun i h2 => (b2.cell (p := ⟨g, 0 + i, none⟩) (World.block_lt_of_cell? _ _ (hcells1 i h2))).trans (hcells1 i h2)
      clear p0 C1 C2 hthr hthr1 hcells hcells1 bx0 bx1 b1
      have p0 := bx2.p.c
      rw [snoc_len] at p0
      have hvl := hthr2.1
      rw [snoc_len] at hvl
      obtain ⟨al, bl, ol, cl, hvl1, hdl, hcl⟩ := hthr2.2 fr.length (by simp) (by omega)
      have cl0 := hcells2 fr.length (by omega)
      rw [hvl1, Nat.zero_add] at cl0
      have ela : (fr ++ [la])[fr.length]'(by simp) = la := by simp
      rw [ela] at cl0 hdl hcl
      have hgl : g < W2.heap.size := World.block_lt_of_cell? _ _ cl0
      have hPl := bx2.p.lt
      have i1 : (fr.length : Int) < fr.length + 1 := by omega
      have i2 : fr.length ≤ c := by omega
      have hown2 : (W2.alloc (.cells #[] 35)).ownsRow W2.heap.size 35 1 (.slice (some ⟨W2.heap.size, 0, none⟩) 0 0) 0 [] := World.ownsRow_made W2 _ 0 (Nat.le_refl _) (Nat.zero_le _) rfl
      go_wp2_with (at_builtin; refine wpList_append_own _ rfl (.tmp 42) (.tmp 47) 23 rfl W2.heap.size 35 i0 _ 1 24 Try.underlying23 hi hz0 hz1 hz2 rfl (by decide) _ _ _ rfl hown2 ⟨g, 0, none⟩ fr.length c (vs.take fr.length) rfl (by simp; omega) ?c1 (fun y hy => hthr2.one y (List.mem_of_mem_take hy)) (by unfold maxLen; omega) (by omega) (by simp) ?_)
      case c1 =>
        intro j u hj
        rw [List.getElem?_take] at hj
        by_cases hjl : j < fr.length
        · rw [if_pos hjl, List.getElem?_eq_getElem (by omega)] at hj
          obtain ⟨rfl⟩ := hj
          rw [Go.WideShapes.add_plain, World.cell?_alloc_past _ _ _ hgl]
          exact hcells2 j (by omega)
        · rw [if_neg hjl] at hj; cases hj
      intro v5 w5 hown5 hg5 _
      have b5 : Below W2.heap.size W2 w5 := below_grown (below1 W2 _) hg5 (fun k hk => by simp [Value.ownBlock] at hk; omega)
      have bx5 := bx2.below b5
      have htk : Thr w5 (vs.take fr.length) fr := by
        have := (hthr2.below b5 (Nat.le_refl _)).take fr.length
        rwa [List.take_left] at this
      have hdl5 := hdl.below b5 (Nat.le_refl _)
      have hown5' : w5.ownsRow W2.heap.size 35 1 v5 fr.length (vs.take fr.length) := by simpa using hown5
      obtain ⟨a5, g5, c5, rfl, hss5⟩ := htk.ss hown5'
      have htk2 : Thr W2 (vs.take fr.length) fr := by
        have := hthr2.take fr.length
        rwa [List.take_left] at this
      have bw2 := bx2.bel
      clear hown5 hg5 hown2 cl0 hcells2 hthr2 p0 hgl hPl bx2
      go_wp2_with fail
      have hfl : ∀ t ∈ fr, t.length ≤ 1048576 := fun t ht => hle t (by simp [ht])
      have bF := below1 w5 (.cells #[.slice a5 fr.length c5] 25)
      have C5 := iprog_any a5 g5 0 c5 fr _ (by omega) hfl (hss5.below bF (Nat.le_refl _))
      rw [M.prog_front hp] at C5
      have bx6 := bx5.below bF
      have hF6 : Slot1 (w5.alloc (.cells #[.slice a5 fr.length c5] 25)) w5.heap.size (.slice a5 fr.length c5) := Slot1.new w5 _ _
      have hdl6 := hdl5.below bF (Nat.le_refl _)
      have htk6 := htk.below bF (Nat.le_refl _)
      have hown6 := hown5'.alloc (.cells #[.slice a5 fr.length c5] 25)
      generalize w5.alloc (.cells #[.slice a5 fr.length c5] 25) = W6 at *
      have hbase : W2.heap.size ≤ w5.heap.size := b5.size
      have hk5 : ∀ k, (Value.slice a5 fr.length c5).ownBlock = some k → W2.heap.size ≤ k ∧ k < w5.heap.size := fun k hk => hown5'.lt k hk
      generalize w5.heap.size = F at *
      have b26 : Below W2.heap.size W2 W6 := b5.trans (bF.mono hbase)
      clear bx5 hdl5 htk hown5' hss5 bF b2
      refine C5.mono ?_
      rintro e W7 ⟨rfl, b7⟩
      have bx7 := bx6.below b7
      have hF7 := hF6.bel b7
      have hdl7 := hdl6.below b7 (Nat.le_refl _)
      have htk7 := htk6.below b7 (Nat.le_refl _)
      have hown7 := ownsRow_below hown6 b7
      have b27 : Below W2.heap.size W2 W7 := b26.trans (b7.mono b26.size)
      clear bx6 hF6 hdl6 htk6 hown6 b7 C5
      rcases List.eq_nil_or_concat la with rfl | ⟨t, d, rfl⟩
      · rw [List.length_nil] at *
        go_wp2_with fail
        go_ret
        exact ⟨rfl, bx7.bel⟩
      · rw [List.concat_eq_append] at *
        rw [snoc_len] at *
        obtain ⟨rfl⟩ := hdl.addr (by rw [snoc_len]; omega)
        have hlast := (hdl7.row t.length (by rw [snoc_len]; omega)).k
        rw [show (t ++ [d])[t.length]'(by simp) = d by simp] at hlast
        have i3 : (t.length : Int) < t.length + 1 := by omega
        have hb14 : t.length + 1 ≤ 14 := by have := h14 (t ++ [d]) (by simp); rwa [snoc_len] at this
        by_cases h8 : d.k = 8
        · rw [h8] at hlast
          go_wp2_with fail
          go_ret
          exact ⟨rfl, bx7.bel⟩
        · have h8' : (d.k == 8) = false := by simpa using h8
          go_wp2_with fail
          have cF := hF7.c
          have fF := hF7.fz
          have lF := hF7.lt
          have hown7d : W7.drew.ownsRow W2.heap.size 35 1 (.slice a5 fr.length c5) fr.length (vs.take fr.length) := hown7
          have i4 : t.length ≤ cl := by omega
          have i5 : (t.length : Int) ≤ cl := by omega
          have hwr : IntKind.i64.wrap (t.length : Int) = t.length := wrap_small _ (by omega) (by omega)
          go_region_law (refine step_append_lies _ (by rfl) _ _ _ (by rfl) W2.heap.size 35 i0 _ 1 24 Try.underlying23 hi hz0 hz1 hz2 rfl (by omega) (.slice a5 fr.length c5) fr.length (vs.take fr.length) (by rfl) (hown7d.alloc _) ⟨W7.heap.size, 0, none⟩ 1 1 [.slice (some ⟨bl, ol, none⟩) t.length cl] (by rfl) (by rfl) (World.news_of_block (cs := #[.slice (some ⟨bl, ol, none⟩) t.length cl]) (t := 35) (fr := (0, 0)) (heap_alloc_new W7.drew _)) (by simp [Value.oneCell']) (by omega) (by unfold maxLen; omega) (by omega) (by simp; omega) (W7.heap.size + 1) (by simp) ?_; intro g8 cap8 W8 hown8 hg8 hat8 hlt8; have hF8 := ((hF7.but (rb := F + 1) (((But.refl (F + 1) W7).drew).alloc (.cells #[.slice (some ⟨bl, ol, none⟩) t.length cl] 35)) (by omega))).apart hg8 (fun e => by have := (hk5 F e).2; omega); have cF8 := hF8.c; have fF8 := hF8.fz)
          all_goals
            have hg8F : g8 ≠ F := by
              rcases hat8 with e | e
              · have := (hk5 g8 e).2; omega
              · omega
            have b28 : Below W2.heap.size W2 (W8.setCell ⟨F, 0, none⟩ (.slice (some ⟨g8, 0, none⟩) (fr.length + 1) cap8)) :=
              (below_grown (b27.drew.alloc (by show W2.heap.size ≤ W7.heap.size; omega) _) hg8 (fun k hk => (hk5 k hk).1) (by simp; omega)).setCell (by show W2.heap.size ≤ F; omega) _
            have hown8' : (W8.setCell ⟨F, 0, none⟩ (.slice (some ⟨g8, 0, none⟩) (fr.length + 1) cap8)).ownsRow W2.heap.size 35 1 (.slice (some ⟨g8, 0, none⟩) (fr.length + 1) cap8) (fr.length + 1) (vs.take fr.length ++ [.slice (some ⟨bl, ol, none⟩) t.length cl]) := ownsRow_ne hown8 hg8F
            have hthr8 := ((htk2.below b28 (Nat.le_refl _)).snoc (hdl.front.below b28 (Nat.le_refl _)) (c := cl) (by omega))
            obtain ⟨a9, g9, c9, e9, hss9⟩ := hthr8.ss (v := .slice (some ⟨g8, 0, none⟩) (fr.length + 1) cap8) (by rw [snoc_len]; exact hown8')
            simp only [Value.slice.injEq] at e9
            obtain ⟨rfl, e9', rfl⟩ := e9
            clear e9'
            have hb9 : Below w.heap.size w (W8.setCell ⟨F, 0, none⟩ (.slice (some ⟨g8, 0, none⟩) (fr.length + 1) cap8)) := bw2.trans (b28.mono bw2.size)
            have cF9 := (hF8.set (.slice (some ⟨g8, 0, none⟩) (fr.length + 1) cap8)).c
            have C9 := iprog_any _ g9 0 cap8 (fr ++ [t]) _ (by rw [snoc_len]; omega) (fun s hs => by
              rcases List.mem_append.1 hs with h | h
              · exact hfl s h
              · simp at h; subst h; omega) hss9
            rw [M.prog_last h8 hp, snoc_len] at C9
            clear hthr8 hss9 hown8' b28 hown8 hg8 hat8 hlt8 hF8 cF8 fF8 hg8F htk2 b27 b26 hown7 hown7d hk5 hF7 cF fF lF bx7 hdl7 htk7 hdl hlast hvl hvl1 ela hwr i5 i4 i3 h8'
            generalize W8.setCell ⟨F, 0, none⟩ (.slice (some ⟨g8, 0, none⟩) (fr.length + 1) cap8) = W9 at *
            go_wp2_with fail
            refine C9.mono ?_
            rintro e W10 ⟨rfl, b10⟩
            go_wp2_with fail
            go_ret
            exact ⟨rfl, hb9.trans (b10.mono hb9.size)⟩
  · go_enter Try.func6, Try.ntmps6
    go_wp2_with fail
    go_ret
    exact ⟨rfl, Below.refl _ _⟩

end Go.Proofs.Ytfekeknnphoelaa
