/- The law FnProgRoom, walked: it answers true, and leaves all as it was. Of whatever code. -/
import Derived.Test.YtfekeknnphoelabBxP
import Derived.Test.YtfekeknnphoelabDrawReads
import Derived.Test.YtfekeknnphoelabRowMore
namespace Go.Proofs.Ytfekeknnphoelab
open Go.RowKit

theorem M.prog_many {ll : List (List M.D)} (h : 3 < ll.length) : M.prog ll = false := by
  have : ¬ ll.length ≤ 3 := by omega
  simp [M.prog, this]

set_option maxHeartbeats 400000 in
theorem itextNo_any (a : Option Addr) (b o c : Nat) (ll : List (List M.D)) (w : World) (hl : ll.length ≤ 1048576) (hls : ∀ t ∈ ll, t.length ≤ 1048576) (h : DoSS w a b o ll) (hp : M.prog ll = false) :
    Calls Try.prog 23 #[.agg #[.slice a ll.length c]] w fun e w' => e = .returned (.string ⟨#[]⟩) ∧ Below w.heap.size w w' := by
  go_enter Try.func23, Try.ntmps23
  go_wp2_with fail
  have C := iprog_any a b o c ll _ hl hls (h.below (below1 w (.cells #[.slice a ll.length c] 40)) (Nat.le_refl _))
  rw [hp] at C
  refine C.mono ?_
  rintro e w1 ⟨rfl, hb1⟩
  go_wp2_with fail
  go_ret
  exact ⟨rfl, (below1 w _).trans (hb1.mono (by simp))⟩

/-- How long the list in a box is. -/
def qLen (w : World) (b : Nat) : Nat := match w.cell? ⟨b, 0, none⟩ with
  | some (.slice _ n _) => n
  | _ => 0

/-- Empty threads behind. -/
theorem Thr.pad {w : World} {vs es : List Value} {ll : List (List M.D)} (h : Thr w vs ll) (he : ∀ e ∈ es, ∃ a c, e = .slice a 0 c) : Thr w (vs ++ es) (ll ++ List.replicate es.length []) := by
  have hl := h.1
  refine ⟨by simp [hl], fun i h1 h2 => ?_⟩
  by_cases hi : i < ll.length
  · rw [List.getElem_append_left (by omega), List.getElem_append_left hi]
    exact h.2 i hi (by omega)
  · rw [List.getElem_append_right (by omega), List.getElem_append_right (by omega), List.getElem_replicate]
    obtain ⟨a, c, e⟩ := he _ (List.getElem_mem (l := es) (by simp at h2; omega) : es[i - vs.length]'(by simp at h2; omega) ∈ es)
    exact ⟨a, 0, 0, c, e, ⟨fun h => absurd h (Nat.lt_irrefl _), fun i hi => absurd hi (Nat.not_lt_zero _)⟩, Nat.zero_le _⟩

set_option maxHeartbeats 4000000 in
set_option maxRecDepth 100000 in
theorem lawRoom_any (ca : Option Addr) (cb co L C : Nat) (x : Nat → Int) (w : World) (hL : L ≤ C) (had : 0 < L → ca = some ⟨cb, co, none⟩) (hc : ∀ i, i < L → w.cell? ⟨cb, co + i, none⟩ = some (.int .u8 (x i)) ∧ 0 ≤ x i ∧ x i ≤ 255) :
    Calls Try.prog 7 #[.slice ca L C] w fun e w' => e = .returned (.bool true) ∧ Below w.heap.size w w' := by
  by_cases hLb : L ≤ 1048576
  · obtain ⟨i0, hi, hz0, hz1, hz2⟩ := info_parts Try.info43
    go_enter Try.func7, Try.ntmps7
    go_wp2_with fail
    refine (DrawProgReads_any ca cb co L C x _ hL had hc hLb).mono ?_
    rintro e w1 ⟨a, g, c, mm, rfl, hsn, hsm, hb1⟩
    have hle := hsm.le
    have h3 := hsm.three
    have hcap := hsm.cap
    have hpos := hsm.pos
    obtain ⟨rfl⟩ := hsn.addr hpos
    clear had hc
    have bx0 := BoxP.new (c := c) hb1 hsn.ss
    have hsn0 := hsn.but (rb := 0) ((But.refl 0 w1).alloc (.cells #[.slice (some ⟨g, 0, none⟩) mm.length c] 40)) (by omega)
    go_wp2_with fail
    generalize w1.alloc (.cells #[.slice (some ⟨g, 0, none⟩) mm.length c] 40) = W0 at *
    generalize w1.heap.size = P at *
    clear hsn hb1
    obtain ⟨vs, hthr, hcells⟩ := hsn0.vals
    clear hsn0
    have C1 := ireads_any _ g 0 c mm W0 (by omega) hle bx0.ss
    cases hp : M.prog mm
    · rw [M.nreads_no hp] at C1
      refine C1.mono ?_
      rintro e W1 ⟨rfl, b1⟩
      have bx1 := bx0.below b1
      have C2 := sreads_any _ g 0 c mm W1 (by omega) hle bx1.ss
      rw [M.nreads_no hp] at C2
      have p0 := bx1.p.c
      go_wp2_with fail
      refine C2.mono ?_
      rintro e W2 ⟨rfl, b2⟩
      have bx2 := bx1.below b2
      have C3 := sreads_any _ g 0 c mm W2 (by omega) hle bx2.ss
      rw [M.nreads_no hp] at C3
      clear p0
      have p0 := bx2.p.c
      go_wp2_with fail
      refine C3.mono ?_
      rintro e W3 ⟨rfl, b3⟩
      have bx3 := bx2.below b3
      go_wp2_with fail
      go_ret
      exact ⟨rfl, bx3.bel⟩
    · rw [M.nreads_ok hp] at C1
      refine C1.mono ?_
      rintro e W1 ⟨rfl, b1⟩
      have bx1 := bx0.below b1
      have C2 := sreads_any _ g 0 c mm W1 (by omega) hle bx1.ss
      rw [M.nreads_ok hp] at C2
      have p0 := bx1.p.c
      have n0 : ¬ ((M.tot M.reads mm : Nat) : Int) < 0 := by omega
      generalize M.tot M.reads mm = T at *
      go_wp2_with fail
      refine C2.mono ?_
      rintro e W2 ⟨rfl, b2⟩
      have b02 : Below W0.heap.size W0 W2 := b1.trans (b2.mono b1.size)
      have bx2 := bx1.below b2
      have hthr2 := hthr.below b02 (Nat.le_refl _)
      have hcells2 : ∀ i (h2 : i < vs.length), W2.cell? ⟨g, 0 + i, none⟩ = some vs[i] := fun i h2 => (b02.cell (p := ⟨g, 0 + i, none⟩) (World.block_lt_of_cell? _ _ (hcells i h2))).trans (hcells i h2)
      clear p0 C1 C2 hthr hcells bx0 bx1 b1 b2 b02
      have p0 := bx2.p.c
      have hPl := bx2.p.lt
      have hvl := hthr2.1
      have hgl : g < W2.heap.size := World.block_lt_of_cell? _ _ (hcells2 0 (by omega))
      have hown2 : (W2.alloc (.cells #[] 43)).ownsRow W2.heap.size 43 1 (.slice (some ⟨W2.heap.size, 0, none⟩) 0 0) 0 [] := World.ownsRow_made W2 _ 0 (Nat.le_refl _) (Nat.zero_le _) rfl
      go_wp2_with (at_builtin; refine wpList_append_own _ rfl (.tmp 25) (.tmp 27) 38 rfl W2.heap.size 43 i0 _ 1 24 Try.underlying38 hi hz0 hz1 hz2 rfl (by decide) _ _ _ rfl hown2 ⟨g, 0, none⟩ mm.length c vs rfl (by simp; omega) ?c1 hthr2.one (by unfold maxLen; omega) (by omega) (by simp) ?_)
      case c1 =>
        intro j u hj
        obtain ⟨hjl, rfl⟩ := List.getElem?_eq_some_iff.1 hj
        rw [Go.WideShapes.add_plain, World.cell?_alloc_past _ _ _ hgl]
        exact hcells2 j hjl
      intro v5 w5 hown5 hg5 _
      have b5 : Below W2.heap.size W2 w5 := below_grown (below1 W2 _) hg5 (fun k hk => by simp [Value.ownBlock] at hk; omega)
      have hown5' : w5.ownsRow W2.heap.size 43 1 v5 mm.length vs := by simpa using hown5
      have hk5 : ∀ k, v5.ownBlock = some k → k < w5.heap.size := fun k hk => (hown5'.lt k hk).2
      obtain ⟨a5, g5, c5, rfl, _⟩ := (hthr2.below b5 (Nat.le_refl _)).ss hown5'
      have bw2 := bx2.bel
      clear hown5 hg5 hown2 hcells2 hgl hPl p0
      go_wp2_with fail
      have bF := below1 w5 (.cells #[.slice a5 mm.length c5] 40)
      have hF6 : Slot1 (w5.alloc (.cells #[.slice a5 mm.length c5] 40)) w5.heap.size (.slice a5 mm.length c5) := Slot1.new w5 _ _
      have hown6 := hown5'.alloc (.cells #[.slice a5 mm.length c5] 40)
      have hbase : W2.heap.size ≤ w5.heap.size := b5.size
      have b26 := b5.trans (bF.mono hbase)
      generalize w5.alloc (.cells #[.slice a5 mm.length c5] 40) = W6 at *
      generalize w5.heap.size = F at *
      clear bF b5 hown5'
      go_loopw [30] (fun _ wr => ∃ (v : Value) (es : List Value), Slot1 wr F v ∧ wr.ownsRow W2.heap.size 43 1 v (mm.length + es.length) (vs ++ es) ∧ (∀ e ∈ es, ∃ a c, e = .slice a 0 c) ∧ mm.length + es.length ≤ 4 ∧ (v.ownBlock ≠ some F) ∧ Below W2.heap.size W2 wr) (fun _ wr => 4 - qLen wr F)
      case atStart => exact ⟨_, [], hF6, by simpa using hown6, fun e he => absurd he (by simp), by simp; omega, fun e => by have := hk5 F e; omega, b26⟩
      case round =>
        obtain ⟨v, es, hF, hown, hes, h4, hne, b2r⟩ := hrel
        clear hF6 hown6 b26 hk5
        have hthrR := (hthr2.below b2r (Nat.le_refl _)).pad hes
        have hlenR : (mm ++ List.replicate es.length ([] : List M.D)).length = mm.length + es.length := by simp
        have hownR : wr.ownsRow W2.heap.size 43 1 v (mm ++ List.replicate es.length ([] : List M.D)).length (vs ++ es) := by rw [hlenR]; exact hown
        obtain ⟨av, gv, cv, ev, hssR⟩ := hthrR.ss hownR
        rw [hlenR] at ev
        subst ev
        obtain ⟨nq, hnq⟩ : ∃ nq, mm.length + es.length = nq := ⟨_, rfl⟩
        have cF := hF.c
        have fF := hF.fz
        have lF := hF.lt
        by_cases hq : nq ≤ 3
        · rw [hnq] at hown h4 cF hF hne
          have hq' : (nq : Int) ≤ 3 := by omega
          have hge := own_ge hown
          go_wp2_with (at_builtin; refine wpList_append_lies _ rfl (.tmp 35) (.tmp 37) 38 rfl W2.heap.size 43 i0 _ 1 24 Try.underlying38 hi hz0 hz1 hz2 rfl (by decide) _ _ _ rfl ((hown.alloc _).alloc _) ⟨wr.heap.size + 1, 0, none⟩ 1 1 [.slice (some ⟨wr.heap.size, 0, none⟩) 0 0] rfl rfl ?c1 ?c2 (by omega) (by unfold maxLen; omega) (by omega) (by simp; omega) (wr.heap.size + 1 + 1) (by simp) ?_)
          case c1 =>
            intro j u hj
            match j, hj with
            | 0, hj => simp at hj; subst hj; simp [Addr.add]
          case c2 => intro u hu; simp at hu; subst hu; rfl
          intro g8 c8 w8 hown8 hg8 hat8 hlt8
          have hne8 : g8 ≠ F := by
            rcases hat8 with e | e
            · intro e2; subst e2; exact hne e
            · omega
          have hF8 := ((hF.bel (below2 wr (.cells #[] 64) (.cells #[.slice (some ⟨wr.heap.size, 0, none⟩) 0 0] 43)))).apart hg8 hne
          have b28 : Below W2.heap.size W2 w8 := below_grown (b2r.trans ((below2 wr (.cells #[] 64) (.cells #[.slice (some ⟨wr.heap.size, 0, none⟩) 0 0] 43)).mono b2r.size)) hg8 hge (by simp; omega)
          have cF8 := hF8.c
          have fF8 := hF8.fz
          have hw : qLen wr F = nq := by simp [qLen, cF]
          go_wp2_with fail
          have hF9 := hF8.set (.slice (some ⟨g8, 0, none⟩) (nq + 1) c8)
          have hw9 : qLen (w8.setCell ⟨F, 0, none⟩ (.slice (some ⟨g8, 0, none⟩) (nq + 1) c8)) F = nq + 1 := by simp [qLen, hF9.c]
          refine ⟨⟨_, es ++ [.slice (some ⟨wr.heap.size, 0, none⟩) 0 0], hF9, ?_, fun e he => ?_, by simp; omega, fun e => by simp [Value.ownBlock] at e; omega, b28.setCell (by show W2.heap.size ≤ F; omega) _⟩, by rw [hw, hw9]; omega⟩
          · have := ownsRow_ne (i := 0) (u := .slice (some ⟨g8, 0, none⟩) (nq + 1) c8) hown8 hne8
            rw [List.length_append, List.length_singleton, ← Nat.add_assoc, hnq]
            exact this
          · rcases List.mem_append.1 he with h | h
            · exact hes e h
            · simp at h; subst h; exact ⟨_, _, rfl⟩
        · have hnq4 : nq = 4 := by omega
          subst hnq4
          have hgt : 3 < (mm ++ List.replicate es.length ([] : List M.D)).length := by rw [hlenR]; omega
          have hpn := M.prog_many hgt
          have hleR : ∀ t ∈ mm ++ List.replicate es.length ([] : List M.D), t.length ≤ 1048576 := fun t ht => by
            rcases List.mem_append.1 ht with h | h
            · exact hle t h
            · rw [List.eq_of_mem_replicate h]; simp
          have C7 := iprog_any av gv 0 cv _ wr (by omega) hleR hssR
          rw [hpn, hlenR, hnq] at C7
          rw [hnq] at cF
          have bxr := bx2.below b2r
          have p0 := bxr.p.c
          have pl := bxr.p.lt
          have h3' : (mm.length : Int) ≤ 3 := by omega
          clear hown hownR hF fF h4
          go_wp2_with fail
          refine C7.mono ?_
          rintro e W7 ⟨rfl, b7⟩
          have cF7 := (b7.cell (p := ⟨F, 0, none⟩) lF).trans cF
          have hss7 := hssR.below b7 (Nat.le_refl _)
          have C8 := ireads_any av gv 0 cv _ W7 (by omega) hleR hss7
          rw [M.nreads_no hpn, hlenR, hnq] at C8
          go_wp2_with fail
          refine C8.mono ?_
          rintro e W8 ⟨rfl, b8⟩
          have lF7 : F < W7.heap.size := Nat.lt_of_lt_of_le lF b7.size
          have cF8 := (b8.cell (p := ⟨F, 0, none⟩) lF7).trans cF7
          have hss8 := hss7.below b8 (Nat.le_refl _)
          have C9 := itextNo_any av gv 0 cv _ W8 (by omega) hleR hss8 hpn
          rw [hlenR, hnq] at C9
          go_wp2_with fail
          refine C9.mono ?_
          rintro e W9 ⟨rfl, b9⟩
          go_wp2_with fail
          go_ret
          have bb := bxr.bel
          have bb7 := bb.trans (b7.mono bb.size)
          have bb8 := bb7.trans (b8.mono bb7.size)
          exact ⟨rfl, bb8.trans (b9.mono bb8.size)⟩
  · go_enter Try.func7, Try.ntmps7
    go_wp2_with fail
    go_ret
    exact ⟨rfl, Below.refl _ _⟩

end Go.Proofs.Ytfekeknnphoelab
