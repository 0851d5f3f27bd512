/- impl.TurnSeen. Of programs of at most 1048576 threads and steps of a thread, of as many numbers. -/
import Derived.Test.YtnaljfnijcoheaaTsI
import Derived.Test.YtnaljfnijcoheaaSnFar
namespace Go.Proofs.Ytnaljfnijcoheaa
open Go.RowKit

theorem M.lens_pick (row : List Int) (n : Nat) (rows : List (List Int)) (h : ∀ r ∈ rows, r.length ≤ n) : M.lens (M.pick [] row rows) ≤ n * row.length := by
  induction row with
  | nil => simp [M.pick, M.lens]
  | cons i row ih =>
    have h1 : (rows.getD i.toNat []).length ≤ n := by
      by_cases hi : i.toNat < rows.length
      · rw [M.getD_get hi]; exact h _ (List.getElem_mem hi)
      · rw [List.getD_eq_getElem?_getD, List.getElem?_eq_none (by omega)]; simp
    have : M.lens (M.pick [] (i :: row) rows) = (rows.getD i.toNat []).length + M.lens (M.pick [] row rows) := rfl
    rw [this, List.length_cons, Nat.mul_add]
    omega
theorem M.parts_small (ll : List (List M.D)) : ∀ l, ∀ r ∈ M.parts ll l, r.length ≤ l.length := by
  induction ll with
  | nil => intro l r hr; cases hr
  | cons t ll ih =>
    intro l r hr
    simp only [M.parts, List.mem_cons] at hr
    rcases hr with rfl | hr
    · rw [List.length_take]; omega
    · have := ih _ r hr
      rw [List.length_drop] at this
      omega

theorem Slot2.bel2 {w w' : World} {b : Nat} {x y : Value} (h : Slot2 w b x y) (hb : Below w.heap.size w w') : Slot2 w' b x y := h.of (hb.block b h.lt)
/-- What is answered: two lists in rows of the call's own, apart. -/
structure TsAns (w w' : World) (v1 v2 : Value) (r1 r2 : List Int) : Prop where
  o1 : w'.ownsRow w.heap.size 3 1 v1 r1.length (nums r1)
  o2 : w'.ownsRow w.heap.size 3 1 v2 r2.length (nums r2)
  ap : ∀ k, v1.ownBlock = some k → v2.ownBlock ≠ some k
  bel : Below w.heap.size w w'

set_option maxHeartbeats 2000000 in
set_option maxRecDepth 100000 in
set_option linter.unusedSimpArgs false in
theorem iturnSeen_any (a : Option Addr) (b o c : Nat) (ll : List (List M.D)) (hl : ll.length ≤ 1048576) (hls : ∀ t ∈ ll, t.length ≤ 1048576) (s : Sn) (hs : s.Le 1048576) (hcap : s.l1.length ≤ s.c1) (ga : Option Addr) (gb go gc : Nat) (gs : List Int) (hgl : gs.length ≤ 1048576) (w : World) (h : DoSS w a b o ll) (sa : s.At w) (hG : IntS w ga gb go gs) :
    Calls Try.prog 11 #[.agg #[.slice a ll.length c], .agg #[.slice s.a1 s.l1.length s.c1, .slice s.a2 s.l2.length s.c2], .slice ga gs.length gc] w fun e w' => ∃ v1 v2, e = .returned (.tuple #[.agg #[v1, v2], .bool (M.turnSeen ll s.l1 s.l2 gs).isSome]) ∧ TsAns w w' v1 v2 ((M.turnSeen ll s.l1 s.l2 gs).getD ([], [])).1 ((M.turnSeen ll s.l1 s.l2 gs).getD ([], [])).2 := by
  have b3 := below3 w (.cells #[.slice a ll.length c] 25) (.cells #[.slice s.a1 s.l1.length s.c1, .slice s.a2 s.l2.length s.c2] 28) (.cells #[.slice none 0 0, .slice none 0 0] 28)
  have h1 := h.below b3 (Nat.le_refl _)
  have sa1 := sa.below b3 (Nat.le_refl _)
  have hG1 := hG.below b3 (Nat.le_refl _)
  have hX := ((Slot1.new w (.slice a ll.length c) 25).bl' (below1 _ (.cells #[.slice s.a1 s.l1.length s.c1, .slice s.a2 s.l2.length s.c2] 28))).bl' (below1 _ (.cells #[.slice none 0 0, .slice none 0 0] 28))
  have hY : Slot2 ((w.alloc (.cells #[.slice a ll.length c] 25)).alloc (.cells #[.slice s.a1 s.l1.length s.c1, .slice s.a2 s.l2.length s.c2] 28)) (w.heap.size + 1) (.slice s.a1 s.l1.length s.c1) (.slice s.a2 s.l2.length s.c2) := ⟨by have := heap_alloc_new (w.alloc (.cells #[.slice a ll.length c] 25)) (.cells #[.slice s.a1 s.l1.length s.c1, .slice s.a2 s.l2.length s.c2] 28); rwa [World.size_alloc] at this⟩
  have hZ : Slot2 (((w.alloc (.cells #[.slice a ll.length c] 25)).alloc (.cells #[.slice s.a1 s.l1.length s.c1, .slice s.a2 s.l2.length s.c2] 28)).alloc (.cells #[.slice none 0 0, .slice none 0 0] 28)) (w.heap.size + 1 + 1) (.slice none 0 0) (.slice none 0 0) := ⟨by have := heap_alloc_new ((w.alloc (.cells #[.slice a ll.length c] 25)).alloc (.cells #[.slice s.a1 s.l1.length s.c1, .slice s.a2 s.l2.length s.c2] 28)) (.cells #[.slice none 0 0, .slice none 0 0] 28); rwa [World.size_alloc, World.size_alloc] at this⟩
  have hY' := hY.bel2 (below1 _ (.cells #[.slice none 0 0, .slice none 0 0] 28))
  go_enter Try.func11, Try.ntmps11
  go_wp2_with fail
  generalize ((w.alloc (.cells #[.slice a ll.length c] 25)).alloc (.cells #[.slice s.a1 s.l1.length s.c1, .slice s.a2 s.l2.length s.c2] 28)).alloc (.cells #[.slice none 0 0, .slice none 0 0] 28) = W at *
  clear hY
  have CP := iseenOk_any a b o c ll s W hl hls hs h1 sa1
  obtain ⟨hs1, hs2⟩ := hs
  cases hp : M.seenOk ll s.l1 s.l2
  · rw [hp] at CP
    have hno := M.turnSeen_bad (row := gs) hp
    refine CP.mono ?_
    rintro e W1 ⟨rfl, b1⟩
    have hZ1 := hZ.bel2 b1
    have z0 := hZ1.c0
    have z1 := hZ1.c1
    have zf := hZ1.fz
    have lz := hZ1.lt
    have bw1 := b3.trans (b1.mono b3.size)
    go_wp2_with fail
    have q1 := (hZ1.set0 (.slice none 0 0)).set1 (.slice none 0 0)
    have q0 := q1.c0
    have q2 := q1.c1
    exact bodyPost_ret (v := .tuple #[.agg #[.slice none 0 0, .slice none 0 0], .bool false]) (by simp [results, Try.results11, go_sem, q0, q2]) rfl ⟨_, _, by rw [hno]; rfl, by rw [hno]; exact ⟨World.ownsRow_nil _ _ _ _, World.ownsRow_nil _ _ _ _, fun k hk => by simp [Value.ownBlock] at hk, (bw1.setCell (by show w.heap.size ≤ w.heap.size + 1 + 1; omega) _).setCell (by show w.heap.size ≤ w.heap.size + 1 + 1; omega) _⟩⟩
  · rw [hp] at CP
    obtain ⟨hpg, hl1, hl2⟩ := M.seenOk_len hp
    obtain ⟨h3, h7⟩ := M.prog_le hpg
    have hlt6 : M.tot M.reads ll ≤ 21 := by
      have key : ∀ l : List (List M.D), (∀ t ∈ l, t.length ≤ 7) → M.tot M.reads l ≤ 7 * l.length := fun l => by
        induction l with
        | nil => intro _; simp [M.tot]
        | cons t l ih => intro ht; have := ih (fun x hx => ht x (List.mem_cons_of_mem _ hx)); have := ht t (by simp); have := M.cnt_le M.reads t; simp only [M.tot, List.length_cons]; omega
      have := key ll h7
      omega
    obtain ⟨rows, hrows⟩ : ∃ rows, M.turned [] gs (M.parts ll s.l1) = rows := ⟨_, rfl⟩
    obtain ⟨ok, hok⟩ : ∃ ok, M.rowN gs ll.length = ok := ⟨_, rfl⟩
    have hpl := M.parts_len ll s.l1
    have hrow : M.rowN gs (M.parts ll s.l1).length = ok := by rw [hpl]; exact hok
    have E1 : Hid ((M.turnSeen ll s.l1 s.l2 gs).isSome = ok ∧ (ok = true → ((M.turnSeen ll s.l1 s.l2 gs).getD ([], [])) = (rows.flatten, s.l2)) ∧ (ok = false → M.turnSeen ll s.l1 s.l2 gs = none)) := by
      cases ok
      · rw [M.turnSeen_row hok]; exact ⟨rfl, fun h => by (cases h), fun _ => rfl⟩
      · rw [M.turnSeen_yes hp hok]; exact ⟨rfl, fun _ => by rw [← hrows, M.turned_yes hrow]; rfl, fun h => by cases h⟩
    have hlens : M.lens rows ≤ 1000 := by
      rw [← hrows]
      cases ok
      · rw [M.turned_no hrow]; simp [M.lens]
      · rw [M.turned_yes hrow]
        have h1 := M.lens_pick gs s.l1.length (M.parts ll s.l1) (M.parts_small ll s.l1)
        have h2 := M.rowN_len hok
        have h4 : s.l1.length * gs.length ≤ 21 * 3 := Nat.mul_le_mul (by omega) (by omega)
        omega
    have hrl : rows.length ≤ 3 := by
      rw [← hrows]
      cases ok
      · rw [M.turned_no hrow]; simp
      · rw [M.turned_yes hrow, M.pick_len, M.rowN_len hok]; exact h3
    have CT := fun A B C D W x y => turnS_any ga gb go gc gs A B C D (M.parts ll s.l1) W hgl (by rw [hpl]; omega) x y
    rw [hrows, hrow] at CT
    have CR := fun W x y => readsBy_any a b o c ll s.a1 s.b1 s.o1 s.c1 s.l1 W h3 h7 hl1 hcap x y
    have HL1 : Hid (s.l1.length = M.tot M.reads ll) := hl1
    have HL2 : Hid (s.l2.length = 3) := hl2
    clear hp hrows hok hrow hpl hl1 hl2
    generalize M.parts ll s.l1 = pt at *
    refine CP.mono ?_
    rintro e W1 ⟨rfl, b1⟩
    have h1' := h1.below b1 (Nat.le_refl _)
    have hG1' := hG1.below b1 (Nat.le_refl _)
    have sa1' := sa1.below b1 (Nat.le_refl _)
    have hX1 := hX.bl' b1
    have hY1 := hY'.bel2 b1
    have hZ1 := hZ.bel2 b1
    have bw1 := b3.trans (b1.mono b3.size)
    have x0 := hX1.c
    have y0 := hY1.c0
    clear CP h1 hG1 sa1 hX hY' hZ b1 b3
    go_wp2_with fail
    refine (CR W1 h1' sa1'.reads).mono ?_
    rintro e W2 ⟨v2, rfl, ⟨a2, ⟨c2, rfl⟩, g2, hs2'⟩, b2⟩
    go_wp2_with fail
    refine (CT a2 g2 0 c2 W2 (hG1'.below b2 (Nat.le_refl _)) hs2').mono ?_
    rintro e W3 ⟨v3, rfl, ⟨a3, ⟨c3, rfl⟩, g3, hs3⟩, b3⟩
    have b13 := b2.trans (b3.mono b2.size)
    have hY3 := hY1.bel2 b13
    have hZ3 := hZ1.bel2 b13
    have bw3 := bw1.trans (b13.mono bw1.size)
    have hL3 := sa1'.last.below b13 (Nat.le_refl _)
    have lY1 := hY1.lt
    have lZ1 := hZ1.lt
    have hs13 := b13.size
    clear x0 y0 CR CT
    cases ok
    · obtain ⟨e1, _, e3⟩ := E1.out
      have z0 := hZ3.c0
      have z1 := hZ3.c1
      have zf := hZ3.fz
      have lz := hZ3.lt
      have hno := e3 (by first | rfl | trivial)
      clear e1 e3 E1
      go_wp2_with fail
      have q1 := (hZ3.set0 (.slice none 0 0)).set1 (.slice none 0 0)
      have q0 := q1.c0
      have q2 := q1.c1
      exact bodyPost_ret (v := .tuple #[.agg #[.slice none 0 0, .slice none 0 0], .bool false]) (by simp [results, Try.results11, go_sem, q0, q2]) rfl ⟨_, _, by rw [hno]; rfl, by rw [hno]; exact ⟨World.ownsRow_nil _ _ _ _, World.ownsRow_nil _ _ _ _, fun k hk => by simp [Value.ownBlock] at hk, (bw3.setCell (by show w.heap.size ≤ w.heap.size + 1 + 1; omega) _).setCell (by show w.heap.size ≤ w.heap.size + 1 + 1; omega) _⟩⟩
    · have y1 := hY3.c1
      go_wp2_with fail
      refine wp_region_held_drew (S := fun w' => w'.cell? ⟨w.heap.size + 1, 1, none⟩ = some (.slice s.a2 s.l2.length s.c2)) (by kernel_rfl) (by exact y1) (fun hH => ?_)
      refine takeD 0 (some 27) (.slice a3 rows.length c3) hH rfl rfl (by kernel_rfl) (by kernel_rfl) (by kernel_rfl) (fun _ _ _ h => h) (Or.inl ⟨by rfl, by intro w' hSw; go_simp⟩) ?_
      simp only [Act.put, List.setIfInBounds_toArray, List.set_cons_zero, List.set_cons_succ]
      refine takeD 2 (some 29) (.pointer (some ⟨w.heap.size + 1, 1, none⟩)) hH rfl rfl (by kernel_rfl) (by kernel_rfl) (by kernel_rfl) (fun _ _ _ h => h) (Or.inl ⟨by rfl, by intro w' hSw; go_simp⟩) ?_
      simp only [Act.put, List.setIfInBounds_toArray, List.set_cons_zero, List.set_cons_succ]
      refine takeD 3 (some 30) (.slice s.a2 s.l2.length s.c2) hH rfl rfl (by kernel_rfl) (by kernel_rfl) (by kernel_rfl) (fun _ _ _ h => h) (Or.inl ⟨by rfl, by intro w' hSw; have hc := hSw; go_simp⟩) ?_
      simp only [Act.put, List.setIfInBounds_toArray, List.set_cons_zero, List.set_cons_succ]
      refine wpAnyH_ready (rs := [1]) (by kernel_rfl) (by simp) ?_
      refine AllReadyH.cons rfl (fun K' hK => ?_) AllReadyH.nil
      refine step_goV (by rfl) (some 28) rfl 46 #[.tmp 27] _ rfl #[.slice a3 rows.length c3] (by simp [Act.eval]) (fun _ _ => rfl) (concatI_any a3 g3 0 c3 rows W3.drew (by omega) hlens (hs3.below (Below.refl _ _).drew (Nat.le_refl _))) ?_
      rintro e r1 ⟨v1, rfl, ho1, bb1⟩
      have b1r : Below W3.heap.size W3 r1 := (Below.refl _ _).drew.trans bb1
      have hY1 := hY3.bel2 b1r
      have hZ1 := hZ3.bel2 b1r
      refine ⟨_, rfl, ?_⟩
      simp only [Act.put, List.setIfInBounds_toArray, List.set_cons_zero, List.set_cons_succ]
      refine hK.out _ _ hY1.c1 (fun hH1 => ?_)
      clear hK K'
      refine wpAnyH_ready (rs := [4]) (by kernel_rfl) (by simp) ?_
      refine AllReadyH.cons rfl (fun K' hK => ?_) AllReadyH.nil
      refine step_goV (by rfl) (some 31) rfl 47 #[.tmp 30] _ rfl #[.slice s.a2 s.l2.length s.c2] (by simp [Act.eval]) (fun _ _ => rfl) (newListO_any s.a2 s.b2 s.o2 s.c2 s.l2 r1 (by omega) (hL3.below b1r (Nat.le_refl _))) ?_
      rintro e r2 ⟨v2, rfl, ho2, bb2⟩
      have hZ2 := hZ1.bel2 bb2
      have hY2 := hY1.bel2 bb2
      have ho1' := ownsRow_below ho1 bb2
      have hap : ∀ k, v1.ownBlock = some k → v2.ownBlock ≠ some k := fun k h1 h2 => by
        have e1 := (ho1.lt k h1).2
        have e2 := (ho2.lt k h2).1
        omega
      have b2r := b1r.trans (bb2.mono b1r.size)
      obtain ⟨xa, xc, rfl⟩ := own_slx ho1'
      obtain ⟨ya, yc, rfl⟩ := own_slx ho2
      refine ⟨_, rfl, ?_⟩
      simp only [Act.put, List.setIfInBounds_toArray, List.set_cons_zero, List.set_cons_succ]
      refine hK.out _ _ hY2.c1 (fun hH2 => ?_)
      clear hK K'
      refine takeD 5 (some 32) (.agg #[.slice xa (M.lens rows) xc, .slice ya s.l2.length yc]) hH2 rfl rfl (by kernel_rfl) (by kernel_rfl) (by kernel_rfl) (fun _ _ _ h => h) (Or.inl ⟨by rfl, by intro w' hSw; go_simp⟩) ?_
      simp only [Act.put, List.setIfInBounds_toArray, List.set_cons_zero, List.set_cons_succ]
      refine wpAnyH_ready (rs := [6]) (by kernel_rfl) (by simp) ?_
      refine AllReadyH.cons rfl (fun K' hK => ?_) AllReadyH.nil
      have z0 := hZ2.c0
      have z1 := hZ2.c1
      have zf := hZ2.fz
      have lz := hZ2.lt
      rw [if_pos (by rfl)]
      go_simp
      refine hK.out _ _ ((hY2.far (by omega) _).far (by omega) _).c1 (fun hH3 => ?_)
      clear hK K'
      refine takeD 7 (some 7) (.bool true) hH3 rfl rfl (by kernel_rfl) (by kernel_rfl) (by kernel_rfl) (fun _ _ _ h => h) (Or.inl ⟨by rfl, by intro w' hSw; go_simp⟩) ?_
      simp only [Act.put, List.setIfInBounds_toArray, List.set_cons_zero, List.set_cons_succ]
      refine wpAnyH_done (by kernel_rfl) ?_ _
      clear z0 z1 zf
      go_wp2_with fail
      have q1 := (hZ2.set0 (.slice xa (M.lens rows) xc)).set1 (.slice ya s.l2.length yc)
      have q0 := q1.c0
      have q2 := q1.c1
      obtain ⟨e1, e2, _⟩ := E1.out
      have e2 := e2 (by first | rfl | trivial)
      have bF := ((bw3.trans (b2r.mono bw3.size)).setCell (p := ⟨w.heap.size + 1 + 1, 0, none⟩) (by show w.heap.size ≤ w.heap.size + 1 + 1; omega) (.slice xa (M.lens rows) xc)).setCell (p := ⟨w.heap.size + 1 + 1, 1, none⟩) (by show w.heap.size ≤ w.heap.size + 1 + 1; omega) (.slice ya s.l2.length yc)
      have f1 := (ownsRow_far (ownsRow_far ho1' (b := w.heap.size + 1 + 1) (i := 0) (by show _ < W3.heap.size; omega) (.slice xa (M.lens rows) xc)) (b := w.heap.size + 1 + 1) (i := 1) (by show _ < W3.heap.size; omega) (.slice ya s.l2.length yc))
      have f2 := (ownsRow_far (ownsRow_far ho2 (b := w.heap.size + 1 + 1) (i := 0) (by have := b1r.size; omega) (.slice xa (M.lens rows) xc)) (b := w.heap.size + 1 + 1) (i := 1) (by have := b1r.size; omega) (.slice ya s.l2.length yc))
      have hbw3 := bw3.size
      exact bodyPost_ret (v := .tuple #[.agg #[.slice xa (M.lens rows) xc, .slice ya s.l2.length yc], .bool true]) (by simp [results, Try.results11, go_sem, q0, q2]) rfl ⟨_, _, by rw [e1], by rw [e2]; exact ⟨by rw [M.lens_flat]; exact ownsRow_mono f1 (by show w.heap.size ≤ W3.heap.size; omega), ownsRow_mono f2 (by have := b1r.size; omega), hap, bF⟩⟩

end Go.Proofs.Ytnaljfnijcoheaa
