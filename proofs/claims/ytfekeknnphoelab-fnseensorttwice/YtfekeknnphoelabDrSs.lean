/- spec.DrawSeenSort: what was seen, drawn several times. Of codes of at most 1048576 bytes. -/
import Derived.Test.YtfekeknnphoelabSoIn
import Derived.Test.YtfekeknnphoelabDrSl
import Derived.Test.YtfekeknnphoelabRowMore
namespace Go.Proofs.Ytfekeknnphoelab
open Go.RowKit

theorem flatS_append (l m : List Sn) : flatS (l ++ m) = flatS l ++ flatS m := by
  induction l with
  | nil => rfl
  | cons s l ih => simp [flatS, ih]

/-- What stands through the rounds: the reader, the box of the program, the program, the row. -/
structure RowSt (w1 W : World) (B rb P B' p g cap : Nat) (v : Value) (ll : List (List M.D)) (vs : List Value) (ss : List Sn) : Prop where
  r : Rdr W B rb p
  b : But rb w1 W
  box : Slot1 W P v
  bd : Build W B' v ll vs
  own : W.ownsRow w1.heap.size 30 2 (.slice (some ⟨g, 0, none⟩) ss.length cap) ss.length (flatS ss)
  off : ∀ s ∈ ss, Off W g s
  hi : ∀ s ∈ ss, rb < s.b1 ∧ rb < s.b2
  lt : g < W.heap.size
  ne : g ≠ P
theorem RowSt.but {w1 W W' : World} {B rb P B' p p' g cap : Nat} {v : Value} {ll : List (List M.D)} {vs : List Value} {ss : List Sn} (h : RowSt w1 W B rb P B' p g cap v ll vs ss) (hr : Rdr W' B rb p') (hb : But rb W W') (hrb : rb < w1.heap.size) (hrB : rb < B') (hP : rb ≠ P) : RowSt w1 W' B rb P B' p' g cap v ll vs ss :=
  ⟨hr, h.b.trans hb, h.box.but hb (fun e => hP e.symm), h.bd.but hb hrB, ownsRow_but h.own hb hrb, fun s hs => ⟨⟨(h.off s hs).at_.reads.offB hb (fun _ => by have := (h.hi s hs).1; omega), (h.off s hs).at_.last.offB hb (fun _ => by have := (h.hi s hs).2; omega)⟩, (h.off s hs).le, (h.off s hs).n1, (h.off s hs).n2⟩, h.hi, Nat.lt_of_lt_of_le h.lt hb.size, h.ne⟩
theorem Off.kept {W W' : World} {g g' : Nat} {s : Sn} (h : Off W g s) (hg : W.grownBy W' (some g)) (hat : g = g' ∨ W.heap.size ≤ g') : Off W' g' s := by
  refine ⟨h.at_.kept hg (fun hl e => h.n1 hl (by simpa using e)) (fun hl e => h.n2 hl (by simpa using e)), h.le, fun hl => ?_, fun hl => ?_⟩
  · rcases hat with rfl | hat
    · exact h.n1 hl
    · have := h.at_.reads.lt hl; omega
  · rcases hat with rfl | hat
    · exact h.n2 hl
    · have := h.at_.last.lt hl; omega
theorem Off.but' {W W' : World} {g rb : Nat} {s : Sn} (h : Off W g s) (hb : But rb W W') (h1 : s.b1 ≠ rb) (h2 : s.b2 ≠ rb) : Off W' g s :=
  ⟨⟨h.at_.reads.offB hb (fun _ => h1), h.at_.last.offB hb (fun _ => h2)⟩, h.le, h.n1, h.n2⟩
/-- One more in the row. -/
theorem RowSt.snoc {w1 W W' : World} {B rb P B' p g cap g' cap' : Nat} {v : Value} {ll : List (List M.D)} {vs : List Value} {ss : List Sn} {s : Sn} (h : RowSt w1 W B rb P B' p g cap v ll vs ss) (hrb : rb < w1.heap.size) (hB : B ≤ rb) (hs : Off W g s) (hsi : rb < s.b1 ∧ rb < s.b2)
    (ho : W'.ownsRow w1.heap.size 30 2 (.slice (some ⟨g', 0, none⟩) (ss.length + 1) cap') (ss.length + 1) (flatS ss ++ [.slice s.a1 s.l1.length s.c1, .slice s.a2 s.l2.length s.c2])) (hg : W.grownBy W' (some g)) (hat : g = g' ∨ W.heap.size ≤ g') (hlt : g' < W'.heap.size) : RowSt w1 W' B rb P B' p g' cap' v ll vs (ss ++ [s]) := by
  have hge := own_ge h.own g rfl
  have hPl := h.box.lt
  refine ⟨h.r.grown hg (fun k hk => by simp at hk; omega), h.b.grown hg (fun k hk => by simp at hk; omega), h.box.apart hg (fun e => h.ne (by simpa using e)), ?_, ?_, fun x hx => ?_, fun x hx => ?_, hlt, ?_⟩
  · exact ⟨h.bd.outer.kept hg (own_apart h.bd.outer h.own (by decide)), h.bd.len, fun i h1 h2 => (h.bd.inner i h1 h2).kept hg (own_apart (h.bd.inner i h1 h2) h.own (by decide))⟩
  · rw [List.length_append, flatS_append]; exact ho
  · rcases List.mem_append.1 hx with hx | hx
    · exact (h.off x hx).kept hg hat
    · simp at hx; subst hx; exact hs.kept hg hat
  · rcases List.mem_append.1 hx with hx | hx
    · exact h.hi x hx
    · simp at hx; subst hx; exact hsi
  · rcases hat with rfl | hat
    · exact h.ne
    · omega
theorem RowSt.alloc {w1 W : World} {B rb P B' p g cap : Nat} {v : Value} {ll : List (List M.D)} {vs : List Value} {ss : List Sn} (h : RowSt w1 W B rb P B' p g cap v ll vs ss) (hrb : rb < w1.heap.size) (hrB : rb < B') (hP : rb ≠ P) (o : Obj) : RowSt w1 (W.alloc o) B rb P B' p g cap v ll vs ss :=
  h.but (h.r.alloc o) ((But.refl rb W).alloc o) hrb hrB hP
theorem RowSt.sr {w1 W : World} {B rb P B' p g cap : Nat} {v : Value} {ll : List (List M.D)} {vs : List Value} {ss : List Sn} (h : RowSt w1 W B rb P B' p g cap v ll vs ss) : SR W g ss :=
  ⟨fun i hi => by
    obtain ⟨f1, f2⟩ := flatS_get ss i hi
    have e1 := h.own.cells (g := g) rfl _ _ f1
    have e2 := h.own.cells (g := g) rfl _ _ f2
    rw [Go.WideShapes.add_plain, Nat.zero_add] at e1 e2
    exact ⟨e1, e2⟩, fun j => own_fzS h.own j⟩

set_option maxHeartbeats 4000000 in
set_option maxRecDepth 100000 in
theorem DrawSeenSort_any (ca : Option Addr) (cb co L C : Nat) (x : Nat → Int) (w : World) (hL : L ≤ C) (had : 0 < L → ca = some ⟨cb, co, none⟩) (hc : ∀ i, i < L → w.cell? ⟨cb, co + i, none⟩ = some (.int .u8 (x i)) ∧ 0 ≤ x i ∧ x i ≤ 255) (hLb : L ≤ 1048576) :
    Calls Try.prog 8 #[.slice ca L C] w fun e w' => ∃ (g cap : Nat) (ss : List Sn), e = .returned (.slice (some ⟨g, 0, none⟩) ss.length cap) ∧ SR w' g ss ∧ (∀ s ∈ ss, Off w' g s) ∧ ss.length ≤ cap ∧ ss.length ≤ 12 ∧ g < w'.heap.size ∧ w.heap.size ≤ g ∧ (∀ s ∈ ss, w.heap.size ≤ s.b1 ∧ w.heap.size ≤ s.b2) ∧ Below w.heap.size w w' := by
  obtain ⟨i0, hi, hz0, hz1, hz2⟩ := info_parts Try.infoSeen
  go_enter Try.func8, Try.ntmps8
  go_wp2_with fail
  refine (l6Open_any ca cb co L C x _ hL had hc hLb).mono ?_
  rintro e w1 ⟨rfl, hr1, hb1⟩
  have hlt := hr1.lt
  obtain ⟨rb, hrb⟩ : ∃ rb, w.heap.size = rb := ⟨_, rfl⟩
  rw [hrb] at hr1 hlt ⊢
  clear had hc
  go_wp2_with fail
  refine (l71Prog_any rb rb 0 _ (by omega) hr1).mono ?_
  rintro e w2 ⟨ll, vs, v, rfl, hB2, hprog, _, _, p2, hp2, hr2, hb2⟩
  obtain ⟨h3, h7⟩ := M.prog_le hprog
  have hnr : M.nreads ll ≤ 21 := by rw [M.nreads_ok hprog]; have := M.tot_le M.reads h3 h7; omega
  obtain ⟨a, g0, c, rfl, _⟩ := hB2.ss
  have hlt2 := hr2.lt
  have hs12 := hb2.size
  clear hr1
  go_wp2_with fail
  have hst0 : RowSt w1 ((w2.alloc (.cells #[.slice a ll.length c] 40)).alloc (.cells #[] 30)) rb rb w2.heap.size (w1.heap.size + 1) p2 (w2.heap.size + 1) 0 (.slice a ll.length c) ll vs [] :=
    ⟨(hr2.alloc _).alloc _, (hb2.alloc _).alloc _, (Slot1.new w2 _ _).but ((But.refl rb _).alloc _) (by omega), (hB2.but ((But.refl rb _).alloc _) (by omega)).but ((But.refl rb _).alloc _) (by omega), by have := World.ownsRow_made (base := w1.heap.size) (e := 30) (size := 2) (w2.alloc (.cells #[.slice a ll.length c] 40)) #[] 0 (by simp; omega) (Nat.zero_le _) rfl; simp only [World.size_alloc] at this; exact this, fun s hs => absurd hs (by simp), fun s hs => absurd hs (by simp), by simp, by omega⟩
  generalize (w2.alloc (.cells #[.slice a ll.length c] 40)).alloc (.cells #[] 30) = W0 at *
  generalize w2.heap.size = P at *
  refine (pick_rdr rb rb p2 _ _ (by omega) (by omega) (by omega) hst0.r).mono ?_
  rintro e w3 ⟨r3, rfl, r30, r31, hr3, hb3⟩
  obtain ⟨z0, rfl⟩ := Int.eq_ofNat_of_zero_le r30
  have hst1 := hst0.but hr3 hb3 (by omega) (by omega) (by omega)
  clear hst0 hr3 hb3 hr2 hb2 hB2
  go_wp2_with fail
  go_loopw [5, 6] (fun s5 s6 wr => ∃ (z p g cap : Nat) (ss : List Sn), s5 = .slice (some ⟨g, 0, none⟩) ss.length cap ∧ s6 = .int .i64 z ∧ ss.length + 2 * z ≤ 12 ∧ p + 40 * z ≤ 11000 ∧ RowSt w1 wr rb rb P (w1.heap.size + 1) p g cap (.slice a ll.length c) ll vs ss) (fun _ s6 _ => (intOf s6).toNat)
  case atStart => exact ⟨z0, p2 + 1, P + 1, 0, [], rfl, rfl, by simp; omega, by omega, hst1⟩
  case round =>
    obtain ⟨z, p, g, cap, ss, rfl, rfl, hz, hp, hst⟩ := hrel
    clear hst1
    by_cases hz0' : 0 < z
    · have hz' : (0 : Int) < z := by omega
      have bx := hst.box.c
      go_wp2_with fail
      obtain ⟨a', g', c', e', hss⟩ := hst.bd.ss
      simp only [Value.slice.injEq] at e'
      obtain ⟨rfl, _, rfl⟩ := e'
      refine (l71Seen_any rb rb p a g' 0 c ll _ (by omega) (by omega) (fun t ht => by have := h7 t ht; omega) hnr hst.r hss).mono ?_
      rintro e w4 ⟨s, rfl, hs4, sle, sb1, sb2, _, p4, hp4, hr4, hb4⟩
      have hst4 := hst.but hr4 hb4 (by omega) (by omega) (by omega)
      have hglt := hst.lt
      have hrlt := hst.r.lt
      have hos : Off w4 g s := ⟨hs4, sle.mono (by decide), fun _ => by omega, fun _ => by omega⟩
      have hsi : rb < s.b1 ∧ rb < s.b2 := by omega
      clear hst bx hss hr4 hb4
      go_wp2_with (at_builtin; refine wpList_append_lies _ rfl (.tmp 18) (.tmp 22) 23 rfl w1.heap.size 30 i0 _ 2 48 Try.underlying23 hi hz0 hz1 hz2 rfl (by decide) _ _ _ rfl (hst4.own.alloc _) ⟨w4.heap.size, 0, none⟩ 1 1 [.slice s.a1 s.l1.length s.c1, .slice s.a2 s.l2.length s.c2] rfl rfl (World.news_of_block (cs := #[.slice s.a1 s.l1.length s.c1, .slice s.a2 s.l2.length s.c2]) (t := 30) (fr := (0, 0)) (heap_alloc_new w4 _)) (by simp [Value.oneCell']) (by omega) (by unfold maxLen; omega) (by omega) (by simp; have := hst4.b.size; omega) (w4.heap.size + 1) (by simp) ?_)
      intro g5 cap5 w5 hown5 hg5 hat5 hlt5
      have hal := hst4.alloc (by omega) (by omega) (by omega) (.cells #[.slice s.a1 s.l1.length s.c1, .slice s.a2 s.l2.length s.c2] 30)
      have hst5 := hal.snoc (by omega) (Nat.le_refl _) (hos.but' ((But.refl rb w4).alloc _) (by omega) (by omega)) hsi hown5 hg5 (by
        rcases hat5 with e | e
        · left; simpa [Value.ownBlock] using e
        · right; simp; omega) hlt5
      clear hst4 hal hown5 hg5 hat5 hlt5 hos hs4
      go_wp2_with fail
      refine (pick_rdr rb rb p4 _ _ (by omega) (by omega) (by omega) hst5.r).mono ?_
      rintro e w6 ⟨r6, rfl, r60, r61, hr6, hb6⟩
      have hst6 := hst5.but hr6 hb6 (by omega) (by omega) (by omega)
      clear hst5 hr6 hb6
      obtain ⟨tt, htt⟩ : ∃ tt, ss ++ [s] = tt := ⟨_, rfl⟩
      have htl : ss.length + 1 = tt.length := by rw [← htt]; simp
      rw [htt] at hst6
      rw [htl]
      have htb : tt.length + 2 * z ≤ 13 := by omega
      have htp : 0 < tt.length := by omega
      clear htt htl hsi hz
      by_cases h0 : r6 = 0
      · subst h0
        go_wp2_with fail
        refine (pick_rdr rb rb (p4 + 1) _ _ (by omega) (by omega) (by omega) hst6.r).mono ?_
        rintro e w7 ⟨r7, rfl, r70, r71, hr7, hb7⟩
        obtain ⟨q, rfl⟩ := Int.eq_ofNat_of_zero_le r70
        have hq : q < tt.length := by omega
        have hst7 := hst6.but hr7 hb7 (by omega) (by omega) (by omega)
        clear hst6 hr7 hb7
        obtain ⟨c1, c2⟩ := hst7.sr.c q hq
        have hoq := hst7.off _ (List.getElem_mem hq)
        have hiq := hst7.hi _ (List.getElem_mem hq)
        generalize tt[q] = u at c1 c2 hoq hiq
        go_wp2_with (at_builtin; refine wpList_append_lies _ rfl (.tmp 27) (.tmp 35) 23 rfl w1.heap.size 30 i0 _ 2 48 Try.underlying23 hi hz0 hz1 hz2 rfl (by decide) _ _ _ rfl (hst7.own.alloc _) ⟨w7.heap.size, 0, none⟩ 1 1 [.slice u.a1 u.l1.length u.c1, .slice u.a2 u.l2.length u.c2] rfl rfl (World.news_of_block (cs := #[.slice u.a1 u.l1.length u.c1, .slice u.a2 u.l2.length u.c2]) (t := 30) (fr := (0, 0)) (heap_alloc_new w7 _)) (by simp [Value.oneCell']) (by omega) (by unfold maxLen; omega) (by omega) (by simp; have := hst7.b.size; omega) (w7.heap.size + 1) (by simp) ?_)
        intro g8 cap8 w8 hown8 hg8 hat8 hlt8
        have hal := hst7.alloc (by omega) (by omega) (by omega) (.cells #[.slice u.a1 u.l1.length u.c1, .slice u.a2 u.l2.length u.c2] 30)
        have hst8 := hal.snoc (by omega) (Nat.le_refl _) (hoq.but' ((But.refl rb w7).alloc _) (by omega) (by omega)) hiq hown8 hg8 (by
          rcases hat8 with e | e
          · left; simpa [Value.ownBlock] using e
          · right; simp; omega) hlt8
        clear hst7 hal hown8 hg8 hat8 hlt8 hoq c1 c2
        go_wp2_with fail
        exact ⟨⟨z - 1, p4 + 1 + 1, g8, cap8, tt ++ [u], by simp, by rw [show ((z - 1 : Nat) : Int) = (z : Int) - 1 by omega], by simp; omega, by omega, hst8⟩, by simp [intOf]; omega⟩
      · have h0' : (r6 == 0) = false := by simpa using h0
        go_wp2_with fail
        exact ⟨⟨z - 1, p4 + 1, g5, cap5, tt, rfl, by rw [show ((z - 1 : Nat) : Int) = (z : Int) - 1 by omega], by omega, by omega, hst6⟩, by simp [intOf]; omega⟩
    · have hz' : ¬ (0 : Int) < z := by omega
      go_wp2_with fail
      go_ret
      exact ⟨g, cap, ss, rfl, hst.sr, hst.off, own_capP hst.own, by omega, hst.lt, by have := own_ge hst.own g rfl; omega, fun s hs => by have := hst.hi s hs; omega, by rw [← hrb]; exact But.below hb1 hst.b (by omega)⟩

end Go.Proofs.Ytfekeknnphoelab
