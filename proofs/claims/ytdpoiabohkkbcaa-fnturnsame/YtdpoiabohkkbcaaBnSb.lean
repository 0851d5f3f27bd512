/- impl.changeSteps: a program in rows of its own, each step changed by a closure that is met by its contract. Of at most 3 threads of at most 7 steps. The closures of impl.TurnPlaces and impl.TurnVals: a step with another place, or value. Of steps whose place, or value, is a number of the row. impl.TurnPlaces. Of at most 1048576 threads, steps of a thread and numbers. impl.TurnVals. Of at most 1048576 threads, steps of a thread and numbers. impl.TurnThreads. Of at most 1048576 threads, steps of a thread and numbers. -/
import Derived.Test.YtdpoiabohkkbcaaBnSa
import Derived.Test.YtdpoiabohkkbcaaLeaf
import Derived.Test.YtdpoiabohkkbcaaWide

namespace Go.Proofs.Ytdpoiabohkkbcaa
open Go.RowKit

theorem Rdg.step {w w' : World} {B n k g m cap : Nat} {v : Value} {f : M.D → M.D} {ll : List (List M.D)} {vs : List Value} (h : Rdg w B v (M.cur f n k ll) vs) (hn : n < ll.length) (hk : k < ll[n].length) (hv : n < vs.length) (he : vs[n] = .slice (some ⟨g, 0, none⟩) m cap) (hc : Chg w w' g (k * 3) ll[n][k] (f ll[n][k])) :
    Rdg w' B v (M.cur f n (k + 1) ll) vs ∧ w.grownBy w' (some g) ∧ B ≤ g := by
  have hn' : n < (M.cur f n k ll).length := by rw [M.cur_len]; exact hn
  have e := M.cur_get f n k ll hn hn'
  have hk' : k < ((M.cur f n k ll)[n]'hn').length := by rw [e, M.curT_len]; exact hk
  have e2 : ((M.cur f n k ll)[n]'hn')[k]'hk' = ll[n][k] := by
    have key : ∀ (l : List M.D) (h : k < l.length), l = M.curT f k ll[n] → l[k] = ll[n][k] := by
      intro l h e; subst e; exact M.curT_get f k ll[n] hk h
    exact key _ hk' e
  have r := h.chg hn' hv he hk' (by rw [e2]; exact hc)
  rw [e, M.cur_set f n k ll hn hk] at r
  exact r
theorem Rdg.cur_at {w : World} {B n k : Nat} {v : Value} {f : M.D → M.D} {ll : List (List M.D)} {vs : List Value} (h : Rdg w B v (M.cur f n k ll) vs) (hn : n < ll.length) (hv : n < vs.length) :
    ∃ a' c', vs[n] = .slice a' ll[n].length c' ∧ ∀ hk : k < ll[n].length, ∃ g, a' = some ⟨g, 0, none⟩ ∧ B ≤ g ∧ DoAt w g (k * 3) ll[n][k] ∧ ∀ i, w.frozen? ⟨g, i, none⟩ = false := by
  have hn' : n < (M.cur f n k ll).length := by rw [M.cur_len]; exact hn
  have e := M.cur_get f n k ll hn hn'
  obtain ⟨a', c', e1, h1⟩ := h.inner_at hn' hv
  rw [e, M.curT_len] at e1 h1
  refine ⟨a', c', e1, fun hk => ?_⟩
  obtain ⟨g, rfl, hB, hr, hf⟩ := h1 (by omega)
  have := hr k (by rw [M.curT_len]; exact hk)
  rw [Nat.zero_add, M.curT_get f k _ hk] at this
  exact ⟨g, rfl, hB, this, hf⟩

set_option maxHeartbeats 2000000 in
set_option maxRecDepth 10000 in
theorem changeP_any (a : Option Addr) (b o c : Nat) (ll : List (List M.D)) (cap : Nat) (f : M.D → M.D) (w : World) (h3 : ll.length ≤ 3) (h7 : ∀ t ∈ ll, t.length ≤ 7) (h : DoSS w a b o ll)
    (hcl : ∀ (W : World) (g off : Nat) (d : M.D), Below w.heap.size w W → w.heap.size ≤ g → (∃ t ∈ ll, d ∈ t) → DoAt W g off d → (∀ i, W.frozen? ⟨g, i, none⟩ = false) → Calls Try.prog 48 #[.pointer (some ⟨g, off, none⟩), .pointer (some ⟨cap, 0, none⟩)] W fun e w' => e = .returned (.tuple #[]) ∧ Chg W w' g off d (f d)) :
    Calls Try.prog 33 #[.agg #[.slice a ll.length c], .func (.func 48) #[] #[.pointer (some ⟨cap, 0, none⟩)]] w fun e w' => ∃ v, e = .returned (.agg #[v]) ∧ (∃ vs, Rdg w' w.heap.size v (M.mapS f ll) vs) ∧ Below w.heap.size w w' := by
  have b2 := below2 w (.cells #[.slice a ll.length c] 25) (.cells #[.slice none 0 0] 25)
  have h2 := h.below b2 (Nat.le_refl _)
  have hY := Slot1.new (w.alloc (.cells #[.slice a ll.length c] 25)) (.slice none 0 0) 25
  rw [World.size_alloc] at hY
  have hsz : ((w.alloc (.cells #[.slice a ll.length c] 25)).alloc (.cells #[.slice none 0 0] 25)).heap.size = w.heap.size + 2 := by simp
  go_enter Try.func33, Try.ntmps33
  go_wp2_with fail
  generalize (w.alloc (.cells #[.slice a ll.length c] 25)).alloc (.cells #[.slice none 0 0] 25) = W at *
  refine (copyProg_any a b o c ll W (by omega) (fun t ht => by have := h7 t ht; omega) h2).mono ?_
  rintro e W1 ⟨v1, rfl, ⟨vs, hR1⟩, b1⟩
  obtain ⟨av, gv0, cv, rfl, _⟩ := hR1.b.ss
  have HV : ∀ i (hi : i < vs.length) k, vs[i].ownBlock = some k → k < W1.heap.size := fun i hi k hk => ((hR1.b.inner i (by have := hR1.b.len; omega) hi).lt k hk).2
  have bA := below1 W1 (.cells #[.slice av ll.length cv] 25)
  have hRA := (hR1.below bA).mono (show w.heap.size + 2 ≤ W.heap.size by omega)
  have bw1 := b2.trans (b1.mono b2.size)
  have bwA := bw1.trans (bA.mono bw1.size)
  have hYA := (hY.bl' b1).bl' bA
  have hC := Slot1.new W1 (.slice av ll.length cv) 25
  have hb1s : w.heap.size + 2 ≤ W1.heap.size := by have := b1.size; omega
  clear hR1 hY h2 b1 b2 bw1 hsz
  go_wp2_with fail
  generalize W1.alloc (.cells #[.slice av ll.length cv] 25) = WA at *
  generalize W1.heap.size = C at *
  have hlenA : (M.cur f 0 0 ll).length = ll.length := M.cur_len _ _ _ _
  go_loopw [14] (fun s14 wr => ∃ n : Nat, s14 = .int .i64 n ∧ n ≤ ll.length ∧ Rdg wr (w.heap.size + 2) (.slice av ll.length cv) (M.cur f n 0 ll) vs ∧ Slot1 wr C (.slice av ll.length cv) ∧ Slot1 wr (w.heap.size + 1) (.slice none 0 0) ∧ Below w.heap.size w wr) (fun s14 _ => ll.length - (intOf s14).toNat)
  case atStart => exact ⟨0, rfl, Nat.zero_le _, by rw [M.cur_zero]; exact hRA, hC, hYA, bwA⟩
  case round =>
    obtain ⟨n, rfl, hn, hR, hP, hQ, hbel⟩ := hrel
    clear hRA hC hYA bwA hlenA
    by_cases hlt : n < ll.length
    · have hR' := hR
      rw [← M.cur_len f n 0 ll] at hR'
      obtain ⟨gv, rfl, hv, hc⟩ := hR'.outer_at (n := n) (by rw [M.cur_len]; exact hlt)
      obtain ⟨a', c', e1, hin⟩ := hR.cur_at hlt hv
      rw [e1] at hc
      have ht7 := h7 _ (List.getElem_mem hlt)
      have i1 : (n : Int) < ll.length := by omega
      have HT : Hid (∀ k (hk : k < ll[n].length), ∃ t ∈ ll, ll[n][k] ∈ t) := fun k hk => ⟨ll[n], List.getElem_mem hlt, List.getElem_mem hk⟩
      have HS : Hid (∀ (k g : Nat) (W W' : World) (hk : k < ll[n].length), a' = some ⟨g, 0, none⟩ → Rdg W (w.heap.size + 2) (.slice (some ⟨gv, 0, none⟩) ll.length cv) (M.cur f n k ll) vs → Chg W W' g (k * 3) ll[n][k] (f ll[n][k]) → Rdg W' (w.heap.size + 2) (.slice (some ⟨gv, 0, none⟩) ll.length cv) (M.cur f n (k + 1) ll) vs ∧ W.grownBy W' (some g) ∧ w.heap.size + 2 ≤ g ∧ g < C) := by
        intro k g W W' hk ha hr hch
        subst ha
        have r := hr.step hlt hk hv e1 hch
        exact ⟨r.1, r.2.1, r.2.2, HV n hv g (by rw [e1]; rfl)⟩
      have HA : Hid (∀ (k : Nat) (W : World), Rdg W (w.heap.size + 2) (.slice (some ⟨gv, 0, none⟩) ll.length cv) (M.cur f n k ll) vs → ∀ hk : k < ll[n].length, ∃ g, a' = some ⟨g, 0, none⟩ ∧ w.heap.size + 2 ≤ g ∧ DoAt W g (k * 3) ll[n][k] ∧ ∀ i, W.frozen? ⟨g, i, none⟩ = false) := by
        intro k W hr hk
        obtain ⟨a2, c2, e2, h2⟩ := hr.cur_at hlt hv
        rw [e1] at e2
        obtain ⟨rfl, _, rfl⟩ := Value.slice.inj e2
        exact h2 hk
      have HN : Hid (∀ k, ll[n].length ≤ k → M.cur f n k ll = M.cur f (n + 1) 0 ll) := fun k hk => M.cur_next f n k ll hlt hk
      clear hin e1 hR'
      generalize ll[n] = t at *
      go_wp2_with fail
      go_loopw [20] (fun s20 wi => ∃ k : Nat, s20 = .int .i64 k ∧ k ≤ t.length ∧ Rdg wi (w.heap.size + 2) (.slice (some ⟨gv, 0, none⟩) ll.length cv) (M.cur f n k ll) vs ∧ Slot1 wi C (.slice (some ⟨gv, 0, none⟩) ll.length cv) ∧ Slot1 wi (w.heap.size + 1) (.slice none 0 0) ∧ Below w.heap.size w wi) (fun s20 _ => t.length - (intOf s20).toNat)
      case atStart => exact ⟨0, rfl, Nat.zero_le _, hR, hP, hQ, hbel⟩
      case round =>
        obtain ⟨k, rfl, hk, hR, hP, hQ, hbel⟩ := hrel
        by_cases hkt : k < t.length
        · obtain ⟨g, rfl, hg, hd, hf⟩ := HA.out k _ hR hkt
          have j1 : (k : Int) < t.length := by omega
          have HS1 : Hid (∀ W', Chg wr W' g (k * 3) t[k] (f t[k]) → Rdg W' (w.heap.size + 2) (.slice (some ⟨gv, 0, none⟩) ll.length cv) (M.cur f n (k + 1) ll) vs ∧ wr.grownBy W' (some g) ∧ w.heap.size + 2 ≤ g ∧ g < C) := fun W' hch => HS.out k g wr W' hkt rfl hR hch
          have CC := hcl wr g (k * 3) t[k] hbel (by omega) (HT.out k hkt) hd hf
          generalize t[k] = d at *
          go_wp2_with (first | (go_at_call 48; refine CC.mono ?_; rintro e W2 ⟨rfl, hch⟩))
          obtain ⟨r1, r2, r3, r4⟩ := HS1.out _ hch
          exact ⟨⟨k + 1, by go_num, by omega, r1, hP.apart r2 (fun e => by have := Option.some.inj e; omega), hQ.apart r2 (fun e => by have := Option.some.inj e; omega), below_grown hbel r2 (fun j hj => by have := Option.some.inj hj; omega) hbel.size⟩, by simp [intOf]; omega⟩
        · have j1 : ¬ (k : Int) < t.length := by omega
          rw [HN.out k (by omega)] at hR
          go_wp2_with fail
          exact ⟨⟨n + 1, by go_num, by omega, hR, hP, hQ, hbel⟩, by simp [intOf]; omega⟩
    · rw [M.cur_all f n 0 ll (by omega)] at hR
      have i1 : ¬ (n : Int) < ll.length := by omega
      have p0 := hP.c
      have pf := hP.fz
      have q0 := hQ.c
      have qf := hQ.fz
      have lP := hP.lt
      have lQ := hQ.lt
      have hne : w.heap.size + 1 ≠ C := by omega
      go_wp2_with fail
      have q1 := (hQ.set (.slice av ll.length cv)).c
      exact bodyPost_ret (v := .agg #[.slice av ll.length cv]) (by simp [results, Try.results33, go_sem, q1]) rfl ⟨_, rfl, ⟨vs, (hR.far (by omega) _).mono (by omega)⟩, hbel.setCell (by show w.heap.size ≤ w.heap.size + 1; omega) _⟩

set_option maxHeartbeats 2000000 in
set_option maxRecDepth 10000 in
theorem changeV_any (a : Option Addr) (b o c : Nat) (ll : List (List M.D)) (cap : Nat) (f : M.D → M.D) (w : World) (h3 : ll.length ≤ 3) (h7 : ∀ t ∈ ll, t.length ≤ 7) (h : DoSS w a b o ll)
    (hcl : ∀ (W : World) (g off : Nat) (d : M.D), Below w.heap.size w W → w.heap.size ≤ g → (∃ t ∈ ll, d ∈ t) → DoAt W g off d → (∀ i, W.frozen? ⟨g, i, none⟩ = false) → Calls Try.prog 54 #[.pointer (some ⟨g, off, none⟩), .pointer (some ⟨cap, 0, none⟩)] W fun e w' => e = .returned (.tuple #[]) ∧ Chg W w' g off d (f d)) :
    Calls Try.prog 33 #[.agg #[.slice a ll.length c], .func (.func 54) #[] #[.pointer (some ⟨cap, 0, none⟩)]] w fun e w' => ∃ v, e = .returned (.agg #[v]) ∧ (∃ vs, Rdg w' w.heap.size v (M.mapS f ll) vs) ∧ Below w.heap.size w w' := by
  have b2 := below2 w (.cells #[.slice a ll.length c] 25) (.cells #[.slice none 0 0] 25)
  have h2 := h.below b2 (Nat.le_refl _)
  have hY := Slot1.new (w.alloc (.cells #[.slice a ll.length c] 25)) (.slice none 0 0) 25
  rw [World.size_alloc] at hY
  have hsz : ((w.alloc (.cells #[.slice a ll.length c] 25)).alloc (.cells #[.slice none 0 0] 25)).heap.size = w.heap.size + 2 := by simp
  go_enter Try.func33, Try.ntmps33
  go_wp2_with fail
  generalize (w.alloc (.cells #[.slice a ll.length c] 25)).alloc (.cells #[.slice none 0 0] 25) = W at *
  refine (copyProg_any a b o c ll W (by omega) (fun t ht => by have := h7 t ht; omega) h2).mono ?_
  rintro e W1 ⟨v1, rfl, ⟨vs, hR1⟩, b1⟩
  obtain ⟨av, gv0, cv, rfl, _⟩ := hR1.b.ss
  have HV : ∀ i (hi : i < vs.length) k, vs[i].ownBlock = some k → k < W1.heap.size := fun i hi k hk => ((hR1.b.inner i (by have := hR1.b.len; omega) hi).lt k hk).2
  have bA := below1 W1 (.cells #[.slice av ll.length cv] 25)
  have hRA := (hR1.below bA).mono (show w.heap.size + 2 ≤ W.heap.size by omega)
  have bw1 := b2.trans (b1.mono b2.size)
  have bwA := bw1.trans (bA.mono bw1.size)
  have hYA := (hY.bl' b1).bl' bA
  have hC := Slot1.new W1 (.slice av ll.length cv) 25
  have hb1s : w.heap.size + 2 ≤ W1.heap.size := by have := b1.size; omega
  clear hR1 hY h2 b1 b2 bw1 hsz
  go_wp2_with fail
  generalize W1.alloc (.cells #[.slice av ll.length cv] 25) = WA at *
  generalize W1.heap.size = C at *
  have hlenA : (M.cur f 0 0 ll).length = ll.length := M.cur_len _ _ _ _
  go_loopw [14] (fun s14 wr => ∃ n : Nat, s14 = .int .i64 n ∧ n ≤ ll.length ∧ Rdg wr (w.heap.size + 2) (.slice av ll.length cv) (M.cur f n 0 ll) vs ∧ Slot1 wr C (.slice av ll.length cv) ∧ Slot1 wr (w.heap.size + 1) (.slice none 0 0) ∧ Below w.heap.size w wr) (fun s14 _ => ll.length - (intOf s14).toNat)
  case atStart => exact ⟨0, rfl, Nat.zero_le _, by rw [M.cur_zero]; exact hRA, hC, hYA, bwA⟩
  case round =>
    obtain ⟨n, rfl, hn, hR, hP, hQ, hbel⟩ := hrel
    clear hRA hC hYA bwA hlenA
    by_cases hlt : n < ll.length
    · have hR' := hR
      rw [← M.cur_len f n 0 ll] at hR'
      obtain ⟨gv, rfl, hv, hc⟩ := hR'.outer_at (n := n) (by rw [M.cur_len]; exact hlt)
      obtain ⟨a', c', e1, hin⟩ := hR.cur_at hlt hv
      rw [e1] at hc
      have ht7 := h7 _ (List.getElem_mem hlt)
      have i1 : (n : Int) < ll.length := by omega
      have HT : Hid (∀ k (hk : k < ll[n].length), ∃ t ∈ ll, ll[n][k] ∈ t) := fun k hk => ⟨ll[n], List.getElem_mem hlt, List.getElem_mem hk⟩
      have HS : Hid (∀ (k g : Nat) (W W' : World) (hk : k < ll[n].length), a' = some ⟨g, 0, none⟩ → Rdg W (w.heap.size + 2) (.slice (some ⟨gv, 0, none⟩) ll.length cv) (M.cur f n k ll) vs → Chg W W' g (k * 3) ll[n][k] (f ll[n][k]) → Rdg W' (w.heap.size + 2) (.slice (some ⟨gv, 0, none⟩) ll.length cv) (M.cur f n (k + 1) ll) vs ∧ W.grownBy W' (some g) ∧ w.heap.size + 2 ≤ g ∧ g < C) := by
        intro k g W W' hk ha hr hch
        subst ha
        have r := hr.step hlt hk hv e1 hch
        exact ⟨r.1, r.2.1, r.2.2, HV n hv g (by rw [e1]; rfl)⟩
      have HA : Hid (∀ (k : Nat) (W : World), Rdg W (w.heap.size + 2) (.slice (some ⟨gv, 0, none⟩) ll.length cv) (M.cur f n k ll) vs → ∀ hk : k < ll[n].length, ∃ g, a' = some ⟨g, 0, none⟩ ∧ w.heap.size + 2 ≤ g ∧ DoAt W g (k * 3) ll[n][k] ∧ ∀ i, W.frozen? ⟨g, i, none⟩ = false) := by
        intro k W hr hk
        obtain ⟨a2, c2, e2, h2⟩ := hr.cur_at hlt hv
        rw [e1] at e2
        obtain ⟨rfl, _, rfl⟩ := Value.slice.inj e2
        exact h2 hk
      have HN : Hid (∀ k, ll[n].length ≤ k → M.cur f n k ll = M.cur f (n + 1) 0 ll) := fun k hk => M.cur_next f n k ll hlt hk
      clear hin e1 hR'
      generalize ll[n] = t at *
      go_wp2_with fail
      go_loopw [20] (fun s20 wi => ∃ k : Nat, s20 = .int .i64 k ∧ k ≤ t.length ∧ Rdg wi (w.heap.size + 2) (.slice (some ⟨gv, 0, none⟩) ll.length cv) (M.cur f n k ll) vs ∧ Slot1 wi C (.slice (some ⟨gv, 0, none⟩) ll.length cv) ∧ Slot1 wi (w.heap.size + 1) (.slice none 0 0) ∧ Below w.heap.size w wi) (fun s20 _ => t.length - (intOf s20).toNat)
      case atStart => exact ⟨0, rfl, Nat.zero_le _, hR, hP, hQ, hbel⟩
      case round =>
        obtain ⟨k, rfl, hk, hR, hP, hQ, hbel⟩ := hrel
        by_cases hkt : k < t.length
        · obtain ⟨g, rfl, hg, hd, hf⟩ := HA.out k _ hR hkt
          have j1 : (k : Int) < t.length := by omega
          have HS1 : Hid (∀ W', Chg wr W' g (k * 3) t[k] (f t[k]) → Rdg W' (w.heap.size + 2) (.slice (some ⟨gv, 0, none⟩) ll.length cv) (M.cur f n (k + 1) ll) vs ∧ wr.grownBy W' (some g) ∧ w.heap.size + 2 ≤ g ∧ g < C) := fun W' hch => HS.out k g wr W' hkt rfl hR hch
          have CC := hcl wr g (k * 3) t[k] hbel (by omega) (HT.out k hkt) hd hf
          generalize t[k] = d at *
          go_wp2_with (first | (go_at_call 54; refine CC.mono ?_; rintro e W2 ⟨rfl, hch⟩))
          obtain ⟨r1, r2, r3, r4⟩ := HS1.out _ hch
          exact ⟨⟨k + 1, by go_num, by omega, r1, hP.apart r2 (fun e => by have := Option.some.inj e; omega), hQ.apart r2 (fun e => by have := Option.some.inj e; omega), below_grown hbel r2 (fun j hj => by have := Option.some.inj hj; omega) hbel.size⟩, by simp [intOf]; omega⟩
        · have j1 : ¬ (k : Int) < t.length := by omega
          rw [HN.out k (by omega)] at hR
          go_wp2_with fail
          exact ⟨⟨n + 1, by go_num, by omega, hR, hP, hQ, hbel⟩, by simp [intOf]; omega⟩
    · rw [M.cur_all f n 0 ll (by omega)] at hR
      have i1 : ¬ (n : Int) < ll.length := by omega
      have p0 := hP.c
      have pf := hP.fz
      have q0 := hQ.c
      have qf := hQ.fz
      have lP := hP.lt
      have lQ := hQ.lt
      have hne : w.heap.size + 1 ≠ C := by omega
      go_wp2_with fail
      have q1 := (hQ.set (.slice av ll.length cv)).c
      exact bodyPost_ret (v := .agg #[.slice av ll.length cv]) (by simp [results, Try.results33, go_sem, q1]) rfl ⟨_, rfl, ⟨vs, (hR.far (by omega) _).mono (by omega)⟩, hbel.setCell (by show w.heap.size ≤ w.heap.size + 1; omega) _⟩

set_option maxHeartbeats 2000000 in
set_option maxRecDepth 10000 in
theorem changeQ_any (a : Option Addr) (b o c : Nat) (ll : List (List M.D)) (f : M.D → M.D) (w : World) (h3 : ll.length ≤ 3) (h7 : ∀ t ∈ ll, t.length ≤ 7) (h : DoSS w a b o ll)
    (hcl : ∀ (W : World) (g off : Nat) (d : M.D), Below w.heap.size w W → w.heap.size ≤ g → (∃ t ∈ ll, d ∈ t) → DoAt W g off d → (∀ i, W.frozen? ⟨g, i, none⟩ = false) → Calls Try.prog 34 #[.pointer (some ⟨g, off, none⟩)] W fun e w' => e = .returned (.tuple #[]) ∧ Chg W w' g off d (f d)) :
    Calls Try.prog 33 #[.agg #[.slice a ll.length c], .func (.func 34) #[] #[]] w fun e w' => ∃ v, e = .returned (.agg #[v]) ∧ (∃ vs, Rdg w' w.heap.size v (M.mapS f ll) vs) ∧ Below w.heap.size w w' := by
  have b2 := below2 w (.cells #[.slice a ll.length c] 25) (.cells #[.slice none 0 0] 25)
  have h2 := h.below b2 (Nat.le_refl _)
  have hY := Slot1.new (w.alloc (.cells #[.slice a ll.length c] 25)) (.slice none 0 0) 25
  rw [World.size_alloc] at hY
  have hsz : ((w.alloc (.cells #[.slice a ll.length c] 25)).alloc (.cells #[.slice none 0 0] 25)).heap.size = w.heap.size + 2 := by simp
  go_enter Try.func33, Try.ntmps33
  go_wp2_with fail
  generalize (w.alloc (.cells #[.slice a ll.length c] 25)).alloc (.cells #[.slice none 0 0] 25) = W at *
  refine (copyProg_any a b o c ll W (by omega) (fun t ht => by have := h7 t ht; omega) h2).mono ?_
  rintro e W1 ⟨v1, rfl, ⟨vs, hR1⟩, b1⟩
  obtain ⟨av, gv0, cv, rfl, _⟩ := hR1.b.ss
  have HV : ∀ i (hi : i < vs.length) k, vs[i].ownBlock = some k → k < W1.heap.size := fun i hi k hk => ((hR1.b.inner i (by have := hR1.b.len; omega) hi).lt k hk).2
  have bA := below1 W1 (.cells #[.slice av ll.length cv] 25)
  have hRA := (hR1.below bA).mono (show w.heap.size + 2 ≤ W.heap.size by omega)
  have bw1 := b2.trans (b1.mono b2.size)
  have bwA := bw1.trans (bA.mono bw1.size)
  have hYA := (hY.bl' b1).bl' bA
  have hC := Slot1.new W1 (.slice av ll.length cv) 25
  have hb1s : w.heap.size + 2 ≤ W1.heap.size := by have := b1.size; omega
  clear hR1 hY h2 b1 b2 bw1 hsz
  go_wp2_with fail
  generalize W1.alloc (.cells #[.slice av ll.length cv] 25) = WA at *
  generalize W1.heap.size = C at *
  have hlenA : (M.cur f 0 0 ll).length = ll.length := M.cur_len _ _ _ _
  go_loopw [14] (fun s14 wr => ∃ n : Nat, s14 = .int .i64 n ∧ n ≤ ll.length ∧ Rdg wr (w.heap.size + 2) (.slice av ll.length cv) (M.cur f n 0 ll) vs ∧ Slot1 wr C (.slice av ll.length cv) ∧ Slot1 wr (w.heap.size + 1) (.slice none 0 0) ∧ Below w.heap.size w wr) (fun s14 _ => ll.length - (intOf s14).toNat)
  case atStart => exact ⟨0, rfl, Nat.zero_le _, by rw [M.cur_zero]; exact hRA, hC, hYA, bwA⟩
  case round =>
    obtain ⟨n, rfl, hn, hR, hP, hQ, hbel⟩ := hrel
    clear hRA hC hYA bwA hlenA
    by_cases hlt : n < ll.length
    · have hR' := hR
      rw [← M.cur_len f n 0 ll] at hR'
      obtain ⟨gv, rfl, hv, hc⟩ := hR'.outer_at (n := n) (by rw [M.cur_len]; exact hlt)
      obtain ⟨a', c', e1, hin⟩ := hR.cur_at hlt hv
      rw [e1] at hc
      have ht7 := h7 _ (List.getElem_mem hlt)
      have i1 : (n : Int) < ll.length := by omega
      have HT : Hid (∀ k (hk : k < ll[n].length), ∃ t ∈ ll, ll[n][k] ∈ t) := fun k hk => ⟨ll[n], List.getElem_mem hlt, List.getElem_mem hk⟩
      have HS : Hid (∀ (k g : Nat) (W W' : World) (hk : k < ll[n].length), a' = some ⟨g, 0, none⟩ → Rdg W (w.heap.size + 2) (.slice (some ⟨gv, 0, none⟩) ll.length cv) (M.cur f n k ll) vs → Chg W W' g (k * 3) ll[n][k] (f ll[n][k]) → Rdg W' (w.heap.size + 2) (.slice (some ⟨gv, 0, none⟩) ll.length cv) (M.cur f n (k + 1) ll) vs ∧ W.grownBy W' (some g) ∧ w.heap.size + 2 ≤ g ∧ g < C) := by
        intro k g W W' hk ha hr hch
        subst ha
        have r := hr.step hlt hk hv e1 hch
        exact ⟨r.1, r.2.1, r.2.2, HV n hv g (by rw [e1]; rfl)⟩
      have HA : Hid (∀ (k : Nat) (W : World), Rdg W (w.heap.size + 2) (.slice (some ⟨gv, 0, none⟩) ll.length cv) (M.cur f n k ll) vs → ∀ hk : k < ll[n].length, ∃ g, a' = some ⟨g, 0, none⟩ ∧ w.heap.size + 2 ≤ g ∧ DoAt W g (k * 3) ll[n][k] ∧ ∀ i, W.frozen? ⟨g, i, none⟩ = false) := by
        intro k W hr hk
        obtain ⟨a2, c2, e2, h2⟩ := hr.cur_at hlt hv
        rw [e1] at e2
        obtain ⟨rfl, _, rfl⟩ := Value.slice.inj e2
        exact h2 hk
      have HN : Hid (∀ k, ll[n].length ≤ k → M.cur f n k ll = M.cur f (n + 1) 0 ll) := fun k hk => M.cur_next f n k ll hlt hk
      clear hin e1 hR'
      generalize ll[n] = t at *
      go_wp2_with fail
      go_loopw [20] (fun s20 wi => ∃ k : Nat, s20 = .int .i64 k ∧ k ≤ t.length ∧ Rdg wi (w.heap.size + 2) (.slice (some ⟨gv, 0, none⟩) ll.length cv) (M.cur f n k ll) vs ∧ Slot1 wi C (.slice (some ⟨gv, 0, none⟩) ll.length cv) ∧ Slot1 wi (w.heap.size + 1) (.slice none 0 0) ∧ Below w.heap.size w wi) (fun s20 _ => t.length - (intOf s20).toNat)
      case atStart => exact ⟨0, rfl, Nat.zero_le _, hR, hP, hQ, hbel⟩
      case round =>
        obtain ⟨k, rfl, hk, hR, hP, hQ, hbel⟩ := hrel
        by_cases hkt : k < t.length
        · obtain ⟨g, rfl, hg, hd, hf⟩ := HA.out k _ hR hkt
          have j1 : (k : Int) < t.length := by omega
          have HS1 : Hid (∀ W', Chg wr W' g (k * 3) t[k] (f t[k]) → Rdg W' (w.heap.size + 2) (.slice (some ⟨gv, 0, none⟩) ll.length cv) (M.cur f n (k + 1) ll) vs ∧ wr.grownBy W' (some g) ∧ w.heap.size + 2 ≤ g ∧ g < C) := fun W' hch => HS.out k g wr W' hkt rfl hR hch
          have CC := hcl wr g (k * 3) t[k] hbel (by omega) (HT.out k hkt) hd hf
          generalize t[k] = d at *
          go_wp2_with (first | (go_at_call 34; refine CC.mono ?_; rintro e W2 ⟨rfl, hch⟩))
          obtain ⟨r1, r2, r3, r4⟩ := HS1.out _ hch
          exact ⟨⟨k + 1, by go_num, by omega, r1, hP.apart r2 (fun e => by have := Option.some.inj e; omega), hQ.apart r2 (fun e => by have := Option.some.inj e; omega), below_grown hbel r2 (fun j hj => by have := Option.some.inj hj; omega) hbel.size⟩, by simp [intOf]; omega⟩
        · have j1 : ¬ (k : Int) < t.length := by omega
          rw [HN.out k (by omega)] at hR
          go_wp2_with fail
          exact ⟨⟨n + 1, by go_num, by omega, hR, hP, hQ, hbel⟩, by simp [intOf]; omega⟩
    · rw [M.cur_all f n 0 ll (by omega)] at hR
      have i1 : ¬ (n : Int) < ll.length := by omega
      have p0 := hP.c
      have pf := hP.fz
      have q0 := hQ.c
      have qf := hQ.fz
      have lP := hP.lt
      have lQ := hQ.lt
      have hne : w.heap.size + 1 ≠ C := by omega
      go_wp2_with fail
      have q1 := (hQ.set (.slice av ll.length cv)).c
      exact bodyPost_ret (v := .agg #[.slice av ll.length cv]) (by simp [results, Try.results33, go_sem, q1]) rfl ⟨_, rfl, ⟨vs, (hR.far (by omega) _).mono (by omega)⟩, hbel.setCell (by show w.heap.size ≤ w.heap.size + 1; omega) _⟩

end Go.Proofs.Ytdpoiabohkkbcaa

namespace Go.Proofs.Ytdpoiabohkkbcaa
open Go.RowKit

set_option maxHeartbeats 1000000 in
set_option maxRecDepth 100000 in
set_option linter.unusedSimpArgs false in
theorem placeC_any (g off CB : Nat) (d : M.D) (pa : Option Addr) (pb po pc : Nat) (row : List Int) (W : World) (hl : row.length ≤ 1000) (hC : W.cell? ⟨CB, 0, none⟩ = some (.slice pa row.length pc)) (hI : IntS W pa pb po row) (hd : DoAt W g off d) (hf : ∀ i, W.frozen? ⟨g, i, none⟩ = false) (hr : M.uses d.k = true → 0 ≤ d.p ∧ d.p < row.length) (hne1 : g ≠ CB) (hne2 : g ≠ pb) :
    Calls Try.prog 48 #[.pointer (some ⟨g, off, none⟩), .pointer (some ⟨CB, 0, none⟩)] W fun e w' => e = .returned (.tuple #[]) ∧ Chg W w' g off d (M.placeF row d) := by
  obtain ⟨kk, pp, vv⟩ := d
  obtain ⟨ck, cp, cv⟩ := hd
  go_enter Try.func48, Try.ntmps48
  cases hu : M.uses kk
  · go_wp2_with (go_at_call 41; refine (uses_any _ _).mono ?_; rw [hu]; rintro e w' ⟨rfl, rfl⟩)
    refine bodyPost_end (results_none Try.results48 _ _ _) rfl ⟨rfl, 0, Or.inl ⟨rfl, ?_⟩⟩
    unfold M.placeF
    rw [show M.uses (M.D.mk kk pp vv).k = false from hu]
    rfl
  · obtain ⟨r0, r1⟩ := hr hu
    obtain ⟨j, rfl⟩ : ∃ j : Nat, pp = j := ⟨pp.toNat, by simp only at r0; omega⟩
    have hj : j < row.length := by simp only at r1; omega
    obtain ⟨rfl⟩ := hI.addr (by omega)
    have hx := hI.row j hj
    have HY : Hid (M.placeF row ⟨kk, j, vv⟩ = ⟨kk, row[j], vv⟩) := by
      show _ = _
      unfold M.placeF
      rw [if_pos (show M.uses (M.D.mk kk j vv).k = true from hu)]
      congr 1
      exact M.getD_get hj
    generalize row[j] = y at *
    have i1 : (j : Int) < row.length := by omega
    clear r0 r1 hr
    go_wp2_with (go_at_call 41; refine (uses_any _ _).mono ?_; rw [hu]; rintro e w' ⟨rfl, rfl⟩)
    refine wp_region_held_drew (S := fun w' => w'.cell? ⟨CB, 0, none⟩ = some (.slice (some ⟨pb, po, none⟩) row.length pc) ∧ w'.cell? ⟨pb, po + j, none⟩ = some (.int .i64 y)) (by kernel_rfl) (by exact ⟨hC, hx⟩) (fun hH => ?_)
    refine takeD 0 (some 8) (.pointer (some ⟨g, off, none⟩)) hH rfl rfl (by kernel_rfl) (by kernel_rfl) (by kernel_rfl) (fun _ _ _ h => h) (Or.inl ⟨by rfl, by intro w' hSw; go_simp⟩) ?_
    simp only [Act.put, List.setIfInBounds_toArray, List.set_cons_zero, List.set_cons_succ]
    refine takeD 1 (some 9) (.slice (some ⟨pb, po, none⟩) row.length pc) hH rfl rfl (by kernel_rfl) (by kernel_rfl) (by kernel_rfl) (fun _ _ _ h => h) (Or.inl ⟨by rfl, by intro w' hSw; have hc := hSw.1; go_simp⟩) ?_
    simp only [Act.put, List.setIfInBounds_toArray, List.set_cons_zero, List.set_cons_succ]
    refine takeD 2 (some 10) (.pointer (some ⟨g, off, none⟩)) hH rfl rfl (by kernel_rfl) (by kernel_rfl) (by kernel_rfl) (fun _ _ _ h => h) (Or.inl ⟨by rfl, by intro w' hSw; go_simp⟩) ?_
    simp only [Act.put, List.setIfInBounds_toArray, List.set_cons_zero, List.set_cons_succ]
    refine takeD 3 (some 11) (.pointer (some ⟨g, off, none⟩)) hH rfl rfl (by kernel_rfl) (by kernel_rfl) (by kernel_rfl) (fun _ _ _ h => h) (Or.inl ⟨by rfl, by intro w' hSw; go_simp⟩) ?_
    simp only [Act.put, List.setIfInBounds_toArray, List.set_cons_zero, List.set_cons_succ]
    refine takeD 4 (some 12) (.pointer (some ⟨g, off + 1, none⟩)) hH rfl rfl (by kernel_rfl) (by kernel_rfl) (by kernel_rfl) (fun _ _ _ h => h) (Or.inl ⟨by rfl, by intro w' hSw; go_simp⟩) ?_
    simp only [Act.put, List.setIfInBounds_toArray, List.set_cons_zero, List.set_cons_succ]
    refine wpAnyH_ready (rs := [5]) (by kernel_rfl) (by simp) ?_
    refine AllReadyH.cons rfl (fun K' hK => ?_) AllReadyH.nil
    have xx := cp
    rw [if_pos (by rfl)]
    go_simp
    refine hK.out _ _ hH (fun _ => ?_)
    clear hK K' xx
    refine takeD 6 (some 14) (.pointer (some ⟨pb, po + j, none⟩)) hH rfl rfl (by kernel_rfl) (by kernel_rfl) (by kernel_rfl) (fun _ _ _ h => h) (Or.inl ⟨by rfl, by intro w' hSw; go_simp⟩) ?_
    simp only [Act.put, List.setIfInBounds_toArray, List.set_cons_zero, List.set_cons_succ]
    refine takeD 7 (some 15) (.int .i64 y) hH rfl rfl (by kernel_rfl) (by kernel_rfl) (by kernel_rfl) (fun _ _ _ h => h) (Or.inl ⟨by rfl, by intro w' hSw; have hc := hSw.2; go_simp⟩) ?_
    simp only [Act.put, List.setIfInBounds_toArray, List.set_cons_zero, List.set_cons_succ]
    refine takeD 8 (some 16) (.pointer (some ⟨g, off, none⟩)) hH rfl rfl (by kernel_rfl) (by kernel_rfl) (by kernel_rfl) (fun _ _ _ h => h) (Or.inl ⟨by rfl, by intro w' hSw; go_simp⟩) ?_
    simp only [Act.put, List.setIfInBounds_toArray, List.set_cons_zero, List.set_cons_succ]
    refine takeD 9 (some 17) (.pointer (some ⟨g, off + 1, none⟩)) hH rfl rfl (by kernel_rfl) (by kernel_rfl) (by kernel_rfl) (fun _ _ _ h => h) (Or.inl ⟨by rfl, by intro w' hSw; go_simp⟩) ?_
    simp only [Act.put, List.setIfInBounds_toArray, List.set_cons_zero, List.set_cons_succ]
    refine wpAnyH_ready (rs := [10]) (by kernel_rfl) (by simp) ?_
    refine AllReadyH.cons rfl (fun K' hK => ?_) AllReadyH.nil
    have xc := cp
    have xz := hf (off + 1)
    rw [if_pos (by rfl)]
    go_simp
    refine hK.out _ _ ⟨(World.cell?_setCell_other _ _ _ _ (fun e => hne1 (congrArg Addr.block e))).trans hH.1, (World.cell?_setCell_other _ _ _ _ (fun e => hne2 (congrArg Addr.block e))).trans hH.2⟩ (fun _ => ?_)
    clear hK K'
    refine wpAnyH_done (by kernel_rfl) ?_ _
    clear xc xz
    go_wp2_with fail
    refine bodyPost_end (results_none Try.results48 _ _ _) rfl ⟨rfl, 1, Or.inr (Or.inr (Or.inl ⟨?_, ?_, ?_⟩))⟩
    · rw [HY.out]; rfl
    · rw [HY.out]
    · rw [HY.out]

set_option maxHeartbeats 1000000 in
set_option maxRecDepth 100000 in
set_option linter.unusedSimpArgs false in
theorem valC_any (g off CB : Nat) (d : M.D) (pa : Option Addr) (pb po pc : Nat) (row : List Int) (W : World) (hl : row.length ≤ 1000) (hC : W.cell? ⟨CB, 0, none⟩ = some (.slice pa row.length pc)) (hI : IntS W pa pb po row) (hd : DoAt W g off d) (hf : ∀ i, W.frozen? ⟨g, i, none⟩ = false) (hr : 0 ≤ d.v ∧ d.v < row.length) (hne1 : g ≠ CB) (hne2 : g ≠ pb) :
    Calls Try.prog 54 #[.pointer (some ⟨g, off, none⟩), .pointer (some ⟨CB, 0, none⟩)] W fun e w' => e = .returned (.tuple #[]) ∧ Chg W w' g off d (M.valF row d) := by
  obtain ⟨kk, pp, vv⟩ := d
  obtain ⟨ck, cp, cv⟩ := hd
  go_enter Try.func54, Try.ntmps54
  obtain ⟨r0, r1⟩ := hr
  obtain ⟨j, rfl⟩ : ∃ j : Nat, vv = j := ⟨vv.toNat, by simp only at r0; omega⟩
  have hj : j < row.length := by simp only at r1; omega
  obtain ⟨rfl⟩ := hI.addr (by omega)
  have hx := hI.row j hj
  have HY : Hid (M.valF row ⟨kk, pp, j⟩ = ⟨kk, pp, row[j]⟩) := by
    show _ = _
    unfold M.valF
    congr 1
    exact M.getD_get hj
  generalize row[j] = y at *
  have i1 : (j : Int) < row.length := by omega
  clear r0 r1
  refine wp_region_held_drew (S := fun w' => w'.cell? ⟨CB, 0, none⟩ = some (.slice (some ⟨pb, po, none⟩) row.length pc) ∧ w'.cell? ⟨pb, po + j, none⟩ = some (.int .i64 y)) (by kernel_rfl) (by exact ⟨hC, hx⟩) (fun hH => ?_)
  refine takeD 0 (some 3) (.pointer (some ⟨g, off, none⟩)) hH rfl rfl (by kernel_rfl) (by kernel_rfl) (by kernel_rfl) (fun _ _ _ h => h) (Or.inl ⟨by rfl, by intro w' hSw; go_simp⟩) ?_
  simp only [Act.put, List.setIfInBounds_toArray, List.set_cons_zero, List.set_cons_succ]
  refine takeD 1 (some 4) (.slice (some ⟨pb, po, none⟩) row.length pc) hH rfl rfl (by kernel_rfl) (by kernel_rfl) (by kernel_rfl) (fun _ _ _ h => h) (Or.inl ⟨by rfl, by intro w' hSw; have hc := hSw.1; go_simp⟩) ?_
  simp only [Act.put, List.setIfInBounds_toArray, List.set_cons_zero, List.set_cons_succ]
  refine takeD 2 (some 5) (.pointer (some ⟨g, off, none⟩)) hH rfl rfl (by kernel_rfl) (by kernel_rfl) (by kernel_rfl) (fun _ _ _ h => h) (Or.inl ⟨by rfl, by intro w' hSw; go_simp⟩) ?_
  simp only [Act.put, List.setIfInBounds_toArray, List.set_cons_zero, List.set_cons_succ]
  refine takeD 3 (some 6) (.pointer (some ⟨g, off, none⟩)) hH rfl rfl (by kernel_rfl) (by kernel_rfl) (by kernel_rfl) (fun _ _ _ h => h) (Or.inl ⟨by rfl, by intro w' hSw; go_simp⟩) ?_
  simp only [Act.put, List.setIfInBounds_toArray, List.set_cons_zero, List.set_cons_succ]
  refine takeD 4 (some 7) (.pointer (some ⟨g, off + 2, none⟩)) hH rfl rfl (by kernel_rfl) (by kernel_rfl) (by kernel_rfl) (fun _ _ _ h => h) (Or.inl ⟨by rfl, by intro w' hSw; go_simp⟩) ?_
  simp only [Act.put, List.setIfInBounds_toArray, List.set_cons_zero, List.set_cons_succ]
  refine wpAnyH_ready (rs := [5]) (by kernel_rfl) (by simp) ?_
  refine AllReadyH.cons rfl (fun K' hK => ?_) AllReadyH.nil
  have xx := cv
  rw [if_pos (by rfl)]
  go_simp
  refine hK.out _ _ hH (fun _ => ?_)
  clear hK K' xx
  refine takeD 6 (some 9) (.pointer (some ⟨pb, po + j, none⟩)) hH rfl rfl (by kernel_rfl) (by kernel_rfl) (by kernel_rfl) (fun _ _ _ h => h) (Or.inl ⟨by rfl, by intro w' hSw; go_simp⟩) ?_
  simp only [Act.put, List.setIfInBounds_toArray, List.set_cons_zero, List.set_cons_succ]
  refine takeD 7 (some 10) (.int .i64 y) hH rfl rfl (by kernel_rfl) (by kernel_rfl) (by kernel_rfl) (fun _ _ _ h => h) (Or.inl ⟨by rfl, by intro w' hSw; have hc := hSw.2; go_simp⟩) ?_
  simp only [Act.put, List.setIfInBounds_toArray, List.set_cons_zero, List.set_cons_succ]
  refine takeD 8 (some 11) (.pointer (some ⟨g, off, none⟩)) hH rfl rfl (by kernel_rfl) (by kernel_rfl) (by kernel_rfl) (fun _ _ _ h => h) (Or.inl ⟨by rfl, by intro w' hSw; go_simp⟩) ?_
  simp only [Act.put, List.setIfInBounds_toArray, List.set_cons_zero, List.set_cons_succ]
  refine takeD 9 (some 12) (.pointer (some ⟨g, off + 2, none⟩)) hH rfl rfl (by kernel_rfl) (by kernel_rfl) (by kernel_rfl) (fun _ _ _ h => h) (Or.inl ⟨by rfl, by intro w' hSw; go_simp⟩) ?_
  simp only [Act.put, List.setIfInBounds_toArray, List.set_cons_zero, List.set_cons_succ]
  refine wpAnyH_ready (rs := [10]) (by kernel_rfl) (by simp) ?_
  refine AllReadyH.cons rfl (fun K' hK => ?_) AllReadyH.nil
  have xc := cv
  have xz := hf (off + 2)
  rw [if_pos (by rfl)]
  go_simp
  refine hK.out _ _ ⟨(World.cell?_setCell_other _ _ _ _ (fun e => hne1 (congrArg Addr.block e))).trans hH.1, (World.cell?_setCell_other _ _ _ _ (fun e => hne2 (congrArg Addr.block e))).trans hH.2⟩ (fun _ => ?_)
  clear hK K'
  refine wpAnyH_done (by kernel_rfl) ?_ _
  clear xc xz
  go_wp2_with fail
  refine bodyPost_end (results_none Try.results54 _ _ _) rfl ⟨rfl, 1, Or.inr (Or.inr (Or.inr ⟨?_, ?_, ?_⟩))⟩
  · rw [HY.out]; rfl
  · rw [HY.out]
  · rw [HY.out]

end Go.Proofs.Ytdpoiabohkkbcaa

namespace Go.Proofs.Ytdpoiabohkkbcaa
open Go.RowKit

namespace M
theorem from_threads {ll : List (List D)} : ∀ {a u : Nat}, progFrom a u ll = true → ∀ t ∈ ll, thread t = true := by
  induction ll with
  | nil => intro a u _ t ht; simp at ht
  | cons t l ih =>
    intro a u h t' ht'
    by_cases hb : thread t = true
    · simp only [progFrom, hb, if_true] at h
      rcases List.mem_cons.1 ht' with rfl | hm
      · exact hb
      · exact ih h t' hm
    · simp [progFrom, hb] at h
theorem prog_do {ll : List (List D)} (h : prog ll = true) {t : List D} (ht : t ∈ ll) {d : D} (hd : d ∈ t) : doOk d = true := by
  simp only [prog, Bool.and_eq_true, decide_eq_true_eq] at h
  have := from_threads h.2 t ht
  simp only [thread, form, Bool.and_eq_true, List.all_eq_true] at this
  exact this.1.1.2 d hd
theorem prog_place {ll : List (List D)} (h : prog ll = true) {d : D} (hd : ∃ t ∈ ll, d ∈ t) (hu : uses d.k = true) : 0 ≤ d.p ∧ d.p < 3 := by
  obtain ⟨t, ht, hd⟩ := hd
  have := prog_do h ht hd
  simp only [doOk, placeOk, hu, if_true, Bool.and_eq_true, decide_eq_true_eq] at this
  exact this.1.2
theorem prog_val {ll : List (List D)} (h : prog ll = true) {d : D} (hd : ∃ t ∈ ll, d ∈ t) : 0 ≤ d.v ∧ d.v < 4 := by
  obtain ⟨t, ht, hd⟩ := hd
  have := prog_do h ht hd
  simp only [doOk, valOk, Bool.and_eq_true] at this
  have h2 := this.2
  split at h2
  · simp only [Bool.and_eq_true, decide_eq_true_eq] at h2; omega
  · simp only [beq_iff_eq] at h2; omega
theorem pick_row {row : List Int} {n : Nat} (h : rowN row n = true) : pick 0 row (bel n) = row := by
  have hm := rowN_mem h
  unfold pick
  conv => rhs; rw [← List.map_id row]
  apply List.map_congr_left
  intro x hx
  obtain ⟨h0, h1⟩ := hm x hx
  rw [getD_get (by rw [bel_len]; omega), bel_get]
  simp only [id]
  omega
theorem turned_row {row : List Int} {n : Nat} (h : rowN row n = true) : turned 0 row (bel n) = row := by
  rw [turned_yes (by rw [bel_len]; exact h), pick_row h]
theorem turned_row_no {row : List Int} {n : Nat} (h : rowN row n = false) : turned 0 row (bel n) = [] := turned_no (by rw [bel_len]; exact h)
end M

set_option maxHeartbeats 2000000 in
theorem iturnPlaces_any (a : Option Addr) (b o c : Nat) (ll : List (List M.D)) (hl : ll.length ≤ 1048576) (hls : ∀ t ∈ ll, t.length ≤ 1048576) (ga : Option Addr) (gb go gc : Nat) (gs : List Int) (hgl : gs.length ≤ 1048576) (w : World) (h : DoSS w a b o ll) (hG : IntS w ga gb go gs) :
    Calls Try.prog 18 #[.agg #[.slice a ll.length c], .slice ga gs.length gc] w fun e w' => ∃ v, e = .returned (.tuple #[.agg #[v], .bool (M.turnPlaces ll gs).isSome]) ∧ (∃ vs, Rdg w' w.heap.size v ((M.turnPlaces ll gs).getD []) vs) ∧ Below w.heap.size w w' := by
  have hmf : ∀ (fn : Fn) (first cap : Array Value) (w : World), (Instr.makeFunc fn first cap).run Try.prog w = .ok (.func fn first cap) w := fun _ _ _ _ => rfl
  have b2 := below2 w (.cells #[.slice a ll.length c] 25) (.cells #[.slice none 0 0] 25)
  have h2 := h.below b2 (Nat.le_refl _)
  have hG2 := hG.below b2 (Nat.le_refl _)
  have hX := (Slot1.new w (.slice a ll.length c) 25).bl' (below1 _ (.cells #[.slice none 0 0] 25))
  have hY := Slot1.new (w.alloc (.cells #[.slice a ll.length c] 25)) (.slice none 0 0) 25
  rw [World.size_alloc] at hY
  go_enter Try.func18, Try.ntmps18
  go_wp2_with fail
  generalize (w.alloc (.cells #[.slice a ll.length c] 25)).alloc (.cells #[.slice none 0 0] 25) = W at *
  refine (numbersBelow_any 3 W (by omega)).mono ?_
  rintro e W1 ⟨v1, rfl, hown1, b1⟩
  obtain ⟨a1, g1, c1, rfl, hI1, _, _⟩ := own_nums hown1
  have CT := turnI_any ga gb go gc gs a1 g1 0 c1 (M.bel 3) W1 hgl (by rw [M.bel_len]; omega) (hG2.below b1 (Nat.le_refl _)) hI1
  have e3 : (M.bel 3).length = 3 := M.bel_len 3
  rw [e3] at CT ⊢
  clear hown1 hI1 e3
  go_wp2_with fail
  refine CT.mono ?_
  rintro e W2 ⟨v2, rfl, hown2, b2'⟩
  obtain ⟨pa, pb, pc, rfl, hI2, _, _⟩ := own_nums hown2
  obtain ⟨rw_, hrw⟩ : ∃ r, M.turned 0 gs (M.bel 3) = r := ⟨_, rfl⟩
  rw [hrw] at hI2 ⊢
  have HRW : Hid (M.turned 0 gs (M.bel 3) = rw_) := hrw
  clear hrw hown2 CT
  have bA := below1 W2 (.cells #[.slice pa rw_.length pc] 32)
  have b12 := b1.trans (b2'.mono b1.size)
  have b1A := b12.trans (bA.mono b12.size)
  have bwA := b2.trans (b1A.mono b2.size)
  have hX2 := hX.bl' b12
  have hY2 := hY.bl' b12
  have hXA := hX.bl' b1A
  have hYA := hY.bl' b1A
  have y0 := hY2.c
  have yf := hY2.fz
  have ly := hY2.lt
  have lx := hX2.lt
  have hDA := h2.below b1A (Nat.le_refl _)
  have hCA := Slot1.new W2 (.slice pa rw_.length pc) 32
  have hIA := hI2.below bA (Nat.le_refl _)
  have hpb : 0 < rw_.length → pb < W2.heap.size := fun h => hI2.lt h
  have bw2 := b2.trans (b12.mono b2.size)
  have hb2s : w.heap.size + 1 < W2.heap.size := Nat.lt_of_lt_of_le hY.lt b12.size
  clear b1 b2' b12 b1A bA hX hY h2 hG2 hI2
  cases hr : M.rowN gs 3
  · have hno := M.turnPlaces_row (ll := ll) hr
    go_wp2_with fail
    have q1 := ((hY2.set (.slice none 0 0)).bl' (below1 _ (.cells #[.slice pa rw_.length pc] 32))).c
    exact bodyPost_ret (v := .tuple #[.agg #[.slice none 0 0], .bool false]) (by simp [results, Try.results18, go_sem, q1]) rfl ⟨_, by rw [hno]; rfl, ⟨[], by rw [hno]; exact Rdg.nil _ _⟩, (bw2.setCell (by show w.heap.size ≤ w.heap.size + 1; omega) _).alloc (by simp; omega) _⟩
  · obtain rfl : gs = rw_ := by have := HRW.out; rw [M.turned_row hr] at this; exact this
    have CP := iprog_any a b o c ll _ hl hls hDA
    have x0 := hX2.c
    have hg3 : Hid (gs.length = 3) := M.rowN_len hr
    clear y0 yf
    cases hp : M.prog ll
    · have hno := M.turnPlaces_bad (row := gs) hp
      rw [hp] at CP
      go_wp2_with (first | (go_at_call 14; refine CP.mono ?_; rintro e W3 ⟨rfl, b3⟩; have hY3 := hYA.bl' b3; have y0 := hY3.c; have yf := hY3.fz; have ly := hY3.lt))
      have bw3 := bwA.trans (b3.mono bwA.size)
      have q1 := (hY3.set (.slice none 0 0)).c
      exact bodyPost_ret (v := .tuple #[.agg #[.slice none 0 0], .bool false]) (by simp [results, Try.results18, go_sem, q1]) rfl ⟨_, by rw [hno]; rfl, ⟨[], by rw [hno]; exact Rdg.nil _ _⟩, bw3.setCell (by show w.heap.size ≤ w.heap.size + 1; omega) _⟩
    · have hyes := M.turnPlaces_yes hp hr
      have HY1 : Hid ((M.turnPlaces ll gs).isSome = true) := by show _ = _; rw [hyes]; rfl
      have HY2 : Hid ((M.turnPlaces ll gs).getD [] = M.mapS (M.placeF gs) ll) := by show _ = _; rw [hyes]; rfl
      obtain ⟨h3, h7⟩ := M.prog_le hp
      have HP : Hid (M.prog ll = true) := hp
      have HG3 := hg3
      rw [hp] at CP
      clear hyes hr hp hg3
      go_wp2_with (first | (go_at_call 14; refine CP.mono ?_; rintro e W3 ⟨rfl, b3⟩; have hY3 := hYA.bl' b3; have hX3 := hXA.bl' b3; have x3 := hX3.c))
      have hC3 := hCA.bl' b3
      have hI3 := hIA.below b3 (Nat.le_refl _)
      have hD3 := hDA.below b3 (Nat.le_refl _)
      have bw3 := bwA.trans (b3.mono bwA.size)
      have hlt3 : W2.heap.size < W3.heap.size := hC3.lt
      have lY3 := hY3.lt
      refine (changeP_any a b o c ll W2.heap.size (M.placeF gs) W3 h3 h7 hD3 (fun Wx g off d hb hge hd hda hf => placeC_any g off W2.heap.size d pa pb 0 pc gs Wx (by have := HG3.out; omega) ((hC3.bl' hb).c) (hI3.below hb (Nat.le_refl _)) hda hf (fun hu => by have := M.prog_place HP.out hd hu; have := HG3.out; omega) (by omega) (by have := hpb (by have := HG3.out; omega); omega))).mono ?_
      rintro e W4 ⟨v4, rfl, ⟨vs, hR4⟩, b4⟩
      have hY4 := hY3.bl' b4
      have y0 := hY4.c
      have yf := hY4.fz
      have ly := hY4.lt
      have bw4 := bw3.trans (b4.mono bw3.size)
      obtain ⟨av, gv, cv, rfl, _⟩ := hR4.b.ss
      rw [M.mapS_len] at hR4 ⊢
      go_wp2_with fail
      have q1 := (hY4.set (.slice av ll.length cv)).c
      exact bodyPost_ret (v := .tuple #[.agg #[.slice av ll.length cv], .bool true]) (by simp [results, Try.results18, go_sem, q1]) rfl ⟨_, by rw [HY1.out], ⟨vs, by rw [HY2.out]; exact (hR4.far (by omega) _).mono (by have := bw3.size; omega)⟩, bw4.setCell (by show w.heap.size ≤ w.heap.size + 1; omega) _⟩

end Go.Proofs.Ytdpoiabohkkbcaa

namespace Go.Proofs.Ytdpoiabohkkbcaa
open Go.RowKit


set_option maxHeartbeats 2000000 in
theorem iturnVals_any (a : Option Addr) (b o c : Nat) (ll : List (List M.D)) (hl : ll.length ≤ 1048576) (hls : ∀ t ∈ ll, t.length ≤ 1048576) (ga : Option Addr) (gb go gc : Nat) (gs : List Int) (hgl : gs.length ≤ 1048576) (w : World) (h : DoSS w a b o ll) (hG : IntS w ga gb go gs) :
    Calls Try.prog 25 #[.agg #[.slice a ll.length c], .slice ga gs.length gc] w fun e w' => ∃ v, e = .returned (.tuple #[.agg #[v], .bool (M.turnVals ll gs).isSome]) ∧ (∃ vs, Rdg w' w.heap.size v ((M.turnVals ll gs).getD []) vs) ∧ Below w.heap.size w w' := by
  have hmf : ∀ (fn : Fn) (first cap : Array Value) (w : World), (Instr.makeFunc fn first cap).run Try.prog w = .ok (.func fn first cap) w := fun _ _ _ _ => rfl
  have b2 := below2 w (.cells #[.slice a ll.length c] 25) (.cells #[.slice none 0 0] 25)
  have h2 := h.below b2 (Nat.le_refl _)
  have hG2 := hG.below b2 (Nat.le_refl _)
  have hX := (Slot1.new w (.slice a ll.length c) 25).bl' (below1 _ (.cells #[.slice none 0 0] 25))
  have hY := Slot1.new (w.alloc (.cells #[.slice a ll.length c] 25)) (.slice none 0 0) 25
  rw [World.size_alloc] at hY
  go_enter Try.func25, Try.ntmps25
  go_wp2_with fail
  generalize (w.alloc (.cells #[.slice a ll.length c] 25)).alloc (.cells #[.slice none 0 0] 25) = W at *
  refine (numbersBelow_any 4 W (by omega)).mono ?_
  rintro e W1 ⟨v1, rfl, hown1, b1⟩
  obtain ⟨a1, g1, c1, rfl, hI1, _, _⟩ := own_nums hown1
  have CT := turnI_any ga gb go gc gs a1 g1 0 c1 (M.bel 4) W1 hgl (by rw [M.bel_len]; omega) (hG2.below b1 (Nat.le_refl _)) hI1
  have e3 : (M.bel 4).length = 4 := M.bel_len 4
  rw [e3] at CT ⊢
  clear hown1 hI1 e3
  go_wp2_with fail
  refine CT.mono ?_
  rintro e W2 ⟨v2, rfl, hown2, b2'⟩
  obtain ⟨pa, pb, pc, rfl, hI2, _, _⟩ := own_nums hown2
  obtain ⟨rw_, hrw⟩ : ∃ r, M.turned 0 gs (M.bel 4) = r := ⟨_, rfl⟩
  rw [hrw] at hI2 ⊢
  have HRW : Hid (M.turned 0 gs (M.bel 4) = rw_) := hrw
  clear hrw hown2 CT
  have bA := below1 W2 (.cells #[.slice pa rw_.length pc] 32)
  have b12 := b1.trans (b2'.mono b1.size)
  have b1A := b12.trans (bA.mono b12.size)
  have bwA := b2.trans (b1A.mono b2.size)
  have hX2 := hX.bl' b12
  have hY2 := hY.bl' b12
  have hXA := hX.bl' b1A
  have hYA := hY.bl' b1A
  have y0 := hY2.c
  have yf := hY2.fz
  have ly := hY2.lt
  have lx := hX2.lt
  have hDA := h2.below b1A (Nat.le_refl _)
  have hCA := Slot1.new W2 (.slice pa rw_.length pc) 32
  have hIA := hI2.below bA (Nat.le_refl _)
  have hpb : 0 < rw_.length → pb < W2.heap.size := fun h => hI2.lt h
  have bw2 := b2.trans (b12.mono b2.size)
  have hb2s : w.heap.size + 1 < W2.heap.size := Nat.lt_of_lt_of_le hY.lt b12.size
  clear b1 b2' b12 b1A bA hX hY h2 hG2
  cases hr : M.rowN gs 4
  · have hno := M.turnVals_row (ll := ll) hr
    go_wp2_with fail
    have q1 := ((hY2.set (.slice none 0 0)).bl' (below1 _ (.cells #[.slice pa rw_.length pc] 32))).c
    exact bodyPost_ret (v := .tuple #[.agg #[.slice none 0 0], .bool false]) (by simp [results, Try.results25, go_sem, q1]) rfl ⟨_, by rw [hno]; rfl, ⟨[], by rw [hno]; exact Rdg.nil _ _⟩, (bw2.setCell (by show w.heap.size ≤ w.heap.size + 1; omega) _).alloc (by simp; omega) _⟩
  · obtain rfl : gs = rw_ := by have := HRW.out; rw [M.turned_row hr] at this; exact this
    have hg3 : Hid (gs.length = 4) := M.rowN_len hr
    have hpos : 0 < gs.length := by have := hg3.out; omega
    obtain ⟨rfl⟩ := hI2.addr hpos
    have v0 := hI2.row 0 hpos
    have HV0 : Hid (gs.getD 0 0 = gs[0]) := M.getD_get hpos
    generalize gs[0] = y at *
    have hp0 : (0 : Int) < gs.length := by omega
    have lpb : pb < W2.heap.size := hpb hpos
    by_cases hy : y = 0
    · subst hy
      have CP := iprog_any a b o c ll _ hl hls hDA
      have x0 := hX2.c
      clear y0 yf
      cases hp : M.prog ll
      · have hno := M.turnVals_bad (row := gs) hp
        rw [hp] at CP
        go_wp2_with (first | (go_at_call 14; refine CP.mono ?_; rintro e W3 ⟨rfl, b3⟩; have hY3 := hYA.bl' b3; have y0 := hY3.c; have yf := hY3.fz; have ly := hY3.lt))
        have bw3 := bwA.trans (b3.mono bwA.size)
        have q1 := (hY3.set (.slice none 0 0)).c
        exact bodyPost_ret (v := .tuple #[.agg #[.slice none 0 0], .bool false]) (by simp [results, Try.results25, go_sem, q1]) rfl ⟨_, by rw [hno]; rfl, ⟨[], by rw [hno]; exact Rdg.nil _ _⟩, bw3.setCell (by show w.heap.size ≤ w.heap.size + 1; omega) _⟩
      · have hyes := M.turnVals_yes hp hr (by rw [HV0.out]; rfl)
        have HY1 : Hid ((M.turnVals ll gs).isSome = true) := by show _ = _; rw [hyes]; rfl
        have HY2 : Hid ((M.turnVals ll gs).getD [] = M.mapS (M.valF gs) ll) := by show _ = _; rw [hyes]; rfl
        obtain ⟨h3, h7⟩ := M.prog_le hp
        have HP : Hid (M.prog ll = true) := hp
        have HG3 := hg3
        rw [hp] at CP
        clear hyes hr hp hg3
        go_wp2_with (first | (go_at_call 14; refine CP.mono ?_; rintro e W3 ⟨rfl, b3⟩; have hY3 := hYA.bl' b3; have hX3 := hXA.bl' b3; have x3 := hX3.c))
        have hC3 := hCA.bl' b3
        have hI3 := hIA.below b3 (Nat.le_refl _)
        have hD3 := hDA.below b3 (Nat.le_refl _)
        have bw3 := bwA.trans (b3.mono bwA.size)
        have hlt3 : W2.heap.size < W3.heap.size := hC3.lt
        have lY3 := hY3.lt
        refine (changeV_any a b o c ll W2.heap.size (M.valF gs) W3 h3 h7 hD3 (fun Wx g off d hb hge hd hda hf => valC_any g off W2.heap.size d (some ⟨pb, 0, none⟩) pb 0 pc gs Wx (by have := HG3.out; omega) ((hC3.bl' hb).c) (hI3.below hb (Nat.le_refl _)) hda hf (by have := M.prog_val HP.out hd; have := HG3.out; omega) (by omega) (by have := hpb (by have := HG3.out; omega); omega))).mono ?_
        rintro e W4 ⟨v4, rfl, ⟨vs, hR4⟩, b4⟩
        have hY4 := hY3.bl' b4
        have y0 := hY4.c
        have yf := hY4.fz
        have ly := hY4.lt
        have bw4 := bw3.trans (b4.mono bw3.size)
        obtain ⟨av, gv, cv, rfl, _⟩ := hR4.b.ss
        rw [M.mapS_len] at hR4 ⊢
        go_wp2_with fail
        have q1 := (hY4.set (.slice av ll.length cv)).c
        exact bodyPost_ret (v := .tuple #[.agg #[.slice av ll.length cv], .bool true]) (by simp [results, Try.results25, go_sem, q1]) rfl ⟨_, by rw [HY1.out], ⟨vs, by rw [HY2.out]; exact (hR4.far (by omega) _).mono (by have := bw3.size; omega)⟩, bw4.setCell (by show w.heap.size ≤ w.heap.size + 1; omega) _⟩

    · have hy' : (y == 0) = false := by simpa using hy
      have hno := M.turnVals_first (ll := ll) (row := gs) (by rw [HV0.out]; exact hy')
      go_wp2_with fail
      have q1 := ((hY2.set (.slice none 0 0)).bl' (below1 _ (.cells #[.slice (some ⟨pb, 0, none⟩) gs.length pc] 32))).c
      exact bodyPost_ret (v := .tuple #[.agg #[.slice none 0 0], .bool false]) (by simp [results, Try.results25, go_sem, q1]) rfl ⟨_, by rw [hno]; rfl, ⟨[], by rw [hno]; exact Rdg.nil _ _⟩, (bw2.setCell (by show w.heap.size ≤ w.heap.size + 1; omega) _).alloc (by simp; omega) _⟩

end Go.Proofs.Ytdpoiabohkkbcaa

namespace Go.Proofs.Ytdpoiabohkkbcaa
open Go.RowKit

theorem M.turnThreads_get {ll : List (List M.D)} {row : List Int} (h : M.prog ll = true) : (M.turnThreads ll row).getD [] = M.turned [] row ll ∧ (M.turnThreads ll row).isSome = M.rowN row ll.length := by
  cases hr : M.rowN row ll.length
  · rw [M.turnThreads_row hr, M.turned_no hr]; exact ⟨rfl, rfl⟩
  · rw [M.turnThreads_yes h hr, M.turned_yes hr]; exact ⟨rfl, rfl⟩
theorem M.turned_small {ll mm : List (List M.D)} {row : List Int} (h : M.prog ll = true) (e : M.turned [] row ll = mm) : mm.length ≤ 3 ∧ ∀ t ∈ mm, t.length ≤ 7 :=
  M.turnThreads_small (ll := ll) (row := row) (by rw [(M.turnThreads_get h).1]; exact e)

set_option maxHeartbeats 1000000 in
set_option maxRecDepth 100000 in
theorem iturnThreads_any (a : Option Addr) (b o c : Nat) (ll : List (List M.D)) (hl : ll.length ≤ 1048576) (hls : ∀ t ∈ ll, t.length ≤ 1048576) (ga : Option Addr) (gb go gc : Nat) (gs : List Int) (hgl : gs.length ≤ 1048576) (w : World) (h : DoSS w a b o ll) (hG : IntS w ga gb go gs) :
    Calls Try.prog 17 #[.agg #[.slice a ll.length c], .slice ga gs.length gc] w fun e w' => ∃ v, e = .returned (.tuple #[.agg #[v], .bool (M.turnThreads ll gs).isSome]) ∧ (∃ vs, Rdg w' w.heap.size v ((M.turnThreads ll gs).getD []) vs) ∧ Below w.heap.size w w' := by
  have b2 := below2 w (.cells #[.slice a ll.length c] 25) (.cells #[.slice none 0 0] 25)
  have h2 := h.below b2 (Nat.le_refl _)
  have hG2 := hG.below b2 (Nat.le_refl _)
  have hX := (Slot1.new w (.slice a ll.length c) 25).bl' (below1 _ (.cells #[.slice none 0 0] 25))
  have hY := Slot1.new (w.alloc (.cells #[.slice a ll.length c] 25)) (.slice none 0 0) 25
  rw [World.size_alloc] at hY
  go_enter Try.func17, Try.ntmps17
  go_wp2_with fail
  generalize (w.alloc (.cells #[.slice a ll.length c] 25)).alloc (.cells #[.slice none 0 0] 25) = W at *
  have CP := iprog_any a b o c ll W hl hls h2
  cases hp : M.prog ll
  · rw [hp] at CP
    refine CP.mono ?_
    rintro e W1 ⟨rfl, b1⟩
    have hY1 := hY.bl' b1
    have y0 := hY1.c
    have yf := hY1.fz
    have ly := hY1.lt
    have bw1 := b2.trans (b1.mono b2.size)
    have hno := M.turnThreads_bad (row := gs) hp
    go_wp2_with fail
    have q1 := (hY1.set (.slice none 0 0)).c
    exact bodyPost_ret (v := .tuple #[.agg #[.slice none 0 0], .bool false]) (by simp [results, Try.results17, go_sem, q1]) rfl ⟨_, by rw [hno]; rfl, ⟨[], by rw [hno]; exact Rdg.nil _ _⟩, bw1.setCell (by show w.heap.size ≤ w.heap.size + 1; omega) _⟩
  · rw [hp] at CP
    obtain ⟨h3, h7⟩ := M.prog_le hp
    obtain ⟨e1, e2⟩ := M.turnThreads_get (row := gs) hp
    obtain ⟨mm, hmm⟩ : ∃ mm, M.turned [] gs ll = mm := ⟨_, rfl⟩
    obtain ⟨hm3, hm7⟩ := M.turned_small hp hmm
    obtain ⟨ok, hok⟩ : ∃ ok, M.rowN gs ll.length = ok := ⟨_, rfl⟩
    have E1 : Hid ((M.turnThreads ll gs).getD [] = mm) := e1.trans hmm
    have E2 : Hid ((M.turnThreads ll gs).isSome = ok) := e2.trans hok
    have CT := fun A B C D W x y => turnT_any ga gb go gc gs A B C D ll W hgl (by omega) x y
    rw [hmm, hok] at CT
    clear hp hmm hok e1 e2
    refine CP.mono ?_
    rintro e W1 ⟨rfl, b1⟩
    have h1 := h2.below b1 (Nat.le_refl _)
    have hG1 := hG2.below b1 (Nat.le_refl _)
    have hX1 := hX.bl' b1
    have hY1 := hY.bl' b1
    have bw1 := b2.trans (b1.mono b2.size)
    have x0 := hX1.c
    clear CP h2 hG2 hX hY b1 b2
    go_wp2_with fail
    refine (CT a b o c W1 hG1 h1).mono ?_
    rintro e W2 ⟨v2, rfl, ⟨a2, ⟨c2, rfl⟩, g2, hs2⟩, b2⟩
    go_wp2_with fail
    refine (copyProg_any a2 g2 0 c2 mm W2 (by omega) (fun t ht => by have := hm7 t ht; omega) hs2).mono ?_
    rintro e W3 ⟨v3, rfl, ⟨vs, hR⟩, b3⟩
    have hY3 := (hY1.bl' b2).bl' b3
    have y0 := hY3.c
    have yf := hY3.fz
    have ly := hY3.lt
    have ly1 := hY1.lt
    have b13 := b2.trans (b3.mono b2.size)
    have bw3 := bw1.trans (b13.mono bw1.size)
    have hsz := b2.size
    obtain ⟨av, gv, cv, rfl, _⟩ := hR.b.ss
    go_wp2_with fail
    have q1 := (hY3.set (.slice av mm.length cv)).c
    exact bodyPost_ret (v := .tuple #[.agg #[.slice av mm.length cv], .bool ok]) (by simp [results, Try.results17, go_sem, q1]) rfl ⟨_, by rw [E2.out], ⟨vs, by rw [E1.out]; exact (hR.far (by omega) _).mono (by have := bw1.size; omega)⟩, bw3.setCell (by show w.heap.size ≤ w.heap.size + 1; omega) _⟩

end Go.Proofs.Ytdpoiabohkkbcaa
