/- impl.changeSteps: a program in rows of its own, each step changed by a closure that is met by its contract. Of at most 3 threads of at most 7 steps. -/
import Derived.Test.YtnaljfnijcoheaaTnMm
import Derived.Test.YtnaljfnijcoheaaTnCp
namespace Go.Proofs.Ytnaljfnijcoheaa
open Go.RowKit

theorem Rdg.step {w w' : World} {B n k g m cap : Nat} {v : Value} {f : M.D → M.D} {ll : List (List M.D)} {vs : List Value} (h : Rdg w B v (M.cur f n k ll) vs) (hn : n < ll.length) (hk : k < ll[n].length) (hv : n < vs.length) (he : vs[n] = .slice (some ⟨g, 0, none⟩) m cap) (hc : Chg w w' g (k * 3) ll[n][k] (f ll[n][k])) :
    Rdg w' B v (M.cur f n (k + 1) ll) vs ∧ w.grownBy w' (some g) ∧ B ≤ g := by
  have hn' : n < (M.cur f n k ll).length := by rw [M.cur_len]; exact hn
  have e := M.cur_get f n k ll hn hn'
  have hk' : k < ((M.cur f n k ll)[n]'hn').length := by rw [e, M.curT_len]; exact hk
  have e2 : ((M.cur f n k ll)[n]'hn')[k]'hk' = ll[n][k] := by
    have key : ∀ (l : List M.D) (h : k < l.length), l = M.curT f k ll[n] → l[k] = ll[n][k] := by
      intro l h e; subst e; exact M.curT_get f k ll[n] hk h
    exact key _ hk' e
  have r := h.chg hn' hv he hk' (by rw [e2]; exact hc)
  rw [e, M.cur_set f n k ll hn hk] at r
  exact r
theorem Rdg.cur_at {w : World} {B n k : Nat} {v : Value} {f : M.D → M.D} {ll : List (List M.D)} {vs : List Value} (h : Rdg w B v (M.cur f n k ll) vs) (hn : n < ll.length) (hv : n < vs.length) :
    ∃ a' c', vs[n] = .slice a' ll[n].length c' ∧ ∀ hk : k < ll[n].length, ∃ g, a' = some ⟨g, 0, none⟩ ∧ B ≤ g ∧ DoAt w g (k * 3) ll[n][k] ∧ ∀ i, w.frozen? ⟨g, i, none⟩ = false := by
  have hn' : n < (M.cur f n k ll).length := by rw [M.cur_len]; exact hn
  have e := M.cur_get f n k ll hn hn'
  obtain ⟨a', c', e1, h1⟩ := h.inner_at hn' hv
  rw [e, M.curT_len] at e1 h1
  refine ⟨a', c', e1, fun hk => ?_⟩
  obtain ⟨g, rfl, hB, hr, hf⟩ := h1 (by omega)
  have := hr k (by rw [M.curT_len]; exact hk)
  rw [Nat.zero_add, M.curT_get f k _ hk] at this
  exact ⟨g, rfl, hB, this, hf⟩

set_option maxHeartbeats 2000000 in
set_option maxRecDepth 10000 in
theorem changeQ_any (a : Option Addr) (b o c : Nat) (ll : List (List M.D)) (f : M.D → M.D) (w : World) (h3 : ll.length ≤ 3) (h7 : ∀ t ∈ ll, t.length ≤ 7) (h : DoSS w a b o ll)
    (hcl : ∀ (W : World) (g off : Nat) (d : M.D), Below w.heap.size w W → w.heap.size ≤ g → (∃ t ∈ ll, d ∈ t) → DoAt W g off d → (∀ i, W.frozen? ⟨g, i, none⟩ = false) → Calls Try.prog 72 #[.pointer (some ⟨g, off, none⟩)] W fun e w' => e = .returned (.tuple #[]) ∧ Chg W w' g off d (f d)) :
    Calls Try.prog 71 #[.agg #[.slice a ll.length c], .func (.func 72) #[] #[]] w fun e w' => ∃ v, e = .returned (.agg #[v]) ∧ (∃ vs, Rdg w' w.heap.size v (M.mapS f ll) vs) ∧ Below w.heap.size w w' := by
  have b2 := below2 w (.cells #[.slice a ll.length c] 25) (.cells #[.slice none 0 0] 25)
  have h2 := h.below b2 (Nat.le_refl _)
  have hY := Slot1.new (w.alloc (.cells #[.slice a ll.length c] 25)) (.slice none 0 0) 25
  rw [World.size_alloc] at hY
  have hsz : ((w.alloc (.cells #[.slice a ll.length c] 25)).alloc (.cells #[.slice none 0 0] 25)).heap.size = w.heap.size + 2 := by simp
  go_enter Try.func71, Try.ntmps71
  go_wp2_with fail
  generalize (w.alloc (.cells #[.slice a ll.length c] 25)).alloc (.cells #[.slice none 0 0] 25) = W at *
  refine (copyProg_any a b o c ll W (by omega) (fun t ht => by have := h7 t ht; omega) h2).mono ?_
  rintro e W1 ⟨v1, rfl, ⟨vs, hR1⟩, b1⟩
  obtain ⟨av, gv0, cv, rfl, _⟩ := hR1.b.ss
  have HV : ∀ i (hi : i < vs.length) k, vs[i].ownBlock = some k → k < W1.heap.size := fun i hi k hk => ((hR1.b.inner i (by have := hR1.b.len; omega) hi).lt k hk).2
  have bA := below1 W1 (.cells #[.slice av ll.length cv] 25)
  have hRA := (hR1.below bA).mono (show w.heap.size + 2 ≤ W.heap.size by omega)
  have bw1 := b2.trans (b1.mono b2.size)
  have bwA := bw1.trans (bA.mono bw1.size)
  have hYA := (hY.bl' b1).bl' bA
  have hC := Slot1.new W1 (.slice av ll.length cv) 25
  have hb1s : w.heap.size + 2 ≤ W1.heap.size := by have := b1.size; omega
  clear hR1 hY h2 b1 b2 bw1 hsz
  go_wp2_with fail
  generalize W1.alloc (.cells #[.slice av ll.length cv] 25) = WA at *
  generalize W1.heap.size = C at *
  have hlenA : (M.cur f 0 0 ll).length = ll.length := M.cur_len _ _ _ _
  go_loopw [14] (fun s14 wr => ∃ n : Nat, s14 = .int .i64 n ∧ n ≤ ll.length ∧ Rdg wr (w.heap.size + 2) (.slice av ll.length cv) (M.cur f n 0 ll) vs ∧ Slot1 wr C (.slice av ll.length cv) ∧ Slot1 wr (w.heap.size + 1) (.slice none 0 0) ∧ Below w.heap.size w wr) (fun s14 _ => ll.length - (intOf s14).toNat)
  case atStart => exact ⟨0, rfl, Nat.zero_le _, by rw [M.cur_zero]; exact hRA, hC, hYA, bwA⟩
  case round =>
    obtain ⟨n, rfl, hn, hR, hP, hQ, hbel⟩ := hrel
    clear hRA hC hYA bwA hlenA
    by_cases hlt : n < ll.length
    · have hR' := hR
      rw [← M.cur_len f n 0 ll] at hR'
      obtain ⟨gv, rfl, hv, hc⟩ := hR'.outer_at (n := n) (by rw [M.cur_len]; exact hlt)
      obtain ⟨a', c', e1, hin⟩ := hR.cur_at hlt hv
      rw [e1] at hc
      have ht7 := h7 _ (List.getElem_mem hlt)
      have i1 : (n : Int) < ll.length := by omega
      have HT : Hid (∀ k (hk : k < ll[n].length), ∃ t ∈ ll, ll[n][k] ∈ t) := fun k hk => ⟨ll[n], List.getElem_mem hlt, List.getElem_mem hk⟩
      have HS : Hid (∀ (k g : Nat) (W W' : World) (hk : k < ll[n].length), a' = some ⟨g, 0, none⟩ → Rdg W (w.heap.size + 2) (.slice (some ⟨gv, 0, none⟩) ll.length cv) (M.cur f n k ll) vs → Chg W W' g (k * 3) ll[n][k] (f ll[n][k]) → Rdg W' (w.heap.size + 2) (.slice (some ⟨gv, 0, none⟩) ll.length cv) (M.cur f n (k + 1) ll) vs ∧ W.grownBy W' (some g) ∧ w.heap.size + 2 ≤ g ∧ g < C) := by
        intro k g W W' hk ha hr hch
        subst ha
        have r := hr.step hlt hk hv e1 hch
        exact ⟨r.1, r.2.1, r.2.2, HV n hv g (by rw [e1]; rfl)⟩
      have HA : Hid (∀ (k : Nat) (W : World), Rdg W (w.heap.size + 2) (.slice (some ⟨gv, 0, none⟩) ll.length cv) (M.cur f n k ll) vs → ∀ hk : k < ll[n].length, ∃ g, a' = some ⟨g, 0, none⟩ ∧ w.heap.size + 2 ≤ g ∧ DoAt W g (k * 3) ll[n][k] ∧ ∀ i, W.frozen? ⟨g, i, none⟩ = false) := by
        intro k W hr hk
        obtain ⟨a2, c2, e2, h2⟩ := hr.cur_at hlt hv
        rw [e1] at e2
        obtain ⟨rfl, _, rfl⟩ := Value.slice.inj e2
        exact h2 hk
      have HN : Hid (∀ k, ll[n].length ≤ k → M.cur f n k ll = M.cur f (n + 1) 0 ll) := fun k hk => M.cur_next f n k ll hlt hk
      clear hin e1 hR'
      generalize ll[n] = t at *
      go_wp2_with fail
      go_loopw [20] (fun s20 wi => ∃ k : Nat, s20 = .int .i64 k ∧ k ≤ t.length ∧ Rdg wi (w.heap.size + 2) (.slice (some ⟨gv, 0, none⟩) ll.length cv) (M.cur f n k ll) vs ∧ Slot1 wi C (.slice (some ⟨gv, 0, none⟩) ll.length cv) ∧ Slot1 wi (w.heap.size + 1) (.slice none 0 0) ∧ Below w.heap.size w wi) (fun s20 _ => t.length - (intOf s20).toNat)
      case atStart => exact ⟨0, rfl, Nat.zero_le _, hR, hP, hQ, hbel⟩
      case round =>
        obtain ⟨k, rfl, hk, hR, hP, hQ, hbel⟩ := hrel
        by_cases hkt : k < t.length
        · obtain ⟨g, rfl, hg, hd, hf⟩ := HA.out k _ hR hkt
          have j1 : (k : Int) < t.length := by omega
          have HS1 : Hid (∀ W', Chg wr W' g (k * 3) t[k] (f t[k]) → Rdg W' (w.heap.size + 2) (.slice (some ⟨gv, 0, none⟩) ll.length cv) (M.cur f n (k + 1) ll) vs ∧ wr.grownBy W' (some g) ∧ w.heap.size + 2 ≤ g ∧ g < C) := fun W' hch => HS.out k g wr W' hkt rfl hR hch
          have CC := hcl wr g (k * 3) t[k] hbel (by omega) (HT.out k hkt) hd hf
          generalize t[k] = d at *
          go_wp2_with (first | (go_at_call 72; refine CC.mono ?_; rintro e W2 ⟨rfl, hch⟩))
          obtain ⟨r1, r2, r3, r4⟩ := HS1.out _ hch
          exact ⟨⟨k + 1, by go_num, by omega, r1, hP.apart r2 (fun e => by have := Option.some.inj e; omega), hQ.apart r2 (fun e => by have := Option.some.inj e; omega), below_grown hbel r2 (fun j hj => by have := Option.some.inj hj; omega) hbel.size⟩, by simp [intOf]; omega⟩
        · have j1 : ¬ (k : Int) < t.length := by omega
          rw [HN.out k (by omega)] at hR
          go_wp2_with fail
          exact ⟨⟨n + 1, by go_num, by omega, hR, hP, hQ, hbel⟩, by simp [intOf]; omega⟩
    · rw [M.cur_all f n 0 ll (by omega)] at hR
      have i1 : ¬ (n : Int) < ll.length := by omega
      have p0 := hP.c
      have pf := hP.fz
      have q0 := hQ.c
      have qf := hQ.fz
      have lP := hP.lt
      have lQ := hQ.lt
      have hne : w.heap.size + 1 ≠ C := by omega
      go_wp2_with fail
      have q1 := (hQ.set (.slice av ll.length cv)).c
      exact bodyPost_ret (v := .agg #[.slice av ll.length cv]) (by simp [results, Try.results71, go_sem, q1]) rfl ⟨_, rfl, ⟨vs, (hR.far (by omega) _).mono (by omega)⟩, hbel.setCell (by show w.heap.size ≤ w.heap.size + 1; omega) _⟩

end Go.Proofs.Ytnaljfnijcoheaa
