/- impl.TurnPlain. Of at most 1048576 threads, and steps of a thread. -/
import Derived.Test.YtnaljfnijcoheaaTnCs
namespace Go.Proofs.Ytnaljfnijcoheaa
open Go.RowKit

set_option maxHeartbeats 400000 in
theorem plain_any (k : Int) (w : World) :
    Calls Try.prog 73 #[.int .i64 k] w fun e w' => e = .returned (.int .i64 (M.plainK k)) ∧ w' = w := by
  by_cases h5 : k = 5
  · subst h5
    go_enter Try.func73, Try.ntmps73
    go_wp2_with fail
    go_ret
    exact ⟨rfl, rfl⟩
  · have h5' : (k == 5) = false := by simpa using h5
    by_cases h6 : k = 6
    · subst h6
      go_enter Try.func73, Try.ntmps73
      go_wp2_with fail
      go_ret
      exact ⟨rfl, rfl⟩
    · have h6' : (k == 6) = false := by simpa using h6
      go_enter Try.func73, Try.ntmps73
      go_wp2_with fail
      go_ret
      exact ⟨by simp [M.plainK, h5, h6], rfl⟩

set_option maxHeartbeats 1000000 in
theorem plainC_any (g off : Nat) (d : M.D) (W : World) (hd : DoAt W g off d) (hf : ∀ i, W.frozen? ⟨g, i, none⟩ = false) :
    Calls Try.prog 72 #[.pointer (some ⟨g, off, none⟩)] W fun e w' => e = .returned (.tuple #[]) ∧ Chg W w' g off d (M.plainF d) := by
  obtain ⟨kk, pp, vv⟩ := d
  obtain ⟨ck, cp, cv⟩ := hd
  have f0 := hf off
  go_enter Try.func72, Try.ntmps72
  go_wp2_with (go_at_call 73; refine (plain_any _ _).mono ?_; rintro e w' ⟨rfl, rfl⟩)
  exact bodyPost_end (v := .tuple #[]) (results_none Try.results72 _ _ _) rfl ⟨rfl, 0, Or.inr (Or.inl ⟨rfl, rfl, rfl⟩)⟩

set_option maxHeartbeats 1000000 in
theorem iturnPlain_any (a : Option Addr) (b o c : Nat) (ll : List (List M.D)) (hl : ll.length ≤ 1048576) (hls : ∀ t ∈ ll, t.length ≤ 1048576) (w : World) (h : DoSS w a b o ll) :
    Calls Try.prog 36 #[.agg #[.slice a ll.length c]] w fun e w' => ∃ v, e = .returned (.agg #[v]) ∧ (∃ vs, Rdg w' w.heap.size v (M.turnPlain ll) vs) ∧ Below w.heap.size w w' := by
  have b2 := below2 w (.cells #[.slice a ll.length c] 25) (.cells #[.slice none 0 0] 25)
  have h2 := h.below b2 (Nat.le_refl _)
  have hX := (Slot1.new w (.slice a ll.length c) 25).bl' (below1 _ (.cells #[.slice none 0 0] 25))
  have hY := Slot1.new (w.alloc (.cells #[.slice a ll.length c] 25)) (.slice none 0 0) 25
  rw [World.size_alloc] at hY
  go_enter Try.func36, Try.ntmps36
  go_wp2_with fail
  generalize (w.alloc (.cells #[.slice a ll.length c] 25)).alloc (.cells #[.slice none 0 0] 25) = W at *
  have CP := iprog_any a b o c ll W hl hls h2
  cases hp : M.prog ll
  · rw [hp] at CP
    refine CP.mono ?_
    rintro e W1 ⟨rfl, b1⟩
    have hY1 := hY.bl' b1
    have y0 := hY1.c
    have yf := hY1.fz
    have ly := hY1.lt
    have bw1 := b2.trans (b1.mono b2.size)
    have hno := M.turnPlain_bad hp
    go_wp2_with fail
    have q1 := (hY1.set (.slice none 0 0)).c
    exact bodyPost_ret (v := .agg #[.slice none 0 0]) (by simp [results, Try.results36, go_sem, q1]) rfl ⟨_, rfl, ⟨[], by rw [hno]; exact Rdg.nil _ _⟩, bw1.setCell (by show w.heap.size ≤ w.heap.size + 1; omega) _⟩
  · rw [hp] at CP
    obtain ⟨h3, h7⟩ := M.prog_le hp
    have HY : Hid (M.turnPlain ll = M.mapS M.plainF ll) := M.turnPlain_yes hp
    clear hp
    refine CP.mono ?_
    rintro e W1 ⟨rfl, b1⟩
    have h1 := h2.below b1 (Nat.le_refl _)
    have hX1 := hX.bl' b1
    have hY1 := hY.bl' b1
    have bw1 := b2.trans (b1.mono b2.size)
    have x0 := hX1.c
    have ly1 := hY1.lt
    clear CP h2 hX hY b1 b2
    go_wp2_with fail
    refine (changeQ_any a b o c ll M.plainF W1 h3 h7 h1 (fun Wx g off d _ _ _ hda hf => plainC_any g off d Wx hda hf)).mono ?_
    rintro e W3 ⟨v3, rfl, ⟨vs, hR⟩, b3⟩
    have hY3 := hY1.bl' b3
    have y0 := hY3.c
    have yf := hY3.fz
    have ly := hY3.lt
    have bw3 := bw1.trans (b3.mono bw1.size)
    obtain ⟨av, gv, cv, rfl, _⟩ := hR.b.ss
    rw [M.mapS_len] at hR ⊢
    go_wp2_with fail
    have q1 := (hY3.set (.slice av ll.length cv)).c
    exact bodyPost_ret (v := .agg #[.slice av ll.length cv]) (by simp [results, Try.results36, go_sem, q1]) rfl ⟨_, rfl, ⟨vs, by rw [HY.out]; exact (hR.far (by omega) _).mono (by have := bw1.size; omega)⟩, bw3.setCell (by show w.heap.size ≤ w.heap.size + 1; omega) _⟩

end Go.Proofs.Ytnaljfnijcoheaa
