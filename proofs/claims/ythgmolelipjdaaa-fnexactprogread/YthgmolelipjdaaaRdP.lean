/- impl's ProgRead. Of whatever text. -/
import Derived.Test.YthgmolelipjdaaaRdT
namespace Go.Proofs.Ythgmolelipjdaaa
open Go.RowKit

/-- The program whose text this just is. -/
noncomputable def M.back (s : List UInt8) : Option (List (List M.D)) := if s.length ≤ 400 then (match M.rdText s with | some ll => if M.prog ll = true ∧ M.text ll = s then some ll else none | none => none) else none

theorem M.back_text {ll : List (List M.D)} (h : M.prog ll = true) : M.back (M.text ll) = some ll := by
  obtain ⟨h3, hth⟩ := M.prog_thread h
  have hl := M.sayProg_le ll (fun t ht => M.thread_le (hth t ht))
  have e : M.text ll = M.sayProg ll := by simp [M.text, h]
  unfold M.back
  rw [if_pos (by rw [e]; omega)]
  rw [e, M.rdText_back h]
  simp [h, e]
theorem M.back_ok {s : List UInt8} {ll : List (List M.D)} (h : M.back s = some ll) : M.prog ll = true ∧ M.text ll = s := by
  unfold M.back at h
  split at h
  · split at h
    · split at h
      · rename_i h2
        obtain ⟨rfl⟩ := h
        exact h2
      · cases h
    · cases h
  · cases h
theorem M.back_none {s : List UInt8} (h : M.back s = none) : ∀ ll, M.prog ll = true → M.text ll ≠ s := fun ll hp e => by
  rw [← e, M.back_text hp] at h
  cases h

set_option maxHeartbeats 1000000 in
set_option maxRecDepth 10000 in
theorem iprogRead_any (s : List UInt8) (w : World) (hs : s.length ≤ 9223372036854775807) (hm : HasMax w) :
    Calls Try.prog 12 #[.string ⟨s.toArray⟩] w fun e w' => ∃ v, e = .returned (.tuple #[.agg #[v], .bool (M.back s).isSome]) ∧ ∃ vs, Rdg w' (w.heap.size + 1) v ((M.back s).getD []) vs ∧ Below w.heap.size w w' := by
  by_cases h4 : s.length ≤ 400
  · have n4 : ¬ (400 : Int) < s.length := by omega
    go_enter Try.func12, Try.ntmps12
    go_wp2_with fail
    refine (readThreads_any s _ h4 (hm.below (below1 w _) (Nat.le_refl _))).mono ?_
    rintro e w1 ⟨v, rfl, vs, hR, hln, hb1⟩
    simp only [World.size_alloc] at hR
    have hQ1 := (Slot1.new w (.slice none 0 0) 25).bl hb1
    have hbw : Below w.heap.size w w1 := (below1 w _).trans (hb1.mono (by simp))
    have hll := M.lines_len ((M.rdText s).getD [])
    obtain ⟨a, g, c, rfl, hss⟩ := hR.b.ss
    cases hrd : M.rdText s with
    | none =>
      rw [hrd] at hR hln hll hss
      have hno : M.back s = none := by unfold M.back; rw [if_pos h4, hrd]
      simp only [Option.isSome_none, Option.getD_none] at *
      have q0 := hQ1.c
      have qf := hQ1.fz
      have ql := hQ1.lt
      go_wp2_with fail
      have q4 := ((hQ1.set (.slice none 0 0)).bl (below1 _ (.cells #[.slice a 0 c] 25))).c
      exact bodyPost_ret (v := .tuple #[.agg #[.slice none 0 0], .bool false]) (by simp [results, Try.results12, go_sem, q4]) rfl ⟨_, by rw [hno]; rfl, [], by rw [hno]; exact Rdg.nil _ _, (hbw.setCell (Nat.le_refl _) _).alloc (by have := hbw.size; simp; omega) _⟩
    | some ll =>
      rw [hrd] at hR hln hll hss
      simp only [Option.isSome_some, Option.getD_some] at *
      have hl1 : ll.length ≤ 1048576 := by omega
      have hl2 : ∀ t ∈ ll, t.length ≤ 1048576 := fun t ht => by have := hll.2 t ht; omega
      have hal := below1 w1 (.cells #[.slice a ll.length c] 25)
      have hR2 := hR.below hal
      have hss2 := hss.below hal (Nat.le_refl _)
      have hQ2 := hQ1.bl hal
      have hX2 := Slot1.new w1 (.slice a ll.length c) 25
      have hbw2 : Below w.heap.size w (w1.alloc (.cells #[.slice a ll.length c] 25)) := hbw.trans (hal.mono hbw.size)
      have hlt := hQ1.lt
      have HB : Hid (M.back s = if M.prog ll = true ∧ M.text ll = s then some ll else none) := by
        show _ = _
        unfold M.back
        rw [if_pos h4, hrd]
      go_wp2_with fail
      clear hal hR hss hQ1 hb1 hbw hrd
      generalize w1.alloc (.cells #[.slice a ll.length c] 25) = W2 at *
      generalize w1.heap.size = X at *
      refine (iprog_any a g 0 c ll W2 hl1 hl2 hss2).mono ?_
      rintro e W3 ⟨rfl, b3⟩
      have hR3 := hR2.below b3
      have hss3 := hss2.below b3 (Nat.le_refl _)
      have hQ3 := hQ2.bl b3
      have hX3 := hX2.bl b3
      have hbw3 := hbw2.trans (b3.mono hbw2.size)
      have q3 := hQ3.c
      have qf3 := hQ3.fz
      have x3 := hX3.c
      clear hR2 hss2 hQ2 hX2 hbw2 b3
      cases hp : M.prog ll
      · have hno : M.back s = none := by rw [HB.out, if_neg (by rw [hp]; simp)]
        go_wp2_with fail
        have q4 := (hQ3.set (.slice none 0 0)).c
        exact bodyPost_ret (v := .tuple #[.agg #[.slice none 0 0], .bool false]) (by simp [results, Try.results12, go_sem, q4]) rfl ⟨_, by rw [hno]; rfl, [], by rw [hno]; exact Rdg.nil _ _, hbw3.setCell (Nat.le_refl _) _⟩
      · go_wp2_with fail
        refine (iprogText_any a g 0 c ll W3 hl1 hl2 hss3).mono ?_
        rintro e W4 ⟨rfl, b4⟩
        have hR4 := hR3.below b4
        have hQ4 := hQ3.bl b4
        have hX4 := hX3.bl b4
        have hbw4 := hbw3.trans (b4.mono hbw3.size)
        clear hR3 hss3 hQ3 hX3 hbw3 b4 q3 qf3 x3
        have q4 := hQ4.c
        have qf4 := hQ4.fz
        have x4 := hX4.c
        by_cases ht : M.text ll = s
        · have hyes : M.back s = some ll := by rw [HB.out, if_pos ⟨hp, ht⟩]
          have hto : (M.text ll == s) = true := by simpa using ht
          go_wp2_with fail
          have q5 := (hQ4.set (.slice a ll.length c)).c
          exact bodyPost_ret (v := .tuple #[.agg #[.slice a ll.length c], .bool true]) (by simp [results, Try.results12, go_sem, q5]) rfl ⟨_, by rw [hyes]; rfl, vs, by rw [hyes]; exact (hR4.mono (by omega)).far (by omega) _, hbw4.setCell (Nat.le_refl _) _⟩
        · have hno : M.back s = none := by rw [HB.out, if_neg (fun h => ht h.2)]
          have hto : (M.text ll == s) = false := by simpa using ht
          go_wp2_with fail
          have q5 := (hQ4.set (.slice none 0 0)).c
          exact bodyPost_ret (v := .tuple #[.agg #[.slice none 0 0], .bool false]) (by simp [results, Try.results12, go_sem, q5]) rfl ⟨_, by rw [hno]; rfl, [], by rw [hno]; exact Rdg.nil _ _, hbw4.setCell (Nat.le_refl _) _⟩
  · have n4 : (400 : Int) < s.length := by omega
    have hno : M.back s = none := by unfold M.back; rw [if_neg h4]
    go_enter Try.func12, Try.ntmps12
    go_wp2_with fail
    exact bodyPost_ret (v := .tuple #[.agg #[.slice none 0 0], .bool false]) (by simp [results, Try.results12, go_sem]) rfl ⟨_, by rw [hno]; rfl, [], by rw [hno]; exact Rdg.nil _ _, below1 w _⟩

end Go.Proofs.Ythgmolelipjdaaa
