/- What an argument of a law reads as: numbers, in memory. No condition. What an argument of a law reads as: what was seen, in memory. No condition. What an argument of the law reads as: a program in memory. No condition. Small facts for the rows' proofs. No condition. Small facts for the rows' proofs. No condition. Proved: whatever program, whatever was seen and whatever row FnExactTurnSeen is handed, it answers true (impl's TurnSeen answers as the model's, and writes into no argument) and its arguments read behind the call as before. No condition. -/
import Derived.ProofKit
import Derived.Deep.Slices
import Derived.Deep.Strs
import Derived.Test.YtkiolnjjhjokoaaSnMem
import Derived.ChangeSlices
import Derived.Test.YtkiolnjjhjokoaaMem
import Derived.Test.YtkiolnjjhjokoaaIProg
import Derived.Test.YtkiolnjjhjokoaaRows
import Derived.Test.YtkiolnjjhjokoaaLawTs

namespace Go.Proofs.Ytkiolnjjhjokoaa
open Go.ChangeShapes Go.WideShapes Go.ChangeAt Go.RowKit Go.Deep

theorem Try.cellsInt : Try.prog.cellsOf 3 = 1 := by kernel_rfl
theorem Try.cells26 : Try.prog.cellsOf 26 = 1 := by kernel_rfl

/-- All are numbers of 64 bits. -/
def Wf (l : List Int) : Prop := ∀ n ∈ l, (Lit.int .i64 n).wf = true

section
variable {H : Type} {enc : TypeId × Value → H} {w : World} {base : Nat} {spare : Nat → Bool} {held : Bool}

set_option maxRecDepth 100000 in
theorem open_nums {fuel : Nat} {u : Value} {x : DataW H × List MemPlace} (h : DataW.trod enc Try.prog w base spare held fuel 26 [u] = some x) : ∃ a b o c, ∃ l : List Int, u = .slice a l.length c ∧ l.length ≤ maxLen ∧ IntS w a b o l ∧ Wf l := by
  rcases open_ints Try.underlying26 Try.underlying3 Try.cellsInt h with ⟨hcs, _⟩ | ⟨a, len, cap, zs, hcs, _, hl, hm, hmm, _, hel, hwf⟩
  · simp at hcs
    exact ⟨none, 0, 0, 0, [], hcs, Nat.zero_le _, IntS.nil _ _ _ _, fun n hn => absurd hn (by simp)⟩
  · simp at hcs
    obtain ⟨gb, go, gs⟩ := a
    have hlm : len ≤ zs.length := by rw [hmm]; split <;> omega
    have hlen : (zs.take len).length = len := by simp; omega
    rcases Nat.eq_zero_or_pos len with h0 | hpos
    · subst h0
      exact ⟨_, 0, 0, cap, [], hcs, Nat.zero_le _, IntS.nil _ _ _ _, fun n hn => absurd hn (by simp)⟩
    · have hgs : gs = none := by simpa [Addr.add] using World.cell?_spot (hel 0 (by omega))
      subst hgs
      refine ⟨_, gb, go, cap, zs.take len, by rw [hlen]; exact hcs, by rw [hlen]; omega, ⟨fun _ => rfl, fun i hi => ?_⟩, fun n hn => hwf n (List.mem_of_mem_take hn)⟩
      rw [hlen] at hi
      have := hel i (by omega)
      rw [add_plain] at this
      rw [this, List.getElem_take, List.getD_eq_getElem?_getD, List.getElem?_eq_getElem (by omega)]
      rfl

end
end Go.Proofs.Ytkiolnjjhjokoaa

namespace Go.Proofs.Ytkiolnjjhjokoaa
open Go.ChangeShapes Go.WideShapes Go.ChangeAt Go.RowKit Go.Deep

theorem Try.cells42 : Try.prog.cellsOf 42 = 2 := by kernel_rfl

section
variable {H : Type} {enc : TypeId × Value → H} {w : World} {base : Nat} {spare : Nat → Bool} {held : Bool}

set_option maxRecDepth 100000 in
theorem open_seen {fuel : Nat} {cs : List Value} {x : DataW H × List MemPlace} (h : DataW.trod enc Try.prog w base spare held fuel 42 cs = some x) : ∃ s : Sn, cs = [.slice s.a1 s.l1.length s.c1, .slice s.a2 s.l2.length s.c2] ∧ s.Le maxLen ∧ s.At w ∧ Wf s.l1 ∧ Wf s.l2 := by
  obtain ⟨y0, y1, n, _, hl, t0, t1⟩ := trod_struct2 Try.underlying42 h
  rw [Try.cells42] at hl
  match cs, hl with
  | [u0, u1], _ =>
    have t0' : DataW.trod enc Try.prog w base spare held n 26 [u0] = some y0 := by simpa [Try.cells26] using t0
    have t1' : DataW.trod enc Try.prog w base spare held n 26 [u1] = some y1 := by simpa [Try.cells26] using t1
    obtain ⟨a1, b1, o1, c1, l1, e1, h1, i1, f1⟩ := open_nums t0'
    obtain ⟨a2, b2, o2, c2, l2, e2, h2, i2, f2⟩ := open_nums t1'
    exact ⟨⟨a1, b1, o1, c1, l1, a2, b2, o2, c2, l2⟩, by rw [e1, e2], ⟨h1, h2⟩, ⟨i1, i2⟩, f1, f2⟩

end
end Go.Proofs.Ytkiolnjjhjokoaa

namespace Go.Proofs.Ytkiolnjjhjokoaa
open Go.ChangeShapes Go.WideShapes Go.ChangeAt Go.RowKit Go.Deep

theorem Try.cells102 : Try.prog.cellsOf 102 = 3 := by kernel_rfl
theorem Try.cells93 : Try.prog.cellsOf 93 = 1 := by kernel_rfl
theorem Try.cells39 : Try.prog.cellsOf 39 = 1 := by kernel_rfl
theorem Try.cells41 : Try.prog.cellsOf 41 = 1 := by kernel_rfl
theorem Try.cells3 : Try.prog.cellsOf 3 = 1 := by kernel_rfl

section
variable {H : Type} {enc : TypeId × Value → H} {w : World} {base : Nat} {spare : Nat → Bool} {held : Bool}

set_option maxRecDepth 100000 in
theorem open_step {fuel : Nat} {cs : List Value} {x : DataW H × List MemPlace} (h : DataW.trod enc Try.prog w base spare held fuel 102 cs = some x) : ∃ k p v : Int, cs = [.int .i64 k, .int .i64 p, .int .i64 v] := by
  obtain ⟨y0, y1, y2, n, _, hl, t0, t1, t2⟩ := trod_struct3 Try.underlying102 h
  rw [Try.cells102] at hl
  match cs, hl with
  | [c0, c1, c2], _ =>
    obtain ⟨k, e0, _, _⟩ := DataW.trod_int Try.underlying3 t0
    obtain ⟨p, e1, _, _⟩ := DataW.trod_int Try.underlying3 t1
    obtain ⟨v, e2, _, _⟩ := DataW.trod_int Try.underlying3 t2
    simp [Try.cells3] at e0 e1 e2
    exact ⟨k, p, v, by rw [e0, e1, e2]⟩

set_option maxRecDepth 100000 in
theorem open_thread {fuel : Nat} {u : Value} {x : DataW H × List MemPlace} (h : DataW.trod enc Try.prog w base spare held fuel 93 [u] = some x) : ∃ a b o c, ∃ l : List M.D, u = .slice a l.length c ∧ l.length ≤ maxLen ∧ DoS w a b o l := by
  rcases open_slice Try.underlying93 h with ⟨hcs, _⟩ | ⟨a, len, cap, m, n, D, Pl, hcs, _, hl, hm, hmm, _, hel⟩
  · simp at hcs
    exact ⟨none, 0, 0, 0, [], hcs, Nat.zero_le _, ⟨fun h => absurd h (Nat.lt_irrefl _), fun i hi => absurd hi (Nat.not_lt_zero _)⟩⟩
  · simp at hcs
    obtain ⟨gb, go, gs⟩ := a
    have hlm : len ≤ m := by rw [hmm]; split <;> omega
    rw [Try.cells102] at hel
    rcases Nat.eq_zero_or_pos len with h0 | hpos
    · subst h0
      exact ⟨_, 0, 0, cap, [], hcs, Nat.zero_le _, ⟨fun h => absurd h (Nat.lt_irrefl _), fun i hi => absurd hi (Nat.not_lt_zero _)⟩⟩
    · have key : ∀ i, i < len → ∃ d : M.D, w.cell? ((Addr.mk gb go gs).add (i * 3) |>.add 0) = some (.int .i64 d.k) ∧ w.cell? ((Addr.mk gb go gs).add (i * 3) |>.add 1) = some (.int .i64 d.p) ∧ w.cell? ((Addr.mk gb go gs).add (i * 3) |>.add 2) = some (.int .i64 d.v) := fun i hi => by
        obtain ⟨cs', h1, h2⟩ := hel i (by omega)
        obtain ⟨k, p, v, rfl⟩ := open_step h2
        have hc := (World.cells?_some h1).2.2
        exact ⟨⟨k, p, v⟩, hc 0 (by omega), hc 1 (by omega), hc 2 (by omega)⟩
      have hgs : gs = none := by
        obtain ⟨d, hk, _⟩ := key 0 hpos
        simpa [Addr.add] using World.cell?_spot hk
      subst hgs
      haveI : Inhabited M.D := ⟨⟨0, 0, 0⟩⟩
      obtain ⟨f, hf⟩ := choose_lt (α := M.D) key
      refine ⟨_, gb, go, cap, (List.range len).map f, by simp only [List.length_map, List.length_range]; exact hcs, by simp; omega, ⟨fun _ => rfl, fun i hi => ?_⟩⟩
      simp only [List.length_map, List.length_range] at hi
      obtain ⟨hk, hp, hv⟩ := hf i hi
      simp only [add_plain] at hk hp hv
      rw [List.getElem_map, List.getElem_range]
      exact ⟨hk, hp, hv⟩

set_option maxRecDepth 100000 in
theorem open_threads {fuel : Nat} {u : Value} {x : DataW H × List MemPlace} (h : DataW.trod enc Try.prog w base spare held fuel 39 [u] = some x) :
    ∃ a b o c, ∃ ll : List (List M.D), u = .slice a ll.length c ∧ ll.length ≤ maxLen ∧ (∀ t ∈ ll, t.length ≤ maxLen) ∧ DoSS w a b o ll := by
  rcases open_slice1 Try.underlying39 Try.cells93 h with ⟨hcs, _⟩ | ⟨a, len, cap, m, n, V, D, Pl, hcs, _, hl, hm, hmm, _, hel⟩
  · simp at hcs
    exact ⟨none, 0, 0, 0, [], hcs, Nat.zero_le _, fun t ht => absurd ht (by simp), ⟨fun h => absurd h (Nat.lt_irrefl _), fun i hi => absurd hi (Nat.not_lt_zero _)⟩⟩
  · simp at hcs
    obtain ⟨gb, go, gs⟩ := a
    have hlm : len ≤ m := by rw [hmm]; split <;> omega
    rcases Nat.eq_zero_or_pos len with h0 | hpos
    · subst h0
      exact ⟨_, 0, 0, cap, [], hcs, Nat.zero_le _, fun t ht => absurd ht (by simp), ⟨fun h => absurd h (Nat.lt_irrefl _), fun i hi => absurd hi (Nat.not_lt_zero _)⟩⟩
    · have hgs : gs = none := by simpa [Addr.add] using World.cell?_spot (hel 0 (by omega)).1
      subst hgs
      have key : ∀ i, i < len → ∃ l : List M.D, l.length ≤ maxLen ∧ ∃ a' b' o' c', w.cell? ⟨gb, go + i, none⟩ = some (.slice a' l.length c') ∧ DoS w a' b' o' l := fun i hi => by
        obtain ⟨h1, h2⟩ := hel i (by omega)
        obtain ⟨a', b', o', c', l, e, hll, hs⟩ := open_thread h2
        rw [add_plain, e] at h1
        exact ⟨l, hll, a', b', o', c', h1, hs⟩
      obtain ⟨f, hf⟩ := choose_lt (α := List M.D) key
      refine ⟨_, gb, go, cap, (List.range len).map f, by simp only [List.length_map, List.length_range]; exact hcs, by simp; omega, fun t ht => ?_, ⟨fun _ => rfl, fun i hi => ?_⟩⟩
      · obtain ⟨i, hi, rfl⟩ := List.mem_map.1 ht
        exact (hf i (List.mem_range.1 hi)).1
      · simp only [List.length_map, List.length_range] at hi
        rw [List.getElem_map, List.getElem_range]
        exact (hf i hi).2

end
end Go.Proofs.Ytkiolnjjhjokoaa

namespace Go.Proofs.Ytkiolnjjhjokoaa
open Go.ChangeShapes Go.WideShapes Go.ChangeAt Go.RowKit Go.Deep

theorem Try.own : ownKnob Try.prog.godebug = none := by kernel_rfl
theorem Try.laidOut : laidOutB Try.prog = true := by kernel_rfl

theorem one_of_size {cs : Array Value} (h : cs.size = 1) : ∃ u, cs = #[u] := by
  obtain ⟨l⟩ := cs
  match l, h with
  | [u], _ => exact ⟨u, rfl⟩
end Go.Proofs.Ytkiolnjjhjokoaa

namespace Go.Proofs.Ytkiolnjjhjokoaa
open Go.ChangeShapes Go.WideShapes Go.ChangeAt Go.RowKit Go.Deep

theorem field_one {H : Type} {enc : TypeId × Value → H} {w : World} {base n : Nat} {spare : Nat → Bool} {held : Bool} {u : Value} {y : DataW H × List MemPlace}
    (h : DataW.trod enc Try.prog w base spare held n 39 (((Value.agg #[u]).cells.toList.drop 0).take (Try.prog.cellsOf 39)) = some y) : DataW.trod enc Try.prog w base spare held n 39 [u] = some y := by
  simpa [Value.cells, Try.cells39] using h

end Go.Proofs.Ytkiolnjjhjokoaa

namespace Go.Proofs.Ytkiolnjjhjokoaa
open Go.ChangeShapes Go.WideShapes Go.ChangeAt Go.RowKit Go.Deep

theorem two_of_cells {cs : Array Value} {u v : Value} (h : (Value.agg cs).cells.toList = [u, v]) : cs = #[u, v] := by
  simp only [Value.cells] at h
  obtain ⟨l⟩ := cs
  simpa using h

set_option maxRecDepth 100000 in
theorem turnSeen_lifted (os : Os) (started : os.Started) (H : Type) (enc : TypeId × Value → H) :
    ReturnsInHanded {} Try.checked os 4 .any (Rows.fnExactTurnSeenSpec.pre6 enc Try.prog Try.f4 Rows.fnExactTurnSeenRow.domain false) (Rows.fnExactTurnSeenSpec.post enc Try.prog Try.f4 false true false false) := by
  refine returnsInHanded_of_change (C := Try.checked) Try.own started (by kernel_rfl) Try.func4
    (ChangeSpec.witness6 (enc := enc) (C := Try.checked) false ⟨#[], #[.agg #[.slice none 0 0], .agg #[.slice none 0 0, .slice none 0 0], .slice none 0 0], []⟩ 8 (by kernel_rfl) (by kernel_rfl) (by kernel_rfl) (by kernel_rfl)) ?_
  intro W base args ds gs before hval0 hW hcnd _
  have hval : ∀ (j : Nat) t v, Try.f4.params[j]? = some t → args[j]? = some v → Value.okWide Try.prog W .any base t v := hval0
  have hW' := hW
  obtain ⟨p, q, hA0, hV, rfl, hfz, hnd⟩ := hW
  have hA : DataW.TrodAll enc Try.prog W 0 (fun _ => true) true Try.f4.params.toList args.toList ds p := hA0
  rw [Try.params4] at hA hval
  obtain ⟨v0, v1, v2, d0, d1, d2, p0, p1, p2, rfl, rfl, rfl, h0, h1, h2⟩ := trodAll_three hA
  obtain ⟨rfl, rfl⟩ := trodVars_none hV
  obtain ⟨cs, rfl, hsz⟩ := okWide_struct Try.underlying41 (hval 0 41 v0 rfl rfl)
  obtain ⟨cs', rfl, _⟩ := okWide_struct Try.underlying42 (hval 1 42 v1 rfl rfl)
  obtain ⟨sa, sn, sc, rfl⟩ := okWide_slice Try.underlying26 (hval 2 26 v2 rfl rfl)
  have h0k := h0
  have h1k := h1
  have h2k := h2
  obtain ⟨fuel, hf⟩ := h0
  obtain ⟨fuel', hf'⟩ := h1
  obtain ⟨fuel2, hf2⟩ := h2
  rw [Try.cells41] at hsz
  obtain ⟨y0, n, _, _, t0⟩ := trod_struct1 Try.underlying41 hf
  obtain ⟨u, rfl⟩ := one_of_size hsz
  have t1 := field_one t0
  obtain ⟨a, b, o, c, ll, rfl, hl, hls, hss⟩ := open_threads t1
  obtain ⟨t, ect, ht, ta, _, _⟩ := open_seen hf'
  obtain rfl := two_of_cells ect
  obtain ⟨ga, gb, go, gc, gs, egs, hgl, hgs, _⟩ := open_nums hf2
  rw [egs] at h2k hW' ⊢
  clear hA0 hval0 hA hval hf hf' hf2 t0 t1
  simp only [List.append_nil] at hW' hfz
  have hlt : ∀ x ∈ p0 ++ (p1 ++ p2), x.block < W.heap.size := fun x hx => hW'.lt x (by simpa using hx)
  refine (lawTs_any a b o c ll t ga gb go gc gs W (by unfold maxLen at hl; omega) (fun t ht => by have := hls t ht; unfold maxLen at this; omega) (ht.mono (by decide)) hss ta hgs).mono fun e W' ⟨he, hbel⟩ => ?_
  subst he
  refine ⟨_, rfl, _, _, _, [], p0 ++ (p1 ++ p2), [], hW', ?_, ?_, rfl, hbel.frame _, fun h => by cases h⟩
  · exact trodAll_mk1 (shut_bool Try.underlying4 true)
  · exact trodAll_mk3 (hbel.trod Try.laidOut (by kernel_rfl) (of_decide_eq_true (by kernel_rfl)) h0k fun x hx => hlt x (by simp [hx])) (hbel.trod Try.laidOut (by kernel_rfl) (of_decide_eq_true (by kernel_rfl)) h1k fun x hx => hlt x (by simp [hx])) (hbel.trod Try.laidOut (by kernel_rfl) (of_decide_eq_true (by kernel_rfl)) h2k fun x hx => hlt x (by simp [hx]))

theorem fnExactTurnSeen_holds : Rows.FnExactTurnSeenSaid :=
  OpenClaim.holds_of_wide 4 Try.f4 rfl rfl rfl rfl rfl rfl rfl ⟨rfl, rfl, rfl, rfl, rfl⟩ rfl rfl rfl rfl rfl (by kernel_rfl) Try.func4 (by kernel_rfl)
    (of_decide_eq_true (by kernel_rfl)) (by unfold Func.isWrapper; rw [if_neg (of_decide_eq_false (by kernel_rfl))]; exact ⟨rfl, rfl⟩)
    (fun os started H enc _ => turnSeen_lifted os started H enc)

#print axioms fnExactTurnSeen_holds
end Go.Proofs.Ytkiolnjjhjokoaa
