/- Proved: whatever program, whatever was seen and whatever row FnExactTurnSeen is handed, it answers true (impl's TurnSeen answers as the model's, and writes into no argument) and its arguments read behind the call as before. No condition. -/
import Derived.Test.YtflmejjhnkpodaaRows
import Derived.Test.YtflmejjhnkpodaaBnTl
import Derived.Test.YtflmejjhnkpodaaOpenSn
import Derived.Test.YtflmejjhnkpodaaOpenNum
import Derived.Test.YtflmejjhnkpodaaFront
import Derived.ProofKit
namespace Go.Proofs.Ytflmejjhnkpodaa
open Go.ChangeShapes Go.WideShapes Go.ChangeAt Go.RowKit Go.Deep

theorem two_of_cells {cs : Array Value} {u v : Value} (h : (Value.agg cs).cells.toList = [u, v]) : cs = #[u, v] := by
  simp only [Value.cells] at h
  obtain ⟨l⟩ := cs
  simpa using h

set_option maxRecDepth 100000 in
theorem turnSeen_lifted (os : Os) (started : os.Started) (H : Type) (enc : TypeId × Value → H) :
    ReturnsInHanded {} Try.checked os 4 .any (Rows.fnExactTurnSeenSpec.pre6 enc Try.prog Try.f4 Rows.fnExactTurnSeenRow.domain false) (Rows.fnExactTurnSeenSpec.post enc Try.prog Try.f4 false true false false) := by
  refine returnsInHanded_of_change (C := Try.checked) Try.own started (by kernel_rfl) Try.func4
    (ChangeSpec.witness6 (enc := enc) (C := Try.checked) false ⟨#[], #[.agg #[.slice none 0 0], .agg #[.slice none 0 0, .slice none 0 0], .slice none 0 0], []⟩ 8 (by kernel_rfl) (by kernel_rfl) (by kernel_rfl) (by kernel_rfl)) ?_
  intro W base args ds gs before hval0 hW hcnd _
  have hval : ∀ (j : Nat) t v, Try.f4.params[j]? = some t → args[j]? = some v → Value.okWide Try.prog W .any base t v := hval0
  have hW' := hW
  obtain ⟨p, q, hA0, hV, rfl, hfz, hnd⟩ := hW
  have hA : DataW.TrodAll enc Try.prog W 0 (fun _ => true) true Try.f4.params.toList args.toList ds p := hA0
  rw [Try.params4] at hA hval
  obtain ⟨v0, v1, v2, d0, d1, d2, p0, p1, p2, rfl, rfl, rfl, h0, h1, h2⟩ := trodAll_three hA
  obtain ⟨rfl, rfl⟩ := trodVars_none hV
  obtain ⟨cs, rfl, hsz⟩ := okWide_struct Try.underlying41 (hval 0 41 v0 rfl rfl)
  obtain ⟨cs', rfl, _⟩ := okWide_struct Try.underlying42 (hval 1 42 v1 rfl rfl)
  obtain ⟨sa, sn, sc, rfl⟩ := okWide_slice Try.underlying26 (hval 2 26 v2 rfl rfl)
  have h0k := h0
  have h1k := h1
  have h2k := h2
  obtain ⟨fuel, hf⟩ := h0
  obtain ⟨fuel', hf'⟩ := h1
  obtain ⟨fuel2, hf2⟩ := h2
  rw [Try.cells41] at hsz
  obtain ⟨y0, n, _, _, t0⟩ := trod_struct1 Try.underlying41 hf
  obtain ⟨u, rfl⟩ := one_of_size hsz
  have t1 := field_one t0
  obtain ⟨a, b, o, c, ll, rfl, hl, hls, hss⟩ := open_threads t1
  obtain ⟨t, ect, ht, ta, _, _⟩ := open_seen hf'
  obtain rfl := two_of_cells ect
  obtain ⟨ga, gb, go, gc, gs, egs, hgl, hgs, _⟩ := open_nums hf2
  rw [egs] at h2k hW' ⊢
  clear hA0 hval0 hA hval hf hf' hf2 t0 t1
  simp only [List.append_nil] at hW' hfz
  have hlt : ∀ x ∈ p0 ++ (p1 ++ p2), x.block < W.heap.size := fun x hx => hW'.lt x (by simpa using hx)
  refine (lawTs_any a b o c ll t ga gb go gc gs W (by unfold maxLen at hl; omega) (fun t ht => by have := hls t ht; unfold maxLen at this; omega) (ht.mono (by decide)) hss ta hgs).mono fun e W' ⟨he, hbel⟩ => ?_
  subst he
  refine ⟨_, rfl, _, _, _, [], p0 ++ (p1 ++ p2), [], hW', ?_, ?_, rfl, hbel.frame _, fun h => by cases h⟩
  · exact trodAll_mk1 (shut_bool Try.underlying4 true)
  · exact trodAll_mk3 (hbel.trod Try.laidOut (by kernel_rfl) (of_decide_eq_true (by kernel_rfl)) h0k fun x hx => hlt x (by simp [hx])) (hbel.trod Try.laidOut (by kernel_rfl) (of_decide_eq_true (by kernel_rfl)) h1k fun x hx => hlt x (by simp [hx])) (hbel.trod Try.laidOut (by kernel_rfl) (of_decide_eq_true (by kernel_rfl)) h2k fun x hx => hlt x (by simp [hx]))

theorem fnExactTurnSeen_holds : Rows.FnExactTurnSeenSaid :=
  OpenClaim.holds_of_wide 4 Try.f4 rfl rfl rfl rfl rfl rfl rfl ⟨rfl, rfl, rfl, rfl, rfl⟩ rfl rfl rfl rfl rfl (by kernel_rfl) Try.func4 (by kernel_rfl)
    (of_decide_eq_true (by kernel_rfl)) (by unfold Func.isWrapper; rw [if_neg (of_decide_eq_false (by kernel_rfl))]; exact ⟨rfl, rfl⟩)
    (fun os started H enc _ => turnSeen_lifted os started H enc)

#print axioms fnExactTurnSeen_holds
end Go.Proofs.Ytflmejjhnkpodaa
