/- Proved: whatever two programs FnExactTurnBeside is handed, it answers true (impl's TurnBeside answers as the model's, in rows of its own, and writes into no argument) and its arguments read behind the call as before. No condition. -/
import Derived.Test.YtdpoiabohkkbcaaRows
import Derived.Test.YtdpoiabohkkbcaaBnTc
import Derived.Test.YtdpoiabohkkbcaaFront
import Derived.ProofKit
namespace Go.Proofs.Ytdpoiabohkkbcaa
open Go.ChangeShapes Go.WideShapes Go.ChangeAt Go.RowKit Go.Deep

set_option maxRecDepth 100000 in
theorem turnBeside_lifted (os : Os) (started : os.Started) (H : Type) (enc : TypeId × Value → H) :
    ReturnsInHanded {} Try.checked os 7 .any (Rows.fnExactTurnBesideSpec.pre6 enc Try.prog Try.f7 Rows.fnExactTurnBesideRow.domain false) (Rows.fnExactTurnBesideSpec.post enc Try.prog Try.f7 false true false false) := by
  refine returnsInHanded_of_change (C := Try.checked) Try.own started (by kernel_rfl) Try.func7
    (ChangeSpec.witness6 (enc := enc) (C := Try.checked) false ⟨#[], #[.agg #[.slice none 0 0], .agg #[.slice none 0 0]], []⟩ 8 (by kernel_rfl) (by kernel_rfl) (by kernel_rfl) (by kernel_rfl)) ?_
  intro W base args ds gs before hval0 hW hcnd _
  have hval : ∀ (j : Nat) t v, Try.f7.params[j]? = some t → args[j]? = some v → Value.okWide Try.prog W .any base t v := hval0
  have hW' := hW
  obtain ⟨p, q, hA0, hV, rfl, hfz, hnd⟩ := hW
  have hA : DataW.TrodAll enc Try.prog W 0 (fun _ => true) true Try.f7.params.toList args.toList ds p := hA0
  rw [Try.params7] at hA hval
  obtain ⟨v0, v1, d0, d1, p0, p1, rfl, rfl, rfl, h0, h1⟩ := trodAll_two hA
  obtain ⟨rfl, rfl⟩ := trodVars_none hV
  obtain ⟨cs, rfl, hsz⟩ := okWide_struct Try.underlying42 (hval 0 42 v0 rfl rfl)
  obtain ⟨cs2, rfl, hsz2⟩ := okWide_struct Try.underlying42 (hval 1 42 v1 rfl rfl)
  have h0k := h0
  have h1k := h1
  obtain ⟨fuel, hf⟩ := h0
  obtain ⟨fuel', hf'⟩ := h1
  rw [Try.cells42] at hsz hsz2
  obtain ⟨y0, n, _, _, t0⟩ := trod_struct1 Try.underlying42 hf
  obtain ⟨y0', n', _, _, t0'⟩ := trod_struct1 Try.underlying42 hf'
  obtain ⟨u, rfl⟩ := one_of_size hsz
  obtain ⟨u', rfl⟩ := one_of_size hsz2
  have t1 := field_one t0
  have t1' := field_one t0'
  obtain ⟨a, b, o, c, ll, rfl, hl, hls, hss⟩ := open_threads t1
  obtain ⟨a2, b2, o2, c2, mm, rfl, hl2, hls2, hss2⟩ := open_threads t1'
  clear hA0 hval0 hA hval t0 t1 hf hf' t0' t1'
  simp only [List.append_nil] at hW' hfz
  have hlt : ∀ x ∈ p0 ++ p1, x.block < W.heap.size := fun x hx => hW'.lt x (by simpa using hx)
  refine (lawTb_any a b o c ll a2 b2 o2 c2 mm W (by unfold maxLen at hl; omega) (fun t ht => by have := hls t ht; unfold maxLen at this; omega) (by unfold maxLen at hl2; omega) (fun t ht => by have := hls2 t ht; unfold maxLen at this; omega) hss hss2).mono fun e W' ⟨he, hbel⟩ => ?_
  subst he
  refine ⟨_, rfl, _, _, _, [], p0 ++ p1, [], hW', ?_, ?_, rfl, hbel.frame _, fun h => by cases h⟩
  · exact trodAll_mk1 (shut_bool Try.underlying4 true)
  · exact trodAll_mk2 (hbel.trod Try.laidOut (by kernel_rfl) (of_decide_eq_true (by kernel_rfl)) h0k fun x hx => hlt x (by simp [hx])) (hbel.trod Try.laidOut (by kernel_rfl) (of_decide_eq_true (by kernel_rfl)) h1k fun x hx => hlt x (by simp [hx]))

theorem fnExactTurnBeside_holds : Rows.FnExactTurnBesideSaid :=
  OpenClaim.holds_of_wide 7 Try.f7 rfl rfl rfl rfl rfl rfl rfl ⟨rfl, rfl, rfl, rfl, rfl⟩ rfl rfl rfl rfl rfl (by kernel_rfl) Try.func7 (by kernel_rfl)
    (of_decide_eq_true (by kernel_rfl)) (by unfold Func.isWrapper; rw [if_neg (of_decide_eq_false (by kernel_rfl))]; exact ⟨rfl, rfl⟩)
    (fun os started H enc _ => turnBeside_lifted os started H enc)

#print axioms fnExactTurnBeside_holds
end Go.Proofs.Ytdpoiabohkkbcaa
