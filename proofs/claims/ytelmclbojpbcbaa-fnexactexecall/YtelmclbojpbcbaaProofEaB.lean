/- Proved: whatever program FnExactExecAll is handed, it answers true (impl's ExecAll answers as the model's, in rows of its own that lie apart, and writes into no argument) and its argument reads behind the call as before. No condition. -/
import Derived.Test.YtelmclbojpbcbaaRows
import Derived.Test.YtelmclbojpbcbaaBnCe
import Derived.Test.YtelmclbojpbcbaaFront
import Derived.ProofKit
namespace Go.Proofs.Ytelmclbojpbcbaa
open Go.ChangeShapes Go.WideShapes Go.ChangeAt Go.RowKit Go.Deep

set_option maxRecDepth 100000 in
theorem ea_lifted (os : Os) (started : os.Started) (H : Type) (enc : TypeId × Value → H) :
    ReturnsInHanded {} Try.checked os 3 .any (Rows.fnExactExecAllSpec.pre6 enc Try.prog Try.f3 Rows.fnExactExecAllRow.domain false) (Rows.fnExactExecAllSpec.post enc Try.prog Try.f3 false true false false) := by
  refine returnsInHanded_of_change (C := Try.checked) Try.own started (by kernel_rfl) Try.func3
    (ChangeSpec.witness6 (enc := enc) (C := Try.checked) false ⟨#[], #[.agg #[.slice none 0 0]], []⟩ 8 (by kernel_rfl) (by kernel_rfl) (by kernel_rfl) (by kernel_rfl)) ?_
  intro W base args ds gs before hval0 hW hcnd _
  have hval : ∀ (j : Nat) t v, Try.f3.params[j]? = some t → args[j]? = some v → Value.okWide Try.prog W .any base t v := hval0
  have hW' := hW
  obtain ⟨p, q, hA0, hV, rfl, hfz, hnd⟩ := hW
  have hA : DataW.TrodAll enc Try.prog W 0 (fun _ => true) true Try.f3.params.toList args.toList ds p := hA0
  rw [Try.params3] at hA hval
  obtain ⟨v0, d0, rfl, rfl, h0⟩ := trodAll_one hA
  obtain ⟨rfl, rfl⟩ := trodVars_none hV
  obtain ⟨cs, rfl, hsz⟩ := okWide_struct Try.underlying24 (hval 0 24 v0 rfl rfl)
  have h0k := h0
  obtain ⟨fuel, hf⟩ := h0
  rw [Try.cells24] at hsz
  obtain ⟨y0, n, _, _, t0⟩ := trod_struct1 Try.underlying24 hf
  obtain ⟨u, rfl⟩ := one_of_size hsz
  have t1 := field_one t0
  obtain ⟨a, b, o, c, ll, rfl, hl, hls, hss⟩ := open_threads t1
  clear hA0 hval0 hA hval t0 t1 hf
  simp only [List.append_nil] at hW' hfz
  have hlt : ∀ x ∈ p, x.block < W.heap.size := fun x hx => hW'.lt x (by simp [hx])
  refine (lawEa_any a b o c ll W (by unfold maxLen at hl; omega) (fun t ht => by have := hls t ht; unfold maxLen at this; omega) hss).mono fun e W' ⟨he, hbel⟩ => ?_
  subst he
  refine ⟨_, rfl, _, _, _, [], p, [], hW', ?_, ?_, rfl, hbel.frame _, fun h => by cases h⟩
  · exact trodAll_mk1 (shut_bool Try.underlying4 true)
  · exact trodAll_mk1 (hbel.trod Try.laidOut (by kernel_rfl) (of_decide_eq_true (by kernel_rfl)) h0k hlt)

theorem fnExactExecAll_holds : Rows.FnExactExecAllSaid :=
  OpenClaim.holds_of_wide 3 Try.f3 rfl rfl rfl rfl rfl rfl rfl ⟨rfl, rfl, rfl, rfl, rfl⟩ rfl rfl rfl rfl rfl (by kernel_rfl) Try.func3 (by kernel_rfl)
    (of_decide_eq_true (by kernel_rfl)) (by unfold Func.isWrapper; rw [if_neg (of_decide_eq_false (by kernel_rfl))]; exact ⟨rfl, rfl⟩)
    (fun os started H enc _ => ea_lifted os started H enc)

#print axioms fnExactExecAll_holds
end Go.Proofs.Ytelmclbojpbcbaa
