/- Proved: whatever two that were seen FnExactSeenLess is handed, it answers true (impl's SeenLess answers as the model's, and writes into no argument) and its arguments read behind the call as before. No condition. -/
import Derived.Test.YthpnpajigkmkaaaRows
import Derived.Test.YthpnpajigkmkaaaLawLess
import Derived.Test.YthpnpajigkmkaaaOpenSn
import Derived.Test.YthpnpajigkmkaaaFront
import Derived.ProofKit
namespace Go.Proofs.Ythpnpajigkmkaaa
open Go.ChangeShapes Go.WideShapes Go.ChangeAt Go.RowKit Go.Deep

theorem two_of_list {cs : Array Value} {u v : Value} (h : (Value.agg cs).cells.toList = [u, v]) : cs = #[u, v] := by
  simp only [Value.cells] at h
  obtain ⟨l⟩ := cs
  simpa using h

set_option maxRecDepth 100000 in
theorem less_lifted (os : Os) (started : os.Started) (H : Type) (enc : TypeId × Value → H) :
    ReturnsInHanded {} Try.checked os 8 .any (Rows.fnExactSeenLessSpec.pre6 enc Try.prog Try.f8 Rows.fnExactSeenLessRow.domain false) (Rows.fnExactSeenLessSpec.post enc Try.prog Try.f8 false true false false) := by
  refine returnsInHanded_of_change (C := Try.checked) Try.own started (by kernel_rfl) Try.func8
    (ChangeSpec.witness6 (enc := enc) (C := Try.checked) false ⟨#[], #[.agg #[.slice none 0 0, .slice none 0 0], .agg #[.slice none 0 0, .slice none 0 0]], []⟩ 8 (by kernel_rfl) (by kernel_rfl) (by kernel_rfl) (by kernel_rfl)) ?_
  intro W base args ds gs before hval0 hW hcnd _
  have hval : ∀ (j : Nat) t v, Try.f8.params[j]? = some t → args[j]? = some v → Value.okWide Try.prog W .any base t v := hval0
  have hW' := hW
  obtain ⟨p, q, hA0, hV, rfl, hfz, hnd⟩ := hW
  have hA : DataW.TrodAll enc Try.prog W 0 (fun _ => true) true Try.f8.params.toList args.toList ds p := hA0
  rw [Try.params8] at hA hval
  obtain ⟨v0, v1, d0, d1, p0, p1, rfl, rfl, rfl, h0, h1⟩ := trodAll_two hA
  obtain ⟨rfl, rfl⟩ := trodVars_none hV
  obtain ⟨cs, rfl, _⟩ := okWide_struct Try.underlying41 (hval 0 41 v0 rfl rfl)
  obtain ⟨cs', rfl, _⟩ := okWide_struct Try.underlying41 (hval 1 41 v1 rfl rfl)
  have h0k := h0
  have h1k := h1
  obtain ⟨fuel, hf⟩ := h0
  obtain ⟨fuel', hf'⟩ := h1
  obtain ⟨s, ecs, hs, sa, _, _⟩ := open_seen hf
  obtain ⟨t, ect, ht, ta, _, _⟩ := open_seen hf'
  obtain rfl := two_of_list ecs
  obtain rfl := two_of_list ect
  clear hA0 hval0 hA hval hf hf'
  simp only [List.append_nil] at hW' hfz
  have hlt : ∀ x ∈ p0 ++ p1, x.block < W.heap.size := fun x hx => hW'.lt x (by simpa using hx)
  refine (lawLess_any s t W (hs.mono (by decide)) (ht.mono (by decide)) sa ta).mono fun e W' ⟨he, hbel⟩ => ?_
  subst he
  refine ⟨_, rfl, _, _, _, [], p0 ++ p1, [], hW', ?_, ?_, rfl, hbel.frame _, fun h => by cases h⟩
  · exact trodAll_mk1 (shut_bool Try.underlying4 true)
  · exact trodAll_mk2 (hbel.trod Try.laidOut (by kernel_rfl) (of_decide_eq_true (by kernel_rfl)) h0k fun x hx => hlt x (by simp [hx])) (hbel.trod Try.laidOut (by kernel_rfl) (of_decide_eq_true (by kernel_rfl)) h1k fun x hx => hlt x (by simp [hx]))

theorem fnExactSeenLess_holds : Rows.FnExactSeenLessSaid :=
  OpenClaim.holds_of_wide 8 Try.f8 rfl rfl rfl rfl rfl rfl rfl ⟨rfl, rfl, rfl, rfl, rfl⟩ rfl rfl rfl rfl rfl (by kernel_rfl) Try.func8 (by kernel_rfl)
    (of_decide_eq_true (by kernel_rfl)) (by unfold Func.isWrapper; rw [if_neg (of_decide_eq_false (by kernel_rfl))]; exact ⟨rfl, rfl⟩)
    (fun os started H enc _ => less_lifted os started H enc)

#print axioms fnExactSeenLess_holds
end Go.Proofs.Ythpnpajigkmkaaa
