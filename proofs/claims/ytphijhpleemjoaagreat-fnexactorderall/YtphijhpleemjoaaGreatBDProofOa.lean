/- Proved: whatever program and order FnExactOrderAll is handed, it answers true (impl's OrderAll answers as the model's, in rows of its own that lie apart, and writes into no argument) and its arguments read behind the call as before. No condition. -/
import Derived.Test.YtphijhpleemjoaaGreatRows
import Derived.ProofKit
import Derived.Deep.Slices
import Derived.Deep.Strs
import Derived.Test.YtphijhpleemjoaaGreatBAae
import Derived.ChangeSlices
import Derived.Test.YtphijhpleemjoaaGreatBDaa
import Derived.Test.YtphijhpleemjoaaGreatBDac
import Derived.Test.YtphijhpleemjoaaGreatBDag
namespace Go.Proofs.YtphijhpleemjoaaGreat
open Go.ChangeShapes Go.WideShapes Go.ChangeAt Go.RowKit Go.Deep
set_option maxRecDepth 100000 in
theorem orderAll_lifted (os : Os) (started : os.Started) (H : Type) (enc : TypeId × Value → H) :
  ReturnsInHanded {} Tryz.checked os 14 .any (Rows.fnExactOrderAllSpec.pre6 enc Tryz.prog Tryz.f14 Rows.fnExactOrderAllRow.domain false) (Rows.fnExactOrderAllSpec.post enc Tryz.prog Tryz.f14 false true false false) := by
 refine returnsInHanded_of_change (C := Tryz.checked) Tryz.own started (by kernel_rfl) Tryz.func14
  (ChangeSpec.witness6 (enc := enc) (C := Tryz.checked) false ⟨#[], #[.agg #[.slice none 0 0], .int .i64 0], []⟩ 8 (by kernel_rfl) (by kernel_rfl) (by kernel_rfl) (by kernel_rfl)) ?_
 intro W base args ds gs before hval0 hW hcnd _
 have hval : ∀ (j : Nat) t v, Tryz.f14.params[j]? = some t → args[j]? = some v → Value.okWide Tryz.prog W .any base t v := hval0
 have hW' := hW
 obtain ⟨p, q, hA0, hV, rfl, hfz, hnd⟩ := hW
 have hA : DataW.TrodAll enc Tryz.prog W 0 (fun _ => true) true Tryz.f14.params.toList args.toList ds p := hA0
 rw [Tryz.params14] at hA hval
 obtain ⟨v0, v1, d0, d1, p0, p1, rfl, rfl, rfl, h0, h1⟩ := trodAll_two hA
 obtain ⟨rfl, rfl⟩ := trodVars_none hV
 obtain ⟨cs, rfl, hsz⟩ := okWide_struct Tryz.underlying57 (hval 0 57 v0 rfl rfl)
 obtain ⟨kd, rfl⟩ := okWide_int Tryz.underlying3 (hval 1 3 v1 rfl rfl)
 have h0k := h0
 have h1k := h1
 obtain ⟨fuel, hf⟩ := h0
 rw [Tryz.cells57] at hsz
 obtain ⟨y0, n, _, _, t0⟩ := trod_struct1 Tryz.underlying57 hf
 obtain ⟨u, rfl⟩ := one_of_size hsz
 have t1 := field_one t0
 obtain ⟨a, b, o, c, ll, rfl, hl, hls, hss⟩ := open_threads t1
 clear hA0 hval0 hA hval t0 t1 hf
 simp only [List.append_nil] at hW' hfz
 have hlt : ∀ x ∈ p0 ++ p1, x.block < W.heap.size := fun x hx => hW'.lt x (by simpa using hx)
 refine (lawOa_any a b o c ll kd W (by unfold maxLen at hl; omega) (fun t ht => by have := hls t ht; unfold maxLen at this; omega) hss).mono fun e W' ⟨he, hbel⟩ => ?_
 subst he
 refine ⟨_, rfl, _, _, _, [], p0 ++ p1, [], hW', ?_, ?_, rfl, hbel.frame _, fun h => by cases h⟩
 ·exact trodAll_mk1 (shut_bool Tryz.underlying4 true)
 ·exact trodAll_mk2 (hbel.trod Tryz.laidOut (by kernel_rfl) (of_decide_eq_true (by kernel_rfl)) h0k fun x hx => hlt x (by simp [hx])) (hbel.trod Tryz.laidOut (by kernel_rfl) (of_decide_eq_true (by kernel_rfl)) h1k fun x hx => hlt x (by simp [hx]))
theorem fnExactOrderAll_holds : Rows.FnExactOrderAllSaid :=
 OpenClaim.holds_of_wide 14 Tryz.f14 rfl rfl rfl rfl rfl rfl rfl ⟨rfl, rfl, rfl, rfl, rfl⟩ rfl rfl rfl rfl rfl (fnExactOrderAll_named rfl) Tryz.func14 fnExactOrderAll_joined
  (of_decide_eq_true (by kernel_rfl)) (by unfold Func.isWrapper; rw [if_neg (of_decide_eq_false (by kernel_rfl))]; exact ⟨rfl, rfl⟩)
  (fun os started H enc _ => orderAll_lifted os started H enc)
#print axioms fnExactOrderAll_holds
end Go.Proofs.YtphijhpleemjoaaGreat
