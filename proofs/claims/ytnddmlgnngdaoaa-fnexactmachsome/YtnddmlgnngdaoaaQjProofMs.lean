/- Proved: whatever program and turns FnExactMachSome is handed, it answers true (impl's MachSome answers as the model's, in rows of its own, and writes into no argument) and its arguments read behind the call as before. No condition. -/
import Derived.Deep.OwnRows
import Derived.Test.YtnddmlgnngdaoaaRows
import Derived.Test.YtnddmlgnngdaoaaQjbs
import Derived.Test.YtnddmlgnngdaoaaQjbu
namespace Go.Proofs.Ytnddmlgnngdaoaa
section
open Go.ChangeShapes Go.WideShapes Go.ChangeAt Go.RowKit Go.Deep
set_option maxRecDepth 100000 in
theorem machSome_lifted (os:Os) (started:os.Started) (H:Type) (enc:TypeId × Value→H) :
  ReturnsInHanded {} Try.checked os 3 .any (Rows.fnExactMachSomeSpec.pre6 enc Try.prog Try.f3 Rows.fnExactMachSomeRow.domain false) (Rows.fnExactMachSomeSpec.post enc Try.prog Try.f3 false true false false):=by
 refine returnsInHanded_of_change (C:=Try.checked) Try.own started (by kernel_rfl) Try.func3
  (ChangeSpec.witness6 (enc:=enc) (C:=Try.checked) false ⟨#[],#[.agg #[.slice none 0 0],.slice none 0 0],[]⟩ 8 (by kernel_rfl) (by kernel_rfl) (by kernel_rfl) (by kernel_rfl)) ?_
 intro W base args ds gs before hval0 hW hcnd _
 have hval:∀ (j:Nat) t v,Try.f3.params[j]?=some t→args[j]?=some v→Value.okWide Try.prog W .any base t v:=hval0
 have hW':=hW
 obtain ⟨p,q,hA0,hV,rfl,hfz,hnd⟩:=hW
 have hA:DataW.TrodAll enc Try.prog W 0 (fun _=>true) true Try.f3.params.toList args.toList ds p:=hA0
 rw [Try.params3] at hA hval
 obtain ⟨v0,v1,d0,d1,p0,p1,rfl,rfl,rfl,h0,h1⟩:=trodAll_two hA
 obtain ⟨rfl,rfl⟩:=trodVars_none hV
 obtain ⟨cs,rfl,hsz⟩:=okWide_struct Try.underlying24 (hval 0 24 v0 rfl rfl)
 obtain ⟨sa,sn,sc,rfl⟩:=okWide_slice Try.underlying25 (hval 1 25 v1 rfl rfl)
 have h0k:=h0
 have h1k:=h1
 obtain ⟨fuel,hf⟩:=h0
 obtain ⟨fuel',hf'⟩:=h1
 rw [Try.cells24] at hsz
 obtain ⟨y0,n,_,_,t0⟩:=trod_struct1 Try.underlying24 hf
 obtain ⟨u,rfl⟩:=one_of_size hsz
 have t1:=field_one t0
 obtain ⟨a,b,o,c,ll,rfl,hl,hls,hss⟩:=open_threads t1
 obtain ⟨ga,gb,go,gc,gs,egs,hgl,hgs,hwf⟩:=open_nums hf'
 rw [egs] at h1k hW' ⊢
 clear hA0 hval0 hA hval t0 t1 hf hf'
 simp only [List.append_nil] at hW' hfz
 have hlt:∀ x∈p0++p1,x.block < W.heap.size:=fun x hx=>hW'.lt x (by simpa using hx)
 refine (lawMs_any a b o c ll ga gb go gc gs W (by unfold maxLen at hl;omega) (fun t ht=>by have:=hls t ht;unfold maxLen at this;omega) hss hgs (fun k hk=>by have h1:IntKind.i64.min=-9223372036854775808:=(by decide);have h2:IntKind.i64.max=9223372036854775807:=(by decide);have:=hwf k hk;simp [Lit.wf] at this;omega)).mono fun e W' ⟨he,hbel⟩=>?_
 subst he
 refine ⟨_,rfl,_,_,_,[],p0++p1,[],hW',?_,?_,rfl,hbel.frame _,fun h=>by cases h⟩
 ·exact trodAll_mk1 (shut_bool Try.underlying4 true)
 ·exact trodAll_mk2 (hbel.trod Try.laidOut (by kernel_rfl) (of_decide_eq_true (by kernel_rfl)) h0k fun x hx=>hlt x (by simp [hx])) (hbel.trod Try.laidOut (by kernel_rfl) (of_decide_eq_true (by kernel_rfl)) h1k fun x hx=>hlt x (by simp [hx]))
theorem fnExactMachSome_holds:Rows.FnExactMachSomeSaid :=
 OpenClaim.holds_of_wide 3 Try.f3 rfl rfl rfl rfl rfl rfl rfl ⟨rfl,rfl,rfl,rfl,rfl⟩ rfl rfl rfl rfl rfl (by kernel_rfl) Try.func3 (by kernel_rfl)
  (of_decide_eq_true (by kernel_rfl)) (by unfold Func.isWrapper;rw [if_neg (of_decide_eq_false (by kernel_rfl))];exact ⟨rfl,rfl⟩)
  (fun os started H enc _=>machSome_lifted os started H enc)
#print axioms fnExactMachSome_holds
end
end Go.Proofs.Ytnddmlgnngdaoaa
