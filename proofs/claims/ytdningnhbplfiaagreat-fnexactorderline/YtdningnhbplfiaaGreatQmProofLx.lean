/- Proved: whatever program, way and order FnExactOrderLine is handed, it answers true (impl's OrderLine answers as the model's, and writes into no argument) and its arguments read behind the call as before. No condition. -/
import Derived.Deep.Strs
import Derived.ProofKit
import Derived.Deep.OwnRows
import Derived.Test.YtdningnhbplfiaaGreatRows
import Derived.Test.YtdningnhbplfiaaGreatQrbs
import Derived.Test.YtdningnhbplfiaaGreatQmah
namespace Go.Proofs.YtdningnhbplfiaaGreat
section
open Go.ChangeShapes Go.WideShapes Go.ChangeAt Go.RowKit Go.Deep
theorem two_of_cells {cs:Array Value} {u v:Value} (h:(Value.agg cs).cells.toList=[u,v]):cs=#[u,v]:=by
 simp only [Value.cells] at h
 obtain ⟨l⟩:=cs
 simpa using h
set_option maxRecDepth 100000 in
theorem orderLine_lifted (os:Os) (started:os.Started) (H:Type) (enc:TypeId × Value→H) :
  ReturnsInHanded {} Tryz.checked os 5 .any (Rows.fnExactOrderLineSpec.pre6 enc Tryz.prog Tryz.f5 Rows.fnExactOrderLineRow.domain false) (Rows.fnExactOrderLineSpec.post enc Tryz.prog Tryz.f5 false true false false):=by
 refine returnsInHanded_of_change (C:=Tryz.checked) Tryz.own started (by kernel_rfl) Tryz.func5
  (ChangeSpec.witness6 (enc:=enc) (C:=Tryz.checked) false ⟨#[],#[.agg #[.slice none 0 0],.agg #[.slice none 0 0,.slice none 0 0],.int .i64 0],[]⟩ 8 (by kernel_rfl) (by kernel_rfl) (by kernel_rfl) (by kernel_rfl)) ?_
 intro W base args ds gs before hval0 hW hcnd _
 have hval:∀ (j:Nat) t v,Tryz.f5.params[j]?=some t→args[j]?=some v→Value.okWide Tryz.prog W .any base t v:=hval0
 have hW':=hW
 obtain ⟨p,q,hA0,hV,rfl,hfz,hnd⟩:=hW
 have hA:DataW.TrodAll enc Tryz.prog W 0 (fun _=>true) true Tryz.f5.params.toList args.toList ds p:=hA0
 rw [Tryz.params5] at hA hval
 obtain ⟨v0,v1,v2,d0,d1,d2,p0,p1,p2,rfl,rfl,rfl,h0,h1,h2⟩:=trodAll_three hA
 obtain ⟨rfl,rfl⟩:=trodVars_none hV
 obtain ⟨cs,rfl,hsz⟩:=okWide_struct Tryz.underlying24 (hval 0 24 v0 rfl rfl)
 obtain ⟨cs',rfl,_⟩:=okWide_struct Tryz.underlying28 (hval 1 28 v1 rfl rfl)
 obtain ⟨kd,rfl⟩:=okWide_int Tryz.underlying3 (hval 2 3 v2 rfl rfl)
 have h0k:=h0
 have h1k:=h1
 obtain ⟨fuel,hf⟩:=h0
 obtain ⟨fuel',hf'⟩:=h1
 rw [Tryz.cells24] at hsz
 obtain ⟨y0,n,_,_,t0⟩:=trod_struct1 Tryz.underlying24 hf
 obtain ⟨u,rfl⟩:=one_of_size hsz
 have t1:=field_one t0
 obtain ⟨a,b,o,c,ll,rfl,hl,hls,hss⟩:=open_threads t1
 obtain ⟨fa,fb,fo,fc,l,ra,rb,ro,rc,rows,ect,hxl,hxr,hxs,hxf,hxo⟩:=open_exec hf'
 obtain rfl:=two_of_cells ect
 clear hA0 hval0 hA hval hf hf' t0 t1
 simp only [List.append_nil] at hW' hfz
 have hlt:∀ x∈p0++(p1++p2),x.block < W.heap.size:=fun x hx=>hW'.lt x (by simpa using hx)
 refine (lawLinex_any a b o c ll ⟨fa,fb,fo,fc,l,ra,rb,ro,rc,rows⟩ kd W (by unfold maxLen at hl;omega) (fun t ht=>by have:=hls t ht;unfold maxLen at this;omega) ⟨by unfold maxLen at hxl;show l.length≤_;omega,by unfold maxLen at hxr;show rows.length≤_;omega,fun r hr=>by have:=hxs r hr;unfold maxLen at this;omega⟩ hss ⟨hxf,hxo⟩).mono fun e W' ⟨he,hbel⟩=>?_
 subst he
 refine ⟨_,rfl,_,_,_,[],p0++(p1++p2),[],hW',?_,?_,rfl,hbel.frame _,fun h=>by cases h⟩
 ·exact trodAll_mk1 (shut_bool Tryz.underlying4 true)
 ·exact trodAll_mk3 (hbel.trod Tryz.laidOut (by kernel_rfl) (of_decide_eq_true (by kernel_rfl)) h0k fun x hx=>hlt x (by simp [hx])) (hbel.trod Tryz.laidOut (by kernel_rfl) (of_decide_eq_true (by kernel_rfl)) h1k fun x hx=>hlt x (by simp [hx])) (hbel.trod Tryz.laidOut (by kernel_rfl) (of_decide_eq_true (by kernel_rfl)) h2 fun x hx=>hlt x (by simp [hx]))
theorem fnExactOrderLine_holds:Rows.FnExactOrderLineSaid :=
 OpenClaim.holds_of_wide 5 Tryz.f5 rfl rfl rfl rfl rfl rfl rfl ⟨rfl,rfl,rfl,rfl,rfl⟩ rfl rfl rfl rfl rfl (by kernel_rfl) Tryz.func5 (by kernel_rfl)
  (of_decide_eq_true (by kernel_rfl)) (by unfold Func.isWrapper;rw [if_neg (of_decide_eq_false (by kernel_rfl))];exact ⟨rfl,rfl⟩)
  (fun os started H enc _=>orderLine_lifted os started H enc)
#print axioms fnExactOrderLine_holds
end
end Go.Proofs.YtdningnhbplfiaaGreat
