/- Proved: whatever codes FnLinesShape is handed, it answers true (of a drawn shape's text, with an order asked behind it, what is odd is told just if it may be seen by that order) and its arguments read behind the call as before. The five listed variables start as the program's text lays them: the card ties that. -/
import Derived.Conc.Holds
import Derived.Lay
import Derived.Test.YtnddmlgnngdaoaaGreatDoorCards
import Derived.Test.YtnddmlgnngdaoaaGreatDoorTie
import Derived.Deep.OwnRows
import Derived.Test.YtnddmlgnngdaoaaGreatDoorRows
import Derived.Test.YtnddmlgnngdaoaaGreatDoorQsaa
import Derived.Test.YtnddmlgnngdaoaaGreatDoorQsbl
import Derived.Test.YtnddmlgnngdaoaaGreatDoorQsbm
namespace Go.Proofs.YtnddmlgnngdaoaaGreatDoor
section
open Go.ChangeShapes Go.WideShapes Go.ChangeAt Go.RowKit Go.Deep
set_option maxRecDepth 100000 in
theorem lines_lifted (os:Os) (started:os.Started) (H:Type) (enc:TypeId × Value→H) :
  ReturnsInHanded {} Tryz.checked os 3 .any (fun w args=>(Rows.fnLinesShapeSpec.pre enc Tryz.prog Tryz.f3 Rows.fnLinesShapeRow.domain false w args∧laidMetH Tryz.prog Rows.fnLinesShapeRow.laid w)∧sizedMet enc Tryz.prog Tryz.f3 (OpenSpec.ofChange Rows.fnLinesShapeSpec) false w args)
   (Rows.fnLinesShapeSpec.post enc Tryz.prog Tryz.f3 false true false false):=by
 refine returnsInHanded_of_calls Tryz.own started (by kernel_rfl)
  (ChangeSpec.witness_shaped (enc:=enc) (C:=Tryz.checked) (os:=os) (X:=fun w _=>laidMetH Tryz.prog Rows.fnLinesShapeRow.laid w) false (World.laidAll Tryz.prog os Rows.fnLinesShapeRow.laid) #[.slice none 0 0,.slice none 0 0] 8 (World.laidAll_os _ _ _)
   (World.shaped_of_ZipB (by kernel_rfl) (by kernel_rfl)) (by kernel_rfl) (by kernel_rfl) (by kernel_rfl)
   (by rw [MakeChecks.laidMetH_plain _ _ _ (by kernel_rfl)];exact laidMet_laidAll _ (by kernel_rfl) (by kernel_rfl))) ?_
 intro w tape i _ hsh _ hok hpre hholds
 obtain ⟨_,_,_,fn',hfn',_,_,_,_,hval00⟩:=hok
 have e:fn'=Tryz.f3:=Option.some.inj (hfn'.symm.trans Tryz.func3)
 subst e
 obtain ⟨⟨⟨ds,gs,before,hW00,hcnd⟩,hL00⟩,hz⟩:=hpre
 have hW0:=DataW.Whole.of_heap (w':=w.forCall tape i) (by rfl) hW00
 have hL0:laidMetH Tryz.prog Rows.fnLinesShapeRow.laid (w.forCall tape i):=laidMetH.of_heap (by rfl) hL00
 suffices key:Calls Tryz.prog 3 i.args (w.forCall tape i) fun e W'=>∃ v,e=.returned v∧Rows.fnLinesShapeSpec.post enc Tryz.prog Tryz.f3 false true false false (w.forCall tape i) i.args v W' by
  refine key.mono fun e W' ⟨v,he,hp⟩=>?_
  subst he
  exact ChangeSpec.post_blind hp
 clear hz hholds hW00 hL00
 generalize w.forCall tape i=W at *
 generalize w.heap.size=base at *
 generalize i.args=args at *
 have hW:=hW0
 have hval:∀ (j:Nat) t v,Tryz.f3.params[j]?=some t→args[j]?=some v→Value.okWide Tryz.prog W .any base t v:=hval00
 have hW':=hW
 obtain ⟨p,q,hA0,hV,rfl,hfz,hnd⟩:=hW
 have hA:DataW.TrodAll enc Tryz.prog W 0 (fun _=>true) true Tryz.f3.params.toList args.toList ds p:=hA0
 rw [Tryz.params3] at hA hval
 obtain ⟨v0,v1,d0,d1,p0,p1,rfl,rfl,rfl,h0,h1⟩:=trodAll_two hA
 obtain ⟨g0,g1,ig0,ig1,vg0,vg1⟩:=linesVars hL0
 have hV2 : DataW.TrodVars enc Tryz.prog W (fun _ => true) ["loop.example/fathomline/impl.errText", "loop.example/fathomline/impl.errAsk"] gs q := hV
 obtain ⟨rfl,rfl⟩:=hV2.unique (vars_read2 enc gErr0 gErr0T Tryz.underlying63 vg0 ig0 gErr1 gErr1T Tryz.underlying63 vg1 ig1 _)
 obtain ⟨sa,sn,sc,rfl⟩:=okWide_slice Tryz.underlying22 (hval 0 22 v0 rfl rfl)
 obtain ⟨ta,tn,tc,rfl⟩:=okWide_slice Tryz.underlying22 (hval 1 22 v1 rfl rfl)
 have h0k:=h0
 have h1k:=h1
 obtain ⟨fuel,hf⟩:=h0
 obtain ⟨fuel1,hf1⟩:=h1
 obtain ⟨ca,cb,co,L,C,x,ecs,hL,had,hc⟩:=open_code hf
 obtain ⟨da,db,dO,K,D,y,ecs1,hK,hbd,hd⟩:=open_code hf1
 rw [ecs] at h0k hW' ⊢
 rw [ecs1] at h1k hW' ⊢
 clear hA0 hval00 hA hval hf hf1
 have hlt:∀ x∈p0++p1,x.block < W.heap.size:=fun x hx=>hW'.lt x (by simp at hx ⊢;rcases hx with h | h<;>simp [h])
 refine (lawLs_any ca cb co L C x da K D W (HasMax.of hsh) (linesLaid hL0).1 (linesLaid hL0).2 hL had hc).mono fun e W' ⟨he,hbel⟩=>?_
 subst he
 refine ⟨_,rfl,_,_,_,[],p0++p1,[.cell 0 0,.cell 1 0],hW',?_,?_,vars_read2 enc gErr0 gErr0T Tryz.underlying63 (var?_belL gErr0 hbel vg0) ig0 gErr1 gErr1T Tryz.underlying63 (var?_belL gErr1 hbel vg1) ig1 _,hbel.frame _,fun h=>by cases h⟩
 ·exact trodAll_mk1 (shut_bool Tryz.underlying4 true)
 ·exact trodAll_mk2 (hbel.trod Tryz.laidOut (by kernel_rfl) (of_decide_eq_true (by kernel_rfl)) h0k fun x hx=>hlt x (by simp [hx])) (hbel.trod Tryz.laidOut (by kernel_rfl) (of_decide_eq_true (by kernel_rfl)) h1k fun x hx=>hlt x (by simp [hx]))
theorem leavingOf {a:Assume} {C:Checked} {os:Os} {f:FuncId} {r:Reach} {Pre:World→Array Value→Prop} {Post:World→Array Value→Value→World→Prop} (h:ReturnsInHanded a C os f r Pre Post):ReturnsInLeavingWide a C os f r Pre Post:=fun enter =>
 ReturnsInOpen.mono (fun _ _ _ x=>⟨x.2.1,onlyLeaving_of_quiet x.1,x.2.2⟩) (fun _ x=>x) (h enter)
theorem fnLinesShape_holds:Rows.FnLinesShapeSaid :=
 OpenClaim.holds_of_wide_leaving 3 Tryz.f3 rfl rfl rfl rfl rfl rfl rfl ⟨rfl,rfl,rfl,rfl,rfl⟩ rfl rfl rfl rfl rfl (by kernel_rfl) Tryz.func3 linesShape_joined
  (of_decide_eq_true (by kernel_rfl)) (by unfold Func.isWrapper;rw [if_neg (of_decide_eq_false (by kernel_rfl))];exact ⟨rfl,rfl⟩)
  (fun os started H enc _=>leavingOf (lines_lifted os started H enc))
theorem fnLinesShapeCard_holds:Rows.FnLinesShapeCardSaid:=by
 have hl:∀ f fn,Tryz.pinned.checked.prog.funcNamed Rows.fnLinesShapeRow.func=some f→Tryz.pinned.checked.prog.funcs[f]?=some fn→true=Tryz.pinned.checked.prog.looks []∧∀ (j:Nat) t,fn.params[j]?=some t→Tryz.pinned.checked.prog.wantsStandIn t=false:=fun f fn hf hfn=>by
  obtain rfl : f = 3 := Option.some.inj ((show Tryz.prog.funcNamed "loop.example/fathomline/laws.FnLinesShape" = some 3 by kernel_rfl).symm.trans hf) |>.symm
  obtain rfl:fn=Tryz.f3:=(Option.some.inj (Tryz.func3.symm.trans hfn)).symm
  exact ⟨by kernel_rfl,fun j t ht=>by
   rw [Tryz.params3] at ht
   have hm:t∈[22,22]:=by simpa using Array.mem_of_getElem? ht
   have hall:([22,22].all fun u=>!Tryz.prog.wantsStandIn u)=true:=by kernel_rfl
   exact (show Tryz.prog.wantsStandIn t=false by simpa using List.all_eq_true.1 hall t hm)⟩
 have h6:Claim7.isSixth { stood:=Rows.fnLinesShapeCard.stood,kinds:=[] }=false:=by kernel_rfl
 have h1:=Claim7.new_of_sixth (c:=Rows.fnLinesShapeRow) fnLinesShape_holds Rows.fnLinesShapeCard.stood.harness true rfl ⟨rfl,rfl⟩ (by kernel_rfl) h6 hl
 have h2:=Claim7.tied_new_at .later [.data,.data,.data,.sentinel,.sentinel] true h1 (by kernel_rfl)
 have h3:Claim7.holdsNew Tryz.pinned (.plain (OpenSpec.ofChange Rows.fnLinesShapeSpec)) Rows.fnLinesShapeCard:=h2
 exact ⟨h3,fun _ h=>(by cases h),fnLinesShape_row_tie,fun h=>(by cases h),by kernel_rfl⟩
#print axioms fnLinesShapeCard_holds
end
end Go.Proofs.YtnddmlgnngdaoaaGreatDoor
