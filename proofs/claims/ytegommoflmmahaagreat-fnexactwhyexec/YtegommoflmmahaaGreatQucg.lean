/- The law FnExactWhyExec, walked: it answers true, and leaves all as it was. Of programs and lists of at most 9223372036854775807 parts each: more than a machine holds. -/
import Derived.Deep.OwnRows
import Derived.Test.YtegommoflmmahaaGreatRows
import Derived.Test.YtegommoflmmahaaGreatQucc
namespace Go.Proofs.YtegommoflmmahaaGreat
section
open Go.RowKit
theorem cbY {W W':World} {p:Addr} {v:Value} (hb:Below W.heap.size W W') (h:W.cell? p=some v):W'.cell? p=some v:=(hb.cell (p:=p) (World.block_lt_of_cell? _ _ h)).trans h
theorem BxWy.first {W Wc:World} {X:Nat} {fa:Option Addr} {fb fc:Nat} {ra:Option Addr} {rb rc:Nat} {x:M.Wy} (hb:Below W.heap.size W Wc) (hX:W.heap.size≤X) (hT:SlotV Wc X (.slice none 0 0) (.slice none 0 0)) (h1:IntS Wc fa fb 0 x.1) (h2:IntSS Wc ra rb 0 x.2) (h3:0 < x.2.length→2 < x.2.length) :
  Below W.heap.size W ((Wc.setCell ⟨X,0,none⟩ (.slice fa x.1.length fc)).setCell ⟨X,1,none⟩ (.slice ra x.2.length rc))∧BxWy ((Wc.setCell ⟨X,0,none⟩ (.slice fa x.1.length fc)).setCell ⟨X,1,none⟩ (.slice ra x.2.length rc)) X fa fb fc ra rb rc x:=by
 have far:∀ {w:World} {u1 u2 u:Value} {i:Nat} {a:Option Addr} {b o:Nat} {l:List Int},SlotV w X u1 u2→(∀ x,u1≠.int .i64 x)→(∀ x,u2≠.int .i64 x)→IntS w a b o l→IntS (w.setCell ⟨X,i,none⟩ u) a b o l:=by
  intro w u1 u2 u i a b o l hS n1 n2 h
  refine ⟨h.addr,fun j hj=>?_⟩
  have hr:=h.row j hj
  by_cases e:b=X
  ·subst e
   have hlt:o+j < 2:=by
    rcases Nat.lt_or_ge (o+j) 2 with h | h
    ·exact h
    ·have:w.cell? ⟨b,o+j,none⟩=none:=by simp [World.cell?,hS.blk];omega
     rw [this] at hr;cases hr
   rcases (show o+j=0∨o+j=1 by omega) with e | e
   ·rw [e,hS.c0] at hr;exact absurd (Option.some.inj hr) (n1 _)
   ·rw [e,hS.c1] at hr;exact absurd (Option.some.inj hr) (n2 _)
  ·rw [World.cell?_setCell_other _ _ _ _ (fun e'=>e (congrArg Addr.block e').symm)];exact hr
 have farSS:∀ {w:World} {u1 u2 u:Value} {i:Nat},SlotV w X u1 u2→(∀ x,u1≠.int .i64 x)→(∀ x,u2≠.int .i64 x)→IntSS w ra rb 0 x.2→IntSS (w.setCell ⟨X,i,none⟩ u) ra rb 0 x.2:=by
  intro w u1 u2 u i hS n1 n2 h
  have hne:0 < x.2.length→rb≠X:=fun hp e=>by
   subst e
   obtain ⟨_,_,_,_,hr,_⟩:=h.row 2 (h3 hp)
   have:w.cell? ⟨rb,0+2,none⟩=none:=by simp [World.cell?,hS.blk]
   rw [this] at hr;cases hr
  refine ⟨h.addr,fun j hj=>?_⟩
  obtain ⟨a,b,o,c,hr,hi⟩:=h.row j hj
  exact ⟨a,b,o,c,by rw [World.cell?_setCell_other _ _ _ _ (fun e=>hne (by omega) (congrArg Addr.block e).symm)];exact hr,far hS n1 n2 hi⟩
 have ns:∀ {a n c} x,Value.slice a n c≠.int .i64 x:=fun _ e=>by cases e
 have hS1:=hT.set0 (.slice fa x.1.length fc)
 have hS2:=hS1.set1 (.slice ra x.2.length rc)
 exact ⟨(hb.setCell (p:=⟨X,0,none⟩) hX _).setCell (p:=⟨X,1,none⟩) hX _,hS2,far hS1 ns ns (far hT ns ns h1),farSS hS1 ns ns (farSS hT ns ns h2)⟩
theorem BxWy.last {W Wc:World} {fa:Option Addr} {fb fc:Nat} {ra:Option Addr} {rb rc:Nat} {x:M.Wy} (hb:Below W.heap.size W Wc) (h1:IntS Wc fa fb 0 x.1) (h2:IntSS Wc ra rb 0 x.2) :
  Below W.heap.size W (Wc.alloc (.cells #[.slice fa x.1.length fc,.slice ra x.2.length rc] 33))∧BxWy (Wc.alloc (.cells #[.slice fa x.1.length fc,.slice ra x.2.length rc] 33)) Wc.heap.size fa fb fc ra rb rc x :=
 ⟨hb.alloc hb.size _,BxWy.new h1 h2⟩
set_option maxHeartbeats 8000000 in
set_option maxRecDepth 100000 in
set_option linter.unusedSimpArgs false in
set_option linter.unusedVariables false in
theorem lawYx_any (a:Option Addr) (b o c:Nat) (ll:List (List M.D)) (t:Sn) (kind:Int) (w:World) (hl0:ll.length≤9223372036854775807) (hls0:∀ t∈ll,t.length≤9223372036854775807) (ht0:t.Le 9223372036854775807) (hsa:DoSS w a b o ll) (hta:t.At w) :
  Calls Tryz.prog 8 #[.agg #[.slice a ll.length c],.agg #[.slice t.a1 t.l1.length t.c1,.slice t.a2 t.l2.length t.c2],.int .i64 kind] w fun e w'=>e=.returned (.bool true)∧Below w.heap.size w w':=by
 go_enter Tryz.func8,Tryz.ntmps8
 go_wp2_with fail
 refine (szProg_le a b o c ll _ hl0 hls0 (hsa.below (below2 w _ _) (Nat.le_refl _))).mono ?_
 rintro e w1 ⟨r1,rfl,rfl,hor1⟩
 by_cases hn1:r1 < 0
 ·go_wp2_with fail
  go_ret
  exact ⟨rfl,below3 _ _ _ _⟩
 obtain ⟨hr1,_,hl,hls⟩:=hor1.resolve_left hn1
 clear hor1
 go_wp2_with fail
 refine (szSeen_any t r1 _ (by omega) hr1 ht0).mono ?_
 rintro e w1 ⟨r2,rfl,rfl,hr2,hor2⟩
 have hb4:=(below3 w (.cells #[.slice a ll.length c] 55) (.cells #[.slice t.a1 t.l1.length t.c1,.slice t.a2 t.l2.length t.c2] 56) (.cells #[.slice a ll.length c] 55)).alloc (by simp;omega) (.cells #[.slice t.a1 t.l1.length t.c1,.slice t.a2 t.l2.length t.c2] 56)
 by_cases hn2:r2 < 0
 ·go_wp2_with fail
  go_ret
  exact ⟨rfl,hb4⟩
 have ht:=(hor2.resolve_left hn2).2
 clear hor2
 have st0:StP w _ a b o c ll t:=⟨hb4,by simp,by simp [go_sem],by simp [go_sem],by simp [go_sem],hsa.below hb4 (Nat.le_refl _),hta.below hb4 (Nat.le_refl _)⟩
 generalize ((((w.alloc (.cells #[.slice a ll.length c] 55)).alloc (.cells #[.slice t.a1 t.l1.length t.c1,.slice t.a2 t.l2.length t.c2] 56)).alloc (.cells #[.slice a ll.length c] 55)).alloc (.cells #[.slice t.a1 t.l1.length t.c1,.slice t.a2 t.l2.length t.c2] 56))=W at *
 clear hb4 hsa hta hl0 hls0 ht0
 have CS:=fun (A:Option Addr) (B O D:Nat) (s:Sn) (W:World) (h:DoSS W A B O ll) (hs:s.At W) (e1:s.l1=t.l1) (e2:s.l2=t.l2)=>swhyExec_any A B O D ll s kind W hl hls ⟨by rw [e1];exact ht.reads,by rw [e2];exact ht.last⟩ h hs
 have CI:=fun (A:Option Addr) (B O D:Nat) (s:Sn) (W:World) (h:DoSS W A B O ll) (hs:s.At W) (e1:s.l1=t.l1) (e2:s.l2=t.l2)=>iwhyExec_any A B O D ll s kind W hl hls ⟨by rw [e1];exact ht.reads,by rw [e2];exact ht.last⟩ h hs
 have hyl:=M.why_getD_le (ll:=ll) (t1:=t.l1) (t2:=t.l2) (k:=kind)
 have hysm:=M.why_getD_sm (ll:=ll) (t1:=t.l1) (t2:=t.l2) (k:=kind)
 have hy3:0 < ((M.whyExec ll t.l1 t.l2 kind).getD ([],[])).2.length→2 < ((M.whyExec ll t.l1 t.l2 kind).getD ([],[])).2.length:=by
  cases hr:M.whyExec ll t.l1 t.l2 kind with
  | none=>simp
  | some x=>intro _;have:=(M.wok_of (M.why_ok hr)).three.out;simp only [Option.getD_some];omega
 obtain ⟨r,hr⟩:∃ r,M.whyExec ll t.l1 t.l2 kind=r:=⟨_,rfl⟩
 have CS':∀ (A:Option Addr) (B O D:Nat) (s:Sn) (W:World),DoSS W A B O ll→s.At W→s.l1=t.l1→s.l2=t.l2→Calls Tryz.prog 11 #[.agg #[.slice A ll.length D],.agg #[.slice s.a1 s.l1.length s.c1,.slice s.a2 s.l2.length s.c2],.int .i64 kind] W fun e w'=>∃ v,e=.returned v∧WyR W w' r v:=fun A B O D s W h1 h2 e1 e2=>(CS A B O D s W h1 h2 e1 e2).mono fun _ _ ⟨v,he,hA⟩=>⟨v,he,by rw [e1,e2,M.swhy_same,hr] at hA;exact hA.r⟩
 have CI':∀ (A:Option Addr) (B O D:Nat) (s:Sn) (W:World),DoSS W A B O ll→s.At W→s.l1=t.l1→s.l2=t.l2→Calls Tryz.prog 12 #[.agg #[.slice A ll.length D],.agg #[.slice s.a1 s.l1.length s.c1,.slice s.a2 s.l2.length s.c2],.int .i64 kind] W fun e w'=>∃ v,e=.returned v∧WyG W w' r v:=fun A B O D s W h1 h2 e1 e2=>(CI A B O D s W h1 h2 e1 e2).mono fun _ _ ⟨v,he,hA⟩=>⟨v,he,by rw [e1,e2,hr] at hA;exact hA.g⟩
 have CJ':∀ (A:Option Addr) (B O D:Nat) (s:Sn) (W:World),DoSS W A B O ll→s.At W→s.l1=t.l1→s.l2=t.l2→Calls Tryz.prog 12 #[.agg #[.slice A ll.length D],.agg #[.slice s.a1 s.l1.length s.c1,.slice s.a2 s.l2.length s.c2],.int .i64 kind] W fun e w'=>∃ v,e=.returned v∧WyR W w' r v:=fun A B O D s W h1 h2 e1 e2=>(CI A B O D s W h1 h2 e1 e2).mono fun _ _ ⟨v,he,hA⟩=>⟨v,he,by rw [e1,e2,hr] at hA;exact hA.r⟩
 rw [hr] at hyl hysm hy3
 clear hr CS CI
 obtain ⟨ok,hok⟩:∃ ok,r.isSome=ok:=⟨_,rfl⟩
 obtain ⟨y,hy⟩:∃ y,r.getD ([],[])=y:=⟨_,rfl⟩
 have HY:Hid (r.getD ([],[])=y):=hy
 have HOK:Hid (r.isSome=ok):=hok
 rw [hy] at hyl hysm hy3
 clear hy hok
 have CS:∀ (A:Option Addr) (B O D:Nat) (s:Sn) (W:World),DoSS W A B O ll→s.At W→s.l1=t.l1→s.l2=t.l2→Calls Tryz.prog 11 #[.agg #[.slice A ll.length D],.agg #[.slice s.a1 s.l1.length s.c1,.slice s.a2 s.l2.length s.c2],.int .i64 kind] W fun e w'=>∃ fa fb fc ra rb rc,e=.returned (.tuple #[.agg #[.slice fa y.1.length fc,.slice ra y.2.length rc],.bool ok])∧IntS w' fa fb 0 y.1∧IntSS w' ra rb 0 y.2∧Below W.heap.size W w':=fun A B O D s W h1 h2 e1 e2=>(CS' A B O D s W h1 h2 e1 e2).mono fun _ _ ⟨v,he,hA⟩=>by
  obtain ⟨fa,fb,fc,ra,rb,rc,hv,i1,i2⟩:=hA.ex
  rw [HY.out] at hv i1 i2
  rw [HOK.out] at hv
  exact ⟨fa,fb,fc,ra,rb,rc,by rw [he,hv],i1,i2,hA.bel⟩
 have CJ:∀ (A:Option Addr) (B O D:Nat) (s:Sn) (W:World),DoSS W A B O ll→s.At W→s.l1=t.l1→s.l2=t.l2→Calls Tryz.prog 12 #[.agg #[.slice A ll.length D],.agg #[.slice s.a1 s.l1.length s.c1,.slice s.a2 s.l2.length s.c2],.int .i64 kind] W fun e w'=>∃ fa fb fc ra rb rc,e=.returned (.tuple #[.agg #[.slice fa y.1.length fc,.slice ra y.2.length rc],.bool ok])∧IntS w' fa fb 0 y.1∧IntSS w' ra rb 0 y.2∧Below W.heap.size W w':=fun A B O D s W h1 h2 e1 e2=>(CJ' A B O D s W h1 h2 e1 e2).mono fun _ _ ⟨v,he,hA⟩=>by
  obtain ⟨fa,fb,fc,ra,rb,rc,hv,i1,i2⟩:=hA.ex
  rw [HY.out] at hv i1 i2
  rw [HOK.out] at hv
  exact ⟨fa,fb,fc,ra,rb,rc,by rw [he,hv],i1,i2,hA.bel⟩
 have CI:∀ (A:Option Addr) (B O D:Nat) (s:Sn) (W:World),DoSS W A B O ll→s.At W→s.l1=t.l1→s.l2=t.l2→Calls Tryz.prog 12 #[.agg #[.slice A ll.length D],.agg #[.slice s.a1 s.l1.length s.c1,.slice s.a2 s.l2.length s.c2],.int .i64 kind] W fun e w'=>∃ fv ov cs,e=.returned (.tuple #[.agg #[fv,ov],.bool ok])∧Xw w' W.heap.size fv ov y.1 cs y.2∧Below W.heap.size W w':=fun A B O D s W h1 h2 e1 e2=>(CI' A B O D s W h1 h2 e1 e2).mono fun _ _ ⟨v,he,hA⟩=>by
  obtain ⟨fv,ov,cs,hv,hx⟩:=hA.ex
  rw [HY.out] at hx
  rw [HOK.out] at hv
  exact ⟨fv,ov,cs,by rw [he,hv],hx,hA.bel⟩
 clear CS' CI' CJ' HY HOK
 clear r
 have E0:(ok != ok)=false:=by simp
 go_wp2_with fail
 have fp:∀ w',Below W.heap.size W w'→w'.cell? ⟨w.heap.size,0,none⟩=some (.slice a ll.length c):=fun w' h=>(st0.below h).p0
 have fq0:∀ w',Below W.heap.size W w'→w'.cell? ⟨w.heap.size+1,0,none⟩=some (.slice t.a1 t.l1.length t.c1):=fun w' h=>(st0.below h).q0
 have fq1:∀ w',Below W.heap.size W w'→w'.cell? ⟨w.heap.size+1,1,none⟩=some (.slice t.a2 t.l2.length t.c2):=fun w' h=>(st0.below h).q1
 go_cut [8,9] from 29 to 37 (fun sx sk wc=>∃ X fa fb fc ra rb rc,sx=.pointer (some ⟨X,0,none⟩)∧sk=.bool ok∧Below W.heap.size W wc∧BxWy wc X fa fb fc ra rb rc y)
 case first =>
  refine wp_region_held_drew (S:=fun w'=>Below W.heap.size W w') (by kernel_rfl) (Below.refl _ _).drew (fun hH=>?_)
  refine tk 0 30 (.agg #[.slice a ll.length c]) hH rfl rfl (by intro w' hSw;have hc0:=fp w' hSw;go_simp) ?_
  simp only [Act.put,q1,q2,q3]
  refine tk 2 32 (.agg #[.slice t.a1 t.l1.length t.c1,.slice t.a2 t.l2.length t.c2]) hH rfl rfl (by intro w' hSw;have hc0:=fq0 w' hSw;have hc1:=fq1 w' hSw;go_simp) ?_
  simp only [Act.put,q1,q2,q3]
  refine tk 4 34 (.int .i64 kind) hH rfl rfl (by intro w' hSw;go_simp) ?_
  simp only [Act.put,q1,q2,q3]
  refine wpAnyH_ready (rs:=[1,9]) (by kernel_rfl) (by simp) ?_
  refine AllReadyH.cons rfl (fun K' hK=>?_) (AllReadyH.cons rfl (fun K' hK=>?_) AllReadyH.nil)
  ·skip
   refine sg 31 rfl 27 #[.tmp 30] rfl #[.agg #[.slice a ll.length c]] (enters_of Tryz.func27 (by kernel_rfl) rfl) (toProg_any a b o c ll _ hl hls (st0.below hH).sa) ?_
   rintro e V1 ⟨g1,rfl,hn1,b1⟩
   refine ⟨_,rfl,hK.out _ _ (hH.trans (b1.mono hH.size)) (fun hC0=>?_)⟩
   clear hK K'
   simp only [Act.put,q1,q2,q3]
   refine wpAnyH_ready (rs:=[3,9]) (by kernel_rfl) (by simp) ?_
   refine AllReadyH.cons rfl (fun K' hK=>?_) (AllReadyH.cons rfl (fun K' hK=>?_) AllReadyH.nil)
   ·skip
    refine sg 33 rfl 28 #[.tmp 32] rfl #[.agg #[.slice t.a1 t.l1.length t.c1,.slice t.a2 t.l2.length t.c2]] (enters_of Tryz.func28 (by kernel_rfl) rfl) (toSeen_any t _ ht (st0.below hC0).ta) ?_
    rintro e V2 ⟨g3,g4,rfl,hn2,b2⟩
    refine ⟨_,rfl,hK.out _ _ (hC0.trans (b2.mono hC0.size)) (fun hC1=>?_)⟩
    clear hK K'
    simp only [Act.put,q1,q2,q3]
    refine wpAnyH_ready (rs:=[5,9]) (by kernel_rfl) (by simp) ?_
    refine AllReadyH.cons rfl (fun K' hK=>?_) (AllReadyH.cons rfl (fun K' hK=>?_) AllReadyH.nil)
    ·skip
     refine sg 35 rfl 11 #[.tmp 31,.tmp 33,.tmp 34] rfl #[.agg #[.slice (some ⟨g1,0,none⟩) ll.length ll.length],.agg #[.slice (some ⟨g3,0,none⟩) t.l1.length t.l1.length,.slice (some ⟨g4,0,none⟩) t.l2.length t.l2.length],.int .i64 kind] (enters_of Tryz.func11 (by kernel_rfl) rfl) (CS _ g1 0 ll.length (newSn g3 g4 t.l1 t.l2) _ (hn1.old.below b2 (Nat.le_refl _)) hn2.at rfl rfl) ?_
     rintro e V3 ⟨fa,fb,fc,ra,rb,rc,rfl,i1,i2,b3⟩
     refine ⟨_,rfl,hK.out _ _ (hC1.trans (b3.mono hC1.size)) (fun hC2=>?_)⟩
     clear hK K'
     simp only [Act.put,q1,q2,q3]
     refine tk 6 29 (.tuple #[.agg #[.slice fa y.1.length fc,.slice ra y.2.length rc],.bool ok]) hC2 rfl rfl (by intro w' hSw;go_simp) ?_
     simp only [Act.put,q1,q2,q3]
     refine tk 7 36 (.agg #[.slice fa y.1.length fc,.slice ra y.2.length rc]) hC2 rfl rfl (by intro w' hSw;go_simp) ?_
     simp only [Act.put,q1,q2,q3]
     refine tk 8 37 (.bool ok) hC2 rfl rfl (by intro w' hSw;go_simp) ?_
     simp only [Act.put,q1,q2,q3]
     refine ry 9 rfl (fun K' hK=>?_)
     rw [if_pos (by rfl)]
     go_simp
     refine hK.out _ _ (hC2.alloc hC2.size _) (fun _=>?_)
     clear hK K'
     refine ry 10 rfl (fun K' hK=>?_)
     rw [if_pos (by rfl)]
     go_simp
     have hF:=BxWy.last (fc:=fc) (rc:=rc) (x:=y) hC2 i1 i2
     refine hK.out _ _ hF.1 (fun hE=>?_)
     clear hK K'
     refine tk 11 9 (.bool ok) hE rfl rfl (by intro w' hSw;go_simp) ?_
     simp only [Act.put,q1,q2,q3]
     refine wpAnyH_done (by kernel_rfl) ?_ _
     go_wp2_with fail
     go_meet
     case rel=>exact ⟨_,fa,fb,fc,ra,rb,rc,rfl,rfl,hF⟩
    ·skip
     rw [if_pos (by rfl)]
     go_simp
     have hB:=hC1.alloc hC1.size (.cells #[.slice none 0 0,.slice none 0 0] 33)
     refine hK.out _ _ hB (fun _=>?_)
     clear hK K'
     obtain ⟨X,hX⟩:∃ X,V2.heap.size=X:=⟨_,rfl⟩
     have TB:SlotV (V2.alloc (.cells #[.slice none 0 0,.slice none 0 0] 33)) X (.slice none 0 0) (.slice none 0 0):=by rw [← hX];exact ⟨heap_alloc_new _ _⟩
     have hXW:W.heap.size≤X:=by rw [← hX];exact hC1.size
     rw [hX]
     have hXL:=TB.lt
     obtain ⟨WB,hWB⟩:∃ WB,V2.alloc (.cells #[.slice none 0 0,.slice none 0 0] 33)=WB:=⟨_,rfl⟩
     have bWB:Below V2.heap.size V2 WB:=by rw [← hWB];exact below1 _ _
     rw [hWB] at TB hB hXL ⊢
     clear hX hWB
     refine ry 5 rfl (fun K' hK=>?_)
     refine sg 35 rfl 11 #[.tmp 31,.tmp 33,.tmp 34] rfl #[.agg #[.slice (some ⟨g1,0,none⟩) ll.length ll.length],.agg #[.slice (some ⟨g3,0,none⟩) t.l1.length t.l1.length,.slice (some ⟨g4,0,none⟩) t.l2.length t.l2.length],.int .i64 kind] (enters_of Tryz.func11 (by kernel_rfl) rfl) (CS _ g1 0 ll.length (newSn g3 g4 t.l1 t.l2) _ ((hn1.old.below b2 (Nat.le_refl _)).below bWB (Nat.le_refl _)) (hn2.below bWB (Nat.le_refl _)).at rfl rfl) ?_
     rintro e V3 ⟨fa,fb,fc,ra,rb,rc,rfl,i1,i2,b3⟩
     refine ⟨_,rfl,hK.out _ _ (hB.trans (b3.mono hB.size)) (fun hC2=>?_)⟩
     clear hK K'
     simp only [Act.put,q1,q2,q3]
     have T2:=TB.of (b3.block _ TB.lt)
     refine tk 6 29 (.tuple #[.agg #[.slice fa y.1.length fc,.slice ra y.2.length rc],.bool ok]) hC2 rfl rfl (by intro w' hSw;go_simp) ?_
     simp only [Act.put,q1,q2,q3]
     refine tk 7 36 (.agg #[.slice fa y.1.length fc,.slice ra y.2.length rc]) hC2 rfl rfl (by intro w' hSw;go_simp) ?_
     simp only [Act.put,q1,q2,q3]
     refine tk 8 37 (.bool ok) hC2 rfl rfl (by intro w' hSw;go_simp) ?_
     simp only [Act.put,q1,q2,q3]
     have t0:=T2.c0
     have t1:=T2.c1
     have tf:=T2.fz
     refine ry 10 rfl (fun K' hK=>?_)
     rw [if_pos (by rfl)]
     go_simp
     have hF:=BxWy.first (fc:=fc) (rc:=rc) (x:=y) hC2 hXW T2 i1 i2 hy3
     refine hK.out _ _ hF.1 (fun hE=>?_)
     clear hK K'
     clear t0 tf t1
     refine tk 11 9 (.bool ok) hE rfl rfl (by intro w' hSw;go_simp) ?_
     simp only [Act.put,q1,q2,q3]
     refine wpAnyH_done (by kernel_rfl) ?_ _
     go_wp2_with fail
     go_meet
     case rel=>exact ⟨_,fa,fb,fc,ra,rb,rc,rfl,rfl,hF⟩
   ·skip
    rw [if_pos (by rfl)]
    go_simp
    have hB:=hC0.alloc hC0.size (.cells #[.slice none 0 0,.slice none 0 0] 33)
    refine hK.out _ _ hB (fun _=>?_)
    clear hK K'
    obtain ⟨X,hX⟩:∃ X,V1.heap.size=X:=⟨_,rfl⟩
    have TB:SlotV (V1.alloc (.cells #[.slice none 0 0,.slice none 0 0] 33)) X (.slice none 0 0) (.slice none 0 0):=by rw [← hX];exact ⟨heap_alloc_new _ _⟩
    have hXW:W.heap.size≤X:=by rw [← hX];exact hC0.size
    rw [hX]
    have hXL:=TB.lt
    obtain ⟨WB,hWB⟩:∃ WB,V1.alloc (.cells #[.slice none 0 0,.slice none 0 0] 33)=WB:=⟨_,rfl⟩
    have bWB:Below V1.heap.size V1 WB:=by rw [← hWB];exact below1 _ _
    rw [hWB] at TB hB hXL ⊢
    clear hX hWB
    refine ry 3 rfl (fun K' hK=>?_)
    refine sg 33 rfl 28 #[.tmp 32] rfl #[.agg #[.slice t.a1 t.l1.length t.c1,.slice t.a2 t.l2.length t.c2]] (enters_of Tryz.func28 (by kernel_rfl) rfl) (toSeen_any t _ ht (st0.below hB).ta) ?_
    rintro e V2 ⟨g3,g4,rfl,hn2,b2⟩
    refine ⟨_,rfl,hK.out _ _ (hB.trans (b2.mono hB.size)) (fun hC1=>?_)⟩
    clear hK K'
    simp only [Act.put,q1,q2,q3]
    have T1:=TB.of (b2.block _ TB.lt)
    refine ry 5 rfl (fun K' hK=>?_)
    refine sg 35 rfl 11 #[.tmp 31,.tmp 33,.tmp 34] rfl #[.agg #[.slice (some ⟨g1,0,none⟩) ll.length ll.length],.agg #[.slice (some ⟨g3,0,none⟩) t.l1.length t.l1.length,.slice (some ⟨g4,0,none⟩) t.l2.length t.l2.length],.int .i64 kind] (enters_of Tryz.func11 (by kernel_rfl) rfl) (CS _ g1 0 ll.length (newSn g3 g4 t.l1 t.l2) _ ((hn1.old.below bWB (Nat.le_refl _)).below b2 (Nat.le_refl _)) hn2.at rfl rfl) ?_
    rintro e V3 ⟨fa,fb,fc,ra,rb,rc,rfl,i1,i2,b3⟩
    refine ⟨_,rfl,hK.out _ _ (hC1.trans (b3.mono hC1.size)) (fun hC2=>?_)⟩
    clear hK K'
    simp only [Act.put,q1,q2,q3]
    have T2:=T1.of (b3.block _ T1.lt)
    refine tk 6 29 (.tuple #[.agg #[.slice fa y.1.length fc,.slice ra y.2.length rc],.bool ok]) hC2 rfl rfl (by intro w' hSw;go_simp) ?_
    simp only [Act.put,q1,q2,q3]
    refine tk 7 36 (.agg #[.slice fa y.1.length fc,.slice ra y.2.length rc]) hC2 rfl rfl (by intro w' hSw;go_simp) ?_
    simp only [Act.put,q1,q2,q3]
    refine tk 8 37 (.bool ok) hC2 rfl rfl (by intro w' hSw;go_simp) ?_
    simp only [Act.put,q1,q2,q3]
    have t0:=T2.c0
    have t1:=T2.c1
    have tf:=T2.fz
    refine ry 10 rfl (fun K' hK=>?_)
    rw [if_pos (by rfl)]
    go_simp
    have hF:=BxWy.first (fc:=fc) (rc:=rc) (x:=y) hC2 hXW T2 i1 i2 hy3
    refine hK.out _ _ hF.1 (fun hE=>?_)
    clear hK K'
    clear t0 tf t1
    refine tk 11 9 (.bool ok) hE rfl rfl (by intro w' hSw;go_simp) ?_
    simp only [Act.put,q1,q2,q3]
    refine wpAnyH_done (by kernel_rfl) ?_ _
    go_wp2_with fail
    go_meet
    case rel=>exact ⟨_,fa,fb,fc,ra,rb,rc,rfl,rfl,hF⟩
  ·skip
   rw [if_pos (by rfl)]
   go_simp
   have hB:Below W.heap.size W (W.alloc (.cells #[.slice none 0 0,.slice none 0 0] 33)).drew:=((Below.refl _ W).alloc (Nat.le_refl _) _).drew
   refine hK.out _ _ hB (fun _=>?_)
   clear hK K'
   have TB:SlotV (W.alloc (.cells #[.slice none 0 0,.slice none 0 0] 33)).drew W.heap.size (.slice none 0 0) (.slice none 0 0):=⟨heap_alloc_new W _⟩
   have hXW:W.heap.size≤W.heap.size:=Nat.le_refl _
   obtain ⟨WB,hWB⟩:∃ WB,(W.alloc (.cells #[.slice none 0 0,.slice none 0 0] 33)).drew=WB:=⟨_,rfl⟩
   rw [hWB] at TB hB ⊢
   clear hWB
   refine ry 1 rfl (fun K' hK=>?_)
   refine sg 31 rfl 27 #[.tmp 30] rfl #[.agg #[.slice a ll.length c]] (enters_of Tryz.func27 (by kernel_rfl) rfl) (toProg_any a b o c ll _ hl hls (st0.below hB).sa) ?_
   rintro e V1 ⟨g1,rfl,hn1,b1⟩
   refine ⟨_,rfl,hK.out _ _ (hB.trans (b1.mono hB.size)) (fun hC0=>?_)⟩
   clear hK K'
   simp only [Act.put,q1,q2,q3]
   have T0:=TB.of (b1.block _ TB.lt)
   refine ry 3 rfl (fun K' hK=>?_)
   refine sg 33 rfl 28 #[.tmp 32] rfl #[.agg #[.slice t.a1 t.l1.length t.c1,.slice t.a2 t.l2.length t.c2]] (enters_of Tryz.func28 (by kernel_rfl) rfl) (toSeen_any t _ ht (st0.below hC0).ta) ?_
   rintro e V2 ⟨g3,g4,rfl,hn2,b2⟩
   refine ⟨_,rfl,hK.out _ _ (hC0.trans (b2.mono hC0.size)) (fun hC1=>?_)⟩
   clear hK K'
   simp only [Act.put,q1,q2,q3]
   have T1:=T0.of (b2.block _ T0.lt)
   refine ry 5 rfl (fun K' hK=>?_)
   refine sg 35 rfl 11 #[.tmp 31,.tmp 33,.tmp 34] rfl #[.agg #[.slice (some ⟨g1,0,none⟩) ll.length ll.length],.agg #[.slice (some ⟨g3,0,none⟩) t.l1.length t.l1.length,.slice (some ⟨g4,0,none⟩) t.l2.length t.l2.length],.int .i64 kind] (enters_of Tryz.func11 (by kernel_rfl) rfl) (CS _ g1 0 ll.length (newSn g3 g4 t.l1 t.l2) _ (hn1.old.below b2 (Nat.le_refl _)) hn2.at rfl rfl) ?_
   rintro e V3 ⟨fa,fb,fc,ra,rb,rc,rfl,i1,i2,b3⟩
   refine ⟨_,rfl,hK.out _ _ (hC1.trans (b3.mono hC1.size)) (fun hC2=>?_)⟩
   clear hK K'
   simp only [Act.put,q1,q2,q3]
   have T2:=T1.of (b3.block _ T1.lt)
   refine tk 6 29 (.tuple #[.agg #[.slice fa y.1.length fc,.slice ra y.2.length rc],.bool ok]) hC2 rfl rfl (by intro w' hSw;go_simp) ?_
   simp only [Act.put,q1,q2,q3]
   refine tk 7 36 (.agg #[.slice fa y.1.length fc,.slice ra y.2.length rc]) hC2 rfl rfl (by intro w' hSw;go_simp) ?_
   simp only [Act.put,q1,q2,q3]
   refine tk 8 37 (.bool ok) hC2 rfl rfl (by intro w' hSw;go_simp) ?_
   simp only [Act.put,q1,q2,q3]
   have t0:=T2.c0
   have t1:=T2.c1
   have tf:=T2.fz
   refine ry 10 rfl (fun K' hK=>?_)
   rw [if_pos (by rfl)]
   go_simp
   have hF:=BxWy.first (fc:=fc) (rc:=rc) (x:=y) hC2 hXW T2 i1 i2 hy3
   refine hK.out _ _ hF.1 (fun hE=>?_)
   clear hK K'
   clear t0 tf t1
   refine tk 11 9 (.bool ok) hE rfl rfl (by intro w' hSw;go_simp) ?_
   simp only [Act.put,q1,q2,q3]
   refine wpAnyH_done (by kernel_rfl) ?_ _
   go_wp2_with fail
   go_meet
   case rel=>exact ⟨_,fa,fb,fc,ra,rb,rc,rfl,rfl,hF⟩
 case rest =>
  obtain ⟨XA,fa,fb,fc,ra,rb,rc,rfl,rfl,bWA,xA⟩:=hcut
  obtain ⟨WA,rfl⟩:∃ WA:World,WA=wc:=⟨_,rfl⟩
  have stA:=st0.below bWA
  clear fp fq0 fq1 st0 CS
  have p0:=stA.p0
  go_wp2_with fail
  refine (toProg_any a b o c ll WA hl hls stA.sa).mono ?_
  rintro e w4 ⟨x1,rfl,hx4,b4⟩
  have bX:=below1 w4 (.cells #[.slice (some ⟨x1,0,none⟩) ll.length ll.length] 25)
  have bAX:=b4.trans (bX.mono b4.size)
  have sX:=(Slot1.new w4 (.slice (some ⟨x1,0,none⟩) ll.length ll.length) 25).c
  have hxX:=hx4.below bX (Nat.le_refl _)
  have hX4:WA.heap.size≤w4.heap.size:=b4.size
  have stX:=stA.below bAX
  have hszX:Hid ((w4.alloc (.cells #[.slice (some ⟨x1,0,none⟩) ll.length ll.length] 25)).heap.size=w4.heap.size+1):=by show _=_;simp
  clear hx4 b4 bX p0
  have q0:=stX.q0
  have q1:=stX.q1
  go_wp2_with fail
  generalize w4.alloc (.cells #[.slice (some ⟨x1,0,none⟩) ll.length ll.length] 25)=WX at *
  generalize w4.heap.size=PX at *
  refine (toSeen_any t WX ht stX.ta).mono ?_
  rintro e w5 ⟨y1,y2,rfl,hy5,b5⟩
  have bY:=below1 w5 (.cells #[.slice (some ⟨y1,0,none⟩) t.l1.length t.l1.length,.slice (some ⟨y2,0,none⟩) t.l2.length t.l2.length] 28)
  have bXY:=b5.trans (bY.mono b5.size)
  have hyl5:y2 < w5.heap.size:=by obtain ⟨_,_,ho,_⟩:=hy5.own2;exact (Array.getElem?_eq_some_iff.1 ho).1
  have sYc:(w5.alloc (.cells #[.slice (some ⟨y1,0,none⟩) t.l1.length t.l1.length,.slice (some ⟨y2,0,none⟩) t.l2.length t.l2.length] 28)).cell? ⟨w5.heap.size,0,none⟩=some (.slice (some ⟨y1,0,none⟩) t.l1.length t.l1.length)∧(w5.alloc (.cells #[.slice (some ⟨y1,0,none⟩) t.l1.length t.l1.length,.slice (some ⟨y2,0,none⟩) t.l2.length t.l2.length] 28)).cell? ⟨w5.heap.size,1,none⟩=some (.slice (some ⟨y2,0,none⟩) t.l2.length t.l2.length):=⟨by simp,by simp⟩
  have hyY:=hy5.below bY (Nat.le_refl _)
  have hxY:=hxX.below bXY (Nat.le_refl _)
  have sXY:=cbY bXY sX
  have stY:=stX.below bXY
  have bAY:=bAX.trans (bXY.mono bAX.size)
  have hyge:PX+1≤y1∧y1 < y2:=⟨by rw [← hszX.out];exact hy5.ge,hy5.lt⟩
  have hszY:Hid ((w5.alloc (.cells #[.slice (some ⟨y1,0,none⟩) t.l1.length t.l1.length,.slice (some ⟨y2,0,none⟩) t.l2.length t.l2.length] 28)).heap.size=w5.heap.size+1):=by show _=_;simp
  clear hy5 b5 bY bXY bAX hxX sX stX q0 q1 hszX
  obtain ⟨sY0,sY1⟩:=sYc
  go_wp2_with fail
  generalize w5.alloc (.cells #[.slice (some ⟨y1,0,none⟩) t.l1.length t.l1.length,.slice (some ⟨y2,0,none⟩) t.l2.length t.l2.length] 28)=WY at *
  generalize w5.heap.size=PY at *
  refine (CI _ x1 0 ll.length (newSn y1 y2 t.l1 t.l2) WY hxY.old hyY.at rfl rfl).mono ?_
  rintro e w6 ⟨fv,ov,cs,rfl,hx6,b6⟩
  have bG:=below1 w6 (.cells #[fv,ov] 33)
  have bYG:=b6.trans (bG.mono b6.size)
  have bAG:=bAY.trans (bYG.mono bAY.size)
  have hxw:=hx6.bel bG
  have gG0:(w6.alloc (.cells #[fv,ov] 33)).cell? ⟨w6.heap.size,0,none⟩=some fv∧(w6.alloc (.cells #[fv,ov] 33)).cell? ⟨w6.heap.size,1,none⟩=some ov:=⟨by simp,by simp⟩
  have hyG:=hyY.below bYG (Nat.le_refl _)
  have hxG:=hxY.below bYG (Nat.le_refl _)
  have sXG:=cbY bYG sXY
  have sYG0:=cbY bYG sY0
  have sYG1:=cbY bYG sY1
  have stG:=stY.below bYG
  have xG:=xA.below bAG
  obtain ⟨ga,gb,gc,ha,hb,hcc,e1,e2,_,_⟩:=hx6.lw
  subst e1
  subst e2
  clear hx6 b6 bG bYG bAY hyY hxY sXY sY0 sY1 stY
  obtain ⟨gG0,gG1⟩:=gG0
  have u0:=xG.xb.c0
  have u1:=xG.xb.c1
  go_wp2_with fail
  generalize w6.alloc (.cells #[.slice ga y.1.length gc,.slice ha y.2.length hcc] 33)=WG at *
  generalize w6.heap.size=G at *
  have EQ:=fun (W:World) (ga2:Option Addr) (gb2:Nat) (ha2:Option Addr) (hb2:Nat) (i1:IntS W ga2 gb2 0 y.1) (i2:IntSS W ha2 hb2 0 y.2) (h2:BxWy W XA fa fb fc ra rb rc y)=>fun (gc2 hc2:Nat)=>eqExec_same ga2 gb2 0 gc2 ha2 hb2 0 hc2 fa fb 0 fc ra rb 0 rc y.1 y.2 W hyl.a hyl.b hyl.c i1 i2 h2.f h2.o
  obtain ⟨_,gb1,_,_,hb1,_,e1,e2,i1,i2⟩:=hxw.lw
  obtain ⟨rfl,_,rfl⟩:=Value.slice.inj e1
  obtain ⟨rfl,_,rfl⟩:=Value.slice.inj e2
  clear e1 e2
  refine (EQ WG _ gb1 _ hb1 i1 i2 xG _ _).mono ?_
  rintro e WH ⟨rfl,bH⟩
  have bAH:=bAG.trans (bH.mono bAG.size)
  have hxwH:=hxw.bel bH
  have gH0:=cbY bH gG0
  have gH1:=cbY bH gG1
  have hyH:=hyG.below bH (Nat.le_refl _)
  have hxH:=hxG.below bH (Nat.le_refl _)
  have sXH:=cbY bH sXG
  have sYH0:=cbY bH sYG0
  have sYH1:=cbY bH sYG1
  have stH:=stG.below bH
  clear hxw gG0 gG1 hyG hxG sXG sYG0 sYG1 stG u0 u1 i1 i2 bAG bH xG
  go_wp2_with fail
  have st9:=stH.below (Below.refl _ _).drew
  have hx9:=hxH.below (Below.refl _ _).drew (Nat.le_refl _)
  have C1:=toProg_any a b o c ll WH.drew hl hls st9.sa
  have X0:=stH.p0
  have LX:PX < WH.heap.size:=World.block_lt_of_cell? _ _ sXH
  go_region_held3 (fun w'=>w'.cell? ⟨w.heap.size,0,none⟩=some (.slice a ll.length c)∧w'.cell? ⟨PX,0,none⟩=some (.slice (some ⟨x1,0,none⟩) ll.length ll.length)) (go_keep) (first
   | (go_at_call 27;refine C1.mono ?_;rintro e w9 ⟨g1,rfl,hn1,hb1⟩;have st10:=st9.below hb1;have Y0:=st10.p0;have D0:=(hb1.cell (p:=⟨PX,0,none⟩) LX).trans sXH)
   | (go_at_call 30;refine (eqProg_same _ x1 0 ll.length _ g1 0 ll.length ll _ hl hls (hx9.below hb1 (Nat.le_refl _)).old hn1.old).mono ?_;rintro e w10 ⟨rfl,hg10⟩;have st11:=st10.below hg10;have Z0:=st11.p0;have E0':=(hg10.cell (p:=⟨PX,0,none⟩) (Nat.lt_of_lt_of_le LX hb1.size)).trans D0))
  have bI:Below WH.heap.size WH w10:=((Below.refl _ _).drew.trans hb1).trans (hg10.mono hb1.size)
  have bAI:=bAH.trans (bI.mono bAH.size)
  have hxwI:=hxwH.bel bI
  have gI0:=cbY bI gH0
  have gI1:=cbY bI gH1
  have hyI:=hyH.below bI (Nat.le_refl _)
  have hxI:=hxH.below bI (Nat.le_refl _)
  have sXI:=cbY bI sXH
  have sYI0:=cbY bI sYH0
  have sYI1:=cbY bI sYH1
  have stI:=stH.below bI
  clear hxwH gH0 gH1 hyH hxH sXH sYH0 sYH1 stH st9 hx9 C1 X0 LX Y0 D0 Z0 E0' st10 st11 hn1 hb1 hg10 bI bAH
  have Z2:=stI.q0;have Z3:=stI.q1
  go_wp2_with fail
  have st12:=stI.below (Below.refl _ _).drew
  have hy12:=hyI.below (Below.refl _ _).drew (Nat.le_refl _)
  have C2:=toSeen_any t w10.drew ht st12.ta
  have LY:PY < w10.heap.size:=World.block_lt_of_cell? _ _ sYI0
  go_region_held3 (fun w'=>w'.cell? ⟨w.heap.size+1,0,none⟩=some (.slice t.a1 t.l1.length t.c1)∧w'.cell? ⟨w.heap.size+1,1,none⟩=some (.slice t.a2 t.l2.length t.c2)∧w'.cell? ⟨PY,0,none⟩=some (.slice (some ⟨y1,0,none⟩) t.l1.length t.l1.length)∧w'.cell? ⟨PY,1,none⟩=some (.slice (some ⟨y2,0,none⟩) t.l2.length t.l2.length)) (go_keep) (first
   | (go_at_call 28;refine C2.mono ?_;rintro e w12 ⟨g3,g4,rfl,hn2,hb2⟩;have st13:=st12.below hb2;have Y0:=st13.q0;have Y1:=st13.q1;have D0:=(hb2.cell (p:=⟨PY,0,none⟩) LY).trans sYI0;have D1:=(hb2.cell (p:=⟨PY,1,none⟩) LY).trans sYI1)
   | (go_at_call 31;refine (eqSeen_new (hy12.below hb2 (Nat.le_refl _)) hn2 ht.reads ht.last).mono ?_;rintro e w13 ⟨rfl,hg13⟩;have st14:=st13.below hg13.bel;have Z4:=st14.q0;have Z5:=st14.q1;have E0':=(hg13.bel.cell (p:=⟨PY,0,none⟩) (Nat.lt_of_lt_of_le LY hb2.size)).trans D0;have E1':=(hg13.bel.cell (p:=⟨PY,1,none⟩) (Nat.lt_of_lt_of_le LY hb2.size)).trans D1))
  have bJ:Below w10.heap.size w10 w13:=((Below.refl _ _).drew.trans hb2).trans (hg13.bel.mono hb2.size)
  have bAJ:=bAI.trans (bJ.mono bAI.size)
  have hxwJ:=hxwI.bel bJ
  have gJ0:=cbY bJ gI0
  have gJ1:=cbY bJ gI1
  have hyJ:=hyI.below bJ (Nat.le_refl _)
  have hxJ:=hxI.below bJ (Nat.le_refl _)
  have sXJ:=cbY bJ sXI
  have sYJ0:=cbY bJ sYI0
  have sYJ1:=cbY bJ sYI1
  clear hxwI gI0 gI1 hyI hxI sXI sYI0 sYI1 stI st12 hy12 C2 LY Y0 Y1 D0 D1 Z4 Z5 E0' E1' st13 st14 hn2 hb2 hg13 bJ bAI Z2 Z3
  go_wp2_with fail
  refine (markProg_any x1 ll.length WA.heap.size PX ll w13 hl hls hxJ).mono ?_
  rintro e w14 ⟨k1,wa,rfl,hk1,rfl,mk1⟩
  have bal:=below1 w13 (.cells #[.slice (some ⟨x1,0,none⟩) ll.length ll.length] 25)
  have bAK:Below WA.heap.size WA w14:=Mk.below (bAJ.trans (bal.mono bAJ.size)) mk1 (fun j hj=>hj.1)
  have hWYsz:=hszY.out
  have hxwK:=(hxwJ.bel bal).mkFar mk1 (fun j hj=>by have:=hj.2;omega)
  have gK0:=mk1.rest _ _ (cbY bal gJ0) (fun _ e=>by cases e)
  have gK1:=mk1.rest _ _ (cbY bal gJ1) (fun _ e=>by cases e)
  have hyK:=hyJ.below bal (Nat.le_refl _)
  have sYK0:=mk1.rest _ _ (cbY bal sYJ0) (fun _ e=>by cases e)
  have sYK1:=mk1.rest _ _ (cbY bal sYJ1) (fun _ e=>by cases e)
  obtain ⟨fy1,oy1⟩:=hyK.own1
  obtain ⟨fy2,oy2⟩:=hyK.own2
  have hyC:SnC w14 (newSn y1 y2 t.l1 t.l2):=⟨(hyK.reads.toC (fun _ j=>oy1.frozen j)).mk_ mk1,(hyK.last.toC (fun _ j=>oy2.frozen j)).mk_ mk1⟩
  have hyb:∀ j,(newSn y1 y2 t.l1 t.l2).blk j→PX+1≤j∧j < PY:=fun j hj=>by
   rcases hj with ⟨_,e⟩ | ⟨_,e⟩
   ·have e':j=y1:=e
    omega
   ·have e':j=y2:=e
    omega
  clear hxwJ gJ0 gJ1 hyJ hxJ sXJ sYJ0 sYJ1 bal mk1 hyK oy1 oy2 bAJ
  have hk1a:=hk1.1
  have hk1b:=hk1.2
  go_wp2_with fail
  refine (markSeenK_any (newSn y1 y2 t.l1 t.l2) k1 w14 hk1a (by omega) ⟨ht.reads,ht.last⟩ hyC).mono ?_
  rintro e w15 ⟨wb,rfl,rfl,mk2⟩
  have bal:=below1 w14 (.cells #[.slice (some ⟨y1,0,none⟩) t.l1.length t.l1.length,.slice (some ⟨y2,0,none⟩) t.l2.length t.l2.length] 28)
  have bAL:Below WA.heap.size WA w15:=Mk.below (bAK.trans (bal.mono bAK.size)) mk2 (fun j hj=>by have:=hyb j hj;omega)
  have hxwL:=(hxwK.bel bal).mkFar mk2 (fun j hj=>by have:=hyb j hj;omega)
  have gL0:=mk2.rest _ _ (cbY bal gK0) (fun _ e=>by cases e)
  have gL1:=mk2.rest _ _ (cbY bal gK1) (fun _ e=>by cases e)
  have ht1:=ht.reads
  have ht2:=ht.last
  have hkk:¬ (k1+(t.l1.length:Int)+t.l2.length < 0):=by omega
  have hkk':decide (k1+(t.l1.length:Int)+t.l2.length < 0)=false:=by simpa using hkk
  have xL:=xA.below bAL
  clear hxwK gK0 gK1 sYK0 sYK1 bal mk2 hyC bAK
  have u0:=xL.xb.c0
  have u1:=xL.xb.c1
  obtain ⟨_,gb1,_,_,hb1,_,e1,e2,i1,i2⟩:=hxwL.lw
  obtain ⟨rfl,_,rfl⟩:=Value.slice.inj e1
  obtain ⟨rfl,_,rfl⟩:=Value.slice.inj e2
  clear e1 e2
  go_wp2_with fail
  refine (EQ w15 _ gb1 _ hb1 i1 i2 xL _ _).mono ?_
  rintro e w16 ⟨rfl,bM⟩
  have bAM:=bAL.trans (bM.mono bAL.size)
  have hxwM:=hxwL.bel bM
  have gM0:=cbY bM gL0
  have gM1:=cbY bM gL1
  clear hxwL gL0 gL1 i1 i2 u0 u1 bM bAL xL
  go_wp2_with fail
  obtain ⟨hyc,hys⟩:=hxwM.ycs
  have hcl:cs.length=y.2.length:=by have:=hxwM.ord.1;omega
  have hbl:∀ j,BlkY (.slice ga y.1.length gc,.slice ha y.2.length hcc,cs) j→WA.heap.size≤j:=fun j hj=>by
   have:=(hxwM.blk_lt (k:=j) hj).1
   omega
  refine (markWy_any _ _ cs y.1 y.2 w16 hysm hyc hys hcl).mono ?_
  rintro e w17 ⟨wc2,rfl,rfl,hm17,mk3⟩
  have bal:=below1 w16 (.cells #[.slice ga y.1.length gc,.slice ha y.2.length hcc] 33)
  have bAN:Below WA.heap.size WA w17:=Mk.below (bAM.trans (bal.mono bAM.size)) mk3 hbl
  have gN0:=mk3.rest _ _ (cbY bal gM0) (fun _ e=>by cases e)
  have gN1:=mk3.rest _ _ (cbY bal gM1) (fun _ e=>by cases e)
  clear hxwM gM0 gM1 bal mk3 hyc hys bAM hbl
  have HD:=fun (W:World) (h:YMo W (.slice ga y.1.length gc) (.slice ha y.2.length hcc) cs (y.1,y.2) 1)=>heldWy_any _ _ cs y.1 y.2 W hysm h
  have t0:¬ (1+(y.1.length:Int)+M.sumR y.2 < 0):=by omega
  generalize M.sumR y.2=T at *
  go_wp2_with fail
  refine (HD w17 hm17).mono ?_
  rintro e w18 ⟨rfl,rfl⟩
  have bal:=below1 w17 (.cells #[.slice ga y.1.length gc,.slice ha y.2.length hcc] 33)
  have bAO:=bAN.trans (bal.mono bAN.size)
  have hmO:=hm17.below bal
  have gO0:=cbY bal gN0
  have gO1:=cbY bal gN1
  have stO:=stA.below bAO
  have xO:=xA.below bAO
  clear hm17 bal gN0 gN1 bAN
  generalize w17.alloc (.cells #[.slice ga y.1.length gc,.slice ha y.2.length hcc] 33)=WO at *
  go_wp2_with fail
  have fp:∀ w',Below WO.heap.size WO w'→w'.cell? ⟨w.heap.size,0,none⟩=some (.slice a ll.length c):=fun w' h=>(stO.below h).p0
  have fq0:∀ w',Below WO.heap.size WO w'→w'.cell? ⟨w.heap.size+1,0,none⟩=some (.slice t.a1 t.l1.length t.c1):=fun w' h=>(stO.below h).q0
  have fq1:∀ w',Below WO.heap.size WO w'→w'.cell? ⟨w.heap.size+1,1,none⟩=some (.slice t.a2 t.l2.length t.c2):=fun w' h=>(stO.below h).q1
  go_cut [17,18] from 98 to 106 (fun sx sk wc=>∃ X fa fb fc ra rb rc,sx=.pointer (some ⟨X,0,none⟩)∧sk=.bool ok∧Below WO.heap.size WO wc∧BxWy wc X fa fb fc ra rb rc y)
  case first =>
   refine wp_region_held_drew (S:=fun w'=>Below WO.heap.size WO w') (by kernel_rfl) (Below.refl _ _).drew (fun hH=>?_)
   refine tk 0 99 (.agg #[.slice a ll.length c]) hH rfl rfl (by intro w' hSw;have hc0:=fp w' hSw;go_simp) ?_
   simp only [Act.put,q1,q2,q3]
   refine tk 2 101 (.agg #[.slice t.a1 t.l1.length t.c1,.slice t.a2 t.l2.length t.c2]) hH rfl rfl (by intro w' hSw;have hc0:=fq0 w' hSw;have hc1:=fq1 w' hSw;go_simp) ?_
   simp only [Act.put,q1,q2,q3]
   refine tk 4 103 (.int .i64 kind) hH rfl rfl (by intro w' hSw;go_simp) ?_
   simp only [Act.put,q1,q2,q3]
   refine wpAnyH_ready (rs:=[1,9]) (by kernel_rfl) (by simp) ?_
   refine AllReadyH.cons rfl (fun K' hK=>?_) (AllReadyH.cons rfl (fun K' hK=>?_) AllReadyH.nil)
   ·skip
    refine sg 100 rfl 27 #[.tmp 99] rfl #[.agg #[.slice a ll.length c]] (enters_of Tryz.func27 (by kernel_rfl) rfl) (toProg_any a b o c ll _ hl hls (stO.below hH).sa) ?_
    rintro e V1 ⟨g1,rfl,hn1,b1⟩
    refine ⟨_,rfl,hK.out _ _ (hH.trans (b1.mono hH.size)) (fun hC0=>?_)⟩
    clear hK K'
    simp only [Act.put,q1,q2,q3]
    refine wpAnyH_ready (rs:=[3,9]) (by kernel_rfl) (by simp) ?_
    refine AllReadyH.cons rfl (fun K' hK=>?_) (AllReadyH.cons rfl (fun K' hK=>?_) AllReadyH.nil)
    ·skip
     refine sg 102 rfl 28 #[.tmp 101] rfl #[.agg #[.slice t.a1 t.l1.length t.c1,.slice t.a2 t.l2.length t.c2]] (enters_of Tryz.func28 (by kernel_rfl) rfl) (toSeen_any t _ ht (stO.below hC0).ta) ?_
     rintro e V2 ⟨g3,g4,rfl,hn2,b2⟩
     refine ⟨_,rfl,hK.out _ _ (hC0.trans (b2.mono hC0.size)) (fun hC1=>?_)⟩
     clear hK K'
     simp only [Act.put,q1,q2,q3]
     refine wpAnyH_ready (rs:=[5,9]) (by kernel_rfl) (by simp) ?_
     refine AllReadyH.cons rfl (fun K' hK=>?_) (AllReadyH.cons rfl (fun K' hK=>?_) AllReadyH.nil)
     ·skip
      refine sg 104 rfl 12 #[.tmp 100,.tmp 102,.tmp 103] rfl #[.agg #[.slice (some ⟨g1,0,none⟩) ll.length ll.length],.agg #[.slice (some ⟨g3,0,none⟩) t.l1.length t.l1.length,.slice (some ⟨g4,0,none⟩) t.l2.length t.l2.length],.int .i64 kind] (enters_of Tryz.func12 (by kernel_rfl) rfl) (CJ _ g1 0 ll.length (newSn g3 g4 t.l1 t.l2) _ (hn1.old.below b2 (Nat.le_refl _)) hn2.at rfl rfl) ?_
      rintro e V3 ⟨fa,fb,fc,ra,rb,rc,rfl,i1,i2,b3⟩
      refine ⟨_,rfl,hK.out _ _ (hC1.trans (b3.mono hC1.size)) (fun hC2=>?_)⟩
      clear hK K'
      simp only [Act.put,q1,q2,q3]
      refine tk 6 98 (.tuple #[.agg #[.slice fa y.1.length fc,.slice ra y.2.length rc],.bool ok]) hC2 rfl rfl (by intro w' hSw;go_simp) ?_
      simp only [Act.put,q1,q2,q3]
      refine tk 7 105 (.agg #[.slice fa y.1.length fc,.slice ra y.2.length rc]) hC2 rfl rfl (by intro w' hSw;go_simp) ?_
      simp only [Act.put,q1,q2,q3]
      refine tk 8 106 (.bool ok) hC2 rfl rfl (by intro w' hSw;go_simp) ?_
      simp only [Act.put,q1,q2,q3]
      refine ry 9 rfl (fun K' hK=>?_)
      rw [if_pos (by rfl)]
      go_simp
      refine hK.out _ _ (hC2.alloc hC2.size _) (fun _=>?_)
      clear hK K'
      refine ry 10 rfl (fun K' hK=>?_)
      rw [if_pos (by rfl)]
      go_simp
      have hF:=BxWy.last (fc:=fc) (rc:=rc) (x:=y) hC2 i1 i2
      refine hK.out _ _ hF.1 (fun hE=>?_)
      clear hK K'
      refine tk 11 18 (.bool ok) hE rfl rfl (by intro w' hSw;go_simp) ?_
      simp only [Act.put,q1,q2,q3]
      refine wpAnyH_done (by kernel_rfl) ?_ _
      go_wp2_with fail
      go_meet
      case rel=>exact ⟨_,fa,fb,fc,ra,rb,rc,rfl,rfl,hF⟩
     ·skip
      rw [if_pos (by rfl)]
      go_simp
      have hB:=hC1.alloc hC1.size (.cells #[.slice none 0 0,.slice none 0 0] 33)
      refine hK.out _ _ hB (fun _=>?_)
      clear hK K'
      obtain ⟨X,hX⟩:∃ X,V2.heap.size=X:=⟨_,rfl⟩
      have TB:SlotV (V2.alloc (.cells #[.slice none 0 0,.slice none 0 0] 33)) X (.slice none 0 0) (.slice none 0 0):=by rw [← hX];exact ⟨heap_alloc_new _ _⟩
      have hXW:WO.heap.size≤X:=by rw [← hX];exact hC1.size
      rw [hX]
      have hXL:=TB.lt
      obtain ⟨WB,hWB⟩:∃ WB,V2.alloc (.cells #[.slice none 0 0,.slice none 0 0] 33)=WB:=⟨_,rfl⟩
      have bWB:Below V2.heap.size V2 WB:=by rw [← hWB];exact below1 _ _
      rw [hWB] at TB hB hXL ⊢
      clear hX hWB
      refine ry 5 rfl (fun K' hK=>?_)
      refine sg 104 rfl 12 #[.tmp 100,.tmp 102,.tmp 103] rfl #[.agg #[.slice (some ⟨g1,0,none⟩) ll.length ll.length],.agg #[.slice (some ⟨g3,0,none⟩) t.l1.length t.l1.length,.slice (some ⟨g4,0,none⟩) t.l2.length t.l2.length],.int .i64 kind] (enters_of Tryz.func12 (by kernel_rfl) rfl) (CJ _ g1 0 ll.length (newSn g3 g4 t.l1 t.l2) _ ((hn1.old.below b2 (Nat.le_refl _)).below bWB (Nat.le_refl _)) (hn2.below bWB (Nat.le_refl _)).at rfl rfl) ?_
      rintro e V3 ⟨fa,fb,fc,ra,rb,rc,rfl,i1,i2,b3⟩
      refine ⟨_,rfl,hK.out _ _ (hB.trans (b3.mono hB.size)) (fun hC2=>?_)⟩
      clear hK K'
      simp only [Act.put,q1,q2,q3]
      have T2:=TB.of (b3.block _ TB.lt)
      refine tk 6 98 (.tuple #[.agg #[.slice fa y.1.length fc,.slice ra y.2.length rc],.bool ok]) hC2 rfl rfl (by intro w' hSw;go_simp) ?_
      simp only [Act.put,q1,q2,q3]
      refine tk 7 105 (.agg #[.slice fa y.1.length fc,.slice ra y.2.length rc]) hC2 rfl rfl (by intro w' hSw;go_simp) ?_
      simp only [Act.put,q1,q2,q3]
      refine tk 8 106 (.bool ok) hC2 rfl rfl (by intro w' hSw;go_simp) ?_
      simp only [Act.put,q1,q2,q3]
      have t0:=T2.c0
      have t1:=T2.c1
      have tf:=T2.fz
      refine ry 10 rfl (fun K' hK=>?_)
      rw [if_pos (by rfl)]
      go_simp
      have hF:=BxWy.first (fc:=fc) (rc:=rc) (x:=y) hC2 hXW T2 i1 i2 hy3
      refine hK.out _ _ hF.1 (fun hE=>?_)
      clear hK K'
      clear t0 tf t1
      refine tk 11 18 (.bool ok) hE rfl rfl (by intro w' hSw;go_simp) ?_
      simp only [Act.put,q1,q2,q3]
      refine wpAnyH_done (by kernel_rfl) ?_ _
      go_wp2_with fail
      go_meet
      case rel=>exact ⟨_,fa,fb,fc,ra,rb,rc,rfl,rfl,hF⟩
    ·skip
     rw [if_pos (by rfl)]
     go_simp
     have hB:=hC0.alloc hC0.size (.cells #[.slice none 0 0,.slice none 0 0] 33)
     refine hK.out _ _ hB (fun _=>?_)
     clear hK K'
     obtain ⟨X,hX⟩:∃ X,V1.heap.size=X:=⟨_,rfl⟩
     have TB:SlotV (V1.alloc (.cells #[.slice none 0 0,.slice none 0 0] 33)) X (.slice none 0 0) (.slice none 0 0):=by rw [← hX];exact ⟨heap_alloc_new _ _⟩
     have hXW:WO.heap.size≤X:=by rw [← hX];exact hC0.size
     rw [hX]
     have hXL:=TB.lt
     obtain ⟨WB,hWB⟩:∃ WB,V1.alloc (.cells #[.slice none 0 0,.slice none 0 0] 33)=WB:=⟨_,rfl⟩
     have bWB:Below V1.heap.size V1 WB:=by rw [← hWB];exact below1 _ _
     rw [hWB] at TB hB hXL ⊢
     clear hX hWB
     refine ry 3 rfl (fun K' hK=>?_)
     refine sg 102 rfl 28 #[.tmp 101] rfl #[.agg #[.slice t.a1 t.l1.length t.c1,.slice t.a2 t.l2.length t.c2]] (enters_of Tryz.func28 (by kernel_rfl) rfl) (toSeen_any t _ ht (stO.below hB).ta) ?_
     rintro e V2 ⟨g3,g4,rfl,hn2,b2⟩
     refine ⟨_,rfl,hK.out _ _ (hB.trans (b2.mono hB.size)) (fun hC1=>?_)⟩
     clear hK K'
     simp only [Act.put,q1,q2,q3]
     have T1:=TB.of (b2.block _ TB.lt)
     refine ry 5 rfl (fun K' hK=>?_)
     refine sg 104 rfl 12 #[.tmp 100,.tmp 102,.tmp 103] rfl #[.agg #[.slice (some ⟨g1,0,none⟩) ll.length ll.length],.agg #[.slice (some ⟨g3,0,none⟩) t.l1.length t.l1.length,.slice (some ⟨g4,0,none⟩) t.l2.length t.l2.length],.int .i64 kind] (enters_of Tryz.func12 (by kernel_rfl) rfl) (CJ _ g1 0 ll.length (newSn g3 g4 t.l1 t.l2) _ ((hn1.old.below bWB (Nat.le_refl _)).below b2 (Nat.le_refl _)) hn2.at rfl rfl) ?_
     rintro e V3 ⟨fa,fb,fc,ra,rb,rc,rfl,i1,i2,b3⟩
     refine ⟨_,rfl,hK.out _ _ (hC1.trans (b3.mono hC1.size)) (fun hC2=>?_)⟩
     clear hK K'
     simp only [Act.put,q1,q2,q3]
     have T2:=T1.of (b3.block _ T1.lt)
     refine tk 6 98 (.tuple #[.agg #[.slice fa y.1.length fc,.slice ra y.2.length rc],.bool ok]) hC2 rfl rfl (by intro w' hSw;go_simp) ?_
     simp only [Act.put,q1,q2,q3]
     refine tk 7 105 (.agg #[.slice fa y.1.length fc,.slice ra y.2.length rc]) hC2 rfl rfl (by intro w' hSw;go_simp) ?_
     simp only [Act.put,q1,q2,q3]
     refine tk 8 106 (.bool ok) hC2 rfl rfl (by intro w' hSw;go_simp) ?_
     simp only [Act.put,q1,q2,q3]
     have t0:=T2.c0
     have t1:=T2.c1
     have tf:=T2.fz
     refine ry 10 rfl (fun K' hK=>?_)
     rw [if_pos (by rfl)]
     go_simp
     have hF:=BxWy.first (fc:=fc) (rc:=rc) (x:=y) hC2 hXW T2 i1 i2 hy3
     refine hK.out _ _ hF.1 (fun hE=>?_)
     clear hK K'
     clear t0 tf t1
     refine tk 11 18 (.bool ok) hE rfl rfl (by intro w' hSw;go_simp) ?_
     simp only [Act.put,q1,q2,q3]
     refine wpAnyH_done (by kernel_rfl) ?_ _
     go_wp2_with fail
     go_meet
     case rel=>exact ⟨_,fa,fb,fc,ra,rb,rc,rfl,rfl,hF⟩
   ·skip
    rw [if_pos (by rfl)]
    go_simp
    have hB:Below WO.heap.size WO (WO.alloc (.cells #[.slice none 0 0,.slice none 0 0] 33)).drew:=((Below.refl _ WO).alloc (Nat.le_refl _) _).drew
    refine hK.out _ _ hB (fun _=>?_)
    clear hK K'
    have TB:SlotV (WO.alloc (.cells #[.slice none 0 0,.slice none 0 0] 33)).drew WO.heap.size (.slice none 0 0) (.slice none 0 0):=⟨heap_alloc_new WO _⟩
    have hXW:WO.heap.size≤WO.heap.size:=Nat.le_refl _
    obtain ⟨WB,hWB⟩:∃ WB,(WO.alloc (.cells #[.slice none 0 0,.slice none 0 0] 33)).drew=WB:=⟨_,rfl⟩
    rw [hWB] at TB hB ⊢
    clear hWB
    refine ry 1 rfl (fun K' hK=>?_)
    refine sg 100 rfl 27 #[.tmp 99] rfl #[.agg #[.slice a ll.length c]] (enters_of Tryz.func27 (by kernel_rfl) rfl) (toProg_any a b o c ll _ hl hls (stO.below hB).sa) ?_
    rintro e V1 ⟨g1,rfl,hn1,b1⟩
    refine ⟨_,rfl,hK.out _ _ (hB.trans (b1.mono hB.size)) (fun hC0=>?_)⟩
    clear hK K'
    simp only [Act.put,q1,q2,q3]
    have T0:=TB.of (b1.block _ TB.lt)
    refine ry 3 rfl (fun K' hK=>?_)
    refine sg 102 rfl 28 #[.tmp 101] rfl #[.agg #[.slice t.a1 t.l1.length t.c1,.slice t.a2 t.l2.length t.c2]] (enters_of Tryz.func28 (by kernel_rfl) rfl) (toSeen_any t _ ht (stO.below hC0).ta) ?_
    rintro e V2 ⟨g3,g4,rfl,hn2,b2⟩
    refine ⟨_,rfl,hK.out _ _ (hC0.trans (b2.mono hC0.size)) (fun hC1=>?_)⟩
    clear hK K'
    simp only [Act.put,q1,q2,q3]
    have T1:=T0.of (b2.block _ T0.lt)
    refine ry 5 rfl (fun K' hK=>?_)
    refine sg 104 rfl 12 #[.tmp 100,.tmp 102,.tmp 103] rfl #[.agg #[.slice (some ⟨g1,0,none⟩) ll.length ll.length],.agg #[.slice (some ⟨g3,0,none⟩) t.l1.length t.l1.length,.slice (some ⟨g4,0,none⟩) t.l2.length t.l2.length],.int .i64 kind] (enters_of Tryz.func12 (by kernel_rfl) rfl) (CJ _ g1 0 ll.length (newSn g3 g4 t.l1 t.l2) _ (hn1.old.below b2 (Nat.le_refl _)) hn2.at rfl rfl) ?_
    rintro e V3 ⟨fa,fb,fc,ra,rb,rc,rfl,i1,i2,b3⟩
    refine ⟨_,rfl,hK.out _ _ (hC1.trans (b3.mono hC1.size)) (fun hC2=>?_)⟩
    clear hK K'
    simp only [Act.put,q1,q2,q3]
    have T2:=T1.of (b3.block _ T1.lt)
    refine tk 6 98 (.tuple #[.agg #[.slice fa y.1.length fc,.slice ra y.2.length rc],.bool ok]) hC2 rfl rfl (by intro w' hSw;go_simp) ?_
    simp only [Act.put,q1,q2,q3]
    refine tk 7 105 (.agg #[.slice fa y.1.length fc,.slice ra y.2.length rc]) hC2 rfl rfl (by intro w' hSw;go_simp) ?_
    simp only [Act.put,q1,q2,q3]
    refine tk 8 106 (.bool ok) hC2 rfl rfl (by intro w' hSw;go_simp) ?_
    simp only [Act.put,q1,q2,q3]
    have t0:=T2.c0
    have t1:=T2.c1
    have tf:=T2.fz
    refine ry 10 rfl (fun K' hK=>?_)
    rw [if_pos (by rfl)]
    go_simp
    have hF:=BxWy.first (fc:=fc) (rc:=rc) (x:=y) hC2 hXW T2 i1 i2 hy3
    refine hK.out _ _ hF.1 (fun hE=>?_)
    clear hK K'
    clear t0 tf t1
    refine tk 11 18 (.bool ok) hE rfl rfl (by intro w' hSw;go_simp) ?_
    simp only [Act.put,q1,q2,q3]
    refine wpAnyH_done (by kernel_rfl) ?_ _
    go_wp2_with fail
    go_meet
    case rel=>exact ⟨_,fa,fb,fc,ra,rb,rc,rfl,rfl,hF⟩
  case rest =>
   obtain ⟨XB,ja,jb,jc,ka,kb,kc,rfl,rfl,bWB,xB⟩:=hcut
   obtain ⟨WB,rfl⟩:∃ WB:World,WB=wc:=⟨_,rfl⟩
   have bAP:=bAO.trans (bWB.mono bAO.size)
   have xP:=xA.below bAP
   have hmP:=hmO.below bWB
   have gP0:=cbY bWB gO0
   have gP1:=cbY bWB gO1
   clear fp fq0 fq1 hmO gO0 gO1 xO stO
   have u0:=xP.xb.c0
   have u1:=xP.xb.c1
   have v0:=xB.xb.c0
   have v1:=xB.xb.c1
   go_wp2_with fail
   refine (EQ WB _ jb _ kb xB.f xB.o xP _ _).mono ?_
   rintro e w19 ⟨rfl,bQ⟩
   have bAQ:=bAP.trans (bQ.mono bAP.size)
   have hmQ:=hmP.below bQ
   have gQ0:=cbY bQ gP0
   have gQ1:=cbY bQ gP1
   clear u0 u1 v0 v1 hmP gP0 gP1 xP xB
   go_wp2_with fail
   refine (HD w19 hmQ).mono ?_
   rintro e w20 ⟨rfl,rfl⟩
   have bAR:=bAQ.alloc bAQ.size (.cells #[.slice ga y.1.length gc,.slice ha y.2.length hcc] 33)
   go_wp2_with fail
   go_ret
   exact ⟨rfl,stA.bel.trans (bAR.mono stA.bel.size)⟩
end
end Go.Proofs.YtegommoflmmahaaGreat
