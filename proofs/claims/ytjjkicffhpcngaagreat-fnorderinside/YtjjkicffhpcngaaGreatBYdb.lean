/- The law FnOrderInside, walked: it answers true, and leaves all as it was. Of whatever code. -/
import Derived.Below
import Derived.BigQuiet
import Derived.Deep.AppendLies
import Derived.Deep.AppendSrc
import Derived.Deep.CutRange
import Derived.Deep.MidRow
import Derived.Deep.Quiet
import Derived.Deep.QuietTactic
import Derived.Deep.RegionHeld3
import Derived.Deep.RegionLaw
import Derived.Deep.RegionWith
import Derived.Deep.Slices
import Derived.Deep.WholeRow
import Derived.Handy
import Derived.Laws.AppendOwn
import Derived.Laws.AppendOwnNone
import Derived.Laws.EntriesVeiled
import Derived.Laws.IdiomCopy
import Derived.Laws.OwnMore
import Derived.LoopIn
import Derived.LoopN
import Derived.LoopNIn
import Derived.Maps.OwnIn
import Derived.OwnWalkIn
import Derived.RangeFuncBound
import Derived.RangeFuncLeaves
import Derived.RangeFuncNested
import Derived.Shelf.Abstract
import Derived.Shelf.SlSortCmp.NoneTotal
import Derived.Sort.Grow
import Derived.TacticsInMore
import Derived.WalkKit
import Derived.WalkLawsBesides
import Derived.WalkSpells
import Derived.Deep.OwnRows
import Derived.Test.YtjjkicffhpcngaaGreatRows
import Derived.Test.YtjjkicffhpcngaaGreatBYbt
import Derived.Test.YtjjkicffhpcngaaGreatBYcv
import Derived.Test.YtjjkicffhpcngaaGreatBYcy
import Derived.Test.YtjjkicffhpcngaaGreatBYda
namespace Go.Proofs.YtjjkicffhpcngaaGreat
open Go.RowKit
theorem M.inside_all {mm:List (List M.D)} {k:Nat} (hk:k < mm.length) (hp:M.prog mm=true) (h9:M.anyK (fun d=>d.k==9) mm=false) (qq:List (List M.D)) (e:qq=mm.set k (M.goIn::(mm[k]++[M.goOut]))) (hq:M.prog qq=true) {kind:Int}:(qq.length≤1048576∧∀ t∈qq,t.length≤1048576)∧M.orderAll qq kind=M.orderAll mm kind:=by
 obtain ⟨h1,h2⟩:=M.prog_le hq
 refine ⟨⟨by omega,fun t ht=>by have:=h2 t ht;omega⟩,?_⟩
 have em:mm=mm.take k++mm[k]::mm.drop (k+1):=by rw [List.getElem_cons_drop hk,List.take_append_drop]
 rw [List.set_eq_take_append_cons_drop,if_pos hk] at e
 have hp':=hp
 rw [em] at hp'
 rw [e] at hq ⊢
 have key:=M.all_inside hp' hq (fun l hl d hd e9=>by
  have:=M.anyK_no h9 l (by rw [em];exact hl) d hd
  simp [e9] at this) kind
 rw [key,← em]
set_option maxHeartbeats 4000000 in
set_option maxRecDepth 100000 in
set_option linter.unusedSimpArgs false in
theorem lawIn_any (ca:Option Addr) (cb co L C:Nat) (x:Nat→Int) (ma:Option Addr) (ml C2:Nat) (w:World) (hL:L≤C) (had:0 < L→ca=some ⟨cb,co,none⟩) (hc:∀ i,i < L→w.cell? ⟨cb,co+i,none⟩=some (.int .u8 (x i))∧0≤x i∧x i≤255) :
  Calls Tryz.prog 7 #[.slice ca L C,.slice ma ml C2] w fun e w'=>e=.returned (.bool true)∧Below w.heap.size w w':=by
 by_cases hLb:L≤1048576∧ml≤1048576
 ·obtain ⟨hLa,hLm⟩:=hLb
  go_enter Tryz.func7,Tryz.ntmps7
  go_wp2_with fail
  refine (DrawOrderAll_any ca cb co L C x _ hL had hc hLa).mono ?_
  rintro e w1 ⟨a,g,c,mm,kind,rfl,hsn,hsm,hk0,hk1,hb1⟩
  have hls:=hsm.le
  have hl3:mm.length≤1048576:=by have:=hsm.three;omega
  clear had hc
  have bx0:=BoxP.new (c:=c) hb1 hsn.ss
  go_wp2_with fail
  have HB0:∀ (_:Unit),Below w1.heap.size w1 (w1.alloc (.cells #[.slice a mm.length c] 25)):=fun _=>below1 w1 _
  generalize w1.alloc (.cells #[.slice a mm.length c] 25)=W0 at *
  have hpos:=hsm.pos
  have ha0:Hid (a=some ⟨g,0,none⟩):=hsn.addr hpos
  obtain ⟨vs,hT⟩:∃ vs,Thb W0 g vs mm:=by
   obtain ⟨vs,h1⟩:=hsn.thb
   exact ⟨vs,h1.below (HB0 ())⟩
  clear HB0
  generalize w1.heap.size=P at *
  clear hb1
  have hkl:=M.orderAll_len mm kind
  have hkk:=M.orderAll_le mm kind
  have CI:=fun (W:World) (h:BoxP w W P a g c mm)=>iorderAllK a g 0 c mm kind W hl3 hls h.ss
  have CS:=fun (W:World) (h:BoxP w W P a g c mm)=>sorderAllK a g 0 c mm kind W hl3 hls h.ss
  obtain ⟨ks,hks⟩:∃ ks,M.orderAll mm kind=ks:=⟨_,rfl⟩
  have HKS:Hid (M.orderAll mm kind=ks):=hks
  rw [hks] at hkl hkk CI CS
  clear hks
  refine (CI W0 bx0).mono ?_
  rintro e W1 ⟨v1,rfl,hA⟩
  have bx1:=bx0.below hA.bel
  have hT1:=hT.below hA.bel
  obtain ⟨av,gv,cv,rfl,hS1⟩:=hA.ex
  have p1:=bx1.p.c
  clear hA bx0
  go_wp2_with fail
  refine (CS W1 bx1).mono ?_
  rintro e W2 ⟨v2,rfl,hB⟩
  have bx2:=bx1.below hB.bel
  have hT2:=hT1.below hB.bel
  have hS2:=hS1.below hB.bel (Nat.le_refl _)
  obtain ⟨aw,gw,cw,rfl,hT⟩:=hB.ex
  clear hB bx1 p1 hS1
  go_wp2_with fail
  refine (lpList_same av gv 0 cv aw gw 0 cw ks W2 (by omega) hkk hS2 hT).mono ?_
  rintro e W3 ⟨rfl,b3⟩
  have bx3:=bx2.below b3
  have hT3:=hT2.below b3
  have p3:=bx3.p.c
  have hS3:=hS2.below b3 (Nat.le_refl _)
  clear hS2 hT b3 bx2
  obtain rfl:=ha0.out
  have h14:=hsm.steps
  clear hT hT1 hT2 CI hsn hsm
  have CP:=sprog_any (some ⟨g,0,none⟩) g 0 c mm W3 hl3 hls bx3.ss
  obtain ⟨pr,hpr⟩:∃ pr,M.prog mm=pr:=⟨_,rfl⟩
  have HPR:Hid (M.prog mm=pr):=hpr
  rw [hpr] at CP
  clear hpr
  go_wp2_with fail
  refine CP.mono ?_
  rintro e W4 ⟨rfl,b4⟩
  have bx4:=bx3.below b4
  have hS4:=hS3.below b4 (Nat.le_refl _)
  have hT4:=hT3.below b4
  have p4:=bx4.p.c
  clear bx3 hS3 p3 CP b4 hT3
  cases pr
  ·clear HKS
   go_wp2_with fail
   refine (CS W4 bx4).mono ?_
   rintro e X5 ⟨v5,rfl,hB⟩
   have bxX:=bx4.below hB.bel
   have hSX:=hS4.below hB.bel (Nat.le_refl _)
   obtain ⟨ax,gx,cx,rfl,hTX⟩:=hB.ex
   clear hB
   go_wp2_with fail
   refine (lpList_same av gv 0 cv ax gx 0 cx ks X5 (by omega) hkk hSX hTX).mono ?_
   rintro e Y5 ⟨rfl,bY⟩
   have bxY:=bxX.below bY
   go_wp2_with fail
   go_ret
   exact ⟨rfl,bxY.bel⟩
  ·have CR:=lpWaits_any (some ⟨g,0,none⟩) g 0 c mm W4 hl3 hls bx4.ss
   obtain ⟨wt,hwt⟩:∃ wt,M.anyK (fun d=>d.k==9) mm=wt:=⟨_,rfl⟩
   have HWT:Hid (M.anyK (fun d=>d.k==9) mm=wt):=hwt
   rw [hwt] at CR
   clear hwt
   have e0:((mm.length:Int)==0)=false:=by rw [beq_eq_false_iff_ne];omega
   have e0':¬ (mm.length:Int)=0:=by omega
   go_wp2_with fail
   refine CR.mono ?_
   rintro e W5 ⟨rfl,b5⟩
   have bx5:=bx4.below b5
   have hS5:=hS4.below b5 (Nat.le_refl _)
   have hT5:=hT4.below b5
   have p5:=bx5.p.c
   clear bx4 hS4 p4 CR b5 hT4
   cases wt
   ·by_cases hk2:kind=2
    ·subst hk2
     clear HKS
     go_wp2_with fail
     refine (CS W5 bx5).mono ?_
     rintro e X6 ⟨v6,rfl,hB⟩
     have bxX:=bx5.below hB.bel
     have hSX:=hS5.below hB.bel (Nat.le_refl _)
     obtain ⟨ax,gx,cx,rfl,hTX⟩:=hB.ex
     clear hB
     go_wp2_with fail
     refine (lpList_same av gv 0 cv ax gx 0 cx ks X6 (by omega) hkk hSX hTX).mono ?_
     rintro e Y6 ⟨rfl,bY⟩
     have bxY:=bxX.below bY
     go_wp2_with fail
     go_ret
     exact ⟨rfl,bxY.bel⟩
    ·have hk2':(kind==2)=false:=by simpa using hk2
     obtain ⟨k,hk,hkm⟩:∃ k,ml % mm.length=k∧k < mm.length:=⟨_,rfl,Nat.mod_lt _ hpos⟩
     have hmd:Int.tmod (ml:Int) (mm.length:Int)=(k:Int):=by rw [Int.tmod_eq_emod_of_nonneg (by omega),← hk];exact (Int.natCast_emod _ _).symm
     have HIN:Hid (∀ qq,qq=mm.set k (M.goIn::(mm[k]++[M.goOut]))→M.prog qq=true→(qq.length≤1048576∧∀ t∈qq,t.length≤1048576)∧M.orderAll qq kind=ks):=fun qq e h=>by rw [← HKS.out];exact M.inside_all hkm HPR.out HWT.out qq e h
     have hvl:=hT5.thr.1
     obtain ⟨ta,tb,to',tc,et,htD,htc⟩:=hT5.thr.2 k hkm (by omega)
     have hll:=h14 _ (List.getElem_mem hkm)
     have bx5':=bx5
     have hS5':=hS5
     have ht5:=hT5.cell k (by omega)
     rw [et] at ht5
     clear et htc hk CS HKS
     generalize mm[k]=l0 at *
     have i1:(k:Int) < mm.length:=by omega
     have hPl:=bx5.p.lt
     have hgl:g < W5.heap.size:=World.block_lt_of_cell? _ _ ht5
     obtain ⟨i0,hi,hz0,hz1,hz2⟩:=info_parts Tryz.info41
     obtain ⟨j0,hj,hy0,hy1,hy2⟩:=info_parts Tryz.info43
     go_wp2_with (at_builtin;refine wpList_append_do rfl (.tmp 64) (.tmp 69) 41 rfl (some 70) rfl W5.heap.size 43 j0 _ 24 Tryz.underlying41 hj hy0 hy1 hy2 rfl (.slice (some ⟨W5.heap.size,0,none⟩) 1 1) 1 (flat [M.goIn]) rfl (own_oneD M.goIn (Nat.le_refl _)) (by simp) ta tb to' tc l0 rfl (htD.below (below1 _ _) (Nat.le_refl _)) (by unfold maxLen;omega) (by omega) ?_)
     intro v6 w6 hown6 hg6 _
     have b6:Below W5.heap.size W5 w6:=below_grown (below1 W5 _) hg6 (fun j hj=>by simp [Value.ownBlock] at hj;omega)
     have hown6':w6.ownsRow W5.heap.size 43 3 v6 (M.goIn::l0).length (flat (M.goIn::l0)):=by
      have h:=hown6
      rw [← flat_app] at h
      simpa [Nat.add_comm] using h
     obtain ⟨a6,c6,rfl⟩:=own_slx hown6'
     have hLlt:=fun j e=>(hown6'.lt j e).2
     have bx6:=bx5.below b6
     have hS6:=hS5.below b6 (Nat.le_refl _)
     have hT6:=hT5.below b6
     have p6:=bx6.p.c
     have hPl6:=bx6.p.lt
     have hgl6:g < w6.heap.size:=by have:=b6.size;omega
     have s6:=b6.size
     have hl6:(M.goIn::l0).length=l0.length+1:=rfl
     clear hown6 hg6 bx5 hS5 p5 htD
     have hown7:(w6.alloc (.cells #[] 41)).ownsRow w6.heap.size 41 1 (.slice (some ⟨w6.heap.size,0,none⟩) 0 0) 0 []:=World.ownsRow_made w6 _ 0 (Nat.le_refl _) (Nat.zero_le _) rfl
     go_wp2_with (at_builtin;go_loud (refine wpList_append_own _ rfl (.tmp 71) (.tmp 73) 23 rfl w6.heap.size 41 i0 _ 1 24 Tryz.underlying23 hi hz0 hz1 hz2 rfl (by decide) _ _ _ rfl hown7 ⟨g,0,none⟩ mm.length c vs rfl (by omega) ?c1 (fun y hy=>hT6.thr.one y hy) (by unfold maxLen;omega) (by omega) (by simp) ?_))
     case c1 =>
      intro j u hj
      have hjl:=M.lt_of_get hj
      rw [List.getElem?_eq_getElem hjl] at hj
      obtain ⟨rfl⟩:=hj
      rw [Go.WideShapes.add_plain,World.cell?_alloc_past _ _ _ (by omega),Nat.zero_add]
      exact hT6.cell j hjl
     intro v8 w8 hown8 hg8 _
     have b8:Below w6.heap.size w6 w8:=below_grown (below1 w6 _) hg8 (fun k hk=>by simp [Value.ownBlock] at hk;omega)
     have hown8':w8.ownsRow w6.heap.size 41 1 v8 mm.length vs:=by simpa using hown8
     have hL8:=ownsRow_below hown6' b8
     obtain ⟨a8,c8,rfl⟩:=own_slx hown8'
     obtain ⟨gq,cq,eq8,hgq,hgq2⟩:=hown8'.form (by omega)
     simp only [Value.slice.injEq] at eq8
     obtain ⟨rfl,_,rfl⟩:=eq8
     have hw68:=b8.size
     have b68:=b6.trans (b8.mono b6.size)
     have bx8:=bx6.below b8
     have hS8:=hS6.below b8 (Nat.le_refl _)
     clear hown8 hg8 hown7 bx6 hS6 p6 hown6' hT6
     have b9:=below1 w8 (.cells #[.slice (some ⟨gq,0,none⟩) mm.length c8] 25)
     have q9:=Slot1.new w8 (.slice (some ⟨gq,0,none⟩) mm.length c8) 25
     have bx9:=bx8.below b9
     have hS9:=hS8.below b9 (Nat.le_refl _)
     have hQ9:=ownsRow_below hown8' b9
     have hL9:=ownsRow_below hL8 b9
     have b59:=b68.trans (b9.mono b68.size)
     have hQne:gq≠w8.heap.size:=by omega
     clear bx8 hS8 hown8' hL8 b8 b9 b6 b68
     go_wp2_with fail
     generalize w8.alloc (.cells #[.slice (some ⟨gq,0,none⟩) mm.length c8] 25)=W9 at *
     have hQs:W5.heap.size≤w8.heap.size:=by omega
     generalize w8.heap.size=Q at *
     have hl9:(.slice a6 (l0.length+1) c6:Value)=.slice a6 (M.goIn::l0).length c6:=rfl
     refine wp_region_held_drew (S:=fun w'=>w'.cell? ⟨Q,0,none⟩=some (.slice (some ⟨gq,0,none⟩) mm.length c8)) (by kernel_rfl) q9.c (fun hH=>?_)
     refine takeD 0 (some 76) (.pointer (some ⟨Q,0,none⟩)) hH rfl rfl (by kernel_rfl) (by kernel_rfl) (by kernel_rfl) (fun _ _ _ h=>h) (Or.inl ⟨by rfl,by intro w' hSw;go_simp⟩) ?_
     simp only [Act.put,List.setIfInBounds_toArray,List.set_cons_zero,List.set_cons_succ]
     refine takeD 1 (some 77) (.slice (some ⟨gq,0,none⟩) mm.length c8) hH rfl rfl (by kernel_rfl) (by kernel_rfl) (by kernel_rfl) (fun _ _ _ h=>h) (Or.inl ⟨by rfl,by intro w' hSw;have hc:=hSw;go_simp⟩) ?_
     simp only [Act.put,List.setIfInBounds_toArray,List.set_cons_zero,List.set_cons_succ]
     refine takeD 2 (some 78) (.int .i64 k) hH rfl rfl (by kernel_rfl) (by kernel_rfl) (by kernel_rfl) (fun _ _ _ h=>h) (Or.inl ⟨by rfl,by intro w' hSw;go_simp⟩) ?_
     simp only [Act.put,List.setIfInBounds_toArray,List.set_cons_zero,List.set_cons_succ]
     refine takeD 3 (some 79) (.slice a6 (l0.length+1) c6) hH rfl rfl (by kernel_rfl) (by kernel_rfl) (by kernel_rfl) (fun _ _ _ h=>h) (Or.inl ⟨by rfl,by intro w' hSw;go_simp⟩) ?_
     simp only [Act.put,List.setIfInBounds_toArray,List.set_cons_zero,List.set_cons_succ]
     refine takeD 4 (some 80) (.agg #[.int .i64 8,.int .i64 0,.int .i64 0]) hH rfl rfl (by kernel_rfl) (by kernel_rfl) (by kernel_rfl) (fun _ _ _ h=>h) (Or.inl ⟨by rfl,by intro w' hSw;go_simp⟩) ?_
     simp only [Act.put,List.setIfInBounds_toArray,List.set_cons_zero,List.set_cons_succ]
     refine wpAnyH_ready (rs:=[5]) (by kernel_rfl) (by simp) ?_
     refine AllReadyH.cons rfl (fun K' hK=>?_) AllReadyH.nil
     rw [if_pos (by rfl)]
     go_simp
     have bL:Below W9.heap.size W9 (W9.drew.alloc (.cells #[.int .i64 8,.int .i64 0,.int .i64 0] 43)):=(Below.refl W9.heap.size W9).drew.alloc (Nat.le_refl _) _
     have qL:=q9.bl' bL
     refine hK.out _ _ qL.c (fun hHa=>?_)
     clear hK K'
     refine wpAnyH_ready (rs:=[6]) (by kernel_rfl) (by simp) ?_
     refine AllReadyH.cons rfl (fun K' hK=>?_) AllReadyH.nil
     refine step_append_do2 (by rfl) (.tmp 79) (.tmp 81) 41 rfl (some 82) rfl W5.heap.size 43 j0 _ 24 Tryz.underlying41 hj hy0 hy1 hy2 rfl (.slice a6 (M.goIn::l0).length c6) (M.goIn::l0).length (flat (M.goIn::l0)) (by rfl) (ownsRow_below hL9 bL) (Nat.le_trans b59.size bL.size) (some ⟨W9.heap.size,0,none⟩) W9.heap.size 0 1 [M.goOut] (by rfl) (dos_one W9.drew M.goOut) (by unfold maxLen;simp;omega) (by simp;omega) ?_
     intro v10 X2 hown10 hg10 _
     have hLX2:X2.ownsRow W5.heap.size 43 3 v10 (M.goIn::(l0++[M.goOut])).length (flat (M.goIn::(l0++[M.goOut]))):=by
      have h:=hown10
      rw [← flat_app] at h
      simpa using h
     obtain ⟨a10,c10,rfl⟩:=own_slx hLX2
     have hQX2:=(ownsRow_below hQ9 bL).kept hg10 (own_apart (ownsRow_below hQ9 bL) (ownsRow_below hL9 bL) (by decide))
     have qX2:Slot1 X2 Q (.slice (some ⟨gq,0,none⟩) mm.length c8):=qL.apart hg10 (fun e=>by have:=hLlt Q e;omega)
     have bX2:Below W5.heap.size W5 X2:=below_grown (b59.trans (bL.mono b59.size)) hg10 (fun j hj=>((ownsRow_below hL9 bL).lt j hj).1) (Nat.le_trans b59.size bL.size)
     clear hown10
     refine hK.out _ _ qX2.c (fun hHb=>?_)
     clear hK K'
     simp only [Act.put,List.setIfInBounds_toArray,List.set_cons_zero,List.set_cons_succ]
     refine takeD 7 (some 83) (.pointer (some ⟨gq,k,none⟩)) hHb rfl rfl (by kernel_rfl) (by kernel_rfl) (by kernel_rfl) (fun _ _ _ h=>h) (Or.inl ⟨by rfl,by intro w' hSw;go_simp⟩) ?_
     simp only [Act.put,List.setIfInBounds_toArray,List.set_cons_zero,List.set_cons_succ]
     refine wpAnyH_ready (rs:=[8]) (by kernel_rfl) (by simp) ?_
     refine AllReadyH.cons rfl (fun K' hK=>?_) AllReadyH.nil
     have xc:=World.ownsRow.cellAt hQX2 k (by omega)
     rw [List.getElem?_eq_getElem (by omega)] at xc
     have xz:=World.ownsRow.frozenAt hQX2 k
     rw [if_pos (by rfl)]
     go_simp
     have qF:=qX2.far (b':=gq) (i:=k) hQne (.slice a10 (l0.length+1+1) c10)
     refine hK.out _ _ qF.c (fun hHc=>?_)
     clear hK K' xc xz
     refine wpAnyH_done (by kernel_rfl) ?_ _
     have DSS:=put_thread (W0:=W5) (W:=X2) (B:=w6.heap.size) (B2:=W5.heap.size) (k:=k) hT5.thr rfl (by omega) bX2 hQX2 hLX2 hkm
     obtain ⟨ssq,bF⟩:=DSS
     have hqn:(M.goIn::(l0++[M.goOut])).length=l0.length+1+1:=by simp
     rw [hqn] at ssq bF
     have bxF:=bx5'.below bF
     have hSF:=hS5'.below bF (Nat.le_refl _)
     have hqb:∀ t∈mm.set k (M.goIn::(l0++[M.goOut])),t.length≤1048576:=fun t ht=>by
      rcases List.mem_or_eq_of_mem_set ht with h | h
      ·exact hls t h
      ·rw [h,hqn];omega
     have HQ2:=fun (qq:List (List M.D)) (e:mm.set k (M.goIn::(l0++[M.goOut]))=qq)=>HIN.out qq e.symm
     have hqlen:(mm.set k (M.goIn::(l0++[M.goOut]))).length=mm.length:=List.length_set
     obtain ⟨qq,hqq⟩:∃ qq,mm.set k (M.goIn::(l0++[M.goOut]))=qq:=⟨_,rfl⟩
     rw [hqq] at ssq hqb hqlen
     have HQ3:Hid (M.prog qq=true→(qq.length≤1048576∧∀ t∈qq,t.length≤1048576)∧M.orderAll qq kind=ks):=HQ2 qq hqq
     clear HQ2 HIN hqq hqn hLX2 hQX2 hg10 bX2 qX2 qL hL9 hQ9 q9 bx9 hS9 hT5 b59 hHc hHb hHa hH
     have qFc:=qF.c
     generalize X2.setCell ⟨gq,k,none⟩ (.slice a10 (l0.length+1+1) c10)=WF at *
     have CQ1:=sprog_any (some ⟨gq,0,none⟩) gq 0 c8 qq WF (by omega) hqb ssq
     obtain ⟨pq,hpq⟩:∃ pq,M.prog qq=pq:=⟨_,rfl⟩
     have HPQ:Hid (M.prog qq=pq):=hpq
     rw [hpq,hqlen] at CQ1
     clear hpq
     go_wp2_with fail
     refine CQ1.mono ?_
     rintro e WG ⟨rfl,bG⟩
     have bxG:=bxF.below bG
     have hSG:=hSF.below bG (Nat.le_refl _)
     have ssG:=ssq.below bG (Nat.le_refl _)
     have qG:=(qF.bl' bG).c
     clear CQ1 bxF hSF ssq qFc
     cases pq
     ·clear HQ3
      go_wp2_with fail
      go_ret
      exact ⟨rfl,bxG.bel⟩
     ·obtain ⟨⟨hx1,hx2⟩,heq⟩:=HQ3.out HPQ.out
      have CQ2:=iorderAllK (some ⟨gq,0,none⟩) gq 0 c8 qq kind WG hx1 hx2 ssG
      rw [heq,hqlen] at CQ2
      clear HQ3 heq hx2
      go_wp2_with fail
      refine CQ2.mono ?_
      rintro e WH ⟨vH,rfl,hB⟩
      have bxH:=bxG.below hB.bel
      have hSH:=hSG.below hB.bel (Nat.le_refl _)
      obtain ⟨aw,gw,cw,rfl,hTw⟩:=hB.ex
      clear hB
      go_wp2_with fail
      refine (lpList_same aw gw 0 cw av gv 0 cv ks WH (by omega) hkk hTw hSH).mono ?_
      rintro e WI ⟨rfl,bI⟩
      have bxI:=bxH.below bI
      go_wp2_with fail
      go_ret
      exact ⟨rfl,bxI.bel⟩
   ·clear HKS
    go_wp2_with fail
    refine (CS W5 bx5).mono ?_
    rintro e X7 ⟨v7,rfl,hB⟩
    have bxX:=bx5.below hB.bel
    have hSX:=hS5.below hB.bel (Nat.le_refl _)
    obtain ⟨ax,gx,cx,rfl,hTX⟩:=hB.ex
    clear hB
    go_wp2_with fail
    refine (lpList_same av gv 0 cv ax gx 0 cx ks X7 (by omega) hkk hSX hTX).mono ?_
    rintro e Y7 ⟨rfl,bY⟩
    have bxY:=bxX.below bY
    go_wp2_with fail
    go_ret
    exact ⟨rfl,bxY.bel⟩
 ·go_enter Tryz.func7,Tryz.ntmps7
  rcases (show 1048576 < L∨(L≤1048576∧1048576 < ml) by omega) with h1 | ⟨h1,h2⟩
  ·go_wp2_with fail
   go_ret
   exact ⟨rfl,Below.refl _ _⟩
  ·go_wp2_with fail
   go_ret
   exact ⟨rfl,Below.refl _ _⟩
end Go.Proofs.YtjjkicffhpcngaaGreat
