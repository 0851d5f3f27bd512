/- The law FnOrderRead, walked: it answers true, and leaves all as it was. Of whatever code. -/
import Derived.Below
import Derived.BigQuiet
import Derived.Deep.AppendLies
import Derived.Deep.AppendSrc
import Derived.Deep.CutRange
import Derived.Deep.MidRow
import Derived.Deep.Quiet
import Derived.Deep.QuietTactic
import Derived.Deep.RegionHeld3
import Derived.Deep.RegionLaw
import Derived.Deep.RegionWith
import Derived.Deep.Slices
import Derived.Deep.WholeRow
import Derived.Handy
import Derived.Laws.AppendOwn
import Derived.Laws.AppendOwnNone
import Derived.Laws.EntriesVeiled
import Derived.Laws.IdiomCopy
import Derived.Laws.OwnMore
import Derived.LoopIn
import Derived.LoopN
import Derived.LoopNIn
import Derived.Maps.AppendAt
import Derived.Maps.OwnIn
import Derived.OwnWalkIn
import Derived.RangeFuncBound
import Derived.RangeFuncLeaves
import Derived.RangeFuncNested
import Derived.Shelf.Abstract
import Derived.Shelf.SlSortCmp.NoneTotal
import Derived.Sort.Grow
import Derived.TacticsInMore
import Derived.WalkKit
import Derived.WalkLawsBesides
import Derived.WalkSpells
import Derived.Deep.OwnRows
import Derived.Test.YtjjkicffhpcngaaGreatRows
import Derived.Test.YtjjkicffhpcngaaGreatBVbu
import Derived.Test.YtjjkicffhpcngaaGreatBVbw
namespace Go.Proofs.YtjjkicffhpcngaaGreat
open Go.RowKit
set_option maxHeartbeats 4000000 in
set_option maxRecDepth 100000 in
set_option linter.unusedSimpArgs false in
theorem lawRd_any (ca:Option Addr) (cb co L C:Nat) (x:Nat→Int) (w:World) (hL:L≤C) (had:0 < L→ca=some ⟨cb,co,none⟩) (hc:∀ i,i < L→w.cell? ⟨cb,co+i,none⟩=some (.int .u8 (x i))∧0≤x i∧x i≤255) :
  Calls Tryz.prog 10 #[.slice ca L C] w fun e w'=>e=.returned (.bool true)∧Below w.heap.size w w':=by
 by_cases hLb:L≤1048576
 ·go_enter Tryz.func10,Tryz.ntmps10
  go_wp2_with fail
  refine (DrawOrderAll_any ca cb co L C x _ hL had hc hLb).mono ?_
  rintro e w1 ⟨a,g,c,mm,kind,rfl,hsn,hsm,hk0,hk1,hb1⟩
  have hls:=hsm.le
  have hl3:mm.length≤1048576:=by have:=hsm.three;omega
  clear had hc
  have bx0:=BoxP.new (c:=c) hb1 hsn.ss
  go_wp2_with fail
  have HB0:∀ (_:Unit),Below w1.heap.size w1 (w1.alloc (.cells #[.slice a mm.length c] 25)):=fun _=>below1 w1 _
  generalize w1.alloc (.cells #[.slice a mm.length c] 25)=W0 at *
  have hpos:=hsm.pos
  have h14:=hsm.steps
  have ha0:Hid (a=some ⟨g,0,none⟩):=hsn.addr hpos
  obtain ⟨vs,hT⟩:∃ vs,Thb W0 g vs mm:=by
   obtain ⟨vs,h1⟩:=hsn.thb
   exact ⟨vs,h1.below (HB0 ())⟩
  clear HB0
  generalize w1.heap.size=P at *
  clear hb1
  have hkl:=M.orderAll_len mm kind
  have hkk:=M.orderAll_le mm kind
  have CI:=fun (W:World) (h:BoxP w W P a g c mm)=>iorderAllK a g 0 c mm kind W hl3 hls h.ss
  have CS:=fun (W:World) (h:BoxP w W P a g c mm)=>sorderAllK a g 0 c mm kind W hl3 hls h.ss
  obtain ⟨ks,hks⟩:∃ ks,M.orderAll mm kind=ks:=⟨_,rfl⟩
  have HKS:Hid (M.orderAll mm kind=ks):=hks
  rw [hks] at hkl hkk CI CS
  clear hks
  refine (CI W0 bx0).mono ?_
  rintro e W1 ⟨v1,rfl,hA⟩
  have bx1:=bx0.below hA.bel
  have hT1:=hT.below hA.bel
  obtain ⟨av,gv,cv,rfl,hS1⟩:=hA.ex
  have p1:=bx1.p.c
  clear hA bx0
  go_wp2_with fail
  refine (CS W1 bx1).mono ?_
  rintro e W2 ⟨v2,rfl,hB⟩
  have bx2:=bx1.below hB.bel
  have hT2:=hT1.below hB.bel
  have hS2:=hS1.below hB.bel (Nat.le_refl _)
  obtain ⟨aw,gw,cw,rfl,hT⟩:=hB.ex
  clear hB bx1 p1 hS1
  go_wp2_with fail
  refine (lpList_same av gv 0 cv aw gw 0 cw ks W2 (by omega) hkk hS2 hT).mono ?_
  rintro e W3 ⟨rfl,b3⟩
  have bx3:=bx2.below b3
  have hT3:=hT2.below b3
  have p3:=bx3.p.c
  have hS3:=hS2.below b3 (Nat.le_refl _)
  clear hS2 hT b3 bx2
  obtain rfl:=ha0.out
  clear hT hT1 hT2 CI hsn hsm
  have HPK:Hid (0 < ks.length→M.prog mm=true):=fun h=>by
   cases hp:M.prog mm
   ·rw [← HKS.out] at h
    unfold M.orderAll at h
    rw [hp,Bool.and_false] at h
    simp at h
   ·rfl
  rcases Nat.eq_zero_or_pos ks.length with hz | hkp
  ·obtain rfl:=List.length_eq_zero_iff.1 hz
   clear HKS HPK
   go_wp2_with fail
   refine (CS W3 bx3).mono ?_
   rintro e X5 ⟨v5,rfl,hB⟩
   have bxX:=bx3.below hB.bel
   have hSX:=hS3.below hB.bel (Nat.le_refl _)
   obtain ⟨ax,gx,cx,rfl,hTX⟩:=hB.ex
   clear hB
   go_wp2_with fail
   refine (lpList_same av gv 0 cv ax gx 0 cx [] X5 (by omega) hkk hSX hTX).mono ?_
   rintro e Y5 ⟨rfl,bY⟩
   have bxY:=bxX.below bY
   go_wp2_with fail
   go_ret
   exact ⟨rfl,bxY.bel⟩
  ·have hne:¬ (ks.length:Int)=0:=by omega
   have hne2:((ks.length:Int)==0)=false:=by rw [beq_eq_false_iff_ne];omega
   have hm0:¬ (mm.length:Int)=0:=by omega
   have HPR:Hid (M.prog mm=true):=HPK.out hkp
   clear CS HPK
   have hPl:=bx3.p.lt
   have hgl:g < W3.heap.size:=World.block_lt_of_cell? _ _ (hT3.cell 0 (by have:=hT3.thr.1;omega))
   have hvl:=hT3.thr.1
   obtain ⟨i0,hi,hz0,hz1,hz2⟩:=info_parts Tryz.info41
   have hown2:(W3.alloc (.cells #[] 41)).ownsRow W3.heap.size 41 1 (.slice (some ⟨W3.heap.size,0,none⟩) 0 0) 0 []:=World.ownsRow_made W3 _ 0 (Nat.le_refl _) (Nat.zero_le _) rfl
   go_wp2_with (at_builtin;refine wpList_append_own _ rfl (.tmp 41) (.tmp 43) 23 rfl W3.heap.size 41 i0 _ 1 24 Tryz.underlying23 hi hz0 hz1 hz2 rfl (by decide) _ _ _ rfl hown2 ⟨g,0,none⟩ mm.length c vs rfl (by omega) ?c1 (fun y hy=>hT3.thr.one y hy) (by unfold maxLen;omega) (by omega) (by simp) ?_)
   case c1 =>
    intro j u hj
    have hjl:=M.lt_of_get hj
    rw [List.getElem?_eq_getElem hjl] at hj
    obtain ⟨rfl⟩:=hj
    rw [Go.WideShapes.add_plain,World.cell?_alloc_past _ _ _ hgl,Nat.zero_add]
    exact hT3.cell j hjl
   intro v5 w5 hown5 hg5 _
   have b5:Below W3.heap.size W3 w5:=below_grown (below1 W3 _) hg5 (fun k hk=>by simp [Value.ownBlock] at hk;omega)
   have hown5':w5.ownsRow W3.heap.size 41 1 v5 mm.length vs:=by simpa using hown5
   have s5:=b5.size
   clear hown5 hg5 hown2
   obtain ⟨a5,c5,rfl⟩:=own_slx hown5'
   obtain ⟨m0,l0,hmm⟩:∃ m0 l0,mm=m0++[l0]:=⟨mm.dropLast,mm.getLast (by intro e;rw [e] at hpos;simp at hpos),(List.dropLast_concat_getLast _).symm⟩
   have HMM:Hid (mm=m0++[l0]):=hmm
   have hk:mm.length=m0.length+1:=by rw [hmm];simp
   obtain ⟨ta,tb,to',tc,et,htD,htc⟩:=hT3.thr.2 m0.length (by omega) (by omega)
   have el:mm[m0.length]'(by omega)=l0:=by simp [hmm]
   rw [el] at et htD htc
   have hll:=h14 l0 (by rw [hmm];simp)
   have ht3:=hT3.cell m0.length (by omega)
   rw [et] at ht3
   obtain ⟨nn,hnn⟩:∃ nn,m0.length=nn:=⟨_,rfl⟩
   have HMS:Hid (∀ l1:List M.D,mm.set nn l1=m0++[l1]):=fun l1=>by rw [← hnn,HMM.out];exact set_last
   rw [hnn] at hk ht3
   simp only [hk] at hown5' hvl ⊢
   have hm1:¬ ((nn:Int)+1)=0:=by omega
   have hm2:(((nn:Int)+1)==0)=false:=by rw [beq_eq_false_iff_ne];omega
   clear hm0
   obtain ⟨gq,cq,eq5,hgq,hgq2⟩:=hown5'.form (by omega)
   simp only [Value.slice.injEq] at eq5
   obtain ⟨rfl,_,rfl⟩:=eq5
   have b6:=below1 w5 (.cells #[.slice (some ⟨gq,0,none⟩) (nn+1) c5] 25)
   have q9:=Slot1.new w5 (.slice (some ⟨gq,0,none⟩) (nn+1) c5) 25
   have b39:=b5.trans (b6.mono b5.size)
   have bx9:=bx3.below b39
   have pc9:=bx9.p.c
   rw [hk] at pc9
   have tc9:=(b39.cell (p:=⟨g,nn,none⟩) hgl).trans ht3
   have hQ9:=ownsRow_below hown5' b6
   have htD9:=htD.below b39 (Nat.le_refl _)
   clear el hmm htc htD et ht3 hown5' b6
   go_wp2_with fail
   obtain ⟨Q,hQ⟩:∃ Q,w5.heap.size=Q:=⟨_,rfl⟩
   generalize w5.alloc (.cells #[.slice (some ⟨gq,0,none⟩) (nn+1) c5] 25)=W9 at *
   rw [hQ] at q9 hgq2 s5 ⊢
   clear hQ b5
   obtain ⟨d0,hd,hd0,hd1,hd2⟩:=info_parts Tryz.info43
   have hgq3:W3.heap.size≤gq:=hgq
   have hQne:gq≠Q:=by omega
   have lq:=q9.lt
   have lp:P < W9.heap.size:=bx9.p.lt
   have lg:g < W9.heap.size:=World.block_lt_of_cell? _ _ tc9
   have hgp:gq≠P:=by omega
   have hgg:gq≠g:=by omega
   have hnl:nn≤1048576:=by omega
   have iw:IntKind.i64.wrap ((nn:Int)+1 - 1)=nn:=by rw [IntKind.wrap_i64];omega
   have iw2:IntKind.i64.wrap (nn:Int)=nn:=by rw [IntKind.wrap_i64];omega
   have i0':(0:Int)≤nn:=by omega
   have i1':(nn:Int) < (nn:Int)+1:=by omega
   go_cut [6] from 48 (fun s6 wc=>s6=.int .i64 ((nn:Int)+1)∧PutEnd W3 Q gq (nn+1) c5 (m0++[l0++[⟨2,0,0⟩]]) wc)
   case first =>
    have hS9:∀ w',Below W9.heap.size W9 w'→w'.cell? ⟨Q,0,none⟩=some (.slice (some ⟨gq,0,none⟩) (nn+1) c5)∧w'.cell? ⟨P,0,none⟩=some (.slice (some ⟨g,0,none⟩) (nn+1) c)∧w'.cell? ⟨g,nn,none⟩=some (.slice ta l0.length tc):=fun w' hb=>⟨(hb.cell (p:=⟨Q,0,none⟩) lq).trans q9.c,(hb.cell (p:=⟨P,0,none⟩) lp).trans pc9,(hb.cell (p:=⟨g,nn,none⟩) lg).trans tc9⟩
    refine wp_region_held_drew (S:=fun w'=>w'.cell? ⟨Q,0,none⟩=some (.slice (some ⟨gq,0,none⟩) (nn+1) c5)∧w'.cell? ⟨P,0,none⟩=some (.slice (some ⟨g,0,none⟩) (nn+1) c)∧w'.cell? ⟨g,nn,none⟩=some (.slice ta l0.length tc)) (by kernel_rfl) (hS9 W9.drew (Below.refl _ _).drew) (fun hH=>?_)
    refine takeD 0 (some 48) (.pointer (some ⟨Q,0,none⟩)) hH rfl rfl (by kernel_rfl) (by kernel_rfl) (by kernel_rfl) (fun _ _ _ h=>h) (Or.inl ⟨by rfl,by intro w' hSw;go_simp⟩) ?_
    simp only [Act.put,List.setIfInBounds_toArray,List.set_cons_zero,List.set_cons_succ]
    refine takeD 1 (some 49) (.slice (some ⟨gq,0,none⟩) (nn+1) c5) hH rfl rfl (by kernel_rfl) (by kernel_rfl) (by kernel_rfl) (fun _ _ _ h=>h) (Or.inl ⟨by rfl,by intro w' hSw;have hc:=hSw.1;go_simp⟩) ?_
    simp only [Act.put,List.setIfInBounds_toArray,List.set_cons_zero,List.set_cons_succ]
    refine takeD 2 (some 50) (.int .i64 ((nn:Int)+1)) hH rfl rfl (by kernel_rfl) (by kernel_rfl) (by kernel_rfl) (fun _ _ _ h=>h) (Or.inl ⟨by rfl,by intro w' hSw;go_simp⟩) ?_
    simp only [Act.put,List.setIfInBounds_toArray,List.set_cons_zero,List.set_cons_succ]
    refine takeD 3 (some 51) (.int .i64 nn) hH rfl rfl (by kernel_rfl) (by kernel_rfl) (by kernel_rfl) (fun _ _ _ h=>h) (Or.inl ⟨by rfl,by intro w' hSw;go_simp⟩) ?_
    simp only [Act.put,List.setIfInBounds_toArray,List.set_cons_zero,List.set_cons_succ]
    refine takeD 5 (some 53) (.pointer (some ⟨P,0,none⟩)) hH rfl rfl (by kernel_rfl) (by kernel_rfl) (by kernel_rfl) (fun _ _ _ h=>h) (Or.inl ⟨by rfl,by intro w' hSw;go_simp⟩) ?_
    simp only [Act.put,List.setIfInBounds_toArray,List.set_cons_zero,List.set_cons_succ]
    refine takeD 6 (some 54) (.slice (some ⟨g,0,none⟩) (nn+1) c) hH rfl rfl (by kernel_rfl) (by kernel_rfl) (by kernel_rfl) (fun _ _ _ h=>h) (Or.inl ⟨by rfl,by intro w' hSw;have hc:=hSw.2.1;go_simp⟩) ?_
    simp only [Act.put,List.setIfInBounds_toArray,List.set_cons_zero,List.set_cons_succ]
    refine takeD 7 (some 55) (.int .i64 ((nn:Int)+1)) hH rfl rfl (by kernel_rfl) (by kernel_rfl) (by kernel_rfl) (fun _ _ _ h=>h) (Or.inl ⟨by rfl,by intro w' hSw;go_simp⟩) ?_
    simp only [Act.put,List.setIfInBounds_toArray,List.set_cons_zero,List.set_cons_succ]
    refine takeD 8 (some 56) (.int .i64 nn) hH rfl rfl (by kernel_rfl) (by kernel_rfl) (by kernel_rfl) (fun _ _ _ h=>h) (Or.inl ⟨by rfl,by intro w' hSw;go_simp⟩) ?_
    simp only [Act.put,List.setIfInBounds_toArray,List.set_cons_zero,List.set_cons_succ]
    refine takeD 9 (some 57) (.pointer (some ⟨g,nn,none⟩)) hH rfl rfl (by kernel_rfl) (by kernel_rfl) (by kernel_rfl) (fun _ _ _ h=>h) (Or.inl ⟨by rfl,by intro w' hSw;go_simp⟩) ?_
    simp only [Act.put,List.setIfInBounds_toArray,List.set_cons_zero,List.set_cons_succ]
    refine takeD 10 (some 58) (.slice ta l0.length tc) hH rfl rfl (by kernel_rfl) (by kernel_rfl) (by kernel_rfl) (fun _ _ _ h=>h) (Or.inl ⟨by rfl,by intro w' hSw;have hc:=hSw.2.2;go_simp⟩) ?_
    simp only [Act.put,List.setIfInBounds_toArray,List.set_cons_zero,List.set_cons_succ]
    refine takeD 12 (some 60) (.agg #[.int .i64 2,.int .i64 0,.int .i64 0]) hH rfl rfl (by kernel_rfl) (by kernel_rfl) (by kernel_rfl) (fun _ _ _ h=>h) (Or.inl ⟨by rfl,by intro w' hSw;go_simp⟩) ?_
    simp only [Act.put,List.setIfInBounds_toArray,List.set_cons_zero,List.set_cons_succ]
    refine wpAnyH_ready (rs:=[4,13]) (by kernel_rfl) (by simp) ?_
    refine AllReadyH.cons rfl (fun K' hK=>?_) (AllReadyH.cons rfl (fun K' hK=>?_) AllReadyH.nil)
    ·rw [if_pos (by rfl)]
     go_simp
     refine hK.out _ _ (hS9 _ (((Below.refl W9.heap.size W9).drew).alloc ((Below.refl W9.heap.size W9).drew).size (.cells #[] 43))) (fun hHx=>?_)
     clear hK K'
     refine wpAnyH_ready (rs:=[11,13]) (by kernel_rfl) (by simp) ?_
     refine AllReadyH.cons rfl (fun K' hK=>?_) (AllReadyH.cons rfl (fun K' hK=>?_) AllReadyH.nil)
     ·have hE:((W9.drew).alloc (.cells #[] 43)).ownsRow W9.heap.size 43 3 (.slice (some ⟨W9.heap.size,0,none⟩) 0 0) 0 []:=by
       have h0:=own_emp (base:=W9.heap.size) (size:=3) (heap_alloc_new (W9.drew) (.cells #[] 43)) (by first | exact Nat.le_refl _ | (rw [World.size_alloc];exact Nat.le_succ _))
       first | exact h0 | exact h0.alloc _ | (rw [World.size_alloc] at h0;exact h0) | (rw [World.size_alloc] at h0;exact h0.alloc _)
      have bc:Below W9.heap.size W9 ((W9.drew).alloc (.cells #[] 43)):=((Below.refl W9.heap.size W9).drew).alloc ((Below.refl W9.heap.size W9).drew).size (.cells #[] 43)
      refine step_append_do2 (by rfl) (.tmp 52) (.tmp 58) 41 rfl (some 59) rfl W9.heap.size 43 d0 _ 24 Tryz.underlying41 hd hd0 hd1 hd2 rfl (.slice (some ⟨W9.heap.size,0,none⟩) 0 0) 0 [] (by rfl) hE bc.size ta tb to' tc l0 (by rfl) (htD9.below bc (Nat.le_refl _)) (by unfold maxLen;omega) (by omega) ?_
      intro v1 w1 hown1 hg1 _
      have b1:Below W9.heap.size W9 w1:=below_grown bc hg1 (fun j hj=>by have hj':W9.heap.size=j:=Option.some.inj hj;omega) bc.size
      have hown1':w1.ownsRow W9.heap.size 43 3 v1 l0.length (flat l0):=by simpa using hown1
      obtain ⟨a1,c1,rfl⟩:=own_slx hown1'
      clear hown1 hg1 hE bc
      refine hK.out _ _ (hS9 _ (b1)) (fun hHx=>?_)
      clear hK K'
      simp only [Act.put,List.setIfInBounds_toArray,List.set_cons_zero,List.set_cons_succ]
      refine wpAnyH_ready (rs:=[13]) (by kernel_rfl) (by simp) ?_
      refine AllReadyH.cons rfl (fun K' hK=>?_) AllReadyH.nil
      rw [if_pos (by rfl)]
      go_simp
      refine hK.out _ _ (hS9 _ ((b1).alloc (b1).size (.cells #[.int .i64 2,.int .i64 0,.int .i64 0] 43))) (fun hHx=>?_)
      clear hK K'
      refine wpAnyH_ready (rs:=[14]) (by kernel_rfl) (by simp) ?_
      refine AllReadyH.cons rfl (fun K' hK=>?_) AllReadyH.nil
      have bc:Below W9.heap.size W9 ((w1).alloc (.cells #[.int .i64 2,.int .i64 0,.int .i64 0] 43)):=(b1).alloc (b1).size (.cells #[.int .i64 2,.int .i64 0,.int .i64 0] 43)
      have hlb:((w1).alloc (.cells #[.int .i64 2,.int .i64 0,.int .i64 0] 43)).heap[w1.heap.size]?=some (.cells #[.int .i64 2,.int .i64 0,.int .i64 0] 43 (0,0)):=heap_alloc_new (w1) (.cells #[.int .i64 2,.int .i64 0,.int .i64 0] 43)
      have hown1c:((w1).alloc (.cells #[.int .i64 2,.int .i64 0,.int .i64 0] 43)).ownsRow W9.heap.size 43 3 (.slice a1 l0.length c1) l0.length (flat l0):=by first | exact hown1' | exact hown1'.alloc _
      refine step_append_do2 (by rfl) (.tmp 59) (.tmp 61) 41 rfl (some 62) rfl W9.heap.size 43 d0 _ 24 Tryz.underlying41 hd hd0 hd1 hd2 rfl (.slice a1 l0.length c1) l0.length (flat l0) (by rfl) hown1c bc.size (some ⟨w1.heap.size,0,none⟩) (w1.heap.size) 0 1 [(⟨2,0,0⟩:M.D)] (by rfl) (DoS.of_block hlb) (by unfold maxLen;simp;omega) (by simp;omega) ?_
      intro v2 w2 hown2 hg2 _
      have b2:Below W9.heap.size W9 w2:=below_grown bc hg2 (fun j hj=>(hown1c.lt j hj).1) bc.size
      have hown2':w2.ownsRow W9.heap.size 43 3 v2 (l0++[(⟨2,0,0⟩:M.D)]).length (flat (l0++[(⟨2,0,0⟩:M.D)])):=by
       rw [flat_app,List.length_append]
       exact hown2
      obtain ⟨a2,c2,rfl⟩:=own_slx hown2'
      clear hown2 hg2 hown1c hlb bc
      refine hK.out _ _ (hS9 _ (b2)) (fun hHx=>?_)
      clear hK K'
      simp only [Act.put,List.setIfInBounds_toArray,List.set_cons_zero,List.set_cons_succ]
      refine takeD 15 (some 63) (.pointer (some ⟨gq,nn,none⟩)) hHx rfl rfl (by kernel_rfl) (by kernel_rfl) (by kernel_rfl) (fun _ _ _ h=>h) (Or.inl ⟨by rfl,by intro w' hSw;go_simp⟩) ?_
      simp only [Act.put,List.setIfInBounds_toArray,List.set_cons_zero,List.set_cons_succ]
      refine wpAnyH_ready (rs:=[16]) (by kernel_rfl) (by simp) ?_
      refine AllReadyH.cons rfl (fun K' hK=>?_) AllReadyH.nil
      have hQ2:=ownsRow_below hQ9 b2
      have xc:=World.ownsRow.cellAt hQ2 nn (by omega)
      rw [List.getElem?_eq_getElem (by omega)] at xc
      have xz:=World.ownsRow.frozenAt hQ2 nn
      have hln:(l0++[(⟨2,0,0⟩:M.D)]).length=l0.length+1:=by simp
      obtain ⟨ssq,bF⟩:=put_thread (W0:=W3) (W:=w2) (B2:=W9.heap.size) (k:=nn) hT3.thr hk.symm hgq3 (b39.trans (b2.mono b39.size)) hQ2 hown2' (by omega)
      rw [HMS.out,hln] at ssq
      rw [hln] at bF
      have qF:=(q9.bl' b2).far (b':=gq) (i:=nn) hQne (.slice a2 (l0.length+1) c2)
      have h2s:=hS9 w2 b2
      rw [if_pos (by rfl)]
      go_simp
      refine hK.out _ _ ⟨qF.c,(World.cell?_setCell_other _ _ _ _ (by intro h;simp only [Addr.mk.injEq] at h;omega)).trans h2s.2.1,(World.cell?_setCell_other _ _ _ _ (by intro h;simp only [Addr.mk.injEq] at h;omega)).trans h2s.2.2⟩ (fun hHy=>?_)
      clear hK K' xc xz
      refine wpAnyH_done (by kernel_rfl) ?_ _
      go_wp2_with fail
      go_meet
      case rel=>exact ⟨rfl,ssq,qF,bF⟩
     ·rw [if_pos (by rfl)]
      go_simp
      refine hK.out _ _ (hS9 _ ((((Below.refl W9.heap.size W9).drew).alloc ((Below.refl W9.heap.size W9).drew).size (.cells #[] 43)).alloc (((Below.refl W9.heap.size W9).drew).alloc ((Below.refl W9.heap.size W9).drew).size (.cells #[] 43)).size (.cells #[.int .i64 2,.int .i64 0,.int .i64 0] 43))) (fun hHx=>?_)
      clear hK K'
      refine wpAnyH_ready (rs:=[11]) (by kernel_rfl) (by simp) ?_
      refine AllReadyH.cons rfl (fun K' hK=>?_) AllReadyH.nil
      have hE:(((W9.drew).alloc (.cells #[] 43)).alloc (.cells #[.int .i64 2,.int .i64 0,.int .i64 0] 43)).ownsRow W9.heap.size 43 3 (.slice (some ⟨W9.heap.size,0,none⟩) 0 0) 0 []:=by
       have h0:=own_emp (base:=W9.heap.size) (size:=3) (heap_alloc_new (W9.drew) (.cells #[] 43)) (by first | exact Nat.le_refl _ | (rw [World.size_alloc];exact Nat.le_succ _))
       first | exact h0 | exact h0.alloc _ | (rw [World.size_alloc] at h0;exact h0) | (rw [World.size_alloc] at h0;exact h0.alloc _)
      have bc:Below W9.heap.size W9 (((W9.drew).alloc (.cells #[] 43)).alloc (.cells #[.int .i64 2,.int .i64 0,.int .i64 0] 43)):=(((Below.refl W9.heap.size W9).drew).alloc ((Below.refl W9.heap.size W9).drew).size (.cells #[] 43)).alloc (((Below.refl W9.heap.size W9).drew).alloc ((Below.refl W9.heap.size W9).drew).size (.cells #[] 43)).size (.cells #[.int .i64 2,.int .i64 0,.int .i64 0] 43)
      have hlb:(((W9.drew).alloc (.cells #[] 43)).alloc (.cells #[.int .i64 2,.int .i64 0,.int .i64 0] 43)).heap[W9.heap.size+1]?=some (.cells #[.int .i64 2,.int .i64 0,.int .i64 0] 43 (0,0)):=by
       have h0:=heap_alloc_new ((W9.drew).alloc (.cells #[] 43)) (.cells #[.int .i64 2,.int .i64 0,.int .i64 0] 43)
       first | exact h0 | (simp only [World.size_alloc] at h0;exact h0)
      refine step_append_do2 (by rfl) (.tmp 52) (.tmp 58) 41 rfl (some 59) rfl W9.heap.size 43 d0 _ 24 Tryz.underlying41 hd hd0 hd1 hd2 rfl (.slice (some ⟨W9.heap.size,0,none⟩) 0 0) 0 [] (by rfl) hE bc.size ta tb to' tc l0 (by rfl) (htD9.below bc (Nat.le_refl _)) (by unfold maxLen;omega) (by omega) ?_
      intro v1 w1 hown1 hg1 _
      have b1:Below W9.heap.size W9 w1:=below_grown bc hg1 (fun j hj=>by have hj':W9.heap.size=j:=Option.some.inj hj;omega) bc.size
      have hown1':w1.ownsRow W9.heap.size 43 3 v1 l0.length (flat l0):=by simpa using hown1
      obtain ⟨a1,c1,rfl⟩:=own_slx hown1'
      have hl1:w1.heap[W9.heap.size+1]?=some (.cells #[.int .i64 2,.int .i64 0,.int .i64 0] 43 (0,0)):=(hg1.block _ (Array.getElem?_eq_some_iff.1 hlb).1 (fun h=>by have h':W9.heap.size+1=W9.heap.size:=Option.some.inj (by first | exact h | exact h.symm);omega)).trans hlb
      clear hown1 hg1 hE bc
      refine hK.out _ _ (hS9 _ (b1)) (fun hHx=>?_)
      clear hK K'
      simp only [Act.put,List.setIfInBounds_toArray,List.set_cons_zero,List.set_cons_succ]
      refine wpAnyH_ready (rs:=[14]) (by kernel_rfl) (by simp) ?_
      refine AllReadyH.cons rfl (fun K' hK=>?_) AllReadyH.nil
      have bc:Below W9.heap.size W9 (w1):=b1
      have hlb:(w1).heap[W9.heap.size+1]?=some (.cells #[.int .i64 2,.int .i64 0,.int .i64 0] 43 (0,0)):=hl1
      have hown1c:(w1).ownsRow W9.heap.size 43 3 (.slice a1 l0.length c1) l0.length (flat l0):=by first | exact hown1' | exact hown1'.alloc _
      refine step_append_do2 (by rfl) (.tmp 59) (.tmp 61) 41 rfl (some 62) rfl W9.heap.size 43 d0 _ 24 Tryz.underlying41 hd hd0 hd1 hd2 rfl (.slice a1 l0.length c1) l0.length (flat l0) (by rfl) hown1c bc.size (some ⟨W9.heap.size+1,0,none⟩) (W9.heap.size+1) 0 1 [(⟨2,0,0⟩:M.D)] (by rfl) (DoS.of_block hlb) (by unfold maxLen;simp;omega) (by simp;omega) ?_
      intro v2 w2 hown2 hg2 _
      have b2:Below W9.heap.size W9 w2:=below_grown bc hg2 (fun j hj=>(hown1c.lt j hj).1) bc.size
      have hown2':w2.ownsRow W9.heap.size 43 3 v2 (l0++[(⟨2,0,0⟩:M.D)]).length (flat (l0++[(⟨2,0,0⟩:M.D)])):=by
       rw [flat_app,List.length_append]
       exact hown2
      obtain ⟨a2,c2,rfl⟩:=own_slx hown2'
      clear hown2 hg2 hown1c hlb bc
      refine hK.out _ _ (hS9 _ (b2)) (fun hHx=>?_)
      clear hK K'
      simp only [Act.put,List.setIfInBounds_toArray,List.set_cons_zero,List.set_cons_succ]
      refine takeD 15 (some 63) (.pointer (some ⟨gq,nn,none⟩)) hHx rfl rfl (by kernel_rfl) (by kernel_rfl) (by kernel_rfl) (fun _ _ _ h=>h) (Or.inl ⟨by rfl,by intro w' hSw;go_simp⟩) ?_
      simp only [Act.put,List.setIfInBounds_toArray,List.set_cons_zero,List.set_cons_succ]
      refine wpAnyH_ready (rs:=[16]) (by kernel_rfl) (by simp) ?_
      refine AllReadyH.cons rfl (fun K' hK=>?_) AllReadyH.nil
      have hQ2:=ownsRow_below hQ9 b2
      have xc:=World.ownsRow.cellAt hQ2 nn (by omega)
      rw [List.getElem?_eq_getElem (by omega)] at xc
      have xz:=World.ownsRow.frozenAt hQ2 nn
      have hln:(l0++[(⟨2,0,0⟩:M.D)]).length=l0.length+1:=by simp
      obtain ⟨ssq,bF⟩:=put_thread (W0:=W3) (W:=w2) (B2:=W9.heap.size) (k:=nn) hT3.thr hk.symm hgq3 (b39.trans (b2.mono b39.size)) hQ2 hown2' (by omega)
      rw [HMS.out,hln] at ssq
      rw [hln] at bF
      have qF:=(q9.bl' b2).far (b':=gq) (i:=nn) hQne (.slice a2 (l0.length+1) c2)
      have h2s:=hS9 w2 b2
      rw [if_pos (by rfl)]
      go_simp
      refine hK.out _ _ ⟨qF.c,(World.cell?_setCell_other _ _ _ _ (by intro h;simp only [Addr.mk.injEq] at h;omega)).trans h2s.2.1,(World.cell?_setCell_other _ _ _ _ (by intro h;simp only [Addr.mk.injEq] at h;omega)).trans h2s.2.2⟩ (fun hHy=>?_)
      clear hK K' xc xz
      refine wpAnyH_done (by kernel_rfl) ?_ _
      go_wp2_with fail
      go_meet
      case rel=>exact ⟨rfl,ssq,qF,bF⟩
    ·rw [if_pos (by rfl)]
     go_simp
     refine hK.out _ _ (hS9 _ (((Below.refl W9.heap.size W9).drew).alloc ((Below.refl W9.heap.size W9).drew).size (.cells #[.int .i64 2,.int .i64 0,.int .i64 0] 43))) (fun hHx=>?_)
     clear hK K'
     refine wpAnyH_ready (rs:=[4]) (by kernel_rfl) (by simp) ?_
     refine AllReadyH.cons rfl (fun K' hK=>?_) AllReadyH.nil
     rw [if_pos (by rfl)]
     go_simp
     refine hK.out _ _ (hS9 _ ((((Below.refl W9.heap.size W9).drew).alloc ((Below.refl W9.heap.size W9).drew).size (.cells #[.int .i64 2,.int .i64 0,.int .i64 0] 43)).alloc (((Below.refl W9.heap.size W9).drew).alloc ((Below.refl W9.heap.size W9).drew).size (.cells #[.int .i64 2,.int .i64 0,.int .i64 0] 43)).size (.cells #[] 43))) (fun hHx=>?_)
     clear hK K'
     refine wpAnyH_ready (rs:=[11]) (by kernel_rfl) (by simp) ?_
     refine AllReadyH.cons rfl (fun K' hK=>?_) AllReadyH.nil
     have hE:(((W9.drew).alloc (.cells #[.int .i64 2,.int .i64 0,.int .i64 0] 43)).alloc (.cells #[] 43)).ownsRow W9.heap.size 43 3 (.slice (some ⟨W9.heap.size+1,0,none⟩) 0 0) 0 []:=by
      have h0:=own_emp (base:=W9.heap.size) (size:=3) (heap_alloc_new ((W9.drew).alloc (.cells #[.int .i64 2,.int .i64 0,.int .i64 0] 43)) (.cells #[] 43)) (by first | exact Nat.le_refl _ | (rw [World.size_alloc];exact Nat.le_succ _))
      first | exact h0 | exact h0.alloc _ | (rw [World.size_alloc] at h0;exact h0) | (rw [World.size_alloc] at h0;exact h0.alloc _)
     have bc:Below W9.heap.size W9 (((W9.drew).alloc (.cells #[.int .i64 2,.int .i64 0,.int .i64 0] 43)).alloc (.cells #[] 43)):=(((Below.refl W9.heap.size W9).drew).alloc ((Below.refl W9.heap.size W9).drew).size (.cells #[.int .i64 2,.int .i64 0,.int .i64 0] 43)).alloc (((Below.refl W9.heap.size W9).drew).alloc ((Below.refl W9.heap.size W9).drew).size (.cells #[.int .i64 2,.int .i64 0,.int .i64 0] 43)).size (.cells #[] 43)
     have hlb:(((W9.drew).alloc (.cells #[.int .i64 2,.int .i64 0,.int .i64 0] 43)).alloc (.cells #[] 43)).heap[W9.heap.size]?=some (.cells #[.int .i64 2,.int .i64 0,.int .i64 0] 43 (0,0)):=by
      have h0:=(below1 ((W9.drew).alloc (.cells #[.int .i64 2,.int .i64 0,.int .i64 0] 43)) (.cells #[] 43)).block _ (by first | (simp;done) | (simp;omega) | omega) |>.trans (heap_alloc_new (W9.drew) (.cells #[.int .i64 2,.int .i64 0,.int .i64 0] 43))
      first | exact h0 | (simp only [World.size_alloc] at h0;exact h0)
     refine step_append_do2 (by rfl) (.tmp 52) (.tmp 58) 41 rfl (some 59) rfl W9.heap.size 43 d0 _ 24 Tryz.underlying41 hd hd0 hd1 hd2 rfl (.slice (some ⟨W9.heap.size+1,0,none⟩) 0 0) 0 [] (by rfl) hE bc.size ta tb to' tc l0 (by rfl) (htD9.below bc (Nat.le_refl _)) (by unfold maxLen;omega) (by omega) ?_
     intro v1 w1 hown1 hg1 _
     have b1:Below W9.heap.size W9 w1:=below_grown bc hg1 (fun j hj=>by have hj':W9.heap.size+1=j:=Option.some.inj hj;omega) bc.size
     have hown1':w1.ownsRow W9.heap.size 43 3 v1 l0.length (flat l0):=by simpa using hown1
     obtain ⟨a1,c1,rfl⟩:=own_slx hown1'
     have hl1:w1.heap[W9.heap.size]?=some (.cells #[.int .i64 2,.int .i64 0,.int .i64 0] 43 (0,0)):=(hg1.block _ (Array.getElem?_eq_some_iff.1 hlb).1 (fun h=>by have h':W9.heap.size=W9.heap.size+1:=Option.some.inj (by first | exact h | exact h.symm);omega)).trans hlb
     clear hown1 hg1 hE bc
     refine hK.out _ _ (hS9 _ (b1)) (fun hHx=>?_)
     clear hK K'
     simp only [Act.put,List.setIfInBounds_toArray,List.set_cons_zero,List.set_cons_succ]
     refine wpAnyH_ready (rs:=[14]) (by kernel_rfl) (by simp) ?_
     refine AllReadyH.cons rfl (fun K' hK=>?_) AllReadyH.nil
     have bc:Below W9.heap.size W9 (w1):=b1
     have hlb:(w1).heap[W9.heap.size]?=some (.cells #[.int .i64 2,.int .i64 0,.int .i64 0] 43 (0,0)):=hl1
     have hown1c:(w1).ownsRow W9.heap.size 43 3 (.slice a1 l0.length c1) l0.length (flat l0):=by first | exact hown1' | exact hown1'.alloc _
     refine step_append_do2 (by rfl) (.tmp 59) (.tmp 61) 41 rfl (some 62) rfl W9.heap.size 43 d0 _ 24 Tryz.underlying41 hd hd0 hd1 hd2 rfl (.slice a1 l0.length c1) l0.length (flat l0) (by rfl) hown1c bc.size (some ⟨W9.heap.size,0,none⟩) (W9.heap.size) 0 1 [(⟨2,0,0⟩:M.D)] (by rfl) (DoS.of_block hlb) (by unfold maxLen;simp;omega) (by simp;omega) ?_
     intro v2 w2 hown2 hg2 _
     have b2:Below W9.heap.size W9 w2:=below_grown bc hg2 (fun j hj=>(hown1c.lt j hj).1) bc.size
     have hown2':w2.ownsRow W9.heap.size 43 3 v2 (l0++[(⟨2,0,0⟩:M.D)]).length (flat (l0++[(⟨2,0,0⟩:M.D)])):=by
      rw [flat_app,List.length_append]
      exact hown2
     obtain ⟨a2,c2,rfl⟩:=own_slx hown2'
     clear hown2 hg2 hown1c hlb bc
     refine hK.out _ _ (hS9 _ (b2)) (fun hHx=>?_)
     clear hK K'
     simp only [Act.put,List.setIfInBounds_toArray,List.set_cons_zero,List.set_cons_succ]
     refine takeD 15 (some 63) (.pointer (some ⟨gq,nn,none⟩)) hHx rfl rfl (by kernel_rfl) (by kernel_rfl) (by kernel_rfl) (fun _ _ _ h=>h) (Or.inl ⟨by rfl,by intro w' hSw;go_simp⟩) ?_
     simp only [Act.put,List.setIfInBounds_toArray,List.set_cons_zero,List.set_cons_succ]
     refine wpAnyH_ready (rs:=[16]) (by kernel_rfl) (by simp) ?_
     refine AllReadyH.cons rfl (fun K' hK=>?_) AllReadyH.nil
     have hQ2:=ownsRow_below hQ9 b2
     have xc:=World.ownsRow.cellAt hQ2 nn (by omega)
     rw [List.getElem?_eq_getElem (by omega)] at xc
     have xz:=World.ownsRow.frozenAt hQ2 nn
     have hln:(l0++[(⟨2,0,0⟩:M.D)]).length=l0.length+1:=by simp
     obtain ⟨ssq,bF⟩:=put_thread (W0:=W3) (W:=w2) (B2:=W9.heap.size) (k:=nn) hT3.thr hk.symm hgq3 (b39.trans (b2.mono b39.size)) hQ2 hown2' (by omega)
     rw [HMS.out,hln] at ssq
     rw [hln] at bF
     have qF:=(q9.bl' b2).far (b':=gq) (i:=nn) hQne (.slice a2 (l0.length+1) c2)
     have h2s:=hS9 w2 b2
     rw [if_pos (by rfl)]
     go_simp
     refine hK.out _ _ ⟨qF.c,(World.cell?_setCell_other _ _ _ _ (by intro h;simp only [Addr.mk.injEq] at h;omega)).trans h2s.2.1,(World.cell?_setCell_other _ _ _ _ (by intro h;simp only [Addr.mk.injEq] at h;omega)).trans h2s.2.2⟩ (fun hHy=>?_)
     clear hK K' xc xz
     refine wpAnyH_done (by kernel_rfl) ?_ _
     go_wp2_with fail
     go_meet
     case rel=>exact ⟨rfl,ssq,qF,bF⟩
   case rest =>
    obtain ⟨rfl,hPE⟩:=hcut
    obtain ⟨WC,hWC⟩:∃ WC,WC=wc:=⟨_,rfl⟩
    subst hWC
    have bxC:=bx3.below hPE.bel
    have hSC:=hS3.below hPE.bel (Nat.le_refl _)
    have ssC:=hPE.ss
    have qC:=hPE.q
    have qCc:=qC.c
    have hqlen:(m0++[l0++[(⟨2,0,0⟩:M.D)]]).length=nn+1:=by simp [hnn]
    have HST:Hid (M.prog (m0++[l0++[(⟨2,0,0⟩:M.D)]])=true→M.sortK ((M.orderAll (m0++[l0++[⟨2,0,0⟩]]) kind).map fun z=>(z.1.dropLast,z.2))=ks∧∀ z∈M.orderAll (m0++[l0++[⟨2,0,0⟩]]) kind,0 < z.1.length):=fun hq=>by
     have h:=M.all_read (HMM.out▸HPR.out) hq (by omega) (by omega) kind
     rw [← HMM.out,HKS.out] at h
     exact h
    have hqb:∀ t∈m0++[l0++[(⟨2,0,0⟩:M.D)]],t.length≤1048576:=fun t ht=>by
     rcases List.mem_append.1 ht with h | h
     ·exact hls t (by rw [HMM.out];exact List.mem_append.2 (.inl h))
     ·rw [List.mem_singleton.1 h,List.length_append];simp;omega
    clear hPE bx3 hS3 HKS HPR HMM HMS hT3 b39 bx9 pc9 tc9 hQ9 htD9 q9 lq lp lg hgp hgg hgq3 hgq hgq2 hvl hnn
    generalize m0++[l0++[(⟨2,0,0⟩:M.D)]]=qq at *
    have CQ1:=sprog_any (some ⟨gq,0,none⟩) gq 0 c5 qq WC (by omega) hqb ssC
    obtain ⟨pq,hpq⟩:∃ pq,M.prog qq=pq:=⟨_,rfl⟩
    have HPQ:Hid (M.prog qq=pq):=hpq
    have HQL:Hid (qq.length=nn+1):=hqlen
    rw [hpq,hqlen] at CQ1
    have hqx:qq.length≤1048576:=by omega
    clear hpq hqlen
    go_wp2_with fail
    refine CQ1.mono ?_
    rintro e WD ⟨rfl,bG⟩
    have bxD:=bxC.below bG
    have hSD:=hSC.below bG (Nat.le_refl _)
    have ssD:=ssC.below bG (Nat.le_refl _)
    have qD:=qC.bl' bG
    have qDc:=qD.c
    clear CQ1 bxC hSC ssC qC qCc
    cases pq
    ·clear HST
     go_wp2_with fail
     go_ret
     exact ⟨rfl,bxD.bel⟩
    ·obtain ⟨heq,hps⟩:=HST.out HPQ.out
     have CQ2:=iorderAllC_any (some ⟨gq,0,none⟩) gq 0 c5 qq kind WD hqx hqb ssD
     rw [HQL.out] at CQ2
     obtain ⟨j0,hj,hy0,hy1,hy2⟩:=info_parts Tryz.infoSn2
     clear HST
     go_wp2_with fail
     refine CQ2.mono ?_
     rintro e WE ⟨vE,rfl,hB⟩
     have bxE:=bxD.below hB.bel
     have hSE:=hSD.below hB.bel (Nat.le_refl _)
     obtain ⟨au,gu,cu,uu,rfl,hku,hN,hul,hcw,hcp⟩:=hB.ex
     have hpu:∀ s∈uu,0 < s.l1.length:=fun s hs=>hps s.ky (by rw [← hku];exact List.mem_map.2 ⟨s,hs,rfl⟩)
     have hc:=newL_cut hN hcp hpu
     have hau:=hN.addr
     have HEQ:Hid (M.sortK (uu.map cutK)=ks):=by show _=_;rw [cut_map,hku];exact heq
     have hemp:(WE.alloc (.cells #[] 49)).ownsRow WE.heap.size 49 2 (.slice (some ⟨WE.heap.size,0,none⟩) 0 0) 0 []:=own_emp (heap_alloc_new WE _) (Nat.le_refl _)
     have bE:=below1 WE (.cells #[] 49)
     clear hB hps heq hku hcp hpu hN CQ2 ssD qD qDc bxD hSD
     go_wp2_with fail
     go_loopw [9,10] (fun s9 s10 wr=>∃ (n:Nat) (v:Value) (tt:List Sn),v=s9∧s10=.int .i64 n∧n≤uu.length∧Hid (tt.length=n)∧SnL wr WE.heap.size v tt∧Hid (kys tt=(uu.take n).map cutK)∧Below WE.heap.size WE wr) (fun _ s10 _=>uu.length - (intOf s10).toNat)
     case atStart=>exact ⟨0,_,[],rfl,rfl,Nat.zero_le _,rfl,⟨hemp,fun s hs=>(by cases hs),fun s hs=>(by cases hs)⟩,by show _=_;simp [kys],bE⟩
     case round =>
      obtain ⟨n,v,tt,hv8,rfl,hn,HSL,hL,HKY,hb⟩:=hrel
      subst hv8
      clear hemp bE
      by_cases hlt:n < uu.length
      ·have i1:(n:Int) < uu.length:=by omega
       obtain ⟨rfl⟩:=hau (by omega)
       obtain ⟨c1,c2',hsa,hle,hcap,h0⟩:=hc n hlt
       have HKX:Hid ((uu.take (n+1)).map cutK=(uu.take n).map cutK++[cutK uu[n]]):=by show _=_;rw [List.take_succ_eq_append_getElem hlt,List.map_append];rfl
       have hle1:=hle.reads
       generalize uu[n]=s at *
       have hSW:∀ w',Below WE.heap.size WE w'→w'.cell? ⟨gu,n * 2,none⟩=some (.slice s.a1 s.l1.length s.c1)∧w'.cell? ⟨gu,n * 2+1,none⟩=some (.slice s.a2 s.l2.length s.c2):=fun w' hb'=>⟨(hb'.cell (p:=⟨gu,n * 2,none⟩) (World.block_lt_of_cell? _ _ c1)).trans c1,(hb'.cell (p:=⟨gu,n * 2+1,none⟩) (World.block_lt_of_cell? _ _ c2')).trans c2'⟩
       obtain ⟨m,hm⟩:∃ m,s.l1.length - 1=m:=⟨_,rfl⟩
       have hmd:s.l1.take m=s.l1.dropLast:=by rw [← hm,List.dropLast_eq_take]
       have hml:m≤s.l1.length:=by omega
       have hmc:m≤s.c1:=by omega
       have e1:(0:Int)≤m:=by omega
       have e2:(m:Int)≤s.c1:=by omega
       have e5:IntKind.i64.wrap ((s.l1.length:Int) - 1)=m:=by rw [IntKind.wrap_i64];omega
       clear c1 c2' hm
       go_wp2_with fail
       refine wp_region_held_drew (S:=fun w'=>Below WE.heap.size WE w') (by kernel_rfl) hb.drew (fun hH=>?_)
       refine takeD 0 (some 77) (v) hH rfl rfl (by kernel_rfl) (by kernel_rfl) (by kernel_rfl) (fun _ _ _ h=>h) (Or.inl ⟨by rfl,by intro w' hSw;go_simp⟩) ?_
       simp only [Act.put,List.setIfInBounds_toArray,List.set_cons_zero,List.set_cons_succ]
       refine takeD 1 (some 78) (.slice (some ⟨gu,0,none⟩) uu.length cu) hH rfl rfl (by kernel_rfl) (by kernel_rfl) (by kernel_rfl) (fun _ _ _ h=>h) (Or.inl ⟨by rfl,by intro w' hSw;go_simp⟩) ?_
       simp only [Act.put,List.setIfInBounds_toArray,List.set_cons_zero,List.set_cons_succ]
       refine takeD 2 (some 79) (.int .i64 n) hH rfl rfl (by kernel_rfl) (by kernel_rfl) (by kernel_rfl) (fun _ _ _ h=>h) (Or.inl ⟨by rfl,by intro w' hSw;go_simp⟩) ?_
       simp only [Act.put,List.setIfInBounds_toArray,List.set_cons_zero,List.set_cons_succ]
       refine takeD 3 (some 80) (.pointer (some ⟨gu,n * 2,none⟩)) hH rfl rfl (by kernel_rfl) (by kernel_rfl) (by kernel_rfl) (fun _ _ _ h=>h) (Or.inl ⟨by rfl,by intro w' hSw;go_simp⟩) ?_
       simp only [Act.put,List.setIfInBounds_toArray,List.set_cons_zero,List.set_cons_succ]
       refine takeD 4 (some 81) (.pointer (some ⟨gu,n * 2,none⟩)) hH rfl rfl (by kernel_rfl) (by kernel_rfl) (by kernel_rfl) (fun _ _ _ h=>h) (Or.inl ⟨by rfl,by intro w' hSw;go_simp⟩) ?_
       simp only [Act.put,List.setIfInBounds_toArray,List.set_cons_zero,List.set_cons_succ]
       refine takeD 5 (some 82) (.slice s.a1 s.l1.length s.c1) hH rfl rfl (by kernel_rfl) (by kernel_rfl) (by kernel_rfl) (fun _ _ _ h=>h) (Or.inl ⟨by rfl,by intro w' hSw;have hc:=(hSW w' hSw).1;go_simp⟩) ?_
       simp only [Act.put,List.setIfInBounds_toArray,List.set_cons_zero,List.set_cons_succ]
       refine takeD 6 (some 83) (.slice (some ⟨gu,0,none⟩) uu.length cu) hH rfl rfl (by kernel_rfl) (by kernel_rfl) (by kernel_rfl) (fun _ _ _ h=>h) (Or.inl ⟨by rfl,by intro w' hSw;go_simp⟩) ?_
       simp only [Act.put,List.setIfInBounds_toArray,List.set_cons_zero,List.set_cons_succ]
       refine takeD 7 (some 84) (.int .i64 n) hH rfl rfl (by kernel_rfl) (by kernel_rfl) (by kernel_rfl) (fun _ _ _ h=>h) (Or.inl ⟨by rfl,by intro w' hSw;go_simp⟩) ?_
       simp only [Act.put,List.setIfInBounds_toArray,List.set_cons_zero,List.set_cons_succ]
       refine takeD 8 (some 85) (.pointer (some ⟨gu,n * 2,none⟩)) hH rfl rfl (by kernel_rfl) (by kernel_rfl) (by kernel_rfl) (fun _ _ _ h=>h) (Or.inl ⟨by rfl,by intro w' hSw;go_simp⟩) ?_
       simp only [Act.put,List.setIfInBounds_toArray,List.set_cons_zero,List.set_cons_succ]
       refine takeD 9 (some 86) (.pointer (some ⟨gu,n * 2,none⟩)) hH rfl rfl (by kernel_rfl) (by kernel_rfl) (by kernel_rfl) (fun _ _ _ h=>h) (Or.inl ⟨by rfl,by intro w' hSw;go_simp⟩) ?_
       simp only [Act.put,List.setIfInBounds_toArray,List.set_cons_zero,List.set_cons_succ]
       refine takeD 10 (some 87) (.slice s.a1 s.l1.length s.c1) hH rfl rfl (by kernel_rfl) (by kernel_rfl) (by kernel_rfl) (fun _ _ _ h=>h) (Or.inl ⟨by rfl,by intro w' hSw;have hc:=(hSW w' hSw).1;go_simp⟩) ?_
       simp only [Act.put,List.setIfInBounds_toArray,List.set_cons_zero,List.set_cons_succ]
       refine takeD 11 (some 88) (.int .i64 s.l1.length) hH rfl rfl (by kernel_rfl) (by kernel_rfl) (by kernel_rfl) (fun _ _ _ h=>h) (Or.inl ⟨by rfl,by intro w' hSw;go_simp⟩) ?_
       simp only [Act.put,List.setIfInBounds_toArray,List.set_cons_zero,List.set_cons_succ]
       refine takeD 12 (some 89) (.int .i64 m) hH rfl rfl (by kernel_rfl) (by kernel_rfl) (by kernel_rfl) (fun _ _ _ h=>h) (Or.inl ⟨by rfl,by intro w' hSw;go_simp⟩) ?_
       simp only [Act.put,List.setIfInBounds_toArray,List.set_cons_zero,List.set_cons_succ]
       refine takeD 13 (some 90) (.slice s.a1 m s.c1) hH rfl rfl (by kernel_rfl) (by kernel_rfl) (by kernel_rfl) (fun _ _ _ h=>h) (Or.inl ⟨by rfl,by intro w' hSw;go_simp⟩) ?_
       simp only [Act.put,List.setIfInBounds_toArray,List.set_cons_zero,List.set_cons_succ]
       refine takeD 14 (some 91) (.slice (some ⟨gu,0,none⟩) uu.length cu) hH rfl rfl (by kernel_rfl) (by kernel_rfl) (by kernel_rfl) (fun _ _ _ h=>h) (Or.inl ⟨by rfl,by intro w' hSw;go_simp⟩) ?_
       simp only [Act.put,List.setIfInBounds_toArray,List.set_cons_zero,List.set_cons_succ]
       refine takeD 15 (some 92) (.int .i64 n) hH rfl rfl (by kernel_rfl) (by kernel_rfl) (by kernel_rfl) (fun _ _ _ h=>h) (Or.inl ⟨by rfl,by intro w' hSw;go_simp⟩) ?_
       simp only [Act.put,List.setIfInBounds_toArray,List.set_cons_zero,List.set_cons_succ]
       refine takeD 16 (some 93) (.pointer (some ⟨gu,n * 2,none⟩)) hH rfl rfl (by kernel_rfl) (by kernel_rfl) (by kernel_rfl) (fun _ _ _ h=>h) (Or.inl ⟨by rfl,by intro w' hSw;go_simp⟩) ?_
       simp only [Act.put,List.setIfInBounds_toArray,List.set_cons_zero,List.set_cons_succ]
       refine takeD 17 (some 94) (.pointer (some ⟨gu,n * 2+1,none⟩)) hH rfl rfl (by kernel_rfl) (by kernel_rfl) (by kernel_rfl) (fun _ _ _ h=>h) (Or.inl ⟨by rfl,by intro w' hSw;go_simp⟩) ?_
       simp only [Act.put,List.setIfInBounds_toArray,List.set_cons_zero,List.set_cons_succ]
       refine takeD 18 (some 95) (.slice s.a2 s.l2.length s.c2) hH rfl rfl (by kernel_rfl) (by kernel_rfl) (by kernel_rfl) (fun _ _ _ h=>h) (Or.inl ⟨by rfl,by intro w' hSw;have hc:=(hSW w' hSw).2;go_simp⟩) ?_
       simp only [Act.put,List.setIfInBounds_toArray,List.set_cons_zero,List.set_cons_succ]
       refine takeD 19 (some 96) (.agg #[.slice s.a1 m s.c1,.slice s.a2 s.l2.length s.c2]) hH rfl rfl (by kernel_rfl) (by kernel_rfl) (by kernel_rfl) (fun _ _ _ h=>h) (Or.inl ⟨by rfl,by intro w' hSw;go_simp⟩) ?_
       simp only [Act.put,List.setIfInBounds_toArray,List.set_cons_zero,List.set_cons_succ]
       refine wpAnyH_ready (rs:=[20]) (by kernel_rfl) (by simp) ?_
       refine AllReadyH.cons rfl (fun K' hK=>?_) AllReadyH.nil
       rw [if_pos (by rfl)]
       go_simp
       have bJ:Below WE.heap.size WE (wr.drew.alloc (.cells #[.slice s.a1 m s.c1,.slice s.a2 s.l2.length s.c2] 49)):=hb.drew.alloc hb.size _
       refine hK.out _ _ bJ (fun hHb=>?_)
       clear hK K'
       refine wpAnyH_ready (rs:=[21]) (by kernel_rfl) (by simp) ?_
       refine AllReadyH.cons rfl (fun K' hK=>?_) AllReadyH.nil
       have hLI:SnL wr.drew WE.heap.size v tt:=hL.below (Below.refl wr.heap.size wr).drew
       refine step_append_sn (by rfl) (.tmp 77) (.tmp 97) 29 rfl (some 98) rfl WE.heap.size 49 j0 _ 48 Tryz.underlying29 hj hy0 hy1 hy2 rfl v tt.length (cellsS tt) (by rfl) (hLI.own.alloc _) bJ.size wr.heap.size (.slice s.a1 m s.c1) (.slice s.a2 s.l2.length s.c2) (by rfl) (alloc_cell0 wr.drew _ _) (alloc_cell1 wr.drew _ _) rfl rfl (by have:=HSL.out;unfold maxLen;omega) (by have:=HSL.out;omega) ?_
       intro v2 w2 hown2 hg2 hat2
       have hsn:(⟨s.a1,s.b1,s.o1,s.c1,s.l1.take m,s.a2,s.b2,s.o2,s.c2,s.l2⟩:Sn).At wr.drew:=⟨((hsa.reads.take m).below hb (Nat.le_refl _)).below (Below.refl wr.heap.size wr).drew (Nat.le_refl _),(hsa.last.below hb (Nat.le_refl _)).below (Below.refl wr.heap.size wr).drew (Nat.le_refl _)⟩
       have htm:(s.l1.take m).length=m:=by rw [List.length_take];omega
       have hL2:=hLI.snoc (s:=(⟨s.a1,s.b1,s.o1,s.c1,s.l1.take m,s.a2,s.b2,s.o2,s.c2,s.l2⟩:Sn)) hsn (fun k hk e=>by
        have hlt2:=hL.own.lt k e
        rcases hk with ⟨h0,h1⟩ | ⟨h0,h1⟩
        ·have h0':0 < (s.l1.take m).length:=h0
         have h5:k < WE.heap.size:=by rw [h1];exact hsa.reads.lt (by omega)
         omega
        ·have h5:k < WE.heap.size:=by rw [h1];exact hsa.last.lt h0
         omega) (by simp only [htm];exact hown2) hg2 (by
        rcases hat2 with h | h
        ·exact .inl h
        ·right;rw [h];simp)
       have b2:Below WE.heap.size WE w2:=below_grown bJ hg2 (fun j hj=>(hL.own.lt j hj).1) bJ.size
       clear hown2 hg2 hat2
       refine hK.out _ _ b2 (fun hHc=>?_)
       clear hK K'
       simp only [Act.put,List.setIfInBounds_toArray,List.set_cons_zero,List.set_cons_succ]
       refine takeD 22 (some 9) (v2) hHc rfl rfl (by kernel_rfl) (by kernel_rfl) (by kernel_rfl) (fun _ _ _ h=>h) (Or.inl ⟨by rfl,by intro w' hSw;go_simp⟩) ?_
       simp only [Act.put,List.setIfInBounds_toArray,List.set_cons_zero,List.set_cons_succ]
       refine wpAnyH_done (by kernel_rfl) ?_ _
       go_wp2_with fail
       exact ⟨⟨n+1,v2,_,rfl,by go_num,by omega,by show _=_;rw [List.length_append,HSL.out];rfl,hL2,by show kys _=_;rw [kys,List.map_append,← kys,HKY.out,HKX.out];simp only [List.map_cons,List.map_nil,Sn.ky,cutK];rw [hmd],b2⟩,by simp [intOf];omega⟩
      ·have i1:¬ (n:Int) < uu.length:=by omega
       obtain ⟨ax,gx,cx,rfl,hKS⟩:=hL.ks
       have htk:uu.take n=uu:=List.take_of_length_le (by omega)
       rw [HKY.out,htk] at hKS
       have hsn:tt.length=(uu.map cutK).length:=by rw [HSL.out,List.length_map];omega
       have hK3:KLe (uu.map cutK) 1048576:=fun z hz=>by
        obtain ⟨s,hs,rfl⟩:=List.mem_map.1 hz
        obtain ⟨i,hi,rfl⟩:=List.getElem_of_mem hs
        have:=(hc i hi).2.2.2.1
        exact ⟨by have:=this.reads;simp only [cutK,List.length_dropLast];omega,this.last⟩
       have CQ:=iseenSort_any ax gx 0 cx (uu.map cutK) wr (by rw [List.length_map];omega) hK3 hKS
       rw [HEQ.out] at CQ
       rw [hsn]
       have bxr:=bxE.below hb
       have hSr:=hSE.below hb (Nat.le_refl _)
       generalize uu.map cutK=kp at *
       clear HKY hsn HEQ
       go_wp2_with fail
       refine CQ.mono ?_
       rintro e WH ⟨a',g',c',uv,rfl,hku,hN,_,_,b3⟩
       have bxH:=bxr.below b3
       have hSH:=hSr.below b3 (Nat.le_refl _)
       have hks:=hN.ks
       rw [hku] at hks
       have hvl:uv.length=ks.length:=by rw [← hku,kys_len]
       rw [hvl]
       clear CQ hku hN hvl
       go_wp2_with fail
       refine (lpList_same a' g' 0 c' av gv 0 cv ks WH (by omega) hkk hks hSH).mono ?_
       rintro e WI ⟨rfl,bI⟩
       have bxI:=bxH.below bI
       go_wp2_with fail
       go_ret
       exact ⟨rfl,bxI.bel⟩
 ·go_enter Tryz.func10,Tryz.ntmps10
  go_wp2_with fail
  go_ret
  exact ⟨rfl,Below.refl _ _⟩
end Go.Proofs.YtjjkicffhpcngaaGreat
