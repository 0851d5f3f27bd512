/- The law FnOrderPlain, walked: it answers true, and leaves all as it was. Of whatever code. -/
import Derived.Below
import Derived.BigQuiet
import Derived.Deep.AppendLies
import Derived.Deep.CutRange
import Derived.Deep.MidRow
import Derived.Deep.Quiet
import Derived.Deep.QuietTactic
import Derived.Deep.RegionHeld3
import Derived.Deep.RegionLaw
import Derived.Deep.RegionWith
import Derived.Deep.Slices
import Derived.Deep.WholeRow
import Derived.Handy
import Derived.Laws.AppendOwn
import Derived.Laws.AppendOwnNone
import Derived.Laws.EntriesVeiled
import Derived.Laws.IdiomCopy
import Derived.Laws.OwnMore
import Derived.LoopIn
import Derived.LoopN
import Derived.LoopNIn
import Derived.Maps.AppendAt
import Derived.Maps.OwnIn
import Derived.OwnWalkIn
import Derived.RangeFuncBound
import Derived.RangeFuncLeaves
import Derived.RangeFuncNested
import Derived.Shelf.Abstract
import Derived.Shelf.SlSortCmp.NoneTotal
import Derived.Sort.Grow
import Derived.TacticsInMore
import Derived.WalkKit
import Derived.WalkLawsBesides
import Derived.WalkSpells
import Derived.Deep.OwnRows
import Derived.Test.YtjjkicffhpcngaaGreatRows
import Derived.Test.YtjjkicffhpcngaaGreatBYbu
import Derived.Test.YtjjkicffhpcngaaGreatBYbv
import Derived.Test.YtjjkicffhpcngaaGreatBYcd
import Derived.Test.YtjjkicffhpcngaaGreatBYch
import Derived.Test.YtjjkicffhpcngaaGreatBYcn
namespace Go.Proofs.YtjjkicffhpcngaaGreat
open Go.RowKit
namespace M
theorem plain_up:∀ (ll:List (List D)),UpP (mapS plainF ll) ll
 | []=>.nil
 | l::ll=>by
  refine .cons ?_ (plain_up ll)
  induction l with
  | nil=>exact .nil
  | cons d l ih =>
   refine .cons ?_ ih
   by_cases h6:d.k=6
   ·exact .inr (.inl ⟨by simp [plainF,plainK,h6],by rw [show d=⟨d.k,d.p,d.v⟩ from rfl,h6];rfl⟩)
   ·by_cases h5:d.k=5
    ·exact .inr (.inr ⟨by simp [plainF,plainK,h5],by rw [show d=⟨d.k,d.p,d.v⟩ from rfl,h5];rfl⟩)
    ·exact .inl (by simp [plainF,plainK,h5,h6])
theorem plain_all {mm qq:List (List D)} (e:turnPlain mm=qq) (h:prog mm=true):orderAll qq 1=orderAll mm 1∧orderAll qq 2=orderAll mm 2∧∀ z∈orderAll mm 3,z∈orderAll qq 3:=by
 have hq:=(turnPlain_fact e h).1
 rw [turnPlain_yes h] at e
 have U:UpP qq mm:=e▸plain_up mm
 exact ⟨(all_up2 U hq h (k:=1) (by omega)).symm,(all_up2 U hq h (k:=2) (by omega)).symm,fun z hz=>all_up U hq z hz⟩
end M
set_option maxHeartbeats 4000000 in
set_option maxRecDepth 100000 in
set_option linter.unusedSimpArgs false in
theorem lawOq_any (ca:Option Addr) (cb co L C:Nat) (x:Nat→Int) (w:World) (hL:L≤C) (had:0 < L→ca=some ⟨cb,co,none⟩) (hc:∀ i,i < L→w.cell? ⟨cb,co+i,none⟩=some (.int .u8 (x i))∧0≤x i∧x i≤255) :
  Calls Tryz.prog 5 #[.slice ca L C] w fun e w'=>e=.returned (.bool true)∧Below w.heap.size w w':=by
 by_cases hLb:L≤1048576
 ·go_enter Tryz.func5,Tryz.ntmps5
  go_wp2_with fail
  refine (DrawTurnPlain_any ca cb co L C x _ hL had hc hLb).mono ?_
  rintro e w1 ⟨a,g,c,mm,rfl,hsn,hsm,hbl⟩
  have hle:∀ t∈mm,t.length≤1048576:=fun t ht=>by have:=hsm.steps t ht;omega
  have hml:mm.length≤1048576:=by have:=hsm.three;omega
  have bA:=below1 w1 (.cells #[.slice a mm.length c] 25)
  have bwA:=hbl.trans (bA.mono hbl.size)
  have sP:=Slot1.new w1 (.slice a mm.length c) 25
  have ssP:=hsn.ss.below bA (Nat.le_refl _)
  clear had hc hsn hbl bA
  have x0:=sP.c
  go_wp2_with fail
  generalize w1.alloc (.cells #[.slice a mm.length c] 25)=WA at *
  generalize w1.heap.size=PP at *
  have CI:=iturnPlain_any a g 0 c mm hml hle
  have CS0:=fun W hW=>sturnPlain_any a g 0 c mm hml hle W hW
  obtain ⟨qq,hq⟩:∃ qq,M.turnPlain mm=qq:=⟨_,rfl⟩
  have HQ:Hid (M.prog mm=true→M.orderAll qq 1=M.orderAll mm 1∧M.orderAll qq 2=M.orderAll mm 2∧∀ z∈M.orderAll mm 3,z∈M.orderAll qq 3):=M.plain_all hq
  rw [hq] at CI CS0
  obtain ⟨hq3,hq7⟩:=M.turnPlain_small hq
  clear hq
  have hql:qq.length≤1048576:=by omega
  have hqls:∀ t∈qq,t.length≤1048576:=fun t ht=>by have:=hq7 t ht;omega
  have LQ:=fun A B C D E F W h1 h2=>lpProg_any A B 0 C D E 0 F qq qq W hql hql hqls h1 h2
  rw [M.eqLL_yes rfl] at LQ
  refine (CI WA ssP).mono ?_
  rintro e w3 ⟨v3,rfl,⟨vs3,hR3⟩,b3⟩
  obtain ⟨ai,gi,ci,rfl,hss3⟩:=hR3.b.ss
  have bQ:=below1 w3 (.cells #[.slice ai qq.length ci] 25)
  have bAQ:=b3.trans (bQ.mono b3.size)
  have sPQ:=sP.bl' bAQ
  have sQ:=Slot1.new w3 (.slice ai qq.length ci) 25
  have ssQ:=hss3.below bQ (Nat.le_refl _)
  have ssP':=ssP.below bAQ (Nat.le_refl _)
  have bwD:=bwA.trans (bAQ.mono bwA.size)
  clear hR3 hss3 b3 bQ x0 bwA bAQ sP ssP CI
  have ssP:=ssP'
  clear ssP'
  go_wp2_with fail
  generalize w3.alloc (.cells #[.slice ai qq.length ci] 25)=WD at *
  generalize w3.heap.size=PQ at *
  have x0:=sPQ.c
  have x1:=sQ.c
  have lP:=sPQ.lt
  have lQ:=sQ.lt
  clear sPQ sQ
  have CS:∀ W,Below WD.heap.size WD W→_:=fun W hb=>CS0 W (ssP.below hb (Nat.le_refl _))
  have CO:=fun W (hb:Below WD.heap.size WD W)=>sprog_any a g 0 c mm W hml hle (ssP.below hb (Nat.le_refl _))
  cases hp:M.prog mm
  ·rw [hp] at CO
   clear HQ
   refine wp_region_held_drew (S:=fun w'=>Below WD.heap.size WD w') (by kernel_rfl) (Below.refl _ _).drew (fun hH=>?_)
   refine takeD 0 (some 14) (.agg #[.slice ai qq.length ci]) hH rfl rfl (by kernel_rfl) (by kernel_rfl) (by kernel_rfl) (fun _ _ _ h=>h) (Or.inl ⟨by rfl,by intro w' hSw;have hc:=(hSw.cell (p:=⟨PQ,0,none⟩) lQ).trans x1;go_simp⟩) ?_
   simp only [Act.put,List.setIfInBounds_toArray,List.set_cons_zero,List.set_cons_succ]
   refine takeD 1 (some 15) (.agg #[.slice a mm.length c]) hH rfl rfl (by kernel_rfl) (by kernel_rfl) (by kernel_rfl) (fun _ _ _ h=>h) (Or.inl ⟨by rfl,by intro w' hSw;have hc:=(hSw.cell (p:=⟨PP,0,none⟩) lP).trans x0;go_simp⟩) ?_
   simp only [Act.put,List.setIfInBounds_toArray,List.set_cons_zero,List.set_cons_succ]
   refine wpAnyH_ready (rs:=[2]) (by kernel_rfl) (by simp) ?_
   refine AllReadyH.cons rfl (fun K' hK=>?_) AllReadyH.nil
   refine step_goV (by rfl) (some 16) rfl 26 #[.tmp 15] _ rfl #[.agg #[.slice a mm.length c]] (by simp [Act.eval]) (fun _ _=>rfl) (CS _ ((Below.refl WD.heap.size WD).drew)) ?_
   rintro e w1 ⟨v_w1,rfl,⟨vs_w1,hR_w1⟩,bb_w1⟩
   obtain ⟨a_w1,g_w1,c_w1,rfl,ss_w1⟩:=hR_w1.b.ss
   have b_w1:Below WD.heap.size WD w1:=Below.trans ((Below.refl WD.heap.size WD).drew) (bb_w1.mono (Below.size ((Below.refl WD.heap.size WD).drew)))
   refine ⟨_,rfl,?_⟩
   simp only [Act.put,List.setIfInBounds_toArray,List.set_cons_zero,List.set_cons_succ]
   refine hK.out _ _ b_w1 (fun hH_w1=>?_)
   clear hK K'
   refine wpAnyH_ready (rs:=[3]) (by kernel_rfl) (by simp) ?_
   refine AllReadyH.cons rfl (fun K' hK=>?_) AllReadyH.nil
   refine step_goV (by rfl) (some 17) rfl 25 #[.tmp 14,.tmp 16] _ rfl #[.agg #[.slice ai qq.length ci],.agg #[.slice a_w1 qq.length c_w1]] (by simp [Act.eval]) (fun _ _=>rfl) (LQ ai gi ci a_w1 g_w1 c_w1 _ (ssQ.below b_w1 (Nat.le_refl _)) ss_w1) ?_
   rintro e w2 ⟨rfl,bb_w2⟩
   have b_w2:Below WD.heap.size WD w2:=Below.trans b_w1 (bb_w2.mono (Below.size b_w1))
   refine ⟨_,rfl,?_⟩
   simp only [Act.put,List.setIfInBounds_toArray,List.set_cons_zero,List.set_cons_succ]
   refine hK.out _ _ b_w2 (fun hH_w2=>?_)
   clear hK K'
   refine takeD 4 (some 18) (.bool false) hH_w2 rfl rfl (by kernel_rfl) (by kernel_rfl) (by kernel_rfl) (fun _ _ _ h=>h) (Or.inl ⟨by rfl,by intro w' hSw;go_simp⟩) ?_
   simp only [Act.put,List.setIfInBounds_toArray,List.set_cons_zero,List.set_cons_succ]
   refine takeD 5 (some 19) (.bool false) hH_w2 rfl rfl (by kernel_rfl) (by kernel_rfl) (by kernel_rfl) (fun _ _ _ h=>h) (Or.inl ⟨by rfl,by intro w' hSw;go_simp⟩) ?_
   simp only [Act.put,List.setIfInBounds_toArray,List.set_cons_zero,List.set_cons_succ]
   refine takeD 6 (some 20) (.agg #[.slice a mm.length c]) hH_w2 rfl rfl (by kernel_rfl) (by kernel_rfl) (by kernel_rfl) (fun _ _ _ h=>h) (Or.inl ⟨by rfl,by intro w' hSw;have hc:=(hSw.cell (p:=⟨PP,0,none⟩) lP).trans x0;go_simp⟩) ?_
   simp only [Act.put,List.setIfInBounds_toArray,List.set_cons_zero,List.set_cons_succ]
   refine wpAnyH_ready (rs:=[7]) (by kernel_rfl) (by simp) ?_
   refine AllReadyH.cons rfl (fun K' hK=>?_) AllReadyH.nil
   refine step_goV (by rfl) (some 21) rfl 27 #[.tmp 20] _ rfl #[.agg #[.slice a mm.length c]] (by simp [Act.eval]) (fun _ _=>rfl) (CO _ b_w2) ?_
   rintro e w3 ⟨rfl,bb_w3⟩
   have b_w3:Below WD.heap.size WD w3:=Below.trans b_w2 (bb_w3.mono (Below.size b_w2))
   refine ⟨_,rfl,?_⟩
   simp only [Act.put,List.setIfInBounds_toArray,List.set_cons_zero,List.set_cons_succ]
   refine hK.out _ _ b_w3 (fun hH_w3=>?_)
   clear hK K'
   refine takeD 8 (some 22) (.bool true) hH_w3 rfl rfl (by kernel_rfl) (by kernel_rfl) (by kernel_rfl) (fun _ _ _ h=>h) (Or.inl ⟨by rfl,by intro w' hSw;go_simp⟩) ?_
   simp only [Act.put,List.setIfInBounds_toArray,List.set_cons_zero,List.set_cons_succ]
   refine takeD 9 (some 23) (.bool true) hH_w3 rfl rfl (by kernel_rfl) (by kernel_rfl) (by kernel_rfl) (fun _ _ _ h=>h) (Or.inl ⟨by rfl,by intro w' hSw;go_simp⟩) ?_
   simp only [Act.put,List.setIfInBounds_toArray,List.set_cons_zero,List.set_cons_succ]
   refine wpAnyH_done (by kernel_rfl) ?_ _
   have bwE:=bwD.trans (b_w3.mono bwD.size)
   have ssPE:=ssP.below b_w3 (Nat.le_refl _)
   have ssQE:=ssQ.below b_w3 (Nat.le_refl _)
   have x0E:=(b_w3.cell (p:=⟨PP,0,none⟩) lP).trans x0
   have x1E:=(b_w3.cell (p:=⟨PQ,0,none⟩) lQ).trans x1
   have lPE:=Nat.lt_of_lt_of_le lP b_w3.size
   have lQE:=Nat.lt_of_lt_of_le lQ b_w3.size
   clear x0 x1 lP lQ CS CO hH hH_w1 hH_w2 hH_w3 bb_w1 bb_w2 bb_w3 hR_w1 ss_w1 b_w1 b_w2 b_w3 bwD
   go_wp2_with fail
   obtain ⟨WE,hWE⟩:∃ WE,WE=w3:=⟨_,rfl⟩
   subst hWE
   clear ssP ssQ
   have CS:=fun W (hb:Below WE.heap.size WE W)=>CS0 W (ssPE.below hb (Nat.le_refl _))
   refine wp_region_held_drew (S:=fun w'=>Below WE.heap.size WE w') (by kernel_rfl) (Below.refl _ _).drew (fun hH=>?_)
   refine takeD 0 (some 24) (.agg #[.slice ai qq.length ci]) hH rfl rfl (by kernel_rfl) (by kernel_rfl) (by kernel_rfl) (fun _ _ _ h=>h) (Or.inl ⟨by rfl,by intro w' hSw;have hc:=(hSw.cell (p:=⟨PQ,0,none⟩) lQE).trans x1E;go_simp⟩) ?_
   simp only [Act.put,List.setIfInBounds_toArray,List.set_cons_zero,List.set_cons_succ]
   refine takeD 1 (some 25) (.agg #[.slice a mm.length c]) hH rfl rfl (by kernel_rfl) (by kernel_rfl) (by kernel_rfl) (fun _ _ _ h=>h) (Or.inl ⟨by rfl,by intro w' hSw;have hc:=(hSw.cell (p:=⟨PP,0,none⟩) lPE).trans x0E;go_simp⟩) ?_
   simp only [Act.put,List.setIfInBounds_toArray,List.set_cons_zero,List.set_cons_succ]
   refine wpAnyH_ready (rs:=[2]) (by kernel_rfl) (by simp) ?_
   refine AllReadyH.cons rfl (fun K' hK=>?_) AllReadyH.nil
   refine step_goV (by rfl) (some 26) rfl 26 #[.tmp 25] _ rfl #[.agg #[.slice a mm.length c]] (by simp [Act.eval]) (fun _ _=>rfl) (CS _ ((Below.refl WE.heap.size WE).drew)) ?_
   rintro e w1 ⟨v_w1,rfl,⟨vs_w1,hR_w1⟩,bb_w1⟩
   obtain ⟨a_w1,g_w1,c_w1,rfl,ss_w1⟩:=hR_w1.b.ss
   have b_w1:Below WE.heap.size WE w1:=Below.trans ((Below.refl WE.heap.size WE).drew) (bb_w1.mono (Below.size ((Below.refl WE.heap.size WE).drew)))
   refine ⟨_,rfl,?_⟩
   simp only [Act.put,List.setIfInBounds_toArray,List.set_cons_zero,List.set_cons_succ]
   refine hK.out _ _ b_w1 (fun hH_w1=>?_)
   clear hK K'
   refine wpAnyH_ready (rs:=[3]) (by kernel_rfl) (by simp) ?_
   refine AllReadyH.cons rfl (fun K' hK=>?_) AllReadyH.nil
   refine step_goV (by rfl) (some 27) rfl 25 #[.tmp 24,.tmp 26] _ rfl #[.agg #[.slice ai qq.length ci],.agg #[.slice a_w1 qq.length c_w1]] (by simp [Act.eval]) (fun _ _=>rfl) (LQ ai gi ci a_w1 g_w1 c_w1 _ (ssQE.below b_w1 (Nat.le_refl _)) ss_w1) ?_
   rintro e w2 ⟨rfl,bb_w2⟩
   have b_w2:Below WE.heap.size WE w2:=Below.trans b_w1 (bb_w2.mono (Below.size b_w1))
   refine ⟨_,rfl,?_⟩
   simp only [Act.put,List.setIfInBounds_toArray,List.set_cons_zero,List.set_cons_succ]
   refine hK.out _ _ b_w2 (fun hH_w2=>?_)
   clear hK K'
   refine takeD 4 (some 2) (.bool true) hH_w2 rfl rfl (by kernel_rfl) (by kernel_rfl) (by kernel_rfl) (fun _ _ _ h=>h) (Or.inl ⟨by rfl,by intro w' hSw;go_simp⟩) ?_
   simp only [Act.put,List.setIfInBounds_toArray,List.set_cons_zero,List.set_cons_succ]
   refine wpAnyH_done (by kernel_rfl) ?_ _
   go_wp2_with fail
   go_ret
   exact ⟨rfl,bwE.trans (b_w2.mono bwE.size)⟩
  ·rw [hp] at CO
   obtain ⟨e1,e2,h3⟩:=HQ.out hp
   clear HQ hp
   refine wp_region_held_drew (S:=fun w'=>Below WD.heap.size WD w') (by kernel_rfl) (Below.refl _ _).drew (fun hH=>?_)
   refine takeD 0 (some 14) (.agg #[.slice ai qq.length ci]) hH rfl rfl (by kernel_rfl) (by kernel_rfl) (by kernel_rfl) (fun _ _ _ h=>h) (Or.inl ⟨by rfl,by intro w' hSw;have hc:=(hSw.cell (p:=⟨PQ,0,none⟩) lQ).trans x1;go_simp⟩) ?_
   simp only [Act.put,List.setIfInBounds_toArray,List.set_cons_zero,List.set_cons_succ]
   refine takeD 1 (some 15) (.agg #[.slice a mm.length c]) hH rfl rfl (by kernel_rfl) (by kernel_rfl) (by kernel_rfl) (fun _ _ _ h=>h) (Or.inl ⟨by rfl,by intro w' hSw;have hc:=(hSw.cell (p:=⟨PP,0,none⟩) lP).trans x0;go_simp⟩) ?_
   simp only [Act.put,List.setIfInBounds_toArray,List.set_cons_zero,List.set_cons_succ]
   refine wpAnyH_ready (rs:=[2]) (by kernel_rfl) (by simp) ?_
   refine AllReadyH.cons rfl (fun K' hK=>?_) AllReadyH.nil
   refine step_goV (by rfl) (some 16) rfl 26 #[.tmp 15] _ rfl #[.agg #[.slice a mm.length c]] (by simp [Act.eval]) (fun _ _=>rfl) (CS _ ((Below.refl WD.heap.size WD).drew)) ?_
   rintro e w1 ⟨v_w1,rfl,⟨vs_w1,hR_w1⟩,bb_w1⟩
   obtain ⟨a_w1,g_w1,c_w1,rfl,ss_w1⟩:=hR_w1.b.ss
   have b_w1:Below WD.heap.size WD w1:=Below.trans ((Below.refl WD.heap.size WD).drew) (bb_w1.mono (Below.size ((Below.refl WD.heap.size WD).drew)))
   refine ⟨_,rfl,?_⟩
   simp only [Act.put,List.setIfInBounds_toArray,List.set_cons_zero,List.set_cons_succ]
   refine hK.out _ _ b_w1 (fun hH_w1=>?_)
   clear hK K'
   refine wpAnyH_ready (rs:=[3]) (by kernel_rfl) (by simp) ?_
   refine AllReadyH.cons rfl (fun K' hK=>?_) AllReadyH.nil
   refine step_goV (by rfl) (some 17) rfl 25 #[.tmp 14,.tmp 16] _ rfl #[.agg #[.slice ai qq.length ci],.agg #[.slice a_w1 qq.length c_w1]] (by simp [Act.eval]) (fun _ _=>rfl) (LQ ai gi ci a_w1 g_w1 c_w1 _ (ssQ.below b_w1 (Nat.le_refl _)) ss_w1) ?_
   rintro e w2 ⟨rfl,bb_w2⟩
   have b_w2:Below WD.heap.size WD w2:=Below.trans b_w1 (bb_w2.mono (Below.size b_w1))
   refine ⟨_,rfl,?_⟩
   simp only [Act.put,List.setIfInBounds_toArray,List.set_cons_zero,List.set_cons_succ]
   refine hK.out _ _ b_w2 (fun hH_w2=>?_)
   clear hK K'
   refine takeD 4 (some 18) (.bool false) hH_w2 rfl rfl (by kernel_rfl) (by kernel_rfl) (by kernel_rfl) (fun _ _ _ h=>h) (Or.inl ⟨by rfl,by intro w' hSw;go_simp⟩) ?_
   simp only [Act.put,List.setIfInBounds_toArray,List.set_cons_zero,List.set_cons_succ]
   refine takeD 5 (some 19) (.bool false) hH_w2 rfl rfl (by kernel_rfl) (by kernel_rfl) (by kernel_rfl) (fun _ _ _ h=>h) (Or.inl ⟨by rfl,by intro w' hSw;go_simp⟩) ?_
   simp only [Act.put,List.setIfInBounds_toArray,List.set_cons_zero,List.set_cons_succ]
   refine takeD 6 (some 20) (.agg #[.slice a mm.length c]) hH_w2 rfl rfl (by kernel_rfl) (by kernel_rfl) (by kernel_rfl) (fun _ _ _ h=>h) (Or.inl ⟨by rfl,by intro w' hSw;have hc:=(hSw.cell (p:=⟨PP,0,none⟩) lP).trans x0;go_simp⟩) ?_
   simp only [Act.put,List.setIfInBounds_toArray,List.set_cons_zero,List.set_cons_succ]
   refine wpAnyH_ready (rs:=[7]) (by kernel_rfl) (by simp) ?_
   refine AllReadyH.cons rfl (fun K' hK=>?_) AllReadyH.nil
   refine step_goV (by rfl) (some 21) rfl 27 #[.tmp 20] _ rfl #[.agg #[.slice a mm.length c]] (by simp [Act.eval]) (fun _ _=>rfl) (CO _ b_w2) ?_
   rintro e w3 ⟨rfl,bb_w3⟩
   have b_w3:Below WD.heap.size WD w3:=Below.trans b_w2 (bb_w3.mono (Below.size b_w2))
   refine ⟨_,rfl,?_⟩
   simp only [Act.put,List.setIfInBounds_toArray,List.set_cons_zero,List.set_cons_succ]
   refine hK.out _ _ b_w3 (fun hH_w3=>?_)
   clear hK K'
   refine takeD 8 (some 22) (.bool false) hH_w3 rfl rfl (by kernel_rfl) (by kernel_rfl) (by kernel_rfl) (fun _ _ _ h=>h) (Or.inl ⟨by rfl,by intro w' hSw;go_simp⟩) ?_
   simp only [Act.put,List.setIfInBounds_toArray,List.set_cons_zero,List.set_cons_succ]
   refine takeD 9 (some 23) (.bool false) hH_w3 rfl rfl (by kernel_rfl) (by kernel_rfl) (by kernel_rfl) (fun _ _ _ h=>h) (Or.inl ⟨by rfl,by intro w' hSw;go_simp⟩) ?_
   simp only [Act.put,List.setIfInBounds_toArray,List.set_cons_zero,List.set_cons_succ]
   refine wpAnyH_done (by kernel_rfl) ?_ _
   have bwE:=bwD.trans (b_w3.mono bwD.size)
   have ssPE:=ssP.below b_w3 (Nat.le_refl _)
   have ssQE:=ssQ.below b_w3 (Nat.le_refl _)
   have x0E:=(b_w3.cell (p:=⟨PP,0,none⟩) lP).trans x0
   have x1E:=(b_w3.cell (p:=⟨PQ,0,none⟩) lQ).trans x1
   have lPE:=Nat.lt_of_lt_of_le lP b_w3.size
   have lQE:=Nat.lt_of_lt_of_le lQ b_w3.size
   clear x0 x1 lP lQ CS CO hH hH_w1 hH_w2 hH_w3 bb_w1 bb_w2 bb_w3 hR_w1 ss_w1 b_w1 b_w2 b_w3 bwD
   go_wp2_with fail
   obtain ⟨WE,hWE⟩:∃ WE,WE=w3:=⟨_,rfl⟩
   subst hWE
   clear ssP ssQ CS0
   clear LQ
   have hkl1:=M.orderAll_len mm 1
   have hkk1:=M.orderAll_le mm 1
   have CP1:=fun W (hb:Below WE.heap.size WE W)=>iorderAllK a g 0 c mm 1 W hml hle (ssPE.below hb (Nat.le_refl _))
   have CQ1:=fun W (hb:Below WE.heap.size WE W)=>iorderAllK ai gi 0 ci qq 1 W hql hqls (ssQE.below hb (Nat.le_refl _))
   rw [e1] at CQ1
   clear e1
   generalize M.orderAll mm 1=ks1 at *
   have CPC_WE:∀ W:World,Below WE.heap.size WE W→W.cell? ⟨PP,0,none⟩=some (.slice a mm.length c):=fun W hb=>(hb.cell (p:=⟨PP,0,none⟩) lPE).trans x0E
   have CQC_WE:∀ W:World,Below WE.heap.size WE W→W.cell? ⟨PQ,0,none⟩=some (.slice ai qq.length ci):=fun W hb=>(hb.cell (p:=⟨PQ,0,none⟩) lQE).trans x1E
   refine wp_region_held_drew (S:=fun w'=>Below WE.heap.size WE w') (by kernel_rfl) (Below.refl _ _).drew (fun hH=>?_)
   refine takeD 0 (some 28) (.agg #[.slice a mm.length c]) hH rfl rfl (by kernel_rfl) (by kernel_rfl) (by kernel_rfl) (fun _ _ _ h=>h) (Or.inl ⟨by rfl,by intro w' hSw;have hc0:=CPC_WE w' hSw;go_simp⟩) ?_
   simp only [Act.put,List.setIfInBounds_toArray,List.set_cons_zero,List.set_cons_succ]
   refine takeD 2 (some 30) (.agg #[.slice ai qq.length ci]) hH rfl rfl (by kernel_rfl) (by kernel_rfl) (by kernel_rfl) (fun _ _ _ h=>h) (Or.inl ⟨by rfl,by intro w' hSw;have hc0:=CQC_WE w' hSw;go_simp⟩) ?_
   simp only [Act.put,List.setIfInBounds_toArray,List.set_cons_zero,List.set_cons_succ]
   refine wpAnyH_ready (rs:=[1]) (by kernel_rfl) (by simp) ?_
   refine AllReadyH.cons rfl (fun K' hK=>?_) AllReadyH.nil
   refine step_goV (by rfl) (some 29) rfl 17 #[.tmp 28,.const (.int .i64 1)] _ rfl #[.agg #[.slice a mm.length c],.int .i64 1] (by simp [Act.eval]) (enters_of Tryz.func17 (by kernel_rfl) rfl) (CP1 _ hH) ?_
   rintro e U1a ⟨v1,rfl,hA⟩
   obtain ⟨a1,g1,c1,rfl,hS1⟩:=hA.ex
   refine ⟨_,rfl,hK.out _ _ (hH.trans (hA.bel.mono hH.size)) (fun hH1=>?_)⟩
   clear hK K'
   simp only [Act.put,List.setIfInBounds_toArray,List.set_cons_zero,List.set_cons_succ]
   refine wpAnyH_ready (rs:=[3]) (by kernel_rfl) (by simp) ?_
   refine AllReadyH.cons rfl (fun K' hK=>?_) AllReadyH.nil
   refine step_goV (by rfl) (some 31) rfl 17 #[.tmp 30,.const (.int .i64 1)] _ rfl #[.agg #[.slice ai qq.length ci],.int .i64 1] (by simp [Act.eval]) (enters_of Tryz.func17 (by kernel_rfl) rfl) (CQ1 _ hH1) ?_
   rintro e U1b ⟨v2,rfl,hB⟩
   obtain ⟨a2,g2,c2,rfl,hS2⟩:=hB.ex
   have hS12:=hS1.below hB.bel (Nat.le_refl _)
   refine ⟨_,rfl,hK.out _ _ (hH1.trans (hB.bel.mono hH1.size)) (fun hH2=>?_)⟩
   clear hK K'
   simp only [Act.put,List.setIfInBounds_toArray,List.set_cons_zero,List.set_cons_succ]
   refine wpAnyH_ready (rs:=[4]) (by kernel_rfl) (by simp) ?_
   refine AllReadyH.cons rfl (fun K' hK=>?_) AllReadyH.nil
   refine step_goV (by rfl) (some 32) rfl 18 #[.tmp 29,.tmp 31] _ rfl #[.slice a1 ks1.length c1,.slice a2 ks1.length c2] (by simp [Act.eval]) (enters_of Tryz.func18 (by kernel_rfl) rfl) (lpList_same a1 g1 0 c1 a2 g2 0 c2 ks1 U1b (by omega) hkk1 hS12 hS2) ?_
   rintro e U1c ⟨rfl,b3⟩
   refine ⟨_,rfl,hK.out _ _ (hH2.trans (b3.mono hH2.size)) (fun hH3=>?_)⟩
   clear hK K'
   simp only [Act.put,List.setIfInBounds_toArray,List.set_cons_zero,List.set_cons_succ]
   refine takeD 5 (some 5) (.bool true) hH3 rfl rfl (by kernel_rfl) (by kernel_rfl) (by kernel_rfl) (fun _ _ _ h=>h) (Or.inl ⟨by rfl,by intro w' hSw;go_simp⟩) ?_
   simp only [Act.put,List.setIfInBounds_toArray,List.set_cons_zero,List.set_cons_succ]
   refine wpAnyH_done (by kernel_rfl) ?_ _
   clear CPC_WE CQC_WE CP1 CQ1 hS1 hS2 hS12 hA hB b3
   have bwF:=bwE.trans (hH3.mono bwE.size)
   have ssPF:=ssPE.below hH3 (Nat.le_refl _)
   have ssQF:=ssQE.below hH3 (Nat.le_refl _)
   have x0F:=(hH3.cell (p:=⟨PP,0,none⟩) lPE).trans x0E
   have x1F:=(hH3.cell (p:=⟨PQ,0,none⟩) lQE).trans x1E
   have lPF:=Nat.lt_of_lt_of_le lPE hH3.size
   have lQF:=Nat.lt_of_lt_of_le lQE hH3.size
   clear bwE ssPE ssQE x0E x1E lPE lQE
   have bwE:=bwF
   have ssPE:=ssPF
   have ssQE:=ssQF
   have x0E:=x0F
   have x1E:=x1F
   have lPE:=lPF
   have lQE:=lQF
   clear bwF ssPF ssQF x0F x1F lPF lQF
   clear hH hH1 hH2 hH3
   go_wp2_with fail
   have hkl2:=M.orderAll_len mm 2
   have hkk2:=M.orderAll_le mm 2
   have CP2:=fun W (hb:Below U1c.heap.size U1c W)=>iorderAllK a g 0 c mm 2 W hml hle (ssPE.below hb (Nat.le_refl _))
   have CQ2:=fun W (hb:Below U1c.heap.size U1c W)=>iorderAllK ai gi 0 ci qq 2 W hql hqls (ssQE.below hb (Nat.le_refl _))
   rw [e2] at CQ2
   clear e2
   generalize M.orderAll mm 2=ks2 at *
   have CPC_U1c:∀ W:World,Below U1c.heap.size U1c W→W.cell? ⟨PP,0,none⟩=some (.slice a mm.length c):=fun W hb=>(hb.cell (p:=⟨PP,0,none⟩) lPE).trans x0E
   have CQC_U1c:∀ W:World,Below U1c.heap.size U1c W→W.cell? ⟨PQ,0,none⟩=some (.slice ai qq.length ci):=fun W hb=>(hb.cell (p:=⟨PQ,0,none⟩) lQE).trans x1E
   refine wp_region_held_drew (S:=fun w'=>Below U1c.heap.size U1c w') (by kernel_rfl) (Below.refl _ _).drew (fun hH=>?_)
   refine takeD 0 (some 33) (.agg #[.slice a mm.length c]) hH rfl rfl (by kernel_rfl) (by kernel_rfl) (by kernel_rfl) (fun _ _ _ h=>h) (Or.inl ⟨by rfl,by intro w' hSw;have hc0:=CPC_U1c w' hSw;go_simp⟩) ?_
   simp only [Act.put,List.setIfInBounds_toArray,List.set_cons_zero,List.set_cons_succ]
   refine takeD 2 (some 35) (.agg #[.slice ai qq.length ci]) hH rfl rfl (by kernel_rfl) (by kernel_rfl) (by kernel_rfl) (fun _ _ _ h=>h) (Or.inl ⟨by rfl,by intro w' hSw;have hc0:=CQC_U1c w' hSw;go_simp⟩) ?_
   simp only [Act.put,List.setIfInBounds_toArray,List.set_cons_zero,List.set_cons_succ]
   refine wpAnyH_ready (rs:=[1]) (by kernel_rfl) (by simp) ?_
   refine AllReadyH.cons rfl (fun K' hK=>?_) AllReadyH.nil
   refine step_goV (by rfl) (some 34) rfl 17 #[.tmp 33,.const (.int .i64 2)] _ rfl #[.agg #[.slice a mm.length c],.int .i64 2] (by simp [Act.eval]) (enters_of Tryz.func17 (by kernel_rfl) rfl) (CP2 _ hH) ?_
   rintro e U2a ⟨v1,rfl,hA⟩
   obtain ⟨a1,g1,c1,rfl,hS1⟩:=hA.ex
   refine ⟨_,rfl,hK.out _ _ (hH.trans (hA.bel.mono hH.size)) (fun hH1=>?_)⟩
   clear hK K'
   simp only [Act.put,List.setIfInBounds_toArray,List.set_cons_zero,List.set_cons_succ]
   refine wpAnyH_ready (rs:=[3]) (by kernel_rfl) (by simp) ?_
   refine AllReadyH.cons rfl (fun K' hK=>?_) AllReadyH.nil
   refine step_goV (by rfl) (some 36) rfl 17 #[.tmp 35,.const (.int .i64 2)] _ rfl #[.agg #[.slice ai qq.length ci],.int .i64 2] (by simp [Act.eval]) (enters_of Tryz.func17 (by kernel_rfl) rfl) (CQ2 _ hH1) ?_
   rintro e U2b ⟨v2,rfl,hB⟩
   obtain ⟨a2,g2,c2,rfl,hS2⟩:=hB.ex
   have hS12:=hS1.below hB.bel (Nat.le_refl _)
   refine ⟨_,rfl,hK.out _ _ (hH1.trans (hB.bel.mono hH1.size)) (fun hH2=>?_)⟩
   clear hK K'
   simp only [Act.put,List.setIfInBounds_toArray,List.set_cons_zero,List.set_cons_succ]
   refine wpAnyH_ready (rs:=[4]) (by kernel_rfl) (by simp) ?_
   refine AllReadyH.cons rfl (fun K' hK=>?_) AllReadyH.nil
   refine step_goV (by rfl) (some 37) rfl 18 #[.tmp 34,.tmp 36] _ rfl #[.slice a1 ks2.length c1,.slice a2 ks2.length c2] (by simp [Act.eval]) (enters_of Tryz.func18 (by kernel_rfl) rfl) (lpList_same a1 g1 0 c1 a2 g2 0 c2 ks2 U2b (by omega) hkk2 hS12 hS2) ?_
   rintro e U2c ⟨rfl,b3⟩
   refine ⟨_,rfl,hK.out _ _ (hH2.trans (b3.mono hH2.size)) (fun hH3=>?_)⟩
   clear hK K'
   simp only [Act.put,List.setIfInBounds_toArray,List.set_cons_zero,List.set_cons_succ]
   refine takeD 5 (some 6) (.bool true) hH3 rfl rfl (by kernel_rfl) (by kernel_rfl) (by kernel_rfl) (fun _ _ _ h=>h) (Or.inl ⟨by rfl,by intro w' hSw;go_simp⟩) ?_
   simp only [Act.put,List.setIfInBounds_toArray,List.set_cons_zero,List.set_cons_succ]
   refine wpAnyH_done (by kernel_rfl) ?_ _
   clear CPC_U1c CQC_U1c CP2 CQ2 hS1 hS2 hS12 hA hB b3
   have bwF:=bwE.trans (hH3.mono bwE.size)
   have ssPF:=ssPE.below hH3 (Nat.le_refl _)
   have ssQF:=ssQE.below hH3 (Nat.le_refl _)
   have x0F:=(hH3.cell (p:=⟨PP,0,none⟩) lPE).trans x0E
   have x1F:=(hH3.cell (p:=⟨PQ,0,none⟩) lQE).trans x1E
   have lPF:=Nat.lt_of_lt_of_le lPE hH3.size
   have lQF:=Nat.lt_of_lt_of_le lQE hH3.size
   clear bwE ssPE ssQE x0E x1E lPE lQE
   have bwE:=bwF
   have ssPE:=ssPF
   have ssQE:=ssQF
   have x0E:=x0F
   have x1E:=x1F
   have lPE:=lPF
   have lQE:=lQF
   clear bwF ssPF ssQF x0F x1F lPF lQF
   clear hH hH1 hH2 hH3
   go_wp2_with fail
   have hkl3:=M.orderAll_len mm 3
   have hkk3:=M.orderAll_le mm 3
   have hql3:=M.orderAll_len qq 3
   have hqk3:=M.orderAll_le qq 3
   have CP3:=fun W (hb:Below U2c.heap.size U2c W)=>iorderAllK a g 0 c mm 3 W hml hle (ssPE.below hb (Nat.le_refl _))
   have CQ3:=fun W (hb:Below U2c.heap.size U2c W)=>iorderAllK ai gi 0 ci qq 3 W hql hqls (ssQE.below hb (Nat.le_refl _))
   generalize M.orderAll mm 3=ks3 at *
   generalize M.orderAll qq 3=kq3 at *
   have CPC_U2c:∀ W:World,Below U2c.heap.size U2c W→W.cell? ⟨PP,0,none⟩=some (.slice a mm.length c):=fun W hb=>(hb.cell (p:=⟨PP,0,none⟩) lPE).trans x0E
   have CQC_U2c:∀ W:World,Below U2c.heap.size U2c W→W.cell? ⟨PQ,0,none⟩=some (.slice ai qq.length ci):=fun W hb=>(hb.cell (p:=⟨PQ,0,none⟩) lQE).trans x1E
   refine wp_region_held_drew (S:=fun w'=>Below U2c.heap.size U2c w') (by kernel_rfl) (Below.refl _ _).drew (fun hH=>?_)
   refine takeD 0 (some 38) (.bool true) hH rfl rfl (by kernel_rfl) (by kernel_rfl) (by kernel_rfl) (fun _ _ _ h=>h) (Or.inl ⟨by rfl,by intro w' hSw;go_simp⟩) ?_
   simp only [Act.put,List.setIfInBounds_toArray,List.set_cons_zero,List.set_cons_succ]
   refine takeD 1 (some 39) (.bool true) hH rfl rfl (by kernel_rfl) (by kernel_rfl) (by kernel_rfl) (fun _ _ _ h=>h) (Or.inl ⟨by rfl,by intro w' hSw;go_simp⟩) ?_
   simp only [Act.put,List.setIfInBounds_toArray,List.set_cons_zero,List.set_cons_succ]
   refine takeD 2 (some 40) (.bool true) hH rfl rfl (by kernel_rfl) (by kernel_rfl) (by kernel_rfl) (fun _ _ _ h=>h) (Or.inl ⟨by rfl,by intro w' hSw;go_simp⟩) ?_
   simp only [Act.put,List.setIfInBounds_toArray,List.set_cons_zero,List.set_cons_succ]
   refine takeD 3 (some 41) (.bool true) hH rfl rfl (by kernel_rfl) (by kernel_rfl) (by kernel_rfl) (fun _ _ _ h=>h) (Or.inl ⟨by rfl,by intro w' hSw;go_simp⟩) ?_
   simp only [Act.put,List.setIfInBounds_toArray,List.set_cons_zero,List.set_cons_succ]
   refine takeD 4 (some 42) (.bool true) hH rfl rfl (by kernel_rfl) (by kernel_rfl) (by kernel_rfl) (fun _ _ _ h=>h) (Or.inl ⟨by rfl,by intro w' hSw;go_simp⟩) ?_
   simp only [Act.put,List.setIfInBounds_toArray,List.set_cons_zero,List.set_cons_succ]
   refine takeD 5 (some 43) (.agg #[.slice a mm.length c]) hH rfl rfl (by kernel_rfl) (by kernel_rfl) (by kernel_rfl) (fun _ _ _ h=>h) (Or.inl ⟨by rfl,by intro w' hSw;have hc0:=CPC_U2c w' hSw;go_simp⟩) ?_
   simp only [Act.put,List.setIfInBounds_toArray,List.set_cons_zero,List.set_cons_succ]
   refine takeD 7 (some 45) (.agg #[.slice ai qq.length ci]) hH rfl rfl (by kernel_rfl) (by kernel_rfl) (by kernel_rfl) (fun _ _ _ h=>h) (Or.inl ⟨by rfl,by intro w' hSw;have hc0:=CQC_U2c w' hSw;go_simp⟩) ?_
   simp only [Act.put,List.setIfInBounds_toArray,List.set_cons_zero,List.set_cons_succ]
   refine wpAnyH_ready (rs:=[6]) (by kernel_rfl) (by simp) ?_
   refine AllReadyH.cons rfl (fun K' hK=>?_) AllReadyH.nil
   refine step_goV (by rfl) (some 44) rfl 17 #[.tmp 43,.const (.int .i64 3)] _ rfl #[.agg #[.slice a mm.length c],.int .i64 3] (by simp [Act.eval]) (enters_of Tryz.func17 (by kernel_rfl) rfl) (CP3 _ hH) ?_
   rintro e U3a ⟨v1,rfl,hA⟩
   obtain ⟨a1,g1,c1,rfl,hS1⟩:=hA.ex
   refine ⟨_,rfl,hK.out _ _ (hH.trans (hA.bel.mono hH.size)) (fun hH1=>?_)⟩
   clear hK K'
   simp only [Act.put,List.setIfInBounds_toArray,List.set_cons_zero,List.set_cons_succ]
   refine wpAnyH_ready (rs:=[8]) (by kernel_rfl) (by simp) ?_
   refine AllReadyH.cons rfl (fun K' hK=>?_) AllReadyH.nil
   refine step_goV (by rfl) (some 46) rfl 17 #[.tmp 45,.const (.int .i64 3)] _ rfl #[.agg #[.slice ai qq.length ci],.int .i64 3] (by simp [Act.eval]) (enters_of Tryz.func17 (by kernel_rfl) rfl) (CQ3 _ hH1) ?_
   rintro e U3b ⟨v2,rfl,hB⟩
   obtain ⟨a2,g2,c2,rfl,hS2⟩:=hB.ex
   have hS12:=hS1.below hB.bel (Nat.le_refl _)
   refine ⟨_,rfl,hK.out _ _ (hH1.trans (hB.bel.mono hH1.size)) (fun hH2=>?_)⟩
   clear hK K'
   simp only [Act.put,List.setIfInBounds_toArray,List.set_cons_zero,List.set_cons_succ]
   refine wpAnyH_ready (rs:=[9]) (by kernel_rfl) (by simp) ?_
   refine AllReadyH.cons rfl (fun K' hK=>?_) AllReadyH.nil
   refine step_goV (by rfl) (some 47) rfl 22 #[.tmp 44,.tmp 46] _ rfl #[.slice a1 ks3.length c1,.slice a2 kq3.length c2] (by simp [Act.eval]) (enters_of Tryz.func22 (by kernel_rfl) rfl) (lpWithin_yes a1 g1 0 c1 a2 g2 0 c2 ks3 kq3 U3b (by omega) hkk3 (by omega) hqk3 hS12 hS2 h3) ?_
   rintro e U3c ⟨rfl,b3⟩
   refine ⟨_,rfl,hK.out _ _ (hH2.trans (b3.mono hH2.size)) (fun hH3=>?_)⟩
   clear hK K'
   simp only [Act.put,List.setIfInBounds_toArray,List.set_cons_zero,List.set_cons_succ]
   refine takeD 10 (some 48) (.bool true) hH3 rfl rfl (by kernel_rfl) (by kernel_rfl) (by kernel_rfl) (fun _ _ _ h=>h) (Or.inl ⟨by rfl,by intro w' hSw;go_simp⟩) ?_
   simp only [Act.put,List.setIfInBounds_toArray,List.set_cons_zero,List.set_cons_succ]
   refine takeD 11 (some 2) (.bool true) hH3 rfl rfl (by kernel_rfl) (by kernel_rfl) (by kernel_rfl) (fun _ _ _ h=>h) (Or.inl ⟨by rfl,by intro w' hSw;go_simp⟩) ?_
   simp only [Act.put,List.setIfInBounds_toArray,List.set_cons_zero,List.set_cons_succ]
   refine wpAnyH_done (by kernel_rfl) ?_ _
   go_wp2_with fail
   go_ret
   exact ⟨rfl,bwE.trans (hH3.mono bwE.size)⟩
 ·go_enter Tryz.func5,Tryz.ntmps5
  go_wp2_with fail
  go_ret
  exact ⟨rfl,Below.refl _ _⟩
end Go.Proofs.YtjjkicffhpcngaaGreat
