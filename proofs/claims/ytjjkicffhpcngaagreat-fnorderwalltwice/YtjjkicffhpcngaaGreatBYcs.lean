/- The law FnOrderWallTwice, walked: it answers true, and leaves all as it was. Of whatever code. -/
import Derived.Below
import Derived.BigQuiet
import Derived.Deep.AppendLies
import Derived.Deep.AppendSrc
import Derived.Deep.CutRange
import Derived.Deep.MidRow
import Derived.Deep.Quiet
import Derived.Deep.QuietTactic
import Derived.Deep.RegionHeld3
import Derived.Deep.RegionLaw
import Derived.Deep.RegionWith
import Derived.Deep.Slices
import Derived.Deep.WholeRow
import Derived.Handy
import Derived.Laws.AppendOwn
import Derived.Laws.AppendOwnNone
import Derived.Laws.EntriesVeiled
import Derived.Laws.IdiomCopy
import Derived.Laws.OwnMore
import Derived.LoopIn
import Derived.LoopN
import Derived.LoopNIn
import Derived.Maps.OwnIn
import Derived.OwnWalkIn
import Derived.RangeFuncBound
import Derived.RangeFuncLeaves
import Derived.RangeFuncNested
import Derived.Shelf.Abstract
import Derived.Shelf.SlSortCmp.NoneTotal
import Derived.Sort.Grow
import Derived.TacticsInMore
import Derived.WalkKit
import Derived.WalkLawsBesides
import Derived.WalkSpells
import Derived.Deep.OwnRows
import Derived.Test.YtjjkicffhpcngaaGreatRows
import Derived.Test.YtjjkicffhpcngaaGreatBYbt
import Derived.Test.YtjjkicffhpcngaaGreatBYce
import Derived.Test.YtjjkicffhpcngaaGreatBYcr
namespace Go.Proofs.YtjjkicffhpcngaaGreat
open Go.RowKit
structure WtEnd (W:World) (qq:List (List M.D)) (k:Int) (s9 s10:Value) (wc:World):Prop where
 ex:∃ (N:Nat) (xa:Option Addr) (xg xc:Nat) (ox:Option (List (List M.D))),s9=.pointer (some ⟨N,0,none⟩)∧s10=.bool ox.isSome∧Slot1 wc N (.slice xa (ox.getD []).length xc)∧DoSS wc xa xg 0 (ox.getD [])∧M.wallPut qq [k]=ox
 bel:Below W.heap.size W wc
theorem intS_one (w:World) (k:Int):IntS (w.alloc (.cells #[.int .i64 k] 3)) (some ⟨w.heap.size,0,none⟩) w.heap.size 0 [k]:=⟨fun _=>rfl,fun i hi=>by
 obtain rfl:i=0:=by simp at hi;omega
 simp⟩
theorem M.wallPut_le {ll qq:List (List M.D)} {gs:List Int} (h:M.wallPut ll gs=some qq):qq.length≤1048576∧∀ t∈qq,t.length≤1048576:=by
 obtain ⟨_,_,hq,rfl⟩:=M.wallPut_some h
 obtain ⟨h1,h2⟩:=M.prog_le hq
 exact ⟨by omega,fun t ht=>by have:=h2 t ht;omega⟩
set_option maxHeartbeats 4000000 in
set_option maxRecDepth 100000 in
set_option linter.unusedSimpArgs false in
theorem lawWt_any (ca:Option Addr) (cb co L C:Nat) (x:Nat→Int) (ma:Option Addr) (ml C2:Nat) (w:World) (hL:L≤C) (had:0 < L→ca=some ⟨cb,co,none⟩) (hc:∀ i,i < L→w.cell? ⟨cb,co+i,none⟩=some (.int .u8 (x i))∧0≤x i∧x i≤255) :
  Calls Tryz.prog 9 #[.slice ca L C,.slice ma ml C2] w fun e w'=>e=.returned (.bool true)∧Below w.heap.size w w':=by
 by_cases hLb:L≤1048576∧ml≤1048576
 ·obtain ⟨hLa,hLm⟩:=hLb
  go_enter Tryz.func9,Tryz.ntmps9
  go_wp2_with fail
  refine (DrawOrderAll_any ca cb co L C x _ hL had hc hLa).mono ?_
  rintro e w1 ⟨a,g,c,mm,kind,rfl,hsn,hsm,hk0,hk1,hb1⟩
  have hls:=hsm.le
  have hl3:mm.length≤1048576:=by have:=hsm.three;omega
  clear had hc
  have bx0:=BoxP.new (c:=c) hb1 hsn.ss
  go_wp2_with fail
  generalize w1.alloc (.cells #[.slice a mm.length c] 25)=W0 at *
  generalize w1.heap.size=P at *
  clear hb1
  have hkl:=M.orderAll_len mm kind
  have hkk:=M.orderAll_le mm kind
  have CI:=fun (W:World) (h:BoxP w W P a g c mm)=>iorderAllK a g 0 c mm kind W hl3 hls h.ss
  have CS:=fun (W:World) (h:BoxP w W P a g c mm)=>sorderAllK a g 0 c mm kind W hl3 hls h.ss
  have CG:=fun (W:World) (h:BoxP w W P a g c mm)=>sgaps_any a g 0 c mm W hl3 hls h.ss
  have HTW:Hid (∀ G qq xx,M.wallPut mm [G]=some qq→M.wallPut qq [G]=some xx→(xx.length≤1048576∧∀ t∈xx,t.length≤1048576)∧M.orderAll xx kind=M.orderAll qq kind):=fun G qq xx h1 h2=>⟨M.wallPut_le h2,M.all_twice h1 h2 kind⟩
  obtain ⟨ks,hks⟩:∃ ks,M.orderAll mm kind=ks:=⟨_,rfl⟩
  rw [hks] at hkl hkk CI CS
  clear hks hsn hsm
  have CPC:∀ W:World,Below W0.heap.size W0 W→W.cell? ⟨P,0,none⟩=some (.slice a mm.length c):=fun W hb=>(bx0.below hb).p.c
  refine wp_region_held_drew (S:=fun w'=>Below W0.heap.size W0 w') (by kernel_rfl) (Below.refl _ _).drew (fun hH=>?_)
  refine takeD 0 (some 24) (.agg #[.slice a mm.length c]) hH rfl rfl (by kernel_rfl) (by kernel_rfl) (by kernel_rfl) (fun _ _ _ h=>h) (Or.inl ⟨by rfl,by intro w' hSw;have hc0:=CPC w' hSw;go_simp⟩) ?_
  simp only [Act.put,List.setIfInBounds_toArray,List.set_cons_zero,List.set_cons_succ]
  refine takeD 1 (some 25) (.int .i64 kind) hH rfl rfl (by kernel_rfl) (by kernel_rfl) (by kernel_rfl) (fun _ _ _ h=>h) (Or.inl ⟨by rfl,by intro w' hSw;go_simp⟩) ?_
  simp only [Act.put,List.setIfInBounds_toArray,List.set_cons_zero,List.set_cons_succ]
  refine takeD 3 (some 27) (.agg #[.slice a mm.length c]) hH rfl rfl (by kernel_rfl) (by kernel_rfl) (by kernel_rfl) (fun _ _ _ h=>h) (Or.inl ⟨by rfl,by intro w' hSw;have hc0:=CPC w' hSw;go_simp⟩) ?_
  simp only [Act.put,List.setIfInBounds_toArray,List.set_cons_zero,List.set_cons_succ]
  refine takeD 4 (some 28) (.int .i64 kind) hH rfl rfl (by kernel_rfl) (by kernel_rfl) (by kernel_rfl) (fun _ _ _ h=>h) (Or.inl ⟨by rfl,by intro w' hSw;go_simp⟩) ?_
  simp only [Act.put,List.setIfInBounds_toArray,List.set_cons_zero,List.set_cons_succ]
  refine wpAnyH_ready (rs:=[2]) (by kernel_rfl) (by simp) ?_
  refine AllReadyH.cons rfl (fun K' hK=>?_) AllReadyH.nil
  refine step_goV (by rfl) (some 26) rfl 17 #[.tmp 24,.tmp 25] _ rfl #[.agg #[.slice a mm.length c],.int .i64 kind] (by simp [Act.eval]) (enters_of Tryz.func17 (by kernel_rfl) rfl) (CI _ (bx0.below hH)) ?_
  rintro e V1 ⟨v1,rfl,hA⟩
  obtain ⟨a1,g1,c1,rfl,hS1⟩:=hA.ex
  refine ⟨_,rfl,hK.out _ _ (hH.trans (hA.bel.mono hH.size)) (fun hH1=>?_)⟩
  clear hK K'
  simp only [Act.put,List.setIfInBounds_toArray,List.set_cons_zero,List.set_cons_succ]
  refine wpAnyH_ready (rs:=[5]) (by kernel_rfl) (by simp) ?_
  refine AllReadyH.cons rfl (fun K' hK=>?_) AllReadyH.nil
  refine step_goV (by rfl) (some 29) rfl 21 #[.tmp 27,.tmp 28] _ rfl #[.agg #[.slice a mm.length c],.int .i64 kind] (by simp [Act.eval]) (enters_of Tryz.func21 (by kernel_rfl) rfl) (CS _ (bx0.below hH1)) ?_
  rintro e V2 ⟨v2,rfl,hB⟩
  obtain ⟨a2,g2,c2,rfl,hS2⟩:=hB.ex
  have hS12:=hS1.below hB.bel (Nat.le_refl _)
  refine ⟨_,rfl,hK.out _ _ (hH1.trans (hB.bel.mono hH1.size)) (fun hH2=>?_)⟩
  clear hK K'
  simp only [Act.put,List.setIfInBounds_toArray,List.set_cons_zero,List.set_cons_succ]
  refine wpAnyH_ready (rs:=[6]) (by kernel_rfl) (by simp) ?_
  refine AllReadyH.cons rfl (fun K' hK=>?_) AllReadyH.nil
  refine step_goV (by rfl) (some 30) rfl 18 #[.tmp 26,.tmp 29] _ rfl #[.slice a1 ks.length c1,.slice a2 ks.length c2] (by simp [Act.eval]) (enters_of Tryz.func18 (by kernel_rfl) rfl) (lpList_same a1 g1 0 c1 a2 g2 0 c2 ks V2 (by omega) hkk hS12 hS2) ?_
  rintro e V3 ⟨rfl,b3⟩
  refine ⟨_,rfl,hK.out _ _ (hH2.trans (b3.mono hH2.size)) (fun hH3=>?_)⟩
  clear hK K'
  simp only [Act.put,List.setIfInBounds_toArray,List.set_cons_zero,List.set_cons_succ]
  refine takeD 7 (some 31) (.bool false) hH3 rfl rfl (by kernel_rfl) (by kernel_rfl) (by kernel_rfl) (fun _ _ _ h=>h) (Or.inl ⟨by rfl,by intro w' hSw;go_simp⟩) ?_
  simp only [Act.put,List.setIfInBounds_toArray,List.set_cons_zero,List.set_cons_succ]
  refine wpAnyH_done (by kernel_rfl) ?_ _
  have bx3:=bx0.below hH3
  have p3:=bx3.p.c
  clear hS1 hS2 hS12 hH hH1 hH2 hH3 CI CS hA hB CPC bx0 b3
  go_wp2_with fail
  refine (lpWalled_any a g 0 c mm ml V3 hl3 hls bx3.ss).mono ?_
  rintro e W2 ⟨qa,qn,qc,ok,rfl,hQ⟩
  have HQ:=hQ.at1
  have bx4:=(bx3.below hQ.bel).below (below1 W2 (.cells #[.slice qa qn qc] 25))
  have hq4:=Slot1.new W2 (.slice qa qn qc) 25
  have hss4:ok=true→∃ (qq:List (List M.D)) (g':Nat),qn=qq.length∧DoSS (W2.alloc (.cells #[.slice qa qn qc] 25)) qa g' 0 qq∧M.wallPut mm [(ml:Int).tmod (M.gaps mm)]=some qq∧1≤M.gaps mm:=fun h=>by
   obtain ⟨qq,g',e1,e2,e3,e4⟩:=HQ h
   exact ⟨qq,g',e1,e2.below (below1 W2 _) (Nat.le_refl _),e3,e4⟩
  have p4:=bx4.p.c
  clear hQ HQ bx3 p3
  cases ok
  ·clear hss4 HTW CG
   go_wp2_with fail
   go_ret
   exact ⟨rfl,bx4.bel⟩
  ·obtain ⟨qq,g',rfl,hssq,hput,hG1⟩:=hss4 rfl
   obtain ⟨hql,hqs⟩:=M.wallPut_le hput
   have hq5:=hq4.c
   obtain ⟨G,hG⟩:∃ G,M.gaps mm=G:=⟨_,rfl⟩
   rw [hG] at hput hG1 CG
   obtain ⟨k,hk⟩:∃ k,(ml:Int).tmod G=k:=⟨_,rfl⟩
   have e2:¬ (G=0):=by omega
   have HPUT:Hid (M.wallPut mm [k]=some qq):=by show _=_;rw [← hk];exact hput
   have HK:Hid ((ml:Int).tmod G=k):=hk
   clear hput hss4 hG
   go_wp2_with fail
   generalize W2.alloc (.cells #[.slice qa qq.length qc] 25)=W3 at *
   obtain ⟨Q,hQe⟩:∃ Q,W2.heap.size=Q:=⟨_,rfl⟩
   rw [hQe] at hq4 hq5 ⊢
   clear hQe
   have bxW:=bx4
   have pc:=bxW.p.c
   have qc':=hq4.c
   have CW:=fun (Z:Nat) (W:World) (h1:DoSS W qa g' 0 qq) (h2:IntS W (some ⟨Z,0,none⟩) Z 0 [k])=>iwallPut_any qa g' 0 qc qq hql hqs (some ⟨Z,0,none⟩) Z 0 1 [k] (by simp) W h1 h2
   have PCC:∀ W:World,Below W3.heap.size W3 W→W.cell? ⟨P,0,none⟩=some (.slice a mm.length c):=fun W hb=>(bxW.below hb).p.c
   have QCC:∀ W:World,Below W3.heap.size W3 W→W.cell? ⟨Q,0,none⟩=some (.slice qa qq.length qc):=fun W hb=>(hq4.bel hb).c
   obtain ⟨ox,hox⟩:∃ ox,M.wallPut qq [k]=ox:=⟨_,rfl⟩
   have HOX:Hid (M.wallPut qq [k]=ox):=hox
   rw [hox] at CW
   clear hox p4 hq5
   go_cut [9,10] from 42 (fun s9 s10 wc=>WtEnd W3 qq k s9 s10 wc)
   case first =>
    refine wp_region_held_drew (S:=fun w'=>Below W3.heap.size W3 w') (by kernel_rfl) (Below.refl _ _).drew (fun hH=>?_)
    refine takeD 0 (some 42) (.agg #[.slice qa qq.length qc]) hH rfl rfl (by kernel_rfl) (by kernel_rfl) (by kernel_rfl) (fun _ _ _ h=>h) (Or.inl ⟨by rfl,by intro w' hSw;have hc:=QCC w' hSw;go_simp⟩) ?_
    simp only [Act.put,List.setIfInBounds_toArray,List.set_cons_zero,List.set_cons_succ]
    refine takeD 1 (some 43) (.slice ma ml C2) hH rfl rfl (by kernel_rfl) (by kernel_rfl) (by kernel_rfl) (fun _ _ _ h=>h) (Or.inl ⟨by rfl,by intro w' hSw;go_simp⟩) ?_
    simp only [Act.put,List.setIfInBounds_toArray,List.set_cons_zero,List.set_cons_succ]
    refine takeD 2 (some 44) (.int .i64 ml) hH rfl rfl (by kernel_rfl) (by kernel_rfl) (by kernel_rfl) (fun _ _ _ h=>h) (Or.inl ⟨by rfl,by intro w' hSw;go_simp⟩) ?_
    simp only [Act.put,List.setIfInBounds_toArray,List.set_cons_zero,List.set_cons_succ]
    refine takeD 3 (some 45) (.agg #[.slice a mm.length c]) hH rfl rfl (by kernel_rfl) (by kernel_rfl) (by kernel_rfl) (fun _ _ _ h=>h) (Or.inl ⟨by rfl,by intro w' hSw;have hc:=PCC w' hSw;go_simp⟩) ?_
    simp only [Act.put,List.setIfInBounds_toArray,List.set_cons_zero,List.set_cons_succ]
    refine wpAnyH_ready (rs:=[4,11]) (by kernel_rfl) (by simp) ?_
    refine AllReadyH.cons rfl (fun K' hK=>?_) (AllReadyH.cons rfl (fun K' hK=>?_) AllReadyH.nil)
    ·refine step_goV (by rfl) (some 46) rfl 34 #[.tmp 45] _ rfl #[.agg #[.slice a mm.length c]] (by simp [Act.eval]) (enters_of Tryz.func34 (by kernel_rfl) rfl) (CG (W3.drew) (bxW.below ((Below.refl W3.heap.size W3).drew))) ?_
     rintro e w5 ⟨rfl,b5x⟩
     have b5:Below W3.heap.size W3 w5:=((Below.refl W3.heap.size W3).drew).trans (b5x.mono ((Below.refl W3.heap.size W3).drew).size)
     refine ⟨_,rfl,hK.out _ _ b5 (fun hH5=>?_)⟩
     clear hK K'
     simp only [Act.put,List.setIfInBounds_toArray,List.set_cons_zero,List.set_cons_succ]
     refine takeD 5 (some 47) (.int .i64 k) hH5 rfl rfl (by kernel_rfl) (by kernel_rfl) (by kernel_rfl) (fun _ _ _ h=>h) (Or.inl ⟨by rfl,by intro w' hSw;go_simp⟩) ?_
     simp only [Act.put,List.setIfInBounds_toArray,List.set_cons_zero,List.set_cons_succ]
     refine wpAnyH_ready (rs:=[6,11]) (by kernel_rfl) (by simp) ?_
     refine AllReadyH.cons rfl (fun K' hK=>?_) (AllReadyH.cons rfl (fun K' hK=>?_) AllReadyH.nil)
     ·rw [if_pos (by rfl)]
      go_simp
      refine hK.out _ _ ((b5).alloc (b5).size (.cells #[.int .i64 k] 3)) (fun hHc=>?_)
      clear hK K'
      refine wpAnyH_ready (rs:=[7,11]) (by kernel_rfl) (by simp) ?_
      refine AllReadyH.cons rfl (fun K' hK=>?_) (AllReadyH.cons rfl (fun K' hK=>?_) AllReadyH.nil)
      ·refine step_goV (by rfl) (some 49) rfl 33 #[.tmp 42,.tmp 48] _ rfl #[.agg #[.slice qa qq.length qc],.slice (some ⟨(w5).heap.size,0,none⟩) 1 1] (by simp [Act.eval]) (enters_of Tryz.func33 (by kernel_rfl) rfl) (CW ((w5).heap.size) ((w5).alloc (.cells #[.int .i64 k] 3)) (hssq.below ((b5).alloc (b5).size (.cells #[.int .i64 k] 3)) (Nat.le_refl _)) (intS_one (w5) k)) ?_
       rintro e w6 ⟨v6,rfl,vs6,hR6,b6x⟩
       have b6:Below W3.heap.size W3 w6:=((b5).alloc (b5).size (.cells #[.int .i64 k] 3)).trans (b6x.mono ((b5).alloc (b5).size (.cells #[.int .i64 k] 3)).size)
       obtain ⟨ax,gx,cx,rfl,hssx⟩:=hR6.b.ss
       refine ⟨_,rfl,hK.out _ _ b6 (fun hH6=>?_)⟩
       clear hK K'
       simp only [Act.put,List.setIfInBounds_toArray,List.set_cons_zero,List.set_cons_succ]
       refine takeD 8 (some 41) (.tuple #[.agg #[.slice ax (ox.getD []).length cx],.bool ox.isSome]) hH6 rfl rfl (by kernel_rfl) (by kernel_rfl) (by kernel_rfl) (fun _ _ _ h=>h) (Or.inl ⟨by rfl,by intro w' hSw;go_simp⟩) ?_
       simp only [Act.put,List.setIfInBounds_toArray,List.set_cons_zero,List.set_cons_succ]
       refine takeD 9 (some 50) (.agg #[.slice ax (ox.getD []).length cx]) hH6 rfl rfl (by kernel_rfl) (by kernel_rfl) (by kernel_rfl) (fun _ _ _ h=>h) (Or.inl ⟨by rfl,by intro w' hSw;go_simp⟩) ?_
       simp only [Act.put,List.setIfInBounds_toArray,List.set_cons_zero,List.set_cons_succ]
       refine takeD 10 (some 51) (.bool ox.isSome) hH6 rfl rfl (by kernel_rfl) (by kernel_rfl) (by kernel_rfl) (fun _ _ _ h=>h) (Or.inl ⟨by rfl,by intro w' hSw;go_simp⟩) ?_
       simp only [Act.put,List.setIfInBounds_toArray,List.set_cons_zero,List.set_cons_succ]
       refine wpAnyH_ready (rs:=[11]) (by kernel_rfl) (by simp) ?_
       refine AllReadyH.cons rfl (fun K' hK=>?_) AllReadyH.nil
       rw [if_pos (by rfl)]
       go_simp
       refine hK.out _ _ (b6.alloc b6.size _) (fun hHa=>?_)
       clear hK K'
       refine wpAnyH_ready (rs:=[12]) (by kernel_rfl) (by simp) ?_
       refine AllReadyH.cons rfl (fun K' hK=>?_) AllReadyH.nil
       rw [if_pos (by rfl)]
       go_simp
       refine hK.out _ _ (b6.alloc b6.size _) (fun hHb=>?_)
       clear hK K'
       refine takeD 13 (some 10) (.bool ox.isSome) hHb rfl rfl (by kernel_rfl) (by kernel_rfl) (by kernel_rfl) (fun _ _ _ h=>h) (Or.inl ⟨by rfl,by intro w' hSw;go_simp⟩) ?_
       simp only [Act.put,List.setIfInBounds_toArray,List.set_cons_zero,List.set_cons_succ]
       refine wpAnyH_done (by kernel_rfl) ?_ _
       go_wp2_with fail
       go_meet
       case rel=>exact ⟨⟨_,_,_,_,ox,rfl,rfl,Slot1.new w6 (.slice ax (ox.getD []).length cx) 25,hssx.below (below1 w6 _) (Nat.le_refl _),HOX.out⟩,b6.alloc b6.size _⟩
      ·rw [if_pos (by rfl)]
       go_simp
       refine hK.out _ _ (((b5).alloc (b5).size (.cells #[.int .i64 k] 3)).alloc ((b5).alloc (b5).size (.cells #[.int .i64 k] 3)).size (.cells #[.slice none 0 0] 25)) (fun hHa=>?_)
       clear hK K'
       refine wpAnyH_ready (rs:=[7]) (by kernel_rfl) (by simp) ?_
       refine AllReadyH.cons rfl (fun K' hK=>?_) AllReadyH.nil
       refine step_goV (by rfl) (some 49) rfl 33 #[.tmp 42,.tmp 48] _ rfl #[.agg #[.slice qa qq.length qc],.slice (some ⟨(w5).heap.size,0,none⟩) 1 1] (by simp [Act.eval]) (enters_of Tryz.func33 (by kernel_rfl) rfl) (CW ((w5).heap.size) (((w5).alloc (.cells #[.int .i64 k] 3)).alloc (.cells #[.slice none 0 0] 25)) (hssq.below (((b5).alloc (b5).size (.cells #[.int .i64 k] 3)).alloc ((b5).alloc (b5).size (.cells #[.int .i64 k] 3)).size (.cells #[.slice none 0 0] 25)) (Nat.le_refl _)) ((intS_one (w5) k).below (below1 _ (.cells #[.slice none 0 0] 25)) (Nat.le_refl _))) ?_
       rintro e w6 ⟨v6,rfl,vs6,hR6,b6x⟩
       have b6:Below W3.heap.size W3 w6:=(((b5).alloc (b5).size (.cells #[.int .i64 k] 3)).alloc ((b5).alloc (b5).size (.cells #[.int .i64 k] 3)).size (.cells #[.slice none 0 0] 25)).trans (b6x.mono (((b5).alloc (b5).size (.cells #[.int .i64 k] 3)).alloc ((b5).alloc (b5).size (.cells #[.int .i64 k] 3)).size (.cells #[.slice none 0 0] 25)).size)
       obtain ⟨ax,gx,cx,rfl,hssx⟩:=hR6.b.ss
       refine ⟨_,rfl,hK.out _ _ b6 (fun hH6=>?_)⟩
       clear hK K'
       simp only [Act.put,List.setIfInBounds_toArray,List.set_cons_zero,List.set_cons_succ]
       refine takeD 8 (some 41) (.tuple #[.agg #[.slice ax (ox.getD []).length cx],.bool ox.isSome]) hH6 rfl rfl (by kernel_rfl) (by kernel_rfl) (by kernel_rfl) (fun _ _ _ h=>h) (Or.inl ⟨by rfl,by intro w' hSw;go_simp⟩) ?_
       simp only [Act.put,List.setIfInBounds_toArray,List.set_cons_zero,List.set_cons_succ]
       refine takeD 9 (some 50) (.agg #[.slice ax (ox.getD []).length cx]) hH6 rfl rfl (by kernel_rfl) (by kernel_rfl) (by kernel_rfl) (fun _ _ _ h=>h) (Or.inl ⟨by rfl,by intro w' hSw;go_simp⟩) ?_
       simp only [Act.put,List.setIfInBounds_toArray,List.set_cons_zero,List.set_cons_succ]
       refine takeD 10 (some 51) (.bool ox.isSome) hH6 rfl rfl (by kernel_rfl) (by kernel_rfl) (by kernel_rfl) (fun _ _ _ h=>h) (Or.inl ⟨by rfl,by intro w' hSw;go_simp⟩) ?_
       simp only [Act.put,List.setIfInBounds_toArray,List.set_cons_zero,List.set_cons_succ]
       refine wpAnyH_ready (rs:=[12]) (by kernel_rfl) (by simp) ?_
       refine AllReadyH.cons rfl (fun K' hK=>?_) AllReadyH.nil
       have sN:Slot1 w6 (w5.heap.size+1) (.slice none 0 0):=by
        have h:=((Slot1.new ((w5).alloc (.cells #[.int .i64 k] 3)) (.slice none 0 0) 25)).bl' b6x
        first | exact h | (rw [World.size_alloc] at h;exact h)
       have xc:=sN.c
       have xz:=sN.fz
       have hgeN:W3.heap.size≤w5.heap.size+1:=by
        have h:=((b5).alloc (b5).size (.cells #[.int .i64 k] 3)).size
        first | exact h | (rw [World.size_alloc] at h;exact h)
       rw [if_pos (by rfl)]
       go_simp
       refine hK.out _ _ (b6.setCell (p:=⟨w5.heap.size+1,0,none⟩) hgeN _) (fun hHb=>?_)
       clear hK K' xc xz
       have sX:=sN.set (.slice ax (ox.getD []).length cx)
       refine takeD 13 (some 10) (.bool ox.isSome) hHb rfl rfl (by kernel_rfl) (by kernel_rfl) (by kernel_rfl) (fun _ _ _ h=>h) (Or.inl ⟨by rfl,by intro w' hSw;go_simp⟩) ?_
       simp only [Act.put,List.setIfInBounds_toArray,List.set_cons_zero,List.set_cons_succ]
       refine wpAnyH_done (by kernel_rfl) ?_ _
       obtain ⟨ax',gy,cx',ey,ssX⟩:=(hR6.far (b:=w5.heap.size+1) (i:=0) (by have h1:=b6x.size;have h2:=b5x.size;simp at h1 h2 ⊢<;>omega) (.slice ax (ox.getD []).length cx)).b.ss
       obtain ⟨rfl,_,rfl⟩:=Value.slice.inj ey
       go_wp2_with fail
       go_meet
       case rel=>exact ⟨⟨_,_,_,_,ox,rfl,rfl,sX,ssX,HOX.out⟩,b6.setCell (p:=⟨w5.heap.size+1,0,none⟩) hgeN _⟩
     ·rw [if_pos (by rfl)]
      go_simp
      refine hK.out _ _ ((b5).alloc (b5).size (.cells #[.slice none 0 0] 25)) (fun hHa=>?_)
      clear hK K'
      refine wpAnyH_ready (rs:=[6]) (by kernel_rfl) (by simp) ?_
      refine AllReadyH.cons rfl (fun K' hK=>?_) AllReadyH.nil
      rw [if_pos (by rfl)]
      go_simp
      refine hK.out _ _ (((b5).alloc (b5).size (.cells #[.slice none 0 0] 25)).alloc ((b5).alloc (b5).size (.cells #[.slice none 0 0] 25)).size (.cells #[.int .i64 k] 3)) (fun hHc=>?_)
      clear hK K'
      refine wpAnyH_ready (rs:=[7]) (by kernel_rfl) (by simp) ?_
      refine AllReadyH.cons rfl (fun K' hK=>?_) AllReadyH.nil
      refine step_goV (by rfl) (some 49) rfl 33 #[.tmp 42,.tmp 48] _ rfl #[.agg #[.slice qa qq.length qc],.slice (some ⟨((w5).alloc (.cells #[.slice none 0 0] 25)).heap.size,0,none⟩) 1 1] (by simp [Act.eval]) (enters_of Tryz.func33 (by kernel_rfl) rfl) (CW (((w5).alloc (.cells #[.slice none 0 0] 25)).heap.size) (((w5).alloc (.cells #[.slice none 0 0] 25)).alloc (.cells #[.int .i64 k] 3)) (hssq.below (((b5).alloc (b5).size (.cells #[.slice none 0 0] 25)).alloc ((b5).alloc (b5).size (.cells #[.slice none 0 0] 25)).size (.cells #[.int .i64 k] 3)) (Nat.le_refl _)) (intS_one ((w5).alloc (.cells #[.slice none 0 0] 25)) k)) ?_
      rintro e w6 ⟨v6,rfl,vs6,hR6,b6x⟩
      have b6:Below W3.heap.size W3 w6:=(((b5).alloc (b5).size (.cells #[.slice none 0 0] 25)).alloc ((b5).alloc (b5).size (.cells #[.slice none 0 0] 25)).size (.cells #[.int .i64 k] 3)).trans (b6x.mono (((b5).alloc (b5).size (.cells #[.slice none 0 0] 25)).alloc ((b5).alloc (b5).size (.cells #[.slice none 0 0] 25)).size (.cells #[.int .i64 k] 3)).size)
      obtain ⟨ax,gx,cx,rfl,hssx⟩:=hR6.b.ss
      refine ⟨_,rfl,hK.out _ _ b6 (fun hH6=>?_)⟩
      clear hK K'
      simp only [Act.put,List.setIfInBounds_toArray,List.set_cons_zero,List.set_cons_succ]
      refine takeD 8 (some 41) (.tuple #[.agg #[.slice ax (ox.getD []).length cx],.bool ox.isSome]) hH6 rfl rfl (by kernel_rfl) (by kernel_rfl) (by kernel_rfl) (fun _ _ _ h=>h) (Or.inl ⟨by rfl,by intro w' hSw;go_simp⟩) ?_
      simp only [Act.put,List.setIfInBounds_toArray,List.set_cons_zero,List.set_cons_succ]
      refine takeD 9 (some 50) (.agg #[.slice ax (ox.getD []).length cx]) hH6 rfl rfl (by kernel_rfl) (by kernel_rfl) (by kernel_rfl) (fun _ _ _ h=>h) (Or.inl ⟨by rfl,by intro w' hSw;go_simp⟩) ?_
      simp only [Act.put,List.setIfInBounds_toArray,List.set_cons_zero,List.set_cons_succ]
      refine takeD 10 (some 51) (.bool ox.isSome) hH6 rfl rfl (by kernel_rfl) (by kernel_rfl) (by kernel_rfl) (fun _ _ _ h=>h) (Or.inl ⟨by rfl,by intro w' hSw;go_simp⟩) ?_
      simp only [Act.put,List.setIfInBounds_toArray,List.set_cons_zero,List.set_cons_succ]
      refine wpAnyH_ready (rs:=[12]) (by kernel_rfl) (by simp) ?_
      refine AllReadyH.cons rfl (fun K' hK=>?_) AllReadyH.nil
      have sN:Slot1 w6 (w5.heap.size) (.slice none 0 0):=by
       have h:=(((Slot1.new (w5) (.slice none 0 0) 25)).bl' (below1 ((w5).alloc (.cells #[.slice none 0 0] 25)) (.cells #[.int .i64 k] 3))).bl' b6x
       first | exact h | (rw [World.size_alloc] at h;exact h)
      have xc:=sN.c
      have xz:=sN.fz
      have hgeN:W3.heap.size≤w5.heap.size:=by
       have h:=(b5).size
       first | exact h | (rw [World.size_alloc] at h;exact h)
      rw [if_pos (by rfl)]
      go_simp
      refine hK.out _ _ (b6.setCell (p:=⟨w5.heap.size,0,none⟩) hgeN _) (fun hHb=>?_)
      clear hK K' xc xz
      have sX:=sN.set (.slice ax (ox.getD []).length cx)
      refine takeD 13 (some 10) (.bool ox.isSome) hHb rfl rfl (by kernel_rfl) (by kernel_rfl) (by kernel_rfl) (fun _ _ _ h=>h) (Or.inl ⟨by rfl,by intro w' hSw;go_simp⟩) ?_
      simp only [Act.put,List.setIfInBounds_toArray,List.set_cons_zero,List.set_cons_succ]
      refine wpAnyH_done (by kernel_rfl) ?_ _
      obtain ⟨ax',gy,cx',ey,ssX⟩:=(hR6.far (b:=w5.heap.size) (i:=0) (by have h1:=b6x.size;have h2:=b5x.size;simp at h1 h2 ⊢<;>omega) (.slice ax (ox.getD []).length cx)).b.ss
      obtain ⟨rfl,_,rfl⟩:=Value.slice.inj ey
      go_wp2_with fail
      go_meet
      case rel=>exact ⟨⟨_,_,_,_,ox,rfl,rfl,sX,ssX,HOX.out⟩,b6.setCell (p:=⟨w5.heap.size,0,none⟩) hgeN _⟩
    ·rw [if_pos (by rfl)]
     go_simp
     refine hK.out _ _ (((Below.refl W3.heap.size W3).drew).alloc ((Below.refl W3.heap.size W3).drew).size (.cells #[.slice none 0 0] 25)) (fun hHa=>?_)
     clear hK K'
     refine wpAnyH_ready (rs:=[4]) (by kernel_rfl) (by simp) ?_
     refine AllReadyH.cons rfl (fun K' hK=>?_) AllReadyH.nil
     refine step_goV (by rfl) (some 46) rfl 34 #[.tmp 45] _ rfl #[.agg #[.slice a mm.length c]] (by simp [Act.eval]) (enters_of Tryz.func34 (by kernel_rfl) rfl) (CG ((W3.drew).alloc (.cells #[.slice none 0 0] 25)) (bxW.below (((Below.refl W3.heap.size W3).drew).alloc ((Below.refl W3.heap.size W3).drew).size (.cells #[.slice none 0 0] 25)))) ?_
     rintro e w5 ⟨rfl,b5x⟩
     have b5:Below W3.heap.size W3 w5:=(((Below.refl W3.heap.size W3).drew).alloc ((Below.refl W3.heap.size W3).drew).size (.cells #[.slice none 0 0] 25)).trans (b5x.mono (((Below.refl W3.heap.size W3).drew).alloc ((Below.refl W3.heap.size W3).drew).size (.cells #[.slice none 0 0] 25)).size)
     refine ⟨_,rfl,hK.out _ _ b5 (fun hH5=>?_)⟩
     clear hK K'
     simp only [Act.put,List.setIfInBounds_toArray,List.set_cons_zero,List.set_cons_succ]
     refine takeD 5 (some 47) (.int .i64 k) hH5 rfl rfl (by kernel_rfl) (by kernel_rfl) (by kernel_rfl) (fun _ _ _ h=>h) (Or.inl ⟨by rfl,by intro w' hSw;go_simp⟩) ?_
     simp only [Act.put,List.setIfInBounds_toArray,List.set_cons_zero,List.set_cons_succ]
     refine wpAnyH_ready (rs:=[6]) (by kernel_rfl) (by simp) ?_
     refine AllReadyH.cons rfl (fun K' hK=>?_) AllReadyH.nil
     rw [if_pos (by rfl)]
     go_simp
     refine hK.out _ _ ((b5).alloc (b5).size (.cells #[.int .i64 k] 3)) (fun hHc=>?_)
     clear hK K'
     refine wpAnyH_ready (rs:=[7]) (by kernel_rfl) (by simp) ?_
     refine AllReadyH.cons rfl (fun K' hK=>?_) AllReadyH.nil
     refine step_goV (by rfl) (some 49) rfl 33 #[.tmp 42,.tmp 48] _ rfl #[.agg #[.slice qa qq.length qc],.slice (some ⟨(w5).heap.size,0,none⟩) 1 1] (by simp [Act.eval]) (enters_of Tryz.func33 (by kernel_rfl) rfl) (CW ((w5).heap.size) ((w5).alloc (.cells #[.int .i64 k] 3)) (hssq.below ((b5).alloc (b5).size (.cells #[.int .i64 k] 3)) (Nat.le_refl _)) (intS_one (w5) k)) ?_
     rintro e w6 ⟨v6,rfl,vs6,hR6,b6x⟩
     have b6:Below W3.heap.size W3 w6:=((b5).alloc (b5).size (.cells #[.int .i64 k] 3)).trans (b6x.mono ((b5).alloc (b5).size (.cells #[.int .i64 k] 3)).size)
     obtain ⟨ax,gx,cx,rfl,hssx⟩:=hR6.b.ss
     refine ⟨_,rfl,hK.out _ _ b6 (fun hH6=>?_)⟩
     clear hK K'
     simp only [Act.put,List.setIfInBounds_toArray,List.set_cons_zero,List.set_cons_succ]
     refine takeD 8 (some 41) (.tuple #[.agg #[.slice ax (ox.getD []).length cx],.bool ox.isSome]) hH6 rfl rfl (by kernel_rfl) (by kernel_rfl) (by kernel_rfl) (fun _ _ _ h=>h) (Or.inl ⟨by rfl,by intro w' hSw;go_simp⟩) ?_
     simp only [Act.put,List.setIfInBounds_toArray,List.set_cons_zero,List.set_cons_succ]
     refine takeD 9 (some 50) (.agg #[.slice ax (ox.getD []).length cx]) hH6 rfl rfl (by kernel_rfl) (by kernel_rfl) (by kernel_rfl) (fun _ _ _ h=>h) (Or.inl ⟨by rfl,by intro w' hSw;go_simp⟩) ?_
     simp only [Act.put,List.setIfInBounds_toArray,List.set_cons_zero,List.set_cons_succ]
     refine takeD 10 (some 51) (.bool ox.isSome) hH6 rfl rfl (by kernel_rfl) (by kernel_rfl) (by kernel_rfl) (fun _ _ _ h=>h) (Or.inl ⟨by rfl,by intro w' hSw;go_simp⟩) ?_
     simp only [Act.put,List.setIfInBounds_toArray,List.set_cons_zero,List.set_cons_succ]
     refine wpAnyH_ready (rs:=[12]) (by kernel_rfl) (by simp) ?_
     refine AllReadyH.cons rfl (fun K' hK=>?_) AllReadyH.nil
     have sN:Slot1 w6 (W3.heap.size) (.slice none 0 0):=by
      have h:=((((Slot1.new (W3.drew) (.slice none 0 0) 25)).bl' b5x).bl' (below1 (w5) (.cells #[.int .i64 k] 3))).bl' b6x
      first | exact h | (rw [World.size_alloc] at h;exact h)
     have xc:=sN.c
     have xz:=sN.fz
     have hgeN:W3.heap.size≤W3.heap.size:=by
      have h:=((Below.refl W3.heap.size W3).drew).size
      first | exact h | (rw [World.size_alloc] at h;exact h)
     rw [if_pos (by rfl)]
     go_simp
     refine hK.out _ _ (b6.setCell (p:=⟨W3.heap.size,0,none⟩) hgeN _) (fun hHb=>?_)
     clear hK K' xc xz
     have sX:=sN.set (.slice ax (ox.getD []).length cx)
     refine takeD 13 (some 10) (.bool ox.isSome) hHb rfl rfl (by kernel_rfl) (by kernel_rfl) (by kernel_rfl) (fun _ _ _ h=>h) (Or.inl ⟨by rfl,by intro w' hSw;go_simp⟩) ?_
     simp only [Act.put,List.setIfInBounds_toArray,List.set_cons_zero,List.set_cons_succ]
     refine wpAnyH_done (by kernel_rfl) ?_ _
     obtain ⟨ax',gy,cx',ey,ssX⟩:=(hR6.far (b:=W3.heap.size) (i:=0) (by have h1:=b6x.size;have h2:=b5x.size;simp at h1 h2 ⊢<;>omega) (.slice ax (ox.getD []).length cx)).b.ss
     obtain ⟨rfl,_,rfl⟩:=Value.slice.inj ey
     go_wp2_with fail
     go_meet
     case rel=>exact ⟨⟨_,_,_,_,ox,rfl,rfl,sX,ssX,HOX.out⟩,b6.setCell (p:=⟨W3.heap.size,0,none⟩) hgeN _⟩
   case rest =>
    obtain ⟨⟨N,xa,xg,xc,oy,rfl,rfl,sN,ssX,hox⟩,bF⟩:=hcut
    obtain ⟨WF,hWF⟩:∃ WF,WF=wc:=⟨_,rfl⟩
    subst hWF
    have bxF:=bx4.below bF
    have hqF:=hq4.bel bF
    have ssQ:=hssq.below bF (Nat.le_refl _)
    have xN:=sN.c
    clear CW CG PCC QCC HOX bxW pc qc' bF
    cases oy with
    | none =>
     clear HTW
     go_wp2_with fail
     refine wp_region_held_drew (S:=fun w'=>Below WF.heap.size WF w') (by kernel_rfl) (Below.refl _ _).drew (fun hH=>?_)
     refine takeD 0 (some 52) (.bool false) hH rfl rfl (by kernel_rfl) (by kernel_rfl) (by kernel_rfl) (fun _ _ _ h=>h) (Or.inl ⟨by rfl,by intro w' hSw;go_simp⟩) ?_
     simp only [Act.put,List.setIfInBounds_toArray,List.set_cons_zero,List.set_cons_succ]
     refine takeD 1 (some 53) (.bool true) hH rfl rfl (by kernel_rfl) (by kernel_rfl) (by kernel_rfl) (fun _ _ _ h=>h) (Or.inl ⟨by rfl,by intro w' hSw;go_simp⟩) ?_
     simp only [Act.put,List.setIfInBounds_toArray,List.set_cons_zero,List.set_cons_succ]
     refine takeD 2 (some 54) (.bool true) hH rfl rfl (by kernel_rfl) (by kernel_rfl) (by kernel_rfl) (fun _ _ _ h=>h) (Or.inl ⟨by rfl,by intro w' hSw;go_simp⟩) ?_
     simp only [Act.put,List.setIfInBounds_toArray,List.set_cons_zero,List.set_cons_succ]
     refine takeD 3 (some 55) (undef) hH rfl rfl (by kernel_rfl) (by kernel_rfl) (by kernel_rfl) (fun _ _ _ h=>h) (Or.inr ⟨by rfl,rfl⟩) ?_
     simp only [Act.put,List.setIfInBounds_toArray,List.set_cons_zero,List.set_cons_succ]
     refine takeD 4 (some 56) (undef) hH rfl rfl (by kernel_rfl) (by kernel_rfl) (by kernel_rfl) (fun _ _ _ h=>h) (Or.inr ⟨by rfl,rfl⟩) ?_
     simp only [Act.put,List.setIfInBounds_toArray,List.set_cons_zero,List.set_cons_succ]
     refine takeD 5 (some 57) (undef) hH rfl rfl (by kernel_rfl) (by kernel_rfl) (by kernel_rfl) (fun _ _ _ h=>h) (Or.inr ⟨by rfl,rfl⟩) ?_
     simp only [Act.put,List.setIfInBounds_toArray,List.set_cons_zero,List.set_cons_succ]
     refine takeD 6 (some 58) (undef) hH rfl rfl (by kernel_rfl) (by kernel_rfl) (by kernel_rfl) (fun _ _ _ h=>h) (Or.inr ⟨by rfl,rfl⟩) ?_
     simp only [Act.put,List.setIfInBounds_toArray,List.set_cons_zero,List.set_cons_succ]
     refine takeD 7 (some 59) (undef) hH rfl rfl (by kernel_rfl) (by kernel_rfl) (by kernel_rfl) (fun _ _ _ h=>h) (Or.inr ⟨by rfl,rfl⟩) ?_
     simp only [Act.put,List.setIfInBounds_toArray,List.set_cons_zero,List.set_cons_succ]
     refine takeD 8 (some 60) (undef) hH rfl rfl (by kernel_rfl) (by kernel_rfl) (by kernel_rfl) (fun _ _ _ h=>h) (Or.inr ⟨by rfl,rfl⟩) ?_
     simp only [Act.put,List.setIfInBounds_toArray,List.set_cons_zero,List.set_cons_succ]
     refine takeD 9 (some 61) (undef) hH rfl rfl (by kernel_rfl) (by kernel_rfl) (by kernel_rfl) (fun _ _ _ h=>h) (Or.inr ⟨by rfl,rfl⟩) ?_
     simp only [Act.put,List.setIfInBounds_toArray,List.set_cons_zero,List.set_cons_succ]
     refine takeD 10 (some 62) (.bool true) hH rfl rfl (by kernel_rfl) (by kernel_rfl) (by kernel_rfl) (fun _ _ _ h=>h) (Or.inl ⟨by rfl,by intro w' hSw;go_simp⟩) ?_
     simp only [Act.put,List.setIfInBounds_toArray,List.set_cons_zero,List.set_cons_succ]
     refine takeD 11 (some 4) (.bool true) hH rfl rfl (by kernel_rfl) (by kernel_rfl) (by kernel_rfl) (fun _ _ _ h=>h) (Or.inl ⟨by rfl,by intro w' hSw;go_simp⟩) ?_
     simp only [Act.put,List.setIfInBounds_toArray,List.set_cons_zero,List.set_cons_succ]
     refine wpAnyH_done (by kernel_rfl) ?_ _
     have bxG:=bxF.below hH
     go_wp2_with fail
     go_ret
     exact ⟨rfl,bxG.bel⟩
    | some xx =>
     obtain ⟨⟨hxl,hxs⟩,exx⟩:=HTW.out k qq xx HPUT.out hox
     have hkl9:=M.orderAll_len qq kind
     have hkk9:=M.orderAll_le qq kind
     have CX:=fun W (hb:Below WF.heap.size WF W)=>iorderAllK xa xg 0 xc xx kind W hxl hxs (ssX.below hb (Nat.le_refl _))
     have CQ:=fun W (hb:Below WF.heap.size WF W)=>iorderAllK qa g' 0 qc qq kind W hql hqs (ssQ.below hb (Nat.le_refl _))
     rw [exx] at CX
     generalize M.orderAll qq kind=kq at *
     have QCF:∀ W:World,Below WF.heap.size WF W→W.cell? ⟨Q,0,none⟩=some (.slice qa qq.length qc):=fun W hb=>(hqF.bel hb).c
     have XCF:∀ W:World,Below WF.heap.size WF W→W.cell? ⟨N,0,none⟩=some (.slice xa xx.length xc):=fun W hb=>(sN.bl' hb).c
     clear HTW exx hox HPUT
     go_wp2_with fail
     refine wp_region_held_drew (S:=fun w'=>Below WF.heap.size WF w') (by kernel_rfl) (Below.refl _ _).drew (fun hH=>?_)
     refine takeD 0 (some 52) (.bool true) hH rfl rfl (by kernel_rfl) (by kernel_rfl) (by kernel_rfl) (fun _ _ _ h=>h) (Or.inl ⟨by rfl,by intro w' hSw;go_simp⟩) ?_
     simp only [Act.put,List.setIfInBounds_toArray,List.set_cons_zero,List.set_cons_succ]
     refine takeD 1 (some 53) (.bool false) hH rfl rfl (by kernel_rfl) (by kernel_rfl) (by kernel_rfl) (fun _ _ _ h=>h) (Or.inl ⟨by rfl,by intro w' hSw;go_simp⟩) ?_
     simp only [Act.put,List.setIfInBounds_toArray,List.set_cons_zero,List.set_cons_succ]
     refine takeD 2 (some 54) (.bool false) hH rfl rfl (by kernel_rfl) (by kernel_rfl) (by kernel_rfl) (fun _ _ _ h=>h) (Or.inl ⟨by rfl,by intro w' hSw;go_simp⟩) ?_
     simp only [Act.put,List.setIfInBounds_toArray,List.set_cons_zero,List.set_cons_succ]
     refine takeD 3 (some 55) (.agg #[.slice xa xx.length xc]) hH rfl rfl (by kernel_rfl) (by kernel_rfl) (by kernel_rfl) (fun _ _ _ h=>h) (Or.inl ⟨by rfl,by intro w' hSw;have hc0:=XCF w' hSw;go_simp⟩) ?_
     simp only [Act.put,List.setIfInBounds_toArray,List.set_cons_zero,List.set_cons_succ]
     refine takeD 4 (some 56) (.int .i64 kind) hH rfl rfl (by kernel_rfl) (by kernel_rfl) (by kernel_rfl) (fun _ _ _ h=>h) (Or.inl ⟨by rfl,by intro w' hSw;go_simp⟩) ?_
     simp only [Act.put,List.setIfInBounds_toArray,List.set_cons_zero,List.set_cons_succ]
     refine takeD 6 (some 58) (.agg #[.slice qa qq.length qc]) hH rfl rfl (by kernel_rfl) (by kernel_rfl) (by kernel_rfl) (fun _ _ _ h=>h) (Or.inl ⟨by rfl,by intro w' hSw;have hc0:=QCF w' hSw;go_simp⟩) ?_
     simp only [Act.put,List.setIfInBounds_toArray,List.set_cons_zero,List.set_cons_succ]
     refine takeD 7 (some 59) (.int .i64 kind) hH rfl rfl (by kernel_rfl) (by kernel_rfl) (by kernel_rfl) (fun _ _ _ h=>h) (Or.inl ⟨by rfl,by intro w' hSw;go_simp⟩) ?_
     simp only [Act.put,List.setIfInBounds_toArray,List.set_cons_zero,List.set_cons_succ]
     refine wpAnyH_ready (rs:=[5]) (by kernel_rfl) (by simp) ?_
     refine AllReadyH.cons rfl (fun K' hK=>?_) AllReadyH.nil
     refine step_goV (by rfl) (some 57) rfl 17 #[.tmp 55,.tmp 56] _ rfl #[.agg #[.slice xa xx.length xc],.int .i64 kind] (by simp [Act.eval]) (enters_of Tryz.func17 (by kernel_rfl) rfl) (CX _ hH) ?_
     rintro e U1 ⟨v1,rfl,hA⟩
     obtain ⟨a1,g1,c1,rfl,hS1⟩:=hA.ex
     refine ⟨_,rfl,hK.out _ _ (hH.trans (hA.bel.mono hH.size)) (fun hH1=>?_)⟩
     clear hK K'
     simp only [Act.put,List.setIfInBounds_toArray,List.set_cons_zero,List.set_cons_succ]
     refine wpAnyH_ready (rs:=[8]) (by kernel_rfl) (by simp) ?_
     refine AllReadyH.cons rfl (fun K' hK=>?_) AllReadyH.nil
     refine step_goV (by rfl) (some 60) rfl 17 #[.tmp 58,.tmp 59] _ rfl #[.agg #[.slice qa qq.length qc],.int .i64 kind] (by simp [Act.eval]) (enters_of Tryz.func17 (by kernel_rfl) rfl) (CQ _ hH1) ?_
     rintro e U2 ⟨v2,rfl,hB⟩
     obtain ⟨a2,g2,c2,rfl,hS2⟩:=hB.ex
     have hS12:=hS1.below hB.bel (Nat.le_refl _)
     refine ⟨_,rfl,hK.out _ _ (hH1.trans (hB.bel.mono hH1.size)) (fun hH2=>?_)⟩
     clear hK K'
     simp only [Act.put,List.setIfInBounds_toArray,List.set_cons_zero,List.set_cons_succ]
     refine wpAnyH_ready (rs:=[9]) (by kernel_rfl) (by simp) ?_
     refine AllReadyH.cons rfl (fun K' hK=>?_) AllReadyH.nil
     refine step_goV (by rfl) (some 61) rfl 18 #[.tmp 57,.tmp 60] _ rfl #[.slice a1 kq.length c1,.slice a2 kq.length c2] (by simp [Act.eval]) (enters_of Tryz.func18 (by kernel_rfl) rfl) (lpList_same a1 g1 0 c1 a2 g2 0 c2 kq U2 (by omega) hkk9 hS12 hS2) ?_
     rintro e U3 ⟨rfl,b3⟩
     refine ⟨_,rfl,hK.out _ _ (hH2.trans (b3.mono hH2.size)) (fun hH3=>?_)⟩
     clear hK K'
     simp only [Act.put,List.setIfInBounds_toArray,List.set_cons_zero,List.set_cons_succ]
     refine takeD 10 (some 62) (.bool true) hH3 rfl rfl (by kernel_rfl) (by kernel_rfl) (by kernel_rfl) (fun _ _ _ h=>h) (Or.inl ⟨by rfl,by intro w' hSw;go_simp⟩) ?_
     simp only [Act.put,List.setIfInBounds_toArray,List.set_cons_zero,List.set_cons_succ]
     refine takeD 11 (some 4) (.bool true) hH3 rfl rfl (by kernel_rfl) (by kernel_rfl) (by kernel_rfl) (fun _ _ _ h=>h) (Or.inl ⟨by rfl,by intro w' hSw;go_simp⟩) ?_
     simp only [Act.put,List.setIfInBounds_toArray,List.set_cons_zero,List.set_cons_succ]
     refine wpAnyH_done (by kernel_rfl) ?_ _
     have bxG:=bxF.below hH3
     go_wp2_with fail
     go_ret
     exact ⟨rfl,bxG.bel⟩
 ·go_enter Tryz.func9,Tryz.ntmps9
  rcases (show 1048576 < L∨(L≤1048576∧1048576 < ml) by omega) with h1 | ⟨h1,h2⟩
  ·go_wp2_with fail
   go_ret
   exact ⟨rfl,Below.refl _ _⟩
  ·go_wp2_with fail
   go_ret
   exact ⟨rfl,Below.refl _ _⟩
end Go.Proofs.YtjjkicffhpcngaaGreat
