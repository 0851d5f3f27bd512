/- The law FnOrderTurn, walked: it answers true, and leaves all as it was. Of whatever code. -/
import Derived.Below
import Derived.BigQuiet
import Derived.Deep.AppendLies
import Derived.Deep.CutRange
import Derived.Deep.MidRow
import Derived.Deep.Quiet
import Derived.Deep.QuietTactic
import Derived.Deep.RegionHeld3
import Derived.Deep.RegionLaw
import Derived.Deep.RegionWith
import Derived.Deep.Slices
import Derived.Deep.WholeRow
import Derived.Handy
import Derived.Laws.AppendOwn
import Derived.Laws.AppendOwnNone
import Derived.Laws.EntriesVeiled
import Derived.Laws.IdiomCopy
import Derived.Laws.OwnMore
import Derived.Lib.AppendZerosOnto
import Derived.Lib.SliceRun
import Derived.LoopIn
import Derived.LoopN
import Derived.LoopNIn
import Derived.Maps.AppendAt
import Derived.OwnWalkIn
import Derived.RangeFuncBound
import Derived.RangeFuncLeaves
import Derived.RangeFuncNested
import Derived.Shelf.Abstract
import Derived.Shelf.SlSortCmp.NoneTotal
import Derived.Sort.Grow
import Derived.TacticsInMore
import Derived.WalkKit
import Derived.WalkLawsBesides
import Derived.WalkSpells
import Derived.Deep.OwnRows
import Derived.Test.YtihfibjckkmmbaaGreatRows
import Derived.Test.YtihfibjckkmmbaaGreatOebq
import Derived.Test.YtihfibjckkmmbaaGreatOebr
import Derived.Test.YtihfibjckkmmbaaGreatOeck
import Derived.Test.YtihfibjckkmmbaaGreatOecm
namespace Go.Proofs.YtihfibjckkmmbaaGreat
open Go.RowKit
theorem M.orderAll_ok {mm:List (List M.D)} {k:Int} {z:Key} (hz:z∈M.orderAll mm k):M.seenOk mm z.1 z.2=true:=by
 obtain ⟨x,hx,rfl⟩:=M.mem_orderAll.1 hz
 have h:=(M.holds_parts_of hx).2
 have:=M.exec_seenOk h
 have e:M.execSeen mm x.1 x.2=M.seenOf mm x:=by simp [M.execSeen,h,M.seenOf]
 rwa [e] at this
theorem M.turn_law {mm qq:List (List M.D)} {gs:List Int} (e:(M.turnThreads mm gs).getD []=qq) (h:(M.turnThreads mm gs).isSome=true) (kind:Int):M.sortK ((M.orderAll mm kind).map (M.turnK mm gs))=M.orderAll qq kind∧∀ z∈M.orderAll mm kind,M.turnSeen mm z.1 z.2 gs=some (M.turnK mm gs z):=by
 obtain ⟨y,hy⟩:=Option.isSome_iff_exists.1 h
 obtain ⟨h1,h2,h3⟩:=M.turnThreads_some hy
 rw [hy] at e
 obtain rfl:y=qq:=e
 subst h3
 exact ⟨M.all_turn h1 h2 kind,fun z hz=>M.turnSeen_yes (M.orderAll_ok hz) h2⟩
structure TcB (W:World) (S:Nat) (s:Sn) (w':World):Prop where
 bel:Below W.heap.size W w'
 s0:w'.cell? ⟨S,0,none⟩=some (.slice s.a1 s.l1.length s.c1)
 s1:w'.cell? ⟨S,1,none⟩=some (.slice s.a2 s.l2.length s.c2)
 at_:s.At w'
 ge1:W.heap.size≤s.b1
 ge2:W.heap.size≤s.b2
theorem tsAns_sn {w w':World} {v1 v2:Value} {r1 r2:List Int} (h:TsAns w w' v1 v2 r1 r2):∃ s:Sn,v1=.slice s.a1 s.l1.length s.c1∧v2=.slice s.a2 s.l2.length s.c2∧s.l1=r1∧s.l2=r2∧s.At w'∧w.heap.size≤s.b1∧w.heap.size≤s.b2:=by
 obtain ⟨a1,g1,c1,e1,i1,k1,_⟩:=own_nums h.o1
 obtain ⟨a2,g2,c2,e2,i2,k2,_⟩:=own_nums h.o2
 exact ⟨⟨a1,g1,0,c1,r1,a2,g2,0,c2,r2⟩,e1,e2,rfl,rfl,⟨i1,i2⟩,k1,k2⟩
theorem IntS.farz {w:World} {a:Option Addr} {b o S i:Nat} {l:List Int} {u:Value} (h:IntS w a b o l) (hb:0 < l.length→b≠S):IntS (w.setCell ⟨S,i,none⟩ u) a b o l :=
 ⟨h.addr,fun j hj=>by rw [World.cell?_setCell_other _ _ _ _ (fun e=>hb (by omega) (congrArg Addr.block e).symm)];exact h.row j hj⟩
theorem tcb_stored (wo Wc:World) (t:Sn) (o:Obj) (bT:Below (wo.alloc o).heap.size (wo.alloc o) Wc) {u1 u2:Value} (k0:Wc.cell? ⟨wo.heap.size,0,none⟩=some u1) (k1:Wc.cell? ⟨wo.heap.size,1,none⟩=some u2) (hta:t.At Wc) (g1:(wo.alloc o).heap.size≤t.b1) (g2:(wo.alloc o).heap.size≤t.b2) :
  TcB wo wo.heap.size t ((Wc.setCell ⟨wo.heap.size,0,none⟩ (.slice t.a1 t.l1.length t.c1)).setCell ⟨wo.heap.size,1,none⟩ (.slice t.a2 t.l2.length t.c2)):=by
 rw [World.size_alloc] at g1 g2
 have b0:Below wo.heap.size wo Wc:=(below1 wo o).trans (bT.mono (by simp))
 refine ⟨(b0.setCell (Nat.le_refl _) _).setCell (Nat.le_refl _) _,?_,?_,⟨(hta.reads.farz fun _=>by omega).farz fun _=>by omega,(hta.last.farz fun _=>by omega).farz fun _=>by omega⟩,by omega,by omega⟩
 ·rw [World.cell?_setCell_other _ _ _ _ (fun e=>by simp at e)]
  exact World.cell?_setCell_same _ _ _ k0
 ·exact World.cell?_setCell_same _ _ _ ((World.cell?_setCell_other _ _ _ _ (fun e=>by simp at e)).trans k1)
set_option maxHeartbeats 2000000 in
set_option maxRecDepth 100000 in
set_option linter.unusedSimpArgs false in
theorem lawTc_any (ca:Option Addr) (cb co L C:Nat) (x:Nat→Int) (ma:Option Addr) (ml C2:Nat) (w:World) (hL:L≤C) (had:0 < L→ca=some ⟨cb,co,none⟩) (hc:∀ i,i < L→w.cell? ⟨cb,co+i,none⟩=some (.int .u8 (x i))∧0≤x i∧x i≤255) :
  Calls Tryz.prog 5 #[.slice ca L C,.slice ma ml C2] w fun e w'=>e=.returned (.bool true)∧Below w.heap.size w w':=by
 by_cases hLb:L≤1048576∧ml≤1048576
 ·obtain ⟨hLa,hLm⟩:=hLb
  go_enter Tryz.func5,Tryz.ntmps5
  go_wp2_with fail
  refine (DrawTurnThreads_any ca cb co L C x _ hL had hc hLa).mono ?_
  rintro e w1 ⟨a,g,c,mm,ga,gg,gc,gs,rfl,hD⟩
  have hle:∀ t∈mm,t.length≤1048576:=fun t ht=>by have:=hD.sm.steps t ht;omega
  have hml:mm.length≤1048576:=by have:=hD.sm.three;omega
  have hgl:gs.length≤1048576:=by have:=hD.gl;omega
  have hgl20:gs.length≤1000:=by have:=hD.gl;omega
  have bA:=below1 w1 (.cells #[.slice a mm.length c] 25)
  have bwA:=hD.bel.trans (bA.mono hD.bel.size)
  have sP:=Slot1.new w1 (.slice a mm.length c) 25
  have ssP:=hD.sn.ss.below bA (Nat.le_refl _)
  have giP:=hD.gi.below bA (Nat.le_refl _)
  clear had hc hD bA
  have x0:=sP.c
  go_wp2_with fail
  generalize w1.alloc (.cells #[.slice a mm.length c] 25)=WA at *
  generalize w1.heap.size=P at *
  have CS:=sturnThreads_any a g 0 c mm hml hle ga gg 0 gc gs hgl
  have CI:=iturnThreads_any a g 0 c mm hml hle ga gg 0 gc gs hgl
  obtain ⟨k,hk,hk3⟩:∃ k,ml % 3=k∧k < 3:=⟨_,rfl,Nat.mod_lt _ (by omega)⟩
  have hmd:Int.tmod (ml:Int) 3=(k:Int):=by rw [Int.tmod_eq_emod_of_nonneg (by omega),← hk];exact (Int.natCast_emod _ _).symm
  obtain ⟨kn,hkn⟩:∃ kn:Int,IntKind.i64.wrap (1+(k:Int))=kn:=⟨_,rfl⟩
  have HS:Hid (∀ qq,(M.turnThreads mm gs).getD []=qq→(M.turnThreads mm gs).isSome=true→M.sortK ((M.orderAll mm kn).map (M.turnK mm gs))=M.orderAll qq kn∧∀ z∈M.orderAll mm kn,M.turnSeen mm z.1 z.2 gs=some (M.turnK mm gs z)):=fun qq e h=>M.turn_law e h kn
  clear hk
  obtain ⟨qq,hq⟩:∃ qq,(M.turnThreads mm gs).getD []=qq:=⟨_,rfl⟩
  rw [hq] at CS CI
  obtain ⟨hq3,hq7⟩:=M.turnThreads_small hq
  have hql:qq.length≤1048576:=by omega
  have hqls:∀ t∈qq,t.length≤1048576:=fun t ht=>by have:=hq7 t ht;omega
  have HS1:Hid ((M.turnThreads mm gs).isSome=true→M.sortK ((M.orderAll mm kn).map (M.turnK mm gs))=M.orderAll qq kn∧∀ z∈M.orderAll mm kn,M.turnSeen mm z.1 z.2 gs=some (M.turnK mm gs z)):=HS.out qq hq
  clear hq HS
  obtain ⟨ok,hok⟩:∃ ok,(M.turnThreads mm gs).isSome=ok:=⟨_,rfl⟩
  rw [hok] at CS CI HS1
  clear hok
  have LQ:=fun A B C D E F W h1 h2=>lpProg_any A B 0 C D E 0 F qq qq W hql hql hqls h1 h2
  rw [M.eqLL_yes rfl] at LQ
  refine (CS WA ssP giP).mono ?_
  rintro e w2 ⟨v2,rfl,⟨vs2,hR2⟩,b2⟩
  obtain ⟨av,gv,cv,rfl,hss2⟩:=hR2.b.ss
  have bW:=below1 w2 (.cells #[.slice av qq.length cv] 25)
  have bAW:=b2.trans (bW.mono b2.size)
  have sPW:=sP.bl' bAW
  have sW:=Slot1.new w2 (.slice av qq.length cv) 25
  have ssW:=hss2.below bW (Nat.le_refl _)
  clear hR2 hss2 b2 bW x0
  have x0:=sPW.c
  go_wp2_with fail
  generalize w2.alloc (.cells #[.slice av qq.length cv] 25)=WB at *
  generalize w2.heap.size=PW at *
  refine (CI WB (ssP.below bAW (Nat.le_refl _)) (giP.below bAW (Nat.le_refl _))).mono ?_
  rintro e w3 ⟨v3,rfl,⟨vs3,hR3⟩,b3⟩
  obtain ⟨ai,gi,ci,rfl,hss3⟩:=hR3.b.ss
  have bQ:=below1 w3 (.cells #[.slice ai qq.length ci] 25)
  have bBQ:=b3.trans (bQ.mono b3.size)
  have bAQ:=bAW.trans (bBQ.mono bAW.size)
  have sPQ:=sP.bl' bAQ
  have sQ:=Slot1.new w3 (.slice ai qq.length ci) 25
  have ssQ:=hss3.below bQ (Nat.le_refl _)
  have sWQ:=sW.bl' bBQ
  have ssWQ:=ssW.below bBQ (Nat.le_refl _)
  clear hR3 hss3 b3 bQ x0 sPW sW ssW
  have x1:=sQ.c
  have x2:=sWQ.c
  cases ok
  ·go_wp2_with fail
   generalize w3.alloc (.cells #[.slice ai qq.length ci] 25)=WC at *
   generalize w3.heap.size=PQ at *
   refine (LQ ai gi ci av gv cv _ ssQ ssWQ).mono ?_
   rintro e w4 ⟨rfl,b4⟩
   have sQ4:=sQ.bl' b4
   have sW4:=sWQ.bl' b4
   have bA4:=bAQ.trans (b4.mono bAQ.size)
   clear x1 x2
   have x1:=sQ4.c
   have x2:=sW4.c
   go_wp2_with fail
   refine (LQ ai gi ci av gv cv _ (ssQ.below b4 (Nat.le_refl _)) (ssWQ.below b4 (Nat.le_refl _))).mono ?_
   rintro e w5 ⟨rfl,b5⟩
   go_wp2_with fail
   go_ret
   exact ⟨rfl,bwA.trans ((bA4.trans (b5.mono bA4.size)).mono bwA.size)⟩
  ·obtain ⟨hsort,hts⟩:=HS1.out rfl
   have HSO:Hid (M.sortK ((M.orderAll mm kn).map (M.turnK mm gs))=M.orderAll qq kn):=hsort
   have HTS:Hid (∀ z∈M.orderAll mm kn,M.turnSeen mm z.1 z.2 gs=some (M.turnK mm gs z)):=hts
   clear HS1 hsort hts
   go_wp2_with fail
   generalize w3.alloc (.cells #[.slice ai qq.length ci] 25)=WC at *
   generalize w3.heap.size=PQ at *
   refine (LQ ai gi ci av gv cv _ ssQ ssWQ).mono ?_
   rintro e WD ⟨rfl,b4⟩
   have sQD:=sQ.bl' b4
   have sPD:=sPQ.bl' b4
   have bAD:=bAQ.trans (b4.mono bAQ.size)
   have ssQD:=ssQ.below b4 (Nat.le_refl _)
   have ssPD:=ssP.below bAD (Nat.le_refl _)
   have giD:=giP.below bAD (Nat.le_refl _)
   have bwD:=bwA.trans (bAD.mono bwA.size)
   clear x1 x2 sQ sPQ bAQ ssQ ssP b4 bAD sWQ ssWQ bBQ bAW sP giP bwA CS CI LQ
   have x0:=sPD.c
   have x1:=sQD.c
   have hkl:=M.orderAll_len mm kn
   have hkk:=M.orderAll_le mm kn
   have CP:=fun (W:World) (h:DoSS W a g 0 mm)=>iorderAllC_any a g 0 c mm kn W hml hle h
   have CQ:=fun (W:World) (h:DoSS W ai gi 0 qq)=>iorderAllK ai gi 0 ci qq kn W hql hqls h
   have hql2:=M.orderAll_len qq kn
   have hqk2:=M.orderAll_le qq kn
   rw [← HSO.out] at CQ hql2 hqk2
   clear HSO
   obtain ⟨j0,hj,hy0,hy1,hy2⟩:=info_parts Tryz.infoSn2
   go_wp2_with fail
   refine (CP WD ssPD).mono ?_
   rintro e WE ⟨v1,rfl,hA⟩
   obtain ⟨av1,gv,cv,uu,rfl,hku,hNL,hul,_,hcap⟩:=hA.ex
   have bDE:=hA.bel
   have bwE:=bwD.trans (bDE.mono bwD.size)
   have sPE:=sPD.bl' bDE
   have sQE:=sQD.bl' bDE
   have ssPE:=ssPD.below bDE (Nat.le_refl _)
   have ssQE:=ssQD.below bDE (Nat.le_refl _)
   have giE:=giD.below bDE (Nat.le_refl _)
   rw [← hku] at CQ hql2 hqk2 hkk HTS
   have HCAP:Hid (∀ s∈uu,s.l1.length≤s.c1):=hcap
   have pE:=sPE.c
   have lPE:=sPE.lt
   have hemp:(WE.alloc (.cells #[] 35)).ownsRow WE.heap.size 35 2 (.slice (some ⟨WE.heap.size,0,none⟩) 0 0) 0 []:=own_emp (heap_alloc_new WE _) (Nat.le_refl _)
   have bE:=below1 WE (.cells #[] 35)
   clear hA CP bDE sPD sQD ssQD ssPD giD bwD x0 x1 sPE hku hcap
   go_wp2_with fail
   go_loopw [13,14] (fun s13 s14 wr=>∃ (n:Nat) (v:Value) (ss:List Sn),v=s13∧s14=.int .i64 n∧n≤uu.length∧Hid (ss.length=n)∧SnL wr WE.heap.size v ss∧Hid (kys ss=((kys uu).take n).map (M.turnK mm gs))∧Below WE.heap.size WE wr) (fun _ s14 _=>uu.length - (intOf s14).toNat)
   case atStart=>exact ⟨0,_,[],rfl,rfl,Nat.zero_le _,rfl,⟨hemp,fun s hs=>(by cases hs),fun s hs=>(by cases hs)⟩,by show _=_;simp [kys],bE⟩
   case round =>
    obtain ⟨n,v,ss,hv13,rfl,hn,HSL,hL,HKY,hb⟩:=hrel
    subst hv13
    clear hemp bE
    by_cases hlt:n < uu.length
    ·have i1:(n:Int) < uu.length:=by omega
     obtain ⟨rfl⟩:=hNL.addr (by omega)
     obtain ⟨c1,c2'⟩:=(hNL.sr (by omega)).c n hlt
     have hsa:=(hNL.off _ (List.getElem_mem hlt)).at_
     have hsle:=(hNL.off _ (List.getElem_mem hlt)).le
     have hsc:=HCAP.out _ (List.getElem_mem hlt)
     have HKX:Hid (((kys uu).take (n+1)).map (M.turnK mm gs)=((kys uu).take n).map (M.turnK mm gs)++[M.turnK mm gs (uu[n].l1,uu[n].l2)]):=by
      show _=_
      rw [List.take_succ_eq_append_getElem (by simpa [kys] using hlt),List.map_append]
      simp [kys,Sn.ky]
     have hts:=HTS.out (uu[n].l1,uu[n].l2) (List.mem_map.2 ⟨uu[n],List.getElem_mem hlt,rfl⟩)
     generalize uu[n]=s at *
     have C14:=fun (W:World) (hb':Below WE.heap.size WE W)=>iturnSeen_any a g 0 c mm hml hle s hsle hsc ga gg 0 gc gs hgl W (ssPE.below hb' (Nat.le_refl _)) (hsa.below hb' (Nat.le_refl _)) (giE.below hb' (Nat.le_refl _))
     simp only at hts
     rw [hts] at C14
     simp only [Option.isSome_some,Option.getD_some] at C14
     obtain ⟨tk,htk⟩:∃ tk,M.turnK mm gs (s.l1,s.l2)=tk:=⟨_,rfl⟩
     rw [htk] at C14 HKX
     have hPC:∀ w',Below WE.heap.size WE w'→w'.cell? ⟨P,0,none⟩=some (.slice a mm.length c):=fun w' hb'=>(hb'.cell (p:=⟨P,0,none⟩) lPE).trans pE
     have hSW:∀ w',Below WE.heap.size WE w'→w'.cell? ⟨gv,n * 2,none⟩=some (.slice s.a1 s.l1.length s.c1)∧w'.cell? ⟨gv,n * 2+1,none⟩=some (.slice s.a2 s.l2.length s.c2):=fun w' hb'=>⟨(hb'.cell (p:=⟨gv,n * 2,none⟩) (World.block_lt_of_cell? _ _ c1)).trans c1,(hb'.cell (p:=⟨gv,n * 2+1,none⟩) (World.block_lt_of_cell? _ _ c2')).trans c2'⟩
     clear c1 c2' hts htk hsc hsle
     obtain ⟨wo,rfl⟩:∃ wo:World,wo=wr:=⟨_,rfl⟩
     have hwo:=hb.size
     go_wp2_with fail
     go_cut [15,16] from 77 to 92 (fun s15 s16 wc=>∃ S,∃ s':Sn,s15=.pointer (some ⟨S,0,none⟩)∧s16=.bool true∧s'.l1=tk.1∧s'.l2=tk.2∧TcB wo S s' wc)
     case first =>
      refine wp_region_held_drew (S:=fun w'=>Below WE.heap.size WE w') (by kernel_rfl) hb.drew (fun hH=>?_)
      refine takeD 0 (some 78) (.agg #[.slice a mm.length c]) hH rfl rfl (by kernel_rfl) (by kernel_rfl) (by kernel_rfl) (fun _ _ _ h=>h) (Or.inl ⟨by rfl,by intro w' hSw;have hc:=hPC w' hSw;go_simp⟩) ?_
      simp only [Act.put,List.setIfInBounds_toArray,List.set_cons_zero,List.set_cons_succ]
      refine takeD 1 (some 79) (.slice (some ⟨gv,0,none⟩) uu.length cv) hH rfl rfl (by kernel_rfl) (by kernel_rfl) (by kernel_rfl) (fun _ _ _ h=>h) (Or.inl ⟨by rfl,by intro w' hSw;go_simp⟩) ?_
      simp only [Act.put,List.setIfInBounds_toArray,List.set_cons_zero,List.set_cons_succ]
      refine takeD 2 (some 80) (.int .i64 n) hH rfl rfl (by kernel_rfl) (by kernel_rfl) (by kernel_rfl) (fun _ _ _ h=>h) (Or.inl ⟨by rfl,by intro w' hSw;go_simp⟩) ?_
      simp only [Act.put,List.setIfInBounds_toArray,List.set_cons_zero,List.set_cons_succ]
      refine takeD 3 (some 81) (.pointer (some ⟨gv,n * 2,none⟩)) hH rfl rfl (by kernel_rfl) (by kernel_rfl) (by kernel_rfl) (fun _ _ _ h=>h) (Or.inl ⟨by rfl,by intro w' hSw;go_simp⟩) ?_
      simp only [Act.put,List.setIfInBounds_toArray,List.set_cons_zero,List.set_cons_succ]
      refine takeD 4 (some 82) (.agg #[.slice s.a1 s.l1.length s.c1,.slice s.a2 s.l2.length s.c2]) hH rfl rfl (by kernel_rfl) (by kernel_rfl) (by kernel_rfl) (fun _ _ _ h=>h) (Or.inl ⟨by rfl,by intro w' hSw;obtain ⟨hc1,hc2⟩:=hSW w' hSw;go_simp⟩) ?_
      simp only [Act.put,List.setIfInBounds_toArray,List.set_cons_zero,List.set_cons_succ]
      refine takeD 5 (some 83) (.slice ga gs.length gc) hH rfl rfl (by kernel_rfl) (by kernel_rfl) (by kernel_rfl) (fun _ _ _ h=>h) (Or.inl ⟨by rfl,by intro w' hSw;go_simp⟩) ?_
      simp only [Act.put,List.setIfInBounds_toArray,List.set_cons_zero,List.set_cons_succ]
      refine wpAnyH_ready (rs:=[6,10]) (by kernel_rfl) (by simp) ?_
      refine AllReadyH.cons rfl (fun K' hK=>?_) (AllReadyH.cons rfl (fun K' hK=>?_) AllReadyH.nil)
      ·refine step_goV (by rfl) (some 84) rfl 21 #[.tmp 78,.tmp 82,.tmp 83] _ rfl #[.agg #[.slice a mm.length c],.agg #[.slice s.a1 s.l1.length s.c1,.slice s.a2 s.l2.length s.c2],.slice ga gs.length gc] (by simp [Act.eval]) (enters_of Tryz.func21 (by kernel_rfl) rfl) (C14 _ hb.drew) ?_
       rintro e Wc ⟨v1,v2,rfl,hT⟩
       obtain ⟨t,rfl,rfl,ht1,ht2,hta,htg1,htg2⟩:=tsAns_sn hT
       have bT:=hT.bel
       have HT1:Hid (t.l1=tk.1):=ht1
       have HT2:Hid (t.l2=tk.2):=ht2
       clear ht1 ht2
       refine ⟨_,rfl,hK.out _ _ (hb.drew.trans (bT.mono hb.drew.size)) (fun hHc=>?_)⟩
       clear hK K' hT
       simp only [Act.put,List.setIfInBounds_toArray,List.set_cons_zero,List.set_cons_succ]
       refine takeD 7 (some 77) (.tuple #[.agg #[.slice t.a1 t.l1.length t.c1,.slice t.a2 t.l2.length t.c2],.bool true]) hHc rfl rfl (by kernel_rfl) (by kernel_rfl) (by kernel_rfl) (fun _ _ _ h=>h) (Or.inl ⟨by rfl,by intro w' hSw;go_simp⟩) ?_
       simp only [Act.put,List.setIfInBounds_toArray,List.set_cons_zero,List.set_cons_succ]
       refine takeD 8 (some 85) (.agg #[.slice t.a1 t.l1.length t.c1,.slice t.a2 t.l2.length t.c2]) hHc rfl rfl (by kernel_rfl) (by kernel_rfl) (by kernel_rfl) (fun _ _ _ h=>h) (Or.inl ⟨by rfl,by intro w' hSw;go_simp⟩) ?_
       simp only [Act.put,List.setIfInBounds_toArray,List.set_cons_zero,List.set_cons_succ]
       refine takeD 9 (some 86) (.bool true) hHc rfl rfl (by kernel_rfl) (by kernel_rfl) (by kernel_rfl) (fun _ _ _ h=>h) (Or.inl ⟨by rfl,by intro w' hSw;go_simp⟩) ?_
       simp only [Act.put,List.setIfInBounds_toArray,List.set_cons_zero,List.set_cons_succ]
       refine wpAnyH_ready (rs:=[10]) (by kernel_rfl) (by simp) ?_
       refine AllReadyH.cons rfl (fun K' hK=>?_) AllReadyH.nil
       rw [if_pos (by rfl)]
       go_simp
       refine hK.out _ _ ((hb.drew.trans (bT.mono hb.drew.size)).alloc (hb.drew.trans (bT.mono hb.drew.size)).size _) (fun hHd=>?_)
       clear hK K'
       refine wpAnyH_ready (rs:=[11]) (by kernel_rfl) (by simp) ?_
       refine AllReadyH.cons rfl (fun K' hK=>?_) AllReadyH.nil
       rw [if_pos (by rfl)]
       go_simp
       have hF:TcB wo Wc.heap.size t (Wc.alloc (.cells #[.slice t.a1 t.l1.length t.c1,.slice t.a2 t.l2.length t.c2] 35)):=⟨(Below.refl wo.heap.size wo).drew.trans (bT.alloc bT.size _),by simp,by simp,hta.below (below1 Wc _) (Nat.le_refl _),htg1,htg2⟩
       refine hK.out _ _ (hb.trans (hF.bel.mono hwo)) (fun hHe=>?_)
       clear hK K'
       refine takeD 12 (some 16) (.bool true) hHe rfl rfl (by kernel_rfl) (by kernel_rfl) (by kernel_rfl) (fun _ _ _ h=>h) (Or.inl ⟨by rfl,by intro w' hSw;go_simp⟩) ?_
       simp only [Act.put,List.setIfInBounds_toArray,List.set_cons_zero,List.set_cons_succ]
       refine wpAnyH_done (by kernel_rfl) ?_ _
       go_wp2_with fail
       go_meet
       case rel=>exact ⟨_,t,rfl,rfl,HT1.out,HT2.out,hF⟩
      ·rw [if_pos (by rfl)]
       go_simp
       refine hK.out _ _ (hb.drew.alloc hwo (.cells #[.slice none 0 0,.slice none 0 0] 35)) (fun hHa=>?_)
       clear hK K'
       refine wpAnyH_ready (rs:=[6]) (by kernel_rfl) (by simp) ?_
       refine AllReadyH.cons rfl (fun K' hK=>?_) AllReadyH.nil
       refine step_goV (by rfl) (some 84) rfl 21 #[.tmp 78,.tmp 82,.tmp 83] _ rfl #[.agg #[.slice a mm.length c],.agg #[.slice s.a1 s.l1.length s.c1,.slice s.a2 s.l2.length s.c2],.slice ga gs.length gc] (by simp [Act.eval]) (enters_of Tryz.func21 (by kernel_rfl) rfl) (C14 _ hHa) ?_
       rintro e Wc ⟨v1,v2,rfl,hT⟩
       obtain ⟨t,rfl,rfl,ht1,ht2,hta,htg1,htg2⟩:=tsAns_sn hT
       have bT:=hT.bel
       have HT1:Hid (t.l1=tk.1):=ht1
       have HT2:Hid (t.l2=tk.2):=ht2
       clear ht1 ht2
       refine ⟨_,rfl,hK.out _ _ (hHa.trans (bT.mono hHa.size)) (fun hHc=>?_)⟩
       clear hK K' hT
       simp only [Act.put,List.setIfInBounds_toArray,List.set_cons_zero,List.set_cons_succ]
       refine takeD 7 (some 77) (.tuple #[.agg #[.slice t.a1 t.l1.length t.c1,.slice t.a2 t.l2.length t.c2],.bool true]) hHc rfl rfl (by kernel_rfl) (by kernel_rfl) (by kernel_rfl) (fun _ _ _ h=>h) (Or.inl ⟨by rfl,by intro w' hSw;go_simp⟩) ?_
       simp only [Act.put,List.setIfInBounds_toArray,List.set_cons_zero,List.set_cons_succ]
       refine takeD 8 (some 85) (.agg #[.slice t.a1 t.l1.length t.c1,.slice t.a2 t.l2.length t.c2]) hHc rfl rfl (by kernel_rfl) (by kernel_rfl) (by kernel_rfl) (fun _ _ _ h=>h) (Or.inl ⟨by rfl,by intro w' hSw;go_simp⟩) ?_
       simp only [Act.put,List.setIfInBounds_toArray,List.set_cons_zero,List.set_cons_succ]
       refine takeD 9 (some 86) (.bool true) hHc rfl rfl (by kernel_rfl) (by kernel_rfl) (by kernel_rfl) (fun _ _ _ h=>h) (Or.inl ⟨by rfl,by intro w' hSw;go_simp⟩) ?_
       simp only [Act.put,List.setIfInBounds_toArray,List.set_cons_zero,List.set_cons_succ]
       have hN0:(wo.alloc (.cells #[.slice none 0 0,.slice none 0 0] 35)).heap[wo.heap.size]?=some (.cells #[.slice none 0 0,.slice none 0 0] 35 (0,0)):=heap_alloc_new wo _
       have hS:Wc.heap[wo.heap.size]?=some (.cells #[.slice none 0 0,.slice none 0 0] 35 (0,0)):=(bT.block _ (by simp)).trans hN0
       have k0:Wc.cell? ⟨wo.heap.size,0,none⟩=some (.slice none 0 0):=by unfold World.cell?;simp only;rw [hS];rfl
       have k1:Wc.cell? ⟨wo.heap.size,1,none⟩=some (.slice none 0 0):=by unfold World.cell?;simp only;rw [hS];rfl
       have kz:∀ j,Wc.frozen? ⟨wo.heap.size,j,none⟩=false:=fun j=>by unfold World.frozen?;simp only;rw [hS];simp
       refine wpAnyH_ready (rs:=[11]) (by kernel_rfl) (by simp) ?_
       refine AllReadyH.cons rfl (fun K' hK=>?_) AllReadyH.nil
       rw [if_pos (by rfl)]
       go_simp
       have hF:=tcb_stored wo Wc t (.cells #[.slice none 0 0,.slice none 0 0] 35) ((Below.refl _ _).drew.trans bT) k0 k1 hta htg1 htg2
       refine hK.out _ _ (hb.trans (hF.bel.mono hwo)) (fun hHe=>?_)
       clear hK K' k0 k1 kz hS hN0
       refine takeD 12 (some 16) (.bool true) hHe rfl rfl (by kernel_rfl) (by kernel_rfl) (by kernel_rfl) (fun _ _ _ h=>h) (Or.inl ⟨by rfl,by intro w' hSw;go_simp⟩) ?_
       simp only [Act.put,List.setIfInBounds_toArray,List.set_cons_zero,List.set_cons_succ]
       refine wpAnyH_done (by kernel_rfl) ?_ _
       go_wp2_with fail
       go_meet
       case rel=>exact ⟨_,t,rfl,rfl,HT1.out,HT2.out,hF⟩
     case rest =>
      obtain ⟨S,t,rfl,rfl,ht1,ht2,hQ⟩:=hcut
      obtain ⟨wr,rfl⟩:∃ wr:World,wr=wc:=⟨_,rfl⟩
      have hbq:Below WE.heap.size WE wr:=hb.trans (hQ.bel.mono hwo)
      have y0:=hQ.s0
      have y1:=hQ.s1
      have hLI:=hL.below hQ.bel
      have hws:=hQ.bel.size
      have hsn:=hQ.at_
      have hg1:=hQ.ge1
      have hg2:=hQ.ge2
      have HKT:Hid (t.ky=tk):=by show (t.l1,t.l2)=tk;rw [ht1,ht2]
      have hsz:n+1≤1048576:=by omega
      clear hQ C14 ht1 ht2
      go_wp2_with (at_builtin;refine wpList_append_lies _ rfl (.tmp 89) (.tmp 91) 32 rfl WE.heap.size 35 j0 _ 2 48 Tryz.underlying32 hj hy0 hy1 hy2 rfl (by decide) v ss.length (cellsS ss) rfl (hLI.own.alloc _) ⟨wr.heap.size,0,none⟩ 1 1 [.slice t.a1 t.l1.length t.c1,.slice t.a2 t.l2.length t.c2] rfl rfl (World.news_of_block (cs:=#[.slice t.a1 t.l1.length t.c1,.slice t.a2 t.l2.length t.c2]) (t:=35) (fr:=(0,0)) (heap_alloc_new wr _)) (by simp [Value.oneCell']) (by omega) (by have:=HSL.out;unfold maxLen;omega) (by have:=HSL.out;omega) (by simp;omega) (wr.heap.size+1) (by simp) ?_)
      intro g5 cap5 w5 hown5 hg5 hat5 hlt5
      have hL5:=hLI.snoc (s:=t) hsn (fun k hk e=>by
       have hlt2:=hL.own.lt k e
       rcases hk with ⟨h0,h1⟩ | ⟨_,h1⟩<;>omega) hown5 hg5 (by
       rcases hat5 with e | e
       ·left;exact e.symm
       ·right;show some g5=_;rw [e])
      have b5:Below WE.heap.size WE w5:=below_grown (hbq.alloc (by omega) _) hg5 (fun j hj=>(hL.own.lt j hj).1) (by simp;omega)
      clear hown5 hg5 hat5 hLI hL hsn
      go_wp2_with fail
      have hE1:Hid ((ss++[t]).length=n+1):=by show _=_;rw [List.length_append,HSL.out];rfl
      have hE2:Hid (kys (ss++[t])=((kys uu).take (n+1)).map (M.turnK mm gs)):=by show kys _=_;rw [kys,List.map_append,← kys,HKY.out,HKX.out,← HKT.out];rfl
      go_roundw
      case rel =>
       first
       | exact ⟨n+1,_,_,rfl,by go_num,by omega,hE1,hL5,hE2,b5⟩
       | ((repeat apply Exists.intro);exact ⟨⟨n+1,_,_,rfl,by go_num,by omega,hE1,hL5,hE2,b5⟩,rfl⟩)
      case measure=>(simp [intOf];omega)
    ·have i1:¬ (n:Int) < uu.length:=by omega
     obtain ⟨ax,gx,cx,rfl,hKS⟩:=hL.ks
     have htk:(kys uu).take n=kys uu:=List.take_of_length_le (by simp [kys];omega)
     rw [HKY.out,htk] at hKS
     have hsn:ss.length=((kys uu).map (M.turnK mm gs)).length:=by rw [HSL.out,List.length_map];simp [kys];omega
     have hK4:((kys uu).map (M.turnK mm gs)).length≤1048576:=by rw [List.length_map];simp [kys];omega
     have hK3:KLe ((kys uu).map (M.turnK mm gs)) 1048576:=fun z hz=>by
      have hz':=(M.mem_sortK _ z).2 hz
      exact hqk2 z hz'
     have sQr:=sQE.bl' hb
     have x1:=sQr.c
     have ssr:=ssQE.below hb (Nat.le_refl _)
     have bwr:=bwE.trans (hb.mono bwE.size)
     rw [hsn]
     have CSS:=fun (W:World) (h:Below wr.heap.size wr W)=>iseenSortK ax gx 0 cx ((kys uu).map (M.turnK mm gs)) W hK4 hK3 (hKS.below h (Nat.le_refl _))
     have CQ2:=fun (W:World) (h:Below wr.heap.size wr W)=>CQ W (ssr.below h (Nat.le_refl _))
     have hqc:∀ W:World,Below wr.heap.size wr W→W.cell? ⟨PQ,0,none⟩=some (.slice ai qq.length ci):=fun W h=>(h.cell (p:=⟨PQ,0,none⟩) sQr.lt).trans x1
     generalize ((kys uu).map (M.turnK mm gs))=kp at *
     clear CQ HKY HTS hsn
     go_wp2_with fail
     refine wp_region_held_drew (S:=fun w'=>Below wr.heap.size wr w') (by kernel_rfl) (Below.refl _ _).drew (fun hH=>?_)
     refine takeD 0 (some 93) (.slice ax kp.length cx) hH rfl rfl (by kernel_rfl) (by kernel_rfl) (by kernel_rfl) (fun _ _ _ h=>h) (Or.inl ⟨by rfl,by intro w' hSw;go_simp⟩) ?_
     simp only [Act.put,List.setIfInBounds_toArray,List.set_cons_zero,List.set_cons_succ]
     refine takeD 2 (some 95) (.agg #[.slice ai qq.length ci]) hH rfl rfl (by kernel_rfl) (by kernel_rfl) (by kernel_rfl) (fun _ _ _ h=>h) (Or.inl ⟨by rfl,by intro w' hSw;have hc0:=hqc w' hSw;go_simp⟩) ?_
     simp only [Act.put,List.setIfInBounds_toArray,List.set_cons_zero,List.set_cons_succ]
     refine takeD 3 (some 96) (.int .i64 kn) hH rfl rfl (by kernel_rfl) (by kernel_rfl) (by kernel_rfl) (fun _ _ _ h=>h) (Or.inl ⟨by rfl,by intro w' hSw;go_simp⟩) ?_
     simp only [Act.put,List.setIfInBounds_toArray,List.set_cons_zero,List.set_cons_succ]
     refine wpAnyH_ready (rs:=[1]) (by kernel_rfl) (by simp) ?_
     refine AllReadyH.cons rfl (fun K' hK=>?_) AllReadyH.nil
     refine step_goV (by rfl) (some 94) rfl 14 #[.tmp 93] _ rfl #[.slice ax kp.length cx] (by simp [Act.eval]) (enters_of Tryz.func14 (by kernel_rfl) rfl) (CSS _ hH) ?_
     rintro e Va ⟨v1,rfl,hA⟩
     obtain ⟨a1,g1,c1,rfl,hS1⟩:=hA.ex
     refine ⟨_,rfl,hK.out _ _ (hH.trans (hA.bel.mono hH.size)) (fun hH1=>?_)⟩
     clear hK K'
     simp only [Act.put,List.setIfInBounds_toArray,List.set_cons_zero,List.set_cons_succ]
     refine wpAnyH_ready (rs:=[4]) (by kernel_rfl) (by simp) ?_
     refine AllReadyH.cons rfl (fun K' hK=>?_) AllReadyH.nil
     refine step_goV (by rfl) (some 97) rfl 12 #[.tmp 95,.tmp 96] _ rfl #[.agg #[.slice ai qq.length ci],.int .i64 kn] (by simp [Act.eval]) (enters_of Tryz.func12 (by kernel_rfl) rfl) (CQ2 _ hH1) ?_
     rintro e Vb ⟨v2,rfl,hB⟩
     obtain ⟨a2,g2,c2,rfl,hS2⟩:=hB.ex
     have hS12:=hS1.below hB.bel (Nat.le_refl _)
     refine ⟨_,rfl,hK.out _ _ (hH1.trans (hB.bel.mono hH1.size)) (fun hH2=>?_)⟩
     clear hK K'
     simp only [Act.put,List.setIfInBounds_toArray,List.set_cons_zero,List.set_cons_succ]
     refine wpAnyH_ready (rs:=[5]) (by kernel_rfl) (by simp) ?_
     refine AllReadyH.cons rfl (fun K' hK=>?_) AllReadyH.nil
     refine step_goV (by rfl) (some 98) rfl 13 #[.tmp 94,.tmp 97] _ rfl #[.slice a1 (M.sortK kp).length c1,.slice a2 (M.sortK kp).length c2] (by simp [Act.eval]) (enters_of Tryz.func13 (by kernel_rfl) rfl) (lpList_same a1 g1 0 c1 a2 g2 0 c2 (M.sortK kp) Vb (by omega) hqk2 hS12 hS2) ?_
     rintro e Vc ⟨rfl,b3⟩
     refine ⟨_,rfl,hK.out _ _ (hH2.trans (b3.mono hH2.size)) (fun hH3=>?_)⟩
     clear hK K'
     simp only [Act.put,List.setIfInBounds_toArray,List.set_cons_zero,List.set_cons_succ]
     refine takeD 6 (some 4) (.bool true) hH3 rfl rfl (by kernel_rfl) (by kernel_rfl) (by kernel_rfl) (fun _ _ _ h=>h) (Or.inl ⟨by rfl,by intro w' hSw;go_simp⟩) ?_
     simp only [Act.put,List.setIfInBounds_toArray,List.set_cons_zero,List.set_cons_succ]
     refine wpAnyH_done (by kernel_rfl) ?_ _
     go_wp2_with fail
     go_ret
     exact ⟨rfl,bwr.trans (hH3.mono bwr.size)⟩
 ·go_enter Tryz.func5,Tryz.ntmps5
  rcases (show 1048576 < L∨(L≤1048576∧1048576 < ml) by omega) with h1 | ⟨h1,h2⟩
  ·go_wp2_with fail
   go_ret
   exact ⟨rfl,Below.refl _ _⟩
  ·go_wp2_with fail
   go_ret
   exact ⟨rfl,Below.refl _ _⟩
end Go.Proofs.YtihfibjckkmmbaaGreat
