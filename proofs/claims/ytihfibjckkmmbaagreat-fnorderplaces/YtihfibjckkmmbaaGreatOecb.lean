/- The law FnOrderPlaces, walked: it answers true, and leaves all as it was. Of whatever code. -/
import Derived.Below
import Derived.BigQuiet
import Derived.Deep.AppendLies
import Derived.Deep.CutRange
import Derived.Deep.MidRow
import Derived.Deep.Quiet
import Derived.Deep.QuietTactic
import Derived.Deep.RegionHeld3
import Derived.Deep.RegionLaw
import Derived.Deep.RegionWith
import Derived.Deep.Slices
import Derived.Deep.WholeRow
import Derived.Handy
import Derived.Laws.AppendOwn
import Derived.Laws.AppendOwnNone
import Derived.Laws.EntriesVeiled
import Derived.Laws.IdiomCopy
import Derived.Laws.OwnMore
import Derived.LoopIn
import Derived.LoopN
import Derived.LoopNIn
import Derived.Maps.AppendAt
import Derived.OwnWalkIn
import Derived.RangeFuncBound
import Derived.RangeFuncLeaves
import Derived.RangeFuncNested
import Derived.Shelf.Abstract
import Derived.Shelf.SlSortCmp.NoneTotal
import Derived.Sort.Grow
import Derived.TacticsInMore
import Derived.WalkKit
import Derived.WalkLawsBesides
import Derived.WalkSpells
import Derived.Deep.OwnRows
import Derived.Test.YtihfibjckkmmbaaGreatRows
import Derived.Test.YtihfibjckkmmbaaGreatOebp
import Derived.Test.YtihfibjckkmmbaaGreatOebr
import Derived.Test.YtihfibjckkmmbaaGreatOebz
namespace Go.Proofs.YtihfibjckkmmbaaGreat
open Go.RowKit
def M.lastN (row l:List Int):Nat→List Int
 | 0=>List.replicate 3 0
 | n+1=>(M.lastN row l n).set (row.getD n 0).toNat (l.getD n 0)
theorem M.lastN_three (row l:List Int):M.lastN row l 3=M.lastP row l:=rfl
theorem M.lastN_len (row l:List Int) (n:Nat):(M.lastN row l n).length=3:=by
 induction n with
 | zero=>rfl
 | succ n ih=>rw [M.lastN,List.length_set];exact ih
theorem M.places_law {mm qq:List (List M.D)} {gs:List Int} (e:(M.turnPlaces mm gs).getD []=qq) (h:(M.turnPlaces mm gs).isSome=true) (kind:Int):gs.length=3∧(∀ x∈gs,0≤x∧x < 3)∧M.sortK ((M.orderAll mm kind).map fun z=>(z.1,M.lastP gs z.2))=M.orderAll qq kind∧∀ z∈M.orderAll mm kind,z.2.length=3:=by
 obtain ⟨y,hy⟩:=Option.isSome_iff_exists.1 h
 obtain ⟨h1,h2,h3⟩:=M.turnPlaces_some hy
 rw [hy] at e
 obtain rfl:y=qq:=e
 subst h3
 refine ⟨M.rowN_len h2,M.rowN_mem h2,M.all_places h1 h2 kind,fun z hz=>?_⟩
 obtain ⟨z',_,hk⟩:=((M.tg_places h2).all h1 (M.places_back h1 h2).1 kind).1 z hz
 exact hk.l
structure PcB (B:Nat) (W:World) (S R:Nat) (a1:Option Addr) (n c:Nat) (l:List Int) (w':World):Prop where
 bel:Below W.heap.size W w'
 ne:S≠R
 ge:W.heap.size≤S∧W.heap.size≤R
 s0:w'.cell? ⟨S,0,none⟩=some (.slice a1 n c)
 s1:w'.cell? ⟨S,1,none⟩=some (.slice (some ⟨R,0,none⟩) 3 3)
 row:w'.ownsRow B 3 1 (.slice (some ⟨R,0,none⟩) 3 3) 3 (nums l)
theorem PcB.store {B:Nat} {W w':World} {S R:Nat} {a1:Option Addr} {n c:Nat} {l:List Int} (h:PcB B W S R a1 n c l w') (j:Nat) (x:Int):PcB B W S R a1 n c (l.set j x) (w'.setCell ⟨R,j,none⟩ (.int .i64 x)):=by
 refine ⟨h.bel.setCell h.ge.2 _,h.ne,h.ge,?_,?_,?_⟩
 ·rw [World.cell?_setCell_other _ _ _ _ (fun e=>h.ne (congrArg Addr.block e).symm)];exact h.s0
 ·rw [World.cell?_setCell_other _ _ _ _ (fun e=>h.ne (congrArg Addr.block e).symm)];exact h.s1
 ·have:=(h.row.stored j (.int .i64 x)).1
  rw [show (nums l).set j (.int .i64 x)=nums (l.set j x) by unfold nums;rw [List.map_set]] at this
  exact this
theorem pcb_a {B:Nat} (w:World) (hB:B≤w.heap.size) (a1:Option Addr) (n c:Nat):PcB B w (w.heap.size+1) w.heap.size a1 n c (List.replicate 3 0) ((w.alloc (.cells #[.int .i64 0,.int .i64 0,.int .i64 0] 3)).alloc (.cells #[.slice a1 n c,.slice (some ⟨w.heap.size,0,none⟩) 3 3] 35)).drew:=by
 refine ⟨(below2 w _ _).drew,by omega,by omega,by simp,by simp,?_⟩
 have h:(w.alloc (.cells #[.int .i64 0,.int .i64 0,.int .i64 0] 3)).ownsRow B 3 1 (.slice (some ⟨w.heap.size,0,none⟩) 3 3) 3 (nums (List.replicate 3 0)):=World.ownsRow_lit w _ 3 hB (by decide) rfl
 exact h.alloc _
theorem pcb_b {B:Nat} (w:World) (hB:B≤w.heap.size) (a1:Option Addr) (n c:Nat):PcB B w w.heap.size (w.heap.size+1) a1 n c (List.replicate 3 0) ((w.alloc (.cells #[.slice a1 n c,.slice (some ⟨w.heap.size+1,0,none⟩) 3 3] 35)).alloc (.cells #[.int .i64 0,.int .i64 0,.int .i64 0] 3)).drew:=by
 refine ⟨(below2 w _ _).drew,by omega,by omega,by simp,by simp,?_⟩
 have h:((w.alloc (.cells #[.slice a1 n c,.slice (some ⟨w.heap.size+1,0,none⟩) 3 3] 35)).alloc (.cells #[.int .i64 0,.int .i64 0,.int .i64 0] 3)).ownsRow B 3 1 (.slice (some ⟨(w.alloc (.cells #[.slice a1 n c,.slice (some ⟨w.heap.size+1,0,none⟩) 3 3] 35)).heap.size,0,none⟩) 3 3) 3 (nums (List.replicate 3 0)):=World.ownsRow_lit _ _ 3 (by simp;omega) (by decide) rfl
 rw [World.size_alloc] at h
 exact h
theorem PcB.ints {B:Nat} {W w':World} {S R:Nat} {a1:Option Addr} {n c:Nat} {l:List Int} (h:PcB B W S R a1 n c l w') (hl:l.length=3):IntS w' (some ⟨R,0,none⟩) R 0 l:=⟨fun _=>rfl,fun i hi=>by
 rw [Nat.zero_add,h.row.cellAt i (by omega)]
 simp [nums,List.getElem?_eq_getElem hi]⟩
theorem M.pcThree {l:List Int} (h:l.length=3):∃ x y z,l=[x,y,z]:=by
 match l,h with
 | [x,y,z],_=>exact ⟨x,y,z,rfl⟩
theorem PcB.drew {B:Nat} {W w':World} {S R:Nat} {a1:Option Addr} {n c:Nat} {l:List Int} (h:PcB B W S R a1 n c l w'):PcB B W S R a1 n c l w'.drew:=⟨h.bel.drew,h.ne,h.ge,h.s0,h.s1,h.row⟩
set_option maxHeartbeats 2000000 in
set_option maxRecDepth 100000 in
set_option linter.unusedSimpArgs false in
theorem lawPc_any (ca:Option Addr) (cb co L C:Nat) (x:Nat→Int) (ma:Option Addr) (ml C2:Nat) (w:World) (hL:L≤C) (had:0 < L→ca=some ⟨cb,co,none⟩) (hc:∀ i,i < L→w.cell? ⟨cb,co+i,none⟩=some (.int .u8 (x i))∧0≤x i∧x i≤255) :
  Calls Tryz.prog 3 #[.slice ca L C,.slice ma ml C2] w fun e w'=>e=.returned (.bool true)∧Below w.heap.size w w':=by
 by_cases hLb:L≤1048576∧ml≤1048576
 ·obtain ⟨hLa,hLm⟩:=hLb
  go_enter Tryz.func3,Tryz.ntmps3
  go_wp2_with fail
  refine (DrawTurnPlaces_any ca cb co L C x _ hL had hc hLa).mono ?_
  rintro e w1 ⟨a,g,c,mm,ga,gg,gc,gs,rfl,hD⟩
  have hle:∀ t∈mm,t.length≤1048576:=fun t ht=>by have:=hD.sm.steps t ht;omega
  have hml:mm.length≤1048576:=by have:=hD.sm.three;omega
  have hgl:gs.length≤1048576:=by have:=hD.gl;omega
  have hgl20:gs.length≤1000:=by have:=hD.gl;omega
  have bA:=below1 w1 (.cells #[.slice a mm.length c] 25)
  have bwA:=hD.bel.trans (bA.mono hD.bel.size)
  have sP:=Slot1.new w1 (.slice a mm.length c) 25
  have ssP:=hD.sn.ss.below bA (Nat.le_refl _)
  have giP:=hD.gi.below bA (Nat.le_refl _)
  clear had hc hD bA
  have x0:=sP.c
  go_wp2_with fail
  generalize w1.alloc (.cells #[.slice a mm.length c] 25)=WA at *
  generalize w1.heap.size=P at *
  have CS:=sturnPlaces_any a g 0 c mm hml hle ga gg 0 gc gs hgl
  have CI:=iturnPlaces_any a g 0 c mm hml hle ga gg 0 gc gs hgl
  obtain ⟨k,hk,hk3⟩:∃ k,ml % 3=k∧k < 3:=⟨_,rfl,Nat.mod_lt _ (by omega)⟩
  have hmd:Int.tmod (ml:Int) 3=(k:Int):=by rw [Int.tmod_eq_emod_of_nonneg (by omega),← hk];exact (Int.natCast_emod _ _).symm
  obtain ⟨kn,hkn⟩:∃ kn:Int,IntKind.i64.wrap (1+(k:Int))=kn:=⟨_,rfl⟩
  have HS:Hid (∀ qq,(M.turnPlaces mm gs).getD []=qq→(M.turnPlaces mm gs).isSome=true→gs.length=3∧(∀ x∈gs,0≤x∧x < 3)∧M.sortK ((M.orderAll mm kn).map fun z=>(z.1,M.lastP gs z.2))=M.orderAll qq kn∧∀ z∈M.orderAll mm kn,z.2.length=3):=fun qq e h=>M.places_law e h kn
  clear hk
  obtain ⟨qq,hq⟩:∃ qq,(M.turnPlaces mm gs).getD []=qq:=⟨_,rfl⟩
  rw [hq] at CS CI
  obtain ⟨hq3,hq7⟩:=M.turnPlaces_small hq
  have hql:qq.length≤1048576:=by omega
  have hqls:∀ t∈qq,t.length≤1048576:=fun t ht=>by have:=hq7 t ht;omega
  have HS1:Hid ((M.turnPlaces mm gs).isSome=true→gs.length=3∧(∀ x∈gs,0≤x∧x < 3)∧M.sortK ((M.orderAll mm kn).map fun z=>(z.1,M.lastP gs z.2))=M.orderAll qq kn∧∀ z∈M.orderAll mm kn,z.2.length=3):=HS.out qq hq
  clear hq HS
  obtain ⟨ok,hok⟩:∃ ok,(M.turnPlaces mm gs).isSome=ok:=⟨_,rfl⟩
  rw [hok] at CS CI HS1
  clear hok
  have LQ:=fun A B C D E F W h1 h2=>lpProg_any A B 0 C D E 0 F qq qq W hql hql hqls h1 h2
  rw [M.eqLL_yes rfl] at LQ
  refine (CS WA ssP giP).mono ?_
  rintro e w2 ⟨v2,rfl,⟨vs2,hR2⟩,b2⟩
  obtain ⟨av,gv,cv,rfl,hss2⟩:=hR2.b.ss
  have bW:=below1 w2 (.cells #[.slice av qq.length cv] 25)
  have bAW:=b2.trans (bW.mono b2.size)
  have sPW:=sP.bl' bAW
  have sW:=Slot1.new w2 (.slice av qq.length cv) 25
  have ssW:=hss2.below bW (Nat.le_refl _)
  clear hR2 hss2 b2 bW x0
  have x0:=sPW.c
  go_wp2_with fail
  generalize w2.alloc (.cells #[.slice av qq.length cv] 25)=WB at *
  generalize w2.heap.size=PW at *
  refine (CI WB (ssP.below bAW (Nat.le_refl _)) (giP.below bAW (Nat.le_refl _))).mono ?_
  rintro e w3 ⟨v3,rfl,⟨vs3,hR3⟩,b3⟩
  obtain ⟨ai,gi,ci,rfl,hss3⟩:=hR3.b.ss
  have bQ:=below1 w3 (.cells #[.slice ai qq.length ci] 25)
  have bBQ:=b3.trans (bQ.mono b3.size)
  have bAQ:=bAW.trans (bBQ.mono bAW.size)
  have sPQ:=sP.bl' bAQ
  have sQ:=Slot1.new w3 (.slice ai qq.length ci) 25
  have ssQ:=hss3.below bQ (Nat.le_refl _)
  have sWQ:=sW.bl' bBQ
  have ssWQ:=ssW.below bBQ (Nat.le_refl _)
  clear hR3 hss3 b3 bQ x0 sPW sW ssW
  have x1:=sQ.c
  have x2:=sWQ.c
  cases ok
  ·go_wp2_with fail
   generalize w3.alloc (.cells #[.slice ai qq.length ci] 25)=WC at *
   generalize w3.heap.size=PQ at *
   refine (LQ ai gi ci av gv cv _ ssQ ssWQ).mono ?_
   rintro e w4 ⟨rfl,b4⟩
   have sQ4:=sQ.bl' b4
   have sW4:=sWQ.bl' b4
   have bA4:=bAQ.trans (b4.mono bAQ.size)
   clear x1 x2
   have x1:=sQ4.c
   have x2:=sW4.c
   go_wp2_with fail
   refine (LQ ai gi ci av gv cv _ (ssQ.below b4 (Nat.le_refl _)) (ssWQ.below b4 (Nat.le_refl _))).mono ?_
   rintro e w5 ⟨rfl,b5⟩
   go_wp2_with fail
   go_ret
   exact ⟨rfl,bwA.trans ((bA4.trans (b5.mono bA4.size)).mono bwA.size)⟩
  ·obtain ⟨hg3,hgx,hsort,hz3⟩:=HS1.out rfl
   have HSO:Hid (M.sortK ((M.orderAll mm kn).map fun z=>(z.1,M.lastP gs z.2))=M.orderAll qq kn):=hsort
   have HZ3:Hid (∀ z∈M.orderAll mm kn,z.2.length=3):=hz3
   have HGX:Hid (∀ x∈gs,0≤x∧x < 3):=hgx
   have HG3:Hid (gs.length=3):=hg3
   clear HS1 hsort hz3 hgx hg3
   go_wp2_with fail
   generalize w3.alloc (.cells #[.slice ai qq.length ci] 25)=WC at *
   generalize w3.heap.size=PQ at *
   refine (LQ ai gi ci av gv cv _ ssQ ssWQ).mono ?_
   rintro e WD ⟨rfl,b4⟩
   have sQD:=sQ.bl' b4
   have sPD:=sPQ.bl' b4
   have bAD:=bAQ.trans (b4.mono bAQ.size)
   have ssQD:=ssQ.below b4 (Nat.le_refl _)
   have ssPD:=ssP.below bAD (Nat.le_refl _)
   have giD:=giP.below bAD (Nat.le_refl _)
   have bwD:=bwA.trans (bAD.mono bwA.size)
   clear x1 x2 sQ sPQ bAQ ssQ ssP b4 bAD sWQ ssWQ bBQ bAW sP giP bwA CS CI LQ
   have x0:=sPD.c
   have x1:=sQD.c
   have hkl:=M.orderAll_len mm kn
   have hkk:=M.orderAll_le mm kn
   have CP:=fun (W:World) (h:DoSS W a g 0 mm)=>iorderAllK a g 0 c mm kn W hml hle h
   have CQ:=fun (W:World) (h:DoSS W ai gi 0 qq)=>iorderAllK ai gi 0 ci qq kn W hql hqls h
   obtain ⟨ks,hks⟩:∃ ks,M.orderAll mm kn=ks:=⟨_,rfl⟩
   rw [hks] at hkl hkk CP HSO HZ3
   have hql2:=M.orderAll_len qq kn
   have hqk2:=M.orderAll_le qq kn
   rw [← HSO.out] at CQ hql2 hqk2
   clear hks HSO
   obtain ⟨j0,hj,hy0,hy1,hy2⟩:=info_parts Tryz.infoSn2
   have hmk:∀ w:World,(Instr.makeSlice 26 (.int .i64 3) (.int .i64 3)).run Tryz.prog w=.ok (.slice (some ⟨w.heap.size,0,none⟩) 3 3) (w.alloc (.cells #[.int .i64 0,.int .i64 0,.int .i64 0] 3)):=fun w=>by
    have:=run_make_row' (P:=Tryz.prog) 26 3 (.int .i64 0) 8 Tryz.underlying26 Tryz.infoIntR rfl .i64 .i64 3 (by omega) (by omega) w
    rw [show madeCells #[Value.int .i64 0] 3=#[.int .i64 0,.int .i64 0,.int .i64 0] from by kernel_rfl] at this
    exact this
   go_wp2_with fail
   refine (CP WD ssPD).mono ?_
   rintro e WE ⟨v1,rfl,hA⟩
   obtain ⟨av1,gv,cv,rfl,hSE⟩:=hA.ex
   have bDE:=hA.bel
   have bwE:=bwD.trans (bDE.mono bwD.size)
   have sQE:=sQD.bl' bDE
   have ssQE:=ssQD.below bDE (Nat.le_refl _)
   have giE:=giD.below bDE (Nat.le_refl _)
   have hgr:∀ (W:World),Below WE.heap.size WE W→∀ i (h:i < gs.length),ga=some ⟨gg,0,none⟩∧W.cell? ⟨gg,i,none⟩=some (.int .i64 gs[i])∧0≤gs[i]∧gs[i] < 3:=fun W hb i h=>by
    have hg:=giE.below hb (Nat.le_refl _)
    refine ⟨hg.addr (by omega),?_,HGX.out _ (List.getElem_mem h)⟩
    have:=hg.row i h
    rwa [Nat.zero_add] at this
   have hemp:(WE.alloc (.cells #[] 35)).ownsRow WE.heap.size 35 2 (.slice (some ⟨WE.heap.size,0,none⟩) 0 0) 0 []:=own_emp (heap_alloc_new WE _) (Nat.le_refl _)
   have bE:=below1 WE (.cells #[] 35)
   clear hA CP bDE sPD sQD ssQD ssPD giD bwD x0 x1
   go_wp2_with fail
   go_loopw [13,14] (fun s13 s14 wr=>∃ (n:Nat) (v:Value) (ss:List Sn),v=s13∧s14=.int .i64 n∧n≤ks.length∧Hid (ss.length=n)∧SnL wr WE.heap.size v ss∧Hid (kys ss=(ks.take n).map fun z=>(z.1,M.lastP gs z.2))∧Below WE.heap.size WE wr) (fun _ s14 _=>ks.length - (intOf s14).toNat)
   case atStart=>exact ⟨0,_,[],rfl,rfl,Nat.zero_le _,rfl,⟨hemp,fun s hs=>(by cases hs),fun s hs=>(by cases hs)⟩,by show _=_;simp [kys],bE⟩
   case round =>
    obtain ⟨n,v,ss,hv13,rfl,hn,HSL,hL,HKY,hb⟩:=hrel
    subst hv13
    clear hemp bE
    by_cases hlt:n < ks.length
    ·have i1:(n:Int) < ks.length:=by omega
     obtain ⟨rfl⟩:=hSE.addr (by omega)
     obtain ⟨s,h1,h2',c1,c2',hsa⟩:=hSE.row n hlt
     have hs3:s.l2.length=3:=by rw [h2'];exact HZ3.out _ (List.getElem_mem hlt)
     have hadr:=hsa.last.addr (by omega)
     rw [Nat.zero_add] at c1 c2'
     have HKX:Hid ((ks.take (n+1)).map (fun z=>(z.1,M.lastP gs z.2))=(ks.take n).map (fun z=>(z.1,M.lastP gs z.2))++[(s.l1,M.lastP gs s.l2)]):=by show _=_;rw [List.take_succ_eq_append_getElem hlt,List.map_append,h1,h2'];rfl
     have hSW:∀ w',Below WE.heap.size WE w'→w'.cell? ⟨gv,n * 2,none⟩=some (.slice s.a1 s.l1.length s.c1)∧w'.cell? ⟨gv,n * 2+1,none⟩=some (.slice (some ⟨s.b2,s.o2,none⟩) 3 s.c2)∧∀ i (h:i < s.l2.length),w'.cell? ⟨s.b2,s.o2+i,none⟩=some (.int .i64 s.l2[i]):=fun w' hb'=>by
      refine ⟨(hb'.cell (p:=⟨gv,n * 2,none⟩) (World.block_lt_of_cell? _ _ c1)).trans c1,?_,fun i h=>(hsa.last.below hb' (Nat.le_refl _)).row i h⟩
      rw [(hb'.cell (p:=⟨gv,n * 2+1,none⟩) (World.block_lt_of_cell? _ _ c2')).trans c2',hadr,hs3]
     have HS3:Hid (s.l2.length=3):=hs3
     clear h1 h2' hs3 hadr c1 c2'
     obtain ⟨wo,rfl⟩:∃ wo:World,wo=wr:=⟨_,rfl⟩
     have hwo:=hb.size
     go_wp2_with fail
     go_cut [15] from 77 to 106 (fun s15 wc=>∃ S R,s15=.pointer (some ⟨S,0,none⟩)∧PcB WE.heap.size wo S R s.a1 s.l1.length s.c1 (List.replicate 3 0) wc)
     case first =>
      refine wp_region_held_drew (S:=fun w'=>Below WE.heap.size WE w') (by kernel_rfl) hb.drew (fun hH=>?_)
      refine takeD 0 (some 77) (.slice (some ⟨gv,0,none⟩) ks.length cv) hH rfl rfl (by kernel_rfl) (by kernel_rfl) (by kernel_rfl) (fun _ _ _ h=>h) (Or.inl ⟨by rfl,by intro w' hSw;go_simp⟩) ?_
      simp only [Act.put,List.setIfInBounds_toArray,List.set_cons_zero,List.set_cons_succ]
      refine takeD 1 (some 78) (.int .i64 n) hH rfl rfl (by kernel_rfl) (by kernel_rfl) (by kernel_rfl) (fun _ _ _ h=>h) (Or.inl ⟨by rfl,by intro w' hSw;go_simp⟩) ?_
      simp only [Act.put,List.setIfInBounds_toArray,List.set_cons_zero,List.set_cons_succ]
      refine takeD 2 (some 79) (.pointer (some ⟨gv,n * 2,none⟩)) hH rfl rfl (by kernel_rfl) (by kernel_rfl) (by kernel_rfl) (fun _ _ _ h=>h) (Or.inl ⟨by rfl,by intro w' hSw;go_simp⟩) ?_
      simp only [Act.put,List.setIfInBounds_toArray,List.set_cons_zero,List.set_cons_succ]
      refine takeD 3 (some 80) (.pointer (some ⟨gv,n * 2,none⟩)) hH rfl rfl (by kernel_rfl) (by kernel_rfl) (by kernel_rfl) (fun _ _ _ h=>h) (Or.inl ⟨by rfl,by intro w' hSw;go_simp⟩) ?_
      simp only [Act.put,List.setIfInBounds_toArray,List.set_cons_zero,List.set_cons_succ]
      refine takeD 4 (some 81) (.slice s.a1 s.l1.length s.c1) hH rfl rfl (by kernel_rfl) (by kernel_rfl) (by kernel_rfl) (fun _ _ _ h=>h) (Or.inl ⟨by rfl,by intro w' hSw;have hc:=(hSW w' hSw).1;go_simp⟩) ?_
      simp only [Act.put,List.setIfInBounds_toArray,List.set_cons_zero,List.set_cons_succ]
      refine wpAnyH_ready (rs:=[5,7]) (by kernel_rfl) (by simp) ?_
      refine AllReadyH.cons rfl (fun K' hK=>?_) (AllReadyH.cons rfl (fun K' hK=>?_) AllReadyH.nil)
      ·rw [if_pos (by rfl)]
       go_simp
       refine hK.out _ _ (hb.drew.alloc hwo (.cells #[.int .i64 0,.int .i64 0,.int .i64 0] 3)) (fun hHa=>?_)
       clear hK K'
       refine takeD 6 (some 83) (.agg #[.slice s.a1 s.l1.length s.c1,.slice (some ⟨wo.heap.size,0,none⟩) 3 3]) hHa rfl rfl (by kernel_rfl) (by kernel_rfl) (by kernel_rfl) (fun _ _ _ h=>h) (Or.inl ⟨by rfl,by intro w' hSw;go_simp⟩) ?_
       simp only [Act.put,List.setIfInBounds_toArray,List.set_cons_zero,List.set_cons_succ]
       refine wpAnyH_ready (rs:=[7]) (by kernel_rfl) (by simp) ?_
       refine AllReadyH.cons rfl (fun K' hK=>?_) AllReadyH.nil
       rw [if_pos (by rfl)]
       go_simp
       refine hK.out _ _ ((hb.drew.alloc hwo (.cells #[.int .i64 0,.int .i64 0,.int .i64 0] 3)).alloc (by simp;omega) (.cells #[.slice none 0 0,.slice none 0 0] 35)) (fun hHb=>?_)
       clear hK K'
       refine wpAnyH_ready (rs:=[8]) (by kernel_rfl) (by simp) ?_
       refine AllReadyH.cons rfl (fun K' hK=>?_) AllReadyH.nil
       rw [if_pos (by rfl)]
       go_simp
       refine hK.out _ _ (hb.trans ((pcb_a wo hwo s.a1 s.l1.length s.c1).bel.mono hwo)) (fun hHc=>?_)
       clear hK K'
       refine wpAnyH_done (by kernel_rfl) ?_ _
       go_wp2_with fail
       go_meet
       case rel=>exact ⟨_,_,rfl,(pcb_a wo hwo s.a1 s.l1.length s.c1)⟩
      ·rw [if_pos (by rfl)]
       go_simp
       refine hK.out _ _ (hb.drew.alloc hwo (.cells #[.slice none 0 0,.slice none 0 0] 35)) (fun hHa=>?_)
       clear hK K'
       refine wpAnyH_ready (rs:=[5]) (by kernel_rfl) (by simp) ?_
       refine AllReadyH.cons rfl (fun K' hK=>?_) AllReadyH.nil
       rw [if_pos (by rfl)]
       go_simp
       refine hK.out _ _ ((hb.drew.alloc hwo (.cells #[.slice none 0 0,.slice none 0 0] 35)).alloc (by simp;omega) (.cells #[.int .i64 0,.int .i64 0,.int .i64 0] 3)) (fun hHb=>?_)
       clear hK K'
       refine takeD 6 (some 83) (.agg #[.slice s.a1 s.l1.length s.c1,.slice (some ⟨(wo.heap.size+1),0,none⟩) 3 3]) hHb rfl rfl (by kernel_rfl) (by kernel_rfl) (by kernel_rfl) (fun _ _ _ h=>h) (Or.inl ⟨by rfl,by intro w' hSw;go_simp⟩) ?_
       simp only [Act.put,List.setIfInBounds_toArray,List.set_cons_zero,List.set_cons_succ]
       refine wpAnyH_ready (rs:=[8]) (by kernel_rfl) (by simp) ?_
       refine AllReadyH.cons rfl (fun K' hK=>?_) AllReadyH.nil
       rw [if_pos (by rfl)]
       go_simp
       refine hK.out _ _ (hb.trans ((pcb_b wo hwo s.a1 s.l1.length s.c1).bel.mono hwo)) (fun hHc=>?_)
       clear hK K'
       refine wpAnyH_done (by kernel_rfl) ?_ _
       go_wp2_with fail
       go_meet
       case rel=>exact ⟨_,_,rfl,(pcb_b wo hwo s.a1 s.l1.length s.c1)⟩
     case rest =>
      obtain ⟨S,R,rfl,hP⟩:=hcut
      go_wp2_with fail
      go_loopw [16] (fun s16 wr=>∃ pl:Nat,s16=.int .i64 pl∧pl≤3∧PcB WE.heap.size wo S R s.a1 s.l1.length s.c1 (M.lastN gs s.l2 pl) wr) (fun s16 _=>3 - (intOf s16).toNat)
      case atStart=>exact ⟨0,rfl,by omega,hP⟩
      case round =>
       obtain ⟨pl,rfl,hpl,hQ⟩:=hrel
       clear hP
       by_cases hp3:pl < 3
       ·have i3:(pl:Int) < 3:=by omega
        have hbq:Below WE.heap.size WE wr:=hb.trans (hQ.bel.mono hwo)
        obtain ⟨hga,hgc,hg0,hgx⟩:=hgr wr hbq pl (by have:=HG3.out;omega)
        subst hga
        have HGC:∀ w',Below WE.heap.size WE w'→w'.cell? ⟨gg,pl,none⟩=some (.int .i64 (gs[pl]'(by have:=HG3.out;omega))):=fun w' hb'=>(hgr w' hb' pl (by have:=HG3.out;omega)).2.1
        have HRC:∀ w',Below WE.heap.size WE w'→w'.cell? ⟨s.b2,s.o2+pl,none⟩=some (.int .i64 (s.l2[pl]'(by have:=HS3.out;omega))):=fun w' hb'=>(hSW w' hb').2.2 pl (by have:=HS3.out;omega)
        have HST:Hid (M.lastN gs s.l2 (pl+1)=(M.lastN gs s.l2 pl).set (gs[pl]'(by have:=HG3.out;omega)).toNat (s.l2[pl]'(by have:=HS3.out;omega))):=by
         show _=_
         rw [M.lastN,List.getD_eq_getElem?_getD,List.getElem?_eq_getElem (by have:=HG3.out;omega),List.getD_eq_getElem?_getD,List.getElem?_eq_getElem (by have:=HS3.out;omega)]
         rfl
        generalize gs[pl]'(by have:=HG3.out;omega)=y at *
        generalize s.l2[pl]'(by have:=HS3.out;omega)=xv at *
        obtain ⟨yn,rfl⟩:=Int.eq_ofNat_of_zero_le hg0
        have hy3:yn < 3:=by omega
        have hfz:=hQ.row.frozenAt yn
        obtain ⟨old,hcy⟩:∃ old,wr.cell? ⟨R,yn,none⟩=some old:=⟨_,(hQ.row.cellAt yn (by omega)).trans (List.getElem?_eq_getElem (by simp only [nums,List.length_map,M.lastN_len];omega))⟩
        have iy:(yn:Int) < 3:=by omega
        have igl:(pl:Int) < gs.length:=by have:=HG3.out;omega
        clear hgc hgx HG3 hgr
        go_wp2_with fail
        refine wp_region_held_drew (S:=fun w'=>Below WE.heap.size WE w'∧w'.cell? ⟨S,1,none⟩=some (.slice (some ⟨R,0,none⟩) 3 3)) (by kernel_rfl) ⟨hbq.drew,hQ.s1⟩ (fun hH=>?_)
        refine takeD 0 (some 88) (.pointer (some ⟨S,1,none⟩)) hH rfl rfl (by kernel_rfl) (by kernel_rfl) (by kernel_rfl) (fun _ _ _ h=>h) (Or.inl ⟨by rfl,by intro w' hSw;go_simp⟩) ?_
        simp only [Act.put,List.setIfInBounds_toArray,List.set_cons_zero,List.set_cons_succ]
        refine takeD 1 (some 89) (.slice (some ⟨R,0,none⟩) 3 3) hH rfl rfl (by kernel_rfl) (by kernel_rfl) (by kernel_rfl) (fun _ _ _ h=>h) (Or.inl ⟨by rfl,by intro w' hSw;have hc:=hSw.2;go_simp⟩) ?_
        simp only [Act.put,List.setIfInBounds_toArray,List.set_cons_zero,List.set_cons_succ]
        refine takeD 2 (some 90) (.slice (some ⟨gg,0,none⟩) gs.length gc) hH rfl rfl (by kernel_rfl) (by kernel_rfl) (by kernel_rfl) (fun _ _ _ h=>h) (Or.inl ⟨by rfl,by intro w' hSw;go_simp⟩) ?_
        simp only [Act.put,List.setIfInBounds_toArray,List.set_cons_zero,List.set_cons_succ]
        refine takeD 3 (some 91) (.int .i64 pl) hH rfl rfl (by kernel_rfl) (by kernel_rfl) (by kernel_rfl) (fun _ _ _ h=>h) (Or.inl ⟨by rfl,by intro w' hSw;go_simp⟩) ?_
        simp only [Act.put,List.setIfInBounds_toArray,List.set_cons_zero,List.set_cons_succ]
        refine takeD 4 (some 92) (.pointer (some ⟨gg,pl,none⟩)) hH rfl rfl (by kernel_rfl) (by kernel_rfl) (by kernel_rfl) (fun _ _ _ h=>h) (Or.inl ⟨by rfl,by intro w' hSw;go_simp⟩) ?_
        simp only [Act.put,List.setIfInBounds_toArray,List.set_cons_zero,List.set_cons_succ]
        refine takeD 5 (some 93) (.int .i64 yn) hH rfl rfl (by kernel_rfl) (by kernel_rfl) (by kernel_rfl) (fun _ _ _ h=>h) (Or.inl ⟨by rfl,by intro w' hSw;have hc:=HGC w' hSw.1;go_simp⟩) ?_
        simp only [Act.put,List.setIfInBounds_toArray,List.set_cons_zero,List.set_cons_succ]
        refine takeD 6 (some 94) (.slice (some ⟨gv,0,none⟩) ks.length cv) hH rfl rfl (by kernel_rfl) (by kernel_rfl) (by kernel_rfl) (fun _ _ _ h=>h) (Or.inl ⟨by rfl,by intro w' hSw;go_simp⟩) ?_
        simp only [Act.put,List.setIfInBounds_toArray,List.set_cons_zero,List.set_cons_succ]
        refine takeD 7 (some 95) (.int .i64 n) hH rfl rfl (by kernel_rfl) (by kernel_rfl) (by kernel_rfl) (fun _ _ _ h=>h) (Or.inl ⟨by rfl,by intro w' hSw;go_simp⟩) ?_
        simp only [Act.put,List.setIfInBounds_toArray,List.set_cons_zero,List.set_cons_succ]
        refine takeD 8 (some 96) (.pointer (some ⟨gv,n * 2,none⟩)) hH rfl rfl (by kernel_rfl) (by kernel_rfl) (by kernel_rfl) (fun _ _ _ h=>h) (Or.inl ⟨by rfl,by intro w' hSw;go_simp⟩) ?_
        simp only [Act.put,List.setIfInBounds_toArray,List.set_cons_zero,List.set_cons_succ]
        refine takeD 9 (some 97) (.pointer (some ⟨gv,n * 2+1,none⟩)) hH rfl rfl (by kernel_rfl) (by kernel_rfl) (by kernel_rfl) (fun _ _ _ h=>h) (Or.inl ⟨by rfl,by intro w' hSw;go_simp⟩) ?_
        simp only [Act.put,List.setIfInBounds_toArray,List.set_cons_zero,List.set_cons_succ]
        refine takeD 10 (some 98) (.slice (some ⟨s.b2,s.o2,none⟩) 3 s.c2) hH rfl rfl (by kernel_rfl) (by kernel_rfl) (by kernel_rfl) (fun _ _ _ h=>h) (Or.inl ⟨by rfl,by intro w' hSw;have hc:=(hSW w' hSw.1).2.1;go_simp⟩) ?_
        simp only [Act.put,List.setIfInBounds_toArray,List.set_cons_zero,List.set_cons_succ]
        refine takeD 11 (some 99) (.int .i64 pl) hH rfl rfl (by kernel_rfl) (by kernel_rfl) (by kernel_rfl) (fun _ _ _ h=>h) (Or.inl ⟨by rfl,by intro w' hSw;go_simp⟩) ?_
        simp only [Act.put,List.setIfInBounds_toArray,List.set_cons_zero,List.set_cons_succ]
        refine takeD 12 (some 100) (.pointer (some ⟨s.b2,s.o2+pl,none⟩)) hH rfl rfl (by kernel_rfl) (by kernel_rfl) (by kernel_rfl) (fun _ _ _ h=>h) (Or.inl ⟨by rfl,by intro w' hSw;go_simp⟩) ?_
        simp only [Act.put,List.setIfInBounds_toArray,List.set_cons_zero,List.set_cons_succ]
        refine takeD 13 (some 101) (.int .i64 xv) hH rfl rfl (by kernel_rfl) (by kernel_rfl) (by kernel_rfl) (fun _ _ _ h=>h) (Or.inl ⟨by rfl,by intro w' hSw;have hc:=HRC w' hSw.1;go_simp⟩) ?_
        simp only [Act.put,List.setIfInBounds_toArray,List.set_cons_zero,List.set_cons_succ]
        refine takeD 14 (some 102) (.pointer (some ⟨R,yn,none⟩)) hH rfl rfl (by kernel_rfl) (by kernel_rfl) (by kernel_rfl) (fun _ _ _ h=>h) (Or.inl ⟨by rfl,by intro w' hSw;go_simp⟩) ?_
        simp only [Act.put,List.setIfInBounds_toArray,List.set_cons_zero,List.set_cons_succ]
        refine wpAnyH_ready (rs:=[15]) (by kernel_rfl) (by simp) ?_
        refine AllReadyH.cons rfl (fun K' hK=>?_) AllReadyH.nil
        rw [if_pos (by rfl)]
        go_simp
        have hQ2:=(hQ.store yn xv).drew
        refine hK.out _ _ ⟨hb.trans (hQ2.bel.mono hwo),hQ2.s1⟩ (fun hHa=>?_)
        clear hK K'
        refine wpAnyH_done (by kernel_rfl) ?_ _
        go_wp2_with fail
        have hQ3:PcB WE.heap.size wo S R s.a1 s.l1.length s.c1 (M.lastN gs s.l2 (pl+1)) (wr.setCell ⟨R,yn,none⟩ (.int .i64 xv)).drew:=by rw [HST.out];exact hQ2
        go_roundw
        case rel =>
         first
         | exact ⟨pl+1,by go_num,by omega,hQ3⟩
         | ((repeat apply Exists.intro);exact ⟨⟨pl+1,by go_num,by omega,hQ3⟩,rfl⟩)
        case measure=>(simp [intOf];omega)
       ·have i3:¬ (pl:Int) < 3:=by omega
        obtain rfl:pl=3:=by omega
        obtain ⟨u0,u1,u2,hu⟩:=M.pcThree (M.lastN_len gs s.l2 3)
        rw [hu] at hQ
        rw [M.lastN_three] at hu
        have HU:Hid (M.lastP gs s.l2=[u0,u1,u2]):=hu
        have hbq:Below WE.heap.size WE wr:=hb.trans (hQ.bel.mono hwo)
        have y0:=hQ.s0
        have y1:=hQ.s1
        have hLI:=hL.below hQ.bel
        have hIn:=hQ.ints rfl
        have hRg:=hQ.ge
        have hws:=hQ.bel.size
        have hsn:(⟨s.a1,s.b1,s.o1,s.c1,s.l1,some ⟨R,0,none⟩,R,0,3,[u0,u1,u2]⟩:Sn).At wr:=⟨hsa.reads.below hbq (Nat.le_refl _),hIn⟩
        have hsz:n+1≤1048576:=by omega
        clear hQ hIn hu
        go_wp2_with (at_builtin;refine wpList_append_lies _ rfl (.tmp 103) (.tmp 105) 32 rfl WE.heap.size 35 j0 _ 2 48 Tryz.underlying32 hj hy0 hy1 hy2 rfl (by decide) v ss.length (cellsS ss) rfl (hLI.own.alloc _) ⟨wr.heap.size,0,none⟩ 1 1 [.slice s.a1 s.l1.length s.c1,.slice (some ⟨R,0,none⟩) 3 3] rfl rfl (World.news_of_block (cs:=#[.slice s.a1 s.l1.length s.c1,.slice (some ⟨R,0,none⟩) 3 3]) (t:=35) (fr:=(0,0)) (heap_alloc_new wr _)) (by simp [Value.oneCell']) (by omega) (by have:=HSL.out;unfold maxLen;omega) (by have:=HSL.out;omega) (by simp;omega) (wr.heap.size+1) (by simp) ?_)
        intro g5 cap5 w5 hown5 hg5 hat5 hlt5
        have hL5:=hLI.snoc (s:=⟨s.a1,s.b1,s.o1,s.c1,s.l1,some ⟨R,0,none⟩,R,0,3,[u0,u1,u2]⟩) hsn (fun k hk e=>by
         have hlt2:=hL.own.lt k e
         rcases hk with ⟨h0,h1⟩ | ⟨_,h1⟩
         ·have h5:k < WE.heap.size:=by rw [h1];exact hsa.reads.lt h0
          omega
         ·have h5:k=R:=h1
          omega) hown5 hg5 (by
         rcases hat5 with e | e
         ·left;exact e.symm
         ·right;show some g5=_;rw [e])
        have b5:Below WE.heap.size WE w5:=below_grown (hbq.alloc (by omega) _) hg5 (fun j hj=>(hL.own.lt j hj).1) (by simp;omega)
        clear hown5 hg5 hat5 hLI hL hsn
        go_wp2_with fail
        have hE1:Hid ((ss++[(⟨s.a1,s.b1,s.o1,s.c1,s.l1,some ⟨R,0,none⟩,R,0,3,[u0,u1,u2]⟩:Sn)]).length=n+1):=by show _=_;rw [List.length_append,HSL.out];rfl
        have hE2:Hid (kys (ss++[(⟨s.a1,s.b1,s.o1,s.c1,s.l1,some ⟨R,0,none⟩,R,0,3,[u0,u1,u2]⟩:Sn)])=(ks.take (n+1)).map fun z=>(z.1,M.lastP gs z.2)):=by show kys _=_;rw [kys,List.map_append,← kys,HKY.out,HKX.out,HU.out];rfl
        go_roundw
        case rel =>
         first
         | exact ⟨n+1,_,_,rfl,by go_num,by omega,hE1,hL5,hE2,b5⟩
         | ((repeat apply Exists.intro);exact ⟨⟨n+1,_,_,rfl,by go_num,by omega,hE1,hL5,hE2,b5⟩,rfl⟩)
        case measure=>(simp [intOf];omega)
    ·have i1:¬ (n:Int) < ks.length:=by omega
     obtain ⟨ax,gx,cx,rfl,hKS⟩:=hL.ks
     have htk:ks.take n=ks:=List.take_of_length_le (by omega)
     rw [HKY.out,htk] at hKS
     have hsn:ss.length=(ks.map fun z=>(z.1,M.lastP gs z.2)).length:=by rw [HSL.out,List.length_map];omega
     have hK4:(ks.map fun z=>(z.1,M.lastP gs z.2)).length≤1048576:=by rw [List.length_map];omega
     have hK3:KLe (ks.map fun z=>(z.1,M.lastP gs z.2)) 1048576:=fun z hz=>by
      obtain ⟨y,hy,rfl⟩:=List.mem_map.1 hz
      exact ⟨(hkk y hy).1,by simp only [← M.lastN_three,M.lastN_len];omega⟩
     have sQr:=sQE.bl' hb
     have x1:=sQr.c
     have ssr:=ssQE.below hb (Nat.le_refl _)
     have bwr:=bwE.trans (hb.mono bwE.size)
     rw [hsn]
     have CSS:=fun (W:World) (h:Below wr.heap.size wr W)=>iseenSortK ax gx 0 cx (ks.map fun z=>(z.1,M.lastP gs z.2)) W hK4 hK3 (hKS.below h (Nat.le_refl _))
     have CQ2:=fun (W:World) (h:Below wr.heap.size wr W)=>CQ W (ssr.below h (Nat.le_refl _))
     have hqc:∀ W:World,Below wr.heap.size wr W→W.cell? ⟨PQ,0,none⟩=some (.slice ai qq.length ci):=fun W h=>(h.cell (p:=⟨PQ,0,none⟩) sQr.lt).trans x1
     generalize (ks.map fun z=>(z.1,M.lastP gs z.2))=kp at *
     clear CQ HKY HZ3 hsn
     go_wp2_with fail
     refine wp_region_held_drew (S:=fun w'=>Below wr.heap.size wr w') (by kernel_rfl) (Below.refl _ _).drew (fun hH=>?_)
     refine takeD 0 (some 107) (.slice ax kp.length cx) hH rfl rfl (by kernel_rfl) (by kernel_rfl) (by kernel_rfl) (fun _ _ _ h=>h) (Or.inl ⟨by rfl,by intro w' hSw;go_simp⟩) ?_
     simp only [Act.put,List.setIfInBounds_toArray,List.set_cons_zero,List.set_cons_succ]
     refine takeD 2 (some 109) (.agg #[.slice ai qq.length ci]) hH rfl rfl (by kernel_rfl) (by kernel_rfl) (by kernel_rfl) (fun _ _ _ h=>h) (Or.inl ⟨by rfl,by intro w' hSw;have hc0:=hqc w' hSw;go_simp⟩) ?_
     simp only [Act.put,List.setIfInBounds_toArray,List.set_cons_zero,List.set_cons_succ]
     refine takeD 3 (some 110) (.int .i64 kn) hH rfl rfl (by kernel_rfl) (by kernel_rfl) (by kernel_rfl) (fun _ _ _ h=>h) (Or.inl ⟨by rfl,by intro w' hSw;go_simp⟩) ?_
     simp only [Act.put,List.setIfInBounds_toArray,List.set_cons_zero,List.set_cons_succ]
     refine wpAnyH_ready (rs:=[1]) (by kernel_rfl) (by simp) ?_
     refine AllReadyH.cons rfl (fun K' hK=>?_) AllReadyH.nil
     refine step_goV (by rfl) (some 108) rfl 14 #[.tmp 107] _ rfl #[.slice ax kp.length cx] (by simp [Act.eval]) (enters_of Tryz.func14 (by kernel_rfl) rfl) (CSS _ hH) ?_
     rintro e Va ⟨v1,rfl,hA⟩
     obtain ⟨a1,g1,c1,rfl,hS1⟩:=hA.ex
     refine ⟨_,rfl,hK.out _ _ (hH.trans (hA.bel.mono hH.size)) (fun hH1=>?_)⟩
     clear hK K'
     simp only [Act.put,List.setIfInBounds_toArray,List.set_cons_zero,List.set_cons_succ]
     refine wpAnyH_ready (rs:=[4]) (by kernel_rfl) (by simp) ?_
     refine AllReadyH.cons rfl (fun K' hK=>?_) AllReadyH.nil
     refine step_goV (by rfl) (some 111) rfl 12 #[.tmp 109,.tmp 110] _ rfl #[.agg #[.slice ai qq.length ci],.int .i64 kn] (by simp [Act.eval]) (enters_of Tryz.func12 (by kernel_rfl) rfl) (CQ2 _ hH1) ?_
     rintro e Vb ⟨v2,rfl,hB⟩
     obtain ⟨a2,g2,c2,rfl,hS2⟩:=hB.ex
     have hS12:=hS1.below hB.bel (Nat.le_refl _)
     refine ⟨_,rfl,hK.out _ _ (hH1.trans (hB.bel.mono hH1.size)) (fun hH2=>?_)⟩
     clear hK K'
     simp only [Act.put,List.setIfInBounds_toArray,List.set_cons_zero,List.set_cons_succ]
     refine wpAnyH_ready (rs:=[5]) (by kernel_rfl) (by simp) ?_
     refine AllReadyH.cons rfl (fun K' hK=>?_) AllReadyH.nil
     refine step_goV (by rfl) (some 112) rfl 13 #[.tmp 108,.tmp 111] _ rfl #[.slice a1 (M.sortK kp).length c1,.slice a2 (M.sortK kp).length c2] (by simp [Act.eval]) (enters_of Tryz.func13 (by kernel_rfl) rfl) (lpList_same a1 g1 0 c1 a2 g2 0 c2 (M.sortK kp) Vb (by omega) hqk2 hS12 hS2) ?_
     rintro e Vc ⟨rfl,b3⟩
     refine ⟨_,rfl,hK.out _ _ (hH2.trans (b3.mono hH2.size)) (fun hH3=>?_)⟩
     clear hK K'
     simp only [Act.put,List.setIfInBounds_toArray,List.set_cons_zero,List.set_cons_succ]
     refine takeD 6 (some 4) (.bool true) hH3 rfl rfl (by kernel_rfl) (by kernel_rfl) (by kernel_rfl) (fun _ _ _ h=>h) (Or.inl ⟨by rfl,by intro w' hSw;go_simp⟩) ?_
     simp only [Act.put,List.setIfInBounds_toArray,List.set_cons_zero,List.set_cons_succ]
     refine wpAnyH_done (by kernel_rfl) ?_ _
     go_wp2_with fail
     go_ret
     exact ⟨rfl,bwr.trans (hH3.mono bwr.size)⟩
 ·go_enter Tryz.func3,Tryz.ntmps3
  rcases (show 1048576 < L∨(L≤1048576∧1048576 < ml) by omega) with h1 | ⟨h1,h2⟩
  ·go_wp2_with fail
   go_ret
   exact ⟨rfl,Below.refl _ _⟩
  ·go_wp2_with fail
   go_ret
   exact ⟨rfl,Below.refl _ _⟩
end Go.Proofs.YtihfibjckkmmbaaGreat
