/- The law FnOrderBesideIn, walked: it answers true, and leaves all as it was. Of whatever code. -/
import Derived.Below
import Derived.BigQuiet
import Derived.Deep.AppendLies
import Derived.Deep.CutRange
import Derived.Deep.MidRow
import Derived.Deep.Quiet
import Derived.Deep.QuietTactic
import Derived.Deep.RegionHeld3
import Derived.Deep.RegionLaw
import Derived.Deep.RegionWith
import Derived.Deep.Slices
import Derived.Deep.WholeRow
import Derived.Handy
import Derived.Laws.AppendOwn
import Derived.Laws.AppendOwnNone
import Derived.Laws.EntriesVeiled
import Derived.Laws.IdiomCopy
import Derived.Laws.OwnMore
import Derived.Lib.AppendZerosOnto
import Derived.Lib.SliceRun
import Derived.LoopIn
import Derived.LoopN
import Derived.LoopNIn
import Derived.Maps.AppendAt
import Derived.OwnWalkIn
import Derived.RangeFuncBound
import Derived.RangeFuncLeaves
import Derived.RangeFuncNested
import Derived.Shelf.Abstract
import Derived.Shelf.SlSortCmp.NoneTotal
import Derived.Sort.Grow
import Derived.TacticsInMore
import Derived.WalkKit
import Derived.WalkLawsBesides
import Derived.WalkSpells
import Derived.Deep.OwnRows
import Derived.Test.YtihfibjckkmmbaaGreatRows
import Derived.Test.YtihfibjckkmmbaaGreatQhai
import Derived.Test.YtihfibjckkmmbaaGreatQhbt
import Derived.Test.YtihfibjckkmmbaaGreatQhbv
import Derived.Test.YtihfibjckkmmbaaGreatQhbx
import Derived.Test.YtihfibjckkmmbaaGreatQhca
namespace Go.Proofs.YtihfibjckkmmbaaGreat
open Go.RowKit
theorem M.zrN_len (ll:List (List M.D)) (l:List Int) (n:Nat):(M.zrN ll l n).length=l.length:=by
 induction n with
 | zero=>rfl
 | succ n ih=>rw [M.zrN];split<;>simp [ih]
theorem IntS.cut {w:World} {a:Option Addr} {b o:Nat} {l:List Int} (h:IntS w a b o l) (n:Nat):IntS w a b o (l.take n):=⟨fun hl=>h.addr (by simp at hl;omega),fun i hi=>by simp at hi;rw [List.getElem_take];exact h.row i (by omega)⟩
structure BiB (W:World) (S R cp:Nat) (a1:Option Addr) (n c:Nat) (l:List Int) (w':World):Prop where
 bel:Below W.heap.size W w'
 ne:S≠R
 ge:W.heap.size≤S∧W.heap.size≤R
 s0:w'.cell? ⟨S,0,none⟩=some (.slice a1 n c)
 s1:w'.cell? ⟨S,1,none⟩=some (.slice (some ⟨R,0,none⟩) 3 cp)
 row:w'.ownsRow W.heap.size 3 1 (.slice (some ⟨R,0,none⟩) 3 cp) 3 (nums l)
theorem BiB.store {W w':World} {S R cp:Nat} {a1:Option Addr} {n c:Nat} {l:List Int} (h:BiB W S R cp a1 n c l w') (j:Nat) (x:Int):BiB W S R cp a1 n c (l.set j x) (w'.setCell ⟨R,j,none⟩ (.int .i64 x)):=by
 refine ⟨h.bel.setCell h.ge.2 _,h.ne,h.ge,?_,?_,?_⟩
 ·rw [World.cell?_setCell_other _ _ _ _ (fun e=>h.ne (congrArg Addr.block e).symm)];exact h.s0
 ·rw [World.cell?_setCell_other _ _ _ _ (fun e=>h.ne (congrArg Addr.block e).symm)];exact h.s1
 ·have:=(h.row.stored j (.int .i64 x)).1
  rw [show (nums l).set j (.int .i64 x)=nums (l.set j x) by unfold nums;rw [List.map_set]] at this
  exact this
theorem BiB.below {W w' w2:World} {S R cp:Nat} {a1:Option Addr} {n c:Nat} {l:List Int} (h:BiB W S R cp a1 n c l w') (hb:Below w'.heap.size w' w2):BiB W S R cp a1 n c l w2 :=
 ⟨h.bel.trans (hb.mono h.bel.size),h.ne,h.ge,(hb.cell (p:=⟨S,0,none⟩) (World.block_lt_of_cell? _ _ h.s0)).trans h.s0,(hb.cell (p:=⟨S,1,none⟩) (World.block_lt_of_cell? _ _ h.s1)).trans h.s1,ownsRow_below h.row hb⟩
theorem BiB.ints {W w':World} {S R cp:Nat} {a1:Option Addr} {n c:Nat} {l:List Int} (h:BiB W S R cp a1 n c l w') (hl:l.length=3):IntS w' (some ⟨R,0,none⟩) R 0 l:=⟨fun _=>rfl,fun i hi=>by
 rw [Nat.zero_add,h.row.cellAt i (by omega)]
 simp [nums,List.getElem?_eq_getElem hi]⟩
theorem bib_alloc {W w5:World} {R cp:Nat} {a1:Option Addr} {n c:Nat} {l:List Int} (b5:Below W.heap.size W w5) (hR:W.heap.size≤R∧R < w5.heap.size) (row:w5.ownsRow W.heap.size 3 1 (.slice (some ⟨R,0,none⟩) 3 cp) 3 (nums l)):BiB W w5.heap.size R cp a1 n c l (w5.alloc (.cells #[.slice a1 n c,.slice (some ⟨R,0,none⟩) 3 cp] 35)) :=
 ⟨b5.alloc b5.size _,by omega,⟨b5.size,hR.1⟩,by simp,by simp,row.alloc _⟩
theorem setCell_grownB (w:World) (S j:Nat) (u:Value):w.grownBy (w.setCell ⟨S,j,none⟩ u) (some S):=⟨rfl,rfl,rfl,by simp,fun k _ hk=>heap_setCell_other w ⟨S,j,none⟩ k u (fun e=>hk (by simp [e]))⟩
theorem bib_stored {W w5:World} {S R cp:Nat} {a1:Option Addr} {n c:Nat} {l:List Int} {u1 u2:Value} (b5:Below W.heap.size W w5) (hS:W.heap.size≤S) (hR:W.heap.size≤R) (hne:S≠R) (k0:w5.cell? ⟨S,0,none⟩=some u1) (k1:w5.cell? ⟨S,1,none⟩=some u2) (row:w5.ownsRow W.heap.size 3 1 (.slice (some ⟨R,0,none⟩) 3 cp) 3 (nums l)):BiB W S R cp a1 n c l ((w5.setCell ⟨S,0,none⟩ (.slice a1 n c)).setCell ⟨S,1,none⟩ (.slice (some ⟨R,0,none⟩) 3 cp)):=by
 refine ⟨(b5.setCell hS _).setCell hS _,hne,⟨hS,hR⟩,?_,?_,(row.kept (setCell_grownB _ S 0 _) (.inr fun e=>hne (Option.some.inj e).symm)).kept (setCell_grownB _ S 1 _) (.inr fun e=>hne (Option.some.inj e).symm)⟩
 ·rw [World.cell?_setCell_other _ _ _ _ (fun e=>by simp at e)]
  exact World.cell?_setCell_same _ _ _ k0
 ·exact World.cell?_setCell_same _ _ _ ((World.cell?_setCell_other _ _ _ _ (fun e=>by simp at e)).trans k1)
set_option maxHeartbeats 4000000 in
set_option maxRecDepth 100000 in
set_option linter.unusedSimpArgs false in
theorem lawBi_any (ca:Option Addr) (cb co L C:Nat) (x:Nat→Int) (ma:Option Addr) (ml C2:Nat) (w:World) (hL:L≤C) (had:0 < L→ca=some ⟨cb,co,none⟩) (hc:∀ i,i < L→w.cell? ⟨cb,co+i,none⟩=some (.int .u8 (x i))∧0≤x i∧x i≤255) :
  Calls Tryz.prog 7 #[.slice ca L C,.slice ma ml C2] w fun e w'=>e=.returned (.bool true)∧Below w.heap.size w w':=by
 by_cases hLb:L≤1048576∧ml≤1048576
 ·obtain ⟨hLa,hLm⟩:=hLb
  go_enter Tryz.func7,Tryz.ntmps7
  go_wp2_with fail
  refine (DrawTurnBeside_any ca cb co L C x _ hL had hc hLa).mono ?_
  rintro e w1 ⟨a,g,c,mm,a2,g2,c2,qq,rfl,hD⟩
  have hle:∀ t∈mm,t.length≤1048576:=fun t ht=>by have:=hD.ms t ht;omega
  have hml:mm.length≤1048576:=by have:=hD.ml;omega
  have hqe:∀ t∈qq,t.length≤1048576:=fun t ht=>by have:=hD.ns t ht;omega
  have hql:qq.length≤1048576:=by have:=hD.nl;omega
  have hm3:=hD.ml
  have hq3:=hD.nl
  have bA:=below2 w1 (.cells #[.slice a mm.length c] 25) (.cells #[.slice a2 qq.length c2] 25)
  have bwA:=hD.bel.trans (bA.mono hD.bel.size)
  have sP:=(Slot1.new w1 (.slice a mm.length c) 25).bl' (below1 _ (.cells #[.slice a2 qq.length c2] 25))
  have sO:=Slot1.new (w1.alloc (.cells #[.slice a mm.length c] 25)) (.slice a2 qq.length c2) 25
  rw [World.size_alloc] at sO
  have ssP:=hD.p.below bA (Nat.le_refl _)
  have ssO:=hD.q.below bA (Nat.le_refl _)
  clear had hc hD bA
  go_wp2_with fail
  generalize (w1.alloc (.cells #[.slice a mm.length c] 25)).alloc (.cells #[.slice a2 qq.length c2] 25)=WA at *
  obtain ⟨P,hP⟩:∃ P,w1.heap.size=P:=⟨_,rfl⟩
  rw [hP] at sP sO ⊢
  clear hP
  have CS:=sturnBeside_any a g 0 c mm hml hle a2 g2 0 c2 qq hql hqe
  have CI:=iturnBeside_any a g 0 c mm hml hle a2 g2 0 c2 qq hql hqe
  obtain ⟨nn,hn⟩:∃ nn,(M.turnBeside mm qq).getD []=nn:=⟨_,rfl⟩
  rw [hn] at CS CI
  obtain ⟨hn3,hn7⟩:=M.turnBeside_small hn
  have hnl:nn.length≤1048576:=by omega
  have hnls:∀ t∈nn,t.length≤1048576:=fun t ht=>by have:=hn7 t ht;omega
  obtain ⟨k,hk,hk3⟩:∃ k,ml % 3=k∧k < 3:=⟨_,rfl,Nat.mod_lt _ (by omega)⟩
  have hmd:Int.tmod (ml:Int) 3=(k:Int):=by rw [Int.tmod_eq_emod_of_nonneg (by omega),← hk];exact (Int.natCast_emod _ _).symm
  obtain ⟨kn,hkq⟩:∃ kn:Int,1+(k:Int)=kn:=⟨_,rfl⟩
  have hkn:IntKind.i64.wrap (1+(k:Int))=kn:=by rw [hkq];exact IntWalk.i64_in _ (by omega)
  have hkb:1≤kn∧kn≤3:=by omega
  have HS1:Hid ((M.turnBeside mm qq).isSome=true→nn=mm++qq∧(M.ownP mm qq=true→M.nreads mm=(M.tot M.reads mm:Int)∧0 < (M.orderAll nn kn).length∧∀ z∈M.orderAll nn kn,(z.1.take (M.tot M.reads mm),M.zrN mm z.2 3)∈M.orderAll mm kn∧z.2.length=3∧M.tot M.reads mm≤z.1.length)):=M.beside_law hn hkb
  clear hk hkq hkb
  clear hn
  obtain ⟨ok,hok⟩:∃ ok,(M.turnBeside mm qq).isSome=ok:=⟨_,rfl⟩
  rw [hok] at CS CI HS1
  clear hok
  have LQ:=fun A B C D E F W h1 h2=>lpProg_any A B 0 C D E 0 F nn nn W hnl hnl hnls h1 h2
  rw [M.eqLL_yes rfl] at LQ
  refine (CS WA ssP ssO).mono ?_
  rintro e w2 ⟨v2,rfl,⟨vs2,hR2⟩,b2⟩
  obtain ⟨av,gv,cv,rfl,hss2⟩:=hR2.b.ss
  have bW:=below1 w2 (.cells #[.slice av nn.length cv] 25)
  have bAW:=b2.trans (bW.mono b2.size)
  have sPW:=sP.bl' bAW
  have sOW:=sO.bl' bAW
  have sW:=Slot1.new w2 (.slice av nn.length cv) 25
  have ssW:=hss2.below bW (Nat.le_refl _)
  clear hR2 hss2 b2 bW
  have x0:=sPW.c
  have x9:=sOW.c
  go_wp2_with fail
  generalize w2.alloc (.cells #[.slice av nn.length cv] 25)=WB at *
  generalize w2.heap.size=PW at *
  refine (CI WB (ssP.below bAW (Nat.le_refl _)) (ssO.below bAW (Nat.le_refl _))).mono ?_
  rintro e w3 ⟨v3,rfl,⟨vs3,hR3⟩,b3⟩
  obtain ⟨ai,gi,ci,rfl,hss3⟩:=hR3.b.ss
  have hcap:=hR3.b.cap
  have bQ:=below1 w3 (.cells #[.slice ai nn.length ci] 25)
  have bBQ:=b3.trans (bQ.mono b3.size)
  have bAQ:=bAW.trans (bBQ.mono bAW.size)
  have sPQ:=sP.bl' bAQ
  have sOQ:=sO.bl' bAQ
  have sQ:=Slot1.new w3 (.slice ai nn.length ci) 25
  have ssQ:=hss3.below bQ (Nat.le_refl _)
  have sWQ:=sW.bl' bBQ
  have ssWQ:=ssW.below bBQ (Nat.le_refl _)
  clear hR3 hss3 b3 bQ x0 x9 sPW sOW sW ssW
  have x1:=sQ.c
  have x2:=sWQ.c
  cases ok
  ·go_wp2_with fail
   generalize w3.alloc (.cells #[.slice ai nn.length ci] 25)=WC at *
   generalize w3.heap.size=PQ at *
   refine (LQ ai gi ci av gv cv _ ssQ ssWQ).mono ?_
   rintro e w4 ⟨rfl,b4⟩
   have sQ4:=sQ.bl' b4
   have sW4:=sWQ.bl' b4
   have bA4:=bAQ.trans (b4.mono bAQ.size)
   clear x1 x2
   have x1:=sQ4.c
   have x2:=sW4.c
   go_wp2_with fail
   refine (LQ ai gi ci av gv cv _ (ssQ.below b4 (Nat.le_refl _)) (ssWQ.below b4 (Nat.le_refl _))).mono ?_
   rintro e w5 ⟨rfl,b5⟩
   go_wp2_with fail
   go_ret
   exact ⟨rfl,bwA.trans ((bA4.trans (b5.mono bA4.size)).mono bwA.size)⟩
  ·go_wp2_with fail
   generalize w3.alloc (.cells #[.slice ai nn.length ci] 25)=WC at *
   generalize w3.heap.size=PQ at *
   refine (LQ ai gi ci av gv cv _ ssQ ssWQ).mono ?_
   rintro e WD ⟨rfl,b4⟩
   have sQD:=sQ.bl' b4
   have sPD:=sPQ.bl' b4
   have sOD:=sOQ.bl' b4
   have bAD:=bAQ.trans (b4.mono bAQ.size)
   have ssQD:=ssQ.below b4 (Nat.le_refl _)
   have ssPD:=ssP.below bAD (Nat.le_refl _)
   have ssOD:=ssO.below bAD (Nat.le_refl _)
   have bwD:=bwA.trans (bAD.mono bwA.size)
   have x0:=sPD.c
   have x1':=sQD.c
   have x9:=sOD.c
   have sWD:=sWQ.bl' b4
   have ssWD:=ssWQ.below b4 (Nat.le_refl _)
   obtain ⟨hnn,hfacts⟩:=HS1.out (by first | rfl | trivial)
   have HF:Hid (M.ownP mm qq=true→M.nreads mm=(M.tot M.reads mm:Int)∧0 < (M.orderAll nn kn).length∧∀ z∈M.orderAll nn kn,(z.1.take (M.tot M.reads mm),M.zrN mm z.2 3)∈M.orderAll mm kn∧z.2.length=3∧M.tot M.reads mm≤z.1.length):=hfacts
   clear hfacts hnn x1 x2 sQ sPQ sOQ bAQ ssQ ssP ssO b4 bAD sWQ ssWQ bBQ bAW sP sO bwA CS CI HS1
   have x1:=sQD.c
   have x2:=sWD.c
   have CO:=lpOwn_any a g 0 c mm a2 g2 0 c2 qq WD hml hle hql hqe ssPD ssOD
   obtain ⟨ow,how⟩:∃ ow,M.ownP mm qq=ow:=⟨_,rfl⟩
   rw [how] at CO HF
   clear how
   go_wp2_with fail
   refine CO.mono ?_
   rintro e WX ⟨rfl,bX⟩
   have sQX:=sQD.bl' bX
   have sWX:=sWD.bl' bX
   have sPX:=sPD.bl' bX
   have ssQX:=ssQD.below bX (Nat.le_refl _)
   have ssWX:=ssWD.below bX (Nat.le_refl _)
   have ssPX:=ssPD.below bX (Nat.le_refl _)
   have bwX:=bwD.trans (bX.mono bwD.size)
   clear x0 x1 x2 x9 sQD sWD sPD sOD ssQD ssWD ssPD ssOD bwD bX CO
   have x0:=sPX.c
   have x1:=sQX.c
   have x2:=sWX.c
   cases ow
   ·go_wp2_with fail
    refine (LQ ai gi ci av gv cv _ ssQX ssWX).mono ?_
    rintro e w5 ⟨rfl,b5⟩
    go_wp2_with fail
    go_ret
    exact ⟨rfl,bwX.trans (b5.mono bwX.size)⟩
   ·obtain ⟨hrd,hpos,hall⟩:=HF.out rfl
    have HAL:Hid (∀ z∈M.orderAll nn kn,(z.1.take (M.tot M.reads mm),M.zrN mm z.2 3)∈M.orderAll mm kn∧z.2.length=3∧M.tot M.reads mm≤z.1.length):=hall
    clear HF hall LQ sWX ssWX x2
    have hkk:=M.orderAll_le nn kn
    have hpl:=M.orderAll_len mm kn
    have hpk:=M.orderAll_le mm kn
    have CX:=fun (W:World) (h:DoSS W ai gi 0 nn)=>iorderAllC_any ai gi 0 ci nn kn W hnl hnls h
    have CP:=fun (W:World) (h:DoSS W a g 0 mm)=>iorderAllK a g 0 c mm kn W hml hle h
    have CR:=fun (W:World) (h:DoSS W a g 0 mm)=>ireads_any a g 0 c mm W hml hle h
    rw [hrd] at CR
    obtain ⟨m,hm⟩:∃ m,M.tot M.reads mm=m:=⟨_,rfl⟩
    rw [hm] at CR HAL
    obtain ⟨kp,hkp⟩:∃ kp,M.orderAll mm kn=kp:=⟨_,rfl⟩
    rw [hkp] at CP HAL hpl hpk
    clear hkp hm hrd
    obtain ⟨i0,hi,hz0,hz1,hz2⟩:=info_parts Tryz.infoInt
    go_wp2_with fail
    refine (CX WX ssQX).mono ?_
    rintro e WE ⟨v1,rfl,hA⟩
    obtain ⟨av1,gv,cv,uu,rfl,hku,hNL,hul,_,hcap⟩:=hA.ex
    have bXE:=hA.bel
    have bwE:=bwX.trans (bXE.mono bwX.size)
    have sPE:=sPX.bl' bXE
    have ssPE:=ssPX.below bXE (Nat.le_refl _)
    rw [← hku,kys_len] at hpos
    rw [← hku] at HAL hkk
    have HCAP:Hid (∀ s∈uu,s.l1.length≤s.c1):=hcap
    clear hA CX bXE sPX sQX ssQX ssPX bwX x0 x1 hku hcap
    have x0:=sPE.c
    go_wp2_with fail
    refine (CP WE ssPE).mono ?_
    rintro e WF ⟨v2,rfl,hB⟩
    obtain ⟨aw,gw,cw,rfl,hSF⟩:=hB.ex
    have bEF:=hB.bel
    have bwF:=bwE.trans (bEF.mono bwE.size)
    have sPF:=sPE.bl' bEF
    have ssPF:=ssPE.below bEF (Nat.le_refl _)
    clear hB CP sPE ssPE x0
    have x0:=sPF.c
    go_wp2_with fail
    refine (CR WF ssPF).mono ?_
    rintro e WG ⟨rfl,bFG⟩
    have bEG:=bEF.trans (bFG.mono bEF.size)
    have bwG:=bwF.trans (bFG.mono bwF.size)
    have sPG:=sPF.bl' bFG
    have ssPG:=ssPF.below bFG (Nat.le_refl _)
    have hSG:=hSF.below bFG (Nat.le_refl _)
    have pG:=sPG.c
    have lPG:=sPG.lt
    clear CR sPF ssPF x0 bEF bFG hSF bwF bwE
    have hpl':kp.length≤1048576:=by omega
    go_wp2_with fail
    go_loopw [15] (fun s15 wr=>∃ n:Nat,s15=.int .i64 n∧n≤uu.length∧Below WG.heap.size WG wr) (fun s15 _=>uu.length - (intOf s15).toNat)
    case atStart=>exact ⟨0,rfl,Nat.zero_le _,Below.refl _ _⟩
    case round =>
     obtain ⟨n,rfl,hn,hb⟩:=hrel
     by_cases hlt:n < uu.length
     ·have i1:(n:Int) < uu.length:=by omega
      obtain ⟨rfl⟩:=hNL.addr (by omega)
      obtain ⟨c1,c2'⟩:=(hNL.sr (by omega)).c n hlt
      have hsa:=(hNL.off _ (List.getElem_mem hlt)).at_
      have hsle:=(hNL.off _ (List.getElem_mem hlt)).le
      have hsc:=HCAP.out _ (List.getElem_mem hlt)
      obtain ⟨hin,h3,hmr⟩:=HAL.out (uu[n].l1,uu[n].l2) (List.mem_map.2 ⟨uu[n],List.getElem_mem hlt,rfl⟩)
      generalize uu[n]=s at *
      simp only at hin h3 hmr
      have HIN:Hid ((s.l1.take m,M.zrN mm s.l2 3)∈kp):=hin
      have hadr:=hsa.last.addr (by omega)
      have hSW:∀ w',Below WG.heap.size WG w'→w'.cell? ⟨gv,n * 2,none⟩=some (.slice s.a1 s.l1.length s.c1)∧w'.cell? ⟨gv,n * 2+1,none⟩=some (.slice (some ⟨s.b2,s.o2,none⟩) 3 s.c2):=fun w' hb'=>by
       have hb2:=bEG.trans (hb'.mono bEG.size)
       refine ⟨(hb2.cell (p:=⟨gv,n * 2,none⟩) (World.block_lt_of_cell? _ _ c1)).trans c1,?_⟩
       rw [(hb2.cell (p:=⟨gv,n * 2+1,none⟩) (World.block_lt_of_cell? _ _ c2')).trans c2',hadr,h3]
      have HIL:Hid (∀ w',Below WG.heap.size WG w'→IntS w' (some ⟨s.b2,s.o2,none⟩) s.b2 s.o2 s.l2):=fun w' hb'=>by
       have:=hsa.last.below (bEG.trans (hb'.mono bEG.size)) (Nat.le_refl _)
       rwa [hadr] at this
      have HH3:Hid (s.l2.length=3):=h3
      have hm1:(m:Int)≤s.c1:=by omega
      have hm0:(0:Int)≤m:=by omega
      clear c1 c2' hin h3 hadr
      obtain ⟨wo,rfl⟩:∃ wo:World,wo=wr:=⟨_,rfl⟩
      have hwo:=hb.size
      go_wp2_with fail
      go_cut [16] from 88 to 118 (fun s16 wc=>∃ S R cp,s16=.pointer (some ⟨S,0,none⟩)∧BiB wo S R cp s.a1 m s.c1 s.l2 wc)
      case first =>
       refine wp_region_held_drew (S:=fun w'=>Below WG.heap.size WG w') (by kernel_rfl) hb.drew (fun hH=>?_)
       refine takeD 0 (some 88) (.slice (some ⟨gv,0,none⟩) uu.length cv) hH rfl rfl (by kernel_rfl) (by kernel_rfl) (by kernel_rfl) (fun _ _ _ h=>h) (Or.inl ⟨by rfl,by intro w' hSw;go_simp⟩) ?_
       simp only [Act.put,List.setIfInBounds_toArray,List.set_cons_zero,List.set_cons_succ]
       refine takeD 1 (some 89) (.int .i64 n) hH rfl rfl (by kernel_rfl) (by kernel_rfl) (by kernel_rfl) (fun _ _ _ h=>h) (Or.inl ⟨by rfl,by intro w' hSw;go_simp⟩) ?_
       simp only [Act.put,List.setIfInBounds_toArray,List.set_cons_zero,List.set_cons_succ]
       refine takeD 2 (some 90) (.pointer (some ⟨gv,n * 2,none⟩)) hH rfl rfl (by kernel_rfl) (by kernel_rfl) (by kernel_rfl) (fun _ _ _ h=>h) (Or.inl ⟨by rfl,by intro w' hSw;go_simp⟩) ?_
       simp only [Act.put,List.setIfInBounds_toArray,List.set_cons_zero,List.set_cons_succ]
       refine takeD 3 (some 91) (.pointer (some ⟨gv,n * 2,none⟩)) hH rfl rfl (by kernel_rfl) (by kernel_rfl) (by kernel_rfl) (fun _ _ _ h=>h) (Or.inl ⟨by rfl,by intro w' hSw;go_simp⟩) ?_
       simp only [Act.put,List.setIfInBounds_toArray,List.set_cons_zero,List.set_cons_succ]
       refine takeD 4 (some 92) (.slice s.a1 s.l1.length s.c1) hH rfl rfl (by kernel_rfl) (by kernel_rfl) (by kernel_rfl) (fun _ _ _ h=>h) (Or.inl ⟨by rfl,by intro w' hSw;have hc:=(hSW w' hSw).1;go_simp⟩) ?_
       simp only [Act.put,List.setIfInBounds_toArray,List.set_cons_zero,List.set_cons_succ]
       refine takeD 5 (some 93) (.int .i64 m) hH rfl rfl (by kernel_rfl) (by kernel_rfl) (by kernel_rfl) (fun _ _ _ h=>h) (Or.inl ⟨by rfl,by intro w' hSw;go_simp⟩) ?_
       simp only [Act.put,List.setIfInBounds_toArray,List.set_cons_zero,List.set_cons_succ]
       refine takeD 6 (some 94) (.slice s.a1 m s.c1) hH rfl rfl (by kernel_rfl) (by kernel_rfl) (by kernel_rfl) (fun _ _ _ h=>h) (Or.inl ⟨by rfl,by intro w' hSw;go_simp⟩) ?_
       simp only [Act.put,List.setIfInBounds_toArray,List.set_cons_zero,List.set_cons_succ]
       refine takeD 8 (some 96) (.slice (some ⟨gv,0,none⟩) uu.length cv) hH rfl rfl (by kernel_rfl) (by kernel_rfl) (by kernel_rfl) (fun _ _ _ h=>h) (Or.inl ⟨by rfl,by intro w' hSw;go_simp⟩) ?_
       simp only [Act.put,List.setIfInBounds_toArray,List.set_cons_zero,List.set_cons_succ]
       refine takeD 9 (some 97) (.int .i64 n) hH rfl rfl (by kernel_rfl) (by kernel_rfl) (by kernel_rfl) (fun _ _ _ h=>h) (Or.inl ⟨by rfl,by intro w' hSw;go_simp⟩) ?_
       simp only [Act.put,List.setIfInBounds_toArray,List.set_cons_zero,List.set_cons_succ]
       refine takeD 10 (some 98) (.pointer (some ⟨gv,n * 2,none⟩)) hH rfl rfl (by kernel_rfl) (by kernel_rfl) (by kernel_rfl) (fun _ _ _ h=>h) (Or.inl ⟨by rfl,by intro w' hSw;go_simp⟩) ?_
       simp only [Act.put,List.setIfInBounds_toArray,List.set_cons_zero,List.set_cons_succ]
       refine takeD 11 (some 99) (.pointer (some ⟨gv,n * 2+1,none⟩)) hH rfl rfl (by kernel_rfl) (by kernel_rfl) (by kernel_rfl) (fun _ _ _ h=>h) (Or.inl ⟨by rfl,by intro w' hSw;go_simp⟩) ?_
       simp only [Act.put,List.setIfInBounds_toArray,List.set_cons_zero,List.set_cons_succ]
       refine takeD 12 (some 100) (.slice (some ⟨s.b2,s.o2,none⟩) 3 s.c2) hH rfl rfl (by kernel_rfl) (by kernel_rfl) (by kernel_rfl) (fun _ _ _ h=>h) (Or.inl ⟨by rfl,by intro w' hSw;have hc:=(hSW w' hSw).2;go_simp⟩) ?_
       simp only [Act.put,List.setIfInBounds_toArray,List.set_cons_zero,List.set_cons_succ]
       refine wpAnyH_ready (rs:=[7,15]) (by kernel_rfl) (by simp) ?_
       refine AllReadyH.cons rfl (fun K' hK=>?_) (AllReadyH.cons rfl (fun K' hK=>?_) AllReadyH.nil)
       ·rw [if_pos (by rfl)]
        go_simp
        refine hK.out _ _ (hb.drew.alloc hb.drew.size (.cells #[] 3)) (fun hHa=>?_)
        clear hK K'
        refine wpAnyH_ready (rs:=[13,15]) (by kernel_rfl) (by simp) ?_
        refine AllReadyH.cons rfl (fun K' hK=>?_) (AllReadyH.cons rfl (fun K' hK=>?_) AllReadyH.nil)
        ·have bW:Below wo.heap.size wo (((wo.alloc (.cells #[] 3))).drew):=((below1 wo _)).drew
         refine step_append_lies _ (by rfl) (.tmp 95) (.tmp 100) 26 (by rfl) wo.heap.size 3 i0 _ 1 8 Tryz.underlying26 hi hz0 hz1 hz2 rfl (by decide) (.slice (some ⟨wo.heap.size,0,none⟩) 0 0) 0 [] (by rfl) ((show (wo.alloc (.cells #[] 3)).ownsRow wo.heap.size 3 1 (.slice (some ⟨wo.heap.size,0,none⟩) 0 0) 0 [] from own_emp (heap_alloc_new wo _) (Nat.le_refl _))) ⟨s.b2,s.o2,none⟩ 3 s.c2 (nums s.l2) (by rfl) (by have:=HH3.out;simp [nums];omega) (nums_cells (HIL.out _ (hb.trans (bW.mono hwo)))) (nums_one s.l2) (by omega) (by unfold maxLen;omega) (by omega) bW.size (((wo.alloc (.cells #[] 3))).drew).heap.size rfl ?_
         intro R cp w5 hown5 hg5 hat5 hlt5
         have b5:Below wo.heap.size wo w5:=below_grown bW hg5 (fun j hj=>by have:wo.heap.size=j:=Option.some.inj hj;omega) bW.size
         have row5:w5.ownsRow wo.heap.size 3 1 (.slice (some ⟨R,0,none⟩) 3 cp) 3 (nums s.l2):=by simpa using hown5
         have hR:wo.heap.size≤R∧R < w5.heap.size:=row5.lt R rfl
         clear hown5 hat5 hg5
         simp only [Act.put,List.setIfInBounds_toArray,List.set_cons_zero,List.set_cons_succ]
         refine hK.out _ _ (hb.trans (b5.mono hwo)) (fun hHx=>?_)
         clear hK K'
         refine takeD 14 (some 102) (.agg #[.slice s.a1 m s.c1,.slice (some ⟨R,0,none⟩) 3 cp]) hHx rfl rfl (by kernel_rfl) (by kernel_rfl) (by kernel_rfl) (fun _ _ _ h=>h) (Or.inl ⟨by rfl,by intro w' hSw;go_simp⟩) ?_
         simp only [Act.put,List.setIfInBounds_toArray,List.set_cons_zero,List.set_cons_succ]
         refine wpAnyH_ready (rs:=[15]) (by kernel_rfl) (by simp) ?_
         refine AllReadyH.cons rfl (fun K' hK=>?_) AllReadyH.nil
         rw [if_pos (by rfl)]
         go_simp
         refine hK.out _ _ (hHx.alloc hHx.size (.cells #[.slice none 0 0,.slice none 0 0] 35)) (fun hHb=>?_)
         clear hK K'
         refine wpAnyH_ready (rs:=[16]) (by kernel_rfl) (by simp) ?_
         refine AllReadyH.cons rfl (fun K' hK=>?_) AllReadyH.nil
         rw [if_pos (by rfl)]
         go_simp
         have hF:=bib_alloc (a1:=s.a1) (n:=m) (c:=s.c1) b5 hR row5
         refine hK.out _ _ (hb.trans (hF.bel.mono hwo)) (fun hHy=>?_)
         clear hK K'
         refine wpAnyH_done (by kernel_rfl) ?_ _
         go_wp2_with fail
         go_meet
         case rel=>exact ⟨_,_,_,rfl,hF⟩
        ·rw [if_pos (by rfl)]
         go_simp
         refine hK.out _ _ (hHa.alloc hHa.size (.cells #[.slice none 0 0,.slice none 0 0] 35)) (fun hHb=>?_)
         clear hK K'
         refine wpAnyH_ready (rs:=[13]) (by kernel_rfl) (by simp) ?_
         refine AllReadyH.cons rfl (fun K' hK=>?_) AllReadyH.nil
         have bW:Below wo.heap.size wo ((((wo.alloc (.cells #[] 3)).alloc (.cells #[.slice none 0 0,.slice none 0 0] 35))).drew):=((below2 wo _ _)).drew
         refine step_append_lies _ (by rfl) (.tmp 95) (.tmp 100) 26 (by rfl) wo.heap.size 3 i0 _ 1 8 Tryz.underlying26 hi hz0 hz1 hz2 rfl (by decide) (.slice (some ⟨wo.heap.size,0,none⟩) 0 0) 0 [] (by rfl) (((show (wo.alloc (.cells #[] 3)).ownsRow wo.heap.size 3 1 (.slice (some ⟨wo.heap.size,0,none⟩) 0 0) 0 [] from own_emp (heap_alloc_new wo _) (Nat.le_refl _))).alloc _) ⟨s.b2,s.o2,none⟩ 3 s.c2 (nums s.l2) (by rfl) (by have:=HH3.out;simp [nums];omega) (nums_cells (HIL.out _ (hb.trans (bW.mono hwo)))) (nums_one s.l2) (by omega) (by unfold maxLen;omega) (by omega) bW.size ((((wo.alloc (.cells #[] 3)).alloc (.cells #[.slice none 0 0,.slice none 0 0] 35))).drew).heap.size rfl ?_
         intro R cp w5 hown5 hg5 hat5 hlt5
         have b5:Below wo.heap.size wo w5:=below_grown bW hg5 (fun j hj=>by have:wo.heap.size=j:=Option.some.inj hj;omega) bW.size
         have row5:w5.ownsRow wo.heap.size 3 1 (.slice (some ⟨R,0,none⟩) 3 cp) 3 (nums s.l2):=by simpa using hown5
         have hR:wo.heap.size≤R∧R < w5.heap.size:=row5.lt R rfl
         have hB0:(((wo.alloc (.cells #[] 3)).alloc (.cells #[.slice none 0 0,.slice none 0 0] 35))).heap[wo.heap.size+1]?=some (.cells #[.slice none 0 0,.slice none 0 0] 35 (0,0)):=by have h:=heap_alloc_new (wo.alloc (.cells #[] 3)) (.cells #[.slice none 0 0,.slice none 0 0] 35);rwa [World.size_alloc] at h
         have hB5:w5.heap[wo.heap.size+1]?=some (.cells #[.slice none 0 0,.slice none 0 0] 35 (0,0)):=(hg5.block _ (Array.getElem?_eq_some_iff.1 hB0).1 (fun e=>by have e':wo.heap.size+1=wo.heap.size:=Option.some.inj e;omega)).trans hB0
         have k0:w5.cell? ⟨wo.heap.size+1,0,none⟩=some (.slice none 0 0):=by unfold World.cell?;simp only;rw [hB5];rfl
         have k1:w5.cell? ⟨wo.heap.size+1,1,none⟩=some (.slice none 0 0):=by unfold World.cell?;simp only;rw [hB5];rfl
         have kz:∀ j,w5.frozen? ⟨wo.heap.size+1,j,none⟩=false:=fun j=>by unfold World.frozen?;simp only;rw [hB5];simp
         have hne:wo.heap.size+1≠R:=by
          rcases hat5 with e | e
          ·have e':wo.heap.size=R:=Option.some.inj e;omega
          ·intro e2;simp at e;omega
         clear hown5 hat5 hg5
         simp only [Act.put,List.setIfInBounds_toArray,List.set_cons_zero,List.set_cons_succ]
         refine hK.out _ _ (hb.trans (b5.mono hwo)) (fun hHx=>?_)
         clear hK K'
         refine takeD 14 (some 102) (.agg #[.slice s.a1 m s.c1,.slice (some ⟨R,0,none⟩) 3 cp]) hHx rfl rfl (by kernel_rfl) (by kernel_rfl) (by kernel_rfl) (fun _ _ _ h=>h) (Or.inl ⟨by rfl,by intro w' hSw;go_simp⟩) ?_
         simp only [Act.put,List.setIfInBounds_toArray,List.set_cons_zero,List.set_cons_succ]
         refine wpAnyH_ready (rs:=[16]) (by kernel_rfl) (by simp) ?_
         refine AllReadyH.cons rfl (fun K' hK=>?_) AllReadyH.nil
         rw [if_pos (by rfl)]
         go_simp
         have hF:=bib_stored (a1:=s.a1) (n:=m) (c:=s.c1) b5 (Nat.le_succ _) hR.1 hne k0 k1 row5
         refine hK.out _ _ (hb.trans (hF.bel.mono hwo)) (fun hHy=>?_)
         clear hK K'
         refine wpAnyH_done (by kernel_rfl) ?_ _
         go_wp2_with fail
         go_meet
         case rel=>exact ⟨_,_,_,rfl,hF⟩
       ·rw [if_pos (by rfl)]
        go_simp
        refine hK.out _ _ (hb.drew.alloc hb.drew.size (.cells #[.slice none 0 0,.slice none 0 0] 35)) (fun hHa=>?_)
        clear hK K'
        refine wpAnyH_ready (rs:=[7]) (by kernel_rfl) (by simp) ?_
        refine AllReadyH.cons rfl (fun K' hK=>?_) AllReadyH.nil
        rw [if_pos (by rfl)]
        go_simp
        refine hK.out _ _ (hHa.alloc hHa.size (.cells #[] 3)) (fun hHb=>?_)
        clear hK K'
        refine wpAnyH_ready (rs:=[13]) (by kernel_rfl) (by simp) ?_
        refine AllReadyH.cons rfl (fun K' hK=>?_) AllReadyH.nil
        have bW:Below wo.heap.size wo ((((wo.alloc (.cells #[.slice none 0 0,.slice none 0 0] 35)).alloc (.cells #[] 3))).drew):=((below2 wo _ _)).drew
        refine step_append_lies _ (by rfl) (.tmp 95) (.tmp 100) 26 (by rfl) wo.heap.size 3 i0 _ 1 8 Tryz.underlying26 hi hz0 hz1 hz2 rfl (by decide) (.slice (some ⟨wo.heap.size+1,0,none⟩) 0 0) 0 [] (by rfl) ((show ((wo.alloc (.cells #[.slice none 0 0,.slice none 0 0] 35)).alloc (.cells #[] 3)).ownsRow wo.heap.size 3 1 (.slice (some ⟨wo.heap.size+1,0,none⟩) 0 0) 0 [] from by have h:=own_emp (base:=wo.heap.size) (size:=1) (e:=3) (heap_alloc_new (wo.alloc (.cells #[.slice none 0 0,.slice none 0 0] 35)) (.cells #[] 3)) (by simp);rwa [World.size_alloc] at h)) ⟨s.b2,s.o2,none⟩ 3 s.c2 (nums s.l2) (by rfl) (by have:=HH3.out;simp [nums];omega) (nums_cells (HIL.out _ (hb.trans (bW.mono hwo)))) (nums_one s.l2) (by omega) (by unfold maxLen;omega) (by omega) bW.size ((((wo.alloc (.cells #[.slice none 0 0,.slice none 0 0] 35)).alloc (.cells #[] 3))).drew).heap.size rfl ?_
        intro R cp w5 hown5 hg5 hat5 hlt5
        have b5:Below wo.heap.size wo w5:=below_grown bW hg5 (fun j hj=>by have:wo.heap.size+1=j:=Option.some.inj hj;omega) bW.size
        have row5:w5.ownsRow wo.heap.size 3 1 (.slice (some ⟨R,0,none⟩) 3 cp) 3 (nums s.l2):=by simpa using hown5
        have hR:wo.heap.size≤R∧R < w5.heap.size:=row5.lt R rfl
        have hB0:(((wo.alloc (.cells #[.slice none 0 0,.slice none 0 0] 35)).alloc (.cells #[] 3))).heap[wo.heap.size]?=some (.cells #[.slice none 0 0,.slice none 0 0] 35 (0,0)):=((below1 (wo.alloc (.cells #[.slice none 0 0,.slice none 0 0] 35)) (.cells #[] 3)).block _ (by simp)).trans (heap_alloc_new wo _)
        have hB5:w5.heap[wo.heap.size]?=some (.cells #[.slice none 0 0,.slice none 0 0] 35 (0,0)):=(hg5.block _ (Array.getElem?_eq_some_iff.1 hB0).1 (fun e=>by have e':wo.heap.size=wo.heap.size+1:=Option.some.inj e;omega)).trans hB0
        have k0:w5.cell? ⟨wo.heap.size,0,none⟩=some (.slice none 0 0):=by unfold World.cell?;simp only;rw [hB5];rfl
        have k1:w5.cell? ⟨wo.heap.size,1,none⟩=some (.slice none 0 0):=by unfold World.cell?;simp only;rw [hB5];rfl
        have kz:∀ j,w5.frozen? ⟨wo.heap.size,j,none⟩=false:=fun j=>by unfold World.frozen?;simp only;rw [hB5];simp
        have hne:wo.heap.size≠R:=by
         rcases hat5 with e | e
         ·have e':wo.heap.size+1=R:=Option.some.inj e;omega
         ·intro e2;simp at e;omega
        clear hown5 hat5 hg5
        simp only [Act.put,List.setIfInBounds_toArray,List.set_cons_zero,List.set_cons_succ]
        refine hK.out _ _ (hb.trans (b5.mono hwo)) (fun hHx=>?_)
        clear hK K'
        refine takeD 14 (some 102) (.agg #[.slice s.a1 m s.c1,.slice (some ⟨R,0,none⟩) 3 cp]) hHx rfl rfl (by kernel_rfl) (by kernel_rfl) (by kernel_rfl) (fun _ _ _ h=>h) (Or.inl ⟨by rfl,by intro w' hSw;go_simp⟩) ?_
        simp only [Act.put,List.setIfInBounds_toArray,List.set_cons_zero,List.set_cons_succ]
        refine wpAnyH_ready (rs:=[16]) (by kernel_rfl) (by simp) ?_
        refine AllReadyH.cons rfl (fun K' hK=>?_) AllReadyH.nil
        rw [if_pos (by rfl)]
        go_simp
        have hF:=bib_stored (a1:=s.a1) (n:=m) (c:=s.c1) b5 (Nat.le_refl _) hR.1 hne k0 k1 row5
        refine hK.out _ _ (hb.trans (hF.bel.mono hwo)) (fun hHy=>?_)
        clear hK K'
        refine wpAnyH_done (by kernel_rfl) ?_ _
        go_wp2_with fail
        go_meet
        case rel=>exact ⟨_,_,_,rfl,hF⟩
      case rest =>
       obtain ⟨S,R,cp,rfl,hP⟩:=hcut
       go_wp2_with fail
       go_loopw [17] (fun s17 wr=>∃ pl:Nat,s17=.int .i64 pl∧pl≤3∧BiB wo S R cp s.a1 m s.c1 (M.zrN mm s.l2 pl) wr) (fun s17 _=>3 - (intOf s17).toNat)
       case atStart=>exact ⟨0,rfl,by omega,hP⟩
       case round =>
        obtain ⟨pl,rfl,hpl3,hQ⟩:=hrel
        clear hP
        have hbq:Below WG.heap.size WG wr:=hb.trans (hQ.bel.mono hwo)
        have x0:=(hbq.cell (p:=⟨P,0,none⟩) lPG).trans pG
        by_cases hp3:pl < 3
        ·have i3:(pl:Int) < 3:=by omega
         have CU:=lpUses_any a g 0 c mm (pl:Int) wr hml hle (ssPG.below hbq (Nat.le_refl _))
         have HZ:Hid (M.zrN mm s.l2 (pl+1)=if M.anyK (M.usesP pl) mm then M.zrN mm s.l2 pl else (M.zrN mm s.l2 pl).set pl 0):=rfl
         cases hu:M.anyK (M.usesP (pl:Int)) mm
         ·rw [hu] at CU HZ
          go_wp2_with fail
          refine CU.mono ?_
          rintro e W1 ⟨rfl,b1⟩
          have hQ1:=hQ.below b1
          have y1:=hQ1.s1
          have hfz:=hQ1.row.frozenAt pl
          obtain ⟨old,hcy⟩:∃ old,W1.cell? ⟨R,pl,none⟩=some old:=⟨_,(hQ1.row.cellAt pl (by omega)).trans (List.getElem?_eq_getElem (by have:=HH3.out;simp only [nums,List.length_map,M.zrN_len];omega))⟩
          have hQ2:BiB wo S R cp s.a1 m s.c1 (M.zrN mm s.l2 (pl+1)) (W1.setCell ⟨R,pl,none⟩ (.int .i64 0)):=by rw [HZ.out];exact hQ1.store pl 0
          clear HZ hu
          go_wp2_with fail
          go_roundw
          case rel =>
           first
           | exact ⟨pl+1,by go_num,by omega,hQ2⟩
           | ((repeat apply Exists.intro);exact ⟨⟨pl+1,by go_num,by omega,hQ2⟩,rfl⟩)
          case measure=>(simp [intOf];omega)
         ·rw [hu] at CU HZ
          have hQ2:BiB wo S R cp s.a1 m s.c1 (M.zrN mm s.l2 (pl+1)) wr:=by rw [HZ.out];exact hQ
          clear HZ hu
          go_wp2_with fail
          refine CU.mono ?_
          rintro e W1 ⟨rfl,b1⟩
          have hQ3:=hQ2.below b1
          go_wp2_with fail
          go_roundw
          case rel =>
           first
           | exact ⟨pl+1,by go_num,by omega,hQ3⟩
           | ((repeat apply Exists.intro);exact ⟨⟨pl+1,by go_num,by omega,hQ3⟩,rfl⟩)
          case measure=>(simp [intOf];omega)
        ·have i3:¬ (pl:Int) < 3:=by omega
         obtain rfl:pl=3:=by omega
         obtain ⟨u0,u1,u2,hu⟩:=M.biThree ((M.zrN_len mm s.l2 3).trans HH3.out)
         rw [hu] at hQ
         have hin:=HIN.out
         rw [hu] at hin
         have y0:=hQ.s0
         have y1:=hQ.s1
         have htl:(s.l1.take m).length=m:=by rw [List.length_take];omega
         have hat:(⟨s.a1,s.b1,s.o1,s.c1,s.l1.take m,some ⟨R,0,none⟩,R,0,cp,[u0,u1,u2]⟩:Sn).At wr:=⟨((hsa.reads.cut m).below (bEG.trans (hbq.mono bEG.size)) (Nat.le_refl _)),hQ.ints rfl⟩
         have CI:=iseenIn_any aw gw 0 cw kp ⟨s.a1,s.b1,s.o1,s.c1,s.l1.take m,some ⟨R,0,none⟩,R,0,cp,[u0,u1,u2]⟩ wr hpl' hpk ⟨by have:=hsle.reads;show (s.l1.take m).length≤_;omega,by show 3≤_;omega⟩ (hSG.below hbq (Nat.le_refl _)) hat
         simp only [htl] at CI
         rw [M.isIn_mem hin] at CI
         clear hu hin htl hat
         go_wp2_with fail
         refine CI.mono ?_
         rintro e W1 ⟨rfl,b1⟩
         have hb1:=hbq.trans (b1.bel.mono hbq.size)
         go_wp2_with fail
         go_roundw
         case rel =>
          first
          | exact ⟨n+1,by go_num,by omega,hb1⟩
          | ((repeat apply Exists.intro);exact ⟨⟨n+1,by go_num,by omega,hb1⟩,rfl⟩)
         case measure=>(simp [intOf];omega)
     ·have i1:¬ (n:Int) < uu.length:=by omega
      have i2:(0:Int) < uu.length:=by omega
      go_wp2_with fail
      go_ret
      exact ⟨rfl,bwG.trans (hb.mono bwG.size)⟩
 ·go_enter Tryz.func7,Tryz.ntmps7
  rcases (show 1048576 < L∨(L≤1048576∧1048576 < ml) by omega) with h1 | ⟨h1,h2⟩
  ·go_wp2_with fail
   go_ret
   exact ⟨rfl,Below.refl _ _⟩
  ·go_wp2_with fail
   go_ret
   exact ⟨rfl,Below.refl _ _⟩
end Go.Proofs.YtihfibjckkmmbaaGreat
