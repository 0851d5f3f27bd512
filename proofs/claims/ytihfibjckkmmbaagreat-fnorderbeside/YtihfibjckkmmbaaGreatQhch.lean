/- The law FnOrderBeside, walked: it answers true, and leaves all as it was. Of whatever code. -/
import Derived.Below
import Derived.BigQuiet
import Derived.Deep.AppendLies
import Derived.Deep.CutRange
import Derived.Deep.MidRow
import Derived.Deep.Quiet
import Derived.Deep.QuietTactic
import Derived.Deep.RegionHeld3
import Derived.Deep.RegionLaw
import Derived.Deep.RegionWith
import Derived.Deep.Slices
import Derived.Deep.WholeRow
import Derived.Handy
import Derived.Laws.AppendOwn
import Derived.Laws.AppendOwnNone
import Derived.Laws.EntriesVeiled
import Derived.Laws.IdiomCopy
import Derived.Laws.OwnMore
import Derived.Lib.AppendZerosOnto
import Derived.Lib.SliceRun
import Derived.LoopIn
import Derived.LoopN
import Derived.LoopNIn
import Derived.Maps.AppendAt
import Derived.OwnWalkIn
import Derived.RangeFuncBound
import Derived.RangeFuncLeaves
import Derived.RangeFuncNested
import Derived.Shelf.Abstract
import Derived.Shelf.SlSortCmp.NoneTotal
import Derived.Sort.Grow
import Derived.TacticsInMore
import Derived.WalkKit
import Derived.WalkLawsBesides
import Derived.WalkSpells
import Derived.Deep.OwnRows
import Derived.Test.YtihfibjckkmmbaaGreatRows
import Derived.Test.YtihfibjckkmmbaaGreatQhai
import Derived.Test.YtihfibjckkmmbaaGreatQhbu
import Derived.Test.YtihfibjckkmmbaaGreatQhby
import Derived.Test.YtihfibjckkmmbaaGreatQhca
import Derived.Test.YtihfibjckkmmbaaGreatQhcf
import Derived.Test.YtihfibjckkmmbaaGreatQhcg
namespace Go.Proofs.YtihfibjckkmmbaaGreat
open Go.RowKit
theorem nums_appB (l m:List Int):nums (l++m)=nums l++nums m:=by simp [nums]
theorem M.both_take {s1 s2 t1 t2:List Int} {pl:Nat} {ya yb:Int} (hs:pl < s2.length) (ht:pl < t2.length) (h3:pl < 3) (ea:s2[pl]=ya) (eb:t2[pl]=yb):(M.both (s1,s2) (t1,t2)).2.take (pl+1)=(M.both (s1,s2) (t1,t2)).2.take pl++[ya+yb]:=by
 have ga:s2.getD pl 0=ya:=by rw [List.getD_eq_getElem?_getD,List.getElem?_eq_getElem hs];exact ea
 have gb:t2.getD pl 0=yb:=by rw [List.getD_eq_getElem?_getD,List.getElem?_eq_getElem ht];exact eb
 rcases (show pl=0∨pl=1∨pl=2 by omega) with rfl | rfl | rfl
 ·simp only [M.both];rw [ga,gb];rfl
 ·simp only [M.both];rw [ga,gb];rfl
 ·simp only [M.both];rw [ga,gb];rfl
structure BeR (w W:World) (va:Option (Value × Nat × List Value)) (vb:Option Value) (S:Option Nat):Prop where
 bel:Below w.heap.size w W
 a:∀ v n xs,va=some (v,n,xs)→W.ownsRow w.heap.size 3 1 v n xs
 b:∀ u,vb=some u→W.ownsRow w.heap.size 3 1 u 0 []
 s:∀ k,S=some k→w.heap.size≤k∧k < W.heap.size∧W.heap[k]?=some (.cells #[.slice none 0 0,.slice none 0 0] 35 (0,0))
 ab:∀ v n xs u,va=some (v,n,xs)→vb=some u→∀ k,v.ownBlock=some k→u.ownBlock≠some k
 as_:∀ v n xs k,va=some (v,n,xs)→S=some k→v.ownBlock≠some k
 bs:∀ u k,vb=some u→S=some k→u.ownBlock≠some k
theorem BeR.start (w W:World) (h:Below w.heap.size w W):BeR w W none none none:=⟨h,fun v n xs e=>(by cases e),fun u e=>(by cases e),fun k e=>(by cases e),fun v n xs u e=>(by cases e),fun v n xs k e=>(by cases e),fun u k e=>(by cases e)⟩
theorem BeR.allocA {w W:World} {vb:Option Value} {S:Option Nat} (h:BeR w W none vb S):BeR w (W.alloc (.cells #[] 3)) (some (.slice (some ⟨W.heap.size,0,none⟩) 0 0,0,[])) vb S:=by
 refine ⟨h.bel.alloc h.bel.size _,fun v n xs e=>?_,fun u e=>(h.b u e).alloc _,fun k e=>?_,fun v n xs u e e2 k hk=>?_,fun v n xs k e e2 hk=>?_,h.bs⟩
 ·simp only [Option.some.injEq,Prod.mk.injEq] at e
  obtain ⟨rfl,rfl,rfl⟩:=e
  exact own_emp (heap_alloc_new W _) h.bel.size
 ·obtain ⟨h1,h2,h3⟩:=h.s k e
  exact ⟨h1,by simp;omega,((below1 W _).block k h2).trans h3⟩
 ·simp only [Option.some.injEq,Prod.mk.injEq] at e
  obtain ⟨rfl,rfl,rfl⟩:=e
  have e3:W.heap.size=k:=Option.some.inj hk
  intro e4
  have:=((h.b u e2).lt k e4).2;omega
 ·simp only [Option.some.injEq,Prod.mk.injEq] at e
  obtain ⟨rfl,rfl,rfl⟩:=e
  have e3:W.heap.size=k:=Option.some.inj hk
  have:=(h.s k e2).2.1;omega
theorem BeR.allocB {w W:World} {va:Option (Value × Nat × List Value)} {S:Option Nat} (h:BeR w W va none S):BeR w (W.alloc (.cells #[] 3)) va (some (.slice (some ⟨W.heap.size,0,none⟩) 0 0)) S:=by
 refine ⟨h.bel.alloc h.bel.size _,fun v n xs e=>(h.a v n xs e).alloc _,fun u e=>?_,fun k e=>?_,fun v n xs u e e2 k hk=>?_,h.as_,fun u k e e2 hk=>?_⟩
 ·obtain rfl:=Option.some.inj e
  exact own_emp (heap_alloc_new W _) h.bel.size
 ·obtain ⟨h1,h2,h3⟩:=h.s k e
  exact ⟨h1,by simp;omega,((below1 W _).block k h2).trans h3⟩
 ·obtain rfl:=Option.some.inj e2
  intro e4
  have e3:W.heap.size=k:=Option.some.inj e4
  have:=((h.a v n xs e).lt k hk).2;omega
 ·obtain rfl:=Option.some.inj e
  have e3:W.heap.size=k:=Option.some.inj hk
  have:=(h.s k e2).2.1;omega
theorem BeR.allocS {w W:World} {va:Option (Value × Nat × List Value)} {vb:Option Value} (h:BeR w W va vb none):BeR w (W.alloc (.cells #[.slice none 0 0,.slice none 0 0] 35)) va vb (some W.heap.size):=by
 refine ⟨h.bel.alloc h.bel.size _,fun v n xs e=>(h.a v n xs e).alloc _,fun u e=>(h.b u e).alloc _,fun k e=>?_,h.ab,fun v n xs k e e2 hk=>?_,fun u k e e2 hk=>?_⟩
 ·obtain rfl:=Option.some.inj e
  exact ⟨h.bel.size,by simp,heap_alloc_new W _⟩
 ·obtain rfl:=Option.some.inj e2
  have:=((h.a v n xs e).lt _ hk).2;omega
 ·obtain rfl:=Option.some.inj e2
  have:=((h.b u e).lt _ hk).2;omega
theorem BeR.app {w W W':World} {v v':Value} {n n':Nat} {xs xs':List Value} {vb:Option Value} {S:Option Nat} (h:BeR w W (some (v,n,xs)) vb S) (ho:W'.ownsRow w.heap.size 3 1 v' n' xs') (hg:W.grownBy W' v.ownBlock) (hat:v'.ownBlock=v.ownBlock∨v'.ownBlock=some W.heap.size):BeR w W' (some (v',n',xs')) vb S:=by
 have new:∀ k,k < W.heap.size→v.ownBlock≠some k→v'.ownBlock≠some k:=fun k hk hne e=>by
  rcases hat with h1 | h1
  ·exact hne (h1▸e)
  ·rw [h1] at e;have:=Option.some.inj e;omega
 refine ⟨below_grown h.bel hg (fun k hk=>((h.a v n xs rfl).lt k hk).1) h.bel.size,fun u m ys e=>?_,fun u e=>?_,fun k e=>?_,fun u m ys z e e2 k hk=>?_,fun u m ys k e e2=>?_,h.bs⟩
 ·simp only [Option.some.injEq,Prod.mk.injEq] at e
  obtain ⟨rfl,rfl,rfl⟩:=e
  exact ho
 ·refine (h.b u e).kept hg ?_
  cases hv:u.ownBlock with
  | none=>exact .inl rfl
  | some k=>right;intro e3;exact h.ab v n xs u rfl e k e3.symm hv
 ·obtain ⟨h1,h2,h3⟩:=h.s k e
  exact ⟨h1,Nat.lt_of_lt_of_le h2 hg.size,(hg.block k h2 (fun e3=>h.as_ v n xs k rfl e e3.symm)).trans h3⟩
 ·simp only [Option.some.injEq,Prod.mk.injEq] at e
  obtain ⟨rfl,rfl,rfl⟩:=e
  intro e4
  exact new k ((h.b z e2).lt k e4).2 (fun e5=>h.ab v n xs z rfl e2 k e5 e4) hk
 ·simp only [Option.some.injEq,Prod.mk.injEq] at e
  obtain ⟨rfl,rfl,rfl⟩:=e
  exact new k (h.s k e2).2.1 (h.as_ v n xs k rfl e2)
theorem BeR.fin {w W:World} {va vb:Value} {l:List Int} {S:Nat} (h:BeR w W (some (va,l.length,nums l)) (some vb) (some S)):W.cell? ⟨S,0,none⟩=some (.slice none 0 0)∧W.cell? ⟨S,1,none⟩=some (.slice none 0 0)∧(∀ j,W.frozen? ⟨S,j,none⟩=false)∧VcB w S va vb l [] ((W.setCell ⟨S,0,none⟩ va).setCell ⟨S,1,none⟩ vb):=by
 obtain ⟨h1,h2,h3⟩:=h.s S rfl
 have k0:W.cell? ⟨S,0,none⟩=some (.slice none 0 0):=by unfold World.cell?;simp only;rw [h3];rfl
 have k1:W.cell? ⟨S,1,none⟩=some (.slice none 0 0):=by unfold World.cell?;simp only;rw [h3];rfl
 have kz:∀ j,W.frozen? ⟨S,j,none⟩=false:=fun j=>by unfold World.frozen?;simp only;rw [h3];simp
 have na:=h.as_ va _ _ S rfl rfl
 have nb:=h.bs vb S rfl rfl
 refine ⟨k0,k1,kz,⟨(h.bel.setCell h1 _).setCell h1 _,h1,by simpa using h2,?_,?_,fun j=>by rw [World.frozen?_setCell,World.frozen?_setCell];exact kz j,((h.a _ _ _ rfl).kept (setCell_grown W S 0 va) (.inr na)).kept (setCell_grown _ S 1 vb) (.inr na),((h.b _ rfl).kept (setCell_grown W S 0 va) (.inr nb)).kept (setCell_grown _ S 1 vb) (.inr nb),na,nb,h.ab _ _ _ _ rfl rfl⟩⟩
 ·rw [World.cell?_setCell_other _ _ _ _ (fun e=>by simp at e)]
  exact World.cell?_setCell_same _ _ _ k0
 ·exact World.cell?_setCell_same _ _ _ ((World.cell?_setCell_other _ _ _ _ (fun e=>by simp at e)).trans k1)
set_option maxHeartbeats 4000000 in
set_option maxRecDepth 100000 in
set_option linter.unusedSimpArgs false in
theorem lawBe_any (ca:Option Addr) (cb co L C:Nat) (x:Nat→Int) (ma:Option Addr) (ml C2:Nat) (w:World) (hL:L≤C) (had:0 < L→ca=some ⟨cb,co,none⟩) (hc:∀ i,i < L→w.cell? ⟨cb,co+i,none⟩=some (.int .u8 (x i))∧0≤x i∧x i≤255) :
  Calls Tryz.prog 6 #[.slice ca L C,.slice ma ml C2] w fun e w'=>e=.returned (.bool true)∧Below w.heap.size w w':=by
 by_cases hLb:L≤1048576∧ml≤1048576
 ·obtain ⟨hLa,hLm⟩:=hLb
  go_enter Tryz.func6,Tryz.ntmps6
  go_wp2_with fail
  refine (DrawTurnBeside_any ca cb co L C x _ hL had hc hLa).mono ?_
  rintro e w1 ⟨a,g,c,mm,a2,g2,c2,qq,rfl,hD⟩
  have hle:∀ t∈mm,t.length≤1048576:=fun t ht=>by have:=hD.ms t ht;omega
  have hml:mm.length≤1048576:=by have:=hD.ml;omega
  have hqe:∀ t∈qq,t.length≤1048576:=fun t ht=>by have:=hD.ns t ht;omega
  have hql:qq.length≤1048576:=by have:=hD.nl;omega
  have hm3:=hD.ml
  have hq3:=hD.nl
  have bA:=below2 w1 (.cells #[.slice a mm.length c] 25) (.cells #[.slice a2 qq.length c2] 25)
  have bwA:=hD.bel.trans (bA.mono hD.bel.size)
  have sP:=(Slot1.new w1 (.slice a mm.length c) 25).bl' (below1 _ (.cells #[.slice a2 qq.length c2] 25))
  have sO:=Slot1.new (w1.alloc (.cells #[.slice a mm.length c] 25)) (.slice a2 qq.length c2) 25
  rw [World.size_alloc] at sO
  have ssP:=hD.p.below bA (Nat.le_refl _)
  have ssO:=hD.q.below bA (Nat.le_refl _)
  clear had hc hD bA
  go_wp2_with fail
  generalize (w1.alloc (.cells #[.slice a mm.length c] 25)).alloc (.cells #[.slice a2 qq.length c2] 25)=WA at *
  obtain ⟨P,hP⟩:∃ P,w1.heap.size=P:=⟨_,rfl⟩
  rw [hP] at sP sO ⊢
  clear hP
  have CS:=sturnBeside_any a g 0 c mm hml hle a2 g2 0 c2 qq hql hqe
  have CI:=iturnBeside_any a g 0 c mm hml hle a2 g2 0 c2 qq hql hqe
  obtain ⟨nn,hn⟩:∃ nn,(M.turnBeside mm qq).getD []=nn:=⟨_,rfl⟩
  rw [hn] at CS CI
  obtain ⟨hn3,hn7⟩:=M.turnBeside_small hn
  have hnl:nn.length≤1048576:=by omega
  have hnls:∀ t∈nn,t.length≤1048576:=fun t ht=>by have:=hn7 t ht;omega
  obtain ⟨k,hk,hk3⟩:∃ k,ml % 3=k∧k < 3:=⟨_,rfl,Nat.mod_lt _ (by omega)⟩
  have hmd:Int.tmod (ml:Int) 3=(k:Int):=by rw [Int.tmod_eq_emod_of_nonneg (by omega),← hk];exact (Int.natCast_emod _ _).symm
  obtain ⟨kn,hkq⟩:∃ kn:Int,1+(k:Int)=kn:=⟨_,rfl⟩
  have hkn:IntKind.i64.wrap (1+(k:Int))=kn:=by rw [hkq];exact IntWalk.i64_in _ (by omega)
  have hkb:1≤kn∧kn≤3:=by omega
  have HS1:Hid ((M.turnBeside mm qq).isSome=true→nn=mm++qq∧(M.ownP mm qq=true→M.sortK ((M.orderAll mm kn).flatMap fun a=>(M.orderAll qq kn).map (M.both a))=M.orderAll nn kn∧(M.orderAll mm kn).length * (M.orderAll qq kn).length≤117649∧(∀ z∈M.orderAll mm kn,z.2.length=3∧(∀ x∈z.2,0≤x∧x≤3)∧z.1.length≤100)∧(∀ z∈M.orderAll qq kn,z.2.length=3∧(∀ x∈z.2,0≤x∧x≤3)∧z.1.length≤100))):=M.besideE_law hn hkb
  clear hk hkq hkb
  clear hn
  obtain ⟨ok,hok⟩:∃ ok,(M.turnBeside mm qq).isSome=ok:=⟨_,rfl⟩
  rw [hok] at CS CI HS1
  clear hok
  have LQ:=fun A B C D E F W h1 h2=>lpProg_any A B 0 C D E 0 F nn nn W hnl hnl hnls h1 h2
  rw [M.eqLL_yes rfl] at LQ
  refine (CS WA ssP ssO).mono ?_
  rintro e w2 ⟨v2,rfl,⟨vs2,hR2⟩,b2⟩
  obtain ⟨av,gv,cv,rfl,hss2⟩:=hR2.b.ss
  have bW:=below1 w2 (.cells #[.slice av nn.length cv] 25)
  have bAW:=b2.trans (bW.mono b2.size)
  have sPW:=sP.bl' bAW
  have sOW:=sO.bl' bAW
  have sW:=Slot1.new w2 (.slice av nn.length cv) 25
  have ssW:=hss2.below bW (Nat.le_refl _)
  clear hR2 hss2 b2 bW
  have x0:=sPW.c
  have x9:=sOW.c
  go_wp2_with fail
  generalize w2.alloc (.cells #[.slice av nn.length cv] 25)=WB at *
  generalize w2.heap.size=PW at *
  refine (CI WB (ssP.below bAW (Nat.le_refl _)) (ssO.below bAW (Nat.le_refl _))).mono ?_
  rintro e w3 ⟨v3,rfl,⟨vs3,hR3⟩,b3⟩
  obtain ⟨ai,gi,ci,rfl,hss3⟩:=hR3.b.ss
  have hcap:=hR3.b.cap
  have bQ:=below1 w3 (.cells #[.slice ai nn.length ci] 25)
  have bBQ:=b3.trans (bQ.mono b3.size)
  have bAQ:=bAW.trans (bBQ.mono bAW.size)
  have sPQ:=sP.bl' bAQ
  have sOQ:=sO.bl' bAQ
  have sQ:=Slot1.new w3 (.slice ai nn.length ci) 25
  have ssQ:=hss3.below bQ (Nat.le_refl _)
  have sWQ:=sW.bl' bBQ
  have ssWQ:=ssW.below bBQ (Nat.le_refl _)
  clear hR3 hss3 b3 bQ x0 x9 sPW sOW sW ssW
  have x1:=sQ.c
  have x2:=sWQ.c
  cases ok
  ·go_wp2_with fail
   generalize w3.alloc (.cells #[.slice ai nn.length ci] 25)=WC at *
   generalize w3.heap.size=PQ at *
   refine (LQ ai gi ci av gv cv _ ssQ ssWQ).mono ?_
   rintro e w4 ⟨rfl,b4⟩
   have sQ4:=sQ.bl' b4
   have sW4:=sWQ.bl' b4
   have bA4:=bAQ.trans (b4.mono bAQ.size)
   clear x1 x2
   have x1:=sQ4.c
   have x2:=sW4.c
   go_wp2_with fail
   refine (LQ ai gi ci av gv cv _ (ssQ.below b4 (Nat.le_refl _)) (ssWQ.below b4 (Nat.le_refl _))).mono ?_
   rintro e w5 ⟨rfl,b5⟩
   go_wp2_with fail
   go_ret
   exact ⟨rfl,bwA.trans ((bA4.trans (b5.mono bA4.size)).mono bwA.size)⟩
  ·go_wp2_with fail
   generalize w3.alloc (.cells #[.slice ai nn.length ci] 25)=WC at *
   generalize w3.heap.size=PQ at *
   refine (LQ ai gi ci av gv cv _ ssQ ssWQ).mono ?_
   rintro e WD ⟨rfl,b4⟩
   have sQD:=sQ.bl' b4
   have sPD:=sPQ.bl' b4
   have sOD:=sOQ.bl' b4
   have bAD:=bAQ.trans (b4.mono bAQ.size)
   have ssQD:=ssQ.below b4 (Nat.le_refl _)
   have ssPD:=ssP.below bAD (Nat.le_refl _)
   have ssOD:=ssO.below bAD (Nat.le_refl _)
   have bwD:=bwA.trans (bAD.mono bwA.size)
   have x0:=sPD.c
   have x1':=sQD.c
   have x9:=sOD.c
   have sWD:=sWQ.bl' b4
   have ssWD:=ssWQ.below b4 (Nat.le_refl _)
   obtain ⟨hnn,hfacts⟩:=HS1.out (by first | rfl | trivial)
   have HF:Hid (M.ownP mm qq=true→M.sortK ((M.orderAll mm kn).flatMap fun a=>(M.orderAll qq kn).map (M.both a))=M.orderAll nn kn∧(M.orderAll mm kn).length * (M.orderAll qq kn).length≤117649∧(∀ z∈M.orderAll mm kn,z.2.length=3∧(∀ x∈z.2,0≤x∧x≤3)∧z.1.length≤100)∧(∀ z∈M.orderAll qq kn,z.2.length=3∧(∀ x∈z.2,0≤x∧x≤3)∧z.1.length≤100)):=hfacts
   clear hfacts hnn x1 x2 sQ sPQ sOQ bAQ ssQ ssP ssO b4 bAD sWQ ssWQ bBQ bAW sP sO bwA CS CI HS1
   have x1:=sQD.c
   have x2:=sWD.c
   have CO:=lpOwn_any a g 0 c mm a2 g2 0 c2 qq WD hml hle hql hqe ssPD ssOD
   obtain ⟨ow,how⟩:∃ ow,M.ownP mm qq=ow:=⟨_,rfl⟩
   rw [how] at CO HF
   clear how
   go_wp2_with fail
   refine CO.mono ?_
   rintro e WX ⟨rfl,bX⟩
   have sQX:=sQD.bl' bX
   have sWX:=sWD.bl' bX
   have sPX:=sPD.bl' bX
   have sOX:=sOD.bl' bX
   have ssQX:=ssQD.below bX (Nat.le_refl _)
   have ssWX:=ssWD.below bX (Nat.le_refl _)
   have ssPX:=ssPD.below bX (Nat.le_refl _)
   have ssOX:=ssOD.below bX (Nat.le_refl _)
   have bwX:=bwD.trans (bX.mono bwD.size)
   clear x0 x1 x2 x9 sQD sWD sPD sOD ssQD ssWD ssPD ssOD bwD bX CO
   have x0:=sPX.c
   have x1:=sQX.c
   have x2:=sWX.c
   cases ow
   ·go_wp2_with fail
    refine (LQ ai gi ci av gv cv _ ssQX ssWX).mono ?_
    rintro e w5 ⟨rfl,b5⟩
    go_wp2_with fail
    go_ret
    exact ⟨rfl,bwX.trans (b5.mono bwX.size)⟩
   ·obtain ⟨hsort,hmany,hv1,hv2⟩:=HF.out rfl
    have HSO:Hid (M.sortK ((M.orderAll mm kn).flatMap fun a=>(M.orderAll qq kn).map (M.both a))=M.orderAll nn kn):=hsort
    clear HF hsort LQ sWX ssWX x2
    have hpl:=M.orderAll_len mm kn
    have hpk:=M.orderAll_le mm kn
    have hql3:=M.orderAll_len qq kn
    have hqk:=M.orderAll_le qq kn
    have hnl2:=M.orderAll_len nn kn
    have hnk2:=M.orderAll_le nn kn
    have CX:=fun (W:World) (h:DoSS W ai gi 0 nn)=>iorderAllK ai gi 0 ci nn kn W hnl hnls h
    have CP:=fun (W:World) (h:DoSS W a g 0 mm)=>iorderAllK a g 0 c mm kn W hml hle h
    have CR:=fun (W:World) (h:DoSS W a2 g2 0 qq)=>iorderAllK a2 g2 0 c2 qq kn W hql hqe h
    rw [← HSO.out] at CX hnl2 hnk2
    clear HSO
    obtain ⟨kp,hkp⟩:∃ kp,M.orderAll mm kn=kp:=⟨_,rfl⟩
    obtain ⟨kq,hkq⟩:∃ kq,M.orderAll qq kn=kq:=⟨_,rfl⟩
    rw [hkp] at CP CX hpl hpk hnl2 hnk2 hmany hv1
    rw [hkq] at CR CX hql3 hqk hnl2 hnk2 hmany hv2
    have HV1:Hid (∀ z∈kp,z.2.length=3∧(∀ x∈z.2,0≤x∧x≤3)∧z.1.length≤100):=hv1
    have HV2:Hid (∀ z∈kq,z.2.length=3∧(∀ x∈z.2,0≤x∧x≤3)∧z.1.length≤100):=hv2
    have HMB:Hid (∀ n m:Nat,n < kp.length→m≤kq.length→n * kq.length+m≤117649):=fun n m hn hm=>by
     have h1:(n+1) * kq.length≤kp.length * kq.length:=Nat.mul_le_mul_right _ hn
     rw [Nat.succ_mul] at h1;omega
    have HLN:Hid ((kp.flatMap fun a=>kq.map (M.both a)).length=kp.length * kq.length):=by
     show _=_
     clear HMB HV1 HV2 CX CP CR hnl2 hnk2 hpk hpl hmany hv1 hkp
     induction kp with
     | nil=>simp
     | cons a l ih=>rw [List.flatMap_cons,List.length_append,List.length_map,ih,List.length_cons,Nat.succ_mul];omega
    clear hkp hkq hv1 hv2
    obtain ⟨j0,hj,hy0,hy1,hy2⟩:=info_parts Tryz.infoSn2
    obtain ⟨i0,hi,hz0,hz1,hz2⟩:=info_parts Tryz.infoInt
    go_wp2_with fail
    refine (CP WX ssPX).mono ?_
    rintro e WE ⟨v1,rfl,hA⟩
    obtain ⟨au,gu,cu,rfl,hSE⟩:=hA.ex
    have bXE:=hA.bel
    have bwE:=bwX.trans (bXE.mono bwX.size)
    have sOE:=sOX.bl' bXE
    have sQE:=sQX.bl' bXE
    have ssOE:=ssOX.below bXE (Nat.le_refl _)
    have ssQE:=ssQX.below bXE (Nat.le_refl _)
    have x9:=sOE.c
    clear hA CP bXE sPX sOX sQX ssOX ssQX ssPX bwX x0 x1
    go_wp2_with fail
    refine (CR WE ssOE).mono ?_
    rintro e WG ⟨v2,rfl,hB⟩
    obtain ⟨aw,gw,cw,rfl,hTG⟩:=hB.ex
    have bEG:=hB.bel
    have bwG:=bwE.trans (bEG.mono bwE.size)
    have sQG:=sQE.bl' bEG
    have ssQG:=ssQE.below bEG (Nat.le_refl _)
    have hSG:=hSE.below bEG (Nat.le_refl _)
    have hemp:(WG.alloc (.cells #[] 35)).ownsRow WG.heap.size 35 2 (.slice (some ⟨WG.heap.size,0,none⟩) 0 0) 0 []:=own_emp (heap_alloc_new WG _) (Nat.le_refl _)
    have bE:=below1 WG (.cells #[] 35)
    clear hB CR sOE sQE ssOE ssQE x9 bEG hSE bwE
    go_wp2_with fail
    go_loopw [14,15] (fun s14 s15 wr=>∃ (n:Nat) (v:Value) (ss:List Sn),v=s14∧s15=.int .i64 n∧n≤kp.length∧Hid (ss.length=n * kq.length)∧SnL wr WG.heap.size v ss∧Hid (kys ss=(kp.take n).flatMap fun a=>kq.map (M.both a))∧Below WG.heap.size WG wr) (fun _ s15 _=>kp.length - (intOf s15).toNat)
    case atStart=>exact ⟨0,_,[],rfl,rfl,Nat.zero_le _,by show _=_;simp,⟨hemp,fun s hs=>(by cases hs),fun s hs=>(by cases hs)⟩,by show _=_;simp [kys],bE⟩
    case round =>
     obtain ⟨n,v,ss,hv13,rfl,hn,HSL,hL,HKY,hb⟩:=hrel
     subst hv13
     clear hemp bE
     by_cases hlt:n < kp.length
     ·have i1:(n:Int) < kp.length:=by omega
      obtain ⟨rfl⟩:=hSG.addr (by omega)
      obtain ⟨s,h1,h2',c1,c2',hsa⟩:=hSG.row n hlt
      obtain ⟨e1,e2⟩:=hpk _ (List.getElem_mem hlt)
      rw [← h1] at e1
      rw [Nat.zero_add] at c1 c2'
      obtain ⟨h3,hval,hs100⟩:=HV1.out _ (List.getElem_mem hlt)
      rw [← h2'] at h3 hval
      rw [← h1] at hs100
      have HS3:Hid (s.l2.length=3):=h3
      have HVS:Hid (∀ x∈s.l2,0≤x∧x≤3):=hval
      have HKA:Hid (kp[n]=(s.l1,s.l2)):=by show _=_;rw [h1,h2']
      have HKX:Hid ((kp.take (n+1)).flatMap (fun a=>kq.map (M.both a))=(kp.take n).flatMap (fun a=>kq.map (M.both a))++kq.map (M.both (s.l1,s.l2))):=by show _=_;rw [List.take_succ_eq_append_getElem hlt,List.flatMap_append,HKA.out];simp
      have hadr:=hsa.last.addr (by omega)
      have hSW:∀ w',Below WG.heap.size WG w'→w'.cell? ⟨gu,n * 2,none⟩=some (.slice s.a1 s.l1.length s.c1)∧w'.cell? ⟨gu,n * 2+1,none⟩=some (.slice (some ⟨s.b2,s.o2,none⟩) 3 s.c2):=fun w' hb'=>by
       refine ⟨(hb'.cell (p:=⟨gu,n * 2,none⟩) (World.block_lt_of_cell? _ _ c1)).trans c1,?_⟩
       rw [(hb'.cell (p:=⟨gu,n * 2+1,none⟩) (World.block_lt_of_cell? _ _ c2')).trans c2',hadr,h3]
      have HR2:Hid (∀ w',Below WG.heap.size WG w'→∀ i (h:i < s.l2.length),w'.cell? ⟨s.b2,s.o2+i,none⟩=some (.int .i64 s.l2[i])):=fun w' hb' i h=>(hsa.last.below hb' (Nat.le_refl _)).row i h
      clear h1 h2' c1 c2' h3 hval hadr e2 HKA
      obtain ⟨ww,rfl⟩:∃ ww:World,ww=wr:=⟨_,rfl⟩
      go_wp2_with fail
      go_loopw [14,16] (fun s14 s16 wr=>∃ (m:Nat) (v:Value) (st:List Sn),v=s14∧s16=.int .i64 m∧m≤kq.length∧Hid (st.length=n * kq.length+m)∧SnL wr WG.heap.size v st∧Hid (kys st=(kp.take n).flatMap (fun a=>kq.map (M.both a))++(kq.take m).map (M.both (s.l1,s.l2)))∧Below WG.heap.size WG wr) (fun _ s16 _=>kq.length - (intOf s16).toNat)
      case atStart=>exact ⟨0,_,ss,rfl,rfl,Nat.zero_le _,by show _=_;rw [HSL.out];omega,hL,by show _=_;rw [HKY.out];simp,hb⟩
      case round =>
       clear hL HKY HSL hb
       obtain ⟨m,v,st,hv14,rfl,hm,HTL,hL,HKZ,hb⟩:=hrel
       subst hv14
       by_cases hmt:m < kq.length
       ·have j1:(m:Int) < kq.length:=by omega
        obtain ⟨rfl⟩:=hTG.addr (by omega)
        obtain ⟨t,h1,h2',c1,c2',hta⟩:=hTG.row m hmt
        obtain ⟨f1,f2⟩:=hqk _ (List.getElem_mem hmt)
        rw [← h1] at f1
        rw [Nat.zero_add] at c1 c2'
        obtain ⟨h3,hval,ht100⟩:=HV2.out _ (List.getElem_mem hmt)
        rw [← h2'] at h3 hval
        rw [← h1] at ht100
        have HT3:Hid (t.l2.length=3):=h3
        have HVT:Hid (∀ x∈t.l2,0≤x∧x≤3):=hval
        have HQX:Hid ((kq.take (m+1)).map (M.both (s.l1,s.l2))=(kq.take m).map (M.both (s.l1,s.l2))++[M.both (s.l1,s.l2) (t.l1,t.l2)]):=by show _=_;rw [List.take_succ_eq_append_getElem hmt,List.map_append,h1,h2'];rfl
        have hadr:=hta.last.addr (by omega)
        have hTW:∀ w',Below WG.heap.size WG w'→w'.cell? ⟨gw,m * 2,none⟩=some (.slice t.a1 t.l1.length t.c1)∧w'.cell? ⟨gw,m * 2+1,none⟩=some (.slice (some ⟨t.b2,t.o2,none⟩) 3 t.c2):=fun w' hb'=>by
         refine ⟨(hb'.cell (p:=⟨gw,m * 2,none⟩) (World.block_lt_of_cell? _ _ c1)).trans c1,?_⟩
         rw [(hb'.cell (p:=⟨gw,m * 2+1,none⟩) (World.block_lt_of_cell? _ _ c2')).trans c2',hadr,h3]
        have HT2:Hid (∀ w',Below WG.heap.size WG w'→∀ i (h:i < t.l2.length),w'.cell? ⟨t.b2,t.o2+i,none⟩=some (.int .i64 t.l2[i])):=fun w' hb' i h=>(hta.last.below hb' (Nat.le_refl _)).row i h
        have hmb:=HMB.out n (m+1) hlt (by omega)
        clear h1 h2' c1 c2' h3 hval hadr f2
        obtain ⟨wo,rfl⟩:∃ wo:World,wo=wr:=⟨_,rfl⟩
        have hwo:=hb.size
        have hlen12:s.l1.length+t.l1.length≤1048576:=by omega
        obtain ⟨m1,hm1⟩:∃ m1,s.l1++t.l1=m1:=⟨_,rfl⟩
        have HM1:Hid (s.l1++t.l1=m1):=hm1
        clear hm1
        go_wp2_with fail
        go_cut [17] from 94 to 138 (fun s17 wc=>∃ S va vb,s17=.pointer (some ⟨S,0,none⟩)∧VcB wo S va vb m1 [] wc)
        case first =>
         refine wp_region_held_drew (S:=fun w'=>Below WG.heap.size WG w') (by kernel_rfl) hb.drew (fun hH=>?_)
         refine takeD 1 (some 95) (.slice (some ⟨gu,0,none⟩) kp.length cu) hH rfl rfl (by kernel_rfl) (by kernel_rfl) (by kernel_rfl) (fun _ _ _ h=>h) (Or.inl ⟨by rfl,by intro w' hSw;go_simp⟩) ?_
         simp only [Act.put,List.setIfInBounds_toArray,List.set_cons_zero,List.set_cons_succ]
         refine takeD 2 (some 96) (.int .i64 n) hH rfl rfl (by kernel_rfl) (by kernel_rfl) (by kernel_rfl) (fun _ _ _ h=>h) (Or.inl ⟨by rfl,by intro w' hSw;go_simp⟩) ?_
         simp only [Act.put,List.setIfInBounds_toArray,List.set_cons_zero,List.set_cons_succ]
         refine takeD 3 (some 97) (.pointer (some ⟨gu,n * 2,none⟩)) hH rfl rfl (by kernel_rfl) (by kernel_rfl) (by kernel_rfl) (fun _ _ _ h=>h) (Or.inl ⟨by rfl,by intro w' hSw;go_simp⟩) ?_
         simp only [Act.put,List.setIfInBounds_toArray,List.set_cons_zero,List.set_cons_succ]
         refine takeD 4 (some 98) (.pointer (some ⟨gu,n * 2,none⟩)) hH rfl rfl (by kernel_rfl) (by kernel_rfl) (by kernel_rfl) (fun _ _ _ h=>h) (Or.inl ⟨by rfl,by intro w' hSw;go_simp⟩) ?_
         simp only [Act.put,List.setIfInBounds_toArray,List.set_cons_zero,List.set_cons_succ]
         refine takeD 5 (some 99) (.slice s.a1 s.l1.length s.c1) hH rfl rfl (by kernel_rfl) (by kernel_rfl) (by kernel_rfl) (fun _ _ _ h=>h) (Or.inl ⟨by rfl,by intro w' hSw;have hc:=(hSW w' hSw).1;go_simp⟩) ?_
         simp only [Act.put,List.setIfInBounds_toArray,List.set_cons_zero,List.set_cons_succ]
         refine takeD 7 (some 101) (.slice (some ⟨gw,0,none⟩) kq.length cw) hH rfl rfl (by kernel_rfl) (by kernel_rfl) (by kernel_rfl) (fun _ _ _ h=>h) (Or.inl ⟨by rfl,by intro w' hSw;go_simp⟩) ?_
         simp only [Act.put,List.setIfInBounds_toArray,List.set_cons_zero,List.set_cons_succ]
         refine takeD 8 (some 102) (.int .i64 m) hH rfl rfl (by kernel_rfl) (by kernel_rfl) (by kernel_rfl) (fun _ _ _ h=>h) (Or.inl ⟨by rfl,by intro w' hSw;go_simp⟩) ?_
         simp only [Act.put,List.setIfInBounds_toArray,List.set_cons_zero,List.set_cons_succ]
         refine takeD 9 (some 103) (.pointer (some ⟨gw,m * 2,none⟩)) hH rfl rfl (by kernel_rfl) (by kernel_rfl) (by kernel_rfl) (fun _ _ _ h=>h) (Or.inl ⟨by rfl,by intro w' hSw;go_simp⟩) ?_
         simp only [Act.put,List.setIfInBounds_toArray,List.set_cons_zero,List.set_cons_succ]
         refine takeD 10 (some 104) (.pointer (some ⟨gw,m * 2,none⟩)) hH rfl rfl (by kernel_rfl) (by kernel_rfl) (by kernel_rfl) (fun _ _ _ h=>h) (Or.inl ⟨by rfl,by intro w' hSw;go_simp⟩) ?_
         simp only [Act.put,List.setIfInBounds_toArray,List.set_cons_zero,List.set_cons_succ]
         refine takeD 11 (some 105) (.slice t.a1 t.l1.length t.c1) hH rfl rfl (by kernel_rfl) (by kernel_rfl) (by kernel_rfl) (fun _ _ _ h=>h) (Or.inl ⟨by rfl,by intro w' hSw;have hc:=(hTW w' hSw).1;go_simp⟩) ?_
         simp only [Act.put,List.setIfInBounds_toArray,List.set_cons_zero,List.set_cons_succ]
         have hR0:=BeR.start wo wo.drew (Below.refl _ _).drew
         generalize wo.drew=W0 at *
         refine wpAnyH_ready (rs:=[0,13,15]) (by kernel_rfl) (by simp) ?_
         refine AllReadyH.cons rfl (fun K' hK=>?_) (AllReadyH.cons rfl (fun K' hK=>?_) (AllReadyH.cons rfl (fun K' hK=>?_) AllReadyH.nil))
         ·rw [if_pos (by rfl)]
          go_simp
          have hR1:=BeR.allocA hR0
          refine hK.out _ _ (hb.trans (hR1.bel.mono hwo)) (fun hHW1=>?_)
          clear hK K'
          obtain ⟨va,hva⟩:∃ z:Value,Value.slice (some ⟨W0.heap.size,0,none⟩) 0 0=z:=⟨_,rfl⟩
          rw [hva] at hR1 ⊢
          clear hva
          generalize W0.alloc (.cells #[] 3)=W1 at *
          refine wpAnyH_ready (rs:=[6,13,15]) (by kernel_rfl) (by simp) ?_
          refine AllReadyH.cons rfl (fun K' hK=>?_) (AllReadyH.cons rfl (fun K' hK=>?_) (AllReadyH.cons rfl (fun K' hK=>?_) AllReadyH.nil))
          ·refine step_append_nums (by rfl) (.tmp 94) (.tmp 99) 26 (by rfl) (some 100) (by rfl) wo.heap.size 3 i0 Tryz.underlying26 hi hz0 hz1 hz2 va 0 [] (by rfl) (hR1.a _ _ _ rfl) hR1.bel.size s.a1 s.b1 s.o1 s.c1 s.l1.length s.l1 rfl (by rfl) (hsa.reads.below (hb.trans (hR1.bel.mono hwo)) (Nat.le_refl _)) (by omega) ?_
           intro vx W2 hown2 hg2 hat2
           have hR2:=hR1.app hown2 hg2 hat2
           clear hown2 hg2 hat2
           simp only [Act.put,List.setIfInBounds_toArray,List.set_cons_zero,List.set_cons_succ]
           refine hK.out _ _ (hb.trans (hR2.bel.mono hwo)) (fun hHW2=>?_)
           clear hK K'
           refine wpAnyH_ready (rs:=[12,13,15]) (by kernel_rfl) (by simp) ?_
           refine AllReadyH.cons rfl (fun K' hK=>?_) (AllReadyH.cons rfl (fun K' hK=>?_) (AllReadyH.cons rfl (fun K' hK=>?_) AllReadyH.nil))
           ·refine step_append_nums (by rfl) (.tmp 100) (.tmp 105) 26 (by rfl) (some 106) (by rfl) wo.heap.size 3 i0 Tryz.underlying26 hi hz0 hz1 hz2 vx (0+s.l1.length) ([]++nums s.l1) (by rfl) (hR2.a _ _ _ rfl) hR2.bel.size t.a1 t.b1 t.o1 t.c1 t.l1.length t.l1 rfl (by rfl) (hta.reads.below (hb.trans (hR2.bel.mono hwo)) (Nat.le_refl _)) (by omega) ?_
            intro vc W3 hown3 hg3 hat3
            have hR3:=hR2.app hown3 hg3 hat3
            clear hown3 hg3 hat3
            simp only [Act.put,List.setIfInBounds_toArray,List.set_cons_zero,List.set_cons_succ]
            refine hK.out _ _ (hb.trans (hR3.bel.mono hwo)) (fun hHW3=>?_)
            clear hK K'
            simp only [Nat.zero_add,List.nil_append] at hR3
            refine wpAnyH_ready (rs:=[13,15]) (by kernel_rfl) (by simp) ?_
            refine AllReadyH.cons rfl (fun K' hK=>?_) (AllReadyH.cons rfl (fun K' hK=>?_) AllReadyH.nil)
            ·rw [if_pos (by rfl)]
             go_simp
             have hR4:=BeR.allocB hR3
             refine hK.out _ _ (hb.trans (hR4.bel.mono hwo)) (fun hHW4=>?_)
             clear hK K'
             obtain ⟨vb,hvb⟩:∃ z:Value,Value.slice (some ⟨W3.heap.size,0,none⟩) 0 0=z:=⟨_,rfl⟩
             rw [hvb] at hR4 ⊢
             clear hvb
             generalize W3.alloc (.cells #[] 3)=W4 at *
             have hFW4:BeR wo W4 (some (vc,m1.length,nums m1)) (some vb) none:=by rw [← HM1.out,List.length_append,nums_appB];exact hR4
             obtain ⟨p1,p2,p3,rfl,_⟩:=own_nums (hFW4.a _ _ _ rfl)
             obtain ⟨p4,p5,p6,hvb,_⟩:=own_nums (l:=[]) (hFW4.b _ rfl)
             have hvb':vb=.slice p4 0 p6:=hvb
             clear hvb hR4
             subst hvb'
             refine takeD 14 (some 108) (.agg #[.slice p1 m1.length p3,.slice p4 0 p6]) hHW4 rfl rfl (by kernel_rfl) (by kernel_rfl) (by kernel_rfl) (fun _ _ _ h=>h) (Or.inl ⟨by rfl,by intro w' hSw;go_simp⟩) ?_
             simp only [Act.put,List.setIfInBounds_toArray,List.set_cons_zero,List.set_cons_succ]
             refine wpAnyH_ready (rs:=[15]) (by kernel_rfl) (by simp) ?_
             refine AllReadyH.cons rfl (fun K' hK=>?_) AllReadyH.nil
             rw [if_pos (by rfl)]
             go_simp
             have hR5:=BeR.allocS hFW4
             refine hK.out _ _ (hb.trans (hR5.bel.mono hwo)) (fun hHW5=>?_)
             clear hK K'
             obtain ⟨S,hS⟩:∃ S,W4.heap.size=S:=⟨_,rfl⟩
             rw [hS] at hR5 ⊢
             clear hS
             generalize W4.alloc (.cells #[.slice none 0 0,.slice none 0 0] 35)=W5 at *
             refine wpAnyH_ready (rs:=[16]) (by kernel_rfl) (by simp) ?_
             refine AllReadyH.cons rfl (fun K' hK=>?_) AllReadyH.nil
             obtain ⟨k0,k1,kz,hF⟩:=hR5.fin
             rw [if_pos (by rfl)]
             go_simp
             refine hK.out _ _ (hb.trans (hF.bel.mono hwo)) (fun hHz=>?_)
             clear hK K' k0 k1 kz
             refine wpAnyH_done (by kernel_rfl) ?_ _
             go_wp2_with fail
             go_meet
             case rel=>exact ⟨S,_,_,rfl,hF⟩
            ·rw [if_pos (by rfl)]
             go_simp
             have hR6:=BeR.allocS hR3
             refine hK.out _ _ (hb.trans (hR6.bel.mono hwo)) (fun hHW6=>?_)
             clear hK K'
             obtain ⟨S,hS⟩:∃ S,W3.heap.size=S:=⟨_,rfl⟩
             rw [hS] at hR6 ⊢
             clear hS
             generalize W3.alloc (.cells #[.slice none 0 0,.slice none 0 0] 35)=W6 at *
             refine wpAnyH_ready (rs:=[13]) (by kernel_rfl) (by simp) ?_
             refine AllReadyH.cons rfl (fun K' hK=>?_) AllReadyH.nil
             rw [if_pos (by rfl)]
             go_simp
             have hR7:=BeR.allocB hR6
             refine hK.out _ _ (hb.trans (hR7.bel.mono hwo)) (fun hHW7=>?_)
             clear hK K'
             obtain ⟨vb,hvb⟩:∃ z:Value,Value.slice (some ⟨W6.heap.size,0,none⟩) 0 0=z:=⟨_,rfl⟩
             rw [hvb] at hR7 ⊢
             clear hvb
             generalize W6.alloc (.cells #[] 3)=W7 at *
             have hFW7:BeR wo W7 (some (vc,m1.length,nums m1)) (some vb) (some S):=by rw [← HM1.out,List.length_append,nums_appB];exact hR7
             obtain ⟨p1,p2,p3,rfl,_⟩:=own_nums (hFW7.a _ _ _ rfl)
             obtain ⟨p4,p5,p6,hvb,_⟩:=own_nums (l:=[]) (hFW7.b _ rfl)
             have hvb':vb=.slice p4 0 p6:=hvb
             clear hvb hR7
             subst hvb'
             refine takeD 14 (some 108) (.agg #[.slice p1 m1.length p3,.slice p4 0 p6]) hHW7 rfl rfl (by kernel_rfl) (by kernel_rfl) (by kernel_rfl) (fun _ _ _ h=>h) (Or.inl ⟨by rfl,by intro w' hSw;go_simp⟩) ?_
             simp only [Act.put,List.setIfInBounds_toArray,List.set_cons_zero,List.set_cons_succ]
             refine wpAnyH_ready (rs:=[16]) (by kernel_rfl) (by simp) ?_
             refine AllReadyH.cons rfl (fun K' hK=>?_) AllReadyH.nil
             obtain ⟨k0,k1,kz,hF⟩:=hFW7.fin
             rw [if_pos (by rfl)]
             go_simp
             refine hK.out _ _ (hb.trans (hF.bel.mono hwo)) (fun hHz=>?_)
             clear hK K' k0 k1 kz
             refine wpAnyH_done (by kernel_rfl) ?_ _
             go_wp2_with fail
             go_meet
             case rel=>exact ⟨S,_,_,rfl,hF⟩
           ·rw [if_pos (by rfl)]
            go_simp
            have hR8:=BeR.allocB hR2
            refine hK.out _ _ (hb.trans (hR8.bel.mono hwo)) (fun hHW8=>?_)
            clear hK K'
            obtain ⟨vb,hvb⟩:∃ z:Value,Value.slice (some ⟨W2.heap.size,0,none⟩) 0 0=z:=⟨_,rfl⟩
            rw [hvb] at hR8 ⊢
            clear hvb
            generalize W2.alloc (.cells #[] 3)=W8 at *
            refine wpAnyH_ready (rs:=[12,15]) (by kernel_rfl) (by simp) ?_
            refine AllReadyH.cons rfl (fun K' hK=>?_) (AllReadyH.cons rfl (fun K' hK=>?_) AllReadyH.nil)
            ·refine step_append_nums (by rfl) (.tmp 100) (.tmp 105) 26 (by rfl) (some 106) (by rfl) wo.heap.size 3 i0 Tryz.underlying26 hi hz0 hz1 hz2 vx (0+s.l1.length) ([]++nums s.l1) (by rfl) (hR8.a _ _ _ rfl) hR8.bel.size t.a1 t.b1 t.o1 t.c1 t.l1.length t.l1 rfl (by rfl) (hta.reads.below (hb.trans (hR8.bel.mono hwo)) (Nat.le_refl _)) (by omega) ?_
             intro vc W9 hown9 hg9 hat9
             have hR9:=hR8.app hown9 hg9 hat9
             clear hown9 hg9 hat9
             simp only [Act.put,List.setIfInBounds_toArray,List.set_cons_zero,List.set_cons_succ]
             refine hK.out _ _ (hb.trans (hR9.bel.mono hwo)) (fun hHW9=>?_)
             clear hK K'
             simp only [Nat.zero_add,List.nil_append] at hR9
             have hFW9:BeR wo W9 (some (vc,m1.length,nums m1)) (some vb) none:=by rw [← HM1.out,List.length_append,nums_appB];exact hR9
             obtain ⟨p1,p2,p3,rfl,_⟩:=own_nums (hFW9.a _ _ _ rfl)
             obtain ⟨p4,p5,p6,hvb,_⟩:=own_nums (l:=[]) (hFW9.b _ rfl)
             have hvb':vb=.slice p4 0 p6:=hvb
             clear hvb hR9
             subst hvb'
             refine takeD 14 (some 108) (.agg #[.slice p1 m1.length p3,.slice p4 0 p6]) hHW9 rfl rfl (by kernel_rfl) (by kernel_rfl) (by kernel_rfl) (fun _ _ _ h=>h) (Or.inl ⟨by rfl,by intro w' hSw;go_simp⟩) ?_
             simp only [Act.put,List.setIfInBounds_toArray,List.set_cons_zero,List.set_cons_succ]
             refine wpAnyH_ready (rs:=[15]) (by kernel_rfl) (by simp) ?_
             refine AllReadyH.cons rfl (fun K' hK=>?_) AllReadyH.nil
             rw [if_pos (by rfl)]
             go_simp
             have hR10:=BeR.allocS hFW9
             refine hK.out _ _ (hb.trans (hR10.bel.mono hwo)) (fun hHW10=>?_)
             clear hK K'
             obtain ⟨S,hS⟩:∃ S,W9.heap.size=S:=⟨_,rfl⟩
             rw [hS] at hR10 ⊢
             clear hS
             generalize W9.alloc (.cells #[.slice none 0 0,.slice none 0 0] 35)=W10 at *
             refine wpAnyH_ready (rs:=[16]) (by kernel_rfl) (by simp) ?_
             refine AllReadyH.cons rfl (fun K' hK=>?_) AllReadyH.nil
             obtain ⟨k0,k1,kz,hF⟩:=hR10.fin
             rw [if_pos (by rfl)]
             go_simp
             refine hK.out _ _ (hb.trans (hF.bel.mono hwo)) (fun hHz=>?_)
             clear hK K' k0 k1 kz
             refine wpAnyH_done (by kernel_rfl) ?_ _
             go_wp2_with fail
             go_meet
             case rel=>exact ⟨S,_,_,rfl,hF⟩
            ·rw [if_pos (by rfl)]
             go_simp
             have hR11:=BeR.allocS hR8
             refine hK.out _ _ (hb.trans (hR11.bel.mono hwo)) (fun hHW11=>?_)
             clear hK K'
             obtain ⟨S,hS⟩:∃ S,W8.heap.size=S:=⟨_,rfl⟩
             rw [hS] at hR11 ⊢
             clear hS
             generalize W8.alloc (.cells #[.slice none 0 0,.slice none 0 0] 35)=W11 at *
             refine wpAnyH_ready (rs:=[12]) (by kernel_rfl) (by simp) ?_
             refine AllReadyH.cons rfl (fun K' hK=>?_) AllReadyH.nil
             refine step_append_nums (by rfl) (.tmp 100) (.tmp 105) 26 (by rfl) (some 106) (by rfl) wo.heap.size 3 i0 Tryz.underlying26 hi hz0 hz1 hz2 vx (0+s.l1.length) ([]++nums s.l1) (by rfl) (hR11.a _ _ _ rfl) hR11.bel.size t.a1 t.b1 t.o1 t.c1 t.l1.length t.l1 rfl (by rfl) (hta.reads.below (hb.trans (hR11.bel.mono hwo)) (Nat.le_refl _)) (by omega) ?_
             intro vc W12 hown12 hg12 hat12
             have hR12:=hR11.app hown12 hg12 hat12
             clear hown12 hg12 hat12
             simp only [Act.put,List.setIfInBounds_toArray,List.set_cons_zero,List.set_cons_succ]
             refine hK.out _ _ (hb.trans (hR12.bel.mono hwo)) (fun hHW12=>?_)
             clear hK K'
             simp only [Nat.zero_add,List.nil_append] at hR12
             have hFW12:BeR wo W12 (some (vc,m1.length,nums m1)) (some vb) (some S):=by rw [← HM1.out,List.length_append,nums_appB];exact hR12
             obtain ⟨p1,p2,p3,rfl,_⟩:=own_nums (hFW12.a _ _ _ rfl)
             obtain ⟨p4,p5,p6,hvb,_⟩:=own_nums (l:=[]) (hFW12.b _ rfl)
             have hvb':vb=.slice p4 0 p6:=hvb
             clear hvb hR12
             subst hvb'
             refine takeD 14 (some 108) (.agg #[.slice p1 m1.length p3,.slice p4 0 p6]) hHW12 rfl rfl (by kernel_rfl) (by kernel_rfl) (by kernel_rfl) (fun _ _ _ h=>h) (Or.inl ⟨by rfl,by intro w' hSw;go_simp⟩) ?_
             simp only [Act.put,List.setIfInBounds_toArray,List.set_cons_zero,List.set_cons_succ]
             refine wpAnyH_ready (rs:=[16]) (by kernel_rfl) (by simp) ?_
             refine AllReadyH.cons rfl (fun K' hK=>?_) AllReadyH.nil
             obtain ⟨k0,k1,kz,hF⟩:=hFW12.fin
             rw [if_pos (by rfl)]
             go_simp
             refine hK.out _ _ (hb.trans (hF.bel.mono hwo)) (fun hHz=>?_)
             clear hK K' k0 k1 kz
             refine wpAnyH_done (by kernel_rfl) ?_ _
             go_wp2_with fail
             go_meet
             case rel=>exact ⟨S,_,_,rfl,hF⟩
           ·rw [if_pos (by rfl)]
            go_simp
            have hR13:=BeR.allocS hR2
            refine hK.out _ _ (hb.trans (hR13.bel.mono hwo)) (fun hHW13=>?_)
            clear hK K'
            obtain ⟨S,hS⟩:∃ S,W2.heap.size=S:=⟨_,rfl⟩
            rw [hS] at hR13 ⊢
            clear hS
            generalize W2.alloc (.cells #[.slice none 0 0,.slice none 0 0] 35)=W13 at *
            refine wpAnyH_ready (rs:=[12,13]) (by kernel_rfl) (by simp) ?_
            refine AllReadyH.cons rfl (fun K' hK=>?_) (AllReadyH.cons rfl (fun K' hK=>?_) AllReadyH.nil)
            ·refine step_append_nums (by rfl) (.tmp 100) (.tmp 105) 26 (by rfl) (some 106) (by rfl) wo.heap.size 3 i0 Tryz.underlying26 hi hz0 hz1 hz2 vx (0+s.l1.length) ([]++nums s.l1) (by rfl) (hR13.a _ _ _ rfl) hR13.bel.size t.a1 t.b1 t.o1 t.c1 t.l1.length t.l1 rfl (by rfl) (hta.reads.below (hb.trans (hR13.bel.mono hwo)) (Nat.le_refl _)) (by omega) ?_
             intro vc W14 hown14 hg14 hat14
             have hR14:=hR13.app hown14 hg14 hat14
             clear hown14 hg14 hat14
             simp only [Act.put,List.setIfInBounds_toArray,List.set_cons_zero,List.set_cons_succ]
             refine hK.out _ _ (hb.trans (hR14.bel.mono hwo)) (fun hHW14=>?_)
             clear hK K'
             simp only [Nat.zero_add,List.nil_append] at hR14
             refine wpAnyH_ready (rs:=[13]) (by kernel_rfl) (by simp) ?_
             refine AllReadyH.cons rfl (fun K' hK=>?_) AllReadyH.nil
             rw [if_pos (by rfl)]
             go_simp
             have hR15:=BeR.allocB hR14
             refine hK.out _ _ (hb.trans (hR15.bel.mono hwo)) (fun hHW15=>?_)
             clear hK K'
             obtain ⟨vb,hvb⟩:∃ z:Value,Value.slice (some ⟨W14.heap.size,0,none⟩) 0 0=z:=⟨_,rfl⟩
             rw [hvb] at hR15 ⊢
             clear hvb
             generalize W14.alloc (.cells #[] 3)=W15 at *
             have hFW15:BeR wo W15 (some (vc,m1.length,nums m1)) (some vb) (some S):=by rw [← HM1.out,List.length_append,nums_appB];exact hR15
             obtain ⟨p1,p2,p3,rfl,_⟩:=own_nums (hFW15.a _ _ _ rfl)
             obtain ⟨p4,p5,p6,hvb,_⟩:=own_nums (l:=[]) (hFW15.b _ rfl)
             have hvb':vb=.slice p4 0 p6:=hvb
             clear hvb hR15
             subst hvb'
             refine takeD 14 (some 108) (.agg #[.slice p1 m1.length p3,.slice p4 0 p6]) hHW15 rfl rfl (by kernel_rfl) (by kernel_rfl) (by kernel_rfl) (fun _ _ _ h=>h) (Or.inl ⟨by rfl,by intro w' hSw;go_simp⟩) ?_
             simp only [Act.put,List.setIfInBounds_toArray,List.set_cons_zero,List.set_cons_succ]
             refine wpAnyH_ready (rs:=[16]) (by kernel_rfl) (by simp) ?_
             refine AllReadyH.cons rfl (fun K' hK=>?_) AllReadyH.nil
             obtain ⟨k0,k1,kz,hF⟩:=hFW15.fin
             rw [if_pos (by rfl)]
             go_simp
             refine hK.out _ _ (hb.trans (hF.bel.mono hwo)) (fun hHz=>?_)
             clear hK K' k0 k1 kz
             refine wpAnyH_done (by kernel_rfl) ?_ _
             go_wp2_with fail
             go_meet
             case rel=>exact ⟨S,_,_,rfl,hF⟩
            ·rw [if_pos (by rfl)]
             go_simp
             have hR16:=BeR.allocB hR13
             refine hK.out _ _ (hb.trans (hR16.bel.mono hwo)) (fun hHW16=>?_)
             clear hK K'
             obtain ⟨vb,hvb⟩:∃ z:Value,Value.slice (some ⟨W13.heap.size,0,none⟩) 0 0=z:=⟨_,rfl⟩
             rw [hvb] at hR16 ⊢
             clear hvb
             generalize W13.alloc (.cells #[] 3)=W16 at *
             refine wpAnyH_ready (rs:=[12]) (by kernel_rfl) (by simp) ?_
             refine AllReadyH.cons rfl (fun K' hK=>?_) AllReadyH.nil
             refine step_append_nums (by rfl) (.tmp 100) (.tmp 105) 26 (by rfl) (some 106) (by rfl) wo.heap.size 3 i0 Tryz.underlying26 hi hz0 hz1 hz2 vx (0+s.l1.length) ([]++nums s.l1) (by rfl) (hR16.a _ _ _ rfl) hR16.bel.size t.a1 t.b1 t.o1 t.c1 t.l1.length t.l1 rfl (by rfl) (hta.reads.below (hb.trans (hR16.bel.mono hwo)) (Nat.le_refl _)) (by omega) ?_
             intro vc W17 hown17 hg17 hat17
             have hR17:=hR16.app hown17 hg17 hat17
             clear hown17 hg17 hat17
             simp only [Act.put,List.setIfInBounds_toArray,List.set_cons_zero,List.set_cons_succ]
             refine hK.out _ _ (hb.trans (hR17.bel.mono hwo)) (fun hHW17=>?_)
             clear hK K'
             simp only [Nat.zero_add,List.nil_append] at hR17
             have hFW17:BeR wo W17 (some (vc,m1.length,nums m1)) (some vb) (some S):=by rw [← HM1.out,List.length_append,nums_appB];exact hR17
             obtain ⟨p1,p2,p3,rfl,_⟩:=own_nums (hFW17.a _ _ _ rfl)
             obtain ⟨p4,p5,p6,hvb,_⟩:=own_nums (l:=[]) (hFW17.b _ rfl)
             have hvb':vb=.slice p4 0 p6:=hvb
             clear hvb hR17
             subst hvb'
             refine takeD 14 (some 108) (.agg #[.slice p1 m1.length p3,.slice p4 0 p6]) hHW17 rfl rfl (by kernel_rfl) (by kernel_rfl) (by kernel_rfl) (fun _ _ _ h=>h) (Or.inl ⟨by rfl,by intro w' hSw;go_simp⟩) ?_
             simp only [Act.put,List.setIfInBounds_toArray,List.set_cons_zero,List.set_cons_succ]
             refine wpAnyH_ready (rs:=[16]) (by kernel_rfl) (by simp) ?_
             refine AllReadyH.cons rfl (fun K' hK=>?_) AllReadyH.nil
             obtain ⟨k0,k1,kz,hF⟩:=hFW17.fin
             rw [if_pos (by rfl)]
             go_simp
             refine hK.out _ _ (hb.trans (hF.bel.mono hwo)) (fun hHz=>?_)
             clear hK K' k0 k1 kz
             refine wpAnyH_done (by kernel_rfl) ?_ _
             go_wp2_with fail
             go_meet
             case rel=>exact ⟨S,_,_,rfl,hF⟩
          ·rw [if_pos (by rfl)]
           go_simp
           have hR18:=BeR.allocB hR1
           refine hK.out _ _ (hb.trans (hR18.bel.mono hwo)) (fun hHW18=>?_)
           clear hK K'
           obtain ⟨vb,hvb⟩:∃ z:Value,Value.slice (some ⟨W1.heap.size,0,none⟩) 0 0=z:=⟨_,rfl⟩
           rw [hvb] at hR18 ⊢
           clear hvb
           generalize W1.alloc (.cells #[] 3)=W18 at *
           refine wpAnyH_ready (rs:=[6,15]) (by kernel_rfl) (by simp) ?_
           refine AllReadyH.cons rfl (fun K' hK=>?_) (AllReadyH.cons rfl (fun K' hK=>?_) AllReadyH.nil)
           ·refine step_append_nums (by rfl) (.tmp 94) (.tmp 99) 26 (by rfl) (some 100) (by rfl) wo.heap.size 3 i0 Tryz.underlying26 hi hz0 hz1 hz2 va 0 [] (by rfl) (hR18.a _ _ _ rfl) hR18.bel.size s.a1 s.b1 s.o1 s.c1 s.l1.length s.l1 rfl (by rfl) (hsa.reads.below (hb.trans (hR18.bel.mono hwo)) (Nat.le_refl _)) (by omega) ?_
            intro vx W19 hown19 hg19 hat19
            have hR19:=hR18.app hown19 hg19 hat19
            clear hown19 hg19 hat19
            simp only [Act.put,List.setIfInBounds_toArray,List.set_cons_zero,List.set_cons_succ]
            refine hK.out _ _ (hb.trans (hR19.bel.mono hwo)) (fun hHW19=>?_)
            clear hK K'
            refine wpAnyH_ready (rs:=[12,15]) (by kernel_rfl) (by simp) ?_
            refine AllReadyH.cons rfl (fun K' hK=>?_) (AllReadyH.cons rfl (fun K' hK=>?_) AllReadyH.nil)
            ·refine step_append_nums (by rfl) (.tmp 100) (.tmp 105) 26 (by rfl) (some 106) (by rfl) wo.heap.size 3 i0 Tryz.underlying26 hi hz0 hz1 hz2 vx (0+s.l1.length) ([]++nums s.l1) (by rfl) (hR19.a _ _ _ rfl) hR19.bel.size t.a1 t.b1 t.o1 t.c1 t.l1.length t.l1 rfl (by rfl) (hta.reads.below (hb.trans (hR19.bel.mono hwo)) (Nat.le_refl _)) (by omega) ?_
             intro vc W20 hown20 hg20 hat20
             have hR20:=hR19.app hown20 hg20 hat20
             clear hown20 hg20 hat20
             simp only [Act.put,List.setIfInBounds_toArray,List.set_cons_zero,List.set_cons_succ]
             refine hK.out _ _ (hb.trans (hR20.bel.mono hwo)) (fun hHW20=>?_)
             clear hK K'
             simp only [Nat.zero_add,List.nil_append] at hR20
             have hFW20:BeR wo W20 (some (vc,m1.length,nums m1)) (some vb) none:=by rw [← HM1.out,List.length_append,nums_appB];exact hR20
             obtain ⟨p1,p2,p3,rfl,_⟩:=own_nums (hFW20.a _ _ _ rfl)
             obtain ⟨p4,p5,p6,hvb,_⟩:=own_nums (l:=[]) (hFW20.b _ rfl)
             have hvb':vb=.slice p4 0 p6:=hvb
             clear hvb hR20
             subst hvb'
             refine takeD 14 (some 108) (.agg #[.slice p1 m1.length p3,.slice p4 0 p6]) hHW20 rfl rfl (by kernel_rfl) (by kernel_rfl) (by kernel_rfl) (fun _ _ _ h=>h) (Or.inl ⟨by rfl,by intro w' hSw;go_simp⟩) ?_
             simp only [Act.put,List.setIfInBounds_toArray,List.set_cons_zero,List.set_cons_succ]
             refine wpAnyH_ready (rs:=[15]) (by kernel_rfl) (by simp) ?_
             refine AllReadyH.cons rfl (fun K' hK=>?_) AllReadyH.nil
             rw [if_pos (by rfl)]
             go_simp
             have hR21:=BeR.allocS hFW20
             refine hK.out _ _ (hb.trans (hR21.bel.mono hwo)) (fun hHW21=>?_)
             clear hK K'
             obtain ⟨S,hS⟩:∃ S,W20.heap.size=S:=⟨_,rfl⟩
             rw [hS] at hR21 ⊢
             clear hS
             generalize W20.alloc (.cells #[.slice none 0 0,.slice none 0 0] 35)=W21 at *
             refine wpAnyH_ready (rs:=[16]) (by kernel_rfl) (by simp) ?_
             refine AllReadyH.cons rfl (fun K' hK=>?_) AllReadyH.nil
             obtain ⟨k0,k1,kz,hF⟩:=hR21.fin
             rw [if_pos (by rfl)]
             go_simp
             refine hK.out _ _ (hb.trans (hF.bel.mono hwo)) (fun hHz=>?_)
             clear hK K' k0 k1 kz
             refine wpAnyH_done (by kernel_rfl) ?_ _
             go_wp2_with fail
             go_meet
             case rel=>exact ⟨S,_,_,rfl,hF⟩
            ·rw [if_pos (by rfl)]
             go_simp
             have hR22:=BeR.allocS hR19
             refine hK.out _ _ (hb.trans (hR22.bel.mono hwo)) (fun hHW22=>?_)
             clear hK K'
             obtain ⟨S,hS⟩:∃ S,W19.heap.size=S:=⟨_,rfl⟩
             rw [hS] at hR22 ⊢
             clear hS
             generalize W19.alloc (.cells #[.slice none 0 0,.slice none 0 0] 35)=W22 at *
             refine wpAnyH_ready (rs:=[12]) (by kernel_rfl) (by simp) ?_
             refine AllReadyH.cons rfl (fun K' hK=>?_) AllReadyH.nil
             refine step_append_nums (by rfl) (.tmp 100) (.tmp 105) 26 (by rfl) (some 106) (by rfl) wo.heap.size 3 i0 Tryz.underlying26 hi hz0 hz1 hz2 vx (0+s.l1.length) ([]++nums s.l1) (by rfl) (hR22.a _ _ _ rfl) hR22.bel.size t.a1 t.b1 t.o1 t.c1 t.l1.length t.l1 rfl (by rfl) (hta.reads.below (hb.trans (hR22.bel.mono hwo)) (Nat.le_refl _)) (by omega) ?_
             intro vc W23 hown23 hg23 hat23
             have hR23:=hR22.app hown23 hg23 hat23
             clear hown23 hg23 hat23
             simp only [Act.put,List.setIfInBounds_toArray,List.set_cons_zero,List.set_cons_succ]
             refine hK.out _ _ (hb.trans (hR23.bel.mono hwo)) (fun hHW23=>?_)
             clear hK K'
             simp only [Nat.zero_add,List.nil_append] at hR23
             have hFW23:BeR wo W23 (some (vc,m1.length,nums m1)) (some vb) (some S):=by rw [← HM1.out,List.length_append,nums_appB];exact hR23
             obtain ⟨p1,p2,p3,rfl,_⟩:=own_nums (hFW23.a _ _ _ rfl)
             obtain ⟨p4,p5,p6,hvb,_⟩:=own_nums (l:=[]) (hFW23.b _ rfl)
             have hvb':vb=.slice p4 0 p6:=hvb
             clear hvb hR23
             subst hvb'
             refine takeD 14 (some 108) (.agg #[.slice p1 m1.length p3,.slice p4 0 p6]) hHW23 rfl rfl (by kernel_rfl) (by kernel_rfl) (by kernel_rfl) (fun _ _ _ h=>h) (Or.inl ⟨by rfl,by intro w' hSw;go_simp⟩) ?_
             simp only [Act.put,List.setIfInBounds_toArray,List.set_cons_zero,List.set_cons_succ]
             refine wpAnyH_ready (rs:=[16]) (by kernel_rfl) (by simp) ?_
             refine AllReadyH.cons rfl (fun K' hK=>?_) AllReadyH.nil
             obtain ⟨k0,k1,kz,hF⟩:=hFW23.fin
             rw [if_pos (by rfl)]
             go_simp
             refine hK.out _ _ (hb.trans (hF.bel.mono hwo)) (fun hHz=>?_)
             clear hK K' k0 k1 kz
             refine wpAnyH_done (by kernel_rfl) ?_ _
             go_wp2_with fail
             go_meet
             case rel=>exact ⟨S,_,_,rfl,hF⟩
           ·rw [if_pos (by rfl)]
            go_simp
            have hR24:=BeR.allocS hR18
            refine hK.out _ _ (hb.trans (hR24.bel.mono hwo)) (fun hHW24=>?_)
            clear hK K'
            obtain ⟨S,hS⟩:∃ S,W18.heap.size=S:=⟨_,rfl⟩
            rw [hS] at hR24 ⊢
            clear hS
            generalize W18.alloc (.cells #[.slice none 0 0,.slice none 0 0] 35)=W24 at *
            refine wpAnyH_ready (rs:=[6]) (by kernel_rfl) (by simp) ?_
            refine AllReadyH.cons rfl (fun K' hK=>?_) AllReadyH.nil
            refine step_append_nums (by rfl) (.tmp 94) (.tmp 99) 26 (by rfl) (some 100) (by rfl) wo.heap.size 3 i0 Tryz.underlying26 hi hz0 hz1 hz2 va 0 [] (by rfl) (hR24.a _ _ _ rfl) hR24.bel.size s.a1 s.b1 s.o1 s.c1 s.l1.length s.l1 rfl (by rfl) (hsa.reads.below (hb.trans (hR24.bel.mono hwo)) (Nat.le_refl _)) (by omega) ?_
            intro vx W25 hown25 hg25 hat25
            have hR25:=hR24.app hown25 hg25 hat25
            clear hown25 hg25 hat25
            simp only [Act.put,List.setIfInBounds_toArray,List.set_cons_zero,List.set_cons_succ]
            refine hK.out _ _ (hb.trans (hR25.bel.mono hwo)) (fun hHW25=>?_)
            clear hK K'
            refine wpAnyH_ready (rs:=[12]) (by kernel_rfl) (by simp) ?_
            refine AllReadyH.cons rfl (fun K' hK=>?_) AllReadyH.nil
            refine step_append_nums (by rfl) (.tmp 100) (.tmp 105) 26 (by rfl) (some 106) (by rfl) wo.heap.size 3 i0 Tryz.underlying26 hi hz0 hz1 hz2 vx (0+s.l1.length) ([]++nums s.l1) (by rfl) (hR25.a _ _ _ rfl) hR25.bel.size t.a1 t.b1 t.o1 t.c1 t.l1.length t.l1 rfl (by rfl) (hta.reads.below (hb.trans (hR25.bel.mono hwo)) (Nat.le_refl _)) (by omega) ?_
            intro vc W26 hown26 hg26 hat26
            have hR26:=hR25.app hown26 hg26 hat26
            clear hown26 hg26 hat26
            simp only [Act.put,List.setIfInBounds_toArray,List.set_cons_zero,List.set_cons_succ]
            refine hK.out _ _ (hb.trans (hR26.bel.mono hwo)) (fun hHW26=>?_)
            clear hK K'
            simp only [Nat.zero_add,List.nil_append] at hR26
            have hFW26:BeR wo W26 (some (vc,m1.length,nums m1)) (some vb) (some S):=by rw [← HM1.out,List.length_append,nums_appB];exact hR26
            obtain ⟨p1,p2,p3,rfl,_⟩:=own_nums (hFW26.a _ _ _ rfl)
            obtain ⟨p4,p5,p6,hvb,_⟩:=own_nums (l:=[]) (hFW26.b _ rfl)
            have hvb':vb=.slice p4 0 p6:=hvb
            clear hvb hR26
            subst hvb'
            refine takeD 14 (some 108) (.agg #[.slice p1 m1.length p3,.slice p4 0 p6]) hHW26 rfl rfl (by kernel_rfl) (by kernel_rfl) (by kernel_rfl) (fun _ _ _ h=>h) (Or.inl ⟨by rfl,by intro w' hSw;go_simp⟩) ?_
            simp only [Act.put,List.setIfInBounds_toArray,List.set_cons_zero,List.set_cons_succ]
            refine wpAnyH_ready (rs:=[16]) (by kernel_rfl) (by simp) ?_
            refine AllReadyH.cons rfl (fun K' hK=>?_) AllReadyH.nil
            obtain ⟨k0,k1,kz,hF⟩:=hFW26.fin
            rw [if_pos (by rfl)]
            go_simp
            refine hK.out _ _ (hb.trans (hF.bel.mono hwo)) (fun hHz=>?_)
            clear hK K' k0 k1 kz
            refine wpAnyH_done (by kernel_rfl) ?_ _
            go_wp2_with fail
            go_meet
            case rel=>exact ⟨S,_,_,rfl,hF⟩
          ·rw [if_pos (by rfl)]
           go_simp
           have hR27:=BeR.allocS hR1
           refine hK.out _ _ (hb.trans (hR27.bel.mono hwo)) (fun hHW27=>?_)
           clear hK K'
           obtain ⟨S,hS⟩:∃ S,W1.heap.size=S:=⟨_,rfl⟩
           rw [hS] at hR27 ⊢
           clear hS
           generalize W1.alloc (.cells #[.slice none 0 0,.slice none 0 0] 35)=W27 at *
           refine wpAnyH_ready (rs:=[6,13]) (by kernel_rfl) (by simp) ?_
           refine AllReadyH.cons rfl (fun K' hK=>?_) (AllReadyH.cons rfl (fun K' hK=>?_) AllReadyH.nil)
           ·refine step_append_nums (by rfl) (.tmp 94) (.tmp 99) 26 (by rfl) (some 100) (by rfl) wo.heap.size 3 i0 Tryz.underlying26 hi hz0 hz1 hz2 va 0 [] (by rfl) (hR27.a _ _ _ rfl) hR27.bel.size s.a1 s.b1 s.o1 s.c1 s.l1.length s.l1 rfl (by rfl) (hsa.reads.below (hb.trans (hR27.bel.mono hwo)) (Nat.le_refl _)) (by omega) ?_
            intro vx W28 hown28 hg28 hat28
            have hR28:=hR27.app hown28 hg28 hat28
            clear hown28 hg28 hat28
            simp only [Act.put,List.setIfInBounds_toArray,List.set_cons_zero,List.set_cons_succ]
            refine hK.out _ _ (hb.trans (hR28.bel.mono hwo)) (fun hHW28=>?_)
            clear hK K'
            refine wpAnyH_ready (rs:=[12,13]) (by kernel_rfl) (by simp) ?_
            refine AllReadyH.cons rfl (fun K' hK=>?_) (AllReadyH.cons rfl (fun K' hK=>?_) AllReadyH.nil)
            ·refine step_append_nums (by rfl) (.tmp 100) (.tmp 105) 26 (by rfl) (some 106) (by rfl) wo.heap.size 3 i0 Tryz.underlying26 hi hz0 hz1 hz2 vx (0+s.l1.length) ([]++nums s.l1) (by rfl) (hR28.a _ _ _ rfl) hR28.bel.size t.a1 t.b1 t.o1 t.c1 t.l1.length t.l1 rfl (by rfl) (hta.reads.below (hb.trans (hR28.bel.mono hwo)) (Nat.le_refl _)) (by omega) ?_
             intro vc W29 hown29 hg29 hat29
             have hR29:=hR28.app hown29 hg29 hat29
             clear hown29 hg29 hat29
             simp only [Act.put,List.setIfInBounds_toArray,List.set_cons_zero,List.set_cons_succ]
             refine hK.out _ _ (hb.trans (hR29.bel.mono hwo)) (fun hHW29=>?_)
             clear hK K'
             simp only [Nat.zero_add,List.nil_append] at hR29
             refine wpAnyH_ready (rs:=[13]) (by kernel_rfl) (by simp) ?_
             refine AllReadyH.cons rfl (fun K' hK=>?_) AllReadyH.nil
             rw [if_pos (by rfl)]
             go_simp
             have hR30:=BeR.allocB hR29
             refine hK.out _ _ (hb.trans (hR30.bel.mono hwo)) (fun hHW30=>?_)
             clear hK K'
             obtain ⟨vb,hvb⟩:∃ z:Value,Value.slice (some ⟨W29.heap.size,0,none⟩) 0 0=z:=⟨_,rfl⟩
             rw [hvb] at hR30 ⊢
             clear hvb
             generalize W29.alloc (.cells #[] 3)=W30 at *
             have hFW30:BeR wo W30 (some (vc,m1.length,nums m1)) (some vb) (some S):=by rw [← HM1.out,List.length_append,nums_appB];exact hR30
             obtain ⟨p1,p2,p3,rfl,_⟩:=own_nums (hFW30.a _ _ _ rfl)
             obtain ⟨p4,p5,p6,hvb,_⟩:=own_nums (l:=[]) (hFW30.b _ rfl)
             have hvb':vb=.slice p4 0 p6:=hvb
             clear hvb hR30
             subst hvb'
             refine takeD 14 (some 108) (.agg #[.slice p1 m1.length p3,.slice p4 0 p6]) hHW30 rfl rfl (by kernel_rfl) (by kernel_rfl) (by kernel_rfl) (fun _ _ _ h=>h) (Or.inl ⟨by rfl,by intro w' hSw;go_simp⟩) ?_
             simp only [Act.put,List.setIfInBounds_toArray,List.set_cons_zero,List.set_cons_succ]
             refine wpAnyH_ready (rs:=[16]) (by kernel_rfl) (by simp) ?_
             refine AllReadyH.cons rfl (fun K' hK=>?_) AllReadyH.nil
             obtain ⟨k0,k1,kz,hF⟩:=hFW30.fin
             rw [if_pos (by rfl)]
             go_simp
             refine hK.out _ _ (hb.trans (hF.bel.mono hwo)) (fun hHz=>?_)
             clear hK K' k0 k1 kz
             refine wpAnyH_done (by kernel_rfl) ?_ _
             go_wp2_with fail
             go_meet
             case rel=>exact ⟨S,_,_,rfl,hF⟩
            ·rw [if_pos (by rfl)]
             go_simp
             have hR31:=BeR.allocB hR28
             refine hK.out _ _ (hb.trans (hR31.bel.mono hwo)) (fun hHW31=>?_)
             clear hK K'
             obtain ⟨vb,hvb⟩:∃ z:Value,Value.slice (some ⟨W28.heap.size,0,none⟩) 0 0=z:=⟨_,rfl⟩
             rw [hvb] at hR31 ⊢
             clear hvb
             generalize W28.alloc (.cells #[] 3)=W31 at *
             refine wpAnyH_ready (rs:=[12]) (by kernel_rfl) (by simp) ?_
             refine AllReadyH.cons rfl (fun K' hK=>?_) AllReadyH.nil
             refine step_append_nums (by rfl) (.tmp 100) (.tmp 105) 26 (by rfl) (some 106) (by rfl) wo.heap.size 3 i0 Tryz.underlying26 hi hz0 hz1 hz2 vx (0+s.l1.length) ([]++nums s.l1) (by rfl) (hR31.a _ _ _ rfl) hR31.bel.size t.a1 t.b1 t.o1 t.c1 t.l1.length t.l1 rfl (by rfl) (hta.reads.below (hb.trans (hR31.bel.mono hwo)) (Nat.le_refl _)) (by omega) ?_
             intro vc W32 hown32 hg32 hat32
             have hR32:=hR31.app hown32 hg32 hat32
             clear hown32 hg32 hat32
             simp only [Act.put,List.setIfInBounds_toArray,List.set_cons_zero,List.set_cons_succ]
             refine hK.out _ _ (hb.trans (hR32.bel.mono hwo)) (fun hHW32=>?_)
             clear hK K'
             simp only [Nat.zero_add,List.nil_append] at hR32
             have hFW32:BeR wo W32 (some (vc,m1.length,nums m1)) (some vb) (some S):=by rw [← HM1.out,List.length_append,nums_appB];exact hR32
             obtain ⟨p1,p2,p3,rfl,_⟩:=own_nums (hFW32.a _ _ _ rfl)
             obtain ⟨p4,p5,p6,hvb,_⟩:=own_nums (l:=[]) (hFW32.b _ rfl)
             have hvb':vb=.slice p4 0 p6:=hvb
             clear hvb hR32
             subst hvb'
             refine takeD 14 (some 108) (.agg #[.slice p1 m1.length p3,.slice p4 0 p6]) hHW32 rfl rfl (by kernel_rfl) (by kernel_rfl) (by kernel_rfl) (fun _ _ _ h=>h) (Or.inl ⟨by rfl,by intro w' hSw;go_simp⟩) ?_
             simp only [Act.put,List.setIfInBounds_toArray,List.set_cons_zero,List.set_cons_succ]
             refine wpAnyH_ready (rs:=[16]) (by kernel_rfl) (by simp) ?_
             refine AllReadyH.cons rfl (fun K' hK=>?_) AllReadyH.nil
             obtain ⟨k0,k1,kz,hF⟩:=hFW32.fin
             rw [if_pos (by rfl)]
             go_simp
             refine hK.out _ _ (hb.trans (hF.bel.mono hwo)) (fun hHz=>?_)
             clear hK K' k0 k1 kz
             refine wpAnyH_done (by kernel_rfl) ?_ _
             go_wp2_with fail
             go_meet
             case rel=>exact ⟨S,_,_,rfl,hF⟩
           ·rw [if_pos (by rfl)]
            go_simp
            have hR33:=BeR.allocB hR27
            refine hK.out _ _ (hb.trans (hR33.bel.mono hwo)) (fun hHW33=>?_)
            clear hK K'
            obtain ⟨vb,hvb⟩:∃ z:Value,Value.slice (some ⟨W27.heap.size,0,none⟩) 0 0=z:=⟨_,rfl⟩
            rw [hvb] at hR33 ⊢
            clear hvb
            generalize W27.alloc (.cells #[] 3)=W33 at *
            refine wpAnyH_ready (rs:=[6]) (by kernel_rfl) (by simp) ?_
            refine AllReadyH.cons rfl (fun K' hK=>?_) AllReadyH.nil
            refine step_append_nums (by rfl) (.tmp 94) (.tmp 99) 26 (by rfl) (some 100) (by rfl) wo.heap.size 3 i0 Tryz.underlying26 hi hz0 hz1 hz2 va 0 [] (by rfl) (hR33.a _ _ _ rfl) hR33.bel.size s.a1 s.b1 s.o1 s.c1 s.l1.length s.l1 rfl (by rfl) (hsa.reads.below (hb.trans (hR33.bel.mono hwo)) (Nat.le_refl _)) (by omega) ?_
            intro vx W34 hown34 hg34 hat34
            have hR34:=hR33.app hown34 hg34 hat34
            clear hown34 hg34 hat34
            simp only [Act.put,List.setIfInBounds_toArray,List.set_cons_zero,List.set_cons_succ]
            refine hK.out _ _ (hb.trans (hR34.bel.mono hwo)) (fun hHW34=>?_)
            clear hK K'
            refine wpAnyH_ready (rs:=[12]) (by kernel_rfl) (by simp) ?_
            refine AllReadyH.cons rfl (fun K' hK=>?_) AllReadyH.nil
            refine step_append_nums (by rfl) (.tmp 100) (.tmp 105) 26 (by rfl) (some 106) (by rfl) wo.heap.size 3 i0 Tryz.underlying26 hi hz0 hz1 hz2 vx (0+s.l1.length) ([]++nums s.l1) (by rfl) (hR34.a _ _ _ rfl) hR34.bel.size t.a1 t.b1 t.o1 t.c1 t.l1.length t.l1 rfl (by rfl) (hta.reads.below (hb.trans (hR34.bel.mono hwo)) (Nat.le_refl _)) (by omega) ?_
            intro vc W35 hown35 hg35 hat35
            have hR35:=hR34.app hown35 hg35 hat35
            clear hown35 hg35 hat35
            simp only [Act.put,List.setIfInBounds_toArray,List.set_cons_zero,List.set_cons_succ]
            refine hK.out _ _ (hb.trans (hR35.bel.mono hwo)) (fun hHW35=>?_)
            clear hK K'
            simp only [Nat.zero_add,List.nil_append] at hR35
            have hFW35:BeR wo W35 (some (vc,m1.length,nums m1)) (some vb) (some S):=by rw [← HM1.out,List.length_append,nums_appB];exact hR35
            obtain ⟨p1,p2,p3,rfl,_⟩:=own_nums (hFW35.a _ _ _ rfl)
            obtain ⟨p4,p5,p6,hvb,_⟩:=own_nums (l:=[]) (hFW35.b _ rfl)
            have hvb':vb=.slice p4 0 p6:=hvb
            clear hvb hR35
            subst hvb'
            refine takeD 14 (some 108) (.agg #[.slice p1 m1.length p3,.slice p4 0 p6]) hHW35 rfl rfl (by kernel_rfl) (by kernel_rfl) (by kernel_rfl) (fun _ _ _ h=>h) (Or.inl ⟨by rfl,by intro w' hSw;go_simp⟩) ?_
            simp only [Act.put,List.setIfInBounds_toArray,List.set_cons_zero,List.set_cons_succ]
            refine wpAnyH_ready (rs:=[16]) (by kernel_rfl) (by simp) ?_
            refine AllReadyH.cons rfl (fun K' hK=>?_) AllReadyH.nil
            obtain ⟨k0,k1,kz,hF⟩:=hFW35.fin
            rw [if_pos (by rfl)]
            go_simp
            refine hK.out _ _ (hb.trans (hF.bel.mono hwo)) (fun hHz=>?_)
            clear hK K' k0 k1 kz
            refine wpAnyH_done (by kernel_rfl) ?_ _
            go_wp2_with fail
            go_meet
            case rel=>exact ⟨S,_,_,rfl,hF⟩
         ·rw [if_pos (by rfl)]
          go_simp
          have hR36:=BeR.allocB hR0
          refine hK.out _ _ (hb.trans (hR36.bel.mono hwo)) (fun hHW36=>?_)
          clear hK K'
          obtain ⟨vb,hvb⟩:∃ z:Value,Value.slice (some ⟨W0.heap.size,0,none⟩) 0 0=z:=⟨_,rfl⟩
          rw [hvb] at hR36 ⊢
          clear hvb
          generalize W0.alloc (.cells #[] 3)=W36 at *
          refine wpAnyH_ready (rs:=[0,15]) (by kernel_rfl) (by simp) ?_
          refine AllReadyH.cons rfl (fun K' hK=>?_) (AllReadyH.cons rfl (fun K' hK=>?_) AllReadyH.nil)
          ·rw [if_pos (by rfl)]
           go_simp
           have hR37:=BeR.allocA hR36
           refine hK.out _ _ (hb.trans (hR37.bel.mono hwo)) (fun hHW37=>?_)
           clear hK K'
           obtain ⟨va,hva⟩:∃ z:Value,Value.slice (some ⟨W36.heap.size,0,none⟩) 0 0=z:=⟨_,rfl⟩
           rw [hva] at hR37 ⊢
           clear hva
           generalize W36.alloc (.cells #[] 3)=W37 at *
           refine wpAnyH_ready (rs:=[6,15]) (by kernel_rfl) (by simp) ?_
           refine AllReadyH.cons rfl (fun K' hK=>?_) (AllReadyH.cons rfl (fun K' hK=>?_) AllReadyH.nil)
           ·refine step_append_nums (by rfl) (.tmp 94) (.tmp 99) 26 (by rfl) (some 100) (by rfl) wo.heap.size 3 i0 Tryz.underlying26 hi hz0 hz1 hz2 va 0 [] (by rfl) (hR37.a _ _ _ rfl) hR37.bel.size s.a1 s.b1 s.o1 s.c1 s.l1.length s.l1 rfl (by rfl) (hsa.reads.below (hb.trans (hR37.bel.mono hwo)) (Nat.le_refl _)) (by omega) ?_
            intro vx W38 hown38 hg38 hat38
            have hR38:=hR37.app hown38 hg38 hat38
            clear hown38 hg38 hat38
            simp only [Act.put,List.setIfInBounds_toArray,List.set_cons_zero,List.set_cons_succ]
            refine hK.out _ _ (hb.trans (hR38.bel.mono hwo)) (fun hHW38=>?_)
            clear hK K'
            refine wpAnyH_ready (rs:=[12,15]) (by kernel_rfl) (by simp) ?_
            refine AllReadyH.cons rfl (fun K' hK=>?_) (AllReadyH.cons rfl (fun K' hK=>?_) AllReadyH.nil)
            ·refine step_append_nums (by rfl) (.tmp 100) (.tmp 105) 26 (by rfl) (some 106) (by rfl) wo.heap.size 3 i0 Tryz.underlying26 hi hz0 hz1 hz2 vx (0+s.l1.length) ([]++nums s.l1) (by rfl) (hR38.a _ _ _ rfl) hR38.bel.size t.a1 t.b1 t.o1 t.c1 t.l1.length t.l1 rfl (by rfl) (hta.reads.below (hb.trans (hR38.bel.mono hwo)) (Nat.le_refl _)) (by omega) ?_
             intro vc W39 hown39 hg39 hat39
             have hR39:=hR38.app hown39 hg39 hat39
             clear hown39 hg39 hat39
             simp only [Act.put,List.setIfInBounds_toArray,List.set_cons_zero,List.set_cons_succ]
             refine hK.out _ _ (hb.trans (hR39.bel.mono hwo)) (fun hHW39=>?_)
             clear hK K'
             simp only [Nat.zero_add,List.nil_append] at hR39
             have hFW39:BeR wo W39 (some (vc,m1.length,nums m1)) (some vb) none:=by rw [← HM1.out,List.length_append,nums_appB];exact hR39
             obtain ⟨p1,p2,p3,rfl,_⟩:=own_nums (hFW39.a _ _ _ rfl)
             obtain ⟨p4,p5,p6,hvb,_⟩:=own_nums (l:=[]) (hFW39.b _ rfl)
             have hvb':vb=.slice p4 0 p6:=hvb
             clear hvb hR39
             subst hvb'
             refine takeD 14 (some 108) (.agg #[.slice p1 m1.length p3,.slice p4 0 p6]) hHW39 rfl rfl (by kernel_rfl) (by kernel_rfl) (by kernel_rfl) (fun _ _ _ h=>h) (Or.inl ⟨by rfl,by intro w' hSw;go_simp⟩) ?_
             simp only [Act.put,List.setIfInBounds_toArray,List.set_cons_zero,List.set_cons_succ]
             refine wpAnyH_ready (rs:=[15]) (by kernel_rfl) (by simp) ?_
             refine AllReadyH.cons rfl (fun K' hK=>?_) AllReadyH.nil
             rw [if_pos (by rfl)]
             go_simp
             have hR40:=BeR.allocS hFW39
             refine hK.out _ _ (hb.trans (hR40.bel.mono hwo)) (fun hHW40=>?_)
             clear hK K'
             obtain ⟨S,hS⟩:∃ S,W39.heap.size=S:=⟨_,rfl⟩
             rw [hS] at hR40 ⊢
             clear hS
             generalize W39.alloc (.cells #[.slice none 0 0,.slice none 0 0] 35)=W40 at *
             refine wpAnyH_ready (rs:=[16]) (by kernel_rfl) (by simp) ?_
             refine AllReadyH.cons rfl (fun K' hK=>?_) AllReadyH.nil
             obtain ⟨k0,k1,kz,hF⟩:=hR40.fin
             rw [if_pos (by rfl)]
             go_simp
             refine hK.out _ _ (hb.trans (hF.bel.mono hwo)) (fun hHz=>?_)
             clear hK K' k0 k1 kz
             refine wpAnyH_done (by kernel_rfl) ?_ _
             go_wp2_with fail
             go_meet
             case rel=>exact ⟨S,_,_,rfl,hF⟩
            ·rw [if_pos (by rfl)]
             go_simp
             have hR41:=BeR.allocS hR38
             refine hK.out _ _ (hb.trans (hR41.bel.mono hwo)) (fun hHW41=>?_)
             clear hK K'
             obtain ⟨S,hS⟩:∃ S,W38.heap.size=S:=⟨_,rfl⟩
             rw [hS] at hR41 ⊢
             clear hS
             generalize W38.alloc (.cells #[.slice none 0 0,.slice none 0 0] 35)=W41 at *
             refine wpAnyH_ready (rs:=[12]) (by kernel_rfl) (by simp) ?_
             refine AllReadyH.cons rfl (fun K' hK=>?_) AllReadyH.nil
             refine step_append_nums (by rfl) (.tmp 100) (.tmp 105) 26 (by rfl) (some 106) (by rfl) wo.heap.size 3 i0 Tryz.underlying26 hi hz0 hz1 hz2 vx (0+s.l1.length) ([]++nums s.l1) (by rfl) (hR41.a _ _ _ rfl) hR41.bel.size t.a1 t.b1 t.o1 t.c1 t.l1.length t.l1 rfl (by rfl) (hta.reads.below (hb.trans (hR41.bel.mono hwo)) (Nat.le_refl _)) (by omega) ?_
             intro vc W42 hown42 hg42 hat42
             have hR42:=hR41.app hown42 hg42 hat42
             clear hown42 hg42 hat42
             simp only [Act.put,List.setIfInBounds_toArray,List.set_cons_zero,List.set_cons_succ]
             refine hK.out _ _ (hb.trans (hR42.bel.mono hwo)) (fun hHW42=>?_)
             clear hK K'
             simp only [Nat.zero_add,List.nil_append] at hR42
             have hFW42:BeR wo W42 (some (vc,m1.length,nums m1)) (some vb) (some S):=by rw [← HM1.out,List.length_append,nums_appB];exact hR42
             obtain ⟨p1,p2,p3,rfl,_⟩:=own_nums (hFW42.a _ _ _ rfl)
             obtain ⟨p4,p5,p6,hvb,_⟩:=own_nums (l:=[]) (hFW42.b _ rfl)
             have hvb':vb=.slice p4 0 p6:=hvb
             clear hvb hR42
             subst hvb'
             refine takeD 14 (some 108) (.agg #[.slice p1 m1.length p3,.slice p4 0 p6]) hHW42 rfl rfl (by kernel_rfl) (by kernel_rfl) (by kernel_rfl) (fun _ _ _ h=>h) (Or.inl ⟨by rfl,by intro w' hSw;go_simp⟩) ?_
             simp only [Act.put,List.setIfInBounds_toArray,List.set_cons_zero,List.set_cons_succ]
             refine wpAnyH_ready (rs:=[16]) (by kernel_rfl) (by simp) ?_
             refine AllReadyH.cons rfl (fun K' hK=>?_) AllReadyH.nil
             obtain ⟨k0,k1,kz,hF⟩:=hFW42.fin
             rw [if_pos (by rfl)]
             go_simp
             refine hK.out _ _ (hb.trans (hF.bel.mono hwo)) (fun hHz=>?_)
             clear hK K' k0 k1 kz
             refine wpAnyH_done (by kernel_rfl) ?_ _
             go_wp2_with fail
             go_meet
             case rel=>exact ⟨S,_,_,rfl,hF⟩
           ·rw [if_pos (by rfl)]
            go_simp
            have hR43:=BeR.allocS hR37
            refine hK.out _ _ (hb.trans (hR43.bel.mono hwo)) (fun hHW43=>?_)
            clear hK K'
            obtain ⟨S,hS⟩:∃ S,W37.heap.size=S:=⟨_,rfl⟩
            rw [hS] at hR43 ⊢
            clear hS
            generalize W37.alloc (.cells #[.slice none 0 0,.slice none 0 0] 35)=W43 at *
            refine wpAnyH_ready (rs:=[6]) (by kernel_rfl) (by simp) ?_
            refine AllReadyH.cons rfl (fun K' hK=>?_) AllReadyH.nil
            refine step_append_nums (by rfl) (.tmp 94) (.tmp 99) 26 (by rfl) (some 100) (by rfl) wo.heap.size 3 i0 Tryz.underlying26 hi hz0 hz1 hz2 va 0 [] (by rfl) (hR43.a _ _ _ rfl) hR43.bel.size s.a1 s.b1 s.o1 s.c1 s.l1.length s.l1 rfl (by rfl) (hsa.reads.below (hb.trans (hR43.bel.mono hwo)) (Nat.le_refl _)) (by omega) ?_
            intro vx W44 hown44 hg44 hat44
            have hR44:=hR43.app hown44 hg44 hat44
            clear hown44 hg44 hat44
            simp only [Act.put,List.setIfInBounds_toArray,List.set_cons_zero,List.set_cons_succ]
            refine hK.out _ _ (hb.trans (hR44.bel.mono hwo)) (fun hHW44=>?_)
            clear hK K'
            refine wpAnyH_ready (rs:=[12]) (by kernel_rfl) (by simp) ?_
            refine AllReadyH.cons rfl (fun K' hK=>?_) AllReadyH.nil
            refine step_append_nums (by rfl) (.tmp 100) (.tmp 105) 26 (by rfl) (some 106) (by rfl) wo.heap.size 3 i0 Tryz.underlying26 hi hz0 hz1 hz2 vx (0+s.l1.length) ([]++nums s.l1) (by rfl) (hR44.a _ _ _ rfl) hR44.bel.size t.a1 t.b1 t.o1 t.c1 t.l1.length t.l1 rfl (by rfl) (hta.reads.below (hb.trans (hR44.bel.mono hwo)) (Nat.le_refl _)) (by omega) ?_
            intro vc W45 hown45 hg45 hat45
            have hR45:=hR44.app hown45 hg45 hat45
            clear hown45 hg45 hat45
            simp only [Act.put,List.setIfInBounds_toArray,List.set_cons_zero,List.set_cons_succ]
            refine hK.out _ _ (hb.trans (hR45.bel.mono hwo)) (fun hHW45=>?_)
            clear hK K'
            simp only [Nat.zero_add,List.nil_append] at hR45
            have hFW45:BeR wo W45 (some (vc,m1.length,nums m1)) (some vb) (some S):=by rw [← HM1.out,List.length_append,nums_appB];exact hR45
            obtain ⟨p1,p2,p3,rfl,_⟩:=own_nums (hFW45.a _ _ _ rfl)
            obtain ⟨p4,p5,p6,hvb,_⟩:=own_nums (l:=[]) (hFW45.b _ rfl)
            have hvb':vb=.slice p4 0 p6:=hvb
            clear hvb hR45
            subst hvb'
            refine takeD 14 (some 108) (.agg #[.slice p1 m1.length p3,.slice p4 0 p6]) hHW45 rfl rfl (by kernel_rfl) (by kernel_rfl) (by kernel_rfl) (fun _ _ _ h=>h) (Or.inl ⟨by rfl,by intro w' hSw;go_simp⟩) ?_
            simp only [Act.put,List.setIfInBounds_toArray,List.set_cons_zero,List.set_cons_succ]
            refine wpAnyH_ready (rs:=[16]) (by kernel_rfl) (by simp) ?_
            refine AllReadyH.cons rfl (fun K' hK=>?_) AllReadyH.nil
            obtain ⟨k0,k1,kz,hF⟩:=hFW45.fin
            rw [if_pos (by rfl)]
            go_simp
            refine hK.out _ _ (hb.trans (hF.bel.mono hwo)) (fun hHz=>?_)
            clear hK K' k0 k1 kz
            refine wpAnyH_done (by kernel_rfl) ?_ _
            go_wp2_with fail
            go_meet
            case rel=>exact ⟨S,_,_,rfl,hF⟩
          ·rw [if_pos (by rfl)]
           go_simp
           have hR46:=BeR.allocS hR36
           refine hK.out _ _ (hb.trans (hR46.bel.mono hwo)) (fun hHW46=>?_)
           clear hK K'
           obtain ⟨S,hS⟩:∃ S,W36.heap.size=S:=⟨_,rfl⟩
           rw [hS] at hR46 ⊢
           clear hS
           generalize W36.alloc (.cells #[.slice none 0 0,.slice none 0 0] 35)=W46 at *
           refine wpAnyH_ready (rs:=[0]) (by kernel_rfl) (by simp) ?_
           refine AllReadyH.cons rfl (fun K' hK=>?_) AllReadyH.nil
           rw [if_pos (by rfl)]
           go_simp
           have hR47:=BeR.allocA hR46
           refine hK.out _ _ (hb.trans (hR47.bel.mono hwo)) (fun hHW47=>?_)
           clear hK K'
           obtain ⟨va,hva⟩:∃ z:Value,Value.slice (some ⟨W46.heap.size,0,none⟩) 0 0=z:=⟨_,rfl⟩
           rw [hva] at hR47 ⊢
           clear hva
           generalize W46.alloc (.cells #[] 3)=W47 at *
           refine wpAnyH_ready (rs:=[6]) (by kernel_rfl) (by simp) ?_
           refine AllReadyH.cons rfl (fun K' hK=>?_) AllReadyH.nil
           refine step_append_nums (by rfl) (.tmp 94) (.tmp 99) 26 (by rfl) (some 100) (by rfl) wo.heap.size 3 i0 Tryz.underlying26 hi hz0 hz1 hz2 va 0 [] (by rfl) (hR47.a _ _ _ rfl) hR47.bel.size s.a1 s.b1 s.o1 s.c1 s.l1.length s.l1 rfl (by rfl) (hsa.reads.below (hb.trans (hR47.bel.mono hwo)) (Nat.le_refl _)) (by omega) ?_
           intro vx W48 hown48 hg48 hat48
           have hR48:=hR47.app hown48 hg48 hat48
           clear hown48 hg48 hat48
           simp only [Act.put,List.setIfInBounds_toArray,List.set_cons_zero,List.set_cons_succ]
           refine hK.out _ _ (hb.trans (hR48.bel.mono hwo)) (fun hHW48=>?_)
           clear hK K'
           refine wpAnyH_ready (rs:=[12]) (by kernel_rfl) (by simp) ?_
           refine AllReadyH.cons rfl (fun K' hK=>?_) AllReadyH.nil
           refine step_append_nums (by rfl) (.tmp 100) (.tmp 105) 26 (by rfl) (some 106) (by rfl) wo.heap.size 3 i0 Tryz.underlying26 hi hz0 hz1 hz2 vx (0+s.l1.length) ([]++nums s.l1) (by rfl) (hR48.a _ _ _ rfl) hR48.bel.size t.a1 t.b1 t.o1 t.c1 t.l1.length t.l1 rfl (by rfl) (hta.reads.below (hb.trans (hR48.bel.mono hwo)) (Nat.le_refl _)) (by omega) ?_
           intro vc W49 hown49 hg49 hat49
           have hR49:=hR48.app hown49 hg49 hat49
           clear hown49 hg49 hat49
           simp only [Act.put,List.setIfInBounds_toArray,List.set_cons_zero,List.set_cons_succ]
           refine hK.out _ _ (hb.trans (hR49.bel.mono hwo)) (fun hHW49=>?_)
           clear hK K'
           simp only [Nat.zero_add,List.nil_append] at hR49
           have hFW49:BeR wo W49 (some (vc,m1.length,nums m1)) (some vb) (some S):=by rw [← HM1.out,List.length_append,nums_appB];exact hR49
           obtain ⟨p1,p2,p3,rfl,_⟩:=own_nums (hFW49.a _ _ _ rfl)
           obtain ⟨p4,p5,p6,hvb,_⟩:=own_nums (l:=[]) (hFW49.b _ rfl)
           have hvb':vb=.slice p4 0 p6:=hvb
           clear hvb hR49
           subst hvb'
           refine takeD 14 (some 108) (.agg #[.slice p1 m1.length p3,.slice p4 0 p6]) hHW49 rfl rfl (by kernel_rfl) (by kernel_rfl) (by kernel_rfl) (fun _ _ _ h=>h) (Or.inl ⟨by rfl,by intro w' hSw;go_simp⟩) ?_
           simp only [Act.put,List.setIfInBounds_toArray,List.set_cons_zero,List.set_cons_succ]
           refine wpAnyH_ready (rs:=[16]) (by kernel_rfl) (by simp) ?_
           refine AllReadyH.cons rfl (fun K' hK=>?_) AllReadyH.nil
           obtain ⟨k0,k1,kz,hF⟩:=hFW49.fin
           rw [if_pos (by rfl)]
           go_simp
           refine hK.out _ _ (hb.trans (hF.bel.mono hwo)) (fun hHz=>?_)
           clear hK K' k0 k1 kz
           refine wpAnyH_done (by kernel_rfl) ?_ _
           go_wp2_with fail
           go_meet
           case rel=>exact ⟨S,_,_,rfl,hF⟩
         ·rw [if_pos (by rfl)]
          go_simp
          have hR50:=BeR.allocS hR0
          refine hK.out _ _ (hb.trans (hR50.bel.mono hwo)) (fun hHW50=>?_)
          clear hK K'
          obtain ⟨S,hS⟩:∃ S,W0.heap.size=S:=⟨_,rfl⟩
          rw [hS] at hR50 ⊢
          clear hS
          generalize W0.alloc (.cells #[.slice none 0 0,.slice none 0 0] 35)=W50 at *
          refine wpAnyH_ready (rs:=[0,13]) (by kernel_rfl) (by simp) ?_
          refine AllReadyH.cons rfl (fun K' hK=>?_) (AllReadyH.cons rfl (fun K' hK=>?_) AllReadyH.nil)
          ·rw [if_pos (by rfl)]
           go_simp
           have hR51:=BeR.allocA hR50
           refine hK.out _ _ (hb.trans (hR51.bel.mono hwo)) (fun hHW51=>?_)
           clear hK K'
           obtain ⟨va,hva⟩:∃ z:Value,Value.slice (some ⟨W50.heap.size,0,none⟩) 0 0=z:=⟨_,rfl⟩
           rw [hva] at hR51 ⊢
           clear hva
           generalize W50.alloc (.cells #[] 3)=W51 at *
           refine wpAnyH_ready (rs:=[6,13]) (by kernel_rfl) (by simp) ?_
           refine AllReadyH.cons rfl (fun K' hK=>?_) (AllReadyH.cons rfl (fun K' hK=>?_) AllReadyH.nil)
           ·refine step_append_nums (by rfl) (.tmp 94) (.tmp 99) 26 (by rfl) (some 100) (by rfl) wo.heap.size 3 i0 Tryz.underlying26 hi hz0 hz1 hz2 va 0 [] (by rfl) (hR51.a _ _ _ rfl) hR51.bel.size s.a1 s.b1 s.o1 s.c1 s.l1.length s.l1 rfl (by rfl) (hsa.reads.below (hb.trans (hR51.bel.mono hwo)) (Nat.le_refl _)) (by omega) ?_
            intro vx W52 hown52 hg52 hat52
            have hR52:=hR51.app hown52 hg52 hat52
            clear hown52 hg52 hat52
            simp only [Act.put,List.setIfInBounds_toArray,List.set_cons_zero,List.set_cons_succ]
            refine hK.out _ _ (hb.trans (hR52.bel.mono hwo)) (fun hHW52=>?_)
            clear hK K'
            refine wpAnyH_ready (rs:=[12,13]) (by kernel_rfl) (by simp) ?_
            refine AllReadyH.cons rfl (fun K' hK=>?_) (AllReadyH.cons rfl (fun K' hK=>?_) AllReadyH.nil)
            ·refine step_append_nums (by rfl) (.tmp 100) (.tmp 105) 26 (by rfl) (some 106) (by rfl) wo.heap.size 3 i0 Tryz.underlying26 hi hz0 hz1 hz2 vx (0+s.l1.length) ([]++nums s.l1) (by rfl) (hR52.a _ _ _ rfl) hR52.bel.size t.a1 t.b1 t.o1 t.c1 t.l1.length t.l1 rfl (by rfl) (hta.reads.below (hb.trans (hR52.bel.mono hwo)) (Nat.le_refl _)) (by omega) ?_
             intro vc W53 hown53 hg53 hat53
             have hR53:=hR52.app hown53 hg53 hat53
             clear hown53 hg53 hat53
             simp only [Act.put,List.setIfInBounds_toArray,List.set_cons_zero,List.set_cons_succ]
             refine hK.out _ _ (hb.trans (hR53.bel.mono hwo)) (fun hHW53=>?_)
             clear hK K'
             simp only [Nat.zero_add,List.nil_append] at hR53
             refine wpAnyH_ready (rs:=[13]) (by kernel_rfl) (by simp) ?_
             refine AllReadyH.cons rfl (fun K' hK=>?_) AllReadyH.nil
             rw [if_pos (by rfl)]
             go_simp
             have hR54:=BeR.allocB hR53
             refine hK.out _ _ (hb.trans (hR54.bel.mono hwo)) (fun hHW54=>?_)
             clear hK K'
             obtain ⟨vb,hvb⟩:∃ z:Value,Value.slice (some ⟨W53.heap.size,0,none⟩) 0 0=z:=⟨_,rfl⟩
             rw [hvb] at hR54 ⊢
             clear hvb
             generalize W53.alloc (.cells #[] 3)=W54 at *
             have hFW54:BeR wo W54 (some (vc,m1.length,nums m1)) (some vb) (some S):=by rw [← HM1.out,List.length_append,nums_appB];exact hR54
             obtain ⟨p1,p2,p3,rfl,_⟩:=own_nums (hFW54.a _ _ _ rfl)
             obtain ⟨p4,p5,p6,hvb,_⟩:=own_nums (l:=[]) (hFW54.b _ rfl)
             have hvb':vb=.slice p4 0 p6:=hvb
             clear hvb hR54
             subst hvb'
             refine takeD 14 (some 108) (.agg #[.slice p1 m1.length p3,.slice p4 0 p6]) hHW54 rfl rfl (by kernel_rfl) (by kernel_rfl) (by kernel_rfl) (fun _ _ _ h=>h) (Or.inl ⟨by rfl,by intro w' hSw;go_simp⟩) ?_
             simp only [Act.put,List.setIfInBounds_toArray,List.set_cons_zero,List.set_cons_succ]
             refine wpAnyH_ready (rs:=[16]) (by kernel_rfl) (by simp) ?_
             refine AllReadyH.cons rfl (fun K' hK=>?_) AllReadyH.nil
             obtain ⟨k0,k1,kz,hF⟩:=hFW54.fin
             rw [if_pos (by rfl)]
             go_simp
             refine hK.out _ _ (hb.trans (hF.bel.mono hwo)) (fun hHz=>?_)
             clear hK K' k0 k1 kz
             refine wpAnyH_done (by kernel_rfl) ?_ _
             go_wp2_with fail
             go_meet
             case rel=>exact ⟨S,_,_,rfl,hF⟩
            ·rw [if_pos (by rfl)]
             go_simp
             have hR55:=BeR.allocB hR52
             refine hK.out _ _ (hb.trans (hR55.bel.mono hwo)) (fun hHW55=>?_)
             clear hK K'
             obtain ⟨vb,hvb⟩:∃ z:Value,Value.slice (some ⟨W52.heap.size,0,none⟩) 0 0=z:=⟨_,rfl⟩
             rw [hvb] at hR55 ⊢
             clear hvb
             generalize W52.alloc (.cells #[] 3)=W55 at *
             refine wpAnyH_ready (rs:=[12]) (by kernel_rfl) (by simp) ?_
             refine AllReadyH.cons rfl (fun K' hK=>?_) AllReadyH.nil
             refine step_append_nums (by rfl) (.tmp 100) (.tmp 105) 26 (by rfl) (some 106) (by rfl) wo.heap.size 3 i0 Tryz.underlying26 hi hz0 hz1 hz2 vx (0+s.l1.length) ([]++nums s.l1) (by rfl) (hR55.a _ _ _ rfl) hR55.bel.size t.a1 t.b1 t.o1 t.c1 t.l1.length t.l1 rfl (by rfl) (hta.reads.below (hb.trans (hR55.bel.mono hwo)) (Nat.le_refl _)) (by omega) ?_
             intro vc W56 hown56 hg56 hat56
             have hR56:=hR55.app hown56 hg56 hat56
             clear hown56 hg56 hat56
             simp only [Act.put,List.setIfInBounds_toArray,List.set_cons_zero,List.set_cons_succ]
             refine hK.out _ _ (hb.trans (hR56.bel.mono hwo)) (fun hHW56=>?_)
             clear hK K'
             simp only [Nat.zero_add,List.nil_append] at hR56
             have hFW56:BeR wo W56 (some (vc,m1.length,nums m1)) (some vb) (some S):=by rw [← HM1.out,List.length_append,nums_appB];exact hR56
             obtain ⟨p1,p2,p3,rfl,_⟩:=own_nums (hFW56.a _ _ _ rfl)
             obtain ⟨p4,p5,p6,hvb,_⟩:=own_nums (l:=[]) (hFW56.b _ rfl)
             have hvb':vb=.slice p4 0 p6:=hvb
             clear hvb hR56
             subst hvb'
             refine takeD 14 (some 108) (.agg #[.slice p1 m1.length p3,.slice p4 0 p6]) hHW56 rfl rfl (by kernel_rfl) (by kernel_rfl) (by kernel_rfl) (fun _ _ _ h=>h) (Or.inl ⟨by rfl,by intro w' hSw;go_simp⟩) ?_
             simp only [Act.put,List.setIfInBounds_toArray,List.set_cons_zero,List.set_cons_succ]
             refine wpAnyH_ready (rs:=[16]) (by kernel_rfl) (by simp) ?_
             refine AllReadyH.cons rfl (fun K' hK=>?_) AllReadyH.nil
             obtain ⟨k0,k1,kz,hF⟩:=hFW56.fin
             rw [if_pos (by rfl)]
             go_simp
             refine hK.out _ _ (hb.trans (hF.bel.mono hwo)) (fun hHz=>?_)
             clear hK K' k0 k1 kz
             refine wpAnyH_done (by kernel_rfl) ?_ _
             go_wp2_with fail
             go_meet
             case rel=>exact ⟨S,_,_,rfl,hF⟩
           ·rw [if_pos (by rfl)]
            go_simp
            have hR57:=BeR.allocB hR51
            refine hK.out _ _ (hb.trans (hR57.bel.mono hwo)) (fun hHW57=>?_)
            clear hK K'
            obtain ⟨vb,hvb⟩:∃ z:Value,Value.slice (some ⟨W51.heap.size,0,none⟩) 0 0=z:=⟨_,rfl⟩
            rw [hvb] at hR57 ⊢
            clear hvb
            generalize W51.alloc (.cells #[] 3)=W57 at *
            refine wpAnyH_ready (rs:=[6]) (by kernel_rfl) (by simp) ?_
            refine AllReadyH.cons rfl (fun K' hK=>?_) AllReadyH.nil
            refine step_append_nums (by rfl) (.tmp 94) (.tmp 99) 26 (by rfl) (some 100) (by rfl) wo.heap.size 3 i0 Tryz.underlying26 hi hz0 hz1 hz2 va 0 [] (by rfl) (hR57.a _ _ _ rfl) hR57.bel.size s.a1 s.b1 s.o1 s.c1 s.l1.length s.l1 rfl (by rfl) (hsa.reads.below (hb.trans (hR57.bel.mono hwo)) (Nat.le_refl _)) (by omega) ?_
            intro vx W58 hown58 hg58 hat58
            have hR58:=hR57.app hown58 hg58 hat58
            clear hown58 hg58 hat58
            simp only [Act.put,List.setIfInBounds_toArray,List.set_cons_zero,List.set_cons_succ]
            refine hK.out _ _ (hb.trans (hR58.bel.mono hwo)) (fun hHW58=>?_)
            clear hK K'
            refine wpAnyH_ready (rs:=[12]) (by kernel_rfl) (by simp) ?_
            refine AllReadyH.cons rfl (fun K' hK=>?_) AllReadyH.nil
            refine step_append_nums (by rfl) (.tmp 100) (.tmp 105) 26 (by rfl) (some 106) (by rfl) wo.heap.size 3 i0 Tryz.underlying26 hi hz0 hz1 hz2 vx (0+s.l1.length) ([]++nums s.l1) (by rfl) (hR58.a _ _ _ rfl) hR58.bel.size t.a1 t.b1 t.o1 t.c1 t.l1.length t.l1 rfl (by rfl) (hta.reads.below (hb.trans (hR58.bel.mono hwo)) (Nat.le_refl _)) (by omega) ?_
            intro vc W59 hown59 hg59 hat59
            have hR59:=hR58.app hown59 hg59 hat59
            clear hown59 hg59 hat59
            simp only [Act.put,List.setIfInBounds_toArray,List.set_cons_zero,List.set_cons_succ]
            refine hK.out _ _ (hb.trans (hR59.bel.mono hwo)) (fun hHW59=>?_)
            clear hK K'
            simp only [Nat.zero_add,List.nil_append] at hR59
            have hFW59:BeR wo W59 (some (vc,m1.length,nums m1)) (some vb) (some S):=by rw [← HM1.out,List.length_append,nums_appB];exact hR59
            obtain ⟨p1,p2,p3,rfl,_⟩:=own_nums (hFW59.a _ _ _ rfl)
            obtain ⟨p4,p5,p6,hvb,_⟩:=own_nums (l:=[]) (hFW59.b _ rfl)
            have hvb':vb=.slice p4 0 p6:=hvb
            clear hvb hR59
            subst hvb'
            refine takeD 14 (some 108) (.agg #[.slice p1 m1.length p3,.slice p4 0 p6]) hHW59 rfl rfl (by kernel_rfl) (by kernel_rfl) (by kernel_rfl) (fun _ _ _ h=>h) (Or.inl ⟨by rfl,by intro w' hSw;go_simp⟩) ?_
            simp only [Act.put,List.setIfInBounds_toArray,List.set_cons_zero,List.set_cons_succ]
            refine wpAnyH_ready (rs:=[16]) (by kernel_rfl) (by simp) ?_
            refine AllReadyH.cons rfl (fun K' hK=>?_) AllReadyH.nil
            obtain ⟨k0,k1,kz,hF⟩:=hFW59.fin
            rw [if_pos (by rfl)]
            go_simp
            refine hK.out _ _ (hb.trans (hF.bel.mono hwo)) (fun hHz=>?_)
            clear hK K' k0 k1 kz
            refine wpAnyH_done (by kernel_rfl) ?_ _
            go_wp2_with fail
            go_meet
            case rel=>exact ⟨S,_,_,rfl,hF⟩
          ·rw [if_pos (by rfl)]
           go_simp
           have hR60:=BeR.allocB hR50
           refine hK.out _ _ (hb.trans (hR60.bel.mono hwo)) (fun hHW60=>?_)
           clear hK K'
           obtain ⟨vb,hvb⟩:∃ z:Value,Value.slice (some ⟨W50.heap.size,0,none⟩) 0 0=z:=⟨_,rfl⟩
           rw [hvb] at hR60 ⊢
           clear hvb
           generalize W50.alloc (.cells #[] 3)=W60 at *
           refine wpAnyH_ready (rs:=[0]) (by kernel_rfl) (by simp) ?_
           refine AllReadyH.cons rfl (fun K' hK=>?_) AllReadyH.nil
           rw [if_pos (by rfl)]
           go_simp
           have hR61:=BeR.allocA hR60
           refine hK.out _ _ (hb.trans (hR61.bel.mono hwo)) (fun hHW61=>?_)
           clear hK K'
           obtain ⟨va,hva⟩:∃ z:Value,Value.slice (some ⟨W60.heap.size,0,none⟩) 0 0=z:=⟨_,rfl⟩
           rw [hva] at hR61 ⊢
           clear hva
           generalize W60.alloc (.cells #[] 3)=W61 at *
           refine wpAnyH_ready (rs:=[6]) (by kernel_rfl) (by simp) ?_
           refine AllReadyH.cons rfl (fun K' hK=>?_) AllReadyH.nil
           refine step_append_nums (by rfl) (.tmp 94) (.tmp 99) 26 (by rfl) (some 100) (by rfl) wo.heap.size 3 i0 Tryz.underlying26 hi hz0 hz1 hz2 va 0 [] (by rfl) (hR61.a _ _ _ rfl) hR61.bel.size s.a1 s.b1 s.o1 s.c1 s.l1.length s.l1 rfl (by rfl) (hsa.reads.below (hb.trans (hR61.bel.mono hwo)) (Nat.le_refl _)) (by omega) ?_
           intro vx W62 hown62 hg62 hat62
           have hR62:=hR61.app hown62 hg62 hat62
           clear hown62 hg62 hat62
           simp only [Act.put,List.setIfInBounds_toArray,List.set_cons_zero,List.set_cons_succ]
           refine hK.out _ _ (hb.trans (hR62.bel.mono hwo)) (fun hHW62=>?_)
           clear hK K'
           refine wpAnyH_ready (rs:=[12]) (by kernel_rfl) (by simp) ?_
           refine AllReadyH.cons rfl (fun K' hK=>?_) AllReadyH.nil
           refine step_append_nums (by rfl) (.tmp 100) (.tmp 105) 26 (by rfl) (some 106) (by rfl) wo.heap.size 3 i0 Tryz.underlying26 hi hz0 hz1 hz2 vx (0+s.l1.length) ([]++nums s.l1) (by rfl) (hR62.a _ _ _ rfl) hR62.bel.size t.a1 t.b1 t.o1 t.c1 t.l1.length t.l1 rfl (by rfl) (hta.reads.below (hb.trans (hR62.bel.mono hwo)) (Nat.le_refl _)) (by omega) ?_
           intro vc W63 hown63 hg63 hat63
           have hR63:=hR62.app hown63 hg63 hat63
           clear hown63 hg63 hat63
           simp only [Act.put,List.setIfInBounds_toArray,List.set_cons_zero,List.set_cons_succ]
           refine hK.out _ _ (hb.trans (hR63.bel.mono hwo)) (fun hHW63=>?_)
           clear hK K'
           simp only [Nat.zero_add,List.nil_append] at hR63
           have hFW63:BeR wo W63 (some (vc,m1.length,nums m1)) (some vb) (some S):=by rw [← HM1.out,List.length_append,nums_appB];exact hR63
           obtain ⟨p1,p2,p3,rfl,_⟩:=own_nums (hFW63.a _ _ _ rfl)
           obtain ⟨p4,p5,p6,hvb,_⟩:=own_nums (l:=[]) (hFW63.b _ rfl)
           have hvb':vb=.slice p4 0 p6:=hvb
           clear hvb hR63
           subst hvb'
           refine takeD 14 (some 108) (.agg #[.slice p1 m1.length p3,.slice p4 0 p6]) hHW63 rfl rfl (by kernel_rfl) (by kernel_rfl) (by kernel_rfl) (fun _ _ _ h=>h) (Or.inl ⟨by rfl,by intro w' hSw;go_simp⟩) ?_
           simp only [Act.put,List.setIfInBounds_toArray,List.set_cons_zero,List.set_cons_succ]
           refine wpAnyH_ready (rs:=[16]) (by kernel_rfl) (by simp) ?_
           refine AllReadyH.cons rfl (fun K' hK=>?_) AllReadyH.nil
           obtain ⟨k0,k1,kz,hF⟩:=hFW63.fin
           rw [if_pos (by rfl)]
           go_simp
           refine hK.out _ _ (hb.trans (hF.bel.mono hwo)) (fun hHz=>?_)
           clear hK K' k0 k1 kz
           refine wpAnyH_done (by kernel_rfl) ?_ _
           go_wp2_with fail
           go_meet
           case rel=>exact ⟨S,_,_,rfl,hF⟩
        case rest =>
         obtain ⟨S,va,VB,rfl,hN⟩:=hcut
         go_wp2_with fail
         go_loopw [18] (fun s18 wr=>∃ (pl:Nat) (vb:Value),s18=.int .i64 pl∧pl≤3∧VcB wo S va vb m1 ((M.both (s.l1,s.l2) (t.l1,t.l2)).2.take pl) wr) (fun s18 _=>3 - (intOf s18).toNat)
         case atStart=>exact ⟨0,VB,rfl,by omega,hN⟩
         case round =>
          obtain ⟨pl,vv,rfl,hpl3,hQ⟩:=hrel
          have hbq:Below WG.heap.size WG wr:=hb.trans (hQ.bel.mono hwo)
          by_cases hp3:pl < 3
          ·have i3:(pl:Int) < 3:=by omega
           have hps:pl < s.l2.length:=by have:=HS3.out;omega
           have hpt:pl < t.l2.length:=by have:=HT3.out;omega
           obtain ⟨q0,q1⟩:=HVS.out _ (List.getElem_mem hps)
           obtain ⟨r0,r1⟩:=HVT.out _ (List.getElem_mem hpt)
           obtain ⟨ya,hya⟩:∃ y,s.l2[pl]'hps=y:=⟨_,rfl⟩
           obtain ⟨yb,hyb⟩:∃ y,t.l2[pl]'hpt=y:=⟨_,rfl⟩
           rw [hya] at q0 q1
           rw [hyb] at r0 r1
           have HAC:∀ w',Below WG.heap.size WG w'→w'.cell? ⟨s.b2,s.o2+pl,none⟩=some (.int .i64 ya):=fun w' hb'=>by rw [← hya];exact HR2.out w' hb' pl hps
           have HBC:∀ w',Below WG.heap.size WG w'→w'.cell? ⟨t.b2,t.o2+pl,none⟩=some (.int .i64 yb):=fun w' hb'=>by rw [← hyb];exact HT2.out w' hb' pl hpt
           have HTK:Hid ((M.both (s.l1,s.l2) (t.l1,t.l2)).2.take (pl+1)=(M.both (s.l1,s.l2) (t.l1,t.l2)).2.take pl++[ya+yb]):=M.both_take hps hpt hp3 hya hyb
           obtain ⟨u,hu⟩:∃ u,ya+yb=u:=⟨_,rfl⟩
           have hwr:IntKind.i64.wrap (ya+yb)=u:=by rw [← hu];exact IntWalk.i64_in _ (by omega)
           rw [hu] at HTK
           have hll:((M.both (s.l1,s.l2) (t.l1,t.l2)).2.take pl).length≤3:=by rw [List.length_take];omega
           generalize hlp:(M.both (s.l1,s.l2) (t.l1,t.l2)).2.take pl=lp at *
           have hlt5:=hQ.lt
           have hso:=hQ.bel.size
           clear hya hyb hlp hu q0 q1 r0 r1
           go_wp2_with fail
           refine wp_region_held_drew (S:=fun w'=>Below WG.heap.size WG w') (by kernel_rfl) hbq.drew (fun hH=>?_)
           refine takeD 0 (some 113) (.pointer (some ⟨S,1,none⟩)) hH rfl rfl (by kernel_rfl) (by kernel_rfl) (by kernel_rfl) (fun _ _ _ h=>h) (Or.inl ⟨by rfl,by intro w' hSw;go_simp⟩) ?_
           simp only [Act.put,List.setIfInBounds_toArray,List.set_cons_zero,List.set_cons_succ]
           refine takeD 2 (some 115) (.slice (some ⟨gu,0,none⟩) kp.length cu) hH rfl rfl (by kernel_rfl) (by kernel_rfl) (by kernel_rfl) (fun _ _ _ h=>h) (Or.inl ⟨by rfl,by intro w' hSw;go_simp⟩) ?_
           simp only [Act.put,List.setIfInBounds_toArray,List.set_cons_zero,List.set_cons_succ]
           refine takeD 3 (some 116) (.int .i64 n) hH rfl rfl (by kernel_rfl) (by kernel_rfl) (by kernel_rfl) (fun _ _ _ h=>h) (Or.inl ⟨by rfl,by intro w' hSw;go_simp⟩) ?_
           simp only [Act.put,List.setIfInBounds_toArray,List.set_cons_zero,List.set_cons_succ]
           refine takeD 4 (some 117) (.pointer (some ⟨gu,n * 2,none⟩)) hH rfl rfl (by kernel_rfl) (by kernel_rfl) (by kernel_rfl) (fun _ _ _ h=>h) (Or.inl ⟨by rfl,by intro w' hSw;go_simp⟩) ?_
           simp only [Act.put,List.setIfInBounds_toArray,List.set_cons_zero,List.set_cons_succ]
           refine takeD 5 (some 118) (.pointer (some ⟨gu,n * 2+1,none⟩)) hH rfl rfl (by kernel_rfl) (by kernel_rfl) (by kernel_rfl) (fun _ _ _ h=>h) (Or.inl ⟨by rfl,by intro w' hSw;go_simp⟩) ?_
           simp only [Act.put,List.setIfInBounds_toArray,List.set_cons_zero,List.set_cons_succ]
           refine takeD 6 (some 119) (.slice (some ⟨s.b2,s.o2,none⟩) 3 s.c2) hH rfl rfl (by kernel_rfl) (by kernel_rfl) (by kernel_rfl) (fun _ _ _ h=>h) (Or.inl ⟨by rfl,by intro w' hSw;have hc:=(hSW w' hSw).2;go_simp⟩) ?_
           simp only [Act.put,List.setIfInBounds_toArray,List.set_cons_zero,List.set_cons_succ]
           refine takeD 7 (some 120) (.int .i64 pl) hH rfl rfl (by kernel_rfl) (by kernel_rfl) (by kernel_rfl) (fun _ _ _ h=>h) (Or.inl ⟨by rfl,by intro w' hSw;go_simp⟩) ?_
           simp only [Act.put,List.setIfInBounds_toArray,List.set_cons_zero,List.set_cons_succ]
           refine takeD 8 (some 121) (.pointer (some ⟨s.b2,s.o2+pl,none⟩)) hH rfl rfl (by kernel_rfl) (by kernel_rfl) (by kernel_rfl) (fun _ _ _ h=>h) (Or.inl ⟨by rfl,by intro w' hSw;go_simp⟩) ?_
           simp only [Act.put,List.setIfInBounds_toArray,List.set_cons_zero,List.set_cons_succ]
           refine takeD 9 (some 122) (.int .i64 ya) hH rfl rfl (by kernel_rfl) (by kernel_rfl) (by kernel_rfl) (fun _ _ _ h=>h) (Or.inl ⟨by rfl,by intro w' hSw;have hc:=HAC w' hSw;go_simp⟩) ?_
           simp only [Act.put,List.setIfInBounds_toArray,List.set_cons_zero,List.set_cons_succ]
           refine takeD 10 (some 123) (.slice (some ⟨gw,0,none⟩) kq.length cw) hH rfl rfl (by kernel_rfl) (by kernel_rfl) (by kernel_rfl) (fun _ _ _ h=>h) (Or.inl ⟨by rfl,by intro w' hSw;go_simp⟩) ?_
           simp only [Act.put,List.setIfInBounds_toArray,List.set_cons_zero,List.set_cons_succ]
           refine takeD 11 (some 124) (.int .i64 m) hH rfl rfl (by kernel_rfl) (by kernel_rfl) (by kernel_rfl) (fun _ _ _ h=>h) (Or.inl ⟨by rfl,by intro w' hSw;go_simp⟩) ?_
           simp only [Act.put,List.setIfInBounds_toArray,List.set_cons_zero,List.set_cons_succ]
           refine takeD 12 (some 125) (.pointer (some ⟨gw,m * 2,none⟩)) hH rfl rfl (by kernel_rfl) (by kernel_rfl) (by kernel_rfl) (fun _ _ _ h=>h) (Or.inl ⟨by rfl,by intro w' hSw;go_simp⟩) ?_
           simp only [Act.put,List.setIfInBounds_toArray,List.set_cons_zero,List.set_cons_succ]
           refine takeD 13 (some 126) (.pointer (some ⟨gw,m * 2+1,none⟩)) hH rfl rfl (by kernel_rfl) (by kernel_rfl) (by kernel_rfl) (fun _ _ _ h=>h) (Or.inl ⟨by rfl,by intro w' hSw;go_simp⟩) ?_
           simp only [Act.put,List.setIfInBounds_toArray,List.set_cons_zero,List.set_cons_succ]
           refine takeD 14 (some 127) (.slice (some ⟨t.b2,t.o2,none⟩) 3 t.c2) hH rfl rfl (by kernel_rfl) (by kernel_rfl) (by kernel_rfl) (fun _ _ _ h=>h) (Or.inl ⟨by rfl,by intro w' hSw;have hc:=(hTW w' hSw).2;go_simp⟩) ?_
           simp only [Act.put,List.setIfInBounds_toArray,List.set_cons_zero,List.set_cons_succ]
           refine takeD 15 (some 128) (.int .i64 pl) hH rfl rfl (by kernel_rfl) (by kernel_rfl) (by kernel_rfl) (fun _ _ _ h=>h) (Or.inl ⟨by rfl,by intro w' hSw;go_simp⟩) ?_
           simp only [Act.put,List.setIfInBounds_toArray,List.set_cons_zero,List.set_cons_succ]
           refine takeD 16 (some 129) (.pointer (some ⟨t.b2,t.o2+pl,none⟩)) hH rfl rfl (by kernel_rfl) (by kernel_rfl) (by kernel_rfl) (fun _ _ _ h=>h) (Or.inl ⟨by rfl,by intro w' hSw;go_simp⟩) ?_
           simp only [Act.put,List.setIfInBounds_toArray,List.set_cons_zero,List.set_cons_succ]
           refine takeD 17 (some 130) (.int .i64 yb) hH rfl rfl (by kernel_rfl) (by kernel_rfl) (by kernel_rfl) (fun _ _ _ h=>h) (Or.inl ⟨by rfl,by intro w' hSw;have hc:=HBC w' hSw;go_simp⟩) ?_
           simp only [Act.put,List.setIfInBounds_toArray,List.set_cons_zero,List.set_cons_succ]
           refine takeD 18 (some 131) (.int .i64 u) hH rfl rfl (by kernel_rfl) (by kernel_rfl) (by kernel_rfl) (fun _ _ _ h=>h) (Or.inl ⟨by rfl,by intro w' hSw;go_simp⟩) ?_
           simp only [Act.put,List.setIfInBounds_toArray,List.set_cons_zero,List.set_cons_succ]
           refine wpAnyH_ready (rs:=[1,19]) (by kernel_rfl) (by simp) ?_
           refine AllReadyH.cons rfl (fun K' hK=>?_) (AllReadyH.cons rfl (fun K' hK=>?_) AllReadyH.nil)
           ·have xx:wr.drew.cell? ⟨S,1,none⟩=some vv:=hQ.s1
            rw [if_pos (by rfl)]
            go_simp
            refine hK.out _ _ hbq.drew (fun hHb=>?_)
            clear hK K' xx
            refine wpAnyH_ready (rs:=[19]) (by kernel_rfl) (by simp) ?_
            refine AllReadyH.cons rfl (fun K' hK=>?_) AllReadyH.nil
            rw [if_pos (by rfl)]
            go_simp
            refine hK.out _ _ (hbq.drew.alloc hbq.size (.cells #[.int .i64 u] 3)) (fun hHa=>?_)
            clear hK K'
            refine wpAnyH_ready (rs:=[20]) (by kernel_rfl) (by simp) ?_
            refine AllReadyH.cons rfl (fun K' hK=>?_) AllReadyH.nil
            refine step_append_lies _ (by rfl) (.tmp 114) (.tmp 132) 26 (by rfl) wo.heap.size 3 i0 _ 1 8 Tryz.underlying26 hi hz0 hz1 hz2 rfl (by decide) vv lp.length (nums lp) (by rfl) (hQ.drew.own2.alloc _) ⟨wr.heap.size,0,none⟩ 1 1 [.int .i64 u] (by rfl) (by rfl) (World.news_of_block (cs:=#[.int .i64 u]) (t:=3) (fr:=(0,0)) (heap_alloc_new wr.drew _)) (by simp [Value.oneCell']) (by omega) (by unfold maxLen;omega) (by omega) (by simp;omega) (wr.heap.size+1) (by simp) ?_
            intro g5 cap5 w5 hown5 hg5 hat5 hlt5'
            obtain ⟨b5,k5,z5,hV5⟩:=hQ.drew.push2 hown5 hg5 hat5
            clear hown5 hg5 hat5
            simp only [Act.put,List.setIfInBounds_toArray,List.set_cons_zero,List.set_cons_succ]
            refine hK.out _ _ (hb.trans (b5.mono hwo)) (fun hHc=>?_)
            clear hK K'
            refine takeD 21 (some 134) (.pointer (some ⟨S,1,none⟩)) hHc rfl rfl (by kernel_rfl) (by kernel_rfl) (by kernel_rfl) (fun _ _ _ h=>h) (Or.inl ⟨by rfl,by intro w' hSw;go_simp⟩) ?_
            simp only [Act.put,List.setIfInBounds_toArray,List.set_cons_zero,List.set_cons_succ]
            refine wpAnyH_ready (rs:=[22]) (by kernel_rfl) (by simp) ?_
            refine AllReadyH.cons rfl (fun K' hK=>?_) AllReadyH.nil
            rw [if_pos (by rfl)]
            go_simp
            refine hK.out _ _ (hb.trans (hV5.bel.mono hwo)) (fun hHd=>?_)
            clear hK K' k5 z5
            refine wpAnyH_done (by kernel_rfl) ?_ _
            go_wp2_with fail
            have hV6:=hV5
            rw [← HTK.out] at hV6
            go_roundw
            case rel =>
             first
             | exact ⟨pl+1,_,by go_num,by omega,hV6⟩
             | ((repeat apply Exists.intro);exact ⟨⟨pl+1,_,by go_num,by omega,hV6⟩,rfl⟩)
            case measure=>(simp [intOf];omega)
           ·rw [if_pos (by rfl)]
            go_simp
            refine hK.out _ _ (hbq.drew.alloc hbq.size (.cells #[.int .i64 u] 3)) (fun hHa=>?_)
            clear hK K'
            refine wpAnyH_ready (rs:=[1]) (by kernel_rfl) (by simp) ?_
            refine AllReadyH.cons rfl (fun K' hK=>?_) AllReadyH.nil
            have xx:(wr.alloc (.cells #[.int .i64 u] 3)).cell? ⟨S,1,none⟩=some vv:=((below1 wr (.cells #[.int .i64 u] 3)).cell (p:=⟨S,1,none⟩) hlt5).trans hQ.s1
            rw [if_pos (by rfl)]
            go_simp
            refine hK.out _ _ (hbq.drew.alloc hbq.size (.cells #[.int .i64 u] 3)) (fun hHb=>?_)
            clear hK K' xx
            refine wpAnyH_ready (rs:=[20]) (by kernel_rfl) (by simp) ?_
            refine AllReadyH.cons rfl (fun K' hK=>?_) AllReadyH.nil
            refine step_append_lies _ (by rfl) (.tmp 114) (.tmp 132) 26 (by rfl) wo.heap.size 3 i0 _ 1 8 Tryz.underlying26 hi hz0 hz1 hz2 rfl (by decide) vv lp.length (nums lp) (by rfl) (hQ.drew.own2.alloc _) ⟨wr.heap.size,0,none⟩ 1 1 [.int .i64 u] (by rfl) (by rfl) (World.news_of_block (cs:=#[.int .i64 u]) (t:=3) (fr:=(0,0)) (heap_alloc_new wr.drew _)) (by simp [Value.oneCell']) (by omega) (by unfold maxLen;omega) (by omega) (by simp;omega) (wr.heap.size+1) (by simp) ?_
            intro g5 cap5 w5 hown5 hg5 hat5 hlt5'
            obtain ⟨b5,k5,z5,hV5⟩:=hQ.drew.push2 hown5 hg5 hat5
            clear hown5 hg5 hat5
            simp only [Act.put,List.setIfInBounds_toArray,List.set_cons_zero,List.set_cons_succ]
            refine hK.out _ _ (hb.trans (b5.mono hwo)) (fun hHc=>?_)
            clear hK K'
            refine takeD 21 (some 134) (.pointer (some ⟨S,1,none⟩)) hHc rfl rfl (by kernel_rfl) (by kernel_rfl) (by kernel_rfl) (fun _ _ _ h=>h) (Or.inl ⟨by rfl,by intro w' hSw;go_simp⟩) ?_
            simp only [Act.put,List.setIfInBounds_toArray,List.set_cons_zero,List.set_cons_succ]
            refine wpAnyH_ready (rs:=[22]) (by kernel_rfl) (by simp) ?_
            refine AllReadyH.cons rfl (fun K' hK=>?_) AllReadyH.nil
            rw [if_pos (by rfl)]
            go_simp
            refine hK.out _ _ (hb.trans (hV5.bel.mono hwo)) (fun hHd=>?_)
            clear hK K' k5 z5
            refine wpAnyH_done (by kernel_rfl) ?_ _
            go_wp2_with fail
            have hV6:=hV5
            rw [← HTK.out] at hV6
            go_roundw
            case rel =>
             first
             | exact ⟨pl+1,_,by go_num,by omega,hV6⟩
             | ((repeat apply Exists.intro);exact ⟨⟨pl+1,_,by go_num,by omega,hV6⟩,rfl⟩)
            case measure=>(simp [intOf];omega)
          ·have i3:¬ (pl:Int) < 3:=by omega
           obtain rfl:pl=3:=by omega
           have htk:(M.both (s.l1,s.l2) (t.l1,t.l2)).2.take 3=(M.both (s.l1,s.l2) (t.l1,t.l2)).2:=rfl
           rw [htk] at hQ
           obtain ⟨a5,g5',c5,rfl,hI1,hge1,_⟩:=own_nums hQ.own1
           obtain ⟨a6,g6',c6,rfl,hI2,hge2,_⟩:=own_nums hQ.own2
           have y0:=hQ.s0
           have y1:=hQ.s1
           have hLI:=hL.below hQ.bel
           have hws:=hQ.bel.size
           have hsn:(⟨a5,g5',0,c5,m1,a6,g6',0,c6,(M.both (s.l1,s.l2) (t.l1,t.l2)).2⟩:Sn).At wr:=⟨hI1,hI2⟩
           have HBT:Hid (M.both (s.l1,s.l2) (t.l1,t.l2)=(m1,(M.both (s.l1,s.l2) (t.l1,t.l2)).2)):=by show _=_;rw [← HM1.out];rfl
           clear hQ hI1 hI2 htk
           generalize (M.both (s.l1,s.l2) (t.l1,t.l2)).2=m2 at *
           rw [HBT.out] at HQX
           clear HBT hN
           go_wp2_with (at_builtin;refine wpList_append_lies _ rfl (.tmp 135) (.tmp 137) 32 rfl WG.heap.size 35 j0 _ 2 48 Tryz.underlying32 hj hy0 hy1 hy2 rfl (by decide) v st.length (cellsS st) rfl (hLI.own.alloc _) ⟨wr.heap.size,0,none⟩ 1 1 [.slice a5 m1.length c5,.slice a6 m2.length c6] rfl rfl (World.news_of_block (cs:=#[.slice a5 m1.length c5,.slice a6 m2.length c6]) (t:=35) (fr:=(0,0)) (heap_alloc_new wr _)) (by simp [Value.oneCell']) (by omega) (by have:=HTL.out;unfold maxLen;omega) (by have:=HTL.out;omega) (by simp;omega) (wr.heap.size+1) (by simp) ?_)
           intro g5 cap5 w5 hown5 hg5 hat5 hlt5
           have hL5:=hLI.snoc (s:=⟨a5,g5',0,c5,m1,a6,g6',0,c6,m2⟩) hsn (fun k hk e=>by
            have hlt2:=hL.own.lt k e
            rcases hk with ⟨h0,h1⟩ | ⟨_,h1⟩
            ·have h5:k=g5':=h1
             omega
            ·have h5:k=g6':=h1
             omega) hown5 hg5 (by
            rcases hat5 with e | e
            ·left;exact e.symm
            ·right;show some g5=_;rw [e])
           have b5:Below WG.heap.size WG w5:=below_grown (hbq.alloc (by omega) _) hg5 (fun j hj=>(hL.own.lt j hj).1) (by simp;omega)
           clear hown5 hg5 hat5 hLI hL hsn
           go_wp2_with fail
           have hE1:Hid ((st++[(⟨a5,g5',0,c5,m1,a6,g6',0,c6,m2⟩:Sn)]).length=n * kq.length+(m+1)):=by show _=_;rw [List.length_append,HTL.out];rfl
           have hE2:Hid (kys (st++[(⟨a5,g5',0,c5,m1,a6,g6',0,c6,m2⟩:Sn)])=(kp.take n).flatMap (fun a=>kq.map (M.both a))++(kq.take (m+1)).map (M.both (s.l1,s.l2))):=by show kys _=_;rw [kys,List.map_append,← kys,HKZ.out,HQX.out,List.append_assoc];rfl
           go_roundw
           case rel =>
            first
            | exact ⟨m+1,_,_,rfl,by go_num,by omega,hE1,hL5,hE2,b5⟩
            | ((repeat apply Exists.intro);exact ⟨⟨m+1,_,_,rfl,by go_num,by omega,hE1,hL5,hE2,b5⟩,rfl⟩)
           case measure=>(simp [intOf];omega)
       ·have j1:¬ (m:Int) < kq.length:=by omega
        have htk:kq.take m=kq:=List.take_of_length_le (by omega)
        have hmm2:m=kq.length:=by omega
        have hE1:Hid (st.length=(n+1) * kq.length):=by show _=_;rw [HTL.out,hmm2,Nat.succ_mul]
        have hE2:Hid (kys st=(kp.take (n+1)).flatMap fun a=>kq.map (M.both a)):=by show _=_;rw [HKZ.out,htk,HKX.out]
        clear htk hmm2 HTL HKZ
        go_wp2_with fail
        go_roundw
        case rel =>
         first
         | exact ⟨n+1,v,st,rfl,by go_num,by omega,hE1,hL,hE2,hb⟩
         | ((repeat apply Exists.intro);exact ⟨⟨n+1,v,st,rfl,by go_num,by omega,hE1,hL,hE2,hb⟩,rfl⟩)
        case measure=>(simp [intOf];omega)
     ·have i1:¬ (n:Int) < kp.length:=by omega
      obtain ⟨ax,gx,cx,rfl,hKS⟩:=hL.ks
      have htk:kp.take n=kp:=List.take_of_length_le (by omega)
      rw [HKY.out,htk] at hKS
      have hnk:n=kp.length:=by omega
      have hsn:ss.length=(kp.flatMap fun a=>kq.map (M.both a)).length:=by rw [HSL.out,HLN.out,hnk]
      have hK4:(kp.flatMap fun a=>kq.map (M.both a)).length≤1048576:=by rw [HLN.out];omega
      have hK3:KLe (kp.flatMap fun a=>kq.map (M.both a)) 1048576:=fun z hz=>hnk2 z ((M.mem_sortK _ z).2 hz)
      have sQr:=sQG.bl' hb
      have x1:=sQr.c
      have ssr:=ssQG.below hb (Nat.le_refl _)
      have bwr:=bwG.trans (hb.mono bwG.size)
      rw [hsn]
      have CSS:=fun (W:World) (h:Below wr.heap.size wr W)=>iseenSortK ax gx 0 cx (kp.flatMap fun a=>kq.map (M.both a)) W hK4 hK3 (hKS.below h (Nat.le_refl _))
      have CQ2:=fun (W:World) (h:Below wr.heap.size wr W)=>CX W (ssr.below h (Nat.le_refl _))
      have hqc:∀ W:World,Below wr.heap.size wr W→W.cell? ⟨PQ,0,none⟩=some (.slice ai nn.length ci):=fun W h=>(h.cell (p:=⟨PQ,0,none⟩) sQr.lt).trans x1
      generalize (kp.flatMap fun a=>kq.map (M.both a))=kx at *
      clear CX HKY hsn hnk htk
      go_wp2_with fail
      refine wp_region_held_drew (S:=fun w'=>Below wr.heap.size wr w') (by kernel_rfl) (Below.refl _ _).drew (fun hH=>?_)
      refine takeD 0 (some 139) (.slice ax kx.length cx) hH rfl rfl (by kernel_rfl) (by kernel_rfl) (by kernel_rfl) (fun _ _ _ h=>h) (Or.inl ⟨by rfl,by intro w' hSw;go_simp⟩) ?_
      simp only [Act.put,List.setIfInBounds_toArray,List.set_cons_zero,List.set_cons_succ]
      refine takeD 2 (some 141) (.agg #[.slice ai nn.length ci]) hH rfl rfl (by kernel_rfl) (by kernel_rfl) (by kernel_rfl) (fun _ _ _ h=>h) (Or.inl ⟨by rfl,by intro w' hSw;have hc0:=hqc w' hSw;go_simp⟩) ?_
      simp only [Act.put,List.setIfInBounds_toArray,List.set_cons_zero,List.set_cons_succ]
      refine takeD 3 (some 142) (.int .i64 kn) hH rfl rfl (by kernel_rfl) (by kernel_rfl) (by kernel_rfl) (fun _ _ _ h=>h) (Or.inl ⟨by rfl,by intro w' hSw;go_simp⟩) ?_
      simp only [Act.put,List.setIfInBounds_toArray,List.set_cons_zero,List.set_cons_succ]
      refine wpAnyH_ready (rs:=[1]) (by kernel_rfl) (by simp) ?_
      refine AllReadyH.cons rfl (fun K' hK=>?_) AllReadyH.nil
      refine step_goV (by rfl) (some 140) rfl 14 #[.tmp 139] _ rfl #[.slice ax kx.length cx] (by simp [Act.eval]) (enters_of Tryz.func14 (by kernel_rfl) rfl) (CSS _ hH) ?_
      rintro e Va ⟨v1,rfl,hA⟩
      obtain ⟨a1,g1,c1,rfl,hS1⟩:=hA.ex
      refine ⟨_,rfl,hK.out _ _ (hH.trans (hA.bel.mono hH.size)) (fun hH1=>?_)⟩
      clear hK K'
      simp only [Act.put,List.setIfInBounds_toArray,List.set_cons_zero,List.set_cons_succ]
      refine wpAnyH_ready (rs:=[4]) (by kernel_rfl) (by simp) ?_
      refine AllReadyH.cons rfl (fun K' hK=>?_) AllReadyH.nil
      refine step_goV (by rfl) (some 143) rfl 12 #[.tmp 141,.tmp 142] _ rfl #[.agg #[.slice ai nn.length ci],.int .i64 kn] (by simp [Act.eval]) (enters_of Tryz.func12 (by kernel_rfl) rfl) (CQ2 _ hH1) ?_
      rintro e Vb ⟨v2,rfl,hB⟩
      obtain ⟨az,gz,cz,rfl,hS2⟩:=hB.ex
      have hS12:=hS1.below hB.bel (Nat.le_refl _)
      refine ⟨_,rfl,hK.out _ _ (hH1.trans (hB.bel.mono hH1.size)) (fun hH2=>?_)⟩
      clear hK K'
      simp only [Act.put,List.setIfInBounds_toArray,List.set_cons_zero,List.set_cons_succ]
      refine wpAnyH_ready (rs:=[5]) (by kernel_rfl) (by simp) ?_
      refine AllReadyH.cons rfl (fun K' hK=>?_) AllReadyH.nil
      refine step_goV (by rfl) (some 144) rfl 13 #[.tmp 140,.tmp 143] _ rfl #[.slice a1 (M.sortK kx).length c1,.slice az (M.sortK kx).length cz] (by simp [Act.eval]) (enters_of Tryz.func13 (by kernel_rfl) rfl) (lpList_same a1 g1 0 c1 az gz 0 cz (M.sortK kx) Vb (by omega) hnk2 hS12 hS2) ?_
      rintro e Vc ⟨rfl,b3⟩
      refine ⟨_,rfl,hK.out _ _ (hH2.trans (b3.mono hH2.size)) (fun hH3=>?_)⟩
      clear hK K'
      simp only [Act.put,List.setIfInBounds_toArray,List.set_cons_zero,List.set_cons_succ]
      refine takeD 6 (some 4) (.bool true) hH3 rfl rfl (by kernel_rfl) (by kernel_rfl) (by kernel_rfl) (fun _ _ _ h=>h) (Or.inl ⟨by rfl,by intro w' hSw;go_simp⟩) ?_
      simp only [Act.put,List.setIfInBounds_toArray,List.set_cons_zero,List.set_cons_succ]
      refine wpAnyH_done (by kernel_rfl) ?_ _
      go_wp2_with fail
      go_ret
      exact ⟨rfl,bwr.trans (hH3.mono bwr.size)⟩
 ·go_enter Tryz.func6,Tryz.ntmps6
  rcases (show 1048576 < L∨(L≤1048576∧1048576 < ml) by omega) with h1 | ⟨h1,h2⟩
  ·go_wp2_with fail
   go_ret
   exact ⟨rfl,Below.refl _ _⟩
  ·go_wp2_with fail
   go_ret
   exact ⟨rfl,Below.refl _ _⟩
end Go.Proofs.YtihfibjckkmmbaaGreat
