/- The law FnOrderVals, walked: it answers true, and leaves all as it was. Of whatever code. -/
import Derived.Below
import Derived.BigQuiet
import Derived.Deep.AppendLies
import Derived.Deep.CutRange
import Derived.Deep.MidRow
import Derived.Deep.Quiet
import Derived.Deep.QuietTactic
import Derived.Deep.RegionHeld3
import Derived.Deep.RegionLaw
import Derived.Deep.RegionWith
import Derived.Deep.Slices
import Derived.Deep.WholeRow
import Derived.Handy
import Derived.Laws.AppendOwn
import Derived.Laws.AppendOwnNone
import Derived.Laws.EntriesVeiled
import Derived.Laws.IdiomCopy
import Derived.Laws.OwnMore
import Derived.LoopIn
import Derived.LoopN
import Derived.LoopNIn
import Derived.Maps.AppendAt
import Derived.OwnWalkIn
import Derived.RangeFuncBound
import Derived.RangeFuncLeaves
import Derived.RangeFuncNested
import Derived.Shelf.Abstract
import Derived.Shelf.SlSortCmp.NoneTotal
import Derived.Sort.Grow
import Derived.TacticsInMore
import Derived.WalkKit
import Derived.WalkLawsBesides
import Derived.WalkSpells
import Derived.Deep.OwnRows
import Derived.Test.YtihfibjckkmmbaaGreatRows
import Derived.Test.YtihfibjckkmmbaaGreatOebr
import Derived.Test.YtihfibjckkmmbaaGreatOeca
import Derived.Test.YtihfibjckkmmbaaGreatOecd
import Derived.Test.YtihfibjckkmmbaaGreatOece
namespace Go.Proofs.YtihfibjckkmmbaaGreat
open Go.RowKit
theorem M.orderAll_vals {mm:List (List M.D)} {k:Int} {z:Key} (hz:z∈M.orderAll mm k):(∀ x∈z.1,0≤x∧x≤3)∧∀ x∈z.2,0≤x∧x≤3:=by
 obtain ⟨x,hx,rfl⟩:=M.mem_orderAll.1 hz
 have W:=M.way_of (M.holds_parts_of hx).2
 have h3:M.vals (M.seenR (M.deeds mm) x.1)=true:=M.rdAt_in W _ _ (by simp)
 have h4:M.vals (M.seenL (M.deeds mm) x.1 x.2)=true:=M.last_in W x.2 (fun _ h=>h)
 simp only [M.vals,List.all_eq_true,Bool.and_eq_true,decide_eq_true_eq] at h3 h4
 exact ⟨h3,h4⟩
def M.vOf (gs:List Int) (x:Int):Int:=gs.getD x.toNat 0
theorem M.vals_law {mm qq:List (List M.D)} {gs:List Int} (e:(M.turnVals mm gs).getD []=qq) (h:(M.turnVals mm gs).isSome=true) (kind:Int):gs.length=4∧M.sortK ((M.orderAll mm kind).map fun z=>(z.1.map (M.vOf gs),z.2.map (M.vOf gs)))=M.orderAll qq kind:=by
 obtain ⟨y,hy⟩:=Option.isSome_iff_exists.1 h
 obtain ⟨h1,h2,h0,h3⟩:=M.turnVals_some hy
 rw [hy] at e
 obtain rfl:y=qq:=e
 subst h3
 exact ⟨M.rowN_len h2,M.all_vals h1 h2 h0 kind⟩
structure VcB (W:World) (S:Nat) (v1 v2:Value) (l1 l2:List Int) (w':World):Prop where
 bel:Below W.heap.size W w'
 ge:W.heap.size≤S
 lt:S < w'.heap.size
 s0:w'.cell? ⟨S,0,none⟩=some v1
 s1:w'.cell? ⟨S,1,none⟩=some v2
 fz:∀ j,w'.frozen? ⟨S,j,none⟩=false
 own1:w'.ownsRow W.heap.size 3 1 v1 l1.length (nums l1)
 own2:w'.ownsRow W.heap.size 3 1 v2 l2.length (nums l2)
 n1:v1.ownBlock≠some S
 n2:v2.ownBlock≠some S
 n12:∀ k,v1.ownBlock=some k→v2.ownBlock≠some k
theorem VcB.drew {W w':World} {S:Nat} {v1 v2:Value} {l1 l2:List Int} (h:VcB W S v1 v2 l1 l2 w'):VcB W S v1 v2 l1 l2 w'.drew:=⟨h.bel.drew,h.ge,h.lt,h.s0,h.s1,h.fz,h.own1,h.own2,h.n1,h.n2,h.n12⟩
theorem setCell_grown (w:World) (S j:Nat) (u:Value):w.grownBy (w.setCell ⟨S,j,none⟩ u) (some S):=⟨rfl,rfl,rfl,by simp,fun k _ hk=>heap_setCell_other w ⟨S,j,none⟩ k u (fun e=>hk (by simp [e]))⟩
theorem VcB.new (w:World):VcB w (w.heap.size+1+1) (.slice (some ⟨w.heap.size,0,none⟩) 0 0) (.slice (some ⟨w.heap.size+1,0,none⟩) 0 0) [] [] (((w.alloc (.cells #[] 3)).alloc (.cells #[] 3)).alloc (.cells #[.slice (some ⟨w.heap.size,0,none⟩) 0 0,.slice (some ⟨w.heap.size+1,0,none⟩) 0 0] 35)):=by
 have h1:(w.alloc (.cells #[] 3)).ownsRow w.heap.size 3 1 (.slice (some ⟨w.heap.size,0,none⟩) 0 0) 0 []:=own_emp (heap_alloc_new w _) (Nat.le_refl _)
 have h2:((w.alloc (.cells #[] 3)).alloc (.cells #[] 3)).ownsRow w.heap.size 3 1 (.slice (some ⟨(w.alloc (.cells #[] 3)).heap.size,0,none⟩) 0 0) 0 []:=own_emp (heap_alloc_new (w.alloc (.cells #[] 3)) _) (by simp)
 rw [World.size_alloc] at h2
 have h3:=heap_alloc_new ((w.alloc (.cells #[] 3)).alloc (.cells #[] 3)) (.cells #[.slice (some ⟨w.heap.size,0,none⟩) 0 0,.slice (some ⟨w.heap.size+1,0,none⟩) 0 0] 35)
 simp only [World.size_alloc] at h3
 refine ⟨below3 w _ _ _,by omega,by simp,by unfold World.cell?;simp only;rw [h3];rfl,by unfold World.cell?;simp only;rw [h3];rfl,fun j=>by unfold World.frozen?;simp only;rw [h3];simp,(h1.alloc _).alloc _,h2.alloc _,?_,?_,?_⟩
 ·intro e;have h:w.heap.size=w.heap.size+1+1:=Option.some.inj e;omega
 ·intro e;have h:w.heap.size+1=w.heap.size+1+1:=Option.some.inj e;omega
 ·intro k e e2
  have h:w.heap.size=k:=Option.some.inj e
  have h':w.heap.size+1=k:=Option.some.inj e2
  omega
theorem VcB.push1 {W w' w5:World} {S g c:Nat} {v1 v2:Value} {l1 l2:List Int} {y:Int} {o:Obj} (h:VcB W S v1 v2 l1 l2 w') (ho:w5.ownsRow W.heap.size 3 1 (.slice (some ⟨g,0,none⟩) (l1.length+1) c) (l1.length+1) (nums l1++[.int .i64 y])) (hg:(w'.alloc o).grownBy w5 v1.ownBlock) (hat:v1.ownBlock=some g∨g=w'.heap.size+1) :
  Below W.heap.size W w5∧w5.cell? ⟨S,0,none⟩=some v1∧w5.frozen? ⟨S,0,none⟩=false∧VcB W S (.slice (some ⟨g,0,none⟩) (l1.length+1) c) v2 (l1++[y]) l2 (w5.setCell ⟨S,0,none⟩ (.slice (some ⟨g,0,none⟩) (l1.length+1) c)):=by
 have hS:w5.heap[S]?=w'.heap[S]?:=(hg.block S (by have:=h.lt;simp;omega) (fun e=>h.n1 e.symm)).trans ((below1 w' o).block S h.lt)
 have hsz:w'.heap.size+1≤w5.heap.size:=by have:=hg.size;simpa using this
 have hge:=h.ge
 have hlt:=h.lt
 have hbw:=h.bel.size
 have b5:Below W.heap.size W w5:=below_grown (h.bel.alloc h.bel.size o) hg (fun k hk=>(h.own1.lt k hk).1) (by simp;omega)
 have c0:w5.cell? ⟨S,0,none⟩=some v1:=(World.cell?_of_block (w:=w') hS).trans h.s0
 have c1:w5.cell? ⟨S,1,none⟩=some v2:=(World.cell?_of_block (w:=w') hS).trans h.s1
 have fz:∀ j,w5.frozen? ⟨S,j,none⟩=false:=fun j=>(World.frozen?_of_block (w:=w') hS).trans (h.fz j)
 have gS:g≠S:=by
  rcases hat with e | e
  ·intro e2;exact h.n1 (e2▸e)
  ·omega
 have g12:∀ k,v2.ownBlock=some k→g≠k:=fun k hk=>by
  rcases hat with e | e
  ·intro e2
   exact h.n12 k (e2▸e) hk
  ·have:=(h.own2.lt k hk).2;omega
 have hk:w5.ownsRow W.heap.size 3 1 v2 l2.length (nums l2):=(h.own2.alloc o).kept hg (by
  cases hv:v2.ownBlock with
  | none=>exact .inl rfl
  | some k =>
   right
   intro e
   exact h.n12 k e.symm hv)
 have G:=setCell_grown w5 S 0 (.slice (some ⟨g,0,none⟩) (l1.length+1) c)
 refine ⟨b5,c0,fz 0,b5.setCell h.ge _,h.ge,by simp;omega,?_,?_,fun j=>by rw [World.frozen?_setCell];exact fz j,?_,?_,?_,?_,?_⟩
 ·exact World.cell?_setCell_same _ _ _ c0
 ·rw [World.cell?_setCell_other _ _ _ _ (fun e=>by simp at e)];exact c1
 ·rw [nums_snoc,List.length_append]
  exact ho.kept G (.inr (fun e=>gS (Option.some.inj e)))
 ·exact hk.kept G (.inr h.n2)
 ·exact fun e=>gS (Option.some.inj e)
 ·exact h.n2
 ·intro k e e2
  exact g12 k e2 (Option.some.inj e)
theorem VcB.push2 {W w' w5:World} {S g c:Nat} {v1 v2:Value} {l1 l2:List Int} {y:Int} {o:Obj} (h:VcB W S v1 v2 l1 l2 w') (ho:w5.ownsRow W.heap.size 3 1 (.slice (some ⟨g,0,none⟩) (l2.length+1) c) (l2.length+1) (nums l2++[.int .i64 y])) (hg:(w'.alloc o).grownBy w5 v2.ownBlock) (hat:v2.ownBlock=some g∨g=w'.heap.size+1) :
  Below W.heap.size W w5∧w5.cell? ⟨S,1,none⟩=some v2∧w5.frozen? ⟨S,1,none⟩=false∧VcB W S v1 (.slice (some ⟨g,0,none⟩) (l2.length+1) c) l1 (l2++[y]) (w5.setCell ⟨S,1,none⟩ (.slice (some ⟨g,0,none⟩) (l2.length+1) c)):=by
 have hS:w5.heap[S]?=w'.heap[S]?:=(hg.block S (by have:=h.lt;simp;omega) (fun e=>h.n2 e.symm)).trans ((below1 w' o).block S h.lt)
 have hsz:w'.heap.size+1≤w5.heap.size:=by have:=hg.size;simpa using this
 have hge:=h.ge
 have hlt:=h.lt
 have hbw:=h.bel.size
 have b5:Below W.heap.size W w5:=below_grown (h.bel.alloc h.bel.size o) hg (fun k hk=>(h.own2.lt k hk).1) (by simp;omega)
 have c0:w5.cell? ⟨S,0,none⟩=some v1:=(World.cell?_of_block (w:=w') hS).trans h.s0
 have c1:w5.cell? ⟨S,1,none⟩=some v2:=(World.cell?_of_block (w:=w') hS).trans h.s1
 have fz:∀ j,w5.frozen? ⟨S,j,none⟩=false:=fun j=>(World.frozen?_of_block (w:=w') hS).trans (h.fz j)
 have gS:g≠S:=by
  rcases hat with e | e
  ·intro e2;exact h.n2 (e2▸e)
  ·omega
 have g12:∀ k,v1.ownBlock=some k→g≠k:=fun k hk=>by
  rcases hat with e | e
  ·intro e2
   exact h.n12 k hk (e2▸e)
  ·have:=(h.own1.lt k hk).2;omega
 have hk:w5.ownsRow W.heap.size 3 1 v1 l1.length (nums l1):=(h.own1.alloc o).kept hg (by
  cases hv:v1.ownBlock with
  | none=>exact .inl rfl
  | some k =>
   right
   intro e
   exact h.n12 k hv e.symm)
 have G:=setCell_grown w5 S 1 (.slice (some ⟨g,0,none⟩) (l2.length+1) c)
 refine ⟨b5,c1,fz 1,b5.setCell h.ge _,h.ge,by simp;omega,?_,?_,fun j=>by rw [World.frozen?_setCell];exact fz j,?_,?_,?_,?_,?_⟩
 ·rw [World.cell?_setCell_other _ _ _ _ (fun e=>by simp at e)];exact c0
 ·exact World.cell?_setCell_same _ _ _ c1
 ·exact hk.kept G (.inr h.n1)
 ·rw [nums_snoc,List.length_append]
  exact ho.kept G (.inr (fun e=>gS (Option.some.inj e)))
 ·exact h.n1
 ·exact fun e=>gS (Option.some.inj e)
 ·intro k e e2
  exact g12 k e (Option.some.inj e2)
set_option maxHeartbeats 2000000 in
set_option maxRecDepth 100000 in
set_option linter.unusedSimpArgs false in
theorem lawVc_any (ca:Option Addr) (cb co L C:Nat) (x:Nat→Int) (ma:Option Addr) (ml C2:Nat) (w:World) (hL:L≤C) (had:0 < L→ca=some ⟨cb,co,none⟩) (hc:∀ i,i < L→w.cell? ⟨cb,co+i,none⟩=some (.int .u8 (x i))∧0≤x i∧x i≤255) :
  Calls Tryz.prog 4 #[.slice ca L C,.slice ma ml C2] w fun e w'=>e=.returned (.bool true)∧Below w.heap.size w w':=by
 by_cases hLb:L≤1048576∧ml≤1048576
 ·obtain ⟨hLa,hLm⟩:=hLb
  go_enter Tryz.func4,Tryz.ntmps4
  go_wp2_with fail
  refine (DrawTurnVals_any ca cb co L C x _ hL had hc hLa).mono ?_
  rintro e w1 ⟨a,g,c,mm,ga,gg,gc,gs,rfl,hD⟩
  have hle:∀ t∈mm,t.length≤1048576:=fun t ht=>by have:=hD.sm.steps t ht;omega
  have hml:mm.length≤1048576:=by have:=hD.sm.three;omega
  have hgl:gs.length≤1048576:=by have:=hD.gl;omega
  have hgl20:gs.length≤1000:=by have:=hD.gl;omega
  have bA:=below1 w1 (.cells #[.slice a mm.length c] 25)
  have bwA:=hD.bel.trans (bA.mono hD.bel.size)
  have sP:=Slot1.new w1 (.slice a mm.length c) 25
  have ssP:=hD.sn.ss.below bA (Nat.le_refl _)
  have giP:=hD.gi.below bA (Nat.le_refl _)
  clear had hc hD bA
  have x0:=sP.c
  go_wp2_with fail
  generalize w1.alloc (.cells #[.slice a mm.length c] 25)=WA at *
  generalize w1.heap.size=P at *
  have CS:=sturnVals_any a g 0 c mm hml hle ga gg 0 gc gs hgl
  have CI:=iturnVals_any a g 0 c mm hml hle ga gg 0 gc gs hgl
  obtain ⟨k,hk,hk3⟩:∃ k,ml % 3=k∧k < 3:=⟨_,rfl,Nat.mod_lt _ (by omega)⟩
  have hmd:Int.tmod (ml:Int) 3=(k:Int):=by rw [Int.tmod_eq_emod_of_nonneg (by omega),← hk];exact (Int.natCast_emod _ _).symm
  obtain ⟨kn,hkn⟩:∃ kn:Int,IntKind.i64.wrap (1+(k:Int))=kn:=⟨_,rfl⟩
  have HS:Hid (∀ qq,(M.turnVals mm gs).getD []=qq→(M.turnVals mm gs).isSome=true→gs.length=4∧M.sortK ((M.orderAll mm kn).map fun z=>(z.1.map (M.vOf gs),z.2.map (M.vOf gs)))=M.orderAll qq kn):=fun qq e h=>M.vals_law e h kn
  clear hk
  obtain ⟨qq,hq⟩:∃ qq,(M.turnVals mm gs).getD []=qq:=⟨_,rfl⟩
  rw [hq] at CS CI
  obtain ⟨hq3,hq7⟩:=M.turnVals_small hq
  have hql:qq.length≤1048576:=by omega
  have hqls:∀ t∈qq,t.length≤1048576:=fun t ht=>by have:=hq7 t ht;omega
  have HS1:Hid ((M.turnVals mm gs).isSome=true→gs.length=4∧M.sortK ((M.orderAll mm kn).map fun z=>(z.1.map (M.vOf gs),z.2.map (M.vOf gs)))=M.orderAll qq kn):=HS.out qq hq
  clear hq HS
  obtain ⟨ok,hok⟩:∃ ok,(M.turnVals mm gs).isSome=ok:=⟨_,rfl⟩
  rw [hok] at CS CI HS1
  clear hok
  have LQ:=fun A B C D E F W h1 h2=>lpProg_any A B 0 C D E 0 F qq qq W hql hql hqls h1 h2
  rw [M.eqLL_yes rfl] at LQ
  refine (CS WA ssP giP).mono ?_
  rintro e w2 ⟨v2,rfl,⟨vs2,hR2⟩,b2⟩
  obtain ⟨av,gv,cv,rfl,hss2⟩:=hR2.b.ss
  have bW:=below1 w2 (.cells #[.slice av qq.length cv] 25)
  have bAW:=b2.trans (bW.mono b2.size)
  have sPW:=sP.bl' bAW
  have sW:=Slot1.new w2 (.slice av qq.length cv) 25
  have ssW:=hss2.below bW (Nat.le_refl _)
  clear hR2 hss2 b2 bW x0
  have x0:=sPW.c
  go_wp2_with fail
  generalize w2.alloc (.cells #[.slice av qq.length cv] 25)=WB at *
  generalize w2.heap.size=PW at *
  refine (CI WB (ssP.below bAW (Nat.le_refl _)) (giP.below bAW (Nat.le_refl _))).mono ?_
  rintro e w3 ⟨v3,rfl,⟨vs3,hR3⟩,b3⟩
  obtain ⟨ai,gi,ci,rfl,hss3⟩:=hR3.b.ss
  have bQ:=below1 w3 (.cells #[.slice ai qq.length ci] 25)
  have bBQ:=b3.trans (bQ.mono b3.size)
  have bAQ:=bAW.trans (bBQ.mono bAW.size)
  have sPQ:=sP.bl' bAQ
  have sQ:=Slot1.new w3 (.slice ai qq.length ci) 25
  have ssQ:=hss3.below bQ (Nat.le_refl _)
  have sWQ:=sW.bl' bBQ
  have ssWQ:=ssW.below bBQ (Nat.le_refl _)
  clear hR3 hss3 b3 bQ x0 sPW sW ssW
  have x1:=sQ.c
  have x2:=sWQ.c
  cases ok
  ·go_wp2_with fail
   generalize w3.alloc (.cells #[.slice ai qq.length ci] 25)=WC at *
   generalize w3.heap.size=PQ at *
   refine (LQ ai gi ci av gv cv _ ssQ ssWQ).mono ?_
   rintro e w4 ⟨rfl,b4⟩
   have sQ4:=sQ.bl' b4
   have sW4:=sWQ.bl' b4
   have bA4:=bAQ.trans (b4.mono bAQ.size)
   clear x1 x2
   have x1:=sQ4.c
   have x2:=sW4.c
   go_wp2_with fail
   refine (LQ ai gi ci av gv cv _ (ssQ.below b4 (Nat.le_refl _)) (ssWQ.below b4 (Nat.le_refl _))).mono ?_
   rintro e w5 ⟨rfl,b5⟩
   go_wp2_with fail
   go_ret
   exact ⟨rfl,bwA.trans ((bA4.trans (b5.mono bA4.size)).mono bwA.size)⟩
  ·obtain ⟨hg4,hsort⟩:=HS1.out rfl
   have HSO:Hid (M.sortK ((M.orderAll mm kn).map fun z=>(z.1.map (M.vOf gs),z.2.map (M.vOf gs)))=M.orderAll qq kn):=hsort
   have HG4:Hid (gs.length=4):=hg4
   have HZV:Hid (∀ z∈M.orderAll mm kn,(∀ x∈z.1,0≤x∧x≤3)∧∀ x∈z.2,0≤x∧x≤3):=fun z hz=>M.orderAll_vals hz
   clear HS1 hsort hg4
   go_wp2_with fail
   generalize w3.alloc (.cells #[.slice ai qq.length ci] 25)=WC at *
   generalize w3.heap.size=PQ at *
   refine (LQ ai gi ci av gv cv _ ssQ ssWQ).mono ?_
   rintro e WD ⟨rfl,b4⟩
   have sQD:=sQ.bl' b4
   have sPD:=sPQ.bl' b4
   have bAD:=bAQ.trans (b4.mono bAQ.size)
   have ssQD:=ssQ.below b4 (Nat.le_refl _)
   have ssPD:=ssP.below bAD (Nat.le_refl _)
   have giD:=giP.below bAD (Nat.le_refl _)
   have bwD:=bwA.trans (bAD.mono bwA.size)
   clear x1 x2 sQ sPQ bAQ ssQ ssP b4 bAD sWQ ssWQ bBQ bAW sP giP bwA CS CI LQ
   have x0:=sPD.c
   have x1:=sQD.c
   have hkl:=M.orderAll_len mm kn
   have hkk:=M.orderAll_le mm kn
   have CP:=fun (W:World) (h:DoSS W a g 0 mm)=>iorderAllK a g 0 c mm kn W hml hle h
   have CQ:=fun (W:World) (h:DoSS W ai gi 0 qq)=>iorderAllK ai gi 0 ci qq kn W hql hqls h
   obtain ⟨ks,hks⟩:∃ ks,M.orderAll mm kn=ks:=⟨_,rfl⟩
   rw [hks] at hkl hkk CP HSO HZV
   have hql2:=M.orderAll_len qq kn
   have hqk2:=M.orderAll_le qq kn
   rw [← HSO.out] at CQ hql2 hqk2
   clear hks HSO
   obtain ⟨j0,hj,hy0,hy1,hy2⟩:=info_parts Tryz.infoSn2
   obtain ⟨i0,hi,hz0,hz1,hz2⟩:=info_parts Tryz.infoInt
   go_wp2_with fail
   refine (CP WD ssPD).mono ?_
   rintro e WE ⟨v1,rfl,hA⟩
   obtain ⟨av1,gv,cv,rfl,hSE⟩:=hA.ex
   have bDE:=hA.bel
   have bwE:=bwD.trans (bDE.mono bwD.size)
   have sQE:=sQD.bl' bDE
   have ssQE:=ssQD.below bDE (Nat.le_refl _)
   have giE:=giD.below bDE (Nat.le_refl _)
   have hgr:∀ (i:Nat) (h:i < gs.length),ga=some ⟨gg,0,none⟩∧∀ (W:World),Below WE.heap.size WE W→W.cell? ⟨gg,i,none⟩=some (.int .i64 gs[i]):=fun i h=>by
    refine ⟨giE.addr (by omega),fun W hb=>?_⟩
    have:=(giE.below hb (Nat.le_refl _)).row i h
    rwa [Nat.zero_add] at this
   have hemp:(WE.alloc (.cells #[] 35)).ownsRow WE.heap.size 35 2 (.slice (some ⟨WE.heap.size,0,none⟩) 0 0) 0 []:=own_emp (heap_alloc_new WE _) (Nat.le_refl _)
   have bE:=below1 WE (.cells #[] 35)
   clear hA CP bDE sPD sQD ssQD ssPD giD bwD x0 x1 giE
   go_wp2_with fail
   go_loopw [13,14] (fun s13 s14 wr=>∃ (n:Nat) (v:Value) (ss:List Sn),v=s13∧s14=.int .i64 n∧n≤ks.length∧Hid (ss.length=n)∧SnL wr WE.heap.size v ss∧Hid (kys ss=(ks.take n).map fun z=>(z.1.map (M.vOf gs),z.2.map (M.vOf gs)))∧Below WE.heap.size WE wr) (fun _ s14 _=>ks.length - (intOf s14).toNat)
   case atStart=>exact ⟨0,_,[],rfl,rfl,Nat.zero_le _,rfl,⟨hemp,fun s hs=>(by cases hs),fun s hs=>(by cases hs)⟩,by show _=_;simp [kys],bE⟩
   case round =>
    obtain ⟨n,v,ss,hv13,rfl,hn,HSL,hL,HKY,hb⟩:=hrel
    subst hv13
    clear hemp bE
    by_cases hlt:n < ks.length
    ·have i1:(n:Int) < ks.length:=by omega
     obtain ⟨rfl⟩:=hSE.addr (by omega)
     obtain ⟨s,h1,h2',c1,c2',hsa⟩:=hSE.row n hlt
     obtain ⟨e1,e2⟩:=hkk _ (List.getElem_mem hlt)
     rw [← h1] at e1
     rw [← h2'] at e2
     rw [Nat.zero_add] at c1 c2'
     have HV1:Hid (∀ x∈s.l1,0≤x∧x≤3):=by rw [h1];exact (HZV.out _ (List.getElem_mem hlt)).1
     have HV2:Hid (∀ x∈s.l2,0≤x∧x≤3):=by rw [h2'];exact (HZV.out _ (List.getElem_mem hlt)).2
     have HKX:Hid ((ks.take (n+1)).map (fun z=>(z.1.map (M.vOf gs),z.2.map (M.vOf gs)))=(ks.take n).map (fun z=>(z.1.map (M.vOf gs),z.2.map (M.vOf gs)))++[(s.l1.map (M.vOf gs),s.l2.map (M.vOf gs))]):=by show _=_;rw [List.take_succ_eq_append_getElem hlt,List.map_append,h1,h2'];rfl
     have hSW:∀ w',Below WE.heap.size WE w'→w'.cell? ⟨gv,n * 2,none⟩=some (.slice s.a1 s.l1.length s.c1)∧w'.cell? ⟨gv,n * 2+1,none⟩=some (.slice s.a2 s.l2.length s.c2):=fun w' hb'=>⟨(hb'.cell (p:=⟨gv,n * 2,none⟩) (World.block_lt_of_cell? _ _ c1)).trans c1,(hb'.cell (p:=⟨gv,n * 2+1,none⟩) (World.block_lt_of_cell? _ _ c2')).trans c2'⟩
     have HR1:Hid (∀ w',Below WE.heap.size WE w'→∀ i (h:i < s.l1.length),w'.cell? ⟨s.b1,s.o1+i,none⟩=some (.int .i64 s.l1[i])):=fun w' hb' i h=>(hsa.reads.below hb' (Nat.le_refl _)).row i h
     have HR2:Hid (∀ w',Below WE.heap.size WE w'→∀ i (h:i < s.l2.length),w'.cell? ⟨s.b2,s.o2+i,none⟩=some (.int .i64 s.l2[i])):=fun w' hb' i h=>(hsa.last.below hb' (Nat.le_refl _)).row i h
     clear h1 h2' c1 c2'
     obtain ⟨wo,rfl⟩:∃ wo:World,wo=wr:=⟨_,rfl⟩
     have hwo:=hb.size
     have hN:=VcB.new wo
     go_wp2_with fail
     generalize ((wo.alloc (.cells #[] 3)).alloc (.cells #[] 3)).alloc (.cells #[.slice (some ⟨wo.heap.size,0,none⟩) 0 0,.slice (some ⟨wo.heap.size+1,0,none⟩) 0 0] 35)=WN at *
     generalize (.slice (some ⟨wo.heap.size+1,0,none⟩) 0 0:Value)=VB at *
     generalize (.slice (some ⟨wo.heap.size,0,none⟩) 0 0:Value)=VA at *
     generalize wo.heap.size+1+1=S at *
     go_loopw [16] (fun s16 wr=>∃ (pl:Nat) (vv:Value),s16=.int .i64 pl∧pl≤s.l1.length∧VcB wo S vv VB ((s.l1.take pl).map (M.vOf gs)) [] wr) (fun s16 _=>s.l1.length - (intOf s16).toNat)
     case atStart=>exact ⟨0,VA,rfl,by omega,hN⟩
     case round =>
      obtain ⟨pl,vv,rfl,hpl,hQ⟩:=hrel
      have hbq:Below WE.heap.size WE wr:=hb.trans (hQ.bel.mono hwo)
      have hrow:=(hSW wr hbq).1
      by_cases hp3:pl < s.l1.length
      ·have i3:(pl:Int) < s.l1.length:=by omega
       have hadr:=(hsa.reads).addr (by omega)
       obtain ⟨hx0,hx3⟩:=HV1.out _ (List.getElem_mem hp3)
       obtain ⟨y,hy⟩:∃ y,s.l1[pl]'hp3=y:=⟨_,rfl⟩
       rw [hy] at hx0 hx3
       have HRC:∀ w',Below WE.heap.size WE w'→w'.cell? ⟨s.b1,s.o1+pl,none⟩=some (.int .i64 y):=fun w' hb'=>by rw [← hy];exact HR1.out w' hb' pl hp3
       have HTK:Hid ((s.l1.take (pl+1)).map (M.vOf gs)=(s.l1.take pl).map (M.vOf gs)++[M.vOf gs y]):=by show _=_;rw [List.take_succ_eq_append_getElem hp3,List.map_append,hy];rfl
       clear hy
       obtain ⟨yn,rfl⟩:=Int.eq_ofNat_of_zero_le hx0
       have hyg:yn < gs.length:=by have:=HG4.out;omega
       obtain ⟨hga,HGC⟩:=hgr yn hyg
       subst hga
       have HVO:Hid (M.vOf gs (yn:Int)=gs[yn]):=by show _=_;rw [M.vOf,Int.toNat_natCast,List.getD_eq_getElem?_getD,List.getElem?_eq_getElem hyg];rfl
       generalize gs[yn]=u at *
       have iyg:(yn:Int) < gs.length:=by omega
       have hll:((s.l1.take pl).map (M.vOf gs)).length≤1048576:=by rw [List.length_map,List.length_take];omega
       rw [HVO.out] at HTK
       generalize hlp:(s.l1.take pl).map (M.vOf gs)=lp at *
       have hlt5:=hQ.lt
       have hso:=hQ.bel.size
       clear hgr hx0 hx3 hlp
       go_wp2_with fail
       refine wp_region_held_drew (S:=fun w'=>Below WE.heap.size WE w') (by kernel_rfl) hbq.drew (fun hH=>?_)
       refine takeD 0 (some 91) (.pointer (some ⟨S,0,none⟩)) hH rfl rfl (by kernel_rfl) (by kernel_rfl) (by kernel_rfl) (fun _ _ _ h=>h) (Or.inl ⟨by rfl,by intro w' hSw;go_simp⟩) ?_
       simp only [Act.put,List.setIfInBounds_toArray,List.set_cons_zero,List.set_cons_succ]
       refine takeD 2 (some 93) (.slice (some ⟨gg,0,none⟩) gs.length gc) hH rfl rfl (by kernel_rfl) (by kernel_rfl) (by kernel_rfl) (fun _ _ _ h=>h) (Or.inl ⟨by rfl,by intro w' hSw;go_simp⟩) ?_
       simp only [Act.put,List.setIfInBounds_toArray,List.set_cons_zero,List.set_cons_succ]
       refine takeD 3 (some 94) (.slice (some ⟨gv,0,none⟩) ks.length cv) hH rfl rfl (by kernel_rfl) (by kernel_rfl) (by kernel_rfl) (fun _ _ _ h=>h) (Or.inl ⟨by rfl,by intro w' hSw;go_simp⟩) ?_
       simp only [Act.put,List.setIfInBounds_toArray,List.set_cons_zero,List.set_cons_succ]
       refine takeD 4 (some 95) (.int .i64 n) hH rfl rfl (by kernel_rfl) (by kernel_rfl) (by kernel_rfl) (fun _ _ _ h=>h) (Or.inl ⟨by rfl,by intro w' hSw;go_simp⟩) ?_
       simp only [Act.put,List.setIfInBounds_toArray,List.set_cons_zero,List.set_cons_succ]
       refine takeD 5 (some 96) (.pointer (some ⟨gv,n * 2,none⟩)) hH rfl rfl (by kernel_rfl) (by kernel_rfl) (by kernel_rfl) (fun _ _ _ h=>h) (Or.inl ⟨by rfl,by intro w' hSw;go_simp⟩) ?_
       simp only [Act.put,List.setIfInBounds_toArray,List.set_cons_zero,List.set_cons_succ]
       refine takeD 6 (some 97) (.pointer (some ⟨gv,n * 2,none⟩)) hH rfl rfl (by kernel_rfl) (by kernel_rfl) (by kernel_rfl) (fun _ _ _ h=>h) (Or.inl ⟨by rfl,by intro w' hSw;go_simp⟩) ?_
       simp only [Act.put,List.setIfInBounds_toArray,List.set_cons_zero,List.set_cons_succ]
       refine takeD 7 (some 98) (.slice (some ⟨s.b1,s.o1,none⟩) s.l1.length s.c1) hH rfl rfl (by kernel_rfl) (by kernel_rfl) (by kernel_rfl) (fun _ _ _ h=>h) (Or.inl ⟨by rfl,by intro w' hSw;have hc:=(hSW w' hSw).1;rw [hadr] at hc;go_simp⟩) ?_
       simp only [Act.put,List.setIfInBounds_toArray,List.set_cons_zero,List.set_cons_succ]
       refine takeD 8 (some 99) (.int .i64 pl) hH rfl rfl (by kernel_rfl) (by kernel_rfl) (by kernel_rfl) (fun _ _ _ h=>h) (Or.inl ⟨by rfl,by intro w' hSw;go_simp⟩) ?_
       simp only [Act.put,List.setIfInBounds_toArray,List.set_cons_zero,List.set_cons_succ]
       refine takeD 9 (some 100) (.pointer (some ⟨s.b1,s.o1+pl,none⟩)) hH rfl rfl (by kernel_rfl) (by kernel_rfl) (by kernel_rfl) (fun _ _ _ h=>h) (Or.inl ⟨by rfl,by intro w' hSw;go_simp⟩) ?_
       simp only [Act.put,List.setIfInBounds_toArray,List.set_cons_zero,List.set_cons_succ]
       refine takeD 10 (some 101) (.int .i64 yn) hH rfl rfl (by kernel_rfl) (by kernel_rfl) (by kernel_rfl) (fun _ _ _ h=>h) (Or.inl ⟨by rfl,by intro w' hSw;have hc:=HRC w' hSw;go_simp⟩) ?_
       simp only [Act.put,List.setIfInBounds_toArray,List.set_cons_zero,List.set_cons_succ]
       refine takeD 11 (some 102) (.pointer (some ⟨gg,yn,none⟩)) hH rfl rfl (by kernel_rfl) (by kernel_rfl) (by kernel_rfl) (fun _ _ _ h=>h) (Or.inl ⟨by rfl,by intro w' hSw;go_simp⟩) ?_
       simp only [Act.put,List.setIfInBounds_toArray,List.set_cons_zero,List.set_cons_succ]
       refine takeD 12 (some 103) (.int .i64 u) hH rfl rfl (by kernel_rfl) (by kernel_rfl) (by kernel_rfl) (fun _ _ _ h=>h) (Or.inl ⟨by rfl,by intro w' hSw;have hc:=HGC w' hSw;go_simp⟩) ?_
       simp only [Act.put,List.setIfInBounds_toArray,List.set_cons_zero,List.set_cons_succ]
       refine wpAnyH_ready (rs:=[1,13]) (by kernel_rfl) (by simp) ?_
       refine AllReadyH.cons rfl (fun K' hK=>?_) (AllReadyH.cons rfl (fun K' hK=>?_) AllReadyH.nil)
       ·have xx:wr.drew.cell? ⟨S,0,none⟩=some vv:=hQ.s0
        rw [if_pos (by rfl)]
        go_simp
        refine hK.out _ _ hbq.drew (fun hHb=>?_)
        clear hK K' xx
        refine wpAnyH_ready (rs:=[13]) (by kernel_rfl) (by simp) ?_
        refine AllReadyH.cons rfl (fun K' hK=>?_) AllReadyH.nil
        rw [if_pos (by rfl)]
        go_simp
        refine hK.out _ _ (hbq.drew.alloc hbq.size (.cells #[.int .i64 u] 3)) (fun hHa=>?_)
        clear hK K'
        refine wpAnyH_ready (rs:=[14]) (by kernel_rfl) (by simp) ?_
        refine AllReadyH.cons rfl (fun K' hK=>?_) AllReadyH.nil
        refine step_append_lies _ (by rfl) (.tmp 92) (.tmp 104) 26 (by rfl) wo.heap.size 3 i0 _ 1 8 Tryz.underlying26 hi hz0 hz1 hz2 rfl (by decide) vv lp.length (nums lp) (by rfl) (hQ.drew.own1.alloc _) ⟨wr.heap.size,0,none⟩ 1 1 [.int .i64 u] (by rfl) (by rfl) (World.news_of_block (cs:=#[.int .i64 u]) (t:=3) (fr:=(0,0)) (heap_alloc_new wr.drew _)) (by simp [Value.oneCell']) (by omega) (by unfold maxLen;omega) (by omega) (by simp;omega) (wr.heap.size+1) (by simp) ?_
        intro g5 cap5 w5 hown5 hg5 hat5 hlt5'
        obtain ⟨b5,k5,z5,hV5⟩:=hQ.drew.push1 hown5 hg5 hat5
        clear hown5 hg5 hat5
        simp only [Act.put,List.setIfInBounds_toArray,List.set_cons_zero,List.set_cons_succ]
        refine hK.out _ _ (hb.trans (b5.mono hwo)) (fun hHc=>?_)
        clear hK K'
        refine takeD 15 (some 106) (.pointer (some ⟨S,0,none⟩)) hHc rfl rfl (by kernel_rfl) (by kernel_rfl) (by kernel_rfl) (fun _ _ _ h=>h) (Or.inl ⟨by rfl,by intro w' hSw;go_simp⟩) ?_
        simp only [Act.put,List.setIfInBounds_toArray,List.set_cons_zero,List.set_cons_succ]
        refine wpAnyH_ready (rs:=[16]) (by kernel_rfl) (by simp) ?_
        refine AllReadyH.cons rfl (fun K' hK=>?_) AllReadyH.nil
        rw [if_pos (by rfl)]
        go_simp
        refine hK.out _ _ (hb.trans (hV5.bel.mono hwo)) (fun hHd=>?_)
        clear hK K' k5 z5
        refine wpAnyH_done (by kernel_rfl) ?_ _
        go_wp2_with fail
        have hV6:=hV5
        rw [← HTK.out] at hV6
        go_roundw
        case rel =>
         first
         | exact ⟨pl+1,_,by go_num,by omega,hV6⟩
         | ((repeat apply Exists.intro);exact ⟨⟨pl+1,_,by go_num,by omega,hV6⟩,rfl⟩)
        case measure=>(simp [intOf];omega)
       ·rw [if_pos (by rfl)]
        go_simp
        refine hK.out _ _ (hbq.drew.alloc hbq.size (.cells #[.int .i64 u] 3)) (fun hHa=>?_)
        clear hK K'
        refine wpAnyH_ready (rs:=[1]) (by kernel_rfl) (by simp) ?_
        refine AllReadyH.cons rfl (fun K' hK=>?_) AllReadyH.nil
        have xx:(wr.alloc (.cells #[.int .i64 u] 3)).cell? ⟨S,0,none⟩=some vv:=((below1 wr (.cells #[.int .i64 u] 3)).cell (p:=⟨S,0,none⟩) hlt5).trans hQ.s0
        rw [if_pos (by rfl)]
        go_simp
        refine hK.out _ _ (hbq.drew.alloc hbq.size (.cells #[.int .i64 u] 3)) (fun hHb=>?_)
        clear hK K' xx
        refine wpAnyH_ready (rs:=[14]) (by kernel_rfl) (by simp) ?_
        refine AllReadyH.cons rfl (fun K' hK=>?_) AllReadyH.nil
        refine step_append_lies _ (by rfl) (.tmp 92) (.tmp 104) 26 (by rfl) wo.heap.size 3 i0 _ 1 8 Tryz.underlying26 hi hz0 hz1 hz2 rfl (by decide) vv lp.length (nums lp) (by rfl) (hQ.drew.own1.alloc _) ⟨wr.heap.size,0,none⟩ 1 1 [.int .i64 u] (by rfl) (by rfl) (World.news_of_block (cs:=#[.int .i64 u]) (t:=3) (fr:=(0,0)) (heap_alloc_new wr.drew _)) (by simp [Value.oneCell']) (by omega) (by unfold maxLen;omega) (by omega) (by simp;omega) (wr.heap.size+1) (by simp) ?_
        intro g5 cap5 w5 hown5 hg5 hat5 hlt5'
        obtain ⟨b5,k5,z5,hV5⟩:=hQ.drew.push1 hown5 hg5 hat5
        clear hown5 hg5 hat5
        simp only [Act.put,List.setIfInBounds_toArray,List.set_cons_zero,List.set_cons_succ]
        refine hK.out _ _ (hb.trans (b5.mono hwo)) (fun hHc=>?_)
        clear hK K'
        refine takeD 15 (some 106) (.pointer (some ⟨S,0,none⟩)) hHc rfl rfl (by kernel_rfl) (by kernel_rfl) (by kernel_rfl) (fun _ _ _ h=>h) (Or.inl ⟨by rfl,by intro w' hSw;go_simp⟩) ?_
        simp only [Act.put,List.setIfInBounds_toArray,List.set_cons_zero,List.set_cons_succ]
        refine wpAnyH_ready (rs:=[16]) (by kernel_rfl) (by simp) ?_
        refine AllReadyH.cons rfl (fun K' hK=>?_) AllReadyH.nil
        rw [if_pos (by rfl)]
        go_simp
        refine hK.out _ _ (hb.trans (hV5.bel.mono hwo)) (fun hHd=>?_)
        clear hK K' k5 z5
        refine wpAnyH_done (by kernel_rfl) ?_ _
        go_wp2_with fail
        have hV6:=hV5
        rw [← HTK.out] at hV6
        go_roundw
        case rel =>
         first
         | exact ⟨pl+1,_,by go_num,by omega,hV6⟩
         | ((repeat apply Exists.intro);exact ⟨⟨pl+1,_,by go_num,by omega,hV6⟩,rfl⟩)
        case measure=>(simp [intOf];omega)
      ·have i3:¬ (pl:Int) < s.l1.length:=by omega
       have htk:s.l1.take pl=s.l1:=List.take_of_length_le (by omega)
       rw [htk] at hQ
       clear hN hrow htk
       go_wp2_with fail
       go_loopw [17] (fun s17 wr=>∃ (pl:Nat) (vb:Value),s17=.int .i64 pl∧pl≤s.l2.length∧VcB wo S vv vb (s.l1.map (M.vOf gs)) ((s.l2.take pl).map (M.vOf gs)) wr) (fun s17 _=>s.l2.length - (intOf s17).toNat)
       case atStart=>exact ⟨0,VB,rfl,by omega,hQ⟩
       case round =>
        obtain ⟨va,hva⟩:∃ va,va=vv:=⟨_,rfl⟩
        subst hva
        clear hQ hbq hpl i3
        obtain ⟨pl,vv,rfl,hpl,hQ⟩:=hrel
        have hbq:Below WE.heap.size WE wr:=hb.trans (hQ.bel.mono hwo)
        have hrow:=(hSW wr hbq).2
        by_cases hp3:pl < s.l2.length
        ·have i3:(pl:Int) < s.l2.length:=by omega
         have hadr:=(hsa.last).addr (by omega)
         obtain ⟨hx0,hx3⟩:=HV2.out _ (List.getElem_mem hp3)
         obtain ⟨y,hy⟩:∃ y,s.l2[pl]'hp3=y:=⟨_,rfl⟩
         rw [hy] at hx0 hx3
         have HRC:∀ w',Below WE.heap.size WE w'→w'.cell? ⟨s.b2,s.o2+pl,none⟩=some (.int .i64 y):=fun w' hb'=>by rw [← hy];exact HR2.out w' hb' pl hp3
         have HTK:Hid ((s.l2.take (pl+1)).map (M.vOf gs)=(s.l2.take pl).map (M.vOf gs)++[M.vOf gs y]):=by show _=_;rw [List.take_succ_eq_append_getElem hp3,List.map_append,hy];rfl
         clear hy
         obtain ⟨yn,rfl⟩:=Int.eq_ofNat_of_zero_le hx0
         have hyg:yn < gs.length:=by have:=HG4.out;omega
         obtain ⟨hga,HGC⟩:=hgr yn hyg
         subst hga
         have HVO:Hid (M.vOf gs (yn:Int)=gs[yn]):=by show _=_;rw [M.vOf,Int.toNat_natCast,List.getD_eq_getElem?_getD,List.getElem?_eq_getElem hyg];rfl
         generalize gs[yn]=u at *
         have iyg:(yn:Int) < gs.length:=by omega
         have hll:((s.l2.take pl).map (M.vOf gs)).length≤1048576:=by rw [List.length_map,List.length_take];omega
         rw [HVO.out] at HTK
         generalize hlp:(s.l2.take pl).map (M.vOf gs)=lp at *
         have hlt5:=hQ.lt
         have hso:=hQ.bel.size
         clear hgr hx0 hx3 hlp
         go_wp2_with fail
         refine wp_region_held_drew (S:=fun w'=>Below WE.heap.size WE w') (by kernel_rfl) hbq.drew (fun hH=>?_)
         refine takeD 0 (some 117) (.pointer (some ⟨S,1,none⟩)) hH rfl rfl (by kernel_rfl) (by kernel_rfl) (by kernel_rfl) (fun _ _ _ h=>h) (Or.inl ⟨by rfl,by intro w' hSw;go_simp⟩) ?_
         simp only [Act.put,List.setIfInBounds_toArray,List.set_cons_zero,List.set_cons_succ]
         refine takeD 2 (some 119) (.slice (some ⟨gg,0,none⟩) gs.length gc) hH rfl rfl (by kernel_rfl) (by kernel_rfl) (by kernel_rfl) (fun _ _ _ h=>h) (Or.inl ⟨by rfl,by intro w' hSw;go_simp⟩) ?_
         simp only [Act.put,List.setIfInBounds_toArray,List.set_cons_zero,List.set_cons_succ]
         refine takeD 3 (some 120) (.slice (some ⟨gv,0,none⟩) ks.length cv) hH rfl rfl (by kernel_rfl) (by kernel_rfl) (by kernel_rfl) (fun _ _ _ h=>h) (Or.inl ⟨by rfl,by intro w' hSw;go_simp⟩) ?_
         simp only [Act.put,List.setIfInBounds_toArray,List.set_cons_zero,List.set_cons_succ]
         refine takeD 4 (some 121) (.int .i64 n) hH rfl rfl (by kernel_rfl) (by kernel_rfl) (by kernel_rfl) (fun _ _ _ h=>h) (Or.inl ⟨by rfl,by intro w' hSw;go_simp⟩) ?_
         simp only [Act.put,List.setIfInBounds_toArray,List.set_cons_zero,List.set_cons_succ]
         refine takeD 5 (some 122) (.pointer (some ⟨gv,n * 2,none⟩)) hH rfl rfl (by kernel_rfl) (by kernel_rfl) (by kernel_rfl) (fun _ _ _ h=>h) (Or.inl ⟨by rfl,by intro w' hSw;go_simp⟩) ?_
         simp only [Act.put,List.setIfInBounds_toArray,List.set_cons_zero,List.set_cons_succ]
         refine takeD 6 (some 123) (.pointer (some ⟨gv,n * 2+1,none⟩)) hH rfl rfl (by kernel_rfl) (by kernel_rfl) (by kernel_rfl) (fun _ _ _ h=>h) (Or.inl ⟨by rfl,by intro w' hSw;go_simp⟩) ?_
         simp only [Act.put,List.setIfInBounds_toArray,List.set_cons_zero,List.set_cons_succ]
         refine takeD 7 (some 124) (.slice (some ⟨s.b2,s.o2,none⟩) s.l2.length s.c2) hH rfl rfl (by kernel_rfl) (by kernel_rfl) (by kernel_rfl) (fun _ _ _ h=>h) (Or.inl ⟨by rfl,by intro w' hSw;have hc:=(hSW w' hSw).2;rw [hadr] at hc;go_simp⟩) ?_
         simp only [Act.put,List.setIfInBounds_toArray,List.set_cons_zero,List.set_cons_succ]
         refine takeD 8 (some 125) (.int .i64 pl) hH rfl rfl (by kernel_rfl) (by kernel_rfl) (by kernel_rfl) (fun _ _ _ h=>h) (Or.inl ⟨by rfl,by intro w' hSw;go_simp⟩) ?_
         simp only [Act.put,List.setIfInBounds_toArray,List.set_cons_zero,List.set_cons_succ]
         refine takeD 9 (some 126) (.pointer (some ⟨s.b2,s.o2+pl,none⟩)) hH rfl rfl (by kernel_rfl) (by kernel_rfl) (by kernel_rfl) (fun _ _ _ h=>h) (Or.inl ⟨by rfl,by intro w' hSw;go_simp⟩) ?_
         simp only [Act.put,List.setIfInBounds_toArray,List.set_cons_zero,List.set_cons_succ]
         refine takeD 10 (some 127) (.int .i64 yn) hH rfl rfl (by kernel_rfl) (by kernel_rfl) (by kernel_rfl) (fun _ _ _ h=>h) (Or.inl ⟨by rfl,by intro w' hSw;have hc:=HRC w' hSw;go_simp⟩) ?_
         simp only [Act.put,List.setIfInBounds_toArray,List.set_cons_zero,List.set_cons_succ]
         refine takeD 11 (some 128) (.pointer (some ⟨gg,yn,none⟩)) hH rfl rfl (by kernel_rfl) (by kernel_rfl) (by kernel_rfl) (fun _ _ _ h=>h) (Or.inl ⟨by rfl,by intro w' hSw;go_simp⟩) ?_
         simp only [Act.put,List.setIfInBounds_toArray,List.set_cons_zero,List.set_cons_succ]
         refine takeD 12 (some 129) (.int .i64 u) hH rfl rfl (by kernel_rfl) (by kernel_rfl) (by kernel_rfl) (fun _ _ _ h=>h) (Or.inl ⟨by rfl,by intro w' hSw;have hc:=HGC w' hSw;go_simp⟩) ?_
         simp only [Act.put,List.setIfInBounds_toArray,List.set_cons_zero,List.set_cons_succ]
         refine wpAnyH_ready (rs:=[1,13]) (by kernel_rfl) (by simp) ?_
         refine AllReadyH.cons rfl (fun K' hK=>?_) (AllReadyH.cons rfl (fun K' hK=>?_) AllReadyH.nil)
         ·have xx:wr.drew.cell? ⟨S,1,none⟩=some vv:=hQ.s1
          rw [if_pos (by rfl)]
          go_simp
          refine hK.out _ _ hbq.drew (fun hHb=>?_)
          clear hK K' xx
          refine wpAnyH_ready (rs:=[13]) (by kernel_rfl) (by simp) ?_
          refine AllReadyH.cons rfl (fun K' hK=>?_) AllReadyH.nil
          rw [if_pos (by rfl)]
          go_simp
          refine hK.out _ _ (hbq.drew.alloc hbq.size (.cells #[.int .i64 u] 3)) (fun hHa=>?_)
          clear hK K'
          refine wpAnyH_ready (rs:=[14]) (by kernel_rfl) (by simp) ?_
          refine AllReadyH.cons rfl (fun K' hK=>?_) AllReadyH.nil
          refine step_append_lies _ (by rfl) (.tmp 118) (.tmp 130) 26 (by rfl) wo.heap.size 3 i0 _ 1 8 Tryz.underlying26 hi hz0 hz1 hz2 rfl (by decide) vv lp.length (nums lp) (by rfl) (hQ.drew.own2.alloc _) ⟨wr.heap.size,0,none⟩ 1 1 [.int .i64 u] (by rfl) (by rfl) (World.news_of_block (cs:=#[.int .i64 u]) (t:=3) (fr:=(0,0)) (heap_alloc_new wr.drew _)) (by simp [Value.oneCell']) (by omega) (by unfold maxLen;omega) (by omega) (by simp;omega) (wr.heap.size+1) (by simp) ?_
          intro g5 cap5 w5 hown5 hg5 hat5 hlt5'
          obtain ⟨b5,k5,z5,hV5⟩:=hQ.drew.push2 hown5 hg5 hat5
          clear hown5 hg5 hat5
          simp only [Act.put,List.setIfInBounds_toArray,List.set_cons_zero,List.set_cons_succ]
          refine hK.out _ _ (hb.trans (b5.mono hwo)) (fun hHc=>?_)
          clear hK K'
          refine takeD 15 (some 132) (.pointer (some ⟨S,1,none⟩)) hHc rfl rfl (by kernel_rfl) (by kernel_rfl) (by kernel_rfl) (fun _ _ _ h=>h) (Or.inl ⟨by rfl,by intro w' hSw;go_simp⟩) ?_
          simp only [Act.put,List.setIfInBounds_toArray,List.set_cons_zero,List.set_cons_succ]
          refine wpAnyH_ready (rs:=[16]) (by kernel_rfl) (by simp) ?_
          refine AllReadyH.cons rfl (fun K' hK=>?_) AllReadyH.nil
          rw [if_pos (by rfl)]
          go_simp
          refine hK.out _ _ (hb.trans (hV5.bel.mono hwo)) (fun hHd=>?_)
          clear hK K' k5 z5
          refine wpAnyH_done (by kernel_rfl) ?_ _
          go_wp2_with fail
          have hV6:=hV5
          rw [← HTK.out] at hV6
          go_roundw
          case rel =>
           first
           | exact ⟨pl+1,_,by go_num,by omega,hV6⟩
           | ((repeat apply Exists.intro);exact ⟨⟨pl+1,_,by go_num,by omega,hV6⟩,rfl⟩)
          case measure=>(simp [intOf];omega)
         ·rw [if_pos (by rfl)]
          go_simp
          refine hK.out _ _ (hbq.drew.alloc hbq.size (.cells #[.int .i64 u] 3)) (fun hHa=>?_)
          clear hK K'
          refine wpAnyH_ready (rs:=[1]) (by kernel_rfl) (by simp) ?_
          refine AllReadyH.cons rfl (fun K' hK=>?_) AllReadyH.nil
          have xx:(wr.alloc (.cells #[.int .i64 u] 3)).cell? ⟨S,1,none⟩=some vv:=((below1 wr (.cells #[.int .i64 u] 3)).cell (p:=⟨S,1,none⟩) hlt5).trans hQ.s1
          rw [if_pos (by rfl)]
          go_simp
          refine hK.out _ _ (hbq.drew.alloc hbq.size (.cells #[.int .i64 u] 3)) (fun hHb=>?_)
          clear hK K' xx
          refine wpAnyH_ready (rs:=[14]) (by kernel_rfl) (by simp) ?_
          refine AllReadyH.cons rfl (fun K' hK=>?_) AllReadyH.nil
          refine step_append_lies _ (by rfl) (.tmp 118) (.tmp 130) 26 (by rfl) wo.heap.size 3 i0 _ 1 8 Tryz.underlying26 hi hz0 hz1 hz2 rfl (by decide) vv lp.length (nums lp) (by rfl) (hQ.drew.own2.alloc _) ⟨wr.heap.size,0,none⟩ 1 1 [.int .i64 u] (by rfl) (by rfl) (World.news_of_block (cs:=#[.int .i64 u]) (t:=3) (fr:=(0,0)) (heap_alloc_new wr.drew _)) (by simp [Value.oneCell']) (by omega) (by unfold maxLen;omega) (by omega) (by simp;omega) (wr.heap.size+1) (by simp) ?_
          intro g5 cap5 w5 hown5 hg5 hat5 hlt5'
          obtain ⟨b5,k5,z5,hV5⟩:=hQ.drew.push2 hown5 hg5 hat5
          clear hown5 hg5 hat5
          simp only [Act.put,List.setIfInBounds_toArray,List.set_cons_zero,List.set_cons_succ]
          refine hK.out _ _ (hb.trans (b5.mono hwo)) (fun hHc=>?_)
          clear hK K'
          refine takeD 15 (some 132) (.pointer (some ⟨S,1,none⟩)) hHc rfl rfl (by kernel_rfl) (by kernel_rfl) (by kernel_rfl) (fun _ _ _ h=>h) (Or.inl ⟨by rfl,by intro w' hSw;go_simp⟩) ?_
          simp only [Act.put,List.setIfInBounds_toArray,List.set_cons_zero,List.set_cons_succ]
          refine wpAnyH_ready (rs:=[16]) (by kernel_rfl) (by simp) ?_
          refine AllReadyH.cons rfl (fun K' hK=>?_) AllReadyH.nil
          rw [if_pos (by rfl)]
          go_simp
          refine hK.out _ _ (hb.trans (hV5.bel.mono hwo)) (fun hHd=>?_)
          clear hK K' k5 z5
          refine wpAnyH_done (by kernel_rfl) ?_ _
          go_wp2_with fail
          have hV6:=hV5
          rw [← HTK.out] at hV6
          go_roundw
          case rel =>
           first
           | exact ⟨pl+1,_,by go_num,by omega,hV6⟩
           | ((repeat apply Exists.intro);exact ⟨⟨pl+1,_,by go_num,by omega,hV6⟩,rfl⟩)
          case measure=>(simp [intOf];omega)
        ·have i3:¬ (pl:Int) < s.l2.length:=by omega
         have htk:s.l2.take pl=s.l2:=List.take_of_length_le (by omega)
         rw [htk] at hQ
         obtain ⟨a5,g5',c5,rfl,hI1,hge1,_⟩:=own_nums hQ.own1
         obtain ⟨a6,g6',c6,rfl,hI2,hge2,_⟩:=own_nums hQ.own2
         have y0:=hQ.s0
         have y1:=hQ.s1
         have hLI:=hL.below hQ.bel
         have hws:=hQ.bel.size
         have hsn:(⟨a5,g5',0,c5,s.l1.map (M.vOf gs),a6,g6',0,c6,s.l2.map (M.vOf gs)⟩:Sn).At wr:=⟨hI1,hI2⟩
         clear hQ hI1 hI2 hrow htk
         generalize hm1:s.l1.map (M.vOf gs)=m1 at *
         generalize hm2:s.l2.map (M.vOf gs)=m2 at *
         clear hm1 hm2
         go_wp2_with (at_builtin;refine wpList_append_lies _ rfl (.tmp 133) (.tmp 135) 32 rfl WE.heap.size 35 j0 _ 2 48 Tryz.underlying32 hj hy0 hy1 hy2 rfl (by decide) v ss.length (cellsS ss) rfl (hLI.own.alloc _) ⟨wr.heap.size,0,none⟩ 1 1 [.slice a5 m1.length c5,.slice a6 m2.length c6] rfl rfl (World.news_of_block (cs:=#[.slice a5 m1.length c5,.slice a6 m2.length c6]) (t:=35) (fr:=(0,0)) (heap_alloc_new wr _)) (by simp [Value.oneCell']) (by omega) (by have:=HSL.out;unfold maxLen;omega) (by have:=HSL.out;omega) (by simp;omega) (wr.heap.size+1) (by simp) ?_)
         intro g5 cap5 w5 hown5 hg5 hat5 hlt5
         have hL5:=hLI.snoc (s:=⟨a5,g5',0,c5,m1,a6,g6',0,c6,m2⟩) hsn (fun k hk e=>by
          have hlt2:=hL.own.lt k e
          rcases hk with ⟨h0,h1⟩ | ⟨_,h1⟩
          ·have h5:k=g5':=h1
           omega
          ·have h5:k=g6':=h1
           omega) hown5 hg5 (by
          rcases hat5 with e | e
          ·left;exact e.symm
          ·right;show some g5=_;rw [e])
         have b5:Below WE.heap.size WE w5:=below_grown (hbq.alloc (by omega) _) hg5 (fun j hj=>(hL.own.lt j hj).1) (by simp;omega)
         clear hown5 hg5 hat5 hLI hL hsn
         go_wp2_with fail
         have hE1:Hid ((ss++[(⟨a5,g5',0,c5,m1,a6,g6',0,c6,m2⟩:Sn)]).length=n+1):=by show _=_;rw [List.length_append,HSL.out];rfl
         have hE2:Hid (kys (ss++[(⟨a5,g5',0,c5,m1,a6,g6',0,c6,m2⟩:Sn)])=(ks.take (n+1)).map fun z=>(z.1.map (M.vOf gs),z.2.map (M.vOf gs))):=by show kys _=_;rw [kys,List.map_append,← kys,HKY.out,HKX.out];rfl
         go_roundw
         case rel =>
          first
          | exact ⟨n+1,_,_,rfl,by go_num,by omega,hE1,hL5,hE2,b5⟩
          | ((repeat apply Exists.intro);exact ⟨⟨n+1,_,_,rfl,by go_num,by omega,hE1,hL5,hE2,b5⟩,rfl⟩)
         case measure=>(simp [intOf];omega)
    ·have i1:¬ (n:Int) < ks.length:=by omega
     obtain ⟨ax,gx,cx,rfl,hKS⟩:=hL.ks
     have htk:ks.take n=ks:=List.take_of_length_le (by omega)
     rw [HKY.out,htk] at hKS
     have hsn:ss.length=(ks.map fun z=>(z.1.map (M.vOf gs),z.2.map (M.vOf gs))).length:=by rw [HSL.out,List.length_map];omega
     have hK4:(ks.map fun z=>(z.1.map (M.vOf gs),z.2.map (M.vOf gs))).length≤1048576:=by rw [List.length_map];omega
     have hK3:KLe (ks.map fun z=>(z.1.map (M.vOf gs),z.2.map (M.vOf gs))) 1048576:=fun z hz=>by
      obtain ⟨y,hy,rfl⟩:=List.mem_map.1 hz
      exact ⟨by simpa using (hkk y hy).1,by simpa using (hkk y hy).2⟩
     have sQr:=sQE.bl' hb
     have x1:=sQr.c
     have ssr:=ssQE.below hb (Nat.le_refl _)
     have bwr:=bwE.trans (hb.mono bwE.size)
     rw [hsn]
     have CSS:=fun (W:World) (h:Below wr.heap.size wr W)=>iseenSortK ax gx 0 cx (ks.map fun z=>(z.1.map (M.vOf gs),z.2.map (M.vOf gs))) W hK4 hK3 (hKS.below h (Nat.le_refl _))
     have CQ2:=fun (W:World) (h:Below wr.heap.size wr W)=>CQ W (ssr.below h (Nat.le_refl _))
     have hqc:∀ W:World,Below wr.heap.size wr W→W.cell? ⟨PQ,0,none⟩=some (.slice ai qq.length ci):=fun W h=>(h.cell (p:=⟨PQ,0,none⟩) sQr.lt).trans x1
     generalize (ks.map fun z=>(z.1.map (M.vOf gs),z.2.map (M.vOf gs)))=kp at *
     clear CQ HKY HZV hsn
     go_wp2_with fail
     refine wp_region_held_drew (S:=fun w'=>Below wr.heap.size wr w') (by kernel_rfl) (Below.refl _ _).drew (fun hH=>?_)
     refine takeD 0 (some 137) (.slice ax kp.length cx) hH rfl rfl (by kernel_rfl) (by kernel_rfl) (by kernel_rfl) (fun _ _ _ h=>h) (Or.inl ⟨by rfl,by intro w' hSw;go_simp⟩) ?_
     simp only [Act.put,List.setIfInBounds_toArray,List.set_cons_zero,List.set_cons_succ]
     refine takeD 2 (some 139) (.agg #[.slice ai qq.length ci]) hH rfl rfl (by kernel_rfl) (by kernel_rfl) (by kernel_rfl) (fun _ _ _ h=>h) (Or.inl ⟨by rfl,by intro w' hSw;have hc0:=hqc w' hSw;go_simp⟩) ?_
     simp only [Act.put,List.setIfInBounds_toArray,List.set_cons_zero,List.set_cons_succ]
     refine takeD 3 (some 140) (.int .i64 kn) hH rfl rfl (by kernel_rfl) (by kernel_rfl) (by kernel_rfl) (fun _ _ _ h=>h) (Or.inl ⟨by rfl,by intro w' hSw;go_simp⟩) ?_
     simp only [Act.put,List.setIfInBounds_toArray,List.set_cons_zero,List.set_cons_succ]
     refine wpAnyH_ready (rs:=[1]) (by kernel_rfl) (by simp) ?_
     refine AllReadyH.cons rfl (fun K' hK=>?_) AllReadyH.nil
     refine step_goV (by rfl) (some 138) rfl 14 #[.tmp 137] _ rfl #[.slice ax kp.length cx] (by simp [Act.eval]) (enters_of Tryz.func14 (by kernel_rfl) rfl) (CSS _ hH) ?_
     rintro e Va ⟨v1,rfl,hA⟩
     obtain ⟨a1,g1,c1,rfl,hS1⟩:=hA.ex
     refine ⟨_,rfl,hK.out _ _ (hH.trans (hA.bel.mono hH.size)) (fun hH1=>?_)⟩
     clear hK K'
     simp only [Act.put,List.setIfInBounds_toArray,List.set_cons_zero,List.set_cons_succ]
     refine wpAnyH_ready (rs:=[4]) (by kernel_rfl) (by simp) ?_
     refine AllReadyH.cons rfl (fun K' hK=>?_) AllReadyH.nil
     refine step_goV (by rfl) (some 141) rfl 12 #[.tmp 139,.tmp 140] _ rfl #[.agg #[.slice ai qq.length ci],.int .i64 kn] (by simp [Act.eval]) (enters_of Tryz.func12 (by kernel_rfl) rfl) (CQ2 _ hH1) ?_
     rintro e Vb ⟨v2,rfl,hB⟩
     obtain ⟨a2,g2,c2,rfl,hS2⟩:=hB.ex
     have hS12:=hS1.below hB.bel (Nat.le_refl _)
     refine ⟨_,rfl,hK.out _ _ (hH1.trans (hB.bel.mono hH1.size)) (fun hH2=>?_)⟩
     clear hK K'
     simp only [Act.put,List.setIfInBounds_toArray,List.set_cons_zero,List.set_cons_succ]
     refine wpAnyH_ready (rs:=[5]) (by kernel_rfl) (by simp) ?_
     refine AllReadyH.cons rfl (fun K' hK=>?_) AllReadyH.nil
     refine step_goV (by rfl) (some 142) rfl 13 #[.tmp 138,.tmp 141] _ rfl #[.slice a1 (M.sortK kp).length c1,.slice a2 (M.sortK kp).length c2] (by simp [Act.eval]) (enters_of Tryz.func13 (by kernel_rfl) rfl) (lpList_same a1 g1 0 c1 a2 g2 0 c2 (M.sortK kp) Vb (by omega) hqk2 hS12 hS2) ?_
     rintro e Vc ⟨rfl,b3⟩
     refine ⟨_,rfl,hK.out _ _ (hH2.trans (b3.mono hH2.size)) (fun hH3=>?_)⟩
     clear hK K'
     simp only [Act.put,List.setIfInBounds_toArray,List.set_cons_zero,List.set_cons_succ]
     refine takeD 6 (some 4) (.bool true) hH3 rfl rfl (by kernel_rfl) (by kernel_rfl) (by kernel_rfl) (fun _ _ _ h=>h) (Or.inl ⟨by rfl,by intro w' hSw;go_simp⟩) ?_
     simp only [Act.put,List.setIfInBounds_toArray,List.set_cons_zero,List.set_cons_succ]
     refine wpAnyH_done (by kernel_rfl) ?_ _
     go_wp2_with fail
     go_ret
     exact ⟨rfl,bwr.trans (hH3.mono bwr.size)⟩
 ·go_enter Tryz.func4,Tryz.ntmps4
  rcases (show 1048576 < L∨(L≤1048576∧1048576 < ml) by omega) with h1 | ⟨h1,h2⟩
  ·go_wp2_with fail
   go_ret
   exact ⟨rfl,Below.refl _ _⟩
  ·go_wp2_with fail
   go_ret
   exact ⟨rfl,Below.refl _ _⟩
end Go.Proofs.YtihfibjckkmmbaaGreat
