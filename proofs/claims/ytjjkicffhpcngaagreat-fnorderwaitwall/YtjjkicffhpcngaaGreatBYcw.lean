/- Two walls are one; one step turned into another one of the program. Plainly. No condition but what is said. Rows of few numbers, turned back; programs whose threads, places or values are turned are programs. No condition. The law FnOrderWaitWall, walked: it answers true, and leaves all as it was. Of whatever code. -/
import Derived.Below
import Derived.BigQuiet
import Derived.Deep.AppendLies
import Derived.Deep.AppendSrc
import Derived.Deep.CutRange
import Derived.Deep.MidRow
import Derived.Deep.Quiet
import Derived.Deep.QuietTactic
import Derived.Deep.RegionHeld3
import Derived.Deep.RegionLaw
import Derived.Deep.RegionWith
import Derived.Deep.Slices
import Derived.Deep.WholeRow
import Derived.Handy
import Derived.Laws.AppendOwn
import Derived.Laws.AppendOwnNone
import Derived.Laws.EntriesVeiled
import Derived.Laws.IdiomCopy
import Derived.Laws.OwnMore
import Derived.LoopIn
import Derived.LoopN
import Derived.LoopNIn
import Derived.Maps.AppendAt
import Derived.Maps.OwnIn
import Derived.OwnWalkIn
import Derived.RangeFuncBound
import Derived.RangeFuncLeaves
import Derived.RangeFuncNested
import Derived.Shelf.Abstract
import Derived.Shelf.SlSortCmp.NoneTotal
import Derived.Sort.Grow
import Derived.TacticsInMore
import Derived.WalkKit
import Derived.WalkLawsBesides
import Derived.WalkSpells
import Derived.Deep.OwnRows
import Derived.Test.YtjjkicffhpcngaaGreatRows
import Derived.Test.YtjjkicffhpcngaaGreatBYbf
import Derived.Test.YtjjkicffhpcngaaGreatBYbt
import Derived.Test.YtjjkicffhpcngaaGreatBYcb
import Derived.Test.YtjjkicffhpcngaaGreatBYcf
import Derived.Test.YtjjkicffhpcngaaGreatBYcu
namespace Go.Proofs.YtjjkicffhpcngaaGreat
namespace M
theorem swR_wait:∀ (l:List D) (n:Int),(∀ d∈l,d.k=4→d=wall)→FwL True l (swR 4 9 n l)
 | [],_,_=>.nil
 | d::l,n,h=>by
  have ih:=fun n=>swR_wait l n fun d hd=>h d (List.mem_cons_of_mem _ hd)
  rw [swR]
  split
  ·rename_i hk
   have hd:=h d (List.mem_cons_self ..) (by simpa using hk)
   split
   ·rw [hd];exact .wait trivial (ih _)
   ·exact .same (ih _)
  ·exact .same (ih _)
theorem swF_wait:∀ (ll:List (List D)) (n:Int),(∀ l∈ll,∀ d∈l,d.k=4→d=wall)→FwP True ll (swF 4 9 n ll)
 | [],_,_=>.nil
 | l::ll,n,h=>.cons (swR_wait l n (h l (List.mem_cons_self ..))) (swF_wait ll _ fun l hl=>h l (List.mem_cons_of_mem _ hl))
end M
end Go.Proofs.YtjjkicffhpcngaaGreat
namespace Go.Proofs.YtjjkicffhpcngaaGreat
namespace M
theorem prog_dos {ll:List (List D)} (h:prog ll=true):∀ t∈ll,∀ d∈t,doOk d=true:=by
 intro t ht d hd
 have:=((prog_iff ll).1 h).2.1 t ht
 simp only [M.thread,form,Bool.and_eq_true,List.all_eq_true] at this
 exact this.1.1.2 d hd
end M
end Go.Proofs.YtjjkicffhpcngaaGreat
namespace Go.Proofs.YtjjkicffhpcngaaGreat
open Go.RowKit
theorem M.wait_all {ll qq:List (List M.D)} {m:Int} (hp:M.prog ll=true) (hq:M.prog qq=true) (e:qq=M.swF 4 9 m ll) (h7:M.anyK (fun d=>d.k==7) ll=false) {k:Int}:(qq.length≤1048576∧∀ t∈qq,t.length≤1048576)∧M.orderAll qq k=M.orderAll ll k:=by
 obtain ⟨h1,h2⟩:=M.prog_le hq
 refine ⟨⟨by omega,fun t ht=>by have:=h2 t ht;omega⟩,?_⟩
 subst e
 refine M.all_fold (M.swF_wait ll m fun l hl d hd h4=>?_) hp hq (.inr fun x hx e7=>?_) k
 ·have ho:=M.prog_dos hp l hl d hd
  obtain ⟨kk,p,v⟩:=d
  simp only at h4
  subst h4
  simp [M.doOk,M.wordOk,M.placeOk,M.valOk,M.uses,M.reads,M.writes,M.stores] at ho
  rw [ho.1,ho.2];rfl
 ·obtain ⟨l,hl,hd⟩:=M.mem_deeds hx
  have:=M.anyK_no h7 l hl _ hd
  simp [e7] at this
set_option maxHeartbeats 4000000 in
set_option maxRecDepth 100000 in
set_option linter.unusedSimpArgs false in
theorem lawWw_any (ca:Option Addr) (cb co L C:Nat) (x:Nat→Int) (ma:Option Addr) (ml C2:Nat) (w:World) (hL:L≤C) (had:0 < L→ca=some ⟨cb,co,none⟩) (hc:∀ i,i < L→w.cell? ⟨cb,co+i,none⟩=some (.int .u8 (x i))∧0≤x i∧x i≤255) :
  Calls Tryz.prog 8 #[.slice ca L C,.slice ma ml C2] w fun e w'=>e=.returned (.bool true)∧Below w.heap.size w w':=by
 by_cases hLb:L≤1048576∧ml≤1048576
 ·obtain ⟨hLa,hLm⟩:=hLb
  go_enter Tryz.func8,Tryz.ntmps8
  go_wp2_with fail
  refine (DrawOrderAll_any ca cb co L C x _ hL had hc hLa).mono ?_
  rintro e w1 ⟨a,g,c,mm,kind,rfl,hsn,hsm,hk0,hk1,hb1⟩
  have hls:=hsm.le
  have hl3:mm.length≤1048576:=by have:=hsm.three;omega
  clear had hc
  have bx0:=BoxP.new (c:=c) hb1 hsn.ss
  go_wp2_with fail
  generalize w1.alloc (.cells #[.slice a mm.length c] 25)=W0 at *
  generalize w1.heap.size=P at *
  clear hb1
  have hkl:=M.orderAll_len mm kind
  have hkk:=M.orderAll_le mm kind
  have CI:=fun (W:World) (h:BoxP w W P a g c mm)=>iorderAllK a g 0 c mm kind W hl3 hls h.ss
  have h33:mm.length≤3:=hsm.three
  have h77:∀ t∈mm,t.length≤1000:=fun t ht=>by have:=hsm.steps t ht;omega
  have CS:=fun (W:World) (h:BoxP w W P a g c mm)=>sorderAllK a g 0 c mm kind W hl3 hls h.ss
  obtain ⟨ks,hks⟩:∃ ks,M.orderAll mm kind=ks:=⟨_,rfl⟩
  have HKS:Hid (M.orderAll mm kind=ks):=hks
  rw [hks] at hkl hkk CI CS
  clear hks
  refine (CI W0 bx0).mono ?_
  rintro e W1 ⟨v1,rfl,hA⟩
  have bx1:=bx0.below hA.bel
  obtain ⟨av,gv,cv,rfl,hS1⟩:=hA.ex
  have p1:=bx1.p.c
  clear hA bx0
  go_wp2_with fail
  refine (CS W1 bx1).mono ?_
  rintro e W2 ⟨v2,rfl,hB⟩
  have bx2:=bx1.below hB.bel
  have hS2:=hS1.below hB.bel (Nat.le_refl _)
  obtain ⟨aw,gw,cw,rfl,hT⟩:=hB.ex
  clear hB bx1 p1 hS1
  go_wp2_with fail
  refine (lpList_same av gv 0 cv aw gw 0 cw ks W2 (by omega) hkk hS2 hT).mono ?_
  rintro e W3 ⟨rfl,b3⟩
  have bx3:=bx2.below b3
  have p3:=bx3.p.c
  have hS3:=hS2.below b3 (Nat.le_refl _)
  clear hS2 hT b3 bx2
  clear CI hsn hsm
  have CP:=sprog_any a g 0 c mm W3 hl3 hls bx3.ss
  obtain ⟨pr,hpr⟩:∃ pr,M.prog mm=pr:=⟨_,rfl⟩
  have HPR:Hid (M.prog mm=pr):=hpr
  rw [hpr] at CP
  clear hpr
  go_wp2_with fail
  refine CP.mono ?_
  rintro e W4 ⟨rfl,b4⟩
  have bx4:=bx3.below b4
  have hS4:=hS3.below b4 (Nat.le_refl _)
  have p4:=bx4.p.c
  clear bx3 hS3 p3 CP b4
  cases pr
  ·clear HKS
   go_wp2_with fail
   refine (CS W4 bx4).mono ?_
   rintro e X5 ⟨v5,rfl,hB⟩
   have bxX:=bx4.below hB.bel
   have hSX:=hS4.below hB.bel (Nat.le_refl _)
   obtain ⟨ax,gx,cx,rfl,hTX⟩:=hB.ex
   clear hB
   go_wp2_with fail
   refine (lpList_same av gv 0 cv ax gx 0 cx ks X5 (by omega) hkk hSX hTX).mono ?_
   rintro e Y5 ⟨rfl,bY⟩
   have bxY:=bxX.below bY
   go_wp2_with fail
   go_ret
   exact ⟨rfl,bxY.bel⟩
  ·have CR:=lpReaders_any a g 0 c mm W4 hl3 hls bx4.ss
   obtain ⟨rd,hrd⟩:∃ rd,M.anyK (fun d=>d.k==7) mm=rd:=⟨_,rfl⟩
   have HRD:Hid (M.anyK (fun d=>d.k==7) mm=rd):=hrd
   rw [hrd] at CR
   clear hrd
   go_wp2_with fail
   refine CR.mono ?_
   rintro e W5 ⟨rfl,b5⟩
   have bx5:=bx4.below b5
   have hS5:=hS4.below b5 (Nat.le_refl _)
   have p5:=bx5.p.c
   clear bx4 hS4 p4 CR b5
   cases rd
   ·have HID:Hid (∀ qq m,M.prog qq=true→qq=M.swF 4 9 m mm→(qq.length≤1048576∧∀ t∈qq,t.length≤1048576)∧M.orderAll qq kind=ks):=fun qq m h1 h2=>by rw [← HKS.out];exact M.wait_all HPR.out h1 h2 HRD.out
    clear CS
    go_wp2_with fail
    refine (lpSwap_any a g 0 c mm 4 9 ml W5 h33 h77 (by omega) bx5.ss).mono ?_
    rintro e W6 ⟨v6,rfl,hQ⟩
    obtain ⟨qa,qn,qc,ok,rfl,HQ⟩:=hQ.ex
    have bx6:=(bx5.below hQ.bel).below (below1 W6 (.cells #[.slice qa qn qc] 25))
    have hS6:=(hS5.below hQ.bel (Nat.le_refl _)).below (below1 W6 (.cells #[.slice qa qn qc] 25)) (Nat.le_refl _)
    have hq6:=Slot1.new W6 (.slice qa qn qc) 25
    cases ok
    ·clear HQ hQ HID
     go_wp2_with fail
     go_ret
     exact ⟨rfl,bx6.bel⟩
    ·obtain ⟨qq,g',m,rfl,hss,hsw,hpq⟩:=HQ rfl
     obtain ⟨⟨hql,hqs⟩,heq⟩:=HID.out qq m hpq hsw
     have ss7:=hss.below (below1 W6 (.cells #[.slice qa qq.length qc] 25)) (Nat.le_refl _)
     have CQ:=iorderAllK qa g' 0 qc qq kind _ hql hqs ss7
     rw [heq] at CQ
     have q6:=hq6.c
     clear HID heq hsw hpq HQ hQ hss bx5 hS5 p5
     go_wp2_with fail
     generalize W6.alloc (.cells #[.slice qa qq.length qc] 25)=W7 at *
     refine CQ.mono ?_
     rintro e W8 ⟨v8,rfl,hB⟩
     have bx8:=bx6.below hB.bel
     have hS8:=hS6.below hB.bel (Nat.le_refl _)
     obtain ⟨aw,gw,cw,rfl,hT⟩:=hB.ex
     clear hB
     go_wp2_with fail
     refine (lpList_same aw gw 0 cw av gv 0 cv ks W8 (by omega) hkk hT hS8).mono ?_
     rintro e W9 ⟨rfl,b9⟩
     have bx9:=bx8.below b9
     go_wp2_with fail
     go_ret
     exact ⟨rfl,bx9.bel⟩
   ·clear HKS
    go_wp2_with fail
    refine (CS W5 bx5).mono ?_
    rintro e X6 ⟨v6,rfl,hB⟩
    have bxX:=bx5.below hB.bel
    have hSX:=hS5.below hB.bel (Nat.le_refl _)
    obtain ⟨ax,gx,cx,rfl,hTX⟩:=hB.ex
    clear hB
    go_wp2_with fail
    refine (lpList_same av gv 0 cv ax gx 0 cx ks X6 (by omega) hkk hSX hTX).mono ?_
    rintro e Y6 ⟨rfl,bY⟩
    have bxY:=bxX.below bY
    go_wp2_with fail
    go_ret
    exact ⟨rfl,bxY.bel⟩
 ·go_enter Tryz.func8,Tryz.ntmps8
  rcases (show 1048576 < L∨(L≤1048576∧1048576 < ml) by omega) with h1 | ⟨h1,h2⟩
  ·go_wp2_with fail
   go_ret
   exact ⟨rfl,Below.refl _ _⟩
  ·go_wp2_with fail
   go_ret
   exact ⟨rfl,Below.refl _ _⟩
end Go.Proofs.YtjjkicffhpcngaaGreat
