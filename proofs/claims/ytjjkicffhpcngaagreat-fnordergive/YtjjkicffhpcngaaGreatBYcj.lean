/- The law FnOrderGive, walked: it answers true, and leaves all as it was. Of whatever code. -/
import Derived.Below
import Derived.BigQuiet
import Derived.Deep.AppendLies
import Derived.Deep.AppendSrc
import Derived.Deep.CutRange
import Derived.Deep.MidRow
import Derived.Deep.Quiet
import Derived.Deep.QuietTactic
import Derived.Deep.RegionHeld3
import Derived.Deep.RegionLaw
import Derived.Deep.RegionWith
import Derived.Deep.Slices
import Derived.Deep.WholeRow
import Derived.Handy
import Derived.Laws.AppendOwn
import Derived.Laws.AppendOwnNone
import Derived.Laws.EntriesVeiled
import Derived.Laws.IdiomCopy
import Derived.Laws.OwnMore
import Derived.LoopIn
import Derived.LoopN
import Derived.LoopNIn
import Derived.Maps.AppendAt
import Derived.Maps.OwnIn
import Derived.OwnWalkIn
import Derived.RangeFuncBound
import Derived.RangeFuncLeaves
import Derived.RangeFuncNested
import Derived.Shelf.Abstract
import Derived.Shelf.SlSortCmp.NoneTotal
import Derived.Sort.Grow
import Derived.TacticsInMore
import Derived.WalkKit
import Derived.WalkLawsBesides
import Derived.WalkSpells
import Derived.Deep.OwnRows
import Derived.Test.YtjjkicffhpcngaaGreatRows
import Derived.Test.YtjjkicffhpcngaaGreatBYbt
import Derived.Test.YtjjkicffhpcngaaGreatBYcg
import Derived.Test.YtjjkicffhpcngaaGreatBYch
import Derived.Test.YtjjkicffhpcngaaGreatBYci
namespace Go.Proofs.YtjjkicffhpcngaaGreat
open Go.RowKit
theorem M.swap_down_1 {ll qq:List (List M.D)} {m:Int} (hq:M.prog qq=true) (e:qq=M.swF 1 6 m ll) {k:Int}:(qq.length≤1048576∧∀ t∈qq,t.length≤1048576)∧∀ z∈M.orderAll qq k,z∈M.orderAll ll k:=by
 obtain ⟨h1,h2⟩:=M.prog_le hq
 have U:M.UpP ll qq:=e▸M.swF_up (by omega) ll m
 exact ⟨⟨by omega,fun t ht=>by have:=h2 t ht;omega⟩,M.all_up U (U.prog▸hq)⟩
set_option maxHeartbeats 4000000 in
set_option maxRecDepth 100000 in
set_option linter.unusedSimpArgs false in
theorem lawGive_any (ca:Option Addr) (cb co L C:Nat) (x:Nat→Int) (ma:Option Addr) (ml C2:Nat) (w:World) (hL:L≤C) (had:0 < L→ca=some ⟨cb,co,none⟩) (hc:∀ i,i < L→w.cell? ⟨cb,co+i,none⟩=some (.int .u8 (x i))∧0≤x i∧x i≤255) :
  Calls Tryz.prog 12 #[.slice ca L C,.slice ma ml C2] w fun e w'=>e=.returned (.bool true)∧Below w.heap.size w w':=by
 by_cases hLb:L≤1048576∧ml≤1048576
 ·obtain ⟨hLa,hLm⟩:=hLb
  go_enter Tryz.func12,Tryz.ntmps12
  go_wp2_with fail
  refine (DrawOrderAll_any ca cb co L C x _ hL had hc hLa).mono ?_
  rintro e w1 ⟨a,g,c,mm,kind,rfl,hsn,hsm,hk0,hk1,hb1⟩
  have hls:=hsm.le
  have hl3:mm.length≤1048576:=by have:=hsm.three;omega
  have h33:mm.length≤3:=by have:=hsm.three;omega
  have h77:∀ t∈mm,t.length≤1000:=fun t ht=>by have:=hsm.steps t ht;omega
  clear had hc
  have bx0:=BoxP.new (c:=c) hb1 hsn.ss
  go_wp2_with fail
  generalize w1.alloc (.cells #[.slice a mm.length c] 25)=W0 at *
  generalize w1.heap.size=P at *
  clear hb1
  have hkl:=M.orderAll_len mm kind
  have hkk:=M.orderAll_le mm kind
  have CI:=fun (W:World) (h:BoxP w W P a g c mm)=>iorderAllK a g 0 c mm kind W hl3 hls h.ss
  have CS:=fun (W:World) (h:BoxP w W P a g c mm)=>sorderAllK a g 0 c mm kind W hl3 hls h.ss
  have HID:Hid (∀ qq m,M.prog qq=true∧qq=M.swF 1 6 m mm→(qq.length≤1048576∧∀ t∈qq,t.length≤1048576)∧∀ z∈M.orderAll qq kind,z∈M.orderAll mm kind):=fun qq m h=>M.swap_down_1 h.1 h.2
  obtain ⟨ks,hks⟩:∃ ks,M.orderAll mm kind=ks:=⟨_,rfl⟩
  rw [hks] at hkl hkk CI CS HID
  clear hks hsn hsm
  refine (CI W0 bx0).mono ?_
  rintro e W1 ⟨v1,rfl,hA⟩
  have bx1:=bx0.below hA.bel
  obtain ⟨av,gv,cv,rfl,hS1⟩:=hA.ex
  have p1:=bx1.p.c
  clear hA bx0
  go_wp2_with fail
  refine (lpSwap_any a g 0 c mm 1 6 ml W1 h33 h77 (by omega) bx1.ss).mono ?_
  rintro e W2 ⟨v2,rfl,hQ⟩
  obtain ⟨qa,qn,qc,ok,rfl,HQ⟩:=hQ.ex
  have bx2:=(bx1.below hQ.bel).below (below1 W2 (.cells #[.slice qa qn qc] 25))
  have hS2:=(hS1.below hQ.bel (Nat.le_refl _)).below (below1 W2 (.cells #[.slice qa qn qc] 25)) (Nat.le_refl _)
  have hq2:=Slot1.new W2 (.slice qa qn qc) 25
  have hss2:ok=true→∃ (qq:List (List M.D)) (m:Int) (g':Nat),qn=qq.length∧DoSS (W2.alloc (.cells #[.slice qa qn qc] 25)) qa g' 0 qq∧(M.prog qq=true∧qq=M.swF 1 6 m mm):=fun h=>by
   obtain ⟨qq,g',m,e1,e2,e3,e4⟩:=HQ h
   exact ⟨qq,m,g',e1,e2.below (below1 W2 _) (Nat.le_refl _),e4,e3⟩
  clear hQ HQ bx1 hS1 p1
  have p3:=bx2.p.c
  go_wp2_with fail
  generalize W2.alloc (.cells #[.slice qa qn qc] 25)=W3 at *
  generalize W2.heap.size=Q at *
  refine (CS W3 bx2).mono ?_
  rintro e W4 ⟨v2,rfl,hB⟩
  have bx4:=bx2.below hB.bel
  have hq4:=hq2.bel hB.bel
  have hS4:=hS2.below hB.bel (Nat.le_refl _)
  have hss4:ok=true→∃ (qq:List (List M.D)) (m:Int) (g':Nat),qn=qq.length∧DoSS W4 qa g' 0 qq∧(M.prog qq=true∧qq=M.swF 1 6 m mm):=fun h=>by
   obtain ⟨qq,m,g',e1,e2,e3⟩:=hss2 h
   exact ⟨qq,m,g',e1,e2.below hB.bel (Nat.le_refl _),e3⟩
  obtain ⟨aw,gw,cw,rfl,hT⟩:=hB.ex
  clear hB bx2 p3 hS2 hss2 hq2
  go_wp2_with fail
  refine (lpList_same av gv 0 cv aw gw 0 cw ks W4 (by omega) hkk hS4 hT).mono ?_
  rintro e W5 ⟨rfl,b5⟩
  have bx5:=bx4.below b5
  have hS5:=hS4.below b5 (Nat.le_refl _)
  have hq5:=hq4.bel b5
  have p5:=bx5.p.c
  cases ok
  ·clear hT b5 bx4 hS4 hq4 hss4
   go_wp2_with fail
   refine (CS W5 bx5).mono ?_
   rintro e W8 ⟨v8,rfl,hB⟩
   have bx8:=bx5.below hB.bel
   have hS8:=hS5.below hB.bel (Nat.le_refl _)
   obtain ⟨aw,gw,cw,rfl,hT⟩:=hB.ex
   clear hB p5
   go_wp2_with fail
   refine (lpList_same av gv 0 cv aw gw 0 cw ks W8 (by omega) hkk hS8 hT).mono ?_
   rintro e W9 ⟨rfl,b9⟩
   have bx9:=bx8.below b9
   go_wp2_with fail
   go_ret
   exact ⟨rfl,bx9.bel⟩
  ·obtain ⟨qq,m,g',rfl,hss,hput⟩:=hss4 rfl
   have hss5:=hss.below b5 (Nat.le_refl _)
   obtain ⟨⟨hql,hqs⟩,hin⟩:=HID.out qq m hput
   have CQ:=iorderAllK qa g' 0 qc qq kind W5 hql hqs hss5
   have hl9:=M.orderAll_len qq kind
   have hk9:=M.orderAll_le qq kind
   generalize M.orderAll qq kind=k9 at *
   have q5:=hq5.c
   clear HID hss4 hss hss5 CI CS hT b5 bx4 hS4 hq4 hq5 hput hqs
   go_wp2_with fail
   refine CQ.mono ?_
   rintro e W8 ⟨v8,rfl,hB⟩
   have bx8:=bx5.below hB.bel
   have hS8:=hS5.below hB.bel (Nat.le_refl _)
   obtain ⟨aw,gw,cw,rfl,hT⟩:=hB.ex
   clear hB p5
   go_wp2_with fail
   refine (lpWithin_yes aw gw 0 cw av gv 0 cv k9 ks W8 (by omega) hk9 (by omega) hkk hT hS8 hin).mono ?_
   rintro e W9 ⟨rfl,b9⟩
   have bx9:=bx8.below b9
   go_wp2_with fail
   go_ret
   exact ⟨rfl,bx9.bel⟩
 ·go_enter Tryz.func12,Tryz.ntmps12
  rcases (show 1048576 < L∨(L≤1048576∧1048576 < ml) by omega) with h1 | ⟨h1,h2⟩
  ·go_wp2_with fail
   go_ret
   exact ⟨rfl,Below.refl _ _⟩
  ·go_wp2_with fail
   go_ret
   exact ⟨rfl,Below.refl _ _⟩
end Go.Proofs.YtjjkicffhpcngaaGreat
