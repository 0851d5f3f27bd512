/- The law FnOrderRead, walked: it answers true, and leaves all as it was. Of whatever code. The law FnOrderReader, walked: it answers true, and leaves all as it was. Of whatever code. -/
import Derived.Below
import Derived.BigQuiet
import Derived.Deep.AppendLies
import Derived.Deep.AppendSrc
import Derived.Deep.CutRange
import Derived.Deep.MidRow
import Derived.Deep.Quiet
import Derived.Deep.QuietTactic
import Derived.Deep.RegionHeld3
import Derived.Deep.RegionLaw
import Derived.Deep.RegionWith
import Derived.Deep.Slices
import Derived.Deep.WholeRow
import Derived.Handy
import Derived.Laws.AppendOwn
import Derived.Laws.AppendOwnNone
import Derived.Laws.EntriesVeiled
import Derived.Laws.IdiomCopy
import Derived.Laws.OwnMore
import Derived.LoopIn
import Derived.LoopN
import Derived.LoopNIn
import Derived.Maps.AppendAt
import Derived.Maps.OwnIn
import Derived.OwnWalkIn
import Derived.RangeFuncBound
import Derived.RangeFuncLeaves
import Derived.RangeFuncNested
import Derived.Shelf.Abstract
import Derived.Shelf.SlSortCmp.NoneTotal
import Derived.Sort.Grow
import Derived.TacticsInMore
import Derived.WalkKit
import Derived.WalkLawsBesides
import Derived.WalkSpells
import Derived.Deep.OwnRows
import Derived.Test.YtjjkicffhpcngaaGreatRows
import Derived.Test.YtjjkicffhpcngaaGreatBVbv
import Derived.Test.YtjjkicffhpcngaaGreatBVbw
namespace Go.Proofs.YtjjkicffhpcngaaGreat
open Go.RowKit
theorem M.from_front {t:List M.D}:∀ (ll:List (List M.D)) (a u:Nat),M.progFrom a u (ll++[t])=true→M.progFrom a u ll=true
 | [],a,u,h=>by
  by_cases ht:M.thread t=true
  ·have:M.progFrom (a+t.length) (u+M.cnt M.uses t) []=true:=by simpa [M.progFrom,ht] using h
   simp only [M.progFrom,Bool.and_eq_true,decide_eq_true_eq] at this ⊢
   omega
  ·simp [M.progFrom,ht] at h
 | x::ll,a,u,h=>by
  by_cases hx:M.thread x=true
  ·have h':M.progFrom (a+x.length) (u+M.cnt M.uses x) (ll++[t])=true:=by simpa [M.progFrom,hx] using h
   have:=M.from_front ll _ _ h'
   simpa [M.progFrom,hx] using this
  ·simp [M.progFrom,hx] at h
theorem M.prog_front {ll:List (List M.D)} {t:List M.D} (h:M.prog (ll++[t])=true):M.prog ll=true:=by
 simp only [M.prog,Bool.and_eq_true,decide_eq_true_eq] at h ⊢
 exact ⟨by have:=h.1;simp at this;omega,M.from_front ll 0 0 h.2⟩
end Go.Proofs.YtjjkicffhpcngaaGreat
namespace Go.Proofs.YtjjkicffhpcngaaGreat
open Go.RowKit
set_option maxHeartbeats 4000000 in
set_option maxRecDepth 100000 in
set_option linter.unusedSimpArgs false in
theorem lawRe_any (ca:Option Addr) (cb co L C:Nat) (x:Nat→Int) (ma:Option Addr) (ml C2:Nat) (w:World) (hL:L≤C) (had:0 < L→ca=some ⟨cb,co,none⟩) (hc:∀ i,i < L→w.cell? ⟨cb,co+i,none⟩=some (.int .u8 (x i))∧0≤x i∧x i≤255) :
  Calls Tryz.prog 6 #[.slice ca L C,.slice ma ml C2] w fun e w'=>e=.returned (.bool true)∧Below w.heap.size w w':=by
 by_cases hLb:L≤1048576∧ml≤1048576
 ·obtain ⟨hLa,hLm⟩:=hLb
  go_enter Tryz.func6,Tryz.ntmps6
  go_wp2_with fail
  refine (DrawOrderAll_any ca cb co L C x _ hL had hc hLa).mono ?_
  rintro e w1 ⟨a,g,c,mm,kind,rfl,hsn,hsm,hk0,hk1,hb1⟩
  have hls:=hsm.le
  have hl3:mm.length≤1048576:=by have:=hsm.three;omega
  clear had hc
  have bx0:=BoxP.new (c:=c) hb1 hsn.ss
  go_wp2_with fail
  obtain ⟨vs,hT⟩:∃ vs,Thb (w1.alloc (.cells #[.slice a mm.length c] 25)) g vs mm:=by
   obtain ⟨vs,h1⟩:=hsn.thb
   exact ⟨vs,h1.below (below1 w1 _)⟩
  generalize w1.alloc (.cells #[.slice a mm.length c] 25)=W0 at *
  generalize w1.heap.size=P at *
  clear hb1
  have hkl:=M.orderAll_len mm kind
  have hkk:=M.orderAll_le mm kind
  have hpos:=hsm.pos
  have hl10:mm.length≤1000:=by have:=hsm.three;omega
  obtain ⟨rfl⟩:=hsn.addr hpos
  have CI:=fun (W:World) (h:BoxP w W P (some ⟨g,0,none⟩) g c mm)=>iorderAllK (some ⟨g,0,none⟩) g 0 c mm kind W hl3 hls h.ss
  have CS:=fun (W:World) (h:BoxP w W P (some ⟨g,0,none⟩) g c mm)=>sorderAllK (some ⟨g,0,none⟩) g 0 c mm kind W hl3 hls h.ss
  obtain ⟨k,hk,hk3⟩:∃ k,ml % 3=k∧k < 3:=⟨_,rfl,Nat.mod_lt _ (by omega)⟩
  have hmd:Int.tmod (ml:Int) 3=(k:Int):=by rw [Int.tmod_eq_emod_of_nonneg (by omega),← hk];exact (Int.natCast_emod _ _).symm
  have HID:Hid (M.prog (mm++[[⟨2,(k:Int),0⟩]])=true→M.sortK ((M.orderAll (mm++[[⟨2,(k:Int),0⟩]]) kind).map fun z=>(z.1.dropLast,z.2))=M.orderAll mm kind∧∀ z∈M.orderAll (mm++[[⟨2,(k:Int),0⟩]]) kind,0 < z.1.length):=fun h=>M.all_reader (M.prog_front h) h (by omega) (by omega) kind
  have HQB:Hid ((mm++[[(⟨2,(k:Int),0⟩:M.D)]]).length≤1048576∧∀ t∈mm++[[(⟨2,(k:Int),0⟩:M.D)]],t.length≤1048576):=⟨by rw [List.length_append];simp;omega,fun t ht=>by
   rcases List.mem_append.1 ht with h | h
   ·exact hls t h
   ·rw [List.mem_singleton.1 h];simp⟩
  obtain ⟨ks,hks⟩:∃ ks,M.orderAll mm kind=ks:=⟨_,rfl⟩
  rw [hks] at hkl hkk CI CS HID
  clear hks hsn hsm hk
  refine (CI W0 bx0).mono ?_
  rintro e W1 ⟨v1,rfl,hA⟩
  have bx1:=bx0.below hA.bel
  have hT1:=hT.below hA.bel
  obtain ⟨av,gv,cv,rfl,hS1⟩:=hA.ex
  have p1:=bx1.p.c
  clear hA bx0 hT
  go_wp2_with fail
  refine (lpReader_any g c mm k vs W1 hpos hl10 hls hT1).mono ?_
  rintro e W2 ⟨v2,rfl,hQ⟩
  obtain ⟨qa,g',qc,rfl,hssq⟩:=hQ.ex
  generalize mm++[[(⟨2,(k:Int),0⟩:M.D)]]=qq at *
  have bx2:=(bx1.below hQ.bel).below (below1 W2 (.cells #[.slice qa qq.length qc] 25))
  have hS2:=(hS1.below hQ.bel (Nat.le_refl _)).below (below1 W2 (.cells #[.slice qa qq.length qc] 25)) (Nat.le_refl _)
  have hq2:=Slot1.new W2 (.slice qa qq.length qc) 25
  have ss2:=hssq.below (below1 W2 (.cells #[.slice qa qq.length qc] 25)) (Nat.le_refl _)
  clear hQ bx1 hS1 p1 hT1 hssq
  obtain ⟨ok,hok⟩:∃ ok,M.prog qq=ok:=⟨_,rfl⟩
  rw [hok] at HID ⊢
  clear hok
  have p3:=bx2.p.c
  go_wp2_with fail
  generalize W2.alloc (.cells #[.slice qa qq.length qc] 25)=W3 at *
  generalize W2.heap.size=Q at *
  refine (CS W3 bx2).mono ?_
  rintro e W4 ⟨v4,rfl,hB⟩
  have bx4:=bx2.below hB.bel
  have hq4:=hq2.bel hB.bel
  have hS4:=hS2.below hB.bel (Nat.le_refl _)
  have ss4:=ss2.below hB.bel (Nat.le_refl _)
  obtain ⟨aw,gw,cw,rfl,hTw⟩:=hB.ex
  clear hB bx2 p3 hS2 ss2 hq2
  go_wp2_with fail
  refine (lpList_same av gv 0 cv aw gw 0 cw ks W4 (by omega) hkk hS4 hTw).mono ?_
  rintro e W5 ⟨rfl,b5⟩
  have bx5:=bx4.below b5
  have hS5:=hS4.below b5 (Nat.le_refl _)
  have hq5:=hq4.bel b5
  have ss5:=ss4.below b5 (Nat.le_refl _)
  have p5:=bx5.p.c
  clear hTw b5 bx4 hS4 hq4 ss4
  cases ok
  ·clear HID
   go_wp2_with fail
   refine (CS W5 bx5).mono ?_
   rintro e W8 ⟨v8,rfl,hB⟩
   have bx8:=bx5.below hB.bel
   have hS8:=hS5.below hB.bel (Nat.le_refl _)
   obtain ⟨aw,gw,cw,rfl,hTw⟩:=hB.ex
   clear hB p5
   go_wp2_with fail
   refine (lpList_same av gv 0 cv aw gw 0 cw ks W8 (by omega) hkk hS8 hTw).mono ?_
   rintro e W9 ⟨rfl,b9⟩
   have bx9:=bx8.below b9
   go_wp2_with fail
   go_ret
   exact ⟨rfl,bx9.bel⟩
  ·obtain ⟨heq,hps⟩:=HID.out rfl
   obtain ⟨hql,hqs⟩:=HQB.out
   have CQ:=iorderAllC_any qa g' 0 qc qq kind W5 hql hqs ss5
   have q5:=hq5.c
   clear HID HQB CS CI hqs
   go_wp2_with fail
   refine CQ.mono ?_
   rintro e W8 ⟨v8,rfl,hB⟩
   have bx8:=bx5.below hB.bel
   have hS8:=hS5.below hB.bel (Nat.le_refl _)
   obtain ⟨aw,gw,cw,uu,rfl,hku,hN,hul,hcw,hcp⟩:=hB.ex
   have hpu:∀ s∈uu,0 < s.l1.length:=fun s hs=>hps s.ky (by rw [← hku];exact List.mem_map.2 ⟨s,hs,rfl⟩)
   have CU:=lpCut_any aw gw cw uu W8 hul hN.addr (newL_cut hN hcp hpu)
   rw [cut_map,hku,heq] at CU
   clear hB hps heq hku hcp hpu hN CQ
   go_wp2_with fail
   refine CU.mono ?_
   rintro e W9 ⟨v9,rfl,hC⟩
   have bx9:=bx8.below hC.bel
   have hS9:=hS8.below hC.bel (Nat.le_refl _)
   obtain ⟨ax,gx,cx,rfl,hTx⟩:=hC.ex
   clear hC
   go_wp2_with fail
   refine (lpList_same ax gx 0 cx av gv 0 cv ks W9 (by omega) hkk hTx hS9).mono ?_
   rintro e WA ⟨rfl,bA⟩
   have bxA:=bx9.below bA
   go_wp2_with fail
   go_ret
   exact ⟨rfl,bxA.bel⟩
 ·go_enter Tryz.func6,Tryz.ntmps6
  rcases (show 1048576 < L∨(L≤1048576∧1048576 < ml) by omega) with h1 | ⟨h1,h2⟩
  ·go_wp2_with fail
   go_ret
   exact ⟨rfl,Below.refl _ _⟩
  ·go_wp2_with fail
   go_ret
   exact ⟨rfl,Below.refl _ _⟩
end Go.Proofs.YtjjkicffhpcngaaGreat
