/- The law FnOrderSeen, walked: it answers true, and leaves all as it was. Of whatever code. -/
import Derived.Deep.OwnRows
import Derived.Test.YtmhpgdliaclokaaGreatRows
import Derived.Test.YtmhpgdliaclokaaGreatQzbo
import Derived.Test.YtmhpgdliaclokaaGreatQzby
import Derived.Test.YtmhpgdliaclokaaGreatQzce
import Derived.Test.YtmhpgdliaclokaaGreatQzco
import Derived.Test.YtmhpgdliaclokaaGreatQzct
namespace Go.Proofs.YtmhpgdliaclokaaGreat
section
open Go.RowKit
set_option maxHeartbeats 2000000 in
set_option maxRecDepth 100000 in
theorem lawSn_any (ca:Option Addr) (cb co L C:Nat) (x:Nat→Int) (w:World) (hL:L≤C) (had:0 < L→ca=some ⟨cb,co,none⟩) (hc:∀ i,i < L→w.cell? ⟨cb,co+i,none⟩=some (.int .u8 (x i))∧0≤x i∧x i≤255) :
  Calls Tryz.prog 7 #[.slice ca L C] w fun e w'=>e=.returned (.bool true)∧Below w.heap.size w w':=by
 by_cases hLb:L≤1048576
 ·go_enter Tryz.func7,Tryz.ntmps7
  go_wp2_with fail
  refine (DrawOrderLine_any ca cb co L C x _ hL had hc hLb).mono ?_
  rintro e w1 ⟨v,rfl,⟨a,g,c,mm,fv,ov,l,rows,kind,rfl,hsn,hsm,hwy,h1,h2,h3,hk⟩,hb1⟩
  obtain ⟨fa,fb,fc,ra,rb,rc,rfl,rfl,hf1,ho1⟩:=hwy.ss
  have h2':Hid (rows.length=3):=h2
  have hl3:mm.length≤1048576:=by have:=hsm.three;omega
  have hls:∀ t∈mm,t.length≤1048576:=fun t ht=>by have:=hsm.steps t ht;omega
  have hl1:l.length≤1048576:=by omega
  have hl2:rows.length≤1048576:=by omega
  have hrs:∀ r∈rows,r.length≤1048576:=fun r hr=>by have:=h3 r hr;omega
  clear had hc h2 hwy
  have bx0:=BxW.new (c:=c) (fc:=fc) (rc:=rc) hb1 hsn.ss hf1 ho1
  have CI:=fun (W:World) (hb:BxW w W w1.heap.size (w1.heap.size+1) a g c mm fa fb fc l ra rb rc rows)=>iorderHolds_any a g 0 c mm fa fb 0 fc l ra rb 0 rc rows kind W hl3 hls hl1 hl2 hrs hb.ss hb.f hb.o
  have CS:=fun (W:World) (hb:BxW w W w1.heap.size (w1.heap.size+1) a g c mm fa fb fc l ra rb rc rows)=>sorderHolds_any a g 0 c mm fa fb 0 fc l ra rb 0 rc rows kind W hl3 hls hl1 hrs hb.ss hb.f hb.o
  have CE:=fun (W:World) (hb:BxW w W w1.heap.size (w1.heap.size+1) a g c mm fa fb fc l ra rb rc rows)=>iexecSeen_any a g 0 c mm fa fb 0 fc l ra rb 0 rc rows W hl3 hls hl1 hl2 hrs hb.ss hb.f hb.o
  have CO:=fun (W:World) (hb:BxW w W w1.heap.size (w1.heap.size+1) a g c mm fa fb fc l ra rb rc rows)=>iorderAllK a g 0 c mm kind W hl3 hls hb.ss
  have HSN:Hid (M.orderHolds mm l rows kind=true→M.execOk mm l rows=true∧M.isIn (M.orderAll mm kind) (M.execSeen mm l rows).1 (M.execSeen mm l rows).2=true):=M.seen_isIn
  go_wp2_with fail
  generalize (w1.alloc (.cells #[.slice a mm.length c] 25)).alloc (.cells #[.slice fa l.length fc,.slice ra rows.length rc] 29)=W0 at *
  obtain ⟨X,hXe⟩:∃ X,w1.heap.size+1=X:=⟨_,rfl⟩
  rw [hXe] at bx0 ⊢
  rw [hXe] at CI CS CE CO
  generalize w1.heap.size=P at *
  clear hsn hb1 hf1 ho1
  generalize M.orderHolds mm l rows kind=ok at *
  refine (CI W0 bx0).mono ?_
  rintro e W1 ⟨rfl,b1⟩
  have bx1:=bx0.below b1
  have p1:=bx1.p.c
  have x10:=bx1.x.c0
  have x11:=bx1.x.c1
  clear bx0 b1 CI
  cases ok
  ·go_wp2_with fail
   refine (CS _ bx1).mono ?_
   rintro e W2 ⟨rfl,b2⟩
   have bx2:=bx1.below b2
   have p2:=bx2.p.c
   have x20:=bx2.x.c0
   have x21:=bx2.x.c1
   clear bx1 b2 p1 x10 x11
   go_wp2_with fail
   refine (CS _ bx2).mono ?_
   rintro e W3 ⟨rfl,b3⟩
   go_wp2_with fail
   go_ret
   exact ⟨rfl,(bx2.below b3).bel⟩
  ·obtain ⟨hok,hin⟩:=HSN.out rfl
   have HIN:Hid (M.isIn (M.orderAll mm kind) (M.execSeen mm l rows).1 (M.execSeen mm l rows).2=true):=hin
   have HLE:Hid ((M.execSeen mm l rows).1.length≤1048576∧(M.execSeen mm l rows).2.length≤1048576):=M.execSeen_le (x:=(l,rows)) hok
   rw [hok] at CE
   clear HSN hin hok
   go_wp2_with fail
   refine (CS _ bx1).mono ?_
   rintro e W2 ⟨rfl,b2⟩
   have bx2:=bx1.below b2
   have p2:=bx2.p.c
   have x20:=bx2.x.c0
   have x21:=bx2.x.c1
   clear bx1 b2 p1 x10 x11 CS
   go_wp2_with fail
   refine (CE _ bx2).mono ?_
   rintro e W3 ⟨t,rfl,ht1,ht2,hnew,b3⟩
   have hta:=hnew.at_.below (below1 W3 (.cells #[.slice t.a1 t.l1.length t.c1,.slice t.a2 t.l2.length t.c2] 45)) (Nat.le_refl _)
   have bx3:=(bx2.below b3).below (below1 W3 (.cells #[.slice t.a1 t.l1.length t.c1,.slice t.a2 t.l2.length t.c2] 45))
   have sb:Slot2 (W3.alloc (.cells #[.slice t.a1 t.l1.length t.c1,.slice t.a2 t.l2.length t.c2] 45)) W3.heap.size (.slice t.a1 t.l1.length t.c1) (.slice t.a2 t.l2.length t.c2):=⟨alloc_new _ _ _ (by simp)⟩
   have htl:t.Le 1048576:=⟨by rw [ht1];exact HLE.out.1,by rw [ht2];exact HLE.out.2⟩
   have hkl:=M.orderAll_len mm kind
   have hkk:=M.orderAll_le mm kind
   obtain ⟨ks,hks⟩:∃ ks,M.orderAll mm kind=ks:=⟨_,rfl⟩
   have hq:M.isIn ks t.l1 t.l2=true:=by rw [ht1,ht2,← hks];exact HIN.out
   rw [hks] at CO hkl hkk
   clear hks HIN HLE ht1 ht2 hnew p2 x20 x21 bx2 b3 CE
   go_wp2_with fail
   generalize W3.alloc (.cells #[.slice t.a1 t.l1.length t.c1,.slice t.a2 t.l2.length t.c2] 45)=W4 at *
   generalize W3.heap.size=S at *
   have CN:=fun (a1:Option Addr) (g1 c1:Nat) (W:World) (h:Below W4.heap.size W4 W) (hS:KS W a1 g1 0 ks)=>iseenIn_any a1 g1 0 c1 ks t W (by omega) hkk htl hS (hta.below h (Nat.le_refl _))
   rw [hq] at CN
   clear hq hkk htl
   have fp:∀ w',Below W4.heap.size W4 w'→w'.cell? ⟨P,0,none⟩=some (.slice a mm.length c):=fun w' h=>(bx3.below h).p.c
   have fs0:∀ w',Below W4.heap.size W4 w'→w'.cell? ⟨S,0,none⟩=some (.slice t.a1 t.l1.length t.c1):=fun w' h=>cellC h sb.c0
   have fs1:∀ w',Below W4.heap.size W4 w'→w'.cell? ⟨S,1,none⟩=some (.slice t.a2 t.l2.length t.c2):=fun w' h=>cellC h sb.c1
   refine wp_region_held_drew (S:=fun w'=>Below W4.heap.size W4 w') (by kernel_rfl) (Below.refl _ _).drew (fun hH=>?_)
   refine tk 0 44 (.bool true) hH rfl rfl (by intro w' hSw;go_simp) ?_
   simp only [Act.put,zqa,zqb,zqc]
   refine tk 1 45 (.bool true) hH rfl rfl (by intro w' hSw;go_simp) ?_
   simp only [Act.put,zqa,zqb,zqc]
   refine tk 2 46 (.agg #[.slice a mm.length c]) hH rfl rfl (by intro w' hSw;have hc0:=fp w' hSw;go_simp) ?_
   simp only [Act.put,zqa,zqb,zqc]
   refine tk 3 47 (.int .i64 kind) hH rfl rfl (by intro w' hSw;go_simp) ?_
   simp only [Act.put,zqa,zqb,zqc]
   refine tk 5 49 (.agg #[.slice t.a1 t.l1.length t.c1,.slice t.a2 t.l2.length t.c2]) hH rfl rfl (by intro w' hSw;have hc0:=fs0 w' hSw;have hc1:=fs1 w' hSw;go_simp) ?_
   simp only [Act.put,zqa,zqb,zqc]
   refine ry 4 rfl (fun K' hK=>?_)
   refine sg 48 rfl 25 #[.tmp 46,.tmp 47] rfl #[.agg #[.slice a mm.length c],.int .i64 kind] (enters_of Tryz.func25 (by kernel_rfl) rfl) (CO _ (bx3.below hH)) ?_
   rintro e W6 ⟨v6,rfl,hA6⟩
   obtain ⟨a6,g6,c6,rfl,hS6⟩:=hA6.ex
   refine ⟨_,rfl,hK.out _ _ (hH.trans (hA6.bel.mono hH.size)) (fun hH1=>?_)⟩
   clear hK K'
   simp only [Act.put,zqa,zqb,zqc]
   refine ry 6 rfl (fun K' hK=>?_)
   refine sg 50 rfl 24 #[.tmp 48,.tmp 49] rfl #[.slice a6 ks.length c6,.agg #[.slice t.a1 t.l1.length t.c1,.slice t.a2 t.l2.length t.c2]] (enters_of Tryz.func24 (by kernel_rfl) rfl) (CN a6 g6 c6 _ hH1 hS6) ?_
   rintro e W7 ⟨rfl,b7⟩
   refine ⟨_,rfl,hK.out _ _ (hH1.trans (b7.bel.mono hH1.size)) (fun hH2=>?_)⟩
   clear hK K'
   simp only [Act.put,zqa,zqb,zqc]
   refine tk 7 51 (.bool true) hH2 rfl rfl (by intro w' hSw;go_simp) ?_
   simp only [Act.put,zqa,zqb,zqc]
   refine tk 8 2 (.bool true) hH2 rfl rfl (by intro w' hSw;go_simp) ?_
   simp only [Act.put,zqa,zqb,zqc]
   refine wpAnyH_done (by kernel_rfl) ?_ _
   have bxF:=bx3.below hH2
   go_wp2_with fail
   go_ret
   exact ⟨rfl,bxF.bel⟩
 ·have hLb':(1048576:Int) < L:=by omega
  go_enter Tryz.func7,Tryz.ntmps7
  go_wp2_with fail
  go_ret
  exact ⟨rfl,Below.refl _ _⟩
end
end Go.Proofs.YtmhpgdliaclokaaGreat
