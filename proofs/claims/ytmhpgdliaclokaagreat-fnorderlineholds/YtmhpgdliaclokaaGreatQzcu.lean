/- The law FnOrderLineHolds, walked: it answers true, and leaves all as it was. Of whatever code. -/
import Derived.Deep.OwnRows
import Derived.Test.YtmhpgdliaclokaaGreatRows
import Derived.Test.YtmhpgdliaclokaaGreatQzbo
import Derived.Test.YtmhpgdliaclokaaGreatQzbs
import Derived.Test.YtmhpgdliaclokaaGreatQzcr
import Derived.Test.YtmhpgdliaclokaaGreatQzct
namespace Go.Proofs.YtmhpgdliaclokaaGreat
section
open Go.RowKit
set_option maxHeartbeats 2000000 in
set_option maxRecDepth 100000 in
theorem lawLh_any (ca:Option Addr) (cb co L C:Nat) (x:Nat→Int) (w:World) (hL:L≤C) (had:0 < L→ca=some ⟨cb,co,none⟩) (hc:∀ i,i < L→w.cell? ⟨cb,co+i,none⟩=some (.int .u8 (x i))∧0≤x i∧x i≤255) :
  Calls Tryz.prog 4 #[.slice ca L C] w fun e w'=>e=.returned (.bool true)∧Below w.heap.size w w':=by
 by_cases hLb:L≤1048576
 ·go_enter Tryz.func4,Tryz.ntmps4
  go_wp2_with fail
  refine (DrawOrderLine_any ca cb co L C x _ hL had hc hLb).mono ?_
  rintro e w1 ⟨v,rfl,⟨a,g,c,mm,fv,ov,l,rows,kind,rfl,hsn,hsm,hwy,h1,h2,h3,hk⟩,hb1⟩
  obtain ⟨fa,fb,fc,ra,rb,rc,rfl,rfl,hf1,ho1⟩:=hwy.ss
  have h2':Hid (rows.length=3):=h2
  have hl3:mm.length≤1048576:=by have:=hsm.three;omega
  have hls:∀ t∈mm,t.length≤1048576:=fun t ht=>by have:=hsm.steps t ht;omega
  have hl1:l.length≤1048576:=by omega
  have hl2:rows.length≤1048576:=by omega
  have hrs:∀ r∈rows,r.length≤1048576:=fun r hr=>by have:=h3 r hr;omega
  clear had hc h2 hwy
  have bx0:=BxW.new (c:=c) (fc:=fc) (rc:=rc) hb1 hsn.ss hf1 ho1
  have CH:=fun (W:World) (hb:BxW w W w1.heap.size (w1.heap.size+1) a g c mm fa fb fc l ra rb rc rows)=>iorderHolds_any a g 0 c mm fa fb 0 fc l ra rb 0 rc rows kind W hl3 hls hl1 hl2 hrs hb.ss hb.f hb.o
  rw [← M.line_some] at CH
  have HY:Hid (∀ r,M.orderLine mm l rows kind=some r→r.length≤28):=fun r h=>(M.line_len h).2
  have CI:=fun (W:World) (hb:BxW w W w1.heap.size (w1.heap.size+1) a g c mm fa fb fc l ra rb rc rows)=>iorderLine_any a g 0 c mm fa fb 0 fc l ra rb 0 rc rows kind W hl3 hls hl1 hl2 hrs hb.ss hb.f hb.o
  have CS:=fun (W:World) (hb:BxW w W w1.heap.size (w1.heap.size+1) a g c mm fa fb fc l ra rb rc rows)=>sorderLine_any a g 0 c mm fa fb 0 fc l ra rb 0 rc rows kind W hl3 hls hl1 hrs hb.ss hb.f hb.o
  go_wp2_with fail
  generalize (w1.alloc (.cells #[.slice a mm.length c] 25)).alloc (.cells #[.slice fa l.length fc,.slice ra rows.length rc] 29)=W0 at *
  obtain ⟨X,hXe⟩:∃ X,w1.heap.size+1=X:=⟨_,rfl⟩
  rw [hXe] at bx0 ⊢
  rw [hXe] at CI CS CH
  generalize w1.heap.size=P at *
  clear hsn hb1 hf1 ho1
  have C1:=CS W0 bx0
  generalize M.orderLine mm l rows kind=R at *
  clear CS
  refine C1.mono ?_
  rintro e W1 ⟨q,gq,kq,rfl,hS1,b1⟩
  have bx1:=bx0.below b1
  have p1:=bx1.p.c
  have x10:=bx1.x.c0
  have x11:=bx1.x.c1
  clear C1 bx0 b1
  cases R with
  | none =>
   simp only [Option.getD_none,Option.isSome_none] at CI CH
   have hl0:(([]:List Nat).length:Int)=0:=rfl
   go_wp2_with fail
   refine (CI _ bx1).mono ?_
   rintro e W2 ⟨v2,rfl,hO,b2⟩
   have bx2:=bx1.below b2
   obtain ⟨ja,jg,jc,rfl,hJ,_⟩:=own_intsR (l:=M.ints []) hO
   have hS2:=hS1.below b2 (Nat.le_refl _)
   have CL:=lpIntsX_any ja jg 0 jc [] q gq 0 kq [] W2 (by simp) hJ hS2
   clear p1 x10 x11 bx1 b2 hS1 hO hS2 hJ
   go_wp2_with fail
   refine CL.mono ?_
   rintro e W3 ⟨rfl,b3⟩
   have bx3:=bx2.below b3.bel
   have p3:=bx3.p.c
   have x30:=bx3.x.c0
   have x31:=bx3.x.c1
   clear bx2 b3
   go_wp2_with fail
   refine (CH _ bx3).mono ?_
   rintro e W4 ⟨rfl,b4⟩
   go_wp2_with fail
   go_ret
   exact ⟨rfl,(bx3.below b4).bel⟩
  | some r =>
   simp only [Option.getD_some,Option.isSome_some] at CI hS1 ⊢
   have hsame:M.same (M.ints r) (M.ints r)=true:=(M.same_eq _ _).2 rfl
   have hr28:=HY.out r rfl
   simp only [Option.isSome_some] at CH
   clear HY
   go_wp2_with fail
   refine (CI _ bx1).mono ?_
   rintro e W2 ⟨v2,rfl,hO,b2⟩
   have bx2:=bx1.below b2
   obtain ⟨ja,jg,jc,rfl,hJ,_⟩:=own_intsR (l:=M.ints r) (by rw [M.ints_len];exact hO)
   have hS2:=hS1.below b2 (Nat.le_refl _)
   rw [M.ints_len] at *
   clear p1 x10 x11 bx1 b2 hS1 hO
   have CL:=lpIntsX_any ja jg 0 jc (M.ints r) q gq 0 kq (M.ints r) W2 (by rw [M.ints_len];omega) hJ hS2
   rw [hsame,M.ints_len] at CL
   clear hsame CI
   have p2:=bx2.p.c
   have x20:=bx2.x.c0
   have x21:=bx2.x.c1
   go_wp2_with fail
   refine CL.mono ?_
   rintro e W3 ⟨rfl,b3⟩
   have bx3:=bx2.below b3.bel
   have hJ3:=hJ.below b3.bel (Nat.le_refl _)
   clear p2 x20 x21 bx2 CL b3 hS2 hJ
   have p3:=bx3.p.c
   have x30:=bx3.x.c0
   have x31:=bx3.x.c1
   go_wp2_with fail
   refine (CH _ bx3).mono ?_
   rintro e W4 ⟨rfl,b4⟩
   go_wp2_with fail
   go_ret
   exact ⟨rfl,(bx3.below b4).bel⟩
 ·have hLb':(1048576:Int) < L:=by omega
  go_enter Tryz.func4,Tryz.ntmps4
  go_wp2_with fail
  go_ret
  exact ⟨rfl,Below.refl _ _⟩
end
end Go.Proofs.YtmhpgdliaclokaaGreat
