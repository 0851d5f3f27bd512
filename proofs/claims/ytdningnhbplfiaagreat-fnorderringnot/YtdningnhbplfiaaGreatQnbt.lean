/- The law FnOrderRingNot, walked: it answers true, and leaves all as it was. Of whatever code. -/
import Derived.Deep.OwnRows
import Derived.Test.YtdningnhbplfiaaGreatRows
import Derived.Test.YtdningnhbplfiaaGreatQnbm
import Derived.Test.YtdningnhbplfiaaGreatQnbq
import Derived.Test.YtdningnhbplfiaaGreatQnbr
namespace Go.Proofs.YtdningnhbplfiaaGreat
section
open Go.RowKit
set_option maxHeartbeats 2000000 in
set_option maxRecDepth 100000 in
theorem lawRn_any (ca:Option Addr) (cb co L C:Nat) (x:Nat→Int) (w:World) (hL:L≤C) (had:0 < L→ca=some ⟨cb,co,none⟩) (hc:∀ i,i < L→w.cell? ⟨cb,co+i,none⟩=some (.int .u8 (x i))∧0≤x i∧x i≤255) :
  Calls Tryz.prog 9 #[.slice ca L C] w fun e w'=>e=.returned (.bool true)∧Below w.heap.size w w':=by
 by_cases hLb:L≤1048576
 ·go_enter Tryz.func9,Tryz.ntmps9
  go_wp2_with fail
  refine (DrawOrderRing_any ca cb co L C x _ hL had hc hLb).mono ?_
  rintro e w1 ⟨v,rfl,⟨a,g,c,mm,fv,ov,l,rows,kind,rfl,hsn,hsm,hwy,h1,h2,h3,hk⟩,hb1⟩
  obtain ⟨fa,fb,fc,ra,rb,rc,rfl,rfl,hf1,ho1⟩:=hwy.ss
  have h2':Hid (rows.length=3):=h2
  have hl3:mm.length≤1048576:=by have:=hsm.three;omega
  have hls:∀ t∈mm,t.length≤1048576:=fun t ht=>by have:=hsm.steps t ht;omega
  have hl1:l.length≤1048576:=by omega
  have hl2:rows.length≤1048576:=by omega
  have hrs:∀ r∈rows,r.length≤1048576:=fun r hr=>by have:=h3 r hr;omega
  clear had hc h2 hwy
  have bx0:=BxW.new (c:=c) (fc:=fc) (rc:=rc) hb1 hsn.ss hf1 ho1
  have HN:Hid (M.orderHolds mm l rows kind=true→(M.orderRing mm l rows kind).isSome=false):=M.no_round
  have H0:Hid (M.execOk mm l rows=false∨kind < 1∨3 < kind→(M.orderRing mm l rows kind).isSome=false∧M.orderHolds mm l rows kind=false):=M.no_ring
  have HS:Hid (M.execOk mm l rows=true→M.anyK (fun d=>d.k==9) mm=false→M.orderHolds mm l rows 1=!(M.orderRing mm l rows 1).isSome):=M.strict_ring
  have hY28:((M.orderRing mm l rows kind).getD []).length≤1048576:=by
   cases hr:M.orderRing mm l rows kind with
   | none=>simp
   | some r=>have:=(M.ring_two hr).2.1;simp only [Option.getD_some];omega
  have CE:=fun (W:World) (hb:BxW w W w1.heap.size (w1.heap.size+1) a g c mm fa fb fc l ra rb rc rows)=>iexecOk_any a g 0 c mm fa fb 0 fc l ra rb 0 rc rows W hl3 hls hl1 hl2 hrs hb.ss hb.f hb.o
  have CW:=fun (W:World) (hb:BxW w W w1.heap.size (w1.heap.size+1) a g c mm fa fb fc l ra rb rc rows)=>lpWaits_any a g 0 c mm W hl3 hls hb.ss
  have CH:=fun (W:World) (k:Int) (hb:BxW w W w1.heap.size (w1.heap.size+1) a g c mm fa fb fc l ra rb rc rows)=>iorderHolds_any a g 0 c mm fa fb 0 fc l ra rb 0 rc rows k W hl3 hls hl1 hl2 hrs hb.ss hb.f hb.o
  have CI:=fun (W:World) (k:Int) (hb:BxW w W w1.heap.size (w1.heap.size+1) a g c mm fa fb fc l ra rb rc rows)=>iorderRing_any a g 0 c mm fa fb 0 fc l ra rb 0 rc rows k W hl3 hls hl1 hl2 hrs hb.ss hb.f hb.o
  have CS:=fun (W:World) (k:Int) (hb:BxW w W w1.heap.size (w1.heap.size+1) a g c mm fa fb fc l ra rb rc rows)=>sorderRing_any a g 0 c mm fa fb 0 fc l ra rb 0 rc rows k W hl3 hls hl1 hrs hb.ss hb.f hb.o
  go_wp2_with fail
  generalize (w1.alloc (.cells #[.slice a mm.length c] 35)).alloc (.cells #[.slice fa l.length fc,.slice ra rows.length rc] 37)=W0 at *
  obtain ⟨X,hXe⟩:∃ X,w1.heap.size+1=X:=⟨_,rfl⟩
  rw [hXe] at bx0 ⊢
  rw [hXe] at CI CS CH CE CW
  generalize w1.heap.size=P at *
  clear hsn hb1 hf1 ho1
  have C1:=CS W0 kind bx0
  have C2:=fun W hb=>CI W kind hb
  have C3:=fun W hb=>CH W kind hb
  have C4:=fun W hb=>CH W 1 hb
  have C5:=fun W hb=>CI W 1 hb
  clear CS CI CH
  generalize M.anyK (fun d=>d.k==9) mm=wt at *
  generalize M.execOk mm l rows=ek at *
  generalize M.orderHolds mm l rows kind=hk' at *
  generalize M.orderHolds mm l rows 1=hs at *
  generalize (M.orderRing mm l rows kind).isSome=rk at *
  generalize (M.orderRing mm l rows kind).getD []=y at *
  generalize (M.orderRing mm l rows 1).isSome=rs at *
  generalize (M.orderRing mm l rows 1).getD []=z at *
  have hsame:M.same (M.ints y) (M.ints y)=true:=(M.same_eq _ _).2 rfl
  have E0:(rk != rk)=false:=by simp
  refine C1.mono ?_
  rintro e W1 ⟨q,gq,kq,rfl,hS1,b1⟩
  have bx1:=bx0.below b1
  have p1:=bx1.p.c
  have x10:=bx1.x.c0
  have x11:=bx1.x.c1
  clear C1 bx0 b1
  go_wp2_with fail
  refine (C2 _ bx1).mono ?_
  rintro e W2 ⟨v2,rfl,hO,b2⟩
  have bx2:=bx1.below b2
  obtain ⟨ja,jg,jc,rfl,hJ,_⟩:=own_intsR (l:=M.ints y) (by rw [M.ints_len];exact hO)
  have hS2:=hS1.below b2 (Nat.le_refl _)
  rw [M.ints_len] at *
  clear p1 x10 x11 bx1 C2 b2 hS1 hO
  have CL:=lpIntsX_any ja jg 0 jc (M.ints y) q gq 0 kq (M.ints y) W2 (by rw [M.ints_len];exact hY28) hJ hS2
  rw [hsame,M.ints_len] at CL
  have p2:=bx2.p.c
  have x20:=bx2.x.c0
  have x21:=bx2.x.c1
  go_wp2_with fail
  refine CL.mono ?_
  rintro e W3 ⟨rfl,b3⟩
  have bx3:=bx2.below b3.bel
  clear p2 x20 x21 bx2 CL b3 hS2 hJ
  have p3:=bx3.p.c
  have x30:=bx3.x.c0
  have x31:=bx3.x.c1
  go_wp2_with fail
  refine (C3 _ bx3).mono ?_
  rintro e W4 ⟨rfl,b4⟩
  have bx4:=bx3.below b4
  have p4:=bx4.p.c
  have x40:=bx4.x.c0
  have x41:=bx4.x.c1
  clear p3 x30 x31 bx3 C3 b4
  go_wp2_with fail
  refine (C4 _ bx4).mono ?_
  rintro e W5 ⟨rfl,b5⟩
  have bx5:=bx4.below b5
  have p5:=bx5.p.c
  have x50:=bx5.x.c0
  have x51:=bx5.x.c1
  clear p4 x40 x41 bx4 C4 b5
  go_wp2_with fail
  refine (C5 _ bx5).mono ?_
  rintro e W6 ⟨v6,rfl,_,b6⟩
  have bx6:=bx5.below b6
  have p6:=bx6.p.c
  have x60:=bx6.x.c0
  have x61:=bx6.x.c1
  clear p5 x50 x51 bx5 C5 b6
  go_wp2_with fail
  refine (CE _ bx6).mono ?_
  rintro e W7 ⟨rfl,b7⟩
  have bx7:=bx6.below b7
  have p7:=bx7.p.c
  clear p6 x60 x61 bx6 CE b7
  cases ek
  ·obtain ⟨rfl,rfl⟩:=H0.out (.inl rfl)
   go_wp2_with fail
   go_ret
   exact ⟨rfl,bx7.bel⟩
  ·by_cases k1:kind < 1
   ·obtain ⟨rfl,rfl⟩:=H0.out (.inr (.inl k1))
    go_wp2_with fail
    go_ret
    exact ⟨rfl,bx7.bel⟩
   ·by_cases k3:3 < kind
    ·obtain ⟨rfl,rfl⟩:=H0.out (.inr (.inr k3))
     go_wp2_with fail
     go_ret
     exact ⟨rfl,bx7.bel⟩
    ·have CW':=CW _ bx7
     cases wt
     ·have hs':=HS.out rfl rfl
      subst hs'
      cases hk'
      ·cases rs<;>cases rk
       all_goals
        go_wp2_with fail
        refine CW'.mono ?_
        rintro e W8 ⟨rfl,b8⟩
        have bx8:=bx7.below b8
        go_wp2_with fail
        go_ret
        exact ⟨rfl,bx8.bel⟩
      ·obtain rfl:=HN.out rfl
       cases rs
       all_goals
        go_wp2_with fail
        refine CW'.mono ?_
        rintro e W8 ⟨rfl,b8⟩
        have bx8:=bx7.below b8
        go_wp2_with fail
        go_ret
        exact ⟨rfl,bx8.bel⟩
     ·cases hk'
      ·cases rk
       all_goals
        go_wp2_with fail
        refine CW'.mono ?_
        rintro e W8 ⟨rfl,b8⟩
        have bx8:=bx7.below b8
        go_wp2_with fail
        go_ret
        exact ⟨rfl,bx8.bel⟩
      ·obtain rfl:=HN.out rfl
       go_wp2_with fail
       refine CW'.mono ?_
       rintro e W8 ⟨rfl,b8⟩
       have bx8:=bx7.below b8
       go_wp2_with fail
       go_ret
       exact ⟨rfl,bx8.bel⟩
 ·have hLb':(1048576:Int) < L:=by omega
  go_enter Tryz.func9,Tryz.ntmps9
  go_wp2_with fail
  go_ret
  exact ⟨rfl,Below.refl _ _⟩
end
end Go.Proofs.YtdningnhbplfiaaGreat
