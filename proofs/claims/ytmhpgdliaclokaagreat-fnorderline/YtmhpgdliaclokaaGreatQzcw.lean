/- The law FnOrderLine, walked: it answers true, and leaves all as it was. Of whatever code. -/
import Derived.Deep.OwnRows
import Derived.Test.YtmhpgdliaclokaaGreatRows
import Derived.Test.YtmhpgdliaclokaaGreatQzbg
import Derived.Test.YtmhpgdliaclokaaGreatQzbo
import Derived.Test.YtmhpgdliaclokaaGreatQzcn
import Derived.Test.YtmhpgdliaclokaaGreatQzcr
import Derived.Test.YtmhpgdliaclokaaGreatQzcs
import Derived.Test.YtmhpgdliaclokaaGreatQzct
namespace Go.Proofs.YtmhpgdliaclokaaGreat
section
open Go.RowKit
theorem ret_trueR {b:Bool} (h:b=true):Ending.returned (.bool b)=.returned (.bool true):=by rw [h]
set_option maxHeartbeats 2000000 in
set_option maxRecDepth 100000 in
theorem lawLn_any (ca:Option Addr) (cb co L C:Nat) (x:Nat→Int) (w:World) (hL:L≤C) (had:0 < L→ca=some ⟨cb,co,none⟩) (hc:∀ i,i < L→w.cell? ⟨cb,co+i,none⟩=some (.int .u8 (x i))∧0≤x i∧x i≤255) :
  Calls Tryz.prog 3 #[.slice ca L C] w fun e w'=>e=.returned (.bool true)∧Below w.heap.size w w':=by
 by_cases hLb:L≤1048576
 ·go_enter Tryz.func3,Tryz.ntmps3
  go_wp2_with fail
  refine (DrawOrderLine_any ca cb co L C x _ hL had hc hLb).mono ?_
  rintro e w1 ⟨v,rfl,⟨a,g,c,mm,fv,ov,l,rows,kind,rfl,hsn,hsm,hwy,h1,h2,h3,hk⟩,hb1⟩
  obtain ⟨fa,fb,fc,ra,rb,rc,rfl,rfl,hf1,ho1⟩:=hwy.ss
  have h2':Hid (rows.length=3):=h2
  have hl3:mm.length≤1048576:=by have:=hsm.three;omega
  have hls:∀ t∈mm,t.length≤1048576:=fun t ht=>by have:=hsm.steps t ht;omega
  have hl1:l.length≤1048576:=by omega
  have hl2:rows.length≤1048576:=by omega
  have hrs:∀ r∈rows,r.length≤1048576:=fun r hr=>by have:=h3 r hr;omega
  clear had hc h2 hwy
  have bx0:=BxW.new (c:=c) (fc:=fc) (rc:=rc) hb1 hsn.ss hf1 ho1
  have CA:=fun (W:World) (na nb:Int) (hb:BxW w W w1.heap.size (w1.heap.size+1) a g c mm fa fb fc l ra rb rc rows)=>iorderHas_any a g 0 c mm fa fb 0 fc l ra rb 0 rc rows kind na nb W hl3 hls hl1 hl2 hrs hb.ss hb.f hb.o
  have HY:Hid (∀ r,M.orderLine mm l rows kind=some r→r.length=(M.deeds mm).length∧r.length≤28):=fun r h=>M.line_len h
  have HL:Hid (∀ r,M.orderLine mm l rows kind=some r→∀ (i k:Nat) (hi:i < r.length) (hk:k < i),r[k]'(by omega)≠r[i]∧M.orderHas mm l rows kind (r[i]:Int) ((r[k]'(by omega):Nat):Int)=false):=fun r h=>M.line_not h
  have HP:Hid (∀ r,M.orderLine mm l rows kind=some r→M.prog mm=true):=fun r h=>by
   have:=(M.holds_parts_of (M.line_parts h).1).2
   simp only [M.execOk,Bool.and_eq_true] at this
   exact this.1
  have CI:=fun (W:World) (hb:BxW w W w1.heap.size (w1.heap.size+1) a g c mm fa fb fc l ra rb rc rows)=>iorderLine_any a g 0 c mm fa fb 0 fc l ra rb 0 rc rows kind W hl3 hls hl1 hl2 hrs hb.ss hb.f hb.o
  have CS:=fun (W:World) (hb:BxW w W w1.heap.size (w1.heap.size+1) a g c mm fa fb fc l ra rb rc rows)=>sorderLine_any a g 0 c mm fa fb 0 fc l ra rb 0 rc rows kind W hl3 hls hl1 hrs hb.ss hb.f hb.o
  go_wp2_with fail
  generalize (w1.alloc (.cells #[.slice a mm.length c] 25)).alloc (.cells #[.slice fa l.length fc,.slice ra rows.length rc] 29)=W0 at *
  obtain ⟨X,hXe⟩:∃ X,w1.heap.size+1=X:=⟨_,rfl⟩
  rw [hXe] at bx0 ⊢
  rw [hXe] at CI CS CA
  generalize w1.heap.size=P at *
  clear hsn hb1 hf1 ho1
  have C1:=CS W0 bx0
  generalize M.orderLine mm l rows kind=R at *
  clear CS
  refine C1.mono ?_
  rintro e W1 ⟨q,gq,kq,rfl,hS1,b1⟩
  have bx1:=bx0.below b1
  have p1:=bx1.p.c
  have x10:=bx1.x.c0
  have x11:=bx1.x.c1
  clear C1 bx0 b1
  cases R with
  | none =>
   simp only [Option.getD_none,Option.isSome_none] at CI
   have hl0:(([]:List Nat).length:Int)=0:=rfl
   go_wp2_with fail
   refine (CI _ bx1).mono ?_
   rintro e W2 ⟨v2,rfl,hO,b2⟩
   have bx2:=bx1.below b2
   obtain ⟨ja,jg,jc,rfl,hJ,_⟩:=own_intsR (l:=M.ints []) hO
   have hS2:=hS1.below b2 (Nat.le_refl _)
   have CL:=lpIntsX_any ja jg 0 jc [] q gq 0 kq [] W2 (by simp) hJ hS2
   clear p1 x10 x11 bx1 b2 hS1 hO hS2 hJ
   go_wp2_with fail
   refine CL.mono ?_
   rintro e W3 ⟨rfl,b3⟩
   go_wp2_with fail
   refine (lpIntsX_any ja jg 0 jc [] q gq 0 kq [] W3 (by simp) (IntS.nil _ _ _ _) (IntS.nil _ _ _ _)).mono ?_
   rintro e W4 ⟨rfl,b4⟩
   go_wp2_with fail
   go_ret
   exact ⟨rfl,(bx2.below b3.bel).below b4.bel |>.bel⟩
  | some r =>
   simp only [Option.getD_some,Option.isSome_some] at CI hS1 ⊢
   have hsame:M.same (M.ints r) (M.ints r)=true:=(M.same_eq _ _).2 rfl
   obtain ⟨hrd,hr28⟩:=HY.out r rfl
   have hpg:=HP.out r rfl
   have hev:(M.evAll mm).length=r.length:=by rw [hrd];simp [M.evAll,hpg,M.events]
   have HEV:Hid ((M.evAll mm).length=r.length):=hev
   have HLr:Hid _:=HL.out r rfl
   clear HY HL HP hrd hpg hev
   go_wp2_with fail
   refine (CI _ bx1).mono ?_
   rintro e W2 ⟨v2,rfl,hO,b2⟩
   have bx2:=bx1.below b2
   obtain ⟨ja,jg,jc,rfl,hJ,_⟩:=own_intsR (l:=M.ints r) (by rw [M.ints_len];exact hO)
   have hS2:=hS1.below b2 (Nat.le_refl _)
   rw [M.ints_len] at *
   clear p1 x10 x11 bx1 b2 hS1 hO
   have CL:=lpIntsX_any ja jg 0 jc (M.ints r) q gq 0 kq (M.ints r) W2 (by rw [M.ints_len];omega) hJ hS2
   rw [hsame,M.ints_len] at CL
   clear hsame CI
   have p2:=bx2.p.c
   have x20:=bx2.x.c0
   have x21:=bx2.x.c1
   go_wp2_with fail
   refine CL.mono ?_
   rintro e W3 ⟨rfl,b3⟩
   have bx3:=bx2.below b3.bel
   have hJ3:=hJ.below b3.bel (Nat.le_refl _)
   clear p2 x20 x21 bx2 CL b3 hS2 hJ
   go_wp2_with fail
   go_loopw [10] (fun s10 wr=>∃ i:Nat,s10=.int .i64 i∧i≤r.length∧Below W3.heap.size W3 wr) (fun s10 _=>r.length - (intOf s10).toNat)
   case atStart=>exact ⟨0,rfl,Nat.zero_le _,Below.refl _ _⟩
   case round =>
    obtain ⟨i,rfl,hi,hb⟩:=hrel
    by_cases hlt:i < r.length
    ·have i1:(i:Int) < r.length:=by omega
     have i0:¬ (i:Int) < 0:=by omega
     obtain ⟨rfl⟩:=hJ3.addr (by rw [M.ints_len];omega)
     go_wp2_with fail
     go_loopw [11] (fun s11 wr=>∃ k:Nat,s11=.int .i64 k∧k≤i∧Below W3.heap.size W3 wr) (fun s11 _=>i - (intOf s11).toNat)
     case atStart=>exact ⟨0,rfl,Nat.zero_le _,hb⟩
     case round =>
      clear hb
      obtain ⟨k,rfl,hk,hb⟩:=hrel
      by_cases hlk:k < i
      ·have k1:(k:Int) < r.length:=by omega
       have k2:(k:Int) < i:=by omega
       have k0:¬ (k:Int) < 0:=by omega
       have bx4:=bx3.below hb
       have hJ4:=hJ3.below hb (Nat.le_refl _)
       have a0:=ints_at hJ4 (List.getElem?_eq_getElem hlt)
       have a1:=ints_at hJ4 (List.getElem?_eq_getElem (show k < r.length by omega))
       obtain ⟨HN,HO⟩:=HLr.out i k hlt hlk
       generalize r[i]=u at *
       generalize r[k]=v at *
       have hne:((v:Int)==(u:Int))=false:=by rw [beq_eq_false_iff_ne];omega
       have A0:=BelowOf.cell a0
       have A1:=BelowOf.cell a1
       have KP:=BelowOf.cell bx4.p.c
       have K0:=BelowOf.cell bx4.x.c0
       have K1:=BelowOf.cell bx4.x.c1
       have CA':=fun q:BelowOf wr=>CA q.x u v (bx4.below q.h)
       rw [HO] at CA'
       haveI:Inhabited (BelowOf wr):=⟨belOf wr⟩
       clear HN HO a0 a1 hJ4
       go_wp2_with fail
       refine wp_region_quiet_bel (by kernel_rfl) (by kernel_rfl) ?_
       repeat (quiet_step (first | (go_at_call 13;exact Calls.bel_of (CA' _))))
       refine wpQuiet_nil ?_
       rintro W5 ⟨⟨_,b5⟩,rfl⟩
       have hb5:=hb.trans (b5.mono hb.size)
       clear A0 A1 KP K0 K1 CA' bx4 b5 hne
       go_wp2_with fail
       exact ⟨⟨k+1,by go_num,by omega,hb5⟩,by simp [intOf];omega⟩
      ·obtain rfl:k=i:=by omega
       go_wp2_with fail
       exact ⟨⟨k+1,by go_num,by omega,hb⟩,by simp [intOf];omega⟩
    ·obtain rfl:i=r.length:=by omega
     have bx4:=bx3.below hb
     have p4:=bx4.p.c
     go_wp2_with fail
     refine (iexecEvents_any a g 0 c mm _ hl3 hls bx4.ss).mono ?_
     rintro e W7 ⟨v7,rfl,hown,b7⟩
     obtain ⟨va,gv,cv,rfl,-,-,-⟩:=own_rs M.Ev.len hown
     rw [HEV.out]
     have bx7:=bx4.below b7
     clear hown p4 b7
     go_wp2_with fail
     go_ret
     exact ⟨ret_trueR (by simp),bx7.bel⟩
 ·have hLb':(1048576:Int) < L:=by omega
  go_enter Tryz.func3,Tryz.ntmps3
  go_wp2_with fail
  go_ret
  exact ⟨rfl,Below.refl _ _⟩
end
end Go.Proofs.YtmhpgdliaclokaaGreat
