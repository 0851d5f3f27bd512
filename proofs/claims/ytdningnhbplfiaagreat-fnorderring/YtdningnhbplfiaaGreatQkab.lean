/- The law FnOrderRing, walked: it answers true, and leaves all as it was. Of whatever code. -/
import Derived.Deep.CutRange
import Derived.Deep.RegionLaw
import Derived.Deep.WholeRow
import Derived.Laws.AppendOwnNone
import Derived.Deep.OwnRows
import Derived.Test.YtdningnhbplfiaaGreatRows
import Derived.Test.YtdningnhbplfiaaGreatQnbm
import Derived.Test.YtdningnhbplfiaaGreatQnbq
import Derived.Test.YtdningnhbplfiaaGreatQnbr
import Derived.Test.YtdningnhbplfiaaGreatQkaa
namespace Go.Proofs.YtdningnhbplfiaaGreat
section
open Go.RowKit
theorem ret_trueR {b:Bool} (h:b=true):Ending.returned (.bool b)=.returned (.bool true):=by rw [h]
set_option maxHeartbeats 2000000 in
set_option maxRecDepth 100000 in
theorem lawRr_any (ca:Option Addr) (cb co L C:Nat) (x:Nat→Int) (w:World) (hL:L≤C) (had:0 < L→ca=some ⟨cb,co,none⟩) (hc:∀ i,i < L→w.cell? ⟨cb,co+i,none⟩=some (.int .u8 (x i))∧0≤x i∧x i≤255) :
  Calls Tryz.prog 4 #[.slice ca L C] w fun e w'=>e=.returned (.bool true)∧Below w.heap.size w w':=by
 by_cases hLb:L≤1048576
 ·go_enter Tryz.func4,Tryz.ntmps4
  go_wp2_with fail
  refine (DrawOrderRing_any ca cb co L C x _ hL had hc hLb).mono ?_
  rintro e w1 ⟨v,rfl,⟨a,g,c,mm,fv,ov,l,rows,kind,rfl,hsn,hsm,hwy,h1,h2,h3,hk⟩,hb1⟩
  obtain ⟨fa,fb,fc,ra,rb,rc,rfl,rfl,hf1,ho1⟩:=hwy.ss
  have h2':Hid (rows.length=3):=h2
  have hl3:mm.length≤1048576:=by have:=hsm.three;omega
  have hls:∀ t∈mm,t.length≤1048576:=fun t ht=>by have:=hsm.steps t ht;omega
  have hl1:l.length≤1048576:=by omega
  have hl2:rows.length≤1048576:=by omega
  have hrs:∀ r∈rows,r.length≤1048576:=fun r hr=>by have:=h3 r hr;omega
  clear had hc h2 hwy
  have bx0:=BxW.new (c:=c) (fc:=fc) (rc:=rc) hb1 hsn.ss hf1 ho1
  have HT:Hid (∀ r,M.orderRing mm l rows kind=some r→2≤r.length∧r.length≤28∧∀ (i:Nat) (hi:i < r.length),M.orderHas mm l rows kind (r[i]:Int) ((r[(i+1) % r.length]'(Nat.mod_lt _ (by omega)):Nat):Int)=true):=fun r h=>M.ring_two h
  have CA:=fun (W:World) (na nb:Int) (hb:BxW w W w1.heap.size (w1.heap.size+1) a g c mm fa fb fc l ra rb rc rows)=>iorderHas_any a g 0 c mm fa fb 0 fc l ra rb 0 rc rows kind na nb W hl3 hls hl1 hl2 hrs hb.ss hb.f hb.o
  have CI:=fun (W:World) (hb:BxW w W w1.heap.size (w1.heap.size+1) a g c mm fa fb fc l ra rb rc rows)=>iorderRing_any a g 0 c mm fa fb 0 fc l ra rb 0 rc rows kind W hl3 hls hl1 hl2 hrs hb.ss hb.f hb.o
  have CS:=fun (W:World) (hb:BxW w W w1.heap.size (w1.heap.size+1) a g c mm fa fb fc l ra rb rc rows)=>sorderRing_any a g 0 c mm fa fb 0 fc l ra rb 0 rc rows kind W hl3 hls hl1 hrs hb.ss hb.f hb.o
  go_wp2_with fail
  generalize (w1.alloc (.cells #[.slice a mm.length c] 35)).alloc (.cells #[.slice fa l.length fc,.slice ra rows.length rc] 37)=W0 at *
  obtain ⟨X,hXe⟩:∃ X,w1.heap.size+1=X:=⟨_,rfl⟩
  rw [hXe] at bx0 ⊢
  rw [hXe] at CI CS CA
  generalize w1.heap.size=P at *
  clear hsn hb1 hf1 ho1
  have C1:=CS W0 bx0
  generalize M.orderRing mm l rows kind=R at *
  clear CS
  refine C1.mono ?_
  rintro e W1 ⟨q,gq,kq,rfl,hS1,b1⟩
  have bx1:=bx0.below b1
  have p1:=bx1.p.c
  have x10:=bx1.x.c0
  have x11:=bx1.x.c1
  clear C1 bx0 b1
  cases R with
  | none =>
   simp only [Option.getD_none,Option.isSome_none] at CI
   have hl0:(([]:List Nat).length:Int)=0:=rfl
   go_wp2_with fail
   refine (CI _ bx1).mono ?_
   rintro e W2 ⟨v2,rfl,hO,b2⟩
   have bx2:=bx1.below b2
   obtain ⟨ja,jg,jc,rfl,hJ,_⟩:=own_intsR (l:=M.ints []) hO
   have hS2:=hS1.below b2 (Nat.le_refl _)
   have CL:=lpIntsX_any ja jg 0 jc [] q gq 0 kq [] W2 (by simp) hJ hS2
   clear p1 x10 x11 bx1 b2 hS1 hO hS2 hJ
   go_wp2_with fail
   refine CL.mono ?_
   rintro e W3 ⟨rfl,b3⟩
   go_wp2_with fail
   refine (lpIntsX_any ja jg 0 jc [] q gq 0 kq [] W3 (by simp) (IntS.nil _ _ _ _) (IntS.nil _ _ _ _)).mono ?_
   rintro e W4 ⟨rfl,b4⟩
   go_wp2_with fail
   go_ret
   exact ⟨rfl,(bx2.below b3.bel).below b4.bel |>.bel⟩
  | some r =>
   obtain ⟨hr2,hr28,hH⟩:=HT.out r rfl
   simp only [Option.getD_some,Option.isSome_some] at CI hS1 ⊢
   have hsame:M.same (M.ints r) (M.ints r)=true:=(M.same_eq _ _).2 rfl
   have hH':Hid (∀ (i:Nat) (hi:i < r.length),M.orderHas mm l rows kind (r[i]:Int) ((r[(i+1) % r.length]'(Nat.mod_lt _ (by omega)):Nat):Int)=true):=hH
   clear hH HT
   go_wp2_with fail
   refine (CI _ bx1).mono ?_
   rintro e W2 ⟨v2,rfl,hO,b2⟩
   have bx2:=bx1.below b2
   obtain ⟨ja,jg,jc,rfl,hJ,_⟩:=own_intsR (l:=M.ints r) (by rw [M.ints_len];exact hO)
   have hS2:=hS1.below b2 (Nat.le_refl _)
   rw [M.ints_len] at *
   clear p1 x10 x11 bx1 b2 hS1 hO
   have CL:=lpIntsX_any ja jg 0 jc (M.ints r) q gq 0 kq (M.ints r) W2 (by rw [M.ints_len];omega) hJ hS2
   rw [hsame,M.ints_len] at CL
   clear hsame CI
   have p2:=bx2.p.c
   have x20:=bx2.x.c0
   have x21:=bx2.x.c1
   go_wp2_with fail
   refine CL.mono ?_
   rintro e W3 ⟨rfl,b3⟩
   have bx3:=bx2.below b3.bel
   have hJ3:=hJ.below b3.bel (Nat.le_refl _)
   clear p2 x20 x21 bx2 CL b3 hS2 hJ
   obtain ⟨rfl⟩:=hJ3.addr (by rw [M.ints_len];omega)
   go_wp2_with fail
   go_loopw [10] (fun s10 wr=>∃ i:Nat,s10=.int .i64 i∧i≤r.length∧Below W3.heap.size W3 wr) (fun s10 _=>r.length - (intOf s10).toNat)
   case atStart=>exact ⟨0,rfl,Nat.zero_le _,Below.refl _ _⟩
   case round =>
    obtain ⟨i,rfl,hi,hb⟩:=hrel
    have bx4:=bx3.below hb
    by_cases hlt:i < r.length
    ·have i1:(i:Int) < r.length:=by omega
     have i0:¬ (i:Int) < 0:=by omega
     have hJ4:=hJ3.below hb (Nat.le_refl _)
     have hm:=Nat.mod_lt (i+1) (show 0 < r.length by omega)
     have k0:=ints_at hJ4 (List.getElem?_eq_getElem hlt)
     have CA':=fun W hb=>CA W (r[i]:Int) (r[(i+1) % r.length]:Int) hb
     rw [hH'.out i hlt] at CA'
     obtain ⟨u,hu⟩:∃ u,r[i]=u:=⟨_,rfl⟩
     obtain ⟨v,hv⟩:∃ v,r[(i+1) % r.length]'hm=v:=⟨_,rfl⟩
     rw [hu] at k0 CA'
     rw [hv] at CA'
     have hv':r[(i+1) % r.length]?=some v:=by rw [List.getElem?_eq_getElem hm,hv]
     obtain ⟨k,hk'⟩:∃ k,(i+1) % r.length=k:=⟨_,rfl⟩
     rw [hk'] at hv'
     have k1:=ints_at hJ4 hv'
     have htm:Int.tmod ((i:Int)+1) (r.length:Int)=(k:Int):=by rw [Int.tmod_eq_emod_of_nonneg (by omega),← hk'];exact (Int.natCast_emod (i+1) r.length).symm
     have m0:¬ (k:Int) < 0:=by omega
     have m1:(k:Int) < r.length:=by omega
     have m2:k < r.length:=by omega
     have hz:¬ ((r.length:Int)=0):=by omega
     have hz3:¬ r=[]:=fun e=>by rw [e] at hr2;simp at hr2
     clear hu hv hv' hk' hm
     have hw1:IntKind.i64.wrap ((i:Int)+1)=(i:Int)+1:=by rw [IntKind.wrap_i64];omega
     have KP:∀ w',Below wr.heap.size wr w'→w'.cell? ⟨P,0,none⟩=some (.slice a mm.length c):=fun w' h=>(bx4.below h).p.c
     have K0:∀ w',Below wr.heap.size wr w'→w'.cell? ⟨X,0,none⟩=some (.slice fa l.length fc):=fun w' h=>(bx4.below h).x.c0
     have K1:∀ w',Below wr.heap.size wr w'→w'.cell? ⟨X,1,none⟩=some (.slice ra rows.length rc):=fun w' h=>(bx4.below h).x.c1
     have Z0:∀ w',Below wr.heap.size wr w'→w'.cell? ⟨jg,i,none⟩=some (.int .i64 u):=fun w' h=>cellC h k0
     have Z1:∀ w',Below wr.heap.size wr w'→w'.cell? ⟨jg,k,none⟩=some (.int .i64 v):=fun w' h=>cellC h k1
     go_wp2_with fail
     refine wp_region_held_drew (S:=fun w'=>Below wr.heap.size wr w') (by kernel_rfl) (Below.refl _ _).drew (fun hH=>?_)
     refine tk 0 61 (.agg #[.slice a mm.length c]) hH rfl rfl (by intro w' hSw;have hc0:=KP w' hSw;go_simp) ?_
     simp only [Act.put,zqa,zqb,zqc]
     refine tk 1 62 (.agg #[.slice fa l.length fc,.slice ra rows.length rc]) hH rfl rfl (by intro w' hSw;have hc0:=K0 w' hSw;have hc1:=K1 w' hSw;go_simp) ?_
     simp only [Act.put,zqa,zqb,zqc]
     refine tk 2 63 (.int .i64 kind) hH rfl rfl (by intro w' hSw;go_simp) ?_
     simp only [Act.put,zqa,zqb,zqc]
     refine tk 3 64 (.slice (some ⟨jg,0,none⟩) r.length jc) hH rfl rfl (by intro w' hSw;go_simp) ?_
     simp only [Act.put,zqa,zqb,zqc]
     refine tk 4 65 (.int .i64 i) hH rfl rfl (by intro w' hSw;go_simp) ?_
     simp only [Act.put,zqa,zqb,zqc]
     refine tk 5 66 (.pointer (some ⟨jg,i,none⟩)) hH rfl rfl (by intro w' hSw;go_simp) ?_
     simp only [Act.put,zqa,zqb,zqc]
     refine tk 6 67 (.int .i64 u) hH rfl rfl (by intro w' hSw;have hc0:=Z0 w' hSw;go_simp) ?_
     simp only [Act.put,zqa,zqb,zqc]
     refine tk 7 68 (.slice (some ⟨jg,0,none⟩) r.length jc) hH rfl rfl (by intro w' hSw;go_simp) ?_
     simp only [Act.put,zqa,zqb,zqc]
     refine tk 8 69 (.int .i64 i) hH rfl rfl (by intro w' hSw;go_simp) ?_
     simp only [Act.put,zqa,zqb,zqc]
     refine tk 9 70 (.int .i64 ((i:Int)+1)) hH rfl rfl (by intro w' hSw;go_simp) ?_
     simp only [Act.put,zqa,zqb,zqc]
     refine tk 10 71 (.slice (some ⟨jg,0,none⟩) r.length jc) hH rfl rfl (by intro w' hSw;go_simp) ?_
     simp only [Act.put,zqa,zqb,zqc]
     refine tk 11 72 (.int .i64 r.length) hH rfl rfl (by intro w' hSw;go_simp) ?_
     simp only [Act.put,zqa,zqb,zqc]
     refine tk 12 73 (.int .i64 k) hH rfl rfl (by intro w' hSw;go_simp) ?_
     simp only [Act.put,zqa,zqb,zqc]
     refine tk 13 74 (.pointer (some ⟨jg,k,none⟩)) hH rfl rfl (by intro w' hSw;go_simp) ?_
     simp only [Act.put,zqa,zqb,zqc]
     refine tk 14 75 (.int .i64 v) hH rfl rfl (by intro w' hSw;have hc0:=Z1 w' hSw;go_simp) ?_
     simp only [Act.put,zqa,zqb,zqc]
     refine ry 15 rfl (fun K' hK=>?_)
     refine sg 76 rfl 27 #[.tmp 61,.tmp 62,.tmp 63,.tmp 67,.tmp 75] rfl #[.agg #[.slice a mm.length c],.agg #[.slice fa l.length fc,.slice ra rows.length rc],.int .i64 kind,.int .i64 u,.int .i64 v] (enters_of Tryz.func27 (by kernel_rfl) rfl) (CA' _ (bx4.below hH)) ?_
     rintro e W5 ⟨rfl,b5⟩
     refine ⟨_,rfl,hK.out _ _ (hH.trans (b5.mono hH.size)) (fun hH1=>?_)⟩
     clear hK K'
     simp only [Act.put,zqa,zqb,zqc]
     refine tk 16 77 (.bool false) hH1 rfl rfl (by intro w' hSw;go_simp) ?_
     simp only [Act.put,zqa,zqb,zqc]
     refine wpAnyH_done (by kernel_rfl) ?_ _
     have hb5:=hb.trans (hH1.mono hb.size)
     clear KP K0 K1 Z0 Z1 CA' k0 k1
     go_wp2_with fail
     exact ⟨⟨i+1,by go_num,by omega,hb5⟩,by simp [intOf];omega⟩
    ·obtain rfl:i=r.length:=by omega
     go_wp2_with fail
     go_ret
     exact ⟨ret_trueR (by simp;omega),bx4.bel⟩
 ·have hLb':(1048576:Int) < L:=by omega
  go_enter Tryz.func4,Tryz.ntmps4
  go_wp2_with fail
  go_ret
  exact ⟨rfl,Below.refl _ _⟩
end
end Go.Proofs.YtdningnhbplfiaaGreat
