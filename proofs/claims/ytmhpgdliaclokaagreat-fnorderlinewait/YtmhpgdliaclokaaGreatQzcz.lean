/- The law FnOrderLineWait, walked: it answers true, and leaves all as it was. Of whatever code. -/
import Derived.Deep.OwnRows
import Derived.Test.YtmhpgdliaclokaaGreatRows
import Derived.Test.YtmhpgdliaclokaaGreatQzbg
import Derived.Test.YtmhpgdliaclokaaGreatQzbo
import Derived.Test.YtmhpgdliaclokaaGreatQzcr
import Derived.Test.YtmhpgdliaclokaaGreatQzct
import Derived.Test.YtmhpgdliaclokaaGreatQzcy
namespace Go.Proofs.YtmhpgdliaclokaaGreat
section
open Go.RowKit
set_option maxHeartbeats 2000000 in
set_option maxRecDepth 100000 in
theorem lawLt_any (ca:Option Addr) (cb co L C:Nat) (x:Nat→Int) (w:World) (hL:L≤C) (had:0 < L→ca=some ⟨cb,co,none⟩) (hc:∀ i,i < L→w.cell? ⟨cb,co+i,none⟩=some (.int .u8 (x i))∧0≤x i∧x i≤255) :
  Calls Tryz.prog 5 #[.slice ca L C] w fun e w'=>e=.returned (.bool true)∧Below w.heap.size w w':=by
 by_cases hLb:L≤1048576
 ·go_enter Tryz.func5,Tryz.ntmps5
  go_wp2_with fail
  refine (DrawOrderLine_any ca cb co L C x _ hL had hc hLb).mono ?_
  rintro e w1 ⟨v,rfl,⟨a,g,c,mm,fv,ov,l,rows,kind,rfl,hsn,hsm,hwy,h1,h2,h3,hk⟩,hb1⟩
  obtain ⟨fa,fb,fc,ra,rb,rc,rfl,rfl,hf1,ho1⟩:=hwy.ss
  have h2':Hid (rows.length=3):=h2
  have hl3:mm.length≤1048576:=by have:=hsm.three;omega
  have hls:∀ t∈mm,t.length≤1048576:=fun t ht=>by have:=hsm.steps t ht;omega
  have hl1:l.length≤1048576:=by omega
  have hl2:rows.length≤1048576:=by omega
  have hrs:∀ r∈rows,r.length≤1048576:=fun r hr=>by have:=h3 r hr;omega
  clear had hc h2 hwy
  have bx0:=BxW.new (c:=c) (fc:=fc) (rc:=rc) hb1 hsn.ss hf1 ho1
  have HY:Hid (∀ r,M.orderLine mm l rows kind=some r→r.length=(M.deeds mm).length∧r.length≤28):=fun r h=>M.line_len h
  have HL:Hid (∀ r,M.orderLine mm l rows kind=some r→∀ (w:Nat) (hw:w < (M.deeds mm).length),(M.deeds mm)[w].d.k=9→(M.deeds mm)[w].last=false→∀ (n:Nat) (hn:n < (M.deeds mm).length),(M.deeds mm)[n].d.k=7→∃ o,n≤o∧o < (M.deeds mm).length∧(∀ q (hq:q < (M.deeds mm).length),n≤q→q≤o→((M.deeds mm)[q].d.k=8↔q=o))∧(decide (M.placeI (M.ints r) n < M.placeI (M.ints r) w)&&decide (M.placeI (M.ints r) ((w:Int)+1) < M.placeI (M.ints r) o))=false):=fun r h=>M.wait_law h
  have HP:Hid (∀ r,M.orderLine mm l rows kind=some r→M.prog mm=true):=fun r h=>by
   have:=(M.holds_parts_of (M.line_parts h).1).2
   simp only [M.execOk,Bool.and_eq_true] at this
   exact this.1
  have CI:=fun (W:World) (hb:BxW w W w1.heap.size (w1.heap.size+1) a g c mm fa fb fc l ra rb rc rows)=>iorderLine_any a g 0 c mm fa fb 0 fc l ra rb 0 rc rows kind W hl3 hls hl1 hl2 hrs hb.ss hb.f hb.o
  have CS:=fun (W:World) (hb:BxW w W w1.heap.size (w1.heap.size+1) a g c mm fa fb fc l ra rb rc rows)=>sorderLine_any a g 0 c mm fa fb 0 fc l ra rb 0 rc rows kind W hl3 hls hl1 hrs hb.ss hb.f hb.o
  go_wp2_with fail
  generalize (w1.alloc (.cells #[.slice a mm.length c] 25)).alloc (.cells #[.slice fa l.length fc,.slice ra rows.length rc] 29)=W0 at *
  obtain ⟨X,hXe⟩:∃ X,w1.heap.size+1=X:=⟨_,rfl⟩
  rw [hXe] at bx0 ⊢
  rw [hXe] at CI CS
  generalize w1.heap.size=P at *
  clear hsn hb1 hf1 ho1
  have C1:=CS W0 bx0
  generalize M.orderLine mm l rows kind=R at *
  clear CS
  refine C1.mono ?_
  rintro e W1 ⟨q,gq,kq,rfl,hS1,b1⟩
  have bx1:=bx0.below b1
  have p1:=bx1.p.c
  have x10:=bx1.x.c0
  have x11:=bx1.x.c1
  clear C1 bx0 b1
  cases R with
  | none =>
   simp only [Option.getD_none,Option.isSome_none] at CI
   have hl0:(([]:List Nat).length:Int)=0:=rfl
   go_wp2_with fail
   refine (CI _ bx1).mono ?_
   rintro e W2 ⟨v2,rfl,hO,b2⟩
   have bx2:=bx1.below b2
   obtain ⟨ja,jg,jc,rfl,hJ,_⟩:=own_intsR (l:=M.ints []) hO
   have hS2:=hS1.below b2 (Nat.le_refl _)
   have CL:=lpIntsX_any ja jg 0 jc [] q gq 0 kq [] W2 (by simp) hJ hS2
   clear p1 x10 x11 bx1 b2 hS1 hO hS2 hJ
   go_wp2_with fail
   refine CL.mono ?_
   rintro e W3 ⟨rfl,b3⟩
   go_wp2_with fail
   refine (lpIntsX_any ja jg 0 jc [] q gq 0 kq [] W3 (by simp) (IntS.nil _ _ _ _) (IntS.nil _ _ _ _)).mono ?_
   rintro e W4 ⟨rfl,b4⟩
   go_wp2_with fail
   go_ret
   exact ⟨rfl,(bx2.below b3.bel).below b4.bel |>.bel⟩
  | some r =>
   simp only [Option.getD_some,Option.isSome_some] at CI hS1 ⊢
   have hsame:M.same (M.ints r) (M.ints r)=true:=(M.same_eq _ _).2 rfl
   obtain ⟨hrd,hr28⟩:=HY.out r rfl
   have hpg:=HP.out r rfl
   have HEv:Hid (M.evAll mm=(M.deeds mm).map M.De.ev):=by show _=_;simp [M.evAll,hpg,M.events]
   have HLr:Hid _:=HL.out r rfl
   have hof:=M.ofEv (ll:=mm)
   have HEl:Hid ((M.evAll mm).length≤28):=by show _≤_;rw [show (M.evAll mm).length=r.length by rw [hrd];simp [M.evAll,hpg,M.events]];exact hr28
   clear HY HL HP hrd hpg
   go_wp2_with fail
   refine (CI _ bx1).mono ?_
   rintro e W2 ⟨v2,rfl,hO,b2⟩
   have bx2:=bx1.below b2
   obtain ⟨ja,jg,jc,rfl,hJ,_⟩:=own_intsR (l:=M.ints r) (by rw [M.ints_len];exact hO)
   have hS2:=hS1.below b2 (Nat.le_refl _)
   rw [M.ints_len] at *
   clear p1 x10 x11 bx1 b2 hS1 hO
   have CL:=lpIntsX_any ja jg 0 jc (M.ints r) q gq 0 kq (M.ints r) W2 (by rw [M.ints_len];omega) hJ hS2
   rw [hsame,M.ints_len] at CL
   clear hsame CI
   have p2:=bx2.p.c
   have x20:=bx2.x.c0
   have x21:=bx2.x.c1
   go_wp2_with fail
   refine CL.mono ?_
   rintro e W3 ⟨rfl,b3⟩
   have bx3:=bx2.below b3.bel
   have hJ3:=hJ.below b3.bel (Nat.le_refl _)
   clear p2 x20 x21 bx2 CL b3 hS2 hJ
   have p3:=bx3.p.c
   go_wp2_with fail
   refine (iexecEvents_any a g 0 c mm _ hl3 hls bx3.ss).mono ?_
   rintro e W4 ⟨v4,rfl,hown,b4⟩
   obtain ⟨va,gv,cv,rfl,hev,-,-⟩:=own_rs M.Ev.len hown
   rw [HEv.out] at hev
   have hdv:=DvS.of hev
   have hle:(M.evAll mm).length=(M.deeds mm).length:=by rw [HEv.out,List.length_map]
   rw [hle]
   have bx4:=bx3.below b4
   have hJ4:=hJ3.below b4 (Nat.le_refl _)
   have hml:(M.ints r).length≤1048576:=by rw [M.ints_len];omega
   have CP:=fun (W:World) (e:Int) (hb:Below W4.heap.size W4 W)=>lpPlace_any ja jg jc (M.ints r) e W hml (hJ4.below hb (Nat.le_refl _))
   rw [M.ints_len] at CP
   have HLs:Hid (∀ (w:Nat) (hw:w < (M.deeds mm).length),(M.deeds mm)[w].d.k=9→(M.deeds mm)[w].last=false→∀ (n:Nat) (hn:n < (M.deeds mm).length),(M.deeds mm)[n].d.k=7→∃ o,n≤o∧o < (M.deeds mm).length∧(∀ q (hq:q < (M.deeds mm).length),n≤q→q≤o→((M.deeds mm)[q].d.k=8↔q=o))∧(decide (M.placeI (M.ints r) n < M.placeI (M.ints r) w)&&decide (M.placeI (M.ints r) ((w:Int)+1) < M.placeI (M.ints r) o))=false):=HLr.out
   have hdl:(M.deeds mm).length≤1048576:=by have:=hle;have:=HEl.out;omega
   clear hown hev hle HEv b4 p3 bx3 hJ3 hJ4 hml HLr HEl
   generalize M.deeds mm=ds at *
   generalize M.ints r=rr at *
   go_wp2_with fail
   go_loopw [11] (fun s11 wr=>∃ n:Nat,s11=.int .i64 n∧n≤ds.length∧Below W4.heap.size W4 wr) (fun s11 _=>ds.length - (intOf s11).toNat)
   case atStart=>exact ⟨0,rfl,Nat.zero_le _,Below.refl _ _⟩
   case round =>
    obtain ⟨n,rfl,hn,hbr⟩:=hrel
    by_cases hlt:n < ds.length
    ·have i1:(n:Int) < ds.length:=by omega
     have i0:¬ (n:Int) < 0:=by omega
     have bxr:=bx4.below hbr
     have hdr:=hdv.bel hbr (Nat.le_refl _)
     obtain ⟨e0,e1,e2⟩:=DvS.at hdr hlt
     obtain ⟨rfl⟩:=hdv.addr (by omega)
     have hox:=hof _ (List.getElem_mem hlt)
     have HLn:=HLs.out n hlt
     generalize ds[n]=x at *
     have HLm:Hid (x.d.k=9→x.last=false→∀ (m:Nat) (hm:m < ds.length),ds[m].d.k=7→∃ o,m≤o∧o < ds.length∧(∀ q (hq:q < ds.length),m≤q→q≤o→(ds[q].d.k=8↔q=o))∧(decide (M.placeI rr m < M.placeI rr n)&&decide (M.placeI rr ((n:Int)+1) < M.placeI rr o))=false):=HLn
     have KP:=BelowOf.cell bxr.p.c
     have Ke0:=BelowOf.cell e0
     have Ke1:=BelowOf.cell e1
     have CK:=fun q:BelowOf wr=>lpKindL_any a g 0 c mm x q.x hox hl3 hls (bxr.below q.h).ss
     haveI:Inhabited (BelowOf wr):=⟨belOf wr⟩
     obtain ⟨kx,hkx⟩:∃ kx,x.d.k=kx:=⟨_,rfl⟩
     obtain ⟨lx,hlx⟩:∃ lx,x.last=lx:=⟨_,rfl⟩
     rw [hkx] at CK
     rw [hlx] at CK e2
     rw [hkx,hlx] at HLm
     have Ke2:=BelowOf.cell e2
     clear HLn e0 e1 e2 hox hkx hlx hdr
     by_cases h9:kx=9
     ·have d9:(kx != 9)=false:=by simp [h9]
      cases lx
      ·have HLo:Hid (∀ (m:Nat) (hm:m < ds.length),ds[m].d.k=7→∃ o,m≤o∧o < ds.length∧(∀ q (hq:q < ds.length),m≤q→q≤o→(ds[q].d.k=8↔q=o))∧(decide (M.placeI rr m < M.placeI rr n)&&decide (M.placeI rr ((n:Int)+1) < M.placeI rr o))=false):=HLm.out h9 rfl
       clear HLm h9
       go_wp2_with fail
       refine wp_region_quiet_bel (by kernel_rfl) (by kernel_rfl) ?_
       repeat (quiet_step (first | (go_at_call 16;exact Calls.bel_of (CK _))))
       refine wpQuiet_nil ?_
       rintro wa ⟨⟨_,ba⟩,rfl⟩
       have hba:=hbr.trans (ba.mono hbr.size)
       clear KP Ke0 Ke1 Ke2 CK bxr ba hbr d9
       go_wp2_with fail
       go_loopw [12] (fun s12 wr=>∃ m:Nat,s12=.int .i64 m∧m≤ds.length∧Below W4.heap.size W4 wr) (fun s12 _=>ds.length - (intOf s12).toNat)
       case atStart=>exact ⟨0,rfl,Nat.zero_le _,hba⟩
       case round =>
        clear hba
        obtain ⟨m,rfl,hm,hbr⟩:=hrel
        by_cases hlm:m < ds.length
        ·have j1:(m:Int) < ds.length:=by omega
         have j0:¬ (m:Int) < 0:=by omega
         obtain ⟨wo,rfl⟩:∃ wo:World,wo=wr:=⟨_,rfl⟩
         have bxr:=bx4.below hbr
         have hdr:=hdv.bel hbr (Nat.le_refl _)
         obtain ⟨e0,e1,e2⟩:=DvS.at hdr hlm
         have hox:=hof _ (List.getElem_mem hlm)
         have HLp:Hid (ds[m].d.k=7→∃ o,m≤o∧o < ds.length∧(∀ q (hq:q < ds.length),m≤q→q≤o→(ds[q].d.k=8↔q=o))∧(decide (M.placeI rr m < M.placeI rr n)&&decide (M.placeI rr ((n:Int)+1) < M.placeI rr o))=false):=HLo.out m hlm
         obtain ⟨y,hy⟩:∃ y,ds[m]=y:=⟨_,rfl⟩
         rw [hy] at e0 e1 e2 hox HLp
         have KP:=BelowOf.cell bxr.p.c
         have Ke0:=BelowOf.cell e0
         have Ke1:=BelowOf.cell e1
         have Ke2:=BelowOf.cell e2
         have CK:=fun q:BelowOf wo=>lpKindL_any a g 0 c mm y q.x hox hl3 hls (bxr.below q.h).ss
         haveI:Inhabited (BelowOf wo):=⟨belOf wo⟩
         obtain ⟨ky,hky⟩:∃ ky,y.d.k=ky:=⟨_,rfl⟩
         rw [hky] at CK HLp
         clear e0 e1 e2 hox hky hy hdr
         by_cases h7:ky=7
         ·have d7:(ky != 7)=false:=by simp [h7]
          obtain ⟨o,ho1,ho2,ho8,hoF⟩:=HLp.out h7
          have HO8:Hid (∀ q (hq:q < ds.length),m≤q→q≤o→(ds[q].d.k=8↔q=o)):=ho8
          clear HLp h7 ho8
          go_wp2_with fail
          refine wp_region_quiet_bel (by kernel_rfl) (by kernel_rfl) ?_
          repeat (quiet_step (first | (go_at_call 16;exact Calls.bel_of (CK _))))
          refine wpQuiet_nil ?_
          rintro wb ⟨⟨_,bb⟩,rfl⟩
          have hbb:=hbr.trans (bb.mono hbr.size)
          clear KP Ke0 Ke1 Ke2 CK bxr bb hbr d7
          go_wp2_with fail
          go_loopw [13] (fun s13 wr=>∃ q:Nat,s13=.int .i64 q∧m≤q∧q≤o∧Below W4.heap.size W4 wr) (fun s13 _=>o - (intOf s13).toNat)
          case atStart=>exact ⟨m,rfl,Nat.le_refl _,ho1,hbb⟩
          case round =>
           clear hbb
           obtain ⟨q,rfl,hq1,hq2,hbr⟩:=hrel
           obtain ⟨wp,rfl⟩:∃ wp:World,wp=wr:=⟨_,rfl⟩
           have hlq:q < ds.length:=by omega
           have q1:(q:Int) < ds.length:=by omega
           have q0:¬ (q:Int) < 0:=by omega
           have bxr:=bx4.below hbr
           have hdr:=hdv.bel hbr (Nat.le_refl _)
           obtain ⟨e0,e1,e2⟩:=DvS.at hdr hlq
           have hox:=hof _ (List.getElem_mem hlq)
           have H8:=HO8.out q hlq hq1 hq2
           obtain ⟨z,hz⟩:∃ z,ds[q]=z:=⟨_,rfl⟩
           rw [hz] at e0 e1 e2 hox H8
           have KP:=BelowOf.cell bxr.p.c
           have Ke0:=BelowOf.cell e0
           have Ke1:=BelowOf.cell e1
           have Ke2:=BelowOf.cell e2
           have CK:=fun q:BelowOf wp=>lpKindL_any a g 0 c mm z q.x hox hl3 hls (bxr.below q.h).ss
           haveI:Inhabited (BelowOf wp):=⟨belOf wp⟩
           obtain ⟨kz,hkz⟩:∃ kz,z.d.k=kz:=⟨_,rfl⟩
           rw [hkz] at CK H8
           clear e0 e1 e2 hox hkz hz hdr
           by_cases h8:kz=8
           ·have d8:(kz != 8)=false:=by simp [h8]
            obtain rfl:q=o:=H8.1 h8
            clear H8 h8
            go_wp2_with fail
            refine wp_region_quiet_bel (by kernel_rfl) (by kernel_rfl) ?_
            repeat (quiet_step (first | (go_at_call 16;exact Calls.bel_of (CK _))))
            refine wpQuiet_nil ?_
            rintro wc ⟨⟨_,bc⟩,rfl⟩
            have hbc:=hbr.trans (bc.mono hbr.size)
            clear KP Ke0 Ke1 Ke2 CK bxr bc hbr d8
            have hw1:IntKind.i64.wrap ((n:Int)+1)=(n:Int)+1:=by rw [IntKind.wrap_i64];omega
            have P1:=M.placeI_bound rr m
            generalize hpm:M.placeI rr m=pm at *
            generalize hpn:M.placeI rr n=pn at *
            generalize hpo:M.placeI rr q=po at *
            generalize hpw:M.placeI rr ((n:Int)+1)=pw at *
            go_wp2_with fail
            refine (CP _ m hbc).mono ?_
            rintro e wd ⟨rfl,bd⟩
            have hbd:=hbc.trans (bd.mono hbc.size)
            rw [hpm]
            go_wp2_with fail
            refine (CP _ n hbd).mono ?_
            rintro e we ⟨rfl,be⟩
            have hbe:=hbd.trans (be.mono hbd.size)
            rw [hpn]
            by_cases hlt1:pm < pn
            ·have hno:¬ (po > pw):=by
              rw [Bool.and_eq_false_iff] at hoF
              rcases hoF with h | h
              ·simp [hlt1] at h
              ·simpa using h
             clear hoF
             go_wp2_with fail
             refine (CP _ q hbe).mono ?_
             rintro e wf ⟨rfl,bf⟩
             have hbf:=hbe.trans (bf.mono hbe.size)
             rw [hpo]
             go_wp2_with fail
             refine (CP _ ((n:Int)+1) hbf).mono ?_
             rintro e wg ⟨rfl,bg⟩
             have hbg:=hbf.trans (bg.mono hbf.size)
             rw [hpw]
             go_wp2_with fail
             repeat apply Exists.intro
             exact ⟨⟨m+1,by go_num,by omega,hbg⟩,by simp [intOf];omega⟩
            ·go_wp2_with fail
             exact ⟨⟨m+1,by go_num,by omega,hbe⟩,by simp [intOf];omega⟩
           ·have d8:(kz != 8)=true:=by simpa using h8
            have hqo:q≠o:=fun e=>h8 (H8.2 e)
            clear H8 h8
            go_wp2_with fail
            refine wp_region_quiet_bel (by kernel_rfl) (by kernel_rfl) ?_
            repeat (quiet_step (first | (go_at_call 16;exact Calls.bel_of (CK _))))
            refine wpQuiet_nil ?_
            rintro wc ⟨⟨_,bc⟩,rfl⟩
            have hbc:=hbr.trans (bc.mono hbr.size)
            clear KP Ke0 Ke1 Ke2 CK bxr bc hbr d8
            go_wp2_with fail
            exact ⟨⟨q+1,by go_num,by omega,by omega,hbc⟩,by simp [intOf];omega⟩
         ·have d7:(ky != 7)=true:=by simpa using h7
          clear HLp h7
          go_wp2_with fail
          refine wp_region_quiet_bel (by kernel_rfl) (by kernel_rfl) ?_
          repeat (quiet_step (first | (go_at_call 16;exact Calls.bel_of (CK _))))
          refine wpQuiet_nil ?_
          rintro wb ⟨⟨_,bb⟩,rfl⟩
          have hbb:=hbr.trans (bb.mono hbr.size)
          clear KP Ke0 Ke1 Ke2 CK bxr bb hbr d7
          go_wp2_with fail
          exact ⟨⟨m+1,by go_num,by omega,hbb⟩,by simp [intOf];omega⟩
        ·obtain rfl:m=ds.length:=by omega
         go_wp2_with fail
         exact ⟨⟨n+1,by go_num,by omega,hbr⟩,by simp [intOf];omega⟩
      ·clear HLm h9
       go_wp2_with fail
       refine wp_region_quiet_bel (by kernel_rfl) (by kernel_rfl) ?_
       repeat (quiet_step (first | (go_at_call 16;exact Calls.bel_of (CK _))))
       refine wpQuiet_nil ?_
       rintro wa ⟨⟨_,ba⟩,rfl⟩
       have hba:=hbr.trans (ba.mono hbr.size)
       clear KP Ke0 Ke1 Ke2 CK bxr ba hbr d9
       go_wp2_with fail
       exact ⟨⟨n+1,by go_num,by omega,hba⟩,by simp [intOf];omega⟩
     ·have d9:(kx != 9)=true:=by simpa using h9
      clear HLm h9
      go_wp2_with fail
      refine wp_region_quiet_bel (by kernel_rfl) (by kernel_rfl) ?_
      repeat (quiet_step (first | (go_at_call 16;exact Calls.bel_of (CK _))))
      refine wpQuiet_nil ?_
      rintro wa ⟨⟨_,ba⟩,rfl⟩
      have hba:=hbr.trans (ba.mono hbr.size)
      clear KP Ke0 Ke1 Ke2 CK bxr ba hbr d9
      go_wp2_with fail
      exact ⟨⟨n+1,by go_num,by omega,hba⟩,by simp [intOf];omega⟩
    ·obtain rfl:n=ds.length:=by omega
     have bx5:=bx4.below hbr
     go_wp2_with fail
     go_ret
     exact ⟨rfl,bx5.bel⟩
 ·have hLb':(1048576:Int) < L:=by omega
  go_enter Tryz.func5,Tryz.ntmps5
  go_wp2_with fail
  go_ret
  exact ⟨rfl,Below.refl _ _⟩
end
end Go.Proofs.YtmhpgdliaclokaaGreat
