/- spec.OrderAll: what is seen in all ways that hold by an order, in order, each once. Of at most 1048576 threads and steps. What both tell of an order, as lists that can be read: they are the same. Of at most 1048576 threads and steps. -/
import Derived.Deep.OwnRows
import Derived.Test.YtegommoflmmahaaGreatRows
import Derived.Test.YtegommoflmmahaaGreatQwbu
import Derived.Test.YtegommoflmmahaaGreatQwca
namespace Go.Proofs.YtegommoflmmahaaGreat
section
open Go.RowKit
namespace M
end M
set_option maxHeartbeats 4000000 in
set_option maxRecDepth 100000 in
theorem l13All_any (a:Option Addr) (b o c:Nat) (ll:List (List M.D)) (la:Option Addr) (lg lc:Nat) (xs:List M.Wy) (kind:Int) (w:World) (hl:ll.length≤1048576) (hls:∀ t∈ll,t.length≤1048576) (hxl:xs.length≤1048575) (hok:∀ x∈xs,M.execOk ll x.1 x.2=true) (hle:∀ x∈xs,WyLe x) (h:DoSS w a b o ll) (hL:LW w la lg xs) :
  Calls Tryz.prog 116 #[.agg #[.slice a ll.length c],.slice la xs.length lc,.int .i64 kind] w fun e w'=>∃ g cap,∃ tt:List Sn,e=.returned (.slice (some ⟨g,0,none⟩) tt.length cap)∧kys tt=(if (decide (1≤kind)&&decide (kind≤3))&&M.prog ll then M.sortK (M.heldOf ll kind xs) else [])∧SL w' g tt∧tt.length≤xs.length∧tt.length≤cap∧Below w.heap.size w w':=by
 have b1:=below2 w (.cells #[.slice a ll.length c] 25) (.cells #[] 28)
 have k1:((w.alloc (.cells #[.slice a ll.length c] 25)).alloc (.cells #[] 28)).cell? ⟨w.heap.size,0,none⟩=some (.slice a ll.length c):=by simp
 have z1:((w.alloc (.cells #[.slice a ll.length c] 25)).alloc (.cells #[] 28)).heap.size=w.heap.size+2:=by simp
 have sl0:SL ((w.alloc (.cells #[.slice a ll.length c] 25)).alloc (.cells #[] 28)) (w.heap.size+1) []:=⟨⟨fun i hi=>absurd hi (Nat.not_lt_zero _),fun j=>by simp⟩,fun s hs=>absurd hs (by simp)⟩
 have hp1:=h.below b1 (Nat.le_refl _)
 have hL1:=hL.below b1
 have C1:=sprog_any a b o c ll _ hl hls hp1
 obtain ⟨res,hres⟩:∃ res,(if (decide (1≤kind)&&decide (kind≤3))&&M.prog ll then M.sortK (M.heldOf ll kind xs) else [])=res:=⟨_,rfl⟩
 rw [hres]
 have HRES:Hid ((if (decide (1≤kind)&&decide (kind≤3))&&M.prog ll then M.sortK (M.heldOf ll kind xs) else [])=res):=hres
 clear hres
 go_enter Tryz.func116,Tryz.ntmps116
 go_wp2_with fail
 generalize (w.alloc (.cells #[.slice a ll.length c] 25)).alloc (.cells #[] 28)=W0 at *
 refine C1.mono ?_
 clear C1
 cases hp:M.prog ll
 ·rintro e W1 ⟨rfl,b2⟩
  have HR:Hid (([]:List Key)=res):=by show _=_;rw [← HRES.out,hp,Bool.and_false];rfl
  clear hok
  go_wp2_with fail
  go_ret
  exact ⟨_,_,[],rfl,HR.out,sl0.below b2 (by omega),by simp,by simp,b1.trans (b2.mono b1.size)⟩
 ·rintro e W1 ⟨rfl,b2⟩
  cases hk:(decide (1≤kind)&&decide (kind≤3))
  ·have hk':M.rng 1 3 kind=false:=hk
   have HR:Hid (([]:List Key)=res):=by show _=_;rw [← HRES.out,hk];rfl
   clear hok hk
   go_wp2_with (go_at_call 87;refine (l6In_any kind 1 3 _).mono ?_;rw [hk'];rintro e w' ⟨rfl,rfl⟩)
   go_ret
   exact ⟨_,_,[],rfl,HR.out,sl0.below b2 (by omega),by simp,by simp,b1.trans (b2.mono b1.size)⟩
  ·have hk':M.rng 1 3 kind=true:=hk
   obtain ⟨kn,rfl⟩:∃ kn:Nat,kind=kn:=⟨kind.toNat,by simp only [Bool.and_eq_true,decide_eq_true_eq] at hk;omega⟩
   have hk13:1≤kn∧kn≤3:=by simp only [Bool.and_eq_true,decide_eq_true_eq] at hk;omega
   have HO:Hid (∀ l rows,M.execOk ll l rows=true→M.orderHolds ll l rows kn=(M.holdsA (M.netOf (M.deeds ll) l rows 0) (M.deeds ll).length&&M.waitsA (M.deeds ll).length (M.netOf (M.deeds ll) l rows kn) (M.choices (M.deeds ll)))):=by intro l rows he;unfold M.orderHolds;rw [he,hk];simp
   have HZ:Hid ((M.heldOf ll kn xs).foldl M.putIn []=res):=by show _=_;rw [← HRES.out,hk,hp];rfl
   have hdl:=M.deeds28 hp
   have HOK:Hid (∀ x∈xs,M.execOk ll x.1 x.2=true):=hok
   have HPR:Hid (M.prog ll=true):=hp
   clear hok hk hp
   have b12:=b1.trans (b2.mono b1.size)
   have pc1:=(b2.cell (p:=⟨w.heap.size,0,none⟩) (World.block_lt_of_cell? _ _ k1)).trans k1
   have hp2:=hp1.below b2 (Nat.le_refl _)
   have hL2:=hL1.below b2
   have sl1:=sl0.below b2 (by omega)
   have s12:=b2.size
   clear k1 hp1 hL1 sl0 b1 b2
   go_wp2_with (go_at_call 87;refine (l6In_any kn 1 3 _).mono ?_;rw [hk'];rintro e w1x ⟨rfl,rfl⟩)
   refine (l13Look_any a b o c ll _ HPR.out hl hls (by omega) hp2).mono ?_
   rintro e w3 ⟨O,va,g,cc,v1,v2,rfl,hLk0⟩
   have hLk:=hLk0.g
   have hOge:w.heap.size+2≤O:=by have:=hLk.ge;omega
   have b13:=b12.trans (hLk.bel.mono b12.size)
   have pc3:=cellC hLk.bel pc1
   have sl3:SLO w3 O (w.heap.size+1) []:=⟨sl1.below hLk.bel (by omega),by have:=hLk.bel.size;omega,by omega,fun t ht=>by cases ht⟩
   clear hLk0 sl1 pc1
   go_wp2_with fail
   refine (netG_any 0 (by omega) a b o c ll _ w3 O va g cc v1 v2 hl hls hdl hp2 hLk).mono ?_
   rintro e w4 ⟨X1,rfl,⟨G1,c1,va1,rb1,rc1,hN1⟩,b4⟩
   have hLk4:=hLk.below b4
   have b14:=b13.trans (b4.mono b13.size)
   have pc4:=cellC b4 pc3
   have sl4:=sl3.below b4
   clear hLk pc3 sl3
   go_wp2_with fail
   refine (netG_any kn (by omega) a b o c ll _ w4 O va g cc v1 v2 hl hls hdl hp2 hLk4).mono ?_
   rintro e w5 ⟨X2,rfl,⟨G2,c2,va2,rb2,rc2,hN2⟩,b5⟩
   have OR0:OaR w _ w5 a c ll kn O va g cc v1 v2 X1 X2 (w.heap.size+1) []:=⟨hLk4.below b5,⟨G1,c1,va1,rb1,rc1,hN1.below b5⟩,⟨G2,c2,va2,rb2,rc2,hN2⟩,sl4.below b5,cellC b5 pc4,b14.trans (b5.mono b14.size)⟩
   clear hLk4 pc4 sl4 b4 b5 hN1 hN2 b14 b13 b12
   go_wp2_with fail
   go_loopw [7,11] (fun s7 s11 wr=>∃ (n g5 cap5:Nat) (tt:List Sn),s7=.slice (some ⟨g5,0,none⟩) tt.length cap5∧s11=.int .i64 n∧n≤xs.length∧tt.length≤n∧tt.length≤cap5∧Hid (kys tt=(M.heldOf ll kn (xs.take n)).foldl M.putIn [])∧OaR w w1x wr a c ll kn O va g cc v1 v2 X1 X2 g5 tt) (fun _ s11 _=>xs.length - (intOf s11).toNat)
   case atStart=>exact ⟨0,_,0,[],rfl,rfl,Nat.zero_le _,by simp,by simp,rfl,OR0⟩
   case round =>
    clear OR0
    obtain ⟨n,g5,cap5,tt,rfl,rfl,hn,htn,htc,HK,R⟩:=hrel
    by_cases hlt:n < xs.length
    ·have i1:(n:Int) < xs.length:=by omega
     obtain ⟨rfl⟩:=hL2.addr (by omega)
     obtain ⟨fa,fb,fc,ra,rb,rc,f1,f2,hF,hR⟩:=hL2.row n hlt
     have hxo:=HOK.out _ (List.getElem_mem hlt)
     have hxl':=hle _ (List.getElem_mem hlt)
     obtain ⟨x,hx⟩:∃ x,xs[n]=x:=⟨_,rfl⟩
     rw [hx] at f1 f2 hF hR hxo hxl'
     have HX:Hid (xs[n]=x):=hx
     clear hx
     have hW:=M.wok_of hxo
     have hY:=M.way_of hxo
     have q1:=cellC R.lk.bel f1
     have q2:=cellC R.lk.bel f2
     obtain ⟨St,CW,hP⟩:=holdsG_parts kn hk13 a b o c ll fa fb 0 fc x.1 ra rb 0 rc x.2 _ wr O va g cc v1 v2 hl hls hxl'.c hW hdl hp2 hF hR R.lk
     have HOX:=HO.out x.1 x.2 hxo
     go_wp2_with fail
     refine CW.mono ?_
     rintro e w4 ⟨rfl,hSt,hLkw,hBut⟩
     have R4:=R.but (by omega) hLkw hBut
     clear R hBut hLkw CW q1 q2
     obtain ⟨G1,c1,va1,rb1,rc1,hN1⟩:=R4.n1
     go_wp2_with fail
     refine (hP.whole 0 (Or.inl rfl) X1 G1 c1 va1 rb1 rc1 w4 hSt hN1.nt).mono ?_
     rintro e w6 ⟨X3,rfl,⟨G3,c3,va3,rb3,rc3,hN3⟩,b6⟩
     have hSt6:=hP.bel _ _ hSt b6
     have R6:=R4.below b6
     clear R4 hSt b6 hN1
     have CH:=netHolds_any X3 G3 _ c3 va3 rb3 rc3 _ w6 hdl hN3
     cases hH:M.holdsA (M.netOf (M.deeds ll) x.1 x.2 0) (M.deeds ll).length
     ·rw [hH] at CH
      have HN:Hid (M.heldOf ll kn (xs.take (n+1))=M.heldOf ll kn (xs.take n)):=by
       show _=_
       refine M.held_no hlt ?_
       rw [HX.out,HOX,hH];rfl
      clear hH HOX HX
      go_wp2_with fail
      refine CH.mono ?_
      rintro e w7 ⟨rfl,b7⟩
      have R7:=R6.below b7
      clear R6 CH b7 hP
      go_wp2_with fail
      exact ⟨⟨n+1,g5,cap5,tt,rfl,by go_num,by omega,by omega,htc,by show _=_;rw [HN.out];exact HK.out,R7⟩,by simp [intOf];omega⟩
     ·rw [hH] at CH
      go_wp2_with fail
      refine CH.mono ?_
      rintro e w7 ⟨rfl,b7⟩
      have R7:=R6.below b7
      have hSt7:=hP.bel _ _ hSt6 b7
      clear R6 CH b7 hSt6 hN3
      obtain ⟨G2,c2,va2,rb2,rc2,hN2⟩:=R7.n2
      go_wp2_with fail
      refine (hP.whole kn (Or.inr rfl) X2 G2 c2 va2 rb2 rc2 w7 hSt7 hN2.nt).mono ?_
      rintro e w9 ⟨X4,rfl,⟨G4,c4,va4,rb4,rc4,hN4⟩,b9⟩
      have hSt9:=hP.bel _ _ hSt7 b9
      have R9:=R7.below b9
      clear R7 hSt7 b9 hN2
      have CT:=hP.waits X4 G4 c4 va4 rb4 rc4 _ w9 hSt9 hN4
      cases hV:M.waitsA (M.deeds ll).length (M.netOf (M.deeds ll) x.1 x.2 kn) (M.choices (M.deeds ll))
      ·rw [hV] at CT
       have HN:Hid (M.heldOf ll kn (xs.take (n+1))=M.heldOf ll kn (xs.take n)):=by
        show _=_
        refine M.held_no hlt ?_
        rw [HX.out,HOX,hH,hV];rfl
       clear hH HOX HX hV
       go_wp2_with fail
       refine CT.mono ?_
       rintro e w10 ⟨rfl,b10⟩
       have R10:=R9.below b10
       clear R9 CT b10 hP
       go_wp2_with fail
       exact ⟨⟨n+1,g5,cap5,tt,rfl,by go_num,by omega,by omega,htc,by show _=_;rw [HN.out];exact HK.out,R10⟩,by simp [intOf];omega⟩
      ·rw [hV] at CT
       have HN:Hid (M.heldOf ll kn (xs.take (n+1))=M.heldOf ll kn (xs.take n)++[(M.seenR (M.deeds ll) x.1,M.seenL (M.deeds ll) x.1 x.2)]):=by
        show _=_
        have:=M.held_yes (ll:=ll) (kind:=kn) hlt (by rw [HX.out,HOX,hH,hV];rfl)
        rw [HX.out] at this
        exact this
       clear hH HOX HX hV
       go_wp2_with fail
       refine CT.mono ?_
       rintro e w10 ⟨rfl,b10⟩
       have R10:=R9.below b10
       clear R9 CT b10 hP hSt9 hN4
       have R11:=R10.below (Below.refl _ _).drew
       clear R10
       have hbL:=R11.lk.bel
       have hOl:=R11.lk.lt
       obtain ⟨f4,f5,hblk⟩:=R11.lk.blk
       have cO:w10.cell? ⟨O,1,none⟩=some (.slice va (M.deeds ll).length cc):=by
        have:w10.drew.cell? ⟨O,1,none⟩=some (.slice va (M.deeds ll).length cc):=by simp [World.cell?,hblk]
        exact this
       have cP:w10.cell? ⟨w.heap.size,0,none⟩=some (.slice a ll.length c):=R11.pc
       have q1d:=cellC hbL f1
       have q1:w10.cell? ⟨lg,n * 2,none⟩=some (.slice fa x.1.length fc):=q1d
       have q2d:=cellC hbL f2
       have q2:w10.cell? ⟨lg,n * 2+1,none⟩=some (.slice ra x.2.length rc):=q2d
       clear q1d q2d
       have CS:=l12Seen_any a b o c ll va g cc fa fb 0 fc x.1 ra rb 0 rc x.2 w10.drew hl hls (by omega) hY.len hY.inn hY.three hxl'.c hY.mem (hp2.below hbL (Nat.le_refl _)) R11.lk.dv (hF.below hbL (Nat.le_refl _)) (hR.below hbL (Nat.le_refl _))
       have HASC:Hid (M.Asc (kys tt)):=by show M.Asc (kys tt);rw [HK.out];exact M.foldl_asc _ [] List.Pairwise.nil
       clear hblk
       go_wp2_with fail
       go_region_held3 (fun z=>z.cell? ⟨w.heap.size,0,none⟩=some (.slice a ll.length c)∧z.cell? ⟨O,1,none⟩=some (.slice va (M.deeds ll).length cc)∧z.cell? ⟨lg,n * 2,none⟩=some (.slice fa x.1.length fc)∧z.cell? ⟨lg,n * 2+1,none⟩=some (.slice ra x.2.length rc)) (go_keep) (first
        | (go_at_call 85;refine CS.mono ?_;rintro e w12 ⟨s,rfl,hs1,hs2,hsA,hsb1,hsb2,b12⟩;have HS1:Hid (s.l1=_):=hs1;have HS2:Hid (s.l2=_):=hs2;clear hs1 hs2;have R12:=R11.below b12;have Y1:=R12.pc;have Y2:=cellC b12 cO;have Y3:=cellC b12 q1;have Y4:=cellC b12 q2;have hsl:=M.seen_le (ll:=ll) (x:=x) HS1 HS2 hdl hY.three)
        | (go_at_call 167;refine (l2Put_any g5 cap5 tt s _ (by omega) R12.sl.sl R12.sl.lt hsA hsl HASC.out htc).mono ?_;rintro e w13 ⟨g6,cap6,uu,rfl,hku,hSu,hgu,hul,huc,hin,hgg,b13⟩;have HKU:Hid (kys uu=_):=hku;clear hku;have R13:=R12.below b13;have U1:=R13.pc;have U2:=cellC b13 Y2;have U3:=cellC b13 Y3;have U4:=cellC b13 Y4))
       have s12':=b12.size
       have hOd:O < w10.heap.size:=hOl
       have hsd:w10.heap.size≤s.b1∧w10.heap.size≤s.b2:=⟨hsb1,hsb2⟩
       have hwd:w10.heap.size≤w12.heap.size:=s12'
       have SF:SLO w13 O g6 uu:=⟨hSu,hgu,by have:=R12.sl.ne;have:=R12.sl.lt;omega,fun t ht=>by
        rcases hin t ht with h1 | rfl
        ·exact R12.sl.off t h1
        ·omega⟩
       have RF:OaR w w1x w13 a c ll kn O va g cc v1 v2 X1 X2 g6 uu:=⟨R13.lk,R13.n1,R13.n2,SF,R13.pc,R13.bel⟩
       have HF:Hid (kys uu=(M.heldOf ll kn (xs.take (n+1))).foldl M.putIn []):=by
        show _=_
        rw [HN.out,List.foldl_append,← HK.out,HKU.out]
        simp only [List.foldl_cons,List.foldl_nil,Sn.ky,HS1.out,HS2.out]
       clear R11 R12 R13 U1 U2 U3 U4 Y1 Y2 Y3 Y4 HKU HN HK CS
       go_wp2_with fail
       exact ⟨⟨n+1,g6,cap6,uu,rfl,by go_num,by omega,by omega,huc,HF,RF⟩,by simp [intOf];omega⟩
    ·have i1:¬ (n:Int) < xs.length:=by omega
     have e1:xs.take n=xs:=List.take_of_length_le (by omega)
     rw [e1] at HK
     go_wp2_with fail
     go_ret
     exact ⟨g5,cap5,tt,rfl,HK.out.trans HZ.out,R.sl.sl,by omega,htc,R.bel⟩
set_option maxHeartbeats 2000000 in
set_option maxRecDepth 100000 in
theorem sorderAll_any (a:Option Addr) (b o c:Nat) (ll:List (List M.D)) (kind:Int) (w:World) (hl:ll.length≤1048576) (hls:∀ t∈ll,t.length≤1048576) (h:DoSS w a b o ll) :
  Calls Tryz.prog 58 #[.agg #[.slice a ll.length c],.int .i64 kind] w fun e w'=>∃ g cap,∃ tt:List Sn,e=.returned (.slice (some ⟨g,0,none⟩) tt.length cap)∧kys tt=M.sorderAll ll kind∧SL w' g tt∧tt.length≤117649∧tt.length≤cap∧Below w.heap.size w w':=by
 have b1:=below1 w (.cells #[.slice a ll.length c] 25)
 have k1:(w.alloc (.cells #[.slice a ll.length c] 25)).cell? ⟨w.heap.size,0,none⟩=some (.slice a ll.length c):=by simp
 have hle:∀ x∈M.specAll ll,WyLe x:=fun x hx=>by
  have ho:=M.mem_execAll.1 hx
  have hW:=M.wok_of ho
  have hb:=M.prog_le hW.prog
  have hdl:=M.deeds_len hb.1 hb.2
  refine ⟨by have:=hW.len.out;omega,by have:=hW.three.out;omega,fun r hr=>?_⟩
  simp only [M.execOk,M.wayOk,Bool.and_eq_true] at ho
  exact M.row_len ho.2.2.1 hdl r hr
 have hok:∀ x∈M.specAll ll,M.execOk ll x.1 x.2=true:=fun x hx=>M.mem_execAll.1 hx
 have hxl:(M.specAll ll).length≤117649:=by
  unfold M.specAll
  cases hp:M.prog ll
  ·simp
  ·rw [if_pos rfl,← M.ways_eq (M.cop_deeds ll)]
   exact M.ways_le2 hp
 have hp1:=h.below b1 (Nat.le_refl _)
 go_enter Tryz.func58,Tryz.ntmps58
 go_wp2_with fail
 generalize w.alloc (.cells #[.slice a ll.length c] 25)=W0 at *
 have hp1d:=hp1.below (Below.refl _ _).drew (Nat.le_refl _)
 have CX:=sexecAllW_any a b o c ll W0.drew hl hls hp1d
 go_region_held3 (fun z=>z.cell? ⟨w.heap.size,0,none⟩=some (.slice a ll.length c)) (go_keep) (first
  | (go_at_call 39;refine CX.mono ?_;rintro e w2 ⟨v,rfl,hA⟩;obtain ⟨la,lg,lc,rfl,hLW⟩:=hA.lw;have hA2:=hA.bel;have Y1:=cellC hA2 k1)
  | (go_at_call 116;refine (l13All_any a b o c ll la lg lc _ kind _ hl hls (by omega) hok hle (hp1d.below hA2 (Nat.le_refl _)) hLW).mono ?_;rintro e w3 ⟨g,cap,tt,rfl,hk,hS,h1,h2,h3⟩;have HK:Hid (kys tt=_):=hk;clear hk;have U1:=cellC h3 Y1))
 have bF:Below w.heap.size w w3:=(b1.trans ((Below.refl _ _).drew.mono b1.size)).trans ((hA2.trans (h3.mono hA2.size)).mono b1.size)
 go_wp2_with fail
 go_ret
 exact ⟨g,cap,tt,rfl,HK.out,hS,by omega,h2,bF⟩
end
section
open Go.RowKit
theorem sorderAllK (a:Option Addr) (b o c:Nat) (ll:List (List M.D)) (kind:Int) (w:World) (hl:ll.length≤1048576) (hls:∀ t∈ll,t.length≤1048576) (h:DoSS w a b o ll) :
  Calls Tryz.prog 58 #[.agg #[.slice a ll.length c],.int .i64 kind] w fun e w'=>∃ v,e=.returned v∧Tld w w' v (M.orderAll ll kind):=by
 refine (sorderAll_any a b o c ll kind w hl hls h).mono fun e w' ⟨g,cap,tt,he,hk,hS,_,_,hb⟩=>⟨_,he,?_,hb⟩
 rw [M.sorder_same] at hk
 have:=hS.ks
 rw [hk] at this
 exact ⟨some ⟨g,0,none⟩,g,cap,by rw [← hk,kys_len],this⟩
end
end Go.Proofs.YtegommoflmmahaaGreat
