/- The laws' comparing of two programs. Of programs of at most 1048576 threads, each of at most 1048576 steps. laws.lpOdd: whether what one may not think of is seen of a shape, by an order. Of shapes that are ones. -/
import Derived.Deep.OwnRows
import Derived.Test.YtnddmlgnngdaoaaGreatDoorRows
import Derived.Test.YtnddmlgnngdaoaaGreatDoorQsbh
namespace Go.Proofs.YtnddmlgnngdaoaaGreatDoor
section
open Go.RowKit
def M.eqD (d e:M.D):Bool:=d.k==e.k&&d.p==e.p&&d.v==e.v
theorem M.eqD_iff (d e:M.D):M.eqD d e=true↔d=e:=by
 obtain ⟨k,p,v⟩:=d
 obtain ⟨k',p',v'⟩:=e
 simp [M.eqD,and_assoc]
theorem Tryz.eqDo (d e:M.D) (w:World):(Op.equalIn 10000 48 (.agg #[.int .i64 d.k,.int .i64 d.p,.int .i64 d.v]) (.agg #[.int .i64 e.k,.int .i64 e.p,.int .i64 e.v])).run Tryz.prog w=.ok (M.eqD d e) w:=by
 have hs:Tryz.prog.stoodInHeld 48=false:=by kernel_rfl
 obtain ⟨k,p,v⟩:=d
 obtain ⟨k',p',v'⟩:=e
 rw [show (10000:Nat)=9998+1+1 from rfl]
 unfold Op.equalIn
 by_cases h1:k=k'
 ·subst h1
  by_cases h2:p=p'
  ·subst h2
   by_cases h3:v=v'
   ·subst h3
    simp [run_underlying Tryz.underlying48,hs,part,go_sem,M.eqD]
   ·have e3:(v==v')=false:=by simpa using h3
    simp [run_underlying Tryz.underlying48,hs,part,go_sem,M.eqD,e3]
  ·have e2:(p==p')=false:=by simpa using h2
   simp [run_underlying Tryz.underlying48,hs,part,go_sem,M.eqD,e2]
 ·have e1:(k==k')=false:=by simpa using h1
  simp [run_underlying Tryz.underlying48,hs,part,go_sem,M.eqD,e1]
noncomputable def M.eqLL (ll mm:List (List M.D)):Bool:=@decide (ll=mm) (Classical.propDecidable _)
theorem M.eqLL_yes {ll mm:List (List M.D)} (h:ll=mm):M.eqLL ll mm=true:=by unfold M.eqLL;exact @decide_eq_true _ (Classical.propDecidable _) h
theorem M.eqLL_no {ll mm:List (List M.D)} (h:ll≠mm):M.eqLL ll mm=false:=by unfold M.eqLL;exact @decide_eq_false _ (Classical.propDecidable _) h
theorem Below.drewN' {B:Nat} {a b:World} (h:Below B a b) (n:Nat):Below B a (b.drewN n):=h.trans ⟨rfl,rfl,rfl,Nat.le_refl _,fun _ _=>rfl⟩
def AsFar {α:Type} (l m:List α) (n:Nat):Prop:=∀ i,i < n→l[i]?=m[i]?
theorem AsFar.all {α:Type} {l m:List α} {n:Nat} (h:AsFar l m n) (hl:l.length=m.length) (hn:l.length≤n):l=m:=by
 apply List.ext_getElem?
 intro i
 rcases Nat.lt_or_ge i n with hi | hi
 ·exact h i hi
 ·rw [List.getElem?_eq_none (by omega),List.getElem?_eq_none (by omega)]
theorem AsFar.step {α:Type} {l m:List α} {n:Nat} (h:AsFar l m n) (e:l[n]?=m[n]?):AsFar l m (n+1):=fun i hi=>by
 rcases Nat.lt_or_ge i n with h1 | h1
 ·exact h i h1
 ·obtain rfl:i=n:=by omega
  exact e
set_option maxHeartbeats 400000 in
theorem lpProg_any (a:Option Addr) (b o c:Nat) (a2:Option Addr) (b2 o2 c2:Nat) (ll mm:List (List M.D)) (w:World) (hl:ll.length≤1048576) (hm:mm.length≤1048576) (hls:∀ t∈ll,t.length≤1048576) (h:DoSS w a b o ll) (h2:DoSS w a2 b2 o2 mm) :
  Calls Tryz.prog 7 #[.agg #[.slice a ll.length c],.agg #[.slice a2 mm.length c2]] w fun e w'=>e=.returned (.bool (M.eqLL ll mm))∧Below w.heap.size w w':=by
 by_cases hlm0:ll.length=mm.length
 ·have e0:((ll.length:Int) != mm.length)=false:=by simp;omega
  have HLM:Hid (ll.length=mm.length):=hlm0
  clear hlm0
  go_enter Tryz.func7,Tryz.ntmps7
  go_wp2_with fail
  have hb0:=below2 w (.cells #[.slice a ll.length c] 27) (.cells #[.slice a2 mm.length c2] 27)
  have hs0:=h.below hb0 (Nat.le_refl _)
  have hs2:=h2.below hb0 (Nat.le_refl _)
  have bA:((w.alloc (.cells #[.slice a ll.length c] 27)).alloc (.cells #[.slice a2 mm.length c2] 27)).cell? ⟨w.heap.size,0,none⟩=some (.slice a ll.length c):=by simp
  have bB:((w.alloc (.cells #[.slice a ll.length c] 27)).alloc (.cells #[.slice a2 mm.length c2] 27)).cell? ⟨w.heap.size+1,0,none⟩=some (.slice a2 mm.length c2):=by simp
  generalize (w.alloc (.cells #[.slice a ll.length c] 27)).alloc (.cells #[.slice a2 mm.length c2] 27)=W0 at *
  have ltA:=World.block_lt_of_cell? _ _ bA
  have ltB:=World.block_lt_of_cell? _ _ bB
  clear h h2
  go_loopw [5] (fun s5 wr=>∃ n:Nat,s5=.int .i64 n∧n≤ll.length∧AsFar ll mm n∧Below W0.heap.size W0 wr) (fun s5 _=>ll.length - (intOf s5).toNat)
  case atStart=>exact ⟨0,rfl,Nat.zero_le _,fun i hi=>absurd hi (Nat.not_lt_zero _),Below.refl _ _⟩
  case round =>
   obtain ⟨n,rfl,hn,hfar,hbel⟩:=hrel
   have HF:Hid (AsFar ll mm n):=hfar
   have xA:=(hbel.cell (p:=⟨w.heap.size,0,none⟩) ltA).trans bA
   have xB:=(hbel.cell (p:=⟨w.heap.size+1,0,none⟩) ltB).trans bB
   clear hfar
   by_cases hlt:n < ll.length
   ·have hlt2:n < mm.length:=by have:=HLM.out;omega
    obtain ⟨rfl⟩:=hs0.addr (by omega)
    obtain ⟨rfl⟩:=hs2.addr (by omega)
    obtain ⟨a',b',o',c',hc,hd⟩:=(hs0.below hbel (Nat.le_refl _)).row n hlt
    obtain ⟨a3,b3,o3,c3,hc3,hd3⟩:=(hs2.below hbel (Nat.le_refl _)).row n hlt2
    have hlt':=hls _ (List.getElem_mem hlt)
    have H1:Hid (ll[n]?=some ll[n]):=List.getElem?_eq_getElem hlt
    have H2:Hid (mm[n]?=some mm[n]):=List.getElem?_eq_getElem hlt2
    generalize ll[n]=t at hd hc hlt' H1
    generalize mm[n]=u at hd3 hc3 H2
    have hne:t≠u→ll≠mm:=fun h1 h2=>h1 (Option.some.inj (H1.out.symm.trans ((congrArg (fun l=>l[n]?) h2).trans H2.out)))
    have i1:(n:Int) < ll.length:=by omega
    have i2:(n:Int) < mm.length:=by omega
    by_cases htu:t.length=u.length
    ·have e1:((t.length:Int) != u.length)=false:=by simp;omega
     have HTU:Hid (t.length=u.length):=htu
     clear htu
     go_wp2_with fail
     go_quiet (fail)
     go_wp2_with fail
     have hltA:w.heap.size < wr.heap.size:=World.block_lt_of_cell? _ _ xA
     have hltB:w.heap.size+1 < wr.heap.size:=World.block_lt_of_cell? _ _ xB
     have ltc:b < wr.heap.size:=World.block_lt_of_cell? _ _ hc
     have ltc3:b2 < wr.heap.size:=World.block_lt_of_cell? _ _ hc3
     go_loopw [6] (fun s6 wi=>∃ k:Nat,s6=.int .i64 k∧k≤t.length∧AsFar t u k∧Below wr.heap.size wr wi) (fun s6 _=>t.length - (intOf s6).toNat)
     case atStart=>exact ⟨0,rfl,Nat.zero_le _,fun i hi=>absurd hi (Nat.not_lt_zero _),Below.drewN' (Below.refl _ _) _⟩
     case round =>
      obtain ⟨k,rfl,hk,hfar,hbi⟩:=hrel
      have HG:Hid (AsFar t u k):=hfar
      have yA:=(hbi.cell (p:=⟨w.heap.size,0,none⟩) hltA).trans xA
      have yB:=(hbi.cell (p:=⟨w.heap.size+1,0,none⟩) hltB).trans xB
      have yC:=(hbi.cell (p:=⟨b,o+n,none⟩) ltc).trans hc
      have yD:=(hbi.cell (p:=⟨b2,o2+n,none⟩) ltc3).trans hc3
      clear hfar xA xB bA bB hc hc3
      by_cases hkt:k < t.length
      ·have hku:k < u.length:=by have:=HTU.out;omega
       obtain ⟨rfl⟩:=hd.addr (by omega)
       obtain ⟨rfl⟩:=hd3.addr (by omega)
       have x1:=(hd.row k hkt).below hbi (Nat.le_refl _)
       have x2:=(hd3.row k hku).below hbi (Nat.le_refl _)
       have K1:Hid (t[k]?=some t[k]):=List.getElem?_eq_getElem hkt
       have K2:Hid (u[k]?=some u[k]):=List.getElem?_eq_getElem hku
       have j1:(k:Int) < t.length:=by omega
       have j2:(k:Int) < u.length:=by omega
       generalize t[k]=d at x1 K1
       generalize u[k]=e at x2 K2
       have hq:∀ W,_:=Tryz.eqDo d e
       obtain ⟨k1,p1,v1⟩:=d
       obtain ⟨k2,p2,v2⟩:=e
       obtain ⟨ck,cp,cv⟩:=x1
       obtain ⟨ck2,cp2,cv2⟩:=x2
       cases he:M.eqD ⟨k1,p1,v1⟩ ⟨k2,p2,v2⟩
       ·rw [he] at hq
        go_wp2_with fail
        go_quiet (fail)
        go_wp2_with fail
        go_ret
        exact ⟨ret_bool (M.eqLL_no (hne fun h=>by
         have h1:some (M.D.mk k1 p1 v1)=some (M.D.mk k2 p2 v2):=K1.out.symm.trans ((congrArg (fun l=>l[k]?) h).trans K2.out)
         rw [(M.eqD_iff _ _).2 (Option.some.inj h1)] at he
         cases he)).symm,hb0.trans ((hbel.trans (Below.drewN' (hbi.mono hbel.size) _)).mono hb0.size)⟩
       ·rw [he] at hq
        go_wp2_with fail
        go_quiet (fail)
        go_wp2_with fail
        exact ⟨⟨k+1,by go_num,by omega,HG.out.step (by show t[k]?=u[k]?;rw [K1.out,K2.out,(M.eqD_iff _ _).1 he]),Below.drewN' hbi _⟩,by simp [intOf];omega⟩
      ·go_wp2_with fail
       exact ⟨⟨n+1,by go_num,by omega,HF.out.step (by show ll[n]?=mm[n]?;rw [H1.out,H2.out,HG.out.all HTU.out (by omega)]),hbel.trans (hbi.mono hbel.size)⟩,by simp [intOf];omega⟩
    ·have e1:((t.length:Int) != u.length)=true:=by simp;omega
     go_wp2_with fail
     go_quiet (fail)
     go_wp2_with fail
     go_ret
     exact ⟨ret_bool (M.eqLL_no (hne fun h=>htu (congrArg _ h))).symm,hb0.trans (Below.drewN' (hbel.mono hb0.size) _)⟩
   ·go_wp2_with fail
    go_ret
    exact ⟨ret_bool (M.eqLL_yes (HF.out.all HLM.out (by omega))).symm,hb0.trans (hbel.mono hb0.size)⟩
 ·have e0:((ll.length:Int) != mm.length)=true:=by simp;omega
  go_enter Tryz.func7,Tryz.ntmps7
  go_wp2_with fail
  go_ret
  exact ⟨ret_bool (M.eqLL_no fun h=>hlm0 (congrArg _ h)).symm,below2 _ _ _⟩
end
section
open Go.RowKit Go.Shelf
theorem TsAns.snO {w w':World} {v1 v2:Value} {r1 r2:List Int} (h:TsAns w w' v1 v2 r1 r2):∃ t:Sn,v1=.slice t.a1 t.l1.length t.c1∧v2=.slice t.a2 t.l2.length t.c2∧t.l1=r1∧t.l2=r2∧t.At w':=by
 obtain ⟨a1,g1,c1,e1,i1,_⟩:=own_ints h.o1
 obtain ⟨a2,g2,c2,e2,i2,_⟩:=own_ints h.o2
 exact ⟨⟨a1,g1,0,c1,r1,a2,g2,0,c2,r2⟩,e1,e2,rfl,rfl,i1,i2⟩
theorem M.odd_le (s:Int):(M.oddR s).length≤3∧(M.oddL s).length≤3:=by
 unfold M.oddR M.oddL
 constructor
 ·repeat (first | (split;simp) | simp)
 ·repeat (first | (split;simp) | simp)
set_option maxHeartbeats 2000000 in
set_option maxRecDepth 100000 in
set_option linter.unusedSimpArgs false in
theorem lpOdd_any (s h k:Int) (w:World) (hok:M.shapeOk s h=true) (hk:k=1∨k=2∨k=3) :
  Calls Tryz.prog 12 #[.int .i64 s,.int .i64 h,.int .i64 k] w fun e w'=>e=.returned (.bool (M.oddSeen s h k))∧Below w.heap.size w w':=by
 rw [← M.odd_at hok hk]
 obtain ⟨hs2,hs5⟩:=M.shape_small s h
 have CI:=ishapeOf_any s h w
 have CO:=fun W=>iodd_any s W
 have hle:=M.odd_le s
 generalize (M.shape s h).getD []=ll at *
 have hl1:ll.length≤1048576:=by omega
 have hl2:∀ t∈ll,t.length≤1048576:=fun t ht=>by have:=hs5 t ht;omega
 go_enter Tryz.func12,Tryz.ntmps12
 go_wp2_with fail
 refine CI.mono ?_
 rintro e w3 ⟨v3,rfl,⟨vs3,hR3⟩,b3⟩
 obtain ⟨ai,gi,ci,rfl,hss3⟩:=hR3.b.ss
 have bB:=below1 w3 (.cells #[.slice ai ll.length ci] 27)
 have sB:=Slot1.new w3 (.slice ai ll.length ci) 27
 have ssB:=hss3.below bB (Nat.le_refl _)
 have bwB:=b3.trans (bB.mono b3.size)
 clear hR3 hss3 b3 bB CI
 go_wp2_with fail
 generalize w3.alloc (.cells #[.slice ai ll.length ci] 27)=WB at *
 generalize w3.heap.size=B at *
 refine (CO WB).mono ?_
 rintro e w4 ⟨v1,v2,rfl,hT⟩
 obtain ⟨t,rfl,rfl,ht1,ht2,htA⟩:=hT.snO
 have b4:=hT.bel
 have bC:=below1 w4 (.cells #[.slice t.a1 t.l1.length t.c1,.slice t.a2 t.l2.length t.c2] 33)
 have b4C:=b4.trans (bC.mono b4.size)
 have sC:Slot2 (w4.alloc (.cells #[.slice t.a1 t.l1.length t.c1,.slice t.a2 t.l2.length t.c2] 33)) w4.heap.size (.slice t.a1 t.l1.length t.c1) (.slice t.a2 t.l2.length t.c2):=⟨heap_alloc_new _ _⟩
 have sBC:=sB.bl' b4C
 have ssC:=ssB.below b4C (Nat.le_refl _)
 have htC:=htA.below bC (Nat.le_refl _)
 have bwC:=bwB.trans (b4C.mono bwB.size)
 have HT1:Hid (t.l1=M.oddR s):=ht1
 have HT2:Hid (t.l2=M.oddL s):=ht2
 have htl:t.Le 1048576:=⟨by rw [ht1];omega,by rw [ht2];omega⟩
 clear hT b4 bC b4C sB ssB htA bwB CO ht1 ht2
 go_wp2_with fail
 generalize w4.alloc (.cells #[.slice t.a1 t.l1.length t.c1,.slice t.a2 t.l2.length t.c2] 33)=WC at *
 generalize w4.heap.size=X at *
 have CC:∀ W:World,Below WC.heap.size WC W→W.cell? ⟨B,0,none⟩=some (.slice ai ll.length ci)∧W.cell? ⟨X,0,none⟩=some (.slice t.a1 t.l1.length t.c1)∧W.cell? ⟨X,1,none⟩=some (.slice t.a2 t.l2.length t.c2):=fun W hb=>⟨(sBC.bl' hb).c,(sC.of (hb.block _ sC.lt)).c0,(sC.of (hb.block _ sC.lt)).c1⟩
 refine wp_region_held_drew (S:=fun w'=>Below WC.heap.size WC w') (by kernel_rfl) (Below.refl _ _).drew (fun hH=>?_)
 refine tk 0 22 (.agg #[.slice ai ll.length ci]) hH rfl rfl (by intro w' hSw;obtain ⟨u0,u1,u2⟩:=CC w' hSw;go_simp) ?_
 simp only [Act.put,zqa,zqb,zqc]
 refine tk 1 23 (.int .i64 k) hH rfl rfl (by intro w' hSw;go_simp) ?_
 simp only [Act.put,zqa,zqb,zqc]
 refine tk 3 25 (.agg #[.slice t.a1 t.l1.length t.c1,.slice t.a2 t.l2.length t.c2]) hH rfl rfl (by intro w' hSw;obtain ⟨u0,u1,u2⟩:=CC w' hSw;go_simp) ?_
 simp only [Act.put,zqa,zqb,zqc]
 refine ry 2 rfl (fun K' hK=>?_)
 refine sg 24 rfl 31 #[.tmp 22,.tmp 23] rfl #[.agg #[.slice ai ll.length ci],.int .i64 k] (enters_of Tryz.func31 (by kernel_rfl) rfl) (iorderAll_any ai gi 0 ci ll k WC.drew hl1 hl2 (ssC.below hH (Nat.le_refl _))) ?_
 rintro e W5 ⟨v5,rfl,⟨a5,g5,c5,uu,rfl,hku,hN,hul,hcap⟩,b5⟩
 refine ⟨_,rfl,?_⟩
 simp only [Act.put,zqa,zqb,zqc]
 have hb5:=hH.trans (b5.mono hH.size)
 refine hK.out _ _ hb5 (fun hH5=>?_)
 clear hK K'
 have hKS:=hN.ks
 have hKL:KLe (kys uu) 1048576:=fun y hy=>by
  obtain ⟨s',hs',rfl⟩:=List.mem_map.1 hy
  exact ⟨(hN.off s' hs').le.reads,(hN.off s' hs').le.last⟩
 have CQ:=sseenIn_any a5 g5 0 c5 (kys uu) t W5 (by rw [kys_len];omega) hKL htl hKS (htC.below hb5 (Nat.le_refl _))
 rw [kys_len,hku,HT1.out,HT2.out] at CQ
 refine ry 4 rfl (fun K' hK=>?_)
 refine sg 26 rfl 34 #[.tmp 24,.tmp 25] rfl #[.slice a5 uu.length c5,.agg #[.slice t.a1 t.l1.length t.c1,.slice t.a2 t.l2.length t.c2]] (enters_of Tryz.func34 (by kernel_rfl) rfl) (by rw [HT1.out,HT2.out];exact CQ) ?_
 rintro e W6 ⟨rfl,b6⟩
 refine ⟨_,rfl,?_⟩
 simp only [Act.put,zqa,zqb,zqc]
 have hb6:=hb5.trans (b6.mono hb5.size)
 refine hK.out _ _ hb6 (fun hH6=>?_)
 clear hK K' CQ
 generalize hr:M.isIn (M.orderAll ll k) (M.oddR s) (M.oddL s)=r at *
 have HR:Hid (M.isIn (M.orderAll ll k) (M.oddR s) (M.oddL s)=r):=hr
 clear hr
 refine tk 5 6 (.bool r) hH6 rfl rfl (by intro w' hSw;go_simp) ?_
 simp only [Act.put,zqa,zqb,zqc]
 refine wpAnyH_done (by kernel_rfl) ?_ _
 clear CC
 go_wp2_with fail
 go_ret
 exact ⟨ret_bool HR.out.symm,bwC.trans (hb6.mono bwC.size)⟩
end
end Go.Proofs.YtnddmlgnngdaoaaGreatDoor
