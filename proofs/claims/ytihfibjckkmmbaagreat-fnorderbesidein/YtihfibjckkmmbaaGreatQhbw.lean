/- impl.SeenSort, with the capacities of what it tells. Of at most 1048576. -/
import Derived.BigQuiet
import Derived.Deep.AppendLies
import Derived.Deep.Quiet
import Derived.Deep.QuietTactic
import Derived.Deep.RegionHeld3
import Derived.Deep.RegionWith
import Derived.Deep.Slices
import Derived.Laws.AppendOwn
import Derived.Laws.AppendOwnNone
import Derived.Laws.IdiomCopy
import Derived.Shelf.Abstract
import Derived.Shelf.SlSortCmp.NoneTotal
import Derived.Sort.Grow
import Derived.WalkKit
import Derived.WalkLawsBesides
import Derived.WalkSpells
import Derived.Test.YtihfibjckkmmbaaGreatRows
import Derived.Test.YtihfibjckkmmbaaGreatQhbd
namespace Go.Proofs.YtihfibjckkmmbaaGreat
open Go.RowKit
set_option maxHeartbeats 1000000 in
set_option maxRecDepth 100000 in
theorem copySeenC_any (s:Sn) (w:World) (hs:s.Le 1048576) (hsa:s.At w) :
  Calls Tryz.prog 50 #[.agg #[.slice s.a1 s.l1.length s.c1,.slice s.a2 s.l2.length s.c2]] w fun e w'=>∃ t:Sn,e=.returned (.agg #[.slice t.a1 t.l1.length t.c1,.slice t.a2 t.l2.length t.c2])∧t.l1=s.l1∧t.l2=s.l2∧Fresh w.heap.size w' t∧(Own2 w' t∧t.l1.length≤t.c1)∧Below w.heap.size w w':=by
 go_enter Tryz.func50,Tryz.ntmps50
 go_wp2_with fail
 have hb2:=below2 w (.cells #[.slice s.a1 s.l1.length s.c1,.slice s.a2 s.l2.length s.c2] 35) (.cells #[.slice none 0 0,.slice none 0 0] 35)
 have k0:((w.alloc (.cells #[.slice s.a1 s.l1.length s.c1,.slice s.a2 s.l2.length s.c2] 35)).alloc (.cells #[.slice none 0 0,.slice none 0 0] 35)).cell? ⟨w.heap.size,0,none⟩=some (.slice s.a1 s.l1.length s.c1):=by simp
 have k1:((w.alloc (.cells #[.slice s.a1 s.l1.length s.c1,.slice s.a2 s.l2.length s.c2] 35)).alloc (.cells #[.slice none 0 0,.slice none 0 0] 35)).cell? ⟨w.heap.size,1,none⟩=some (.slice s.a2 s.l2.length s.c2):=by simp
 have hR:Slot2 ((w.alloc (.cells #[.slice s.a1 s.l1.length s.c1,.slice s.a2 s.l2.length s.c2] 35)).alloc (.cells #[.slice none 0 0,.slice none 0 0] 35)) (w.heap.size+1) (.slice none 0 0) (.slice none 0 0):=⟨alloc_new _ _ _ (by simp only [World.size_alloc])⟩
 have hsz:((w.alloc (.cells #[.slice s.a1 s.l1.length s.c1,.slice s.a2 s.l2.length s.c2] 35)).alloc (.cells #[.slice none 0 0,.slice none 0 0] 35)).heap.size=w.heap.size+1+1:=by simp only [World.size_alloc]
 generalize (w.alloc (.cells #[.slice s.a1 s.l1.length s.c1,.slice s.a2 s.l2.length s.c2] 35)).alloc (.cells #[.slice none 0 0,.slice none 0 0] 35)=W at *
 have hsW:=(hsa.below hb2 (Nat.le_refl _)).below (Below.refl W.heap.size W).drew (Nat.le_refl _)
 have lt0:w.heap.size < W.heap.size:=by omega
 have lt1:w.heap.size+1 < W.heap.size:=by omega
 have hbd:Below W.heap.size W W.drew:=(Below.refl W.heap.size W).drew
 have C1:=newListI_any s.a1 s.b1 s.o1 s.c1 s.l1 W.drew hs.reads hsW.reads
 go_region_held3 (fun w'=>w'.cell? ⟨w.heap.size,0,none⟩=some (.slice s.a1 s.l1.length s.c1)∧w'.cell? ⟨w.heap.size,1,none⟩=some (.slice s.a2 s.l2.length s.c2)) (go_keep) (first
  | (go_at_call_of 60 (Value.slice s.a1 s.l1.length s.c1);refine C1.mono ?_;rintro e w1 ⟨x1,y1,z1,rfl,n1,ge1,cp1,fr1,b1⟩;have B1:=hbd.trans b1;have Y0:=(B1.cell (p:=⟨w.heap.size,0,none⟩) lt0).trans k0;have Y1:=(B1.cell (p:=⟨w.heap.size,1,none⟩) lt0).trans k1)
  | (go_at_call_of 60 (Value.slice s.a2 s.l2.length s.c2);refine (newListI_any s.a2 s.b2 s.o2 s.c2 s.l2 _ hs.last (hsW.below b1 (Nat.le_refl _)).last).mono ?_;rintro e w2 ⟨x2,y2,z2,rfl,n2,ge2,cp2,fr2,b2⟩;have B2:=B1.trans (b2.mono B1.size);have Z0:=(B2.cell (p:=⟨w.heap.size,0,none⟩) lt0).trans k0;have Z1:=(B2.cell (p:=⟨w.heap.size,1,none⟩) lt0).trans k1;have hR2:=hR.of (B2.block (w.heap.size+1) lt1);have R0:=hR2.c0;have R1:=hR2.c1;have Rf:=hR2.fz))
 have g1:w.heap.size+1+1≤y1:=by rw [← hsz];exact ge1
 have g2:w.heap.size+1+1≤y2:=Nat.le_trans (by rw [← hsz];exact B1.size) ge2
 have hR3:=(hR2.set0 (.slice x1 s.l1.length z1)).set1 (.slice x2 s.l2.length z2)
 have hF1:IntS ((w2.setCell ⟨w.heap.size+1,0,none⟩ (.slice x1 s.l1.length z1)).setCell ⟨w.heap.size+1,1,none⟩ (.slice x2 s.l2.length z2)) x1 y1 0 s.l1:=((n1.below b2 (Nat.le_refl _)).far (fun _=>by omega)).far (fun _=>by omega)
 have hF2:IntS ((w2.setCell ⟨w.heap.size+1,0,none⟩ (.slice x1 s.l1.length z1)).setCell ⟨w.heap.size+1,1,none⟩ (.slice x2 s.l2.length z2)) x2 y2 0 s.l2:=(n2.far (fun _=>by omega)).far (fun _=>by omega)
 have hbF:Below w.heap.size w ((w2.setCell ⟨w.heap.size+1,0,none⟩ (.slice x1 s.l1.length z1)).setCell ⟨w.heap.size+1,1,none⟩ (.slice x2 s.l2.length z2)):=((hb2.trans (B2.mono (by omega))).setCell (by show w.heap.size≤w.heap.size+1;omega) _).setCell (by show w.heap.size≤w.heap.size+1;omega) _
 have hO:Own2 ((w2.setCell ⟨w.heap.size+1,0,none⟩ (.slice x1 s.l1.length z1)).setCell ⟨w.heap.size+1,1,none⟩ (.slice x2 s.l2.length z2)) ⟨x1,y1,0,z1,s.l1,x2,y2,0,z2,s.l2⟩:=by
  refine Own2.far (Own2.far ⟨fun h1 _=>?_,fun b hk j=>?_⟩)
  ·have:=n1.lt h1
   show y1≠y2
   omega
  ·rcases hk with ⟨h0,rfl⟩ | ⟨h0,rfl⟩
   ·exact (b2.frozen (p:=⟨_,j,none⟩) (n1.lt h0)).trans (fr1 h0 j)
   ·exact fr2 h0 j
 have q0:=hR3.c0
 have q1:=hR3.c1
 clear Z0 Z1 Y0 Y1 R0 R1 Rf C1 k0 k1 hR hR2
 generalize (w2.setCell ⟨w.heap.size+1,0,none⟩ (.slice x1 s.l1.length z1)).setCell ⟨w.heap.size+1,1,none⟩ (.slice x2 s.l2.length z2)=F at *
 go_wp2_with fail
 refine bodyPost_ret (v:=.agg #[.slice x1 s.l1.length z1,.slice x2 s.l2.length z2]) (by simp [results,Tryz.results50,go_sem,q0,q1]) rfl ⟨⟨x1,y1,0,z1,s.l1,x2,y2,0,z2,s.l2⟩,rfl,rfl,rfl,⟨⟨hF1,hF2⟩,by show w.heap.size≤y1;omega,by show w.heap.size≤y2;omega⟩,⟨hO,cp1⟩,hbF⟩
set_option maxHeartbeats 1000000 in
set_option maxRecDepth 100000 in
theorem iseenSortC_any (a:Option Addr) (b o c:Nat) (ks:List Key) (w:World) (hl:ks.length≤1048576) (hls:KLe ks 1048576) (h:KS w a b o ks) :
  Calls Tryz.prog 14 #[.slice a ks.length c] w fun e w'=>∃ a' g c',∃ uu:List Sn,e=.returned (.slice a' uu.length c')∧kys uu=M.sortK ks∧(NewL w.heap.size w' a' g uu∧∀ s∈uu,s.l1.length≤s.c1)∧uu.length≤ks.length∧uu.length≤c'∧Below w.heap.size w w':=by
 rcases Nat.eq_zero_or_pos ks.length with h0 | hpos
 ·have hk0:ks=[]:=List.length_eq_zero_iff.1 h0
  subst hk0
  rw [List.length_nil]
  go_enter Tryz.func14,Tryz.ntmps14
  go_wp2_with fail
  refine (inOrder_nil a c _).mono ?_
  rintro e w1 ⟨rfl,hb1⟩
  go_wp2_with fail
  go_loopw [10] (fun s10 wr=>s10=.int .i64 0∧wr=w1) (fun _ _=>0)
  case atStart=>exact ⟨rfl,rfl⟩
  case round =>
   obtain ⟨rfl,rfl⟩:=hrel
   go_wp2_with fail
   go_ret
   exact ⟨none,0,0,[],rfl,rfl,⟨⟨fun h=>absurd h (Nat.lt_irrefl _),fun h=>absurd h (Nat.lt_irrefl _),fun h=>absurd h (Nat.lt_irrefl _),fun s hs=>absurd hs (by simp),fun s hs=>absurd hs (by simp),⟨fun i _ hi=>absurd hi (Nat.not_lt_zero _),fun s hs=>absurd hs (by simp)⟩,fun s hs=>absurd hs (by simp)⟩,fun s hs=>absurd hs (by simp)⟩,Nat.le_refl _,Nat.le_refl _,hb1⟩
 ·obtain ⟨rfl⟩:=h.addr hpos
  obtain ⟨ss,hks,hcs⟩:=h.sns
  have hsl:ss.length=ks.length:=by rw [← hks,kys_len]
  have hle:∀ s∈ss,s.Le 1048576:=fun s hs=>by
   have:=hls s.ky (by rw [← hks];exact List.mem_map.2 ⟨s,hs,rfl⟩)
   exact ⟨this.1,this.2⟩
  have C0:=inOrder_any b o c ss w (by omega) (by omega) hle hcs
  rw [hsl,hks] at C0
  go_enter Tryz.func14,Tryz.ntmps14
  go_wp2_with fail
  refine C0.mono ?_
  rintro e w1 ⟨g,cap,uu,rfl,hSR,hoff,hku,hul,hcap,hge,hb1⟩
  clear C0 hcs hls h
  obtain ⟨N,hN⟩:∃ N,uu.length=N:=⟨_,rfl⟩
  have hNb:N≤1048576:=by omega
  rw [hN]
  rw [hN] at hul hcap
  have hg1:0 < N→g < w1.heap.size:=fun hp=>hSR.lt (by omega)
  go_wp2_with fail
  go_loopw [10] (fun s10 wr=>∃ (n:Nat) (vv:List Sn),s10=.int .i64 n∧n≤N∧Hid (vv.length=N)∧Hid (kys vv=M.sortK ks)∧SR wr g vv∧Hid (∀ s∈vv,Off wr g s)∧Hid (∀ i (_:i < n) (h1:i < vv.length),w.heap.size≤vv[i].b1∧w.heap.size≤vv[i].b2)∧Hid (∀ i j (_:i < n) (_:j < n) (hi:i < vv.length) (hj:j < vv.length),i≠j→∀ b,vv[i].blk b→¬ vv[j].blk b)∧Hid (∀ i (_:i < n) (hi:i < vv.length),Own2 wr vv[i]∧vv[i].l1.length≤vv[i].c1)∧Below w.heap.size w wr∧(0 < N→g < wr.heap.size)) (fun s10 _=>N - (intOf s10).toNat)
  case atStart=>exact ⟨0,uu,rfl,Nat.zero_le _,hN,hku,hSR,hoff,fun i h=>absurd h (Nat.not_lt_zero _),fun i _ h=>absurd h (Nat.not_lt_zero _),fun i h=>absurd h (Nat.not_lt_zero _),hb1,hg1⟩
  case round =>
   obtain ⟨n,vv,rfl,hnN,Hlen,Hky,hR,Hoff,Hfr,Hsp,How,hb,hgr⟩:=hrel
   clear hSR hoff hb1 hg1
   by_cases hlt:n < N
   ·have hnv:n < vv.length:=by rw [Hlen.out];exact hlt
    obtain ⟨c1,c2⟩:=hR.c n hnv
    have ho:=Hoff.out _ (List.getElem_mem hnv)
    obtain ⟨s,hs⟩:∃ s,vv[n]=s:=⟨_,rfl⟩
    rw [hs] at c1 c2 ho
    have HS:Hid (vv[n]=s):=hs
    clear hs
    have i1:(n:Int) < N:=by omega
    have hgl:=hgr (by omega)
    have fz:=hR.fz
    go_wp2_with fail
    have hbx:=below1 wr (.cells #[.slice s.a1 s.l1.length s.c1,.slice s.a2 s.l2.length s.c2] 35)
    refine (copySeenC_any s _ ho.le (ho.at_.below hbx (Nat.le_refl _))).mono ?_
    rintro e w2 ⟨t,rfl,ht1,ht2,htf,hto,hb2⟩
    have hbr2:Below wr.heap.size wr w2:=hbx.trans (hb2.mono (by simp))
    have hR2:=hR.below hbr2 hgl
    obtain ⟨d1,d2⟩:=hR2.c n hnv
    have fz2:=hR2.fz
    have htg:wr.heap.size+1≤t.b1∧wr.heap.size+1≤t.b2:=⟨by have:=htf.g1;simpa using this,by have:=htf.g2;simpa using this⟩
    have hsz:=hb.size
    have hot:Off w2 g t:=⟨htf.at_,⟨by rw [ht1];exact ho.le.reads,by rw [ht2];exact ho.le.last⟩,fun _=>by omega,fun _=>by omega⟩
    have HT1:Hid (t.l1=s.l1):=ht1
    have HT2:Hid (t.l2=s.l2):=ht2
    clear ht1 ht2
    go_wp2_with fail
    refine ⟨⟨n+1,vv.set n t,by go_num,by omega,(List.length_set ..).trans Hlen.out,?_,hR2.set hnv t,?_,?_,?_,?_,?_,?_⟩,by simp [intOf];omega⟩
    ·show kys (vv.set n t)=M.sortK ks
     have e:t.ky=vv[n].ky:=by rw [HS.out];exact Prod.ext HT1.out HT2.out
     rw [← Hky.out,kys,List.map_set,e,kys]
     have:vv[n].ky=(vv.map Sn.ky)[n]'(by simpa using hnv):=by simp
     rw [this,List.set_getElem_self]
    ·intro s' hs'
     rcases List.mem_or_eq_of_mem_set hs' with h | rfl
     ·exact ((Hoff.out s' h).below hbr2).far.far
     ·exact hot.far.far
    ·intro i hi h1
     by_cases e:i=n
     ·subst e
      rw [List.getElem_set_self]
      omega
     ·rw [List.getElem_set_ne (fun h=>e h.symm)]
      exact Hfr.out i (by omega) (by simpa using h1)
    ·have new:∀ b,t.blk b→wr.heap.size≤b:=fun b hk=>by
      rcases hk with ⟨_,rfl⟩ | ⟨_,rfl⟩<;>omega
     have old:∀ i (hi:i < vv.length),∀ b,vv[i].blk b→b < wr.heap.size:=fun i hi b hk=>Sn.blk_lt (Hoff.out _ (List.getElem_mem hi)).at_ hk
     intro i j hi hj hi2 hj2 hij b hk hk'
     have hi3:i < vv.length:=by simpa using hi2
     have hj3:j < vv.length:=by simpa using hj2
     by_cases ei:i=n
     ·subst ei
      rw [List.getElem_set_self] at hk
      rw [List.getElem_set_ne hij] at hk'
      have:=new b hk
      have:=old j hj3 b hk'
      omega
     ·rw [List.getElem_set_ne (fun h=>ei h.symm)] at hk
      by_cases ej:j=n
      ·subst ej
       rw [List.getElem_set_self] at hk'
       have:=new b hk'
       have:=old i hi3 b hk
       omega
      ·rw [List.getElem_set_ne (fun h=>ej h.symm)] at hk'
       exact Hsp.out i j (by omega) (by omega) hi3 hj3 hij b hk hk'
    ·intro i hi hi2
     have hi3:i < vv.length:=by simpa using hi2
     by_cases ei:i=n
     ·subst ei
      rw [List.getElem_set_self]
      exact ⟨hto.1.far.far,hto.2⟩
     ·rw [List.getElem_set_ne (fun h=>ei h.symm)]
      exact ⟨((How.out i (by omega) hi3).1.below (Hoff.out _ (List.getElem_mem hi3)).at_ hbr2).far.far,(How.out i (by omega) hi3).2⟩
    ·exact ((hb.trans (hbr2.mono hb.size)).setCell (by show w.heap.size≤g;omega) _).setCell (by show w.heap.size≤g;omega) _
    ·intro _
     have:=hbr2.size
     simp [World.setCell]
     omega
   ·obtain rfl:n=N:=by omega
    go_wp2_with fail
    go_ret
    refine ⟨some ⟨g,0,none⟩,g,cap,vv,by rw [Hlen.out];rfl,Hky.out,⟨⟨fun _=>rfl,fun _=>hge,fun _=>hR,Hoff.out,fun s hs=>?_,⟨fun i j hi hj hij=>Hsp.out i j (by rw [← Hlen.out];exact hi) (by rw [← Hlen.out];exact hj) hi hj hij,fun s hs=>?_⟩,fun s hs=>?_⟩,fun s hs=>?_⟩,by rw [Hlen.out];omega,by rw [Hlen.out];omega,hb⟩
    all_goals obtain ⟨i,hi,rfl⟩:=List.getElem_of_mem hs
    ·exact Hfr.out i (by rw [← Hlen.out];exact hi) hi
    ·exact (How.out i (by rw [← Hlen.out];exact hi) hi).1.ne
    ·exact (How.out i (by rw [← Hlen.out];exact hi) hi).1
    ·exact (How.out i (by rw [← Hlen.out];exact hi) hi).2
end Go.Proofs.YtihfibjckkmmbaaGreat
