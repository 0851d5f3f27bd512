/- The laws' comparing of two programs. Of programs of at most 1048576 threads, each of at most 1048576 steps. The laws' own comparing of lists of what was seen: laws.lpList, at two that are the same. Of at most 1048576. -/
import Derived.BigQuiet
import Derived.Deep.Quiet
import Derived.Deep.QuietTactic
import Derived.Deep.RegionHeld3
import Derived.Deep.RegionWith
import Derived.Shelf.Abstract
import Derived.Sort.Grow
import Derived.WalkKit
import Derived.WalkLawsBesides
import Derived.WalkSpells
import Derived.Test.YtihfibjckkmmbaaGreatRows
import Derived.Test.YtihfibjckkmmbaaGreatOeap
namespace Go.Proofs.YtihfibjckkmmbaaGreat
open Go.RowKit
def M.eqD (d e:M.D):Bool:=d.k==e.k&&d.p==e.p&&d.v==e.v
theorem M.eqD_iff (d e:M.D):M.eqD d e=true↔d=e:=by
 obtain ⟨k,p,v⟩:=d
 obtain ⟨k',p',v'⟩:=e
 simp [M.eqD,and_assoc]
theorem Tryz.eqDo (d e:M.D) (w:World):(Op.equalIn 10000 56 (.agg #[.int .i64 d.k,.int .i64 d.p,.int .i64 d.v]) (.agg #[.int .i64 e.k,.int .i64 e.p,.int .i64 e.v])).run Tryz.prog w=.ok (M.eqD d e) w:=by
 have hs:Tryz.prog.stoodInHeld 56=false:=by kernel_rfl
 obtain ⟨k,p,v⟩:=d
 obtain ⟨k',p',v'⟩:=e
 rw [show (10000:Nat)=9998+1+1 from rfl]
 unfold Op.equalIn
 by_cases h1:k=k'
 ·subst h1
  by_cases h2:p=p'
  ·subst h2
   by_cases h3:v=v'
   ·subst h3
    simp [run_underlying Tryz.underlying56,hs,part,go_sem,M.eqD]
   ·have e3:(v==v')=false:=by simpa using h3
    simp [run_underlying Tryz.underlying56,hs,part,go_sem,M.eqD,e3]
  ·have e2:(p==p')=false:=by simpa using h2
   simp [run_underlying Tryz.underlying56,hs,part,go_sem,M.eqD,e2]
 ·have e1:(k==k')=false:=by simpa using h1
  simp [run_underlying Tryz.underlying56,hs,part,go_sem,M.eqD,e1]
noncomputable def M.eqLL (ll mm:List (List M.D)):Bool:=@decide (ll=mm) (Classical.propDecidable _)
theorem M.eqLL_yes {ll mm:List (List M.D)} (h:ll=mm):M.eqLL ll mm=true:=by unfold M.eqLL;exact @decide_eq_true _ (Classical.propDecidable _) h
theorem M.eqLL_no {ll mm:List (List M.D)} (h:ll≠mm):M.eqLL ll mm=false:=by unfold M.eqLL;exact @decide_eq_false _ (Classical.propDecidable _) h
theorem Below.drewN' {B:Nat} {a b:World} (h:Below B a b) (n:Nat):Below B a (b.drewN n):=h.trans ⟨rfl,rfl,rfl,Nat.le_refl _,fun _ _=>rfl⟩
def AsFar {α:Type} (l m:List α) (n:Nat):Prop:=∀ i,i < n→l[i]?=m[i]?
theorem AsFar.all {α:Type} {l m:List α} {n:Nat} (h:AsFar l m n) (hl:l.length=m.length) (hn:l.length≤n):l=m:=by
 apply List.ext_getElem?
 intro i
 rcases Nat.lt_or_ge i n with hi | hi
 ·exact h i hi
 ·rw [List.getElem?_eq_none (by omega),List.getElem?_eq_none (by omega)]
theorem AsFar.step {α:Type} {l m:List α} {n:Nat} (h:AsFar l m n) (e:l[n]?=m[n]?):AsFar l m (n+1):=fun i hi=>by
 rcases Nat.lt_or_ge i n with h1 | h1
 ·exact h i h1
 ·obtain rfl:i=n:=by omega
  exact e
set_option maxHeartbeats 400000 in
theorem lpProg_any (a:Option Addr) (b o c:Nat) (a2:Option Addr) (b2 o2 c2:Nat) (ll mm:List (List M.D)) (w:World) (hl:ll.length≤1048576) (hm:mm.length≤1048576) (hls:∀ t∈ll,t.length≤1048576) (h:DoSS w a b o ll) (h2:DoSS w a2 b2 o2 mm) :
  Calls Tryz.prog 11 #[.agg #[.slice a ll.length c],.agg #[.slice a2 mm.length c2]] w fun e w'=>e=.returned (.bool (M.eqLL ll mm))∧Below w.heap.size w w':=by
 by_cases hlm0:ll.length=mm.length
 ·have e0:((ll.length:Int) != mm.length)=false:=by simp;omega
  have HLM:Hid (ll.length=mm.length):=hlm0
  clear hlm0
  go_enter Tryz.func11,Tryz.ntmps11
  go_wp2_with fail
  have hb0:=below2 w (.cells #[.slice a ll.length c] 25) (.cells #[.slice a2 mm.length c2] 25)
  have hs0:=h.below hb0 (Nat.le_refl _)
  have hs2:=h2.below hb0 (Nat.le_refl _)
  have bA:((w.alloc (.cells #[.slice a ll.length c] 25)).alloc (.cells #[.slice a2 mm.length c2] 25)).cell? ⟨w.heap.size,0,none⟩=some (.slice a ll.length c):=by simp
  have bB:((w.alloc (.cells #[.slice a ll.length c] 25)).alloc (.cells #[.slice a2 mm.length c2] 25)).cell? ⟨w.heap.size+1,0,none⟩=some (.slice a2 mm.length c2):=by simp
  generalize (w.alloc (.cells #[.slice a ll.length c] 25)).alloc (.cells #[.slice a2 mm.length c2] 25)=W0 at *
  have ltA:=World.block_lt_of_cell? _ _ bA
  have ltB:=World.block_lt_of_cell? _ _ bB
  clear h h2
  go_loopw [5] (fun s5 wr=>∃ n:Nat,s5=.int .i64 n∧n≤ll.length∧AsFar ll mm n∧Below W0.heap.size W0 wr) (fun s5 _=>ll.length - (intOf s5).toNat)
  case atStart=>exact ⟨0,rfl,Nat.zero_le _,fun i hi=>absurd hi (Nat.not_lt_zero _),Below.refl _ _⟩
  case round =>
   obtain ⟨n,rfl,hn,hfar,hbel⟩:=hrel
   have HF:Hid (AsFar ll mm n):=hfar
   have xA:=(hbel.cell (p:=⟨w.heap.size,0,none⟩) ltA).trans bA
   have xB:=(hbel.cell (p:=⟨w.heap.size+1,0,none⟩) ltB).trans bB
   clear hfar
   by_cases hlt:n < ll.length
   ·have hlt2:n < mm.length:=by have:=HLM.out;omega
    obtain ⟨rfl⟩:=hs0.addr (by omega)
    obtain ⟨rfl⟩:=hs2.addr (by omega)
    obtain ⟨a',b',o',c',hc,hd⟩:=(hs0.below hbel (Nat.le_refl _)).row n hlt
    obtain ⟨a3,b3,o3,c3,hc3,hd3⟩:=(hs2.below hbel (Nat.le_refl _)).row n hlt2
    have hlt':=hls _ (List.getElem_mem hlt)
    have H1:Hid (ll[n]?=some ll[n]):=List.getElem?_eq_getElem hlt
    have H2:Hid (mm[n]?=some mm[n]):=List.getElem?_eq_getElem hlt2
    generalize ll[n]=t at hd hc hlt' H1
    generalize mm[n]=u at hd3 hc3 H2
    have hne:t≠u→ll≠mm:=fun h1 h2=>h1 (Option.some.inj (H1.out.symm.trans ((congrArg (fun l=>l[n]?) h2).trans H2.out)))
    have i1:(n:Int) < ll.length:=by omega
    have i2:(n:Int) < mm.length:=by omega
    by_cases htu:t.length=u.length
    ·have e1:((t.length:Int) != u.length)=false:=by simp;omega
     have HTU:Hid (t.length=u.length):=htu
     clear htu
     go_wp2_with fail
     go_quiet (fail)
     go_wp2_with fail
     have hltA:w.heap.size < wr.heap.size:=World.block_lt_of_cell? _ _ xA
     have hltB:w.heap.size+1 < wr.heap.size:=World.block_lt_of_cell? _ _ xB
     have ltc:b < wr.heap.size:=World.block_lt_of_cell? _ _ hc
     have ltc3:b2 < wr.heap.size:=World.block_lt_of_cell? _ _ hc3
     go_loopw [6] (fun s6 wi=>∃ k:Nat,s6=.int .i64 k∧k≤t.length∧AsFar t u k∧Below wr.heap.size wr wi) (fun s6 _=>t.length - (intOf s6).toNat)
     case atStart=>exact ⟨0,rfl,Nat.zero_le _,fun i hi=>absurd hi (Nat.not_lt_zero _),Below.drewN' (Below.refl _ _) _⟩
     case round =>
      obtain ⟨k,rfl,hk,hfar,hbi⟩:=hrel
      have HG:Hid (AsFar t u k):=hfar
      have yA:=(hbi.cell (p:=⟨w.heap.size,0,none⟩) hltA).trans xA
      have yB:=(hbi.cell (p:=⟨w.heap.size+1,0,none⟩) hltB).trans xB
      have yC:=(hbi.cell (p:=⟨b,o+n,none⟩) ltc).trans hc
      have yD:=(hbi.cell (p:=⟨b2,o2+n,none⟩) ltc3).trans hc3
      clear hfar xA xB bA bB hc hc3
      by_cases hkt:k < t.length
      ·have hku:k < u.length:=by have:=HTU.out;omega
       obtain ⟨rfl⟩:=hd.addr (by omega)
       obtain ⟨rfl⟩:=hd3.addr (by omega)
       have x1:=(hd.row k hkt).below hbi (Nat.le_refl _)
       have x2:=(hd3.row k hku).below hbi (Nat.le_refl _)
       have K1:Hid (t[k]?=some t[k]):=List.getElem?_eq_getElem hkt
       have K2:Hid (u[k]?=some u[k]):=List.getElem?_eq_getElem hku
       have j1:(k:Int) < t.length:=by omega
       have j2:(k:Int) < u.length:=by omega
       generalize t[k]=d at x1 K1
       generalize u[k]=e at x2 K2
       have hq:∀ W,_:=Tryz.eqDo d e
       obtain ⟨k1,p1,v1⟩:=d
       obtain ⟨k2,p2,v2⟩:=e
       obtain ⟨ck,cp,cv⟩:=x1
       obtain ⟨ck2,cp2,cv2⟩:=x2
       cases he:M.eqD ⟨k1,p1,v1⟩ ⟨k2,p2,v2⟩
       ·rw [he] at hq
        go_wp2_with fail
        go_quiet (fail)
        go_wp2_with fail
        go_ret
        exact ⟨ret_bool (M.eqLL_no (hne fun h=>by
         have h1:some (M.D.mk k1 p1 v1)=some (M.D.mk k2 p2 v2):=K1.out.symm.trans ((congrArg (fun l=>l[k]?) h).trans K2.out)
         rw [(M.eqD_iff _ _).2 (Option.some.inj h1)] at he
         cases he)).symm,hb0.trans ((hbel.trans (Below.drewN' (hbi.mono hbel.size) _)).mono hb0.size)⟩
       ·rw [he] at hq
        go_wp2_with fail
        go_quiet (fail)
        go_wp2_with fail
        exact ⟨⟨k+1,by go_num,by omega,HG.out.step (by show t[k]?=u[k]?;rw [K1.out,K2.out,(M.eqD_iff _ _).1 he]),Below.drewN' hbi _⟩,by simp [intOf];omega⟩
      ·go_wp2_with fail
       exact ⟨⟨n+1,by go_num,by omega,HF.out.step (by show ll[n]?=mm[n]?;rw [H1.out,H2.out,HG.out.all HTU.out (by omega)]),hbel.trans (hbi.mono hbel.size)⟩,by simp [intOf];omega⟩
    ·have e1:((t.length:Int) != u.length)=true:=by simp;omega
     go_wp2_with fail
     go_quiet (fail)
     go_wp2_with fail
     go_ret
     exact ⟨ret_bool (M.eqLL_no (hne fun h=>htu (congrArg _ h))).symm,hb0.trans (Below.drewN' (hbel.mono hb0.size) _)⟩
   ·go_wp2_with fail
    go_ret
    exact ⟨ret_bool (M.eqLL_yes (HF.out.all HLM.out (by omega))).symm,hb0.trans (hbel.mono hb0.size)⟩
 ·have e0:((ll.length:Int) != mm.length)=true:=by simp;omega
  go_enter Tryz.func11,Tryz.ntmps11
  go_wp2_with fail
  go_ret
  exact ⟨ret_bool (M.eqLL_no fun h=>hlm0 (congrArg _ h)).symm,below2 _ _ _⟩
end Go.Proofs.YtihfibjckkmmbaaGreat
namespace Go.Proofs.YtihfibjckkmmbaaGreat
open Go.RowKit
theorem M.sameS_self (a b:List Int):M.sameS a b a b=true:=by rw [M.sameS_eq,M.cmpS_self];rfl
set_option maxHeartbeats 1000000 in
set_option maxRecDepth 100000 in
theorem lpList_same (a:Option Addr) (b o c:Nat) (a2:Option Addr) (b2 o2 c2:Nat) (ks:List Key) (w:World) (hl:ks.length≤1048576) (hls:KLe ks 1048576) (h:KS w a b o ks) (h2:KS w a2 b2 o2 ks) :
  Calls Tryz.prog 13 #[.slice a ks.length c,.slice a2 ks.length c2] w fun e w'=>e=.returned (.bool true)∧Below w.heap.size w w':=by
 go_enter Tryz.func13,Tryz.ntmps13
 go_wp2_with fail
 go_loopw [5] (fun s5 wr=>∃ n:Nat,s5=.int .i64 n∧n≤ks.length∧Below w.heap.size w wr) (fun s5 _=>ks.length - (intOf s5).toNat)
 case atStart=>exact ⟨0,rfl,Nat.zero_le _,Below.refl _ _⟩
 case round =>
  obtain ⟨n,rfl,hn,hb⟩:=hrel
  by_cases hlt:n < ks.length
  ·obtain ⟨rfl⟩:=h.addr (by omega)
   obtain ⟨rfl⟩:=h2.addr (by omega)
   obtain ⟨s,h1,h2',c1,c2',hsa⟩:=(h.below hb (Nat.le_refl _)).row n hlt
   obtain ⟨t,t1,t2,d1,d2,hta⟩:=(h2.below hb (Nat.le_refl _)).row n hlt
   obtain ⟨e1,e2⟩:=hls _ (List.getElem_mem hlt)
   have hsl:s.Le 1048576:=⟨by rw [h1];exact e1,by rw [h2'];exact e2⟩
   have C:=fun p:BelowOf wr=>(lpSame_any s t p.x hsl (hsa.below p.h (Nat.le_refl _)) (hta.below p.h (Nat.le_refl _)))
   have hq:M.sameS s.l1 s.l2 t.l1 t.l2=true:=by rw [h1,h2',t1,t2,M.sameS_self]
   rw [hq] at C
   clear h1 h2' t1 t2 e1 e2 hq
   have K1:=BelowOf.cell c1
   have K2:=BelowOf.cell c2'
   have K3:=BelowOf.cell d1
   have K4:=BelowOf.cell d2
   have i1:(n:Int) < ks.length:=by omega
   go_wp2_with fail
   haveI:Inhabited (BelowOf wr):=⟨belOf wr⟩
   refine wp_region_quiet_bel (by kernel_rfl) (by kernel_rfl) ?_
   repeat (quiet_step (first | (go_at_call 47;exact Calls.bel_of ((C _).mono fun _ _ ⟨he,hg⟩=>⟨he,hg.bel⟩))))
   refine wpQuiet_nil ?_
   rintro wq ⟨⟨wx,hwq⟩,ew⟩
   change wq=wx at ew
   subst ew
   go_wp2_with fail
   exact ⟨⟨n+1,by go_num,by omega,hb.trans (hwq.mono hb.size)⟩,by simp [intOf];omega⟩
  ·go_wp2_with fail
   go_ret
   exact ⟨rfl,hb⟩
end Go.Proofs.YtihfibjckkmmbaaGreat
