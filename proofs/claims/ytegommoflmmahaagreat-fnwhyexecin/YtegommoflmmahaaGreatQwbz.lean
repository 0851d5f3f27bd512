/- . -/
import Derived.Deep.OwnRows
import Derived.Test.YtegommoflmmahaaGreatRows
import Derived.Test.YtegommoflmmahaaGreatQwby
namespace Go.Proofs.YtegommoflmmahaaGreat
section
open Go.RowKit Go.Shelf
set_option maxHeartbeats 400000 in
theorem lpIntsX_any (a:Option Addr) (b o c:Nat) (l:List Int) (a2:Option Addr) (b2 o2 c2:Nat) (m:List Int) (w:World) (hl:l.length≤1048576) (h:IntS w a b o l) (h2:IntS w a2 b2 o2 m) :
  Calls Tryz.prog 50 #[.slice a l.length c,.slice a2 m.length c2] w fun e w'=>e=.returned (.bool (M.same l m))∧Grown w w':=by
 by_cases hlm:l.length=m.length
 ·have hlm':((l.length:Int)==m.length)=true:=by simp;omega
  have hlm2:(l.length:Int)=m.length:=by omega
  go_enter Tryz.func50,Tryz.ntmps50
  go_wp2_with fail
  go_loopw [5] (fun s5 wr=>∃ n:Nat,s5=.int .i64 n∧n≤l.length∧(∀ q (_:q < n) (h1:q < l.length) (h2:q < m.length),l[q]=m[q])∧Grown w wr) (fun s5 _=>l.length - (intOf s5).toNat)
  case atStart=>exact ⟨0,rfl,Nat.zero_le _,fun _ hq _ _=>absurd hq (Nat.not_lt_zero _),Grown.refl _⟩
  case round =>
   obtain ⟨n,rfl,hn,hall,hg⟩:=hrel
   have HA:Hid (∀ q (_:q < n) (h1:q < l.length) (h2:q < m.length),l[q]=m[q]):=hall
   clear hall
   by_cases hlt:n < l.length
   ·have hmt:n < m.length:=by omega
    obtain ⟨rfl⟩:=h.addr (by omega)
    obtain ⟨rfl⟩:=h2.addr (by omega)
    have hc:=(h.below hg.bel (Nat.le_refl _)).row n hlt
    have hc2:=(h2.below hg.bel (Nat.le_refl _)).row n hmt
    have HD:Hid (l.drop n=l[n]::l.drop (n+1)):=M.drop_int l n hlt
    have HD2:Hid (m.drop n=m[n]::m.drop (n+1)):=M.drop_int m n hmt
    have i1:(n:Int) < l.length:=by omega
    have i2:(n:Int) < m.length:=by omega
    by_cases hxy:l[n]=m[n]
    ·have HX:Hid (l[n]=m[n]):=hxy
     rw [← hxy] at hc2
     clear hxy HD HD2
     generalize l[n]=x at hc hc2
     go_wp2_with fail
     go_quiet (fail)
     go_wp2_with fail
     exact ⟨⟨n+1,by go_num,by omega,fun q hq h1 h2=>by
      by_cases e:q=n
      ·subst e;exact HX.out
      ·exact HA.out q (by omega) h1 h2,hg.drewN _⟩,by simp [intOf];omega⟩
    ·generalize l[n]=x at hc hxy HD
     generalize m[n]=y at hc2 hxy HD2
     have hxy':(x==y)=false:=by simpa using hxy
     go_wp2_with fail
     go_quiet (fail)
     go_wp2_with fail
     go_ret
     exact ⟨ret_bool (M.same_bad HD.out HD2.out hxy).symm,hg.drewN _⟩
   ·go_wp2_with fail
    go_ret
    exact ⟨ret_bool (M.same_fin hlm fun q h1 h2=>HA.out q (by omega) h1 h2).symm,hg⟩
 ·have hlm':((l.length:Int)==m.length)=false:=by simp;omega
  have hlm2:¬ (l.length:Int)=m.length:=by omega
  go_enter Tryz.func50,Tryz.ntmps50
  go_wp2_with fail
  go_ret
  exact ⟨ret_bool (M.same_len hlm).symm,Grown.refl _⟩
def M.eqWy (x y:M.Wy):Bool:=decide (x=y)
theorem M.eqWy_no1 {x y:M.Wy} (h:M.same x.1 y.1=false):M.eqWy x y=false:=by
 have:¬ x=y:=fun e=>by rw [e,(M.same_eq y.1 y.1).2 rfl] at h;cases h
 simp [M.eqWy,this]
theorem M.eqWy_no2 {x y:M.Wy} (h:x.2.length≠y.2.length):M.eqWy x y=false:=by
 have:¬ x=y:=fun e=>h (by rw [e])
 simp [M.eqWy,this]
theorem M.eqWy_no3 {x y:M.Wy} {n:Nat} (h1:n < x.2.length) (h2:n < y.2.length) (h:M.same x.2[n] y.2[n]=false):M.eqWy x y=false:=by
 have:¬ x=y:=fun e=>by
  subst e
  rw [(M.same_eq x.2[n] x.2[n]).2 rfl] at h;cases h
 simp [M.eqWy,this]
theorem M.eqWy_yes {x y:M.Wy} (h1:M.same x.1 y.1=true) (h2:x.2.length=y.2.length) (h:∀ q (h1:q < x.2.length) (h2:q < y.2.length),x.2[q]=y.2[q]):M.eqWy x y=true:=by
 have:x=y:=Prod.ext ((M.same_eq _ _).1 h1) (List.ext_getElem h2 h)
 simp [M.eqWy,this]
set_option maxHeartbeats 1000000 in
set_option maxRecDepth 100000 in
theorem lpExec_any (x y:M.Wy) (fa:Option Addr) (fb fc:Nat) (ra:Option Addr) (rb rc:Nat) (fa2:Option Addr) (fb2 fc2:Nat) (ra2:Option Addr) (rb2 rc2:Nat) (w:World) (hl1:x.1.length≤1048576) (hl2:x.2.length≤1048576) (hl3:∀ r∈x.2,r.length≤1048576) (h1:IntS w fa fb 0 x.1) (h2:IntSS w ra rb 0 x.2) (h3:IntS w fa2 fb2 0 y.1) (h4:IntSS w ra2 rb2 0 y.2) :
  Calls Tryz.prog 13 #[.agg #[.slice fa x.1.length fc,.slice ra x.2.length rc],.agg #[.slice fa2 y.1.length fc2,.slice ra2 y.2.length rc2]] w fun e w'=>e=.returned (.bool (M.eqWy x y))∧Below w.heap.size w w':=by
 have b2:=below2 w (.cells #[.slice fa x.1.length fc,.slice ra x.2.length rc] 33) (.cells #[.slice fa2 y.1.length fc2,.slice ra2 y.2.length rc2] 33)
 have ka0:((w.alloc (.cells #[.slice fa x.1.length fc,.slice ra x.2.length rc] 33)).alloc (.cells #[.slice fa2 y.1.length fc2,.slice ra2 y.2.length rc2] 33)).cell? ⟨w.heap.size,0,none⟩=some (.slice fa x.1.length fc):=by simp [go_sem]
 have ka1:((w.alloc (.cells #[.slice fa x.1.length fc,.slice ra x.2.length rc] 33)).alloc (.cells #[.slice fa2 y.1.length fc2,.slice ra2 y.2.length rc2] 33)).cell? ⟨w.heap.size,1,none⟩=some (.slice ra x.2.length rc):=by simp [go_sem]
 have kb0:((w.alloc (.cells #[.slice fa x.1.length fc,.slice ra x.2.length rc] 33)).alloc (.cells #[.slice fa2 y.1.length fc2,.slice ra2 y.2.length rc2] 33)).cell? ⟨w.heap.size+1,0,none⟩=some (.slice fa2 y.1.length fc2):=by simp [go_sem]
 have kb1:((w.alloc (.cells #[.slice fa x.1.length fc,.slice ra x.2.length rc] 33)).alloc (.cells #[.slice fa2 y.1.length fc2,.slice ra2 y.2.length rc2] 33)).cell? ⟨w.heap.size+1,1,none⟩=some (.slice ra2 y.2.length rc2):=by simp [go_sem]
 have sz0:((w.alloc (.cells #[.slice fa x.1.length fc,.slice ra x.2.length rc] 33)).alloc (.cells #[.slice fa2 y.1.length fc2,.slice ra2 y.2.length rc2] 33)).heap.size=w.heap.size+2:=by simp
 go_enter Tryz.func13,Tryz.ntmps13
 go_wp2_with fail
 generalize (w.alloc (.cells #[.slice fa x.1.length fc,.slice ra x.2.length rc] 33)).alloc (.cells #[.slice fa2 y.1.length fc2,.slice ra2 y.2.length rc2] 33)=W0 at *
 have C1:=lpIntsX_any fa fb 0 fc x.1 fa2 fb2 0 fc2 y.1 W0 hl1 (h1.below b2 (Nat.le_refl _)) (h3.below b2 (Nat.le_refl _))
 have lw:w.heap.size < W0.heap.size:=by omega
 have lw1:w.heap.size+1 < W0.heap.size:=by omega
 cases hs:M.same x.1 y.1
 ·rw [hs] at C1
  refine C1.mono ?_
  rintro e W1 ⟨rfl,g1⟩
  have HR:Hid (M.eqWy x y=false):=M.eqWy_no1 hs
  clear hs C1
  go_wp2_with fail
  go_ret
  exact ⟨ret_bool HR.out.symm,b2.trans (g1.bel.mono b2.size)⟩
 ·rw [hs] at C1
  refine C1.mono ?_
  rintro e W1 ⟨rfl,g1⟩
  have q0:=(g1.bel.cell (p:=⟨w.heap.size,1,none⟩) lw).trans ka1
  have p9:=(g1.bel.cell (p:=⟨w.heap.size+1,1,none⟩) lw1).trans kb1
  have bw1:=b2.trans (g1.bel.mono b2.size)
  by_cases hln:x.2.length=y.2.length
  ·have HL:Hid (x.2.length=y.2.length):=hln
   have hn1:((x.2.length:Int) != y.2.length)=false:=by simp;omega
   have HS:Hid (M.same x.1 y.1=true):=hs
   have hly:y.2.length≤1048576:=by omega
   clear hln hs C1
   go_wp2_with fail
   go_loopw [5] (fun s5 wr=>∃ n:Nat,s5=.int .i64 n∧n≤x.2.length∧Hid (∀ q (_:q < n) (h1:q < x.2.length) (h2:q < y.2.length),x.2[q]=y.2[q])∧Below W1.heap.size W1 wr) (fun s5 _=>x.2.length - (intOf s5).toNat)
   case atStart=>exact ⟨0,rfl,Nat.zero_le _,(fun _ hq _ _=>absurd hq (Nat.not_lt_zero _)),Below.refl _ _⟩
   case round =>
    obtain ⟨n,rfl,hn,HA,hb⟩:=hrel
    have s1:=g1.bel.size
    have r0:=(hb.cell (p:=⟨w.heap.size,1,none⟩) (by show w.heap.size < _;omega)).trans q0
    have r1:=(hb.cell (p:=⟨w.heap.size+1,1,none⟩) (by show w.heap.size+1 < _;omega)).trans p9
    have hbw:=bw1.trans (hb.mono bw1.size)
    by_cases hlt:n < x.2.length
    ·have hmt:n < y.2.length:=by have:=HL.out;omega
     obtain rfl:=h2.addr (by omega)
     obtain rfl:=h4.addr (by omega)
     obtain ⟨a',b',o',c',hc,hd⟩:=(h2.below hbw (Nat.le_refl _)).row n hlt
     obtain ⟨a3,b3,o3,c3,hc3,hd3⟩:=(h4.below hbw (Nat.le_refl _)).row n hmt
     rw [Nat.zero_add] at hc hc3
     have i1:(n:Int) < x.2.length:=by omega
     have i2:(n:Int) < y.2.length:=by omega
     have i0:¬ (n:Int) < 0:=by omega
     have hrl:=hl3 _ (List.getElem_mem hlt)
     have lb:rb < wr.heap.size:=World.block_lt_of_cell? _ _ hc
     have lb3:rb2 < wr.heap.size:=World.block_lt_of_cell? _ _ hc3
     have HSM:Hid (M.same x.2[n] y.2[n]=false→M.eqWy x y=false):=fun h=>M.eqWy_no3 hlt hmt h
     have HSY:Hid (M.same x.2[n] y.2[n]=true→x.2[n]=y.2[n]):=fun h=>(M.same_eq _ _).1 h
     have HN:Hid (∀ q (_:q < n+1) (h1:q < x.2.length) (h2:q < y.2.length),x.2[n]=y.2[n]→x.2[q]=y.2[q]):=fun q hq h1 h2 e=>by
      by_cases eq:q=n
      ·subst eq;exact e
      ·exact HA.out q (by omega) h1 h2
     generalize x.2[n]=r at *
     generalize y.2[n]=r2 at *
     have CL:=fun (W:World) (hb:Below wr.heap.size wr W)=>lpIntsX_any a' b' o' c' r a3 b3 o3 c3 r2 W hrl (hd.below hb (Nat.le_refl _)) (hd3.below hb (Nat.le_refl _))
     have CC:∀ W:World,Below wr.heap.size wr W→W.cell? ⟨w.heap.size,1,none⟩=some (.slice (some ⟨rb,0,none⟩) x.2.length rc)∧W.cell? ⟨w.heap.size+1,1,none⟩=some (.slice (some ⟨rb2,0,none⟩) y.2.length rc2)∧W.cell? ⟨rb,n,none⟩=some (.slice a' r.length c')∧W.cell? ⟨rb2,n,none⟩=some (.slice a3 r2.length c3):=fun W hbW=>⟨(hbW.cell (p:=⟨w.heap.size,1,none⟩) (World.block_lt_of_cell? _ _ r0)).trans r0,(hbW.cell (p:=⟨w.heap.size+1,1,none⟩) (World.block_lt_of_cell? _ _ r1)).trans r1,(hbW.cell (p:=⟨rb,n,none⟩) lb).trans hc,(hbW.cell (p:=⟨rb2,n,none⟩) lb3).trans hc3⟩
     go_wp2_with fail
     refine wp_region_held_drew (S:=fun w'=>Below wr.heap.size wr w') (by kernel_rfl) (Below.refl _ _).drew (fun hH=>?_)
     refine tk 0 28 (.pointer (some ⟨w.heap.size,1,none⟩)) hH rfl rfl (by intro w' hSw;obtain ⟨q1,q2,q3,q4⟩:=CC w' hSw;go_simp) ?_
     simp only [Act.put,q1,q2,q3]
     refine tk 1 29 (.slice (some ⟨rb,0,none⟩) x.2.length rc) hH rfl rfl (by intro w' hSw;obtain ⟨q1,q2,q3,q4⟩:=CC w' hSw;go_simp) ?_
     simp only [Act.put,q1,q2,q3]
     refine tk 2 30 (.int .i64 n) hH rfl rfl (by intro w' hSw;obtain ⟨q1,q2,q3,q4⟩:=CC w' hSw;go_simp) ?_
     simp only [Act.put,q1,q2,q3]
     refine tk 3 31 (.pointer (some ⟨rb,n,none⟩)) hH rfl rfl (by intro w' hSw;obtain ⟨q1,q2,q3,q4⟩:=CC w' hSw;go_simp) ?_
     simp only [Act.put,q1,q2,q3]
     refine tk 4 32 (.slice a' r.length c') hH rfl rfl (by intro w' hSw;obtain ⟨q1,q2,q3,q4⟩:=CC w' hSw;go_simp) ?_
     simp only [Act.put,q1,q2,q3]
     refine tk 5 33 (.pointer (some ⟨w.heap.size+1,1,none⟩)) hH rfl rfl (by intro w' hSw;obtain ⟨q1,q2,q3,q4⟩:=CC w' hSw;go_simp) ?_
     simp only [Act.put,q1,q2,q3]
     refine tk 6 34 (.slice (some ⟨rb2,0,none⟩) y.2.length rc2) hH rfl rfl (by intro w' hSw;obtain ⟨q1,q2,q3,q4⟩:=CC w' hSw;go_simp) ?_
     simp only [Act.put,q1,q2,q3]
     refine tk 7 35 (.int .i64 n) hH rfl rfl (by intro w' hSw;obtain ⟨q1,q2,q3,q4⟩:=CC w' hSw;go_simp) ?_
     simp only [Act.put,q1,q2,q3]
     refine tk 8 36 (.pointer (some ⟨rb2,n,none⟩)) hH rfl rfl (by intro w' hSw;obtain ⟨q1,q2,q3,q4⟩:=CC w' hSw;go_simp) ?_
     simp only [Act.put,q1,q2,q3]
     refine tk 9 37 (.slice a3 r2.length c3) hH rfl rfl (by intro w' hSw;obtain ⟨q1,q2,q3,q4⟩:=CC w' hSw;go_simp) ?_
     simp only [Act.put,q1,q2,q3]
     cases hsm:M.same r r2
     ·have CM:=CL wr.drew hH
      rw [hsm] at CM
      refine ry 10 rfl (fun K' hK=>?_)
      refine sg 38 rfl 50 #[.tmp 32,.tmp 37] rfl #[.slice a' r.length c',.slice a3 r2.length c3] (enters_of Tryz.func50 (by kernel_rfl) rfl) CM ?_
      rintro e W5 ⟨rfl,g5⟩
      refine ⟨_,rfl,?_⟩
      simp only [Act.put,q1,q2,q3]
      have bL:Below wr.heap.size wr W5:=(Below.refl _ wr).drew.trans g5.bel
      refine hK.out _ _ bL (fun hH5=>?_)
      clear hK K' CM
      refine tk 11 39 (.bool true) hH5 rfl rfl (by intro w' hSw;go_simp) ?_
      simp only [Act.put,q1,q2,q3]
      refine wpAnyH_done (by kernel_rfl) ?_ _
      clear CC CL hc hc3 r0 r1
      go_wp2_with fail
      go_ret
      exact ⟨ret_bool (HSM.out hsm).symm,hbw.trans (bL.mono hbw.size)⟩
     ·have CM:=CL wr.drew hH
      rw [hsm] at CM
      refine ry 10 rfl (fun K' hK=>?_)
      refine sg 38 rfl 50 #[.tmp 32,.tmp 37] rfl #[.slice a' r.length c',.slice a3 r2.length c3] (enters_of Tryz.func50 (by kernel_rfl) rfl) CM ?_
      rintro e W5 ⟨rfl,g5⟩
      refine ⟨_,rfl,?_⟩
      simp only [Act.put,q1,q2,q3]
      have bL:Below wr.heap.size wr W5:=(Below.refl _ wr).drew.trans g5.bel
      refine hK.out _ _ bL (fun hH5=>?_)
      clear hK K' CM
      refine tk 11 39 (.bool false) hH5 rfl rfl (by intro w' hSw;go_simp) ?_
      simp only [Act.put,q1,q2,q3]
      refine wpAnyH_done (by kernel_rfl) ?_ _
      clear CC CL hc hc3 r0 r1
      go_wp2_with fail
      exact ⟨⟨n+1,by go_num,by omega,(fun q hq h1 h2=>HN.out q hq h1 h2 (HSY.out hsm)),hb.trans (bL.mono hb.size)⟩,by simp [intOf];omega⟩
    ·have hne:¬ (n:Int) < x.2.length:=by omega
     have HR:Hid (M.eqWy x y=true):=M.eqWy_yes HS.out HL.out (fun q h1 h2=>HA.out q (by omega) h1 h2)
     go_wp2_with fail
     go_ret
     exact ⟨ret_bool HR.out.symm,hbw⟩
  ·have HR:Hid (M.eqWy x y=false):=M.eqWy_no2 hln
   have hn1:((x.2.length:Int) != y.2.length)=true:=by simp;omega
   clear hln hs C1
   go_wp2_with fail
   go_ret
   exact ⟨ret_bool HR.out.symm,bw1⟩
end
section
namespace M
theorem find_same {α:Type} {p q:α→Bool}:∀ {xs:List α},(∀ x∈xs,p x=q x)→xs.find? p=xs.find? q
 | [],_=>rfl
 | x::xs,h=>by
  rw [List.find?_cons,List.find?_cons,h x (by simp),find_same fun y hy=>h y (by simp [hy])]
theorem swhyGood_eq {ll:List (List D)} {t1 t2:List Int} {k:Int} {x:Wy} (h:execOk ll x.1 x.2=true):swhyGood ll t1 t2 k x=whyGood ll t1 t2 k x:=by
 unfold swhyGood whyGood
 simp [execSeen,h]
theorem swhy_same (ll:List (List D)) (t1 t2:List Int) (k:Int):swhyExec ll t1 t2 k=whyExec ll t1 t2 k:=by
 have hall:∀ x∈specAll ll,swhyGood ll t1 t2 k x=whyGood ll t1 t2 k x:=fun x hx=>swhyGood_eq (mem_execAll.1 hx)
 unfold swhyExec
 rw [find_same hall]
 unfold whyExec
 cases hg:((decide (1≤k)&&decide (k≤3))&&seenOk ll t1 t2)
 ·rw [if_neg (by simp)]
  rw [List.find?_eq_none]
  intro x hx hgood
  obtain ⟨h1,h2,h3⟩:=whyGood_mem hgood
  have hp:=holds_parts_of h1
  have hs:=all_seenOkW _ h3
  rw [hp.1,hs] at hg
  cases hg
 ·rw [if_pos rfl]
  have hp:=(seenOk_len (Bool.and_eq_true_iff.1 hg).2).1
  unfold specAll
  rw [if_pos hp,← ways_eq (cop_deeds ll)]
end M
end
section
open Go.RowKit
namespace M
theorem why_ok {ll:List (List D)} {t1 t2:List Int} {k:Int} {x:Wy} (h:whyExec ll t1 t2 k=some x):execOk ll x.1 x.2=true:=(holds_parts_of (whyGood_mem (whyExec_some h).2).1).2
theorem why_le {ll:List (List D)} {x:Wy} (ho:execOk ll x.1 x.2=true):WyLe x:=by
 have hW:=M.wok_of ho
 have hb:=M.prog_le hW.prog
 have hdl:=M.deeds_len hb.1 hb.2
 refine ⟨by have:=hW.len.out;omega,by have:=hW.three.out;omega,fun r hr=>?_⟩
 simp only [M.execOk,M.wayOk,Bool.and_eq_true] at ho
 exact M.row_len ho.2.2.1 hdl r hr
theorem why_getD_le {ll:List (List D)} {t1 t2:List Int} {k:Int}:WyLe ((whyExec ll t1 t2 k).getD ([],[])):=by
 cases h:whyExec ll t1 t2 k with
 | none=>exact ⟨by simp,by simp,fun r hr=>(by cases hr)⟩
 | some x=>exact why_le (why_ok h)
end M
structure WyR (w w':World) (r:Option M.Wy) (v:Value):Prop where
 ex:∃ fa fb fc ra rb rc,v=.tuple #[.agg #[.slice fa (r.getD ([],[])).1.length fc,.slice ra (r.getD ([],[])).2.length rc],.bool r.isSome]∧IntS w' fa fb 0 (r.getD ([],[])).1∧IntSS w' ra rb 0 (r.getD ([],[])).2
 bel:Below w.heap.size w w'
theorem wyr_none {w w':World} {v:Value} (e:v=.tuple #[.agg #[.slice none 0 0,.slice none 0 0],.bool false]) (hb:Below w.heap.size w w'):WyR w w' none v :=
 ⟨⟨none,0,0,none,0,0,e,⟨fun h=>absurd h (Nat.lt_irrefl _),fun _ hi=>absurd hi (Nat.not_lt_zero _)⟩,⟨fun h=>absurd h (Nat.lt_irrefl _),fun _ hi=>absurd hi (Nat.not_lt_zero _)⟩⟩,hb⟩
theorem WhyAns.r {w w':World} {r:Option M.Wy} {v:Value} (h:WhyAns w w' r v):WyR w w' r v:=by
 cases r with
 | none=>exact wyr_none (h.no rfl) h.bel
 | some x =>
  obtain ⟨fv,ov,cs,rfl,hx⟩:=h.yes x rfl
  obtain ⟨fa,fb,fc,ra,rb,rc,rfl,rfl,i1,i2⟩:=hx.lw
  exact ⟨⟨fa,fb,fc,ra,rb,rc,rfl,i1,i2⟩,h.bel⟩
theorem SWhyAns.r {w w':World} {r:Option M.Wy} {v:Value} (h:SWhyAns w w' r v):WyR w w' r v:=by
 cases r with
 | none=>exact wyr_none (h.no rfl) h.bel
 | some x =>
  obtain ⟨fa,fb,fc,ra,rb,rc,rfl,i1,i2⟩:=h.yes x rfl
  exact ⟨⟨fa,fb,fc,ra,rb,rc,rfl,i1,i2⟩,h.bel⟩
structure SlotV (w:World) (b:Nat) (x y:Value):Prop where
 blk:w.heap[b]?=some (.cells #[x,y] 33 (0,0))
theorem SlotV.lt {w:World} {b:Nat} {x y:Value} (h:SlotV w b x y):b < w.heap.size:=by
 have:=h.blk
 rw [Array.getElem?_eq_some_iff] at this
 exact this.1
theorem SlotV.c0 {w:World} {b:Nat} {x y:Value} (h:SlotV w b x y):w.cell? ⟨b,0,none⟩=some x:=by simp [World.cell?,h.blk]
theorem SlotV.c1 {w:World} {b:Nat} {x y:Value} (h:SlotV w b x y):w.cell? ⟨b,1,none⟩=some y:=by simp [World.cell?,h.blk]
theorem SlotV.of {w w':World} {b:Nat} {x y:Value} (h:SlotV w b x y) (hb:w'.heap[b]?=w.heap[b]?):SlotV w' b x y:=⟨hb.trans h.blk⟩
theorem SlotV.bel {w w':World} {b:Nat} {x y:Value} (h:SlotV w b x y) (hb:Below w.heap.size w w'):SlotV w' b x y:=h.of (hb.block b h.lt)
structure BxWy (W:World) (X:Nat) (fa:Option Addr) (fb fc:Nat) (ra:Option Addr) (rb rc:Nat) (x:M.Wy):Prop where
 xb:SlotV W X (.slice fa x.1.length fc) (.slice ra x.2.length rc)
 f:IntS W fa fb 0 x.1
 o:IntSS W ra rb 0 x.2
theorem BxWy.below {W W':World} {X:Nat} {fa:Option Addr} {fb fc:Nat} {ra:Option Addr} {rb rc:Nat} {x:M.Wy} (h:BxWy W X fa fb fc ra rb rc x) (hb:Below W.heap.size W W'):BxWy W' X fa fb fc ra rb rc x :=
 ⟨h.xb.bel hb,h.f.below hb (Nat.le_refl _),h.o.below hb (Nat.le_refl _)⟩
theorem BxWy.new {W:World} {fa:Option Addr} {fb fc:Nat} {ra:Option Addr} {rb rc:Nat} {x:M.Wy} (h1:IntS W fa fb 0 x.1) (h2:IntSS W ra rb 0 x.2):BxWy (W.alloc (.cells #[.slice fa x.1.length fc,.slice ra x.2.length rc] 33)) W.heap.size fa fb fc ra rb rc x :=
 ⟨⟨heap_alloc_new W _⟩,h1.below (below1 W _) (Nat.le_refl _),h2.below (below1 W _) (Nat.le_refl _)⟩
end
end Go.Proofs.YtegommoflmmahaaGreat
