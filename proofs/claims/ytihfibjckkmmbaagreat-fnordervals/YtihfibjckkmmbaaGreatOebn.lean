/- Turning about, plainly: rows of numbers, threads, places and values turned, programs side by side, plain ones. No condition. And what goes with it: TnMath, TnFact, TnCs, TnCl, TnPl, TnVl, TnSv. -/
import Derived.BigQuiet
import Derived.Deep.AppendLies
import Derived.Deep.MidRow
import Derived.Deep.QuietTactic
import Derived.Deep.RegionHeld3
import Derived.Deep.RegionLaw
import Derived.Deep.RegionWith
import Derived.Deep.WholeRow
import Derived.Laws.OwnMore
import Derived.Maps.AppendAt
import Derived.Sort.Grow
import Derived.WalkKit
import Derived.WalkLawsBesides
import Derived.WalkSpells
import Derived.Test.YtihfibjckkmmbaaGreatRows
import Derived.Test.YtihfibjckkmmbaaGreatOebm
namespace Go.Proofs.YtihfibjckkmmbaaGreat
namespace M
def valF (row:List Int) (d:D):D:=⟨d.k,d.p,row.getD d.v.toNat 0⟩
def turnVals (ll:List (List D)) (row:List Int):Option (List (List D)):=if prog ll&&rowN row 4&&row.getD 0 0==0 then some (mapS (valF row) ll) else none
theorem turnVals_bad {ll:List (List D)} {row:List Int} (h:prog ll=false):turnVals ll row=none:=by simp [turnVals,h]
theorem turnVals_row {ll:List (List D)} {row:List Int} (h:rowN row 4=false):turnVals ll row=none:=by simp [turnVals,h]
theorem turnVals_first {ll:List (List D)} {row:List Int} (h:(row.getD 0 0==0)=false):turnVals ll row=none:=by simp only [turnVals,h];simp
theorem turnVals_yes {ll:List (List D)} {row:List Int} (h:prog ll=true) (h2:rowN row 4=true) (h3:(row.getD 0 0==0)=true):turnVals ll row=some (mapS (valF row) ll):=by simp only [turnVals,h,h2,h3];simp
theorem turnVals_some {ll mm:List (List D)} {row:List Int} (h:turnVals ll row=some mm):prog ll=true∧rowN row 4=true∧row.getD 0 0=0∧mm=mapS (valF row) ll:=by
 unfold turnVals at h
 split at h
 ·rename_i hc
  simp only [Bool.and_eq_true,beq_iff_eq] at hc
  exact ⟨hc.1.1,hc.1.2,hc.2,(Option.some.inj h).symm⟩
 ·cases h
theorem turnVals_small {ll mm:List (List D)} {row:List Int} (e:(turnVals ll row).getD []=mm):mm.length≤3∧∀ t∈mm,t.length≤7:=by
 cases h:turnVals ll row with
 | none=>rw [h] at e;subst e;simp
 | some x =>
  rw [h] at e
  obtain rfl:x=mm:=e
  obtain ⟨h1,h2,_,rfl⟩:=turnVals_some h
  obtain ⟨h3,h7⟩:=prog_le h1
  exact ⟨by rw [mapS_len];exact h3,mapS_small h7⟩
end M
end Go.Proofs.YtihfibjckkmmbaaGreat
namespace Go.Proofs.YtihfibjckkmmbaaGreat
namespace M
theorem four_of {x:Int} (h:0≤x∧x < 4):x=0∨x=1∨x=2∨x=3:=by omega
theorem row4 {row:List Int} (h:rowN row 4=true) (h0:row.getD 0 0=0):row=[0,1,2,3]∨row=[0,1,3,2]∨row=[0,2,1,3]∨row=[0,2,3,1]∨row=[0,3,1,2]∨row=[0,3,2,1]:=by
 match row,rowN_len h,rowN_mem h,h,h0 with
 | [x,y,z,u],_,hm,h,h0 =>
  have hy:=four_of (hm y (by simp))
  have hz:=four_of (hm z (by simp))
  have hu:=four_of (hm u (by simp))
  obtain rfl:x=0:=by simpa using h0
  clear hm h0
  rcases hy with rfl | rfl | rfl | rfl<;>rcases hz with rfl | rfl | rfl | rfl<;>rcases hu with rfl | rfl | rfl | rfl<;>first | (exact absurd h (by decide)) | simp
theorem val_in {row:List Int} (hr:rowN row 4=true) (h0:row.getD 0 0=0) {k v:Int} (h:valOk k v=true):0≤v∧v < 4∧valOk k (row.getD v.toNat 0)=true∧(back row).getD (row.getD v.toNat 0).toNat 0=v:=by
 unfold valOk at h ⊢
 cases hs:stores k
 ·simp only [hs,Bool.false_eq_true,if_false,beq_iff_eq] at h ⊢
  subst h
  rcases row4 hr h0 with rfl | rfl | rfl | rfl | rfl | rfl<;>decide
 ·simp only [hs,if_true,Bool.and_eq_true,decide_eq_true_eq] at h ⊢
  have hv:v=1∨v=2∨v=3:=by omega
  clear h
  rcases row4 hr h0 with rfl | rfl | rfl | rfl | rfl | rfl<;>rcases hv with rfl | rfl | rfl<;>decide
theorem val_kept {row:List Int} (hr:rowN row 4=true) (h0:row.getD 0 0=0):Kept (valF row) (fun _=>True):=by
 refine ⟨fun d _ hd=>?_,fun d=>rfl,fun d=>rfl,fun d=>rfl,fun d=>rfl,fun d=>rfl,fun d=>rfl⟩
 simp only [doOk,valF,Bool.and_eq_true] at hd ⊢
 exact ⟨hd.1,(val_in hr h0 hd.2).2.2.1⟩
theorem val_back {row:List Int} (hr:rowN row 4=true) (h0:row.getD 0 0=0) {d:D} (hd:doOk d=true):valF (back row) (valF row d)=d:=by
 obtain ⟨k,p,v⟩:=d
 simp only [doOk,Bool.and_eq_true] at hd
 have:=(val_in hr h0 hd.2).2.2.2
 simp only [valF]
 congr 1
theorem back_row4 {row:List Int} (hr:rowN row 4=true) (h0:row.getD 0 0=0):rowN (back row) 4=true∧(back row).getD 0 0=0:=by
 rcases row4 hr h0 with rfl | rfl | rfl | rfl | rfl | rfl<;>decide
theorem vals_back {ll:List (List D)} {row:List Int} (h:prog ll=true) (hr:rowN row 4=true) (h0:row.getD 0 0=0):prog (mapS (valF row) ll)=true∧rowN (back row) 4=true∧(back row).getD 0 0=0∧mapS (valF (back row)) (mapS (valF row) ll)=ll :=
 ⟨(val_kept hr h0).prog h (fun _ _ _ _=>trivial),(back_row4 hr h0).1,(back_row4 hr h0).2,mapS_back fun t ht d hd=>val_back hr h0 (prog_dos h t ht d hd)⟩
end M
end Go.Proofs.YtihfibjckkmmbaaGreat
namespace Go.Proofs.YtihfibjckkmmbaaGreat
open Go.RowKit
set_option maxHeartbeats 2000000 in
set_option maxRecDepth 10000 in
theorem changeV_any (a:Option Addr) (b o c:Nat) (ll:List (List M.D)) (cap:Nat) (f:M.D→M.D) (w:World) (h3:ll.length≤3) (h7:∀ t∈ll,t.length≤7) (h:DoSS w a b o ll)
  (hcl:∀ (W:World) (g off:Nat) (d:M.D),Below w.heap.size w W→w.heap.size≤g→(∃ t∈ll,d∈t)→DoAt W g off d→(∀ i,W.frozen? ⟨g,i,none⟩=false)→Calls Tryz.prog 53 #[.pointer (some ⟨g,off,none⟩),.pointer (some ⟨cap,0,none⟩)] W fun e w'=>e=.returned (.tuple #[])∧Chg W w' g off d (f d)) :
  Calls Tryz.prog 39 #[.agg #[.slice a ll.length c],.func (.func 53) #[] #[.pointer (some ⟨cap,0,none⟩)]] w fun e w'=>∃ v,e=.returned (.agg #[v])∧(∃ vs,Rdg w' w.heap.size v (M.mapS f ll) vs)∧Below w.heap.size w w':=by
 have b2:=below2 w (.cells #[.slice a ll.length c] 25) (.cells #[.slice none 0 0] 25)
 have h2:=h.below b2 (Nat.le_refl _)
 have hY:=Slot1.new (w.alloc (.cells #[.slice a ll.length c] 25)) (.slice none 0 0) 25
 rw [World.size_alloc] at hY
 have hsz:((w.alloc (.cells #[.slice a ll.length c] 25)).alloc (.cells #[.slice none 0 0] 25)).heap.size=w.heap.size+2:=by simp
 go_enter Tryz.func39,Tryz.ntmps39
 go_wp2_with fail
 generalize (w.alloc (.cells #[.slice a ll.length c] 25)).alloc (.cells #[.slice none 0 0] 25)=W at *
 refine (copyProg_any a b o c ll W (by omega) (fun t ht=>by have:=h7 t ht;omega) h2).mono ?_
 rintro e W1 ⟨v1,rfl,⟨vs,hR1⟩,b1⟩
 obtain ⟨av,gv0,cv,rfl,_⟩:=hR1.b.ss
 have HV:∀ i (hi:i < vs.length) k,vs[i].ownBlock=some k→k < W1.heap.size:=fun i hi k hk=>((hR1.b.inner i (by have:=hR1.b.len;omega) hi).lt k hk).2
 have bA:=below1 W1 (.cells #[.slice av ll.length cv] 25)
 have hRA:=(hR1.below bA).mono (show w.heap.size+2≤W.heap.size by omega)
 have bw1:=b2.trans (b1.mono b2.size)
 have bwA:=bw1.trans (bA.mono bw1.size)
 have hYA:=(hY.bl' b1).bl' bA
 have hC:=Slot1.new W1 (.slice av ll.length cv) 25
 have hb1s:w.heap.size+2≤W1.heap.size:=by have:=b1.size;omega
 clear hR1 hY h2 b1 b2 bw1 hsz
 go_wp2_with fail
 generalize W1.alloc (.cells #[.slice av ll.length cv] 25)=WA at *
 generalize W1.heap.size=C at *
 have hlenA:(M.cur f 0 0 ll).length=ll.length:=M.cur_len _ _ _ _
 go_loopw [14] (fun s14 wr=>∃ n:Nat,s14=.int .i64 n∧n≤ll.length∧Rdg wr (w.heap.size+2) (.slice av ll.length cv) (M.cur f n 0 ll) vs∧Slot1 wr C (.slice av ll.length cv)∧Slot1 wr (w.heap.size+1) (.slice none 0 0)∧Below w.heap.size w wr) (fun s14 _=>ll.length - (intOf s14).toNat)
 case atStart=>exact ⟨0,rfl,Nat.zero_le _,by rw [M.cur_zero];exact hRA,hC,hYA,bwA⟩
 case round =>
  obtain ⟨n,rfl,hn,hR,hP,hQ,hbel⟩:=hrel
  clear hRA hC hYA bwA hlenA
  by_cases hlt:n < ll.length
  ·have hR':=hR
   rw [← M.cur_len f n 0 ll] at hR'
   obtain ⟨gv,rfl,hv,hc⟩:=hR'.outer_at (n:=n) (by rw [M.cur_len];exact hlt)
   obtain ⟨a',c',e1,hin⟩:=hR.cur_at hlt hv
   rw [e1] at hc
   have ht7:=h7 _ (List.getElem_mem hlt)
   have i1:(n:Int) < ll.length:=by omega
   have HT:Hid (∀ k (hk:k < ll[n].length),∃ t∈ll,ll[n][k]∈t):=fun k hk=>⟨ll[n],List.getElem_mem hlt,List.getElem_mem hk⟩
   have HS:Hid (∀ (k g:Nat) (W W':World) (hk:k < ll[n].length),a'=some ⟨g,0,none⟩→Rdg W (w.heap.size+2) (.slice (some ⟨gv,0,none⟩) ll.length cv) (M.cur f n k ll) vs→Chg W W' g (k * 3) ll[n][k] (f ll[n][k])→Rdg W' (w.heap.size+2) (.slice (some ⟨gv,0,none⟩) ll.length cv) (M.cur f n (k+1) ll) vs∧W.grownBy W' (some g)∧w.heap.size+2≤g∧g < C):=by
    intro k g W W' hk ha hr hch
    subst ha
    have r:=hr.step hlt hk hv e1 hch
    exact ⟨r.1,r.2.1,r.2.2,HV n hv g (by rw [e1];rfl)⟩
   have HA:Hid (∀ (k:Nat) (W:World),Rdg W (w.heap.size+2) (.slice (some ⟨gv,0,none⟩) ll.length cv) (M.cur f n k ll) vs→∀ hk:k < ll[n].length,∃ g,a'=some ⟨g,0,none⟩∧w.heap.size+2≤g∧DoAt W g (k * 3) ll[n][k]∧∀ i,W.frozen? ⟨g,i,none⟩=false):=by
    intro k W hr hk
    obtain ⟨a2,c2,e2,h2⟩:=hr.cur_at hlt hv
    rw [e1] at e2
    obtain ⟨rfl,_,rfl⟩:=Value.slice.inj e2
    exact h2 hk
   have HN:Hid (∀ k,ll[n].length≤k→M.cur f n k ll=M.cur f (n+1) 0 ll):=fun k hk=>M.cur_next f n k ll hlt hk
   clear hin e1 hR'
   generalize ll[n]=t at *
   go_wp2_with fail
   go_loopw [20] (fun s20 wi=>∃ k:Nat,s20=.int .i64 k∧k≤t.length∧Rdg wi (w.heap.size+2) (.slice (some ⟨gv,0,none⟩) ll.length cv) (M.cur f n k ll) vs∧Slot1 wi C (.slice (some ⟨gv,0,none⟩) ll.length cv)∧Slot1 wi (w.heap.size+1) (.slice none 0 0)∧Below w.heap.size w wi) (fun s20 _=>t.length - (intOf s20).toNat)
   case atStart=>exact ⟨0,rfl,Nat.zero_le _,hR,hP,hQ,hbel⟩
   case round =>
    obtain ⟨k,rfl,hk,hR,hP,hQ,hbel⟩:=hrel
    by_cases hkt:k < t.length
    ·obtain ⟨g,rfl,hg,hd,hf⟩:=HA.out k _ hR hkt
     have j1:(k:Int) < t.length:=by omega
     have HS1:Hid (∀ W',Chg wr W' g (k * 3) t[k] (f t[k])→Rdg W' (w.heap.size+2) (.slice (some ⟨gv,0,none⟩) ll.length cv) (M.cur f n (k+1) ll) vs∧wr.grownBy W' (some g)∧w.heap.size+2≤g∧g < C):=fun W' hch=>HS.out k g wr W' hkt rfl hR hch
     have CC:=hcl wr g (k * 3) t[k] hbel (by omega) (HT.out k hkt) hd hf
     generalize t[k]=d at *
     go_wp2_with (first | (go_at_call 53;refine CC.mono ?_;rintro e W2 ⟨rfl,hch⟩))
     obtain ⟨r1,r2,r3,r4⟩:=HS1.out _ hch
     exact ⟨⟨k+1,by go_num,by omega,r1,hP.apart r2 (fun e=>by have:=Option.some.inj e;omega),hQ.apart r2 (fun e=>by have:=Option.some.inj e;omega),below_grown hbel r2 (fun j hj=>by have:=Option.some.inj hj;omega) hbel.size⟩,by simp [intOf];omega⟩
    ·have j1:¬ (k:Int) < t.length:=by omega
     rw [HN.out k (by omega)] at hR
     go_wp2_with fail
     exact ⟨⟨n+1,by go_num,by omega,hR,hP,hQ,hbel⟩,by simp [intOf];omega⟩
  ·rw [M.cur_all f n 0 ll (by omega)] at hR
   have i1:¬ (n:Int) < ll.length:=by omega
   have p0:=hP.c
   have pf:=hP.fz
   have q0:=hQ.c
   have qf:=hQ.fz
   have lP:=hP.lt
   have lQ:=hQ.lt
   have hne:w.heap.size+1≠C:=by omega
   go_wp2_with fail
   have q1:=(hQ.set (.slice av ll.length cv)).c
   exact bodyPost_ret (v:=.agg #[.slice av ll.length cv]) (by simp [results,Tryz.results39,go_sem,q1]) rfl ⟨_,rfl,⟨vs,(hR.far (by omega) _).mono (by omega)⟩,hbel.setCell (by show w.heap.size≤w.heap.size+1;omega) _⟩
end Go.Proofs.YtihfibjckkmmbaaGreat
namespace Go.Proofs.YtihfibjckkmmbaaGreat
open Go.RowKit
set_option maxHeartbeats 1000000 in
set_option maxRecDepth 100000 in
set_option linter.unusedSimpArgs false in
theorem valC_any (g off CB:Nat) (d:M.D) (pa:Option Addr) (pb po pc:Nat) (row:List Int) (W:World) (hl:row.length≤1000) (hC:W.cell? ⟨CB,0,none⟩=some (.slice pa row.length pc)) (hI:IntS W pa pb po row) (hd:DoAt W g off d) (hf:∀ i,W.frozen? ⟨g,i,none⟩=false) (hr:0≤d.v∧d.v < row.length) (hne1:g≠CB) (hne2:g≠pb) :
  Calls Tryz.prog 53 #[.pointer (some ⟨g,off,none⟩),.pointer (some ⟨CB,0,none⟩)] W fun e w'=>e=.returned (.tuple #[])∧Chg W w' g off d (M.valF row d):=by
 obtain ⟨kk,pp,vv⟩:=d
 obtain ⟨ck,cp,cv⟩:=hd
 go_enter Tryz.func53,Tryz.ntmps53
 obtain ⟨r0,r1⟩:=hr
 obtain ⟨j,rfl⟩:∃ j:Nat,vv=j:=⟨vv.toNat,by simp only at r0;omega⟩
 have hj:j < row.length:=by simp only at r1;omega
 obtain ⟨rfl⟩:=hI.addr (by omega)
 have hx:=hI.row j hj
 have HY:Hid (M.valF row ⟨kk,pp,j⟩=⟨kk,pp,row[j]⟩):=by
  show _=_
  unfold M.valF
  congr 1
  exact M.getD_get hj
 generalize row[j]=y at *
 have i1:(j:Int) < row.length:=by omega
 clear r0 r1
 refine wp_region_held_drew (S:=fun w'=>w'.cell? ⟨CB,0,none⟩=some (.slice (some ⟨pb,po,none⟩) row.length pc)∧w'.cell? ⟨pb,po+j,none⟩=some (.int .i64 y)) (by kernel_rfl) (by exact ⟨hC,hx⟩) (fun hH=>?_)
 refine takeD 0 (some 3) (.pointer (some ⟨g,off,none⟩)) hH rfl rfl (by kernel_rfl) (by kernel_rfl) (by kernel_rfl) (fun _ _ _ h=>h) (Or.inl ⟨by rfl,by intro w' hSw;go_simp⟩) ?_
 simp only [Act.put,List.setIfInBounds_toArray,List.set_cons_zero,List.set_cons_succ]
 refine takeD 1 (some 4) (.slice (some ⟨pb,po,none⟩) row.length pc) hH rfl rfl (by kernel_rfl) (by kernel_rfl) (by kernel_rfl) (fun _ _ _ h=>h) (Or.inl ⟨by rfl,by intro w' hSw;have hc:=hSw.1;go_simp⟩) ?_
 simp only [Act.put,List.setIfInBounds_toArray,List.set_cons_zero,List.set_cons_succ]
 refine takeD 2 (some 5) (.pointer (some ⟨g,off,none⟩)) hH rfl rfl (by kernel_rfl) (by kernel_rfl) (by kernel_rfl) (fun _ _ _ h=>h) (Or.inl ⟨by rfl,by intro w' hSw;go_simp⟩) ?_
 simp only [Act.put,List.setIfInBounds_toArray,List.set_cons_zero,List.set_cons_succ]
 refine takeD 3 (some 6) (.pointer (some ⟨g,off,none⟩)) hH rfl rfl (by kernel_rfl) (by kernel_rfl) (by kernel_rfl) (fun _ _ _ h=>h) (Or.inl ⟨by rfl,by intro w' hSw;go_simp⟩) ?_
 simp only [Act.put,List.setIfInBounds_toArray,List.set_cons_zero,List.set_cons_succ]
 refine takeD 4 (some 7) (.pointer (some ⟨g,off+2,none⟩)) hH rfl rfl (by kernel_rfl) (by kernel_rfl) (by kernel_rfl) (fun _ _ _ h=>h) (Or.inl ⟨by rfl,by intro w' hSw;go_simp⟩) ?_
 simp only [Act.put,List.setIfInBounds_toArray,List.set_cons_zero,List.set_cons_succ]
 refine wpAnyH_ready (rs:=[5]) (by kernel_rfl) (by simp) ?_
 refine AllReadyH.cons rfl (fun K' hK=>?_) AllReadyH.nil
 have xx:=cv
 rw [if_pos (by rfl)]
 go_simp
 refine hK.out _ _ hH (fun _=>?_)
 clear hK K' xx
 refine takeD 6 (some 9) (.pointer (some ⟨pb,po+j,none⟩)) hH rfl rfl (by kernel_rfl) (by kernel_rfl) (by kernel_rfl) (fun _ _ _ h=>h) (Or.inl ⟨by rfl,by intro w' hSw;go_simp⟩) ?_
 simp only [Act.put,List.setIfInBounds_toArray,List.set_cons_zero,List.set_cons_succ]
 refine takeD 7 (some 10) (.int .i64 y) hH rfl rfl (by kernel_rfl) (by kernel_rfl) (by kernel_rfl) (fun _ _ _ h=>h) (Or.inl ⟨by rfl,by intro w' hSw;have hc:=hSw.2;go_simp⟩) ?_
 simp only [Act.put,List.setIfInBounds_toArray,List.set_cons_zero,List.set_cons_succ]
 refine takeD 8 (some 11) (.pointer (some ⟨g,off,none⟩)) hH rfl rfl (by kernel_rfl) (by kernel_rfl) (by kernel_rfl) (fun _ _ _ h=>h) (Or.inl ⟨by rfl,by intro w' hSw;go_simp⟩) ?_
 simp only [Act.put,List.setIfInBounds_toArray,List.set_cons_zero,List.set_cons_succ]
 refine takeD 9 (some 12) (.pointer (some ⟨g,off+2,none⟩)) hH rfl rfl (by kernel_rfl) (by kernel_rfl) (by kernel_rfl) (fun _ _ _ h=>h) (Or.inl ⟨by rfl,by intro w' hSw;go_simp⟩) ?_
 simp only [Act.put,List.setIfInBounds_toArray,List.set_cons_zero,List.set_cons_succ]
 refine wpAnyH_ready (rs:=[10]) (by kernel_rfl) (by simp) ?_
 refine AllReadyH.cons rfl (fun K' hK=>?_) AllReadyH.nil
 have xc:=cv
 have xz:=hf (off+2)
 rw [if_pos (by rfl)]
 go_simp
 refine hK.out _ _ ⟨(World.cell?_setCell_other _ _ _ _ (fun e=>hne1 (congrArg Addr.block e))).trans hH.1,(World.cell?_setCell_other _ _ _ _ (fun e=>hne2 (congrArg Addr.block e))).trans hH.2⟩ (fun _=>?_)
 clear hK K'
 refine wpAnyH_done (by kernel_rfl) ?_ _
 clear xc xz
 go_wp2_with fail
 refine bodyPost_end (results_none Tryz.results53 _ _ _) rfl ⟨rfl,1,Or.inr (Or.inr (Or.inr ⟨?_,?_,?_⟩))⟩
 ·rw [HY.out];rfl
 ·rw [HY.out]
 ·rw [HY.out]
end Go.Proofs.YtihfibjckkmmbaaGreat
namespace Go.Proofs.YtihfibjckkmmbaaGreat
open Go.RowKit
namespace M
theorem prog_val {ll:List (List D)} (h:prog ll=true) {d:D} (hd:∃ t∈ll,d∈t):0≤d.v∧d.v < 4:=by
 obtain ⟨t,ht,hd⟩:=hd
 have:=prog_does h ht hd
 simp only [doOk,valOk,Bool.and_eq_true] at this
 have h2:=this.2
 split at h2
 ·simp only [Bool.and_eq_true,decide_eq_true_eq] at h2;omega
 ·simp only [beq_iff_eq] at h2;omega
end M
end Go.Proofs.YtihfibjckkmmbaaGreat
namespace Go.Proofs.YtihfibjckkmmbaaGreat
open Go.RowKit
set_option maxHeartbeats 2000000 in
theorem iturnVals_any (a:Option Addr) (b o c:Nat) (ll:List (List M.D)) (hl:ll.length≤1048576) (hls:∀ t∈ll,t.length≤1048576) (ga:Option Addr) (gb go gc:Nat) (gs:List Int) (hgl:gs.length≤1048576) (w:World) (h:DoSS w a b o ll) (hG:IntS w ga gb go gs) :
  Calls Tryz.prog 17 #[.agg #[.slice a ll.length c],.slice ga gs.length gc] w fun e w'=>∃ v,e=.returned (.tuple #[.agg #[v],.bool (M.turnVals ll gs).isSome])∧(∃ vs,Rdg w' w.heap.size v ((M.turnVals ll gs).getD []) vs)∧Below w.heap.size w w':=by
 have hmf:∀ (fn:Fn) (first cap:Array Value) (w:World),(Instr.makeFunc fn first cap).run Tryz.prog w=.ok (.func fn first cap) w:=fun _ _ _ _=>rfl
 have b2:=below2 w (.cells #[.slice a ll.length c] 25) (.cells #[.slice none 0 0] 25)
 have h2:=h.below b2 (Nat.le_refl _)
 have hG2:=hG.below b2 (Nat.le_refl _)
 have hX:=(Slot1.new w (.slice a ll.length c) 25).bl' (below1 _ (.cells #[.slice none 0 0] 25))
 have hY:=Slot1.new (w.alloc (.cells #[.slice a ll.length c] 25)) (.slice none 0 0) 25
 rw [World.size_alloc] at hY
 go_enter Tryz.func17,Tryz.ntmps17
 go_wp2_with fail
 generalize (w.alloc (.cells #[.slice a ll.length c] 25)).alloc (.cells #[.slice none 0 0] 25)=W at *
 refine (numbersBelow_any 4 W (by omega)).mono ?_
 rintro e W1 ⟨v1,rfl,hown1,b1⟩
 obtain ⟨a1,g1,c1,rfl,hI1,_,_⟩:=own_nums hown1
 have CT:=turnI_any ga gb go gc gs a1 g1 0 c1 (M.bel 4) W1 hgl (by rw [M.bel_len];omega) (hG2.below b1 (Nat.le_refl _)) hI1
 have e3:(M.bel 4).length=4:=M.bel_len 4
 rw [e3] at CT ⊢
 clear hown1 hI1 e3
 go_wp2_with fail
 refine CT.mono ?_
 rintro e W2 ⟨v2,rfl,hown2,b2'⟩
 obtain ⟨pa,pb,pc,rfl,hI2,_,_⟩:=own_nums hown2
 obtain ⟨rw_,hrw⟩:∃ r,M.turned 0 gs (M.bel 4)=r:=⟨_,rfl⟩
 rw [hrw] at hI2 ⊢
 have HRW:Hid (M.turned 0 gs (M.bel 4)=rw_):=hrw
 clear hrw hown2 CT
 have bA:=below1 W2 (.cells #[.slice pa rw_.length pc] 26)
 have b12:=b1.trans (b2'.mono b1.size)
 have b1A:=b12.trans (bA.mono b12.size)
 have bwA:=b2.trans (b1A.mono b2.size)
 have hX2:=hX.bl' b12
 have hY2:=hY.bl' b12
 have hXA:=hX.bl' b1A
 have hYA:=hY.bl' b1A
 have y0:=hY2.c
 have yf:=hY2.fz
 have ly:=hY2.lt
 have lx:=hX2.lt
 have hDA:=h2.below b1A (Nat.le_refl _)
 have hCA:=Slot1.new W2 (.slice pa rw_.length pc) 26
 have hIA:=hI2.below bA (Nat.le_refl _)
 have hpb:0 < rw_.length→pb < W2.heap.size:=fun h=>hI2.lt h
 have bw2:=b2.trans (b12.mono b2.size)
 have hb2s:w.heap.size+1 < W2.heap.size:=Nat.lt_of_lt_of_le hY.lt b12.size
 clear b1 b2' b12 b1A bA hX hY h2 hG2
 cases hr:M.rowN gs 4
 ·have hno:=M.turnVals_row (ll:=ll) hr
  go_wp2_with fail
  have q1:=((hY2.set (.slice none 0 0)).bl' (below1 _ (.cells #[.slice pa rw_.length pc] 26))).c
  exact bodyPost_ret (v:=.tuple #[.agg #[.slice none 0 0],.bool false]) (by simp [results,Tryz.results17,go_sem,q1]) rfl ⟨_,by rw [hno];rfl,⟨[],by rw [hno];exact Rdg.nil _ _⟩,(bw2.setCell (by show w.heap.size≤w.heap.size+1;omega) _).alloc (by simp;omega) _⟩
 ·obtain rfl:gs=rw_:=by have:=HRW.out;rw [M.turned_row hr] at this;exact this
  have hg3:Hid (gs.length=4):=M.rowN_len hr
  have hpos:0 < gs.length:=by have:=hg3.out;omega
  obtain ⟨rfl⟩:=hI2.addr hpos
  have v0:=hI2.row 0 hpos
  have HV0:Hid (gs.getD 0 0=gs[0]):=M.getD_get hpos
  generalize gs[0]=y at *
  have hp0:(0:Int) < gs.length:=by omega
  have lpb:pb < W2.heap.size:=hpb hpos
  by_cases hy:y=0
  ·subst hy
   have CP:=iprog_any a b o c ll _ hl hls hDA
   have x0:=hX2.c
   clear y0 yf
   cases hp:M.prog ll
   ·have hno:=M.turnVals_bad (row:=gs) hp
    rw [hp] at CP
    go_wp2_with (first | (go_at_call 38;refine CP.mono ?_;rintro e W3 ⟨rfl,b3⟩;have hY3:=hYA.bl' b3;have y0:=hY3.c;have yf:=hY3.fz;have ly:=hY3.lt))
    have bw3:=bwA.trans (b3.mono bwA.size)
    have q1:=(hY3.set (.slice none 0 0)).c
    exact bodyPost_ret (v:=.tuple #[.agg #[.slice none 0 0],.bool false]) (by simp [results,Tryz.results17,go_sem,q1]) rfl ⟨_,by rw [hno];rfl,⟨[],by rw [hno];exact Rdg.nil _ _⟩,bw3.setCell (by show w.heap.size≤w.heap.size+1;omega) _⟩
   ·have hyes:=M.turnVals_yes hp hr (by rw [HV0.out];rfl)
    have HY1:Hid ((M.turnVals ll gs).isSome=true):=by show _=_;rw [hyes];rfl
    have HY2:Hid ((M.turnVals ll gs).getD []=M.mapS (M.valF gs) ll):=by show _=_;rw [hyes];rfl
    obtain ⟨h3,h7⟩:=M.prog_le hp
    have HP:Hid (M.prog ll=true):=hp
    have HG3:=hg3
    rw [hp] at CP
    clear hyes hr hp hg3
    go_wp2_with (first | (go_at_call 38;refine CP.mono ?_;rintro e W3 ⟨rfl,b3⟩;have hY3:=hYA.bl' b3;have hX3:=hXA.bl' b3;have x3:=hX3.c))
    have hC3:=hCA.bl' b3
    have hI3:=hIA.below b3 (Nat.le_refl _)
    have hD3:=hDA.below b3 (Nat.le_refl _)
    have bw3:=bwA.trans (b3.mono bwA.size)
    have hlt3:W2.heap.size < W3.heap.size:=hC3.lt
    have lY3:=hY3.lt
    refine (changeV_any a b o c ll W2.heap.size (M.valF gs) W3 h3 h7 hD3 (fun Wx g off d hb hge hd hda hf=>valC_any g off W2.heap.size d (some ⟨pb,0,none⟩) pb 0 pc gs Wx (by have:=HG3.out;omega) ((hC3.bl' hb).c) (hI3.below hb (Nat.le_refl _)) hda hf (by have:=M.prog_val HP.out hd;have:=HG3.out;omega) (by omega) (by have:=hpb (by have:=HG3.out;omega);omega))).mono ?_
    rintro e W4 ⟨v4,rfl,⟨vs,hR4⟩,b4⟩
    have hY4:=hY3.bl' b4
    have y0:=hY4.c
    have yf:=hY4.fz
    have ly:=hY4.lt
    have bw4:=bw3.trans (b4.mono bw3.size)
    obtain ⟨av,gv,cv,rfl,_⟩:=hR4.b.ss
    rw [M.mapS_len] at hR4 ⊢
    go_wp2_with fail
    have q1:=(hY4.set (.slice av ll.length cv)).c
    exact bodyPost_ret (v:=.tuple #[.agg #[.slice av ll.length cv],.bool true]) (by simp [results,Tryz.results17,go_sem,q1]) rfl ⟨_,by rw [HY1.out],⟨vs,by rw [HY2.out];exact (hR4.far (by omega) _).mono (by have:=bw3.size;omega)⟩,bw4.setCell (by show w.heap.size≤w.heap.size+1;omega) _⟩
  ·have hy':(y==0)=false:=by simpa using hy
   have hno:=M.turnVals_first (ll:=ll) (row:=gs) (by rw [HV0.out];exact hy')
   go_wp2_with fail
   have q1:=((hY2.set (.slice none 0 0)).bl' (below1 _ (.cells #[.slice (some ⟨pb,0,none⟩) gs.length pc] 26))).c
   exact bodyPost_ret (v:=.tuple #[.agg #[.slice none 0 0],.bool false]) (by simp [results,Tryz.results17,go_sem,q1]) rfl ⟨_,by rw [hno];rfl,⟨[],by rw [hno];exact Rdg.nil _ _⟩,(bw2.setCell (by show w.heap.size≤w.heap.size+1;omega) _).alloc (by simp;omega) _⟩
end Go.Proofs.YtihfibjckkmmbaaGreat
namespace Go.Proofs.YtihfibjckkmmbaaGreat
open Go.RowKit
set_option maxHeartbeats 4000000 in
set_option maxRecDepth 100000 in
set_option linter.unusedSimpArgs false in
theorem sturnVals_any (a:Option Addr) (b o c:Nat) (ll:List (List M.D)) (hl:ll.length≤1048576) (hls:∀ t∈ll,t.length≤1048576) (ga:Option Addr) (gb go gc:Nat) (gs:List Int) (hgl:gs.length≤1048576) (w:World) (h:DoSS w a b o ll) (hG:IntS w ga gb go gs) :
  Calls Tryz.prog 16 #[.agg #[.slice a ll.length c],.slice ga gs.length gc] w fun e w'=>∃ v,e=.returned (.tuple #[.agg #[v],.bool (M.turnVals ll gs).isSome])∧(∃ vs,Rdg w' w.heap.size v ((M.turnVals ll gs).getD []) vs)∧Below w.heap.size w w':=by
 obtain ⟨i0,hi,hz0,hz1,hz2⟩:=info_parts Tryz.info53
 obtain ⟨j0,hj,hy0,hy1,hy2⟩:=info_parts Tryz.info56
 have b2:=below2 w (.cells #[.slice a ll.length c] 25) (.cells #[.slice none 0 0] 25)
 have h2:=h.below b2 (Nat.le_refl _)
 have hG2:=hG.below b2 (Nat.le_refl _)
 have hX:=(Slot1.new w (.slice a ll.length c) 25).bl' (below1 _ (.cells #[.slice none 0 0] 25))
 have hY:=Slot1.new (w.alloc (.cells #[.slice a ll.length c] 25)) (.slice none 0 0) 25
 rw [World.size_alloc] at hY
 go_enter Tryz.func16,Tryz.ntmps16
 cases hp:M.prog ll
 ·have hno:=M.turnVals_bad (row:=gs) hp
  have CP:=sprog_any a b o c ll _ hl hls h2
  rw [hp] at CP
  go_wp2_with (first | (go_at_call 32;refine CP.mono ?_;rintro e W1 ⟨rfl,b1⟩;have hY1:=hY.bl' b1;have y0:=hY1.c;have yf:=hY1.fz;have ly:=hY1.lt))
  have bw1:=b2.trans (b1.mono b2.size)
  have q1:=(hY1.set (.slice none 0 0)).c
  exact bodyPost_ret (v:=.tuple #[.agg #[.slice none 0 0],.bool false]) (by simp [results,Tryz.results16,go_sem,q1]) rfl ⟨_,by rw [hno];rfl,⟨[],by rw [hno];exact Rdg.nil _ _⟩,bw1.setCell (by show w.heap.size≤w.heap.size+1;omega) _⟩
 ·obtain ⟨h3,h7⟩:=M.prog_le hp
  have CP:=sprog_any a b o c ll _ hl hls h2
  rw [hp] at CP
  have CO:=fun W hW=>l22Row_any ga gb go gc gs 4 W hgl (by omega) hW
  cases hok:M.rowN gs 4
  ·have hno:=M.turnVals_row (ll:=ll) hok
   rw [hok] at CO
   go_wp2_with (first | (go_at_call 32;refine CP.mono ?_;rintro e W1 ⟨rfl,b1⟩;have hX1:=hX.bl' b1;have x0:=hX1.c;have hG1:=hG2.below b1 (Nat.le_refl _);have hY1:=hY.bl' b1;have y0:=hY1.c;have yf:=hY1.fz;have ly:=hY1.lt) | (go_at_call 33;refine (CO _ hG1).mono ?_;rintro e W2 ⟨rfl,rfl⟩))
   have bw1:=b2.trans (b1.mono b2.size)
   have q1:=(hY1.set (.slice none 0 0)).c
   exact bodyPost_ret (v:=.tuple #[.agg #[.slice none 0 0],.bool false]) (by simp [results,Tryz.results16,go_sem,q1]) rfl ⟨_,by rw [hno];rfl,⟨[],by rw [hno];exact Rdg.nil _ _⟩,bw1.setCell (by show w.heap.size≤w.heap.size+1;omega) _⟩
  ·rw [hok] at CO
   have hpos:0 < gs.length:=by rw [M.rowN_len hok];omega
   obtain ⟨rfl⟩:=hG.addr hpos
   obtain ⟨y0',hyy⟩:∃ y,gs[0]=y:=⟨_,rfl⟩
   have HV0:Hid (gs.getD 0 0=y0'):=(M.getD_get hpos).trans hyy
   have V0:∀ W',Below ((w.alloc (.cells #[.slice a ll.length c] 25)).alloc (.cells #[.slice none 0 0] 25)).heap.size ((w.alloc (.cells #[.slice a ll.length c] 25)).alloc (.cells #[.slice none 0 0] 25)) W'→W'.cell? ⟨gb,go,none⟩=some (.int .i64 y0'):=fun W' hb=>by
    have:=(hG2.below hb (Nat.le_refl _)).row 0 hpos
    rw [hyy] at this
    simpa using this
   have hp0:(0:Int) < gs.length:=by omega
   clear hyy
   by_cases hyz:y0'=0
   ·subst hyz
    have hyes:=M.turnVals_yes hp hok (by rw [HV0.out];rfl)
    have HY1:Hid ((M.turnVals ll gs).isSome=true):=by show _=_;rw [hyes];rfl
    have HY2:Hid ((M.turnVals ll gs).getD []=M.mapS (M.valF gs) ll):=by show _=_;rw [hyes];rfl
    have HR:Hid (M.rowN gs 4=true):=hok
    have HL:Hid (gs.length=4):=M.rowN_len hok
    have HPq:Hid (M.prog ll=true):=hp
    clear hyes hok hp
    go_wp2_with (first | (go_at_call 32;refine CP.mono ?_;rintro e W1 ⟨rfl,b1⟩;have hX1:=hX.bl' b1;have x0:=hX1.c;have hG1:=hG2.below b1 (Nat.le_refl _);have hY1:=hY.bl' b1;have v1:=V0 _ b1) | (go_at_call 33;refine (CO _ hG1).mono ?_;rintro e W2 ⟨rfl,rfl⟩))
    have bw1:=b2.trans (b1.mono b2.size)
    have bA:=below1 W2 (.cells #[.slice none 0 0] 25)
    have hXA:=hX1.bl' bA
    have hYA:=hY1.bl' bA
    have hZA:=Slot1.new W2 (.slice none 0 0) 25
    have lX:=hX1.lt
    have lY:=hY1.lt
    have hD:=h.below bw1 (Nat.le_refl _)
    generalize W2.alloc (.cells #[.slice none 0 0] 25)=WA at *
    have hX1c:=hX1.c
    clear v1 V0 CP CO x0 hX hY h2 hG2 b2 b1 hX1
    go_loopw [7] (fun s7 wr=>∃ (n:Nat) (v:Value) (vs:List Value),s7=.int .i64 n∧n≤ll.length∧Rdg wr (W2.heap.size+1) v (M.mapS (M.valF gs) (ll.take n)) vs∧Slot1 wr W2.heap.size v∧Slot1 wr (w.heap.size+1) (.slice none 0 0)∧Below W2.heap.size W2 wr) (fun s7 _=>ll.length - (intOf s7).toNat)
    case atStart=>exact ⟨0,.slice none 0 0,[],rfl,Nat.zero_le _,by simpa [M.mapS] using Rdg.nil _ _,hZA,hYA,bA⟩
    case round =>
     obtain ⟨n,v,vs,rfl,hn,hR,hP,hY,hbel⟩:=hrel
     clear hZA hXA hYA bA
     by_cases hlt:n < ll.length
     ·obtain ⟨rfl⟩:=h.addr (by omega)
      obtain ⟨a',b',o',c',hc0,hd0⟩:=hD.row n hlt
      have hc:=(hbel.cell (p:=⟨b,o+n,none⟩) (World.block_lt_of_cell? _ _ hc0)).trans hc0
      have xx0:=(hbel.cell (p:=⟨w.heap.size,0,none⟩) lX).trans hX1c
      have HW:Hid (M.mapS (M.valF gs) (ll.take (n+1))=M.mapS (M.valF gs) (ll.take n)++[ll[n].map (M.valF gs)]):=M.mapS_take _ ll n hlt
      have hmm:(M.mapS (M.valF gs) (ll.take n)).length≤3:=by rw [M.mapS_len];simp;omega
      have ht7:=h7 _ (List.getElem_mem hlt)
      have HDo:Hid (∀ d∈ll[n],∃ t∈ll,d∈t):=fun d hd=>⟨_,List.getElem_mem hlt,hd⟩
      generalize ll[n]=t at *
      generalize M.mapS (M.valF gs) (ll.take n)=mm at *
      have i1:(n:Int) < ll.length:=by omega
      obtain ⟨av,gv,cv,rfl,_⟩:=hR.b.ss
      have lP:=hP.lt
      have lXr:=Nat.lt_trans lX lP
      have lcr:b < wr.heap.size:=World.block_lt_of_cell? _ _ hc
      have bE:Below wr.heap.size wr (wr.alloc (.cells #[] 56)):=below1 _ _
      have OA:(wr.alloc (.cells #[] 56)).ownsRow wr.heap.size 56 3 (.slice (some ⟨wr.heap.size,0,none⟩) 0 0) 0 []:=own_emp (heap_alloc_new wr _) (Nat.le_refl _)
      have DA:DoS (wr.alloc (.cells #[] 56)) a' b' o' t:=(hd0.below hbel (Nat.le_refl _)).below bE (Nat.le_refl _)
      go_wp2_with (at_builtin;refine wpList_append_does rfl (.tmp 33) (.tmp 38) 53 rfl (some 39) rfl wr.heap.size 56 j0 Tryz.underlying53 hj hy0 hy1 hy2 wr.heap.size rfl OA (by simp) a' b' o' c' t rfl DA (by omega) ?_)
      intro v4 w4 ho4 hg4 _
      obtain ⟨a4,c4,rfl⟩:=own_slx ho4
      have b4:Below wr.heap.size wr w4:=below_grown bE hg4 (fun j hj=>by have:wr.heap.size=j:=Option.some.inj hj;omega) bE.size
      clear hg4 OA DA bE
      go_wp2_with fail
      obtain ⟨wo,hwo⟩:∃ wo,wo=wr:=⟨_,rfl⟩
      subst hwo
      go_loopw [9] (fun s9 wi=>∃ k:Nat,s9=.int .i64 k∧k≤t.length∧wi.ownsRow wo.heap.size 56 3 (.slice a4 t.length c4) t.length (flat (M.curT (M.valF gs) k t))∧Below wo.heap.size wo wi) (fun s9 _=>t.length - (intOf s9).toNat)
      case atStart=>exact ⟨0,rfl,Nat.zero_le _,by rw [M.curT_zero];exact ho4,b4⟩
      case round =>
       obtain ⟨k,rfl,hk,ho,hbi⟩:=hrel
       have hbs:=hbi.size
       have hbw2:Below W2.heap.size W2 wr:=hbel.trans (hbi.mono hbel.size)
       have xx1:=(hbw2.cell (p:=⟨w.heap.size,0,none⟩) lX).trans hX1c
       by_cases hkt:k < t.length
       ·have hkk:k < (M.curT (M.valF gs) k t).length:=by rw [M.curT_len];exact hkt
        have HG:∃ g,a4=some ⟨g,0,none⟩∧wo.heap.size≤g:=by
         rcases ho.2 with ⟨e,_⟩ | ⟨g,cap,cur,e,hg,_⟩
         ·simp only [Value.slice.injEq] at e;omega
         ·simp only [Value.slice.injEq] at e;exact ⟨g,e.1,hg⟩
        obtain ⟨g,rfl,hgg⟩:=HG
        have hfz:=own_fzS ho
        have hat:DoAt wr g (k * 3) t[k]:=by
         have ho':=ho
         rw [← M.curT_len (M.valF gs) k t] at ho'
         obtain ⟨a5,g5,c5,e5,hd5,_⟩:=own_steps ho'
         simp only [Value.slice.injEq] at e5
         have e6:=hd5.addr (by omega)
         rw [← e5.1] at e6
         simp at e6
         have:=hd5.row k hkk
         rw [← e6,Nat.zero_add,M.curT_get _ k t hkt] at this
         exact this
        have HCH:Hid (∀ W',Chg wr W' g (k * 3) t[k] (M.valF gs t[k])→W'.ownsRow wo.heap.size 56 3 (.slice (some ⟨g,0,none⟩) t.length c4) t.length (flat (M.curT (M.valF gs) (k+1) t))∧wr.grownBy W' (some g)):=by
         intro W' hch
         have e:=M.curT_get (M.valF gs) k t hkt hkk
         have r:=own_chg ho hkk (by rw [e];exact hch)
         rw [M.curT_set (M.valF gs) k t hkt] at r
         exact r
        have hdo:=HDo.out _ (List.getElem_mem hkt)
        have hgn:=hgg
        generalize t[k]=d at *
        have j1:(k:Int) < t.length:=by omega
        obtain ⟨kk,pp,vv⟩:=d
        obtain ⟨ck,cp,cv'⟩:=hat
        have lg:g < wr.heap.size:=World.block_lt_of_cell? _ _ ck
        have hgW:W2.heap.size≤g:=by omega
        obtain ⟨r0,r1⟩:=M.prog_val HPq.out hdo
        obtain ⟨j,rfl⟩:∃ j:Nat,vv=j:=⟨vv.toNat,by simp only at r0;omega⟩
        have hj':j < gs.length:=by have:=HL.out;simp only at r1;omega
        have e:M.valF gs ⟨kk,pp,j⟩=⟨kk,pp,gs[j]⟩:=by
         unfold M.valF
         congr 1
         exact M.getD_get hj'
        have r:=HCH.out (wr.setCell ⟨g,k * 3+2,none⟩ (.int .i64 gs[j])) ⟨0,Or.inr (Or.inr (Or.inr ⟨by rw [e];rfl,by rw [e],by rw [e]⟩))⟩
        have cy:=hG1.row j hj'
        obtain ⟨rfl⟩:=hG1.addr (by omega)
        clear e
        generalize gs[j]=y at *
        have jl:(j:Int) < gs.length:=by omega
        have cyr:=(hbw2.cell (p:=⟨gb,go+j,none⟩) (World.block_lt_of_cell? _ _ cy)).trans cy
        have hfz1:=hfz (k * 3+2)
        have r2:Below wo.heap.size wo (wr.setCell ⟨g,k * 3+2,none⟩ (.int .i64 y)):=hbi.setCell hgg _
        have r1':=r.1
        clear HCH ho cy r r0 r1
        go_wp2_with fail
        exact ⟨⟨k+1,by go_num,by omega,r1',r2⟩,by simp [intOf];omega⟩
       ·have htk:k=t.length:=by omega
        rw [M.curT_all _ k t (by omega)] at ho
        have j1:¬ (k:Int) < t.length:=by omega
        have hRi:=hR.below hbi
        have hPi:=hP.bl' hbi
        have hYi:=hY.bl' hbi
        have hlap:∀ i (hi:i < vs.length) k,vs[i].ownBlock=some k→(Value.slice a4 t.length c4).ownBlock≠some k:=fun i hi j hj e=>by
         have h1:=(hR.b.inner i (by have:=hR.b.len;omega) hi).lt j hj
         have h2:=own_ge ho j e
         omega
        have hol:wr.ownsRow wo.heap.size 56 3 (.slice a4 t.length c4) (t.map (M.valF gs)).length (flat (t.map (M.valF gs))):=by rw [List.length_map];exact ho
        have hown':=ownsRow_mono hol (show W2.heap.size+1≤_ from by omega)
        have p0:=hPi.c
        have pf:=hPi.fz
        have lPi:=hPi.lt
        have hout:=hRi.b.outer
        have hRE:Hid (Rdg wr (W2.heap.size+1) (.slice av mm.length cv) mm vs):=hRi
        have hPE:Hid (Slot1 wr W2.heap.size (.slice av mm.length cv)):=hPi
        have hYE:Hid (Slot1 wr (w.heap.size+1) (.slice none 0 0)):=hYi
        have hbW:Below W2.heap.size W2 wr:=hbel.trans (hbi.mono hbel.size)
        generalize t.map (M.valF gs)=tt at *
        clear hol ho htk hR hP hY hPi hYi hRi xx0 hc
        go_wp2_with (at_builtin;refine wpList_append_lies _ rfl (.tmp 59) (.tmp 61) 23 rfl (W2.heap.size+1) 53 i0 _ 1 24 Tryz.underlying23 hi hz0 hz1 hz2 rfl (by decide) _ _ vs rfl (hout.alloc _) ⟨wr.heap.size,0,none⟩ 1 1 [.slice a4 t.length c4] rfl rfl (World.news_of_block (cs:=#[.slice a4 t.length c4]) (t:=53) (fr:=(0,0)) (heap_alloc_new wr _)) (by simp [Value.oneCell']) (by omega) (by unfold maxLen;omega) (by omega) (by simp;omega) (wr.heap.size+1) (by simp) ?_)
        intro g2 cap2 w3 hown3 hg3 hat hlt3
        have hge:=own_ge hout
        have bA:=below1 wr (.cells #[.slice a4 t.length c4] 53)
        have hP3:=(hPE.out.bl' bA).apart hg3 (fun e=>by have:=hge _ e;omega)
        have hY3:=(hYE.out.bl' bA).apart hg3 (fun e=>by have:=hge _ e;omega)
        have hR3:=(hRE.out.below bA).snocT (ownsRow_below hown' bA) hlap hown3 hg3
        have hb3:Below W2.heap.size W2 w3:=below_grown (hbW.trans (bA.mono hbW.size)) hg3 (fun k hk=>by have:=hge k hk;omega) (by have:=hbW.size;simp;omega)
        rw [← HW.out] at hR3
        clear hown3 hg3 hat hout hown' p0 pf
        have p0:=hP3.c
        have pf:=hP3.fz
        go_wp2_with fail
        have hP4:=hP3.set (.slice (some ⟨g2,0,none⟩) (mm.length+1) cap2)
        exact ⟨⟨n+1,_,_,by go_num,by omega,hR3.far (by omega) _,hP4,hY3.far (by omega) _,hb3.setCell (Nat.le_refl _) _⟩,by simp [intOf];omega⟩
     ·have htk:ll.take n=ll:=List.take_of_length_le (by omega)
      rw [htk] at hR
      have hkn':¬ (n:Int) < ll.length:=by omega
      have xx0:=(hbel.cell (p:=⟨w.heap.size,0,none⟩) lX).trans hX1c
      obtain ⟨av,gv,cv,rfl,_⟩:=hR.b.ss
      generalize M.mapS (M.valF gs) ll=mm at *
      have p0:=hP.c
      have pf:=hP.fz
      have q0:=hY.c
      have qf:=hY.fz
      have lP:=hP.lt
      have lQ:=hY.lt
      have hne:w.heap.size+1≠W2.heap.size:=by omega
      have hbw:=bw1.trans (hbel.mono bw1.size)
      have hsz:=bw1.size
      go_wp2_with fail
      have q1:=(hY.set (.slice av mm.length cv)).c
      exact bodyPost_ret (v:=.tuple #[.agg #[.slice av mm.length cv],.bool true]) (by simp [results,Tryz.results16,go_sem,q1]) rfl ⟨_,by rw [HY1.out],⟨vs,by rw [HY2.out];exact (hR.far (by omega) _).mono (by omega)⟩,hbw.setCell (by show w.heap.size≤w.heap.size+1;omega) _⟩
   ·have hyz':(y0'==0)=false:=by simpa using hyz
    have hno:=M.turnVals_first (ll:=ll) (row:=gs) (by rw [HV0.out];exact hyz')
    go_wp2_with (first | (go_at_call 32;refine CP.mono ?_;rintro e W1 ⟨rfl,b1⟩;have hX1:=hX.bl' b1;have x0:=hX1.c;have hG1:=hG2.below b1 (Nat.le_refl _);have hY1:=hY.bl' b1;have v1:=V0 _ b1;have y0:=hY1.c;have yf:=hY1.fz;have ly:=hY1.lt) | (go_at_call 33;refine (CO _ hG1).mono ?_;rintro e W2 ⟨rfl,rfl⟩))
    have bw1:=b2.trans (b1.mono b2.size)
    have q1:=(hY1.set (.slice none 0 0)).c
    exact bodyPost_ret (v:=.tuple #[.agg #[.slice none 0 0],.bool false]) (by simp [results,Tryz.results16,go_sem,q1]) rfl ⟨_,by rw [hno];rfl,⟨[],by rw [hno];exact Rdg.nil _ _⟩,bw1.setCell (by show w.heap.size≤w.heap.size+1;omega) _⟩
end Go.Proofs.YtihfibjckkmmbaaGreat
