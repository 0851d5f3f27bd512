/- impl.chooseNext: of a way all that come of who writes next to a place. Of at most 1000 events. And what goes with it: RvNext, RvChN, RvChs, RvFst, RvWs, RvReg. -/
import Derived.Deep.AppendLies
import Derived.Deep.RegionHeld3
import Derived.Test.YtjjkicffhpcngaaGreatBWaz
namespace Go.Proofs.YtjjkicffhpcngaaGreat
open Go.RowKit Go.Shelf
attribute [local go_sem] Oper.semAt_some
structure NextD (D:Nat→Prop) (w:World) (ws:List Int) (p:Nat) (x:M.Wy) (wb xb pb:Nat):Prop where
 s:∃ sa sg sc,w.cell? ⟨wb,0,none⟩=some (.slice sa ws.length sc)∧IntS w sa sg 0 ws∧(0 < ws.length→D sg)
 p:w.cell? ⟨pb,0,none⟩=some (.int .i64 p)
 x:∃ fv ov cs,w.cell? ⟨xb,0,none⟩=some fv∧w.cell? ⟨xb,1,none⟩=some ov∧Xw w 0 fv ov x.1 cs x.2∧∀ k,Blks fv ov cs k→D k
 ds:D wb
 dx:D xb
 dp:D pb
def M.nextP (p:Nat) (ws:List Int) (x:M.Wy) (n:Nat):List M.Wy:=M.chN p (ws.take n) x
theorem M.nextP_step (p:Nat) (ws:List Int) (x:M.Wy) (n:Nat) (h:n < ws.length):M.nextP p ws x (n+1)=M.nextP p ws x n++if M.has (x.2.getD p []) ws[n] then [] else [(x.1,x.2.set p (x.2.getD p []++[ws[n]]))]:=by
 unfold M.nextP M.chN
 rw [List.take_succ_eq_append_getElem h,List.flatMap_append,List.flatMap_cons,List.flatMap_nil,List.append_nil]
theorem M.nextP_pre (p:Nat) (ws:List Int) (x:M.Wy) (n:Nat):M.nextP p ws x n <+: M.chN p ws x:=by
 unfold M.nextP M.chN
 conv=>rhs;rw [← List.take_append_drop n ws,List.flatMap_append]
 exact List.prefix_append _ _
theorem M.nextP_all (p:Nat) (ws:List Int) (x:M.Wy) (n:Nat) (h:ws.length≤n):M.nextP p ws x n=M.chN p ws x:=by
 unfold M.nextP
 rw [List.take_of_length_le h]
set_option maxRecDepth 100000 in
set_option maxHeartbeats 4000000 in
theorem next_seq {D:Nat→Prop} {w:World} {ds:List M.De} {ws:List Int} {p:Nat} {x:M.Wy} {wb xb pb:Nat} (h:NextD D w ws p x wb xb pb) (hDl:∀ k,D k→k < w.heap.size) (hp:p < 3) (hdl:ds.length≤1000) (hwl:ws.length≤1000) (hq:WyOk ds x) (hws:∀ v∈ws,0≤v∧v < ds.length) (n:Nat) :
  SeqC Fence.wide n Tryz.prog 155 #[.pointer (some ⟨wb,0,none⟩),.pointer (some ⟨xb,0,none⟩),.pointer (some ⟨pb,0,none⟩)] (WayV (WyOk ds)) D (M.chN p ws x) w:=by
 intro l J Jx C W hW hC hJ hJx hY h0
 have hwW:=hW.size
 have hx1l:x.1.length≤1000:=by have:=hq.len;omega
 have hx2l:x.2.length≤1000:=by have:=hq.ord;omega
 have hp2:p < x.2.length:=by have:=hq.ord;omega
 have hx3:∀ r∈x.2,r.length≤1000:=fun r hr=>by have:=hq.row_le r hr;omega
 have HQ:Hid (WyOk ds x):=hq
 clear hq
 refine callsIn_wide.2 (callsIn_wide (n:=9) |>.1 ?_)
 refine callsIn_of_wp Tryz.func155 rfl trivial ?_ rfl
 simp only [Tryz.ntmps155,List.size_toArray,List.length_cons,List.length_nil,Nat.reduceAdd,Nat.reduceSub,Array.replicate_succ,Array.replicate_zero,List.push_toArray,List.append_toArray,List.nil_append,List.cons_append]
 obtain ⟨sa,sg,sc,s0,s2,s3⟩:=h.s
 have s1:=hW.cell h.ds s0
 gi_wp2
 gi_loopw [10] (fun s10 wr=>∃ (n:Nat) (C':Nat→Prop),s10=.int .i64 n∧n≤ws.length∧FromI J C D w W (M.nextP p ws x n) C' wr) (fun s10 _=>ws.length - (intOf s10).toNat)
 case atStart=>exact ⟨0,C,rfl,Nat.zero_le _,by simpa [M.nextP,M.chN] using h0,Fr.refl _ _,fun k hk=>Or.inl hk,hW,hC⟩
 case round =>
  obtain ⟨n,C',rfl,hn,hI⟩:=hrel
  by_cases hlt:n < ws.length
  ·have sI:=s2.fr hI.fd s3
   obtain rfl:=sI.addr (by omega)
   have sc0:=sI.row n hlt
   rw [Nat.zero_add] at sc0
   have hpre:=M.nextP_pre p ws x (n+1)
   have hstep:=M.nextP_step p ws x n hlt
   have hfw:=hws _ (List.getElem_mem hlt)
   generalize ws[n]=f at *
   have i1:(n:Int) < ws.length:=by omega
   obtain ⟨fv,ov,cs,x1,x2,x3,x4⟩:=h.x
   obtain ⟨a1,b1,c1,a2,b2,c2,rfl,rfl,r1,r2⟩:=(x3.fr hI.fd x4).reads
   obtain rfl:=r2.addr (by omega)
   have cx0:=hI.fd.cell h.dx x1
   have cx1:=hI.fd.cell h.dx x2
   have cp:=hI.fd.cell h.dp h.p
   obtain ⟨ra,rb,ro,rc,cr,ri⟩:=r2.row p hp2
   rw [Nat.zero_add] at cr
   have hrl:=hx3 _ (List.getElem_mem hp2)
   have eg:x.2.getD p []=x.2[p]:=by rw [List.getD_eq_getElem?_getD,List.getElem?_eq_getElem hp2];rfl
   have hp':(p:Int) < x.2.length:=by omega
   have CC:=containsI_any ra rb ro rc x.2[p] f wr (by omega) ri
   have CX:=copyExec_any a1 b1 0 c1 x.1 (some ⟨b2,0,none⟩) b2 0 c2 x.2 wr (by omega) (by omega) (fun t ht=>by have:=hx3 t ht;omega) r1 r2
   have hsw:=hI.fc.size
   gi_wp2_with fail
   refine ⟨trivial,(callsIn_wide.2 CC).mono ?_⟩
   rintro e w0 ⟨rfl,e0⟩
   obtain rfl:wr=w0:=e0.symm
   cases hE:M.has x.2[p] f
   rotate_left
   ·have hst2:M.nextP p ws x (n+1)=M.nextP p ws x n:=by rw [hstep,eg,hE];simp
    clear hE
    gi_wp2_with fail
    go_roundw
    case rel=>exact ⟨n+1,C',by go_num,by omega,by rw [hst2];exact hI⟩
    case measure=>simp [intOf];omega
   have hst2:M.nextP p ws x (n+1)=M.nextP p ws x n++[(x.1,x.2.set p (x.2[p]++[f]))]:=by rw [hstep,eg,hE];simp
   have hQx:WyOk ds (x.1,x.2.set p (x.2[p]++[f])):=by
    refine ⟨HQ.out.len,HQ.out.inn,by rw [List.length_set];exact HQ.out.ord,fun t ht=>?_⟩
    rcases List.mem_or_eq_of_mem_set ht with h1 | rfl
    ·exact HQ.out.rows t h1
    ·obtain ⟨q1,q2⟩:=HQ.out.rows _ (List.getElem_mem hp2)
     refine ⟨?_,fun v hv=>?_⟩
     ·rw [List.nodup_append]
      refine ⟨q1,by simp,fun a ha b hb e=>?_⟩
      rw [List.mem_singleton] at hb
      subst hb
      subst e
      have:M.has x.2[p] a=true:=by simpa [M.has] using ha
      rw [hE] at this
      cases this
     ·rcases List.mem_append.1 hv with h1 | h1
      ·exact q2 v h1
      ·rw [List.mem_singleton.1 h1];exact hfw
   clear hE hstep
   gi_wp2_with fail
   refine ⟨trivial,(callsIn_wide.2 CX).mono ?_⟩
   rintro e w1 ⟨fv',ov',rfl,hA⟩
   have bw1:=hA.bel
   obtain ⟨cs',hx'⟩:=hA.ex
   obtain ⟨fa,fc,rfl⟩:=own_slx hx'.from_
   obtain ⟨ob,oc,rfl,hob1,hob2⟩:=hx'.ord.form (by omega)
   have lpb:pb < wr.heap.size:=World.block_lt_of_cell? _ _ cp
   have bB:=below1 w1 (.cells #[.slice fa x.1.length fc,.slice (some ⟨ob,0,none⟩) x.2.length oc] 63)
   have bwB:=bw1.trans (bB.mono bw1.size)
   have sY:SlotX (w1.alloc (.cells #[.slice fa x.1.length fc,.slice (some ⟨ob,0,none⟩) x.2.length oc] 63)) w1.heap.size (.slice fa x.1.length fc) (.slice (some ⟨ob,0,none⟩) x.2.length oc):=⟨heap_alloc_new _ _⟩
   have hxB:=hx'.below bB
   have cpB:=(bwB.cell (p:=⟨pb,0,none⟩) lpb).trans cp
   clear cx0 cx1 sc0 cr CC CX
   gi_wp2_with fail
   obtain ⟨u,e1,e2w,e3,e4⟩:=hx'.row p hp2
   have e2:=ownsRow_below e2w bB
   obtain ⟨ua,uc,rfl⟩:=own_slx e2
   have oX:(Value.slice ua x.2[p].length uc).ownBlock≠some w1.heap.size:=fun e=>by have:=(e2w.lt _ e).2;omega
   clear e2w
   have cro:=hxB.ord.cells (g:=ob) rfl p _ e1
   rw [Go.WideShapes.add_plain,Nat.zero_add] at cro
   have y1:=sY.c1
   have lX:=sY.lt
   have hXge:wr.heap.size≤w1.heap.size:=bw1.size
   have lpB:pb < (w1.alloc (.cells #[.slice fa x.1.length fc,.slice (some ⟨ob,0,none⟩) x.2.length oc] 63)).heap.size:=by simp;omega
   have lob:ob < (w1.alloc (.cells #[.slice fa x.1.length fc,.slice (some ⟨ob,0,none⟩) x.2.length oc] 63)).heap.size:=by simp;omega
   have lwr:wr.heap.size≤(w1.alloc (.cells #[.slice fa x.1.length fc,.slice (some ⟨ob,0,none⟩) x.2.length oc] 63)).heap.size:=by simp;omega
   generalize w1.alloc (.cells #[.slice fa x.1.length fc,.slice (some ⟨ob,0,none⟩) x.2.length oc] 63)=WB at *
   generalize hXe:w1.heap.size=X at *
   have hp0:¬ (p:Int) < 0:=by omega
   obtain ⟨i0,hi,hz0,hz1,hz2⟩:=info_parts Tryz.infoInt
   generalize hR:x.2[p]=r at *
   refine wpIn_wide.2 ?_
   refine wp_region_held_drew (S:=fun w'=>w'.cell? ⟨X,1,none⟩=some (.slice (some ⟨ob,0,none⟩) x.2.length oc)∧w'.cell? ⟨pb,0,none⟩=some (.int .i64 p)) (by kernel_rfl) ⟨y1,cpB⟩ (fun hH=>?_)
   refine takeD 0 (some 23) (.pointer (some ⟨X,1,none⟩)) hH rfl rfl (by kernel_rfl) (by kernel_rfl) (by kernel_rfl) (fun _ _ _ h=>h) (Or.inl ⟨by rfl,by intro w' hSw;go_simp⟩) ?_
   simp only [Act.put,List.setIfInBounds_toArray,List.set_cons_zero,List.set_cons_succ]
   refine takeD 1 (some 24) (.slice (some ⟨ob,0,none⟩) x.2.length oc) hH rfl rfl (by kernel_rfl) (by kernel_rfl) (by kernel_rfl) (fun _ _ _ h=>h) (Or.inl ⟨by rfl,by intro w' hSw;have hc:=hSw.1;go_simp⟩) ?_
   simp only [Act.put,List.setIfInBounds_toArray,List.set_cons_zero,List.set_cons_succ]
   refine takeD 2 (some 25) (.int .i64 p) hH rfl rfl (by kernel_rfl) (by kernel_rfl) (by kernel_rfl) (fun _ _ _ h=>h) (Or.inl ⟨by rfl,by intro w' hSw;have hc:=hSw.2;go_simp⟩) ?_
   simp only [Act.put,List.setIfInBounds_toArray,List.set_cons_zero,List.set_cons_succ]
   refine takeD 3 (some 26) (.pointer (some ⟨X,1,none⟩)) hH rfl rfl (by kernel_rfl) (by kernel_rfl) (by kernel_rfl) (fun _ _ _ h=>h) (Or.inl ⟨by rfl,by intro w' hSw;go_simp⟩) ?_
   simp only [Act.put,List.setIfInBounds_toArray,List.set_cons_zero,List.set_cons_succ]
   refine takeD 4 (some 27) (.slice (some ⟨ob,0,none⟩) x.2.length oc) hH rfl rfl (by kernel_rfl) (by kernel_rfl) (by kernel_rfl) (fun _ _ _ h=>h) (Or.inl ⟨by rfl,by intro w' hSw;have hc:=hSw.1;go_simp⟩) ?_
   simp only [Act.put,List.setIfInBounds_toArray,List.set_cons_zero,List.set_cons_succ]
   refine takeD 5 (some 28) (.int .i64 p) hH rfl rfl (by kernel_rfl) (by kernel_rfl) (by kernel_rfl) (fun _ _ _ h=>h) (Or.inl ⟨by rfl,by intro w' hSw;have hc:=hSw.2;go_simp⟩) ?_
   simp only [Act.put,List.setIfInBounds_toArray,List.set_cons_zero,List.set_cons_succ]
   refine takeD 6 (some 29) (.pointer (some ⟨ob,p,none⟩)) hH rfl rfl (by kernel_rfl) (by kernel_rfl) (by kernel_rfl) (fun _ _ _ h=>h) (Or.inl ⟨by rfl,by intro w' hSw;go_simp⟩) ?_
   simp only [Act.put,List.setIfInBounds_toArray,List.set_cons_zero,List.set_cons_succ]
   refine takeD 8 (some 31) (.int .i64 f) hH rfl rfl (by kernel_rfl) (by kernel_rfl) (by kernel_rfl) (fun _ _ _ h=>h) (Or.inl ⟨by rfl,by intro w' hSw;go_simp⟩) ?_
   simp only [Act.put,List.setIfInBounds_toArray,List.set_cons_zero,List.set_cons_succ]
   have bal:Below WB.heap.size WB (WB.alloc (.cells #[.int .i64 f] 3)).drew:=((Below.refl _ WB).alloc (Nat.le_refl _) _).drew
   have S1:(WB.alloc (.cells #[.int .i64 f] 3)).drew.cell? ⟨X,1,none⟩=some (.slice (some ⟨ob,0,none⟩) x.2.length oc)∧(WB.alloc (.cells #[.int .i64 f] 3)).drew.cell? ⟨pb,0,none⟩=some (.int .i64 p):=⟨(bal.cell (p:=⟨X,1,none⟩) lX).trans y1,(bal.cell (p:=⟨pb,0,none⟩) lpB).trans cpB⟩
   have S1r:(WB.alloc (.cells #[.int .i64 f] 3)).drew.cell? ⟨ob,p,none⟩=some (.slice ua r.length uc):=(bal.cell (p:=⟨ob,p,none⟩) lob).trans cro
   have eu:=ownsRow_below e2 bal
   have oP:(Value.slice ua r.length uc).ownBlock≠some pb:=fun e=>by have:=(e2.lt pb e).1;omega
   have oO:(Value.slice ua r.length uc).ownBlock≠some ob:=fun e=>e3 ob e rfl
   have hlal:∀ k,k < WB.heap.size→k < (WB.alloc (.cells #[.int .i64 f] 3)).drew.heap.size:=fun k hk=>by show k < (WB.alloc (.cells #[.int .i64 f] 3)).heap.size;simp;omega
   have FIN:Hid (∀ (g5 cap5:Nat) (w5:World),w5.ownsRow wr.heap.size 3 1 (.slice (some ⟨g5,0,none⟩) (r.length+1) cap5) (r.length+1) (nums r++[.int .i64 f])→(WB.alloc (.cells #[.int .i64 f] 3)).drew.grownBy w5 (Value.slice ua r.length uc).ownBlock→((Value.slice ua r.length uc).ownBlock=some g5∨g5=WB.heap.size+1) →
     (w5.cell? ⟨X,1,none⟩=some (.slice (some ⟨ob,0,none⟩) x.2.length oc)∧w5.cell? ⟨pb,0,none⟩=some (.int .i64 p))∧w5.cell? ⟨ob,p,none⟩=some (.slice ua r.length uc)∧w5.frozen? ⟨ob,p,none⟩=false∧((w5.setCell ⟨ob,p,none⟩ (.slice (some ⟨g5,0,none⟩) (r.length+1) cap5)).cell? ⟨X,1,none⟩=some (.slice (some ⟨ob,0,none⟩) x.2.length oc)∧(w5.setCell ⟨ob,p,none⟩ (.slice (some ⟨g5,0,none⟩) (r.length+1) cap5)).cell? ⟨pb,0,none⟩=some (.int .i64 p))∧(w5.setCell ⟨ob,p,none⟩ (.slice (some ⟨g5,0,none⟩) (r.length+1) cap5)).cell? ⟨X,0,none⟩=some (.slice fa x.1.length fc) ∧
      WyAns wr (w5.setCell ⟨ob,p,none⟩ (.slice (some ⟨g5,0,none⟩) (r.length+1) cap5)) (.slice fa x.1.length fc) (.slice (some ⟨ob,0,none⟩) x.2.length oc) x.1 (x.2.set p (r++[f]))):=by
    intro g5 cap5 w5 ho hg hat
    have hxA:=hxB.below bal
    have hown:w5.ownsRow wr.heap.size 3 1 (.slice (some ⟨g5,0,none⟩) (r++[f]).length cap5) (r++[f]).length (nums (r++[f])):=by rw [List.length_append];simpa [nums] using ho
    have px:=hxA.putRow hp2 e1 hown hg (hat.imp id (fun e=>by rw [e];show _=(WB.alloc (.cells #[.int .i64 f] 3)).heap.size;simp))
    rw [List.length_append] at px
    have cX:=(hg.cell_far ⟨X,1,none⟩ (hlal _ lX) (fun e=>oX e.symm)).trans S1.1
    have cX0:=(hg.cell_far ⟨X,0,none⟩ (hlal _ lX) (fun e=>oX e.symm)).trans ((bal.cell (p:=⟨X,0,none⟩) lX).trans sY.c0)
    have cP:=(hg.cell_far ⟨pb,0,none⟩ (hlal _ lpB) (fun e=>oP e.symm)).trans S1.2
    have cO:=(hg.cell_far ⟨ob,p,none⟩ (hlal _ lob) (fun e=>oO e.symm)).trans S1r
    have fO:w5.frozen? ⟨ob,p,none⟩=false:=by
     rw [World.frozen?_of_block (w:=(WB.alloc (.cells #[.int .i64 f] 3)).drew) (a:=⟨ob,p,none⟩) (hg.block ob (hlal _ lob) (fun e=>oO e.symm)),bal.frozen (p:=⟨ob,p,none⟩) lob]
     rcases hxB.ord.2 with ⟨hv,_⟩ | ⟨g',cap,cur,hv,_,hh,_⟩
     ·cases hv
     ·simp only [Value.slice.injEq,Option.some.injEq,Addr.mk.injEq] at hv
      obtain ⟨⟨rfl,_⟩,_⟩:=hv
      simp [World.frozen?,hh]
    have nX:ob≠X:=by omega
    have nP:ob≠pb:=by omega
    refine ⟨⟨cX,cP⟩,cO,fO,⟨by rw [World.cell?_setCell_other _ _ _ _ (fun e=>nX (congrArg Addr.block e))];exact cX,by rw [World.cell?_setCell_other _ _ _ _ (fun e=>nP (congrArg Addr.block e))];exact cP⟩,by rw [World.cell?_setCell_other _ _ _ _ (fun e=>nX (congrArg Addr.block e))];exact cX0,⟨_,px⟩,?_⟩
    exact ((bwB.trans (bal.mono lwr)).grown hg (Nat.le_trans lwr bal.size) (fun k hk=>(e2.lt k hk).1)).setCell hob1 _
   refine wpAnyH_ready (rs:=[7,9]) (by kernel_rfl) (by simp) ?_
   refine AllReadyH.cons rfl (fun K' hK=>?_) (AllReadyH.cons rfl (fun K' hK=>?_) AllReadyH.nil)
   ·have xx:=cro
    rw [if_pos (by rfl)]
    go_simp
    refine hK.out _ _ hH (fun _=>?_)
    clear hK K' xx
    refine wpAnyH_ready (rs:=[9]) (by kernel_rfl) (by simp) ?_
    refine AllReadyH.cons rfl (fun K' hK=>?_) AllReadyH.nil
    rw [if_pos (by rfl)]
    go_simp
    refine hK.out _ _ S1 (fun _=>?_)
    clear hK K'
    refine wpAnyH_ready (rs:=[10]) (by kernel_rfl) (by simp) ?_
    refine AllReadyH.cons rfl (fun K' hK=>?_) AllReadyH.nil
    refine step_append_lies _ (by rfl) (.tmp 30) (.tmp 32) 47 (by rfl) wr.heap.size 3 i0 _ 1 8 Tryz.underlying47 hi hz0 hz1 hz2 rfl (by decide) (.slice ua r.length uc) r.length (nums r) (by rfl) eu ⟨WB.heap.size,0,none⟩ 1 1 [.int .i64 f] (by rfl) (by rfl) (World.news_of_block (cs:=#[.int .i64 f]) (t:=3) (fr:=(0,0)) (heap_alloc_new WB _)) (by simp [Value.oneCell']) (by omega) (by unfold maxLen;omega) (by omega) (Nat.le_trans lwr bal.size) (WB.heap.size+1) (by show (WB.alloc (.cells #[.int .i64 f] 3)).heap.size=_;simp) ?_
    intro g5 cap5 w5 hown5 hg5 hat5 hlt5
    obtain ⟨S5,xc,xz,S6,xX,hW⟩:=FIN.out g5 cap5 w5 hown5 hg5 hat5
    go_simp
    refine hK.out _ _ S5 (fun hH5=>?_)
    clear hK K'
    refine takeD 11 (some 34) (.pointer (some ⟨ob,p,none⟩)) hH5 rfl rfl (by kernel_rfl) (by kernel_rfl) (by kernel_rfl) (fun _ _ _ h=>h) (Or.inl ⟨by rfl,by intro w' hSw;go_simp⟩) ?_
    simp only [Act.put,List.setIfInBounds_toArray,List.set_cons_zero,List.set_cons_succ]
    refine wpAnyH_ready (rs:=[12]) (by kernel_rfl) (by simp) ?_
    refine AllReadyH.cons rfl (fun K' hK=>?_) AllReadyH.nil
    rw [if_pos (by rfl)]
    go_simp
    refine hK.out _ _ S6 (fun _=>?_)
    clear hK K' xc xz
    refine wpAnyH_done (by kernel_rfl) ?_ _
    have xX1:=S6.1
    clear FIN S5
    generalize w5.setCell ⟨ob,p,none⟩ (.slice (some ⟨g5,0,none⟩) (r.length+1) cap5)=w6 at *
    have bw6:=hW.bel
    have hI6:=hI.below hJ bw6
    obtain ⟨O,hWV,hO⟩:=hW.way hQx
    obtain ⟨fn,tmps,assign,body,hy,hR6⟩:=yieldAt_any (m':=8) (hY _ C' _ _ O w6 (by rw [← hst2];exact hpre) hI6.j hWV (fun k hk=>⟨fun hc=>by have:=(hI.bd k hc).1;have:=(hO k hk).1;omega,fun hd=>by have:=hDl k hd;have:=(hO k hk).1;have:=hI.fd.size;omega⟩))
    have key:∀ (J':List M.Wy→(Nat→Prop)→World→Prop) (C4:Nat→Prop) (w4:World),Fr (fun k=>¬ C' k∧¬ O k) w6 w4→Adds C' O C4 w6 w4→J' (M.nextP p ws x n++[(x.1,x.2.set p (r++[f]))]) C4 w4→FromI J' C D w W (M.nextP p ws x (n+1)) C4 w4:=fun J' C4 w4 hf hA hj=>by
     rw [hst2]
     have:=bw6.size
     exact hI6.round (by omega) (fun k hd=>by have:=hDl k hd;have:=hI.fd.size;omega) (fun k hk=>⟨fun hd=>by have:=hDl k hd;have:=(hO k hk).1;have:=hI.fd.size;omega,by have:=(hO k hk).1;omega,(hO k hk).2⟩) hf hA hj
    gi_wp2_with fail
    refine hR6.mono ?_
    rintro e w7 ⟨hf4,C4,hA4,(⟨rfl,hj4⟩ | ⟨rfl,hj4⟩)⟩
    ·have hI4:=key J C4 w7 hf4 hA4 hj4
     gi_wp2_with fail
     go_roundw
     case rel=>exact ⟨n+1,C4,by go_num,by omega,hI4⟩
     case measure=>simp [intOf];omega
    ·have hI4:=key Jx C4 w7 hf4 hA4 hj4
     gi_wp2_with fail
     refine bodyPost_ret (results_none rfl _ _ _) rfl ?_
     exact ⟨⟨_,rfl⟩,hI4.fc,C4,hI4.ad,Or.inr ⟨_,hpre,hI4.j⟩⟩
   ·rw [if_pos (by rfl)]
    go_simp
    refine hK.out _ _ S1 (fun _=>?_)
    clear hK K'
    refine wpAnyH_ready (rs:=[7]) (by kernel_rfl) (by simp) ?_
    refine AllReadyH.cons rfl (fun K' hK=>?_) AllReadyH.nil
    have xx:=S1r
    rw [if_pos (by rfl)]
    go_simp
    refine hK.out _ _ S1 (fun _=>?_)
    clear hK K' xx
    refine wpAnyH_ready (rs:=[10]) (by kernel_rfl) (by simp) ?_
    refine AllReadyH.cons rfl (fun K' hK=>?_) AllReadyH.nil
    refine step_append_lies _ (by rfl) (.tmp 30) (.tmp 32) 47 (by rfl) wr.heap.size 3 i0 _ 1 8 Tryz.underlying47 hi hz0 hz1 hz2 rfl (by decide) (.slice ua r.length uc) r.length (nums r) (by rfl) eu ⟨WB.heap.size,0,none⟩ 1 1 [.int .i64 f] (by rfl) (by rfl) (World.news_of_block (cs:=#[.int .i64 f]) (t:=3) (fr:=(0,0)) (heap_alloc_new WB _)) (by simp [Value.oneCell']) (by omega) (by unfold maxLen;omega) (by omega) (Nat.le_trans lwr bal.size) (WB.heap.size+1) (by show (WB.alloc (.cells #[.int .i64 f] 3)).heap.size=_;simp) ?_
    intro g5 cap5 w5 hown5 hg5 hat5 hlt5
    obtain ⟨S5,xc,xz,S6,xX,hW⟩:=FIN.out g5 cap5 w5 hown5 hg5 hat5
    go_simp
    refine hK.out _ _ S5 (fun hH5=>?_)
    clear hK K'
    refine takeD 11 (some 34) (.pointer (some ⟨ob,p,none⟩)) hH5 rfl rfl (by kernel_rfl) (by kernel_rfl) (by kernel_rfl) (fun _ _ _ h=>h) (Or.inl ⟨by rfl,by intro w' hSw;go_simp⟩) ?_
    simp only [Act.put,List.setIfInBounds_toArray,List.set_cons_zero,List.set_cons_succ]
    refine wpAnyH_ready (rs:=[12]) (by kernel_rfl) (by simp) ?_
    refine AllReadyH.cons rfl (fun K' hK=>?_) AllReadyH.nil
    rw [if_pos (by rfl)]
    go_simp
    refine hK.out _ _ S6 (fun _=>?_)
    clear hK K' xc xz
    refine wpAnyH_done (by kernel_rfl) ?_ _
    have xX1:=S6.1
    clear FIN S5
    generalize w5.setCell ⟨ob,p,none⟩ (.slice (some ⟨g5,0,none⟩) (r.length+1) cap5)=w6 at *
    have bw6:=hW.bel
    have hI6:=hI.below hJ bw6
    obtain ⟨O,hWV,hO⟩:=hW.way hQx
    obtain ⟨fn,tmps,assign,body,hy,hR6⟩:=yieldAt_any (m':=8) (hY _ C' _ _ O w6 (by rw [← hst2];exact hpre) hI6.j hWV (fun k hk=>⟨fun hc=>by have:=(hI.bd k hc).1;have:=(hO k hk).1;omega,fun hd=>by have:=hDl k hd;have:=(hO k hk).1;have:=hI.fd.size;omega⟩))
    have key:∀ (J':List M.Wy→(Nat→Prop)→World→Prop) (C4:Nat→Prop) (w4:World),Fr (fun k=>¬ C' k∧¬ O k) w6 w4→Adds C' O C4 w6 w4→J' (M.nextP p ws x n++[(x.1,x.2.set p (r++[f]))]) C4 w4→FromI J' C D w W (M.nextP p ws x (n+1)) C4 w4:=fun J' C4 w4 hf hA hj=>by
     rw [hst2]
     have:=bw6.size
     exact hI6.round (by omega) (fun k hd=>by have:=hDl k hd;have:=hI.fd.size;omega) (fun k hk=>⟨fun hd=>by have:=hDl k hd;have:=(hO k hk).1;have:=hI.fd.size;omega,by have:=(hO k hk).1;omega,(hO k hk).2⟩) hf hA hj
    gi_wp2_with fail
    refine hR6.mono ?_
    rintro e w7 ⟨hf4,C4,hA4,(⟨rfl,hj4⟩ | ⟨rfl,hj4⟩)⟩
    ·have hI4:=key J C4 w7 hf4 hA4 hj4
     gi_wp2_with fail
     go_roundw
     case rel=>exact ⟨n+1,C4,by go_num,by omega,hI4⟩
     case measure=>simp [intOf];omega
    ·have hI4:=key Jx C4 w7 hf4 hA4 hj4
     gi_wp2_with fail
     refine bodyPost_ret (results_none rfl _ _ _) rfl ?_
     exact ⟨⟨_,rfl⟩,hI4.fc,C4,hI4.ad,Or.inr ⟨_,hpre,hI4.j⟩⟩
  ·have hkn:¬ (n:Int) < ws.length:=by omega
   gi_wp2
   go_end0
   exact ⟨⟨_,rfl⟩,hI.fc,C',hI.ad,Or.inl (by rw [← M.nextP_all p ws x n (by omega)];exact hI.j)⟩
end Go.Proofs.YtjjkicffhpcngaaGreat
namespace Go.Proofs.YtjjkicffhpcngaaGreat
open Go.RowKit Go.Shelf
set_option maxRecDepth 100000 in
set_option maxHeartbeats 1000000 in
theorem next_choice {D:Nat→Prop} {w:World} {ds:List M.De} {ws:List Int} {p wb pb:Nat} (hs:∃ sa sg sc,w.cell? ⟨wb,0,none⟩=some (.slice sa ws.length sc)∧IntS w sa sg 0 ws∧(0 < ws.length→D sg))
  (hp0:w.cell? ⟨pb,0,none⟩=some (.int .i64 p)) (ds1:D wb) (dp:D pb) (hDl:∀ k,D k→k < w.heap.size) (hp:p < 3) (hdl:ds.length≤1000) (hwl:ws.length≤1000) (hws:∀ v∈ws,0≤v∧v < ds.length) :
  ChoiceC (WayV (WyOk ds)) D 154 #[.pointer (some ⟨wb,0,none⟩),.pointer (some ⟨pb,0,none⟩)] (M.chN p ws) w:=by
 refine ⟨enters_of Tryz.func154 (by kernel_rfl) rfl,fun x vs O W hW hV hO=>?_⟩
 obtain ⟨⟨fv,ov,cs,rfl,hx,hOk⟩,hq⟩:=hV
 have hmf:∀ (fn:Fn) (first cap:Array Value) (w:World),(Instr.makeFunc fn first cap).run Tryz.prog w=.ok (.func fn first cap) w:=fun _ _ _ _=>rfl
 obtain ⟨a1,c1,rfl⟩:=own_slx hx.from_
 obtain ⟨a2,c2,rfl⟩:=own_slx hx.ord
 have b1:=below1 W (.cells #[.slice a1 x.1.length c1,.slice a2 x.2.length c2] 63)
 have sX:SlotX (W.alloc (.cells #[.slice a1 x.1.length c1,.slice a2 x.2.length c2] 63)) W.heap.size (.slice a1 x.1.length c1) (.slice a2 x.2.length c2):=⟨heap_alloc_new _ _⟩
 have sz:(W.alloc (.cells #[.slice a1 x.1.length c1,.slice a2 x.2.length c2] 63)).heap.size=W.heap.size+1:=by simp
 have hF:NextD (fun k=>D k∨O k∨(W.heap.size≤k∧k < (W.alloc (.cells #[.slice a1 x.1.length c1,.slice a2 x.2.length c2] 63)).heap.size)) (W.alloc (.cells #[.slice a1 x.1.length c1,.slice a2 x.2.length c2] 63)) ws p x wb W.heap.size pb:=by
  have hf:Fr D w (W.alloc (.cells #[.slice a1 x.1.length c1,.slice a2 x.2.length c2] 63)):=hW.trans (.of_below b1)
  obtain ⟨sa,sg,sc,s1,s2,s3⟩:=hs
  exact ⟨⟨sa,sg,sc,hf.cell ds1 s1,s2.fr hf s3,fun h=>Or.inl (s3 h)⟩,hf.cell dp hp0,⟨_,_,cs,sX.c0,sX.c1,hx.below b1,fun k hk=>Or.inr (Or.inl ((hOk k).2 hk))⟩,Or.inl ds1,Or.inr (Or.inr ⟨Nat.le_refl _,by omega⟩),Or.inl dp⟩
 have hseq:=fun n=>next_seq (n:=n) hF (fun k hk=>by
  rcases hk with hk | hk | hk
  ·have:=hDl k hk;have:=hW.size;omega
  ·have:=(hx.blk_lt ((hOk k).1 hk)).2;omega
  ·exact hk.2) hp hdl hwl hq hws
 go_enter Tryz.func154,Tryz.ntmps154
 go_wp2_with fail
 go_ret
 exact ⟨_,_,rfl,enters_of Tryz.func155 (by kernel_rfl) rfl,b1,hseq⟩
set_option maxHeartbeats 400000 in
theorem chooseInEach_any (gf cf:Nat) (lb lc:Array Value) (w:World) :
  Calls Tryz.prog 75 #[.func (.func gf) #[] lb,.func (.func cf) #[] lc] w fun e w'=>e=.returned (.func (.func 119) #[] #[.pointer (some ⟨w.heap.size,0,none⟩),.pointer (some ⟨w.heap.size+1,0,none⟩)])∧Below w.heap.size w w'∧w'.heap.size=w.heap.size+2∧w'.cell? ⟨w.heap.size,0,none⟩=some (.func (.func gf) #[] lb)∧w'.cell? ⟨w.heap.size+1,0,none⟩=some (.func (.func cf) #[] lc):=by
 have hmf:∀ (fn:Fn) (first cap:Array Value) (w:World),(Instr.makeFunc fn first cap).run Tryz.prog w=.ok (.func fn first cap) w:=fun _ _ _ _=>rfl
 go_enter Tryz.func75,Tryz.ntmps75
 go_wp2_with fail
 go_ret
 exact ⟨rfl,below2 _ _ _,by simp,by simp,by simp⟩
set_option maxHeartbeats 400000 in
theorem chooseNext_any (p:Int) (sa:Option Addr) (n sc:Nat) (w:World) :
  Calls Tryz.prog 118 #[.int .i64 p,.slice sa n sc] w fun e w'=>e=.returned (.func (.func 154) #[] #[.pointer (some ⟨w.heap.size+1,0,none⟩),.pointer (some ⟨w.heap.size,0,none⟩)])∧Below w.heap.size w w'∧w'.heap.size=w.heap.size+2∧w'.cell? ⟨w.heap.size,0,none⟩=some (.int .i64 p)∧w'.cell? ⟨w.heap.size+1,0,none⟩=some (.slice sa n sc):=by
 have hmf:∀ (fn:Fn) (first cap:Array Value) (w:World),(Instr.makeFunc fn first cap).run Tryz.prog w=.ok (.func fn first cap) w:=fun _ _ _ _=>rfl
 go_enter Tryz.func118,Tryz.ntmps118
 go_wp2_with fail
 go_ret
 exact ⟨rfl,below2 _ _ _,by simp,by simp,by simp⟩
end Go.Proofs.YtjjkicffhpcngaaGreat
namespace Go.Proofs.YtjjkicffhpcngaaGreat
open Go.RowKit Go.Shelf
inductive ChRaw (P:Nat→Prop) (ds:List M.De) (va:Option Addr) (W:World):Value→(M.Wy→List M.Wy)→Prop where
 | from_ (at_ sb ab lb c:Nat) (sa:Option Addr) (sg sc:Nat) (h1:at_ < ds.length) (h2:W.cell? ⟨lb,0,none⟩=some (.slice va ds.length c)) (h3:W.cell? ⟨ab,0,none⟩=some (.int .i64 at_)) (h4:W.cell? ⟨sb,0,none⟩=some (.slice sa (M.srcs ds at_).length sc)) (h5:IntS W sa sg 0 (M.srcs ds at_)) (h6:P sb∧P ab∧P lb∧P sg∧sg < W.heap.size) :
  ChRaw P ds va W (.func (.func 149) #[] #[.pointer (some ⟨sb,0,none⟩),.pointer (some ⟨ab,0,none⟩),.pointer (some ⟨lb,0,none⟩)]) (M.chF ds at_)
 | next_ (p wb pb:Nat) (sa:Option Addr) (sg sc:Nat) (h1:p < 3) (h2:W.cell? ⟨wb,0,none⟩=some (.slice sa (M.wrs p 0 ds).length sc)) (h3:W.cell? ⟨pb,0,none⟩=some (.int .i64 p)) (h4:IntS W sa sg 0 (M.wrs p 0 ds)) (h5:P wb∧P pb∧(0 < (M.wrs p 0 ds).length→P sg∧sg < W.heap.size)) :
  ChRaw P ds va W (.func (.func 154) #[] #[.pointer (some ⟨wb,0,none⟩),.pointer (some ⟨pb,0,none⟩)]) (M.chN p (M.wrs p 0 ds))
theorem ChRaw.keep {P P':Nat→Prop} {ds:List M.De} {va:Option Addr} {W W':World} {f:Value} {ch:M.Wy→List M.Wy} (h:ChRaw P ds va W f ch) (hs:W.heap.size≤W'.heap.size) (hk:∀ k,k < W.heap.size→P k→W'.heap[k]?=W.heap[k]?∧P' k):ChRaw P' ds va W' f ch:=by
 have lt:∀ {b i:Nat} {v:Value},W.cell? ⟨b,i,none⟩=some v→b < W.heap.size:=fun hv=>World.block_lt_of_cell? _ _ hv
 have cc:∀ {b i:Nat} {v:Value},P b→W.cell? ⟨b,i,none⟩=some v→W'.cell? ⟨b,i,none⟩=some v:=fun hp hv=>(World.cell?_of_block (hk _ (lt hv) hp).1).trans hv
 have ii:∀ {a:Option Addr} {b:Nat} {l:List Int},IntS W a b 0 l→(0 < l.length→P b)→IntS W' a b 0 l:=fun hI hp=>⟨hI.addr,fun i hi=>cc (hp (by omega)) (hI.row i hi)⟩
 cases h with
 | from_ at_ sb ab lb c sa sg sc h1 h2 h3 h4 h5 h6 =>
  obtain ⟨p1,p2,p3,p4,p5⟩:=h6
  exact .from_ at_ sb ab lb c sa sg sc h1 (cc p3 h2) (cc p2 h3) (cc p1 h4) (ii h5 (fun _=>p4)) ⟨(hk _ (lt h4) p1).2,(hk _ (lt h3) p2).2,(hk _ (lt h2) p3).2,(hk _ p5 p4).2,by omega⟩
 | next_ p wb pb sa sg sc h1 h2 h3 h4 h5 =>
  obtain ⟨p1,p2,p3⟩:=h5
  exact .next_ p wb pb sa sg sc h1 (cc p1 h2) (cc p2 h3) (ii h4 (fun h=>(p3 h).1)) ⟨(hk _ (lt h2) p1).2,(hk _ (lt h3) p2).2,fun h=>⟨(hk _ (p3 h).2 (p3 h).1).2,by have:=(p3 h).2;omega⟩⟩
theorem ChRaw.below {P:Nat→Prop} {ds:List M.De} {va:Option Addr} {W W':World} {f:Value} {ch:M.Wy→List M.Wy} (h:ChRaw P ds va W f ch) (hb:Below W.heap.size W W'):ChRaw P ds va W' f ch :=
 h.keep hb.size fun k hk hp=>⟨hb.block k hk,hp⟩
theorem ChRaw.choice {P:Nat→Prop} {ds:List M.De} {va:Option Addr} {g:Nat} {W:World} {f:Value} {ch:M.Wy→List M.Wy} (h:ChRaw P ds va W f ch) (hd:DeS W va g ds) (hdl:ds.length≤1000) {D:Nat→Prop} (hD:∀ k,P k→k < W.heap.size→D k) (hg:0 < ds.length→D g) (hDl:∀ k,D k→k < W.heap.size) :
  ∃ cf lc,f=.func (.func cf) #[] lc∧ChoiceC (WayV (WyOk ds)) D cf lc ch W:=by
 have lt:∀ {b:Nat} {v:Value},W.cell? ⟨b,0,none⟩=some v→b < W.heap.size:=fun hv=>World.block_lt_of_cell? _ _ hv
 cases h with
 | from_ at_ sb ab lb c sa sg sc h1 h2 h3 h4 h5 h6=>exact ⟨_,_,rfl,from_choice ⟨sa,sg,sc,h4,h5,hD _ h6.2.2.2.1 h6.2.2.2.2⟩ h3 ⟨va,g,c,h2,hd,hg⟩ (hD _ h6.1 (lt h4)) (hD _ h6.2.1 (lt h3)) (hD _ h6.2.2.1 (lt h2)) hDl h1 hdl⟩
 | next_ p wb pb sa sg sc h1 h2 h3 h4 h5 =>
  refine ⟨_,_,rfl,next_choice ⟨sa,sg,sc,h2,h4,fun h=>hD _ (h5.2.2 h).1 (h5.2.2 h).2⟩ h3 (hD _ h5.1 (lt h2)) (hD _ h5.2.1 (lt h3)) hDl h1 hdl ?_ ?_⟩
  ·have:=M.wrs_len (p:Int) ds 0;omega
  ·intro v hv
   obtain ⟨i,hi,e,_⟩:=M.mem_wrs.1 hv
   omega
structure ChL (w wr:World) (ds:List M.De) (va:Option Addr) (v:Value) (ps:List (Value × (M.Wy→List M.Wy))):Prop where
 told:Told w wr 101 1 v ps.length (ps.map fun q=>q.1)
 raw:∀ q∈ps,ChRaw (fun k=>w.heap.size≤k∧v.ownBlock≠some k) ds va wr q.1 q.2
theorem ChL.below {w wr w1:World} {ds:List M.De} {va:Option Addr} {v:Value} {ps:List (Value × (M.Wy→List M.Wy))} (h:ChL w wr ds va v ps) (hb:Below wr.heap.size wr w1):ChL w w1 ds va v ps:=⟨h.told.below hb,fun q hq=>(h.raw q hq).below hb⟩
theorem ChL.snoc {w wr w3:World} {ds:List M.De} {va:Option Addr} {v:Value} {ps:List (Value × (M.Wy→List M.Wy))} {o:Obj} (h:ChL w wr ds va v ps) {g' cap:Nat} {f:Value} {ch:M.Wy→List M.Wy} (hf:ChRaw (fun k=>w.heap.size≤k∧v.ownBlock≠some k) ds va wr f ch)
  (ho:w3.ownsRow w.heap.size 101 1 (.slice (some ⟨g',0,none⟩) (ps.length+1) cap) (ps.length+1) (ps.map (fun q=>q.1)++[f])) (hg:(wr.alloc o).grownBy w3 v.ownBlock) (hat:v.ownBlock=some g'∨g'=wr.heap.size+1):ChL w w3 ds va (.slice (some ⟨g',0,none⟩) (ps.length+1) cap) (ps++[(f,ch)]):=by
 have hs:wr.heap.size≤w3.heap.size:=by have:=hg.size;simp at this;omega
 have kp:∀ {f:Value} {ch:M.Wy→List M.Wy},ChRaw (fun k=>w.heap.size≤k∧v.ownBlock≠some k) ds va wr f ch→ChRaw (fun k=>w.heap.size≤k∧(Value.slice (some ⟨g',0,none⟩) (ps.length+1) cap).ownBlock≠some k) ds va w3 f ch:=fun h=>h.keep hs fun k hk hp=>by
  refine ⟨(hg.block k (by simp;omega) (fun e=>hp.2 e.symm)).trans ((below1 wr o).block k hk),hp.1,fun e=>?_⟩
  have e':g'=k:=Option.some.inj e
  subst e'
  rcases hat with e2 | e2
  ·exact hp.2 e2
  ·omega
 refine ⟨?_,fun q hq=>?_⟩
 ·rw [List.length_append,List.map_append]
  exact h.told.snoc ho hg
 ·rcases List.mem_append.1 hq with hq | hq
  ·exact kp (h.raw q hq)
  ·rw [List.mem_singleton.1 hq];exact kp hf
theorem Tryz.infoWc:(Tryz.prog.info? 101).map (fun i=>(i.zero,i.size,i.bytes))=some (some .nilFunc,1,8):=by kernel_rfl
namespace M
def chPl (ds:List De):Nat→List (Wy→List Wy)
 | 0=>[]
 | p+1=>chPl ds p++chNs ds p
theorem wchoices_eq (ds:List De):wchoices ds=chFs ds 0 ds++chPl ds 3:=by simp [wchoices,chPl]
theorem chFs_step {ds:List De} {n:Nat} {acc:List (Wy→List Wy)} (h:chFs ds 0 ds=acc++chFs ds n (ds.drop n)) (hn:n < ds.length):chFs ds 0 ds=(if ds[n].reads then acc++[chF ds n] else acc)++chFs ds (n+1) (ds.drop (n+1)):=by
 rw [h,← List.getElem_cons_drop hn]
 simp only [chFs]
 split<;>simp
theorem chFs_fin {ds:List De} {n:Nat} {acc:List (Wy→List Wy)} (h:chFs ds 0 ds=acc++chFs ds n (ds.drop n)) (hn:ds.length≤n):chFs ds 0 ds=acc:=by
 rw [h,List.drop_eq_nil_of_le hn];simp [chFs]
end M
structure WsI (w wr:World) (ds:List M.De) (va:Option Addr) (v:Value) (ps:List (Value × (M.Wy→List M.Wy))) (p:Nat) (a2:Option Addr) (sg:Nat):Prop where
 chl:ChL w wr ds va v ps
 ints:IntS wr a2 sg 0 (M.wrs p 0 ds)
 far:0 < (M.wrs p 0 ds).length→w.heap.size≤sg∧v.ownBlock≠some sg
theorem WsI.below {w wr w1:World} {ds:List M.De} {va:Option Addr} {v:Value} {ps:List (Value × (M.Wy→List M.Wy))} {p:Nat} {a2:Option Addr} {sg:Nat} (h:WsI w wr ds va v ps p a2 sg) (hb:Below wr.heap.size wr w1):WsI w w1 ds va v ps p a2 sg:=⟨h.chl.below hb,h.ints.below hb (Nat.le_refl _),h.far⟩
theorem WsI.snoc {w wr w3:World} {ds:List M.De} {va:Option Addr} {v:Value} {ps:List (Value × (M.Wy→List M.Wy))} {p:Nat} {a2:Option Addr} {sg:Nat} {o:Obj} (h:WsI w wr ds va v ps p a2 sg) {g' cap:Nat} {f:Value} {ch:M.Wy→List M.Wy} (hf:ChRaw (fun k=>w.heap.size≤k∧v.ownBlock≠some k) ds va wr f ch)
  (ho:w3.ownsRow w.heap.size 101 1 (.slice (some ⟨g',0,none⟩) (ps.length+1) cap) (ps.length+1) (ps.map (fun q=>q.1)++[f])) (hg:(wr.alloc o).grownBy w3 v.ownBlock) (hat:v.ownBlock=some g'∨g'=wr.heap.size+1):WsI w w3 ds va (.slice (some ⟨g',0,none⟩) (ps.length+1) cap) (ps++[(f,ch)]) p a2 sg:=by
 refine ⟨h.chl.snoc hf ho hg hat,⟨h.ints.addr,fun i hi=>?_⟩,fun hp=>⟨(h.far hp).1,fun e=>?_⟩⟩
 ·have hc:=h.ints.row i hi
  have hlt:=World.block_lt_of_cell? _ _ hc
  have hlt':sg < wr.heap.size:=hlt
  exact hg.cell (((below1 wr o).cell (p:=⟨sg,0+i,none⟩) hlt).trans hc) (fun e=>(h.far (by omega)).2 e.symm)
 ·have e':g'=sg:=Option.some.inj e
  subst e'
  rcases hat with e2 | e2
  ·exact (h.far hp).2 e2
  ·have:=World.block_lt_of_cell? _ _ (h.ints.row 0 hp)
   have:g' < wr.heap.size:=this
   omega
structure ChsAns (w w':World) (ds:List M.De) (va:Option Addr) (v:Value):Prop where
 ex:∃ ps:List (Value × (M.Wy→List M.Wy)),M.wchoices ds=ps.map (fun q=>q.2)∧ps.length≤4000∧ChL w w' ds va v ps
set_option maxHeartbeats 1000000 in
set_option maxRecDepth 100000 in
theorem choices_any (va:Option Addr) (g c:Nat) (ds:List M.De) (w:World) (hdl:ds.length≤1000) (h:DeS w va g ds) :
  Calls Tryz.prog 74 #[.slice va ds.length c] w fun e w'=>∃ v,e=.returned v∧ChsAns w w' ds va v:=by
 obtain ⟨i0,hi,hz0,hz1,hz2⟩:=info_parts Tryz.infoWc
 go_enter Tryz.func74,Tryz.ntmps74
 go_wp2_with fail
 go_loopw [3,10] (fun s3 s10 wr=>∃ (n:Nat) (ps:List (Value × (M.Wy→List M.Wy))) (v:Value),s3=v∧s10=.int .i64 n∧n≤ds.length∧ps.length≤n∧Hid (M.chFs ds 0 ds=ps.map (fun q=>q.2)++M.chFs ds n (ds.drop n))∧ChL w wr ds va v ps) (fun _ s10 _=>ds.length - (intOf s10).toNat)
 case atStart=>exact ⟨0,[],.slice none 0 0,rfl,rfl,Nat.zero_le _,Nat.le_refl _,by show _=_;rfl,Told.start _ _ _ _ (Below.refl _ _),fun q hq=>by cases hq⟩
 case round =>
  obtain ⟨n,ps,v,rfl,rfl,hn,hps,HW,A⟩:=hrel
  by_cases hlt:n < ds.length
  ·obtain ⟨rfl⟩:=h.addr (by omega)
   have hx:=DeS.at (h.bel A.told.bel (Nat.le_refl _)) hlt
   have HW2:=M.chFs_step HW.out hlt
   have HW2:Hid (M.chFs ds 0 ds=(if (ds[n]).reads then ps.map (fun q=>q.2)++[M.chF ds n] else ps.map (fun q=>q.2))++M.chFs ds (n+1) (ds.drop (n+1))):=HW2
   clear HW
   generalize ds[n]=x at *
   obtain ⟨c0,c1,c2,c3,c4,c5,c6⟩:=hx
   have i1:(n:Int) < ds.length:=by omega
   have lg:g < wr.heap.size:=World.block_lt_of_cell? _ _ c0
   have A2:=A.below (below2 wr (.cells #[.int .i64 (x.t:Int),.int .i64 (x.i:Int),.bool x.last,.int .i64 x.d.k,.int .i64 x.d.p,.int .i64 x.d.v,.int .i64 x.lr] 95) (.cells #[.int .i64 (x.t:Int),.int .i64 (x.i:Int),.bool x.last,.int .i64 x.d.k,.int .i64 x.d.p,.int .i64 x.d.v,.int .i64 x.lr] 95))
   obtain ⟨av,cv,hav⟩:=own_slx A2.told.own
   subst hav
   cases ht:x.reads
   ·go_wp2_with (go_at_call 80;refine (deReads_any x _).mono ?_;rw [ht];rintro e w' ⟨rfl,rfl⟩)
    exact ⟨⟨n+1,ps,_,rfl,by go_num,by omega,by omega,by show _=_;have:=HW2.out;rw [ht] at this;exact this,A2⟩,by simp [intOf];omega⟩
   ·go_wp2_with (go_at_call 80;refine (deReads_any x _).mono ?_;rw [ht];rintro e w' ⟨rfl,rfl⟩)
    generalize (wr.alloc (.cells #[.int .i64 (x.t:Int),.int .i64 (x.i:Int),.bool x.last,.int .i64 x.d.k,.int .i64 x.d.p,.int .i64 x.d.v,.int .i64 x.lr] 95)).alloc (.cells #[.int .i64 (x.t:Int),.int .i64 (x.i:Int),.bool x.last,.int .i64 x.d.k,.int .i64 x.d.p,.int .i64 x.d.v,.int .i64 x.lr] 95)=W2 at *
    clear c0 c1 c2 c3 c4 c5 c6 lg A
    have hb2:=A2.told.bel
    refine (chooseFrom_any (some ⟨g,0,none⟩) g c ds n W2 hlt hdl (h.bel hb2 (Nat.le_refl _))).mono ?_
    rintro e W3 ⟨A,rfl,hA⟩
    have A3:=A2.below hA.bel
    have s23:=hA.bel.size
    have raw:ChRaw (fun k=>w.heap.size≤k∧(Value.slice av ps.length cv).ownBlock≠some k) ds (some ⟨g,0,none⟩) W3 (Value.func (.func 149) #[] #[.pointer (some ⟨A,0,none⟩),.pointer (some ⟨W2.heap.size+1,0,none⟩),.pointer (some ⟨W2.heap.size,0,none⟩)]) (M.chF ds n):=by
     obtain ⟨sa,sg,sc,k1,k2,k3,k4⟩:=hA.s
     have hs2:=hb2.size
     have hge:=hA.ge
     have far:∀ k,W2.heap.size≤k→w.heap.size≤k∧(Value.slice av ps.length cv).ownBlock≠some k:=fun k hk=>⟨by omega,fun e=>by have:=(A2.told.own.lt k e).2;omega⟩
     exact .from_ n A (W2.heap.size+1) W2.heap.size c sa sg sc hlt hA.l hA.a k1 k2 ⟨far _ hge,far _ (by omega),far _ (Nat.le_refl _),far _ k3,k4⟩
    clear A2 hA
    have hb3:=A3.told.bel
    have sb3:=hb3.size
    go_wp2_with (at_builtin;refine wpList_append_lies _ rfl (.tmp 17) (.tmp 21) 98 rfl w.heap.size 101 i0 _ 1 8 Tryz.underlying98 hi hz0 hz1 hz2 rfl (by decide) _ _ _ rfl (A3.told.own.alloc _) ⟨W3.heap.size,0,none⟩ 1 1 [(Value.func (.func 149) #[] #[.pointer (some ⟨A,0,none⟩),.pointer (some ⟨W2.heap.size+1,0,none⟩),.pointer (some ⟨W2.heap.size,0,none⟩)])] rfl rfl (World.news_of_block (cs:=#[(Value.func (.func 149) #[] #[.pointer (some ⟨A,0,none⟩),.pointer (some ⟨W2.heap.size+1,0,none⟩),.pointer (some ⟨W2.heap.size,0,none⟩)])]) (t:=101) (fr:=(0,0)) (heap_alloc_new W3 _)) (by simp [Value.oneCell']) (by omega) (by unfold maxLen;omega) (by omega) (by simp;omega) (W3.heap.size+1) (by simp) ?_)
    intro g6 cap6 w6 hown6 hg6 hat6 hlt6
    have A6:=A3.snoc raw hown6 hg6 hat6
    clear hown6 hg6 hat6 hlt6 raw A3
    go_wp2_with fail
    exact ⟨⟨n+1,_,_,rfl,by go_num,by omega,by rw [List.length_append,List.length_singleton];omega,by show _=_;have:=HW2.out;rw [ht] at this;rw [List.map_append];exact this,A6⟩,by simp [intOf];omega⟩
  ·have HF:Hid (M.chFs ds 0 ds=ps.map (fun q=>q.2)):=M.chFs_fin HW.out (by omega)
   clear HW
   have hdn:ps.length≤ds.length:=by omega
   obtain ⟨av,cv,hav⟩:=own_slx A.told.own
   subst hav
   go_wp2_with fail
   go_loopw [3,24] (fun s3 s24 wr=>∃ (p:Nat) (ps:List (Value × (M.Wy→List M.Wy))) (v:Value),s3=v∧s24=.int .i64 p∧p≤3∧ps.length≤1000+p * 1000∧Hid (M.chFs ds 0 ds++M.chPl ds p=ps.map (fun q=>q.2))∧ChL w wr ds va v ps) (fun _ s24 _=>3 - (intOf s24).toNat)
   case atStart=>exact ⟨0,ps,_,rfl,rfl,by omega,by omega,by show _=_;rw [M.chPl,List.append_nil];exact HF.out,A⟩
   case round =>
    clear A HF hdn hps hlt
    obtain ⟨p,ps,v,rfl,rfl,hp,hpl,HW,A⟩:=hrel
    obtain ⟨av,cv,hav⟩:=own_slx A.told.own
    subst hav
    by_cases hlt:p < 3
    ·have i1:(p:Int) < 3:=by omega
     have hb:=A.told.bel
     go_wp2_with fail
     refine (writers_any va g c ds p wr (by omega) (h.bel hb (Nat.le_refl _))).mono ?_
     rintro e W2 ⟨v2,rfl,ho2,b2⟩
     obtain ⟨a2,c2,rfl⟩:=own_slx ho2
     have A2:=A.below b2
     have hws:=M.wrs_len (p:Int) ds 0
     have O2:∃ sg,IntS W2 a2 sg 0 (M.wrs p 0 ds)∧(0 < (M.wrs p 0 ds).length→wr.heap.size≤sg∧sg < W2.heap.size):=by
      obtain ⟨a3,sg,c3,e3,k1,_,k3⟩:=own_ints ho2
      simp only [Value.slice.injEq] at e3
      obtain ⟨rfl,_,rfl⟩:=e3
      refine ⟨sg,k1,fun hp=>⟨k3 hp,?_⟩⟩
      exact World.block_lt_of_cell? _ _ (k1.row 0 hp)
     obtain ⟨sg,iS,lS⟩:=O2
     have farS:0 < (M.wrs p 0 ds).length→w.heap.size≤sg∧(Value.slice av ps.length cv).ownBlock≠some sg:=fun hp=>⟨by have:=(lS hp).1;have:=hb.size;omega,fun e=>by have:=(A.told.own.lt sg e).2;have:=(lS hp).1;omega⟩
     have HCN:Hid (M.chNs ds p=List.replicate (M.wrs p 0 ds).length (M.chN p (M.wrs p 0 ds))):=M.chNs_rep ds p
     have hsg:0 < (M.wrs p 0 ds).length→sg < W2.heap.size:=fun hp=>(lS hp).2
     clear ho2 b2 A lS hb
     have S2:WsI w W2 ds va (.slice av ps.length cv) ps p a2 sg:=⟨A2,iS,farS⟩
     clear A2 iS farS hsg
     go_wp2_with fail
     go_loopw [3,32] (fun s3 s32 wr=>∃ (m:Nat) (ps:List (Value × (M.Wy→List M.Wy))) (v:Value),s3=v∧s32=.int .i64 m∧m≤(M.wrs p 0 ds).length∧ps.length≤1000+p * 1000+m∧Hid ((M.chFs ds 0 ds++M.chPl ds p)++List.replicate m (M.chN p (M.wrs p 0 ds))=ps.map (fun q=>q.2))∧WsI w wr ds va v ps p a2 sg) (fun _ s32 _=>(M.wrs p 0 ds).length - (intOf s32).toNat)
     case atStart=>exact ⟨0,ps,_,rfl,rfl,Nat.zero_le _,by omega,by show _=_;rw [List.replicate_zero,List.append_nil];exact HW.out,S2⟩
     case round =>
      clear S2 HW hpl
      obtain ⟨m,ps,v,rfl,rfl,hm,hpl,HW,S⟩:=hrel
      obtain ⟨av,cv,hav⟩:=own_slx S.chl.told.own
      subst hav
      by_cases hmn:m < (M.wrs p 0 ds).length
      ·have i2:(m:Int) < (M.wrs p 0 ds).length:=by omega
       have hws3:=S.chl.told.bel.size
       go_wp2_with fail
       refine (chooseNext_any p a2 (M.wrs p 0 ds).length c2 _).mono ?_
       rintro e W3 ⟨rfl,b3,sz3,k1,k2⟩
       have S3:=S.below b3
       have raw:ChRaw (fun k=>w.heap.size≤k∧(Value.slice av ps.length cv).ownBlock≠some k) ds va W3 (Value.func (.func 154) #[] #[.pointer (some ⟨wr.heap.size+1,0,none⟩),.pointer (some ⟨wr.heap.size,0,none⟩)]) (M.chN p (M.wrs p 0 ds)):=by
        have far:∀ k,wr.heap.size≤k→w.heap.size≤k∧(Value.slice av ps.length cv).ownBlock≠some k:=fun k hk=>⟨by omega,fun e=>by have:=(S.chl.told.own.lt k e).2;omega⟩
        exact .next_ p _ _ a2 sg c2 hlt k2 k1 S3.ints ⟨far _ (by omega),far _ (Nat.le_refl _),fun hp=>⟨S3.far hp,World.block_lt_of_cell? _ _ (S3.ints.row 0 hp)⟩⟩
       have sb3:=S3.chl.told.bel.size
       clear S k1 k2 sz3
       go_wp2_with (at_builtin;refine wpList_append_lies _ rfl (.tmp 34) (.tmp 38) 98 rfl w.heap.size 101 i0 _ 1 8 Tryz.underlying98 hi hz0 hz1 hz2 rfl (by decide) _ _ _ rfl (S3.chl.told.own.alloc _) ⟨W3.heap.size,0,none⟩ 1 1 [(Value.func (.func 154) #[] #[.pointer (some ⟨wr.heap.size+1,0,none⟩),.pointer (some ⟨wr.heap.size,0,none⟩)])] rfl rfl (World.news_of_block (cs:=#[(Value.func (.func 154) #[] #[.pointer (some ⟨wr.heap.size+1,0,none⟩),.pointer (some ⟨wr.heap.size,0,none⟩)])]) (t:=101) (fr:=(0,0)) (heap_alloc_new W3 _)) (by simp [Value.oneCell']) (by omega) (by unfold maxLen;omega) (by omega) (by simp;omega) (W3.heap.size+1) (by simp) ?_)
       intro g6 cap6 w6 hown6 hg6 hat6 hlt6
       have S6:=S3.snoc raw hown6 hg6 hat6
       clear hown6 hg6 hat6 hlt6 raw S3
       go_wp2_with fail
       exact ⟨⟨m+1,_,_,rfl,by go_num,by omega,by rw [List.length_append,List.length_singleton];omega,by show _=_;rw [List.map_append,List.replicate_succ',← List.append_assoc,HW.out];rfl,S6⟩,by simp [intOf];omega⟩
      ·have i2:¬ (m:Int) < (M.wrs p 0 ds).length:=by omega
       have hme:m=(M.wrs p 0 ds).length:=by omega
       have HW3:Hid (M.chFs ds 0 ds++M.chPl ds (p+1)=ps.map (fun q=>q.2)):=by
        show _=_
        rw [M.chPl,← List.append_assoc,HCN.out,← hme];exact HW.out
       clear hme HW
       go_wp2_with fail
       exact ⟨⟨p+1,ps,_,rfl,by go_num,by omega,by omega,HW3,S.chl⟩,by simp [intOf];omega⟩
    ·have i1:¬ (p:Int) < 3:=by omega
     have hp3:p=3:=by omega
     subst hp3
     go_wp2_with fail
     go_ret
     exact ⟨_,rfl,ps,by rw [M.wchoices_eq];exact HW.out,by omega,A⟩
end Go.Proofs.YtjjkicffhpcngaaGreat
namespace Go.Proofs.YtjjkicffhpcngaaGreat
open Go.RowKit Go.Shelf
attribute [local go_sem] Oper.semAt_some
theorem WyOk.first {ds:List M.De} (hc:∀ (n:Nat) (x:M.De),ds[n]?=some x→x.lr < ds.length):WyOk ds (M.firstW ds):=by
 refine ⟨by simp [M.firstW,M.init],fun n hn=>?_,rfl,fun r hr=>?_⟩
 ·unfold M.valFrom
  rw [List.getElem?_eq_getElem hn]
  dsimp only [M.firstW]
  split
  ·rename_i hr
   rw [List.getD_eq_getElem?_getD]
   simp only [M.init,List.getElem?_map,List.getElem?_eq_getElem hn,Option.map_some,Option.getD_some]
   split<;>omega
  ·split
   ·exact hc n _ (List.getElem?_eq_getElem hn)
   ·omega
 ·simp [M.firstW] at hr
  subst hr
  exact ⟨List.nodup_nil,fun v hv=>by cases hv⟩
set_option maxRecDepth 100000 in
set_option maxHeartbeats 1000000 in
theorem first_seq {D:Nat→Prop} {w:World} {ds:List M.De} {lb:Nat} (hl:∃ va g c,w.cell? ⟨lb,0,none⟩=some (.slice va ds.length c)∧DeS w va g ds∧(0 < ds.length→D g)) (dl:D lb) (hDl:∀ k,D k→k < w.heap.size) (hdl:ds.length≤1000) (hq:WyOk ds (M.firstW ds)) (n:Nat) :
  SeqC Fence.wide n Tryz.prog 72 #[.pointer (some ⟨lb,0,none⟩)] (WayV (WyOk ds)) D [M.firstW ds] w:=by
 intro l J Jx C W hW hC hJ hJx hY h0
 refine callsIn_wide.2 (callsIn_wide (n:=9) |>.1 ?_)
 refine callsIn_of_wp Tryz.func72 rfl trivial ?_ rfl
 simp only [Tryz.ntmps72,List.size_toArray,List.length_cons,List.length_nil,Nat.reduceAdd,Nat.reduceSub,Array.replicate_succ,Array.replicate_zero,List.push_toArray,List.append_toArray,List.nil_append,List.cons_append]
 obtain ⟨va,g,c,l1,l2,l3⟩:=hl
 have cl:=hW.cell dl l1
 have CF:=firstWay_any va g c ds W hdl (DeS.fr l2 hW l3)
 have hws:=hW.size
 gi_wp2_with fail
 refine ⟨trivial,(callsIn_wide.2 CF).mono ?_⟩
 rintro e w1 ⟨fv,ov,rfl,hA⟩
 have b1:=hA.bel
 have s1:=b1.size
 obtain ⟨O,hWV,hO⟩:=hA.way hq
 obtain ⟨fn,tmps,assign,body,hy,hR⟩:=yieldAt_any (m':=8) (hY [] C _ _ O w1 (List.prefix_refl _) (hJ _ _ _ _ h0 (.of_below b1)) hWV (fun k hk=>⟨fun hc=>by have:=(hC k hc).1;have:=(hO k hk).1;omega,fun hd=>by have:=hDl k hd;have:=(hO k hk).1;omega⟩))
 have key:∀ (C4:Nat→Prop) (w4:World),Fr (fun k=>¬ C k∧¬ O k) w1 w4→Adds C O C4 w1 w4→Fr (fun k=>¬ C k) W w4∧Adds C (fun _=>False) C4 W w4:=fun C4 w4 hf hA=>by
  have hs:=hf.size
  refine ⟨⟨hf.os.trans b1.os,hf.tape.trans b1.tape,hf.output.trans b1.output,by omega,fun k hk hc=>?_⟩,fun k hk=>?_⟩
  ·rw [hf.same k (by omega) ⟨hc,fun ho=>by have:=(hO k ho).1;omega⟩]
   exact b1.block k hk
  ·rcases hA k hk with h | h | h
   ·exact Or.inl h
   ·have:=hO k h;exact Or.inr (Or.inr ⟨this.1,by omega⟩)
   ·exact Or.inr (Or.inr ⟨by omega,h.2⟩)
 gi_wp2_with fail
 refine hR.mono ?_
 rintro e w4 ⟨hf4,C4,hA4,(⟨rfl,hj4⟩ | ⟨rfl,hj4⟩)⟩
 ·obtain ⟨k1,k2⟩:=key C4 w4 hf4 hA4
  gi_wp2_with fail
  go_end0
  exact ⟨⟨_,rfl⟩,k1,C4,k2,Or.inl hj4⟩
 ·obtain ⟨k1,k2⟩:=key C4 w4 hf4 hA4
  gi_wp2_with fail
  go_end0
  exact ⟨⟨_,rfl⟩,k1,C4,k2,Or.inr ⟨_,List.prefix_refl _,hj4⟩⟩
end Go.Proofs.YtjjkicffhpcngaaGreat
namespace Go.Proofs.YtjjkicffhpcngaaGreat
open Go.RowKit Go.Shelf
theorem ChRaw.form {P:Nat→Prop} {ds:List M.De} {va:Option Addr} {W:World} {f:Value} {ch:M.Wy→List M.Wy} (h:ChRaw P ds va W f ch):∃ cf lc,f=.func (.func cf) #[] lc:=by
 cases h with
 | from_=>exact ⟨_,_,rfl⟩
 | next_=>exact ⟨_,_,rfl⟩
inductive ItRaw (P:Nat→Prop) (ds:List M.De) (va:Option Addr) (W:World):Value→List (M.Wy→List M.Wy)→Prop where
 | first (lb c:Nat) (h1:W.cell? ⟨lb,0,none⟩=some (.slice va ds.length c)) (h2:P lb):ItRaw P ds va W (.func (.func 72) #[] #[.pointer (some ⟨lb,0,none⟩)]) []
 | each (bw bc:Nat) (f fc:Value) (chs:List (M.Wy→List M.Wy)) (ch:M.Wy→List M.Wy) (hf:ItRaw P ds va W f chs) (hc:ChRaw P ds va W fc ch) (h1:W.cell? ⟨bw,0,none⟩=some f) (h2:W.cell? ⟨bc,0,none⟩=some fc) (h3:P bw∧P bc) :
  ItRaw P ds va W (.func (.func 119) #[] #[.pointer (some ⟨bw,0,none⟩),.pointer (some ⟨bc,0,none⟩)]) (chs++[ch])
theorem ItRaw.bel {P:Nat→Prop} {ds:List M.De} {va:Option Addr} {W W':World} {f:Value} {chs:List (M.Wy→List M.Wy)} (h:ItRaw P ds va W f chs) (hb:Below W.heap.size W W'):ItRaw P ds va W' f chs:=by
 have cc:∀ {p:Addr} {v:Value},W.cell? p=some v→W'.cell? p=some v:=fun hv=>(hb.cell (World.block_lt_of_cell? _ _ hv)).trans hv
 induction h with
 | first lb c h1 h2=>exact .first lb c (cc h1) h2
 | each bw bc f fc chs ch hf hc h1 h2 h3 ih=>exact .each bw bc f fc chs ch ih (hc.below hb) (cc h1) (cc h2) h3
theorem ItRaw.form {P:Nat→Prop} {ds:List M.De} {va:Option Addr} {W:World} {f:Value} {chs:List (M.Wy→List M.Wy)} (h:ItRaw P ds va W f chs):∃ gf lb,f=.func (.func gf) #[] lb:=by
 cases h with
 | first=>exact ⟨_,_,rfl⟩
 | each=>exact ⟨_,_,rfl⟩
theorem ItRaw.seq {P:Nat→Prop} {ds:List M.De} {va:Option Addr} {g:Nat} {W:World} {f:Value} {chs:List (M.Wy→List M.Wy)} (h:ItRaw P ds va W f chs) (hd:DeS W va g ds) (hdl:ds.length≤1000) (hq:WyOk ds (M.firstW ds)) {D:Nat→Prop} (hD:∀ k,P k→k < W.heap.size→D k) (hg:0 < ds.length→D g) (hDl:∀ k,D k→k < W.heap.size) :
  ∃ gf lb,f=.func (.func gf) #[] lb∧(∀ args w,(callFunc gf args).run Tryz.prog w=.ok (.enter gf args) w)∧∀ n,SeqC Fence.wide n Tryz.prog gf lb (WayV (WyOk ds)) D (M.runC chs (M.firstW ds)) W:=by
 have lt:∀ {b:Nat} {v:Value},W.cell? ⟨b,0,none⟩=some v→b < W.heap.size:=fun hv=>World.block_lt_of_cell? _ _ hv
 induction h with
 | first lb c h1 h2=>exact ⟨_,_,rfl,enters_of Tryz.func72 (by kernel_rfl) rfl,fun n=>first_seq ⟨va,g,c,h1,hd,hg⟩ (hD _ h2 (lt h1)) hDl hdl hq n⟩
 | each bw bc f fc chs ch hf hc h1 h2 h3 ih =>
  obtain ⟨gf,lb,rfl,eg,hs⟩:=ih
  obtain ⟨cf,lc,rfl,hch⟩:=hc.choice hd hdl hD hg hDl
  refine ⟨_,_,rfl,enters_of Tryz.func119 (by kernel_rfl) rfl,fun n=>?_⟩
  rw [M.runC_snoc]
  exact each_seq (WayV.vok _) h1 h2 (hD _ h3.1 (lt h1)) (hD _ h3.2 (lt h2)) hDl eg hs hch n
structure WsAns (w w':World) (ds:List M.De) (va:Option Addr) (f:Value):Prop where
 it:ItRaw (fun k=>w.heap.size≤k) ds va w' f (M.wchoices ds)
 bel:Below w.heap.size w w'
set_option maxHeartbeats 1000000 in
set_option maxRecDepth 100000 in
theorem ways_any (va:Option Addr) (g c:Nat) (ds:List M.De) (w:World) (hdl:ds.length≤1000) (h:DeS w va g ds) :
  Calls Tryz.prog 44 #[.slice va ds.length c] w fun e w'=>∃ f,e=.returned f∧WsAns w w' ds va f:=by
 have hmf:∀ (fn:Fn) (first cap:Array Value) (w:World),(Instr.makeFunc fn first cap).run Tryz.prog w=.ok (.func fn first cap) w:=fun _ _ _ _=>rfl
 have b1:=below1 w (.cells #[.slice va ds.length c] 56)
 have k1:(w.alloc (.cells #[.slice va ds.length c] 56)).cell? ⟨w.heap.size,0,none⟩=some (.slice va ds.length c):=by simp
 have sz1:(w.alloc (.cells #[.slice va ds.length c] 56)).heap.size=w.heap.size+1:=by simp
 go_enter Tryz.func44,Tryz.ntmps44
 go_wp2_with fail
 generalize w.alloc (.cells #[.slice va ds.length c] 56)=W0 at *
 refine (choices_any va g c ds W0 hdl (h.bel b1 (Nat.le_refl _))).mono ?_
 rintro e W1 ⟨v,rfl,ps,hps,hpl,hL⟩
 have it0:ItRaw (fun k=>w.heap.size≤k) ds va W1 (.func (.func 72) #[] #[.pointer (some ⟨w.heap.size,0,none⟩)]) []:=.first w.heap.size c ((hL.told.bel.cell (p:=⟨w.heap.size,0,none⟩) (by show w.heap.size < _;omega)).trans k1) (Nat.le_refl _)
 have bw1:Below w.heap.size w W1:=b1.trans (hL.told.bel.mono (by omega))
 have raw:∀ q∈ps,ChRaw (fun k=>w.heap.size≤k) ds va W1 q.1 q.2:=fun q hq=>(hL.raw q hq).keep (Nat.le_refl _) fun k _ hp=>⟨rfl,by have:=hp.1;omega⟩
 have rows:∃ a gv cv,v=.slice a ps.length cv∧(0 < ps.length→a=some ⟨gv,0,none⟩)∧∀ i (h:i < ps.length),W1.cell? ⟨gv,i,none⟩=some ps[i].1:=by
  rcases hL.told.own.2 with ⟨hv,hn⟩ | ⟨gv,cap,cur,hv,hg,hh,hc,r⟩
  ·exact ⟨none,0,0,by rw [hv,hn],fun h=>by omega,fun i hi=>by omega⟩
  ·refine ⟨_,gv,cap,hv,fun _=>rfl,fun i hi=>?_⟩
   have:=hL.told.own.cells (g:=gv) (by rw [hv];rfl) i ps[i].1 (by simp [hi])
   rwa [Go.WideShapes.add_plain,Nat.zero_add] at this
 obtain ⟨a,gv,cv,rfl,had,hrow⟩:=rows
 have HPS:Hid (M.wchoices ds=ps.map (fun q=>q.2)):=hps
 clear hps hL k1 sz1 b1
 go_wp2_with fail
 go_loopw [3,10] (fun s3 s10 wr=>∃ (n:Nat) (f:Value),s3=f∧s10=.int .i64 n∧n≤ps.length∧ItRaw (fun k=>w.heap.size≤k) ds va wr f ((ps.take n).map (fun q=>q.2))∧Below W1.heap.size W1 wr) (fun _ s10 _=>ps.length - (intOf s10).toNat)
 case atStart=>exact ⟨0,_,rfl,rfl,Nat.zero_le _,it0,Below.refl _ _⟩
 case round =>
  obtain ⟨n,f,rfl,rfl,hn,hit,hb⟩:=hrel
  obtain ⟨gf,lb,hfe⟩:=hit.form
  subst hfe
  by_cases hlt:n < ps.length
  ·obtain rfl:=had (by omega)
   have hc:=hrow n hlt
   have hcl:=World.block_lt_of_cell? _ _ hc
   have hq:=(raw _ (List.getElem_mem hlt)).below hb
   have HT:Hid ((ps.take (n+1)).map (fun q=>q.2)=(ps.take n).map (fun q=>q.2)++[ps[n].2]):=by show _=_;rw [List.take_succ_eq_append_getElem hlt,List.map_append];rfl
   obtain ⟨cf,lc,hfc⟩:=hq.form
   rw [hfc] at hc hq
   have hc':=(hb.cell (p:=⟨gv,n,none⟩) hcl).trans hc
   generalize ps[n].2=ch at *
   clear hfc hc
   have i1:(n:Int) < ps.length:=by omega
   go_wp2_with fail
   refine (chooseInEach_any gf cf lb lc wr).mono ?_
   rintro e W2 ⟨rfl,b2,sz2,k1,k2⟩
   have hit2:=ItRaw.each (wr.heap.size) (wr.heap.size+1) _ _ _ _ (hit.bel b2) (hq.below b2) k1 k2 ⟨by have:=bw1.size;have:=hb.size;omega,by have:=bw1.size;have:=hb.size;omega⟩
   have hb2:=hb.trans (b2.mono hb.size)
   clear sz2 k1 k2 b2 hit hq
   go_wp2_with fail
   exact ⟨⟨n+1,_,rfl,by go_num,by omega,by rw [HT.out];exact hit2,hb2⟩,by simp [intOf];omega⟩
  ·have hne:n=ps.length:=by omega
   rw [hne,List.take_length,← HPS.out] at hit
   have i1:¬ (n:Int) < ps.length:=by omega
   clear hne
   go_wp2_with fail
   go_ret
   exact ⟨_,rfl,hit,bw1.trans (hb.mono bw1.size)⟩
end Go.Proofs.YtjjkicffhpcngaaGreat
namespace Go.Proofs.YtjjkicffhpcngaaGreat
open Go.RowKit
theorem uponIn_of {l n:Nat} {P:Program} {o:Oper} {a:Act} {next next':Act→World→Prop} {Q:Exit→Act→World→Prop} (hn:∀ a w,next a w→next' a w) :
  ∀ r:Result Next,o.upon P a next Q r→o.uponIn (Fence.wide.inRound l) n P a next' Q r:=by
 intro r h
 cases r with
 | ok x w =>
  cases x with
  | value v=>exact hn _ _ h
  | skip=>exact hn _ _ h
  | defer d=>exact hn _ _ h
  | enter f args =>
   refine ⟨(fun hx=>by cases hx),CallsIn.inRound l (callsIn_wide.2 (Calls.mono h ?_))⟩
   intro e w' he
   cases e with
   | returned v=>exact hn _ _ he
   | panicked c=>exact he
   | outgrown=>exact he
  | row row args =>
   refine ⟨(fun hx=>by cases hx),fun c cs _=>?_⟩
   obtain ⟨v,w',hv,hs⟩:=h c cs
   exact ⟨v,w',hn _ _ hv,stepsIn_wide.2 hs⟩
  | _=>exact h.elim
 | halt x w =>
  cases x with
  | panic v=>exact h
  | _=>exact h.elim
theorem wpOpsIn_of {l n:Nat} {P:Program} {ops:Array Oper} {Q:Exit→Act→World→Prop} (hd:∀ (i:Nat) (o:Oper),ops[i]?=some o→∀ c,o.op≠.defer c) (hl:¬ LetsOut Q) :
  ∀ (sched:List Nat) (a:Act) (w:World),wpOps P ops Q sched a w→wpOpsIn (Fence.wide.inRound l) n P ops Q sched a w
 | [],a,w,h=>h
 | i::rest,a,w,h=>by
  unfold wpOps at h
  unfold wpOpsIn
  cases ho:ops[i]? with
  | none =>
   rw [ho] at h
   exact wpOpsIn_of hd hl rest a w h
  | some o =>
   rw [ho] at h
   dsimp only at h ⊢
   by_cases hw:Region.wanted o (yielded ops a.tmps)=true
   ·rw [if_pos hw] at h ⊢
    rcases h with h | h
    ·refine ⟨fun f _=>trivial,?_⟩
     rw [Oper.semAt_plain _ _ _ (hd i o ho)]
     exact uponIn_of (fun a w h=>wpOpsIn_of hd hl rest a w h) _ h
    ·exact absurd h.2 hl
   ·rw [if_neg hw] at h ⊢
    exact ⟨fun f _=>trivial,wpOpsIn_of hd hl rest _ w h⟩
theorem wpIn_region_round {l n:Nat} {P:Program} {id:Nat} {ops:Array Oper} {Q:Exit→Act→World→Prop} {S:World→Prop} {a:Act} {w:World} (hd:∀ (i:Nat) (o:Oper),ops[i]?=some o→∀ c,o.op≠.defer c) (hl:¬ LetsOut Q) (hm:P.follows .mixedOrders=true) (hS:S w.drew)
  (h:S w.drew→wpAnyH P .any ops Q S ops.size (Array.replicate ops.size false) a w.drew):(Code.region id ops true).wpIn (Fence.wide.inRound l) n P Q a w :=
 wpIn_region_draw fun t=>by
  simp only [Region.schedule,hm,Bool.true_or,if_true]
  exact wpOpsIn_of hd hl _ _ _ (wpAny_sound ops.size t _ a _ (wpAny_of_held _ _ _ _ (h hS)))
def noDefer (o:Oper):Bool:=match o.op with | .defer _=>false | _=>true
theorem wpIn_region_round' {l n:Nat} {P:Program} {id:Nat} {ops:Array Oper} {Q:Exit→Act→World→Prop} {S:World→Prop} {a:Act} {w:World} (hd:ops.all noDefer=true) (hl:¬ LetsOut Q) (hm:P.follows .mixedOrders=true) (hS:S w.drew)
  (h:S w.drew→wpAnyH P .any ops Q S ops.size (Array.replicate ops.size false) a w.drew):(Code.region id ops true).wpIn (Fence.wide.inRound l) n P Q a w :=
 wpIn_region_round (fun i o ho c hc=>by
  have hx:=Array.all_eq_true.1 hd i (Array.getElem?_eq_some_iff.1 ho).1
  rw [(Array.getElem?_eq_some_iff.1 ho).2] at hx
  unfold noDefer at hx
  rw [hc] at hx
  cases hx) hl hm hS h
end Go.Proofs.YtjjkicffhpcngaaGreat
