/- spec.ExecSeen: what is seen in a way. Of at most 1048576 threads, steps, numbers and rows. -/
import Derived.Deep.OwnRows
import Derived.Test.YtmhpgdliaclokaaGreatRows
import Derived.Test.YtmhpgdliaclokaaGreatQyas
namespace Go.Proofs.YtmhpgdliaclokaaGreat
section
open Go.RowKit
structure SxC (w wr:World) (p x0 x1 v v2:Value):Prop where
 bel:Below w.heap.size w wr
 p0:wr.cell? ⟨w.heap.size,0,none⟩=some p
 x0:wr.cell? ⟨w.heap.size+1,0,none⟩=some x0
 x1:wr.cell? ⟨w.heap.size+1,1,none⟩=some x1
 res:Slot2 wr (w.heap.size+1+1) (.slice none 0 0) (.slice none 0 0)
 s:Slot2 wr (w.heap.size+1+1+1+1) v v2
theorem SxC.lt {w wr:World} {p x0 x1 v v2:Value} (h:SxC w wr p x0 x1 v v2):w.heap.size+1+1+1+1 < wr.heap.size:=h.s.lt
theorem SxC.below {w wr w1:World} {p x0 x1 v v2:Value} (h:SxC w wr p x0 x1 v v2) (hb:Below wr.heap.size wr w1):SxC w w1 p x0 x1 v v2:=by
 have hl:=h.lt
 exact ⟨h.bel.trans (hb.mono h.bel.size),(hb.cell (p:=⟨w.heap.size,0,none⟩) (by show w.heap.size < _;omega)).trans h.p0,(hb.cell (p:=⟨w.heap.size+1,0,none⟩) (by show w.heap.size+1 < _;omega)).trans h.x0,(hb.cell (p:=⟨w.heap.size+1,1,none⟩) (by show w.heap.size+1 < _;omega)).trans h.x1,
  h.res.of (hb.block _ (by omega)),h.s.of (hb.block _ hl)⟩
theorem SxC.grown {w wr w3:World} {p x0 x1 v v2 u:Value} {n:Nat} {xs:List Value} (h:SxC w wr p x0 x1 v v2) (ho:wr.ownsRow (w.heap.size+1+1+1) 3 1 u n xs) (hg:wr.grownBy w3 u.ownBlock):SxC w w3 p x0 x1 v v2:=by
 have hl:=h.lt
 have hge:=own_ge ho
 have blk:∀ k,k < w.heap.size+1+1+1→w3.heap[k]?=wr.heap[k]?:=fun k hk=>hg.block k (by omega) (fun e=>by have:=hge k e.symm;omega)
 exact ⟨below_grown h.bel hg (fun k hk=>by have:=hge k hk;omega) (by omega),(World.cell?_of_block (blk _ (by show w.heap.size < _;omega))).trans h.p0,(World.cell?_of_block (blk _ (by show w.heap.size+1 < _;omega))).trans h.x0,(World.cell?_of_block (blk _ (by show w.heap.size+1 < _;omega))).trans h.x1,h.res.grown hg ho,h.s.grown hg ho⟩
theorem SxC.set0 {w wr:World} {p x0 x1 v v2:Value} (h:SxC w wr p x0 x1 v v2) (u:Value):SxC w (wr.setCell ⟨w.heap.size+1+1+1+1,0,none⟩ u) p x0 x1 u v2:=by
 refine ⟨h.bel.setCell (by show w.heap.size≤w.heap.size+1+1+1+1;omega) _,?_,?_,?_,h.res.far (by omega) _,h.s.set0 _⟩
 ·rw [World.cell?_setCell_other _ _ _ _ (fun e=>by have:=congrArg Addr.block e;simp at this;omega)];exact h.p0
 ·rw [World.cell?_setCell_other _ _ _ _ (fun e=>by have:=congrArg Addr.block e;simp at this;omega)];exact h.x0
 ·rw [World.cell?_setCell_other _ _ _ _ (fun e=>by have:=congrArg Addr.block e;simp at this;omega)];exact h.x1
theorem SxC.set1 {w wr:World} {p x0 x1 v v2:Value} (h:SxC w wr p x0 x1 v v2) (u:Value):SxC w (wr.setCell ⟨w.heap.size+1+1+1+1,1,none⟩ u) p x0 x1 v u:=by
 refine ⟨h.bel.setCell (by show w.heap.size≤w.heap.size+1+1+1+1;omega) _,?_,?_,?_,h.res.far (by omega) _,h.s.set1 _⟩
 ·rw [World.cell?_setCell_other _ _ _ _ (fun e=>by have:=congrArg Addr.block e;simp at this;omega)];exact h.p0
 ·rw [World.cell?_setCell_other _ _ _ _ (fun e=>by have:=congrArg Addr.block e;simp at this;omega)];exact h.x0
 ·rw [World.cell?_setCell_other _ _ _ _ (fun e=>by have:=congrArg Addr.block e;simp at this;omega)];exact h.x1
theorem step_go5 {P:Program} {ops:Array Oper} {o:Oper} {a:Act} {w:World} {K:Act→World→Prop} {Q:Exit→Act→World→Prop} {E:Prop}
  (hg:o.guard=none) (f:FuncId) (x1 x2 x3 x4 x5:Operand) (ts:Array TypeId) (hop:o.op=Op.call { callee:=Callee.value (Operand.func f),args:=#[x1,x2,x3,x4,x5],argTypes:=ts })
  (v1 v2 v3 v4 v5:Value) (h1:a.eval x1=v1) (h2:a.eval x2=v2) (h3:a.eval x3=v3) (h4:a.eval x4=v4) (h5:a.eval x5=v5) (he:∀ args w,(callFunc f args).run P w=.ok (.enter f args) w) {R:Ending→World→Prop} (hc:Calls P f #[v1,v2,v3,v4,v5] w R)
  (hK:∀ e w',R e w'→∃ v,e=.returned v∧K (a.put o.dst v) w') :
  if Region.wanted o (yielded ops a.tmps)=true then Oper.wp P o a w K Q else E :=
 step_go hg f #[x1,x2,x3,x4,x5] ts hop #[v1,v2,v3,v4,v5] (by simp [h1,h2,h3,h4,h5]) he hc hK
theorem own_numsQ {w:World} {base:Nat} {v:Value} {l:List Int} (h:w.ownsRow base 3 1 v l.length (nums l)):∃ a g c,v=.slice a l.length c∧IntS w a g 0 l∧base≤g∧(a=none→c=0)∧l.length≤c:=by
 rcases h.2 with ⟨hv,hn⟩ | ⟨g,cap,cur,hv,hg,hh,hcp,r⟩
 ·have:l=[]:=List.length_eq_zero_iff.1 hn
  subst this
  exact ⟨none,base,0,hv,IntS.nil _ _ _ _,Nat.le_refl _,fun _=>rfl,Nat.le_refl _⟩
 ·refine ⟨_,g,cap,hv,⟨fun _=>rfl,fun i hi=>?_⟩,hg,(fun h=>by cases h),hcp⟩
  have hc:=h.cells (g:=g) (by rw [hv];rfl) i (.int .i64 l[i]) (by simp [nums,hi])
  rwa [Go.WideShapes.add_plain] at hc
set_option maxHeartbeats 2000000 in
set_option maxRecDepth 100000 in
theorem l12Seen_any (a:Option Addr) (b o c:Nat) (ll:List (List M.D)) (va:Option Addr) (g cc:Nat) (fa:Option Addr) (fb fo fc:Nat) (l:List Int) (ra:Option Addr) (rb ro rc:Nat) (rows:List (List Int)) (w:World) (hl:ll.length≤1048576) (hls:∀ t∈ll,t.length≤1048576) (hdl:(M.deeds ll).length≤42) (HLL:Hid (l.length=(M.deeds ll).length)) (hin:M.In (M.deeds ll) l) (HR3:Hid (rows.length=3)) (hrl:∀ r∈rows,r.length≤1048576) (hrm:∀ r∈rows,∀ x∈r,0≤x∧x < (M.deeds ll).length) (h:DoSS w a b o ll) (hd:DvS w va g (M.deeds ll)) (hf:IntS w fa fb fo l) (hr:IntSS w ra rb ro rows) :
  Calls Tryz.prog 113 #[.agg #[.slice a ll.length c],.slice va (M.deeds ll).length cc,.agg #[.slice fa l.length fc,.slice ra rows.length rc]] w fun e w'=>∃ s:Sn,e=.returned (.agg #[.slice s.a1 s.l1.length s.c1,.slice s.a2 s.l2.length s.c2])∧s.l1=M.seenR (M.deeds ll) l∧s.l2=M.seenL (M.deeds ll) l rows∧s.At w'∧w.heap.size≤s.b1∧w.heap.size≤s.b2∧s.l1.length≤s.c1∧Below w.heap.size w w':=by
 obtain ⟨i0,hi,hz0,hz1,hz2⟩:=info_parts Tryz.infoInt
 have CV:=l12Val_any a b o c ll va g cc fa fb fo fc l (.slice ra rows.length rc) hl hls hdl HLL hin (2 * (M.deeds ll).length+2)
 rw [show ((2 * (M.deeds ll).length+2:Nat):Int)=2 * ((M.deeds ll).length:Int)+2 from by omega] at CV
 have hof:=M.ofEv (ll:=ll)
 have CV:∀ (i:Int) (w:World),i < (M.deeds ll).length→DoSS w a b o ll→DvS w va g (M.deeds ll)→IntS w fa fb fo l →
  Calls Tryz.prog 167 #[.agg #[.slice a ll.length c],.slice va (M.deeds ll).length cc,.agg #[.slice fa l.length fc,.slice ra rows.length rc],.int .i64 i,.int .i64 (2 * ((M.deeds ll).length:Int)+2)] w fun e w'=>e=.returned (.int .i64 (M.vl (M.deeds ll) l i))∧Below w.heap.size w w':=fun i w hi h1 h2 h3=>CV i w (by omega) hi h1 h2 h3
 generalize M.deeds ll=ds at *
 go_enter Tryz.func113,Tryz.ntmps113
 go_wp2_with fail
 have A0:SxC w (((((w.alloc (.cells #[.slice a ll.length c] 25)).alloc (.cells #[.slice fa l.length fc,.slice ra rows.length rc] 29)).alloc (.cells #[.slice none 0 0,.slice none 0 0] 45)).alloc (.cells #[] 3)).alloc (.cells #[.slice (some ⟨w.heap.size+1+1+1,0,none⟩) 0 0,.slice none 0 0] 45)) (.slice a ll.length c) (.slice fa l.length fc) (.slice ra rows.length rc) (.slice (some ⟨w.heap.size+1+1+1,0,none⟩) 0 0) (.slice none 0 0):=by
  refine ⟨((below3 w _ _ _).alloc (by simp;omega) _).alloc (by simp;omega) _,by simp [go_sem],by simp [go_sem],by simp [go_sem],⟨?_⟩,⟨alloc_new _ _ _ (by simp)⟩⟩
  rw [alloc_old _ _ _ (by simp),alloc_old _ _ _ (by simp)];exact alloc_new _ _ _ (by simp)
 have O0:(((((w.alloc (.cells #[.slice a ll.length c] 25)).alloc (.cells #[.slice fa l.length fc,.slice ra rows.length rc] 29)).alloc (.cells #[.slice none 0 0,.slice none 0 0] 45)).alloc (.cells #[] 3)).alloc (.cells #[.slice (some ⟨w.heap.size+1+1+1,0,none⟩) 0 0,.slice none 0 0] 45)).ownsRow (w.heap.size+1+1+1) 3 1 (.slice (some ⟨w.heap.size+1+1+1,0,none⟩) 0 0) 0 (nums []) :=
  ⟨rfl,Or.inr ⟨_,0,#[],rfl,Nat.le_refl _,by rw [alloc_old _ _ _ (by simp)];exact alloc_new _ _ _ (by simp),Nat.le_refl _,Nat.zero_le _,rfl,rfl⟩⟩
 generalize (((((w.alloc (.cells #[.slice a ll.length c] 25)).alloc (.cells #[.slice fa l.length fc,.slice ra rows.length rc] 29)).alloc (.cells #[.slice none 0 0,.slice none 0 0] 45)).alloc (.cells #[] 3)).alloc (.cells #[.slice (some ⟨w.heap.size+1+1+1,0,none⟩) 0 0,.slice none 0 0] 45))=W0 at *
 have hev:∀ args w,(callFunc 167 args).run Tryz.prog w=.ok (.enter 167 args) w:=enters_of Tryz.func167 (by kernel_rfl) rfl
 go_loopw [8] (fun s8 wr=>∃ (n:Nat) (acc:List Int) (v:Value),s8=.int .i64 n∧n≤ds.length∧acc.length≤n∧Hid (M.rdAt ds l 0 ds=acc++M.rdAt ds l n (ds.drop n))∧SxC w wr (.slice a ll.length c) (.slice fa l.length fc) (.slice ra rows.length rc) v (.slice none 0 0)∧wr.ownsRow (w.heap.size+1+1+1) 3 1 v acc.length (nums acc)) (fun s8 _=>ds.length - (intOf s8).toNat)
 case atStart=>exact ⟨0,[],_,rfl,Nat.zero_le _,Nat.le_refl _,by show _=_;rfl,A0,O0⟩
 case round =>
  clear A0 O0
  obtain ⟨n,acc,v,rfl,hn,hacc,HW,A,O⟩:=hrel
  by_cases hlt:n < ds.length
  ·obtain ⟨rfl⟩:=hd.addr (by omega)
   have hx:=DvS.at (hd.bel A.bel (Nat.le_refl _)) hlt
   have HW2:Hid (M.rdAt ds l 0 ds=(if (ds[n]).reads then acc++[M.vl ds l n] else acc)++M.rdAt ds l (n+1) (ds.drop (n+1))):=M.rd_step HW.out hlt
   have hox:=hof _ (List.getElem_mem hlt)
   clear HW
   generalize ds[n]=x at *
   obtain ⟨c0,c1,c2⟩:=hx
   have i1:(n:Int) < ds.length:=by omega
   have hT:=h.below A.bel (Nat.le_refl _)
   have kp:=A.p0
   have KP:=BelowOf.cell kp
   have K0:=BelowOf.cell c0
   have K1:=BelowOf.cell c1
   have K2:=BelowOf.cell c2
   have C:=fun q:BelowOf wr=>l12Do_ev a b o c ll x q.x hox hl hls (hT.below q.h (Nat.le_refl _))
   have C2:=fun q:BelowOf wr=>l1Reads_bel x.d q.x
   have go:∀ (r:Bool),M.reads x.d.k=r→True:=fun _ _=>trivial
   clear go kp c0 c1 c2
   haveI:Inhabited (BelowOf wr):=⟨belOf wr⟩
   cases ht:M.reads x.d.k
   ·rw [ht] at C2
    go_wp2_with fail
    refine wp_region_quiet_bel (by kernel_rfl) (by kernel_rfl) ?_
    repeat (quiet_step (first | (go_at_call 134;exact Calls.bel_of (C _)) | (go_at_call 76;exact Calls.bel_of (C2 _))))
    refine wpQuiet_nil ?_
    rintro _ ⟨⟨wq,hwq⟩,rfl⟩
    go_wp2_with fail
    exact ⟨⟨n+1,acc,v,by go_num,by omega,by omega,by show _=_;have:=HW2.out;rw [show x.reads=false from ht] at this;exact this,A.below hwq,ownsRow_below O hwq⟩,by simp [intOf];omega⟩
   ·rw [ht] at C2
    go_wp2_with fail
    refine wp_region_quiet_bel (by kernel_rfl) (by kernel_rfl) ?_
    repeat (quiet_step (first | (go_at_call 134;exact Calls.bel_of (C _)) | (go_at_call 76;exact Calls.bel_of (C2 _))))
    refine wpQuiet_nil ?_
    rintro _ ⟨⟨wq,hwq⟩,rfl⟩
    have A2:=A.below hwq
    have O2:=ownsRow_below O hwq
    clear KP K0 K1 K2 C C2 A O hT
    have cS:=A2.s.c0
    have cP:=A2.p0
    have cX:=A2.x0
    have cY:=A2.x1
    have lS:=A2.lt
    have fS:=A2.s.fz
    have wr1:IntKind.i64.wrap (2 * (ds.length:Int))=2 * ds.length:=by rw [IntKind.wrap_i64];omega
    have wr2:IntKind.i64.wrap (2 * (ds.length:Int)+2)=2 * ds.length+2:=by rw [IntKind.wrap_i64];omega
    go_wp2_with fail
    go_region_law (first
     | (refine step_go5 (by rfl) 167 _ _ _ _ _ _ (by rfl) _ _ _ _ _ (by rfl) (by rfl) (by rfl) (by rfl) (by rfl) hev (CV n _ i1 (h.below A2.bel.drew (Nat.le_refl _)) (hd.bel A2.bel.drew (Nat.le_refl _)) (hf.below A2.bel.drew (Nat.le_refl _))) ?_;rintro e w2 ⟨rfl,hb2⟩;have A3:=A2.below ((Below.refl _ _).drew.trans hb2);have O3:=ownsRow_below O2 ((Below.refl _ _).drew.trans hb2);have cS2:=A3.s.c0;have fS2:=A3.s.fz;have lS2:=A3.lt;refine ⟨_,rfl,?_⟩)
     | (refine step_append_lies _ (by rfl) _ _ _ (by rfl) (w.heap.size+1+1+1) 3 i0 _ 1 8 Tryz.underlying26 hi hz0 hz1 hz2 rfl (by omega) v acc.length (nums acc) (by rfl) (O3.alloc _) ⟨w2.heap.size,0,none⟩ 1 1 [.int .i64 (M.vl ds l n)] (by rfl) (by rfl) (World.news_of_block (cs:=#[.int .i64 (M.vl ds l n)]) (t:=3) (fr:=(0,0)) (heap_alloc_new w2 _)) (by simp [Value.oneCell']) (by omega) (by unfold maxLen;omega) (by omega) (by simp only [World.size_alloc];omega) (w2.heap.size+1) (by simp) ?_;intro g3 cap w3 hown3 hgr hat hltg;have A4:=(A3.below (below1 w2 (.cells #[.int .i64 (M.vl ds l n)] 3))).grown (O3.alloc _) hgr;have hown3':w3.ownsRow (w.heap.size+1+1+1) 3 1 (.slice (some ⟨g3,0,none⟩) (acc.length+1) cap) (acc++[M.vl ds l n]).length (nums (acc++[M.vl ds l n])):=(by rw [List.length_append];simpa [nums] using hown3);have cS3:=A4.s.c0;have fS3:=A4.s.fz;clear hown3 hgr hat hltg))
    all_goals
     have A5:=A4.set0 (.slice (some ⟨g3,0,none⟩) (acc.length+1) cap)
     have O5:=own_slot (i:=0) hown3' A4.s (.slice (some ⟨g3,0,none⟩) (acc.length+1) cap)
     go_wp2_with fail
     exact ⟨⟨n+1,acc++[M.vl ds l n],_,by go_num,by omega,by simp;omega,by show _=_;have:=HW2.out;rw [show x.reads=true from ht] at this;exact this,A5,O5⟩,by simp [intOf];omega⟩
  ·have HF:Hid (M.seenR ds l=acc):=M.rd_fin HW.out (by omega)
   have hal:acc.length≤42:=by omega
   clear HW
   have hvlt:∀ k,v.ownBlock=some k→k < wr.heap.size:=fun k hk=>(O.lt k hk).2
   have hBS:=A.lt
   obtain ⟨B2,hB2⟩:∃ B2,wr.heap.size=B2:=⟨_,rfl⟩
   rw [hB2] at hvlt hBS
   go_wp2_with fail
   go_loopw [9] (fun s9 wr=>∃ (n:Nat) (acc2:List Int) (v2:Value),s9=.int .i64 n∧n≤3∧Hid (acc2=(rows.take n).map (M.lastOf ds l))∧SxC w wr (.slice a ll.length c) (.slice fa l.length fc) (.slice ra rows.length rc) v v2∧wr.ownsRow (w.heap.size+1+1+1) 3 1 v acc.length (nums acc)∧wr.ownsRow B2 3 1 v2 acc2.length (nums acc2)∧B2≤wr.heap.size) (fun s9 _=>3 - (intOf s9).toNat)
   case atStart=>exact ⟨0,[],_,rfl,by omega,(by show _=_;simp),A,O,World.ownsRow_nil _ _ _ _,by omega⟩
   case round =>
    clear A O hB2 hn hacc hlt
    obtain ⟨n,acc2,v2,rfl,hn,HW,A,O,O2,hB⟩:=hrel
    by_cases hlt:n < 3
    ·have n3:(n:Int) < 3:=by omega
     have hlr:n < rows.length:=by have:=HR3.out;omega
     have ln:(n:Int) < rows.length:=by omega
     obtain ⟨rfl⟩:=hr.addr (by omega)
     obtain ⟨a',b',o',c',hc,hdr⟩:=(hr.below A.bel (Nat.le_refl _)).row n hlr
     have hlrr:=hrl _ (List.getElem_mem hlr)
     have hmr:=hrm _ (List.getElem_mem hlr)
     have HW2:Hid (acc2++[M.lastOf ds l rows[n]]=(rows.take (n+1)).map (M.lastOf ds l)):=by show _=_;rw [HW.out,List.take_succ_eq_append_getElem hlr,List.map_append];rfl
     have hal2:acc2.length≤3:=by rw [HW.out];simp;omega
     clear HW
     generalize rows[n]=row at *
     have cX:=A.x1
     by_cases h0:0 < row.length
     ·have HX:Hid (M.lastOf ds l row=M.vl ds l row[row.length - 1]):=M.last_some ds l h0
      have hmx:=hmr _ (List.getElem_mem (l:=row) (n:=row.length - 1) (by omega))
      have hcx:=hdr.row (row.length - 1) (by omega)
      obtain ⟨rfl⟩:=hdr.addr h0
      generalize row[row.length - 1]=y at *
      obtain ⟨k,hk⟩:∃ k,row.length=k+1:=⟨row.length - 1,by omega⟩
      rw [hk,Nat.add_sub_cancel] at hcx
      rw [hk] at hc hlrr
      clear hk h0
      have k1:(k:Int) < (k:Int)+1:=by omega
      have k2:IntKind.i64.wrap (k:Int)=k:=by rw [IntKind.wrap_i64];omega
      go_wp2_with fail
      have KX:=BelowOf.cell cX
      have KC:=BelowOf.cell hc
      have KY:=BelowOf.cell hcx
      clear cX hc hcx
      haveI:Inhabited (BelowOf wr):=⟨belOf wr⟩
      refine wp_region_quiet_bel (by kernel_rfl) (by kernel_rfl) ?_
      repeat (quiet_step (fail))
      refine wpQuiet_nil ?_
      rintro _ ⟨⟨wq,hwq⟩,rfl⟩
      have A3:=A.below hwq
      have P3:=ownsRow_below O hwq
      have R3:=ownsRow_below O2 hwq
      have hB3:=Nat.le_trans hB hwq.size
      clear KX KC KY A O O2 hB hdr
      have cS:=A3.s.c1
      have cP:=A3.p0
      have cX:=A3.x0
      have cY:=A3.x1
      have lS:=A3.lt
      have fS:=A3.s.fz
      have wr1:IntKind.i64.wrap (2 * (ds.length:Int))=2 * ds.length:=by rw [IntKind.wrap_i64];omega
      have wr2:IntKind.i64.wrap (2 * (ds.length:Int)+2)=2 * ds.length+2:=by rw [IntKind.wrap_i64];omega
      go_wp2_with fail
      go_region_law (first
       | (refine step_go5 (by rfl) 167 _ _ _ _ _ _ (by rfl) _ _ _ _ _ (by rfl) (by rfl) (by rfl) (by rfl) (by rfl) hev (CV (y) _ (by omega) (h.below A3.bel.drew (Nat.le_refl _)) (hd.bel A3.bel.drew (Nat.le_refl _)) (hf.below A3.bel.drew (Nat.le_refl _))) ?_;rintro e w2 ⟨rfl,hb2⟩;have hbd:=(Below.refl _ _).drew.trans hb2;have A4:=A3.below hbd;have P4:=ownsRow_below P3 hbd;have R4:=ownsRow_below R3 hbd;have hB4:=Nat.le_trans hB3 hbd.size;have cS2:=A4.s.c1;have fS2:=A4.s.fz;have lS2:=A4.lt;refine ⟨_,rfl,?_⟩)
       | (refine step_append_lies _ (by rfl) _ _ _ (by rfl) B2 3 i0 _ 1 8 Tryz.underlying26 hi hz0 hz1 hz2 rfl (by omega) v2 acc2.length (nums acc2) (by rfl) (R4.alloc _) ⟨w2.heap.size,0,none⟩ 1 1 [.int .i64 (M.vl ds l (y))] (by rfl) (by rfl) (World.news_of_block (cs:=#[.int .i64 (M.vl ds l (y))]) (t:=3) (fr:=(0,0)) (heap_alloc_new w2 _)) (by simp [Value.oneCell']) (by omega) (by unfold maxLen;omega) (by omega) (by simp only [World.size_alloc];omega) (w2.heap.size+1) (by simp) ?_;intro g3 cap w3 hown3 hgr hat hltg;have hge3:=own_ge R4;have A5:=(A4.below (below1 w2 (.cells #[.int .i64 (M.vl ds l (y))] 3))).grown (own_mono (R4.alloc _) (by omega)) hgr;have P5:=(P4.alloc (.cells #[.int .i64 (M.vl ds l (y))] 3)).kept hgr (own_below hvlt hge3);have hB5:B2≤w3.heap.size:=(by have:=hgr.size;simp only [World.size_alloc] at this;omega);have hown3':w3.ownsRow B2 3 1 (.slice (some ⟨g3,0,none⟩) (acc2.length+1) cap) (acc2++[M.vl ds l (y)]).length (nums (acc2++[M.vl ds l (y)])):=(by rw [List.length_append];simpa [nums] using hown3);have cS3:=A5.s.c1;have fS3:=A5.s.fz;clear hown3 hgr hat hltg hge3))
      all_goals
       have A6:=A5.set1 (.slice (some ⟨g3,0,none⟩) (acc2.length+1) cap)
       have P6:=own_slot (i:=1) P5 A5.s (.slice (some ⟨g3,0,none⟩) (acc2.length+1) cap)
       have R6:=own_slot (i:=1) hown3' A5.s (.slice (some ⟨g3,0,none⟩) (acc2.length+1) cap)
       go_wp2_with fail
       exact ⟨⟨n+1,acc2++[M.vl ds l (y)],_,by go_num,by omega,by show _=_;have:=HW2.out;rw [HX.out] at this;exact this,A6,P6,R6,by rw [World.size_setCell];exact hB5⟩,by simp [intOf];omega⟩
     ·obtain rfl:row=[]:=List.length_eq_zero_iff.1 (by omega)
      have HX:Hid (M.lastOf ds l []=M.vl ds l (-1)):=by show _=_;rfl
      rw [List.length_nil] at hc
      go_wp2_with fail
      have A3:=A
      have P3:=O
      have R3:=O2
      have hB3:=hB
      clear A O O2 hB hdr cX hc
      have cS:=A3.s.c1
      have cP:=A3.p0
      have cX:=A3.x0
      have cY:=A3.x1
      have lS:=A3.lt
      have fS:=A3.s.fz
      have wr1:IntKind.i64.wrap (2 * (ds.length:Int))=2 * ds.length:=by rw [IntKind.wrap_i64];omega
      have wr2:IntKind.i64.wrap (2 * (ds.length:Int)+2)=2 * ds.length+2:=by rw [IntKind.wrap_i64];omega
      go_wp2_with fail
      go_region_law (first
       | (refine step_go5 (by rfl) 167 _ _ _ _ _ _ (by rfl) _ _ _ _ _ (by rfl) (by rfl) (by rfl) (by rfl) (by rfl) hev (CV (-1) _ (by omega) (h.below A3.bel.drew (Nat.le_refl _)) (hd.bel A3.bel.drew (Nat.le_refl _)) (hf.below A3.bel.drew (Nat.le_refl _))) ?_;rintro e w2 ⟨rfl,hb2⟩;have hbd:=(Below.refl _ _).drew.trans hb2;have A4:=A3.below hbd;have P4:=ownsRow_below P3 hbd;have R4:=ownsRow_below R3 hbd;have hB4:=Nat.le_trans hB3 hbd.size;have cS2:=A4.s.c1;have fS2:=A4.s.fz;have lS2:=A4.lt;refine ⟨_,rfl,?_⟩)
       | (refine step_append_lies _ (by rfl) _ _ _ (by rfl) B2 3 i0 _ 1 8 Tryz.underlying26 hi hz0 hz1 hz2 rfl (by omega) v2 acc2.length (nums acc2) (by rfl) (R4.alloc _) ⟨w2.heap.size,0,none⟩ 1 1 [.int .i64 (M.vl ds l (-1))] (by rfl) (by rfl) (World.news_of_block (cs:=#[.int .i64 (M.vl ds l (-1))]) (t:=3) (fr:=(0,0)) (heap_alloc_new w2 _)) (by simp [Value.oneCell']) (by omega) (by unfold maxLen;omega) (by omega) (by simp only [World.size_alloc];omega) (w2.heap.size+1) (by simp) ?_;intro g3 cap w3 hown3 hgr hat hltg;have hge3:=own_ge R4;have A5:=(A4.below (below1 w2 (.cells #[.int .i64 (M.vl ds l (-1))] 3))).grown (own_mono (R4.alloc _) (by omega)) hgr;have P5:=(P4.alloc (.cells #[.int .i64 (M.vl ds l (-1))] 3)).kept hgr (own_below hvlt hge3);have hB5:B2≤w3.heap.size:=(by have:=hgr.size;simp only [World.size_alloc] at this;omega);have hown3':w3.ownsRow B2 3 1 (.slice (some ⟨g3,0,none⟩) (acc2.length+1) cap) (acc2++[M.vl ds l (-1)]).length (nums (acc2++[M.vl ds l (-1)])):=(by rw [List.length_append];simpa [nums] using hown3);have cS3:=A5.s.c1;have fS3:=A5.s.fz;clear hown3 hgr hat hltg hge3))
      all_goals
       have A6:=A5.set1 (.slice (some ⟨g3,0,none⟩) (acc2.length+1) cap)
       have P6:=own_slot (i:=1) P5 A5.s (.slice (some ⟨g3,0,none⟩) (acc2.length+1) cap)
       have R6:=own_slot (i:=1) hown3' A5.s (.slice (some ⟨g3,0,none⟩) (acc2.length+1) cap)
       go_wp2_with fail
       exact ⟨⟨n+1,acc2++[M.vl ds l (-1)],_,by go_num,by omega,by show _=_;have:=HW2.out;rw [HX.out] at this;exact this,A6,P6,R6,by rw [World.size_setCell];exact hB5⟩,by simp [intOf];omega⟩
    ·obtain ⟨a1,g1,c1,rfl,i1,ge1,nc1,cap1⟩:=own_numsQ O
     obtain ⟨a2,g2,c2,rfl,i2,ge2,nc2⟩:=own_nums O2
     have HL:Hid (acc2=M.seenL ds l rows):=by show _=_;rw [HW.out,List.take_of_length_le (by have:=HR3.out;omega)];rfl
     have x0:=A.s.c0
     have x1:=A.s.c1
     have lS:=A.lt
     have y0:=A.res.c0
     have y1:=A.res.c1
     have yf:=A.res.fz
     have n3:¬ (n:Int) < 3:=by omega
     go_wp2_with fail
     refine bodyPost_ret (v:=.agg #[.slice a1 acc.length c1,.slice a2 acc2.length c2]) (by simp [results,Tryz.results113,go_sem,y0,y1]) rfl ⟨⟨a1,g1,0,c1,acc,a2,g2,0,c2,acc2⟩,rfl,HF.out.symm,HL.out,⟨?_,?_⟩,by show w.heap.size≤g1;omega,by show w.heap.size≤g2;omega,cap1,?_⟩
     ·exact (i1.far (by omega)).far (by omega)
     ·exact (i2.far (by omega)).far (by omega)
     ·exact (A.bel.setCell (by show w.heap.size≤w.heap.size+1+1;omega) _).setCell (by show w.heap.size≤w.heap.size+1+1;omega) _
set_option maxHeartbeats 1000000 in
set_option maxRecDepth 100000 in
theorem sexecSeen_any (a:Option Addr) (b o c:Nat) (ll:List (List M.D)) (fa:Option Addr) (fb fo fc:Nat) (l:List Int) (ra:Option Addr) (rb ro rc:Nat) (rows:List (List Int)) (w:World) (hl:ll.length≤1048576) (hls:∀ t∈ll,t.length≤1048576) (hl1:l.length≤1048576) (hrs:∀ r∈rows,r.length≤1048576) (h:DoSS w a b o ll) (hf:IntS w fa fb fo l) (hr:IntSS w ra rb ro rows) :
  Calls Tryz.prog 52 #[.agg #[.slice a ll.length c],.agg #[.slice fa l.length fc,.slice ra rows.length rc]] w fun e w'=>∃ s:Sn,e=.returned (.tuple #[.agg #[.slice s.a1 s.l1.length s.c1,.slice s.a2 s.l2.length s.c2],.bool (M.execOk ll l rows)])∧s.l1=(M.execSeen ll l rows).1∧s.l2=(M.execSeen ll l rows).2∧s.At w'∧w.heap.size≤s.b1∧w.heap.size≤s.b2∧Below w.heap.size w w':=by
 have hb1:=below3 w (.cells #[.slice a ll.length c] 25) (.cells #[.slice fa l.length fc,.slice ra rows.length rc] 29) (.cells #[.slice none 0 0,.slice none 0 0] 45)
 have kp:(((w.alloc (.cells #[.slice a ll.length c] 25)).alloc (.cells #[.slice fa l.length fc,.slice ra rows.length rc] 29)).alloc (.cells #[.slice none 0 0,.slice none 0 0] 45)).cell? ⟨w.heap.size,0,none⟩=some (.slice a ll.length c):=by simp [go_sem]
 have k0:(((w.alloc (.cells #[.slice a ll.length c] 25)).alloc (.cells #[.slice fa l.length fc,.slice ra rows.length rc] 29)).alloc (.cells #[.slice none 0 0,.slice none 0 0] 45)).cell? ⟨w.heap.size+1,0,none⟩=some (.slice fa l.length fc):=by simp [go_sem]
 have k1:(((w.alloc (.cells #[.slice a ll.length c] 25)).alloc (.cells #[.slice fa l.length fc,.slice ra rows.length rc] 29)).alloc (.cells #[.slice none 0 0,.slice none 0 0] 45)).cell? ⟨w.heap.size+1,1,none⟩=some (.slice ra rows.length rc):=by simp [go_sem]
 have r0:Slot2 (((w.alloc (.cells #[.slice a ll.length c] 25)).alloc (.cells #[.slice fa l.length fc,.slice ra rows.length rc] 29)).alloc (.cells #[.slice none 0 0,.slice none 0 0] 45)) (w.heap.size+1+1) (.slice none 0 0) (.slice none 0 0):=⟨alloc_new _ _ _ (by simp)⟩
 have hp1:=h.below hb1 (Nat.le_refl _)
 have hf1:=hf.below hb1 (Nat.le_refl _)
 have hr1:=hr.below hb1 (Nat.le_refl _)
 obtain ⟨ok,hok⟩:∃ r,M.execOk ll l rows=r:=⟨_,rfl⟩
 have HOK:Hid (M.execOk ll l rows=ok):=hok
 have HES:Hid (M.execSeen ll l rows=if ok then (M.seenR (M.deeds ll) l,M.seenL (M.deeds ll) l rows) else ([],[])):=by show _=_;rw [M.execSeen,hok]
 rw [hok]
 clear hok
 go_enter Tryz.func52,Tryz.ntmps52
 go_wp2_with fail
 generalize (((w.alloc (.cells #[.slice a ll.length c] 25)).alloc (.cells #[.slice fa l.length fc,.slice ra rows.length rc] 29)).alloc (.cells #[.slice none 0 0,.slice none 0 0] 45))=W at *
 have lt0:=r0.lt
 clear h hf hr
 have C1:=sexecOk_any a b o c ll fa fb fo fc l ra rb ro rc rows W hl hls hl1 hrs hp1 hf1 hr1
 rw [HOK.out] at C1
 cases ok
 ·refine C1.mono ?_
  rintro e w1 ⟨rfl,hb2⟩
  have r1:=r0.of (hb2.block _ lt0)
  have y0:=r1.c0
  have y1:=r1.c1
  have yf:=r1.fz
  go_wp2_with fail
  have hb12:=hb1.trans (hb2.mono hb1.size)
  refine bodyPost_ret (v:=.tuple #[.agg #[.slice none 0 0,.slice none 0 0],.bool false]) (by simp [results,Tryz.results52,go_sem,y0,y1]) rfl ⟨⟨none,w.heap.size,0,0,[],none,w.heap.size,0,0,[]⟩,rfl,by rw [HES.out];rfl,by rw [HES.out];rfl,⟨IntS.nil _ _ _ _,IntS.nil _ _ _ _⟩,Nat.le_refl _,Nat.le_refl _,?_⟩
  exact (hb12.setCell (by show w.heap.size≤w.heap.size+1+1;omega) _).setCell (by show w.heap.size≤w.heap.size+1+1;omega) _
 ·have hW:=M.way_of HOK.out
  obtain ⟨h3,h7⟩:=M.prog_bounds hW.prog
  have hdl:=M.deeds_len h3 h7
  have HE:Hid (M.evAll ll=(M.deeds ll).map M.De.ev):=by show _=_;simp [M.evAll,hW.prog,M.events]
  refine C1.mono ?_
  rintro e w1 ⟨rfl,hb2⟩
  have kp1:=(hb2.cell (p:=⟨w.heap.size,0,none⟩) (by show w.heap.size < _;omega)).trans kp
  have k01:=(hb2.cell (p:=⟨w.heap.size+1,0,none⟩) (by show w.heap.size+1 < _;omega)).trans k0
  have k11:=(hb2.cell (p:=⟨w.heap.size+1,1,none⟩) (by show w.heap.size+1 < _;omega)).trans k1
  have r1:=r0.of (hb2.block _ lt0)
  have lt1:=r1.lt
  have hb12:=hb1.trans (hb2.mono hb1.size)
  have hp2:=(hp1.below hb2 (Nat.le_refl _)).below (Below.refl w1.heap.size w1).drew (Nat.le_refl _)
  have hf2:=(hf1.below hb2 (Nat.le_refl _)).below (Below.refl w1.heap.size w1).drew (Nat.le_refl _)
  have hr2:=(hr1.below hb2 (Nat.le_refl _)).below (Below.refl w1.heap.size w1).drew (Nat.le_refl _)
  clear kp k0 k1 r0 lt0 C1 hp1 hf1 hr1 hb2 hb1
  go_wp2_with fail
  have N0:w.heap.size+1+1≠w.heap.size:=by omega
  have N1:w.heap.size+1+1≠w.heap.size+1:=by omega
  have C2:=sexecEvents_any a b o c ll w1.drew hl hls hp2
  go_region_held3 (fun w'=>w'.cell? ⟨w.heap.size,0,none⟩=some (.slice a ll.length c)∧w'.cell? ⟨w.heap.size+1,0,none⟩=some (.slice fa l.length fc)∧w'.cell? ⟨w.heap.size+1,1,none⟩=some (.slice ra rows.length rc)) (go_keep) (first
   | (go_at_call 75;refine C2.mono ?_;rintro e w2 ⟨v2,rfl,hown,hb3⟩;obtain ⟨va,g,cap,rfl,hev,_,_⟩:=own_rs M.Ev.len hown;rw [HE.out] at hev;have hd:=DvS.of hev;have hle:(M.evAll ll).length=(M.deeds ll).length:=(by rw [HE.out,List.length_map]);rw [hle];clear hle hev hown;have Z0:=(hb3.cell (p:=⟨w.heap.size,0,none⟩) (show w.heap.size < w1.heap.size by omega)).trans kp1;have Z1:=(hb3.cell (p:=⟨w.heap.size+1,0,none⟩) (show w.heap.size+1 < w1.heap.size by omega)).trans k01;have Z2:=(hb3.cell (p:=⟨w.heap.size+1,1,none⟩) (show w.heap.size+1 < w1.heap.size by omega)).trans k11;have r2:=r1.of (hb3.block _ lt1);have lt2:=r2.lt)
   | (go_at_call 113;refine (l12Seen_any a b o c ll va g cap fa fb fo fc l ra rb ro rc rows w2 hl hls hdl hW.len hW.inn hW.three hrs hW.mem (hp2.below hb3 (Nat.le_refl _)) hd (hf2.below hb3 (Nat.le_refl _)) (hr2.below hb3 (Nat.le_refl _))).mono ?_;rintro e w3 ⟨s,rfl,hs1,hs2,hat,hg1,hg2,_,hb4⟩;have HS1:Hid (s.l1=M.seenR (M.deeds ll) l):=hs1;have HS2:Hid (s.l2=M.seenL (M.deeds ll) l rows):=hs2;clear hs1 hs2;have X0:=(hb4.cell (p:=⟨w.heap.size,0,none⟩) (show w.heap.size < w2.heap.size by omega)).trans Z0;have X1:=(hb4.cell (p:=⟨w.heap.size+1,0,none⟩) (show w.heap.size+1 < w2.heap.size by omega)).trans Z1;have X2:=(hb4.cell (p:=⟨w.heap.size+1,1,none⟩) (show w.heap.size+1 < w2.heap.size by omega)).trans Z2;have r3:=r2.of (hb4.block _ lt2);have y0:=r3.c0;have y1:=r3.c1;have yf:=r3.fz))
  go_wp2_with fail
  have hlt3:=r3.lt
  have hne:∀ bb,w2.heap.size≤bb→bb≠w.heap.size+1+1:=fun bb hb=>by omega
  have hb3':Below w.heap.size w w2:=hb12.trans (((Below.refl _ _).drew.trans hb3).mono hb12.size)
  have hb4':=hb3'.trans (hb4.mono hb3'.size)
  have hsz:=hb3'.size
  refine bodyPost_ret (v:=.tuple #[.agg #[.slice s.a1 s.l1.length s.c1,.slice s.a2 s.l2.length s.c2],.bool true]) (by simp [results,Tryz.results52,go_sem,y0,y1]) rfl ⟨s,rfl,by rw [HES.out];exact HS1.out,by rw [HES.out];exact HS2.out,⟨?_,?_⟩,by omega,by omega,?_⟩
  ·exact (hat.reads.far (fun _=>hne _ hg1)).far (fun _=>hne _ hg1)
  ·exact (hat.last.far (fun _=>hne _ hg2)).far (fun _=>hne _ hg2)
  ·exact (hb4'.setCell (by show w.heap.size≤w.heap.size+1+1;omega) _).setCell (by show w.heap.size≤w.heap.size+1+1;omega) _
end
end Go.Proofs.YtmhpgdliaclokaaGreat
