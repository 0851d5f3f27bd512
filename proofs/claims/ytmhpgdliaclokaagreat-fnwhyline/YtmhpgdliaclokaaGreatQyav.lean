/- spec's orders: what is looked at, laid anew. Of at most 1048576 threads and steps. -/
import Derived.Deep.OwnRows
import Derived.Test.YtmhpgdliaclokaaGreatRows
import Derived.Test.YtmhpgdliaclokaaGreatQyat
namespace Go.Proofs.YtmhpgdliaclokaaGreat
section
open Go.RowKit
theorem step_go1 {P:Program} {ops:Array Oper} {o:Oper} {a:Act} {w:World} {K:Act→World→Prop} {Q:Exit→Act→World→Prop} {E:Prop}
  (hg:o.guard=none) (f:FuncId) (x:Operand) (ts:Array TypeId) (hop:o.op=Op.call { callee:=Callee.value (Operand.func f),args:=#[x],argTypes:=ts })
  (vx:Value) (hx:a.eval x=vx) (he:∀ args w,(callFunc f args).run P w=.ok (.enter f args) w) {R:Ending→World→Prop} (hc:Calls P f #[vx] w R)
  (hK:∀ e w',R e w'→∃ v,e=.returned v∧K (a.put o.dst v) w') :
  if Region.wanted o (yielded ops a.tmps)=true then Oper.wp P o a w K Q else E :=
 step_go hg f #[x] ts hop #[vx] (by simp [hx]) he hc hK
theorem l1Writes_bel (d:M.D) (w:World):Calls Tryz.prog 78 #[.agg #[.int .i64 d.k,.int .i64 d.p,.int .i64 d.v]] w fun e w'=>e=.returned (.bool (M.writes d.k))∧Below w.heap.size w w' :=
 (l1Writes_any d w).mono fun e w' ⟨he,hw⟩=>⟨he,by rw [hw];exact below1 _ _⟩
def bools (l:List Bool):List Value:=l.map .bool
theorem Tryz.infoBool:(Tryz.prog.info? 4).map (fun i=>(i.zero,i.size,i.bytes))=some (some (.bool false),1,1):=by kernel_rfl
theorem ownB_far {w:World} {b i B n:Nat} {v:Value} {xs:List Value} (ho:w.ownsRow B 4 1 v n xs) (hb:b < B) (u:Value):(w.setCell ⟨b,i,none⟩ u).ownsRow B 4 1 v n xs:=by
 refine ⟨ho.1,?_⟩
 rcases ho.2 with h0 | ⟨g,cap,cur,hv,hg,hh,r⟩
 ·exact Or.inl h0
 ·exact Or.inr ⟨g,cap,cur,hv,hg,(Below.heap_setCell _ _ _ _ (fun e=>by simp at e;omega)).trans hh,r⟩
structure Lk (w wr:World) (p l v1 v2:Value) (r1 r2:List Bool):Prop where
 bel:Below w.heap.size w wr
 blk:wr.heap[w.heap.size]?=some (.cells #[p,l,v1,v2,.slice none 0 0,.slice none 0 0] 131 (0,0))
 own1:wr.ownsRow (w.heap.size+1) 4 1 v1 r1.length (bools r1)
 own2:wr.ownsRow (w.heap.size+1) 4 1 v2 r2.length (bools r2)
 sep:∀ k,v1.ownBlock=some k→v2.ownBlock≠some k
theorem Lk.lt {w wr:World} {p l v1 v2:Value} {r1 r2:List Bool} (h:Lk w wr p l v1 v2 r1 r2):w.heap.size < wr.heap.size:=by
 by_cases hb:w.heap.size < wr.heap.size
 ·exact hb
 ·have:=h.blk;rw [Array.getElem?_eq_none (by omega)] at this;cases this
theorem Lk.c {w wr:World} {p l v1 v2:Value} {r1 r2:List Bool} (h:Lk w wr p l v1 v2 r1 r2):wr.cell? ⟨w.heap.size,0,none⟩=some p∧wr.cell? ⟨w.heap.size,1,none⟩=some l∧wr.cell? ⟨w.heap.size,2,none⟩=some v1∧wr.cell? ⟨w.heap.size,3,none⟩=some v2∧∀ i,wr.frozen? ⟨w.heap.size,i,none⟩=false:=by
 refine ⟨?_,?_,?_,?_,fun i=>?_⟩
 ·simp [World.cell?,h.blk]
 ·simp [World.cell?,h.blk]
 ·simp [World.cell?,h.blk]
 ·simp [World.cell?,h.blk]
 ·simp [World.frozen?,h.blk]
theorem Lk.below {w wr w1:World} {p l v1 v2:Value} {r1 r2:List Bool} (h:Lk w wr p l v1 v2 r1 r2) (hb:Below wr.heap.size wr w1):Lk w w1 p l v1 v2 r1 r2 :=
 ⟨h.bel.trans (hb.mono h.bel.size),(hb.block _ h.lt).trans h.blk,ownsRow_below h.own1 hb,ownsRow_below h.own2 hb,h.sep⟩
theorem Lk.blkG {w wr w3:World} {p l v1 v2 v:Value} {r1 r2:List Bool} {n:Nat} {xs:List Value} {o:Obj} (h:Lk w wr p l v1 v2 r1 r2) (hv:wr.ownsRow (w.heap.size+1) 4 1 v n xs) (hg:(wr.alloc o).grownBy w3 v.ownBlock):w3.heap[w.heap.size]?=wr.heap[w.heap.size]?∧Below w.heap.size w w3:=by
 have hl:=h.lt
 have hge:=own_ge hv
 refine ⟨(hg.block w.heap.size (by simp;omega) (fun e=>by have:=hge _ e.symm;omega)).trans ((below1 wr o).block _ hl),?_⟩
 exact below_grown (h.bel.alloc h.bel.size o) hg (fun k hk=>by have:=hge k hk;omega) (by simp;omega)
theorem Lk.snoc1 {w wr w3:World} {p l v1 v2:Value} {r1 r1' r2:List Bool} {o:Obj} {g m cap:Nat} (h:Lk w wr p l v1 v2 r1 r2) (hg:(wr.alloc o).grownBy w3 v1.ownBlock) (ho:w3.ownsRow (w.heap.size+1) 4 1 (.slice (some ⟨g,0,none⟩) m cap) r1'.length (bools r1')) (hat:v1.ownBlock=some g∨g=wr.heap.size+1) :
  Lk w (w3.setCell ⟨w.heap.size,2,none⟩ (.slice (some ⟨g,0,none⟩) m cap)) p l (.slice (some ⟨g,0,none⟩) m cap) v2 r1' r2:=by
 obtain ⟨hbk,hbl⟩:=h.blkG h.own1 hg
 have hk2:v2.ownBlock=none∨v2.ownBlock≠v1.ownBlock:=by
  cases hv:v2.ownBlock with
  | none=>exact Or.inl rfl
  | some k=>exact Or.inr fun e=>h.sep k e.symm hv
 refine ⟨hbl.setCell (by exact Nat.le_refl _) _,heap_setCell_same _ _ 2 _ _ _ (hbk.trans h.blk),ownB_far ho (by omega) _,ownB_far ((h.own2.alloc o).kept hg hk2) (by omega) _,fun k hk e=>?_⟩
 have hkg:g=k:=by simpa [Value.ownBlock] using hk
 subst hkg
 rcases hat with hat | hat
 ·exact h.sep _ hat e
 ·have:=(h.own2.lt _ e).2
  omega
theorem Lk.snoc2 {w wr w3:World} {p l v1 v2:Value} {r1 r2 r2':List Bool} {o:Obj} {g m cap:Nat} (h:Lk w wr p l v1 v2 r1 r2) (hg:(wr.alloc o).grownBy w3 v2.ownBlock) (ho:w3.ownsRow (w.heap.size+1) 4 1 (.slice (some ⟨g,0,none⟩) m cap) r2'.length (bools r2')) (hat:v2.ownBlock=some g∨g=wr.heap.size+1) :
  Lk w (w3.setCell ⟨w.heap.size,3,none⟩ (.slice (some ⟨g,0,none⟩) m cap)) p l v1 (.slice (some ⟨g,0,none⟩) m cap) r1 r2':=by
 obtain ⟨hbk,hbl⟩:=h.blkG h.own2 hg
 have hk1:v1.ownBlock=none∨v1.ownBlock≠v2.ownBlock:=by
  cases hv:v1.ownBlock with
  | none=>exact Or.inl rfl
  | some k=>exact Or.inr fun e=>h.sep k hv e.symm
 refine ⟨hbl.setCell (by exact Nat.le_refl _) _,heap_setCell_same _ _ 3 _ _ _ (hbk.trans h.blk),ownB_far ((h.own1.alloc o).kept hg hk1) (by omega) _,ownB_far ho (by omega) _,fun k hk e=>?_⟩
 have hkg:g=k:=by simpa [Value.ownBlock] using e
 subst hkg
 rcases hat with hat | hat
 ·exact h.sep _ hk hat
 ·have:=(h.own1.lt _ hk).2
  omega
structure Looked (w w':World) (O:Nat) (a:Option Addr) (c:Nat) (ll:List (List M.D)) (va:Option Addr) (g cc:Nat) (v1 v2:Value):Prop where
 bel:Below w.heap.size w w'
 ge:w.heap.size≤O
 blk:w'.heap[O]?=some (.cells #[.slice a ll.length c,.slice va (M.deeds ll).length cc,v1,v2,.slice none 0 0,.slice none 0 0] 131 (0,0))
 dv:DvS w' va g (M.deeds ll)
 own1:w'.ownsRow (O+1) 4 1 v1 (M.deeds ll).length (bools ((M.deeds ll).map fun x=>M.reads x.d.k))
 own2:w'.ownsRow (O+1) 4 1 v2 (M.deeds ll).length (bools ((M.deeds ll).map fun x=>M.writes x.d.k))
set_option maxHeartbeats 2000000 in
set_option maxRecDepth 100000 in
theorem l13Look_any (a:Option Addr) (b o c:Nat) (ll:List (List M.D)) (w:World) (hp:M.prog ll=true) (hl:ll.length≤1048576) (hls:∀ t∈ll,t.length≤1048576) (hdl:(M.deeds ll).length≤42) (h:DoSS w a b o ll) :
  Calls Tryz.prog 33 #[.agg #[.slice a ll.length c]] w fun e w'=>∃ (O:Nat) (va:Option Addr) (g cc:Nat) (v1 v2:Value),e=.returned (.pointer (some ⟨O,0,none⟩))∧Looked w w' O a c ll va g cc v1 v2:=by
 obtain ⟨i0,hi,hz0,hz1,hz2⟩:=info_parts Tryz.infoBool
 have HE:Hid (M.evAll ll=(M.deeds ll).map M.De.ev):=by show _=_;simp [M.evAll,hp,M.events]
 have hb1:=below1 w (.cells #[.slice a ll.length c] 25)
 have kp:(w.alloc (.cells #[.slice a ll.length c] 25)).cell? ⟨w.heap.size,0,none⟩=some (.slice a ll.length c):=by simp
 have hp1:=h.below hb1 (Nat.le_refl _)
 go_enter Tryz.func33,Tryz.ntmps33
 go_wp2_with fail
 generalize w.alloc (.cells #[.slice a ll.length c] 25)=W at *
 have C:=sexecEvents_any a b o c ll W.drew hl hls (hp1.below (Below.refl _ _).drew (Nat.le_refl _))
 go_region_held3 (fun w'=>w'.cell? ⟨w.heap.size,0,none⟩=some (.slice a ll.length c)) (go_keep) (first
  | (go_at_call 75;refine C.mono ?_;rintro e w2 ⟨v2,rfl,hown,hb3⟩;obtain ⟨va,g,cap,rfl,hev,_,_⟩:=own_rs M.Ev.len hown;rw [HE.out] at hev;have hd:=DvS.of hev;have hle:(M.evAll ll).length=(M.deeds ll).length:=(by rw [HE.out,List.length_map]);rw [hle];clear hle hev hown;have hW2:Below W.heap.size W w2:=(Below.refl _ _).drew.trans hb3;have Z0:=cellC hW2 kp))
 have hbw2:Below w.heap.size w w2:=hb1.trans (hW2.mono hb1.size)
 have hs2:DoSS w2 a b o ll:=hp1.below hW2 (Nat.le_refl _)
 have k0:Lk w2 (w2.alloc (.cells #[.slice a ll.length c,.slice va (M.deeds ll).length cap,.slice none 0 0,.slice none 0 0,.slice none 0 0,.slice none 0 0] 131)) (.slice a ll.length c) (.slice va (M.deeds ll).length cap) (.slice none 0 0) (.slice none 0 0) [] []:=⟨below1 _ _,alloc_new _ _ _ rfl,World.ownsRow_nil _ _ _ _,World.ownsRow_nil _ _ _ _,fun k hk=>by simp [Value.ownBlock] at hk⟩
 generalize w2.alloc (.cells #[.slice a ll.length c,.slice va (M.deeds ll).length cap,.slice none 0 0,.slice none 0 0,.slice none 0 0,.slice none 0 0] 131)=W0 at k0 ⊢
 clear hb3 hW2 Z0 C hp1 kp hb1 h HE
 have heDo:∀ args w,(callFunc 77 args).run Tryz.prog w=.ok (.enter 77 args) w:=enters_of Tryz.func77 (by kernel_rfl) rfl
 have heR:∀ args w,(callFunc 76 args).run Tryz.prog w=.ok (.enter 76 args) w:=enters_of Tryz.func76 (by kernel_rfl) rfl
 have heW:∀ args w,(callFunc 78 args).run Tryz.prog w=.ok (.enter 78 args) w:=enters_of Tryz.func78 (by kernel_rfl) rfl
 go_wp2_with fail
 go_loopw [4] (fun s4 wr=>∃ (n:Nat) (v1 v2:Value) (r1 r2:List Bool),s4=.int .i64 n∧n≤(M.deeds ll).length∧Hid (r1=((M.deeds ll).take n).map fun x=>M.reads x.d.k)∧Hid (r2=((M.deeds ll).take n).map fun x=>M.writes x.d.k)∧r1.length≤42∧r2.length≤42∧Lk w2 wr (.slice a ll.length c) (.slice va (M.deeds ll).length cap) v1 v2 r1 r2) (fun s4 _=>(M.deeds ll).length - (intOf s4).toNat)
 case atStart=>exact ⟨0,_,_,[],[],rfl,Nat.zero_le _,by show _=_;simp,by show _=_;simp,by simp,by simp,k0⟩
 case round =>
  clear k0
  obtain ⟨n,v1,v2,r1,r2,rfl,hn,HR1,HR2,hr1,hr2,k⟩:=hrel
  by_cases hlt:n < (M.deeds ll).length
  ·obtain ⟨rfl⟩:=hd.addr (by omega)
   obtain ⟨x,hx⟩:∃ x,(M.deeds ll)[n]?=some x:=⟨_,List.getElem?_eq_getElem hlt⟩
   have HT:Hid ((M.deeds ll).take (n+1)=(M.deeds ll).take n++[x]):=by
    show _=_
    rw [List.getElem?_eq_getElem hlt] at hx
    rw [List.take_succ_eq_append_getElem hlt,Option.some.inj hx]
   have i1:(n:Int) < (M.deeds ll).length:=by omega
   obtain ⟨t,ht⟩:∃ t:Lp,t=⟨w2.heap.size,a,b,o,c,ll,g,cap⟩:=⟨_,rfl⟩
   have hOk:t.Ok:=by subst ht;exact ⟨hl,hls,hdl⟩
   have tAt:∀ W' u1 u2 s1 s2,Lk w2 W' (.slice a ll.length c) (.slice (some ⟨g,0,none⟩) (M.deeds ll).length cap) u1 u2 s1 s2→Lp.At ⟨w2.heap.size,a,b,o,c,ll,g,cap⟩ W':=fun W' u1 u2 s1 s2 kk=>⟨kk.c.1,kk.c.2.1,hs2.below kk.bel (Nat.le_refl _),hd.bel kk.bel (Nat.le_refl _)⟩
   rw [ht] at hOk
   clear ht t
   have doC:=fun W' (kk:Lp.At ⟨w2.heap.size,a,b,o,c,ll,g,cap⟩ W')=>do_any ⟨w2.heap.size,a,b,o,c,ll,g,cap⟩ n x W' hOk kk hx
   have c1:=k.c.2.1
   have c2:=k.c.2.2.1
   have fz:=k.c.2.2.2.2
   have lk:=k.lt
   go_wp2_with fail
   go_cut [4] from 10 to 44 (fun s4 wx=>s4=.int .i64 n∧∃ gp capp,Lk w2 wx (.slice a ll.length c) (.slice (some ⟨g,0,none⟩) (M.deeds ll).length cap) (.slice (some ⟨gp,0,none⟩) (r1.length+1) capp) v2 (r1++[M.reads x.d.k]) r2)
   case first =>
    go_region_law (first
     | (refine step_go2 (by rfl) 77 _ _ _ (by rfl) _ _ (by rfl) (by rfl) heDo (doC _ (tAt _ _ _ _ _ (k.below (Below.refl _ _).drew))) ?_;rintro e p3 ⟨rfl,hp3⟩;have kp3:=k.below ((Below.refl _ _).drew.trans hp3);have cp3:=kp3.c.2.2.1;have fp3:=kp3.c.2.2.2.2;refine ⟨_,rfl,?_⟩)
     | (refine step_go1 (by rfl) 76 _ _ (by rfl) _ (by rfl) heR (l1Reads_bel x.d p3) ?_;rintro e p4 ⟨rfl,hp4⟩;have kp4:=kp3.below hp4;have cp4:=kp4.c.2.2.1;have fp4:=kp4.c.2.2.2.2;have lp4:=kp4.lt;refine ⟨_,rfl,?_⟩)
     | (refine step_append_lies _ (by rfl) _ _ _ (by rfl) (w2.heap.size+1) 4 i0 _ 1 1 Tryz.underlying129 hi hz0 hz1 hz2 rfl (by omega) v1 r1.length (bools r1) (by rfl) (kp4.own1.alloc _) ⟨p4.heap.size,0,none⟩ 1 1 [.bool (M.reads x.d.k)] (by rfl) (by rfl) (World.news_of_block (cs:=#[.bool (M.reads x.d.k)]) (t:=4) (fr:=(0,0)) (heap_alloc_new p4 _)) (by simp [Value.oneCell']) (by omega) (by unfold maxLen;omega) (by omega) (by simp only [World.size_alloc];omega) (p4.heap.size+1) (by simp) ?_;intro gp capp p5 hownp hgrp hatp hltp;have hop:p5.ownsRow (w2.heap.size+1) 4 1 (.slice (some ⟨gp,0,none⟩) (r1.length+1) capp) (r1++[(M.reads x.d.k)]).length (bools (r1++[(M.reads x.d.k)])):=(by rw [List.length_append];simpa [bools] using hownp);have kp5:=kp4.snoc1 hgrp hop hatp;have hbkp:=(kp4.blkG kp4.own1 hgrp).1;have cp5:p5.cell? ⟨w2.heap.size,2,none⟩=some v1:=(World.cell?_of_block hbkp).trans cp4;have fp5:∀ i,p5.frozen? ⟨w2.heap.size,i,none⟩=false:=fun i=>(World.frozen?_of_block hbkp).trans (fp4 i);clear hownp hop hgrp hatp hltp hbkp))
    all_goals
     go_wp2_with fail
     go_meet
     case rel=>exact ⟨rfl,_,_,kp5⟩
   case rest =>
    obtain ⟨rfl,gp,capp,kp5⟩:=hcut
    clear c1 c2 fz lk k
    have c3:=kp5.c.2.2.2.1
    have fz:=kp5.c.2.2.2.2
    have lk:=kp5.lt
    go_wp2_with fail
    go_region_law (first
     | (refine step_go2 (by rfl) 77 _ _ _ (by rfl) _ _ (by rfl) (by rfl) heDo (doC _ (tAt _ _ _ _ _ (kp5.below (Below.refl _ _).drew))) ?_;rintro e q3 ⟨rfl,hq3⟩;have kq3:=kp5.below ((Below.refl _ _).drew.trans hq3);have cq3:=kq3.c.2.2.2.1;have fq3:=kq3.c.2.2.2.2;refine ⟨_,rfl,?_⟩)
     | (refine step_go1 (by rfl) 78 _ _ (by rfl) _ (by rfl) heW (l1Writes_bel x.d q3) ?_;rintro e q4 ⟨rfl,hq4⟩;have kq4:=kq3.below hq4;have cq4:=kq4.c.2.2.2.1;have fq4:=kq4.c.2.2.2.2;have lq4:=kq4.lt;refine ⟨_,rfl,?_⟩)
     | (refine step_append_lies _ (by rfl) _ _ _ (by rfl) (w2.heap.size+1) 4 i0 _ 1 1 Tryz.underlying129 hi hz0 hz1 hz2 rfl (by omega) v2 r2.length (bools r2) (by rfl) (kq4.own2.alloc _) ⟨q4.heap.size,0,none⟩ 1 1 [.bool (M.writes x.d.k)] (by rfl) (by rfl) (World.news_of_block (cs:=#[.bool (M.writes x.d.k)]) (t:=4) (fr:=(0,0)) (heap_alloc_new q4 _)) (by simp [Value.oneCell']) (by omega) (by unfold maxLen;omega) (by omega) (by simp only [World.size_alloc];omega) (q4.heap.size+1) (by simp) ?_;intro gq capq q5 hownq hgrq hatq hltq;have hoq:q5.ownsRow (w2.heap.size+1) 4 1 (.slice (some ⟨gq,0,none⟩) (r2.length+1) capq) (r2++[(M.writes x.d.k)]).length (bools (r2++[(M.writes x.d.k)])):=(by rw [List.length_append];simpa [bools] using hownq);have kq5:=kq4.snoc2 hgrq hoq hatq;have hbkq:=(kq4.blkG kq4.own2 hgrq).1;have cq5:q5.cell? ⟨w2.heap.size,3,none⟩=some v2:=(World.cell?_of_block hbkq).trans cq4;have fq5:∀ i,q5.frozen? ⟨w2.heap.size,i,none⟩=false:=fun i=>(World.frozen?_of_block hbkq).trans (fq4 i);clear hownq hoq hgrq hatq hltq hbkq))
    all_goals
     go_wp2_with fail
     go_roundw
     case rel =>
      refine ⟨n+1,_,_,r1++[M.reads x.d.k],r2++[M.writes x.d.k],by go_num,by omega,?_,?_,?_,?_,kq5⟩
      ·show _=_;rw [HR1.out,HT.out,List.map_append];rfl
      ·show _=_;rw [HR2.out,HT.out,List.map_append];rfl
      ·rw [HR1.out];simp;omega
      ·rw [HR2.out];simp;omega
     case measure=>simp [intOf];omega
  ·have c1:=k.c.2.1
   go_wp2_with fail
   go_ret
   have e1:r1=(M.deeds ll).map fun x=>M.reads x.d.k:=by rw [HR1.out,List.take_of_length_le (by omega)]
   have e2:r2=(M.deeds ll).map fun x=>M.writes x.d.k:=by rw [HR2.out,List.take_of_length_le (by omega)]
   have o1:=k.own1
   have o2:=k.own2
   rw [e1,List.length_map] at o1
   rw [e2,List.length_map] at o2
   exact ⟨w2.heap.size,va,g,cap,v1,v2,rfl,⟨hbw2.trans (k.bel.mono hbw2.size),hbw2.size,k.blk,hd.bel k.bel (Nat.le_refl _),o1,o2⟩⟩
end
end Go.Proofs.YtmhpgdliaclokaaGreat
