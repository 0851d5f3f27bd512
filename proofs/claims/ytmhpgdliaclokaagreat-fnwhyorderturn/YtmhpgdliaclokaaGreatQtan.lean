/- A program in memory whose blocks all lie beyond a bound. No condition. And what goes with it: DoSN, NlO, StepGo, SpMath, SpPut, SpSo. -/
import Derived.Test.YtmhpgdliaclokaaGreatRows
import Derived.Test.YtmhpgdliaclokaaGreatQtal
namespace Go.Proofs.YtmhpgdliaclokaaGreat
section
open Go.RowKit
theorem DoS.far {w:World} {a:Option Addr} {b o B i:Nat} {l:List M.D} {u:Value} (h:DoS w a b o l) (hb:0 < l.length→b≠B):DoS (w.setCell ⟨B,i,none⟩ u) a b o l:=by
 refine ⟨h.addr,fun j hj=>?_⟩
 have hne:=hb (by omega)
 have hr:=h.row j hj
 exact ⟨(World.cell?_setCell_other _ _ _ _ (fun e=>hne (congrArg Addr.block e).symm)).trans hr.k,(World.cell?_setCell_other _ _ _ _ (fun e=>hne (congrArg Addr.block e).symm)).trans hr.p,(World.cell?_setCell_other _ _ _ _ (fun e=>hne (congrArg Addr.block e).symm)).trans hr.v⟩
theorem DoS.but {w w':World} {a:Option Addr} {rb b o:Nat} {l:List M.D} (h:DoS w a b o l) (hb:But rb w w') (hne:0 < l.length→b≠rb):DoS w' a b o l:=by
 refine ⟨h.addr,fun j hj=>?_⟩
 have hn:=hne (by omega)
 have hr:=h.row j hj
 have hl:=hr.lt
 exact ⟨(hb.cell (p:=⟨b,o+j * 3,none⟩) hl hn).trans hr.k,(hb.cell (p:=⟨b,o+j * 3+1,none⟩) hl hn).trans hr.p,(hb.cell (p:=⟨b,o+j * 3+2,none⟩) hl hn).trans hr.v⟩
theorem own_capS {w:World} {base n cap:Nat} {a:Option Addr} {e:TypeId} {size:Nat} {xs:List Value} (h:w.ownsRow base e size (.slice a n cap) n xs):n≤cap:=by
 rcases h.2 with ⟨hv,_⟩ | ⟨g',cap',cur,hv,_,_,hc,_⟩
 ·simp at hv;omega
 ·simp at hv
  obtain ⟨_,rfl⟩:=hv
  exact hc
theorem own_stepsC {w:World} {base:Nat} {v:Value} {l:List M.D} (h:w.ownsRow base 94 3 v l.length (flat l)):∃ a g c,v=.slice a l.length c∧DoS w a g 0 l∧(0 < l.length→base≤g)∧l.length≤c:=by
 obtain ⟨a,g,c,rfl,hd,hg⟩:=own_steps h
 exact ⟨a,g,c,rfl,hd,hg,own_capS h⟩
structure DoSN (N:Nat) (w:World) (a:Option Addr) (b o:Nat) (ll:List (List M.D)):Prop where
 addr:0 < ll.length→a=some ⟨b,o,none⟩
 ge:0 < ll.length→N≤b
 row:∀ i (h:i < ll.length),∃ a' b' o' c',w.cell? ⟨b,o+i,none⟩=some (.slice a' ll[i].length c')∧DoS w a' b' o' ll[i]∧(0 < ll[i].length→N≤b')∧ll[i].length≤c'
theorem DoSN.ss {N:Nat} {w:World} {a:Option Addr} {b o:Nat} {ll:List (List M.D)} (h:DoSN N w a b o ll):DoSS w a b o ll :=
 ⟨h.addr,fun i hi=>by obtain ⟨a',b',o',c',hc,hd,_,_⟩:=h.row i hi;exact ⟨a',b',o',c',hc,hd⟩⟩
theorem DoSN.far {N:Nat} {w:World} {a:Option Addr} {b o B i:Nat} {ll:List (List M.D)} {u:Value} (h:DoSN N w a b o ll) (hB:B < N):DoSN N (w.setCell ⟨B,i,none⟩ u) a b o ll:=by
 refine ⟨h.addr,h.ge,fun j hj=>?_⟩
 obtain ⟨a',b',o',c',hc,hd,hg,hq⟩:=h.row j hj
 have:=h.ge (by omega)
 exact ⟨a',b',o',c',(World.cell?_setCell_other _ _ _ _ (fun e=>by have:=congrArg Addr.block e;simp at this;omega)).trans hc,hd.far (fun hl=>by have:=hg hl;omega),hg,hq⟩
theorem DoSN.but {N:Nat} {w w':World} {a:Option Addr} {rb b o:Nat} {ll:List (List M.D)} (h:DoSN N w a b o ll) (hb:But rb w w') (hr:rb < N):DoSN N w' a b o ll:=by
 refine ⟨h.addr,h.ge,fun j hj=>?_⟩
 obtain ⟨a',b',o',c',hc,hd,hg,hq⟩:=h.row j hj
 have:=h.ge (by omega)
 exact ⟨a',b',o',c',(hb.cell (p:=⟨b,o+j,none⟩) (World.block_lt_of_cell? _ _ hc) (by show b≠rb;omega)).trans hc,hd.but hb (fun hl=>by have:=hg hl;omega),hg,hq⟩
theorem DoSN.mono {N N':Nat} {w:World} {a:Option Addr} {b o:Nat} {ll:List (List M.D)} (h:DoSN N w a b o ll) (hN:N'≤N):DoSN N' w a b o ll :=
 ⟨h.addr,fun hl=>Nat.le_trans hN (h.ge hl),fun i hi=>by obtain ⟨a',b',o',c',hc,hd,hg,hq⟩:=h.row i hi;exact ⟨a',b',o',c',hc,hd,fun hl=>Nat.le_trans hN (hg hl),hq⟩⟩
theorem own_capR {w:World} {base g n cap:Nat} {e:TypeId} {size:Nat} {xs:List Value} (h:w.ownsRow base e size (.slice (some ⟨g,0,none⟩) n cap) n xs):n≤cap:=by
 rcases h.2 with ⟨hv,_⟩ | ⟨g',cap',cur,hv,_,_,hc,_⟩
 ·simp at hv
 ·simp at hv
  obtain ⟨_,rfl⟩:=hv
  exact hc
theorem Build.cap {w:World} {B n c:Nat} {a:Option Addr} {ll:List (List M.D)} {vs:List Value} (h:Build w B (.slice a n c) ll vs):ll.length≤c:=by
 rcases h.outer.2 with ⟨hv,hn⟩ | ⟨g',cap',cur,hv,_,_,hc,_⟩
 ·omega
 ·simp at hv
  obtain ⟨_,_,rfl⟩:=hv
  exact hc
theorem Build.sn {w:World} {B:Nat} {v:Value} {ll:List (List M.D)} {vs:List Value} (h:Build w B v ll vs):∃ a g c,v=.slice a ll.length c∧DoSN B w a g 0 ll:=by
 have hl:=h.len
 rcases h.outer.2 with ⟨hv,hn⟩ | ⟨g,cap,cur,hv,hg,hh,r⟩
 ·have:ll=[]:=List.length_eq_zero_iff.1 hn
  subst this
  exact ⟨none,0,0,hv,⟨fun h=>absurd h (Nat.lt_irrefl _),fun h=>absurd h (Nat.lt_irrefl _),fun i hi=>absurd hi (Nat.not_lt_zero _)⟩⟩
 ·refine ⟨_,g,cap,hv,⟨fun _=>rfl,fun _=>hg,fun i hi=>?_⟩⟩
  have hc:=h.outer.cells (g:=g) (by rw [hv];rfl) i vs[i] (List.getElem?_eq_getElem (by omega))
  rw [Go.WideShapes.add_plain] at hc
  obtain ⟨a',g',c',e,hd,hge,hq⟩:=own_stepsC (h.inner i hi (by omega))
  rw [e] at hc
  exact ⟨a',g',0,c',hc,hd,hge,hq⟩
theorem set_sn {w:World} {B B' g n c:Nat} {v u:Value} {ll:List (List M.D)} {vs:List Value} {L:List M.D} {k:Nat} (hk:k < ll.length) (hB:Build w B' v ll vs) (ho:w.ownsRow B 97 1 (.slice (some ⟨g,0,none⟩) n c) n (vs.set k u)) (hu:w.ownsRow B 94 3 u L.length (flat L)) (hBB:B'≤B):DoSN B' w (some ⟨g,0,none⟩) g 0 (ll.set k L):=by
 have hl:=hB.len
 refine ⟨fun _=>rfl,fun _=>Nat.le_trans hBB (own_ge ho g rfl),fun i hi=>?_⟩
 have hi':i < ll.length:=by simpa using hi
 by_cases e:i=k
 ·subst e
  have hc:=ho.cells (g:=g) rfl i u (by rw [List.getElem?_set_self (by omega)])
  rw [Go.WideShapes.add_plain] at hc
  obtain ⟨a',g',c',e1,hd,hge,hq⟩:=own_stepsC hu
  rw [e1] at hc
  rw [List.getElem_set_self]
  exact ⟨a',g',0,c',hc,hd,fun h=>Nat.le_trans hBB (hge h),hq⟩
 ·have hc:=ho.cells (g:=g) rfl i vs[i] (by rw [List.getElem?_set_ne (fun h=>e h.symm)];exact List.getElem?_eq_getElem (by omega))
  rw [Go.WideShapes.add_plain] at hc
  obtain ⟨a',g',c',e1,hd,hge,hq⟩:=own_stepsC (hB.inner i hi' (by omega))
  rw [e1] at hc
  rw [List.getElem_set_ne (fun h=>e h.symm)]
  exact ⟨a',g',0,c',hc,hd,hge,hq⟩
end
section
open Go.RowKit
theorem nums_cells {w:World} {b o:Nat} {l:List Int} {sa:Option Addr} (h:IntS w sa b o l):∀ (j:Nat) (u:Value),(nums l)[j]?=some u→w.cell? ((⟨b,o,none⟩:Addr).add j)=some u:=by
 intro j u hj
 have hjl:j < l.length:=by
  have:=(List.getElem?_eq_some_iff.1 hj).1
  simpa [nums] using this
 rw [Go.WideShapes.add_plain,h.row j hjl]
 simpa [nums,hjl] using hj
theorem nums_one (l:List Int):∀ u∈nums l,u.oneCell'=true:=by intro u hu;simp [nums] at hu;obtain ⟨_,_,rfl⟩:=hu;rfl
set_option maxHeartbeats 1000000 in
set_option maxRecDepth 100000 in
theorem newListO_any (a:Option Addr) (b o c:Nat) (l:List Int) (w:World) (hl:l.length≤1048576) (h:IntS w a b o l) :
  Calls Tryz.prog 73 #[.slice a l.length c] w fun e w'=>∃ v,e=.returned v∧w'.ownsRow w.heap.size 3 1 v l.length (nums l)∧Below w.heap.size w w':=by
 obtain ⟨i0,hi,hz0,hz1,hz2⟩:=info_parts Tryz.infoInt
 rcases Nat.eq_zero_or_pos l.length with h0 | hpos
 ·have hl0:l=[]:=List.length_eq_zero_iff.1 h0
  subst hl0
  rw [List.length_nil]
  go_enter Tryz.func73,Tryz.ntmps73
  go_wp2_with (at_builtin;refine wpList_append_nilT rfl (.const (.slice none 0 0)) (.tmp 3) 26 rfl 3 i0 Tryz.underlying26 hi rfl a c rfl ?_)
  go_wp2_with fail
  go_ret
  exact ⟨_,rfl,World.ownsRow_nil _ _ _ _,Below.refl _ _⟩
 ·obtain ⟨rfl⟩:=h.addr hpos
  go_enter Tryz.func73,Tryz.ntmps73
  go_wp2_with (at_builtin;refine wpList_append_lies _ rfl (.const (.slice none 0 0)) (.tmp 3) 26 rfl w.heap.size 3 i0 _ 1 8 Tryz.underlying26 hi hz0 hz1 hz2 rfl (by decide) _ 0 [] rfl (World.ownsRow_nil _ _ _ _) ⟨b,o,none⟩ l.length c (nums l) rfl (by simp [nums]) (nums_cells h) (nums_one l) hpos (by unfold maxLen;omega) (by omega) (Nat.le_refl _) w.heap.size rfl ?_)
  intro g cap w1 hown hg hat hlt
  have hb:Below w.heap.size w w1:=⟨hg.os,hg.tape,hg.output,hg.size,fun k hk=>hg.block k hk (fun e=>by simp [Value.ownBlock] at e)⟩
  have hown':w1.ownsRow w.heap.size 3 1 (.slice (some ⟨g,0,none⟩) l.length cap) l.length (nums l):=by simpa using hown
  go_wp2_with fail
  go_ret
  exact ⟨_,by first | rfl | simp,hown',hb⟩
end
section
open Go.RowKit
theorem step_go {P:Program} {ops:Array Oper} {o:Oper} {a:Act} {w:World} {K:Act→World→Prop} {Q:Exit→Act→World→Prop} {E:Prop}
  (hg:o.guard=none) (f:FuncId) (os:Array Operand) (ts:Array TypeId) (hop:o.op=Op.call { callee:=Callee.value (Operand.func f),args:=os,argTypes:=ts })
  (vals:Array Value) (hv:os.map a.eval=vals) (he:∀ args w,(callFunc f args).run P w=.ok (.enter f args) w) {R:Ending→World→Prop} (hc:Calls P f vals w R)
  (hK:∀ e w',R e w'→∃ v,e=.returned v∧K (a.put o.dst v) w') :
  if Region.wanted o (yielded ops a.tmps)=true then Oper.wp P o a w K Q else E:=by
 have hw:Region.wanted o (yielded ops a.tmps)=true:=by simp [Region.wanted,hg]
 rw [if_pos hw]
 subst hv
 have hr:(execOp a.eval o).run P w=.ok (.enter f (os.map a.eval)) w:=by
  simp [execOp,hop,resolve,invoke,Act.eval,Deferred.ofValue,he]
 unfold Oper.wp
 rw [hr,Oper.upon_enter]
 refine hc.mono fun e w' h=>?_
 obtain ⟨v,rfl,hk⟩:=hK e w' h
 exact hk
theorem step_go2 {P:Program} {ops:Array Oper} {o:Oper} {a:Act} {w:World} {K:Act→World→Prop} {Q:Exit→Act→World→Prop} {E:Prop}
  (hg:o.guard=none) (f:FuncId) (x y:Operand) (ts:Array TypeId) (hop:o.op=Op.call { callee:=Callee.value (Operand.func f),args:=#[x,y],argTypes:=ts })
  (vx vy:Value) (hx:a.eval x=vx) (hy:a.eval y=vy) (he:∀ args w,(callFunc f args).run P w=.ok (.enter f args) w) {R:Ending→World→Prop} (hc:Calls P f #[vx,vy] w R)
  (hK:∀ e w',R e w'→∃ v,e=.returned v∧K (a.put o.dst v) w') :
  if Region.wanted o (yielded ops a.tmps)=true then Oper.wp P o a w K Q else E :=
 step_go hg f #[x,y] ts hop #[vx,vy] (by simp [hx,hy]) he hc hK
theorem step_go3 {P:Program} {ops:Array Oper} {o:Oper} {a:Act} {w:World} {K:Act→World→Prop} {Q:Exit→Act→World→Prop} {E:Prop}
  (hg:o.guard=none) (f:FuncId) (x y z:Operand) (ts:Array TypeId) (hop:o.op=Op.call { callee:=Callee.value (Operand.func f),args:=#[x,y,z],argTypes:=ts })
  (vx vy vz:Value) (hx:a.eval x=vx) (hy:a.eval y=vy) (hz:a.eval z=vz) (he:∀ args w,(callFunc f args).run P w=.ok (.enter f args) w) {R:Ending→World→Prop} (hc:Calls P f #[vx,vy,vz] w R)
  (hK:∀ e w',R e w'→∃ v,e=.returned v∧K (a.put o.dst v) w') :
  if Region.wanted o (yielded ops a.tmps)=true then Oper.wp P o a w K Q else E :=
 step_go hg f #[x,y,z] ts hop #[vx,vy,vz] (by simp [hx,hy,hz]) he hc hK
end
section
namespace M
structure Put (ks:List Ky) (k:Ky) (out:List Ky) (done:Bool) (n:Nat):Prop where
 le:n≤ks.length
 no:done=false→out=ks.take n∧putIn ks k=ks.take n++putIn (ks.drop n) k
 yes:done=true→putIn ks k=out++ks.drop n∧∀ y∈ks.drop n,0 < cmpK y k
theorem Put.start (ks:List Ky) (k:Ky):Put ks k [] false 0:=⟨Nat.zero_le _,fun _=>⟨rfl,rfl⟩,fun h=>by cases h⟩
theorem Put.less {ks:List Ky} {k:Ky} {out:List Ky} {n:Nat} (h:Put ks k out false n) (hn:n < ks.length) (hc:cmpK ks[n] k < 0):Put ks k (out++[ks[n]]) false (n+1):=by
 obtain ⟨h1,h2⟩:=h.no rfl
 refine ⟨by omega,fun _=>⟨?_,?_⟩,fun h=>by cases h⟩
 ·rw [h1,List.take_succ_eq_append_getElem hn]
 ·rw [h2,← List.getElem_cons_drop hn,putIn,if_neg (by omega),if_neg (by omega),List.take_succ_eq_append_getElem hn,List.append_assoc]
  rfl
theorem Put.more {ks:List Ky} {k:Ky} {out:List Ky} {n:Nat} (ha:Asc ks) (h:Put ks k out false n) (hn:n < ks.length) (hc:0 < cmpK ks[n] k):Put ks k (out++[k]++[ks[n]]) true (n+1):=by
 obtain ⟨h1,h2⟩:=h.no rfl
 refine ⟨by omega,fun h=>(by cases h),fun _=>⟨?_,fun y hy=>?_⟩⟩
 ·rw [h2,h1,← List.getElem_cons_drop hn,putIn,if_neg (by omega),if_pos hc]
  simp
 ·have hd:Asc (ks.drop n):=List.Pairwise.sublist (List.drop_sublist n ks) ha
  rw [← List.getElem_cons_drop hn] at hd
  have h3:=(List.pairwise_cons.1 hd).1 y hy
  have h4:cmpK k ks[n] < 0:=by have:=cmpK_neg ks[n] k;omega
  have h5:=cmpK_trans h4 h3
  have:=cmpK_neg k y
  omega
theorem Put.on {ks:List Ky} {k:Ky} {out:List Ky} {n:Nat} (h:Put ks k out true n) (hn:n < ks.length):Put ks k (out++[ks[n]]) true (n+1):=by
 obtain ⟨h1,h2⟩:=h.yes rfl
 refine ⟨by omega,fun h=>(by cases h),fun _=>⟨?_,fun y hy=>?_⟩⟩
 ·rw [h1,← List.getElem_cons_drop hn];simp
 ·exact h2 y (by rw [← List.getElem_cons_drop hn];exact List.mem_cons_of_mem _ hy)
theorem Put.ne {ks:List Ky} {k:Ky} {out:List Ky} {n:Nat} (h:Put ks k out true n) (hn:n < ks.length):0 < cmpK ks[n] k :=
 (h.yes rfl).2 _ (by rw [← List.getElem_cons_drop hn];exact List.mem_cons_self ..)
theorem Put.there {ks:List Ky} {k:Ky} {out:List Ky} {n:Nat} (h:Put ks k out false n) (hn:n < ks.length) (hc:cmpK ks[n] k=0):putIn ks k=ks:=by
 rw [(h.no rfl).2,← List.getElem_cons_drop hn,putIn,if_pos hc,List.getElem_cons_drop hn,List.take_append_drop]
theorem Put.fin {ks:List Ky} {k:Ky} {out:List Ky} {n:Nat} (h:Put ks k out true n) (hn:ks.length≤n):out=putIn ks k:=by
 rw [(h.yes rfl).1,List.drop_eq_nil_of_le hn,List.append_nil]
theorem Put.last {ks:List Ky} {k:Ky} {out:List Ky} {n:Nat} (h:Put ks k out false n) (hn:ks.length≤n):out++[k]=putIn ks k:=by
 obtain ⟨h1,h2⟩:=h.no rfl
 rw [h2,h1,List.drop_eq_nil_of_le hn];rfl
end M
end
section
open Go.RowKit
structure SL (w:World) (g:Nat) (ss:List Sn):Prop where
 sr:SR w g ss
 at_:∀ s∈ss,s.At w∧s.Le 1048576
theorem SL.below {w w':World} {g:Nat} {ss:List Sn} (h:SL w g ss) (hb:Below w.heap.size w w') (hl:g < w.heap.size):SL w' g ss :=
 ⟨h.sr.below hb hl,fun s hs=>⟨(h.at_ s hs).1.below hb (Nat.le_refl _),(h.at_ s hs).2⟩⟩
structure OwnS (w W:World) (g cap:Nat) (tt:List Sn) (s:Sn):Prop where
 own:W.ownsRow (w.heap.size+1) 45 2 (.slice (some ⟨g,0,none⟩) tt.length cap) tt.length (flatS tt)
 ge:w.heap.size+1≤g
 lt:g < W.heap.size
 box:Slot2 W w.heap.size (.slice s.a1 s.l1.length s.c1) (.slice s.a2 s.l2.length s.c2)
 bel:Below w.heap.size w W
theorem OwnS.below {w W W':World} {g cap:Nat} {tt:List Sn} {s:Sn} (h:OwnS w W g cap tt s) (hb:Below W.heap.size W W'):OwnS w W' g cap tt s :=
 ⟨ownsRow_below h.own hb,h.ge,Nat.lt_of_lt_of_le h.lt hb.size,h.box.of (hb.block _ h.box.lt),h.bel.trans (hb.mono h.bel.size)⟩
theorem OwnS.snoc {w W W':World} {g cap g' cap':Nat} {tt:List Sn} {s e:Sn} {o:Obj} (h:OwnS w W g cap tt s)
  (ho:W'.ownsRow (w.heap.size+1) 45 2 (.slice (some ⟨g',0,none⟩) (tt.length+1) cap') (tt.length+1) (flatS tt++[.slice e.a1 e.l1.length e.c1,.slice e.a2 e.l2.length e.c2])) (hg:(W.alloc o).grownBy W' (some g)) (hlt:g' < W'.heap.size):OwnS w W' g' cap' (tt++[e]) s:=by
 have hb:=h.bel.size
 have hge:=h.ge
 have hbl:=h.box.lt
 refine ⟨by rw [List.length_append,flatS_append];exact ho,own_ge ho g' rfl,hlt,h.box.of ?_,below_grown (h.bel.alloc hb o) hg (fun k hk=>by simp at hk;omega) (by simp;omega)⟩
 rw [hg.block w.heap.size (by simp;omega) (fun e=>by simp at e;omega)]
 exact alloc_old _ _ _ hbl
theorem OwnS.sl {w W:World} {g cap:Nat} {tt ss:List Sn} {s:Sn} (h:OwnS w W g cap tt s) (hss:∀ x∈ss,x.At w∧x.Le 1048576) (hsa:s.At w∧s.Le 1048576) (hin:∀ t∈tt,t∈ss∨t=s):SL W g tt :=
 ⟨⟨fun i hi=>by
  obtain ⟨f1,f2⟩:=flatS_get tt i hi
  have e1:=h.own.cells (g:=g) rfl _ _ f1
  have e2:=h.own.cells (g:=g) rfl _ _ f2
  rw [Go.WideShapes.add_plain,Nat.zero_add] at e1 e2
  exact ⟨e1,e2⟩,fun j=>own_fzS h.own j⟩,fun t ht=>by
  rcases hin t ht with hx | rfl
  ·exact ⟨(hss t hx).1.below h.bel (Nat.le_refl _),(hss t hx).2⟩
  ·exact ⟨hsa.1.below h.bel (Nat.le_refl _),hsa.2⟩⟩
set_option maxHeartbeats 4000000 in
set_option maxRecDepth 100000 in
theorem l2Put_any (g cap:Nat) (ss:List Sn) (s:Sn) (w:World) (hl:ss.length≤1048575) (h:SL w g ss) (hg:g < w.heap.size) (hsa:s.At w) (hsl:s.Le 1048576) (hasc:M.Asc (kys ss)) (hcap:ss.length≤cap) :
  Calls Tryz.prog 178 #[.slice (some ⟨g,0,none⟩) ss.length cap,.agg #[.slice s.a1 s.l1.length s.c1,.slice s.a2 s.l2.length s.c2]] w fun e w'=>∃ g' cap',∃ tt:List Sn,e=.returned (.slice (some ⟨g',0,none⟩) tt.length cap')∧kys tt=M.putIn (kys ss) s.ky∧SL w' g' tt∧g' < w'.heap.size∧tt.length≤ss.length+1∧tt.length≤cap'∧(∀ t∈tt,t∈ss∨t=s)∧(g'=g∨w.heap.size≤g')∧Below w.heap.size w w':=by
 obtain ⟨i0,hi,hz0,hz1,hz2⟩:=info_parts Tryz.infoSeen
 go_enter Tryz.func178,Tryz.ntmps178
 go_wp2_with fail
 have hb2:=below2 w (.cells #[.slice s.a1 s.l1.length s.c1,.slice s.a2 s.l2.length s.c2] 45) (.cells #[] 45)
 have hbx0:Slot2 ((w.alloc (.cells #[.slice s.a1 s.l1.length s.c1,.slice s.a2 s.l2.length s.c2] 45)).alloc (.cells #[] 45)) w.heap.size (.slice s.a1 s.l1.length s.c1) (.slice s.a2 s.l2.length s.c2):=⟨by rw [alloc_old _ _ _ (by simp only [World.size_alloc];omega)];exact alloc_new _ _ _ rfl⟩
 have hown0:((w.alloc (.cells #[.slice s.a1 s.l1.length s.c1,.slice s.a2 s.l2.length s.c2] 45)).alloc (.cells #[] 45)).ownsRow (w.heap.size+1) 45 2 (.slice (some ⟨w.heap.size+1,0,none⟩) 0 0) 0 (flatS []):=by
  have:=World.ownsRow_made (base:=w.heap.size+1) (e:=45) (size:=2) (w.alloc (.cells #[.slice s.a1 s.l1.length s.c1,.slice s.a2 s.l2.length s.c2] 45)) #[] 0 (by simp) (Nat.zero_le _) rfl
  simp only [World.size_alloc] at this
  exact this
 have hsz0:w.heap.size+1 < ((w.alloc (.cells #[.slice s.a1 s.l1.length s.c1,.slice s.a2 s.l2.length s.c2] 45)).alloc (.cells #[] 45)).heap.size:=by simp
 generalize (w.alloc (.cells #[.slice s.a1 s.l1.length s.c1,.slice s.a2 s.l2.length s.c2] 45)).alloc (.cells #[] 45)=W0 at *
 go_loopw [5,6,7] (fun s5 s6 s7 wr=>∃ (n:Nat) (done:Bool) (tt:List Sn) (g5 cap5:Nat),s5=.slice (some ⟨g5,0,none⟩) tt.length cap5∧s6=.bool done∧s7=.int .i64 n∧n≤ss.length∧tt.length≤n+1∧Hid (done=false→tt.length=n)∧Hid (M.Put (kys ss) s.ky (kys tt) done n)∧Hid (∀ t∈tt,t∈ss∨t=s)∧OwnS w wr g5 cap5 tt s) (fun _ _ s7 _=>ss.length - (intOf s7).toNat)
 case atStart=>exact ⟨0,false,[],w.heap.size+1,0,rfl,rfl,rfl,Nat.zero_le _,by simp,fun _=>rfl,M.Put.start _ _,fun t ht=>absurd ht (by simp),⟨hown0,Nat.le_refl _,hsz0,hbx0,hb2⟩⟩
 case round =>
  obtain ⟨n,done,tt,g5,cap5,rfl,rfl,rfl,hn,htl,Hd,HP,Hin,os⟩:=hrel
  clear hown0 hbx0 hb2 hsz0
  have hb:=os.bel
  have q0:=os.box.c0
  have q1:=os.box.c1
  have hL:=h.below hb hg
  have hgr:g < wr.heap.size:=Nat.lt_of_lt_of_le hg hb.size
  have hsr:=hsa.below hb (Nat.le_refl _)
  by_cases hlt:n < ss.length
  ·have i1:(n:Int) < ss.length:=by omega
   obtain ⟨c1,c2⟩:=hL.sr.c n hlt
   obtain ⟨ta,tl⟩:=hL.at_ _ (List.getElem_mem hlt)
   obtain ⟨t,ht⟩:∃ t,ss[n]=t:=⟨_,rfl⟩
   have HT:Hid (ss[n]=t):=ht
   rw [ht] at c1 c2 ta tl
   clear ht
   have HK:Hid ((kys ss)[n]'(by rw [kys_len];exact hlt)=t.ky):=by
    show (kys ss)[n]'(by rw [kys_len];exact hlt)=t.ky
    rw [kys_get ss hlt,HT.out]
   have C:=fun p:BelowOf wr=>calls_bel (l2Seen_any t s p.x tl hsl (ta.below p.h (Nat.le_refl _)) (hsr.below p.h (Nat.le_refl _)))
   obtain ⟨r,hr⟩:∃ r,M.cmpS t.l1 t.l2 s.l1 s.l2=r:=⟨_,rfl⟩
   rw [hr] at C
   have HR:Hid (M.cmpK t.ky s.ky=r):=hr
   clear hr
   have K1:=BelowOf.cell c1
   have K2:=BelowOf.cell c2
   have K3:=BelowOf.cell q0
   have K4:=BelowOf.cell q1
   go_wp2_with fail
   haveI:Inhabited (BelowOf wr):=⟨belOf wr⟩
   refine wp_region_quiet_bel (by kernel_rfl) (by kernel_rfl) ?_
   repeat (quiet_step (first | (go_at_call 53;exact Calls.bel_of (C _))))
   refine wpQuiet_nil ?_
   rintro wq ⟨⟨wx,hwq⟩,ew⟩
   change wq=wx at ew
   subst ew
   have osq:=os.below hwq
   have e1:wq.cell? ⟨g,n * 2,none⟩=some (.slice t.a1 t.l1.length t.c1):=K1 ⟨wq,hwq⟩
   have e2:wq.cell? ⟨g,n * 2+1,none⟩=some (.slice t.a2 t.l2.length t.c2):=K2 ⟨wq,hwq⟩
   have f1:=osq.box.c0
   have f2:=osq.box.c1
   have hgq:g < wq.heap.size:=Nat.lt_of_lt_of_le hgr hwq.size
   have fl:=osq.box.lt
   have hkl:n < (kys ss).length:=by rw [kys_len];exact hlt
   have tin:t∈ss:=by rw [← HT.out];exact List.getElem_mem hlt
   have hcm:M.cmpK ((kys ss)[n]'hkl) s.ky=r:=by rw [HK.out];exact HR.out
   have HC:Hid (M.cmpK ((kys ss)[n]'hkl) s.ky=r):=hcm
   clear hcm C K1 K2 K3 K4 q0 q1 os
   cases done
   ·have htn:=Hd.out rfl
    have HTN:Hid (tt.length=n):=htn
    clear htn
    rcases Int.lt_trichotomy r 0 with hr | hr | hr
    ·have hr0:(r==0)=false:=by simp;omega
     have hr1:¬ 0 < r:=by omega
     go_wp2_with (at_builtin;refine wpList_append_lies _ rfl (.tmp 35) (.tmp 40) 54 rfl (w.heap.size+1) 45 i0 _ 2 48 Tryz.underlying54 hi hz0 hz1 hz2 rfl (by decide) _ _ _ rfl (osq.own.alloc _) ⟨wq.heap.size,0,none⟩ 1 1 [.slice t.a1 t.l1.length t.c1,.slice t.a2 t.l2.length t.c2] rfl rfl (World.news_of_block (cs:=#[.slice t.a1 t.l1.length t.c1,.slice t.a2 t.l2.length t.c2]) (t:=45) (fr:=(0,0)) (heap_alloc_new wq _)) (by simp [Value.oneCell']) (by omega) (by unfold maxLen;omega) (by omega) (by simp;have:=osq.bel.size;have:=osq.lt;have:=osq.ge;omega) (wq.heap.size+1) (by simp) ?_)
     intro g6 cap6 w6 hown6 hg6 hat6 hlt6
     have os6:=osq.snoc hown6 hg6 hlt6
     clear hown6 hg6 hat6 hlt6
     go_wp2_with fail
     exact ⟨⟨n+1,false,tt++[t],g6,cap6,by simp,rfl,by go_num,by omega,by simp;omega,fun _=>by simp [HTN.out],by
      show M.Put _ _ _ _ _
      have:=HP.out.less hkl (by rw [HC.out];exact hr)
      rw [HK.out] at this
      simpa [kys] using this,fun x hx=>by
      rcases List.mem_append.1 hx with hx | hx
      ·exact Hin.out x hx
      ·simp at hx;subst hx;exact Or.inl tin,os6⟩,by simp [intOf];omega⟩
    ·subst hr
     go_wp2_with fail
     go_ret
     have:=HP.out.there hkl HC.out
     exact ⟨g,cap,ss,rfl,this.symm,hL.below hwq hgr,hgq,by omega,hcap,fun t ht=>Or.inl ht,Or.inl rfl,osq.bel⟩
    ·have hr0:(r==0)=false:=by simp;omega
     go_wp2_with (at_builtin;refine wpList_append_lies _ rfl (.tmp 31) (.tmp 33) 54 rfl (w.heap.size+1) 45 i0 _ 2 48 Tryz.underlying54 hi hz0 hz1 hz2 rfl (by decide) _ _ _ rfl (osq.own.alloc _) ⟨wq.heap.size,0,none⟩ 1 1 [.slice s.a1 s.l1.length s.c1,.slice s.a2 s.l2.length s.c2] rfl rfl (World.news_of_block (cs:=#[.slice s.a1 s.l1.length s.c1,.slice s.a2 s.l2.length s.c2]) (t:=45) (fr:=(0,0)) (heap_alloc_new wq _)) (by simp [Value.oneCell']) (by omega) (by unfold maxLen;omega) (by omega) (by simp;have:=osq.bel.size;have:=osq.lt;have:=osq.ge;omega) (wq.heap.size+1) (by simp) ?_)
     intro g6 cap6 w6 hown6 hg6 hat6 hlt6
     have os6:=osq.snoc hown6 hg6 hlt6
     clear hown6 hg6 hat6 hlt6
     have e3:w6.cell? ⟨g,n * 2,none⟩=some (.slice t.a1 t.l1.length t.c1):=((h.below os6.bel hg).sr.c n hlt).1.trans (by rw [HT.out])
     have e4:w6.cell? ⟨g,n * 2+1,none⟩=some (.slice t.a2 t.l2.length t.c2):=((h.below os6.bel hg).sr.c n hlt).2.trans (by rw [HT.out])
     obtain ⟨t2,ht2⟩:∃ t2,tt++[s]=t2:=⟨_,rfl⟩
     have ht2l:tt.length+1=t2.length:=by rw [← ht2];simp
     rw [ht2l]
     rw [ht2] at os6
     have HT2:Hid (tt++[s]=t2):=ht2
     have ht2b:t2.length≤n+1:=by rw [← ht2l,HTN.out];omega
     have hg6l:g < w6.heap.size:=World.block_lt_of_cell? _ _ e3
     clear ht2 ht2l
     go_wp2_with (at_builtin;refine wpList_append_lies _ rfl (.tmp 35) (.tmp 40) 54 rfl (w.heap.size+1) 45 i0 _ 2 48 Tryz.underlying54 hi hz0 hz1 hz2 rfl (by decide) _ _ _ rfl (os6.own.alloc _) ⟨w6.heap.size,0,none⟩ 1 1 [.slice t.a1 t.l1.length t.c1,.slice t.a2 t.l2.length t.c2] rfl rfl (World.news_of_block (cs:=#[.slice t.a1 t.l1.length t.c1,.slice t.a2 t.l2.length t.c2]) (t:=45) (fr:=(0,0)) (heap_alloc_new w6 _)) (by simp [Value.oneCell']) (by omega) (by unfold maxLen;omega) (by omega) (by simp;have:=os6.bel.size;have:=os6.lt;have:=os6.ge;omega) (w6.heap.size+1) (by simp) ?_)
     intro g7 cap7 w7 hown6 hg6 hat6 hlt6
     have os7:=os6.snoc hown6 hg6 hlt6
     clear hown6 hg6 hat6 hlt6
     go_wp2_with fail
     exact ⟨⟨n+1,true,t2++[t],g7,cap7,by simp,rfl,by go_num,by omega,by simp;omega,fun h=>(by cases h),by
      show M.Put _ _ _ _ _
      have:=HP.out.more hasc hkl (by rw [HC.out];exact hr)
      rw [HK.out] at this
      rw [← HT2.out]
      simpa [kys] using this,fun x hx=>by
      rcases List.mem_append.1 hx with hx | hx
      ·rw [← HT2.out] at hx
       rcases List.mem_append.1 hx with hx | hx
       ·exact Hin.out x hx
       ·simp at hx;exact Or.inr hx
      ·simp at hx;subst hx;exact Or.inl tin,os7⟩,by simp [intOf];omega⟩
   ·have hrp:0 < r:=by rw [← HC.out];exact HP.out.ne hkl
    have hr0:(r==0)=false:=by simp;omega
    go_wp2_with (at_builtin;refine wpList_append_lies _ rfl (.tmp 35) (.tmp 40) 54 rfl (w.heap.size+1) 45 i0 _ 2 48 Tryz.underlying54 hi hz0 hz1 hz2 rfl (by decide) _ _ _ rfl (osq.own.alloc _) ⟨wq.heap.size,0,none⟩ 1 1 [.slice t.a1 t.l1.length t.c1,.slice t.a2 t.l2.length t.c2] rfl rfl (World.news_of_block (cs:=#[.slice t.a1 t.l1.length t.c1,.slice t.a2 t.l2.length t.c2]) (t:=45) (fr:=(0,0)) (heap_alloc_new wq _)) (by simp [Value.oneCell']) (by omega) (by unfold maxLen;omega) (by omega) (by simp;have:=osq.bel.size;have:=osq.lt;have:=osq.ge;omega) (wq.heap.size+1) (by simp) ?_)
    intro g6 cap6 w6 hown6 hg6 hat6 hlt6
    have os6:=osq.snoc hown6 hg6 hlt6
    clear hown6 hg6 hat6 hlt6
    go_wp2_with fail
    exact ⟨⟨n+1,true,tt++[t],g6,cap6,by simp,rfl,by go_num,by omega,by simp;omega,fun h=>(by cases h),by
     show M.Put _ _ _ _ _
     have:=HP.out.on hkl
     rw [HK.out] at this
     simpa [kys] using this,fun x hx=>by
     rcases List.mem_append.1 hx with hx | hx
     ·exact Hin.out x hx
     ·simp at hx;subst hx;exact Or.inl tin,os6⟩,by simp [intOf];omega⟩
  ·have hke:(kys ss).length≤n:=by rw [kys_len];omega
   have fl:=os.box.lt
   cases done
   ·have HTN:Hid (tt.length=n):=Hd.out rfl
    have htn2:tt.length≤ss.length:=by rw [HTN.out];exact hn
    go_wp2_with (at_builtin;refine wpList_append_lies _ rfl (.tmp 44) (.tmp 46) 54 rfl (w.heap.size+1) 45 i0 _ 2 48 Tryz.underlying54 hi hz0 hz1 hz2 rfl (by decide) _ _ _ rfl (os.own.alloc _) ⟨wr.heap.size,0,none⟩ 1 1 [.slice s.a1 s.l1.length s.c1,.slice s.a2 s.l2.length s.c2] rfl rfl (World.news_of_block (cs:=#[.slice s.a1 s.l1.length s.c1,.slice s.a2 s.l2.length s.c2]) (t:=45) (fr:=(0,0)) (heap_alloc_new wr _)) (by simp [Value.oneCell']) (by omega) (by unfold maxLen;omega) (by omega) (by simp;have:=os.bel.size;have:=os.lt;have:=os.ge;omega) (wr.heap.size+1) (by simp) ?_)
    intro g6 cap6 w6 hown6 hg6 hat6 hlt6
    have os6:=os.snoc hown6 hg6 hlt6
    clear hown6 hg6 hat6 hlt6
    go_wp2_with fail
    go_ret
    refine ⟨g6,cap6,tt++[s],by simp,?_,os6.sl (fun x hx=>h.at_ x hx) ⟨hsa,hsl⟩ (fun x hx=>?_),os6.lt,by simp;omega,own_capP os6.own,fun x hx=>?_,Or.inr (by have:=os6.ge;omega),os6.bel⟩
    ·rw [← HP.out.last hke];simp [kys]
    ·rcases List.mem_append.1 hx with hx | hx
     ·exact Hin.out x hx
     ·simp at hx;exact Or.inr hx
    ·rcases List.mem_append.1 hx with hx | hx
     ·exact Hin.out x hx
     ·simp at hx;exact Or.inr hx
   ·go_wp2_with fail
    go_ret
    exact ⟨g5,cap5,tt,rfl,HP.out.fin hke,os.sl (fun x hx=>h.at_ x hx) ⟨hsa,hsl⟩ Hin.out,os.lt,by omega,own_capP os.own,Hin.out,Or.inr (by have:=os.ge;omega),os.bel⟩
end
section
open Go.RowKit
theorem SL.ks {w:World} {g:Nat} {ss:List Sn} (h:SL w g ss):KS w (some ⟨g,0,none⟩) g 0 (kys ss):=by
 refine ⟨fun _=>rfl,fun i hi=>?_⟩
 have hi':i < ss.length:=by simpa [kys] using hi
 obtain ⟨c1,c2⟩:=h.sr.c i hi'
 exact ⟨ss[i],by simp [kys,Sn.ky],by simp [kys,Sn.ky],by rw [Nat.zero_add];exact c1,by rw [Nat.zero_add];exact c2,(h.at_ _ (List.getElem_mem hi')).1⟩
end
end Go.Proofs.YtmhpgdliaclokaaGreat
