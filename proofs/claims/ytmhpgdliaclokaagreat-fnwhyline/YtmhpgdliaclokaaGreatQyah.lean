/- A program in memory whose blocks all lie beyond a bound. No condition. And what goes with it: DoSN, TnB0, TnBase, Wide, TnGo, NlO, MathN, ApRow, TnMath, TnT, OpenBy. -/
import Derived.Deep.WholeRow
import Derived.OpenShut
import Derived.ProofKit
import Derived.Test.YtmhpgdliaclokaaGreatRows
import Derived.Test.YtmhpgdliaclokaaGreatQyag
namespace Go.Proofs.YtmhpgdliaclokaaGreat
section
open Go.RowKit
theorem DoS.far {w:World} {a:Option Addr} {b o B i:Nat} {l:List M.D} {u:Value} (h:DoS w a b o l) (hb:0 < l.length→b≠B):DoS (w.setCell ⟨B,i,none⟩ u) a b o l:=by
 refine ⟨h.addr,fun j hj=>?_⟩
 have hne:=hb (by omega)
 have hr:=h.row j hj
 exact ⟨(World.cell?_setCell_other _ _ _ _ (fun e=>hne (congrArg Addr.block e).symm)).trans hr.k,(World.cell?_setCell_other _ _ _ _ (fun e=>hne (congrArg Addr.block e).symm)).trans hr.p,(World.cell?_setCell_other _ _ _ _ (fun e=>hne (congrArg Addr.block e).symm)).trans hr.v⟩
theorem DoS.but {w w':World} {a:Option Addr} {rb b o:Nat} {l:List M.D} (h:DoS w a b o l) (hb:But rb w w') (hne:0 < l.length→b≠rb):DoS w' a b o l:=by
 refine ⟨h.addr,fun j hj=>?_⟩
 have hn:=hne (by omega)
 have hr:=h.row j hj
 have hl:=hr.lt
 exact ⟨(hb.cell (p:=⟨b,o+j * 3,none⟩) hl hn).trans hr.k,(hb.cell (p:=⟨b,o+j * 3+1,none⟩) hl hn).trans hr.p,(hb.cell (p:=⟨b,o+j * 3+2,none⟩) hl hn).trans hr.v⟩
theorem own_capS {w:World} {base n cap:Nat} {a:Option Addr} {e:TypeId} {size:Nat} {xs:List Value} (h:w.ownsRow base e size (.slice a n cap) n xs):n≤cap:=by
 rcases h.2 with ⟨hv,_⟩ | ⟨g',cap',cur,hv,_,_,hc,_⟩
 ·simp at hv;omega
 ·simp at hv
  obtain ⟨_,rfl⟩:=hv
  exact hc
theorem own_stepsC {w:World} {base:Nat} {v:Value} {l:List M.D} (h:w.ownsRow base 94 3 v l.length (flat l)):∃ a g c,v=.slice a l.length c∧DoS w a g 0 l∧(0 < l.length→base≤g)∧l.length≤c:=by
 obtain ⟨a,g,c,rfl,hd,hg⟩:=own_steps h
 exact ⟨a,g,c,rfl,hd,hg,own_capS h⟩
structure DoSN (N:Nat) (w:World) (a:Option Addr) (b o:Nat) (ll:List (List M.D)):Prop where
 addr:0 < ll.length→a=some ⟨b,o,none⟩
 ge:0 < ll.length→N≤b
 row:∀ i (h:i < ll.length),∃ a' b' o' c',w.cell? ⟨b,o+i,none⟩=some (.slice a' ll[i].length c')∧DoS w a' b' o' ll[i]∧(0 < ll[i].length→N≤b')∧ll[i].length≤c'
theorem DoSN.ss {N:Nat} {w:World} {a:Option Addr} {b o:Nat} {ll:List (List M.D)} (h:DoSN N w a b o ll):DoSS w a b o ll :=
 ⟨h.addr,fun i hi=>by obtain ⟨a',b',o',c',hc,hd,_,_⟩:=h.row i hi;exact ⟨a',b',o',c',hc,hd⟩⟩
theorem DoSN.far {N:Nat} {w:World} {a:Option Addr} {b o B i:Nat} {ll:List (List M.D)} {u:Value} (h:DoSN N w a b o ll) (hB:B < N):DoSN N (w.setCell ⟨B,i,none⟩ u) a b o ll:=by
 refine ⟨h.addr,h.ge,fun j hj=>?_⟩
 obtain ⟨a',b',o',c',hc,hd,hg,hq⟩:=h.row j hj
 have:=h.ge (by omega)
 exact ⟨a',b',o',c',(World.cell?_setCell_other _ _ _ _ (fun e=>by have:=congrArg Addr.block e;simp at this;omega)).trans hc,hd.far (fun hl=>by have:=hg hl;omega),hg,hq⟩
theorem DoSN.but {N:Nat} {w w':World} {a:Option Addr} {rb b o:Nat} {ll:List (List M.D)} (h:DoSN N w a b o ll) (hb:But rb w w') (hr:rb < N):DoSN N w' a b o ll:=by
 refine ⟨h.addr,h.ge,fun j hj=>?_⟩
 obtain ⟨a',b',o',c',hc,hd,hg,hq⟩:=h.row j hj
 have:=h.ge (by omega)
 exact ⟨a',b',o',c',(hb.cell (p:=⟨b,o+j,none⟩) (World.block_lt_of_cell? _ _ hc) (by show b≠rb;omega)).trans hc,hd.but hb (fun hl=>by have:=hg hl;omega),hg,hq⟩
theorem DoSN.mono {N N':Nat} {w:World} {a:Option Addr} {b o:Nat} {ll:List (List M.D)} (h:DoSN N w a b o ll) (hN:N'≤N):DoSN N' w a b o ll :=
 ⟨h.addr,fun hl=>Nat.le_trans hN (h.ge hl),fun i hi=>by obtain ⟨a',b',o',c',hc,hd,hg,hq⟩:=h.row i hi;exact ⟨a',b',o',c',hc,hd,fun hl=>Nat.le_trans hN (hg hl),hq⟩⟩
theorem own_capR {w:World} {base g n cap:Nat} {e:TypeId} {size:Nat} {xs:List Value} (h:w.ownsRow base e size (.slice (some ⟨g,0,none⟩) n cap) n xs):n≤cap:=by
 rcases h.2 with ⟨hv,_⟩ | ⟨g',cap',cur,hv,_,_,hc,_⟩
 ·simp at hv
 ·simp at hv
  obtain ⟨_,rfl⟩:=hv
  exact hc
theorem Build.cap {w:World} {B n c:Nat} {a:Option Addr} {ll:List (List M.D)} {vs:List Value} (h:Build w B (.slice a n c) ll vs):ll.length≤c:=by
 rcases h.outer.2 with ⟨hv,hn⟩ | ⟨g',cap',cur,hv,_,_,hc,_⟩
 ·omega
 ·simp at hv
  obtain ⟨_,_,rfl⟩:=hv
  exact hc
theorem Build.sn {w:World} {B:Nat} {v:Value} {ll:List (List M.D)} {vs:List Value} (h:Build w B v ll vs):∃ a g c,v=.slice a ll.length c∧DoSN B w a g 0 ll:=by
 have hl:=h.len
 rcases h.outer.2 with ⟨hv,hn⟩ | ⟨g,cap,cur,hv,hg,hh,r⟩
 ·have:ll=[]:=List.length_eq_zero_iff.1 hn
  subst this
  exact ⟨none,0,0,hv,⟨fun h=>absurd h (Nat.lt_irrefl _),fun h=>absurd h (Nat.lt_irrefl _),fun i hi=>absurd hi (Nat.not_lt_zero _)⟩⟩
 ·refine ⟨_,g,cap,hv,⟨fun _=>rfl,fun _=>hg,fun i hi=>?_⟩⟩
  have hc:=h.outer.cells (g:=g) (by rw [hv];rfl) i vs[i] (List.getElem?_eq_getElem (by omega))
  rw [Go.WideShapes.add_plain] at hc
  obtain ⟨a',g',c',e,hd,hge,hq⟩:=own_stepsC (h.inner i hi (by omega))
  rw [e] at hc
  exact ⟨a',g',0,c',hc,hd,hge,hq⟩
theorem set_sn {w:World} {B B' g n c:Nat} {v u:Value} {ll:List (List M.D)} {vs:List Value} {L:List M.D} {k:Nat} (hk:k < ll.length) (hB:Build w B' v ll vs) (ho:w.ownsRow B 97 1 (.slice (some ⟨g,0,none⟩) n c) n (vs.set k u)) (hu:w.ownsRow B 94 3 u L.length (flat L)) (hBB:B'≤B):DoSN B' w (some ⟨g,0,none⟩) g 0 (ll.set k L):=by
 have hl:=hB.len
 refine ⟨fun _=>rfl,fun _=>Nat.le_trans hBB (own_ge ho g rfl),fun i hi=>?_⟩
 have hi':i < ll.length:=by simpa using hi
 by_cases e:i=k
 ·subst e
  have hc:=ho.cells (g:=g) rfl i u (by rw [List.getElem?_set_self (by omega)])
  rw [Go.WideShapes.add_plain] at hc
  obtain ⟨a',g',c',e1,hd,hge,hq⟩:=own_stepsC hu
  rw [e1] at hc
  rw [List.getElem_set_self]
  exact ⟨a',g',0,c',hc,hd,fun h=>Nat.le_trans hBB (hge h),hq⟩
 ·have hc:=ho.cells (g:=g) rfl i vs[i] (by rw [List.getElem?_set_ne (fun h=>e h.symm)];exact List.getElem?_eq_getElem (by omega))
  rw [Go.WideShapes.add_plain] at hc
  obtain ⟨a',g',c',e1,hd,hge,hq⟩:=own_stepsC (hB.inner i hi' (by omega))
  rw [e1] at hc
  rw [List.getElem_set_ne (fun h=>e h.symm)]
  exact ⟨a',g',0,c',hc,hd,hge,hq⟩
end
section
open Go.RowKit
theorem nums_snoc (l:List Int) (x:Int):nums (l++[x])=nums l++[.int .i64 x]:=by simp [nums]
theorem cells_new1 (w:World) (x:Value) (t:TypeId) (N:Nat) (hN:N=w.heap.size):∀ (j:Nat) (u:Value),[x][j]?=some u→(w.alloc (.cells #[x] t)).cell? ((⟨N,0,none⟩:Addr).add j)=some u:=by
 subst hN
 intro j u hj
 match j,hj with
 | 0,hj=>simp at hj;subst hj;simp [Addr.add]
theorem one1 (x:Int):∀ u∈[Value.int .i64 x],u.oneCell'=true:=by intro u hu;simp at hu;subst hu;rfl
end
section
open Go.RowKit
theorem Slot1.bl' {w w':World} {b:Nat} {x:Value} (h:Slot1 w b x) (hb:Below w.heap.size w w'):Slot1 w' b x :=
 ⟨(hb.cell (p:=⟨b,0,none⟩) h.lt).trans h.c,(hb.frozen (p:=⟨b,0,none⟩) h.lt).trans h.fz⟩
end
section
open Go.RowKit
theorem takeD {P:Program} {md:Region.Mode} {ops:Array Oper} {Q:Exit→Act→World→Prop} {S:World→Prop} (i:Nat) {oi:Oper} (d:Option Tmp) (v:Value) {fuel:Nat} {listed:Array Bool} {a:Act} {w:World} (hS:S w) (hi:ops[i]?=some oi) (hd:oi.dst=d)
  (hs:Region.noSelect ops=true) (hf:Region.free md ops listed i=true) (hr:(Region.ready md ops listed).contains i=true)
  (hQ:∀ c a w,Q (.panic c) (a.put d v) w→Q (.panic c) a w) (hy:YieldsIf P ops S oi v a)
  (h:wpAnyH P md ops Q S fuel (listed.setIfInBounds i true) (a.put d v) w):wpAnyH P md ops Q S (fuel+1) listed a w:=by
 subst hd
 exact wpAnyH_take hi hs hf hr hQ hy hS h
theorem tk {P:Program} {md:Region.Mode} {ops:Array Oper} {Q:Exit→Act→World→Prop} {S:World→Prop} (i:Nat) {oi:Oper} (t:Nat) (v:Value) {fuel:Nat} {listed:Array Bool} {a:Act} {w:World} (hS:S w) (hi:ops[i]?=some oi) (hd:oi.dst=some t)
    (hy:∀ w,S w→(execOp a.eval oi).run P w=.ok (.value v) w) (h:wpAnyH P md ops Q S fuel (listed.setIfInBounds i true) (a.put (some t) v) w)
    (hs:Region.noSelect ops=true:=by kernel_rfl) (hf:Region.free md ops listed i=true:=by kernel_rfl) (hr:(Region.ready md ops listed).contains i=true:=by kernel_rfl) (hg:Region.wanted oi (yielded ops a.tmps)=true:=by rfl)
    (hQ:∀ c a w,Q (.panic c) (a.put (some t) v) w→Q (.panic c) a w:=by exact fun _ _ _ h=>h):wpAnyH P md ops Q S (fuel+1) listed a w:=takeD i (some t) v hS hi hd hs hf hr hQ (Or.inl ⟨hg,hy⟩) h
theorem tz {P:Program} {md:Region.Mode} {ops:Array Oper} {Q:Exit→Act→World→Prop} {S:World→Prop} (i:Nat) {oi:Oper} (t:Nat) {fuel:Nat} {listed:Array Bool} {a:Act} {w:World} (hS:S w) (hi:ops[i]?=some oi) (hd:oi.dst=some t)
    (h:wpAnyH P md ops Q S fuel (listed.setIfInBounds i true) (a.put (some t) undef) w)
    (hs:Region.noSelect ops=true:=by kernel_rfl) (hf:Region.free md ops listed i=true:=by kernel_rfl) (hr:(Region.ready md ops listed).contains i=true:=by kernel_rfl) (hg:Region.wanted oi (yielded ops a.tmps)=false:=by rfl)
    (hQ:∀ c a w,Q (.panic c) (a.put (some t) undef) w→Q (.panic c) a w:=by exact fun _ _ _ h=>h):wpAnyH P md ops Q S (fuel+1) listed a w:=takeD i (some t) undef hS hi hd hs hf hr hQ (Or.inr ⟨hg,rfl⟩) h
theorem zqa {α:Type} (l:List α) (i:Nat) (a:α):l.toArray.setIfInBounds i a=(l.set i a).toArray:=List.setIfInBounds_toArray l i a
theorem zqb {α:Type} (x a:α) (l:List α):(x::l).set 0 a=a::l:=List.set_cons_zero ..
theorem zqc {α:Type} (x a:α) (l:List α) (n:Nat):(x::l).set (n+1) a=x::l.set n a:=List.set_cons_succ ..
theorem ry {P:Program} {md:Region.Mode} {ops:Array Oper} {Q:Exit→Act→World→Prop} {S:World→Prop} {fuel:Nat} {listed:Array Bool} {a:Act} {w:World} (i:Nat) {o:Oper} (ho:ops[i]?=some o)
    (h:∀ K':Act→World→Prop,Shut (∀ a w,S w→(S w→wpAnyH P md ops Q S fuel (listed.setIfInBounds i true) a w)→K' a w)→if Region.wanted o (yielded ops a.tmps)=true then Oper.wp P o a w K' Q else K' (a.put o.dst undef) w)
    (hr:Region.ready md ops listed=[i]:=by kernel_rfl):wpAnyH P md ops Q S (fuel+1) listed a w:=wpAnyH_ready hr (by simp) (AllReadyH.cons ho h AllReadyH.nil)
theorem wpList_alloc_row {P:Program} {w:World} {ops:Array Oper} {rest:List Oper} {op:Oper} {a:Act} {Q:Exit→Act→World→Prop} (hgd:op.guard=none) (ty:TypeId) (ho:op.op=.alloc ty)
  (z:Array Value) (hz:∀ w,(zeroValue ty).run P w=.ok (.agg z) w)
  (h:wpList P ops Q rest (a.put op.dst (.pointer (some ⟨w.heap.size,0,none⟩))) (w.alloc (.cells z ty))):wpList P ops Q (op::rest) a w:=by
 refine wpList_plain hgd fun _ hK=>?_
 unfold Oper.wp execOp
 simp [ho,Instr.alloc,hz,newVar,Value.cells]
 exact hK _ _ h
theorem wpList_store_new {P:Program} {w:World} {ops:Array Oper} {rest:List Oper} {op:Oper} {a:Act} {Q:Exit→Act→World→Prop} (hgd:op.guard=none) (ty:TypeId) (x y:Operand) (ho:op.op=.store ty x y)
  (c c':Array Value) (hx:a.eval x=.pointer (some ⟨w.heap.size,0,none⟩)) (hy:a.eval y=.agg c') (hi:(P.info? ty).map (·.size)=some c'.size) (hs:c.size=c'.size) (h1:c'.all (·.oneCell')=true)
  (h:wpList P ops Q rest (a.put op.dst undef) (w.alloc (.cells c' ty))):wpList P ops Q (op::rest) a (w.alloc (.cells c ty)):=by
 refine wpList_plain hgd fun _ hK=>?_
 unfold Oper.wp execOp
 simp only [ho,hx,hy,Sem.run_bind,Sem.run_pure,Result.andThen_ok,run_storeAt_new (P:=P) w ty c c' hi hs h1]
 exact hK _ _ h
end
section
open Go.RowKit
theorem step_goV {P:Program} {ops:Array Oper} {o:Oper} {a:Act} {w:World} {K:Act→World→Prop} {Q:Exit→Act→World→Prop} {E:Prop}
  (hw:Region.wanted o (yielded ops a.tmps)=true) (d:Option Tmp) (hd:o.dst=d) (f:FuncId) (os:Array Operand) (ts:Array TypeId) (hop:o.op=Op.call { callee:=Callee.value (Operand.func f),args:=os,argTypes:=ts })
  (vals:Array Value) (hv:os.map a.eval=vals) (he:∀ args w,(callFunc f args).run P w=.ok (.enter f args) w) {R:Ending→World→Prop} (hc:Calls P f vals w R)
  (hK:∀ e w',R e w'→∃ v,e=.returned v∧K (a.put d v) w') :
  if Region.wanted o (yielded ops a.tmps)=true then Oper.wp P o a w K Q else E:=by
 subst hd
 rw [if_pos hw]
 subst hv
 have hr:(execOp a.eval o).run P w=.ok (.enter f (os.map a.eval)) w:=by
  simp [execOp,hop,resolve,invoke,Act.eval,Deferred.ofValue,he]
 unfold Oper.wp
 rw [hr,Oper.upon_enter]
 refine hc.mono fun e w' h=>?_
 obtain ⟨v,rfl,hk⟩:=hK e w' h
 exact hk
theorem sg {P:Program} {ops:Array Oper} {o:Oper} {a:Act} {w:World} {K:Act→World→Prop} {Q:Exit→Act→World→Prop} {E:Prop}
    (t:Nat) (hd:o.dst=some t) (f:FuncId) (os:Array Operand) {ts:Array TypeId} (hop:o.op=Op.call { callee:=Callee.value (Operand.func f),args:=os,argTypes:=ts })
    (vals:Array Value) (he:∀ args w,(callFunc f args).run P w=.ok (.enter f args) w) {R:Ending→World→Prop} (hc:Calls P f vals w R)
    (hK:∀ e w',R e w'→∃ v,e=.returned v∧K (a.put (some t) v) w') (hw:Region.wanted o (yielded ops a.tmps)=true:=by rfl) (hv:os.map a.eval=vals:=by simp [Act.eval]) :
    if Region.wanted o (yielded ops a.tmps)=true then Oper.wp P o a w K Q else E:=step_goV hw (some t) hd f os ts hop vals hv he hc hK
theorem run_append_nilT {P:Program} (w:World) (t ty e:TypeId) (i:TypeInfo) (ht:P.underlying t=some (.slice e)) (hi:P.info? e=some i) (a:Option Addr) (c:Nat) :
  (Builtin.append_ #[t,t] ty #[.slice none 0 0,.slice a 0 c]).run P w=.ok (.slice none 0 0) w:=by
 cases a
 ·simp [Builtin.append_,run_underlying ht,sizeOf,typeInfo,hi,Builtin.lenOf,Builtin.firstCells]
 ·simp [Builtin.append_,run_underlying ht,sizeOf,typeInfo,hi,Builtin.lenOf,Builtin.firstCells,loadCells,loadCellsFrom]
theorem wpList_append_nilT {P:Program} {w:World} {ops:Array Oper} {rest:List Oper} {o:Oper} {a:Act} {Q:Exit→Act→World→Prop} (hgd:o.guard=none) (s x:Operand) (t:TypeId)
  (ho:o.op=.call { callee:=.builtin .append,args:=#[s,x],argTypes:=#[t,t] }) (e:TypeId) (i:TypeInfo) (ht:P.underlying t=some (.slice e)) (hi:P.info? e=some i)
  (hs:a.eval s=.slice none 0 0) (b:Option Addr) (c:Nat) (hx:a.eval x=.slice b 0 c)
  (h:wpList P ops Q rest (a.put o.dst (.slice none 0 0)) w):wpList P ops Q (o::rest) a w:=by
 refine wpList_plain hgd fun K hK=>?_
 have hrun:=run_append_nilT (P:=P) w t o.type e i ht hi b c
 unfold Oper.wp
 simp [execOp,ho,resolve,invoke,builtin,hs,hx,hrun,Result.andThen]
 exact hK _ _ h
theorem own_slx {w:World} {B:Nat} {e:TypeId} {size:Nat} {v:Value} {n:Nat} {xs:List Value} (h:w.ownsRow B e size v n xs):∃ a c,v=.slice a n c:=by
 rcases h.2 with ⟨hv,h0⟩ | ⟨g,cap,cur,hv,_⟩
 ·exact ⟨none,0,by rw [hv,h0]⟩
 ·exact ⟨_,cap,hv⟩
end
section
open Go.RowKit
theorem nums_cells {w:World} {b o:Nat} {l:List Int} {sa:Option Addr} (h:IntS w sa b o l):∀ (j:Nat) (u:Value),(nums l)[j]?=some u→w.cell? ((⟨b,o,none⟩:Addr).add j)=some u:=by
 intro j u hj
 have hjl:j < l.length:=by
  have:=(List.getElem?_eq_some_iff.1 hj).1
  simpa [nums] using this
 rw [Go.WideShapes.add_plain,h.row j hjl]
 simpa [nums,hjl] using hj
theorem nums_one (l:List Int):∀ u∈nums l,u.oneCell'=true:=by intro u hu;simp [nums] at hu;obtain ⟨_,_,rfl⟩:=hu;rfl
set_option maxHeartbeats 1000000 in
set_option maxRecDepth 100000 in
theorem newListO_any (a:Option Addr) (b o c:Nat) (l:List Int) (w:World) (hl:l.length≤1048576) (h:IntS w a b o l) :
  Calls Tryz.prog 73 #[.slice a l.length c] w fun e w'=>∃ v,e=.returned v∧w'.ownsRow w.heap.size 3 1 v l.length (nums l)∧Below w.heap.size w w':=by
 obtain ⟨i0,hi,hz0,hz1,hz2⟩:=info_parts Tryz.infoInt
 rcases Nat.eq_zero_or_pos l.length with h0 | hpos
 ·have hl0:l=[]:=List.length_eq_zero_iff.1 h0
  subst hl0
  rw [List.length_nil]
  go_enter Tryz.func73,Tryz.ntmps73
  go_wp2_with (at_builtin;refine wpList_append_nilT rfl (.const (.slice none 0 0)) (.tmp 3) 26 rfl 3 i0 Tryz.underlying26 hi rfl a c rfl ?_)
  go_wp2_with fail
  go_ret
  exact ⟨_,rfl,World.ownsRow_nil _ _ _ _,Below.refl _ _⟩
 ·obtain ⟨rfl⟩:=h.addr hpos
  go_enter Tryz.func73,Tryz.ntmps73
  go_wp2_with (at_builtin;refine wpList_append_lies _ rfl (.const (.slice none 0 0)) (.tmp 3) 26 rfl w.heap.size 3 i0 _ 1 8 Tryz.underlying26 hi hz0 hz1 hz2 rfl (by decide) _ 0 [] rfl (World.ownsRow_nil _ _ _ _) ⟨b,o,none⟩ l.length c (nums l) rfl (by simp [nums]) (nums_cells h) (nums_one l) hpos (by unfold maxLen;omega) (by omega) (Nat.le_refl _) w.heap.size rfl ?_)
  intro g cap w1 hown hg hat hlt
  have hb:Below w.heap.size w w1:=⟨hg.os,hg.tape,hg.output,hg.size,fun k hk=>hg.block k hk (fun e=>by simp [Value.ownBlock] at e)⟩
  have hown':w1.ownsRow w.heap.size 3 1 (.slice (some ⟨g,0,none⟩) l.length cap) l.length (nums l):=by simpa using hown
  go_wp2_with fail
  go_ret
  exact ⟨_,by first | rfl | simp,hown',hb⟩
end
section
open Go.RowKit
def M.tot (f:Int→Bool):List (List M.D)→Nat
 | []=>0
 | t::l=>M.cnt f t+M.tot f l
def M.nreads (ll:List (List M.D)):Int:=if M.prog ll then (M.tot M.reads ll:Int) else -1
theorem M.from_le {ll:List (List M.D)}:∀ {a u:Nat},M.progFrom a u ll=true→∀ t∈ll,t.length≤7:=by
 induction ll with
 | nil=>intro a u _ t ht;simp at ht
 | cons t l ih =>
  intro a u h t' ht'
  by_cases hb:M.thread t=true
  ·simp only [M.progFrom,hb,if_true] at h
   rcases List.mem_cons.1 ht' with rfl | hm
   ·exact M.thread_le hb
   ·exact ih h t' hm
  ·simp [M.progFrom,hb] at h
theorem M.prog_le {ll:List (List M.D)} (h:M.prog ll=true):ll.length≤3∧∀ t∈ll,t.length≤7:=by
 simp only [M.prog,Bool.and_eq_true,decide_eq_true_eq] at h
 exact ⟨h.1,M.from_le h.2⟩
theorem M.tot_step {f:Int→Bool} {l:List (List M.D)} {m n:Nat} {t:List M.D} (hp:M.tot f l=m+M.tot f (l.drop n)) (hd:l.drop n=t::l.drop (n+1)):M.tot f l=(m+M.cnt f t)+M.tot f (l.drop (n+1)):=by
 rw [hp,hd,M.tot];omega
theorem M.tot_fin {f:Int→Bool} {l:List (List M.D)} {m n:Nat} (hp:M.tot f l=m+M.tot f (l.drop n)) (hn:l.length≤n):m=M.tot f l:=by
 rw [hp,List.drop_eq_nil_of_le hn];rfl
theorem M.nreads_ok {ll:List (List M.D)} (h:M.prog ll=true):M.nreads ll=M.tot M.reads ll:=by simp [M.nreads,h]
theorem M.nreads_no {ll:List (List M.D)} (h:M.prog ll=false):M.nreads ll=-1:=by simp [M.nreads,h]
end
section
open Go.RowKit
theorem grownBy_refl (w:World) (row:Option Nat):w.grownBy w row:=⟨rfl,rfl,rfl,Nat.le_refl _,fun _ _ _=>rfl⟩
theorem wpList_append_rows {P:Program} {w:World} {ops:Array Oper} {rest:List Oper} {o:Oper} {a:Act} {Q:Exit→Act→World→Prop} (hgd:o.guard=none) (s x:Operand) (t:TypeId)
  (ho:o.op=.call { callee:=.builtin .append,args:=#[s,x],argTypes:=#[t,t] })
  (base:Nat) (e:TypeId) (i:TypeInfo) (z:Value) (size bytes:Nat) (ht:P.underlying t=some (.slice e)) (hi:P.info? e=some i) (hz:i.zero=some z)
  (hsize:i.size=size) (hby:i.bytes=bytes) (hzs:z.cells.size=size) (hsz:0 < size)
  (v:Value) (n:Nat) (xs:List Value) (hs:a.eval s=v) (hown:w.ownsRow base e size v n xs)
  (base':Nat) (u:Value) (m:Nat) (ys:List Value) (hx:a.eval x=u) (hsrc:w.ownsRow base' e size u m ys) (h1:∀ y∈ys,y.oneCell'=true)
  (h63:n+m≤maxLen) (hbytes:(n+m) * bytes≤140737488355328) (hbase:base≤w.heap.size)
  (h:∀ v' w',w'.ownsRow base e size v' (n+m) (xs++ys)→w.grownBy w' v.ownBlock→wpList P ops Q rest (a.put o.dst v') w'):wpList P ops Q (o::rest) a w:=by
 have hl:=hsrc.1
 rcases hsrc.2 with ⟨hu,hm⟩ | ⟨g,cap,cur,hu,hg,hh,r⟩
 ·subst hm
  have hys:ys=[]:=List.length_eq_zero_iff.1 (by rw [hl];simp)
  subst hys
  refine wpList_append_own_none hgd s x t ho base e i size ht hi v n xs hs hown (hx.trans hu) ?_
  exact h v w (by simpa using hown) (grownBy_refl _ _)
 ·refine wpList_append_own w hgd s x t ho base e i z size bytes ht hi hz hsize hby hzs hsz v n xs hs hown ⟨g,0,none⟩ m cap ys (hx.trans hu) hl (fun j y hj=>hsrc.cells (g:=g) (by rw [hu];rfl) j y hj) h1 h63 hbytes hbase ?_
  intro v' w' h2 h3 _
  exact h v' w' h2 h3
end
section
namespace M
def bel (n:Nat):List Int:=(List.range n).map fun i:Nat=>(i:Int)
def rowOf (row evs:List Int):Bool:=decide (row.length=evs.length)&&evs.all (fun v=>has row v)
def rowN (row:List Int) (n:Nat):Bool:=rowOf row (bel n)
def pick {α:Type} (z:α) (row:List Int) (l:List α):List α:=row.map fun i=>l.getD i.toNat z
end M
end
section
open Go.RowKit
def M.turned {α:Type} (z:α) (row:List Int) (l:List α):List α:=if M.rowN row l.length then M.pick z row l else []
end
section
open Go.ChangeShapes Go.WideShapes Go.ChangeAt Go.RowKit Go.Deep
theorem Tryz.cellsByte:Tryz.prog.cellsOf 5=1:=by kernel_rfl
def Code8 (w:World) (u:Value):Prop:=∃ ca cb co L C,∃ x:Nat→Int,u=.slice ca L C∧L≤C∧(0 < L→ca=some ⟨cb,co,none⟩)∧∀ i,i < L→w.cell? ⟨cb,co+i,none⟩=some (.int .u8 (x i))∧0≤x i∧x i≤255
section
variable {H : Type} {enc : TypeId × Value → H} {w : World} {base : Nat} {spare : Nat → Bool} {held : Bool}
set_option maxRecDepth 100000 in
theorem open_code {fuel:Nat} {u:Value} {x:DataW H × List MemPlace} (h:DataW.trod enc Tryz.prog w base spare held fuel 22 [u]=some x):Code8 w u:=by
 rcases open_ints Tryz.underlying22 Tryz.underlying5 Tryz.cellsByte h with ⟨hcs,_⟩ | ⟨a,len,cap,zs,hcs,_,hl,hm,hmm,_,hel,hwf⟩
 ·simp at hcs
  exact ⟨none,0,0,0,0,fun _=>0,hcs,Nat.le_refl _,fun h=>absurd h (Nat.lt_irrefl _),fun i hi=>absurd hi (Nat.not_lt_zero _)⟩
 ·simp at hcs
  obtain ⟨gb,go,gs⟩:=a
  have hlm:len≤zs.length:=by rw [hmm];split<;>omega
  rcases Nat.eq_zero_or_pos len with h0 | hpos
  ·subst h0
   exact ⟨_,0,0,0,cap,fun _=>0,hcs,Nat.zero_le _,fun h=>absurd h (Nat.lt_irrefl _),fun i hi=>absurd hi (Nat.not_lt_zero _)⟩
  ·have hgs:gs=none:=by simpa [Addr.add] using World.cell?_spot (hel 0 (by omega))
   subst hgs
   refine ⟨_,gb,go,len,cap,fun i=>zs.getD i 0,hcs,hl,fun _=>rfl,fun i hi=>?_⟩
   have h1:=hel i (by omega)
   rw [add_plain] at h1
   have hw:=hwf (zs.getD i 0) (by rw [List.getD_eq_getElem?_getD,List.getElem?_eq_getElem (by omega)];exact List.getElem_mem _)
   exact ⟨h1,bounds_u8 hw⟩
end
end
end Go.Proofs.YtmhpgdliaclokaaGreat
