/- spec's l1Do: whether a step is in form. No condition. And what goes with it: LDo, TnBase, TnGo, NlO, StepGo, TnAp. -/
import Derived.BigQuiet
import Derived.Deep.AppendLies
import Derived.Deep.MidRow
import Derived.Deep.QuietTactic
import Derived.Deep.RegionHeld3
import Derived.Deep.RegionLaw
import Derived.Deep.RegionWith
import Derived.Deep.WholeRow
import Derived.Laws.OwnMore
import Derived.Maps.AppendAt
import Derived.Shelf.Abstract
import Derived.Sort.Grow
import Derived.WalkKit
import Derived.WalkLawsBesides
import Derived.WalkSpells
import Derived.Test.YtjjkicffhpcngaaGreatRows
import Derived.Test.YtjjkicffhpcngaaGreatBVak
namespace Go.Proofs.YtjjkicffhpcngaaGreat
open Go.RowKit
theorem M.reads1:M.reads 1=false:=by decide
theorem M.reads6:M.reads 6=false:=by decide
theorem M.writes1:M.writes 1=true:=by decide
theorem M.writes6:M.writes 6=true:=by decide
theorem M.rng1:M.rng 1 9 1=true:=by decide
theorem M.rng6:M.rng 1 9 6=true:=by decide
theorem M.stores1:M.stores 1=true:=by decide
theorem M.stores6:M.stores 6=true:=by decide
set_option maxHeartbeats 400000 in
theorem l1Do_st (k p v:Int) (w:World) (h:k=1∨k=6) :
  Calls Tryz.prog 98 #[.agg #[.int .i64 k,.int .i64 p,.int .i64 v]] w fun e w'=>e=.returned (.bool (M.doOk ⟨k,p,v⟩))∧Below w.heap.size w w':=by
 rcases h with rfl | rfl
 all_goals
  cases hp:M.rng 0 2 p
  all_goals
   cases hv:M.rng 1 3 v
   all_goals
    go_enter Tryz.func98,Tryz.ntmps98
    go_wp2_with (first | (go_at_call 56;refine (l1Reads_any ⟨_,_,_⟩ _).mono ?_;rintro e w' ⟨rfl,rfl⟩) | (go_at_call 57;refine (l1Writes_any ⟨_,_,_⟩ _).mono ?_;rintro e w' ⟨rfl,rfl⟩) | (go_at_call 83;refine (l6In_any _ _ _ _).mono ?_;rintro e w' ⟨rfl,rfl⟩))
    go_ret
    exact ⟨ret_bool (by rw [M.doOk_eq];simp [M.uses,M.reads1,M.reads6,M.writes1,M.writes6,M.rng1,M.rng6,M.stores1,M.stores6,hp,hv]),below3 _ _ _ _⟩
set_option maxHeartbeats 400000 in
theorem l1Do_ot (k p v:Int) (w:World) (h1:(k==1)=false) (h6:(k==6)=false) :
  Calls Tryz.prog 98 #[.agg #[.int .i64 k,.int .i64 p,.int .i64 v]] w fun e w'=>e=.returned (.bool (M.doOk ⟨k,p,v⟩))∧Below w.heap.size w w':=by
 have hs:M.stores k=false:=by simp [M.stores,h1,h6]
 cases hk:M.rng 1 9 k
 ·cases hr:M.reads k
  all_goals
   go_enter Tryz.func98,Tryz.ntmps98
   go_wp2_with (first | (go_at_call 56;refine (l1Reads_any ⟨_,_,_⟩ _).mono ?_;rintro e w' ⟨rfl,rfl⟩) | (go_at_call 57;refine (l1Writes_any ⟨_,_,_⟩ _).mono ?_;rintro e w' ⟨rfl,rfl⟩) | (go_at_call 83;refine (l6In_any _ _ _ _).mono ?_;rintro e w' ⟨rfl,rfl⟩))
   go_ret
   refine ⟨ret_bool (by rw [M.doOk_eq];simp [hk]),?_⟩
   first | exact below3 _ _ _ _ | exact below2 _ _ _
 ·cases hr:M.reads k
  all_goals
   cases hw:M.writes k
   all_goals
    cases hp:M.rng 0 2 p
    all_goals
     cases hp0:(p==0)
     all_goals
      go_enter Tryz.func98,Tryz.ntmps98
      go_wp2_with (first | (go_at_call 56;refine (l1Reads_any ⟨_,_,_⟩ _).mono ?_;rintro e w' ⟨rfl,rfl⟩) | (go_at_call 57;refine (l1Writes_any ⟨_,_,_⟩ _).mono ?_;rintro e w' ⟨rfl,rfl⟩) | (go_at_call 83;refine (l6In_any _ _ _ _).mono ?_;rintro e w' ⟨rfl,rfl⟩))
      go_ret
      refine ⟨ret_bool (by rw [M.doOk_eq];simp [M.uses,hr,hw,hk,hs,hp,hp0]),?_⟩
      first | exact below3 _ _ _ _ | exact below2 _ _ _
theorem l1Do_any (d:M.D) (w:World) :
  Calls Tryz.prog 98 #[.agg #[.int .i64 d.k,.int .i64 d.p,.int .i64 d.v]] w fun e w'=>e=.returned (.bool (M.doOk d))∧Below w.heap.size w w':=by
 obtain ⟨k,p,v⟩:=d
 by_cases h1:k=1
 ·exact l1Do_st k p v w (Or.inl h1)
 ·by_cases h6:k=6
  ·exact l1Do_st k p v w (Or.inr h6)
  ·exact l1Do_ot k p v w (by simpa using h1) (by simpa using h6)
end Go.Proofs.YtjjkicffhpcngaaGreat
namespace Go.Proofs.YtjjkicffhpcngaaGreat
open Go.RowKit
theorem Slot1.bl' {w w':World} {b:Nat} {x:Value} (h:Slot1 w b x) (hb:Below w.heap.size w w'):Slot1 w' b x :=
 ⟨(hb.cell (p:=⟨b,0,none⟩) h.lt).trans h.c,(hb.frozen (p:=⟨b,0,none⟩) h.lt).trans h.fz⟩
end Go.Proofs.YtjjkicffhpcngaaGreat
namespace Go.Proofs.YtjjkicffhpcngaaGreat
open Go.RowKit
theorem step_goV {P:Program} {ops:Array Oper} {o:Oper} {a:Act} {w:World} {K:Act→World→Prop} {Q:Exit→Act→World→Prop} {E:Prop}
  (hw:Region.wanted o (yielded ops a.tmps)=true) (d:Option Tmp) (hd:o.dst=d) (f:FuncId) (os:Array Operand) (ts:Array TypeId) (hop:o.op=Op.call { callee:=Callee.value (Operand.func f),args:=os,argTypes:=ts })
  (vals:Array Value) (hv:os.map a.eval=vals) (he:∀ args w,(callFunc f args).run P w=.ok (.enter f args) w) {R:Ending→World→Prop} (hc:Calls P f vals w R)
  (hK:∀ e w',R e w'→∃ v,e=.returned v∧K (a.put d v) w') :
  if Region.wanted o (yielded ops a.tmps)=true then Oper.wp P o a w K Q else E:=by
 subst hd
 rw [if_pos hw]
 subst hv
 have hr:(execOp a.eval o).run P w=.ok (.enter f (os.map a.eval)) w:=by
  simp [execOp,hop,resolve,invoke,Act.eval,Deferred.ofValue,he]
 unfold Oper.wp
 rw [hr,Oper.upon_enter]
 refine hc.mono fun e w' h=>?_
 obtain ⟨v,rfl,hk⟩:=hK e w' h
 exact hk
theorem run_append_nilT {P:Program} (w:World) (t ty e:TypeId) (i:TypeInfo) (ht:P.underlying t=some (.slice e)) (hi:P.info? e=some i) (a:Option Addr) (c:Nat) :
  (Builtin.append_ #[t,t] ty #[.slice none 0 0,.slice a 0 c]).run P w=.ok (.slice none 0 0) w:=by
 cases a
 ·simp [Builtin.append_,run_underlying ht,sizeOf,typeInfo,hi,Builtin.lenOf,Builtin.firstCells]
 ·simp [Builtin.append_,run_underlying ht,sizeOf,typeInfo,hi,Builtin.lenOf,Builtin.firstCells,loadCells,loadCellsFrom]
theorem wpList_append_nilT {P:Program} {w:World} {ops:Array Oper} {rest:List Oper} {o:Oper} {a:Act} {Q:Exit→Act→World→Prop} (hgd:o.guard=none) (s x:Operand) (t:TypeId)
  (ho:o.op=.call { callee:=.builtin .append,args:=#[s,x],argTypes:=#[t,t] }) (e:TypeId) (i:TypeInfo) (ht:P.underlying t=some (.slice e)) (hi:P.info? e=some i)
  (hs:a.eval s=.slice none 0 0) (b:Option Addr) (c:Nat) (hx:a.eval x=.slice b 0 c)
  (h:wpList P ops Q rest (a.put o.dst (.slice none 0 0)) w):wpList P ops Q (o::rest) a w:=by
 refine wpList_plain hgd fun K hK=>?_
 have hrun:=run_append_nilT (P:=P) w t o.type e i ht hi b c
 unfold Oper.wp
 simp [execOp,ho,resolve,invoke,builtin,hs,hx,hrun,Result.andThen]
 exact hK _ _ h
theorem own_slx {w:World} {B:Nat} {e:TypeId} {size:Nat} {v:Value} {n:Nat} {xs:List Value} (h:w.ownsRow B e size v n xs):∃ a c,v=.slice a n c:=by
 rcases h.2 with ⟨hv,h0⟩ | ⟨g,cap,cur,hv,_⟩
 ·exact ⟨none,0,by rw [hv,h0]⟩
 ·exact ⟨_,cap,hv⟩
end Go.Proofs.YtjjkicffhpcngaaGreat
namespace Go.Proofs.YtjjkicffhpcngaaGreat
open Go.RowKit
theorem nums_cells {w:World} {b o:Nat} {l:List Int} {sa:Option Addr} (h:IntS w sa b o l):∀ (j:Nat) (u:Value),(nums l)[j]?=some u→w.cell? ((⟨b,o,none⟩:Addr).add j)=some u:=by
 intro j u hj
 have hjl:j < l.length:=by
  have:=(List.getElem?_eq_some_iff.1 hj).1
  simpa [nums] using this
 rw [Go.WideShapes.add_plain,h.row j hjl]
 simpa [nums,hjl] using hj
theorem nums_one (l:List Int):∀ u∈nums l,u.oneCell'=true:=by intro u hu;simp [nums] at hu;obtain ⟨_,_,rfl⟩:=hu;rfl
set_option maxHeartbeats 1000000 in
set_option maxRecDepth 100000 in
theorem newListO_any (a:Option Addr) (b o c:Nat) (l:List Int) (w:World) (hl:l.length≤1048576) (h:IntS w a b o l) :
  Calls Tryz.prog 106 #[.slice a l.length c] w fun e w'=>∃ v,e=.returned v∧w'.ownsRow w.heap.size 3 1 v l.length (nums l)∧Below w.heap.size w w':=by
 obtain ⟨i0,hi,hz0,hz1,hz2⟩:=info_parts Tryz.infoInt
 rcases Nat.eq_zero_or_pos l.length with h0 | hpos
 ·have hl0:l=[]:=List.length_eq_zero_iff.1 h0
  subst hl0
  rw [List.length_nil]
  go_enter Tryz.func106,Tryz.ntmps106
  go_wp2_with (at_builtin;refine wpList_append_nilT rfl (.const (.slice none 0 0)) (.tmp 3) 47 rfl 3 i0 Tryz.underlying47 hi rfl a c rfl ?_)
  go_wp2_with fail
  go_ret
  exact ⟨_,rfl,World.ownsRow_nil _ _ _ _,Below.refl _ _⟩
 ·obtain ⟨rfl⟩:=h.addr hpos
  go_enter Tryz.func106,Tryz.ntmps106
  go_wp2_with (at_builtin;refine wpList_append_lies _ rfl (.const (.slice none 0 0)) (.tmp 3) 47 rfl w.heap.size 3 i0 _ 1 8 Tryz.underlying47 hi hz0 hz1 hz2 rfl (by decide) _ 0 [] rfl (World.ownsRow_nil _ _ _ _) ⟨b,o,none⟩ l.length c (nums l) rfl (by simp [nums]) (nums_cells h) (nums_one l) hpos (by unfold maxLen;omega) (by omega) (Nat.le_refl _) w.heap.size rfl ?_)
  intro g cap w1 hown hg hat hlt
  have hb:Below w.heap.size w w1:=⟨hg.os,hg.tape,hg.output,hg.size,fun k hk=>hg.block k hk (fun e=>by simp [Value.ownBlock] at e)⟩
  have hown':w1.ownsRow w.heap.size 3 1 (.slice (some ⟨g,0,none⟩) l.length cap) l.length (nums l):=by simpa using hown
  go_wp2_with fail
  go_ret
  exact ⟨_,by first | rfl | simp,hown',hb⟩
end Go.Proofs.YtjjkicffhpcngaaGreat
namespace Go.Proofs.YtjjkicffhpcngaaGreat
open Go.RowKit
theorem step_go {P:Program} {ops:Array Oper} {o:Oper} {a:Act} {w:World} {K:Act→World→Prop} {Q:Exit→Act→World→Prop} {E:Prop}
  (hg:o.guard=none) (f:FuncId) (os:Array Operand) (ts:Array TypeId) (hop:o.op=Op.call { callee:=Callee.value (Operand.func f),args:=os,argTypes:=ts })
  (vals:Array Value) (hv:os.map a.eval=vals) (he:∀ args w,(callFunc f args).run P w=.ok (.enter f args) w) {R:Ending→World→Prop} (hc:Calls P f vals w R)
  (hK:∀ e w',R e w'→∃ v,e=.returned v∧K (a.put o.dst v) w') :
  if Region.wanted o (yielded ops a.tmps)=true then Oper.wp P o a w K Q else E:=by
 have hw:Region.wanted o (yielded ops a.tmps)=true:=by simp [Region.wanted,hg]
 rw [if_pos hw]
 subst hv
 have hr:(execOp a.eval o).run P w=.ok (.enter f (os.map a.eval)) w:=by
  simp [execOp,hop,resolve,invoke,Act.eval,Deferred.ofValue,he]
 unfold Oper.wp
 rw [hr,Oper.upon_enter]
 refine hc.mono fun e w' h=>?_
 obtain ⟨v,rfl,hk⟩:=hK e w' h
 exact hk
theorem step_go2 {P:Program} {ops:Array Oper} {o:Oper} {a:Act} {w:World} {K:Act→World→Prop} {Q:Exit→Act→World→Prop} {E:Prop}
  (hg:o.guard=none) (f:FuncId) (x y:Operand) (ts:Array TypeId) (hop:o.op=Op.call { callee:=Callee.value (Operand.func f),args:=#[x,y],argTypes:=ts })
  (vx vy:Value) (hx:a.eval x=vx) (hy:a.eval y=vy) (he:∀ args w,(callFunc f args).run P w=.ok (.enter f args) w) {R:Ending→World→Prop} (hc:Calls P f #[vx,vy] w R)
  (hK:∀ e w',R e w'→∃ v,e=.returned v∧K (a.put o.dst v) w') :
  if Region.wanted o (yielded ops a.tmps)=true then Oper.wp P o a w K Q else E :=
 step_go hg f #[x,y] ts hop #[vx,vy] (by simp [hx,hy]) he hc hK
theorem step_go3 {P:Program} {ops:Array Oper} {o:Oper} {a:Act} {w:World} {K:Act→World→Prop} {Q:Exit→Act→World→Prop} {E:Prop}
  (hg:o.guard=none) (f:FuncId) (x y z:Operand) (ts:Array TypeId) (hop:o.op=Op.call { callee:=Callee.value (Operand.func f),args:=#[x,y,z],argTypes:=ts })
  (vx vy vz:Value) (hx:a.eval x=vx) (hy:a.eval y=vy) (hz:a.eval z=vz) (he:∀ args w,(callFunc f args).run P w=.ok (.enter f args) w) {R:Ending→World→Prop} (hc:Calls P f #[vx,vy,vz] w R)
  (hK:∀ e w',R e w'→∃ v,e=.returned v∧K (a.put o.dst v) w') :
  if Region.wanted o (yielded ops a.tmps)=true then Oper.wp P o a w K Q else E :=
 step_go hg f #[x,y,z] ts hop #[vx,vy,vz] (by simp [hx,hy,hz]) he hc hK
end Go.Proofs.YtjjkicffhpcngaaGreat
namespace Go.Proofs.YtjjkicffhpcngaaGreat
open Go.RowKit
theorem own_emp {X:World} {base g size:Nat} {e:TypeId} (h:X.heap[g]?=some (.cells #[] e (0,0))) (hb:base≤g):X.ownsRow base e size (.slice (some ⟨g,0,none⟩) 0 0) 0 [] :=
 ⟨by simp,.inr ⟨g,0,#[],rfl,hb,h,Nat.le_refl _,Nat.zero_le _,by simp,by simp⟩⟩
end Go.Proofs.YtjjkicffhpcngaaGreat
