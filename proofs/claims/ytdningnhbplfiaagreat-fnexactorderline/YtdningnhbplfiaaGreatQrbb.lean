/- Cells of literals; a row of steps more; steps as the cells of their row. No condition. A call within a region met by its contract; an append of nothing onto nothing; what lies in a row is a slice. No condition. append of steps onto an empty row that was made: in plain regions, and in those that draw their order. No condition. -/
import Derived.BigQuiet
import Derived.Deep.RegionLaw
import Derived.Deep.WholeRow
import Derived.Test.YtdningnhbplfiaaGreatRows
import Derived.Test.YtdningnhbplfiaaGreatQrab
namespace Go.Proofs.YtdningnhbplfiaaGreat
section
open Go.RowKit
theorem nums_snoc (l:List Int) (x:Int):nums (l++[x])=nums l++[.int .i64 x]:=by simp [nums]
theorem cells_new1 (w:World) (x:Value) (t:TypeId) (N:Nat) (hN:N=w.heap.size):∀ (j:Nat) (u:Value),[x][j]?=some u→(w.alloc (.cells #[x] t)).cell? ((⟨N,0,none⟩:Addr).add j)=some u:=by
 subst hN
 intro j u hj
 match j,hj with
 | 0,hj=>simp at hj;subst hj;simp [Addr.add]
theorem one1 (x:Int):∀ u∈[Value.int .i64 x],u.oneCell'=true:=by intro u hu;simp at hu;subst hu;rfl
end
section
open Go.RowKit
theorem step_goV {P:Program} {ops:Array Oper} {o:Oper} {a:Act} {w:World} {K:Act→World→Prop} {Q:Exit→Act→World→Prop} {E:Prop}
  (hw:Region.wanted o (yielded ops a.tmps)=true) (d:Option Tmp) (hd:o.dst=d) (f:FuncId) (os:Array Operand) (ts:Array TypeId) (hop:o.op=Op.call { callee:=Callee.value (Operand.func f),args:=os,argTypes:=ts })
  (vals:Array Value) (hv:os.map a.eval=vals) (he:∀ args w,(callFunc f args).run P w=.ok (.enter f args) w) {R:Ending→World→Prop} (hc:Calls P f vals w R)
  (hK:∀ e w',R e w'→∃ v,e=.returned v∧K (a.put d v) w') :
  if Region.wanted o (yielded ops a.tmps)=true then Oper.wp P o a w K Q else E:=by
 subst hd
 rw [if_pos hw]
 subst hv
 have hr:(execOp a.eval o).run P w=.ok (.enter f (os.map a.eval)) w:=by
  simp [execOp,hop,resolve,invoke,Act.eval,Deferred.ofValue,he]
 unfold Oper.wp
 rw [hr,Oper.upon_enter]
 refine hc.mono fun e w' h=>?_
 obtain ⟨v,rfl,hk⟩:=hK e w' h
 exact hk
theorem sg {P:Program} {ops:Array Oper} {o:Oper} {a:Act} {w:World} {K:Act→World→Prop} {Q:Exit→Act→World→Prop} {E:Prop}
    (t:Nat) (hd:o.dst=some t) (f:FuncId) (os:Array Operand) {ts:Array TypeId} (hop:o.op=Op.call { callee:=Callee.value (Operand.func f),args:=os,argTypes:=ts })
    (vals:Array Value) (he:∀ args w,(callFunc f args).run P w=.ok (.enter f args) w) {R:Ending→World→Prop} (hc:Calls P f vals w R)
    (hK:∀ e w',R e w'→∃ v,e=.returned v∧K (a.put (some t) v) w') (hw:Region.wanted o (yielded ops a.tmps)=true:=by rfl) (hv:os.map a.eval=vals:=by simp [Act.eval]) :
    if Region.wanted o (yielded ops a.tmps)=true then Oper.wp P o a w K Q else E:=step_goV hw (some t) hd f os ts hop vals hv he hc hK
end
section
open Go.RowKit
theorem own_emp {X:World} {base g size:Nat} {e:TypeId} (h:X.heap[g]?=some (.cells #[] e (0,0))) (hb:base≤g):X.ownsRow base e size (.slice (some ⟨g,0,none⟩) 0 0) 0 [] :=
 ⟨by simp,.inr ⟨g,0,#[],rfl,hb,h,Nat.le_refl _,Nat.zero_le _,by simp,by simp⟩⟩
end
end Go.Proofs.YtdningnhbplfiaaGreat
