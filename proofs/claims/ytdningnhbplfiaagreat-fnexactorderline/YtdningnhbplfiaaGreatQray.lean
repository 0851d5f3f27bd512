/- A call of a Go function, met by its contract, as one step of a region that draws its order. No condition. -/
import Derived.Deep.RegionLaw
import Derived.Shelf.Abstract
import Derived.WalkLawsBesides
import Derived.WalkSpells
import Derived.Test.YtdningnhbplfiaaGreatRows
namespace Go.Proofs.YtdningnhbplfiaaGreat
section
open Go.RowKit
theorem step_go {P:Program} {ops:Array Oper} {o:Oper} {a:Act} {w:World} {K:Act→World→Prop} {Q:Exit→Act→World→Prop} {E:Prop}
  (hg:o.guard=none) (f:FuncId) (os:Array Operand) (ts:Array TypeId) (hop:o.op=Op.call { callee:=Callee.value (Operand.func f),args:=os,argTypes:=ts })
  (vals:Array Value) (hv:os.map a.eval=vals) (he:∀ args w,(callFunc f args).run P w=.ok (.enter f args) w) {R:Ending→World→Prop} (hc:Calls P f vals w R)
  (hK:∀ e w',R e w'→∃ v,e=.returned v∧K (a.put o.dst v) w') :
  if Region.wanted o (yielded ops a.tmps)=true then Oper.wp P o a w K Q else E:=by
 have hw:Region.wanted o (yielded ops a.tmps)=true:=by simp [Region.wanted,hg]
 rw [if_pos hw]
 subst hv
 have hr:(execOp a.eval o).run P w=.ok (.enter f (os.map a.eval)) w:=by
  simp [execOp,hop,resolve,invoke,Act.eval,Deferred.ofValue,he]
 unfold Oper.wp
 rw [hr,Oper.upon_enter]
 refine hc.mono fun e w' h=>?_
 obtain ⟨v,rfl,hk⟩:=hK e w' h
 exact hk
theorem step_go2 {P:Program} {ops:Array Oper} {o:Oper} {a:Act} {w:World} {K:Act→World→Prop} {Q:Exit→Act→World→Prop} {E:Prop}
  (hg:o.guard=none) (f:FuncId) (x y:Operand) (ts:Array TypeId) (hop:o.op=Op.call { callee:=Callee.value (Operand.func f),args:=#[x,y],argTypes:=ts })
  (vx vy:Value) (hx:a.eval x=vx) (hy:a.eval y=vy) (he:∀ args w,(callFunc f args).run P w=.ok (.enter f args) w) {R:Ending→World→Prop} (hc:Calls P f #[vx,vy] w R)
  (hK:∀ e w',R e w'→∃ v,e=.returned v∧K (a.put o.dst v) w') :
  if Region.wanted o (yielded ops a.tmps)=true then Oper.wp P o a w K Q else E :=
 step_go hg f #[x,y] ts hop #[vx,vy] (by simp [hx,hy]) he hc hK
end
end Go.Proofs.YtdningnhbplfiaaGreat
