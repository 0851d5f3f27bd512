/- An array's part, by a variable. No condition. -/
import Derived.Deep.MidRow
import Derived.WalkLawsBesides
import Derived.WalkSpells
import Derived.Test.YtdningnhbplfiaaGreatRows
namespace Go.Proofs.YtdningnhbplfiaaGreat
section
open Go.RowKit
theorem wpList_index_one {P:Program} {w:World} {ops:Array Oper} {rest:List Oper} {op:Oper} {a:Act} {Q:Exit→Act→World→Prop} (hgd:op.guard=none) (ty:TypeId) (x y:Operand) (ho:op.op=.index ty x y)
  (c:Array Value) (i n:Nat) (e:TypeId) (d:TypeDesc) (v:Value) (hx:a.eval x=.agg c) (hy:a.eval y=.int .i64 i) (hu:P.underlying ty=some (.array n e)) (hin:i < n) (hue:P.underlying e=some d) (hd:d.isRow=false) (hi:(P.info? e).map (·.size)=some 1) (hv:c[i]?=some v)
  (h:wpList P ops Q rest (a.put op.dst v) w):wpList P ops Q (op::rest) a w:=by
 refine wpList_plain hgd fun _ hK=>?_
 have hagg:(isAgg e).run P w=.ok false w:=by
  unfold isAgg
  rw [Sem.run_bind,run_underlying hue w]
  cases d<;>simp_all
 cases hq:P.info? e with
 | none=>simp [hq] at hi
 | some j =>
  have hs:j.size=1:=by simpa [hq] using hi
  unfold Oper.wp execOp
  simp [ho,hx,hy,Instr.index,asIntOf,run_underlying hu,part,hagg,sizeOf,typeInfo,hq,hs,hin,hv]
  exact hK _ _ h
end
end Go.Proofs.YtdningnhbplfiaaGreat
