/- append of a row of the call's own, or of nil, onto a row of the call's own, as one law for the walk. No condition. -/
import Derived.Laws.AppendOwnNone
import Derived.WalkLawsBesides
import Derived.WalkSpells
import Derived.Test.YtdningnhbplfiaaGreatRows
namespace Go.Proofs.YtdningnhbplfiaaGreat
section
open Go.RowKit
theorem grownBy_refl (w:World) (row:Option Nat):w.grownBy w row:=⟨rfl,rfl,rfl,Nat.le_refl _,fun _ _ _=>rfl⟩
theorem wpList_append_rows {P:Program} {w:World} {ops:Array Oper} {rest:List Oper} {o:Oper} {a:Act} {Q:Exit→Act→World→Prop} (hgd:o.guard=none) (s x:Operand) (t:TypeId)
  (ho:o.op=.call { callee:=.builtin .append,args:=#[s,x],argTypes:=#[t,t] })
  (base:Nat) (e:TypeId) (i:TypeInfo) (z:Value) (size bytes:Nat) (ht:P.underlying t=some (.slice e)) (hi:P.info? e=some i) (hz:i.zero=some z)
  (hsize:i.size=size) (hby:i.bytes=bytes) (hzs:z.cells.size=size) (hsz:0 < size)
  (v:Value) (n:Nat) (xs:List Value) (hs:a.eval s=v) (hown:w.ownsRow base e size v n xs)
  (base':Nat) (u:Value) (m:Nat) (ys:List Value) (hx:a.eval x=u) (hsrc:w.ownsRow base' e size u m ys) (h1:∀ y∈ys,y.oneCell'=true)
  (h63:n+m≤maxLen) (hbytes:(n+m) * bytes≤140737488355328) (hbase:base≤w.heap.size)
  (h:∀ v' w',w'.ownsRow base e size v' (n+m) (xs++ys)→w.grownBy w' v.ownBlock→wpList P ops Q rest (a.put o.dst v') w'):wpList P ops Q (o::rest) a w:=by
 have hl:=hsrc.1
 rcases hsrc.2 with ⟨hu,hm⟩ | ⟨g,cap,cur,hu,hg,hh,r⟩
 ·subst hm
  have hys:ys=[]:=List.length_eq_zero_iff.1 (by rw [hl];simp)
  subst hys
  refine wpList_append_own_none hgd s x t ho base e i size ht hi v n xs hs hown (hx.trans hu) ?_
  exact h v w (by simpa using hown) (grownBy_refl _ _)
 ·refine wpList_append_own w hgd s x t ho base e i z size bytes ht hi hz hsize hby hzs hsz v n xs hs hown ⟨g,0,none⟩ m cap ys (hx.trans hu) hl (fun j y hj=>hsrc.cells (g:=g) (by rw [hu];rfl) j y hj) h1 h63 hbytes hbase ?_
  intro v' w' h2 h3 _
  exact h v' w' h2 h3
end
end Go.Proofs.YtdningnhbplfiaaGreat
