/- append of numbers onto a row of the call's own, wherever they lie and however many. No condition. -/
import Derived.BigQuiet
import Derived.Deep.AppendLies
import Derived.Deep.MidRow
import Derived.Deep.Quiet
import Derived.Deep.QuietTactic
import Derived.Deep.RegionHeld3
import Derived.Deep.RegionWith
import Derived.Deep.WholeRow
import Derived.Laws.AppendOwnNone
import Derived.Laws.OwnMore
import Derived.Lib.AppendZerosOnto
import Derived.Lib.SliceRun
import Derived.Maps.AppendAt
import Derived.Sort.Grow
import Derived.WalkKit
import Derived.WalkLawsBesides
import Derived.WalkSpells
import Derived.Test.YtihfibjckkmmbaaGreatRows
import Derived.Test.YtihfibjckkmmbaaGreatQhaj
import Derived.Test.YtihfibjckkmmbaaGreatQhau
namespace Go.Proofs.YtihfibjckkmmbaaGreat
open Go.RowKit
theorem wp_append_nums {P:Program} {o:Oper} {a:Act} {w:World} {K:Act→World→Prop} {Q:Exit→Act→World→Prop} (s x:Operand) (t:TypeId)
  (ho:o.op=.call { callee:=.builtin .append,args:=#[s,x],argTypes:=#[t,t] }) (d:Option Tmp) (hd:o.dst=d) (base:Nat) (e:TypeId) (i:TypeInfo) (ht:P.underlying t=some (.slice e)) (hi:P.info? e=some i) (hz0:i.zero=some (.int .i64 0)) (hz1:i.size=1) (hz2:i.bytes=8)
  (v:Value) (n:Nat) (xs:List Value) (hs:a.eval s=v) (hown:w.ownsRow base e 1 v n xs) (hbase:base≤w.heap.size) (sa:Option Addr) (b off c m:Nat) (l:List Int) (hm:m=l.length) (hx:a.eval x=.slice sa m c) (hI:IntS w sa b off l) (hl:n+l.length≤1048576)
  (h:∀ v' w',w'.ownsRow base e 1 v' (n+l.length) (xs++nums l)→w.grownBy w' v.ownBlock→(v'.ownBlock=v.ownBlock∨v'.ownBlock=some w.heap.size)→K (a.put d v') w') :
  Oper.wp P o a w K Q:=by
 subst hd
 subst hm
 rcases Nat.eq_zero_or_pos l.length with h0 | hpos
 ·have hl0:l=[]:=List.length_eq_zero_iff.1 h0
  subst hl0
  rw [List.length_nil] at hx
  have hrun:=run_append_zero (P:=P) w t o.type e i ht hi hown sa c
  have hk:=h v w (by simpa [nums] using hown) ⟨rfl,rfl,rfl,Nat.le_refl _,fun _ _ _=>rfl⟩ (Or.inl rfl)
  unfold Oper.wp
  simp [execOp,ho,resolve,invoke,builtin,hs,hx,hrun,Result.andThen]
  exact hk
 ·obtain ⟨rfl⟩:=hI.addr hpos
  obtain ⟨v',w',hrun,h2,h3,_,h5⟩:=run_append_own_at (P:=P) w base t o.type e i (.int .i64 0) 1 8 ht hi hz0 hz1 hz2 rfl (by decide) v n xs hown ⟨b,off,none⟩ l.length c (nums l) (by simp [nums]) (nums_cells hI) (nums_one l) (by unfold maxLen;omega) (by omega) hbase
  have hk:=h v' w' h2 h3 h5
  unfold Oper.wp
  simp [execOp,ho,resolve,invoke,builtin,hs,hx,hrun,Result.andThen]
  exact hk
theorem step_append_nums {P:Program} {ops:Array Oper} {o:Oper} {a:Act} {w:World} {K:Act→World→Prop} {Q:Exit→Act→World→Prop} {E:Prop} (hgd:o.guard=none) (s x:Operand) (t:TypeId)
  (ho:o.op=.call { callee:=.builtin .append,args:=#[s,x],argTypes:=#[t,t] }) (d:Option Tmp) (hd:o.dst=d) (base:Nat) (e:TypeId) (i:TypeInfo) (ht:P.underlying t=some (.slice e)) (hi:P.info? e=some i) (hz0:i.zero=some (.int .i64 0)) (hz1:i.size=1) (hz2:i.bytes=8)
  (v:Value) (n:Nat) (xs:List Value) (hs:a.eval s=v) (hown:w.ownsRow base e 1 v n xs) (hbase:base≤w.heap.size) (sa:Option Addr) (b off c m:Nat) (l:List Int) (hm:m=l.length) (hx:a.eval x=.slice sa m c) (hI:IntS w sa b off l) (hl:n+l.length≤1048576)
  (h:∀ v' w',w'.ownsRow base e 1 v' (n+l.length) (xs++nums l)→w.grownBy w' v.ownBlock→(v'.ownBlock=v.ownBlock∨v'.ownBlock=some w.heap.size)→K (a.put d v') w') :
  if Region.wanted o (yielded ops a.tmps)=true then Oper.wp P o a w K Q else E:=by
 have hw:Region.wanted o (yielded ops a.tmps)=true:=by simp [Region.wanted,hgd]
 rw [if_pos hw]
 exact wp_append_nums s x t ho d hd base e i ht hi hz0 hz1 hz2 v n xs hs hown hbase sa b off c m l hm hx hI hl h
end Go.Proofs.YtihfibjckkmmbaaGreat
