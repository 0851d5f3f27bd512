/- Boxes of one cell kept by what only lays blocks. No condition. And what goes with it: TnBase, TnGo, TnMath, TnT, ExSo. -/
import Derived.Deep.WholeRow
import Derived.Deep.OwnRows
import Derived.Test.YtegommoflmmahaaGreatRows
import Derived.Test.YtegommoflmmahaaGreatQuas
import Derived.Test.YtegommoflmmahaaGreatQuau
namespace Go.Proofs.YtegommoflmmahaaGreat
section
open Go.RowKit
theorem Slot1.bl' {w w':World} {b:Nat} {x:Value} (h:Slot1 w b x) (hb:Below w.heap.size w w'):Slot1 w' b x :=
 ⟨(hb.cell (p:=⟨b,0,none⟩) h.lt).trans h.c,(hb.frozen (p:=⟨b,0,none⟩) h.lt).trans h.fz⟩
end
section
open Go.RowKit
theorem step_goV {P:Program} {ops:Array Oper} {o:Oper} {a:Act} {w:World} {K:Act→World→Prop} {Q:Exit→Act→World→Prop} {E:Prop}
  (hw:Region.wanted o (yielded ops a.tmps)=true) (d:Option Tmp) (hd:o.dst=d) (f:FuncId) (os:Array Operand) (ts:Array TypeId) (hop:o.op=Op.call { callee:=Callee.value (Operand.func f),args:=os,argTypes:=ts })
  (vals:Array Value) (hv:os.map a.eval=vals) (he:∀ args w,(callFunc f args).run P w=.ok (.enter f args) w) {R:Ending→World→Prop} (hc:Calls P f vals w R)
  (hK:∀ e w',R e w'→∃ v,e=.returned v∧K (a.put d v) w') :
  if Region.wanted o (yielded ops a.tmps)=true then Oper.wp P o a w K Q else E:=by
 subst hd
 rw [if_pos hw]
 subst hv
 have hr:(execOp a.eval o).run P w=.ok (.enter f (os.map a.eval)) w:=by
  simp [execOp,hop,resolve,invoke,Act.eval,Deferred.ofValue,he]
 unfold Oper.wp
 rw [hr,Oper.upon_enter]
 refine hc.mono fun e w' h=>?_
 obtain ⟨v,rfl,hk⟩:=hK e w' h
 exact hk
theorem sg {P:Program} {ops:Array Oper} {o:Oper} {a:Act} {w:World} {K:Act→World→Prop} {Q:Exit→Act→World→Prop} {E:Prop}
    (t:Nat) (hd:o.dst=some t) (f:FuncId) (os:Array Operand) {ts:Array TypeId} (hop:o.op=Op.call { callee:=Callee.value (Operand.func f),args:=os,argTypes:=ts })
    (vals:Array Value) (he:∀ args w,(callFunc f args).run P w=.ok (.enter f args) w) {R:Ending→World→Prop} (hc:Calls P f vals w R)
    (hK:∀ e w',R e w'→∃ v,e=.returned v∧K (a.put (some t) v) w') (hw:Region.wanted o (yielded ops a.tmps)=true:=by rfl) (hv:os.map a.eval=vals:=by simp [Act.eval]) :
    if Region.wanted o (yielded ops a.tmps)=true then Oper.wp P o a w K Q else E:=step_goV hw (some t) hd f os ts hop vals hv he hc hK
theorem run_append_nilT {P:Program} (w:World) (t ty e:TypeId) (i:TypeInfo) (ht:P.underlying t=some (.slice e)) (hi:P.info? e=some i) (a:Option Addr) (c:Nat) :
  (Builtin.append_ #[t,t] ty #[.slice none 0 0,.slice a 0 c]).run P w=.ok (.slice none 0 0) w:=by
 cases a
 ·simp [Builtin.append_,run_underlying ht,sizeOf,typeInfo,hi,Builtin.lenOf,Builtin.firstCells]
 ·simp [Builtin.append_,run_underlying ht,sizeOf,typeInfo,hi,Builtin.lenOf,Builtin.firstCells,loadCells,loadCellsFrom]
theorem wpList_append_nilT {P:Program} {w:World} {ops:Array Oper} {rest:List Oper} {o:Oper} {a:Act} {Q:Exit→Act→World→Prop} (hgd:o.guard=none) (s x:Operand) (t:TypeId)
  (ho:o.op=.call { callee:=.builtin .append,args:=#[s,x],argTypes:=#[t,t] }) (e:TypeId) (i:TypeInfo) (ht:P.underlying t=some (.slice e)) (hi:P.info? e=some i)
  (hs:a.eval s=.slice none 0 0) (b:Option Addr) (c:Nat) (hx:a.eval x=.slice b 0 c)
  (h:wpList P ops Q rest (a.put o.dst (.slice none 0 0)) w):wpList P ops Q (o::rest) a w:=by
 refine wpList_plain hgd fun K hK=>?_
 have hrun:=run_append_nilT (P:=P) w t o.type e i ht hi b c
 unfold Oper.wp
 simp [execOp,ho,resolve,invoke,builtin,hs,hx,hrun,Result.andThen]
 exact hK _ _ h
theorem own_slx {w:World} {B:Nat} {e:TypeId} {size:Nat} {v:Value} {n:Nat} {xs:List Value} (h:w.ownsRow B e size v n xs):∃ a c,v=.slice a n c:=by
 rcases h.2 with ⟨hv,h0⟩ | ⟨g,cap,cur,hv,_⟩
 ·exact ⟨none,0,by rw [hv,h0]⟩
 ·exact ⟨_,cap,hv⟩
end
section
namespace M
def bel (n:Nat):List Int:=(List.range n).map fun i:Nat=>(i:Int)
def rowOf (row evs:List Int):Bool:=decide (row.length=evs.length)&&evs.all (fun v=>has row v)
def rowN (row:List Int) (n:Nat):Bool:=rowOf row (bel n)
def pick {α:Type} (z:α) (row:List Int) (l:List α):List α:=row.map fun i=>l.getD i.toNat z
end M
end
section
open Go.RowKit
def M.turned {α:Type} (z:α) (row:List Int) (l:List α):List α:=if M.rowN row l.length then M.pick z row l else []
end
section
namespace M
theorem rdN_append (l m:List De):rdN (l++m)=rdN l+rdN m:=by simp [rdN]
theorem rdN_deD (t i:Nat) (lr:Int) (n:Nat) (d:D):rdN (deD t i lr n d)=if reads d.k then 1 else 0:=by
 unfold deD rdN
 by_cases h:d.k==9
 ·have h9:d.k=9:=by simpa using h
  have hu:reads d.k=false:=by rw [h9];decide
  rw [if_pos h];simp [De.reads,hu]
 ·rw [if_neg h]
  cases hu:reads d.k<;>simp [De.reads,hu]
theorem rdN_deT (t:Nat):∀ (l:List D) (i:Nat) (lr:Int) (n:Nat),rdN (deT t i lr n l)=cnt reads l
 | [],_,_,_=>by simp [deT,rdN,cnt]
 | d::l,i,lr,n=>by
  rw [deT,rdN_append,rdN_deD,rdN_deT t l,cnt_cons]
theorem rdN_deF:∀ (ll:List (List D)) (t n:Nat),rdN (deF t n ll)=tot reads ll
 | [],_,_=>by simp [deF,rdN,tot]
 | l::ll,t,n=>by rw [deF,rdN_append,rdN_deT,rdN_deF ll,tot]
theorem rdAt_len (ds:List De) (l:List Int):∀ (xs:List De) (n:Nat),(rdAt ds l n xs).length=rdN xs
 | [],_=>by simp [rdAt,rdN]
 | x::xs,n=>by
  have ih:=rdAt_len ds l xs (n+1)
  unfold rdAt
  cases hx:x.reads
  ·simpa [rdN,hx] using ih
  ·simp [rdN,hx];simpa [rdN] using ih
theorem deed_v3 {ll:List (List D)} (h:prog ll=true):∀ x∈deeds ll,0≤x.d.v∧x.d.v≤3:=by
 intro x hx
 have:=deed_do h x hx
 simp only [doOk,Bool.and_eq_true,valOk] at this
 have hv:=this.2
 split at hv
 ·simp at hv;omega
 ·simp at hv;omega
theorem vl_in {ll:List (List D)} {l:List Int} {rows:List (List Int)} (h:Way ll l rows) (n:Nat) (hn:n < (deeds ll).length):0≤vl (deeds ll) l n∧vl (deeds ll) l n≤3:=by
 obtain ⟨q,hq,_,e⟩:=vl_of h.inn h.len.out h.zero h.fin n hn
 rw [e]
 exact deed_v3 h.prog _ (List.getElem_mem hq)
theorem rdAt_in {ll:List (List D)} {l:List Int} {rows:List (List Int)} (h:Way ll l rows):∀ (xs:List De) (n:Nat),n+xs.length≤(deeds ll).length→vals (rdAt (deeds ll) l n xs)=true
 | [],_,_=>by simp [rdAt,vals]
 | x::xs,n,hn=>by
  simp only [List.length_cons] at hn
  have ih:=rdAt_in h xs (n+1) (by omega)
  have hv:=vl_in h n (by omega)
  unfold rdAt
  split
  ·simp only [vals,List.all_cons,Bool.and_eq_true,decide_eq_true_eq] at ih ⊢
   exact ⟨hv,ih⟩
  ·exact ih
theorem last_in {ll:List (List D)} {l:List Int} {rows:List (List Int)} (h:Way ll l rows):∀ (rs:List (List Int)),(∀ r∈rs,r∈rows)→vals (seenL (deeds ll) l rs)=true
 | [],_=>by simp [seenL,vals]
 | r::rs,hr=>by
  have ih:=last_in h rs (fun x hx=>hr x (List.mem_cons_of_mem _ hx))
  have hv:0≤lastOf (deeds ll) l r∧lastOf (deeds ll) l r≤3:=by
   rcases Nat.eq_zero_or_pos r.length with h0 | h0
   ·rw [List.length_eq_zero_iff.1 h0,last_nil];omega
   ·rw [last_some _ _ h0]
    obtain ⟨m0,m1⟩:=h.mem r (hr r (List.mem_cons_self ..)) _ (List.getElem_mem (show r.length - 1 < r.length by omega))
    obtain ⟨q,hq⟩:=Int.eq_ofNat_of_zero_le m0
    rw [hq] at m1 ⊢
    exact vl_in h q (by omega)
  simp only [seenL,List.map_cons,vals,List.all_cons,Bool.and_eq_true,decide_eq_true_eq] at ih ⊢
  exact ⟨hv,ih⟩
theorem exec_seenOk {ll:List (List D)} {l:List Int} {rows:List (List Int)} (h:execOk ll l rows=true):seenOk ll (execSeen ll l rows).1 (execSeen ll l rows).2=true:=by
 have W:=way_of h
 have e:execSeen ll l rows=(seenR (deeds ll) l,seenL (deeds ll) l rows):=by simp [execSeen,h]
 have h1:((seenR (deeds ll) l).length:Int)=nreads ll:=by
  rw [nreads_ok W.prog,seenR,rdAt_len,deeds,rdN_deF]
 have h2:(seenL (deeds ll) l rows).length=3:=by rw [seenL,List.length_map,W.three.out]
 have h3:vals (seenR (deeds ll) l)=true:=rdAt_in W _ _ (by simp)
 have h4:vals (seenL (deeds ll) l rows)=true:=last_in W rows (fun _ h=>h)
 rw [e]
 simp only [seenOk,h1,h2,h3,h4,decide_true,Bool.and_true]
end M
end
end Go.Proofs.YtegommoflmmahaaGreat
