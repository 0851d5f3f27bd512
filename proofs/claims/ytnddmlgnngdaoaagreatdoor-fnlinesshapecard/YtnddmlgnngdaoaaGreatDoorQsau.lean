/- spec's all ways, plainly: whom each may have read of, the rows of each place, and how many there are. No condition. And what goes with it: XaMath, XaMem, XaBnd, XaXw, XaXb. -/
import Derived.Laws.AppendOwnNone
import Derived.Test.YtnddmlgnngdaoaaGreatDoorRows
import Derived.Test.YtnddmlgnngdaoaaGreatDoorQsat
namespace Go.Proofs.YtnddmlgnngdaoaaGreatDoor
section
namespace M
def rowsOf (l:List Int):Nat→List Int→List (List Int)
 | 0,h=>[h]
 | n+1,h=>l.flatMap fun v=>if M.has h v then [] else rowsOf l n (h++[v])
def fromsOf (ds:List De):Nat→List Int→List (List Int)
 | 0,f=>[f]
 | n+1,f=>if ((ds[f.length]?).map De.reads).getD false then fromsOf ds n (f++[-1])++(wrs (((ds[f.length]?).map fun x=>x.d.p).getD 0) 0 ds).flatMap fun v=>fromsOf ds n (f++[v]) else fromsOf ds n (f++[-2])
def addPlace (rows:List (List Int)) (out:List (List (List Int))):List (List (List Int)):=out.flatMap fun o=>rows.map fun r=>o++[r]
def ordersOf (ds:List De):List (List (List Int)):=addPlace (rowsOf (wrs 2 0 ds) (wrs 2 0 ds).length []) (addPlace (rowsOf (wrs 1 0 ds) (wrs 1 0 ds).length []) (addPlace (rowsOf (wrs 0 0 ds) (wrs 0 0 ds).length []) [[]]))
theorem flatMap_le {α β:Type} (f:α→List β) (m:Nat):∀ l:List α,(∀ x∈l,(f x).length≤m)→(l.flatMap f).length≤l.length * m
 | [],_=>by simp
 | x::l,h=>by
  have h1:=h x (by simp)
  have h2:=flatMap_le f m l (fun y hy=>h y (List.mem_cons_of_mem _ hy))
  rw [List.flatMap_cons,List.length_append,List.length_cons,Nat.succ_mul]
  omega
theorem rowsOf_len (l:List Int):∀ (n:Nat) (h:List Int),(rowsOf l n h).length≤l.length ^ n
 | 0,h=>by simp [rowsOf]
 | n+1,h=>by
  have:=flatMap_le (fun v=>if M.has h v then [] else rowsOf l n (h++[v])) (l.length ^ n) l (fun v _=>by
   by_cases hc:M.has h v=true
   ·rw [if_pos hc];exact Nat.zero_le _
   ·rw [if_neg hc];exact rowsOf_len l n _)
  rw [rowsOf,Nat.pow_succ,Nat.mul_comm]
  exact this
theorem rowsOf_each (l:List Int):∀ (n:Nat) (h r:List Int),r∈rowsOf l n h→r.length=h.length+n
 | 0,h,r,hr=>by simp [rowsOf] at hr;simp [hr]
 | n+1,h,r,hr=>by
  rw [rowsOf,List.mem_flatMap] at hr
  obtain ⟨v,_,hv⟩:=hr
  by_cases hc:M.has h v=true
  ·rw [if_pos hc] at hv;cases hv
  ·rw [if_neg hc] at hv
   have:=rowsOf_each l n _ r hv
   simp at this
   omega
def rdN (ds:List De):Nat:=(ds.filter De.reads).length
theorem wrs_le (p:Int):∀ (n:Nat) (ds:List De),(wrs p n ds).length≤(ds.filter fun x=>M.writes x.d.k).length
 | _,[]=>by simp [wrs]
 | n,x::ds=>by
  have:=wrs_le p (n+1) ds
  by_cases hw:M.writes x.d.k=true
  ·rw [List.filter_cons_of_pos (by simpa using hw)]
   simp only [wrs,De.to]
   by_cases hp:x.d.p==p
   ·simp only [hw,hp,Bool.and_self,if_true];simp;omega
   ·simp only [hw,hp,Bool.and_false,Bool.false_eq_true,if_false];simp;omega
  ·rw [List.filter_cons_of_neg (by simpa using hw)]
   simp only [wrs,De.to,hw,Bool.false_and,Bool.false_eq_true,if_false]
   exact this
theorem fromsOf_len (ds:List De) (m:Nat) (hm:∀ p,(wrs p 0 ds).length+1≤m):∀ (n:Nat) (f:List Int),f.length+n=ds.length→(fromsOf ds n f).length≤m ^ rdN (ds.drop f.length)
 | 0,f,h=>by
  have h1:=hm 0
  simp only [fromsOf,List.length_singleton]
  exact Nat.one_le_pow _ _ (by omega)
 | n+1,f,h=>by
  have hlt:f.length < ds.length:=by omega
  have e:ds.drop f.length=ds[f.length]::ds.drop (f.length+1):=(List.getElem_cons_drop hlt).symm
  have hstep:∀ v:Int,(fromsOf ds n (f++[v])).length≤m ^ rdN (ds.drop (f.length+1)):=fun v=>by
   have:=fromsOf_len ds m hm n (f++[v]) (by simp;omega)
   simpa using this
  have hx:ds[f.length]?=some ds[f.length]:=List.getElem?_eq_getElem hlt
  rw [fromsOf,hx,e]
  simp only [Option.map_some,Option.getD_some]
  cases hr:De.reads ds[f.length]
  ·rw [if_neg (by simp),rdN,List.filter_cons_of_neg (by simp [hr])]
   exact hstep _
  ·rw [if_pos rfl,rdN,List.filter_cons_of_pos hr,List.length_cons,Nat.pow_succ,List.length_append]
   have h1:=hstep (-1)
   have h2:=flatMap_le (fun v=>fromsOf ds n (f++[v])) _ (wrs (ds[f.length]).d.p 0 ds) (fun v _=>hstep v)
   have h3:=hm (ds[f.length]).d.p
   have h4:((wrs (ds[f.length]).d.p 0 ds).length+1) * m ^ rdN (ds.drop (f.length+1))≤m * m ^ rdN (ds.drop (f.length+1)):=Nat.mul_le_mul_right _ h3
   rw [Nat.add_mul,Nat.one_mul] at h4
   rw [Nat.mul_comm (m ^ _) m]
   unfold rdN at *
   omega
theorem froms_no {ds:List De} {n:Nat} {f:List Int} (hlt:f.length < ds.length) {x:De} (hx:ds[f.length]=x) (hr:M.reads x.d.k=false):fromsOf ds (n+1) f=fromsOf ds n (f++[-2]):=by
 rw [fromsOf,List.getElem?_eq_getElem hlt,hx]
 simp [De.reads,hr]
theorem froms_yes {ds:List De} {n:Nat} {f:List Int} (hlt:f.length < ds.length) {x:De} (hx:ds[f.length]=x) (hr:M.reads x.d.k=true):fromsOf ds (n+1) f=fromsOf ds n (f++[-1])++(wrs x.d.p 0 ds).flatMap fun v=>fromsOf ds n (f++[v]):=by
 rw [fromsOf,List.getElem?_eq_getElem hlt,hx]
 simp [De.reads,hr]
theorem fromsOf_each (ds:List De):∀ (n:Nat) (f r:List Int),r∈fromsOf ds n f→r.length=f.length+n
 | 0,f,r,hr=>by simp [fromsOf] at hr;simp [hr]
 | n+1,f,r,hr=>by
  rw [fromsOf] at hr
  by_cases hc:((ds[f.length]?).map De.reads).getD false=true
  ·rw [if_pos hc,List.mem_append,List.mem_flatMap] at hr
   rcases hr with hv | ⟨v,_,hv⟩
   all_goals
    have:=fromsOf_each ds n _ r hv
    simp at this
    omega
  ·rw [if_neg hc] at hr
   have:=fromsOf_each ds n _ r hr
   simp at this
   omega
theorem addPlace_len (rows:List (List Int)) (out:List (List (List Int))):(addPlace rows out).length=out.length * rows.length:=by
 unfold addPlace
 induction out with
 | nil=>simp
 | cons o out ih=>rw [List.flatMap_cons,List.length_append,ih,List.length_map,List.length_cons,Nat.succ_mul];omega
end M
end
section
open Go.RowKit
theorem Tryz.infoRs:(Tryz.prog.info? 31).map (fun i=>(i.zero,i.size,i.bytes))=some (some (.slice none 0 0),1,24):=by kernel_rfl
theorem grown_refl (w:World) (row:Option Nat):w.grownBy w row:=⟨rfl,rfl,rfl,Nat.le_refl _,fun _ _ _=>rfl⟩
theorem grown_of {w w':World} (h:Below w.heap.size w w') (row:Option Nat):w.grownBy w' row:=⟨h.os,h.tape,h.output,h.size,fun k hk _=>h.block k hk⟩
theorem own_ints {w:World} {base:Nat} {e:TypeId} {v:Value} {l:List Int} (h:w.ownsRow base e 1 v l.length (nums l)):∃ a g c,v=.slice a l.length c∧IntS w a g 0 l∧(a=none→c=0)∧(0 < l.length→base≤g):=by
 rcases h.2 with ⟨hv,hn⟩ | ⟨g,cap,cur,hv,hg,hh,hc,r⟩
 ·have:l=[]:=List.length_eq_zero_iff.1 hn
  subst this
  exact ⟨none,0,0,hv,IntS.nil _ _ _ _,fun _=>rfl,fun h=>absurd h (Nat.lt_irrefl _)⟩
 ·refine ⟨_,g,cap,hv,⟨fun _=>rfl,fun i hi=>?_⟩,fun e=>(by cases e),fun _=>hg⟩
  have:=h.cells (g:=g) (by rw [hv];rfl) i (.int .i64 l[i]) (by simp [nums,hi])
  rwa [Go.WideShapes.add_plain] at this
theorem own_at {w:World} {base g n cap:Nat} {e:TypeId} {l:List Int} {xs:List Value} (h:w.ownsRow base e 1 (.slice (some ⟨g,0,none⟩) n cap) n xs) (hx:xs=nums l):IntS w (some ⟨g,0,none⟩) g 0 l∧base≤g:=by
 refine ⟨⟨fun _=>rfl,fun i hi=>?_⟩,(h.lt g rfl).1⟩
 have:=h.cells (g:=g) rfl i (.int .i64 l[i]) (by rw [hx];simp [nums,hi])
 rwa [Go.WideShapes.add_plain] at this
theorem wp_append_ints {P:Program} {o:Oper} {a:Act} {w:World} {K:Act→World→Prop} {Q:Exit→Act→World→Prop} (s x:Operand) (t:TypeId)
  (ho:o.op=.call { callee:=.builtin .append,args:=#[s,x],argTypes:=#[t,t] }) (base:Nat) (e:TypeId) (i:TypeInfo) (ht:P.underlying t=some (.slice e)) (hi:P.info? e=some i) (hz0:i.zero=some (.int .i64 0)) (hz1:i.size=1) (hz2:i.bytes=8)
  (v:Value) (n:Nat) (xs:List Value) (hs:a.eval s=v) (hown:w.ownsRow base e 1 v n xs) (hbase:base≤w.heap.size) (sa:Option Addr) (b off c:Nat) (l:List Int) (hx:a.eval x=.slice sa l.length c) (hI:IntS w sa b off l) (hl:n+l.length≤1048576) (hc:sa=none→c=0)
  (h:∀ v' w',w'.ownsRow base e 1 v' (n+l.length) (xs++nums l)→w.grownBy w' v.ownBlock→(v'.ownBlock=v.ownBlock∨v'.ownBlock=some w.heap.size)→K (a.put o.dst v') w') :
  Oper.wp P o a w K Q:=by
 cases sa with
 | none =>
  have hl0:l=[]:=by
   rcases Nat.eq_zero_or_pos l.length with h0 | h0
   ·exact List.length_eq_zero_iff.1 h0
   ·cases hI.addr h0
  subst hl0
  obtain ⟨rfl⟩:=hc rfl
  rw [List.length_nil] at hx
  have hrun:=run_append_owned_none (P:=P) (w:=w) base t o.type e i 1 ht hi v n xs hown
  have hk:=h v w (by simpa [nums] using hown) (grown_refl _ _) (.inl rfl)
  unfold Oper.wp
  simp [execOp,ho,resolve,invoke,builtin,hs,hx,hrun,Result.andThen]
  exact hk
 | some ad =>
  have hn:∀ j u,(nums l)[j]?=some u→w.cell? (ad.add j)=some u:=fun j u hj=>by
   have hjl:j < l.length:=by
    have:=(List.getElem?_eq_some_iff.1 hj).1
    simpa [nums] using this
   obtain ⟨rfl⟩:=hI.addr (by omega)
   rw [Go.WideShapes.add_plain,hI.row j hjl]
   simpa [nums,hjl] using hj
  obtain ⟨v',w',hrun,h2,h3,_,h5⟩:=run_append_own_at (P:=P) w base t o.type e i (.int .i64 0) 1 8 ht hi hz0 hz1 hz2 rfl (by decide) v n xs hown ad l.length c (nums l) (by simp [nums]) hn (fun u hu=>by simp [nums] at hu;obtain ⟨_,_,rfl⟩:=hu;rfl) (by unfold maxLen;omega) (by omega) hbase
  have hk:=h v' w' h2 h3 h5
  unfold Oper.wp
  simp [execOp,ho,resolve,invoke,builtin,hs,hx,hrun,Result.andThen]
  exact hk
theorem step_append_ints {P:Program} {ops:Array Oper} {o:Oper} {a:Act} {w:World} {K:Act→World→Prop} {Q:Exit→Act→World→Prop} {E:Prop} (hgd:o.guard=none) (s x:Operand) (t:TypeId)
  (ho:o.op=.call { callee:=.builtin .append,args:=#[s,x],argTypes:=#[t,t] }) (base:Nat) (e:TypeId) (i:TypeInfo) (ht:P.underlying t=some (.slice e)) (hi:P.info? e=some i) (hz0:i.zero=some (.int .i64 0)) (hz1:i.size=1) (hz2:i.bytes=8)
  (v:Value) (n:Nat) (xs:List Value) (hs:a.eval s=v) (hown:w.ownsRow base e 1 v n xs) (hbase:base≤w.heap.size) (sa:Option Addr) (b off c:Nat) (l:List Int) (hx:a.eval x=.slice sa l.length c) (hI:IntS w sa b off l) (hl:n+l.length≤1048576) (hc:sa=none→c=0)
  (h:∀ v' w',w'.ownsRow base e 1 v' (n+l.length) (xs++nums l)→w.grownBy w' v.ownBlock→(v'.ownBlock=v.ownBlock∨v'.ownBlock=some w.heap.size)→K (a.put o.dst v') w') :
  if Region.wanted o (yielded ops a.tmps)=true then Oper.wp P o a w K Q else E:=by
 have hw:Region.wanted o (yielded ops a.tmps)=true:=by simp [Region.wanted,hgd]
 rw [if_pos hw]
 exact wp_append_ints s x t ho base e i ht hi hz0 hz1 hz2 v n xs hs hown hbase sa b off c l hx hI hl hc h
end
section
namespace M
def useN (ds:List De):Nat:=(ds.filter fun x=>uses x.d.k).length
theorem useN_append (l m:List De):useN (l++m)=useN l+useN m:=by simp [useN]
theorem useN_deD (t i:Nat) (lr:Int) (n:Nat) (d:D):useN (deD t i lr n d)=if uses d.k then 1 else 0:=by
 unfold deD useN
 by_cases h:d.k==9
 ·have h9:d.k=9:=by simpa using h
  have hu:uses d.k=false:=by rw [h9];decide
  rw [if_pos h];simp [hu]
 ·rw [if_neg h]
  cases hu:uses d.k<;>simp [hu]
theorem useN_deT (t:Nat):∀ (l:List D) (i:Nat) (lr:Int) (n:Nat),useN (deT t i lr n l)=cnt uses l
 | [],_,_,_=>by simp [deT,useN,cnt]
 | d::l,i,lr,n=>by
  rw [deT,useN_append,useN_deD,useN_deT t l,cnt_cons]
theorem useN_prog:∀ (ll:List (List D)) (t n a u:Nat),progFrom a u ll=true→u+useN (deF t n ll)≤6
 | [],_,_,a,u,h=>by simp [progFrom] at h;simp [deF,useN];omega
 | l::ll,t,n,a,u,h=>by
  by_cases hb:thread l=true
  ·simp only [progFrom,hb,if_true] at h
   have:=useN_prog ll (t+1) (n+(deT t 0 (-1) n l).length) _ _ h
   rw [deF,useN_append,useN_deT]
   omega
  ·simp [progFrom,hb] at h
theorem use6 {ll:List (List D)} (h:prog ll=true):useN (deeds ll)≤6:=by
 simp only [prog,Bool.and_eq_true,decide_eq_true_eq] at h
 have:=useN_prog ll 0 0 0 0 h.2
 unfold deeds
 omega
theorem filter_mono {α:Type} (p q:α→Bool):∀ l:List α,(∀ x∈l,p x=true→q x=true)→(l.filter p).length≤(l.filter q).length
 | [],_=>by simp
 | x::l,h=>by
  have ih:=filter_mono p q l (fun y hy=>h y (List.mem_cons_of_mem _ hy))
  cases hp:p x
  ·rw [List.filter_cons_of_neg (by simp [hp])]
   cases hq:q x
   ·rw [List.filter_cons_of_neg (by simp [hq])];exact ih
   ·rw [List.filter_cons_of_pos hq,List.length_cons];omega
  ·rw [List.filter_cons_of_pos hp,List.filter_cons_of_pos (h x (by simp) hp),List.length_cons,List.length_cons];omega
theorem wr6 {ds:List De} (h:useN ds≤6) (p:Int):(wrs p 0 ds).length≤6:=Nat.le_trans (wrs_le p 0 ds) (Nat.le_trans (filter_mono _ _ ds (fun x _ hx=>by simp [uses,hx])) h)
theorem rows6 {ll:List (List D)} (h:prog ll=true) (p:Int):(rowsOf (wrs p 0 (deeds ll)) (wrs p 0 (deeds ll)).length []).length≤6 ^ (wrs p 0 (deeds ll)).length :=
 Nat.le_trans (rowsOf_len _ _ _) (Nat.pow_le_pow_left (wr6 (use6 h) p) _)
theorem to_one (x:De):(if x.to 0 then 1 else 0)+(if x.to 1 then 1 else 0)+(if x.to 2 then 1 else 0)≤if M.writes x.d.k then 1 else 0:=by
 unfold De.to
 cases M.writes x.d.k
 ·simp
 ·by_cases h0:x.d.p=0
  ·simp [h0]
  ·by_cases h1:x.d.p=1
   ·simp [h1]
   ·by_cases h2:x.d.p=2<;>simp [h0,h1,h2]
theorem wrs_cons (p:Int) (n:Nat) (x:De) (ds:List De):(wrs p n (x::ds)).length=(if x.to p then 1 else 0)+(wrs p (n+1) ds).length:=by
 rw [wrs]
 cases x.to p
 ·simp
 ·simp;omega
theorem wrs_three:∀ (n:Nat) (ds:List De),(wrs 0 n ds).length+(wrs 1 n ds).length+(wrs 2 n ds).length≤(ds.filter fun x=>M.writes x.d.k).length
 | _,[]=>by simp [wrs]
 | n,x::ds=>by
  have ih:=wrs_three (n+1) ds
  have h1:=to_one x
  rw [wrs_cons,wrs_cons,wrs_cons]
  cases hw:M.writes x.d.k
  ·rw [List.filter_cons_of_neg (by simp [hw])]
   simp only [hw,Bool.false_eq_true,if_false] at h1
   omega
  ·rw [List.filter_cons_of_pos (by simp [hw]),List.length_cons]
   simp only [hw,if_true] at h1
   omega
end M
end
section
open Go.RowKit
def Off1 (v:Value) (row:Option Nat):Prop:=∀ k,v.ownBlock=some k→row≠some k
theorem Off1.kept {w w':World} {base n:Nat} {e:TypeId} {size:Nat} {v:Value} {xs:List Value} {row:Option Nat} (h:w.ownsRow base e size v n xs) (hg:w.grownBy w' row) (ho:Off1 v row):w'.ownsRow base e size v n xs :=
 h.kept hg (by
  cases hv:v.ownBlock with
  | none=>exact .inl rfl
  | some k=>exact .inr (fun e=>ho k hv e.symm))
theorem Off1.new {w:World} {base n:Nat} {e:TypeId} {size:Nat} {v:Value} {xs:List Value} (h:w.ownsRow base e size v n xs) {g:Nat} (hg:w.heap.size≤g):Off1 v (some g):=fun k hk e=>by
 have h1:=(h.lt k hk).2
 have h2:g=k:=Option.some.inj e
 omega
theorem Off1.old {w:World} {v:Value} {row:Option Nat} (hv:∀ k,v.ownBlock=some k→w.heap.size≤k) (hr:∀ k,row=some k→k < w.heap.size):Off1 v row:=fun k hk e=>by
 have h1:=hv k hk
 have h2:=hr k e
 omega
structure Xw (w:World) (base:Nat) (fv ov:Value) (l:List Int) (cs:List Value) (rows:List (List Int)):Prop where
 from_:w.ownsRow base 3 1 fv l.length (nums l)
 ord:w.ownsRow base 31 1 ov rows.length cs
 row:∀ i (h:i < rows.length),∃ u,cs[i]?=some u∧w.ownsRow base 3 1 u rows[i].length (nums rows[i])∧Off1 u ov.ownBlock∧Off1 u fv.ownBlock
 apart:Off1 fv ov.ownBlock
 each:∀ (i j:Nat) (u u':Value),i≠j→cs[i]?=some u→cs[j]?=some u'→Off1 u u'.ownBlock
structure Xoff (fv ov:Value) (cs:List Value) (row:Option Nat):Prop where
 from_:Off1 fv row
 ord:Off1 ov row
 row:∀ u∈cs,Off1 u row
theorem Xw.grown {w w':World} {base:Nat} {fv ov:Value} {l:List Int} {cs:List Value} {rows:List (List Int)} {row:Option Nat} (h:Xw w base fv ov l cs rows) (hg:w.grownBy w' row) (ho:Xoff fv ov cs row):Xw w' base fv ov l cs rows :=
 ⟨ho.from_.kept h.from_ hg,ho.ord.kept h.ord hg,fun i hi=>by
  obtain ⟨u,e1,e2,e3,e4⟩:=h.row i hi
  exact ⟨u,e1,(ho.row u (List.mem_of_getElem? e1)).kept e2 hg,e3,e4⟩,h.apart,h.each⟩
theorem Xoff.none (fv ov:Value) (cs:List Value):Xoff fv ov cs none:=⟨fun _ _ e=>(by cases e),fun _ _ e=>(by cases e),fun _ _ _ _ e=>(by cases e)⟩
theorem Xw.below {w w':World} {base:Nat} {fv ov:Value} {l:List Int} {cs:List Value} {rows:List (List Int)} (h:Xw w base fv ov l cs rows) (hb:Below w.heap.size w w'):Xw w' base fv ov l cs rows:=h.grown (grown_of hb none) (Xoff.none _ _ _)
theorem Xw.new {w:World} {base:Nat} {fv ov:Value} {l:List Int} {cs:List Value} {rows:List (List Int)} (h:Xw w base fv ov l cs rows) {g:Nat} (hg:w.heap.size≤g):Xoff fv ov cs (some g) :=
 ⟨Off1.new h.from_ hg,Off1.new h.ord hg,fun u hu=>by
  obtain ⟨i,hi,e⟩:=List.mem_iff_getElem.1 hu
  have hl:cs.length=rows.length:=by have:=h.ord.1;omega
  obtain ⟨u',e1,e2,_⟩:=h.row i (by omega)
  rw [List.getElem?_eq_getElem hi,e] at e1
  rw [Option.some.inj e1]
  exact Off1.new e2 hg⟩
theorem Xw.start {w:World} {base:Nat} {fv:Value} {l:List Int} (h:w.ownsRow base 3 1 fv l.length (nums l)):Xw w base fv (.slice none 0 0) l [] [] :=
 ⟨h,World.ownsRow_nil _ _ _ _,fun _ hi=>absurd hi (Nat.not_lt_zero _),fun _ _ e=>(by cases e),fun _ _ _ _ _ e=>(by simp at e)⟩
theorem Xw.snoc {w W w':World} {base:Nat} {fv ov u:Value} {l r:List Int} {cs:List Value} {rows:List (List Int)} {g cap:Nat} (h:Xw w base fv ov l cs rows) (hb:Below w.heap.size w W) (hu:W.ownsRow base 3 1 u r.length (nums r)) (hnew:∀ k,u.ownBlock=some k→w.heap.size≤k)
  (ho:w'.ownsRow base 31 1 (.slice (some ⟨g,0,none⟩) (rows.length+1) cap) (rows.length+1) (cs++[u])) (hg:W.grownBy w' ov.ownBlock) (hat:ov.ownBlock=some g∨g=W.heap.size):Xw w' base fv (.slice (some ⟨g,0,none⟩) (rows.length+1) cap) l (cs++[u]) (rows++[r]):=by
 have hl:cs.length=rows.length:=by have:=h.ord.1;omega
 have hW:=h.below hb
 have hol:∀ k,ov.ownBlock=some k→k < w.heap.size:=fun k hk=>(h.ord.lt k hk).2
 have huo:Off1 u ov.ownBlock:=Off1.old hnew hol
 have huf:Off1 u fv.ownBlock:=Off1.old hnew (fun k hk=>(h.from_.lt k hk).2)
 have turn:∀ {v:Value} {e:TypeId} {n:Nat} {xs:List Value},W.ownsRow base e 1 v n xs→Off1 v ov.ownBlock→Off1 v (some g):=fun hv ho=>by
  rcases hat with e | e
  ·rw [← e];exact ho
  ·exact Off1.new hv (by omega)
 have hold:∀ (i:Nat) (u':Value),cs[i]?=some u'→∀ k,u'.ownBlock=some k→k < w.heap.size:=fun i u' hi k hk=>by
  have hil:=(List.getElem?_eq_some_iff.1 hi).1
  obtain ⟨u2,e1,e2,_⟩:=h.row i (by omega)
  rw [hi] at e1
  rw [← Option.some.inj e1] at e2
  exact (e2.lt k hk).2
 refine ⟨h.apart.kept hW.from_ hg,by rw [List.length_append];exact ho,fun i hi=>?_,turn hW.from_ h.apart,fun i j u1 u2 hij h1 h2=>?_⟩
 ·rcases Nat.lt_or_ge i rows.length with h1 | h1
  ·obtain ⟨u',e1,e2,e3,e4⟩:=hW.row i h1
   rw [List.getElem_append_left h1]
   exact ⟨u',by rw [List.getElem?_append_left (by omega)];exact e1,e3.kept e2 hg,turn e2 e3,e4⟩
  ·have hie:i=rows.length:=by simp at hi;omega
   subst hie
   have e0:(rows++[r])[rows.length]=r:=by simp
   rw [e0]
   exact ⟨u,by rw [List.getElem?_append_right (by omega),hl];simp,huo.kept hu hg,turn hu huo,huf⟩
 ·have c1:=(List.getElem?_eq_some_iff.1 h1).1
  have c2:=(List.getElem?_eq_some_iff.1 h2).1
  simp only [List.length_append,List.length_singleton] at c1 c2
  rcases Nat.lt_or_ge i cs.length with i1 | i1
  ·rw [List.getElem?_append_left i1] at h1
   rcases Nat.lt_or_ge j cs.length with j1 | j1
   ·rw [List.getElem?_append_left j1] at h2
    exact h.each i j u1 u2 hij h1 h2
   ·have hj:j=cs.length:=by omega
    subst hj
    have e2:u=u2:=by simpa using h2
    subst e2
    intro k hk e
    have a1:=hold i u1 h1 k hk
    have a2:=hnew k e
    omega
  ·have hi:i=cs.length:=by omega
   subst hi
   have e1:u=u1:=by simpa using h1
   subst e1
   rw [List.getElem?_append_left (by omega)] at h2
   exact Off1.old hnew (hold j u2 h2)
end
section
open Go.RowKit
theorem grown_set (w:World) (X i:Nat) (u:Value):w.grownBy (w.setCell ⟨X,i,none⟩ u) (some X) :=
 ⟨rfl,rfl,rfl,by simp [World.setCell],fun k _ hne=>Below.heap_setCell _ _ _ _ (fun e=>hne (by rw [e]))⟩
theorem Xw.mono {w:World} {base base':Nat} {fv ov:Value} {l:List Int} {cs:List Value} {rows:List (List Int)} (h:Xw w base fv ov l cs rows) (hb:base'≤base):Xw w base' fv ov l cs rows :=
 ⟨own_mono h.from_ hb,own_mono h.ord hb,fun i hi=>by
  obtain ⟨u,e1,e2,e3⟩:=h.row i hi
  exact ⟨u,e1,own_mono e2 hb,e3⟩,h.apart,h.each⟩
theorem Xw.off {w:World} {base:Nat} {fv ov:Value} {l:List Int} {cs:List Value} {rows:List (List Int)} {row:Option Nat} (h:Xw w base fv ov l cs rows) (hr:∀ k,row=some k→k < base):Xoff fv ov cs row:=by
 have o:∀ {v:Value} {e:TypeId} {n:Nat} {xs:List Value},w.ownsRow base e 1 v n xs→Off1 v row:=fun hv k hk e=>by
  have:=(hv.lt k hk).1
  have:=hr k e
  omega
 refine ⟨o h.from_,o h.ord,fun u hu=>?_⟩
 obtain ⟨i,hi,e⟩:=List.mem_iff_getElem.1 hu
 have hl:cs.length=rows.length:=by have:=h.ord.1;omega
 obtain ⟨u',e1,e2,_⟩:=h.row i (by omega)
 rw [List.getElem?_eq_getElem hi,e] at e1
 rw [Option.some.inj e1]
 exact o e2
structure Xb (B:Nat) (wy w:World) (X:Nat) (fv ov:Value) (l:List Int) (cs:List Value) (rows:List (List Int)):Prop where
 bel:Below B wy w
 ge:B≤X
 c0:w.cell? ⟨X,0,none⟩=some fv
 c1:w.cell? ⟨X,1,none⟩=some ov
 fz:∀ j,w.frozen? ⟨X,j,none⟩=false
 xw:Xw w B fv ov l cs rows
 off:Xoff fv ov cs (some X)
theorem Xb.lt {B:Nat} {wy w:World} {X:Nat} {fv ov:Value} {l:List Int} {cs:List Value} {rows:List (List Int)} (h:Xb B wy w X fv ov l cs rows):X < w.heap.size:=World.block_lt_of_cell? _ _ h.c0
theorem Xb.below {B:Nat} {wy w w':World} {X:Nat} {fv ov:Value} {l:List Int} {cs:List Value} {rows:List (List Int)} (h:Xb B wy w X fv ov l cs rows) (hb:Below w.heap.size w w'):Xb B wy w' X fv ov l cs rows :=
 ⟨h.bel.trans (hb.mono (Nat.le_trans h.ge (Nat.le_of_lt h.lt))),h.ge,(hb.cell (p:=⟨X,0,none⟩) h.lt).trans h.c0,(hb.cell (p:=⟨X,1,none⟩) h.lt).trans h.c1,fun j=>(hb.frozen (p:=⟨X,j,none⟩) h.lt).trans (h.fz j),h.xw.below hb,h.off⟩
theorem Xb.start {wy w1:World} {fv:Value} {l:List Int} (hb:Below wy.heap.size wy w1) (hown:w1.ownsRow wy.heap.size 3 1 fv l.length (nums l)):Xb wy.heap.size wy (w1.alloc (.cells #[fv,.slice none 0 0] 122)) w1.heap.size fv (.slice none 0 0) l [] [] :=
 ⟨hb.alloc hb.size _,hb.size,by simp,by simp,fun j=>by simp,(Xw.start hown).below (below1 _ _),(Xw.start hown).new (Nat.le_refl _)⟩
theorem Xb.snoc {B:Nat} {wy w W w':World} {X:Nat} {fv ov u:Value} {l r:List Int} {cs:List Value} {rows:List (List Int)} {g cap:Nat} (h:Xb B wy w X fv ov l cs rows) (hb:Below w.heap.size w W) (hu:W.ownsRow w.heap.size 3 1 u r.length (nums r))
  (ho:w'.ownsRow B 31 1 (.slice (some ⟨g,0,none⟩) (rows.length+1) cap) (rows.length+1) (cs++[u])) (hg:W.grownBy w' ov.ownBlock) (hat:ov.ownBlock=some g∨g=W.heap.size) :
  Xb B wy (w'.setCell ⟨X,1,none⟩ (.slice (some ⟨g,0,none⟩) (rows.length+1) cap)) X fv (.slice (some ⟨g,0,none⟩) (rows.length+1) cap) l (cs++[u]) (rows++[r]):=by
 have hlt:=h.lt
 have hBw:B≤w.heap.size:=Nat.le_trans h.ge (Nat.le_of_lt hlt)
 have hx:=h.xw.snoc hb (own_mono hu hBw) (own_ge hu) ho hg hat
 have hne:some X≠ov.ownBlock:=fun e=>h.off.ord X e.symm rfl
 have hltW:X < W.heap.size:=Nat.lt_of_lt_of_le hlt hb.size
 have hoff:Xoff fv (.slice (some ⟨g,0,none⟩) (rows.length+1) cap) (cs++[u]) (some X):=by
  refine ⟨h.off.from_,fun k hk e=>?_,fun v hv=>?_⟩
  ·have hk':g=k:=Option.some.inj hk
   have he:X=k:=Option.some.inj e
   rcases hat with e1 | e1
   ·exact hne (by rw [e1,hk',he])
   ·omega
  ·rcases List.mem_append.1 hv with h1 | h1
   ·exact h.off.row v h1
   ·rw [List.mem_singleton.1 h1]
    intro k hk e
    have:=own_ge hu k hk
    have he:X=k:=Option.some.inj e
    omega
 have k0:=(hg.cell_far ⟨X,0,none⟩ hltW hne).trans ((hb.cell (p:=⟨X,0,none⟩) hlt).trans h.c0)
 have k1:=(hg.cell_far ⟨X,1,none⟩ hltW hne).trans ((hb.cell (p:=⟨X,1,none⟩) hlt).trans h.c1)
 have kf:∀ j,w'.frozen? ⟨X,j,none⟩=false:=fun j=>(World.frozen?_of_block (w:=W) (a:=⟨X,j,none⟩) (hg.block X hltW hne)).trans ((hb.frozen (p:=⟨X,j,none⟩) hlt).trans (h.fz j))
 refine ⟨(below_grown (h.bel.trans (hb.mono hBw)) hg (own_ge h.xw.ord) (Nat.le_trans hBw hb.size)).setCell h.ge _,h.ge,?_,World.cell?_setCell_same _ _ _ k1,fun j=>by rw [World.frozen?_setCell];exact kf j,hx.grown (grown_set _ _ _ _) hoff,hoff⟩
 rw [World.cell?_setCell_other _ _ _ _ (fun e=>by have:=congrArg Addr.off e;simp at this)]
 exact k0
end
end Go.Proofs.YtnddmlgnngdaoaaGreatDoor
