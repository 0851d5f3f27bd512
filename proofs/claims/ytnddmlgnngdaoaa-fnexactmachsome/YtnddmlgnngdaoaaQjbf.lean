/- spec's machine: a step. Of a program that is one, at a machine that has come to what it may. And what goes with it: SmStep, SmTurn, SmNew, SmSeen, SmRun. -/
import Derived.Deep.OwnRows
import Derived.Test.YtnddmlgnngdaoaaRows
import Derived.Test.YtnddmlgnngdaoaaQjay
import Derived.Test.YtnddmlgnngdaoaaQjaz
import Derived.Test.YtnddmlgnngdaoaaQjba
import Derived.Test.YtnddmlgnngdaoaaQjbb
import Derived.Test.YtnddmlgnngdaoaaQjbc
import Derived.Test.YtnddmlgnngdaoaaQjbd
import Derived.Test.YtnddmlgnngdaoaaQjbe
namespace Go.Proofs.Ytnddmlgnngdaoaa
section
open Go.RowKit
theorem sstep_any (base X i:Nat) (a:Option Addr) (b o c:Nat) (ll:List (List M.D)) (late:Bool) (vs:Rid→Value) (s:M.St) (d:M.D) (w0 w:World) (h0:DoSS w0 a b o ll) (hw0:w0.heap.size≤base) (hb0:Below base w0 w) (h:SM w base X a ll.length c vs s) (htl:i < ll.length) (h3:ll.length≤3) (hp:M.prog ll=true) (I:M.Inv ll s) (E:M.Edge ll.length s) (hd:s.d? ll i=some d) :
  Calls Try.prog 31 #[.pointer (some ⟨X,0,none⟩),.int .i64 i,.bool late] w fun e w'=>e=.returned (.bool (s.step? late ll i).isSome)∧SmR w w' base X a ll.length c (s.step? late ll i):=by
 have hok:=M.thr_ok hp htl (d:=d) (by
  have hg:ll.getD i []=ll[i]:=by simp [htl]
  have hd':=hd
  rw [M.St.d?,hg] at hd'
  exact List.mem_of_getElem? hd')
 simp only [M.doOk,Bool.and_eq_true] at hok
 rcases M.kinds hok.1.1 with hk | hk | hk | hk | hk | hk | hk | hk | hk
 ·exact sstep_1 base X i a b o c ll late vs s d w0 w h0 hw0 hb0 h htl h3 hp I E hd hk
 ·exact sstep_2 base X i a b o c ll late vs s d w0 w h0 hw0 hb0 h htl h3 hp I E hd hk
 ·exact sstep_3 base X i a b o c ll late vs s d w0 w h0 hw0 hb0 h htl h3 hp I E hd hk
 ·exact sstep_4 base X i a b o c ll late vs s d w0 w h0 hw0 hb0 h htl h3 hp I E hd hk
 ·exact sstep_5 base X i a b o c ll late vs s d w0 w h0 hw0 hb0 h htl h3 hp I E hd hk
 ·exact sstep_6 base X i a b o c ll late vs s d w0 w h0 hw0 hb0 h htl h3 hp I E hd hk
 ·exact sstep_7 base X i a b o c ll late vs s d w0 w h0 hw0 hb0 h htl h3 hp I E hd hk
 ·exact sstep_8 base X i a b o c ll late vs s d w0 w h0 hw0 hb0 h htl h3 hp I E hd hk
 ·exact sstep_9 base X i a b o c ll late vs s d w0 w h0 hw0 hb0 h htl h3 hp I E hd hk
end
section
open Go.RowKit
theorem M.step_none {ll:List (List M.D)} {s:M.St} {i:Nat} (late:Bool) (h:s.d? ll i=none):s.step? late ll i=none:=by
 unfold M.St.step?
 rw [h]
end
section
open Go.RowKit
theorem Try.smIntN:(Try.prog.info? 3).map (fun i=>(i.zero,i.size,i.bytes))=some (some (.int .i64 0),1,8):=by kernel_rfl
theorem Try.smDos:(Try.prog.info? 60).map (fun i=>(i.zero,i.size,i.bytes))=some (some (.slice none 0 0),1,24):=by kernel_rfl
theorem Try.smInts:(Try.prog.info? 25).map (fun i=>(i.zero,i.size,i.bytes))=some (some (.slice none 0 0),1,24):=by kernel_rfl
theorem Try.smBools:(Try.prog.info? 56).map (fun i=>(i.zero,i.size,i.bytes))=some (some (.slice none 0 0),1,24):=by kernel_rfl
theorem wpList_app1 {P:Program} {ops:Array Oper} {rest:List Oper} {o:Oper} {a:Act} {w:World} {Q:Exit→Act→World→Prop} (hgd:o.guard=none) (s x:Operand) (t:TypeId)
  (ho:o.op=.call { callee:=.builtin .append,args:=#[s,x],argTypes:=#[t,t] }) (d:Option Tmp) (hd:o.dst=d) (base:Nat) (e:TypeId) (i:TypeInfo) (z:Value) (bytes:Nat) (ht:P.underlying t=some (.slice e)) (hi:P.info? e=some i) (hz:i.zero=some z)
  (hsize:i.size=1) (hby:i.bytes=bytes) (hzs:z.cells.size=1)
  (v:Value) (n:Nat) (xs:List Value) (hs:a.eval s=v) (hown:w.ownsRow base e 1 v n xs)
  (G c:Nat) (u:Value) (hx:a.eval x=.slice (some ⟨G,0,none⟩) 1 c) (hc:w.cell? ⟨G,0,none⟩=some u) (h1:u.oneCell'=true)
  (h63:n+1≤maxLen) (hbytes:(n+1) * bytes≤140737488355328) (hbase:base≤w.heap.size)
  (h:∀ v' w',w'.ownsRow base e 1 v' (n+1) (xs++[u])→w.grownBy w' v.ownBlock→(v'.ownBlock=v.ownBlock∨v'.ownBlock=some w.heap.size)→wpList P ops Q rest (a.put d v') w'):wpList P ops Q (o::rest) a w :=
 wpList_plain hgd fun K hK=>by
  subst hd
  obtain ⟨v',w',hrun,h2,h3,_,h5⟩:=run_append_own_at (P:=P) w base t o.type e i z 1 bytes ht hi hz hsize hby hzs (by omega) v n xs hown ⟨G,0,none⟩ 1 c [u] rfl (fun j y hj=>by
   rw [Go.WideShapes.add_plain]
   match j,hj with
   | 0,hj=>obtain rfl:=Option.some.inj hj;exact hc
   | j+1,hj=>simp at hj) (fun y hy=>by rw [List.mem_singleton.1 hy];exact h1) h63 hbytes hbase
  have hk:=hK _ _ (h v' w' h2 h3 h5)
  unfold Oper.wp
  simp [execOp,ho,resolve,invoke,builtin,hs,hx,hrun,Result.andThen]
  exact hk
def setN (N:Nat→Nat) (k m:Nat):Nat→Nat:=fun j=>if j=k then m else N j
theorem SMN.grow {w w3:World} {base X:Nat} {a:Option Addr} {n c:Nat} {ok:Rid→Prop} {N:Nat→Nat} {us vs:Rid→Value} {s:M.St} (h:SMN w base X a n c ok N us vs s) {k m:Nat} (hk:1≤k∧k≤5) (hok:ok (.top k)) (hg:w.grownBy w3 (vs (.top k)).ownBlock) {v3 u:Value}
  (ho:w3.ownsRow base (s.rw_ n N us (.top k)).e 1 v3 (m+1) ((s.rw_ n N us (.top k)).xs++[u])) (hm:N k=m)
  (hu:(s.rw_ n (setN N k (m+1)) us (.top k)).xs=(s.rw_ n N us (.top k)).xs++[u]) (hat:v3.ownBlock=(vs (.top k)).ownBlock∨∀ k,v3.ownBlock=some k→w.heap.size≤k) :
  SMN (w3.setCell ⟨X,k,none⟩ v3) base X a n c ok (setN N k (m+1)) (setR us (.top k) v3) (setR vs (.top k) v3) s:=by
 have hpar:(s.rw_ n (setN N k (m+1)) us (.top k)).e=(s.rw_ n N us (.top k)).e∧(s.rw_ n (setN N k (m+1)) us (.top k)).k=1∧(s.rw_ n (setN N k (m+1)) us (.top k)).n=m+1:=by
  obtain ⟨h1,h5⟩:=hk
  match k,h1,h5 with
  | 1,_,_=>exact ⟨rfl,rfl,rfl⟩
  | 2,_,_=>exact ⟨rfl,rfl,rfl⟩
  | 3,_,_=>exact ⟨rfl,rfl,rfl⟩
  | 4,_,_=>exact ⟨rfl,rfl,rfl⟩
  | 5,_,_=>exact ⟨rfl,rfl,rfl⟩
 have h1:=h.put (r0:=.top k) (N':=setN N k (m+1)) (us':=us) (s':=s) hok hg (v':=v3) (by rw [hpar.1,hpar.2.1,hpar.2.2,hu];exact ho) hat (fun r _ hne=>by
  have e:∀ j,(.top j)≠(Rid.top k)→setN N k (m+1) j=N j:=fun j hj=>if_neg (fun e=>hj (by rw [e]))
  unfold M.St.rw_
  split<;>first | rfl | (rw [e _ hne])) (fun _=>rfl)
 exact h1.box_set k ⟨hk.1,by omega⟩ v3
theorem SMN.growS {w w3:World} {base X:Nat} {a:Option Addr} {n c:Nat} {ok:Rid→Prop} {N:Nat→Nat} {us vs:Rid→Value} {s:M.St} (h:SMN w base X a n c ok N us vs s) {k m E:Nat} (hE:w.heap.size=E) (hk:k=2∨k=3∨k=5) (hok:ok (.top k)) (hno:¬ ok (.sub k m)) {e:TypeId} {o:Obj}
  (he:(s.rw_ n N us (.sub k m)).e=e) (hn0:(s.rw_ n N us (.sub k m)).n=0) (hx0:(s.rw_ n N us (.sub k m)).xs=[]) (hg:((w.alloc (.cells #[] e)).alloc o).grownBy w3 (vs (.top k)).ownBlock) {v3:Value}
  (ho:w3.ownsRow base (s.rw_ n N us (.top k)).e 1 v3 (m+1) ((s.rw_ n N us (.top k)).xs++[.slice (some ⟨E,0,none⟩) 0 0])) (hm:N k=m)
  (hat:v3.ownBlock=(vs (.top k)).ownBlock∨∀ k,v3.ownBlock=some k→E+2≤k) :
  SMN (w3.setCell ⟨X,k,none⟩ v3) base X a n c (fun r=>r=.sub k m∨ok r) (setN N k (m+1)) (setR (setR us (.sub k m) (.slice (some ⟨E,0,none⟩) 0 0)) (.top k) v3) (setR (setR vs (.sub k m) (.slice (some ⟨E,0,none⟩) 0 0)) (.top k) v3) s:=by
 have hb:base≤w.heap.size:=Nat.le_trans h.bX (Nat.le_of_lt h.lt)
 subst hE
 have h1:=h.add (r0:=.sub k m) hno (below1 w (.cells #[] e)) (v':=.slice (some ⟨w.heap.size,0,none⟩) 0 0) (by
  rw [hn0,hx0,he]
  exact ⟨by simp,.inr ⟨_,0,#[],rfl,hb,heap_alloc_new w _,Nat.le_refl _,Nat.zero_le _,by simp,by simp⟩⟩) (fun k hk=>by simp [Value.ownBlock] at hk;omega)
 have h2:=h1.below (below1 _ o)
 have e1:∀ r,r≠.top k→s.rw_ n N (setR us (.sub k m) (.slice (some ⟨w.heap.size,0,none⟩) 0 0)) r=s.rw_ n N us r:=fun r hne=>by
  have:∀ k' i',(Rid.top k')≠.top k→setR us (.sub k m) (.slice (some ⟨w.heap.size,0,none⟩) 0 0) (.sub k' i')=us (.sub k' i'):=fun k' i' hkk=>setR_ne _ _ (by intro e;exact hkk (by injection e with e1 _;rw [e1]))
  unfold M.St.rw_
  split<;>first | rfl | (congr 1;apply List.map_congr_left;intro j _;exact this _ _ hne)
 have e2:s.rw_ n N (setR us (.sub k m) (.slice (some ⟨w.heap.size,0,none⟩) 0 0)) (.top k)=s.rw_ n N us (.top k):=by
  have:∀ i',i' < m→setR us (.sub k m) (.slice (some ⟨w.heap.size,0,none⟩) 0 0) (.sub k i')=us (.sub k i'):=fun i' hi=>setR_ne _ _ (by intro e;injection e with _ e1;omega)
  rcases hk with rfl | rfl | rfl<;>(simp only [M.St.rw_,hm];refine congrArg (Rw.mk _ 1 m) (List.map_congr_left fun j hj=>this j (List.mem_range.1 hj)))
 have h3:SMN ((w.alloc (.cells #[] e)).alloc o) base X a n c (fun r=>r=.sub k m∨ok r) N (setR us (.sub k m) (.slice (some ⟨w.heap.size,0,none⟩) 0 0)) (setR vs (.sub k m) (.slice (some ⟨w.heap.size,0,none⟩) 0 0)) s:=by
  refine ⟨?_,fun r hr=>?_,h2.ap,h2.bX⟩
  ·have ne:∀ j,setR us (.sub k m) (.slice (some ⟨w.heap.size,0,none⟩) 0 0) (.top j)=us (.top j):=fun j=>setR_ne _ _ (by simp)
   simp only [ne]
   exact h2.box
  ·have:s.rw_ n N (setR us (.sub k m) (.slice (some ⟨w.heap.size,0,none⟩) 0 0)) r=s.rw_ n N us r:=by
    by_cases hr0:r=.top k
    ·rw [hr0];exact e2
    ·exact e1 r hr0
   rw [this]
   exact h2.own r hr
 have hvt:setR vs (.sub k m) (.slice (some ⟨w.heap.size,0,none⟩) 0 0) (.top k)=vs (.top k):=setR_ne _ _ (by simp)
 refine h3.grow (k:=k) (m:=m) (u:=.slice (some ⟨w.heap.size,0,none⟩) 0 0) (by rcases hk with rfl | rfl | rfl<;>exact ⟨by omega,by omega⟩) (Or.inr hok) (by rw [hvt];exact hg) (by rw [e2];exact ho) hm ?_ (by
  rw [hvt]
  rcases hat with e | e
  ·exact Or.inl e
  ·exact Or.inr (fun j hj=>by have:=e j hj;simp;omega))
 have hs:setR us (.sub k m) (.slice (some ⟨w.heap.size,0,none⟩) 0 0) (.sub k m)=.slice (some ⟨w.heap.size,0,none⟩) 0 0:=setR_same _ _ _
 rcases hk with rfl | rfl | rfl<;>simp [M.St.rw_,setN,hm,List.range_succ,hs]
theorem SMN.sub_ok {w:World} {base X:Nat} {a:Option Addr} {n c:Nat} {ok ok':Rid→Prop} {N N':Nat→Nat} {us vs:Rid→Value} {s:M.St} (h:SMN w base X a n c ok N us vs s) (hok:∀ r,ok' r→ok r) (hN:∀ k,1≤k→k≤5→N' k=N k):SMN w base X a n c ok' N' us vs s :=
 ⟨h.box,fun r hr=>by
  have:s.rw_ n N' us r=s.rw_ n N us r:=by
   unfold M.St.rw_
   split<;>first | rfl | (rw [hN _ (by omega) (by omega)])
  rw [this]
  exact h.own r (hok r hr),fun r r' h1 h2=>h.ap r r' (hok r h1) (hok r' h2),h.bX⟩
theorem SMN.boxAt {w w1 w':World} {base X:Nat} {a:Option Addr} {n c:Nat} {ok:Rid→Prop} {N:Nat→Nat} {us vs:Rid→Value} {s:M.St} (h:SMN w base X a n c ok N us vs s) (hb:Below w.heap.size w w1) {r:Rid} (hr:ok r) (hg:w1.grownBy w' (vs r).ownBlock):(∀ j,w'.cell? ⟨X,j,none⟩=(#[.slice a n c,us (.top 1),us (.top 2),us (.top 3),us (.top 4),us (.top 5),us (.top 6)]:Array Value)[j]?)∧∀ j,w'.frozen? ⟨X,j,none⟩=false:=by
 have hX:w'.heap[X]?=w.heap[X]?:=(hg.block X (Nat.lt_of_lt_of_le h.lt hb.size) (fun e=>h.offX hr e.symm)).trans (hb.block X h.lt)
 exact ⟨fun j=>(World.cell?_of_block (a:=⟨X,j,none⟩) hX).trans (h.cel j),fun j=>(World.frozen?_of_block (a:=⟨X,j,none⟩) hX).trans (h.fz j)⟩
theorem SMN.low {w:World} {base base' X:Nat} {a:Option Addr} {n c:Nat} {ok:Rid→Prop} {N:Nat→Nat} {us vs:Rid→Value} {s:M.St} (h:SMN w base X a n c ok N us vs s) (hb:base'≤base):SMN w base' X a n c ok N us vs s :=
 ⟨h.box,fun r hr=>by
  obtain ⟨h1,h2⟩:=h.own r hr
  exact ⟨h1,h2.elim Or.inl (fun ⟨g,cap,cur,x,y,z⟩=>Or.inr ⟨g,cap,cur,x,Nat.le_trans hb y,z⟩)⟩,h.ap,Nat.le_trans hb h.bX⟩
theorem M.st0_t (i:Nat):M.st0.t i=M.th0:=by
 match i with
 | 0=>rfl
 | 1=>rfl
 | 2=>rfl
 | i+3=>rfl
end
section
open Go.RowKit
theorem wp_appI {P:Program} {o:Oper} {a:Act} {w:World} {K:Act→World→Prop} {Q:Exit→Act→World→Prop} (s x:Operand) (t:TypeId)
  (ho:o.op=.call { callee:=.builtin .append,args:=#[s,x],argTypes:=#[t,t] }) (d:Option Tmp) (hd:o.dst=d) (base:Nat) (e:TypeId) (i:TypeInfo) (ht:P.underlying t=some (.slice e)) (hi:P.info? e=some i) (hz0:i.zero=some (.int .i64 0)) (hz1:i.size=1) (hz2:i.bytes=8)
  (v:Value) (n:Nat) (xs:List Value) (hs:a.eval s=v) (hown:w.ownsRow base e 1 v n xs) (hbase:base≤w.heap.size) (sa:Option Addr) (b off c:Nat) (l:List Int) (hx:a.eval x=.slice sa l.length c) (hI:IntS w sa b off l) (hl:n+l.length≤1048576) (hc:sa=none→c=0)
  (h:∀ v' w',w'.ownsRow base e 1 v' (n+l.length) (xs++nums l)→w.grownBy w' v.ownBlock→(v'.ownBlock=v.ownBlock∨v'.ownBlock=some w.heap.size)→K (a.put d v') w') :
  Oper.wp P o a w K Q:=by
 subst hd
 cases sa with
 | none =>
  have hl0:l=[]:=by
   rcases Nat.eq_zero_or_pos l.length with h0 | h0
   ·exact List.length_eq_zero_iff.1 h0
   ·cases hI.addr h0
  subst hl0
  obtain ⟨rfl⟩:=hc rfl
  rw [List.length_nil] at hx
  have hrun:=run_append_owned_none (P:=P) (w:=w) base t o.type e i 1 ht hi v n xs hown
  have hk:=h v w (by simpa [nums] using hown) (gr_refl _ _) (.inl rfl)
  unfold Oper.wp
  simp [execOp,ho,resolve,invoke,builtin,hs,hx,hrun,Result.andThen]
  exact hk
 | some ad =>
  have hn:∀ j u,(nums l)[j]?=some u→w.cell? (ad.add j)=some u:=fun j u hj=>by
   have hjl:j < l.length:=by
    have:=(List.getElem?_eq_some_iff.1 hj).1
    simpa [nums] using this
   obtain ⟨rfl⟩:=hI.addr (by omega)
   rw [Go.WideShapes.add_plain,hI.row j hjl]
   simpa [nums,hjl] using hj
  obtain ⟨v',w',hrun,h2,h3,_,h5⟩:=run_append_own_at (P:=P) w base t o.type e i (.int .i64 0) 1 8 ht hi hz0 hz1 hz2 rfl (by decide) v n xs hown ad l.length c (nums l) (by simp [nums]) hn (fun u hu=>by simp [nums] at hu;obtain ⟨_,_,rfl⟩:=hu;rfl) (by unfold maxLen;omega) (by omega) hbase
  have hk:=h v' w' h2 h3 h5
  unfold Oper.wp
  simp [execOp,ho,resolve,invoke,builtin,hs,hx,hrun,Result.andThen]
  exact hk
theorem step_appI {P:Program} {ops:Array Oper} {o:Oper} {a:Act} {w:World} {K:Act→World→Prop} {Q:Exit→Act→World→Prop} {E:Prop} (hgd:o.guard=none) (s x:Operand) (t:TypeId)
  (ho:o.op=.call { callee:=.builtin .append,args:=#[s,x],argTypes:=#[t,t] }) (d:Option Tmp) (hd:o.dst=d) (base:Nat) (e:TypeId) (i:TypeInfo) (ht:P.underlying t=some (.slice e)) (hi:P.info? e=some i) (hz0:i.zero=some (.int .i64 0)) (hz1:i.size=1) (hz2:i.bytes=8)
  (v:Value) (n:Nat) (xs:List Value) (hs:a.eval s=v) (hown:w.ownsRow base e 1 v n xs) (hbase:base≤w.heap.size) (sa:Option Addr) (b off c:Nat) (l:List Int) (hx:a.eval x=.slice sa l.length c) (hI:IntS w sa b off l) (hl:n+l.length≤1048576) (hc:sa=none→c=0)
  (h:∀ v' w',w'.ownsRow base e 1 v' (n+l.length) (xs++nums l)→w.grownBy w' v.ownBlock→(v'.ownBlock=v.ownBlock∨v'.ownBlock=some w.heap.size)→K (a.put d v') w') :
  if Region.wanted o (yielded ops a.tmps)=true then Oper.wp P o a w K Q else E:=by
 have hw:Region.wanted o (yielded ops a.tmps)=true:=by simp [Region.wanted,hgd]
 rw [if_pos hw]
 exact wp_appI s x t ho d hd base e i ht hi hz0 hz1 hz2 v n xs hs hown hbase sa b off c l hx hI hl hc h
theorem wpList_appI {P:Program} {ops:Array Oper} {rest:List Oper} {o:Oper} {a:Act} {w:World} {Q:Exit→Act→World→Prop} (hgd:o.guard=none) (s x:Operand) (t:TypeId)
  (ho:o.op=.call { callee:=.builtin .append,args:=#[s,x],argTypes:=#[t,t] }) (d:Option Tmp) (hd:o.dst=d) (base:Nat) (e:TypeId) (i:TypeInfo) (ht:P.underlying t=some (.slice e)) (hi:P.info? e=some i) (hz0:i.zero=some (.int .i64 0)) (hz1:i.size=1) (hz2:i.bytes=8)
  (v:Value) (n:Nat) (xs:List Value) (hs:a.eval s=v) (hown:w.ownsRow base e 1 v n xs) (hbase:base≤w.heap.size) (sa:Option Addr) (b off c:Nat) (l:List Int) (hx:a.eval x=.slice sa l.length c) (hI:IntS w sa b off l) (hl:n+l.length≤1048576) (hc:sa=none→c=0)
  (h:∀ v' w',w'.ownsRow base e 1 v' (n+l.length) (xs++nums l)→w.grownBy w' v.ownBlock→(v'.ownBlock=v.ownBlock∨v'.ownBlock=some w.heap.size)→wpList P ops Q rest (a.put d v') w') :
  wpList P ops Q (o::rest) a w :=
 wpList_plain hgd fun _ hK=>wp_appI s x t ho d hd base e i ht hi hz0 hz1 hz2 v n xs hs hown hbase sa b off c l hx hI hl hc fun v' w' h1 h2 h3=>hK _ _ (h v' w' h1 h2 h3)
structure SsA (w wr:World) (S:Nat) (v u:Value) (acc at_:List Int):Prop where
 bel:Below w.heap.size w wr
 lS:w.heap.size < S
 res:Slot2 wr w.heap.size (.slice none 0 0) (.slice none 0 0)
 out:Slot2 wr S v u
 own:wr.ownsRow (w.heap.size+1) 3 1 v acc.length (nums acc)
 row:wr.ownsRow (w.heap.size+1) 3 1 u at_.length (nums at_)
 ap:OffB u v.ownBlock
theorem SsA.below {w wr w1:World} {S:Nat} {v u:Value} {acc at_:List Int} (h:SsA w wr S v u acc at_) (hb:Below wr.heap.size wr w1):SsA w w1 S v u acc at_ :=
 ⟨h.bel.trans (hb.mono h.bel.size),h.lS,h.res.of (hb.block _ h.res.lt),h.out.of (hb.block _ h.out.lt),ownsRow_below h.own hb,ownsRow_below h.row hb,h.ap⟩
theorem SsA.snoc {w wr w3:World} {S:Nat} {v v' u:Value} {acc acc' at_:List Int} (h:SsA w wr S v u acc at_) (hg:wr.grownBy w3 v.ownBlock) (ho:w3.ownsRow (w.heap.size+1) 3 1 v' acc'.length (nums acc')) (hat:v'.ownBlock=v.ownBlock∨v'.ownBlock=some wr.heap.size) :
  SsA w (w3.setCell ⟨S,0,none⟩ v') S v' u acc' at_:=by
 have hS:=h.out.lt
 have hge:=own_ge h.own
 have hs:=Slot2.grown h.out hg h.own
 have hr:=Slot2.grown h.res hg h.own
 have hrow:=h.ap.kept h.row hg
 refine ⟨(below_grown h.bel hg (fun k hk=>by have:=hge k hk;omega) h.bel.size).setCell (by show w.heap.size≤S;exact Nat.le_of_lt h.lS) _,h.lS,hr.far (by have:=h.lS;omega) _,hs.set0 _,own_slot ho hs _,own_slot hrow hs _,?_⟩
 rcases hat with e | e
 ·rw [e];exact h.ap
 ·rw [e];exact fun k hk e'=>by have:=(h.row.lt k hk).2;have:=Option.some.inj e';omega
def M.St.rds (s:M.St) (m:Nat):List Int:=((List.range m).map fun i=>(s.t i).vals).flatten
theorem M.acc_next {s:M.St} (m:Nat):s.rds (m+1)=s.rds m++(s.t m).vals:=by
 unfold M.St.rds
 rw [List.range_succ,List.map_append,List.flatten_append]
 simp
set_option maxHeartbeats 2000000 in
set_option maxRecDepth 100000 in
theorem sseen_any (base X:Nat) (a:Option Addr) (n c:Nat) (vs:Rid→Value) (s:M.St) (w:World) (h:SM w base X a n c vs s) (hn:n≤3) (ha:s.at_.length=3) (hv:∀ i,i < n→(s.t i).vals.length≤6) :
  Calls Try.prog 32 #[.pointer (some ⟨X,0,none⟩)] w fun e w'=>∃ (v u:Value),e=.returned (.agg #[v,u])∧w'.ownsRow w.heap.size 3 1 v (s.rds n).length (nums (s.rds n))∧w'.ownsRow w.heap.size 3 1 u s.at_.length (nums s.at_)∧Below w.heap.size w w':=by
 obtain ⟨i0,hI,hz0,hz1,hz2⟩:=info_parts Try.smIntN
 have lX:=h.lt
 have k6:=h.ck (k:=6) (by omega)
 obtain ⟨a6,g6,c6,hv6,I6,_,hc6⟩:=own_nums h.at_
 rw [hv6] at k6
 have b1:=below1 w (.cells #[.slice none 0 0,.slice none 0 0] 28)
 have b2:=below2 w (.cells #[.slice none 0 0,.slice none 0 0] 28) (.cells #[] 3)
 have R0:Slot2 ((w.alloc (.cells #[.slice none 0 0,.slice none 0 0] 28)).alloc (.cells #[] 3)) w.heap.size (.slice none 0 0) (.slice none 0 0):=⟨(heap_alloc_old (w.alloc _) _ (by simp)).trans (heap_alloc_new w _)⟩
 have h3:s.at_.length≤3:=by omega
 clear ha
 go_enter Try.func32,Try.ntmps32
 go_wp2_with (refine wpList_appI rfl (.tmp 5) (.tmp 9) 25 rfl (some 10) rfl (w.heap.size+1) 3 i0 Try.underlying25 hI hz0 hz1 hz2 (.slice (some ⟨w.heap.size+1,0,none⟩) 0 0) 0 [] (by rfl) (own_emp0 (heap_alloc2_new w _ _) (Nat.le_refl _)) (by simp) a6 g6 0 c6 s.at_ (by rfl) (I6.below b2 (Nat.le_refl _)) (by omega) hc6 ?_;intro u3 w3 ho3 hg3 ha3;have ho3':w3.ownsRow (w.heap.size+1) 3 1 u3 s.at_.length (nums s.at_):=(by simpa using ho3);obtain ⟨au,cu,rfl,_⟩:=own_sl ho3';clear ho3)
 have hbA:=below_grown b2 hg3 (fun k hk=>by simp [Value.ownBlock] at hk;omega) (by simp;omega)
 have R3:=R0.of (hg3.block w.heap.size (by simp;omega) (fun e=>by simp [Value.ownBlock] at e))
 have lw3:w.heap.size < w3.heap.size:=by have:=hg3.size;simp at this;omega
 have A0:SsA w (w3.alloc (.cells #[.slice none 0 0,.slice au s.at_.length cu] 28)) w3.heap.size (.slice none 0 0) (.slice au s.at_.length cu) [] s.at_ :=
  ⟨hbA.alloc (Nat.le_of_lt lw3) _,lw3,R3.of (heap_alloc_old w3 _ lw3),⟨heap_alloc_new w3 _⟩,World.ownsRow_nil _ _ _ _,ho3'.alloc _,fun k _ e=>by cases e⟩
 clear R0 R3 hbA hg3 ho3' ha3 b1 b2 k6
 generalize w3.alloc (.cells #[.slice none 0 0,.slice au s.at_.length cu] 28)=W4 at *
 obtain ⟨S,hS⟩:∃ S,w3.heap.size=S:=⟨_,rfl⟩
 rw [hS] at A0 ⊢
 clear hS lw3
 go_loopw [4] (fun s4 wr=>∃ (m:Nat) (v:Value) (acc:List Int),s4=.int .i64 m∧m≤n∧Hid (acc=s.rds m)∧acc.length≤6 * m∧SsA w wr S v (.slice au s.at_.length cu) acc s.at_) (fun s4 _=>n - (intOf s4).toNat)
 case atStart=>exact ⟨0,_,[],rfl,by omega,rfl,by simp,A0⟩
 case round =>
  obtain ⟨m,v,acc,rfl,hm,HA,hac,A⟩:=hrel
  clear A0
  have hM:=h.below A.bel
  by_cases hlt:m < n
  ·have im:(m:Int) < n:=by omega
   obtain ⟨g3,c3,hv3,_,_⟩:=hM.top (k:=3) (by omega) (by omega)
   have k3:=hM.ck (k:=3) (by omega)
   rw [hv3] at k3
   have kr:=hM.subAt (Or.inr (Or.inl rfl)) hv3 hlt
   obtain ⟨la,L,lc,hvl,IL,_,hcl⟩:=own_nums (hM.reads hlt)
   rw [hvl] at kr
   have h6:=hv m hlt
   have HA2:Hid (s.rds (m+1)=acc++(s.t m).vals):=by show _=_;rw [M.acc_next,HA.out]
   generalize (s.t m).vals=xs at *
   have Ad:=A.below (Below.refl _ _).drew
   have cO:=Ad.out.c0
   have fO:=Ad.out.fz
   have lO:=Ad.out.lt
   clear hv3 hvl hM HA A
   go_wp2_with fail
   go_region_law (refine step_appI rfl (.tmp 22) (.tmp 29) 25 rfl (some 30) rfl (w.heap.size+1) 3 i0 Try.underlying25 hI hz0 hz1 hz2 v acc.length (nums acc) (by rfl) Ad.own (by have:=Ad.lS;omega) la L 0 lc xs (by rfl) (IL.below (Below.refl _ _).drew (Nat.le_refl _)) (by omega) hcl ?_;intro v3 w3 ho3 hg3 ha3;have ho3':w3.ownsRow (w.heap.size+1) 3 1 v3 (acc++xs).length (nums (acc++xs)):=(by rw [List.length_append];simpa [nums] using ho3);have A4:=Ad.snoc hg3 ho3' ha3;obtain ⟨a3,c9,rfl,_⟩:=own_sl ho3';have so3:=Slot2.grown Ad.out hg3 Ad.own;have cS3:=so3.c0;have fS3:=so3.fz;clear ho3 ho3' hg3 ha3 so3)
   all_goals
    go_wp2_with fail
    rw [List.length_append] at A4
    exact ⟨⟨m+1,_,acc++xs,by go_num,by omega,by show _=_;rw [HA2.out],by rw [List.length_append];omega,A4⟩,by simp [intOf];omega⟩
  ·obtain rfl:m=n:=by omega
   have im:¬ (m:Int) < m:=by omega
   obtain ⟨va,vc,rfl,_⟩:=own_sl A.own
   have k3:=hM.ck (k:=3) (by omega)
   obtain ⟨ta,tc,hv3,_⟩:=own_sl (show World.ownsRow _ base 25 1 (vs (.top 3)) m _ from SM.own hM (r:=.top 3) ⟨by omega,by omega⟩)
   rw [hv3] at k3
   have c0:=A.out.c0
   have c1:=A.out.c1
   have fS:=A.out.fz
   have y0:=A.res.c0
   have y1:=A.res.c1
   have yf:=A.res.fz
   have lS:=A.lS
   have R1:=A.res.set0 (.slice va acc.length vc)
   have R2:=R1.set1 (.slice au s.at_.length cu)
   have V:=own_slot (i:=1) (own_slot (i:=0) A.own A.res (.slice va acc.length vc)) R1 (.slice au s.at_.length cu)
   have U:=own_slot (i:=1) (own_slot (i:=0) A.row A.res (.slice va acc.length vc)) R1 (.slice au s.at_.length cu)
   have hbE:=(A.bel.setCell (p:=⟨w.heap.size,0,none⟩) (Nat.le_refl _) (.slice va acc.length vc)).setCell (p:=⟨w.heap.size,1,none⟩) (Nat.le_refl _) (.slice au s.at_.length cu)
   go_wp2_with fail
   refine bodyPost_ret (v:=.agg #[.slice va acc.length vc,.slice au s.at_.length cu]) (by simp [results,Try.results32,go_sem,R2.c0,R2.c1]) rfl ⟨_,_,rfl,?_,?_,hbE⟩
   ·have e:=HA.out
    subst e
    exact own_low V (Nat.le_succ _)
   ·exact own_low U (Nat.le_succ _)
end
section
open Go.RowKit
def SAns (B:Nat) (r:Option M.St) (e:Ending) (w':World):Prop:=∃ (v u:Value),e=.returned (.tuple #[.agg #[v,u],.bool r.isSome])∧w'.ownsRow B 3 1 v (M.runR r).length (nums (M.runR r))∧w'.ownsRow B 3 1 u (M.runL r).length (nums (M.runL r))
structure RuS (w w2 wr:World) (base X:Nat) (a:Option Addr) (n c:Nat) (s:M.St):Prop where
 bel:Below w.heap.size w wr
 k0:wr.cell? ⟨w.heap.size,0,none⟩=some (.slice a n c)
 res:Slot2 wr (w.heap.size+1) (.slice none 0 0) (.slice none 0 0)
 lB:w.heap.size+1 < base
 pb:Below base w2 wr
 m:SME wr base X a n c s
theorem RuS.next {w w2 wr w3:World} {base X:Nat} {a:Option Addr} {n c:Nat} {s s':M.St} (h:RuS w w2 wr base X a n c s) (hb:Below base wr w3) (hm:SME w3 base X a n c s'):RuS w w2 w3 base X a n c s' :=
 ⟨h.bel.trans (hb.mono (by have:=h.lB;omega)),(hb.cell (p:=⟨w.heap.size,0,none⟩) (by have:=h.lB;show w.heap.size < base;omega)).trans h.k0,h.res.of (hb.block _ h.lB),h.lB,h.pb.trans hb,hm⟩
theorem M.rds_eq {ll:List (List M.D)} {s:M.St} (I:M.Inv ll s) (h3:ll.length≤3):s.rds ll.length=s.reads:=by
 have e:∀ i,ll.length≤i→i < 3→(s.t i).vals=[]:=fun i h1 h2=>by
  have:=(I.each i h2).vals
  rw [show ll.getD i []=[] from by simp [h1]] at this
  exact List.length_eq_zero_iff.1 (by rw [this];simp [M.cnt])
 have hth:=I.th
 match hl:s.th,hth with
 | [x,y,z],_ =>
  have e0:s.t 0=x:=by rw [M.St.t,hl];rfl
  have e1:s.t 1=y:=by rw [M.St.t,hl];rfl
  have e2:s.t 2=z:=by rw [M.St.t,hl];rfl
  unfold M.St.rds M.St.reads
  rw [hl]
  match h:ll.length,h3 with
  | 0,_=>rw [h] at e;have:=e 0 (by omega) (by omega);have:=e 1 (by omega) (by omega);have:=e 2 (by omega) (by omega);simp_all
  | 1,_=>rw [h] at e;have:=e 1 (by omega) (by omega);have:=e 2 (by omega) (by omega);simp_all [List.range_succ]
  | 2,_=>rw [h] at e;have:=e 2 (by omega) (by omega);simp_all [List.range_succ]
  | 3,_=>simp_all [List.range_succ]
end
end Go.Proofs.Ytnddmlgnngdaoaa
