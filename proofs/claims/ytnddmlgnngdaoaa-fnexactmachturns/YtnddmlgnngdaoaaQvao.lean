/- spec's machine in memory: a box of seven cells and rows of its own. No condition. And what goes with it: SmMem, SmVal, SmLand, SmOut, SmWait, SmPl, SmWrite, SmStB, SmSta, SmStb, SmStc, SmStd, SmSte, SmStf, SmStg, SmSth. -/
import Derived.Test.YtnddmlgnngdaoaaRows
import Derived.Test.YtnddmlgnngdaoaaQvan
namespace Go.Proofs.Ytnddmlgnngdaoaa
section
open Go.RowKit
def OffB (v:Value) (row:Option Nat):Prop:=∀ k,v.ownBlock=some k→row≠some k
theorem OffB.kept {w w':World} {base n:Nat} {e:TypeId} {size:Nat} {v:Value} {xs:List Value} {row:Option Nat} (ho:OffB v row) (h:w.ownsRow base e size v n xs) (hg:w.grownBy w' row):w'.ownsRow base e size v n xs :=
 h.kept hg (by
  cases hv:v.ownBlock with
  | none=>exact .inl rfl
  | some k=>exact .inr (fun e=>ho k hv e.symm))
theorem own_sl {w:World} {base n:Nat} {e:TypeId} {size:Nat} {v:Value} {xs:List Value} (h:w.ownsRow base e size v n xs):∃ a c,v=.slice a n c∧n≤c:=by
 rcases h.2 with ⟨hv,hn⟩ | ⟨g,cap,cur,hv,_,_,hc,_⟩
 ·exact ⟨none,0,by rw [hv,hn],by omega⟩
 ·exact ⟨_,cap,hv,hc⟩
theorem own_slp {w:World} {base n:Nat} {e:TypeId} {size:Nat} {v:Value} {xs:List Value} (h:w.ownsRow base e size v n xs) (hn:0 < n):∃ g c,v=.slice (some ⟨g,0,none⟩) n c∧base≤g∧n≤c:=by
 rcases h.2 with ⟨hv,h0⟩ | ⟨g,cap,cur,hv,hb,_,hc,_⟩
 ·omega
 ·exact ⟨g,cap,hv,hb,hc⟩
theorem gr_refl (w:World) (row:Option Nat):w.grownBy w row:=⟨rfl,rfl,rfl,Nat.le_refl _,fun _ _ _=>rfl⟩
theorem gr_below {w w':World} (h:Below w.heap.size w w') (row:Option Nat):w.grownBy w' row:=⟨h.os,h.tape,h.output,h.size,fun k hk _=>h.block k hk⟩
theorem step_app {P:Program} {ops:Array Oper} {o:Oper} {a:Act} {w:World} {K:Act→World→Prop} {Q:Exit→Act→World→Prop} {E:Prop} (hgd:o.guard=none) (s x:Operand) (t:TypeId)
  (ho:o.op=.call { callee:=.builtin .append,args:=#[s,x],argTypes:=#[t,t] }) (d:Option Tmp) (hd:o.dst=d) (base:Nat) (e:TypeId) (i:TypeInfo) (z:Value) (size bytes:Nat) (ht:P.underlying t=some (.slice e)) (hi:P.info? e=some i) (hz:i.zero=some z)
  (hsize:i.size=size) (hby:i.bytes=bytes) (hzs:z.cells.size=size) (hsz:0 < size)
  (v:Value) (n:Nat) (xs:List Value) (hs:a.eval s=v) (hown:w.ownsRow base e size v n xs)
  (ad:Addr) (m c:Nat) (news:List Value) (hx:a.eval x=.slice (some ad) m c) (hl:news.length=m * size) (hnews:∀ j u,news[j]?=some u→w.cell? (ad.add j)=some u) (h1:∀ u∈news,u.oneCell'=true)
  (h63:n+m≤maxLen) (hbytes:(n+m) * bytes≤140737488355328) (hbase:base≤w.heap.size)
  (h:∀ v' w',w'.ownsRow base e size v' (n+m) (xs++news)→w.grownBy w' v.ownBlock→(v'.ownBlock=v.ownBlock∨v'.ownBlock=some w.heap.size)→K (a.put d v') w') :
  if Region.wanted o (yielded ops a.tmps)=true then Oper.wp P o a w K Q else E:=by
 subst hd
 have hw:Region.wanted o (yielded ops a.tmps)=true:=by simp [Region.wanted,hgd]
 rw [if_pos hw]
 obtain ⟨v',w',hrun,h2,h3,_,h5⟩:=run_append_own_at (P:=P) w base t o.type e i z size bytes ht hi hz hsize hby hzs hsz v n xs hown ad m c news hl hnews h1 h63 hbytes hbase
 have hk:=h v' w' h2 h3 h5
 unfold Oper.wp
 simp [execOp,ho,resolve,invoke,builtin,hs,hx,hrun,Result.andThen]
 exact hk
structure Rw where
 e:TypeId
 k:Nat
 n:Nat
 xs:List Value
inductive Rid where
 | top (k:Nat)
 | sub (k i:Nat)
deriving DecidableEq
def flatQ:List (Int × Int)→List Value
 | []=>[]
 | q::l=>.int .i64 0::.int .i64 q.1::.int .i64 q.2::flatQ l
theorem flatQ_len:∀ l:List (Int × Int),(flatQ l).length=l.length * 3
 | []=>rfl
 | q::l=>by simp only [flatQ,List.length_cons,flatQ_len l];omega
theorem flatQ_app:∀ l m:List (Int × Int),flatQ (l++m)=flatQ l++flatQ m
 | [],_=>rfl
 | q::l,m=>by simp [flatQ,flatQ_app l m]
theorem flatQ_get:∀ (l:List (Int × Int)) (i:Nat) (h:i < l.length),(flatQ l)[i * 3]?=some (.int .i64 0)∧(flatQ l)[i * 3+1]?=some (.int .i64 l[i].1)∧(flatQ l)[i * 3+2]?=some (.int .i64 l[i].2)
 | q::l,0,_=>⟨rfl,rfl,rfl⟩
 | q::l,i+1,h=>by
  obtain ⟨a,b,c⟩:=flatQ_get l i (by simpa using h)
  rw [show (i+1) * 3=i * 3+1+1+1 from by omega]
  exact ⟨by simpa [flatQ] using a,by simpa [flatQ] using b,by simpa [flatQ] using c⟩
theorem flatQ_one:∀ l:List (Int × Int),∀ u∈flatQ l,u.oneCell'=true
 | [],_,h=>by cases h
 | q::l,u,h=>by
  simp only [flatQ,List.mem_cons] at h
  rcases h with rfl | rfl | rfl | h
  ·rfl
  ·rfl
  ·rfl
  ·exact flatQ_one l u h
def M.Th.wt (n:Nat) (x:M.Th):List Bool:=if x.waits then x.noted.take n else []
def M.St.rw_ (n:Nat) (N:Nat→Nat) (us:Rid→Value) (s:M.St):Rid→Rw
 | .top 1=>⟨3,1,N 1,(List.range (N 1)).map fun i=>.int .i64 (s.t i).next⟩
 | .top 2=>⟨60,1,N 2,(List.range (N 2)).map fun i=>us (.sub 2 i)⟩
 | .top 3=>⟨25,1,N 3,(List.range (N 3)).map fun i=>us (.sub 3 i)⟩
 | .top 4=>⟨4,1,N 4,(List.range (N 4)).map fun i=>.bool (s.t i).inn⟩
 | .top 5=>⟨56,1,N 5,(List.range (N 5)).map fun i=>us (.sub 5 i)⟩
 | .top 6=>⟨3,1,s.at_.length,nums s.at_⟩
 | .sub 2 i=>⟨84,3,(s.t i).pend.length,flatQ (s.t i).pend⟩
 | .sub 3 i=>⟨3,1,(s.t i).vals.length,nums (s.t i).vals⟩
 | .sub 5 i=>⟨4,1,((s.t i).wt n).length,((s.t i).wt n).map .bool⟩
 | _=>⟨3,1,0,[]⟩
theorem rw_e (n:Nat) (N:Nat→Nat) (us:Rid→Value) (s:M.St) (r:Rid):(s.rw_ n N us r).e≠59:=by
 unfold M.St.rw_
 split<;>(dsimp only;decide)
def setR (f:Rid→Value) (r:Rid) (v:Value):Rid→Value:=fun r'=>if r'=r then v else f r'
theorem setR_same (f:Rid→Value) (r:Rid) (v:Value):setR f r v r=v:=if_pos rfl
theorem setR_ne (f:Rid→Value) {r r':Rid} (v:Value) (h:r'≠r):setR f r v r'=f r':=if_neg h
theorem setR_self (f:Rid→Value) (r:Rid):setR f r (f r)=f:=funext fun r'=>by
 unfold setR;split
 ·rename_i h;rw [h]
 ·rfl
structure SMN (w:World) (base X:Nat) (a:Option Addr) (n c:Nat) (ok:Rid→Prop) (N:Nat→Nat) (us vs:Rid→Value) (s:M.St):Prop where
 box:w.heap[X]?=some (.cells #[.slice a n c,us (.top 1),us (.top 2),us (.top 3),us (.top 4),us (.top 5),us (.top 6)] 59 (0,0))
 own:∀ r,ok r→w.ownsRow base (s.rw_ n N us r).e (s.rw_ n N us r).k (vs r) (s.rw_ n N us r).n (s.rw_ n N us r).xs
 ap:∀ r r',ok r→ok r'→r≠r'→OffB (vs r) (vs r').ownBlock
 bX:base≤X
theorem SMN.lt {w:World} {base X:Nat} {a:Option Addr} {n c:Nat} {ok:Rid→Prop} {N:Nat→Nat} {us vs:Rid→Value} {s:M.St} (h:SMN w base X a n c ok N us vs s):X < w.heap.size:=by
 by_cases hb:X < w.heap.size
 ·exact hb
 ·have:=h.box;rw [Array.getElem?_eq_none (by omega)] at this;cases this
theorem SMN.offX {w:World} {base X:Nat} {a:Option Addr} {n c:Nat} {ok:Rid→Prop} {N:Nat→Nat} {us vs:Rid→Value} {s:M.St} (h:SMN w base X a n c ok N us vs s) {r:Rid} (hr:ok r):(vs r).ownBlock≠some X:=fun e=>by
 rcases (h.own r hr).2 with ⟨hv,_⟩ | ⟨g,cap,cur,hv,_,hh,_⟩
 ·rw [hv] at e;cases e
 ·rw [hv] at e
  obtain rfl:g=X:=by simpa [Value.ownBlock] using e
  rw [h.box] at hh
  simp only [Option.some.injEq,Obj.cells.injEq] at hh
  exact rw_e n N us s r hh.2.1.symm
theorem SMN.cel {w:World} {base X:Nat} {a:Option Addr} {n c:Nat} {ok:Rid→Prop} {N:Nat→Nat} {us vs:Rid→Value} {s:M.St} (h:SMN w base X a n c ok N us vs s) (j:Nat):w.cell? ⟨X,j,none⟩=(#[.slice a n c,us (.top 1),us (.top 2),us (.top 3),us (.top 4),us (.top 5),us (.top 6)]:Array Value)[j]?:=cell_of_row _ _ _ _ _ _ h.box
theorem SMN.fz {w:World} {base X:Nat} {a:Option Addr} {n c:Nat} {ok:Rid→Prop} {N:Nat→Nat} {us vs:Rid→Value} {s:M.St} (h:SMN w base X a n c ok N us vs s) (j:Nat):w.frozen? ⟨X,j,none⟩=false:=frozen_of_row _ _ _ _ _ h.box
theorem SMN.below {w w':World} {base X:Nat} {a:Option Addr} {n c:Nat} {ok:Rid→Prop} {N:Nat→Nat} {us vs:Rid→Value} {s:M.St} (h:SMN w base X a n c ok N us vs s) (hb:Below w.heap.size w w'):SMN w' base X a n c ok N us vs s :=
 ⟨(hb.block X h.lt).trans h.box,fun r hr=>ownsRow_below (h.own r hr) hb,h.ap,h.bX⟩
theorem SMN.blk {w w':World} {base X:Nat} {a:Option Addr} {n c:Nat} {ok:Rid→Prop} {N:Nat→Nat} {us vs:Rid→Value} {s:M.St} (h:SMN w base X a n c ok N us vs s) {r:Rid} (hr:ok r) (hg:w.grownBy w' (vs r).ownBlock):w'.heap[X]?=w.heap[X]? :=
 hg.block X h.lt (fun e=>h.offX hr e.symm)
theorem SMN.put {w w':World} {base X:Nat} {a:Option Addr} {n c:Nat} {ok:Rid→Prop} {N N':Nat→Nat} {us us' vs:Rid→Value} {s s':M.St} (h:SMN w base X a n c ok N us vs s) {r0:Rid} (hr:ok r0) (hg:w.grownBy w' (vs r0).ownBlock) {v':Value}
  (ho:w'.ownsRow base (s'.rw_ n N' us' r0).e (s'.rw_ n N' us' r0).k v' (s'.rw_ n N' us' r0).n (s'.rw_ n N' us' r0).xs) (hat:v'.ownBlock=(vs r0).ownBlock∨∀ k,v'.ownBlock=some k→w.heap.size≤k)
  (hrest:∀ r,ok r→r≠r0→s'.rw_ n N' us' r=s.rw_ n N us r) (htop:∀ k,us' (.top k)=us (.top k)):SMN w' base X a n c ok N' us' (setR vs r0 v') s':=by
 have hoff:∀ r,ok r→r≠r0→OffB (vs r) v'.ownBlock∧OffB v' (vs r).ownBlock:=fun r hr' hne=>by
  rcases hat with e | e
  ·rw [e]
   exact ⟨h.ap r r0 hr' hr hne,fun k hk=>h.ap r0 r hr hr' (fun e=>hne e.symm) k (by rw [← e];exact hk)⟩
  ·have hl:=fun k hk=>((h.own r hr').lt k hk).2
   exact ⟨fun k hk e'=>by have:=e k e';have:=hl k hk;omega,fun k hk e'=>by have:=e k hk;have:=hl k e';omega⟩
 refine ⟨?_,fun r hr'=>?_,fun r r' h1 h2 hne=>?_,h.bX⟩
 ·rw [h.blk hr hg,h.box]
  simp only [htop]
 ·by_cases e:r=r0
  ·subst e;rw [setR_same];exact ho
  ·rw [setR_ne _ _ e,hrest r hr' e]
   exact (h.ap r r0 hr' hr e).kept (h.own r hr') hg
 ·by_cases e1:r=r0
  ·subst e1
   rw [setR_same,setR_ne _ _ (fun e=>hne e.symm)]
   exact (hoff r' h2 (fun e=>hne e.symm)).2
  ·rw [setR_ne _ _ e1]
   by_cases e2:r'=r0
   ·subst e2;rw [setR_same];exact (hoff r h1 e1).1
   ·rw [setR_ne _ _ e2];exact h.ap r r' h1 h2 hne
theorem SMN.add {w w':World} {base X:Nat} {a:Option Addr} {n c:Nat} {ok:Rid→Prop} {N:Nat→Nat} {us vs:Rid→Value} {s:M.St} (h:SMN w base X a n c ok N us vs s) {r0:Rid} (hr:¬ ok r0) (hb:Below w.heap.size w w') {v':Value}
  (ho:w'.ownsRow base (s.rw_ n N us r0).e (s.rw_ n N us r0).k v' (s.rw_ n N us r0).n (s.rw_ n N us r0).xs) (hat:∀ k,v'.ownBlock=some k→w.heap.size≤k):SMN w' base X a n c (fun r=>r=r0∨ok r) N us (setR vs r0 v') s:=by
 have ne:∀ r,ok r→r≠r0:=fun r hr' e=>hr (e▸hr')
 refine ⟨(hb.block X h.lt).trans h.box,fun r hr'=>?_,fun r r' h1 h2 hne=>?_,h.bX⟩
 ·rcases hr' with rfl | hr'
  ·rw [setR_same];exact ho
  ·rw [setR_ne _ _ (ne r hr')];exact ownsRow_below (h.own r hr') hb
 ·rcases h1 with rfl | h1
  ·rcases h2 with rfl | h2
   ·exact absurd rfl hne
   ·rw [setR_same,setR_ne _ _ (ne r' h2)]
    exact fun k hk e=>by have:=hat k hk;have:=((h.own r' h2).lt k e).2;omega
  ·rw [setR_ne _ _ (ne r h1)]
   rcases h2 with rfl | h2
   ·rw [setR_same]
    exact fun k hk e=>by have:=hat k e;have:=((h.own r h1).lt k hk).2;omega
   ·rw [setR_ne _ _ (ne r' h2)];exact h.ap r r' h1 h2 hne
theorem rw_top (n:Nat) (N:Nat→Nat) (us:Rid→Value) (s:M.St) (k:Nat) (v:Value) (r:Rid):s.rw_ n N (setR us (.top k) v) r=s.rw_ n N us r:=by
 have e:∀ j i,setR us (.top k) v (.sub j i)=us (.sub j i):=fun j i=>setR_ne _ _ (by simp)
 unfold M.St.rw_
 split<;>simp only [e]
theorem SMN.box_set {w:World} {base X:Nat} {a:Option Addr} {n c:Nat} {ok:Rid→Prop} {N:Nat→Nat} {us vs:Rid→Value} {s:M.St} (h:SMN w base X a n c ok N us vs s) (k:Nat) (hk:1≤k∧k≤6) (v:Value):SMN (w.setCell ⟨X,k,none⟩ v) base X a n c ok N (setR us (.top k) v) vs s:=by
 refine ⟨?_,fun r hr=>?_,h.ap,h.bX⟩
 ·rw [heap_setCell_same w X k _ _ v h.box]
  obtain ⟨h1,h6⟩:=hk
  match k,h1,h6 with
  | 1,_,_=>rfl
  | 2,_,_=>rfl
  | 3,_,_=>rfl
  | 4,_,_=>rfl
  | 5,_,_=>rfl
  | 6,_,_=>rfl
 ·rw [rw_top]
  have hoX:=h.offX hr
  obtain ⟨h1,h2⟩:=h.own r hr
  refine ⟨h1,?_⟩
  rcases h2 with h2 | ⟨g,cap,cur,hv,hg,hh,rr⟩
  ·exact Or.inl h2
  ·refine Or.inr ⟨g,cap,cur,hv,hg,?_,rr⟩
   rw [Below.heap_setCell _ _ _ _ (fun e=>?_)]
   ·exact hh
   ·rw [hv] at hoX;exact hoX (by simp [Value.ownBlock,e])
def okN (n:Nat):Rid→Prop
 | .top k=>1≤k∧k≤6
 | .sub k i=>(k=2∨k=3∨k=5)∧i < n
def SM (w:World) (base X:Nat) (a:Option Addr) (n c:Nat) (vs:Rid→Value) (s:M.St):Prop:=SMN w base X a n c (okN n) (fun _=>n) vs vs s
def SME (w:World) (base X:Nat) (a:Option Addr) (n c:Nat) (s:M.St):Prop:=∃ vs,SM w base X a n c vs s
section
variable {w w' : World} {base X : Nat} {a : Option Addr} {n c : Nat} {vs : Rid → Value} {s s' : M.St}
theorem SM.lt (h:SM w base X a n c vs s):X < w.heap.size:=SMN.lt h
theorem SM.below (h:SM w base X a n c vs s) (hb:Below w.heap.size w w'):SM w' base X a n c vs s:=SMN.below h hb
theorem SM.c0 (h:SM w base X a n c vs s):w.cell? ⟨X,0,none⟩=some (.slice a n c):=SMN.cel h 0
theorem SM.ck (h:SM w base X a n c vs s) {k:Nat} (hk:1≤k∧k≤6):w.cell? ⟨X,k,none⟩=some (vs (.top k)):=by
 refine (SMN.cel h k).trans ?_
 obtain ⟨h1,h6⟩:=hk
 match k,h1,h6 with
 | 1,_,_=>rfl
 | 2,_,_=>rfl
 | 3,_,_=>rfl
 | 4,_,_=>rfl
 | 5,_,_=>rfl
 | 6,_,_=>rfl
theorem SM.top (h:SM w base X a n c vs s) {k:Nat} (hk:1≤k∧k≤5) (hn:0 < n):∃ g cap,vs (.top k)=.slice (some ⟨g,0,none⟩) n cap∧base≤g∧(∀ j,w.frozen? ⟨g,j,none⟩=false):=by
 have e:(s.rw_ n (fun _=>n) vs (.top k)).n=n:=by
  obtain ⟨h1,h6⟩:=hk
  match k,h1,h6 with
  | 1,_,_=>rfl
  | 2,_,_=>rfl
  | 3,_,_=>rfl
  | 4,_,_=>rfl
  | 5,_,_=>rfl
 have ho:=SMN.own h (.top k) ⟨hk.1,by omega⟩
 rw [e] at ho
 obtain ⟨g,cap,hv,hb,_⟩:=own_slp ho hn
 refine ⟨g,cap,hv,hb,fun j=>?_⟩
 rw [hv] at ho
 exact World.ownsRow.frozenAt ho j
theorem SM.own (h:SM w base X a n c vs s) {r:Rid} (hr:okN n r):w.ownsRow base (s.rw_ n (fun _=>n) vs r).e (s.rw_ n (fun _=>n) vs r).k (vs r) (s.rw_ n (fun _=>n) vs r).n (s.rw_ n (fun _=>n) vs r).xs:=SMN.own h r hr
theorem own_cellE {base g n cap:Nat} {e:TypeId} {size:Nat} {xs:List Value} (h:w.ownsRow base e size (.slice (some ⟨g,0,none⟩) n cap) n xs) {j:Nat} {u:Value} (hu:xs[j]?=some u):w.cell? ⟨g,j,none⟩=some u:=by
 have:=h.cells (g:=g) rfl j u hu
 rwa [Go.WideShapes.add_plain,Nat.zero_add] at this
theorem SM.nextAt (h:SM w base X a n c vs s) {g cap:Nat} (hv:vs (.top 1)=.slice (some ⟨g,0,none⟩) n cap) {i:Nat} (hi:i < n):w.cell? ⟨g,i,none⟩=some (.int .i64 (s.t i).next):=by
 have ho:=h.own (r:=.top 1) ⟨by omega,by omega⟩
 rw [hv] at ho
 exact own_cellE ho (by simp [M.St.rw_,hi])
theorem SM.innAt (h:SM w base X a n c vs s) {g cap:Nat} (hv:vs (.top 4)=.slice (some ⟨g,0,none⟩) n cap) {i:Nat} (hi:i < n):w.cell? ⟨g,i,none⟩=some (.bool (s.t i).inn):=by
 have ho:=h.own (r:=.top 4) ⟨by omega,by omega⟩
 rw [hv] at ho
 exact own_cellE ho (by simp [M.St.rw_,hi])
theorem SM.subAt (h:SM w base X a n c vs s) {k:Nat} (hk:k=2∨k=3∨k=5) {g cap:Nat} (hv:vs (.top k)=.slice (some ⟨g,0,none⟩) n cap) {i:Nat} (hi:i < n):w.cell? ⟨g,i,none⟩=some (vs (.sub k i)):=by
 have ho:=h.own (r:=.top k) (by rcases hk with rfl | rfl | rfl<;>exact ⟨by omega,by omega⟩)
 rcases hk with rfl | rfl | rfl<;>rw [hv] at ho<;>exact own_cellE ho (by simp [M.St.rw_,hi])
theorem SM.late (h:SM w base X a n c vs s) {i:Nat} (hi:i < n):w.ownsRow base 84 3 (vs (.sub 2 i)) (s.t i).pend.length (flatQ (s.t i).pend):=h.own (r:=.sub 2 i) ⟨by omega,hi⟩
theorem SM.reads (h:SM w base X a n c vs s) {i:Nat} (hi:i < n):w.ownsRow base 3 1 (vs (.sub 3 i)) (s.t i).vals.length (nums (s.t i).vals):=h.own (r:=.sub 3 i) ⟨by omega,hi⟩
theorem SM.waits (h:SM w base X a n c vs s) {i:Nat} (hi:i < n):w.ownsRow base 4 1 (vs (.sub 5 i)) ((s.t i).wt n).length (((s.t i).wt n).map .bool):=h.own (r:=.sub 5 i) ⟨by omega,hi⟩
theorem SM.at_ (h:SM w base X a n c vs s):w.ownsRow base 3 1 (vs (.top 6)) s.at_.length (nums s.at_):=h.own (r:=.top 6) ⟨by omega,by omega⟩
theorem SM.apart (h:SM w base X a n c vs s) {r r':Rid} (hr:okN n r) (hr':okN n r') (hne:r≠r'):OffB (vs r) (vs r').ownBlock:=SMN.ap h r r' hr hr' hne
theorem setL_map {n i:Nat} (hi:i < n) (f:Nat→Value) (v:Value):((List.range n).map f).set i v=(List.range n).map fun j=>if j=i then v else f j:=by
 apply List.ext_getElem?
 intro j
 rw [List.getElem?_set]
 by_cases e:i=j
 ·subst e;simp [hi]
 ·rw [if_neg e]
  by_cases hj:j < n
  ·simp [hj,Ne.symm e]
  ·simp [hj]
theorem SM.sub (h:SM w base X a n c vs s) {k i:Nat} (hk:k=2∨k=3∨k=5) (hi:i < n) (hg:w.grownBy w' (vs (.sub k i)).ownBlock) {v':Value} {g cap:Nat} (hv:vs (.top k)=.slice (some ⟨g,0,none⟩) n cap)
  (ho:w'.ownsRow base (s'.rw_ n (fun _=>n) vs (.sub k i)).e (s'.rw_ n (fun _=>n) vs (.sub k i)).k v' (s'.rw_ n (fun _=>n) vs (.sub k i)).n (s'.rw_ n (fun _=>n) vs (.sub k i)).xs) (hat:v'.ownBlock=(vs (.sub k i)).ownBlock∨∀ k,v'.ownBlock=some k→w.heap.size≤k)
  (hrest:∀ r,okN n r→r≠.sub k i→s'.rw_ n (fun _=>n) vs r=s.rw_ n (fun _=>n) vs r):SM (w'.setCell ⟨g,i,none⟩ v') base X a n c (setR vs (.sub k i) v') s':=by
 have h1:SMN w' base X a n c (okN n) (fun _=>n) vs (setR vs (.sub k i) v') s':=SMN.put h (r0:=.sub k i) (show okN n (.sub k i) from ⟨hk,hi⟩) hg ho hat hrest (fun _=>rfl)
 have hk0:okN n (.top k):=by rcases hk with rfl | rfl | rfl<;>exact ⟨by omega,by omega⟩
 have hne:(Rid.top k)≠.sub k i:=by simp
 have hv1:setR vs (.sub k i) v' (.top k)=.slice (some ⟨g,0,none⟩) n cap:=by rw [setR_ne _ _ hne];exact hv
 have ho1:=h1.own (.top k) hk0
 have en:(s'.rw_ n (fun _=>n) vs (.top k)).n=n:=by rcases hk with rfl | rfl | rfl<;>rfl
 rw [hv1,en] at ho1
 obtain ⟨st1,st2⟩:=World.ownsRow.stored ho1 i v'
 have hsub:∀ j,setR vs (.sub k i) v' (.sub k j)=if j=i then v' else vs (.sub k j):=fun j=>by
  unfold setR
  by_cases e:j=i
  ·rw [if_pos e,if_pos (by rw [e])]
  ·rw [if_neg e,if_neg (by simp [e])]
 have h2:=h1.put (r0:=.top k) (N':=fun _=>n) (us':=setR vs (.sub k i) v') (s':=s') hk0 (by rw [hv1];exact st2) (v':=.slice (some ⟨g,0,none⟩) n cap) (by
  have:(s'.rw_ n (fun _=>n) (setR vs (.sub k i) v') (.top k))=⟨(s'.rw_ n (fun _=>n) vs (.top k)).e,(s'.rw_ n (fun _=>n) vs (.top k)).k,n,(s'.rw_ n (fun _=>n) vs (.top k)).xs.set i v'⟩:=by
   rcases hk with rfl | rfl | rfl<;>simp only [M.St.rw_,hsub,setL_map hi]
  rw [this]
  exact st1) (Or.inl (by rw [hv1])) (fun r hr hne=>by
   have:∀ k' i',(k'≠k)→setR vs (.sub k i) v' (.sub k' i')=vs (.sub k' i'):=fun k' i' hkk=>setR_ne _ _ (by simp [hkk])
   unfold M.St.rw_
   split<;>(try rfl)<;>(congr 1;apply List.map_congr_left;intro j _;refine this _ _ (fun e=>hne (by rw [e])))) (fun k'=>setR_ne _ _ (by simp))
 rw [show (Value.slice (some ⟨g,0,none⟩) n cap)=setR vs (.sub k i) v' (.top k) from hv1.symm,setR_self] at h2
 exact h2
theorem SM.cell (h:SM w base X a n c vs s) {k i:Nat} (hk:k=1∨k=4) {v':Value} {g cap:Nat} (hv:vs (.top k)=.slice (some ⟨g,0,none⟩) n cap)
  (ho:(s'.rw_ n (fun _=>n) vs (.top k))=⟨(s.rw_ n (fun _=>n) vs (.top k)).e,1,n,(s.rw_ n (fun _=>n) vs (.top k)).xs.set i v'⟩)
  (hrest:∀ r,okN n r→r≠.top k→s'.rw_ n (fun _=>n) vs r=s.rw_ n (fun _=>n) vs r):SM (w.setCell ⟨g,i,none⟩ v') base X a n c vs s':=by
 have hk0:okN n (.top k):=by rcases hk with rfl | rfl<;>exact ⟨by omega,by omega⟩
 have ho1:=h.own hk0
 have en:(s.rw_ n (fun _=>n) vs (.top k)).n=n∧(s.rw_ n (fun _=>n) vs (.top k)).k=1:=by rcases hk with rfl | rfl<;>exact ⟨rfl,rfl⟩
 rw [hv,en.1,en.2] at ho1
 obtain ⟨st1,st2⟩:=World.ownsRow.stored ho1 i v'
 have h2:=SMN.put h (r0:=.top k) (N':=fun _=>n) (us':=vs) (s':=s') hk0 (by rw [hv];exact st2) (v':=.slice (some ⟨g,0,none⟩) n cap) (by rw [ho];exact st1) (Or.inl (by rw [hv])) hrest (fun _=>rfl)
 rw [← hv,setR_self] at h2
 exact h2
theorem SM.cellAt (h:SM w base X a n c vs s) {j:Nat} {v':Int} {g cap:Nat} (hv:vs (.top 6)=.slice (some ⟨g,0,none⟩) s.at_.length cap) :
  SM (w.setCell ⟨g,j,none⟩ (.int .i64 v')) base X a n c vs ⟨s.th,s.at_.set j v'⟩:=by
 have hk0:okN n (.top 6):=⟨by omega,by omega⟩
 have ho1:=h.at_
 rw [hv] at ho1
 obtain ⟨st1,st2⟩:=World.ownsRow.stored ho1 j (.int .i64 v')
 have h2:=SMN.put h (r0:=.top 6) (N':=fun _=>n) (us':=vs) (s':=⟨s.th,s.at_.set j v'⟩) hk0 (by rw [hv];exact st2) (v':=.slice (some ⟨g,0,none⟩) s.at_.length cap) (by
  show World.ownsRow _ base 3 1 _ (s.at_.set j v').length (nums (s.at_.set j v'))
  rw [List.length_set,show nums (s.at_.set j v')=(nums s.at_).set j (.int .i64 v') from by simp [nums,List.map_set]]
  exact st1) (Or.inl (by rw [hv])) (fun r hr hne=>by
   unfold M.St.rw_
   split<;>first | rfl | exact absurd rfl hne) (fun _=>rfl)
 rw [← hv,setR_self] at h2
 exact h2
end
end
section
open Go.RowKit
theorem SM.lateAt {w:World} {base X:Nat} {a:Option Addr} {n c:Nat} {vs:Rid→Value} {s:M.St} (h:SM w base X a n c vs s) {i:Nat} (hi:i < n):∃ la L lc,vs (.sub 2 i)=.slice la (s.t i).pend.length lc∧(0 < (s.t i).pend.length→la=some ⟨L,0,none⟩)∧(s.t i).pend.length≤lc∧∀ j (hj:j < (s.t i).pend.length),w.cell? ⟨L,j * 3,none⟩=some (.int .i64 0)∧w.cell? ⟨L,j * 3+1,none⟩=some (.int .i64 (s.t i).pend[j].1)∧w.cell? ⟨L,j * 3+2,none⟩=some (.int .i64 (s.t i).pend[j].2):=by
 have ho:=h.late hi
 rcases Nat.eq_zero_or_pos (s.t i).pend.length with h0 | h0
 ·obtain ⟨la,lc,hv,hc⟩:=own_sl ho
  exact ⟨la,0,lc,hv,fun h=>by omega,hc,fun j hj=>by omega⟩
 ·obtain ⟨g,lc,hv,_,hc⟩:=own_slp ho h0
  rw [hv] at ho
  refine ⟨_,g,lc,hv,fun _=>rfl,hc,fun j hj=>?_⟩
  obtain ⟨x,y,z⟩:=flatQ_get (s.t i).pend j hj
  exact ⟨own_cellE ho x,own_cellE ho y,own_cellE ho z⟩
theorem SM.atAt {w:World} {base X:Nat} {a:Option Addr} {n c:Nat} {vs:Rid→Value} {s:M.St} (h:SM w base X a n c vs s) {p:Nat} (hp:p < s.at_.length):∃ g cap,vs (.top 6)=.slice (some ⟨g,0,none⟩) s.at_.length cap∧w.cell? ⟨g,p,none⟩=some (.int .i64 (s.at_.getD p 0))∧w.frozen? ⟨g,p,none⟩=false:=by
 have ho:=h.at_
 obtain ⟨g,cap,hv,_⟩:=own_slp ho (by omega)
 rw [hv] at ho
 exact ⟨g,cap,hv,own_cellE ho (by simp [nums,hp]),World.ownsRow.frozenAt ho p⟩
set_option maxHeartbeats 1000000 in
theorem svalue_any (base X i p:Nat) (a:Option Addr) (n c:Nat) (vs:Rid→Value) (s:M.St) (w:World) (h:SM w base X a n c vs s) (hi:i < n) (hp:p < s.at_.length) (hn:n≤3) (hl:(s.t i).pend.length≤1048576) (ha:s.at_.length=3) :
  Calls Try.prog 53 #[.pointer (some ⟨X,0,none⟩),.int .i64 i,.int .i64 p] w fun e w'=>e=.returned (.int .i64 (s.look i p))∧w'=w:=by
 obtain ⟨g2,c2,hv2,_⟩:=h.top (k:=2) (by omega) (by omega)
 have k2:=h.ck (k:=2) (by omega)
 rw [hv2] at k2
 have kr:=h.subAt (Or.inl rfl) hv2 hi
 obtain ⟨la,L,lc,hvl,hla,_,hcl⟩:=h.lateAt hi
 rw [hvl] at kr
 obtain ⟨g6,c6,hv6,ca,_⟩:=h.atAt hp
 have k6:=h.ck (k:=6) (by omega)
 rw [hv6] at k6
 have lX:=h.lt
 have HL:Hid (s.look i p=(M.find p (s.t i).pend).getD (s.at_.getD p 0)):=by show _=_;simp [M.St.look]
 have i1:(i:Int) < n:=by omega
 rw [ha] at hp k6
 have i2:(p:Int) < 3:=by omega
 generalize (s.t i).pend=l at *
 generalize s.at_.getD p 0=x at *
 clear h hv2 hvl hv6 ha
 go_enter Try.func53,Try.ntmps53
 go_wp2_with fail
 go_loopw [7] (fun s7 wr=>∃ m:Nat,s7=.int .i64 ((m:Int) - 1)∧m≤l.length∧Hid (M.find p l=M.find p (l.take m))∧wr=w) (fun s7 _=>(intOf s7+1).toNat)
 case atStart=>exact ⟨l.length,by go_num,Nat.le_refl _,by show _=_;rw [List.take_of_length_le (Nat.le_refl _)],rfl⟩
 case round =>
  obtain ⟨m,rfl,hm,HF,rfl⟩:=hrel
  rcases m with _ | m
  ·go_wp2_with fail
   go_ret
   exact ⟨by rw [HL.out,HF.out];rfl,rfl⟩
  ·obtain ⟨rfl⟩:=hla (by omega)
   obtain ⟨_,a1,b1⟩:=hcl m (by omega)
   have HT:=M.find_take (p:=p) (l:=l) (m:=m) (by omega)
   have HT:Hid (M.find p (l.take (m+1))=if (l[m]'(by omega)).1==(p:Int) then some (l[m]'(by omega)).2 else M.find p (l.take m)):=by
    show _=_
    rw [HT]
    simp [show m < l.length from by omega]
   generalize l[m]'(by omega)=q at *
   have e1:((m+1:Nat):Int) - 1=m:=by omega
   have i3:(m:Int) < l.length:=by omega
   clear hcl
   rw [e1]
   by_cases hq:q.1=p
   ·rw [hq] at a1
    go_wp2_with fail
    go_ret
    exact ⟨by rw [HL.out,HF.out,HT.out,hq];simp,rfl⟩
   ·have hq':(q.1==(p:Int))=false:=by simpa using hq
    go_wp2_with fail
    exact ⟨⟨m,by simp,by omega,by show _=_;rw [HF.out,HT.out,hq'];rfl,trivial⟩,by simp [intOf]⟩
end
section
open Go.RowKit
theorem Try.smDo:(Try.prog.info? 84).map (fun i=>(i.zero,i.size,i.bytes))=some (some (.agg #[.int .i64 0,.int .i64 0,.int .i64 0]),3,24):=by kernel_rfl
theorem own_emp0 {X:World} {base g size:Nat} {e:TypeId} (h:X.heap[g]?=some (.cells #[] e (0,0))) (hb:base≤g):X.ownsRow base e size (.slice (some ⟨g,0,none⟩) 0 0) 0 [] :=
 ⟨by simp,.inr ⟨g,0,#[],rfl,hb,h,Nat.le_refl _,Nat.zero_le _,by simp,by simp⟩⟩
theorem rw_put {n:Nat} {N:Nat→Nat} {us:Rid→Value} (s:M.St) (t:Nat) (x:M.Th) (ht:t < s.th.length) (r:Rid) (h1:r=.top 1→x.next=(s.t t).next) (h4:r=.top 4→x.inn=(s.t t).inn) (h2:r=.sub 2 t→x.pend=(s.t t).pend) (h3:r=.sub 3 t→x.vals=(s.t t).vals) (h5:r=.sub 5 t→x.wt n=(s.t t).wt n) :
  (s.put t x).rw_ n N us r=s.rw_ n N us r:=by
 have e:∀ i,(s.put t x).t i=if i=t then x else s.t i:=fun i=>M.t_put s t i x ht
 unfold M.St.rw_
 split
 ·have:∀ i,((s.put t x).t i).next=(s.t i).next:=fun i=>by
   rw [e];split
   ·rename_i hi;rw [hi,h1 rfl]
   ·rfl
  simp only [this]
 ·rfl
 ·rfl
 ·have:∀ i,((s.put t x).t i).inn=(s.t i).inn:=fun i=>by
   rw [e];split
   ·rename_i hi;rw [hi,h4 rfl]
   ·rfl
  simp only [this]
 ·rfl
 ·rfl
 ·rename_i i
  have:((s.put t x).t i).pend=(s.t i).pend:=by
   rw [e];split
   ·rename_i hi;subst hi;rw [h2 rfl]
   ·rfl
  simp only [this]
 ·rename_i i
  have:((s.put t x).t i).vals=(s.t i).vals:=by
   rw [e];split
   ·rename_i hi;subst hi;rw [h3 rfl]
   ·rfl
  simp only [this]
 ·rename_i i
  have:((s.put t x).t i).wt n=(s.t i).wt n:=by
   rw [e];split
   ·rename_i hi;subst hi;rw [h5 rfl]
   ·rfl
  simp only [this]
 ·rfl
set_option maxHeartbeats 1000000 in
theorem sland_full (base X i:Nat) (a:Option Addr) (n c:Nat) (vs:Rid→Value) (s:M.St) (q:Int × Int) (r:List (Int × Int)) (w:World) (h:SM w base X a n c vs s) (hi:i < n) (hn:n≤3) (hq:(s.t i).pend=q::r) (hp0:0≤q.1) (hp3:q.1 < 3) (ha:s.at_.length=3) (hs:s.th.length=3) (hr:r.length≤1048576) :
  Calls Try.prog 63 #[.pointer (some ⟨X,0,none⟩),.int .i64 i] w fun e w'=>e=.returned (.tuple #[])∧SME w' base X a n c (s.come i)∧Below base w w'∧(∀ k,k < w.heap.size→some k≠(vs (.top 2)).ownBlock→some k≠(vs (.top 6)).ownBlock→w'.heap[k]?=w.heap[k]?):=by
 have i1:(i:Int) < n:=by omega
 have lX:=h.lt
 have hbX:=h.bX
 obtain ⟨g2,c2,hv2,hb2,hf2⟩:=h.top (k:=2) (by omega) (by omega)
 have k2:=h.ck (k:=2) (by omega)
 rw [hv2] at k2
 have kr:=h.subAt (Or.inl rfl) hv2 hi
 obtain ⟨la,L,lc,hvl,hla,hlc,hcl⟩:=h.lateAt hi
 have hlen:(s.t i).pend.length=r.length+1:=by rw [hq];rfl
 obtain ⟨rfl⟩:=hla (by omega)
 obtain ⟨d0,d1,d2⟩:=hcl 0 (by omega)
 simp only [hq,List.getElem_cons_zero,Nat.zero_mul,Nat.zero_add] at d0 d1 d2
 have lg0:g2 < w.heap.size:=World.block_lt_of_cell? _ _ kr
 rw [hvl,hlen] at kr
 clear hcl
 obtain ⟨q1,q2⟩:=q
 obtain ⟨p,rfl⟩:∃ p:Nat,q1=p:=⟨q1.toNat,by simp at hp0;omega⟩
 simp only at d0 d1 d2 hp3
 go_enter Try.func63,Try.ntmps63
 go_wp2_with fail
 have hbW:=below1 w (.cells #[.int .i64 0,.int .i64 p,.int .i64 q2] 84)
 have hW:=h.below hbW
 have e0:(w.alloc (.cells #[.int .i64 0,.int .i64 p,.int .i64 q2] 84)).cell? ⟨w.heap.size,1,none⟩=some (.int .i64 p):=by simp
 have e1:(w.alloc (.cells #[.int .i64 0,.int .i64 p,.int .i64 q2] 84)).cell? ⟨w.heap.size,2,none⟩=some (.int .i64 q2):=by simp
 clear h k2 kr d0 d1 d2 hf2 lX
 generalize w.alloc (.cells #[.int .i64 0,.int .i64 p,.int .i64 q2] 84)=W at *
 obtain ⟨D,hD⟩:∃ D,w.heap.size=D:=⟨_,rfl⟩
 have HD:Hid (w.heap.size=D):=hD
 rw [hD] at e0 e1 hbW lg0 ⊢
 clear hD
 have lD:D < W.heap.size:=World.block_lt_of_cell? _ _ e0
 have hbd:Below W.heap.size W W.drew:=(Below.refl _ _).drew
 have hWd:=hW.below hbd
 obtain ⟨g2',c2',hv2',hb2,hf2⟩:=hW.top (k:=2) (by omega) (by omega)
 obtain ⟨rfl,rfl⟩:g2'=g2∧c2'=c2:=by rw [hv2] at hv2';simp at hv2';exact ⟨hv2'.1.symm,hv2'.2.symm⟩
 have k2:=hW.ck (k:=2) (by omega)
 rw [hv2] at k2
 have kr:=hW.subAt (Or.inl rfl) hv2 hi
 have lX:X < W.heap.size:=hWd.lt
 have lG:g2' < W.heap.size:=World.block_lt_of_cell? _ _ kr
 rw [hvl,hlen] at kr
 have lL:L < W.heap.size:=by have:=(hWd.late hi).lt L (by rw [hvl];rfl);exact this.2
 have hown:=hWd.late hi
 rw [hvl,hq] at hown
 obtain ⟨i0,hI,hz0,hz1,hz2⟩:=info_parts Try.smDo
 have hbe:=below1 W.drew (.cells #[] 84)
 have hi1:(1:Int)≤(r.length:Int)+1:=by omega
 obtain ⟨ad,had,hnews⟩:∃ ad:Addr,(if lc=1 then some (⟨L,0,none⟩:Addr) else some ⟨L,3,none⟩)=some ad∧∀ j u,(flatQ r)[j]?=some u→(W.drew.alloc (.cells #[] 84)).cell? (ad.add j)=some u:=by
  by_cases hc1:lc=1
  ·have hr0:r=[]:=List.length_eq_zero_iff.1 (by omega)
   subst hr0
   exact ⟨_,if_pos hc1,fun j u hu=>by simp [flatQ] at hu⟩
  ·refine ⟨_,if_neg hc1,fun j u hu=>?_⟩
   have h1:W.drew.cell? ⟨L,3+j,none⟩=some u:=own_cellE hown (by rw [Nat.add_comm];exact hu)
   rw [Addr.add_mid]
   exact (hbe.cell (p:=⟨L,3+j,none⟩) (World.block_lt_of_cell? _ _ h1)).trans h1
 go_region_law (refine step_app rfl (.tmp 19) (.tmp 27) 60 rfl (some 28) rfl base 84 i0 _ 3 24 Try.underlying60 hI hz0 hz1 hz2 rfl (by omega) (.slice (some ⟨W.heap.size,0,none⟩) 0 0) 0 [] (by rfl) (own_emp0 (heap_alloc_new W.drew _) (by omega)) ad r.length (lc - 1) (flatQ r) (by rfl) (flatQ_len r) hnews (flatQ_one r) (by unfold maxLen;omega) (by omega) (by simp;omega) ?_;intro v3 w3 hown3 hg3 hat3;have hown3':w3.ownsRow base 84 3 v3 r.length (flatQ r):=(by simpa using hown3);obtain ⟨a3,c3,rfl,hc3⟩:=own_sl hown3';have hb3:Below W.heap.size W w3:=below_grown (hbd.trans (hbe.mono (Nat.le_refl _))) hg3 (fun k hk=>(by simp [Value.ownBlock] at hk;omega)) (by simp);have hat3':∀ k,(Value.slice a3 r.length c3).ownBlock=some k→W.heap.size≤k:=(fun k hk=>(by rcases hat3 with e | e<;>(rw [e] at hk;simp [Value.ownBlock] at hk;omega)));have h3:=hW.below hb3;have kr3:=h3.subAt (Or.inl rfl) hv2 hi;have k3:=h3.ck (k:=2) (by omega);rw [hv2] at k3;have kf3:w3.frozen? ⟨g2',i,none⟩=false:=(hb3.frozen (p:=⟨g2',i,none⟩) lG).trans (hf2 i);clear hown3 hg3 hat3)
 all_goals
  have hS:=hW.sub (k:=2) (i:=i) (s':=s.put i { s.t i with pend:=r }) (Or.inl rfl) hi (gr_below hb3 _) hv2 (by
   show w3.ownsRow base 84 3 _ (M.St.t _ i).pend.length (flatQ (M.St.t _ i).pend)
   rw [M.t_put _ _ _ _ (by omega),if_pos rfl]
   exact hown3') (Or.inr hat3') (fun rr _ hne=>rw_put s i _ (by omega) rr (fun _=>rfl) (fun _=>rfl) (fun e=>absurd e hne) (fun _=>rfl) (fun _=>rfl))
  have hbS:Below base w (w3.setCell ⟨g2',i,none⟩ (.slice a3 r.length c3)):=((hbW.mono (by have:=HD.out;omega)).trans (hb3.mono (by omega))).setCell (by show base≤g2';exact hb2) _
  have e0':(w3.setCell ⟨g2',i,none⟩ (.slice a3 r.length c3)).cell? ⟨D,1,none⟩=some (.int .i64 p):=by
   rw [World.cell?_setCell_other _ _ _ _ (fun e=>by have:=congrArg Addr.block e;simp at this;omega)]
   exact (hb3.cell (p:=⟨D,1,none⟩) lD).trans e0
  have e1':(w3.setCell ⟨g2',i,none⟩ (.slice a3 r.length c3)).cell? ⟨D,2,none⟩=some (.int .i64 q2):=by
   rw [World.cell?_setCell_other _ _ _ _ (fun e=>by have:=congrArg Addr.block e;simp at this;omega)]
   exact (hb3.cell (p:=⟨D,2,none⟩) lD).trans e1
  have hfr:∀ k,k < D→k≠g2'→(w3.setCell ⟨g2',i,none⟩ (.slice a3 r.length c3)).heap[k]?=w.heap[k]?:=fun k hk hne=>by
   rw [Below.heap_setCell _ _ _ _ hne,hb3.block k (by omega),hbW.block k hk]
  clear k2 kr e0 e1 hf2 k3 kr3 kf3 h3 hW hWd hown hnews hown3' hb3 hbe hbd
  generalize w3.setCell ⟨g2',i,none⟩ (.slice a3 r.length c3)=W4 at *
  obtain ⟨g6,c6,hv6,ca,cf⟩:=hS.atAt (p:=p) (by show p < s.at_.length;omega)
  have k6:=hS.ck (k:=6) (by omega)
  rw [hv6] at k6
  rw [show (s.put i { s.t i with pend:=r }).at_.length=3 from ha] at k6
  have hS2:=hS.cellAt (j:=p) (v':=q2) hv6
  have hb6:=(hS.at_.lt g6 (by rw [hv6];rfl)).1
  have hp3':(p:Int) < 3:=hp3
  generalize (s.put i { s.t i with pend:=r }).at_.getD p 0=y at ca
  have hd6:=hS2.below (Below.refl _ _).drew
  go_wp2_with fail
  go_region
  go_wp2_with fail
  exact bodyPost_end (v:=.tuple #[]) (results_none Try.results63 _ _ _) rfl ⟨rfl,⟨_,by
   have hcome:s.come i=⟨(s.put i { s.t i with pend:=r }).th,(s.put i { s.t i with pend:=r }).at_.set p q2⟩:=by unfold M.St.come;rw [hq];rfl
   rw [hcome]
   exact hd6⟩,(hbS.setCell (by show base≤g6;exact hb6) _).trans ((Below.refl _ _).drew),fun k hk h2 h6=>by
   have hk6:k≠g6:=fun e=>h6 (by rw [show vs (.top 6)=setR vs (.sub 2 i) (.slice a3 r.length c3) (.top 6) from (setR_ne _ _ (by simp)).symm,hv6,e];rfl)
   have hk2:k≠g2':=fun e=>h2 (by rw [hv2,e];rfl)
   rw [HD.out] at hk
   exact (Below.heap_setCell _ _ _ _ hk6).trans (hfr k hk hk2)⟩
theorem sland_any (base X i:Nat) (a:Option Addr) (n c:Nat) (vs:Rid→Value) (s:M.St) (q:Int × Int) (r:List (Int × Int)) (w:World) (h:SM w base X a n c vs s) (hi:i < n) (hn:n≤3) (hq:(s.t i).pend=q::r) (hp0:0≤q.1) (hp3:q.1 < 3) (ha:s.at_.length=3) (hs:s.th.length=3) (hr:r.length≤1048576) :
  Calls Try.prog 63 #[.pointer (some ⟨X,0,none⟩),.int .i64 i] w fun e w'=>e=.returned (.tuple #[])∧SME w' base X a n c (s.come i)∧Below base w w' :=
 (sland_full base X i a n c vs s q r w h hi hn hq hp0 hp3 ha hs hr).mono fun _ _ h=>⟨h.1,h.2.1,h.2.2.1⟩
end
section
open Go.RowKit
def M.St.outTo (s:M.St) (t m:Nat):M.St:=⟨(List.range s.th.length).map fun j=>if j < m then ((s.put t { s.t t with inn:=false }).t j).free t else (s.put t { s.t t with inn:=false }).t j,s.at_⟩
theorem M.outTo_t (s:M.St) (t m j:Nat) (hj:j < s.th.length):(s.outTo t m).t j=if j < m then ((s.put t { s.t t with inn:=false }).t j).free t else (s.put t { s.t t with inn:=false }).t j:=by
 simp [M.St.t,M.St.outTo,hj]
theorem M.outTo_len (s:M.St) (t m:Nat):(s.outTo t m).th.length=s.th.length:=by simp [M.St.outTo]
theorem M.St.ext_t {s s':M.St} (hl:s.th.length=s'.th.length) (ha:s.at_=s'.at_) (h:∀ j,j < s.th.length→s.t j=s'.t j):s=s':=by
 obtain ⟨l,a⟩:=s
 obtain ⟨l',a'⟩:=s'
 simp only at hl ha
 subst ha
 have:l=l':=by
  apply List.ext_getElem hl
  intro j h1 h2
  have:=h j h1
  rw [M.t_get _ _ h1,M.t_get _ _ h2] at this
  exact this
 rw [this]
theorem M.outTo_zero (s:M.St) (t:Nat):s.outTo t 0=s.put t { s.t t with inn:=false } :=
 M.St.ext_t (by rw [M.outTo_len,M.put_len]) rfl (fun j hj=>by rw [M.outTo_len] at hj;rw [M.outTo_t _ _ _ _ hj,if_neg (by omega)])
theorem M.outTo_all (s:M.St) (t:Nat) (hs:s.th.length=3):s.outTo t 3=s.goOut t :=
 M.St.ext_t (by rw [M.outTo_len];simp [M.St.goOut,M.St.put]) rfl (fun j hj=>by
  rw [M.outTo_len] at hj
  rw [M.outTo_t _ _ _ _ hj,if_pos (by omega),M.goOut_t _ _ _ hs (by omega)])
theorem M.outTo_succ (s:M.St) (t m:Nat) (hm:m < s.th.length):s.outTo t (m+1)=(s.outTo t m).put m (((s.outTo t m).t m).free t) :=
 M.St.ext_t (by rw [M.outTo_len,M.put_len,M.outTo_len]) rfl (fun j hj=>by
  rw [M.outTo_len] at hj
  rw [M.t_put (s.outTo t m) m j _ (by rw [M.outTo_len];exact hm),M.outTo_t s t (m+1) j hj,M.outTo_t s t m m hm,if_neg (Nat.lt_irrefl m),M.outTo_t s t m j hj]
  by_cases e:j=m
  ·subst e;rw [if_pos (Nat.lt_succ_self j),if_pos rfl]
  ·rw [if_neg e]
   by_cases h:j < m
   ·rw [if_pos h,if_pos (by omega)]
   ·rw [if_neg h,if_neg (by omega)])
theorem M.Th.wt_free (n:Nat) (x:M.Th) (t:Nat):(x.free t).wt n=(x.wt n).set t false:=by
 unfold M.Th.wt M.Th.free
 simp only
 split
 ·rw [List.take_set]
 ·rfl
theorem SM.same {w:World} {base X:Nat} {a:Option Addr} {n c:Nat} {vs:Rid→Value} {s s':M.St} (h:SM w base X a n c vs s) (e:∀ r,okN n r→s'.rw_ n (fun _=>n) vs r=s.rw_ n (fun _=>n) vs r):SM w base X a n c vs s' :=
 ⟨h.box,fun r hr=>by rw [e r hr];exact SMN.own h r hr,h.ap,h.bX⟩
theorem SM.cellW {w:World} {base X:Nat} {a:Option Addr} {n c:Nat} {vs:Rid→Value} {s s':M.St} (h:SM w base X a n c vs s) {m i len:Nat} (hm:m < n) {v':Value} {g cap:Nat} (hv:vs (.sub 5 m)=.slice (some ⟨g,0,none⟩) len cap) (hl:((s.t m).wt n).length=len)
  (ho:(s'.rw_ n (fun _=>n) vs (.sub 5 m))=⟨4,1,len,(((s.t m).wt n).map .bool).set i v'⟩)
  (hrest:∀ r,okN n r→r≠.sub 5 m→s'.rw_ n (fun _=>n) vs r=s.rw_ n (fun _=>n) vs r):SM (w.setCell ⟨g,i,none⟩ v') base X a n c vs s':=by
 have hk0:okN n (.sub 5 m):=⟨by omega,hm⟩
 have ho1:=h.waits hm
 rw [hv,hl] at ho1
 obtain ⟨st1,st2⟩:=World.ownsRow.stored ho1 i v'
 have h2:=SMN.put h (r0:=.sub 5 m) (N':=fun _=>n) (us':=vs) (s':=s') hk0 (by rw [hv];exact st2) (v':=.slice (some ⟨g,0,none⟩) len cap) (by rw [ho];exact st1) (Or.inl (by rw [hv])) hrest (fun _=>rfl)
 rw [← hv,setR_self] at h2
 exact h2
set_option maxHeartbeats 1000000 in
theorem sout_any (base X i:Nat) (a:Option Addr) (n c:Nat) (vs:Rid→Value) (s:M.St) (w:World) (h:SM w base X a n c vs s) (hi:i < n) (hn:n≤3) (hs:s.th.length=3) (hnt:∀ j,j < 3→(s.t j).noted.length=3) :
  Calls Try.prog 54 #[.pointer (some ⟨X,0,none⟩),.int .i64 i] w fun e w'=>e=.returned (.tuple #[])∧SME w' base X a n c (s.goOut i)∧Below base w w':=by
 have i1:(i:Int) < n:=by omega
 have hbX:=h.bX
 obtain ⟨g4,c4,hv4,hb4,hf4⟩:=h.top (k:=4) (by omega) (by omega)
 have k4:=h.ck (k:=4) (by omega)
 rw [hv4] at k4
 have ki:=h.innAt hv4 hi
 have hf:=hf4 i
 have hS:=h.cell (k:=4) (i:=i) (s':=s.put i { s.t i with inn:=false }) (v':=.bool false) (Or.inr rfl) hv4 (by
  simp only [M.St.rw_,setL_map hi]
  congr 1
  apply List.map_congr_left
  intro j hj
  rw [M.t_put _ _ _ _ (by omega)]
  by_cases e:j=i
  ·subst e;rw [if_pos rfl,if_pos rfl]
  ·rw [if_neg e,if_neg e]) (fun rr _ hne=>rw_put s i _ (by omega) rr (fun _=>rfl) (fun e=>absurd e hne) (fun _=>rfl) (fun _=>rfl) (fun _=>rfl))
 have hbS:Below base w (w.setCell ⟨g4,i,none⟩ (.bool false)):=(Below.refl _ _).setCell (by show base≤g4;exact hb4) _
 go_enter Try.func54,Try.ntmps54
 go_wp2_with fail
 rw [← M.outTo_zero] at hS
 clear k4 ki hf4 hf h
 generalize w.setCell ⟨g4,i,none⟩ (.bool false)=W at *
 obtain ⟨g5,c5,hv5,hb5,hf5⟩:=hS.top (k:=5) (by omega) (by omega)
 go_loopw [4] (fun s4 wr=>∃ m:Nat,s4=.int .i64 m∧m≤n∧(∃ vs',SM wr base X a n c vs' (s.outTo i m))∧Below base w wr) (fun s4 _=>n - (intOf s4).toNat)
 case atStart=>exact ⟨0,rfl,by omega,⟨vs,hS⟩,hbS⟩
 case round =>
  obtain ⟨m,rfl,hm,⟨vs',hM⟩,hbm⟩:=hrel
  clear hS hbS hv5 hv4
  obtain ⟨g5,c5,hv5,hb5,hf5⟩:=hM.top (k:=5) (by omega) (by omega)
  have k5:=hM.ck (k:=5) (by omega)
  rw [hv5] at k5
  by_cases hlt:m < n
  ·have i2:(m:Int) < n:=by omega
   have kr:=hM.subAt (Or.inr (Or.inr rfl)) hv5 hlt
   have hown:=hM.waits hlt
   obtain ⟨la,lc,hvl,hlc⟩:=own_sl hown
   rw [hvl] at kr hown
   have HW:Hid ((((s.outTo i m).t m).wt n).length=if ((s.outTo i m).t m).waits then n else 0):=by
    show _=_
    unfold M.Th.wt
    split
    ·rw [List.length_take,M.outTo_t _ _ _ _ (by omega),if_neg (Nat.lt_irrefl m),M.t_put _ _ _ _ (by omega)]
     have:=hnt m (by omega)
     split
     ·rename_i e;subst e;show min n (s.t m).noted.length=n;omega
     ·omega
    ·rfl
   have hsucc:=M.outTo_succ s i m (by omega)
   by_cases hw:((s.outTo i m).t m).waits=true
   ·have hln:(((s.outTo i m).t m).wt n).length=n:=by rw [HW.out,if_pos hw]
    rw [hln] at kr hown hlc
    obtain ⟨gl,cl,hvl',hbl,hcl⟩:=own_slp hown (by omega)
    simp only [Value.slice.injEq,true_and] at hvl'
    obtain ⟨rfl,rfl⟩:=hvl'
    have kb:wr.cell? ⟨gl,i,none⟩=some (.bool (((s.outTo i m).t m).wt n)[i]):=own_cellE hown (by simp [hln,hi])
    have kf:wr.frozen? ⟨gl,i,none⟩=false:=World.ownsRow.frozenAt hown i
    have hM2:=hM.cellW (m:=m) (i:=i) (s':=s.outTo i (m+1)) (v':=.bool false) hlt (by rw [hvl,hln]) hln (by
     rw [hsucc]
     show Rw.mk _ _ (M.Th.wt n (M.St.t _ m)).length ((M.Th.wt n (M.St.t _ m)).map .bool)=_
     rw [M.t_put _ _ _ _ (by rw [M.outTo_len];omega),if_pos rfl,M.Th.wt_free,List.length_set,hln,List.map_set]) (fun rr _ hne=>by
     rw [hsucc]
     exact rw_put _ m _ (by rw [M.outTo_len];omega) rr (fun _=>rfl) (fun _=>rfl) (fun _=>rfl) (fun _=>rfl) (fun e=>absurd e hne))
    have hbm2:Below base w (wr.setCell ⟨gl,i,none⟩ (.bool false)):=hbm.setCell (by show base≤gl;exact hbl) _
    have hn0:(0:Int) < n:=by omega
    generalize (((s.outTo i m).t m).wt n)[i]=y at kb
    clear hM hown hvl hsucc HW hw hln hf5
    go_wp2_with fail
    exact ⟨⟨m+1,by go_num,by omega,⟨vs',hM2⟩,hbm2⟩,by simp [intOf];omega⟩
   ·have hln:(((s.outTo i m).t m).wt n).length=0:=by rw [HW.out,if_neg hw]
    rw [hln] at kr
    have hM2:SM wr base X a n c vs' (s.outTo i (m+1)):=hM.same (fun rr _=>by
     rw [hsucc]
     exact rw_put _ m _ (by rw [M.outTo_len];omega) rr (fun _=>rfl) (fun _=>rfl) (fun _=>rfl) (fun _=>rfl) (fun _=>by
      rw [M.Th.wt_free,List.length_eq_zero_iff.1 hln]
      rfl))
    clear hM hown hvl hsucc HW hw hln hf5
    go_wp2_with fail
    exact ⟨⟨m+1,by go_num,by omega,⟨vs',hM2⟩,hbm⟩,by simp [intOf];omega⟩
  ·obtain rfl:m=n:=by omega
   have i2:¬ (m:Int) < m:=by omega
   have hM2:SM wr base X a m c vs' (s.goOut i):=by
    rw [← M.outTo_all s i hs]
    refine hM.same (fun rr hr=>?_)
    have e:∀ j,j < m→(s.outTo i 3).t j=(s.outTo i m).t j:=fun j hj=>by
     rw [M.outTo_t _ _ _ _ (by omega),M.outTo_t _ _ _ _ (by omega),if_pos hj,if_pos (by omega)]
    unfold M.St.rw_
    split
    ·congr 1;apply List.map_congr_left;intro j hj;rw [e j (List.mem_range.1 hj)]
    ·rfl
    ·rfl
    ·congr 1;apply List.map_congr_left;intro j hj;rw [e j (List.mem_range.1 hj)]
    ·rfl
    ·rfl
    ·rw [e _ hr.2]
    ·rw [e _ hr.2]
    ·rw [e _ hr.2]
    ·rfl
   go_wp2_with fail
   exact bodyPost_end (v:=.tuple #[]) (results_none Try.results54 _ _ _) rfl ⟨rfl,⟨_,hM2⟩,hbm⟩
end
section
open Go.RowKit
theorem Try.smBool:(Try.prog.info? 4).map (fun i=>(i.zero,i.size,i.bytes))=some (some (.bool false),1,1):=by kernel_rfl
def M.St.beg1 (s:M.St) (i:Nat):M.St:=s.put i { s.t i with waits:=true,noted:=s.th.map M.Th.inn }
def M.St.beg2 (s:M.St) (i:Nat):M.St:=s.put i { s.t i with next:=(s.t i).next - 1,waits:=true,noted:=s.th.map M.Th.inn }
def M.St.wait? (n:Nat) (s:M.St) (i:Nat):Option M.St :=
 if (s.t i).waits=false then some (s.beg2 i)
 else if (((s.t i).wt n).all fun b=>!b)=true then some (s.stop i) else none
structure SmR (w w':World) (base X:Nat) (a:Option Addr) (n c:Nat) (r:Option M.St):Prop where
 st:∀ s',r=some s'→SME w' base X a n c s'
 bel:Below base w w'
theorem M.inn_take (s:M.St) (n:Nat) (hn:n≤s.th.length):((s.th.map M.Th.inn).take n).map Value.bool=(List.range n).map fun j=>Value.bool (s.t j).inn:=by
 apply List.ext_getElem
 ·simp;omega
 ·intro j h1 h2
  have:j < s.th.length:=by simp at h1;omega
  simp [M.St.t,this]
theorem rw_next {n i:Nat} {vs:Rid→Value} {s s':M.St} (hi:i < n) {v:Int} (h:∀ j,j < n→((s'.t j).next:Int)=if j=i then v else ((s.t j).next:Int)) :
  s'.rw_ n (fun _=>n) vs (.top 1)=⟨(s.rw_ n (fun _=>n) vs (.top 1)).e,1,n,(s.rw_ n (fun _=>n) vs (.top 1)).xs.set i (.int .i64 v)⟩:=by
 simp only [M.St.rw_,setL_map hi]
 refine congrArg (Rw.mk _ 1 n) (List.map_congr_left fun j hj=>?_)
 rw [h j (List.mem_range.1 hj)]
 split<;>rfl
theorem rw_inn {n i:Nat} {vs:Rid→Value} {s s':M.St} (hi:i < n) {v:Bool} (h:∀ j,j < n→(s'.t j).inn=if j=i then v else (s.t j).inn) :
  s'.rw_ n (fun _=>n) vs (.top 4)=⟨(s.rw_ n (fun _=>n) vs (.top 4)).e,1,n,(s.rw_ n (fun _=>n) vs (.top 4)).xs.set i (.bool v)⟩:=by
 simp only [M.St.rw_,setL_map hi]
 refine congrArg (Rw.mk _ 1 n) (List.map_congr_left fun j hj=>?_)
 rw [h j (List.mem_range.1 hj)]
 split<;>rfl
theorem inns_one (n:Nat) (f:Nat→Bool):∀ u∈(List.range n).map (fun j=>Value.bool (f j)),u.oneCell'=true:=fun u hu=>by
 obtain ⟨j,_,rfl⟩:=List.mem_map.1 hu
 rfl
set_option maxHeartbeats 1000000 in
theorem swait_any (base X i:Nat) (a:Option Addr) (n c:Nat) (vs:Rid→Value) (s:M.St) (w:World) (h:SM w base X a n c vs s) (hi:i < n) (hn:n≤3) (hs:s.th.length=3) (hnt:(s.t i).noted.length=3) (hx:0 < (s.t i).next) (hx2:(s.t i).next≤1048576) :
  Calls Try.prog 55 #[.pointer (some ⟨X,0,none⟩),.int .i64 i] w fun e w'=>e=.returned (.bool (s.wait? n i).isSome)∧SmR w w' base X a n c (s.wait? n i):=by
 have i1:(i:Int) < n:=by omega
 have hn0:(0:Int) < n:=by omega
 have hbX:=h.bX
 have lX:X < w.heap.size:=h.lt
 obtain ⟨g5,c5,hv5,hb5,hf5⟩:=h.top (k:=5) (by omega) (by omega)
 have k5:=h.ck (k:=5) (by omega)
 rw [hv5] at k5
 have kr:=h.subAt (Or.inr (Or.inr rfl)) hv5 hi
 have lG:g5 < w.heap.size:=World.block_lt_of_cell? _ _ kr
 have hown:=h.waits hi
 obtain ⟨la,lc,hvl,hlc⟩:=own_sl hown
 rw [hvl] at kr hown
 cases hw:(s.t i).waits
 ·have HR:Hid (s.wait? n i=some (s.beg2 i)):=if_pos hw
  have hwt:(s.t i).wt n=[]:=by unfold M.Th.wt;rw [hw];rfl
  rw [hwt] at kr
  rw [show ([]:List Bool).length=0 from rfl] at kr
  obtain ⟨g4,c4,hv4,hb4,hf4⟩:=h.top (k:=4) (by omega) (by omega)
  have k4:=h.ck (k:=4) (by omega)
  rw [hv4] at k4
  have ho4:=h.own (r:=.top 4) ⟨by omega,by omega⟩
  rw [hv4] at ho4
  have hbd:Below w.heap.size w w.drew:=(Below.refl _ _).drew
  have hbe:=below1 w.drew (.cells #[] 4)
  obtain ⟨i0,hI,hz0,hz1,hz2⟩:=info_parts Try.smBool
  have hnews:∀ j u,((List.range n).map fun j=>Value.bool (s.t j).inn)[j]?=some u→(w.drew.alloc (.cells #[] 4)).cell? ((⟨g4,0,none⟩:Addr).add j)=some u:=fun j u hu=>by
   have h1:w.cell? ⟨g4,j,none⟩=some u:=own_cellE ho4 hu
   rw [Go.WideShapes.add_plain,Nat.zero_add]
   exact ((hbd.trans hbe).cell (p:=⟨g4,j,none⟩) (World.block_lt_of_cell? _ _ h1)).trans h1
  go_enter Try.func55,Try.ntmps55
  go_wp2_with fail
  go_region_law (refine step_app rfl (.tmp 20) (.tmp 24) 56 rfl (some 25) rfl base 4 i0 _ 1 1 Try.underlying56 hI hz0 hz1 hz2 rfl (by omega) (.slice (some ⟨w.heap.size,0,none⟩) 0 0) 0 [] (by rfl) (own_emp0 (heap_alloc_new w.drew _) (by show base≤w.heap.size;omega)) ⟨g4,0,none⟩ n c4 ((List.range n).map fun j=>Value.bool (s.t j).inn) (by rfl) (by simp) hnews (inns_one _ _) (by unfold maxLen;omega) (by omega) (by simp;omega) ?_;intro v3 w3 hown3 hg3 hat3;have hown3':w3.ownsRow base 4 1 v3 n ((List.range n).map fun j=>Value.bool (s.t j).inn):=(by simpa using hown3);obtain ⟨a3,c3,rfl,hc3⟩:=own_sl hown3';have hb3:Below w.heap.size w w3:=below_grown (hbd.trans hbe) hg3 (fun k hk=>(by simp [Value.ownBlock] at hk;omega)) (by simp);have hat3':∀ k,(Value.slice a3 n c3).ownBlock=some k→w.heap.size≤k:=(fun k hk=>(by rcases hat3 with e | e<;>(rw [e] at hk;simp [Value.ownBlock] at hk;omega)));have h3:=h.below hb3;have k3:=h3.ck (k:=5) (by omega);rw [hv5] at k3;have kr3:=h3.subAt (Or.inr (Or.inr rfl)) hv5 hi;have kf3:w3.frozen? ⟨g5,i,none⟩=false:=(hb3.frozen (p:=⟨g5,i,none⟩) lG).trans (hf5 i);clear hown3 hg3 hat3)
  all_goals
   have hS:=h.sub (k:=5) (i:=i) (s':=s.beg1 i) (v':=.slice a3 n c3) (Or.inr (Or.inr rfl)) hi (gr_below hb3 _) hv5 (by
    show w3.ownsRow base 4 1 _ (M.Th.wt n (M.St.t (s.beg1 i) i)).length ((M.Th.wt n (M.St.t (s.beg1 i) i)).map .bool)
    unfold M.St.beg1
    rw [M.t_put _ _ _ _ (by omega),if_pos rfl]
    show w3.ownsRow base 4 1 _ ((s.th.map M.Th.inn).take n).length (((s.th.map M.Th.inn).take n).map .bool)
    rw [M.inn_take _ _ (by omega),show ((s.th.map M.Th.inn).take n).length=n from by simp;omega]
    exact hown3') (Or.inr hat3') (fun rr _ hne=>rw_put s i _ (by omega) rr (fun _=>rfl) (fun _=>rfl) (fun _=>rfl) (fun _=>rfl) (fun e=>absurd e hne))
   have hbS:Below base w (w3.setCell ⟨g5,i,none⟩ (.slice a3 n c3)):=(hb3.mono (by omega)).setCell (by show base≤g5;exact hb5) _
   clear k3 kr3 kf3 h3 hb3 hown3' hnews ho4 k4 hf4
   generalize w3.setCell ⟨g5,i,none⟩ (.slice a3 n c3)=W4 at *
   have t1:(s.beg1 i).t i={ s.t i with waits:=true,noted:=s.th.map M.Th.inn }:=by unfold M.St.beg1;rw [M.t_put _ _ _ _ (by omega),if_pos rfl]
   obtain ⟨g1,c1,hv1,hb1,hf1⟩:=hS.top (k:=1) (by omega) (by omega)
   have k1:=hS.ck (k:=1) (by omega)
   rw [hv1] at k1
   have kn:=hS.nextAt hv1 hi
   have kf:=hf1 i
   rw [t1] at kn
   have hS2:=hS.cell (k:=1) (i:=i) (s':=s.beg2 i) (v':=.int .i64 (((s.t i).next:Int) - 1)) (Or.inl rfl) hv1 (rw_next hi fun j hj=>by
    unfold M.St.beg1 M.St.beg2
    rw [M.t_put _ _ _ _ (by omega),M.t_put _ _ _ _ (by omega)]
    by_cases e:j=i
    ·rw [if_pos e,if_pos e]
     show (((s.t i).next - 1:Nat):Int)=_
     omega
    ·rw [if_neg e,if_neg e,if_neg e]) (fun rr _ hne=>by
    have:s.beg2 i=(s.beg1 i).put i { (s.beg1 i).t i with next:=(s.t i).next - 1 }:=by
     rw [t1];unfold M.St.beg1 M.St.beg2 M.St.put;simp
    rw [this]
    exact rw_put _ i _ (by unfold M.St.beg1;rw [M.put_len];omega) rr (fun e=>absurd e hne) (fun _=>rfl) (fun _=>rfl) (fun _=>rfl) (fun _=>rfl))
   have hS3:=hS2.below (Below.refl _ _).drew
   have kn':W4.cell? ⟨g1,i,none⟩=some (.int .i64 ((s.t i).next:Int)):=kn
   generalize (s.t i).next=nx1 at *
   clear hS hS2 hf1 hf5 kr k5 hown kn
   go_wp2_with fail
   go_region
   go_wp2_with fail
   go_ret
   exact ⟨by rw [HR.out];rfl,⟨fun s' e=>by
    rw [HR.out] at e
    obtain rfl:=Option.some.inj e
    exact ⟨_,hS3⟩,(hbS.setCell (by show base≤g1;exact hb1) _).trans ((Below.refl _ _).drew)⟩⟩
 ·have HR:Hid (s.wait? n i=if (((s.t i).wt n).all fun b=>!b)=true then some (s.stop i) else none):=if_neg (by rw [hw];decide)
  have hln:((s.t i).wt n).length=n:=by unfold M.Th.wt;rw [hw];simp;omega
  rw [hln] at kr hown hlc
  obtain ⟨gl,cl,hvl',hbl,hcl⟩:=own_slp hown (by omega)
  simp only [Value.slice.injEq,true_and] at hvl'
  obtain ⟨rfl,rfl⟩:=hvl'
  have kb:∀ k (hk:k < ((s.t i).wt n).length),w.cell? ⟨gl,k,none⟩=some (.bool ((s.t i).wt n)[k]):=fun k hk=>own_cellE hown (by simp [hk])
  have hS:=h.sub (k:=5) (i:=i) (s':=s.stop i) (v':=.slice (some ⟨w.heap.size,0,none⟩) 0 0) (Or.inr (Or.inr rfl)) hi (gr_below (below1 w (.cells #[] 4)) _) hv5 (by
   show World.ownsRow _ base 4 1 _ (M.Th.wt n (M.St.t (s.stop i) i)).length ((M.Th.wt n (M.St.t (s.stop i) i)).map .bool)
   unfold M.St.stop
   rw [M.t_put _ _ _ _ (by omega),if_pos rfl]
   exact own_emp0 (heap_alloc_new w _) (by omega)) (Or.inr (fun k hk=>by simp [Value.ownBlock] at hk;omega)) (fun rr _ hne=>rw_put s i _ (by omega) rr (fun _=>rfl) (fun _=>rfl) (fun _=>rfl) (fun _=>rfl) (fun e=>absurd e hne))
  have hbS:Below base w ((w.alloc (.cells #[] 4)).setCell ⟨g5,i,none⟩ (.slice (some ⟨w.heap.size,0,none⟩) 0 0)):=((below1 w (.cells #[] 4)).mono (by omega)).setCell (by show base≤g5;exact hb5) _
  have kf:=hf5 i
  generalize (s.t i).wt n=l at *
  subst hln
  go_enter Try.func55,Try.ntmps55
  go_wp2_with fail
  clear hown h hvl
  go_loopw [5] (fun s5 wr=>∃ m:Nat,s5=.int .i64 m∧m≤l.length∧(∀ j (hj:j < l.length),j < m→l[j]=false)∧wr=w) (fun s5 _=>l.length - (intOf s5).toNat)
  case atStart=>exact ⟨0,rfl,by omega,fun j hj h=>absurd h (Nat.not_lt_zero _),rfl⟩
  case round =>
   obtain ⟨m,rfl,hm,hno,rfl⟩:=hrel
   by_cases hlt:m < l.length
   ·have i2:(m:Int) < l.length:=by omega
    have kbm:=kb m hlt
    cases hlm:l[m]
    ·rw [hlm] at kbm
     clear kb
     go_wp2_with fail
     exact ⟨⟨m+1,by go_num,by omega,fun j hj h=>by
      rcases Nat.lt_succ_iff_lt_or_eq.1 h with h | h
      ·exact hno j hj h
      ·subst h;exact hlm,trivial⟩,by simp [intOf];omega⟩
    ·rw [hlm] at kbm
     clear kb
     have HN:Hid (s.wait? l.length i=none):=by
      show _=_
      rw [HR.out,if_neg]
      intro hall
      have:=List.all_eq_true.1 hall _ (List.getElem_mem hlt)
      rw [hlm] at this
      cases this
     go_wp2_with fail
     go_ret
     exact ⟨by rw [HN.out];rfl,⟨fun s' e=>(by rw [HN.out] at e;cases e),Below.refl _ _⟩⟩
   ·have i2:¬ (m:Int) < l.length:=by omega
    have HN:Hid (s.wait? l.length i=some (s.stop i)):=by
     show _=_
     rw [HR.out,if_pos]
     refine List.all_eq_true.2 fun b hb=>?_
     obtain ⟨j,hj,rfl⟩:=List.mem_iff_getElem.1 hb
     rw [hno j hj (by omega)]
     rfl
    clear kb
    have hcm:(wr.setCell ⟨g5,i,none⟩ (.slice (some ⟨wr.heap.size,0,none⟩) 0 0)).alloc (.cells #[] 4)=(wr.alloc (.cells #[] 4)).setCell ⟨g5,i,none⟩ (.slice (some ⟨wr.heap.size,0,none⟩) 0 0):=by simp [go_sem,lG]
    rw [← hcm] at hS hbS
    clear hcm
    go_wp2_with fail
    go_ret
    exact ⟨by rw [HN.out];rfl,⟨fun s' e=>by
     rw [HN.out] at e
     obtain rfl:=Option.some.inj e
     exact ⟨_,hS⟩,hbS⟩⟩
end
section
namespace M
theorem put_put (s:St) (t:Nat) (x y:Th):(s.put t x).put t y=s.put t y:=by simp [St.put,List.set_set]
theorem bump_t (s:St) (t:Nat) (h:t < s.th.length):(s.bump t).t t={ s.t t with next:=(s.t t).next+1 }:=by unfold St.bump;rw [t_put _ _ _ _ h,if_pos rfl]
theorem bump_len (s:St) (t:Nat):(s.bump t).th.length=s.th.length:=by unfold St.bump;rw [put_len]
theorem bump_ne (s:St) (t j:Nat) (h:t < s.th.length) (hne:j≠t):(s.bump t).t j=s.t j:=by unfold St.bump;rw [t_put _ _ _ _ h,if_neg hne]
theorem bump_look (s:St) (t:Nat) (p:Int) (h:t < s.th.length):(s.bump t).look t p=s.look t p:=by
 unfold St.look
 rw [bump_t _ _ h]
 rfl
theorem bump_keep (s:St) (t:Nat) (v:Int) (h:t < s.th.length):(s.bump t).keep t v=(s.keep t v).bump t:=by
 unfold St.keep
 rw [put_bump _ _ _ h,bump_t _ _ h]
 unfold St.bump
 rw [put_put]
theorem bump_later (s:St) (t:Nat) (p v:Int) (h:t < s.th.length):(s.bump t).later t p v=(s.later t p v).bump t:=by
 unfold St.later
 rw [put_bump _ _ _ h,bump_t _ _ h]
 unfold St.bump
 rw [put_put]
theorem bump_write (late:Bool) (s:St) (t:Nat) (p v:Int) (h:t < s.th.length):(s.bump t).write late t p v=(s.write late t p v).bump t:=by
 unfold St.write
 split
 ·exact bump_later s t p v h
 ·rw [bump_later s t p v h,come_bump _ _ (by unfold St.later;rw [put_len];exact h)]
theorem bump_goIn (s:St) (t:Nat) (h:t < s.th.length):(s.bump t).goIn t=(s.goIn t).bump t:=by
 unfold St.goIn
 rw [put_bump _ _ _ h,bump_t _ _ h]
 unfold St.bump
 rw [put_put]
theorem bump_stop (s:St) (t:Nat) (h:t < s.th.length):(s.bump t).stop t=(s.stop t).bump t:=by
 unfold St.stop
 rw [put_bump _ _ _ h,bump_t _ _ h]
 unfold St.bump
 rw [put_put]
theorem bump_goOut (s:St) (t:Nat) (hs:s.th.length=3) (h:t < 3):(s.bump t).goOut t=(s.goOut t).bump t:=by
 have hl:t < s.th.length:=by omega
 refine St.ext_t (by rw [goOut_len,bump_len,bump_len,goOut_len]) rfl (fun j hj=>?_)
 rw [goOut_len,bump_len,hs] at hj
 rw [goOut_t _ _ _ (by rw [bump_len];exact hs) hj,t_put _ _ _ _ (by rw [bump_len];exact hl)]
 by_cases e:j=t
 ·subst e
  rw [if_pos rfl,bump_t _ _ hl,bump_t _ _ (by rw [goOut_len];exact hl),goOut_t _ _ _ hs hj,t_put _ _ _ _ hl,if_pos rfl]
  rfl
 ·rw [if_neg e,bump_ne _ _ _ hl e,bump_ne _ _ _ (by rw [goOut_len];exact hl) e,goOut_t _ _ _ hs hj,t_put _ _ _ _ hl,if_neg e]
theorem bump_inn (s:St) (t:Nat) (h:t < s.th.length):(s.bump t).th.map Th.inn=s.th.map Th.inn:=by
 unfold St.bump St.put
 rw [List.map_set]
 have:Th.inn { s.t t with next:=(s.t t).next+1 }=(s.th.map Th.inn)[t]'(by simpa using h):=by
  rw [List.getElem_map,← t_get s t h]
 rw [this,List.set_getElem_self]
theorem bump_beg (s:St) (t:Nat) (h:t < s.th.length):(s.bump t).beg2 t=s.begin_ t:=by
 unfold St.beg2
 rw [bump_inn _ _ h,bump_t _ _ h]
 unfold St.bump
 rw [put_put]
 rfl
structure Edge (n:Nat) (s:St):Prop where
 inn:∀ t,n≤t→t < 3→(s.t t).inn=false
 noted:∀ t,t < 3→∀ i,n≤i→(s.t t).noted.getD i false=false
theorem Edge.zero (n:Nat):Edge n st0:=by
 have:∀ t,t < 3→st0.t t=th0:=fun t ht=>by
  match t,ht with
  | 0,_=>rfl
  | 1,_=>rfl
  | 2,_=>rfl
 refine ⟨fun t _ ht=>by rw [this t ht];rfl,fun t ht i _=>?_⟩
 rw [this t ht]
 match i with
 | 0=>rfl
 | 1=>rfl
 | 2=>rfl
 | i+3=>rfl
theorem Edge.put {n:Nat} {s:St} {t:Nat} {x:Th} (E:Edge n s) (ht:t < n) (hl:t < s.th.length) (hx:∀ i,n≤i→x.noted.getD i false=false):Edge n (s.put t x) :=
 ⟨fun j h1 h2=>by rw [t_put _ _ _ _ hl,if_neg (by omega)];exact E.inn j h1 h2,fun j hj i hi=>by
  rw [t_put _ _ _ _ hl]
  split
  ·exact hx i hi
  ·exact E.noted j hj i hi⟩
theorem Edge.at_ {n:Nat} {s:St} (E:Edge n s) (a:List Int):Edge n ⟨s.th,a⟩:=⟨E.inn,E.noted⟩
theorem Edge.bump {n:Nat} {s:St} {t:Nat} (E:Edge n s) (ht:t < n) (hl:t < s.th.length) (h3:t < 3):Edge n (s.bump t):=E.put ht hl (E.noted t h3)
theorem Edge.come {n:Nat} {s:St} {t:Nat} (E:Edge n s) (ht:t < n) (hl:t < s.th.length) (h3:t < 3):Edge n (s.come t):=by
 unfold St.come
 split
 ·exact E
 ·rename_i q r _
  exact (E.put (x:={ s.t t with pend:=r }) ht hl (E.noted t h3)).at_ _
theorem Edge.write {n:Nat} {s:St} {t:Nat} (late:Bool) (p v:Int) (E:Edge n s) (ht:t < n) (hl:t < s.th.length) (h3:t < 3):Edge n (s.write late t p v):=by
 have h:Edge n (s.later t p v):=E.put ht hl (E.noted t h3)
 unfold St.write
 split
 ·exact h
 ·exact h.come ht (by unfold St.later;rw [put_len];exact hl) h3
theorem getD_set (l:List Bool) (t i:Nat) (h:l.getD i false=false):(l.set t false).getD i false=false:=by
 rw [List.getD_eq_getElem?_getD] at h ⊢
 rw [List.getElem?_set]
 split
 ·split<;>rfl
 ·exact h
theorem Edge.stepD {n:Nat} {s:St} {t:Nat} {late:Bool} {d:D} (E:Edge n s) (hs:s.th.length=3) (ht:t < n) (h3:t < 3):Edge n (s.stepD late t d):=by
 have hl:t < s.th.length:=by omega
 have wr:∀ p v,Edge n ((s.write late t p v).bump t):=fun p v=>(E.write late p v ht hl h3).bump ht (by rw [write_len];exact hl) h3
 unfold St.stepD
 split
 ·unfold St.keep
  exact (E.put (x:={ s.t t with vals:=(s.t t).vals++[s.look t d.p] }) ht hl (E.noted t h3)).bump ht (by rw [put_len];exact hl) h3
 split
 ·exact wr _ _
 split
 ·exact wr _ _
 split
 ·unfold St.goIn
  exact (E.put (x:={ s.t t with inn:=true }) ht hl (E.noted t h3)).bump ht (by rw [put_len];exact hl) h3
 split
 ·refine Edge.bump ?_ ht (by rw [goOut_len];exact hl) h3
  have E2:Edge n (s.put t { s.t t with inn:=false }):=E.put ht hl (E.noted t h3)
  refine ⟨fun j h1 h2=>?_,fun j hj i hi=>?_⟩
  ·rw [goOut_t _ _ _ hs h2];exact E2.inn j h1 h2
  ·rw [goOut_t _ _ _ hs hj];exact getD_set _ _ _ (E2.noted j hj i hi)
 split
 ·split
  ·unfold St.stop
   exact (E.put (x:={ s.t t with waits:=false }) ht hl (E.noted t h3)).bump ht (by rw [put_len];exact hl) h3
  ·unfold St.begin_
   refine E.put ht hl (fun i hi=>?_)
   show (s.th.map Th.inn).getD i false=false
   rw [List.getD_eq_getElem?_getD,List.getElem?_map]
   rcases Nat.lt_or_ge i s.th.length with h | h
   ·rw [List.getElem?_eq_getElem h]
    have:=E.inn i hi (by omega)
    rw [t_get _ _ h] at this
    exact this
   ·rw [List.getElem?_eq_none h];rfl
 ·exact E.bump ht hl h3
theorem Edge.turn {ll:List (List D)} {s s':St} {late:Bool} {k:Int} (I:Inv ll s) (E:Edge ll.length s) (h3:ll.length≤3) (hs:s.turn? late ll k=some s'):Edge ll.length s':=by
 unfold St.turn? at hs
 split at hs
 ·unfold St.step? at hs
  split at hs
  ·cases hs
  ·split at hs
   ·obtain rfl:=Option.some.inj hs
    exact E.stepD I.th (by omega) (by omega)
   ·cases hs
 ·split at hs
  ·unfold St.land? at hs
   split at hs
   ·cases hs
   ·obtain rfl:=Option.some.inj hs
    exact E.come (by omega) (by rw [I.th];omega) (by omega)
  ·cases hs
theorem all_quiet {l:List Bool} {n:Nat} (h3:l.length=3) (h:∀ i,n≤i→l.getD i false=false):((l.take n).all fun b=>!b)=decide (l=quiet):=by
 match l,h3 with
 | [a,b,c],_ =>
  match n,h with
  | 0,h =>
   obtain rfl:a=false:=h 0 (by omega)
   obtain rfl:b=false:=h 1 (by omega)
   obtain rfl:c=false:=h 2 (by omega)
   rfl
  | 1,h =>
   obtain rfl:b=false:=h 1 (by omega)
   obtain rfl:c=false:=h 2 (by omega)
   cases a<;>rfl
  | 2,h =>
   obtain rfl:c=false:=h 2 (by omega)
   cases a<;>cases b<;>rfl
  | n+3,_ =>
   rw [List.take_of_length_le (by simp)]
   cases a<;>cases b<;>cases c<;>rfl
theorem wait_step {ll:List (List D)} {s:St} {late:Bool} {t:Nat} {d:D} (I:Inv ll s) (E:Edge ll.length s) (h3:t < 3) (hd:s.d? ll t=some d) (h9:d.k=9) (hp:(s.t t).pend=[]):s.step? late ll t=(s.bump t).wait? ll.length t:=by
 have hl:t < s.th.length:=by rw [I.th];exact h3
 have e:=I.each t h3
 have hu:uses d.k=false:=by rw [h9];rfl
 have hD:s.stepD late t d=if (s.t t).waits then (s.stop t).bump t else s.begin_ t:=by
  unfold St.stepD
  rw [h9]
  rfl
 unfold St.step?
 rw [hd]
 show (if canD (s.t t) d=true then some (s.stepD late t d) else none)=_
 have hc:canD (s.t t) d=decide ((s.t t).noted=quiet):=by
  unfold canD
  rw [hu,hp]
  simp
 rw [hc,hD]
 unfold St.wait?
 rw [bump_t _ _ hl]
 show _=if (s.t t).waits=false then _ else if ((({ s.t t with next:=(s.t t).next+1 }:Th).wt ll.length).all fun b=>!b)=true then _ else none
 cases hw:(s.t t).waits
 ·rw [e.rest hw,if_pos rfl,if_pos (by decide),if_neg (by decide),bump_beg _ _ hl]
 ·rw [if_neg (show ¬ (true=false) by decide)]
  simp only [if_true]
  have:(({ s.t t with next:=(s.t t).next+1 }:Th).wt ll.length)=(s.t t).noted.take ll.length:=by
   unfold Th.wt
   simp only [hw,if_true]
  rw [this,all_quiet e.noted (E.noted t h3),bump_stop _ _ hl]
end M
end
section
open Go.RowKit
set_option maxHeartbeats 1000000 in
theorem swrite_full (base X i:Nat) (a:Option Addr) (n c:Nat) (vs:Rid→Value) (s:M.St) (p v:Int) (late:Bool) (w:World) (h:SM w base X a n c vs s) (hi:i < n) (hn:n≤3) (hp0:0≤p) (hp3:p < 3) (hpr:∀ q∈(s.t i).pend,0≤q.1∧q.1 < 3) (hl:(s.t i).pend.length≤6) (ha:s.at_.length=3) (hs:s.th.length=3) :
  Calls Try.prog 52 #[.pointer (some ⟨X,0,none⟩),.int .i64 i,.int .i64 p,.int .i64 v,.bool late] w fun e w'=>e=.returned (.tuple #[])∧SME w' base X a n c (s.write late i p v)∧Below base w w'∧(∀ k,k < w.heap.size→some k≠(vs (.sub 2 i)).ownBlock→some k≠(vs (.top 2)).ownBlock→some k≠(vs (.top 6)).ownBlock→w'.heap[k]?=w.heap[k]?):=by
 have i1:(i:Int) < n:=by omega
 have hbX:=h.bX
 obtain ⟨g2,c2,hv2,hb2,hf2⟩:=h.top (k:=2) (by omega) (by omega)
 have k2:=h.ck (k:=2) (by omega)
 rw [hv2] at k2
 have kr:=h.subAt (Or.inl rfl) hv2 hi
 have lG:g2 < w.heap.size:=World.block_lt_of_cell? _ _ kr
 have hown:=h.late hi
 obtain ⟨la,lc,hvl,hlc⟩:=own_sl hown
 rw [hvl] at kr hown
 have lX:X < w.heap.size:=h.lt
 have hbd:Below w.heap.size w w.drew:=(Below.refl _ _).drew
 have hbe:=below1 w.drew (.cells #[.int .i64 0,.int .i64 p,.int .i64 v] 84)
 obtain ⟨i0,hI,hz0,hz1,hz2⟩:=info_parts Try.smDo
 have hge:=own_ge hown
 have hlt:=fun k hk=>(hown.lt k hk).2
 have hne2:some g2≠(Value.slice la (s.t i).pend.length lc).ownBlock:=fun e=>by
  have:=h.apart (r:=.sub 2 i) (r':=.top 2) ⟨by omega,hi⟩ ⟨by omega,by omega⟩ (by simp)
  rw [hvl,hv2] at this
  exact this g2 e.symm rfl
 have hneX:some X≠(Value.slice la (s.t i).pend.length lc).ownBlock:=fun e=>by
  have:=SMN.offX h (r:=.sub 2 i) ⟨by omega,hi⟩
  rw [hvl] at this
  exact this e.symm
 have HW:Hid (s.write late i p v=if late then s.later i p v else (s.later i p v).come i):=by show _=_;rfl
 go_enter Try.func52,Try.ntmps52
 go_wp2_with fail
 go_region_law (refine step_app rfl (.tmp 21) (.tmp 25) 60 rfl (some 26) rfl base 84 i0 _ 3 24 Try.underlying60 hI hz0 hz1 hz2 rfl (by omega) (.slice la (s.t i).pend.length lc) (s.t i).pend.length (flatQ (s.t i).pend) (by rfl) (ownsRow_below hown (hbd.trans hbe)) ⟨w.heap.size,0,none⟩ 1 1 [.int .i64 0,.int .i64 p,.int .i64 v] (by rfl) rfl (World.news_of_block (cs:=#[.int .i64 0,.int .i64 p,.int .i64 v]) (t:=84) (fr:=(0,0)) (heap_alloc_new w.drew _)) (by simp [Value.oneCell']) (by unfold maxLen;omega) (by omega) (by simp;omega) ?_;intro v3 w3 hown3 hg3 hat3;obtain ⟨a3,c3,rfl,hc3⟩:=own_sl hown3;have hg:w.grownBy w3 (Value.slice la (s.t i).pend.length lc).ownBlock:=⟨hg3.os.trans (hbd.trans hbe).os,hg3.tape.trans (hbd.trans hbe).tape,hg3.output.trans (hbd.trans hbe).output,Nat.le_trans (hbd.trans hbe).size hg3.size,fun k hk hne=>(hg3.block k (Nat.lt_of_lt_of_le hk (hbd.trans hbe).size) hne).trans ((hbd.trans hbe).block k hk)⟩;have k3:=hg.cell k2 hneX;have kr3:=hg.cell kr hne2;have kf3:w3.frozen? ⟨g2,i,none⟩=false:=(World.frozen?_of_block (hg.block g2 lG hne2)).trans (hf2 i))
 all_goals
  have hS:=h.sub (k:=2) (i:=i) (s':=s.later i p v) (v':=.slice a3 ((s.t i).pend.length+1) c3) (Or.inl rfl) hi (by rw [hvl];exact hg) hv2 (by
   show w3.ownsRow base 84 3 _ (M.St.t (s.later i p v) i).pend.length (flatQ (M.St.t (s.later i p v) i).pend)
   unfold M.St.later
   rw [M.t_put _ _ _ _ (by omega),if_pos rfl]
   show w3.ownsRow base 84 3 _ ((s.t i).pend++[(p,v)]).length (flatQ ((s.t i).pend++[(p,v)]))
   rw [flatQ_app,List.length_append]
   exact hown3) (by
    rcases hat3 with e | e
    ·exact Or.inl (by rw [hvl];exact e)
    ·exact Or.inr (fun k hk=>by rw [e] at hk;simp at hk;omega)) (fun rr _ hne=>rw_put s i _ (by omega) rr (fun _=>rfl) (fun _=>rfl) (fun e=>absurd e hne) (fun _=>rfl) (fun _=>rfl))
  have hbS:Below base w (w3.setCell ⟨g2,i,none⟩ (.slice a3 ((s.t i).pend.length+1) c3)):=(below_grown (Below.refl _ _) hg hge (by omega)).setCell (by show base≤g2;exact hb2) _
  have hfr:∀ k,k < w.heap.size→some k≠(vs (.sub 2 i)).ownBlock→some k≠(vs (.top 2)).ownBlock→(w3.setCell ⟨g2,i,none⟩ (.slice a3 ((s.t i).pend.length+1) c3)).heap[k]?=w.heap[k]?:=fun k hk h1 h2=>by
   rw [Below.heap_setCell _ _ _ _ (fun e=>h2 (by rw [hv2,e];rfl)),hg.block k hk (by rw [hvl] at h1;exact h1)]
  have hsz:w.heap.size≤(w3.setCell ⟨g2,i,none⟩ (.slice a3 ((s.t i).pend.length+1) c3)).heap.size:=by simpa using hg.size
  clear k3 kr3 kf3 hg hg3 hown3 hat3
  generalize w3.setCell ⟨g2,i,none⟩ (.slice a3 ((s.t i).pend.length+1) c3)=W4 at *
  cases late
  ·obtain ⟨q,r,hqr,hq0,hq3,hrl⟩:=M.first_of (v:=v) hpr hp0 hp3
   have htl:((s.later i p v).t i).pend=q::r:=by unfold M.St.later;rw [M.t_put _ _ _ _ (by omega),if_pos rfl];exact hqr
   go_wp2_with fail
   refine (sland_full base X i a n c _ (s.later i p v) q r W4 hS hi hn htl hq0 hq3 ha (by unfold M.St.later;rw [M.put_len];exact hs) (by omega)).mono ?_
   rintro e w5 ⟨rfl,hm5,hb5,hf5⟩
   go_wp2_with fail
   exact bodyPost_end (v:=.tuple #[]) (results_none Try.results52 _ _ _) rfl ⟨rfl,by rw [HW.out];exact hm5,hbS.trans hb5,fun k hk h1 h2 h6=>(hf5 k (by omega) (by rw [setR_ne _ _ (by simp)];first | exact h2 | (rw [hv2];exact h2)) (by rw [setR_ne _ _ (by simp)];exact h6)).trans (hfr k hk (by first | exact h1 | (rw [hvl];exact h1)) (by first | exact h2 | (rw [hv2];exact h2)))⟩
  ·go_wp2_with fail
   exact bodyPost_end (v:=.tuple #[]) (results_none Try.results52 _ _ _) rfl ⟨rfl,by rw [HW.out];exact ⟨_,hS⟩,hbS,fun k hk h1 h2 _=>hfr k hk (by first | exact h1 | (rw [hvl];exact h1)) (by first | exact h2 | (rw [hv2];exact h2))⟩
theorem swrite_any (base X i:Nat) (a:Option Addr) (n c:Nat) (vs:Rid→Value) (s:M.St) (p v:Int) (late:Bool) (w:World) (h:SM w base X a n c vs s) (hi:i < n) (hn:n≤3) (hp0:0≤p) (hp3:p < 3) (hpr:∀ q∈(s.t i).pend,0≤q.1∧q.1 < 3) (hl:(s.t i).pend.length≤6) (ha:s.at_.length=3) (hs:s.th.length=3) :
  Calls Try.prog 52 #[.pointer (some ⟨X,0,none⟩),.int .i64 i,.int .i64 p,.int .i64 v,.bool late] w fun e w'=>e=.returned (.tuple #[])∧SME w' base X a n c (s.write late i p v)∧Below base w w' :=
 (swrite_full base X i a n c vs s p v late w h hi hn hp0 hp3 hpr hl ha hs).mono fun _ _ h=>⟨h.1,h.2.1,h.2.2.1⟩
end
section
open Go.RowKit
theorem Try.smInt:(Try.prog.info? 3).map (fun i=>(i.zero,i.size,i.bytes))=some (some (.int .i64 0),1,8):=by kernel_rfl
theorem M.thr_ok {ll:List (List M.D)} (h:M.prog ll=true) {i:Nat} (hi:i < ll.length) {d:M.D} (hd:d∈ll[i]):M.doOk d=true:=by
 have hT:=(M.prog_uses h).2 _ (List.getElem_mem hi)
 simp only [M.thread,Bool.and_eq_true] at hT
 exact (List.all_eq_true.1 hT.1.1.2) d hd
theorem M.kinds {k:Int} (h:M.wordOk k=true):k=1∨k=2∨k=3∨k=4∨k=5∨k=6∨k=7∨k=8∨k=9:=by
 simp only [M.wordOk,Bool.and_eq_true,decide_eq_true_eq] at h
 omega
structure StC (W:World) (H base X:Nat) (a:Option Addr) (n c:Nat) (vs:Rid→Value) (s:M.St) (d:M.D) (w:World):Prop where
 q0:W.cell? ⟨H,0,none⟩=some (.int .i64 d.k)
 q1:W.cell? ⟨H,1,none⟩=some (.int .i64 d.p)
 q2:W.cell? ⟨H,2,none⟩=some (.int .i64 d.v)
 m:SM W base X a n c vs s
 bel:Below base w W
theorem StC.below {W W':World} {H base X:Nat} {a:Option Addr} {n c:Nat} {vs:Rid→Value} {s:M.St} {d:M.D} {w:World} (h:StC W H base X a n c vs s d w) (hb:Below W.heap.size W W'):StC W' H base X a n c vs s d w :=
 ⟨(hb.cell (p:=⟨H,0,none⟩) (World.block_lt_of_cell? _ _ h.q0)).trans h.q0,(hb.cell (p:=⟨H,1,none⟩) (World.block_lt_of_cell? _ _ h.q1)).trans h.q1,(hb.cell (p:=⟨H,2,none⟩) (World.block_lt_of_cell? _ _ h.q2)).trans h.q2,h.m.below hb,h.bel.trans (hb.mono (Nat.le_trans h.m.bX (Nat.le_of_lt h.m.lt)))⟩
theorem StC.bump {W:World} {H base X:Nat} {a:Option Addr} {n c:Nat} {vs:Rid→Value} {s:M.St} {d:M.D} {w:World} (h:StC W H base X a n c vs s d w) {g1 c1 i:Nat} (hv:vs (.top 1)=.slice (some ⟨g1,0,none⟩) n c1) (hi:i < n) (hl:i < s.th.length) (hH:H≠g1):StC (W.setCell ⟨g1,i,none⟩ (.int .i64 (((s.t i).next:Int)+1))) H base X a n c vs (s.bump i) d w:=by
 have hg:=((SM.own h.m (r:=.top 1) ⟨by omega,by omega⟩).lt g1 (by rw [hv];rfl)).1
 refine ⟨?_,?_,?_,?_,h.bel.setCell (by show base≤g1;exact hg) _⟩
 ·rw [World.cell?_setCell_other _ _ _ _ (fun e=>hH (by have:=congrArg Addr.block e;simp at this;omega))];exact h.q0
 ·rw [World.cell?_setCell_other _ _ _ _ (fun e=>hH (by have:=congrArg Addr.block e;simp at this;omega))];exact h.q1
 ·rw [World.cell?_setCell_other _ _ _ _ (fun e=>hH (by have:=congrArg Addr.block e;simp at this;omega))];exact h.q2
 ·refine h.m.cell (k:=1) (Or.inl rfl) hv (rw_next hi fun j _=>?_) (fun rr _ hne=>rw_put s i _ hl rr (fun e=>absurd e hne) (fun _=>rfl) (fun _=>rfl) (fun _=>rfl) (fun _=>rfl))
  by_cases e:j=i
  ·subst e;rw [if_pos rfl,M.bump_t _ _ hl];simp
  ·rw [if_neg e,M.bump_ne _ _ _ hl e]
end
section
open Go.RowKit
set_option maxHeartbeats 4000000 in
set_option maxRecDepth 100000 in
theorem sstep_1 (base X i:Nat) (a:Option Addr) (b o c:Nat) (ll:List (List M.D)) (late:Bool) (vs:Rid→Value) (s:M.St) (d:M.D) (w0 w:World) (h0:DoSS w0 a b o ll) (hw0:w0.heap.size≤base) (hb0:Below base w0 w) (h:SM w base X a ll.length c vs s) (htl:i < ll.length) (h3:ll.length≤3) (hp:M.prog ll=true) (I:M.Inv ll s) (_E:M.Edge ll.length s) (hd:s.d? ll i=some d) (hk:Hid (d.k=1)) :
  Calls Try.prog 31 #[.pointer (some ⟨X,0,none⟩),.int .i64 i,.bool late] w fun e w'=>e=.returned (.bool (s.step? late ll i).isSome)∧SmR w w' base X a ll.length c (s.step? late ll i):=by
 have ht:i < 3:=by omega
 have hsl:i < s.th.length:=by rw [I.th];exact ht
 have F:=I.fit (M.thOk_of hp i) ht hd
 have c0:=h.c0
 have hp1:=h0.below hb0 hw0
 obtain ⟨rfl⟩:=h0.addr (by omega)
 obtain ⟨a',b',o',c',hc,hdd⟩:=hp1.row i htl
 have hg:ll.getD i []=ll[i]:=by simp [htl]
 have HR:Hid (s.step? late ll i=if M.canD (s.t i) d then some (s.stepD late i d) else none):=by
  show _=_
  unfold M.St.step?
  rw [hd]
 have hd':=hd
 rw [M.St.d?,hg] at hd
 have hlt:(s.t i).next < ll[i].length:=by
  rcases Nat.lt_or_ge (s.t i).next ll[i].length with h | h
  ·exact h
  ·rw [List.getElem?_eq_none h] at hd;cases hd
 have hde:ll[i][(s.t i).next]=d:=by rw [List.getElem?_eq_getElem hlt] at hd;exact Option.some.inj hd
 have hok:=M.thr_ok hp htl (List.mem_of_getElem? hd)
 obtain ⟨rfl⟩:=hdd.addr (by omega)
 have hrow:=hdd.row _ hlt
 rw [hde] at hrow
 obtain ⟨ck,cp,cv⟩:=hrow
 have nx7:=F.nx
 have i2:((s.t i).next:Int) < ll[i].length:=by omega
 have i3:(i:Int) < ll.length:=by omega
 have lX:=h.lt
 obtain ⟨g1,c1,hv1,hb1,hf1⟩:=h.top (k:=1) (by omega) (by omega)
 have k1:=h.ck (k:=1) (by omega)
 rw [hv1] at k1
 have kn:=h.nextAt hv1 htl
 have lg1:g1 < w.heap.size:=World.block_lt_of_cell? _ _ kn
 have lb:b < w.heap.size:=World.block_lt_of_cell? _ _ hc
 have lb':b' < w.heap.size:=World.block_lt_of_cell? _ _ ck
 have hbX:=h.bX
 have hoffH:∀ r,okN ll.length r→(vs r).ownBlock≠some w.heap.size:=fun r hr e=>by have:=(SM.own h hr).lt _ e;omega
 clear hd hde hp1 hdd hg h0
 have wl:ll[i].length≤7:=by have:=(M.thOk_of hp i).len;rwa [show ll.getD i []=ll[i] from by simp [htl]] at this
 generalize ll[i]=l at *
 go_enter Try.func31,Try.ntmps31
 go_wp2_with fail
 go_region
 have C:StC (w.alloc (.cells #[.int .i64 d.k,.int .i64 d.p,.int .i64 d.v] 84)).drew w.heap.size base X (some ⟨b,o,none⟩) ll.length c vs s d w :=
  ⟨by simp,by simp,by simp,h.below ((below1 w _).trans ((Below.refl _ _).drew)),((below1 w _).mono (by omega)).trans ((Below.refl _ _).drew)⟩
 clear h c0 hc ck cp cv k1 kn lb lb' hf1 hb1 i2 hlt
 have hHg:w.heap.size≠g1:=by omega
 generalize (w.alloc (.cells #[.int .i64 d.k,.int .i64 d.p,.int .i64 d.v] 84)).drew=W2 at *
 generalize w.heap.size=H at *
 simp only [M.doOk,Bool.and_eq_true] at hok
 obtain ⟨⟨hkw,hpl⟩,hvl⟩:=hok
 have heV:∀ args w,(callFunc 53 args).run Try.prog w=.ok (.enter 53 args) w:=enters_of Try.func53 (by kernel_rfl) rfl
 have heW:∀ args w,(callFunc 52 args).run Try.prog w=.ok (.enter 52 args) w:=enters_of Try.func52 (by kernel_rfl) rfl
 obtain ⟨dk,dp,dv⟩:=d
 replace hk:=hk.out
 simp only at C F HR hkw hpl hvl hk
 subst hk
 have hpr:=fun q (hq:q∈(s.t i).pend)=>F.pr q hq
 have hth:=I.th
 have hat:=I.at_
 have HN:Hid (s.step? late ll i=some ((s.write late i dp dv).bump i)):=by show _=_;rw [HR.out];rfl
 obtain ⟨q0,q1,q2⟩:=And.intro C.q0 (And.intro C.q1 C.q2)
 have lH:H < W2.heap.size:=World.block_lt_of_cell? _ _ q0
 have lX2:X < W2.heap.size:=C.m.lt
 go_wp2_with (first | (go_at_call 50;refine (l1Reads_any ⟨_,_,_⟩ _).mono ?_;rintro e w3 ⟨rfl,rfl⟩) | (go_at_call 51;refine (l1Writes_any ⟨_,_,_⟩ _).mono ?_;rintro e w4 ⟨rfl,rfl⟩))
 have C3:=C.below (W':=((W2.alloc (.cells #[.int .i64 1,.int .i64 dp,.int .i64 dv] 84)).alloc (.cells #[.int .i64 1,.int .i64 dp,.int .i64 dv] 84))) (below2 _ _ _)
 clear C q0 q1 q2 lH lX2
 generalize ((W2.alloc (.cells #[.int .i64 1,.int .i64 dp,.int .i64 dv] 84)).alloc (.cells #[.int .i64 1,.int .i64 dp,.int .i64 dv] 84))=W3 at *
 obtain ⟨k1,kf1,kn⟩:W3.cell? ⟨X,1,none⟩=some (.slice (some ⟨g1,0,none⟩) ll.length c1)∧W3.frozen? ⟨g1,i,none⟩=false∧W3.cell? ⟨g1,i,none⟩=some (.int .i64 (s.t i).next):=by
  obtain ⟨g1',c1',e1,_,f1⟩:=C3.m.top (k:=1) (by omega) (by omega)
  have:=C3.m.ck (k:=1) (by omega)
  rw [hv1] at this e1
  simp only [Value.slice.injEq,Option.some.injEq,Addr.mk.injEq,and_true,true_and] at e1
  obtain ⟨rfl,_⟩:=e1
  exact ⟨this,f1 i,C3.m.nextAt hv1 htl⟩
 have C4:=(C3.bump hv1 htl hsl hHg).below (Below.refl _ _).drew
 have nx7':((s.t i).next:Int)≤7:=by omega
 clear C3
 go_region
 clear k1 kf1 kn
 generalize (W3.setCell ⟨g1,i,none⟩ (.int .i64 (((s.t i).next:Int)+1))).drew=W4 at *
 obtain ⟨q0,q1,q2⟩:=And.intro C4.q0 (And.intro C4.q1 C4.q2)
 have hm4:=C4.m
 have bel4:=C4.bel
 obtain ⟨p0,p3⟩:=F.us rfl
 simp only at p0 p3
 go_wp2_with (go_at_call 52;refine (swrite_any base X i _ _ c vs (s.bump i) dp dv late W4 hm4 htl h3 p0 p3 (by rw [M.bump_t _ _ hsl];exact hpr) (by rw [M.bump_t _ _ hsl];have:=F.wr rfl;show (s.t i).pend.length≤6;omega) hat (by rw [M.bump_len];exact hth)).mono ?_;rintro e w5 ⟨rfl,hm5,hb5⟩)
 go_ret
 exact ⟨by rw [HN.out];rfl,⟨fun s' e=>(by
  rw [HN.out] at e
  obtain rfl:=Option.some.inj e
  exact M.bump_write late s i dp dv hsl▸hm5),bel4.trans hb5⟩⟩
end
section
open Go.RowKit
set_option maxHeartbeats 4000000 in
set_option maxRecDepth 100000 in
theorem sstep_2 (base X i:Nat) (a:Option Addr) (b o c:Nat) (ll:List (List M.D)) (late:Bool) (vs:Rid→Value) (s:M.St) (d:M.D) (w0 w:World) (h0:DoSS w0 a b o ll) (hw0:w0.heap.size≤base) (hb0:Below base w0 w) (h:SM w base X a ll.length c vs s) (htl:i < ll.length) (h3:ll.length≤3) (hp:M.prog ll=true) (I:M.Inv ll s) (_E:M.Edge ll.length s) (hd:s.d? ll i=some d) (hk:Hid (d.k=2)) :
  Calls Try.prog 31 #[.pointer (some ⟨X,0,none⟩),.int .i64 i,.bool late] w fun e w'=>e=.returned (.bool (s.step? late ll i).isSome)∧SmR w w' base X a ll.length c (s.step? late ll i):=by
 have ht:i < 3:=by omega
 have hsl:i < s.th.length:=by rw [I.th];exact ht
 have F:=I.fit (M.thOk_of hp i) ht hd
 have c0:=h.c0
 have hp1:=h0.below hb0 hw0
 obtain ⟨rfl⟩:=h0.addr (by omega)
 obtain ⟨a',b',o',c',hc,hdd⟩:=hp1.row i htl
 have hg:ll.getD i []=ll[i]:=by simp [htl]
 have HR:Hid (s.step? late ll i=if M.canD (s.t i) d then some (s.stepD late i d) else none):=by
  show _=_
  unfold M.St.step?
  rw [hd]
 have hd':=hd
 rw [M.St.d?,hg] at hd
 have hlt:(s.t i).next < ll[i].length:=by
  rcases Nat.lt_or_ge (s.t i).next ll[i].length with h | h
  ·exact h
  ·rw [List.getElem?_eq_none h] at hd;cases hd
 have hde:ll[i][(s.t i).next]=d:=by rw [List.getElem?_eq_getElem hlt] at hd;exact Option.some.inj hd
 have hok:=M.thr_ok hp htl (List.mem_of_getElem? hd)
 obtain ⟨rfl⟩:=hdd.addr (by omega)
 have hrow:=hdd.row _ hlt
 rw [hde] at hrow
 obtain ⟨ck,cp,cv⟩:=hrow
 have nx7:=F.nx
 have i2:((s.t i).next:Int) < ll[i].length:=by omega
 have i3:(i:Int) < ll.length:=by omega
 have lX:=h.lt
 obtain ⟨g1,c1,hv1,hb1,hf1⟩:=h.top (k:=1) (by omega) (by omega)
 have k1:=h.ck (k:=1) (by omega)
 rw [hv1] at k1
 have kn:=h.nextAt hv1 htl
 have lg1:g1 < w.heap.size:=World.block_lt_of_cell? _ _ kn
 have lb:b < w.heap.size:=World.block_lt_of_cell? _ _ hc
 have lb':b' < w.heap.size:=World.block_lt_of_cell? _ _ ck
 have hbX:=h.bX
 have hoffH:∀ r,okN ll.length r→(vs r).ownBlock≠some w.heap.size:=fun r hr e=>by have:=(SM.own h hr).lt _ e;omega
 clear hd hde hp1 hdd hg h0
 have wl:ll[i].length≤7:=by have:=(M.thOk_of hp i).len;rwa [show ll.getD i []=ll[i] from by simp [htl]] at this
 generalize ll[i]=l at *
 go_enter Try.func31,Try.ntmps31
 go_wp2_with fail
 go_region
 have C:StC (w.alloc (.cells #[.int .i64 d.k,.int .i64 d.p,.int .i64 d.v] 84)).drew w.heap.size base X (some ⟨b,o,none⟩) ll.length c vs s d w :=
  ⟨by simp,by simp,by simp,h.below ((below1 w _).trans ((Below.refl _ _).drew)),((below1 w _).mono (by omega)).trans ((Below.refl _ _).drew)⟩
 clear h c0 hc ck cp cv k1 kn lb lb' hf1 hb1 i2 hlt
 have hHg:w.heap.size≠g1:=by omega
 generalize (w.alloc (.cells #[.int .i64 d.k,.int .i64 d.p,.int .i64 d.v] 84)).drew=W2 at *
 generalize w.heap.size=H at *
 simp only [M.doOk,Bool.and_eq_true] at hok
 obtain ⟨⟨hkw,hpl⟩,hvl⟩:=hok
 have heV:∀ args w,(callFunc 53 args).run Try.prog w=.ok (.enter 53 args) w:=enters_of Try.func53 (by kernel_rfl) rfl
 have heW:∀ args w,(callFunc 52 args).run Try.prog w=.ok (.enter 52 args) w:=enters_of Try.func52 (by kernel_rfl) rfl
 obtain ⟨dk,dp,dv⟩:=d
 replace hk:=hk.out
 simp only at C F HR hkw hpl hvl hk
 subst hk
 have hpr:=fun q (hq:q∈(s.t i).pend)=>F.pr q hq
 have hth:=I.th
 have hat:=I.at_
 have HN:Hid (s.step? late ll i=some ((s.keep i (s.look i dp)).bump i)):=by show _=_;rw [HR.out];rfl
 obtain ⟨q0,q1,q2⟩:=And.intro C.q0 (And.intro C.q1 C.q2)
 have lH:H < W2.heap.size:=World.block_lt_of_cell? _ _ q0
 have lX2:X < W2.heap.size:=C.m.lt
 go_wp2_with (first | (go_at_call 50;refine (l1Reads_any ⟨_,_,_⟩ _).mono ?_;rintro e w3 ⟨rfl,rfl⟩) | (go_at_call 51;refine (l1Writes_any ⟨_,_,_⟩ _).mono ?_;rintro e w4 ⟨rfl,rfl⟩))
 have C3:=C.below (W':=(W2.alloc (.cells #[.int .i64 2,.int .i64 dp,.int .i64 dv] 84))) (below1 _ _)
 clear C q0 q1 q2 lH lX2
 generalize (W2.alloc (.cells #[.int .i64 2,.int .i64 dp,.int .i64 dv] 84))=W3 at *
 obtain ⟨k1,kf1,kn⟩:W3.cell? ⟨X,1,none⟩=some (.slice (some ⟨g1,0,none⟩) ll.length c1)∧W3.frozen? ⟨g1,i,none⟩=false∧W3.cell? ⟨g1,i,none⟩=some (.int .i64 (s.t i).next):=by
  obtain ⟨g1',c1',e1,_,f1⟩:=C3.m.top (k:=1) (by omega) (by omega)
  have:=C3.m.ck (k:=1) (by omega)
  rw [hv1] at this e1
  simp only [Value.slice.injEq,Option.some.injEq,Addr.mk.injEq,and_true,true_and] at e1
  obtain ⟨rfl,_⟩:=e1
  exact ⟨this,f1 i,C3.m.nextAt hv1 htl⟩
 have C4:=(C3.bump hv1 htl hsl hHg).below (Below.refl _ _).drew
 have nx7':((s.t i).next:Int)≤7:=by omega
 clear C3
 go_region
 clear k1 kf1 kn
 generalize (W3.setCell ⟨g1,i,none⟩ (.int .i64 (((s.t i).next:Int)+1))).drew=W4 at *
 obtain ⟨q0,q1,q2⟩:=And.intro C4.q0 (And.intro C4.q1 C4.q2)
 have hm4:=C4.m
 have bel4:=C4.bel
 obtain ⟨p,rfl⟩:∃ p:Nat,dp=p:=⟨dp.toNat,by have:=F.us rfl;simp at this;omega⟩
 have hp3:p < 3:=by have:=F.us rfl;simp at this;omega
 obtain ⟨g3,c3,hv3,hb3,hf3⟩:=hm4.top (k:=3) (by omega) (by omega)
 have k3:=hm4.ck (k:=3) (by omega)
 rw [hv3] at k3
 have kr:=hm4.subAt (Or.inr (Or.inl rfl)) hv3 htl
 have lG:g3 < W4.heap.size:=World.block_lt_of_cell? _ _ kr
 have lX4:X < W4.heap.size:=hm4.lt
 have hown:=hm4.reads htl
 obtain ⟨la,lc,hvl2,hlc⟩:=own_sl hown
 rw [hvl2] at kr hown
 have hbt:((s.bump i).t i).vals=(s.t i).vals:=by rw [M.bump_t _ _ hsl]
 rw [hbt] at hown kr hlc hvl2
 have hne3:some g3≠(Value.slice la (s.t i).vals.length lc).ownBlock:=fun e=>by
  have:=hm4.apart (r:=.sub 3 i) (r':=.top 3) ⟨by omega,htl⟩ ⟨by omega,by omega⟩ (by simp)
  rw [hvl2,hv3] at this
  exact this g3 e.symm rfl
 have hneX:some X≠(Value.slice la (s.t i).vals.length lc).ownBlock:=fun e=>by
  have:=SMN.offX hm4 (r:=.sub 3 i) ⟨by omega,htl⟩
  rw [hvl2] at this
  exact this e.symm
 have hbd:Below W4.heap.size W4 W4.drew:=(Below.refl _ _).drew
 have hv:=svalue_any base X i p _ _ c vs (s.bump i) W4.drew (hm4.below hbd) htl (by show p < s.at_.length;omega) h3 (by rw [M.bump_t _ _ hsl];have:=M.cnt_take_le M.writes (ll.getD i []) (s.t i).next;have:=(I.each i ht).pend;have:=(M.thOk_of hp i).wr;show (s.t i).pend.length≤1048576;omega) hat
 rw [M.bump_look s i p hsl] at hv
 have h6:(s.t i).vals.length < 6:=F.rd rfl
 obtain ⟨i0,hI,hz0,hz1,hz2⟩:=info_parts Try.smInt
 have hge:=own_ge hown
 generalize s.look i p=x at *
 have hbe:=below1 W4.drew (.cells #[.int .i64 x] 3)
 go_wp2_with fail
 have hS9:∀ w',Below W4.heap.size W4 w'→w'.cell? ⟨X,3,none⟩=some (.slice (some ⟨g3,0,none⟩) ll.length c3)∧w'.cell? ⟨H,1,none⟩=some (.int .i64 p):=fun w' hb=>⟨(hb.cell (p:=⟨X,3,none⟩) lX4).trans k3,(hb.cell (p:=⟨H,1,none⟩) (World.block_lt_of_cell? _ _ q1)).trans q1⟩
 have lH4:H < W4.heap.size:=World.block_lt_of_cell? _ _ q1
 refine wp_region_held_drew (S:=fun w'=>w'.cell? ⟨X,3,none⟩=some (.slice (some ⟨g3,0,none⟩) ll.length c3)∧w'.cell? ⟨H,1,none⟩=some (.int .i64 p)) (by kernel_rfl) (hS9 W4.drew hbd) (fun hH=>?_)
 refine tk 0 74 (.pointer (some ⟨X,0,none⟩)) hH rfl rfl (by intro w' hSw;go_simp) ?_
 try simp only [Act.put,zqa,zqb,zqc]
 refine tk 1 75 (.pointer (some ⟨X,0,none⟩)) hH rfl rfl (by intro w' hSw;go_simp) ?_
 try simp only [Act.put,zqa,zqb,zqc]
 refine tk 2 76 (.pointer (some ⟨X,3,none⟩)) hH rfl rfl (by intro w' hSw;go_simp) ?_
 try simp only [Act.put,zqa,zqb,zqc]
 refine tk 3 77 (.slice (some ⟨g3,0,none⟩) ll.length c3) hH rfl rfl (by intro w' hSw;have hc:=hSw.1;go_simp) ?_
 try simp only [Act.put,zqa,zqb,zqc]
 refine tk 4 78 (.int .i64 i) hH rfl rfl (by intro w' hSw;go_simp) ?_
 try simp only [Act.put,zqa,zqb,zqc]
 refine tk 5 79 (.pointer (some ⟨X,0,none⟩)) hH rfl rfl (by intro w' hSw;go_simp) ?_
 try simp only [Act.put,zqa,zqb,zqc]
 refine tk 6 80 (.pointer (some ⟨X,0,none⟩)) hH rfl rfl (by intro w' hSw;go_simp) ?_
 try simp only [Act.put,zqa,zqb,zqc]
 refine tk 7 81 (.pointer (some ⟨X,3,none⟩)) hH rfl rfl (by intro w' hSw;go_simp) ?_
 try simp only [Act.put,zqa,zqb,zqc]
 refine tk 8 82 (.slice (some ⟨g3,0,none⟩) ll.length c3) hH rfl rfl (by intro w' hSw;have hc:=hSw.1;go_simp) ?_
 try simp only [Act.put,zqa,zqb,zqc]
 refine tk 9 83 (.int .i64 i) hH rfl rfl (by intro w' hSw;go_simp) ?_
 try simp only [Act.put,zqa,zqb,zqc]
 refine tk 10 84 (.pointer (some ⟨g3,i,none⟩)) hH rfl rfl (by intro w' hSw;go_simp) ?_
 try simp only [Act.put,zqa,zqb,zqc]
 refine tk 12 86 (.pointer (some ⟨X,0,none⟩)) hH rfl rfl (by intro w' hSw;go_simp) ?_
 try simp only [Act.put,zqa,zqb,zqc]
 refine tk 13 87 (.int .i64 i) hH rfl rfl (by intro w' hSw;go_simp) ?_
 try simp only [Act.put,zqa,zqb,zqc]
 refine tk 14 88 (.pointer (some ⟨H,1,none⟩)) hH rfl rfl (by intro w' hSw;go_simp) ?_
 try simp only [Act.put,zqa,zqb,zqc]
 refine tk 15 89 (.int .i64 p) hH rfl rfl (by intro w' hSw;have hc:=hSw.2;go_simp) ?_
 try simp only [Act.put,zqa,zqb,zqc]
 have hbE:Below W4.heap.size W4 (W4.drew.alloc (.cells #[.int .i64 x] 3)):=hbd.trans hbe
 have krE:(W4.drew.alloc (.cells #[.int .i64 x] 3)).cell? ⟨g3,i,none⟩=some (.slice la (s.t i).vals.length lc):=(hbE.cell (p:=⟨g3,i,none⟩) lG).trans kr
 have hownE:(W4.drew.alloc (.cells #[.int .i64 x] 3)).ownsRow base 3 1 (.slice la (s.t i).vals.length lc) (s.t i).vals.length (nums (s.t i).vals):=ownsRow_below hown hbE
 have hnewE:=World.news_of_block (cs:=#[.int .i64 x]) (t:=3) (fr:=(0,0)) (heap_alloc_new W4.drew (.cells #[.int .i64 x] 3))
 have hXg:X≠g3:=fun e=>(SMN.offX hm4 (r:=.top 3) ⟨by omega,by omega⟩) (by rw [hv3,e];rfl)
 have hHg3:H≠g3:=fun e=>hoffH (.top 3) ⟨by omega,by omega⟩ (by rw [hv3,e];rfl)
 have hHo:some H≠(Value.slice la (s.t i).vals.length lc).ownBlock:=fun e=>hoffH (.sub 3 i) ⟨by omega,htl⟩ (by rw [hvl2];exact e.symm)
 have fin:∀ v3 w3,w3.ownsRow base 3 1 v3 ((s.t i).vals.length+1) (nums (s.t i).vals++[.int .i64 x])→(W4.drew.alloc (.cells #[.int .i64 x] 3)).grownBy w3 (Value.slice la (s.t i).vals.length lc).ownBlock→(v3.ownBlock=(Value.slice la (s.t i).vals.length lc).ownBlock∨v3.ownBlock=some (W4.drew.alloc (.cells #[.int .i64 x] 3)).heap.size) →
   SM (w3.setCell ⟨g3,i,none⟩ v3) base X (some ⟨b,o,none⟩) ll.length c (setR vs (.sub 3 i) v3) ((s.bump i).keep i x)∧Below base w (w3.setCell ⟨g3,i,none⟩ v3)∧∃ a3 c9,v3=.slice a3 ((s.t i).vals.length+1) c9∧w3.cell? ⟨X,3,none⟩=some (.slice (some ⟨g3,0,none⟩) ll.length c3)∧w3.cell? ⟨g3,i,none⟩=some (.slice la (s.t i).vals.length lc)∧w3.frozen? ⟨g3,i,none⟩=false∧w3.cell? ⟨H,1,none⟩=some (.int .i64 p)∧w3.cell? ⟨X,3,none⟩=some (.slice (some ⟨g3,0,none⟩) ll.length c3):=by
  intro v3 w3 hown3 hg3 hat3
  obtain ⟨a3,c9,e3,_⟩:=own_sl hown3
  have hg:W4.grownBy w3 (Value.slice la (s.t i).vals.length lc).ownBlock:=⟨hg3.os.trans hbE.os,hg3.tape.trans hbE.tape,hg3.output.trans hbE.output,Nat.le_trans hbE.size hg3.size,fun k hk hne=>(hg3.block k (Nat.lt_of_lt_of_le hk hbE.size) hne).trans (hbE.block k hk)⟩
  have hS:=hm4.sub (k:=3) (i:=i) (s':=(s.bump i).keep i x) (v':=v3) (Or.inr (Or.inl rfl)) htl (by rw [hvl2];exact hg) hv3 (by
   show w3.ownsRow base 3 1 _ (M.St.t ((s.bump i).keep i x) i).vals.length (nums (M.St.t ((s.bump i).keep i x) i).vals)
   unfold M.St.keep
   rw [M.t_put _ _ _ _ (by rw [M.bump_len];omega),if_pos rfl,hbt]
   show w3.ownsRow base 3 1 _ ((s.t i).vals++[x]).length (nums ((s.t i).vals++[x]))
   rw [show nums ((s.t i).vals++[x])=nums (s.t i).vals++[.int .i64 x] from by simp [nums],List.length_append]
   exact hown3) (by
    rcases hat3 with e | e
    ·exact Or.inl (by rw [hvl2];exact e)
    ·exact Or.inr (fun k hk=>by rw [e] at hk;simp at hk;omega)) (fun rr _ hne=>rw_put _ i _ (by rw [M.bump_len];omega) rr (fun _=>rfl) (fun _=>rfl) (fun _=>rfl) (fun e=>absurd e hne) (fun _=>rfl))
  exact ⟨hS,(below_grown bel4 hg hge (by omega)).setCell (by show base≤g3;exact hb3) _,a3,c9,e3,hg.cell k3 hneX,hg.cell kr hne3,(World.frozen?_of_block (hg.block g3 lG hne3)).trans (hf3 i),hg.cell q1 hHo,hg.cell k3 hneX⟩
 refine wpAnyH_ready (rs:=[11,16]) (by kernel_rfl) (by simp) ?_
 refine AllReadyH.cons rfl (fun K' hK=>?_) (AllReadyH.cons rfl (fun K' hK=>?_) AllReadyH.nil)
 ·rw [if_pos (by rfl)]
  have kr':(W4.drew).cell? ⟨g3,i,none⟩=some (.slice la (s.t i).vals.length lc):=kr
  go_simp
  refine hK.out _ _ (hS9 _ hbd) (fun hHx=>?_)
  clear hK K'
  clear kr'
  try simp only [Act.put,zqa,zqb,zqc]
  refine ry 16 rfl (fun K' hK=>?_)
  refine step_goV (by rfl) (some 90) rfl 53 #[.tmp 86,.tmp 87,.tmp 89] _ rfl #[.pointer (some ⟨X,0,none⟩),.int .i64 i,.int .i64 p] (by simp [Act.eval]) heV hv ?_
  rintro e w6 ⟨rfl,rfl⟩
  refine ⟨_,rfl,hK.out _ _ (hS9 _ hbd) (fun hHx=>?_)⟩
  clear hK K'
  try simp only [Act.put,zqa,zqb,zqc]
  refine ry 17 rfl (fun K' hK=>?_)
  rw [if_pos (by rfl)]
  go_simp
  refine hK.out _ _ (hS9 _ hbE) (fun hHx=>?_)
  clear hK K'
  try simp only [Act.put,zqa,zqb,zqc]
  refine ry 18 rfl (fun K' hK=>?_)
  refine step_app rfl (.tmp 85) (.tmp 91) 25 rfl (some 92) rfl base 3 i0 _ 1 8 Try.underlying25 hI hz0 hz1 hz2 rfl (by omega) (.slice la (s.t i).vals.length lc) (s.t i).vals.length (nums (s.t i).vals) (by rfl) hownE ⟨W4.heap.size,0,none⟩ 1 1 [.int .i64 x] (by rfl) rfl hnewE (by simp [Value.oneCell']) (by unfold maxLen;omega) (by omega) (by simp;omega) ?_
  intro v3 w3 hown3 hg3 hat3
  obtain ⟨hS,hbS,a3,c9,rfl,kk3,kr3,kf3,hq3,hX3⟩:=fin v3 w3 hown3 hg3 hat3
  refine hK.out _ _ (⟨hX3,hq3⟩) (fun hHx=>?_)
  clear hK K'
  try simp only [Act.put,zqa,zqb,zqc]
  refine tk 19 93 (.pointer (some ⟨g3,i,none⟩)) hHx rfl rfl (by intro w' hSw;go_simp) ?_
  try simp only [Act.put,zqa,zqb,zqc]
  refine ry 20 rfl (fun K' hK=>?_)
  rw [if_pos (by rfl)]
  go_simp
  refine hK.out _ _ (⟨(World.cell?_setCell_other _ _ _ _ (fun e=>by have:=congrArg Addr.block e;simp at this;omega)).trans hX3,(World.cell?_setCell_other _ _ _ _ (fun e=>by have:=congrArg Addr.block e;simp at this;omega)).trans hq3⟩) (fun hHx=>?_)
  clear hK K'
  refine wpAnyH_done (by kernel_rfl) ?_ _
  go_wp2_with fail
  go_ret
  exact ⟨by rw [HN.out];rfl,⟨fun s' e=>(by
   rw [HN.out] at e
   obtain rfl:=Option.some.inj e
   exact ⟨_,(M.bump_keep s i x hsl▸hS)⟩),hbS⟩⟩
 ·refine step_goV (by rfl) (some 90) rfl 53 #[.tmp 86,.tmp 87,.tmp 89] _ rfl #[.pointer (some ⟨X,0,none⟩),.int .i64 i,.int .i64 p] (by simp [Act.eval]) heV hv ?_
  rintro e w6 ⟨rfl,rfl⟩
  refine ⟨_,rfl,hK.out _ _ (hS9 _ hbd) (fun hHx=>?_)⟩
  clear hK K'
  try simp only [Act.put,zqa,zqb,zqc]
  refine wpAnyH_ready (rs:=[11,17]) (by kernel_rfl) (by simp) ?_
  refine AllReadyH.cons rfl (fun K' hK=>?_) (AllReadyH.cons rfl (fun K' hK=>?_) AllReadyH.nil)
  ·rw [if_pos (by rfl)]
   have kr':(W4.drew).cell? ⟨g3,i,none⟩=some (.slice la (s.t i).vals.length lc):=kr
   go_simp
   refine hK.out _ _ (hS9 _ hbd) (fun hHx=>?_)
   clear hK K'
   clear kr'
   try simp only [Act.put,zqa,zqb,zqc]
   refine ry 17 rfl (fun K' hK=>?_)
   rw [if_pos (by rfl)]
   go_simp
   refine hK.out _ _ (hS9 _ hbE) (fun hHx=>?_)
   clear hK K'
   try simp only [Act.put,zqa,zqb,zqc]
   refine ry 18 rfl (fun K' hK=>?_)
   refine step_app rfl (.tmp 85) (.tmp 91) 25 rfl (some 92) rfl base 3 i0 _ 1 8 Try.underlying25 hI hz0 hz1 hz2 rfl (by omega) (.slice la (s.t i).vals.length lc) (s.t i).vals.length (nums (s.t i).vals) (by rfl) hownE ⟨W4.heap.size,0,none⟩ 1 1 [.int .i64 x] (by rfl) rfl hnewE (by simp [Value.oneCell']) (by unfold maxLen;omega) (by omega) (by simp;omega) ?_
   intro v3 w3 hown3 hg3 hat3
   obtain ⟨hS,hbS,a3,c9,rfl,kk3,kr3,kf3,hq3,hX3⟩:=fin v3 w3 hown3 hg3 hat3
   refine hK.out _ _ (⟨hX3,hq3⟩) (fun hHx=>?_)
   clear hK K'
   try simp only [Act.put,zqa,zqb,zqc]
   refine tk 19 93 (.pointer (some ⟨g3,i,none⟩)) hHx rfl rfl (by intro w' hSw;go_simp) ?_
   try simp only [Act.put,zqa,zqb,zqc]
   refine ry 20 rfl (fun K' hK=>?_)
   rw [if_pos (by rfl)]
   go_simp
   refine hK.out _ _ (⟨(World.cell?_setCell_other _ _ _ _ (fun e=>by have:=congrArg Addr.block e;simp at this;omega)).trans hX3,(World.cell?_setCell_other _ _ _ _ (fun e=>by have:=congrArg Addr.block e;simp at this;omega)).trans hq3⟩) (fun hHx=>?_)
   clear hK K'
   refine wpAnyH_done (by kernel_rfl) ?_ _
   go_wp2_with fail
   go_ret
   exact ⟨by rw [HN.out];rfl,⟨fun s' e=>(by
    rw [HN.out] at e
    obtain rfl:=Option.some.inj e
    exact ⟨_,(M.bump_keep s i x hsl▸hS)⟩),hbS⟩⟩
  ·rw [if_pos (by rfl)]
   go_simp
   refine hK.out _ _ (hS9 _ hbE) (fun hHx=>?_)
   clear hK K'
   try simp only [Act.put,zqa,zqb,zqc]
   refine ry 11 rfl (fun K' hK=>?_)
   rw [if_pos (by rfl)]
   have kr':(W4.drew.alloc (.cells #[.int .i64 x] 3)).cell? ⟨g3,i,none⟩=some (.slice la (s.t i).vals.length lc):=krE
   go_simp
   refine hK.out _ _ (hS9 _ hbE) (fun hHx=>?_)
   clear hK K'
   clear kr'
   try simp only [Act.put,zqa,zqb,zqc]
   refine ry 18 rfl (fun K' hK=>?_)
   refine step_app rfl (.tmp 85) (.tmp 91) 25 rfl (some 92) rfl base 3 i0 _ 1 8 Try.underlying25 hI hz0 hz1 hz2 rfl (by omega) (.slice la (s.t i).vals.length lc) (s.t i).vals.length (nums (s.t i).vals) (by rfl) hownE ⟨W4.heap.size,0,none⟩ 1 1 [.int .i64 x] (by rfl) rfl hnewE (by simp [Value.oneCell']) (by unfold maxLen;omega) (by omega) (by simp;omega) ?_
   intro v3 w3 hown3 hg3 hat3
   obtain ⟨hS,hbS,a3,c9,rfl,kk3,kr3,kf3,hq3,hX3⟩:=fin v3 w3 hown3 hg3 hat3
   refine hK.out _ _ (⟨hX3,hq3⟩) (fun hHx=>?_)
   clear hK K'
   try simp only [Act.put,zqa,zqb,zqc]
   refine tk 19 93 (.pointer (some ⟨g3,i,none⟩)) hHx rfl rfl (by intro w' hSw;go_simp) ?_
   try simp only [Act.put,zqa,zqb,zqc]
   refine ry 20 rfl (fun K' hK=>?_)
   rw [if_pos (by rfl)]
   go_simp
   refine hK.out _ _ (⟨(World.cell?_setCell_other _ _ _ _ (fun e=>by have:=congrArg Addr.block e;simp at this;omega)).trans hX3,(World.cell?_setCell_other _ _ _ _ (fun e=>by have:=congrArg Addr.block e;simp at this;omega)).trans hq3⟩) (fun hHx=>?_)
   clear hK K'
   refine wpAnyH_done (by kernel_rfl) ?_ _
   go_wp2_with fail
   go_ret
   exact ⟨by rw [HN.out];rfl,⟨fun s' e=>(by
    rw [HN.out] at e
    obtain rfl:=Option.some.inj e
    exact ⟨_,(M.bump_keep s i x hsl▸hS)⟩),hbS⟩⟩
end
section
open Go.RowKit
set_option maxHeartbeats 4000000 in
set_option maxRecDepth 100000 in
theorem sstep_3 (base X i:Nat) (a:Option Addr) (b o c:Nat) (ll:List (List M.D)) (late:Bool) (vs:Rid→Value) (s:M.St) (d:M.D) (w0 w:World) (h0:DoSS w0 a b o ll) (hw0:w0.heap.size≤base) (hb0:Below base w0 w) (h:SM w base X a ll.length c vs s) (htl:i < ll.length) (h3:ll.length≤3) (hp:M.prog ll=true) (I:M.Inv ll s) (_E:M.Edge ll.length s) (hd:s.d? ll i=some d) (hk:Hid (d.k=3)) :
  Calls Try.prog 31 #[.pointer (some ⟨X,0,none⟩),.int .i64 i,.bool late] w fun e w'=>e=.returned (.bool (s.step? late ll i).isSome)∧SmR w w' base X a ll.length c (s.step? late ll i):=by
 have ht:i < 3:=by omega
 have hsl:i < s.th.length:=by rw [I.th];exact ht
 have F:=I.fit (M.thOk_of hp i) ht hd
 have c0:=h.c0
 have hp1:=h0.below hb0 hw0
 obtain ⟨rfl⟩:=h0.addr (by omega)
 obtain ⟨a',b',o',c',hc,hdd⟩:=hp1.row i htl
 have hg:ll.getD i []=ll[i]:=by simp [htl]
 have HR:Hid (s.step? late ll i=if M.canD (s.t i) d then some (s.stepD late i d) else none):=by
  show _=_
  unfold M.St.step?
  rw [hd]
 have hd':=hd
 rw [M.St.d?,hg] at hd
 have hlt:(s.t i).next < ll[i].length:=by
  rcases Nat.lt_or_ge (s.t i).next ll[i].length with h | h
  ·exact h
  ·rw [List.getElem?_eq_none h] at hd;cases hd
 have hde:ll[i][(s.t i).next]=d:=by rw [List.getElem?_eq_getElem hlt] at hd;exact Option.some.inj hd
 have hok:=M.thr_ok hp htl (List.mem_of_getElem? hd)
 obtain ⟨rfl⟩:=hdd.addr (by omega)
 have hrow:=hdd.row _ hlt
 rw [hde] at hrow
 obtain ⟨ck,cp,cv⟩:=hrow
 have nx7:=F.nx
 have i2:((s.t i).next:Int) < ll[i].length:=by omega
 have i3:(i:Int) < ll.length:=by omega
 have lX:=h.lt
 obtain ⟨g1,c1,hv1,hb1,hf1⟩:=h.top (k:=1) (by omega) (by omega)
 have k1:=h.ck (k:=1) (by omega)
 rw [hv1] at k1
 have kn:=h.nextAt hv1 htl
 have lg1:g1 < w.heap.size:=World.block_lt_of_cell? _ _ kn
 have lb:b < w.heap.size:=World.block_lt_of_cell? _ _ hc
 have lb':b' < w.heap.size:=World.block_lt_of_cell? _ _ ck
 have hbX:=h.bX
 have hoffH:∀ r,okN ll.length r→(vs r).ownBlock≠some w.heap.size:=fun r hr e=>by have:=(SM.own h hr).lt _ e;omega
 clear hd hde hp1 hdd hg h0
 have wl:ll[i].length≤7:=by have:=(M.thOk_of hp i).len;rwa [show ll.getD i []=ll[i] from by simp [htl]] at this
 generalize ll[i]=l at *
 go_enter Try.func31,Try.ntmps31
 go_wp2_with fail
 go_region
 have C:StC (w.alloc (.cells #[.int .i64 d.k,.int .i64 d.p,.int .i64 d.v] 84)).drew w.heap.size base X (some ⟨b,o,none⟩) ll.length c vs s d w :=
  ⟨by simp,by simp,by simp,h.below ((below1 w _).trans ((Below.refl _ _).drew)),((below1 w _).mono (by omega)).trans ((Below.refl _ _).drew)⟩
 clear h c0 hc ck cp cv k1 kn lb lb' hf1 hb1 i2 hlt
 have hHg:w.heap.size≠g1:=by omega
 generalize (w.alloc (.cells #[.int .i64 d.k,.int .i64 d.p,.int .i64 d.v] 84)).drew=W2 at *
 generalize w.heap.size=H at *
 simp only [M.doOk,Bool.and_eq_true] at hok
 obtain ⟨⟨hkw,hpl⟩,hvl⟩:=hok
 have heV:∀ args w,(callFunc 53 args).run Try.prog w=.ok (.enter 53 args) w:=enters_of Try.func53 (by kernel_rfl) rfl
 have heW:∀ args w,(callFunc 52 args).run Try.prog w=.ok (.enter 52 args) w:=enters_of Try.func52 (by kernel_rfl) rfl
 obtain ⟨dk,dp,dv⟩:=d
 replace hk:=hk.out
 simp only at C F HR hkw hpl hvl hk
 subst hk
 have hpr:=fun q (hq:q∈(s.t i).pend)=>F.pr q hq
 have hth:=I.th
 have hat:=I.at_
 have HN:Hid (s.step? late ll i=some ((s.write late i dp ((s.t i).vals.getD ((s.t i).vals.length - 1) 0)).bump i)):=by show _=_;rw [HR.out];rfl
 obtain ⟨q0,q1,q2⟩:=And.intro C.q0 (And.intro C.q1 C.q2)
 have lH:H < W2.heap.size:=World.block_lt_of_cell? _ _ q0
 have lX2:X < W2.heap.size:=C.m.lt
 go_wp2_with (first | (go_at_call 50;refine (l1Reads_any ⟨_,_,_⟩ _).mono ?_;rintro e w3 ⟨rfl,rfl⟩) | (go_at_call 51;refine (l1Writes_any ⟨_,_,_⟩ _).mono ?_;rintro e w4 ⟨rfl,rfl⟩))
 have C3:=C.below (W':=((W2.alloc (.cells #[.int .i64 3,.int .i64 dp,.int .i64 dv] 84)).alloc (.cells #[.int .i64 3,.int .i64 dp,.int .i64 dv] 84))) (below2 _ _ _)
 clear C q0 q1 q2 lH lX2
 generalize ((W2.alloc (.cells #[.int .i64 3,.int .i64 dp,.int .i64 dv] 84)).alloc (.cells #[.int .i64 3,.int .i64 dp,.int .i64 dv] 84))=W3 at *
 obtain ⟨k1,kf1,kn⟩:W3.cell? ⟨X,1,none⟩=some (.slice (some ⟨g1,0,none⟩) ll.length c1)∧W3.frozen? ⟨g1,i,none⟩=false∧W3.cell? ⟨g1,i,none⟩=some (.int .i64 (s.t i).next):=by
  obtain ⟨g1',c1',e1,_,f1⟩:=C3.m.top (k:=1) (by omega) (by omega)
  have:=C3.m.ck (k:=1) (by omega)
  rw [hv1] at this e1
  simp only [Value.slice.injEq,Option.some.injEq,Addr.mk.injEq,and_true,true_and] at e1
  obtain ⟨rfl,_⟩:=e1
  exact ⟨this,f1 i,C3.m.nextAt hv1 htl⟩
 have C4:=(C3.bump hv1 htl hsl hHg).below (Below.refl _ _).drew
 have nx7':((s.t i).next:Int)≤7:=by omega
 clear C3
 go_region
 clear k1 kf1 kn
 generalize (W3.setCell ⟨g1,i,none⟩ (.int .i64 (((s.t i).next:Int)+1))).drew=W4 at *
 obtain ⟨q0,q1,q2⟩:=And.intro C4.q0 (And.intro C4.q1 C4.q2)
 have hm4:=C4.m
 have bel4:=C4.bel
 obtain ⟨p0,p3⟩:=F.us rfl
 simp only at p0 p3
 obtain ⟨n0,n6⟩:=F.cp rfl
 obtain ⟨g3,c3,hv3,hb3,hf3⟩:=hm4.top (k:=3) (by omega) (by omega)
 have k3:=hm4.ck (k:=3) (by omega)
 rw [hv3] at k3
 have kr:=hm4.subAt (Or.inr (Or.inl rfl)) hv3 htl
 have hown:=hm4.reads htl
 have hbt:((s.bump i).t i).vals=(s.t i).vals:=by rw [M.bump_t _ _ hsl]
 rw [hbt] at hown
 obtain ⟨gl,lc,hvl2,_,hlc⟩:=own_slp hown n0
 rw [hvl2] at kr hown
 obtain ⟨m,hm⟩:∃ m,(s.t i).vals.length=m+1:=⟨(s.t i).vals.length - 1,by omega⟩
 have kx:W4.cell? ⟨gl,m,none⟩=some (.int .i64 ((s.t i).vals.getD m 0)):=own_cellE hown (by simp [nums,hm])
 rw [hm] at kr HN
 rw [Nat.add_sub_cancel] at HN
 have hwa:=fun x=>swrite_full base X i _ _ c vs (s.bump i) dp x late W4.drew (hm4.below (Below.refl _ _).drew) htl h3 p0 p3 (by rw [M.bump_t _ _ hsl];exact hpr) (by rw [M.bump_t _ _ hsl];have:=F.wr rfl;show (s.t i).pend.length≤6;omega) hat (by rw [M.bump_len];exact hth)
 generalize (s.t i).vals.getD m 0=x at *
 have hwa:=hwa x
 have hwr:IntKind.i64.wrap (m:Int)=m:=by rw [IntKind.wrap_i64];omega
 have i5:(m:Int) < (m:Int)+1:=by omega
 have i6:(0:Int)≤(m:Int):=by omega
 go_wp2_with fail
 have lX4:X < W4.heap.size:=hm4.lt
 have lG:g3 < W4.heap.size:=World.block_lt_of_cell? _ _ kr
 have lGl:gl < W4.heap.size:=World.block_lt_of_cell? _ _ kx
 have lH4:H < W4.heap.size:=World.block_lt_of_cell? _ _ q1
 have hbd:Below W4.heap.size W4 W4.drew:=(Below.refl _ _).drew
 have hS9:∀ w':World,w'.heap[X]?=W4.heap[X]?→w'.heap[H]?=W4.heap[H]?→w'.heap[g3]?=W4.heap[g3]?→w'.heap[gl]?=W4.heap[gl]?→w'.cell? ⟨X,3,none⟩=some (.slice (some ⟨g3,0,none⟩) ll.length c3)∧w'.cell? ⟨H,1,none⟩=some (.int .i64 dp)∧w'.cell? ⟨g3,i,none⟩=some (.slice (some ⟨gl,0,none⟩) (m+1) lc)∧w'.cell? ⟨gl,m,none⟩=some (.int .i64 x):=fun w' h1 h2 h3 h4=>⟨(World.cell?_of_block (a:=⟨X,3,none⟩) h1).trans k3,(World.cell?_of_block (a:=⟨H,1,none⟩) h2).trans q1,(World.cell?_of_block (a:=⟨g3,i,none⟩) h3).trans kr,(World.cell?_of_block (a:=⟨gl,m,none⟩) h4).trans kx⟩
 have offs:∀ k,(k=X∨k=H∨k=g3∨k=gl)→∀ r,(r=.sub 2 i∨r=.top 2∨r=.top 6)→some k≠(vs r).ownBlock:=by
  intro k hk r hr e
  have hro:okN ll.length r:=by
   rcases hr with rfl | rfl | rfl
   ·exact ⟨by omega,htl⟩
   ·exact ⟨by omega,by omega⟩
   ·exact ⟨by omega,by omega⟩
  rcases hk with rfl | rfl | rfl | rfl
  ·exact SMN.offX hm4 hro e.symm
  ·exact hoffH r hro e.symm
  ·exact hm4.apart (r:=r) (r':=.top 3) hro ⟨by omega,by omega⟩ (by rcases hr with rfl | rfl | rfl<;>simp) _ e.symm (by rw [hv3];rfl)
  ·exact hm4.apart (r:=r) (r':=.sub 3 i) hro ⟨by omega,htl⟩ (by rcases hr with rfl | rfl | rfl<;>simp) _ e.symm (by rw [hvl2];rfl)
 refine wp_region_held_drew (S:=fun w'=>w'.cell? ⟨X,3,none⟩=some (.slice (some ⟨g3,0,none⟩) ll.length c3)∧w'.cell? ⟨H,1,none⟩=some (.int .i64 dp)∧w'.cell? ⟨g3,i,none⟩=some (.slice (some ⟨gl,0,none⟩) (m+1) lc)∧w'.cell? ⟨gl,m,none⟩=some (.int .i64 x)) (by kernel_rfl) (hS9 W4.drew rfl rfl rfl rfl) (fun hH=>?_)
 refine tk 0 96 (.pointer (some ⟨X,0,none⟩)) hH rfl rfl (by intro w' hSw;go_simp) ?_
 try simp only [Act.put,zqa,zqb,zqc]
 refine tk 1 97 (.int .i64 i) hH rfl rfl (by intro w' hSw;go_simp) ?_
 try simp only [Act.put,zqa,zqb,zqc]
 refine tk 2 98 (.pointer (some ⟨H,1,none⟩)) hH rfl rfl (by intro w' hSw;go_simp) ?_
 try simp only [Act.put,zqa,zqb,zqc]
 refine tk 3 99 (.int .i64 dp) hH rfl rfl (by intro w' hSw;have hc:=hSw.2.1;go_simp) ?_
 try simp only [Act.put,zqa,zqb,zqc]
 refine tk 4 100 (.pointer (some ⟨X,0,none⟩)) hH rfl rfl (by intro w' hSw;go_simp) ?_
 try simp only [Act.put,zqa,zqb,zqc]
 refine tk 5 101 (.pointer (some ⟨X,0,none⟩)) hH rfl rfl (by intro w' hSw;go_simp) ?_
 try simp only [Act.put,zqa,zqb,zqc]
 refine tk 6 102 (.pointer (some ⟨X,3,none⟩)) hH rfl rfl (by intro w' hSw;go_simp) ?_
 try simp only [Act.put,zqa,zqb,zqc]
 refine tk 7 103 (.slice (some ⟨g3,0,none⟩) ll.length c3) hH rfl rfl (by intro w' hSw;have hc:=hSw.1;go_simp) ?_
 try simp only [Act.put,zqa,zqb,zqc]
 refine tk 8 104 (.int .i64 i) hH rfl rfl (by intro w' hSw;go_simp) ?_
 try simp only [Act.put,zqa,zqb,zqc]
 refine tk 9 105 (.pointer (some ⟨g3,i,none⟩)) hH rfl rfl (by intro w' hSw;go_simp) ?_
 try simp only [Act.put,zqa,zqb,zqc]
 refine tk 10 106 (.slice (some ⟨gl,0,none⟩) (m+1) lc) hH rfl rfl (by intro w' hSw;have hc:=hSw.2.2.1;go_simp) ?_
 try simp only [Act.put,zqa,zqb,zqc]
 refine tk 11 107 (.pointer (some ⟨X,0,none⟩)) hH rfl rfl (by intro w' hSw;go_simp) ?_
 try simp only [Act.put,zqa,zqb,zqc]
 refine tk 12 108 (.pointer (some ⟨X,0,none⟩)) hH rfl rfl (by intro w' hSw;go_simp) ?_
 try simp only [Act.put,zqa,zqb,zqc]
 refine tk 13 109 (.pointer (some ⟨X,3,none⟩)) hH rfl rfl (by intro w' hSw;go_simp) ?_
 try simp only [Act.put,zqa,zqb,zqc]
 refine tk 14 110 (.slice (some ⟨g3,0,none⟩) ll.length c3) hH rfl rfl (by intro w' hSw;have hc:=hSw.1;go_simp) ?_
 try simp only [Act.put,zqa,zqb,zqc]
 refine tk 15 111 (.int .i64 i) hH rfl rfl (by intro w' hSw;go_simp) ?_
 try simp only [Act.put,zqa,zqb,zqc]
 refine tk 16 112 (.pointer (some ⟨g3,i,none⟩)) hH rfl rfl (by intro w' hSw;go_simp) ?_
 try simp only [Act.put,zqa,zqb,zqc]
 refine tk 17 113 (.slice (some ⟨gl,0,none⟩) (m+1) lc) hH rfl rfl (by intro w' hSw;have hc:=hSw.2.2.1;go_simp) ?_
 try simp only [Act.put,zqa,zqb,zqc]
 refine tk 18 114 (.int .i64 ((m:Int)+1)) hH rfl rfl (by intro w' hSw;go_simp) ?_
 try simp only [Act.put,zqa,zqb,zqc]
 refine tk 19 115 (.int .i64 m) hH rfl rfl (by intro w' hSw;go_simp) ?_
 try simp only [Act.put,zqa,zqb,zqc]
 refine tk 20 116 (.pointer (some ⟨gl,m,none⟩)) hH rfl rfl (by intro w' hSw;go_simp) ?_
 try simp only [Act.put,zqa,zqb,zqc]
 refine tk 21 117 (.int .i64 x) hH rfl rfl (by intro w' hSw;have hc:=hSw.2.2.2;go_simp) ?_
 try simp only [Act.put,zqa,zqb,zqc]
 refine tk 22 118 (.bool late) hH rfl rfl (by intro w' hSw;go_simp) ?_
 try simp only [Act.put,zqa,zqb,zqc]
 refine ry 23 rfl (fun K' hK=>?_)
 refine step_goV (by rfl) (some 119) rfl 52 #[.tmp 96,.tmp 97,.tmp 99,.tmp 117,.tmp 118] _ rfl #[.pointer (some ⟨X,0,none⟩),.int .i64 i,.int .i64 dp,.int .i64 x,.bool late] (by simp [Act.eval]) heW hwa ?_
 rintro e w5 ⟨rfl,hm5,hb5,hf5⟩
 have hk5:∀ k,(k=X∨k=H∨k=g3∨k=gl)→k < W4.heap.size→w5.heap[k]?=W4.heap[k]?:=fun k hk hlt=>hf5 k hlt (offs k hk _ (Or.inl rfl)) (offs k hk _ (Or.inr (Or.inl rfl))) (offs k hk _ (Or.inr (Or.inr rfl)))
 refine ⟨_,rfl,hK.out _ _ (hS9 w5 (hk5 X (Or.inl rfl) lX4) (hk5 H (Or.inr (Or.inl rfl)) lH4) (hk5 g3 (Or.inr (Or.inr (Or.inl rfl))) lG) (hk5 gl (Or.inr (Or.inr (Or.inr rfl))) lGl)) (fun hHz=>?_)⟩
 clear hK K'
 try simp only [Act.put,zqa,zqb,zqc]
 refine wpAnyH_done (by kernel_rfl) ?_ _
 go_wp2_with fail
 go_ret
 exact ⟨by rw [HN.out];rfl,⟨fun s' e=>(by
  rw [HN.out] at e
  obtain rfl:=Option.some.inj e
  exact M.bump_write late s i dp x hsl▸hm5),bel4.trans (hbd.mono (by have:=hm4.bX;omega) |>.trans hb5)⟩⟩
end
section
open Go.RowKit
set_option maxHeartbeats 4000000 in
set_option maxRecDepth 100000 in
theorem sstep_4 (base X i:Nat) (a:Option Addr) (b o c:Nat) (ll:List (List M.D)) (late:Bool) (vs:Rid→Value) (s:M.St) (d:M.D) (w0 w:World) (h0:DoSS w0 a b o ll) (hw0:w0.heap.size≤base) (hb0:Below base w0 w) (h:SM w base X a ll.length c vs s) (htl:i < ll.length) (h3:ll.length≤3) (hp:M.prog ll=true) (I:M.Inv ll s) (_E:M.Edge ll.length s) (hd:s.d? ll i=some d) (hk:Hid (d.k=4)) :
  Calls Try.prog 31 #[.pointer (some ⟨X,0,none⟩),.int .i64 i,.bool late] w fun e w'=>e=.returned (.bool (s.step? late ll i).isSome)∧SmR w w' base X a ll.length c (s.step? late ll i):=by
 have ht:i < 3:=by omega
 have hsl:i < s.th.length:=by rw [I.th];exact ht
 have F:=I.fit (M.thOk_of hp i) ht hd
 have c0:=h.c0
 have hp1:=h0.below hb0 hw0
 obtain ⟨rfl⟩:=h0.addr (by omega)
 obtain ⟨a',b',o',c',hc,hdd⟩:=hp1.row i htl
 have hg:ll.getD i []=ll[i]:=by simp [htl]
 have HR:Hid (s.step? late ll i=if M.canD (s.t i) d then some (s.stepD late i d) else none):=by
  show _=_
  unfold M.St.step?
  rw [hd]
 have hd':=hd
 rw [M.St.d?,hg] at hd
 have hlt:(s.t i).next < ll[i].length:=by
  rcases Nat.lt_or_ge (s.t i).next ll[i].length with h | h
  ·exact h
  ·rw [List.getElem?_eq_none h] at hd;cases hd
 have hde:ll[i][(s.t i).next]=d:=by rw [List.getElem?_eq_getElem hlt] at hd;exact Option.some.inj hd
 have hok:=M.thr_ok hp htl (List.mem_of_getElem? hd)
 obtain ⟨rfl⟩:=hdd.addr (by omega)
 have hrow:=hdd.row _ hlt
 rw [hde] at hrow
 obtain ⟨ck,cp,cv⟩:=hrow
 have nx7:=F.nx
 have i2:((s.t i).next:Int) < ll[i].length:=by omega
 have i3:(i:Int) < ll.length:=by omega
 have lX:=h.lt
 obtain ⟨g1,c1,hv1,hb1,hf1⟩:=h.top (k:=1) (by omega) (by omega)
 have k1:=h.ck (k:=1) (by omega)
 rw [hv1] at k1
 have kn:=h.nextAt hv1 htl
 have lg1:g1 < w.heap.size:=World.block_lt_of_cell? _ _ kn
 have lb:b < w.heap.size:=World.block_lt_of_cell? _ _ hc
 have lb':b' < w.heap.size:=World.block_lt_of_cell? _ _ ck
 have hbX:=h.bX
 have hoffH:∀ r,okN ll.length r→(vs r).ownBlock≠some w.heap.size:=fun r hr e=>by have:=(SM.own h hr).lt _ e;omega
 clear hd hde hp1 hdd hg h0
 have wl:ll[i].length≤7:=by have:=(M.thOk_of hp i).len;rwa [show ll.getD i []=ll[i] from by simp [htl]] at this
 generalize ll[i]=l at *
 go_enter Try.func31,Try.ntmps31
 go_wp2_with fail
 go_region
 have C:StC (w.alloc (.cells #[.int .i64 d.k,.int .i64 d.p,.int .i64 d.v] 84)).drew w.heap.size base X (some ⟨b,o,none⟩) ll.length c vs s d w :=
  ⟨by simp,by simp,by simp,h.below ((below1 w _).trans ((Below.refl _ _).drew)),((below1 w _).mono (by omega)).trans ((Below.refl _ _).drew)⟩
 clear h c0 hc ck cp cv k1 kn lb lb' hf1 hb1 i2 hlt
 have hHg:w.heap.size≠g1:=by omega
 generalize (w.alloc (.cells #[.int .i64 d.k,.int .i64 d.p,.int .i64 d.v] 84)).drew=W2 at *
 generalize w.heap.size=H at *
 simp only [M.doOk,Bool.and_eq_true] at hok
 obtain ⟨⟨hkw,hpl⟩,hvl⟩:=hok
 have heV:∀ args w,(callFunc 53 args).run Try.prog w=.ok (.enter 53 args) w:=enters_of Try.func53 (by kernel_rfl) rfl
 have heW:∀ args w,(callFunc 52 args).run Try.prog w=.ok (.enter 52 args) w:=enters_of Try.func52 (by kernel_rfl) rfl
 obtain ⟨dk,dp,dv⟩:=d
 replace hk:=hk.out
 simp only at C F HR hkw hpl hvl hk
 subst hk
 have hpr:=fun q (hq:q∈(s.t i).pend)=>F.pr q hq
 have hth:=I.th
 have hat:=I.at_
 obtain ⟨g2,c2,hv2,hb2,hf2⟩:=C.m.top (k:=2) (by omega) (by omega)
 have k2:=C.m.ck (k:=2) (by omega)
 rw [hv2] at k2
 have kr:=C.m.subAt (Or.inl rfl) hv2 htl
 obtain ⟨la,lc,hvl2,hlc⟩:=own_sl (C.m.late htl)
 rw [hvl2] at kr
 have lg2:g2 < W2.heap.size:=World.block_lt_of_cell? _ _ kr
 cases hpd:(s.t i).pend with
 | cons q r =>
  have HN:Hid (s.step? late ll i=none):=by show _=_;rw [HR.out,M.canD,hpd];rfl
  rw [hpd,List.length_cons] at kr
  have hpos:(0:Int) < (r.length:Int)+1:=by omega
  obtain ⟨q0,q1,q2⟩:=And.intro C.q0 (And.intro C.q1 C.q2)
  have lH:H < W2.heap.size:=World.block_lt_of_cell? _ _ q0
  have lX2:X < W2.heap.size:=C.m.lt
  go_wp2_with (first | (go_at_call 50;refine (l1Reads_any ⟨_,_,_⟩ _).mono ?_;rintro e w3 ⟨rfl,rfl⟩) | (go_at_call 51;refine (l1Writes_any ⟨_,_,_⟩ _).mono ?_;rintro e w4 ⟨rfl,rfl⟩))
  go_ret
  exact ⟨by rw [HN.out];rfl,⟨fun s' e=>(by rw [HN.out] at e;cases e),C.bel.trans ((below2 _ _ _).mono (by omega))⟩⟩
 | nil =>
  rw [hpd,List.length_nil] at kr
  obtain ⟨q0,q1,q2⟩:=And.intro C.q0 (And.intro C.q1 C.q2)
  have lH:H < W2.heap.size:=World.block_lt_of_cell? _ _ q0
  have lX2:X < W2.heap.size:=C.m.lt
  go_wp2_with (first | (go_at_call 50;refine (l1Reads_any ⟨_,_,_⟩ _).mono ?_;rintro e w3 ⟨rfl,rfl⟩) | (go_at_call 51;refine (l1Writes_any ⟨_,_,_⟩ _).mono ?_;rintro e w4 ⟨rfl,rfl⟩))
  clear k2 kr hf2
  have hnq:(s.t i).noted=M.quiet:=by
   refine (I.each i ht).rest ?_
   cases h:(s.t i).waits
   ·rfl
   ·obtain ⟨d',e1,e2⟩:=(I.each i ht).waits h
    rw [show (ll.getD i [])[(s.t i).next]?=some _ from hd'] at e1
    obtain rfl:=Option.some.inj e1
    cases e2
  have HN:Hid (s.step? late ll i=some (s.bump i)):=by show _=_;rw [HR.out,M.canD,hpd,hnq];rfl
  have C3:=C.below (W':=((W2.alloc (.cells #[.int .i64 4,.int .i64 dp,.int .i64 dv] 84)).alloc (.cells #[.int .i64 4,.int .i64 dp,.int .i64 dv] 84))) (below2 _ _ _)
  clear C q0 q1 q2 lH lX2
  generalize ((W2.alloc (.cells #[.int .i64 4,.int .i64 dp,.int .i64 dv] 84)).alloc (.cells #[.int .i64 4,.int .i64 dp,.int .i64 dv] 84))=W3 at *
  obtain ⟨k1,kf1,kn⟩:W3.cell? ⟨X,1,none⟩=some (.slice (some ⟨g1,0,none⟩) ll.length c1)∧W3.frozen? ⟨g1,i,none⟩=false∧W3.cell? ⟨g1,i,none⟩=some (.int .i64 (s.t i).next):=by
   obtain ⟨g1',c1',e1,_,f1⟩:=C3.m.top (k:=1) (by omega) (by omega)
   have:=C3.m.ck (k:=1) (by omega)
   rw [hv1] at this e1
   simp only [Value.slice.injEq,Option.some.injEq,Addr.mk.injEq,and_true,true_and] at e1
   obtain ⟨rfl,_⟩:=e1
   exact ⟨this,f1 i,C3.m.nextAt hv1 htl⟩
  have C4:=(C3.bump hv1 htl hsl hHg).below (Below.refl _ _).drew
  have nx7':((s.t i).next:Int)≤7:=by omega
  clear C3
  go_region
  clear k1 kf1 kn
  generalize (W3.setCell ⟨g1,i,none⟩ (.int .i64 (((s.t i).next:Int)+1))).drew=W4 at *
  obtain ⟨q0,q1,q2⟩:=And.intro C4.q0 (And.intro C4.q1 C4.q2)
  have hm4:=C4.m
  have bel4:=C4.bel
  go_wp2_with fail
  go_ret
  exact ⟨by rw [HN.out];rfl,⟨fun s' e=>(by
   rw [HN.out] at e
   obtain rfl:=Option.some.inj e
   exact ⟨_,hm4⟩),bel4⟩⟩
end
section
open Go.RowKit
set_option maxHeartbeats 4000000 in
set_option maxRecDepth 100000 in
theorem sstep_5 (base X i:Nat) (a:Option Addr) (b o c:Nat) (ll:List (List M.D)) (late:Bool) (vs:Rid→Value) (s:M.St) (d:M.D) (w0 w:World) (h0:DoSS w0 a b o ll) (hw0:w0.heap.size≤base) (hb0:Below base w0 w) (h:SM w base X a ll.length c vs s) (htl:i < ll.length) (h3:ll.length≤3) (hp:M.prog ll=true) (I:M.Inv ll s) (_E:M.Edge ll.length s) (hd:s.d? ll i=some d) (hk:Hid (d.k=5)) :
  Calls Try.prog 31 #[.pointer (some ⟨X,0,none⟩),.int .i64 i,.bool late] w fun e w'=>e=.returned (.bool (s.step? late ll i).isSome)∧SmR w w' base X a ll.length c (s.step? late ll i):=by
 have ht:i < 3:=by omega
 have hsl:i < s.th.length:=by rw [I.th];exact ht
 have F:=I.fit (M.thOk_of hp i) ht hd
 have c0:=h.c0
 have hp1:=h0.below hb0 hw0
 obtain ⟨rfl⟩:=h0.addr (by omega)
 obtain ⟨a',b',o',c',hc,hdd⟩:=hp1.row i htl
 have hg:ll.getD i []=ll[i]:=by simp [htl]
 have HR:Hid (s.step? late ll i=if M.canD (s.t i) d then some (s.stepD late i d) else none):=by
  show _=_
  unfold M.St.step?
  rw [hd]
 have hd':=hd
 rw [M.St.d?,hg] at hd
 have hlt:(s.t i).next < ll[i].length:=by
  rcases Nat.lt_or_ge (s.t i).next ll[i].length with h | h
  ·exact h
  ·rw [List.getElem?_eq_none h] at hd;cases hd
 have hde:ll[i][(s.t i).next]=d:=by rw [List.getElem?_eq_getElem hlt] at hd;exact Option.some.inj hd
 have hok:=M.thr_ok hp htl (List.mem_of_getElem? hd)
 obtain ⟨rfl⟩:=hdd.addr (by omega)
 have hrow:=hdd.row _ hlt
 rw [hde] at hrow
 obtain ⟨ck,cp,cv⟩:=hrow
 have nx7:=F.nx
 have i2:((s.t i).next:Int) < ll[i].length:=by omega
 have i3:(i:Int) < ll.length:=by omega
 have lX:=h.lt
 obtain ⟨g1,c1,hv1,hb1,hf1⟩:=h.top (k:=1) (by omega) (by omega)
 have k1:=h.ck (k:=1) (by omega)
 rw [hv1] at k1
 have kn:=h.nextAt hv1 htl
 have lg1:g1 < w.heap.size:=World.block_lt_of_cell? _ _ kn
 have lb:b < w.heap.size:=World.block_lt_of_cell? _ _ hc
 have lb':b' < w.heap.size:=World.block_lt_of_cell? _ _ ck
 have hbX:=h.bX
 have hoffH:∀ r,okN ll.length r→(vs r).ownBlock≠some w.heap.size:=fun r hr e=>by have:=(SM.own h hr).lt _ e;omega
 clear hd hde hp1 hdd hg h0
 have wl:ll[i].length≤7:=by have:=(M.thOk_of hp i).len;rwa [show ll.getD i []=ll[i] from by simp [htl]] at this
 generalize ll[i]=l at *
 go_enter Try.func31,Try.ntmps31
 go_wp2_with fail
 go_region
 have C:StC (w.alloc (.cells #[.int .i64 d.k,.int .i64 d.p,.int .i64 d.v] 84)).drew w.heap.size base X (some ⟨b,o,none⟩) ll.length c vs s d w :=
  ⟨by simp,by simp,by simp,h.below ((below1 w _).trans ((Below.refl _ _).drew)),((below1 w _).mono (by omega)).trans ((Below.refl _ _).drew)⟩
 clear h c0 hc ck cp cv k1 kn lb lb' hf1 hb1 i2 hlt
 have hHg:w.heap.size≠g1:=by omega
 generalize (w.alloc (.cells #[.int .i64 d.k,.int .i64 d.p,.int .i64 d.v] 84)).drew=W2 at *
 generalize w.heap.size=H at *
 simp only [M.doOk,Bool.and_eq_true] at hok
 obtain ⟨⟨hkw,hpl⟩,hvl⟩:=hok
 have heV:∀ args w,(callFunc 53 args).run Try.prog w=.ok (.enter 53 args) w:=enters_of Try.func53 (by kernel_rfl) rfl
 have heW:∀ args w,(callFunc 52 args).run Try.prog w=.ok (.enter 52 args) w:=enters_of Try.func52 (by kernel_rfl) rfl
 obtain ⟨dk,dp,dv⟩:=d
 replace hk:=hk.out
 simp only at C F HR hkw hpl hvl hk
 subst hk
 have hpr:=fun q (hq:q∈(s.t i).pend)=>F.pr q hq
 have hth:=I.th
 have hat:=I.at_
 have HN:Hid (s.step? late ll i=some ((s.keep i (s.look i dp)).bump i)):=by show _=_;rw [HR.out];rfl
 obtain ⟨q0,q1,q2⟩:=And.intro C.q0 (And.intro C.q1 C.q2)
 have lH:H < W2.heap.size:=World.block_lt_of_cell? _ _ q0
 have lX2:X < W2.heap.size:=C.m.lt
 go_wp2_with (first | (go_at_call 50;refine (l1Reads_any ⟨_,_,_⟩ _).mono ?_;rintro e w3 ⟨rfl,rfl⟩) | (go_at_call 51;refine (l1Writes_any ⟨_,_,_⟩ _).mono ?_;rintro e w4 ⟨rfl,rfl⟩))
 have C3:=C.below (W':=(W2.alloc (.cells #[.int .i64 5,.int .i64 dp,.int .i64 dv] 84))) (below1 _ _)
 clear C q0 q1 q2 lH lX2
 generalize (W2.alloc (.cells #[.int .i64 5,.int .i64 dp,.int .i64 dv] 84))=W3 at *
 obtain ⟨k1,kf1,kn⟩:W3.cell? ⟨X,1,none⟩=some (.slice (some ⟨g1,0,none⟩) ll.length c1)∧W3.frozen? ⟨g1,i,none⟩=false∧W3.cell? ⟨g1,i,none⟩=some (.int .i64 (s.t i).next):=by
  obtain ⟨g1',c1',e1,_,f1⟩:=C3.m.top (k:=1) (by omega) (by omega)
  have:=C3.m.ck (k:=1) (by omega)
  rw [hv1] at this e1
  simp only [Value.slice.injEq,Option.some.injEq,Addr.mk.injEq,and_true,true_and] at e1
  obtain ⟨rfl,_⟩:=e1
  exact ⟨this,f1 i,C3.m.nextAt hv1 htl⟩
 have C4:=(C3.bump hv1 htl hsl hHg).below (Below.refl _ _).drew
 have nx7':((s.t i).next:Int)≤7:=by omega
 clear C3
 go_region
 clear k1 kf1 kn
 generalize (W3.setCell ⟨g1,i,none⟩ (.int .i64 (((s.t i).next:Int)+1))).drew=W4 at *
 obtain ⟨q0,q1,q2⟩:=And.intro C4.q0 (And.intro C4.q1 C4.q2)
 have hm4:=C4.m
 have bel4:=C4.bel
 obtain ⟨p,rfl⟩:∃ p:Nat,dp=p:=⟨dp.toNat,by have:=F.us rfl;simp at this;omega⟩
 have hp3:p < 3:=by have:=F.us rfl;simp at this;omega
 obtain ⟨g3,c3,hv3,hb3,hf3⟩:=hm4.top (k:=3) (by omega) (by omega)
 have k3:=hm4.ck (k:=3) (by omega)
 rw [hv3] at k3
 have kr:=hm4.subAt (Or.inr (Or.inl rfl)) hv3 htl
 have lG:g3 < W4.heap.size:=World.block_lt_of_cell? _ _ kr
 have lX4:X < W4.heap.size:=hm4.lt
 have hown:=hm4.reads htl
 obtain ⟨la,lc,hvl2,hlc⟩:=own_sl hown
 rw [hvl2] at kr hown
 have hbt:((s.bump i).t i).vals=(s.t i).vals:=by rw [M.bump_t _ _ hsl]
 rw [hbt] at hown kr hlc hvl2
 have hne3:some g3≠(Value.slice la (s.t i).vals.length lc).ownBlock:=fun e=>by
  have:=hm4.apart (r:=.sub 3 i) (r':=.top 3) ⟨by omega,htl⟩ ⟨by omega,by omega⟩ (by simp)
  rw [hvl2,hv3] at this
  exact this g3 e.symm rfl
 have hneX:some X≠(Value.slice la (s.t i).vals.length lc).ownBlock:=fun e=>by
  have:=SMN.offX hm4 (r:=.sub 3 i) ⟨by omega,htl⟩
  rw [hvl2] at this
  exact this e.symm
 have hbd:Below W4.heap.size W4 W4.drew:=(Below.refl _ _).drew
 have hv:=svalue_any base X i p _ _ c vs (s.bump i) W4.drew (hm4.below hbd) htl (by show p < s.at_.length;omega) h3 (by rw [M.bump_t _ _ hsl];have:=M.cnt_take_le M.writes (ll.getD i []) (s.t i).next;have:=(I.each i ht).pend;have:=(M.thOk_of hp i).wr;show (s.t i).pend.length≤1048576;omega) hat
 rw [M.bump_look s i p hsl] at hv
 have h6:(s.t i).vals.length < 6:=F.rd rfl
 obtain ⟨i0,hI,hz0,hz1,hz2⟩:=info_parts Try.smInt
 have hge:=own_ge hown
 generalize s.look i p=x at *
 have hbe:=below1 W4.drew (.cells #[.int .i64 x] 3)
 go_wp2_with fail
 have hS9:∀ w',Below W4.heap.size W4 w'→w'.cell? ⟨X,3,none⟩=some (.slice (some ⟨g3,0,none⟩) ll.length c3)∧w'.cell? ⟨H,1,none⟩=some (.int .i64 p):=fun w' hb=>⟨(hb.cell (p:=⟨X,3,none⟩) lX4).trans k3,(hb.cell (p:=⟨H,1,none⟩) (World.block_lt_of_cell? _ _ q1)).trans q1⟩
 have lH4:H < W4.heap.size:=World.block_lt_of_cell? _ _ q1
 refine wp_region_held_drew (S:=fun w'=>w'.cell? ⟨X,3,none⟩=some (.slice (some ⟨g3,0,none⟩) ll.length c3)∧w'.cell? ⟨H,1,none⟩=some (.int .i64 p)) (by kernel_rfl) (hS9 W4.drew hbd) (fun hH=>?_)
 refine tk 0 74 (.pointer (some ⟨X,0,none⟩)) hH rfl rfl (by intro w' hSw;go_simp) ?_
 try simp only [Act.put,zqa,zqb,zqc]
 refine tk 1 75 (.pointer (some ⟨X,0,none⟩)) hH rfl rfl (by intro w' hSw;go_simp) ?_
 try simp only [Act.put,zqa,zqb,zqc]
 refine tk 2 76 (.pointer (some ⟨X,3,none⟩)) hH rfl rfl (by intro w' hSw;go_simp) ?_
 try simp only [Act.put,zqa,zqb,zqc]
 refine tk 3 77 (.slice (some ⟨g3,0,none⟩) ll.length c3) hH rfl rfl (by intro w' hSw;have hc:=hSw.1;go_simp) ?_
 try simp only [Act.put,zqa,zqb,zqc]
 refine tk 4 78 (.int .i64 i) hH rfl rfl (by intro w' hSw;go_simp) ?_
 try simp only [Act.put,zqa,zqb,zqc]
 refine tk 5 79 (.pointer (some ⟨X,0,none⟩)) hH rfl rfl (by intro w' hSw;go_simp) ?_
 try simp only [Act.put,zqa,zqb,zqc]
 refine tk 6 80 (.pointer (some ⟨X,0,none⟩)) hH rfl rfl (by intro w' hSw;go_simp) ?_
 try simp only [Act.put,zqa,zqb,zqc]
 refine tk 7 81 (.pointer (some ⟨X,3,none⟩)) hH rfl rfl (by intro w' hSw;go_simp) ?_
 try simp only [Act.put,zqa,zqb,zqc]
 refine tk 8 82 (.slice (some ⟨g3,0,none⟩) ll.length c3) hH rfl rfl (by intro w' hSw;have hc:=hSw.1;go_simp) ?_
 try simp only [Act.put,zqa,zqb,zqc]
 refine tk 9 83 (.int .i64 i) hH rfl rfl (by intro w' hSw;go_simp) ?_
 try simp only [Act.put,zqa,zqb,zqc]
 refine tk 10 84 (.pointer (some ⟨g3,i,none⟩)) hH rfl rfl (by intro w' hSw;go_simp) ?_
 try simp only [Act.put,zqa,zqb,zqc]
 refine tk 12 86 (.pointer (some ⟨X,0,none⟩)) hH rfl rfl (by intro w' hSw;go_simp) ?_
 try simp only [Act.put,zqa,zqb,zqc]
 refine tk 13 87 (.int .i64 i) hH rfl rfl (by intro w' hSw;go_simp) ?_
 try simp only [Act.put,zqa,zqb,zqc]
 refine tk 14 88 (.pointer (some ⟨H,1,none⟩)) hH rfl rfl (by intro w' hSw;go_simp) ?_
 try simp only [Act.put,zqa,zqb,zqc]
 refine tk 15 89 (.int .i64 p) hH rfl rfl (by intro w' hSw;have hc:=hSw.2;go_simp) ?_
 try simp only [Act.put,zqa,zqb,zqc]
 have hbE:Below W4.heap.size W4 (W4.drew.alloc (.cells #[.int .i64 x] 3)):=hbd.trans hbe
 have krE:(W4.drew.alloc (.cells #[.int .i64 x] 3)).cell? ⟨g3,i,none⟩=some (.slice la (s.t i).vals.length lc):=(hbE.cell (p:=⟨g3,i,none⟩) lG).trans kr
 have hownE:(W4.drew.alloc (.cells #[.int .i64 x] 3)).ownsRow base 3 1 (.slice la (s.t i).vals.length lc) (s.t i).vals.length (nums (s.t i).vals):=ownsRow_below hown hbE
 have hnewE:=World.news_of_block (cs:=#[.int .i64 x]) (t:=3) (fr:=(0,0)) (heap_alloc_new W4.drew (.cells #[.int .i64 x] 3))
 have hXg:X≠g3:=fun e=>(SMN.offX hm4 (r:=.top 3) ⟨by omega,by omega⟩) (by rw [hv3,e];rfl)
 have hHg3:H≠g3:=fun e=>hoffH (.top 3) ⟨by omega,by omega⟩ (by rw [hv3,e];rfl)
 have hHo:some H≠(Value.slice la (s.t i).vals.length lc).ownBlock:=fun e=>hoffH (.sub 3 i) ⟨by omega,htl⟩ (by rw [hvl2];exact e.symm)
 have fin:∀ v3 w3,w3.ownsRow base 3 1 v3 ((s.t i).vals.length+1) (nums (s.t i).vals++[.int .i64 x])→(W4.drew.alloc (.cells #[.int .i64 x] 3)).grownBy w3 (Value.slice la (s.t i).vals.length lc).ownBlock→(v3.ownBlock=(Value.slice la (s.t i).vals.length lc).ownBlock∨v3.ownBlock=some (W4.drew.alloc (.cells #[.int .i64 x] 3)).heap.size) →
   SM (w3.setCell ⟨g3,i,none⟩ v3) base X (some ⟨b,o,none⟩) ll.length c (setR vs (.sub 3 i) v3) ((s.bump i).keep i x)∧Below base w (w3.setCell ⟨g3,i,none⟩ v3)∧∃ a3 c9,v3=.slice a3 ((s.t i).vals.length+1) c9∧w3.cell? ⟨X,3,none⟩=some (.slice (some ⟨g3,0,none⟩) ll.length c3)∧w3.cell? ⟨g3,i,none⟩=some (.slice la (s.t i).vals.length lc)∧w3.frozen? ⟨g3,i,none⟩=false∧w3.cell? ⟨H,1,none⟩=some (.int .i64 p)∧w3.cell? ⟨X,3,none⟩=some (.slice (some ⟨g3,0,none⟩) ll.length c3):=by
  intro v3 w3 hown3 hg3 hat3
  obtain ⟨a3,c9,e3,_⟩:=own_sl hown3
  have hg:W4.grownBy w3 (Value.slice la (s.t i).vals.length lc).ownBlock:=⟨hg3.os.trans hbE.os,hg3.tape.trans hbE.tape,hg3.output.trans hbE.output,Nat.le_trans hbE.size hg3.size,fun k hk hne=>(hg3.block k (Nat.lt_of_lt_of_le hk hbE.size) hne).trans (hbE.block k hk)⟩
  have hS:=hm4.sub (k:=3) (i:=i) (s':=(s.bump i).keep i x) (v':=v3) (Or.inr (Or.inl rfl)) htl (by rw [hvl2];exact hg) hv3 (by
   show w3.ownsRow base 3 1 _ (M.St.t ((s.bump i).keep i x) i).vals.length (nums (M.St.t ((s.bump i).keep i x) i).vals)
   unfold M.St.keep
   rw [M.t_put _ _ _ _ (by rw [M.bump_len];omega),if_pos rfl,hbt]
   show w3.ownsRow base 3 1 _ ((s.t i).vals++[x]).length (nums ((s.t i).vals++[x]))
   rw [show nums ((s.t i).vals++[x])=nums (s.t i).vals++[.int .i64 x] from by simp [nums],List.length_append]
   exact hown3) (by
    rcases hat3 with e | e
    ·exact Or.inl (by rw [hvl2];exact e)
    ·exact Or.inr (fun k hk=>by rw [e] at hk;simp at hk;omega)) (fun rr _ hne=>rw_put _ i _ (by rw [M.bump_len];omega) rr (fun _=>rfl) (fun _=>rfl) (fun _=>rfl) (fun e=>absurd e hne) (fun _=>rfl))
  exact ⟨hS,(below_grown bel4 hg hge (by omega)).setCell (by show base≤g3;exact hb3) _,a3,c9,e3,hg.cell k3 hneX,hg.cell kr hne3,(World.frozen?_of_block (hg.block g3 lG hne3)).trans (hf3 i),hg.cell q1 hHo,hg.cell k3 hneX⟩
 refine wpAnyH_ready (rs:=[11,16]) (by kernel_rfl) (by simp) ?_
 refine AllReadyH.cons rfl (fun K' hK=>?_) (AllReadyH.cons rfl (fun K' hK=>?_) AllReadyH.nil)
 ·rw [if_pos (by rfl)]
  have kr':(W4.drew).cell? ⟨g3,i,none⟩=some (.slice la (s.t i).vals.length lc):=kr
  go_simp
  refine hK.out _ _ (hS9 _ hbd) (fun hHx=>?_)
  clear hK K'
  clear kr'
  try simp only [Act.put,zqa,zqb,zqc]
  refine ry 16 rfl (fun K' hK=>?_)
  refine step_goV (by rfl) (some 90) rfl 53 #[.tmp 86,.tmp 87,.tmp 89] _ rfl #[.pointer (some ⟨X,0,none⟩),.int .i64 i,.int .i64 p] (by simp [Act.eval]) heV hv ?_
  rintro e w6 ⟨rfl,rfl⟩
  refine ⟨_,rfl,hK.out _ _ (hS9 _ hbd) (fun hHx=>?_)⟩
  clear hK K'
  try simp only [Act.put,zqa,zqb,zqc]
  refine ry 17 rfl (fun K' hK=>?_)
  rw [if_pos (by rfl)]
  go_simp
  refine hK.out _ _ (hS9 _ hbE) (fun hHx=>?_)
  clear hK K'
  try simp only [Act.put,zqa,zqb,zqc]
  refine ry 18 rfl (fun K' hK=>?_)
  refine step_app rfl (.tmp 85) (.tmp 91) 25 rfl (some 92) rfl base 3 i0 _ 1 8 Try.underlying25 hI hz0 hz1 hz2 rfl (by omega) (.slice la (s.t i).vals.length lc) (s.t i).vals.length (nums (s.t i).vals) (by rfl) hownE ⟨W4.heap.size,0,none⟩ 1 1 [.int .i64 x] (by rfl) rfl hnewE (by simp [Value.oneCell']) (by unfold maxLen;omega) (by omega) (by simp;omega) ?_
  intro v3 w3 hown3 hg3 hat3
  obtain ⟨hS,hbS,a3,c9,rfl,kk3,kr3,kf3,hq3,hX3⟩:=fin v3 w3 hown3 hg3 hat3
  refine hK.out _ _ (⟨hX3,hq3⟩) (fun hHx=>?_)
  clear hK K'
  try simp only [Act.put,zqa,zqb,zqc]
  refine tk 19 93 (.pointer (some ⟨g3,i,none⟩)) hHx rfl rfl (by intro w' hSw;go_simp) ?_
  try simp only [Act.put,zqa,zqb,zqc]
  refine ry 20 rfl (fun K' hK=>?_)
  rw [if_pos (by rfl)]
  go_simp
  refine hK.out _ _ (⟨(World.cell?_setCell_other _ _ _ _ (fun e=>by have:=congrArg Addr.block e;simp at this;omega)).trans hX3,(World.cell?_setCell_other _ _ _ _ (fun e=>by have:=congrArg Addr.block e;simp at this;omega)).trans hq3⟩) (fun hHx=>?_)
  clear hK K'
  refine wpAnyH_done (by kernel_rfl) ?_ _
  go_wp2_with fail
  go_ret
  exact ⟨by rw [HN.out];rfl,⟨fun s' e=>(by
   rw [HN.out] at e
   obtain rfl:=Option.some.inj e
   exact ⟨_,(M.bump_keep s i x hsl▸hS)⟩),hbS⟩⟩
 ·refine step_goV (by rfl) (some 90) rfl 53 #[.tmp 86,.tmp 87,.tmp 89] _ rfl #[.pointer (some ⟨X,0,none⟩),.int .i64 i,.int .i64 p] (by simp [Act.eval]) heV hv ?_
  rintro e w6 ⟨rfl,rfl⟩
  refine ⟨_,rfl,hK.out _ _ (hS9 _ hbd) (fun hHx=>?_)⟩
  clear hK K'
  try simp only [Act.put,zqa,zqb,zqc]
  refine wpAnyH_ready (rs:=[11,17]) (by kernel_rfl) (by simp) ?_
  refine AllReadyH.cons rfl (fun K' hK=>?_) (AllReadyH.cons rfl (fun K' hK=>?_) AllReadyH.nil)
  ·rw [if_pos (by rfl)]
   have kr':(W4.drew).cell? ⟨g3,i,none⟩=some (.slice la (s.t i).vals.length lc):=kr
   go_simp
   refine hK.out _ _ (hS9 _ hbd) (fun hHx=>?_)
   clear hK K'
   clear kr'
   try simp only [Act.put,zqa,zqb,zqc]
   refine ry 17 rfl (fun K' hK=>?_)
   rw [if_pos (by rfl)]
   go_simp
   refine hK.out _ _ (hS9 _ hbE) (fun hHx=>?_)
   clear hK K'
   try simp only [Act.put,zqa,zqb,zqc]
   refine ry 18 rfl (fun K' hK=>?_)
   refine step_app rfl (.tmp 85) (.tmp 91) 25 rfl (some 92) rfl base 3 i0 _ 1 8 Try.underlying25 hI hz0 hz1 hz2 rfl (by omega) (.slice la (s.t i).vals.length lc) (s.t i).vals.length (nums (s.t i).vals) (by rfl) hownE ⟨W4.heap.size,0,none⟩ 1 1 [.int .i64 x] (by rfl) rfl hnewE (by simp [Value.oneCell']) (by unfold maxLen;omega) (by omega) (by simp;omega) ?_
   intro v3 w3 hown3 hg3 hat3
   obtain ⟨hS,hbS,a3,c9,rfl,kk3,kr3,kf3,hq3,hX3⟩:=fin v3 w3 hown3 hg3 hat3
   refine hK.out _ _ (⟨hX3,hq3⟩) (fun hHx=>?_)
   clear hK K'
   try simp only [Act.put,zqa,zqb,zqc]
   refine tk 19 93 (.pointer (some ⟨g3,i,none⟩)) hHx rfl rfl (by intro w' hSw;go_simp) ?_
   try simp only [Act.put,zqa,zqb,zqc]
   refine ry 20 rfl (fun K' hK=>?_)
   rw [if_pos (by rfl)]
   go_simp
   refine hK.out _ _ (⟨(World.cell?_setCell_other _ _ _ _ (fun e=>by have:=congrArg Addr.block e;simp at this;omega)).trans hX3,(World.cell?_setCell_other _ _ _ _ (fun e=>by have:=congrArg Addr.block e;simp at this;omega)).trans hq3⟩) (fun hHx=>?_)
   clear hK K'
   refine wpAnyH_done (by kernel_rfl) ?_ _
   go_wp2_with fail
   go_ret
   exact ⟨by rw [HN.out];rfl,⟨fun s' e=>(by
    rw [HN.out] at e
    obtain rfl:=Option.some.inj e
    exact ⟨_,(M.bump_keep s i x hsl▸hS)⟩),hbS⟩⟩
  ·rw [if_pos (by rfl)]
   go_simp
   refine hK.out _ _ (hS9 _ hbE) (fun hHx=>?_)
   clear hK K'
   try simp only [Act.put,zqa,zqb,zqc]
   refine ry 11 rfl (fun K' hK=>?_)
   rw [if_pos (by rfl)]
   have kr':(W4.drew.alloc (.cells #[.int .i64 x] 3)).cell? ⟨g3,i,none⟩=some (.slice la (s.t i).vals.length lc):=krE
   go_simp
   refine hK.out _ _ (hS9 _ hbE) (fun hHx=>?_)
   clear hK K'
   clear kr'
   try simp only [Act.put,zqa,zqb,zqc]
   refine ry 18 rfl (fun K' hK=>?_)
   refine step_app rfl (.tmp 85) (.tmp 91) 25 rfl (some 92) rfl base 3 i0 _ 1 8 Try.underlying25 hI hz0 hz1 hz2 rfl (by omega) (.slice la (s.t i).vals.length lc) (s.t i).vals.length (nums (s.t i).vals) (by rfl) hownE ⟨W4.heap.size,0,none⟩ 1 1 [.int .i64 x] (by rfl) rfl hnewE (by simp [Value.oneCell']) (by unfold maxLen;omega) (by omega) (by simp;omega) ?_
   intro v3 w3 hown3 hg3 hat3
   obtain ⟨hS,hbS,a3,c9,rfl,kk3,kr3,kf3,hq3,hX3⟩:=fin v3 w3 hown3 hg3 hat3
   refine hK.out _ _ (⟨hX3,hq3⟩) (fun hHx=>?_)
   clear hK K'
   try simp only [Act.put,zqa,zqb,zqc]
   refine tk 19 93 (.pointer (some ⟨g3,i,none⟩)) hHx rfl rfl (by intro w' hSw;go_simp) ?_
   try simp only [Act.put,zqa,zqb,zqc]
   refine ry 20 rfl (fun K' hK=>?_)
   rw [if_pos (by rfl)]
   go_simp
   refine hK.out _ _ (⟨(World.cell?_setCell_other _ _ _ _ (fun e=>by have:=congrArg Addr.block e;simp at this;omega)).trans hX3,(World.cell?_setCell_other _ _ _ _ (fun e=>by have:=congrArg Addr.block e;simp at this;omega)).trans hq3⟩) (fun hHx=>?_)
   clear hK K'
   refine wpAnyH_done (by kernel_rfl) ?_ _
   go_wp2_with fail
   go_ret
   exact ⟨by rw [HN.out];rfl,⟨fun s' e=>(by
    rw [HN.out] at e
    obtain rfl:=Option.some.inj e
    exact ⟨_,(M.bump_keep s i x hsl▸hS)⟩),hbS⟩⟩
end
section
open Go.RowKit
set_option maxHeartbeats 4000000 in
set_option maxRecDepth 100000 in
theorem sstep_6 (base X i:Nat) (a:Option Addr) (b o c:Nat) (ll:List (List M.D)) (late:Bool) (vs:Rid→Value) (s:M.St) (d:M.D) (w0 w:World) (h0:DoSS w0 a b o ll) (hw0:w0.heap.size≤base) (hb0:Below base w0 w) (h:SM w base X a ll.length c vs s) (htl:i < ll.length) (h3:ll.length≤3) (hp:M.prog ll=true) (I:M.Inv ll s) (_E:M.Edge ll.length s) (hd:s.d? ll i=some d) (hk:Hid (d.k=6)) :
  Calls Try.prog 31 #[.pointer (some ⟨X,0,none⟩),.int .i64 i,.bool late] w fun e w'=>e=.returned (.bool (s.step? late ll i).isSome)∧SmR w w' base X a ll.length c (s.step? late ll i):=by
 have ht:i < 3:=by omega
 have hsl:i < s.th.length:=by rw [I.th];exact ht
 have F:=I.fit (M.thOk_of hp i) ht hd
 have c0:=h.c0
 have hp1:=h0.below hb0 hw0
 obtain ⟨rfl⟩:=h0.addr (by omega)
 obtain ⟨a',b',o',c',hc,hdd⟩:=hp1.row i htl
 have hg:ll.getD i []=ll[i]:=by simp [htl]
 have HR:Hid (s.step? late ll i=if M.canD (s.t i) d then some (s.stepD late i d) else none):=by
  show _=_
  unfold M.St.step?
  rw [hd]
 have hd':=hd
 rw [M.St.d?,hg] at hd
 have hlt:(s.t i).next < ll[i].length:=by
  rcases Nat.lt_or_ge (s.t i).next ll[i].length with h | h
  ·exact h
  ·rw [List.getElem?_eq_none h] at hd;cases hd
 have hde:ll[i][(s.t i).next]=d:=by rw [List.getElem?_eq_getElem hlt] at hd;exact Option.some.inj hd
 have hok:=M.thr_ok hp htl (List.mem_of_getElem? hd)
 obtain ⟨rfl⟩:=hdd.addr (by omega)
 have hrow:=hdd.row _ hlt
 rw [hde] at hrow
 obtain ⟨ck,cp,cv⟩:=hrow
 have nx7:=F.nx
 have i2:((s.t i).next:Int) < ll[i].length:=by omega
 have i3:(i:Int) < ll.length:=by omega
 have lX:=h.lt
 obtain ⟨g1,c1,hv1,hb1,hf1⟩:=h.top (k:=1) (by omega) (by omega)
 have k1:=h.ck (k:=1) (by omega)
 rw [hv1] at k1
 have kn:=h.nextAt hv1 htl
 have lg1:g1 < w.heap.size:=World.block_lt_of_cell? _ _ kn
 have lb:b < w.heap.size:=World.block_lt_of_cell? _ _ hc
 have lb':b' < w.heap.size:=World.block_lt_of_cell? _ _ ck
 have hbX:=h.bX
 have hoffH:∀ r,okN ll.length r→(vs r).ownBlock≠some w.heap.size:=fun r hr e=>by have:=(SM.own h hr).lt _ e;omega
 clear hd hde hp1 hdd hg h0
 have wl:ll[i].length≤7:=by have:=(M.thOk_of hp i).len;rwa [show ll.getD i []=ll[i] from by simp [htl]] at this
 generalize ll[i]=l at *
 go_enter Try.func31,Try.ntmps31
 go_wp2_with fail
 go_region
 have C:StC (w.alloc (.cells #[.int .i64 d.k,.int .i64 d.p,.int .i64 d.v] 84)).drew w.heap.size base X (some ⟨b,o,none⟩) ll.length c vs s d w :=
  ⟨by simp,by simp,by simp,h.below ((below1 w _).trans ((Below.refl _ _).drew)),((below1 w _).mono (by omega)).trans ((Below.refl _ _).drew)⟩
 clear h c0 hc ck cp cv k1 kn lb lb' hf1 hb1 i2 hlt
 have hHg:w.heap.size≠g1:=by omega
 generalize (w.alloc (.cells #[.int .i64 d.k,.int .i64 d.p,.int .i64 d.v] 84)).drew=W2 at *
 generalize w.heap.size=H at *
 simp only [M.doOk,Bool.and_eq_true] at hok
 obtain ⟨⟨hkw,hpl⟩,hvl⟩:=hok
 have heV:∀ args w,(callFunc 53 args).run Try.prog w=.ok (.enter 53 args) w:=enters_of Try.func53 (by kernel_rfl) rfl
 have heW:∀ args w,(callFunc 52 args).run Try.prog w=.ok (.enter 52 args) w:=enters_of Try.func52 (by kernel_rfl) rfl
 obtain ⟨dk,dp,dv⟩:=d
 replace hk:=hk.out
 simp only at C F HR hkw hpl hvl hk
 subst hk
 have hpr:=fun q (hq:q∈(s.t i).pend)=>F.pr q hq
 have hth:=I.th
 have hat:=I.at_
 have HN:Hid (s.step? late ll i=some ((s.write late i dp dv).bump i)):=by show _=_;rw [HR.out];rfl
 obtain ⟨q0,q1,q2⟩:=And.intro C.q0 (And.intro C.q1 C.q2)
 have lH:H < W2.heap.size:=World.block_lt_of_cell? _ _ q0
 have lX2:X < W2.heap.size:=C.m.lt
 go_wp2_with (first | (go_at_call 50;refine (l1Reads_any ⟨_,_,_⟩ _).mono ?_;rintro e w3 ⟨rfl,rfl⟩) | (go_at_call 51;refine (l1Writes_any ⟨_,_,_⟩ _).mono ?_;rintro e w4 ⟨rfl,rfl⟩))
 have C3:=C.below (W':=((W2.alloc (.cells #[.int .i64 6,.int .i64 dp,.int .i64 dv] 84)).alloc (.cells #[.int .i64 6,.int .i64 dp,.int .i64 dv] 84))) (below2 _ _ _)
 clear C q0 q1 q2 lH lX2
 generalize ((W2.alloc (.cells #[.int .i64 6,.int .i64 dp,.int .i64 dv] 84)).alloc (.cells #[.int .i64 6,.int .i64 dp,.int .i64 dv] 84))=W3 at *
 obtain ⟨k1,kf1,kn⟩:W3.cell? ⟨X,1,none⟩=some (.slice (some ⟨g1,0,none⟩) ll.length c1)∧W3.frozen? ⟨g1,i,none⟩=false∧W3.cell? ⟨g1,i,none⟩=some (.int .i64 (s.t i).next):=by
  obtain ⟨g1',c1',e1,_,f1⟩:=C3.m.top (k:=1) (by omega) (by omega)
  have:=C3.m.ck (k:=1) (by omega)
  rw [hv1] at this e1
  simp only [Value.slice.injEq,Option.some.injEq,Addr.mk.injEq,and_true,true_and] at e1
  obtain ⟨rfl,_⟩:=e1
  exact ⟨this,f1 i,C3.m.nextAt hv1 htl⟩
 have C4:=(C3.bump hv1 htl hsl hHg).below (Below.refl _ _).drew
 have nx7':((s.t i).next:Int)≤7:=by omega
 clear C3
 go_region
 clear k1 kf1 kn
 generalize (W3.setCell ⟨g1,i,none⟩ (.int .i64 (((s.t i).next:Int)+1))).drew=W4 at *
 obtain ⟨q0,q1,q2⟩:=And.intro C4.q0 (And.intro C4.q1 C4.q2)
 have hm4:=C4.m
 have bel4:=C4.bel
 obtain ⟨p0,p3⟩:=F.us rfl
 simp only at p0 p3
 go_wp2_with (go_at_call 52;refine (swrite_any base X i _ _ c vs (s.bump i) dp dv late W4 hm4 htl h3 p0 p3 (by rw [M.bump_t _ _ hsl];exact hpr) (by rw [M.bump_t _ _ hsl];have:=F.wr rfl;show (s.t i).pend.length≤6;omega) hat (by rw [M.bump_len];exact hth)).mono ?_;rintro e w5 ⟨rfl,hm5,hb5⟩)
 go_ret
 exact ⟨by rw [HN.out];rfl,⟨fun s' e=>(by
  rw [HN.out] at e
  obtain rfl:=Option.some.inj e
  exact M.bump_write late s i dp dv hsl▸hm5),bel4.trans hb5⟩⟩
end
section
open Go.RowKit
set_option maxHeartbeats 4000000 in
set_option maxRecDepth 100000 in
theorem sstep_7 (base X i:Nat) (a:Option Addr) (b o c:Nat) (ll:List (List M.D)) (late:Bool) (vs:Rid→Value) (s:M.St) (d:M.D) (w0 w:World) (h0:DoSS w0 a b o ll) (hw0:w0.heap.size≤base) (hb0:Below base w0 w) (h:SM w base X a ll.length c vs s) (htl:i < ll.length) (h3:ll.length≤3) (hp:M.prog ll=true) (I:M.Inv ll s) (_E:M.Edge ll.length s) (hd:s.d? ll i=some d) (hk:Hid (d.k=7)) :
  Calls Try.prog 31 #[.pointer (some ⟨X,0,none⟩),.int .i64 i,.bool late] w fun e w'=>e=.returned (.bool (s.step? late ll i).isSome)∧SmR w w' base X a ll.length c (s.step? late ll i):=by
 have ht:i < 3:=by omega
 have hsl:i < s.th.length:=by rw [I.th];exact ht
 have F:=I.fit (M.thOk_of hp i) ht hd
 have c0:=h.c0
 have hp1:=h0.below hb0 hw0
 obtain ⟨rfl⟩:=h0.addr (by omega)
 obtain ⟨a',b',o',c',hc,hdd⟩:=hp1.row i htl
 have hg:ll.getD i []=ll[i]:=by simp [htl]
 have HR:Hid (s.step? late ll i=if M.canD (s.t i) d then some (s.stepD late i d) else none):=by
  show _=_
  unfold M.St.step?
  rw [hd]
 have hd':=hd
 rw [M.St.d?,hg] at hd
 have hlt:(s.t i).next < ll[i].length:=by
  rcases Nat.lt_or_ge (s.t i).next ll[i].length with h | h
  ·exact h
  ·rw [List.getElem?_eq_none h] at hd;cases hd
 have hde:ll[i][(s.t i).next]=d:=by rw [List.getElem?_eq_getElem hlt] at hd;exact Option.some.inj hd
 have hok:=M.thr_ok hp htl (List.mem_of_getElem? hd)
 obtain ⟨rfl⟩:=hdd.addr (by omega)
 have hrow:=hdd.row _ hlt
 rw [hde] at hrow
 obtain ⟨ck,cp,cv⟩:=hrow
 have nx7:=F.nx
 have i2:((s.t i).next:Int) < ll[i].length:=by omega
 have i3:(i:Int) < ll.length:=by omega
 have lX:=h.lt
 obtain ⟨g1,c1,hv1,hb1,hf1⟩:=h.top (k:=1) (by omega) (by omega)
 have k1:=h.ck (k:=1) (by omega)
 rw [hv1] at k1
 have kn:=h.nextAt hv1 htl
 have lg1:g1 < w.heap.size:=World.block_lt_of_cell? _ _ kn
 have lb:b < w.heap.size:=World.block_lt_of_cell? _ _ hc
 have lb':b' < w.heap.size:=World.block_lt_of_cell? _ _ ck
 have hbX:=h.bX
 have hoffH:∀ r,okN ll.length r→(vs r).ownBlock≠some w.heap.size:=fun r hr e=>by have:=(SM.own h hr).lt _ e;omega
 clear hd hde hp1 hdd hg h0
 have wl:ll[i].length≤7:=by have:=(M.thOk_of hp i).len;rwa [show ll.getD i []=ll[i] from by simp [htl]] at this
 generalize ll[i]=l at *
 go_enter Try.func31,Try.ntmps31
 go_wp2_with fail
 go_region
 have C:StC (w.alloc (.cells #[.int .i64 d.k,.int .i64 d.p,.int .i64 d.v] 84)).drew w.heap.size base X (some ⟨b,o,none⟩) ll.length c vs s d w :=
  ⟨by simp,by simp,by simp,h.below ((below1 w _).trans ((Below.refl _ _).drew)),((below1 w _).mono (by omega)).trans ((Below.refl _ _).drew)⟩
 clear h c0 hc ck cp cv k1 kn lb lb' hf1 hb1 i2 hlt
 have hHg:w.heap.size≠g1:=by omega
 generalize (w.alloc (.cells #[.int .i64 d.k,.int .i64 d.p,.int .i64 d.v] 84)).drew=W2 at *
 generalize w.heap.size=H at *
 simp only [M.doOk,Bool.and_eq_true] at hok
 obtain ⟨⟨hkw,hpl⟩,hvl⟩:=hok
 have heV:∀ args w,(callFunc 53 args).run Try.prog w=.ok (.enter 53 args) w:=enters_of Try.func53 (by kernel_rfl) rfl
 have heW:∀ args w,(callFunc 52 args).run Try.prog w=.ok (.enter 52 args) w:=enters_of Try.func52 (by kernel_rfl) rfl
 obtain ⟨dk,dp,dv⟩:=d
 replace hk:=hk.out
 simp only at C F HR hkw hpl hvl hk
 subst hk
 have hpr:=fun q (hq:q∈(s.t i).pend)=>F.pr q hq
 have hth:=I.th
 have hat:=I.at_
 obtain ⟨g2,c2,hv2,hb2,hf2⟩:=C.m.top (k:=2) (by omega) (by omega)
 have k2:=C.m.ck (k:=2) (by omega)
 rw [hv2] at k2
 have kr:=C.m.subAt (Or.inl rfl) hv2 htl
 obtain ⟨la,lc,hvl2,hlc⟩:=own_sl (C.m.late htl)
 rw [hvl2] at kr
 have lg2:g2 < W2.heap.size:=World.block_lt_of_cell? _ _ kr
 cases hpd:(s.t i).pend with
 | cons q r =>
  have HN:Hid (s.step? late ll i=none):=by show _=_;rw [HR.out,M.canD,hpd];rfl
  rw [hpd,List.length_cons] at kr
  have hpos:(0:Int) < (r.length:Int)+1:=by omega
  obtain ⟨q0,q1,q2⟩:=And.intro C.q0 (And.intro C.q1 C.q2)
  have lH:H < W2.heap.size:=World.block_lt_of_cell? _ _ q0
  have lX2:X < W2.heap.size:=C.m.lt
  go_wp2_with (first | (go_at_call 50;refine (l1Reads_any ⟨_,_,_⟩ _).mono ?_;rintro e w3 ⟨rfl,rfl⟩) | (go_at_call 51;refine (l1Writes_any ⟨_,_,_⟩ _).mono ?_;rintro e w4 ⟨rfl,rfl⟩))
  go_ret
  exact ⟨by rw [HN.out];rfl,⟨fun s' e=>(by rw [HN.out] at e;cases e),C.bel.trans ((below2 _ _ _).mono (by omega))⟩⟩
 | nil =>
  rw [hpd,List.length_nil] at kr
  obtain ⟨q0,q1,q2⟩:=And.intro C.q0 (And.intro C.q1 C.q2)
  have lH:H < W2.heap.size:=World.block_lt_of_cell? _ _ q0
  have lX2:X < W2.heap.size:=C.m.lt
  go_wp2_with (first | (go_at_call 50;refine (l1Reads_any ⟨_,_,_⟩ _).mono ?_;rintro e w3 ⟨rfl,rfl⟩) | (go_at_call 51;refine (l1Writes_any ⟨_,_,_⟩ _).mono ?_;rintro e w4 ⟨rfl,rfl⟩))
  clear k2 kr hf2
  have hnq:(s.t i).noted=M.quiet:=by
   refine (I.each i ht).rest ?_
   cases h:(s.t i).waits
   ·rfl
   ·obtain ⟨d',e1,e2⟩:=(I.each i ht).waits h
    rw [show (ll.getD i [])[(s.t i).next]?=some _ from hd'] at e1
    obtain rfl:=Option.some.inj e1
    cases e2
  have HN:Hid (s.step? late ll i=some ((s.goIn i).bump i)):=by show _=_;rw [HR.out,M.canD,hpd,hnq];rfl
  have C3:=C.below (W':=((W2.alloc (.cells #[.int .i64 7,.int .i64 dp,.int .i64 dv] 84)).alloc (.cells #[.int .i64 7,.int .i64 dp,.int .i64 dv] 84))) (below2 _ _ _)
  clear C q0 q1 q2 lH lX2
  generalize ((W2.alloc (.cells #[.int .i64 7,.int .i64 dp,.int .i64 dv] 84)).alloc (.cells #[.int .i64 7,.int .i64 dp,.int .i64 dv] 84))=W3 at *
  obtain ⟨k1,kf1,kn⟩:W3.cell? ⟨X,1,none⟩=some (.slice (some ⟨g1,0,none⟩) ll.length c1)∧W3.frozen? ⟨g1,i,none⟩=false∧W3.cell? ⟨g1,i,none⟩=some (.int .i64 (s.t i).next):=by
   obtain ⟨g1',c1',e1,_,f1⟩:=C3.m.top (k:=1) (by omega) (by omega)
   have:=C3.m.ck (k:=1) (by omega)
   rw [hv1] at this e1
   simp only [Value.slice.injEq,Option.some.injEq,Addr.mk.injEq,and_true,true_and] at e1
   obtain ⟨rfl,_⟩:=e1
   exact ⟨this,f1 i,C3.m.nextAt hv1 htl⟩
  have C4:=(C3.bump hv1 htl hsl hHg).below (Below.refl _ _).drew
  have nx7':((s.t i).next:Int)≤7:=by omega
  clear C3
  go_region
  clear k1 kf1 kn
  generalize (W3.setCell ⟨g1,i,none⟩ (.int .i64 (((s.t i).next:Int)+1))).drew=W4 at *
  obtain ⟨q0,q1,q2⟩:=And.intro C4.q0 (And.intro C4.q1 C4.q2)
  have hm4:=C4.m
  have bel4:=C4.bel
  obtain ⟨g4,c4,hv4,hb4,hf4⟩:=hm4.top (k:=4) (by omega) (by omega)
  have k4:=hm4.ck (k:=4) (by omega)
  rw [hv4] at k4
  have ki:=hm4.innAt hv4 htl
  have kf4:=hf4 i
  have hbl:i < (s.bump i).th.length:=by rw [M.bump_len];exact hsl
  have hS:=hm4.cell (k:=4) (i:=i) (s':=(s.bump i).goIn i) (v':=.bool true) (Or.inr rfl) hv4 (rw_inn htl fun j _=>(by
   unfold M.St.goIn
   rw [M.t_put _ _ _ _ hbl]
   by_cases e:j=i
   ·rw [if_pos e,if_pos e]
   ·rw [if_neg e,if_neg e])) (fun rr _ hne=>rw_put _ i _ hbl rr (fun _=>rfl) (fun e=>absurd e hne) (fun _=>rfl) (fun _=>rfl) (fun _=>rfl))
  go_wp2_with fail
  go_ret
  exact ⟨by rw [HN.out];rfl,⟨fun s' e=>(by
   rw [HN.out] at e
   obtain rfl:=Option.some.inj e
   exact ⟨_,(M.bump_goIn s i hsl▸hS)⟩),bel4.setCell (by show base≤g4;exact hb4) _⟩⟩
end
section
open Go.RowKit
set_option maxHeartbeats 4000000 in
set_option maxRecDepth 100000 in
theorem sstep_8 (base X i:Nat) (a:Option Addr) (b o c:Nat) (ll:List (List M.D)) (late:Bool) (vs:Rid→Value) (s:M.St) (d:M.D) (w0 w:World) (h0:DoSS w0 a b o ll) (hw0:w0.heap.size≤base) (hb0:Below base w0 w) (h:SM w base X a ll.length c vs s) (htl:i < ll.length) (h3:ll.length≤3) (hp:M.prog ll=true) (I:M.Inv ll s) (_E:M.Edge ll.length s) (hd:s.d? ll i=some d) (hk:Hid (d.k=8)) :
  Calls Try.prog 31 #[.pointer (some ⟨X,0,none⟩),.int .i64 i,.bool late] w fun e w'=>e=.returned (.bool (s.step? late ll i).isSome)∧SmR w w' base X a ll.length c (s.step? late ll i):=by
 have ht:i < 3:=by omega
 have hsl:i < s.th.length:=by rw [I.th];exact ht
 have F:=I.fit (M.thOk_of hp i) ht hd
 have c0:=h.c0
 have hp1:=h0.below hb0 hw0
 obtain ⟨rfl⟩:=h0.addr (by omega)
 obtain ⟨a',b',o',c',hc,hdd⟩:=hp1.row i htl
 have hg:ll.getD i []=ll[i]:=by simp [htl]
 have HR:Hid (s.step? late ll i=if M.canD (s.t i) d then some (s.stepD late i d) else none):=by
  show _=_
  unfold M.St.step?
  rw [hd]
 have hd':=hd
 rw [M.St.d?,hg] at hd
 have hlt:(s.t i).next < ll[i].length:=by
  rcases Nat.lt_or_ge (s.t i).next ll[i].length with h | h
  ·exact h
  ·rw [List.getElem?_eq_none h] at hd;cases hd
 have hde:ll[i][(s.t i).next]=d:=by rw [List.getElem?_eq_getElem hlt] at hd;exact Option.some.inj hd
 have hok:=M.thr_ok hp htl (List.mem_of_getElem? hd)
 obtain ⟨rfl⟩:=hdd.addr (by omega)
 have hrow:=hdd.row _ hlt
 rw [hde] at hrow
 obtain ⟨ck,cp,cv⟩:=hrow
 have nx7:=F.nx
 have i2:((s.t i).next:Int) < ll[i].length:=by omega
 have i3:(i:Int) < ll.length:=by omega
 have lX:=h.lt
 obtain ⟨g1,c1,hv1,hb1,hf1⟩:=h.top (k:=1) (by omega) (by omega)
 have k1:=h.ck (k:=1) (by omega)
 rw [hv1] at k1
 have kn:=h.nextAt hv1 htl
 have lg1:g1 < w.heap.size:=World.block_lt_of_cell? _ _ kn
 have lb:b < w.heap.size:=World.block_lt_of_cell? _ _ hc
 have lb':b' < w.heap.size:=World.block_lt_of_cell? _ _ ck
 have hbX:=h.bX
 have hoffH:∀ r,okN ll.length r→(vs r).ownBlock≠some w.heap.size:=fun r hr e=>by have:=(SM.own h hr).lt _ e;omega
 clear hd hde hp1 hdd hg h0
 have wl:ll[i].length≤7:=by have:=(M.thOk_of hp i).len;rwa [show ll.getD i []=ll[i] from by simp [htl]] at this
 generalize ll[i]=l at *
 go_enter Try.func31,Try.ntmps31
 go_wp2_with fail
 go_region
 have C:StC (w.alloc (.cells #[.int .i64 d.k,.int .i64 d.p,.int .i64 d.v] 84)).drew w.heap.size base X (some ⟨b,o,none⟩) ll.length c vs s d w :=
  ⟨by simp,by simp,by simp,h.below ((below1 w _).trans ((Below.refl _ _).drew)),((below1 w _).mono (by omega)).trans ((Below.refl _ _).drew)⟩
 clear h c0 hc ck cp cv k1 kn lb lb' hf1 hb1 i2 hlt
 have hHg:w.heap.size≠g1:=by omega
 generalize (w.alloc (.cells #[.int .i64 d.k,.int .i64 d.p,.int .i64 d.v] 84)).drew=W2 at *
 generalize w.heap.size=H at *
 simp only [M.doOk,Bool.and_eq_true] at hok
 obtain ⟨⟨hkw,hpl⟩,hvl⟩:=hok
 have heV:∀ args w,(callFunc 53 args).run Try.prog w=.ok (.enter 53 args) w:=enters_of Try.func53 (by kernel_rfl) rfl
 have heW:∀ args w,(callFunc 52 args).run Try.prog w=.ok (.enter 52 args) w:=enters_of Try.func52 (by kernel_rfl) rfl
 obtain ⟨dk,dp,dv⟩:=d
 replace hk:=hk.out
 simp only at C F HR hkw hpl hvl hk
 subst hk
 have hpr:=fun q (hq:q∈(s.t i).pend)=>F.pr q hq
 have hth:=I.th
 have hat:=I.at_
 obtain ⟨g2,c2,hv2,hb2,hf2⟩:=C.m.top (k:=2) (by omega) (by omega)
 have k2:=C.m.ck (k:=2) (by omega)
 rw [hv2] at k2
 have kr:=C.m.subAt (Or.inl rfl) hv2 htl
 obtain ⟨la,lc,hvl2,hlc⟩:=own_sl (C.m.late htl)
 rw [hvl2] at kr
 have lg2:g2 < W2.heap.size:=World.block_lt_of_cell? _ _ kr
 cases hpd:(s.t i).pend with
 | cons q r =>
  have HN:Hid (s.step? late ll i=none):=by show _=_;rw [HR.out,M.canD,hpd];rfl
  rw [hpd,List.length_cons] at kr
  have hpos:(0:Int) < (r.length:Int)+1:=by omega
  obtain ⟨q0,q1,q2⟩:=And.intro C.q0 (And.intro C.q1 C.q2)
  have lH:H < W2.heap.size:=World.block_lt_of_cell? _ _ q0
  have lX2:X < W2.heap.size:=C.m.lt
  go_wp2_with (first | (go_at_call 50;refine (l1Reads_any ⟨_,_,_⟩ _).mono ?_;rintro e w3 ⟨rfl,rfl⟩) | (go_at_call 51;refine (l1Writes_any ⟨_,_,_⟩ _).mono ?_;rintro e w4 ⟨rfl,rfl⟩))
  go_ret
  exact ⟨by rw [HN.out];rfl,⟨fun s' e=>(by rw [HN.out] at e;cases e),C.bel.trans ((below2 _ _ _).mono (by omega))⟩⟩
 | nil =>
  rw [hpd,List.length_nil] at kr
  obtain ⟨q0,q1,q2⟩:=And.intro C.q0 (And.intro C.q1 C.q2)
  have lH:H < W2.heap.size:=World.block_lt_of_cell? _ _ q0
  have lX2:X < W2.heap.size:=C.m.lt
  go_wp2_with (first | (go_at_call 50;refine (l1Reads_any ⟨_,_,_⟩ _).mono ?_;rintro e w3 ⟨rfl,rfl⟩) | (go_at_call 51;refine (l1Writes_any ⟨_,_,_⟩ _).mono ?_;rintro e w4 ⟨rfl,rfl⟩))
  clear k2 kr hf2
  have hnq:(s.t i).noted=M.quiet:=by
   refine (I.each i ht).rest ?_
   cases h:(s.t i).waits
   ·rfl
   ·obtain ⟨d',e1,e2⟩:=(I.each i ht).waits h
    rw [show (ll.getD i [])[(s.t i).next]?=some _ from hd'] at e1
    obtain rfl:=Option.some.inj e1
    cases e2
  have HN:Hid (s.step? late ll i=some ((s.goOut i).bump i)):=by show _=_;rw [HR.out,M.canD,hpd,hnq];rfl
  have C3:=C.below (W':=((W2.alloc (.cells #[.int .i64 8,.int .i64 dp,.int .i64 dv] 84)).alloc (.cells #[.int .i64 8,.int .i64 dp,.int .i64 dv] 84))) (below2 _ _ _)
  clear C q0 q1 q2 lH lX2
  generalize ((W2.alloc (.cells #[.int .i64 8,.int .i64 dp,.int .i64 dv] 84)).alloc (.cells #[.int .i64 8,.int .i64 dp,.int .i64 dv] 84))=W3 at *
  obtain ⟨k1,kf1,kn⟩:W3.cell? ⟨X,1,none⟩=some (.slice (some ⟨g1,0,none⟩) ll.length c1)∧W3.frozen? ⟨g1,i,none⟩=false∧W3.cell? ⟨g1,i,none⟩=some (.int .i64 (s.t i).next):=by
   obtain ⟨g1',c1',e1,_,f1⟩:=C3.m.top (k:=1) (by omega) (by omega)
   have:=C3.m.ck (k:=1) (by omega)
   rw [hv1] at this e1
   simp only [Value.slice.injEq,Option.some.injEq,Addr.mk.injEq,and_true,true_and] at e1
   obtain ⟨rfl,_⟩:=e1
   exact ⟨this,f1 i,C3.m.nextAt hv1 htl⟩
  have C4:=(C3.bump hv1 htl hsl hHg).below (Below.refl _ _).drew
  have nx7':((s.t i).next:Int)≤7:=by omega
  clear C3
  go_region
  clear k1 kf1 kn
  generalize (W3.setCell ⟨g1,i,none⟩ (.int .i64 (((s.t i).next:Int)+1))).drew=W4 at *
  obtain ⟨q0,q1,q2⟩:=And.intro C4.q0 (And.intro C4.q1 C4.q2)
  have hm4:=C4.m
  have bel4:=C4.bel
  have hnt:∀ j,j < 3→((s.bump i).t j).noted.length=3:=fun j hj=>by
   by_cases e:j=i
   ·subst e;rw [M.bump_t _ _ hsl];exact (I.each j hj).noted
   ·rw [M.bump_ne _ _ _ hsl e];exact (I.each j hj).noted
  go_wp2_with (go_at_call 54;refine (sout_any base X i _ _ c vs (s.bump i) W4 hm4 htl h3 (by rw [M.bump_len];exact hth) hnt).mono ?_;rintro e w5 ⟨rfl,hm5,hb5⟩)
  go_ret
  exact ⟨by rw [HN.out];rfl,⟨fun s' e=>(by
   rw [HN.out] at e
   obtain rfl:=Option.some.inj e
   exact M.bump_goOut s i hth ht▸hm5),bel4.trans hb5⟩⟩
end
end Go.Proofs.Ytnddmlgnngdaoaa
