/- spec's machine in memory: a box of seven cells and rows of its own. No condition. spec's machine: what a thread finds at a place. No condition. -/
import Derived.Deep.RegionLaw
import Derived.Shelf.Abstract
import Derived.Test.YtnddmlgnngdaoaaRows
import Derived.Test.YtnddmlgnngdaoaaQjad
import Derived.Test.YtnddmlgnngdaoaaQjae
namespace Go.Proofs.Ytnddmlgnngdaoaa
section
open Go.RowKit
def OffB (v:Value) (row:Option Nat):Prop:=∀ k,v.ownBlock=some k→row≠some k
theorem OffB.kept {w w':World} {base n:Nat} {e:TypeId} {size:Nat} {v:Value} {xs:List Value} {row:Option Nat} (ho:OffB v row) (h:w.ownsRow base e size v n xs) (hg:w.grownBy w' row):w'.ownsRow base e size v n xs :=
 h.kept hg (by
  cases hv:v.ownBlock with
  | none=>exact .inl rfl
  | some k=>exact .inr (fun e=>ho k hv e.symm))
theorem own_sl {w:World} {base n:Nat} {e:TypeId} {size:Nat} {v:Value} {xs:List Value} (h:w.ownsRow base e size v n xs):∃ a c,v=.slice a n c∧n≤c:=by
 rcases h.2 with ⟨hv,hn⟩ | ⟨g,cap,cur,hv,_,_,hc,_⟩
 ·exact ⟨none,0,by rw [hv,hn],by omega⟩
 ·exact ⟨_,cap,hv,hc⟩
theorem own_slp {w:World} {base n:Nat} {e:TypeId} {size:Nat} {v:Value} {xs:List Value} (h:w.ownsRow base e size v n xs) (hn:0 < n):∃ g c,v=.slice (some ⟨g,0,none⟩) n c∧base≤g∧n≤c:=by
 rcases h.2 with ⟨hv,h0⟩ | ⟨g,cap,cur,hv,hb,_,hc,_⟩
 ·omega
 ·exact ⟨g,cap,hv,hb,hc⟩
theorem gr_refl (w:World) (row:Option Nat):w.grownBy w row:=⟨rfl,rfl,rfl,Nat.le_refl _,fun _ _ _=>rfl⟩
theorem gr_below {w w':World} (h:Below w.heap.size w w') (row:Option Nat):w.grownBy w' row:=⟨h.os,h.tape,h.output,h.size,fun k hk _=>h.block k hk⟩
theorem step_app {P:Program} {ops:Array Oper} {o:Oper} {a:Act} {w:World} {K:Act→World→Prop} {Q:Exit→Act→World→Prop} {E:Prop} (hgd:o.guard=none) (s x:Operand) (t:TypeId)
  (ho:o.op=.call { callee:=.builtin .append,args:=#[s,x],argTypes:=#[t,t] }) (d:Option Tmp) (hd:o.dst=d) (base:Nat) (e:TypeId) (i:TypeInfo) (z:Value) (size bytes:Nat) (ht:P.underlying t=some (.slice e)) (hi:P.info? e=some i) (hz:i.zero=some z)
  (hsize:i.size=size) (hby:i.bytes=bytes) (hzs:z.cells.size=size) (hsz:0 < size)
  (v:Value) (n:Nat) (xs:List Value) (hs:a.eval s=v) (hown:w.ownsRow base e size v n xs)
  (ad:Addr) (m c:Nat) (news:List Value) (hx:a.eval x=.slice (some ad) m c) (hl:news.length=m * size) (hnews:∀ j u,news[j]?=some u→w.cell? (ad.add j)=some u) (h1:∀ u∈news,u.oneCell'=true)
  (h63:n+m≤maxLen) (hbytes:(n+m) * bytes≤140737488355328) (hbase:base≤w.heap.size)
  (h:∀ v' w',w'.ownsRow base e size v' (n+m) (xs++news)→w.grownBy w' v.ownBlock→(v'.ownBlock=v.ownBlock∨v'.ownBlock=some w.heap.size)→K (a.put d v') w') :
  if Region.wanted o (yielded ops a.tmps)=true then Oper.wp P o a w K Q else E:=by
 subst hd
 have hw:Region.wanted o (yielded ops a.tmps)=true:=by simp [Region.wanted,hgd]
 rw [if_pos hw]
 obtain ⟨v',w',hrun,h2,h3,_,h5⟩:=run_append_own_at (P:=P) w base t o.type e i z size bytes ht hi hz hsize hby hzs hsz v n xs hown ad m c news hl hnews h1 h63 hbytes hbase
 have hk:=h v' w' h2 h3 h5
 unfold Oper.wp
 simp [execOp,ho,resolve,invoke,builtin,hs,hx,hrun,Result.andThen]
 exact hk
structure Rw where
 e:TypeId
 k:Nat
 n:Nat
 xs:List Value
inductive Rid where
 | top (k:Nat)
 | sub (k i:Nat)
deriving DecidableEq
def flatQ:List (Int × Int)→List Value
 | []=>[]
 | q::l=>.int .i64 0::.int .i64 q.1::.int .i64 q.2::flatQ l
theorem flatQ_len:∀ l:List (Int × Int),(flatQ l).length=l.length * 3
 | []=>rfl
 | q::l=>by simp only [flatQ,List.length_cons,flatQ_len l];omega
theorem flatQ_app:∀ l m:List (Int × Int),flatQ (l++m)=flatQ l++flatQ m
 | [],_=>rfl
 | q::l,m=>by simp [flatQ,flatQ_app l m]
theorem flatQ_get:∀ (l:List (Int × Int)) (i:Nat) (h:i < l.length),(flatQ l)[i * 3]?=some (.int .i64 0)∧(flatQ l)[i * 3+1]?=some (.int .i64 l[i].1)∧(flatQ l)[i * 3+2]?=some (.int .i64 l[i].2)
 | q::l,0,_=>⟨rfl,rfl,rfl⟩
 | q::l,i+1,h=>by
  obtain ⟨a,b,c⟩:=flatQ_get l i (by simpa using h)
  rw [show (i+1) * 3=i * 3+1+1+1 from by omega]
  exact ⟨by simpa [flatQ] using a,by simpa [flatQ] using b,by simpa [flatQ] using c⟩
theorem flatQ_one:∀ l:List (Int × Int),∀ u∈flatQ l,u.oneCell'=true
 | [],_,h=>by cases h
 | q::l,u,h=>by
  simp only [flatQ,List.mem_cons] at h
  rcases h with rfl | rfl | rfl | h
  ·rfl
  ·rfl
  ·rfl
  ·exact flatQ_one l u h
def M.Th.wt (n:Nat) (x:M.Th):List Bool:=if x.waits then x.noted.take n else []
def M.St.rw_ (n:Nat) (N:Nat→Nat) (us:Rid→Value) (s:M.St):Rid→Rw
 | .top 1=>⟨3,1,N 1,(List.range (N 1)).map fun i=>.int .i64 (s.t i).next⟩
 | .top 2=>⟨60,1,N 2,(List.range (N 2)).map fun i=>us (.sub 2 i)⟩
 | .top 3=>⟨25,1,N 3,(List.range (N 3)).map fun i=>us (.sub 3 i)⟩
 | .top 4=>⟨4,1,N 4,(List.range (N 4)).map fun i=>.bool (s.t i).inn⟩
 | .top 5=>⟨56,1,N 5,(List.range (N 5)).map fun i=>us (.sub 5 i)⟩
 | .top 6=>⟨3,1,s.at_.length,nums s.at_⟩
 | .sub 2 i=>⟨84,3,(s.t i).pend.length,flatQ (s.t i).pend⟩
 | .sub 3 i=>⟨3,1,(s.t i).vals.length,nums (s.t i).vals⟩
 | .sub 5 i=>⟨4,1,((s.t i).wt n).length,((s.t i).wt n).map .bool⟩
 | _=>⟨3,1,0,[]⟩
theorem rw_e (n:Nat) (N:Nat→Nat) (us:Rid→Value) (s:M.St) (r:Rid):(s.rw_ n N us r).e≠59:=by
 unfold M.St.rw_
 split<;>(dsimp only;decide)
def setR (f:Rid→Value) (r:Rid) (v:Value):Rid→Value:=fun r'=>if r'=r then v else f r'
theorem setR_same (f:Rid→Value) (r:Rid) (v:Value):setR f r v r=v:=if_pos rfl
theorem setR_ne (f:Rid→Value) {r r':Rid} (v:Value) (h:r'≠r):setR f r v r'=f r':=if_neg h
theorem setR_self (f:Rid→Value) (r:Rid):setR f r (f r)=f:=funext fun r'=>by
 unfold setR;split
 ·rename_i h;rw [h]
 ·rfl
structure SMN (w:World) (base X:Nat) (a:Option Addr) (n c:Nat) (ok:Rid→Prop) (N:Nat→Nat) (us vs:Rid→Value) (s:M.St):Prop where
 box:w.heap[X]?=some (.cells #[.slice a n c,us (.top 1),us (.top 2),us (.top 3),us (.top 4),us (.top 5),us (.top 6)] 59 (0,0))
 own:∀ r,ok r→w.ownsRow base (s.rw_ n N us r).e (s.rw_ n N us r).k (vs r) (s.rw_ n N us r).n (s.rw_ n N us r).xs
 ap:∀ r r',ok r→ok r'→r≠r'→OffB (vs r) (vs r').ownBlock
 bX:base≤X
theorem SMN.lt {w:World} {base X:Nat} {a:Option Addr} {n c:Nat} {ok:Rid→Prop} {N:Nat→Nat} {us vs:Rid→Value} {s:M.St} (h:SMN w base X a n c ok N us vs s):X < w.heap.size:=by
 by_cases hb:X < w.heap.size
 ·exact hb
 ·have:=h.box;rw [Array.getElem?_eq_none (by omega)] at this;cases this
theorem SMN.offX {w:World} {base X:Nat} {a:Option Addr} {n c:Nat} {ok:Rid→Prop} {N:Nat→Nat} {us vs:Rid→Value} {s:M.St} (h:SMN w base X a n c ok N us vs s) {r:Rid} (hr:ok r):(vs r).ownBlock≠some X:=fun e=>by
 rcases (h.own r hr).2 with ⟨hv,_⟩ | ⟨g,cap,cur,hv,_,hh,_⟩
 ·rw [hv] at e;cases e
 ·rw [hv] at e
  obtain rfl:g=X:=by simpa [Value.ownBlock] using e
  rw [h.box] at hh
  simp only [Option.some.injEq,Obj.cells.injEq] at hh
  exact rw_e n N us s r hh.2.1.symm
theorem SMN.cel {w:World} {base X:Nat} {a:Option Addr} {n c:Nat} {ok:Rid→Prop} {N:Nat→Nat} {us vs:Rid→Value} {s:M.St} (h:SMN w base X a n c ok N us vs s) (j:Nat):w.cell? ⟨X,j,none⟩=(#[.slice a n c,us (.top 1),us (.top 2),us (.top 3),us (.top 4),us (.top 5),us (.top 6)]:Array Value)[j]?:=cell_of_row _ _ _ _ _ _ h.box
theorem SMN.fz {w:World} {base X:Nat} {a:Option Addr} {n c:Nat} {ok:Rid→Prop} {N:Nat→Nat} {us vs:Rid→Value} {s:M.St} (h:SMN w base X a n c ok N us vs s) (j:Nat):w.frozen? ⟨X,j,none⟩=false:=frozen_of_row _ _ _ _ _ h.box
theorem SMN.below {w w':World} {base X:Nat} {a:Option Addr} {n c:Nat} {ok:Rid→Prop} {N:Nat→Nat} {us vs:Rid→Value} {s:M.St} (h:SMN w base X a n c ok N us vs s) (hb:Below w.heap.size w w'):SMN w' base X a n c ok N us vs s :=
 ⟨(hb.block X h.lt).trans h.box,fun r hr=>ownsRow_below (h.own r hr) hb,h.ap,h.bX⟩
theorem SMN.blk {w w':World} {base X:Nat} {a:Option Addr} {n c:Nat} {ok:Rid→Prop} {N:Nat→Nat} {us vs:Rid→Value} {s:M.St} (h:SMN w base X a n c ok N us vs s) {r:Rid} (hr:ok r) (hg:w.grownBy w' (vs r).ownBlock):w'.heap[X]?=w.heap[X]? :=
 hg.block X h.lt (fun e=>h.offX hr e.symm)
theorem SMN.put {w w':World} {base X:Nat} {a:Option Addr} {n c:Nat} {ok:Rid→Prop} {N N':Nat→Nat} {us us' vs:Rid→Value} {s s':M.St} (h:SMN w base X a n c ok N us vs s) {r0:Rid} (hr:ok r0) (hg:w.grownBy w' (vs r0).ownBlock) {v':Value}
  (ho:w'.ownsRow base (s'.rw_ n N' us' r0).e (s'.rw_ n N' us' r0).k v' (s'.rw_ n N' us' r0).n (s'.rw_ n N' us' r0).xs) (hat:v'.ownBlock=(vs r0).ownBlock∨∀ k,v'.ownBlock=some k→w.heap.size≤k)
  (hrest:∀ r,ok r→r≠r0→s'.rw_ n N' us' r=s.rw_ n N us r) (htop:∀ k,us' (.top k)=us (.top k)):SMN w' base X a n c ok N' us' (setR vs r0 v') s':=by
 have hoff:∀ r,ok r→r≠r0→OffB (vs r) v'.ownBlock∧OffB v' (vs r).ownBlock:=fun r hr' hne=>by
  rcases hat with e | e
  ·rw [e]
   exact ⟨h.ap r r0 hr' hr hne,fun k hk=>h.ap r0 r hr hr' (fun e=>hne e.symm) k (by rw [← e];exact hk)⟩
  ·have hl:=fun k hk=>((h.own r hr').lt k hk).2
   exact ⟨fun k hk e'=>by have:=e k e';have:=hl k hk;omega,fun k hk e'=>by have:=e k hk;have:=hl k e';omega⟩
 refine ⟨?_,fun r hr'=>?_,fun r r' h1 h2 hne=>?_,h.bX⟩
 ·rw [h.blk hr hg,h.box]
  simp only [htop]
 ·by_cases e:r=r0
  ·subst e;rw [setR_same];exact ho
  ·rw [setR_ne _ _ e,hrest r hr' e]
   exact (h.ap r r0 hr' hr e).kept (h.own r hr') hg
 ·by_cases e1:r=r0
  ·subst e1
   rw [setR_same,setR_ne _ _ (fun e=>hne e.symm)]
   exact (hoff r' h2 (fun e=>hne e.symm)).2
  ·rw [setR_ne _ _ e1]
   by_cases e2:r'=r0
   ·subst e2;rw [setR_same];exact (hoff r h1 e1).1
   ·rw [setR_ne _ _ e2];exact h.ap r r' h1 h2 hne
theorem SMN.add {w w':World} {base X:Nat} {a:Option Addr} {n c:Nat} {ok:Rid→Prop} {N:Nat→Nat} {us vs:Rid→Value} {s:M.St} (h:SMN w base X a n c ok N us vs s) {r0:Rid} (hr:¬ ok r0) (hb:Below w.heap.size w w') {v':Value}
  (ho:w'.ownsRow base (s.rw_ n N us r0).e (s.rw_ n N us r0).k v' (s.rw_ n N us r0).n (s.rw_ n N us r0).xs) (hat:∀ k,v'.ownBlock=some k→w.heap.size≤k):SMN w' base X a n c (fun r=>r=r0∨ok r) N us (setR vs r0 v') s:=by
 have ne:∀ r,ok r→r≠r0:=fun r hr' e=>hr (e▸hr')
 refine ⟨(hb.block X h.lt).trans h.box,fun r hr'=>?_,fun r r' h1 h2 hne=>?_,h.bX⟩
 ·rcases hr' with rfl | hr'
  ·rw [setR_same];exact ho
  ·rw [setR_ne _ _ (ne r hr')];exact ownsRow_below (h.own r hr') hb
 ·rcases h1 with rfl | h1
  ·rcases h2 with rfl | h2
   ·exact absurd rfl hne
   ·rw [setR_same,setR_ne _ _ (ne r' h2)]
    exact fun k hk e=>by have:=hat k hk;have:=((h.own r' h2).lt k e).2;omega
  ·rw [setR_ne _ _ (ne r h1)]
   rcases h2 with rfl | h2
   ·rw [setR_same]
    exact fun k hk e=>by have:=hat k e;have:=((h.own r h1).lt k hk).2;omega
   ·rw [setR_ne _ _ (ne r' h2)];exact h.ap r r' h1 h2 hne
theorem rw_top (n:Nat) (N:Nat→Nat) (us:Rid→Value) (s:M.St) (k:Nat) (v:Value) (r:Rid):s.rw_ n N (setR us (.top k) v) r=s.rw_ n N us r:=by
 have e:∀ j i,setR us (.top k) v (.sub j i)=us (.sub j i):=fun j i=>setR_ne _ _ (by simp)
 unfold M.St.rw_
 split<;>simp only [e]
theorem SMN.box_set {w:World} {base X:Nat} {a:Option Addr} {n c:Nat} {ok:Rid→Prop} {N:Nat→Nat} {us vs:Rid→Value} {s:M.St} (h:SMN w base X a n c ok N us vs s) (k:Nat) (hk:1≤k∧k≤6) (v:Value):SMN (w.setCell ⟨X,k,none⟩ v) base X a n c ok N (setR us (.top k) v) vs s:=by
 refine ⟨?_,fun r hr=>?_,h.ap,h.bX⟩
 ·rw [heap_setCell_same w X k _ _ v h.box]
  obtain ⟨h1,h6⟩:=hk
  match k,h1,h6 with
  | 1,_,_=>rfl
  | 2,_,_=>rfl
  | 3,_,_=>rfl
  | 4,_,_=>rfl
  | 5,_,_=>rfl
  | 6,_,_=>rfl
 ·rw [rw_top]
  have hoX:=h.offX hr
  obtain ⟨h1,h2⟩:=h.own r hr
  refine ⟨h1,?_⟩
  rcases h2 with h2 | ⟨g,cap,cur,hv,hg,hh,rr⟩
  ·exact Or.inl h2
  ·refine Or.inr ⟨g,cap,cur,hv,hg,?_,rr⟩
   rw [Below.heap_setCell _ _ _ _ (fun e=>?_)]
   ·exact hh
   ·rw [hv] at hoX;exact hoX (by simp [Value.ownBlock,e])
def okN (n:Nat):Rid→Prop
 | .top k=>1≤k∧k≤6
 | .sub k i=>(k=2∨k=3∨k=5)∧i < n
def SM (w:World) (base X:Nat) (a:Option Addr) (n c:Nat) (vs:Rid→Value) (s:M.St):Prop:=SMN w base X a n c (okN n) (fun _=>n) vs vs s
def SME (w:World) (base X:Nat) (a:Option Addr) (n c:Nat) (s:M.St):Prop:=∃ vs,SM w base X a n c vs s
section
variable {w w' : World} {base X : Nat} {a : Option Addr} {n c : Nat} {vs : Rid → Value} {s s' : M.St}
theorem SM.lt (h:SM w base X a n c vs s):X < w.heap.size:=SMN.lt h
theorem SM.below (h:SM w base X a n c vs s) (hb:Below w.heap.size w w'):SM w' base X a n c vs s:=SMN.below h hb
theorem SM.c0 (h:SM w base X a n c vs s):w.cell? ⟨X,0,none⟩=some (.slice a n c):=SMN.cel h 0
theorem SM.ck (h:SM w base X a n c vs s) {k:Nat} (hk:1≤k∧k≤6):w.cell? ⟨X,k,none⟩=some (vs (.top k)):=by
 refine (SMN.cel h k).trans ?_
 obtain ⟨h1,h6⟩:=hk
 match k,h1,h6 with
 | 1,_,_=>rfl
 | 2,_,_=>rfl
 | 3,_,_=>rfl
 | 4,_,_=>rfl
 | 5,_,_=>rfl
 | 6,_,_=>rfl
theorem SM.top (h:SM w base X a n c vs s) {k:Nat} (hk:1≤k∧k≤5) (hn:0 < n):∃ g cap,vs (.top k)=.slice (some ⟨g,0,none⟩) n cap∧base≤g∧(∀ j,w.frozen? ⟨g,j,none⟩=false):=by
 have e:(s.rw_ n (fun _=>n) vs (.top k)).n=n:=by
  obtain ⟨h1,h6⟩:=hk
  match k,h1,h6 with
  | 1,_,_=>rfl
  | 2,_,_=>rfl
  | 3,_,_=>rfl
  | 4,_,_=>rfl
  | 5,_,_=>rfl
 have ho:=SMN.own h (.top k) ⟨hk.1,by omega⟩
 rw [e] at ho
 obtain ⟨g,cap,hv,hb,_⟩:=own_slp ho hn
 refine ⟨g,cap,hv,hb,fun j=>?_⟩
 rw [hv] at ho
 exact World.ownsRow.frozenAt ho j
theorem SM.own (h:SM w base X a n c vs s) {r:Rid} (hr:okN n r):w.ownsRow base (s.rw_ n (fun _=>n) vs r).e (s.rw_ n (fun _=>n) vs r).k (vs r) (s.rw_ n (fun _=>n) vs r).n (s.rw_ n (fun _=>n) vs r).xs:=SMN.own h r hr
theorem own_cellE {base g n cap:Nat} {e:TypeId} {size:Nat} {xs:List Value} (h:w.ownsRow base e size (.slice (some ⟨g,0,none⟩) n cap) n xs) {j:Nat} {u:Value} (hu:xs[j]?=some u):w.cell? ⟨g,j,none⟩=some u:=by
 have:=h.cells (g:=g) rfl j u hu
 rwa [Go.WideShapes.add_plain,Nat.zero_add] at this
theorem SM.nextAt (h:SM w base X a n c vs s) {g cap:Nat} (hv:vs (.top 1)=.slice (some ⟨g,0,none⟩) n cap) {i:Nat} (hi:i < n):w.cell? ⟨g,i,none⟩=some (.int .i64 (s.t i).next):=by
 have ho:=h.own (r:=.top 1) ⟨by omega,by omega⟩
 rw [hv] at ho
 exact own_cellE ho (by simp [M.St.rw_,hi])
theorem SM.innAt (h:SM w base X a n c vs s) {g cap:Nat} (hv:vs (.top 4)=.slice (some ⟨g,0,none⟩) n cap) {i:Nat} (hi:i < n):w.cell? ⟨g,i,none⟩=some (.bool (s.t i).inn):=by
 have ho:=h.own (r:=.top 4) ⟨by omega,by omega⟩
 rw [hv] at ho
 exact own_cellE ho (by simp [M.St.rw_,hi])
theorem SM.subAt (h:SM w base X a n c vs s) {k:Nat} (hk:k=2∨k=3∨k=5) {g cap:Nat} (hv:vs (.top k)=.slice (some ⟨g,0,none⟩) n cap) {i:Nat} (hi:i < n):w.cell? ⟨g,i,none⟩=some (vs (.sub k i)):=by
 have ho:=h.own (r:=.top k) (by rcases hk with rfl | rfl | rfl<;>exact ⟨by omega,by omega⟩)
 rcases hk with rfl | rfl | rfl<;>rw [hv] at ho<;>exact own_cellE ho (by simp [M.St.rw_,hi])
theorem SM.late (h:SM w base X a n c vs s) {i:Nat} (hi:i < n):w.ownsRow base 84 3 (vs (.sub 2 i)) (s.t i).pend.length (flatQ (s.t i).pend):=h.own (r:=.sub 2 i) ⟨by omega,hi⟩
theorem SM.reads (h:SM w base X a n c vs s) {i:Nat} (hi:i < n):w.ownsRow base 3 1 (vs (.sub 3 i)) (s.t i).vals.length (nums (s.t i).vals):=h.own (r:=.sub 3 i) ⟨by omega,hi⟩
theorem SM.waits (h:SM w base X a n c vs s) {i:Nat} (hi:i < n):w.ownsRow base 4 1 (vs (.sub 5 i)) ((s.t i).wt n).length (((s.t i).wt n).map .bool):=h.own (r:=.sub 5 i) ⟨by omega,hi⟩
theorem SM.at_ (h:SM w base X a n c vs s):w.ownsRow base 3 1 (vs (.top 6)) s.at_.length (nums s.at_):=h.own (r:=.top 6) ⟨by omega,by omega⟩
theorem SM.apart (h:SM w base X a n c vs s) {r r':Rid} (hr:okN n r) (hr':okN n r') (hne:r≠r'):OffB (vs r) (vs r').ownBlock:=SMN.ap h r r' hr hr' hne
theorem setL_map {n i:Nat} (hi:i < n) (f:Nat→Value) (v:Value):((List.range n).map f).set i v=(List.range n).map fun j=>if j=i then v else f j:=by
 apply List.ext_getElem?
 intro j
 rw [List.getElem?_set]
 by_cases e:i=j
 ·subst e;simp [hi]
 ·rw [if_neg e]
  by_cases hj:j < n
  ·simp [hj,Ne.symm e]
  ·simp [hj]
theorem SM.sub (h:SM w base X a n c vs s) {k i:Nat} (hk:k=2∨k=3∨k=5) (hi:i < n) (hg:w.grownBy w' (vs (.sub k i)).ownBlock) {v':Value} {g cap:Nat} (hv:vs (.top k)=.slice (some ⟨g,0,none⟩) n cap)
  (ho:w'.ownsRow base (s'.rw_ n (fun _=>n) vs (.sub k i)).e (s'.rw_ n (fun _=>n) vs (.sub k i)).k v' (s'.rw_ n (fun _=>n) vs (.sub k i)).n (s'.rw_ n (fun _=>n) vs (.sub k i)).xs) (hat:v'.ownBlock=(vs (.sub k i)).ownBlock∨∀ k,v'.ownBlock=some k→w.heap.size≤k)
  (hrest:∀ r,okN n r→r≠.sub k i→s'.rw_ n (fun _=>n) vs r=s.rw_ n (fun _=>n) vs r):SM (w'.setCell ⟨g,i,none⟩ v') base X a n c (setR vs (.sub k i) v') s':=by
 have h1:SMN w' base X a n c (okN n) (fun _=>n) vs (setR vs (.sub k i) v') s':=SMN.put h (r0:=.sub k i) (show okN n (.sub k i) from ⟨hk,hi⟩) hg ho hat hrest (fun _=>rfl)
 have hk0:okN n (.top k):=by rcases hk with rfl | rfl | rfl<;>exact ⟨by omega,by omega⟩
 have hne:(Rid.top k)≠.sub k i:=by simp
 have hv1:setR vs (.sub k i) v' (.top k)=.slice (some ⟨g,0,none⟩) n cap:=by rw [setR_ne _ _ hne];exact hv
 have ho1:=h1.own (.top k) hk0
 have en:(s'.rw_ n (fun _=>n) vs (.top k)).n=n:=by rcases hk with rfl | rfl | rfl<;>rfl
 rw [hv1,en] at ho1
 obtain ⟨st1,st2⟩:=World.ownsRow.stored ho1 i v'
 have hsub:∀ j,setR vs (.sub k i) v' (.sub k j)=if j=i then v' else vs (.sub k j):=fun j=>by
  unfold setR
  by_cases e:j=i
  ·rw [if_pos e,if_pos (by rw [e])]
  ·rw [if_neg e,if_neg (by simp [e])]
 have h2:=h1.put (r0:=.top k) (N':=fun _=>n) (us':=setR vs (.sub k i) v') (s':=s') hk0 (by rw [hv1];exact st2) (v':=.slice (some ⟨g,0,none⟩) n cap) (by
  have:(s'.rw_ n (fun _=>n) (setR vs (.sub k i) v') (.top k))=⟨(s'.rw_ n (fun _=>n) vs (.top k)).e,(s'.rw_ n (fun _=>n) vs (.top k)).k,n,(s'.rw_ n (fun _=>n) vs (.top k)).xs.set i v'⟩:=by
   rcases hk with rfl | rfl | rfl<;>simp only [M.St.rw_,hsub,setL_map hi]
  rw [this]
  exact st1) (Or.inl (by rw [hv1])) (fun r hr hne=>by
   have:∀ k' i',(k'≠k)→setR vs (.sub k i) v' (.sub k' i')=vs (.sub k' i'):=fun k' i' hkk=>setR_ne _ _ (by simp [hkk])
   unfold M.St.rw_
   split<;>(try rfl)<;>(congr 1;apply List.map_congr_left;intro j _;refine this _ _ (fun e=>hne (by rw [e])))) (fun k'=>setR_ne _ _ (by simp))
 rw [show (Value.slice (some ⟨g,0,none⟩) n cap)=setR vs (.sub k i) v' (.top k) from hv1.symm,setR_self] at h2
 exact h2
theorem SM.cell (h:SM w base X a n c vs s) {k i:Nat} (hk:k=1∨k=4) {v':Value} {g cap:Nat} (hv:vs (.top k)=.slice (some ⟨g,0,none⟩) n cap)
  (ho:(s'.rw_ n (fun _=>n) vs (.top k))=⟨(s.rw_ n (fun _=>n) vs (.top k)).e,1,n,(s.rw_ n (fun _=>n) vs (.top k)).xs.set i v'⟩)
  (hrest:∀ r,okN n r→r≠.top k→s'.rw_ n (fun _=>n) vs r=s.rw_ n (fun _=>n) vs r):SM (w.setCell ⟨g,i,none⟩ v') base X a n c vs s':=by
 have hk0:okN n (.top k):=by rcases hk with rfl | rfl<;>exact ⟨by omega,by omega⟩
 have ho1:=h.own hk0
 have en:(s.rw_ n (fun _=>n) vs (.top k)).n=n∧(s.rw_ n (fun _=>n) vs (.top k)).k=1:=by rcases hk with rfl | rfl<;>exact ⟨rfl,rfl⟩
 rw [hv,en.1,en.2] at ho1
 obtain ⟨st1,st2⟩:=World.ownsRow.stored ho1 i v'
 have h2:=SMN.put h (r0:=.top k) (N':=fun _=>n) (us':=vs) (s':=s') hk0 (by rw [hv];exact st2) (v':=.slice (some ⟨g,0,none⟩) n cap) (by rw [ho];exact st1) (Or.inl (by rw [hv])) hrest (fun _=>rfl)
 rw [← hv,setR_self] at h2
 exact h2
theorem SM.cellAt (h:SM w base X a n c vs s) {j:Nat} {v':Int} {g cap:Nat} (hv:vs (.top 6)=.slice (some ⟨g,0,none⟩) s.at_.length cap) :
  SM (w.setCell ⟨g,j,none⟩ (.int .i64 v')) base X a n c vs ⟨s.th,s.at_.set j v'⟩:=by
 have hk0:okN n (.top 6):=⟨by omega,by omega⟩
 have ho1:=h.at_
 rw [hv] at ho1
 obtain ⟨st1,st2⟩:=World.ownsRow.stored ho1 j (.int .i64 v')
 have h2:=SMN.put h (r0:=.top 6) (N':=fun _=>n) (us':=vs) (s':=⟨s.th,s.at_.set j v'⟩) hk0 (by rw [hv];exact st2) (v':=.slice (some ⟨g,0,none⟩) s.at_.length cap) (by
  show World.ownsRow _ base 3 1 _ (s.at_.set j v').length (nums (s.at_.set j v'))
  rw [List.length_set,show nums (s.at_.set j v')=(nums s.at_).set j (.int .i64 v') from by simp [nums,List.map_set]]
  exact st1) (Or.inl (by rw [hv])) (fun r hr hne=>by
   unfold M.St.rw_
   split<;>first | rfl | exact absurd rfl hne) (fun _=>rfl)
 rw [← hv,setR_self] at h2
 exact h2
end
end
section
open Go.RowKit
theorem SM.lateAt {w:World} {base X:Nat} {a:Option Addr} {n c:Nat} {vs:Rid→Value} {s:M.St} (h:SM w base X a n c vs s) {i:Nat} (hi:i < n):∃ la L lc,vs (.sub 2 i)=.slice la (s.t i).pend.length lc∧(0 < (s.t i).pend.length→la=some ⟨L,0,none⟩)∧(s.t i).pend.length≤lc∧∀ j (hj:j < (s.t i).pend.length),w.cell? ⟨L,j * 3,none⟩=some (.int .i64 0)∧w.cell? ⟨L,j * 3+1,none⟩=some (.int .i64 (s.t i).pend[j].1)∧w.cell? ⟨L,j * 3+2,none⟩=some (.int .i64 (s.t i).pend[j].2):=by
 have ho:=h.late hi
 rcases Nat.eq_zero_or_pos (s.t i).pend.length with h0 | h0
 ·obtain ⟨la,lc,hv,hc⟩:=own_sl ho
  exact ⟨la,0,lc,hv,fun h=>by omega,hc,fun j hj=>by omega⟩
 ·obtain ⟨g,lc,hv,_,hc⟩:=own_slp ho h0
  rw [hv] at ho
  refine ⟨_,g,lc,hv,fun _=>rfl,hc,fun j hj=>?_⟩
  obtain ⟨x,y,z⟩:=flatQ_get (s.t i).pend j hj
  exact ⟨own_cellE ho x,own_cellE ho y,own_cellE ho z⟩
theorem SM.atAt {w:World} {base X:Nat} {a:Option Addr} {n c:Nat} {vs:Rid→Value} {s:M.St} (h:SM w base X a n c vs s) {p:Nat} (hp:p < s.at_.length):∃ g cap,vs (.top 6)=.slice (some ⟨g,0,none⟩) s.at_.length cap∧w.cell? ⟨g,p,none⟩=some (.int .i64 (s.at_.getD p 0))∧w.frozen? ⟨g,p,none⟩=false:=by
 have ho:=h.at_
 obtain ⟨g,cap,hv,_⟩:=own_slp ho (by omega)
 rw [hv] at ho
 exact ⟨g,cap,hv,own_cellE ho (by simp [nums,hp]),World.ownsRow.frozenAt ho p⟩
set_option maxHeartbeats 1000000 in
theorem svalue_any (base X i p:Nat) (a:Option Addr) (n c:Nat) (vs:Rid→Value) (s:M.St) (w:World) (h:SM w base X a n c vs s) (hi:i < n) (hp:p < s.at_.length) (hn:n≤3) (hl:(s.t i).pend.length≤1048576) (ha:s.at_.length=3) :
  Calls Try.prog 53 #[.pointer (some ⟨X,0,none⟩),.int .i64 i,.int .i64 p] w fun e w'=>e=.returned (.int .i64 (s.look i p))∧w'=w:=by
 obtain ⟨g2,c2,hv2,_⟩:=h.top (k:=2) (by omega) (by omega)
 have k2:=h.ck (k:=2) (by omega)
 rw [hv2] at k2
 have kr:=h.subAt (Or.inl rfl) hv2 hi
 obtain ⟨la,L,lc,hvl,hla,_,hcl⟩:=h.lateAt hi
 rw [hvl] at kr
 obtain ⟨g6,c6,hv6,ca,_⟩:=h.atAt hp
 have k6:=h.ck (k:=6) (by omega)
 rw [hv6] at k6
 have lX:=h.lt
 have HL:Hid (s.look i p=(M.find p (s.t i).pend).getD (s.at_.getD p 0)):=by show _=_;simp [M.St.look]
 have i1:(i:Int) < n:=by omega
 rw [ha] at hp k6
 have i2:(p:Int) < 3:=by omega
 generalize (s.t i).pend=l at *
 generalize s.at_.getD p 0=x at *
 clear h hv2 hvl hv6 ha
 go_enter Try.func53,Try.ntmps53
 go_wp2_with fail
 go_loopw [7] (fun s7 wr=>∃ m:Nat,s7=.int .i64 ((m:Int) - 1)∧m≤l.length∧Hid (M.find p l=M.find p (l.take m))∧wr=w) (fun s7 _=>(intOf s7+1).toNat)
 case atStart=>exact ⟨l.length,by go_num,Nat.le_refl _,by show _=_;rw [List.take_of_length_le (Nat.le_refl _)],rfl⟩
 case round =>
  obtain ⟨m,rfl,hm,HF,rfl⟩:=hrel
  rcases m with _ | m
  ·go_wp2_with fail
   go_ret
   exact ⟨by rw [HL.out,HF.out];rfl,rfl⟩
  ·obtain ⟨rfl⟩:=hla (by omega)
   obtain ⟨_,a1,b1⟩:=hcl m (by omega)
   have HT:=M.find_take (p:=p) (l:=l) (m:=m) (by omega)
   have HT:Hid (M.find p (l.take (m+1))=if (l[m]'(by omega)).1==(p:Int) then some (l[m]'(by omega)).2 else M.find p (l.take m)):=by
    show _=_
    rw [HT]
    simp [show m < l.length from by omega]
   generalize l[m]'(by omega)=q at *
   have e1:((m+1:Nat):Int) - 1=m:=by omega
   have i3:(m:Int) < l.length:=by omega
   clear hcl
   rw [e1]
   by_cases hq:q.1=p
   ·rw [hq] at a1
    go_wp2_with fail
    go_ret
    exact ⟨by rw [HL.out,HF.out,HT.out,hq];simp,rfl⟩
   ·have hq':(q.1==(p:Int))=false:=by simpa using hq
    go_wp2_with fail
    exact ⟨⟨m,by simp,by omega,by show _=_;rw [HF.out,HT.out,hq'];rfl,trivial⟩,by simp [intOf]⟩
end
end Go.Proofs.Ytnddmlgnngdaoaa
