/- Small facts that every text leans on: what lies below a world's end stays. No condition. And what goes with it: Base, Math, Mem, But, Wide, ArrOp, OpenBy. -/
import Derived.Deep.RegionHeld3
import Derived.Deep.Slices
import Derived.Deep.WholeRow
import Derived.OpenShut
import Derived.ProofKit
import Derived.WalkLawsBesides
import Derived.WalkSpells
import Derived.Test.YtegommoflmmahaaGreatRows
namespace Go.Proofs.YtegommoflmmahaaGreat
section
open Go.RowKit
theorem ret_bool {a b:Bool} (h:a=b):Ending.returned (.bool a)=.returned (.bool b):=by rw [h]
theorem below3 (w:World) (a b c:Obj):Below w.heap.size w (((w.alloc a).alloc b).alloc c) :=
 (((Below.refl _ _).alloc (Nat.le_refl _) _).alloc (by simp) _).alloc (by simp;omega) _
theorem below2 (w:World) (a b:Obj):Below w.heap.size w ((w.alloc a).alloc b) :=
 ((Below.refl _ _).alloc (Nat.le_refl _) _).alloc (by simp) _
theorem below1 (w:World) (a:Obj):Below w.heap.size w (w.alloc a):=(Below.refl _ _).alloc (Nat.le_refl _) _
theorem bcell {W w1:World} (hb:Below W.heap.size W w1):(∀ b o,b < W.heap.size→w1.cell? ⟨b,o,none⟩=W.cell? ⟨b,o,none⟩)∧(∀ b o,b < W.heap.size→w1.frozen? ⟨b,o,none⟩=W.frozen? ⟨b,o,none⟩) :=
 ⟨fun b o h=>hb.cell (p:=⟨b,o,none⟩) h,fun b o h=>hb.frozen (p:=⟨b,o,none⟩) h⟩
theorem bel_box {w wr w1:World} {x:Obj} (hbel:Below w.heap.size w wr) (hb:Below (wr.alloc x).heap.size (wr.alloc x) w1):Below w.heap.size w w1 :=
 hbel.trans (((Below.refl _ _).alloc hbel.size _).trans (hb.mono (by have:=hbel.size;simp;omega)))
theorem bel_box2 {w wr w1:World} {x:Obj} (hbel:Below w.heap.size w wr) (hb:Below (wr.alloc x).heap.size (wr.alloc x) w1) (y:Obj):Below w.heap.size w (w1.alloc y) :=
 (bel_box hbel hb).alloc (bel_box hbel hb).size _
end
section
namespace M
structure D where
 k:Int
 p:Int
 v:Int
def reads (k:Int):Bool:=k==2||k==5
def stores (k:Int):Bool:=k==1||k==6
def writes (k:Int):Bool:=stores k||k==3
def uses (k:Int):Bool:=reads k||writes k
def wordOk (k:Int):Bool:=decide (1≤k)&&decide (k≤9)
def placeOk (k p:Int):Bool:=if uses k then decide (0≤p)&&decide (p < 3) else p==0
def valOk (k v:Int):Bool:=if stores k then decide (1≤v)&&decide (v≤3) else v==0
def doOk (d:D):Bool:=wordOk d.k&&placeOk d.k d.p&&valOk d.k d.v
def rng (a b n:Int):Bool:=decide (a≤n)&&decide (n≤b)
theorem doOk_eq (k p v:Int):doOk ⟨k,p,v⟩=(rng 1 9 k&&(if uses k then rng 0 2 p else p==0)&&(if stores k then rng 1 3 v else v==0)):=by
 have e:decide (p < 3)=decide (p≤2):=by rw [decide_eq_decide];omega
 simp only [doOk,wordOk,placeOk,valOk,rng,e]
def form (l:List D):Bool:=l.all doOk
def copies:Bool→List D→Bool
 | _,[]=>true
 | r,d::l=>if d.k==3&&!r then false else copies (r||reads d.k) l
def readers:Bool→List D→Bool
 | i,[]=>!i
 | i,d::l=>if d.k==7 then (if i then false else readers true l) else if d.k==8 then (if i then readers false l else false) else if d.k==9 then (if i then false else readers i l) else readers i l
def thread (l:List D):Bool:=decide (l.length≤7)&&form l&&copies false l&&readers false l
def bad (r i:Bool) (d:D):Bool:=!doOk d||d.k==3&&!r||d.k==7&&i||d.k==8&&!i||d.k==9&&i
def inAfter (i:Bool) (k:Int):Bool:=if k==7 then true else if k==8 then false else i
def pass:Bool→Bool→List D→Bool
 | _,i,[]=>!i
 | r,i,d::l=>if bad r i d then false else pass (r||reads d.k) (inAfter i d.k) l
def sthread (l:List D):Bool:=decide (l.length≤7)&&pass false false l
theorem pass_eq (r i:Bool) (l:List D):pass r i l=(form l&&copies r l&&readers i l):=by
 induction l generalizing r i with
 | nil=>simp [pass,form,copies,readers]
 | cons d l ih =>
  simp only [pass,form,copies,readers,List.all_cons] at *
  by_cases hd:doOk d=true
  ·by_cases h3:(d.k==3)=true
   ·have hk:d.k=3:=by simpa using h3
    simp only [bad,inAfter,hd,hk]
    cases r<;>cases i<;>simp [reads,ih]
   ·have h3':(d.k==3)=false:=by simpa using h3
    by_cases h7:d.k=7
    ·simp only [bad,inAfter,hd,h7]
     cases r<;>cases i<;>simp [reads,ih]
    ·by_cases h8:d.k=8
     ·simp only [bad,inAfter,hd,h8]
      cases r<;>cases i<;>simp [reads,ih]
     ·by_cases h9:d.k=9
      ·simp only [bad,inAfter,hd,h9]
       cases r<;>cases i<;>simp [reads,ih]
      ·have e7:(d.k==7)=false:=by simpa using h7
       have e8:(d.k==8)=false:=by simpa using h8
       have e9:(d.k==9)=false:=by simpa using h9
       simp only [bad,inAfter,hd,h3',e7,e8,e9]
       simp [ih]
  ·have hd':doOk d=false:=by simpa using hd
   simp [bad,hd']
theorem sthread_eq (l:List D):sthread l=thread l:=by
 simp only [sthread,thread,pass_eq]
 cases decide (l.length≤7)<;>simp [Bool.and_assoc]
def cnt (f:Int→Bool) (l:List D):Nat:=(l.filter fun d=>f d.k).length
theorem cnt_le (f:Int→Bool) (l:List D):cnt f l≤l.length:=List.length_filter_le _ _
theorem cnt_cons (f:Int→Bool) (d:D) (l:List D):cnt f (d::l)=(if f d.k then 1 else 0)+cnt f l:=by
 simp only [cnt,List.filter_cons]
 cases f d.k<;>simp
 omega
def progFrom:Nat→Nat→List (List D)→Bool
 | a,u,[]=>decide (a≤14)&&decide (u≤6)
 | a,u,t::l=>if thread t then progFrom (a+t.length) (u+cnt uses t) l else false
def prog (l:List (List D)):Bool:=decide (l.length≤3)&&progFrom 0 0 l
theorem drop_at (l:List D) (n:Nat) (h:n < l.length):l.drop n=l[n]::l.drop (n+1):=(List.getElem_cons_drop h).symm
theorem pass_bad {l:List D} {r i:Bool} {n:Nat} {d:D} (hp:pass false false l=pass r i (l.drop n)) (hd:l.drop n=d::l.drop (n+1)) (hb:bad r i d=true):sthread l=false:=by
 simp [sthread,hp,hd,pass,hb]
theorem pass_ok {l:List D} {r i:Bool} {n:Nat} {d:D} (hp:pass false false l=pass r i (l.drop n)) (hd:l.drop n=d::l.drop (n+1)) (hb:bad r i d=false) {r' i':Bool} (hr:r'=(r||reads d.k)) (hi:i'=inAfter i d.k) :
  pass false false l=pass r' i' (l.drop (n+1)):=by
 subst hr;subst hi
 rw [hp,hd]
 simp [pass,hb]
theorem pass_fin {l:List D} {r i:Bool} {n:Nat} (hp:pass false false l=pass r i (l.drop n)) (hn:l.length≤n) (h7:l.length≤7):sthread l=!i:=by
 rw [List.drop_eq_nil_of_le hn] at hp
 simp [sthread,hp,pass,h7]
end M
end
section
open Go.RowKit
structure DoAt (w:World) (b o:Nat) (d:M.D):Prop where
 k:w.cell? ⟨b,o,none⟩=some (.int .i64 d.k)
 p:w.cell? ⟨b,o+1,none⟩=some (.int .i64 d.p)
 v:w.cell? ⟨b,o+2,none⟩=some (.int .i64 d.v)
def Row (w:World) (b o:Nat) (l:List M.D):Prop:=∀ i (h:i < l.length),DoAt w b (o+i * 3) l[i]
structure DoS (w:World) (a:Option Addr) (b o:Nat) (l:List M.D):Prop where
 addr:0 < l.length→a=some ⟨b,o,none⟩
 row:Row w b o l
theorem DoAt.lt {w:World} {b o:Nat} {d:M.D} (h:DoAt w b o d):b < w.heap.size:=World.block_lt_of_cell? _ _ h.k
theorem DoAt.below {w w':World} {B b o:Nat} {d:M.D} (h:DoAt w b o d) (hb:Below B w w') (hB:w.heap.size≤B):DoAt w' b o d:=by
 have hl:=h.lt
 exact ⟨by rw [hb.cell (p:=⟨b,o,none⟩) (by show b < B;omega)];exact h.k,by rw [hb.cell (p:=⟨b,o+1,none⟩) (by show b < B;omega)];exact h.p,by rw [hb.cell (p:=⟨b,o+2,none⟩) (by show b < B;omega)];exact h.v⟩
theorem DoS.below {w w':World} {a:Option Addr} {B b o:Nat} {l:List M.D} (h:DoS w a b o l) (hb:Below B w w') (hB:w.heap.size≤B):DoS w' a b o l :=
 ⟨h.addr,fun i hi=>(h.row i hi).below hb hB⟩
end
section
open Go.RowKit
structure But (rb:Nat) (w w':World):Prop where
 os:w'.os=w.os
 tape:w'.tape=w.tape
 output:w'.output=w.output
 size:w.heap.size≤w'.heap.size
 block:∀ k,k < w.heap.size→k≠rb→w'.heap[k]?=w.heap[k]?
theorem But.refl (rb:Nat) (w:World):But rb w w:=⟨rfl,rfl,rfl,Nat.le_refl _,fun _ _ _=>rfl⟩
theorem But.trans {rb:Nat} {a b c:World} (h:But rb a b) (k:But rb b c):But rb a c :=
 ⟨k.os.trans h.os,k.tape.trans h.tape,k.output.trans h.output,Nat.le_trans h.size k.size,fun i hi hne=>(k.block i (Nat.lt_of_lt_of_le hi h.size) hne).trans (h.block i hi hne)⟩
theorem But.of {rb:Nat} {w w':World} (h:Below w.heap.size w w'):But rb w w':=⟨h.os,h.tape,h.output,h.size,fun k hk _=>h.block k hk⟩
theorem But.drew {rb:Nat} {a w:World} (h:But rb a w):But rb a w.drew:=⟨h.os,h.tape,h.output,h.size,h.block⟩
theorem But.drewN {rb:Nat} {a w:World} (h:But rb a w):∀ n,But rb a (w.drewN n)
 | 0=>h
 | n+1=>by
  have:=h.drewN n
  exact ⟨this.os,this.tape,this.output,this.size,this.block⟩
theorem But.alloc {rb:Nat} {a w:World} (h:But rb a w) (o:Obj):But rb a (w.alloc o):=h.trans (But.of (below1 w o))
theorem But.setCell {rb:Nat} {a w:World} (h:But rb a w) {p:Addr} (hp:a.heap.size≤p.block∨p.block=rb) (u:Value):But rb a (w.setCell p u) :=
 ⟨h.os,h.tape,h.output,by rw [show (w.setCell p u).heap.size=w.heap.size from by simp [World.setCell]];exact h.size,fun k hk hne=>(Below.heap_setCell _ _ _ _ (by rcases hp with hp | hp<;>omega)).trans (h.block k hk hne)⟩
theorem But.cell {rb:Nat} {w w':World} (h:But rb w w') {p:Addr} (hp:p.block < w.heap.size) (hne:p.block≠rb):w'.cell? p=w.cell? p:=World.cell?_of_block (w:=w) (h.block p.block hp hne)
theorem But.frozen {rb:Nat} {w w':World} (h:But rb w w') {p:Addr} (hp:p.block < w.heap.size) (hne:p.block≠rb):w'.frozen? p=w.frozen? p:=World.frozen?_of_block (w:=w) (h.block p.block hp hne)
theorem But.below {rb:Nat} {w w1 w':World} (h:Below w.heap.size w w1) (k:But rb w1 w') (hr:w.heap.size≤rb):Below w.heap.size w w' :=
 ⟨k.os.trans h.os,k.tape.trans h.tape,k.output.trans h.output,Nat.le_trans h.size k.size,fun i hi=>(k.block i (Nat.lt_of_lt_of_le hi h.size) (by omega)).trans (h.block i hi)⟩
end
section
open Go.RowKit
theorem takeD {P:Program} {md:Region.Mode} {ops:Array Oper} {Q:Exit→Act→World→Prop} {S:World→Prop} (i:Nat) {oi:Oper} (d:Option Tmp) (v:Value) {fuel:Nat} {listed:Array Bool} {a:Act} {w:World} (hS:S w) (hi:ops[i]?=some oi) (hd:oi.dst=d)
  (hs:Region.noSelect ops=true) (hf:Region.free md ops listed i=true) (hr:(Region.ready md ops listed).contains i=true)
  (hQ:∀ c a w,Q (.panic c) (a.put d v) w→Q (.panic c) a w) (hy:YieldsIf P ops S oi v a)
  (h:wpAnyH P md ops Q S fuel (listed.setIfInBounds i true) (a.put d v) w):wpAnyH P md ops Q S (fuel+1) listed a w:=by
 subst hd
 exact wpAnyH_take hi hs hf hr hQ hy hS h
theorem tk {P:Program} {md:Region.Mode} {ops:Array Oper} {Q:Exit→Act→World→Prop} {S:World→Prop} (i:Nat) {oi:Oper} (t:Nat) (v:Value) {fuel:Nat} {listed:Array Bool} {a:Act} {w:World} (hS:S w) (hi:ops[i]?=some oi) (hd:oi.dst=some t)
    (hy:∀ w,S w→(execOp a.eval oi).run P w=.ok (.value v) w) (h:wpAnyH P md ops Q S fuel (listed.setIfInBounds i true) (a.put (some t) v) w)
    (hs:Region.noSelect ops=true:=by kernel_rfl) (hf:Region.free md ops listed i=true:=by kernel_rfl) (hr:(Region.ready md ops listed).contains i=true:=by kernel_rfl) (hg:Region.wanted oi (yielded ops a.tmps)=true:=by rfl)
    (hQ:∀ c a w,Q (.panic c) (a.put (some t) v) w→Q (.panic c) a w:=by exact fun _ _ _ h=>h):wpAnyH P md ops Q S (fuel+1) listed a w:=takeD i (some t) v hS hi hd hs hf hr hQ (Or.inl ⟨hg,hy⟩) h
theorem tz {P:Program} {md:Region.Mode} {ops:Array Oper} {Q:Exit→Act→World→Prop} {S:World→Prop} (i:Nat) {oi:Oper} (t:Nat) {fuel:Nat} {listed:Array Bool} {a:Act} {w:World} (hS:S w) (hi:ops[i]?=some oi) (hd:oi.dst=some t)
    (h:wpAnyH P md ops Q S fuel (listed.setIfInBounds i true) (a.put (some t) undef) w)
    (hs:Region.noSelect ops=true:=by kernel_rfl) (hf:Region.free md ops listed i=true:=by kernel_rfl) (hr:(Region.ready md ops listed).contains i=true:=by kernel_rfl) (hg:Region.wanted oi (yielded ops a.tmps)=false:=by rfl)
    (hQ:∀ c a w,Q (.panic c) (a.put (some t) undef) w→Q (.panic c) a w:=by exact fun _ _ _ h=>h):wpAnyH P md ops Q S (fuel+1) listed a w:=takeD i (some t) undef hS hi hd hs hf hr hQ (Or.inr ⟨hg,rfl⟩) h
theorem q1 {α:Type} (l:List α) (i:Nat) (a:α):l.toArray.setIfInBounds i a=(l.set i a).toArray:=List.setIfInBounds_toArray l i a
theorem q2 {α:Type} (x a:α) (l:List α):(x::l).set 0 a=a::l:=List.set_cons_zero ..
theorem q3 {α:Type} (x a:α) (l:List α) (n:Nat):(x::l).set (n+1) a=x::l.set n a:=List.set_cons_succ ..
theorem ry {P:Program} {md:Region.Mode} {ops:Array Oper} {Q:Exit→Act→World→Prop} {S:World→Prop} {fuel:Nat} {listed:Array Bool} {a:Act} {w:World} (i:Nat) {o:Oper} (ho:ops[i]?=some o)
    (h:∀ K':Act→World→Prop,Shut (∀ a w,S w→(S w→wpAnyH P md ops Q S fuel (listed.setIfInBounds i true) a w)→K' a w)→if Region.wanted o (yielded ops a.tmps)=true then Oper.wp P o a w K' Q else K' (a.put o.dst undef) w)
    (hr:Region.ready md ops listed=[i]:=by kernel_rfl):wpAnyH P md ops Q S (fuel+1) listed a w:=wpAnyH_ready hr (by simp) (AllReadyH.cons ho h AllReadyH.nil)
theorem wpList_alloc_row {P:Program} {w:World} {ops:Array Oper} {rest:List Oper} {op:Oper} {a:Act} {Q:Exit→Act→World→Prop} (hgd:op.guard=none) (ty:TypeId) (ho:op.op=.alloc ty)
  (z:Array Value) (hz:∀ w,(zeroValue ty).run P w=.ok (.agg z) w)
  (h:wpList P ops Q rest (a.put op.dst (.pointer (some ⟨w.heap.size,0,none⟩))) (w.alloc (.cells z ty))):wpList P ops Q (op::rest) a w:=by
 refine wpList_plain hgd fun _ hK=>?_
 unfold Oper.wp execOp
 simp [ho,Instr.alloc,hz,newVar,Value.cells]
 exact hK _ _ h
theorem wpList_store_new {P:Program} {w:World} {ops:Array Oper} {rest:List Oper} {op:Oper} {a:Act} {Q:Exit→Act→World→Prop} (hgd:op.guard=none) (ty:TypeId) (x y:Operand) (ho:op.op=.store ty x y)
  (c c':Array Value) (hx:a.eval x=.pointer (some ⟨w.heap.size,0,none⟩)) (hy:a.eval y=.agg c') (hi:(P.info? ty).map (·.size)=some c'.size) (hs:c.size=c'.size) (h1:c'.all (·.oneCell')=true)
  (h:wpList P ops Q rest (a.put op.dst undef) (w.alloc (.cells c' ty))):wpList P ops Q (op::rest) a (w.alloc (.cells c ty)):=by
 refine wpList_plain hgd fun _ hK=>?_
 unfold Oper.wp execOp
 simp only [ho,hx,hy,Sem.run_bind,Sem.run_pure,Result.andThen_ok,run_storeAt_new (P:=P) w ty c c' hi hs h1]
 exact hK _ _ h
end
section
open Go.RowKit
theorem wpList_index_one {P:Program} {w:World} {ops:Array Oper} {rest:List Oper} {op:Oper} {a:Act} {Q:Exit→Act→World→Prop} (hgd:op.guard=none) (ty:TypeId) (x y:Operand) (ho:op.op=.index ty x y)
  (c:Array Value) (i n:Nat) (e:TypeId) (d:TypeDesc) (v:Value) (hx:a.eval x=.agg c) (hy:a.eval y=.int .i64 i) (hu:P.underlying ty=some (.array n e)) (hin:i < n) (hue:P.underlying e=some d) (hd:d.isRow=false) (hi:(P.info? e).map (·.size)=some 1) (hv:c[i]?=some v)
  (h:wpList P ops Q rest (a.put op.dst v) w):wpList P ops Q (op::rest) a w:=by
 refine wpList_plain hgd fun _ hK=>?_
 have hagg:(isAgg e).run P w=.ok false w:=by
  unfold isAgg
  rw [Sem.run_bind,run_underlying hue w]
  cases d<;>simp_all
 cases hq:P.info? e with
 | none=>simp [hq] at hi
 | some j =>
  have hs:j.size=1:=by simpa [hq] using hi
  unfold Oper.wp execOp
  simp [ho,hx,hy,Instr.index,asIntOf,run_underlying hu,part,hagg,sizeOf,typeInfo,hq,hs,hin,hv]
  exact hK _ _ h
end
section
open Go.ChangeShapes Go.WideShapes Go.ChangeAt Go.RowKit Go.Deep
theorem Tryz.cellsByte:Tryz.prog.cellsOf 5=1:=by kernel_rfl
def Code8 (w:World) (u:Value):Prop:=∃ ca cb co L C,∃ x:Nat→Int,u=.slice ca L C∧L≤C∧(0 < L→ca=some ⟨cb,co,none⟩)∧∀ i,i < L→w.cell? ⟨cb,co+i,none⟩=some (.int .u8 (x i))∧0≤x i∧x i≤255
section
variable {H : Type} {enc : TypeId × Value → H} {w : World} {base : Nat} {spare : Nat → Bool} {held : Bool}
set_option maxRecDepth 100000 in
theorem open_code {fuel:Nat} {u:Value} {x:DataW H × List MemPlace} (h:DataW.trod enc Tryz.prog w base spare held fuel 22 [u]=some x):Code8 w u:=by
 rcases open_ints Tryz.underlying22 Tryz.underlying5 Tryz.cellsByte h with ⟨hcs,_⟩ | ⟨a,len,cap,zs,hcs,_,hl,hm,hmm,_,hel,hwf⟩
 ·simp at hcs
  exact ⟨none,0,0,0,0,fun _=>0,hcs,Nat.le_refl _,fun h=>absurd h (Nat.lt_irrefl _),fun i hi=>absurd hi (Nat.not_lt_zero _)⟩
 ·simp at hcs
  obtain ⟨gb,go,gs⟩:=a
  have hlm:len≤zs.length:=by rw [hmm];split<;>omega
  rcases Nat.eq_zero_or_pos len with h0 | hpos
  ·subst h0
   exact ⟨_,0,0,0,cap,fun _=>0,hcs,Nat.zero_le _,fun h=>absurd h (Nat.lt_irrefl _),fun i hi=>absurd hi (Nat.not_lt_zero _)⟩
  ·have hgs:gs=none:=by simpa [Addr.add] using World.cell?_spot (hel 0 (by omega))
   subst hgs
   refine ⟨_,gb,go,len,cap,fun i=>zs.getD i 0,hcs,hl,fun _=>rfl,fun i hi=>?_⟩
   have h1:=hel i (by omega)
   rw [add_plain] at h1
   have hw:=hwf (zs.getD i 0) (by rw [List.getD_eq_getElem?_getD,List.getElem?_eq_getElem (by omega)];exact List.getElem_mem _)
   exact ⟨h1,bounds_u8 hw⟩
end
end
end Go.Proofs.YtegommoflmmahaaGreat
