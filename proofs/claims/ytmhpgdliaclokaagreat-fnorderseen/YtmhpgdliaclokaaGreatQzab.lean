/- The plain mathematics of programs: what impl's and spec's tests of chapter 1 compute, and that they are the same. No condition. And what goes with it: Math, Base, QuietB, ApRow, Wide, OpenBy. -/
import Derived.Deep.QuietTactic
import Derived.Deep.RegionHeld3
import Derived.Deep.Slices
import Derived.Deep.WholeRow
import Derived.Laws.AppendOwnNone
import Derived.OpenShut
import Derived.ProofKit
import Derived.WalkLawsBesides
import Derived.WalkSpells
import Derived.Test.YtmhpgdliaclokaaGreatRows
namespace Go.Proofs.YtmhpgdliaclokaaGreat
section
namespace M
structure D where
 k:Int
 p:Int
 v:Int
def reads (k:Int):Bool:=k==2||k==5
def stores (k:Int):Bool:=k==1||k==6
def writes (k:Int):Bool:=stores k||k==3
def uses (k:Int):Bool:=reads k||writes k
def wordOk (k:Int):Bool:=decide (1≤k)&&decide (k≤9)
def placeOk (k p:Int):Bool:=if uses k then decide (0≤p)&&decide (p < 3) else p==0
def valOk (k v:Int):Bool:=if stores k then decide (1≤v)&&decide (v≤3) else v==0
def doOk (d:D):Bool:=wordOk d.k&&placeOk d.k d.p&&valOk d.k d.v
def rng (a b n:Int):Bool:=decide (a≤n)&&decide (n≤b)
theorem doOk_eq (k p v:Int):doOk ⟨k,p,v⟩=(rng 1 9 k&&(if uses k then rng 0 2 p else p==0)&&(if stores k then rng 1 3 v else v==0)):=by
 have e:decide (p < 3)=decide (p≤2):=by rw [decide_eq_decide];omega
 simp only [doOk,wordOk,placeOk,valOk,rng,e]
def form (l:List D):Bool:=l.all doOk
def copies:Bool→List D→Bool
 | _,[]=>true
 | r,d::l=>if d.k==3&&!r then false else copies (r||reads d.k) l
def readers:Bool→List D→Bool
 | i,[]=>!i
 | i,d::l=>if d.k==7 then (if i then false else readers true l) else if d.k==8 then (if i then readers false l else false) else if d.k==9 then (if i then false else readers i l) else readers i l
def thread (l:List D):Bool:=decide (l.length≤7)&&form l&&copies false l&&readers false l
def bad (r i:Bool) (d:D):Bool:=!doOk d||d.k==3&&!r||d.k==7&&i||d.k==8&&!i||d.k==9&&i
def inAfter (i:Bool) (k:Int):Bool:=if k==7 then true else if k==8 then false else i
def pass:Bool→Bool→List D→Bool
 | _,i,[]=>!i
 | r,i,d::l=>if bad r i d then false else pass (r||reads d.k) (inAfter i d.k) l
def sthread (l:List D):Bool:=decide (l.length≤7)&&pass false false l
theorem pass_eq (r i:Bool) (l:List D):pass r i l=(form l&&copies r l&&readers i l):=by
 induction l generalizing r i with
 | nil=>simp [pass,form,copies,readers]
 | cons d l ih =>
  simp only [pass,form,copies,readers,List.all_cons] at *
  by_cases hd:doOk d=true
  ·by_cases h3:(d.k==3)=true
   ·have hk:d.k=3:=by simpa using h3
    simp only [bad,inAfter,hd,hk]
    cases r<;>cases i<;>simp [reads,ih]
   ·have h3':(d.k==3)=false:=by simpa using h3
    by_cases h7:d.k=7
    ·simp only [bad,inAfter,hd,h7]
     cases r<;>cases i<;>simp [reads,ih]
    ·by_cases h8:d.k=8
     ·simp only [bad,inAfter,hd,h8]
      cases r<;>cases i<;>simp [reads,ih]
     ·by_cases h9:d.k=9
      ·simp only [bad,inAfter,hd,h9]
       cases r<;>cases i<;>simp [reads,ih]
      ·have e7:(d.k==7)=false:=by simpa using h7
       have e8:(d.k==8)=false:=by simpa using h8
       have e9:(d.k==9)=false:=by simpa using h9
       simp only [bad,inAfter,hd,h3',e7,e8,e9]
       simp [ih]
  ·have hd':doOk d=false:=by simpa using hd
   simp [bad,hd']
theorem sthread_eq (l:List D):sthread l=thread l:=by
 simp only [sthread,thread,pass_eq]
 cases decide (l.length≤7)<;>simp [Bool.and_assoc]
def cnt (f:Int→Bool) (l:List D):Nat:=(l.filter fun d=>f d.k).length
theorem cnt_le (f:Int→Bool) (l:List D):cnt f l≤l.length:=List.length_filter_le _ _
theorem cnt_cons (f:Int→Bool) (d:D) (l:List D):cnt f (d::l)=(if f d.k then 1 else 0)+cnt f l:=by
 simp only [cnt,List.filter_cons]
 cases f d.k<;>simp
 omega
def progFrom:Nat→Nat→List (List D)→Bool
 | a,u,[]=>decide (a≤14)&&decide (u≤6)
 | a,u,t::l=>if thread t then progFrom (a+t.length) (u+cnt uses t) l else false
def prog (l:List (List D)):Bool:=decide (l.length≤3)&&progFrom 0 0 l
theorem drop_at (l:List D) (n:Nat) (h:n < l.length):l.drop n=l[n]::l.drop (n+1):=(List.getElem_cons_drop h).symm
theorem pass_bad {l:List D} {r i:Bool} {n:Nat} {d:D} (hp:pass false false l=pass r i (l.drop n)) (hd:l.drop n=d::l.drop (n+1)) (hb:bad r i d=true):sthread l=false:=by
 simp [sthread,hp,hd,pass,hb]
theorem pass_ok {l:List D} {r i:Bool} {n:Nat} {d:D} (hp:pass false false l=pass r i (l.drop n)) (hd:l.drop n=d::l.drop (n+1)) (hb:bad r i d=false) {r' i':Bool} (hr:r'=(r||reads d.k)) (hi:i'=inAfter i d.k) :
  pass false false l=pass r' i' (l.drop (n+1)):=by
 subst hr;subst hi
 rw [hp,hd]
 simp [pass,hb]
theorem pass_fin {l:List D} {r i:Bool} {n:Nat} (hp:pass false false l=pass r i (l.drop n)) (hn:l.length≤n) (h7:l.length≤7):sthread l=!i:=by
 rw [List.drop_eq_nil_of_le hn] at hp
 simp [sthread,hp,pass,h7]
end M
end
section
open Go.RowKit
theorem ret_bool {a b:Bool} (h:a=b):Ending.returned (.bool a)=.returned (.bool b):=by rw [h]
theorem below3 (w:World) (a b c:Obj):Below w.heap.size w (((w.alloc a).alloc b).alloc c) :=
 (((Below.refl _ _).alloc (Nat.le_refl _) _).alloc (by simp) _).alloc (by simp;omega) _
theorem below2 (w:World) (a b:Obj):Below w.heap.size w ((w.alloc a).alloc b) :=
 ((Below.refl _ _).alloc (Nat.le_refl _) _).alloc (by simp) _
theorem below1 (w:World) (a:Obj):Below w.heap.size w (w.alloc a):=(Below.refl _ _).alloc (Nat.le_refl _) _
theorem bcell {W w1:World} (hb:Below W.heap.size W w1):(∀ b o,b < W.heap.size→w1.cell? ⟨b,o,none⟩=W.cell? ⟨b,o,none⟩)∧(∀ b o,b < W.heap.size→w1.frozen? ⟨b,o,none⟩=W.frozen? ⟨b,o,none⟩) :=
 ⟨fun b o h=>hb.cell (p:=⟨b,o,none⟩) h,fun b o h=>hb.frozen (p:=⟨b,o,none⟩) h⟩
theorem bel_box {w wr w1:World} {x:Obj} (hbel:Below w.heap.size w wr) (hb:Below (wr.alloc x).heap.size (wr.alloc x) w1):Below w.heap.size w w1 :=
 hbel.trans (((Below.refl _ _).alloc hbel.size _).trans (hb.mono (by have:=hbel.size;simp;omega)))
theorem bel_box2 {w wr w1:World} {x:Obj} (hbel:Below w.heap.size w wr) (hb:Below (wr.alloc x).heap.size (wr.alloc x) w1) (y:Obj):Below w.heap.size w (w1.alloc y) :=
 (bel_box hbel hb).alloc (bel_box hbel hb).size _
end
section
open Go.RowKit
structure BelowOf (W:World) where
 x:World
 h:Below W.heap.size W x
def belOf (W:World):BelowOf W:=⟨W,Below.refl _ _⟩
theorem wp_region_quiet_bel {P:Program} {id:Nat} {Q:Exit→Act→World→Prop} {a:Act} {w:World} {l:List Oper} (hm:P.follows .mixedOrders=true) (hB:Region.lexB .any l.toArray=true)
  (h:wpQuiet P l.toArray (fun w'=>∃ p:BelowOf w,w'=p.x) (fun a'=>∀ w',(∃ p:BelowOf w,w'=p.x)→Q .normal a' w') l a):(Code.region id l.toArray true).wp P Q a w :=
 wp_region_quiet (C:=fun w'=>∃ p:BelowOf w,w'=p.x) hm hB ⟨⟨w.drew,(Below.refl _ _).drew⟩,rfl⟩ (by simpa using h)
theorem BelowOf.cell {W:World} {b o:Nat} {v:Value} (h:W.cell? ⟨b,o,none⟩=some v):∀ p:BelowOf W,p.x.cell? ⟨b,o,none⟩=some v:=fun p =>
 (p.h.cell (p:=⟨b,o,none⟩) (World.block_lt_of_cell? _ _ h)).trans h
theorem Calls.bel_of {P:Program} {f:FuncId} {args:Array Value} {W:World} {p:BelowOf W} {v:Value} (h:Calls P f args p.x fun e w'=>e=.returned v∧Below p.x.heap.size p.x w') :
  Calls P f args p.x fun e w''=>e=.returned v∧∃ p':BelowOf W,w''=p'.x :=
 h.mono fun _ w' ⟨he,hb⟩=>⟨he,⟨w',p.h.trans (hb.mono p.h.size)⟩,rfl⟩
theorem Calls.bel_of_same {P:Program} {f:FuncId} {args:Array Value} {W:World} {p:BelowOf W} {v:Value} (h:Calls P f args p.x fun e w'=>e=.returned v∧w'=p.x) :
  Calls P f args p.x fun e w''=>e=.returned v∧∃ p':BelowOf W,w''=p'.x :=
 h.mono fun _ _ ⟨he,hb⟩=>⟨he,p,hb⟩
end
section
open Go.RowKit
theorem grownBy_refl (w:World) (row:Option Nat):w.grownBy w row:=⟨rfl,rfl,rfl,Nat.le_refl _,fun _ _ _=>rfl⟩
theorem wpList_append_rows {P:Program} {w:World} {ops:Array Oper} {rest:List Oper} {o:Oper} {a:Act} {Q:Exit→Act→World→Prop} (hgd:o.guard=none) (s x:Operand) (t:TypeId)
  (ho:o.op=.call { callee:=.builtin .append,args:=#[s,x],argTypes:=#[t,t] })
  (base:Nat) (e:TypeId) (i:TypeInfo) (z:Value) (size bytes:Nat) (ht:P.underlying t=some (.slice e)) (hi:P.info? e=some i) (hz:i.zero=some z)
  (hsize:i.size=size) (hby:i.bytes=bytes) (hzs:z.cells.size=size) (hsz:0 < size)
  (v:Value) (n:Nat) (xs:List Value) (hs:a.eval s=v) (hown:w.ownsRow base e size v n xs)
  (base':Nat) (u:Value) (m:Nat) (ys:List Value) (hx:a.eval x=u) (hsrc:w.ownsRow base' e size u m ys) (h1:∀ y∈ys,y.oneCell'=true)
  (h63:n+m≤maxLen) (hbytes:(n+m) * bytes≤140737488355328) (hbase:base≤w.heap.size)
  (h:∀ v' w',w'.ownsRow base e size v' (n+m) (xs++ys)→w.grownBy w' v.ownBlock→wpList P ops Q rest (a.put o.dst v') w'):wpList P ops Q (o::rest) a w:=by
 have hl:=hsrc.1
 rcases hsrc.2 with ⟨hu,hm⟩ | ⟨g,cap,cur,hu,hg,hh,r⟩
 ·subst hm
  have hys:ys=[]:=List.length_eq_zero_iff.1 (by rw [hl];simp)
  subst hys
  refine wpList_append_own_none hgd s x t ho base e i size ht hi v n xs hs hown (hx.trans hu) ?_
  exact h v w (by simpa using hown) (grownBy_refl _ _)
 ·refine wpList_append_own w hgd s x t ho base e i z size bytes ht hi hz hsize hby hzs hsz v n xs hs hown ⟨g,0,none⟩ m cap ys (hx.trans hu) hl (fun j y hj=>hsrc.cells (g:=g) (by rw [hu];rfl) j y hj) h1 h63 hbytes hbase ?_
  intro v' w' h2 h3 _
  exact h v' w' h2 h3
end
section
open Go.RowKit
theorem takeD {P:Program} {md:Region.Mode} {ops:Array Oper} {Q:Exit→Act→World→Prop} {S:World→Prop} (i:Nat) {oi:Oper} (d:Option Tmp) (v:Value) {fuel:Nat} {listed:Array Bool} {a:Act} {w:World} (hS:S w) (hi:ops[i]?=some oi) (hd:oi.dst=d)
  (hs:Region.noSelect ops=true) (hf:Region.free md ops listed i=true) (hr:(Region.ready md ops listed).contains i=true)
  (hQ:∀ c a w,Q (.panic c) (a.put d v) w→Q (.panic c) a w) (hy:YieldsIf P ops S oi v a)
  (h:wpAnyH P md ops Q S fuel (listed.setIfInBounds i true) (a.put d v) w):wpAnyH P md ops Q S (fuel+1) listed a w:=by
 subst hd
 exact wpAnyH_take hi hs hf hr hQ hy hS h
theorem tk {P:Program} {md:Region.Mode} {ops:Array Oper} {Q:Exit→Act→World→Prop} {S:World→Prop} (i:Nat) {oi:Oper} (t:Nat) (v:Value) {fuel:Nat} {listed:Array Bool} {a:Act} {w:World} (hS:S w) (hi:ops[i]?=some oi) (hd:oi.dst=some t)
    (hy:∀ w,S w→(execOp a.eval oi).run P w=.ok (.value v) w) (h:wpAnyH P md ops Q S fuel (listed.setIfInBounds i true) (a.put (some t) v) w)
    (hs:Region.noSelect ops=true:=by kernel_rfl) (hf:Region.free md ops listed i=true:=by kernel_rfl) (hr:(Region.ready md ops listed).contains i=true:=by kernel_rfl) (hg:Region.wanted oi (yielded ops a.tmps)=true:=by rfl)
    (hQ:∀ c a w,Q (.panic c) (a.put (some t) v) w→Q (.panic c) a w:=by exact fun _ _ _ h=>h):wpAnyH P md ops Q S (fuel+1) listed a w:=takeD i (some t) v hS hi hd hs hf hr hQ (Or.inl ⟨hg,hy⟩) h
theorem tz {P:Program} {md:Region.Mode} {ops:Array Oper} {Q:Exit→Act→World→Prop} {S:World→Prop} (i:Nat) {oi:Oper} (t:Nat) {fuel:Nat} {listed:Array Bool} {a:Act} {w:World} (hS:S w) (hi:ops[i]?=some oi) (hd:oi.dst=some t)
    (h:wpAnyH P md ops Q S fuel (listed.setIfInBounds i true) (a.put (some t) undef) w)
    (hs:Region.noSelect ops=true:=by kernel_rfl) (hf:Region.free md ops listed i=true:=by kernel_rfl) (hr:(Region.ready md ops listed).contains i=true:=by kernel_rfl) (hg:Region.wanted oi (yielded ops a.tmps)=false:=by rfl)
    (hQ:∀ c a w,Q (.panic c) (a.put (some t) undef) w→Q (.panic c) a w:=by exact fun _ _ _ h=>h):wpAnyH P md ops Q S (fuel+1) listed a w:=takeD i (some t) undef hS hi hd hs hf hr hQ (Or.inr ⟨hg,rfl⟩) h
theorem zqa {α:Type} (l:List α) (i:Nat) (a:α):l.toArray.setIfInBounds i a=(l.set i a).toArray:=List.setIfInBounds_toArray l i a
theorem zqb {α:Type} (x a:α) (l:List α):(x::l).set 0 a=a::l:=List.set_cons_zero ..
theorem zqc {α:Type} (x a:α) (l:List α) (n:Nat):(x::l).set (n+1) a=x::l.set n a:=List.set_cons_succ ..
theorem ry {P:Program} {md:Region.Mode} {ops:Array Oper} {Q:Exit→Act→World→Prop} {S:World→Prop} {fuel:Nat} {listed:Array Bool} {a:Act} {w:World} (i:Nat) {o:Oper} (ho:ops[i]?=some o)
    (h:∀ K':Act→World→Prop,Shut (∀ a w,S w→(S w→wpAnyH P md ops Q S fuel (listed.setIfInBounds i true) a w)→K' a w)→if Region.wanted o (yielded ops a.tmps)=true then Oper.wp P o a w K' Q else K' (a.put o.dst undef) w)
    (hr:Region.ready md ops listed=[i]:=by kernel_rfl):wpAnyH P md ops Q S (fuel+1) listed a w:=wpAnyH_ready hr (by simp) (AllReadyH.cons ho h AllReadyH.nil)
theorem wpList_alloc_row {P:Program} {w:World} {ops:Array Oper} {rest:List Oper} {op:Oper} {a:Act} {Q:Exit→Act→World→Prop} (hgd:op.guard=none) (ty:TypeId) (ho:op.op=.alloc ty)
  (z:Array Value) (hz:∀ w,(zeroValue ty).run P w=.ok (.agg z) w)
  (h:wpList P ops Q rest (a.put op.dst (.pointer (some ⟨w.heap.size,0,none⟩))) (w.alloc (.cells z ty))):wpList P ops Q (op::rest) a w:=by
 refine wpList_plain hgd fun _ hK=>?_
 unfold Oper.wp execOp
 simp [ho,Instr.alloc,hz,newVar,Value.cells]
 exact hK _ _ h
theorem wpList_store_new {P:Program} {w:World} {ops:Array Oper} {rest:List Oper} {op:Oper} {a:Act} {Q:Exit→Act→World→Prop} (hgd:op.guard=none) (ty:TypeId) (x y:Operand) (ho:op.op=.store ty x y)
  (c c':Array Value) (hx:a.eval x=.pointer (some ⟨w.heap.size,0,none⟩)) (hy:a.eval y=.agg c') (hi:(P.info? ty).map (·.size)=some c'.size) (hs:c.size=c'.size) (h1:c'.all (·.oneCell')=true)
  (h:wpList P ops Q rest (a.put op.dst undef) (w.alloc (.cells c' ty))):wpList P ops Q (op::rest) a (w.alloc (.cells c ty)):=by
 refine wpList_plain hgd fun _ hK=>?_
 unfold Oper.wp execOp
 simp only [ho,hx,hy,Sem.run_bind,Sem.run_pure,Result.andThen_ok,run_storeAt_new (P:=P) w ty c c' hi hs h1]
 exact hK _ _ h
end
section
open Go.ChangeShapes Go.WideShapes Go.ChangeAt Go.RowKit Go.Deep
theorem Tryz.cellsByte:Tryz.prog.cellsOf 5=1:=by kernel_rfl
def Code8 (w:World) (u:Value):Prop:=∃ ca cb co L C,∃ x:Nat→Int,u=.slice ca L C∧L≤C∧(0 < L→ca=some ⟨cb,co,none⟩)∧∀ i,i < L→w.cell? ⟨cb,co+i,none⟩=some (.int .u8 (x i))∧0≤x i∧x i≤255
section
variable {H : Type} {enc : TypeId × Value → H} {w : World} {base : Nat} {spare : Nat → Bool} {held : Bool}
set_option maxRecDepth 100000 in
theorem open_code {fuel:Nat} {u:Value} {x:DataW H × List MemPlace} (h:DataW.trod enc Tryz.prog w base spare held fuel 22 [u]=some x):Code8 w u:=by
 rcases open_ints Tryz.underlying22 Tryz.underlying5 Tryz.cellsByte h with ⟨hcs,_⟩ | ⟨a,len,cap,zs,hcs,_,hl,hm,hmm,_,hel,hwf⟩
 ·simp at hcs
  exact ⟨none,0,0,0,0,fun _=>0,hcs,Nat.le_refl _,fun h=>absurd h (Nat.lt_irrefl _),fun i hi=>absurd hi (Nat.not_lt_zero _)⟩
 ·simp at hcs
  obtain ⟨gb,go,gs⟩:=a
  have hlm:len≤zs.length:=by rw [hmm];split<;>omega
  rcases Nat.eq_zero_or_pos len with h0 | hpos
  ·subst h0
   exact ⟨_,0,0,0,cap,fun _=>0,hcs,Nat.zero_le _,fun h=>absurd h (Nat.lt_irrefl _),fun i hi=>absurd hi (Nat.not_lt_zero _)⟩
  ·have hgs:gs=none:=by simpa [Addr.add] using World.cell?_spot (hel 0 (by omega))
   subst hgs
   refine ⟨_,gb,go,len,cap,fun i=>zs.getD i 0,hcs,hl,fun _=>rfl,fun i hi=>?_⟩
   have h1:=hel i (by omega)
   rw [add_plain] at h1
   have hw:=hwf (zs.getD i 0) (by rw [List.getD_eq_getElem?_getD,List.getElem?_eq_getElem (by omega)];exact List.getElem_mem _)
   exact ⟨h1,bounds_u8 hw⟩
end
end
end Go.Proofs.YtmhpgdliaclokaaGreat
