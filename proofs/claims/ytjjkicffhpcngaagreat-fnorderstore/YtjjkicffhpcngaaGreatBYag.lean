/- spec's l1Do: whether a step is in form. No condition. And what goes with it: LDo, RowMore, TnBase, Wide, TnGo, MathN, ApRow, HsCopy, TnMath, TnT, TnMm, WlMath, Front0, OpenBy. -/
import Derived.BigQuiet
import Derived.ChangeSlices
import Derived.Deep.AppendLies
import Derived.Deep.CutRange
import Derived.Deep.MidRow
import Derived.Deep.Quiet
import Derived.Deep.QuietTactic
import Derived.Deep.RegionHeld3
import Derived.Deep.RegionLaw
import Derived.Deep.RegionWith
import Derived.Deep.Slices
import Derived.Deep.WholeRow
import Derived.Laws.AppendOwn
import Derived.Laws.AppendOwnNone
import Derived.Laws.OwnMore
import Derived.OpenShut
import Derived.ProofKit
import Derived.Shelf.Abstract
import Derived.Sort.Grow
import Derived.WalkKit
import Derived.WalkLawsBesides
import Derived.WalkSpells
import Derived.Deep.OwnRows
import Derived.Test.YtjjkicffhpcngaaGreatRows
import Derived.Test.YtjjkicffhpcngaaGreatBYaf
namespace Go.Proofs.YtjjkicffhpcngaaGreat
open Go.RowKit
theorem M.reads1:M.reads 1=false:=by decide
theorem M.reads6:M.reads 6=false:=by decide
theorem M.writes1:M.writes 1=true:=by decide
theorem M.writes6:M.writes 6=true:=by decide
theorem M.rng1:M.rng 1 9 1=true:=by decide
theorem M.rng6:M.rng 1 9 6=true:=by decide
theorem M.stores1:M.stores 1=true:=by decide
theorem M.stores6:M.stores 6=true:=by decide
set_option maxHeartbeats 400000 in
theorem l1Do_st (k p v:Int) (w:World) (h:k=1∨k=6) :
  Calls Tryz.prog 98 #[.agg #[.int .i64 k,.int .i64 p,.int .i64 v]] w fun e w'=>e=.returned (.bool (M.doOk ⟨k,p,v⟩))∧Below w.heap.size w w':=by
 rcases h with rfl | rfl
 all_goals
  cases hp:M.rng 0 2 p
  all_goals
   cases hv:M.rng 1 3 v
   all_goals
    go_enter Tryz.func98,Tryz.ntmps98
    go_wp2_with (first | (go_at_call 56;refine (l1Reads_any ⟨_,_,_⟩ _).mono ?_;rintro e w' ⟨rfl,rfl⟩) | (go_at_call 57;refine (l1Writes_any ⟨_,_,_⟩ _).mono ?_;rintro e w' ⟨rfl,rfl⟩) | (go_at_call 83;refine (l6In_any _ _ _ _).mono ?_;rintro e w' ⟨rfl,rfl⟩))
    go_ret
    exact ⟨ret_bool (by rw [M.doOk_eq];simp [M.uses,M.reads1,M.reads6,M.writes1,M.writes6,M.rng1,M.rng6,M.stores1,M.stores6,hp,hv]),below3 _ _ _ _⟩
set_option maxHeartbeats 400000 in
theorem l1Do_ot (k p v:Int) (w:World) (h1:(k==1)=false) (h6:(k==6)=false) :
  Calls Tryz.prog 98 #[.agg #[.int .i64 k,.int .i64 p,.int .i64 v]] w fun e w'=>e=.returned (.bool (M.doOk ⟨k,p,v⟩))∧Below w.heap.size w w':=by
 have hs:M.stores k=false:=by simp [M.stores,h1,h6]
 cases hk:M.rng 1 9 k
 ·cases hr:M.reads k
  all_goals
   go_enter Tryz.func98,Tryz.ntmps98
   go_wp2_with (first | (go_at_call 56;refine (l1Reads_any ⟨_,_,_⟩ _).mono ?_;rintro e w' ⟨rfl,rfl⟩) | (go_at_call 57;refine (l1Writes_any ⟨_,_,_⟩ _).mono ?_;rintro e w' ⟨rfl,rfl⟩) | (go_at_call 83;refine (l6In_any _ _ _ _).mono ?_;rintro e w' ⟨rfl,rfl⟩))
   go_ret
   refine ⟨ret_bool (by rw [M.doOk_eq];simp [hk]),?_⟩
   first | exact below3 _ _ _ _ | exact below2 _ _ _
 ·cases hr:M.reads k
  all_goals
   cases hw:M.writes k
   all_goals
    cases hp:M.rng 0 2 p
    all_goals
     cases hp0:(p==0)
     all_goals
      go_enter Tryz.func98,Tryz.ntmps98
      go_wp2_with (first | (go_at_call 56;refine (l1Reads_any ⟨_,_,_⟩ _).mono ?_;rintro e w' ⟨rfl,rfl⟩) | (go_at_call 57;refine (l1Writes_any ⟨_,_,_⟩ _).mono ?_;rintro e w' ⟨rfl,rfl⟩) | (go_at_call 83;refine (l6In_any _ _ _ _).mono ?_;rintro e w' ⟨rfl,rfl⟩))
      go_ret
      refine ⟨ret_bool (by rw [M.doOk_eq];simp [M.uses,hr,hw,hk,hs,hp,hp0]),?_⟩
      first | exact below3 _ _ _ _ | exact below2 _ _ _
theorem l1Do_any (d:M.D) (w:World) :
  Calls Tryz.prog 98 #[.agg #[.int .i64 d.k,.int .i64 d.p,.int .i64 d.v]] w fun e w'=>e=.returned (.bool (M.doOk d))∧Below w.heap.size w w':=by
 obtain ⟨k,p,v⟩:=d
 by_cases h1:k=1
 ·exact l1Do_st k p v w (Or.inl h1)
 ·by_cases h6:k=6
  ·exact l1Do_st k p v w (Or.inr h6)
  ·exact l1Do_ot k p v w (by simpa using h1) (by simpa using h6)
end Go.Proofs.YtjjkicffhpcngaaGreat
namespace Go.Proofs.YtjjkicffhpcngaaGreat
open Go.RowKit
theorem Slot1.apart {w w':World} {b:Nat} {x:Value} {row:Option Nat} (h:Slot1 w b x) (hg:w.grownBy w' row) (hr:row≠some b):Slot1 w' b x:=by
 have hne:some b≠row:=fun e=>hr e.symm
 exact ⟨hg.cell h.c hne,(World.frozen?_of_block (w:=w) (hg.block b h.lt hne)).trans h.fz⟩
end Go.Proofs.YtjjkicffhpcngaaGreat
namespace Go.Proofs.YtjjkicffhpcngaaGreat
open Go.RowKit
theorem Slot1.bl' {w w':World} {b:Nat} {x:Value} (h:Slot1 w b x) (hb:Below w.heap.size w w'):Slot1 w' b x :=
 ⟨(hb.cell (p:=⟨b,0,none⟩) h.lt).trans h.c,(hb.frozen (p:=⟨b,0,none⟩) h.lt).trans h.fz⟩
end Go.Proofs.YtjjkicffhpcngaaGreat
namespace Go.Proofs.YtjjkicffhpcngaaGreat
open Go.RowKit
theorem takeD {P:Program} {md:Region.Mode} {ops:Array Oper} {Q:Exit→Act→World→Prop} {S:World→Prop} (i:Nat) {oi:Oper} (d:Option Tmp) (v:Value) {fuel:Nat} {listed:Array Bool} {a:Act} {w:World} (hS:S w) (hi:ops[i]?=some oi) (hd:oi.dst=d)
  (hs:Region.noSelect ops=true) (hf:Region.free md ops listed i=true) (hr:(Region.ready md ops listed).contains i=true)
  (hQ:∀ c a w,Q (.panic c) (a.put d v) w→Q (.panic c) a w) (hy:YieldsIf P ops S oi v a)
  (h:wpAnyH P md ops Q S fuel (listed.setIfInBounds i true) (a.put d v) w):wpAnyH P md ops Q S (fuel+1) listed a w:=by
 subst hd
 exact wpAnyH_take hi hs hf hr hQ hy hS h
theorem wpList_alloc_row {P:Program} {w:World} {ops:Array Oper} {rest:List Oper} {op:Oper} {a:Act} {Q:Exit→Act→World→Prop} (hgd:op.guard=none) (ty:TypeId) (ho:op.op=.alloc ty)
  (z:Array Value) (hz:∀ w,(zeroValue ty).run P w=.ok (.agg z) w)
  (h:wpList P ops Q rest (a.put op.dst (.pointer (some ⟨w.heap.size,0,none⟩))) (w.alloc (.cells z ty))):wpList P ops Q (op::rest) a w:=by
 refine wpList_plain hgd fun _ hK=>?_
 unfold Oper.wp execOp
 simp [ho,Instr.alloc,hz,newVar,Value.cells]
 exact hK _ _ h
theorem wpList_store_new {P:Program} {w:World} {ops:Array Oper} {rest:List Oper} {op:Oper} {a:Act} {Q:Exit→Act→World→Prop} (hgd:op.guard=none) (ty:TypeId) (x y:Operand) (ho:op.op=.store ty x y)
  (c c':Array Value) (hx:a.eval x=.pointer (some ⟨w.heap.size,0,none⟩)) (hy:a.eval y=.agg c') (hi:(P.info? ty).map (·.size)=some c'.size) (hs:c.size=c'.size) (h1:c'.all (·.oneCell')=true)
  (h:wpList P ops Q rest (a.put op.dst undef) (w.alloc (.cells c' ty))):wpList P ops Q (op::rest) a (w.alloc (.cells c ty)):=by
 refine wpList_plain hgd fun _ hK=>?_
 unfold Oper.wp execOp
 simp only [ho,hx,hy,Sem.run_bind,Sem.run_pure,Result.andThen_ok,run_storeAt_new (P:=P) w ty c c' hi hs h1]
 exact hK _ _ h
end Go.Proofs.YtjjkicffhpcngaaGreat
namespace Go.Proofs.YtjjkicffhpcngaaGreat
open Go.RowKit
theorem step_goV {P:Program} {ops:Array Oper} {o:Oper} {a:Act} {w:World} {K:Act→World→Prop} {Q:Exit→Act→World→Prop} {E:Prop}
  (hw:Region.wanted o (yielded ops a.tmps)=true) (d:Option Tmp) (hd:o.dst=d) (f:FuncId) (os:Array Operand) (ts:Array TypeId) (hop:o.op=Op.call { callee:=Callee.value (Operand.func f),args:=os,argTypes:=ts })
  (vals:Array Value) (hv:os.map a.eval=vals) (he:∀ args w,(callFunc f args).run P w=.ok (.enter f args) w) {R:Ending→World→Prop} (hc:Calls P f vals w R)
  (hK:∀ e w',R e w'→∃ v,e=.returned v∧K (a.put d v) w') :
  if Region.wanted o (yielded ops a.tmps)=true then Oper.wp P o a w K Q else E:=by
 subst hd
 rw [if_pos hw]
 subst hv
 have hr:(execOp a.eval o).run P w=.ok (.enter f (os.map a.eval)) w:=by
  simp [execOp,hop,resolve,invoke,Act.eval,Deferred.ofValue,he]
 unfold Oper.wp
 rw [hr,Oper.upon_enter]
 refine hc.mono fun e w' h=>?_
 obtain ⟨v,rfl,hk⟩:=hK e w' h
 exact hk
theorem run_append_nilT {P:Program} (w:World) (t ty e:TypeId) (i:TypeInfo) (ht:P.underlying t=some (.slice e)) (hi:P.info? e=some i) (a:Option Addr) (c:Nat) :
  (Builtin.append_ #[t,t] ty #[.slice none 0 0,.slice a 0 c]).run P w=.ok (.slice none 0 0) w:=by
 cases a
 ·simp [Builtin.append_,run_underlying ht,sizeOf,typeInfo,hi,Builtin.lenOf,Builtin.firstCells]
 ·simp [Builtin.append_,run_underlying ht,sizeOf,typeInfo,hi,Builtin.lenOf,Builtin.firstCells,loadCells,loadCellsFrom]
theorem wpList_append_nilT {P:Program} {w:World} {ops:Array Oper} {rest:List Oper} {o:Oper} {a:Act} {Q:Exit→Act→World→Prop} (hgd:o.guard=none) (s x:Operand) (t:TypeId)
  (ho:o.op=.call { callee:=.builtin .append,args:=#[s,x],argTypes:=#[t,t] }) (e:TypeId) (i:TypeInfo) (ht:P.underlying t=some (.slice e)) (hi:P.info? e=some i)
  (hs:a.eval s=.slice none 0 0) (b:Option Addr) (c:Nat) (hx:a.eval x=.slice b 0 c)
  (h:wpList P ops Q rest (a.put o.dst (.slice none 0 0)) w):wpList P ops Q (o::rest) a w:=by
 refine wpList_plain hgd fun K hK=>?_
 have hrun:=run_append_nilT (P:=P) w t o.type e i ht hi b c
 unfold Oper.wp
 simp [execOp,ho,resolve,invoke,builtin,hs,hx,hrun,Result.andThen]
 exact hK _ _ h
theorem own_slx {w:World} {B:Nat} {e:TypeId} {size:Nat} {v:Value} {n:Nat} {xs:List Value} (h:w.ownsRow B e size v n xs):∃ a c,v=.slice a n c:=by
 rcases h.2 with ⟨hv,h0⟩ | ⟨g,cap,cur,hv,_⟩
 ·exact ⟨none,0,by rw [hv,h0]⟩
 ·exact ⟨_,cap,hv⟩
end Go.Proofs.YtjjkicffhpcngaaGreat
namespace Go.Proofs.YtjjkicffhpcngaaGreat
open Go.RowKit
theorem M.from_le {ll:List (List M.D)}:∀ {a u:Nat},M.progFrom a u ll=true→∀ t∈ll,t.length≤7:=by
 induction ll with
 | nil=>intro a u _ t ht;simp at ht
 | cons t l ih =>
  intro a u h t' ht'
  by_cases hb:M.thread t=true
  ·simp only [M.progFrom,hb,if_true] at h
   rcases List.mem_cons.1 ht' with rfl | hm
   ·exact M.thread_le hb
   ·exact ih h t' hm
  ·simp [M.progFrom,hb] at h
theorem M.prog_le {ll:List (List M.D)} (h:M.prog ll=true):ll.length≤3∧∀ t∈ll,t.length≤7:=by
 simp only [M.prog,Bool.and_eq_true,decide_eq_true_eq] at h
 exact ⟨h.1,M.from_le h.2⟩
end Go.Proofs.YtjjkicffhpcngaaGreat
namespace Go.Proofs.YtjjkicffhpcngaaGreat
open Go.RowKit
theorem grownBy_refl (w:World) (row:Option Nat):w.grownBy w row:=⟨rfl,rfl,rfl,Nat.le_refl _,fun _ _ _=>rfl⟩
theorem wpList_append_rows {P:Program} {w:World} {ops:Array Oper} {rest:List Oper} {o:Oper} {a:Act} {Q:Exit→Act→World→Prop} (hgd:o.guard=none) (s x:Operand) (t:TypeId)
  (ho:o.op=.call { callee:=.builtin .append,args:=#[s,x],argTypes:=#[t,t] })
  (base:Nat) (e:TypeId) (i:TypeInfo) (z:Value) (size bytes:Nat) (ht:P.underlying t=some (.slice e)) (hi:P.info? e=some i) (hz:i.zero=some z)
  (hsize:i.size=size) (hby:i.bytes=bytes) (hzs:z.cells.size=size) (hsz:0 < size)
  (v:Value) (n:Nat) (xs:List Value) (hs:a.eval s=v) (hown:w.ownsRow base e size v n xs)
  (base':Nat) (u:Value) (m:Nat) (ys:List Value) (hx:a.eval x=u) (hsrc:w.ownsRow base' e size u m ys) (h1:∀ y∈ys,y.oneCell'=true)
  (h63:n+m≤maxLen) (hbytes:(n+m) * bytes≤140737488355328) (hbase:base≤w.heap.size)
  (h:∀ v' w',w'.ownsRow base e size v' (n+m) (xs++ys)→w.grownBy w' v.ownBlock→wpList P ops Q rest (a.put o.dst v') w'):wpList P ops Q (o::rest) a w:=by
 have hl:=hsrc.1
 rcases hsrc.2 with ⟨hu,hm⟩ | ⟨g,cap,cur,hu,hg,hh,r⟩
 ·subst hm
  have hys:ys=[]:=List.length_eq_zero_iff.1 (by rw [hl];simp)
  subst hys
  refine wpList_append_own_none hgd s x t ho base e i size ht hi v n xs hs hown (hx.trans hu) ?_
  exact h v w (by simpa using hown) (grownBy_refl _ _)
 ·refine wpList_append_own w hgd s x t ho base e i z size bytes ht hi hz hsize hby hzs hsz v n xs hs hown ⟨g,0,none⟩ m cap ys (hx.trans hu) hl (fun j y hj=>hsrc.cells (g:=g) (by rw [hu];rfl) j y hj) h1 h63 hbytes hbase ?_
  intro v' w' h2 h3 _
  exact h v' w' h2 h3
end Go.Proofs.YtjjkicffhpcngaaGreat
namespace Go.Proofs.YtjjkicffhpcngaaGreat
open Go.RowKit
structure S1 (w:World) (b:Nat) (x:Value):Prop where
 c:w.cell? ⟨b,0,none⟩=some x
 fz:w.frozen? ⟨b,0,none⟩=false
end Go.Proofs.YtjjkicffhpcngaaGreat
namespace Go.Proofs.YtjjkicffhpcngaaGreat
namespace M
def bel (n:Nat):List Int:=(List.range n).map fun i:Nat=>(i:Int)
def rowOf (row evs:List Int):Bool:=decide (row.length=evs.length)&&evs.all (fun v=>has row v)
def rowN (row:List Int) (n:Nat):Bool:=rowOf row (bel n)
def pick {α:Type} (z:α) (row:List Int) (l:List α):List α:=row.map fun i=>l.getD i.toNat z
end M
end Go.Proofs.YtjjkicffhpcngaaGreat
namespace Go.Proofs.YtjjkicffhpcngaaGreat
open Go.RowKit
def M.turned {α:Type} (z:α) (row:List Int) (l:List α):List α:=if M.rowN row l.length then M.pick z row l else []
end Go.Proofs.YtjjkicffhpcngaaGreat
namespace Go.Proofs.YtjjkicffhpcngaaGreat
open Go.RowKit
namespace M
def curT (f:D→D) (k:Nat) (t:List D):List D:=(t.take k).map f++t.drop k
def cur (f:D→D) (n k:Nat) (ll:List (List D)):List (List D):=ll.mapIdx fun i t=>if i < n then t.map f else if i=n then curT f k t else t
end M
end Go.Proofs.YtjjkicffhpcngaaGreat
namespace Go.Proofs.YtjjkicffhpcngaaGreat
namespace M
def wall:D:=⟨4,0,0⟩
def pre (gs:List Int) (n:Nat):List D:=if has gs n then [wall] else []
end M
end Go.Proofs.YtjjkicffhpcngaaGreat
namespace Go.Proofs.YtjjkicffhpcngaaGreat
open Go.ChangeShapes Go.WideShapes Go.ChangeAt Go.RowKit Go.Deep
theorem Tryz.own:ownKnob Tryz.prog.godebug=none:=by kernel_rfl
theorem Tryz.laidOut:laidOutB Tryz.prog=true:=by kernel_rfl
end Go.Proofs.YtjjkicffhpcngaaGreat
namespace Go.Proofs.YtjjkicffhpcngaaGreat
open Go.ChangeShapes Go.WideShapes Go.ChangeAt Go.RowKit Go.Deep
theorem Tryz.cellsByte:Tryz.prog.cellsOf 5=1:=by kernel_rfl
def Code8 (w:World) (u:Value):Prop:=∃ ca cb co L C,∃ x:Nat→Int,u=.slice ca L C∧L≤C∧(0 < L→ca=some ⟨cb,co,none⟩)∧∀ i,i < L→w.cell? ⟨cb,co+i,none⟩=some (.int .u8 (x i))∧0≤x i∧x i≤255
section
variable {H : Type} {enc : TypeId × Value → H} {w : World} {base : Nat} {spare : Nat → Bool} {held : Bool}
set_option maxRecDepth 100000 in
theorem open_code {fuel:Nat} {u:Value} {x:DataW H × List MemPlace} (h:DataW.trod enc Tryz.prog w base spare held fuel 22 [u]=some x):Code8 w u:=by
 rcases open_ints Tryz.underlying22 Tryz.underlying5 Tryz.cellsByte h with ⟨hcs,_⟩ | ⟨a,len,cap,zs,hcs,_,hl,hm,hmm,_,hel,hwf⟩
 ·simp at hcs
  exact ⟨none,0,0,0,0,fun _=>0,hcs,Nat.le_refl _,fun h=>absurd h (Nat.lt_irrefl _),fun i hi=>absurd hi (Nat.not_lt_zero _)⟩
 ·simp at hcs
  obtain ⟨gb,go,gs⟩:=a
  have hlm:len≤zs.length:=by rw [hmm];split<;>omega
  rcases Nat.eq_zero_or_pos len with h0 | hpos
  ·subst h0
   exact ⟨_,0,0,0,cap,fun _=>0,hcs,Nat.zero_le _,fun h=>absurd h (Nat.lt_irrefl _),fun i hi=>absurd hi (Nat.not_lt_zero _)⟩
  ·have hgs:gs=none:=by simpa [Addr.add] using World.cell?_spot (hel 0 (by omega))
   subst hgs
   refine ⟨_,gb,go,len,cap,fun i=>zs.getD i 0,hcs,hl,fun _=>rfl,fun i hi=>?_⟩
   have h1:=hel i (by omega)
   rw [add_plain] at h1
   have hw:=hwf (zs.getD i 0) (by rw [List.getD_eq_getElem?_getD,List.getElem?_eq_getElem (by omega)];exact List.getElem_mem _)
   exact ⟨h1,bounds_u8 hw⟩
end
end Go.Proofs.YtjjkicffhpcngaaGreat
