/- Small facts that every text leans on: what lies below a world's end stays. No condition. append of a row of the call's own, or of nil, onto a row of the call's own, as one law for the walk. No condition. A region that draws its order, within a round of a loop over an iterator: what is shown of it outside one stands. No condition. -/
import Derived.Below
import Derived.Deep.RegionHeld3
import Derived.Laws.AppendOwn
import Derived.Laws.AppendOwnNone
import Derived.LoopIn
import Derived.LoopNIn
import Derived.OwnWalkIn
import Derived.RangeFuncBound
import Derived.RangeFuncLeaves
import Derived.RangeFuncNested
import Derived.Shelf.Abstract
import Derived.TacticsInMore
import Derived.WalkKit
import Derived.WalkLawsBesides
import Derived.WalkSpells
import Derived.Test.YtihfibjckkmmbaaGreatRows
namespace Go.Proofs.YtihfibjckkmmbaaGreat
open Go.RowKit
theorem ret_bool {a b:Bool} (h:a=b):Ending.returned (.bool a)=.returned (.bool b):=by rw [h]
theorem below3 (w:World) (a b c:Obj):Below w.heap.size w (((w.alloc a).alloc b).alloc c) :=
 (((Below.refl _ _).alloc (Nat.le_refl _) _).alloc (by simp) _).alloc (by simp;omega) _
theorem below2 (w:World) (a b:Obj):Below w.heap.size w ((w.alloc a).alloc b) :=
 ((Below.refl _ _).alloc (Nat.le_refl _) _).alloc (by simp) _
theorem below1 (w:World) (a:Obj):Below w.heap.size w (w.alloc a):=(Below.refl _ _).alloc (Nat.le_refl _) _
theorem bcell {W w1:World} (hb:Below W.heap.size W w1):(∀ b o,b < W.heap.size→w1.cell? ⟨b,o,none⟩=W.cell? ⟨b,o,none⟩)∧(∀ b o,b < W.heap.size→w1.frozen? ⟨b,o,none⟩=W.frozen? ⟨b,o,none⟩) :=
 ⟨fun b o h=>hb.cell (p:=⟨b,o,none⟩) h,fun b o h=>hb.frozen (p:=⟨b,o,none⟩) h⟩
theorem bel_box {w wr w1:World} {x:Obj} (hbel:Below w.heap.size w wr) (hb:Below (wr.alloc x).heap.size (wr.alloc x) w1):Below w.heap.size w w1 :=
 hbel.trans (((Below.refl _ _).alloc hbel.size _).trans (hb.mono (by have:=hbel.size;simp;omega)))
theorem bel_box2 {w wr w1:World} {x:Obj} (hbel:Below w.heap.size w wr) (hb:Below (wr.alloc x).heap.size (wr.alloc x) w1) (y:Obj):Below w.heap.size w (w1.alloc y) :=
 (bel_box hbel hb).alloc (bel_box hbel hb).size _
end Go.Proofs.YtihfibjckkmmbaaGreat
namespace Go.Proofs.YtihfibjckkmmbaaGreat
open Go.RowKit
theorem grownBy_refl (w:World) (row:Option Nat):w.grownBy w row:=⟨rfl,rfl,rfl,Nat.le_refl _,fun _ _ _=>rfl⟩
theorem wpList_append_rows {P:Program} {w:World} {ops:Array Oper} {rest:List Oper} {o:Oper} {a:Act} {Q:Exit→Act→World→Prop} (hgd:o.guard=none) (s x:Operand) (t:TypeId)
  (ho:o.op=.call { callee:=.builtin .append,args:=#[s,x],argTypes:=#[t,t] })
  (base:Nat) (e:TypeId) (i:TypeInfo) (z:Value) (size bytes:Nat) (ht:P.underlying t=some (.slice e)) (hi:P.info? e=some i) (hz:i.zero=some z)
  (hsize:i.size=size) (hby:i.bytes=bytes) (hzs:z.cells.size=size) (hsz:0 < size)
  (v:Value) (n:Nat) (xs:List Value) (hs:a.eval s=v) (hown:w.ownsRow base e size v n xs)
  (base':Nat) (u:Value) (m:Nat) (ys:List Value) (hx:a.eval x=u) (hsrc:w.ownsRow base' e size u m ys) (h1:∀ y∈ys,y.oneCell'=true)
  (h63:n+m≤maxLen) (hbytes:(n+m) * bytes≤140737488355328) (hbase:base≤w.heap.size)
  (h:∀ v' w',w'.ownsRow base e size v' (n+m) (xs++ys)→w.grownBy w' v.ownBlock→wpList P ops Q rest (a.put o.dst v') w'):wpList P ops Q (o::rest) a w:=by
 have hl:=hsrc.1
 rcases hsrc.2 with ⟨hu,hm⟩ | ⟨g,cap,cur,hu,hg,hh,r⟩
 ·subst hm
  have hys:ys=[]:=List.length_eq_zero_iff.1 (by rw [hl];simp)
  subst hys
  refine wpList_append_own_none hgd s x t ho base e i size ht hi v n xs hs hown (hx.trans hu) ?_
  exact h v w (by simpa using hown) (grownBy_refl _ _)
 ·refine wpList_append_own w hgd s x t ho base e i z size bytes ht hi hz hsize hby hzs hsz v n xs hs hown ⟨g,0,none⟩ m cap ys (hx.trans hu) hl (fun j y hj=>hsrc.cells (g:=g) (by rw [hu];rfl) j y hj) h1 h63 hbytes hbase ?_
  intro v' w' h2 h3 _
  exact h v' w' h2 h3
end Go.Proofs.YtihfibjckkmmbaaGreat
namespace Go.Proofs.YtihfibjckkmmbaaGreat
open Go.RowKit
theorem uponIn_of {l n:Nat} {P:Program} {o:Oper} {a:Act} {next next':Act→World→Prop} {Q:Exit→Act→World→Prop} (hn:∀ a w,next a w→next' a w) :
  ∀ r:Result Next,o.upon P a next Q r→o.uponIn (Fence.wide.inRound l) n P a next' Q r:=by
 intro r h
 cases r with
 | ok x w =>
  cases x with
  | value v=>exact hn _ _ h
  | skip=>exact hn _ _ h
  | defer d=>exact hn _ _ h
  | enter f args =>
   refine ⟨(fun hx=>by cases hx),CallsIn.inRound l (callsIn_wide.2 (Calls.mono h ?_))⟩
   intro e w' he
   cases e with
   | returned v=>exact hn _ _ he
   | panicked c=>exact he
   | outgrown=>exact he
  | row row args =>
   refine ⟨(fun hx=>by cases hx),fun c cs _=>?_⟩
   obtain ⟨v,w',hv,hs⟩:=h c cs
   exact ⟨v,w',hn _ _ hv,stepsIn_wide.2 hs⟩
  | _=>exact h.elim
 | halt x w =>
  cases x with
  | panic v=>exact h
  | _=>exact h.elim
theorem wpOpsIn_of {l n:Nat} {P:Program} {ops:Array Oper} {Q:Exit→Act→World→Prop} (hd:∀ (i:Nat) (o:Oper),ops[i]?=some o→∀ c,o.op≠.defer c) (hl:¬ LetsOut Q) :
  ∀ (sched:List Nat) (a:Act) (w:World),wpOps P ops Q sched a w→wpOpsIn (Fence.wide.inRound l) n P ops Q sched a w
 | [],a,w,h=>h
 | i::rest,a,w,h=>by
  unfold wpOps at h
  unfold wpOpsIn
  cases ho:ops[i]? with
  | none =>
   rw [ho] at h
   exact wpOpsIn_of hd hl rest a w h
  | some o =>
   rw [ho] at h
   dsimp only at h ⊢
   by_cases hw:Region.wanted o (yielded ops a.tmps)=true
   ·rw [if_pos hw] at h ⊢
    rcases h with h | h
    ·refine ⟨fun f _=>trivial,?_⟩
     rw [Oper.semAt_plain _ _ _ (hd i o ho)]
     exact uponIn_of (fun a w h=>wpOpsIn_of hd hl rest a w h) _ h
    ·exact absurd h.2 hl
   ·rw [if_neg hw] at h ⊢
    exact ⟨fun f _=>trivial,wpOpsIn_of hd hl rest _ w h⟩
theorem wpIn_region_round {l n:Nat} {P:Program} {id:Nat} {ops:Array Oper} {Q:Exit→Act→World→Prop} {S:World→Prop} {a:Act} {w:World} (hd:∀ (i:Nat) (o:Oper),ops[i]?=some o→∀ c,o.op≠.defer c) (hl:¬ LetsOut Q) (hm:P.follows .mixedOrders=true) (hS:S w.drew)
  (h:S w.drew→wpAnyH P .any ops Q S ops.size (Array.replicate ops.size false) a w.drew):(Code.region id ops true).wpIn (Fence.wide.inRound l) n P Q a w :=
 wpIn_region_draw fun t=>by
  simp only [Region.schedule,hm,Bool.true_or,if_true]
  exact wpOpsIn_of hd hl _ _ _ (wpAny_sound ops.size t _ a _ (wpAny_of_held _ _ _ _ (h hS)))
def noDefer (o:Oper):Bool:=match o.op with | .defer _=>false | _=>true
theorem wpIn_region_round' {l n:Nat} {P:Program} {id:Nat} {ops:Array Oper} {Q:Exit→Act→World→Prop} {S:World→Prop} {a:Act} {w:World} (hd:ops.all noDefer=true) (hl:¬ LetsOut Q) (hm:P.follows .mixedOrders=true) (hS:S w.drew)
  (h:S w.drew→wpAnyH P .any ops Q S ops.size (Array.replicate ops.size false) a w.drew):(Code.region id ops true).wpIn (Fence.wide.inRound l) n P Q a w :=
 wpIn_region_round (fun i o ho c hc=>by
  have hx:=Array.all_eq_true.1 hd i (Array.getElem?_eq_some_iff.1 ho).1
  rw [(Array.getElem?_eq_some_iff.1 ho).2] at hx
  unfold noDefer at hx
  rw [hc] at hx
  cases hx) hl hm hS h
end Go.Proofs.YtihfibjckkmmbaaGreat
