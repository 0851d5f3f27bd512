/- A region that draws its order, within a round of a loop over an iterator: what is shown of it outside one stands. No condition. -/
import Derived.Below
import Derived.Deep.RegionHeld3
import Derived.LoopIn
import Derived.LoopNIn
import Derived.OwnWalkIn
import Derived.RangeFuncBound
import Derived.RangeFuncLeaves
import Derived.RangeFuncNested
import Derived.Shelf.Abstract
import Derived.TacticsInMore
import Derived.WalkKit
import Derived.WalkLawsBesides
import Derived.WalkSpells
import Derived.Test.YtihfibjckkmmbaaGreatRows
namespace Go.Proofs.YtihfibjckkmmbaaGreat
open Go.RowKit
theorem uponIn_of {l n:Nat} {P:Program} {o:Oper} {a:Act} {next next':Act→World→Prop} {Q:Exit→Act→World→Prop} (hn:∀ a w,next a w→next' a w) :
  ∀ r:Result Next,o.upon P a next Q r→o.uponIn (Fence.wide.inRound l) n P a next' Q r:=by
 intro r h
 cases r with
 | ok x w =>
  cases x with
  | value v=>exact hn _ _ h
  | skip=>exact hn _ _ h
  | defer d=>exact hn _ _ h
  | enter f args =>
   refine ⟨(fun hx=>by cases hx),CallsIn.inRound l (callsIn_wide.2 (Calls.mono h ?_))⟩
   intro e w' he
   cases e with
   | returned v=>exact hn _ _ he
   | panicked c=>exact he
   | outgrown=>exact he
  | row row args =>
   refine ⟨(fun hx=>by cases hx),fun c cs _=>?_⟩
   obtain ⟨v,w',hv,hs⟩:=h c cs
   exact ⟨v,w',hn _ _ hv,stepsIn_wide.2 hs⟩
  | _=>exact h.elim
 | halt x w =>
  cases x with
  | panic v=>exact h
  | _=>exact h.elim
theorem wpOpsIn_of {l n:Nat} {P:Program} {ops:Array Oper} {Q:Exit→Act→World→Prop} (hd:∀ (i:Nat) (o:Oper),ops[i]?=some o→∀ c,o.op≠.defer c) (hl:¬ LetsOut Q) :
  ∀ (sched:List Nat) (a:Act) (w:World),wpOps P ops Q sched a w→wpOpsIn (Fence.wide.inRound l) n P ops Q sched a w
 | [],a,w,h=>h
 | i::rest,a,w,h=>by
  unfold wpOps at h
  unfold wpOpsIn
  cases ho:ops[i]? with
  | none =>
   rw [ho] at h
   exact wpOpsIn_of hd hl rest a w h
  | some o =>
   rw [ho] at h
   dsimp only at h ⊢
   by_cases hw:Region.wanted o (yielded ops a.tmps)=true
   ·rw [if_pos hw] at h ⊢
    rcases h with h | h
    ·refine ⟨fun f _=>trivial,?_⟩
     rw [Oper.semAt_plain _ _ _ (hd i o ho)]
     exact uponIn_of (fun a w h=>wpOpsIn_of hd hl rest a w h) _ h
    ·exact absurd h.2 hl
   ·rw [if_neg hw] at h ⊢
    exact ⟨fun f _=>trivial,wpOpsIn_of hd hl rest _ w h⟩
theorem wpIn_region_round {l n:Nat} {P:Program} {id:Nat} {ops:Array Oper} {Q:Exit→Act→World→Prop} {S:World→Prop} {a:Act} {w:World} (hd:∀ (i:Nat) (o:Oper),ops[i]?=some o→∀ c,o.op≠.defer c) (hl:¬ LetsOut Q) (hm:P.follows .mixedOrders=true) (hS:S w.drew)
  (h:S w.drew→wpAnyH P .any ops Q S ops.size (Array.replicate ops.size false) a w.drew):(Code.region id ops true).wpIn (Fence.wide.inRound l) n P Q a w :=
 wpIn_region_draw fun t=>by
  simp only [Region.schedule,hm,Bool.true_or,if_true]
  exact wpOpsIn_of hd hl _ _ _ (wpAny_sound ops.size t _ a _ (wpAny_of_held _ _ _ _ (h hS)))
def noDefer (o:Oper):Bool:=match o.op with | .defer _=>false | _=>true
theorem wpIn_region_round' {l n:Nat} {P:Program} {id:Nat} {ops:Array Oper} {Q:Exit→Act→World→Prop} {S:World→Prop} {a:Act} {w:World} (hd:ops.all noDefer=true) (hl:¬ LetsOut Q) (hm:P.follows .mixedOrders=true) (hS:S w.drew)
  (h:S w.drew→wpAnyH P .any ops Q S ops.size (Array.replicate ops.size false) a w.drew):(Code.region id ops true).wpIn (Fence.wide.inRound l) n P Q a w :=
 wpIn_region_round (fun i o ho c hc=>by
  have hx:=Array.all_eq_true.1 hd i (Array.getElem?_eq_some_iff.1 ho).1
  rw [(Array.getElem?_eq_some_iff.1 ho).2] at hx
  unfold noDefer at hx
  rw [hc] at hx
  cases hx) hl hm hS h
end Go.Proofs.YtihfibjckkmmbaaGreat
