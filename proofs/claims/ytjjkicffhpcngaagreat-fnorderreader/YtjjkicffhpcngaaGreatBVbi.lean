/- A region that draws its order, within a round of a loop over an iterator: what is shown of it outside one stands. No condition. And what goes with it: RvReg, RvWl, SqMath, WiMath, WkMath, LawRd, LawRe. -/
import Derived.Below
import Derived.BigQuiet
import Derived.Deep.AppendLies
import Derived.Deep.AppendSrc
import Derived.Deep.CutRange
import Derived.Deep.MidRow
import Derived.Deep.Quiet
import Derived.Deep.QuietTactic
import Derived.Deep.RegionHeld3
import Derived.Deep.RegionLaw
import Derived.Deep.RegionWith
import Derived.Deep.Slices
import Derived.Deep.WholeRow
import Derived.Handy
import Derived.Laws.AppendOwn
import Derived.Laws.AppendOwnNone
import Derived.Laws.EntriesVeiled
import Derived.Laws.IdiomCopy
import Derived.Laws.OwnMore
import Derived.LoopIn
import Derived.LoopN
import Derived.LoopNIn
import Derived.Maps.AppendAt
import Derived.Maps.OwnIn
import Derived.OwnWalkIn
import Derived.RangeFuncBound
import Derived.RangeFuncLeaves
import Derived.RangeFuncNested
import Derived.Shelf.Abstract
import Derived.Shelf.SlSortCmp.NoneTotal
import Derived.Sort.Grow
import Derived.TacticsInMore
import Derived.WalkKit
import Derived.WalkLawsBesides
import Derived.WalkSpells
import Derived.Deep.OwnRows
import Derived.Test.YtjjkicffhpcngaaGreatRows
import Derived.Test.YtjjkicffhpcngaaGreatBVay
import Derived.Test.YtjjkicffhpcngaaGreatBVbg
import Derived.Test.YtjjkicffhpcngaaGreatBVbh
namespace Go.Proofs.YtjjkicffhpcngaaGreat
open Go.RowKit
theorem uponIn_of {l n:Nat} {P:Program} {o:Oper} {a:Act} {next next':Act→World→Prop} {Q:Exit→Act→World→Prop} (hn:∀ a w,next a w→next' a w) :
  ∀ r:Result Next,o.upon P a next Q r→o.uponIn (Fence.wide.inRound l) n P a next' Q r:=by
 intro r h
 cases r with
 | ok x w =>
  cases x with
  | value v=>exact hn _ _ h
  | skip=>exact hn _ _ h
  | defer d=>exact hn _ _ h
  | enter f args =>
   refine ⟨(fun hx=>by cases hx),CallsIn.inRound l (callsIn_wide.2 (Calls.mono h ?_))⟩
   intro e w' he
   cases e with
   | returned v=>exact hn _ _ he
   | panicked c=>exact he
   | outgrown=>exact he
  | row row args =>
   refine ⟨(fun hx=>by cases hx),fun c cs _=>?_⟩
   obtain ⟨v,w',hv,hs⟩:=h c cs
   exact ⟨v,w',hn _ _ hv,stepsIn_wide.2 hs⟩
  | _=>exact h.elim
 | halt x w =>
  cases x with
  | panic v=>exact h
  | _=>exact h.elim
theorem wpOpsIn_of {l n:Nat} {P:Program} {ops:Array Oper} {Q:Exit→Act→World→Prop} (hd:∀ (i:Nat) (o:Oper),ops[i]?=some o→∀ c,o.op≠.defer c) (hl:¬ LetsOut Q) :
  ∀ (sched:List Nat) (a:Act) (w:World),wpOps P ops Q sched a w→wpOpsIn (Fence.wide.inRound l) n P ops Q sched a w
 | [],a,w,h=>h
 | i::rest,a,w,h=>by
  unfold wpOps at h
  unfold wpOpsIn
  cases ho:ops[i]? with
  | none =>
   rw [ho] at h
   exact wpOpsIn_of hd hl rest a w h
  | some o =>
   rw [ho] at h
   dsimp only at h ⊢
   by_cases hw:Region.wanted o (yielded ops a.tmps)=true
   ·rw [if_pos hw] at h ⊢
    rcases h with h | h
    ·refine ⟨fun f _=>trivial,?_⟩
     rw [Oper.semAt_plain _ _ _ (hd i o ho)]
     exact uponIn_of (fun a w h=>wpOpsIn_of hd hl rest a w h) _ h
    ·exact absurd h.2 hl
   ·rw [if_neg hw] at h ⊢
    exact ⟨fun f _=>trivial,wpOpsIn_of hd hl rest _ w h⟩
theorem wpIn_region_round {l n:Nat} {P:Program} {id:Nat} {ops:Array Oper} {Q:Exit→Act→World→Prop} {S:World→Prop} {a:Act} {w:World} (hd:∀ (i:Nat) (o:Oper),ops[i]?=some o→∀ c,o.op≠.defer c) (hl:¬ LetsOut Q) (hm:P.follows .mixedOrders=true) (hS:S w.drew)
  (h:S w.drew→wpAnyH P .any ops Q S ops.size (Array.replicate ops.size false) a w.drew):(Code.region id ops true).wpIn (Fence.wide.inRound l) n P Q a w :=
 wpIn_region_draw fun t=>by
  simp only [Region.schedule,hm,Bool.true_or,if_true]
  exact wpOpsIn_of hd hl _ _ _ (wpAny_sound ops.size t _ a _ (wpAny_of_held _ _ _ _ (h hS)))
def noDefer (o:Oper):Bool:=match o.op with | .defer _=>false | _=>true
theorem wpIn_region_round' {l n:Nat} {P:Program} {id:Nat} {ops:Array Oper} {Q:Exit→Act→World→Prop} {S:World→Prop} {a:Act} {w:World} (hd:ops.all noDefer=true) (hl:¬ LetsOut Q) (hm:P.follows .mixedOrders=true) (hS:S w.drew)
  (h:S w.drew→wpAnyH P .any ops Q S ops.size (Array.replicate ops.size false) a w.drew):(Code.region id ops true).wpIn (Fence.wide.inRound l) n P Q a w :=
 wpIn_region_round (fun i o ho c hc=>by
  have hx:=Array.all_eq_true.1 hd i (Array.getElem?_eq_some_iff.1 ho).1
  rw [(Array.getElem?_eq_some_iff.1 ho).2] at hx
  unfold noDefer at hx
  rw [hc] at hx
  cases hx) hl hm hS h
end Go.Proofs.YtjjkicffhpcngaaGreat
namespace Go.Proofs.YtjjkicffhpcngaaGreat
open Go.RowKit
abbrev Y3:=Value × Value × List Value
end Go.Proofs.YtjjkicffhpcngaaGreat
namespace Go.Proofs.YtjjkicffhpcngaaGreat
namespace M
theorem idx_get {row:List Int} (h:row.Nodup) {i:Nat} (hi:i < row.length):idx row row[i]=i :=
 idx_hit hi rfl fun j hj hjl e=>by
  have:=(List.pairwise_iff_getElem.1 h) j i hjl hi hj
  exact this e
theorem idx_no {row:List Int} {v:Int} (h:v∉row):idx row v=-1:=idx_none fun _ hi e=>h (e▸List.getElem_mem hi)
end M
end Go.Proofs.YtjjkicffhpcngaaGreat
namespace Go.Proofs.YtjjkicffhpcngaaGreat
namespace M
theorem get_snoc {α:Type} {l:List α} {x y:α} {a:Nat} (h:(l++[x])[a]?=some y):l[a]?=some y∨(a=l.length∧y=x):=by
 rcases Nat.lt_or_ge a l.length with h1 | h1
 ·rw [List.getElem?_append_left h1] at h;exact .inl h
 ·rw [List.getElem?_append_right h1] at h
  have:a - l.length=0:=by
   have:=lt_of_get h
   simp at this;omega
  rw [this] at h
  exact .inr ⟨by omega,by simpa using h.symm⟩
theorem get_left {α:Type} {l:List α} {x y:α} {a:Nat} (h:l[a]?=some y):(l++[x])[a]?=some y:=by
 rw [List.getElem?_append_left (lt_of_get h)];exact h
theorem get_last {α:Type} (l:List α) (x:α):(l++[x])[l.length]?=some x:=by simp
end M
end Go.Proofs.YtjjkicffhpcngaaGreat
namespace Go.Proofs.YtjjkicffhpcngaaGreat
namespace M
theorem deed_zero {ll:List (List D)} (hp:prog ll=true):∀ x∈deeds ll,x.reads=true∨x.d.k=3→x.d.v=0:=deed_z hp
theorem lro_deeds (ll:List (List D)):∀ x∈deeds ll,x.lr < (deeds ll).length:=fun x hx=>by
 obtain ⟨n,hn,rfl⟩:=List.getElem_of_mem hx
 exact lr_lt2 ll n _ (List.getElem?_eq_getElem hn)
section
variable {ll mm : List (List D)} {pos back : List Nat}
end
end M
end Go.Proofs.YtjjkicffhpcngaaGreat
namespace Go.Proofs.YtjjkicffhpcngaaGreat
open Go.RowKit
theorem cut_map (uu:List Sn):uu.map cutK=(kys uu).map fun z=>(z.1.dropLast,z.2):=by
 unfold kys
 rw [List.map_map]
 rfl
theorem newL_cut {B:Nat} {w:World} {a:Option Addr} {g:Nat} {uu:List Sn} (h:NewL B w a g uu) (hc:∀ s∈uu,s.l1.length≤s.c1) (hp:∀ s∈uu,0 < s.l1.length):∀ i (hi:i < uu.length),w.cell? ⟨g,i * 2,none⟩=some (.slice uu[i].a1 uu[i].l1.length uu[i].c1)∧w.cell? ⟨g,i * 2+1,none⟩=some (.slice uu[i].a2 uu[i].l2.length uu[i].c2)∧uu[i].At w∧uu[i].Le 1048576∧uu[i].l1.length≤uu[i].c1∧0 < uu[i].l1.length:=fun i hi=>by
 obtain ⟨c1,c2⟩:=(h.sr (by omega)).c i hi
 have ho:=h.off _ (List.getElem_mem hi)
 exact ⟨c1,c2,ho.at_,ho.le,hc _ (List.getElem_mem hi),hp _ (List.getElem_mem hi)⟩
end Go.Proofs.YtjjkicffhpcngaaGreat
namespace Go.Proofs.YtjjkicffhpcngaaGreat
open Go.RowKit
end Go.Proofs.YtjjkicffhpcngaaGreat
