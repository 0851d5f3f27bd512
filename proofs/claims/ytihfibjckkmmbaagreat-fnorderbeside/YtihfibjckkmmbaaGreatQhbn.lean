/- What an order allows of a program whose threads stand otherwise: what it allows of the program, each thread's reads turned along. Plainly. No condition but what is said. What an order allows of a program whose threads stand otherwise, as the law asks it. Plainly. No condition but what is said. -/
import Derived.Below
import Derived.BigQuiet
import Derived.Deep.AppendLies
import Derived.Deep.MidRow
import Derived.Deep.Quiet
import Derived.Deep.QuietTactic
import Derived.Deep.RegionHeld3
import Derived.Deep.RegionLaw
import Derived.Deep.RegionWith
import Derived.Deep.Slices
import Derived.Deep.WholeRow
import Derived.Handy
import Derived.Laws.AppendOwn
import Derived.Laws.AppendOwnNone
import Derived.Laws.EntriesVeiled
import Derived.Laws.IdiomCopy
import Derived.Laws.OwnMore
import Derived.LoopIn
import Derived.LoopN
import Derived.LoopNIn
import Derived.OwnWalkIn
import Derived.RangeFuncBound
import Derived.RangeFuncLeaves
import Derived.RangeFuncNested
import Derived.Shelf.Abstract
import Derived.Shelf.SlSortCmp.NoneTotal
import Derived.Sort.Grow
import Derived.TacticsInMore
import Derived.WalkKit
import Derived.WalkLawsBesides
import Derived.WalkSpells
import Derived.Deep.OwnRows
import Derived.Test.YtihfibjckkmmbaaGreatRows
import Derived.Test.YtihfibjckkmmbaaGreatQhbg
namespace Go.Proofs.YtihfibjckkmmbaaGreat
namespace M
theorem rdAt_pt {ds es:List De} {l m:List Int}:∀ (xs ys:List De) (n n':Nat),ys.length=xs.length→(∀ i (h:i < xs.length) (h':i < ys.length),ys[i].reads=xs[i].reads)→(∀ i,i < xs.length→vl es m ((n'+i:Nat):Int)=vl ds l ((n+i:Nat):Int))→rdAt es m n' ys=rdAt ds l n xs
 | [],ys,n,n',hl,_,_=>by rw [List.length_eq_zero_iff.1 hl];rfl
 | x::xs,[],n,n',hl,_,_=>by simp at hl
 | x::xs,y::ys,n,n',hl,hr,hv=>by
  have h0:=hr 0 (by simp) (by simp)
  have v0:=hv 0 (by simp)
  have ih:=rdAt_pt xs ys (n+1) (n'+1) (by simpa using hl) (fun i h h'=>by have:=hr (i+1) (by simpa using h) (by simpa using h');simpa using this) (fun i hi=>by
   have:=hv (i+1) (by simpa using hi)
   rw [show n'+1+i=n'+(i+1) by omega,show n+1+i=n+(i+1) by omega]
   exact this)
  simp only [List.getElem_cons_zero,Nat.add_zero] at h0 v0
  unfold rdAt
  rw [h0,v0,ih]
theorem rdAt_len' (ds:List De) (l:List Int):∀ (xs:List De) (n:Nat),(rdAt ds l n xs).length=xs.countP De.reads
 | [],_=>by simp [rdAt]
 | x::xs,n=>by
  have ih:=rdAt_len' ds l xs (n+1)
  unfold rdAt
  cases hx:x.reads
  ·simpa [hx] using ih
  ·simp [hx];exact ih
theorem cp_deD (t i:Nat) (lr:Int) (n:Nat) (d:D):(deD t i lr n d).countP De.reads=if reads d.k then 1 else 0:=by
 unfold deD
 by_cases h:d.k==9
 ·have h9:d.k=9:=by simpa using h
  have hu:reads d.k=false:=by rw [h9];decide
  rw [if_pos h];simp [De.reads,hu]
 ·rw [if_neg h]
  cases hu:reads d.k<;>simp [De.reads,hu]
theorem cp_deT (t:Nat):∀ (l:List D) (i:Nat) (lr:Int) (n:Nat),(deT t i lr n l).countP De.reads=cnt reads l
 | [],_,_,_=>by simp [deT,cnt]
 | d::l,i,lr,n=>by rw [deT,List.countP_append,cp_deD,cp_deT t l,cnt_cons]
theorem cp_deF:∀ (ll:List (List D)) (t n:Nat),(deF t n ll).countP De.reads=tot reads ll
 | [],_,_=>by simp [deF,tot]
 | l::ll,t,n=>by rw [deF,List.countP_append,cp_deT,cp_deF ll,tot]
end M
end Go.Proofs.YtihfibjckkmmbaaGreat
namespace Go.Proofs.YtihfibjckkmmbaaGreat
namespace M
theorem orderAll_reads {ll:List (List D)} {k:Int} {z:Key} (hz:z∈orderAll ll k):z.1.length=tot reads ll:=by
 obtain ⟨x,_,rfl⟩:=mem_orderAll.1 hz
 show (rdAt (deeds ll) x.1 0 (deeds ll)).length=_
 rw [rdAt_len']
 exact cp_deF ll 0 0
end M
end Go.Proofs.YtihfibjckkmmbaaGreat
