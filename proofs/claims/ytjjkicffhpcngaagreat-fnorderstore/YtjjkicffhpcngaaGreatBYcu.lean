/- The way in which one thread goes behind the other, each reading what was written last: it holds by each order. Plainly. Of a program. What an order allows of small programs: a thread more that does nothing, one place alone, one thread alone, one step of each. Plainly. No condition but what is said. laws.lpReaders, lpWaits, lpUses: whether a step of a kind, or of a place, is there. Of at most 1048576 threads and steps. -/
import Derived.Below
import Derived.BigQuiet
import Derived.Deep.AppendLies
import Derived.Deep.CutRange
import Derived.Deep.MidRow
import Derived.Deep.Quiet
import Derived.Deep.QuietTactic
import Derived.Deep.RegionHeld3
import Derived.Deep.RegionLaw
import Derived.Deep.RegionWith
import Derived.Deep.Slices
import Derived.Deep.WholeRow
import Derived.Handy
import Derived.Laws.AppendOwn
import Derived.Laws.AppendOwnNone
import Derived.Laws.EntriesVeiled
import Derived.Laws.IdiomCopy
import Derived.Laws.OwnMore
import Derived.LoopIn
import Derived.LoopN
import Derived.LoopNIn
import Derived.Maps.OwnIn
import Derived.OwnWalkIn
import Derived.RangeFuncBound
import Derived.RangeFuncLeaves
import Derived.RangeFuncNested
import Derived.Shelf.Abstract
import Derived.Shelf.SlSortCmp.NoneTotal
import Derived.Sort.Grow
import Derived.TacticsInMore
import Derived.WalkKit
import Derived.WalkLawsBesides
import Derived.WalkSpells
import Derived.Deep.OwnRows
import Derived.Test.YtjjkicffhpcngaaGreatRows
import Derived.Test.YtjjkicffhpcngaaGreatBYay
namespace Go.Proofs.YtjjkicffhpcngaaGreat
namespace M
theorem deD_k (t i:Nat) (lr:Int) (n:Nat) (d:D):∀ x∈deD t i lr n d,x.d=d:=by
 intro x hx
 unfold deD at hx
 split at hx
 ·rcases List.mem_cons.1 hx with rfl | hx
  ·rfl
  ·rw [List.mem_singleton.1 hx]
 ·rw [List.mem_singleton.1 hx]
end M
end Go.Proofs.YtjjkicffhpcngaaGreat
namespace Go.Proofs.YtjjkicffhpcngaaGreat
namespace M
theorem mem_deT (t:Nat):∀ (l:List D) (i:Nat) (lr:Int) (n:Nat) (x:De),x∈deT t i lr n l→x.d∈l∧x.t=t
 | [],_,_,_,x,h=>by simp [deT] at h
 | d::l,i,lr,n,x,h=>by
  rw [deT] at h
  rcases List.mem_append.1 h with h | h
  ·have h1:=deD_k t i lr n d x h
   refine ⟨by rw [h1];exact List.mem_cons_self ..,?_⟩
   unfold deD at h
   split at h
   ·rcases List.mem_cons.1 h with rfl | h
    ·rfl
    ·rw [List.mem_singleton.1 h]
   ·rw [List.mem_singleton.1 h]
  ·obtain ⟨h1,h2⟩:=mem_deT t l _ _ _ x h
   exact ⟨List.mem_cons_of_mem _ h1,h2⟩
theorem mem_deF:∀ (ll:List (List D)) (t n:Nat) (x:De),x∈deF t n ll→t≤x.t∧x.t < t+ll.length∧∃ l,ll[x.t - t]?=some l∧x.d∈l
 | [],_,_,x,h=>by simp [deF] at h
 | l::ll,t,n,x,h=>by
  rw [deF] at h
  rcases List.mem_append.1 h with h | h
  ·obtain ⟨h1,h2⟩:=mem_deT t l _ _ _ x h
   exact ⟨by omega,by simp;omega,l,by rw [h2];simp,h1⟩
  ·obtain ⟨h1,h2,l',h3,h4⟩:=mem_deF ll _ _ x h
   exact ⟨by omega,by simp;omega,l',by rw [show x.t - t=(x.t - (t+1))+1 by omega];simpa using h3,h4⟩
theorem mem_deeds {ll:List (List D)} {x:De} (h:x∈deeds ll):∃ l∈ll,x.d∈l:=by
 obtain ⟨_,_,l,h3,h4⟩:=mem_deF ll 0 0 x h
 exact ⟨l,mem_of_get h3,h4⟩
end M
end Go.Proofs.YtjjkicffhpcngaaGreat
namespace Go.Proofs.YtjjkicffhpcngaaGreat
open Go.RowKit
namespace M
def anyT (f:D→Bool) (t:List D):Bool:=t.any f
def anyK (f:D→Bool) (ll:List (List D)):Bool:=ll.any (anyT f)
theorem anyK_no {f:D→Bool} {ll:List (List D)} (h:anyK f ll=false):∀ t∈ll,∀ d∈t,f d=false:=fun t ht d hd=>by
 have h1:=List.any_eq_false.1 h t ht
 have h2:=List.any_eq_false.1 (Bool.eq_false_iff.2 h1) d hd
 exact Bool.eq_false_iff.2 h2
theorem anyK_all {f:D→Bool} {ll:List (List D)} {n:Nat} (hn:ll.length≤n) (h:∀ i (hi:i < ll.length),i < n→anyT f ll[i]=false):anyK f ll=false:=by
 unfold anyK
 rw [List.any_eq_false]
 intro t ht
 obtain ⟨i,hi,rfl⟩:=List.getElem_of_mem ht
 rw [h i hi (by omega)]
 simp
theorem anyT_all {f:D→Bool} {t:List D} {n:Nat} (hn:t.length≤n) (h:∀ i (hi:i < t.length),i < n→f t[i]=false):anyT f t=false:=by
 unfold anyT
 rw [List.any_eq_false]
 intro d hd
 obtain ⟨i,hi,rfl⟩:=List.getElem_of_mem hd
 rw [h i hi (by omega)]
 simp
theorem anyK_yes {f:D→Bool} {ll:List (List D)} {n k:Nat} (hn:n < ll.length) (hk:k < ll[n].length) (h:f ll[n][k]=true):anyK f ll=true:=by
 unfold anyK
 rw [List.any_eq_true]
 refine ⟨ll[n],List.getElem_mem hn,?_⟩
 unfold anyT
 rw [List.any_eq_true]
 exact ⟨ll[n][k],List.getElem_mem hk,h⟩
end M
set_option maxHeartbeats 2000000 in
set_option maxRecDepth 100000 in
theorem lpReaders_any (a:Option Addr) (b o c:Nat) (ll:List (List M.D)) (w:World) (hl:ll.length≤1048576) (hls:∀ t∈ll,t.length≤1048576) (h:DoSS w a b o ll) :
  Calls Tryz.prog 31 #[.agg #[.slice a ll.length c]] w fun e w'=>e=.returned (.bool (M.anyK (fun d=>d.k==7) ll))∧Below w.heap.size w w':=by
 have b1:=below1 w (.cells #[.slice a ll.length c] 25)
 have hX:=(Slot1.new w (.slice a ll.length c) 25).c
 have hD:=h.below b1 (Nat.le_refl _)
 go_enter Tryz.func31,Tryz.ntmps31
 go_wp2_with fail
 generalize w.alloc (.cells #[.slice a ll.length c] 25)=W2 at *
 go_loopw [3] (fun s wr=>Below W2.heap.size W2 wr∧∃ n:Nat,s=.int .i64 n∧n≤ll.length∧Hid (∀ i (hi:i < ll.length),i < n→M.anyT (fun d=>d.k==7) ll[i]=false)) (fun s _=>ll.length - (intOf s).toNat)
 case atStart=>exact ⟨Below.refl _ _,0,rfl,Nat.zero_le _,fun i hi h=>absurd h (Nat.not_lt_zero _)⟩
 case round =>
  obtain ⟨hbr,n,rfl,hn,HN⟩:=hrel
  have lX:=World.block_lt_of_cell? _ _ hX
  have hXr:=(hbr.cell (p:=⟨w.heap.size,0,none⟩) lX).trans hX
  have hDr:=hD.below hbr (Nat.le_refl _)
  by_cases hlt:n < ll.length
  ·obtain ⟨rfl⟩:=h.addr (by omega)
   obtain ⟨a',b',o',c',hc0,hd0⟩:=hDr.row n hlt
   have htl:=hls _ (List.getElem_mem hlt)
   have HNX:Hid (M.anyT (fun d=>d.k==7) ll[n]=false→∀ i (hi:i < ll.length),i < n+1→M.anyT (fun d=>d.k==7) ll[i]=false):=fun h0 i hi h1=>by
    rcases Nat.lt_or_ge i n with h2 | h2
    ·exact HN.out i hi h2
    ·obtain rfl:i=n:=by omega
     exact h0
   have HY:Hid (∀ k (hk:k < ll[n].length),(fun d=>d.k==7) ll[n][k]=true→M.anyK (fun d=>d.k==7) ll=true):=fun k hk h0=>M.anyK_yes hlt hk h0
   generalize ll[n]=t at *
   have i1:(n:Int) < ll.length:=by omega
   obtain ⟨W3,hW3⟩:∃ W3,W3=wr:=⟨_,rfl⟩
   subst hW3
   go_wp2_with fail
   go_loopw [4] (fun s wi=>Below W3.heap.size W3 wi∧∃ k:Nat,s=.int .i64 k∧k≤t.length∧Hid (∀ i (hi:i < t.length),i < k→(fun d=>d.k==7) t[i]=false)) (fun s _=>t.length - (intOf s).toNat)
   case atStart=>exact ⟨Below.refl _ _,0,rfl,Nat.zero_le _,fun i hi h=>absurd h (Nat.not_lt_zero _)⟩
   case round =>
    obtain ⟨hbi,k,rfl,hk,HK⟩:=hrel
    have lX3:=World.block_lt_of_cell? _ _ hXr
    have hXi:=(hbi.cell (p:=⟨w.heap.size,0,none⟩) lX3).trans hXr
    have hci:=(hbi.cell (p:=⟨b,o+n,none⟩) (World.block_lt_of_cell? _ _ hc0)).trans hc0
    have hdi:=hd0.below hbi (Nat.le_refl _)
    have hbw:=b1.trans ((hbr.trans (hbi.mono hbr.size)).mono b1.size)
    by_cases hkt:k < t.length
    ·obtain ⟨rfl⟩:=hdi.addr (by omega)
     have hat:=hdi.row k hkt
     have HKX:Hid ((fun d=>d.k==7) t[k]=false→∀ i (hi:i < t.length),i < k+1→(fun d=>d.k==7) t[i]=false):=fun h0 i hi h1=>by
      rcases Nat.lt_or_ge i k with h2 | h2
      ·exact HK.out i hi h2
      ·obtain rfl:i=k:=by omega
       exact h0
     have HYK:Hid ((fun d=>d.k==7) t[k]=true→M.anyK (fun d=>d.k==7) ll=true):=HY.out k hkt
     generalize t[k]=d at *
     obtain ⟨kk,pp,vv⟩:=d
     obtain ⟨ck,cp,cv'⟩:=hat
     have j1:(k:Int) < t.length:=by omega
     cases hf:(kk==7)
     ·go_wp2_with fail
      exact ⟨⟨hbi,k+1,by go_num,by omega,HKX.out hf⟩,by simp [intOf];omega⟩
     ·have hy:=HYK.out hf
      go_wp2_with fail
      go_ret
      exact ⟨rfl,hbw⟩
    ·have j1:¬ (k:Int) < t.length:=by omega
     have hT:M.anyT (fun d=>d.k==7) t=false:=M.anyT_all (by omega) HK.out
     go_wp2_with fail
     exact ⟨⟨hbr.trans (hbi.mono hbr.size),n+1,by go_num,by omega,HNX.out hT⟩,by simp [intOf];omega⟩
  ·have hkn':¬ (n:Int) < ll.length:=by omega
   have hF:M.anyK (fun d=>d.k==7) ll=false:=M.anyK_all (by omega) HN.out
   go_wp2_with fail
   go_ret
   exact ⟨rfl,b1.trans (hbr.mono b1.size)⟩
end Go.Proofs.YtjjkicffhpcngaaGreat
