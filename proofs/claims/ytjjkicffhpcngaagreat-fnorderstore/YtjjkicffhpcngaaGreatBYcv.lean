/- laws.lpReaders, lpWaits, lpUses: whether a step of a kind, or of a place, is there. Of at most 1048576 threads and steps. laws.lpIdle: a program with a thread more that does nothing. Of one with some thread, of at most 1048576 threads and steps. -/
import Derived.Below
import Derived.BigQuiet
import Derived.Deep.AppendLies
import Derived.Deep.CutRange
import Derived.Deep.MidRow
import Derived.Deep.Quiet
import Derived.Deep.QuietTactic
import Derived.Deep.RegionHeld3
import Derived.Deep.RegionLaw
import Derived.Deep.RegionWith
import Derived.Deep.Slices
import Derived.Deep.WholeRow
import Derived.Handy
import Derived.Laws.AppendOwn
import Derived.Laws.AppendOwnNone
import Derived.Laws.EntriesVeiled
import Derived.Laws.IdiomCopy
import Derived.Laws.OwnMore
import Derived.LoopIn
import Derived.LoopN
import Derived.LoopNIn
import Derived.Maps.OwnIn
import Derived.OwnWalkIn
import Derived.RangeFuncBound
import Derived.RangeFuncLeaves
import Derived.RangeFuncNested
import Derived.Shelf.Abstract
import Derived.Shelf.SlSortCmp.NoneTotal
import Derived.Sort.Grow
import Derived.TacticsInMore
import Derived.WalkKit
import Derived.WalkLawsBesides
import Derived.WalkSpells
import Derived.Deep.OwnRows
import Derived.Test.YtjjkicffhpcngaaGreatRows
import Derived.Test.YtjjkicffhpcngaaGreatBYbb
import Derived.Test.YtjjkicffhpcngaaGreatBYcu
namespace Go.Proofs.YtjjkicffhpcngaaGreat
open Go.RowKit
namespace M
end M
set_option maxHeartbeats 2000000 in
set_option maxRecDepth 100000 in
theorem lpWaits_any (a:Option Addr) (b o c:Nat) (ll:List (List M.D)) (w:World) (hl:ll.length≤1048576) (hls:∀ t∈ll,t.length≤1048576) (h:DoSS w a b o ll) :
  Calls Tryz.prog 30 #[.agg #[.slice a ll.length c]] w fun e w'=>e=.returned (.bool (M.anyK (fun d=>d.k==9) ll))∧Below w.heap.size w w':=by
 have b1:=below1 w (.cells #[.slice a ll.length c] 25)
 have hX:=(Slot1.new w (.slice a ll.length c) 25).c
 have hD:=h.below b1 (Nat.le_refl _)
 go_enter Tryz.func30,Tryz.ntmps30
 go_wp2_with fail
 generalize w.alloc (.cells #[.slice a ll.length c] 25)=W2 at *
 go_loopw [3] (fun s wr=>Below W2.heap.size W2 wr∧∃ n:Nat,s=.int .i64 n∧n≤ll.length∧Hid (∀ i (hi:i < ll.length),i < n→M.anyT (fun d=>d.k==9) ll[i]=false)) (fun s _=>ll.length - (intOf s).toNat)
 case atStart=>exact ⟨Below.refl _ _,0,rfl,Nat.zero_le _,fun i hi h=>absurd h (Nat.not_lt_zero _)⟩
 case round =>
  obtain ⟨hbr,n,rfl,hn,HN⟩:=hrel
  have lX:=World.block_lt_of_cell? _ _ hX
  have hXr:=(hbr.cell (p:=⟨w.heap.size,0,none⟩) lX).trans hX
  have hDr:=hD.below hbr (Nat.le_refl _)
  by_cases hlt:n < ll.length
  ·obtain ⟨rfl⟩:=h.addr (by omega)
   obtain ⟨a',b',o',c',hc0,hd0⟩:=hDr.row n hlt
   have htl:=hls _ (List.getElem_mem hlt)
   have HNX:Hid (M.anyT (fun d=>d.k==9) ll[n]=false→∀ i (hi:i < ll.length),i < n+1→M.anyT (fun d=>d.k==9) ll[i]=false):=fun h0 i hi h1=>by
    rcases Nat.lt_or_ge i n with h2 | h2
    ·exact HN.out i hi h2
    ·obtain rfl:i=n:=by omega
     exact h0
   have HY:Hid (∀ k (hk:k < ll[n].length),(fun d=>d.k==9) ll[n][k]=true→M.anyK (fun d=>d.k==9) ll=true):=fun k hk h0=>M.anyK_yes hlt hk h0
   generalize ll[n]=t at *
   have i1:(n:Int) < ll.length:=by omega
   obtain ⟨W3,hW3⟩:∃ W3,W3=wr:=⟨_,rfl⟩
   subst hW3
   go_wp2_with fail
   go_loopw [4] (fun s wi=>Below W3.heap.size W3 wi∧∃ k:Nat,s=.int .i64 k∧k≤t.length∧Hid (∀ i (hi:i < t.length),i < k→(fun d=>d.k==9) t[i]=false)) (fun s _=>t.length - (intOf s).toNat)
   case atStart=>exact ⟨Below.refl _ _,0,rfl,Nat.zero_le _,fun i hi h=>absurd h (Nat.not_lt_zero _)⟩
   case round =>
    obtain ⟨hbi,k,rfl,hk,HK⟩:=hrel
    have lX3:=World.block_lt_of_cell? _ _ hXr
    have hXi:=(hbi.cell (p:=⟨w.heap.size,0,none⟩) lX3).trans hXr
    have hci:=(hbi.cell (p:=⟨b,o+n,none⟩) (World.block_lt_of_cell? _ _ hc0)).trans hc0
    have hdi:=hd0.below hbi (Nat.le_refl _)
    have hbw:=b1.trans ((hbr.trans (hbi.mono hbr.size)).mono b1.size)
    by_cases hkt:k < t.length
    ·obtain ⟨rfl⟩:=hdi.addr (by omega)
     have hat:=hdi.row k hkt
     have HKX:Hid ((fun d=>d.k==9) t[k]=false→∀ i (hi:i < t.length),i < k+1→(fun d=>d.k==9) t[i]=false):=fun h0 i hi h1=>by
      rcases Nat.lt_or_ge i k with h2 | h2
      ·exact HK.out i hi h2
      ·obtain rfl:i=k:=by omega
       exact h0
     have HYK:Hid ((fun d=>d.k==9) t[k]=true→M.anyK (fun d=>d.k==9) ll=true):=HY.out k hkt
     generalize t[k]=d at *
     obtain ⟨kk,pp,vv⟩:=d
     obtain ⟨ck,cp,cv'⟩:=hat
     have j1:(k:Int) < t.length:=by omega
     cases hf:(kk==9)
     ·go_wp2_with fail
      exact ⟨⟨hbi,k+1,by go_num,by omega,HKX.out hf⟩,by simp [intOf];omega⟩
     ·have hy:=HYK.out hf
      go_wp2_with fail
      go_ret
      exact ⟨rfl,hbw⟩
    ·have j1:¬ (k:Int) < t.length:=by omega
     have hT:M.anyT (fun d=>d.k==9) t=false:=M.anyT_all (by omega) HK.out
     go_wp2_with fail
     exact ⟨⟨hbr.trans (hbi.mono hbr.size),n+1,by go_num,by omega,HNX.out hT⟩,by simp [intOf];omega⟩
  ·have hkn':¬ (n:Int) < ll.length:=by omega
   have hF:M.anyK (fun d=>d.k==9) ll=false:=M.anyK_all (by omega) HN.out
   go_wp2_with fail
   go_ret
   exact ⟨rfl,b1.trans (hbr.mono b1.size)⟩
end Go.Proofs.YtjjkicffhpcngaaGreat
namespace Go.Proofs.YtjjkicffhpcngaaGreat
open Go.RowKit
structure Thb (w:World) (g:Nat) (vs:List Value) (ll:List (List M.D)):Prop where
 thr:Thr w vs ll
 cell:∀ i (h:i < vs.length),w.cell? ⟨g,i,none⟩=some vs[i]
theorem Thb.below {w w':World} {g:Nat} {vs:List Value} {ll:List (List M.D)} (h:Thb w g vs ll) (hb:Below w.heap.size w w'):Thb w' g vs ll :=
 ⟨h.thr.below hb (Nat.le_refl _),fun i hi=>(hb.cell (p:=⟨g,i,none⟩) (World.block_lt_of_cell? _ _ (h.cell i hi))).trans (h.cell i hi)⟩
theorem DoSN.thb {N:Nat} {w:World} {a:Option Addr} {g:Nat} {ll:List (List M.D)} (h:DoSN N w a g 0 ll):∃ vs,Thb w g vs ll:=by
 obtain ⟨vs,h1,h2⟩:=h.vals
 exact ⟨vs,h1,fun i hi=>by have:=h2 i hi;rwa [Nat.zero_add] at this⟩
end Go.Proofs.YtjjkicffhpcngaaGreat
