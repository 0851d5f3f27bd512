/- laws.lpReaders, lpWaits, lpUses: whether a step of a kind, or of a place, is there. Of at most 1048576 threads and steps. laws.lpOwn: whether two programs use places of their own. Of at most 1048576 threads and steps. -/
import Derived.Below
import Derived.BigQuiet
import Derived.Deep.AppendLies
import Derived.Deep.MidRow
import Derived.Deep.Quiet
import Derived.Deep.QuietTactic
import Derived.Deep.RegionHeld3
import Derived.Deep.RegionLaw
import Derived.Deep.RegionWith
import Derived.Deep.Slices
import Derived.Deep.WholeRow
import Derived.Handy
import Derived.Laws.AppendOwn
import Derived.Laws.AppendOwnNone
import Derived.Laws.EntriesVeiled
import Derived.Laws.IdiomCopy
import Derived.Laws.OwnMore
import Derived.LoopIn
import Derived.LoopN
import Derived.LoopNIn
import Derived.OwnWalkIn
import Derived.RangeFuncBound
import Derived.RangeFuncLeaves
import Derived.RangeFuncNested
import Derived.Shelf.Abstract
import Derived.Shelf.SlSortCmp.NoneTotal
import Derived.Sort.Grow
import Derived.TacticsInMore
import Derived.WalkKit
import Derived.WalkLawsBesides
import Derived.WalkSpells
import Derived.Deep.OwnRows
import Derived.Test.YtihfibjckkmmbaaGreatRows
import Derived.Test.YtihfibjckkmmbaaGreatQhaj
import Derived.Test.YtihfibjckkmmbaaGreatQhbo
namespace Go.Proofs.YtihfibjckkmmbaaGreat
open Go.RowKit
namespace M
def anyT (f:D→Bool) (t:List D):Bool:=t.any f
def anyK (f:D→Bool) (ll:List (List D)):Bool:=ll.any (anyT f)
theorem anyK_all {f:D→Bool} {ll:List (List D)} {n:Nat} (hn:ll.length≤n) (h:∀ i (hi:i < ll.length),i < n→anyT f ll[i]=false):anyK f ll=false:=by
 unfold anyK
 rw [List.any_eq_false]
 intro t ht
 obtain ⟨i,hi,rfl⟩:=List.getElem_of_mem ht
 rw [h i hi (by omega)]
 simp
theorem anyT_all {f:D→Bool} {t:List D} {n:Nat} (hn:t.length≤n) (h:∀ i (hi:i < t.length),i < n→f t[i]=false):anyT f t=false:=by
 unfold anyT
 rw [List.any_eq_false]
 intro d hd
 obtain ⟨i,hi,rfl⟩:=List.getElem_of_mem hd
 rw [h i hi (by omega)]
 simp
theorem anyK_yes {f:D→Bool} {ll:List (List D)} {n k:Nat} (hn:n < ll.length) (hk:k < ll[n].length) (h:f ll[n][k]=true):anyK f ll=true:=by
 unfold anyK
 rw [List.any_eq_true]
 refine ⟨ll[n],List.getElem_mem hn,?_⟩
 unfold anyT
 rw [List.any_eq_true]
 exact ⟨ll[n][k],List.getElem_mem hk,h⟩
def usesP (p:Int) (d:D):Bool:=d.p==p&&(d.k != 4&&(d.k != 7&&(d.k != 8&&d.k != 9)))
end M
set_option maxHeartbeats 2000000 in
set_option maxRecDepth 100000 in
theorem lpUses_any (a:Option Addr) (b o c:Nat) (ll:List (List M.D)) (pl:Int) (w:World) (hl:ll.length≤1048576) (hls:∀ t∈ll,t.length≤1048576) (h:DoSS w a b o ll) :
  Calls Tryz.prog 27 #[.agg #[.slice a ll.length c],.int .i64 pl] w fun e w'=>e=.returned (.bool (M.anyK (M.usesP pl) ll))∧Below w.heap.size w w':=by
 have b1:=below1 w (.cells #[.slice a ll.length c] 25)
 have hX:=(Slot1.new w (.slice a ll.length c) 25).c
 have hD:=h.below b1 (Nat.le_refl _)
 go_enter Tryz.func27,Tryz.ntmps27
 go_wp2_with fail
 generalize w.alloc (.cells #[.slice a ll.length c] 25)=W2 at *
 go_loopw [5] (fun s wr=>Below W2.heap.size W2 wr∧∃ n:Nat,s=.int .i64 n∧n≤ll.length∧Hid (∀ i (hi:i < ll.length),i < n→M.anyT (M.usesP pl) ll[i]=false)) (fun s _=>ll.length - (intOf s).toNat)
 case atStart=>exact ⟨Below.refl _ _,0,rfl,Nat.zero_le _,fun i hi h=>absurd h (Nat.not_lt_zero _)⟩
 case round =>
  obtain ⟨hbr,n,rfl,hn,HN⟩:=hrel
  have lX:=World.block_lt_of_cell? _ _ hX
  have hXr:=(hbr.cell (p:=⟨w.heap.size,0,none⟩) lX).trans hX
  have hDr:=hD.below hbr (Nat.le_refl _)
  by_cases hlt:n < ll.length
  ·obtain ⟨rfl⟩:=h.addr (by omega)
   obtain ⟨a',b',o',c',hc0,hd0⟩:=hDr.row n hlt
   have htl:=hls _ (List.getElem_mem hlt)
   have HNX:Hid (M.anyT (M.usesP pl) ll[n]=false→∀ i (hi:i < ll.length),i < n+1→M.anyT (M.usesP pl) ll[i]=false):=fun h0 i hi h1=>by
    rcases Nat.lt_or_ge i n with h2 | h2
    ·exact HN.out i hi h2
    ·obtain rfl:i=n:=by omega
     exact h0
   have HY:Hid (∀ k (hk:k < ll[n].length),(M.usesP pl) ll[n][k]=true→M.anyK (M.usesP pl) ll=true):=fun k hk h0=>M.anyK_yes hlt hk h0
   generalize ll[n]=t at *
   have i1:(n:Int) < ll.length:=by omega
   obtain ⟨W3,hW3⟩:∃ W3,W3=wr:=⟨_,rfl⟩
   subst hW3
   go_wp2_with fail
   go_loopw [6] (fun s wi=>Below W3.heap.size W3 wi∧∃ k:Nat,s=.int .i64 k∧k≤t.length∧Hid (∀ i (hi:i < t.length),i < k→(M.usesP pl) t[i]=false)) (fun s _=>t.length - (intOf s).toNat)
   case atStart=>exact ⟨Below.refl _ _,0,rfl,Nat.zero_le _,fun i hi h=>absurd h (Nat.not_lt_zero _)⟩
   case round =>
    obtain ⟨hbi,k,rfl,hk,HK⟩:=hrel
    have lX3:=World.block_lt_of_cell? _ _ hXr
    have hXi:=(hbi.cell (p:=⟨w.heap.size,0,none⟩) lX3).trans hXr
    have hci:=(hbi.cell (p:=⟨b,o+n,none⟩) (World.block_lt_of_cell? _ _ hc0)).trans hc0
    have hdi:=hd0.below hbi (Nat.le_refl _)
    have hbw:=b1.trans ((hbr.trans (hbi.mono hbr.size)).mono b1.size)
    by_cases hkt:k < t.length
    ·obtain ⟨rfl⟩:=hdi.addr (by omega)
     have hat:=hdi.row k hkt
     have HKX:Hid ((M.usesP pl) t[k]=false→∀ i (hi:i < t.length),i < k+1→(M.usesP pl) t[i]=false):=fun h0 i hi h1=>by
      rcases Nat.lt_or_ge i k with h2 | h2
      ·exact HK.out i hi h2
      ·obtain rfl:i=k:=by omega
       exact h0
     have HYK:Hid ((M.usesP pl) t[k]=true→M.anyK (M.usesP pl) ll=true):=HY.out k hkt
     generalize t[k]=d at *
     obtain ⟨kk,pp,vv⟩:=d
     obtain ⟨ck,cp,cv'⟩:=hat
     have j1:(k:Int) < t.length:=by omega
     have bA:=below1 wr (.cells #[.int .i64 kk,.int .i64 pp,.int .i64 vv] 56)
     have bwA:=hbw.trans (bA.mono hbw.size)
     have biA:=hbi.trans (bA.mono hbi.size)
     cases hf:M.usesP pl ⟨kk,pp,vv⟩
     ·have hfk:=HKX.out hf
      unfold M.usesP at hf
      simp only at hf
      cases h1:(pp==pl)
      ·go_wp2_with fail
       exact ⟨⟨biA,k+1,by go_num,by omega,hfk⟩,by simp [intOf];omega⟩
      ·cases h4:(kk != 4)
       ·go_wp2_with fail
        exact ⟨⟨biA,k+1,by go_num,by omega,hfk⟩,by simp [intOf];omega⟩
       ·cases h7:(kk != 7)
        ·go_wp2_with fail
         exact ⟨⟨biA,k+1,by go_num,by omega,hfk⟩,by simp [intOf];omega⟩
        ·cases h8:(kk != 8)
         ·go_wp2_with fail
          exact ⟨⟨biA,k+1,by go_num,by omega,hfk⟩,by simp [intOf];omega⟩
         ·cases h9:(kk != 9)
          ·go_wp2_with fail
           exact ⟨⟨biA,k+1,by go_num,by omega,hfk⟩,by simp [intOf];omega⟩
          ·simp [h1,h4,h7,h8,h9] at hf
     ·have hy:=HYK.out hf
      unfold M.usesP at hf
      simp only [Bool.and_eq_true] at hf
      obtain ⟨h1,h4,h7,h8,h9⟩:=hf
      go_wp2_with fail
      go_ret
      exact ⟨rfl,bwA⟩
    ·have j1:¬ (k:Int) < t.length:=by omega
     have hT:M.anyT (M.usesP pl) t=false:=M.anyT_all (by omega) HK.out
     go_wp2_with fail
     exact ⟨⟨hbr.trans (hbi.mono hbr.size),n+1,by go_num,by omega,HNX.out hT⟩,by simp [intOf];omega⟩
  ·have hkn':¬ (n:Int) < ll.length:=by omega
   have hF:M.anyK (M.usesP pl) ll=false:=M.anyK_all (by omega) HN.out
   go_wp2_with fail
   go_ret
   exact ⟨rfl,b1.trans (hbr.mono b1.size)⟩
end Go.Proofs.YtihfibjckkmmbaaGreat
namespace Go.Proofs.YtihfibjckkmmbaaGreat
open Go.RowKit
namespace M
def twoUse (ll mm:List (List D)) (p:Int):Bool:=anyK (usesP p) ll&&anyK (usesP p) mm
def ownP (ll mm:List (List D)):Bool:=!twoUse ll mm 0&&(!twoUse ll mm 1&&!twoUse ll mm 2)
theorem ownP_no {ll mm:List (List D)} {n:Nat} (hn:n < 3) (h:twoUse ll mm n=true):ownP ll mm=false:=by
 match n,hn with
 | 0,_=>unfold ownP;rw [show twoUse ll mm 0=true from h];rfl
 | 1,_=>unfold ownP;rw [show twoUse ll mm 1=true from h];simp
 | 2,_=>unfold ownP;rw [show twoUse ll mm 2=true from h];simp
theorem ownP_yes {ll mm:List (List D)} (h:∀ i:Nat,i < 3→twoUse ll mm i=false):ownP ll mm=true:=by
 have h0:=h 0 (by omega)
 have h1:=h 1 (by omega)
 have h2:=h 2 (by omega)
 unfold ownP
 rw [show twoUse ll mm 0=false from h0,show twoUse ll mm 1=false from h1,show twoUse ll mm 2=false from h2]
 rfl
theorem usesP_iff (p:Int) (d:D) (hk:doOk d=true):usesP p d=(M.uses d.k&&d.p==p):=by
 obtain ⟨k,q,v⟩:=d
 have h:1≤k∧k≤9:=by
  by_cases h:1≤k∧k≤9
  ·exact h
  ·simp only [doOk,Bool.and_eq_true] at hk
   have:=hk.1.1
   simp only [wordOk,Bool.and_eq_true,decide_eq_true_eq] at this
   omega
 unfold usesP
 simp only
 rcases (show k=1∨k=2∨k=3∨k=4∨k=5∨k=6∨k=7∨k=8∨k=9 by omega) with rfl | rfl | rfl | rfl | rfl | rfl | rfl | rfl | rfl<;>cases hq:(q==p)<;>rfl
theorem uAt_eq {ll:List (List D)} (hp:prog ll=true) (p:Int):uAt ll p=anyK (usesP p) ll:=by
 rw [Bool.eq_iff_iff]
 constructor
 ·intro h
  obtain ⟨x,hx,h⟩:=List.any_eq_true.1 h
  obtain ⟨l,hl,hd⟩:=mem_deeds hx
  refine List.any_eq_true.2 ⟨l,hl,List.any_eq_true.2 ⟨x.d,hd,?_⟩⟩
  rw [usesP_iff p x.d (prog_dos hp l hl x.d hd)]
  exact h
 ·intro h
  obtain ⟨l,hl,h⟩:=List.any_eq_true.1 h
  obtain ⟨d,hd,h⟩:=List.any_eq_true.1 h
  obtain ⟨x,hx,rfl⟩:=ev_deF ll 0 0 l hl hd
  rw [usesP_iff p x.d (prog_dos hp l hl x.d hd)] at h
  exact List.any_eq_true.2 ⟨x,hx,h⟩
theorem own_of {ll mm:List (List D)} (hp:prog ll=true) (hq:prog mm=true) (h:ownP ll mm=true):Own ll mm:=by
 intro p h0 h3 h1 h2
 rw [uAt_eq hp] at h1
 rw [uAt_eq hq] at h2
 have:twoUse ll mm p=true:=by unfold twoUse;rw [h1,h2];rfl
 obtain ⟨n,rfl⟩:=Int.eq_ofNat_of_zero_le h0
 rw [ownP_no (by omega) this] at h
 cases h
end M
set_option maxHeartbeats 1000000 in
set_option maxRecDepth 100000 in
theorem lpOwn_any (a:Option Addr) (b o c:Nat) (ll:List (List M.D)) (a2:Option Addr) (b2 o2 c2:Nat) (mm:List (List M.D)) (w:World) (hl:ll.length≤1048576) (hls:∀ t∈ll,t.length≤1048576) (hm:mm.length≤1048576) (hms:∀ t∈mm,t.length≤1048576) (h:DoSS w a b o ll) (hh:DoSS w a2 b2 o2 mm) :
  Calls Tryz.prog 25 #[.agg #[.slice a ll.length c],.agg #[.slice a2 mm.length c2]] w fun e w'=>e=.returned (.bool (M.ownP ll mm))∧Below w.heap.size w w':=by
 have bA:=below2 w (.cells #[.slice a ll.length c] 25) (.cells #[.slice a2 mm.length c2] 25)
 have sP:=(Slot1.new w (.slice a ll.length c) 25).bl' (below1 _ (.cells #[.slice a2 mm.length c2] 25))
 have sQ:=Slot1.new (w.alloc (.cells #[.slice a ll.length c] 25)) (.slice a2 mm.length c2) 25
 rw [World.size_alloc] at sQ
 have ssP:=h.below bA (Nat.le_refl _)
 have ssQ:=hh.below bA (Nat.le_refl _)
 go_enter Tryz.func25,Tryz.ntmps25
 go_wp2_with fail
 generalize (w.alloc (.cells #[.slice a ll.length c] 25)).alloc (.cells #[.slice a2 mm.length c2] 25)=W0 at *
 go_loopw [5] (fun s wr=>∃ n:Nat,s=.int .i64 n∧n≤3∧Below W0.heap.size W0 wr∧Hid (∀ i:Nat,i < n→M.twoUse ll mm i=false)) (fun s _=>3 - (intOf s).toNat)
 case atStart=>exact ⟨0,rfl,by omega,Below.refl _ _,fun i hi=>absurd hi (Nat.not_lt_zero _)⟩
 case round =>
  obtain ⟨n,rfl,hn,hb,HN⟩:=hrel
  have x0:=(sP.bl' hb).c
  have x1:=(sQ.bl' hb).c
  have bw:=bA.trans (hb.mono bA.size)
  by_cases hlt:n < 3
  ·have i1:(n:Int) < 3:=by omega
   have HX:Hid (M.twoUse ll mm n=false→∀ i:Nat,i < n+1→M.twoUse ll mm i=false):=fun h i hi=>by
    rcases Nat.lt_or_ge i n with h2 | h2
    ·exact HN.out i h2
    ·obtain rfl:i=n:=by omega
     exact h
   have HY:Hid (M.twoUse ll mm n=true→M.ownP ll mm=false):=fun h=>M.ownP_no hlt h
   have C1:=lpUses_any a b o c ll (n:Int) wr hl hls (ssP.below hb (Nat.le_refl _))
   have C2:=fun (W:World) (h:Below wr.heap.size wr W)=>lpUses_any a2 b2 o2 c2 mm (n:Int) W hm hms ((ssQ.below hb (Nat.le_refl _)).below h (Nat.le_refl _))
   have HT:Hid (M.twoUse ll mm n=(M.anyK (M.usesP n) ll&&M.anyK (M.usesP n) mm)):=rfl
   have l1:=(sQ.bl' hb).lt
   cases hu:M.anyK (M.usesP (n:Int)) ll
   ·rw [hu] at C1
    have hf:=HX.out (by rw [HT.out,hu];rfl)
    clear HT hu
    go_wp2_with (go_at_call 27;refine C1.mono ?_;rintro e W1 ⟨rfl,b1⟩)
    exact ⟨⟨n+1,by go_num,by omega,hb.trans (b1.mono hb.size),hf⟩,by simp [intOf];omega⟩
   ·rw [hu] at C1
    cases hv:M.anyK (M.usesP (n:Int)) mm
    ·rw [hv] at C2
     have hf:=HX.out (by rw [HT.out,hu,hv];rfl)
     clear HT hu hv
     go_wp2_with fail
     refine C1.mono ?_
     rintro e W1 ⟨rfl,b1⟩
     have x2:=(b1.cell (p:=⟨w.heap.size+1,0,none⟩) l1).trans x1
     go_wp2_with fail
     refine (C2 W1 b1).mono ?_
     rintro e W2 ⟨rfl,b2⟩
     go_wp2_with fail
     exact ⟨⟨n+1,by go_num,by omega,hb.trans ((b1.trans (b2.mono b1.size)).mono hb.size),hf⟩,by simp [intOf];omega⟩
    ·rw [hv] at C2
     have hf:=HY.out (by rw [HT.out,hu,hv];rfl)
     clear HT hu hv
     go_wp2_with fail
     refine C1.mono ?_
     rintro e W1 ⟨rfl,b1⟩
     have x2:=(b1.cell (p:=⟨w.heap.size+1,0,none⟩) l1).trans x1
     go_wp2_with fail
     refine (C2 W1 b1).mono ?_
     rintro e W2 ⟨rfl,b2⟩
     go_wp2_with fail
     go_ret
     exact ⟨by first | rfl | (rw [hf];rfl),bw.trans ((b1.trans (b2.mono b1.size)).mono bw.size)⟩
  ·have i1:¬ (n:Int) < 3:=by omega
   have hf:=M.ownP_yes (ll:=ll) (mm:=mm) fun i hi=>HN.out i (by omega)
   go_wp2_with fail
   go_ret
   exact ⟨by first | rfl | (rw [hf];rfl),bw⟩
end Go.Proofs.YtihfibjckkmmbaaGreat
