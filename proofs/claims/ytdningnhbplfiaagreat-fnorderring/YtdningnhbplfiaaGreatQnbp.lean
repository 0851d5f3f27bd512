/- laws.lpReaders, lpWaits, lpUses: whether a step of a kind, or of a place, is there. Of at most 1048576 threads and steps. The laws' own comparing of ways: laws.lpInts, lpExec. Of lists of at most 1048576 numbers and rows. -/
import Derived.Deep.WholeRow
import Derived.Laws.AppendOwnNone
import Derived.Test.YtdningnhbplfiaaGreatRows
import Derived.Test.YtdningnhbplfiaaGreatQnap
import Derived.Test.YtdningnhbplfiaaGreatQnbo
namespace Go.Proofs.YtdningnhbplfiaaGreat
section
open Go.RowKit
namespace M
def anyT (f:D→Bool) (t:List D):Bool:=t.any f
def anyK (f:D→Bool) (ll:List (List D)):Bool:=ll.any (anyT f)
theorem anyK_no {f:D→Bool} {ll:List (List D)} (h:anyK f ll=false):∀ t∈ll,∀ d∈t,f d=false:=fun t ht d hd=>by
 have h1:=List.any_eq_false.1 h t ht
 have h2:=List.any_eq_false.1 (Bool.eq_false_iff.2 h1) d hd
 exact Bool.eq_false_iff.2 h2
theorem anyK_all {f:D→Bool} {ll:List (List D)} {n:Nat} (hn:ll.length≤n) (h:∀ i (hi:i < ll.length),i < n→anyT f ll[i]=false):anyK f ll=false:=by
 unfold anyK
 rw [List.any_eq_false]
 intro t ht
 obtain ⟨i,hi,rfl⟩:=List.getElem_of_mem ht
 rw [h i hi (by omega)]
 simp
theorem anyT_all {f:D→Bool} {t:List D} {n:Nat} (hn:t.length≤n) (h:∀ i (hi:i < t.length),i < n→f t[i]=false):anyT f t=false:=by
 unfold anyT
 rw [List.any_eq_false]
 intro d hd
 obtain ⟨i,hi,rfl⟩:=List.getElem_of_mem hd
 rw [h i hi (by omega)]
 simp
theorem anyK_yes {f:D→Bool} {ll:List (List D)} {n k:Nat} (hn:n < ll.length) (hk:k < ll[n].length) (h:f ll[n][k]=true):anyK f ll=true:=by
 unfold anyK
 rw [List.any_eq_true]
 refine ⟨ll[n],List.getElem_mem hn,?_⟩
 unfold anyT
 rw [List.any_eq_true]
 exact ⟨ll[n][k],List.getElem_mem hk,h⟩
end M
set_option maxHeartbeats 2000000 in
set_option maxRecDepth 100000 in
theorem lpWaits_any (a:Option Addr) (b o c:Nat) (ll:List (List M.D)) (w:World) (hl:ll.length≤1048576) (hls:∀ t∈ll,t.length≤1048576) (h:DoSS w a b o ll) :
  Calls Tryz.prog 36 #[.agg #[.slice a ll.length c]] w fun e w'=>e=.returned (.bool (M.anyK (fun d=>d.k==9) ll))∧Below w.heap.size w w':=by
 have b1:=below1 w (.cells #[.slice a ll.length c] 35)
 have hX:=(Slot1.new w (.slice a ll.length c) 35).c
 have hD:=h.below b1 (Nat.le_refl _)
 go_enter Tryz.func36,Tryz.ntmps36
 go_wp2_with fail
 generalize w.alloc (.cells #[.slice a ll.length c] 35)=W2 at *
 go_loopw [3] (fun s wr=>Below W2.heap.size W2 wr∧∃ n:Nat,s=.int .i64 n∧n≤ll.length∧Hid (∀ i (hi:i < ll.length),i < n→M.anyT (fun d=>d.k==9) ll[i]=false)) (fun s _=>ll.length - (intOf s).toNat)
 case atStart=>exact ⟨Below.refl _ _,0,rfl,Nat.zero_le _,fun i hi h=>absurd h (Nat.not_lt_zero _)⟩
 case round =>
  obtain ⟨hbr,n,rfl,hn,HN⟩:=hrel
  have lX:=World.block_lt_of_cell? _ _ hX
  have hXr:=(hbr.cell (p:=⟨w.heap.size,0,none⟩) lX).trans hX
  have hDr:=hD.below hbr (Nat.le_refl _)
  by_cases hlt:n < ll.length
  ·obtain ⟨rfl⟩:=h.addr (by omega)
   obtain ⟨a',b',o',c',hc0,hd0⟩:=hDr.row n hlt
   have htl:=hls _ (List.getElem_mem hlt)
   have HNX:Hid (M.anyT (fun d=>d.k==9) ll[n]=false→∀ i (hi:i < ll.length),i < n+1→M.anyT (fun d=>d.k==9) ll[i]=false):=fun h0 i hi h1=>by
    rcases Nat.lt_or_ge i n with h2 | h2
    ·exact HN.out i hi h2
    ·obtain rfl:i=n:=by omega
     exact h0
   have HY:Hid (∀ k (hk:k < ll[n].length),(fun d=>d.k==9) ll[n][k]=true→M.anyK (fun d=>d.k==9) ll=true):=fun k hk h0=>M.anyK_yes hlt hk h0
   generalize ll[n]=t at *
   have i1:(n:Int) < ll.length:=by omega
   obtain ⟨W3,hW3⟩:∃ W3,W3=wr:=⟨_,rfl⟩
   subst hW3
   go_wp2_with fail
   go_loopw [4] (fun s wi=>Below W3.heap.size W3 wi∧∃ k:Nat,s=.int .i64 k∧k≤t.length∧Hid (∀ i (hi:i < t.length),i < k→(fun d=>d.k==9) t[i]=false)) (fun s _=>t.length - (intOf s).toNat)
   case atStart=>exact ⟨Below.refl _ _,0,rfl,Nat.zero_le _,fun i hi h=>absurd h (Nat.not_lt_zero _)⟩
   case round =>
    obtain ⟨hbi,k,rfl,hk,HK⟩:=hrel
    have lX3:=World.block_lt_of_cell? _ _ hXr
    have hXi:=(hbi.cell (p:=⟨w.heap.size,0,none⟩) lX3).trans hXr
    have hci:=(hbi.cell (p:=⟨b,o+n,none⟩) (World.block_lt_of_cell? _ _ hc0)).trans hc0
    have hdi:=hd0.below hbi (Nat.le_refl _)
    have hbw:=b1.trans ((hbr.trans (hbi.mono hbr.size)).mono b1.size)
    by_cases hkt:k < t.length
    ·obtain ⟨rfl⟩:=hdi.addr (by omega)
     have hat:=hdi.row k hkt
     have HKX:Hid ((fun d=>d.k==9) t[k]=false→∀ i (hi:i < t.length),i < k+1→(fun d=>d.k==9) t[i]=false):=fun h0 i hi h1=>by
      rcases Nat.lt_or_ge i k with h2 | h2
      ·exact HK.out i hi h2
      ·obtain rfl:i=k:=by omega
       exact h0
     have HYK:Hid ((fun d=>d.k==9) t[k]=true→M.anyK (fun d=>d.k==9) ll=true):=HY.out k hkt
     generalize t[k]=d at *
     obtain ⟨kk,pp,vv⟩:=d
     obtain ⟨ck,cp,cv'⟩:=hat
     have j1:(k:Int) < t.length:=by omega
     cases hf:(kk==9)
     ·go_wp2_with fail
      exact ⟨⟨hbi,k+1,by go_num,by omega,HKX.out hf⟩,by simp [intOf];omega⟩
     ·have hy:=HYK.out hf
      go_wp2_with fail
      go_ret
      exact ⟨rfl,hbw⟩
    ·have j1:¬ (k:Int) < t.length:=by omega
     have hT:M.anyT (fun d=>d.k==9) t=false:=M.anyT_all (by omega) HK.out
     go_wp2_with fail
     exact ⟨⟨hbr.trans (hbi.mono hbr.size),n+1,by go_num,by omega,HNX.out hT⟩,by simp [intOf];omega⟩
  ·have hkn':¬ (n:Int) < ll.length:=by omega
   have hF:M.anyK (fun d=>d.k==9) ll=false:=M.anyK_all (by omega) HN.out
   go_wp2_with fail
   go_ret
   exact ⟨rfl,b1.trans (hbr.mono b1.size)⟩
end
section
open Go.RowKit Go.Shelf
set_option maxHeartbeats 400000 in
theorem lpIntsX_any (a:Option Addr) (b o c:Nat) (l:List Int) (a2:Option Addr) (b2 o2 c2:Nat) (m:List Int) (w:World) (hl:l.length≤1048576) (h:IntS w a b o l) (h2:IntS w a2 b2 o2 m) :
  Calls Tryz.prog 26 #[.slice a l.length c,.slice a2 m.length c2] w fun e w'=>e=.returned (.bool (M.same l m))∧Grown w w':=by
 by_cases hlm:l.length=m.length
 ·have hlm':((l.length:Int)==m.length)=true:=by simp;omega
  have hlm2:(l.length:Int)=m.length:=by omega
  go_enter Tryz.func26,Tryz.ntmps26
  go_wp2_with fail
  go_loopw [5] (fun s5 wr=>∃ n:Nat,s5=.int .i64 n∧n≤l.length∧(∀ q (_:q < n) (h1:q < l.length) (h2:q < m.length),l[q]=m[q])∧Grown w wr) (fun s5 _=>l.length - (intOf s5).toNat)
  case atStart=>exact ⟨0,rfl,Nat.zero_le _,fun _ hq _ _=>absurd hq (Nat.not_lt_zero _),Grown.refl _⟩
  case round =>
   obtain ⟨n,rfl,hn,hall,hg⟩:=hrel
   have HA:Hid (∀ q (_:q < n) (h1:q < l.length) (h2:q < m.length),l[q]=m[q]):=hall
   clear hall
   by_cases hlt:n < l.length
   ·have hmt:n < m.length:=by omega
    obtain ⟨rfl⟩:=h.addr (by omega)
    obtain ⟨rfl⟩:=h2.addr (by omega)
    have hc:=(h.below hg.bel (Nat.le_refl _)).row n hlt
    have hc2:=(h2.below hg.bel (Nat.le_refl _)).row n hmt
    have HD:Hid (l.drop n=l[n]::l.drop (n+1)):=M.drop_int l n hlt
    have HD2:Hid (m.drop n=m[n]::m.drop (n+1)):=M.drop_int m n hmt
    have i1:(n:Int) < l.length:=by omega
    have i2:(n:Int) < m.length:=by omega
    by_cases hxy:l[n]=m[n]
    ·have HX:Hid (l[n]=m[n]):=hxy
     rw [← hxy] at hc2
     clear hxy HD HD2
     generalize l[n]=x at hc hc2
     go_wp2_with fail
     go_quiet (fail)
     go_wp2_with fail
     exact ⟨⟨n+1,by go_num,by omega,fun q hq h1 h2=>by
      by_cases e:q=n
      ·subst e;exact HX.out
      ·exact HA.out q (by omega) h1 h2,hg.drewN _⟩,by simp [intOf];omega⟩
    ·generalize l[n]=x at hc hxy HD
     generalize m[n]=y at hc2 hxy HD2
     have hxy':(x==y)=false:=by simpa using hxy
     go_wp2_with fail
     go_quiet (fail)
     go_wp2_with fail
     go_ret
     exact ⟨ret_bool (M.same_bad HD.out HD2.out hxy).symm,hg.drewN _⟩
   ·go_wp2_with fail
    go_ret
    exact ⟨ret_bool (M.same_fin hlm fun q h1 h2=>HA.out q (by omega) h1 h2).symm,hg⟩
 ·have hlm':((l.length:Int)==m.length)=false:=by simp;omega
  have hlm2:¬ (l.length:Int)=m.length:=by omega
  go_enter Tryz.func26,Tryz.ntmps26
  go_wp2_with fail
  go_ret
  exact ⟨ret_bool (M.same_len hlm).symm,Grown.refl _⟩
end
end Go.Proofs.YtdningnhbplfiaaGreat
