/- The law's own look at sizes: behind it, if it is not below nought, a program has at most 1048576 threads, each of at most 1048576 steps. -/
import Derived.Deep.OwnRows
import Derived.Test.YtnddmlgnngdaoaaRows
import Derived.Test.YtnddmlgnngdaoaaQjao
namespace Go.Proofs.Ytnddmlgnngdaoaa
section
open Go.RowKit
set_option maxHeartbeats 400000 in
theorem szDoS_any (a:Option Addr) (n c:Nat) (left:Int) (w:World) (h0:0≤left) (h1:left≤1048576) (hn:n≤9223372036854775807) :
  Calls Try.prog 48 #[.slice a n c,.int .i64 left] w fun e w'=>∃ r:Int,e=.returned (.int .i64 r)∧w'=w∧r≤1048576∧(r < 0∨(0≤r∧n≤1048576)):=by
 by_cases hs:left - n < 0
 ·go_enter Try.func48,Try.ntmps48
  go_wp2_with fail
  go_ret
  exact ⟨-1,rfl,rfl,by omega,Or.inl (by omega)⟩
 ·go_enter Try.func48,Try.ntmps48
  go_wp2_with fail
  go_ret
  exact ⟨left - n,rfl,rfl,by omega,Or.inr ⟨by omega,by omega⟩⟩
set_option maxHeartbeats 400000 in
theorem szDoSS_le (a:Option Addr) (b o c:Nat) (ll:List (List M.D)) (left:Int) (w:World) (h0:0≤left) (h1:left≤1048576) (hl:ll.length≤9223372036854775807) (hls:∀ t∈ll,t.length≤9223372036854775807) (h:DoSS w a b o ll) :
  Calls Try.prog 27 #[.slice a ll.length c,.int .i64 left] w fun e w'=>∃ r:Int,e=.returned (.int .i64 r)∧w'=w∧(r < 0∨(r≤1048576∧0≤r∧ll.length≤1048576∧∀ t∈ll,t.length≤1048576)):=by
 by_cases hs:left - ll.length < 0
 ·go_enter Try.func27,Try.ntmps27
  go_wp2_with fail
  go_ret
  exact ⟨-1,rfl,rfl,Or.inl (by omega)⟩
 ·go_enter Try.func27,Try.ntmps27
  go_wp2_with fail
  go_loopw [1,5] (fun s1 s5 wr=>∃ (r:Int) (n:Nat),s1=.int .i64 r∧s5=.int .i64 n∧n≤ll.length∧0≤r∧r≤1048576∧(∀ q (_:q < n) (hq:q < ll.length),ll[q].length≤1048576)∧wr=w) (fun _ s5 _=>ll.length - (intOf s5).toNat)
  case atStart=>exact ⟨_,0,rfl,rfl,Nat.zero_le _,by omega,by omega,fun q hq _=>absurd hq (Nat.not_lt_zero _),rfl⟩
  case round =>
   obtain ⟨r,n,rfl,rfl,hn,hr0,hr1,hall,rfl⟩:=hrel
   have HA:Hid (∀ q (_:q < n) (hq:q < ll.length),ll[q].length≤1048576):=hall
   clear hall
   by_cases hlt:n < ll.length
   ·obtain ⟨rfl⟩:=h.addr (by omega)
    obtain ⟨a',b',o',c',hc,hd⟩:=h.row n hlt
    have hlt':=hls _ (List.getElem_mem hlt)
    go_wp2_with (go_at_call 48;refine (szDoS_any a' _ c' r _ hr0 hr1 hlt').mono ?_;rintro e w1 ⟨r',rfl,rfl,hr',hor⟩)
    ·go_ret
     exact ⟨-1,rfl,rfl,Or.inl (by omega)⟩
    ·exact ⟨⟨r',n+1,rfl,by go_num,by omega,by omega,hr',fun q hq hql=>by
      by_cases e:q=n
      ·subst e;omega
      ·exact HA.out q (by omega) hql,trivial⟩,by simp [intOf];omega⟩
   ·go_wp2_with fail
    go_ret
    exact ⟨r,rfl,rfl,Or.inr ⟨hr1,hr0,by omega,fun t ht=>by
     obtain ⟨q,hq,rfl⟩:=List.getElem_of_mem ht
     exact HA.out q (by omega) hq⟩⟩
set_option maxHeartbeats 400000 in
theorem szProg_le (a:Option Addr) (b o c:Nat) (ll:List (List M.D)) (w:World) (hl:ll.length≤9223372036854775807) (hls:∀ t∈ll,t.length≤9223372036854775807) (h:DoSS w a b o ll) :
  Calls Try.prog 7 #[.agg #[.slice a ll.length c],.int .i64 1048576] w fun e w'=>∃ r:Int,e=.returned (.int .i64 r)∧w'=w.alloc (.cells #[.slice a ll.length c] 24)∧(r < 0∨(r≤1048576∧0≤r∧ll.length≤1048576∧∀ t∈ll,t.length≤1048576)):=by
 go_enter Try.func7,Try.ntmps7
 go_wp2_with (go_at_call 27;refine (szDoSS_le a b o c ll _ _ (by decide) (by decide) hl hls (h.below (below1 w _) (Nat.le_refl _))).mono ?_;rintro e w1 ⟨r',rfl,rfl,hor⟩)
 ·go_ret
  exact ⟨-1,rfl,rfl,Or.inl (by omega)⟩
 ·go_ret
  exact ⟨r',rfl,rfl,hor⟩
end
end Go.Proofs.Ytnddmlgnngdaoaa
