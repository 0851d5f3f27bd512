/- The law's own look at sizes: behind it, if it is not below nought, a program has at most 1048576 threads, each of at most 1048576 steps. How many ways there are at most, more sharply; and rows of things of two cells. No condition. What both tell of all ways, read: they are the same. No condition. -/
import Derived.Maps.OwnIn
import Derived.Deep.OwnRows
import Derived.Test.YtegommoflmmahaaGreatRows
import Derived.Test.YtegommoflmmahaaGreatQuay
import Derived.Test.YtegommoflmmahaaGreatQubb
namespace Go.Proofs.YtegommoflmmahaaGreat
section
open Go.RowKit
set_option maxHeartbeats 400000 in
theorem szDoS_any (a:Option Addr) (n c:Nat) (left:Int) (w:World) (h0:0≤left) (h1:left≤1048576) (hn:n≤9223372036854775807) :
  Calls Tryz.prog 121 #[.slice a n c,.int .i64 left] w fun e w'=>∃ r:Int,e=.returned (.int .i64 r)∧w'=w∧r≤1048576∧(r < 0∨(0≤r∧n≤1048576)):=by
 by_cases hs:left - n < 0
 ·go_enter Tryz.func121,Tryz.ntmps121
  go_wp2_with fail
  go_ret
  exact ⟨-1,rfl,rfl,by omega,Or.inl (by omega)⟩
 ·go_enter Tryz.func121,Tryz.ntmps121
  go_wp2_with fail
  go_ret
  exact ⟨left - n,rfl,rfl,by omega,Or.inr ⟨by omega,by omega⟩⟩
set_option maxHeartbeats 400000 in
theorem szDoSS_le (a:Option Addr) (b o c:Nat) (ll:List (List M.D)) (left:Int) (w:World) (h0:0≤left) (h1:left≤1048576) (hl:ll.length≤9223372036854775807) (hls:∀ t∈ll,t.length≤9223372036854775807) (h:DoSS w a b o ll) :
  Calls Tryz.prog 65 #[.slice a ll.length c,.int .i64 left] w fun e w'=>∃ r:Int,e=.returned (.int .i64 r)∧w'=w∧(r < 0∨(r≤1048576∧0≤r∧ll.length≤1048576∧∀ t∈ll,t.length≤1048576)):=by
 by_cases hs:left - ll.length < 0
 ·go_enter Tryz.func65,Tryz.ntmps65
  go_wp2_with fail
  go_ret
  exact ⟨-1,rfl,rfl,Or.inl (by omega)⟩
 ·go_enter Tryz.func65,Tryz.ntmps65
  go_wp2_with fail
  go_loopw [1,5] (fun s1 s5 wr=>∃ (r:Int) (n:Nat),s1=.int .i64 r∧s5=.int .i64 n∧n≤ll.length∧0≤r∧r≤1048576∧(∀ q (_:q < n) (hq:q < ll.length),ll[q].length≤1048576)∧wr=w) (fun _ s5 _=>ll.length - (intOf s5).toNat)
  case atStart=>exact ⟨_,0,rfl,rfl,Nat.zero_le _,by omega,by omega,fun q hq _=>absurd hq (Nat.not_lt_zero _),rfl⟩
  case round =>
   obtain ⟨r,n,rfl,rfl,hn,hr0,hr1,hall,rfl⟩:=hrel
   have HA:Hid (∀ q (_:q < n) (hq:q < ll.length),ll[q].length≤1048576):=hall
   clear hall
   by_cases hlt:n < ll.length
   ·obtain ⟨rfl⟩:=h.addr (by omega)
    obtain ⟨a',b',o',c',hc,hd⟩:=h.row n hlt
    have hlt':=hls _ (List.getElem_mem hlt)
    go_wp2_with (go_at_call 121;refine (szDoS_any a' _ c' r _ hr0 hr1 hlt').mono ?_;rintro e w1 ⟨r',rfl,rfl,hr',hor⟩)
    ·go_ret
     exact ⟨-1,rfl,rfl,Or.inl (by omega)⟩
    ·exact ⟨⟨r',n+1,rfl,by go_num,by omega,by omega,hr',fun q hq hql=>by
      by_cases e:q=n
      ·subst e;omega
      ·exact HA.out q (by omega) hql,trivial⟩,by simp [intOf];omega⟩
   ·go_wp2_with fail
    go_ret
    exact ⟨r,rfl,rfl,Or.inr ⟨hr1,hr0,by omega,fun t ht=>by
     obtain ⟨q,hq,rfl⟩:=List.getElem_of_mem ht
     exact HA.out q (by omega) hq⟩⟩
set_option maxHeartbeats 400000 in
theorem szProg_le (a:Option Addr) (b o c:Nat) (ll:List (List M.D)) (w:World) (hl:ll.length≤9223372036854775807) (hls:∀ t∈ll,t.length≤9223372036854775807) (h:DoSS w a b o ll) :
  Calls Tryz.prog 25 #[.agg #[.slice a ll.length c],.int .i64 1048576] w fun e w'=>∃ r:Int,e=.returned (.int .i64 r)∧w'=w.alloc (.cells #[.slice a ll.length c] 55)∧(r < 0∨(r≤1048576∧0≤r∧ll.length≤1048576∧∀ t∈ll,t.length≤1048576)):=by
 go_enter Tryz.func25,Tryz.ntmps25
 go_wp2_with (go_at_call 65;refine (szDoSS_le a b o c ll _ _ (by decide) (by decide) hl hls (h.below (below1 w _) (Nat.le_refl _))).mono ?_;rintro e w1 ⟨r',rfl,rfl,hor⟩)
 ·go_ret
  exact ⟨-1,rfl,rfl,Or.inl (by omega)⟩
 ·go_ret
  exact ⟨r',rfl,rfl,hor⟩
end
section
open Go.RowKit
namespace M
theorem use_split:∀ (ds:List De),rdN ds+(ds.filter fun x=>M.writes x.d.k).length≤useN ds
 | []=>by simp [rdN,useN]
 | x::ds=>by
  have ih:=use_split ds
  have hx:(if x.reads then 1 else 0)+(if M.writes x.d.k then 1 else 0)≤if uses x.d.k then 1 else 0:=by
   simp only [De.reads,uses,writes,stores,reads]
   by_cases h2:x.d.k=2
   ·simp [h2]
   ·by_cases h5:x.d.k=5
    ·simp [h5]
    ·simp [h2,h5]
  unfold rdN useN at *
  simp only [List.filter_cons]
  split<;>split<;>split<;>simp_all<;>omega
theorem ways_le2 {ll:List (List D)} (h:prog ll=true):(ways (deeds ll)).length≤117649:=by
 have hu:=use6 h
 have hs:=use_split (deeds ll)
 have hw3:=wrs_three 0 (deeds ll)
 have hf:=fromsOf_len (deeds ll) 7 (fun p=>by have:=wr6 hu p;omega) (deeds ll).length [] (by simp)
 simp only [List.length_nil,List.drop_zero] at hf
 have hr:=fun p:Int=>rows6 h p
 have ho:(ordersOf (deeds ll)).length≤6 ^ ((wrs 0 0 (deeds ll)).length+(wrs 1 0 (deeds ll)).length+(wrs 2 0 (deeds ll)).length):=by
  unfold ordersOf
  rw [addPlace_len,addPlace_len,addPlace_len]
  simp only [List.length_singleton,Nat.one_mul]
  rw [Nat.pow_add,Nat.pow_add]
  exact Nat.mul_le_mul (Nat.mul_le_mul (hr 0) (hr 1)) (hr 2)
 have key:∀ (fs:List (List Int)),(fs.flatMap fun f=>if ends (deeds ll) f then (ordersOf (deeds ll)).map fun o=>(f,o) else []).length≤fs.length * (ordersOf (deeds ll)).length:=fun fs=>flatMap_le _ _ fs (fun f _=>by
  split
  ·simp
  ·simp)
 rw [ways_eq (cop_deeds ll)]
 unfold allWays
 refine Nat.le_trans (key _) ?_
 have h67:6 ^ ((wrs 0 0 (deeds ll)).length+(wrs 1 0 (deeds ll)).length+(wrs 2 0 (deeds ll)).length)≤7 ^ ((wrs 0 0 (deeds ll)).length+(wrs 1 0 (deeds ll)).length+(wrs 2 0 (deeds ll)).length):=Nat.pow_le_pow_left (by omega) _
 refine Nat.le_trans (Nat.mul_le_mul hf (Nat.le_trans ho h67)) ?_
 rw [← Nat.pow_add]
 exact Nat.le_trans (Nat.pow_le_pow_right (by omega) (show _≤6 by omega)) (by decide)
end M
theorem IntS.fr' {w W:World} {D:Nat→Prop} {a:Option Addr} {b o:Nat} {l:List Int} (h:IntS w a b o l) (hf:Fr D w W) (hD:0 < l.length→D b):IntS W a b o l :=
 ⟨h.addr,fun i hi=>hf.cell (p:=⟨b,o+i,none⟩) (hD (by omega)) (h.row i hi)⟩
end
section
open Go.RowKit
theorem M.mem_execAll {ll:List (List M.D)} {x:M.Wy}:x∈M.specAll ll↔M.execOk ll x.1 x.2=true:=by
 unfold M.specAll M.execOk
 cases hp:M.prog ll
 ·simp
 ·rw [if_pos rfl,Bool.true_and]
  exact M.mem_all
structure WyLe (x:M.Wy):Prop where
 a:x.1.length≤1048576
 b:x.2.length≤1048576
 c:∀ r∈x.2,r.length≤1048576
theorem own_two {w:World} {base n:Nat} {e:TypeId} {v:Value} {xs:List Value} (h:w.ownsRow base e 2 v n xs):∃ a g c,v=.slice a n c∧(0 < n→a=some ⟨g,0,none⟩)∧∀ j u,xs[j]?=some u→w.cell? ⟨g,j,none⟩=some u:=by
 rcases h.2 with ⟨hv,hn⟩ | ⟨g,cap,cur,hv,hg,hh,hc,r⟩
 ·have hx:xs=[]:=List.length_eq_zero_iff.1 (by rw [h.1,hn])
  subst hx
  exact ⟨none,0,0,by rw [hv,hn],fun h=>absurd h (by omega),fun j u hj=>(by simp at hj)⟩
 ·refine ⟨_,g,cap,hv,fun _=>rfl,fun j u hj=>?_⟩
  have:=h.cells (g:=g) (by rw [hv];rfl) j u hj
  rwa [Go.WideShapes.add_plain,Nat.zero_add] at this
theorem Xw.lw {W:World} {B:Nat} {fv ov:Value} {x:M.Wy} {cs:List Value} (h:Xw W B fv ov x.1 cs x.2):∃ fa fb fc ra rb rc,fv=.slice fa x.1.length fc∧ov=.slice ra x.2.length rc∧IntS W fa fb 0 x.1∧IntSS W ra rb 0 x.2:=h.reads
end
end Go.Proofs.YtegommoflmmahaaGreat
