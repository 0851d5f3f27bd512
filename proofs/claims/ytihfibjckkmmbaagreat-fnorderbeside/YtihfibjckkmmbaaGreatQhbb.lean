/- How many ways there are at most, more sharply; and rows of things of two cells. No condition. -/
import Derived.Below
import Derived.Deep.AppendLies
import Derived.Deep.Quiet
import Derived.Deep.QuietTactic
import Derived.Deep.RegionHeld3
import Derived.Laws.AppendOwnNone
import Derived.RangeFuncNested
import Derived.Sort.Grow
import Derived.WalkKit
import Derived.WalkLawsBesides
import Derived.WalkSpells
import Derived.Test.YtihfibjckkmmbaaGreatRows
import Derived.Test.YtihfibjckkmmbaaGreatQhba
namespace Go.Proofs.YtihfibjckkmmbaaGreat
open Go.RowKit
namespace M
theorem use_split:∀ (ds:List De),rdN ds+(ds.filter fun x=>M.writes x.d.k).length≤useN ds
 | []=>by simp [rdN,useN]
 | x::ds=>by
  have ih:=use_split ds
  have hx:(if x.reads then 1 else 0)+(if M.writes x.d.k then 1 else 0)≤if uses x.d.k then 1 else 0:=by
   simp only [De.reads,uses,writes,stores,reads]
   by_cases h2:x.d.k=2
   ·simp [h2]
   ·by_cases h5:x.d.k=5
    ·simp [h5]
    ·simp [h2,h5]
  unfold rdN useN at *
  simp only [List.filter_cons]
  split<;>split<;>split<;>simp_all<;>omega
theorem ways_le2 {ll:List (List D)} (h:prog ll=true):(ways (deeds ll)).length≤117649:=by
 have hu:=use6 h
 have hs:=use_split (deeds ll)
 have hw3:=wrs_three 0 (deeds ll)
 have hf:=fromsOf_len (deeds ll) 7 (fun p=>by have:=wr6 hu p;omega) (deeds ll).length [] (by simp)
 simp only [List.length_nil,List.drop_zero] at hf
 have hr:=fun p:Int=>rows6 h p
 have ho:(ordersOf (deeds ll)).length≤6 ^ ((wrs 0 0 (deeds ll)).length+(wrs 1 0 (deeds ll)).length+(wrs 2 0 (deeds ll)).length):=by
  unfold ordersOf
  rw [addPlace_len,addPlace_len,addPlace_len]
  simp only [List.length_singleton,Nat.one_mul]
  rw [Nat.pow_add,Nat.pow_add]
  exact Nat.mul_le_mul (Nat.mul_le_mul (hr 0) (hr 1)) (hr 2)
 have key:∀ (fs:List (List Int)),(fs.flatMap fun f=>if ends (deeds ll) f then (ordersOf (deeds ll)).map fun o=>(f,o) else []).length≤fs.length * (ordersOf (deeds ll)).length:=fun fs=>flatMap_le _ _ fs (fun f _=>by
  split
  ·simp
  ·simp)
 rw [ways_eq (cop_deeds ll)]
 unfold allWays
 refine Nat.le_trans (key _) ?_
 have h67:6 ^ ((wrs 0 0 (deeds ll)).length+(wrs 1 0 (deeds ll)).length+(wrs 2 0 (deeds ll)).length)≤7 ^ ((wrs 0 0 (deeds ll)).length+(wrs 1 0 (deeds ll)).length+(wrs 2 0 (deeds ll)).length):=Nat.pow_le_pow_left (by omega) _
 refine Nat.le_trans (Nat.mul_le_mul hf (Nat.le_trans ho h67)) ?_
 rw [← Nat.pow_add]
 exact Nat.le_trans (Nat.pow_le_pow_right (by omega) (show _≤6 by omega)) (by decide)
end M
theorem IntS.fr' {w W:World} {D:Nat→Prop} {a:Option Addr} {b o:Nat} {l:List Int} (h:IntS w a b o l) (hf:Fr D w W) (hD:0 < l.length→D b):IntS W a b o l :=
 ⟨h.addr,fun i hi=>hf.cell (p:=⟨b,o+i,none⟩) (hD (by omega)) (h.row i hi)⟩
theorem own_twoS {w:World} {base n:Nat} {e:TypeId} {v:Value} {xs:List Value} (h:w.ownsRow base e 2 v n xs):∃ a g c,v=.slice a n c∧(0 < n→a=some ⟨g,0,none⟩)∧∀ j u,xs[j]?=some u→w.cell? ⟨g,j,none⟩=some u:=by
 rcases h.2 with ⟨hv,hn⟩ | ⟨g,cap,cur,hv,hg,hh,hc,r⟩
 ·have hx:xs=[]:=List.length_eq_zero_iff.1 (by rw [h.1,hn])
  subst hx
  exact ⟨none,0,0,by rw [hv,hn],fun h=>absurd h (by omega),fun j u hj=>(by simp at hj)⟩
 ·refine ⟨_,g,cap,hv,fun _=>rfl,fun j u hj=>?_⟩
  have:=h.cells (g:=g) (by rw [hv];rfl) j u hj
  rwa [Go.WideShapes.add_plain,Nat.zero_add] at this
end Go.Proofs.YtihfibjckkmmbaaGreat
