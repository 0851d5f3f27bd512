/- How many ways there are at most, more sharply; and rows of things of two cells. No condition. And what goes with it: WaSpec, LpXe, WaAns, LpL, LpId, LpCt. -/
import Derived.Below
import Derived.BigQuiet
import Derived.Deep.AppendLies
import Derived.Deep.CutRange
import Derived.Deep.MidRow
import Derived.Deep.Quiet
import Derived.Deep.QuietTactic
import Derived.Deep.RegionHeld3
import Derived.Deep.RegionLaw
import Derived.Deep.RegionWith
import Derived.Deep.Slices
import Derived.Deep.WholeRow
import Derived.Handy
import Derived.Laws.AppendOwn
import Derived.Laws.AppendOwnNone
import Derived.Laws.EntriesVeiled
import Derived.Laws.IdiomCopy
import Derived.Laws.OwnMore
import Derived.LoopIn
import Derived.LoopN
import Derived.LoopNIn
import Derived.Maps.AppendAt
import Derived.Maps.OwnIn
import Derived.OwnWalkIn
import Derived.RangeFuncBound
import Derived.RangeFuncLeaves
import Derived.RangeFuncNested
import Derived.Shelf.Abstract
import Derived.Shelf.SlSortCmp.NoneTotal
import Derived.Sort.Grow
import Derived.TacticsInMore
import Derived.WalkKit
import Derived.WalkLawsBesides
import Derived.WalkSpells
import Derived.Deep.OwnRows
import Derived.Test.YtjjkicffhpcngaaGreatRows
import Derived.Test.YtjjkicffhpcngaaGreatBVau
import Derived.Test.YtjjkicffhpcngaaGreatBVav
import Derived.Test.YtjjkicffhpcngaaGreatBVax
namespace Go.Proofs.YtjjkicffhpcngaaGreat
open Go.RowKit
namespace M
theorem use_split:∀ (ds:List De),rdN ds+(ds.filter fun x=>M.writes x.d.k).length≤useN ds
 | []=>by simp [rdN,useN]
 | x::ds=>by
  have ih:=use_split ds
  have hx:(if x.reads then 1 else 0)+(if M.writes x.d.k then 1 else 0)≤if uses x.d.k then 1 else 0:=by
   simp only [De.reads,uses,writes,stores,reads]
   by_cases h2:x.d.k=2
   ·simp [h2]
   ·by_cases h5:x.d.k=5
    ·simp [h5]
    ·simp [h2,h5]
  unfold rdN useN at *
  simp only [List.filter_cons]
  split<;>split<;>split<;>simp_all<;>omega
theorem ways_le2 {ll:List (List D)} (h:prog ll=true):(ways (deeds ll)).length≤117649:=by
 have hu:=use6 h
 have hs:=use_split (deeds ll)
 have hw3:=wrs_three 0 (deeds ll)
 have hf:=fromsOf_len (deeds ll) 7 (fun p=>by have:=wr6 hu p;omega) (deeds ll).length [] (by simp)
 simp only [List.length_nil,List.drop_zero] at hf
 have hr:=fun p:Int=>rows6 h p
 have ho:(ordersOf (deeds ll)).length≤6 ^ ((wrs 0 0 (deeds ll)).length+(wrs 1 0 (deeds ll)).length+(wrs 2 0 (deeds ll)).length):=by
  unfold ordersOf
  rw [addPlace_len,addPlace_len,addPlace_len]
  simp only [List.length_singleton,Nat.one_mul]
  rw [Nat.pow_add,Nat.pow_add]
  exact Nat.mul_le_mul (Nat.mul_le_mul (hr 0) (hr 1)) (hr 2)
 have key:∀ (fs:List (List Int)),(fs.flatMap fun f=>if ends (deeds ll) f then (ordersOf (deeds ll)).map fun o=>(f,o) else []).length≤fs.length * (ordersOf (deeds ll)).length:=fun fs=>flatMap_le _ _ fs (fun f _=>by
  split
  ·simp
  ·simp)
 rw [ways_eq (cop_deeds ll)]
 unfold allWays
 refine Nat.le_trans (key _) ?_
 have h67:6 ^ ((wrs 0 0 (deeds ll)).length+(wrs 1 0 (deeds ll)).length+(wrs 2 0 (deeds ll)).length)≤7 ^ ((wrs 0 0 (deeds ll)).length+(wrs 1 0 (deeds ll)).length+(wrs 2 0 (deeds ll)).length):=Nat.pow_le_pow_left (by omega) _
 refine Nat.le_trans (Nat.mul_le_mul hf (Nat.le_trans ho h67)) ?_
 rw [← Nat.pow_add]
 exact Nat.le_trans (Nat.pow_le_pow_right (by omega) (show _≤6 by omega)) (by decide)
end M
theorem IntS.fr' {w W:World} {D:Nat→Prop} {a:Option Addr} {b o:Nat} {l:List Int} (h:IntS w a b o l) (hf:Fr D w W) (hD:0 < l.length→D b):IntS W a b o l :=
 ⟨h.addr,fun i hi=>hf.cell (p:=⟨b,o+i,none⟩) (hD (by omega)) (h.row i hi)⟩
theorem own_twoS {w:World} {base n:Nat} {e:TypeId} {v:Value} {xs:List Value} (h:w.ownsRow base e 2 v n xs):∃ a g c,v=.slice a n c∧(0 < n→a=some ⟨g,0,none⟩)∧∀ j u,xs[j]?=some u→w.cell? ⟨g,j,none⟩=some u:=by
 rcases h.2 with ⟨hv,hn⟩ | ⟨g,cap,cur,hv,hg,hh,hc,r⟩
 ·have hx:xs=[]:=List.length_eq_zero_iff.1 (by rw [h.1,hn])
  subst hx
  exact ⟨none,0,0,by rw [hv,hn],fun h=>absurd h (by omega),fun j u hj=>(by simp at hj)⟩
 ·refine ⟨_,g,cap,hv,fun _=>rfl,fun j u hj=>?_⟩
  have:=h.cells (g:=g) (by rw [hv];rfl) j u hj
  rwa [Go.WideShapes.add_plain,Nat.zero_add] at this
end Go.Proofs.YtjjkicffhpcngaaGreat
namespace Go.Proofs.YtjjkicffhpcngaaGreat
open Go.RowKit Go.Shelf
structure LW (w:World) (a:Option Addr) (g:Nat) (xs:List M.Wy):Prop where
 addr:0 < xs.length→a=some ⟨g,0,none⟩
 row:∀ i (h:i < xs.length),∃ fa fb fc ra rb rc,w.cell? ⟨g,i * 2,none⟩=some (.slice fa xs[i].1.length fc)∧w.cell? ⟨g,i * 2+1,none⟩=some (.slice ra xs[i].2.length rc)∧IntS w fa fb 0 xs[i].1∧IntSS w ra rb 0 xs[i].2
theorem LW.below {w w':World} {a:Option Addr} {g:Nat} {xs:List M.Wy} (h:LW w a g xs) (hb:Below w.heap.size w w'):LW w' a g xs :=
 ⟨h.addr,fun i hi=>by
  obtain ⟨fa,fb,fc,ra,rb,rc,h1,h2,h3,h4⟩:=h.row i hi
  exact ⟨fa,fb,fc,ra,rb,rc,(hb.cell (p:=⟨g,i * 2,none⟩) (World.block_lt_of_cell? _ _ h1)).trans h1,(hb.cell (p:=⟨g,i * 2+1,none⟩) (World.block_lt_of_cell? _ _ h2)).trans h2,h3.below hb (Nat.le_refl _),h4.below hb (Nat.le_refl _)⟩⟩
end Go.Proofs.YtjjkicffhpcngaaGreat
namespace Go.Proofs.YtjjkicffhpcngaaGreat
open Go.RowKit
theorem M.mem_execAll {ll:List (List M.D)} {x:M.Wy}:x∈M.specAll ll↔M.execOk ll x.1 x.2=true:=by
 unfold M.specAll M.execOk
 cases hp:M.prog ll
 ·simp
 ·rw [if_pos rfl,Bool.true_and]
  exact M.mem_all
structure WyLe (x:M.Wy):Prop where
 a:x.1.length≤1048576
 b:x.2.length≤1048576
 c:∀ r∈x.2,r.length≤1048576
theorem own_two {w:World} {base n:Nat} {e:TypeId} {v:Value} {xs:List Value} (h:w.ownsRow base e 2 v n xs):∃ a g c,v=.slice a n c∧(0 < n→a=some ⟨g,0,none⟩)∧∀ j u,xs[j]?=some u→w.cell? ⟨g,j,none⟩=some u:=by
 rcases h.2 with ⟨hv,hn⟩ | ⟨g,cap,cur,hv,hg,hh,hc,r⟩
 ·have hx:xs=[]:=List.length_eq_zero_iff.1 (by rw [h.1,hn])
  subst hx
  exact ⟨none,0,0,by rw [hv,hn],fun h=>absurd h (by omega),fun j u hj=>(by simp at hj)⟩
 ·refine ⟨_,g,cap,hv,fun _=>rfl,fun j u hj=>?_⟩
  have:=h.cells (g:=g) (by rw [hv];rfl) j u hj
  rwa [Go.WideShapes.add_plain,Nat.zero_add] at this
theorem Xw.lw {W:World} {B:Nat} {fv ov:Value} {x:M.Wy} {cs:List Value} (h:Xw W B fv ov x.1 cs x.2):∃ fa fb fc ra rb rc,fv=.slice fa x.1.length fc∧ov=.slice ra x.2.length rc∧IntS W fa fb 0 x.1∧IntSS W ra rb 0 x.2:=h.reads
theorem RXL.lw {W:World} {base n:Nat} {v:Value} {cs:List Value} {xs:List M.Wy} (h:RXL W base v cs n xs):∃ a g c,v=.slice a xs.length c∧LW W a g xs:=by
 obtain ⟨a,g,c,e1,e2,e3⟩:=own_two h.own
 have hl:=h.len.out
 rw [← hl] at e1 e2
 refine ⟨a,g,c,e1,e2,fun i hi=>?_⟩
 obtain ⟨fv,ov,rc0,c1,c2,hx,_⟩:=h.row i hi
 obtain ⟨fa,fb,fc,ra,rb,rc,f1,f2,f3,f4⟩:=hx.lw
 exact ⟨fa,fb,fc,ra,rb,rc,by rw [← f1];exact e3 _ _ c1,by rw [← f2];exact e3 _ _ c2,f3,f4⟩
theorem SxaAns.lw {w w':World} {ll:List (List M.D)} {v:Value} (h:SxaAns w w' ll v):∃ a g c,v=.slice a (M.specAll ll).length c∧LW w' a g (M.specAll ll):=by
 obtain ⟨cs,n,hw,_⟩:=h.ex
 exact hw.lw
end Go.Proofs.YtjjkicffhpcngaaGreat
namespace Go.Proofs.YtjjkicffhpcngaaGreat
open Go.RowKit
theorem M.sameS_self (a b:List Int):M.sameS a b a b=true:=by rw [M.sameS_eq,M.cmpS_self];rfl
set_option maxHeartbeats 1000000 in
set_option maxRecDepth 100000 in
theorem lpList_same (a:Option Addr) (b o c:Nat) (a2:Option Addr) (b2 o2 c2:Nat) (ks:List Key) (w:World) (hl:ks.length≤1048576) (hls:KLe ks 1048576) (h:KS w a b o ks) (h2:KS w a2 b2 o2 ks) :
  Calls Tryz.prog 18 #[.slice a ks.length c,.slice a2 ks.length c2] w fun e w'=>e=.returned (.bool true)∧Below w.heap.size w w':=by
 go_enter Tryz.func18,Tryz.ntmps18
 go_wp2_with fail
 go_loopw [5] (fun s5 wr=>∃ n:Nat,s5=.int .i64 n∧n≤ks.length∧Below w.heap.size w wr) (fun s5 _=>ks.length - (intOf s5).toNat)
 case atStart=>exact ⟨0,rfl,Nat.zero_le _,Below.refl _ _⟩
 case round =>
  obtain ⟨n,rfl,hn,hb⟩:=hrel
  by_cases hlt:n < ks.length
  ·obtain ⟨rfl⟩:=h.addr (by omega)
   obtain ⟨rfl⟩:=h2.addr (by omega)
   obtain ⟨s,h1,h2',c1,c2',hsa⟩:=(h.below hb (Nat.le_refl _)).row n hlt
   obtain ⟨t,t1,t2,d1,d2,hta⟩:=(h2.below hb (Nat.le_refl _)).row n hlt
   obtain ⟨e1,e2⟩:=hls _ (List.getElem_mem hlt)
   have hsl:s.Le 1048576:=⟨by rw [h1];exact e1,by rw [h2'];exact e2⟩
   have C:=fun p:BelowOf wr=>(lpSame_any s t p.x hsl (hsa.below p.h (Nat.le_refl _)) (hta.below p.h (Nat.le_refl _)))
   have hq:M.sameS s.l1 s.l2 t.l1 t.l2=true:=by rw [h1,h2',t1,t2,M.sameS_self]
   rw [hq] at C
   clear h1 h2' t1 t2 e1 e2 hq
   have K1:=BelowOf.cell c1
   have K2:=BelowOf.cell c2'
   have K3:=BelowOf.cell d1
   have K4:=BelowOf.cell d2
   have i1:(n:Int) < ks.length:=by omega
   go_wp2_with fail
   haveI:Inhabited (BelowOf wr):=⟨belOf wr⟩
   refine wp_region_quiet_bel (by kernel_rfl) (by kernel_rfl) ?_
   repeat (quiet_step (first | (go_at_call 47;exact Calls.bel_of ((C _).mono fun _ _ ⟨he,hg⟩=>⟨he,hg.bel⟩))))
   refine wpQuiet_nil ?_
   rintro wq ⟨⟨wx,hwq⟩,ew⟩
   change wq=wx at ew
   subst ew
   go_wp2_with fail
   exact ⟨⟨n+1,by go_num,by omega,hb.trans (hwq.mono hb.size)⟩,by simp [intOf];omega⟩
  ·go_wp2_with fail
   go_ret
   exact ⟨rfl,hb⟩
end Go.Proofs.YtjjkicffhpcngaaGreat
namespace Go.Proofs.YtjjkicffhpcngaaGreat
open Go.RowKit
structure Thb (w:World) (g:Nat) (vs:List Value) (ll:List (List M.D)):Prop where
 thr:Thr w vs ll
 cell:∀ i (h:i < vs.length),w.cell? ⟨g,i,none⟩=some vs[i]
theorem Thb.below {w w':World} {g:Nat} {vs:List Value} {ll:List (List M.D)} (h:Thb w g vs ll) (hb:Below w.heap.size w w'):Thb w' g vs ll :=
 ⟨h.thr.below hb (Nat.le_refl _),fun i hi=>(hb.cell (p:=⟨g,i,none⟩) (World.block_lt_of_cell? _ _ (h.cell i hi))).trans (h.cell i hi)⟩
theorem DoSN.thb {N:Nat} {w:World} {a:Option Addr} {g:Nat} {ll:List (List M.D)} (h:DoSN N w a g 0 ll):∃ vs,Thb w g vs ll:=by
 obtain ⟨vs,h1,h2⟩:=h.vals
 exact ⟨vs,h1,fun i hi=>by have:=h2 i hi;rwa [Nat.zero_add] at this⟩
end Go.Proofs.YtjjkicffhpcngaaGreat
namespace Go.Proofs.YtjjkicffhpcngaaGreat
open Go.RowKit
def cutK (s:Sn):Key:=(s.l1.dropLast,s.l2)
theorem IntS.take {w:World} {a:Option Addr} {b o:Nat} {l:List Int} (h:IntS w a b o l) (m:Nat):IntS w a b o (l.take m):=by
 refine ⟨fun h0=>h.addr (by rw [List.length_take] at h0;omega),fun i hi=>?_⟩
 have hi':i < l.length:=by rw [List.length_take] at hi;omega
 have:=h.row i hi'
 rwa [List.getElem_take]
theorem alloc_cell0 (w:World) (x y:Value) {t:TypeId}:(w.alloc (.cells #[x,y] t)).cell? ⟨w.heap.size,0,none⟩=some x:=by simp
theorem alloc_cell1 (w:World) (x y:Value) {t:TypeId}:(w.alloc (.cells #[x,y] t)).cell? ⟨w.heap.size,1,none⟩=some y:=by simp
end Go.Proofs.YtjjkicffhpcngaaGreat
