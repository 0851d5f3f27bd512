/- A program in memory whose blocks all lie beyond a bound. No condition. -/
import Derived.BigQuiet
import Derived.Deep.AppendLies
import Derived.Deep.QuietTactic
import Derived.Deep.RegionHeld3
import Derived.Deep.RegionWith
import Derived.Sort.Grow
import Derived.WalkKit
import Derived.WalkLawsBesides
import Derived.WalkSpells
import Derived.Test.YtjjkicffhpcngaaGreatRows
import Derived.Test.YtjjkicffhpcngaaGreatBYai
namespace Go.Proofs.YtjjkicffhpcngaaGreat
open Go.RowKit
def Thr (w:World) (vs:List Value) (ll:List (List M.D)):Prop:=vs.length=ll.length∧∀ i (h1:i < ll.length) (h2:i < vs.length),∃ a' b' o' c',vs[i]=.slice a' ll[i].length c'∧DoS w a' b' o' ll[i]∧ll[i].length≤c'
theorem DoSN.vals {N:Nat} {w:World} {a:Option Addr} {b o:Nat} {ll:List (List M.D)} (h:DoSN N w a b o ll):∃ vs:List Value,Thr w vs ll∧∀ i (h2:i < vs.length),w.cell? ⟨b,o+i,none⟩=some vs[i]:=by
 have key:∀ i (hi:i < ll.length),w.cell? ⟨b,o+i,none⟩=some ((w.cell? ⟨b,o+i,none⟩).getD (.int .i64 0)):=fun i hi=>by
  obtain ⟨a',b',o',c',hc,_⟩:=h.row i hi
  rw [hc];rfl
 refine ⟨(List.range ll.length).map fun i=>(w.cell? ⟨b,o+i,none⟩).getD (.int .i64 0),⟨by simp,fun i h1 h2=>?_⟩,fun i h2=>?_⟩
 ·obtain ⟨a',b',o',c',hc,hd,_,hq⟩:=h.row i h1
  refine ⟨a',b',o',c',?_,hd,hq⟩
  rw [List.getElem_map,List.getElem_range,hc];rfl
 ·rw [List.getElem_map,List.getElem_range]
  exact key i (by simpa using h2)
theorem Thr.below {w w':World} {vs:List Value} {ll:List (List M.D)} {B:Nat} (h:Thr w vs ll) (hb:Below B w w') (hB:w.heap.size≤B):Thr w' vs ll :=
 ⟨h.1,fun i h1 h2=>by obtain ⟨a',b',o',c',e,hd,hq⟩:=h.2 i h1 h2;exact ⟨a',b',o',c',e,hd.below hb hB,hq⟩⟩
theorem Thr.one {w:World} {vs:List Value} {ll:List (List M.D)} (h:Thr w vs ll):∀ y∈vs,y.oneCell'=true:=fun y hy=>by
 obtain ⟨i,hi,rfl⟩:=List.getElem_of_mem hy
 obtain ⟨a',b',o',c',e,_⟩:=h.2 i (by rw [← h.1];exact hi) hi
 rw [e];rfl
theorem Thr.ss {w:World} {B:Nat} {v:Value} {vs:List Value} {ll:List (List M.D)} (h:Thr w vs ll) (ho:w.ownsRow B 41 1 v ll.length vs):∃ a g c,v=.slice a ll.length c∧DoSS w a g 0 ll:=by
 have hl:=h.1
 rcases ho.2 with ⟨hv,hn⟩ | ⟨g,cap,cur,hv,hg,hh,r⟩
 ·have:ll=[]:=List.length_eq_zero_iff.1 hn
  subst this
  exact ⟨none,0,0,hv,⟨fun h=>absurd h (Nat.lt_irrefl _),fun i hi=>absurd hi (Nat.not_lt_zero _)⟩⟩
 ·refine ⟨_,g,cap,hv,⟨fun _=>rfl,fun i hi=>?_⟩⟩
  have hc:=ho.cells (g:=g) (by rw [hv];rfl) i vs[i] (List.getElem?_eq_getElem (by omega))
  rw [Go.WideShapes.add_plain] at hc
  obtain ⟨a',b',o',c',e,hd,_⟩:=h.2 i hi (by omega)
  rw [e] at hc
  exact ⟨a',b',o',c',hc,hd⟩
end Go.Proofs.YtjjkicffhpcngaaGreat
