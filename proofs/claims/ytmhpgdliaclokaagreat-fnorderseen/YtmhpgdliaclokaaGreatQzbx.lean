/- How many ways there are at most, more sharply; and rows of things of two cells. No condition. -/
import Derived.Deep.AppendLies
import Derived.Deep.QuietTactic
import Derived.Deep.RegionHeld3
import Derived.Laws.AppendOwnNone
import Derived.RangeFuncNested
import Derived.Sort.Grow
import Derived.WalkLawsBesides
import Derived.WalkSpells
import Derived.Test.YtmhpgdliaclokaaGreatRows
namespace Go.Proofs.YtmhpgdliaclokaaGreat
section
open Go.RowKit
namespace M
end M
theorem own_twoS {w:World} {base n:Nat} {e:TypeId} {v:Value} {xs:List Value} (h:w.ownsRow base e 2 v n xs):∃ a g c,v=.slice a n c∧(0 < n→a=some ⟨g,0,none⟩)∧∀ j u,xs[j]?=some u→w.cell? ⟨g,j,none⟩=some u:=by
 rcases h.2 with ⟨hv,hn⟩ | ⟨g,cap,cur,hv,hg,hh,hc,r⟩
 ·have hx:xs=[]:=List.length_eq_zero_iff.1 (by rw [h.1,hn])
  subst hx
  exact ⟨none,0,0,by rw [hv,hn],fun h=>absurd h (by omega),fun j u hj=>(by simp at hj)⟩
 ·refine ⟨_,g,cap,hv,fun _=>rfl,fun j u hj=>?_⟩
  have:=h.cells (g:=g) (by rw [hv];rfl) j u hj
  rwa [Go.WideShapes.add_plain,Nat.zero_add] at this
end
end Go.Proofs.YtmhpgdliaclokaaGreat
