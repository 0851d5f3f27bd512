/- To give instead of storing, to take instead of reading: no more is allowed; strictly, and late, just as much. Plainly. No condition but what is said. -/
import Derived.Below
import Derived.BigQuiet
import Derived.Deep.AppendLies
import Derived.Deep.CutRange
import Derived.Deep.MidRow
import Derived.Deep.Quiet
import Derived.Deep.QuietTactic
import Derived.Deep.RegionHeld3
import Derived.Deep.RegionLaw
import Derived.Deep.RegionWith
import Derived.Deep.Slices
import Derived.Deep.WholeRow
import Derived.Handy
import Derived.Laws.AppendOwn
import Derived.Laws.AppendOwnNone
import Derived.Laws.EntriesVeiled
import Derived.Laws.IdiomCopy
import Derived.Laws.OwnMore
import Derived.LoopIn
import Derived.LoopN
import Derived.LoopNIn
import Derived.Maps.OwnIn
import Derived.OwnWalkIn
import Derived.RangeFuncBound
import Derived.RangeFuncLeaves
import Derived.RangeFuncNested
import Derived.Shelf.Abstract
import Derived.Shelf.SlSortCmp.NoneTotal
import Derived.Sort.Grow
import Derived.TacticsInMore
import Derived.WalkKit
import Derived.WalkLawsBesides
import Derived.WalkSpells
import Derived.Deep.OwnRows
import Derived.Test.YtjjkicffhpcngaaGreatRows
import Derived.Test.YtjjkicffhpcngaaGreatBYbw
import Derived.Test.YtjjkicffhpcngaaGreatBYcc
namespace Go.Proofs.YtjjkicffhpcngaaGreat
namespace M
section
variable {ll mm : List (List D)}
theorem up_up (h:Pw (deeds ll) (deeds mm)) (hp:prog ll=true) (hq:prog mm=true) {k:Nat} (hk2:k≤2) {x:Wy} (hxh:orderHolds ll x.1 x.2 k=true):∃ y:Wy,orderHolds mm y.1 y.2 k=true∧seenOf mm y=seenOf ll x:=by
 obtain ⟨hk,he,h0,hs⟩:=holds_iff.1 hxh
 have hx:=(exec_wo.1 he).2
 have E:=h.emb hp
 have R:=E.relUp x
 have hy:=E.up_ok (lro_deeds mm) hx
 have link:∀ (j:Nat),j≤2→∀ {a b:Nat},(a,b)∈linksOf (netOf (deeds mm) (upF (deeds ll) (deeds mm) id x.1) (upO id id x.2) j) (deeds mm).length→Leads (linksOf (netOf (deeds ll) x.1 x.2 j) (deeds ll).length) (id a) (id b):=by
  intro j hj a b hl
  obtain ⟨s',t',ha',hb',hm⟩:=mem_net.1 hl
  have la:a < (deeds ll).length:=by rw [← h.1];exact lt_of_get ha'
  have lb:b < (deeds ll).length:=by rw [← h.1];exact lt_of_get hb'
  show Leads _ a b
  exact .one (mem_net.2 ⟨_,_,List.getElem?_eq_getElem la,List.getElem?_eq_getElem lb,by rw [← (h.must hp R hx hy j (List.getElem?_eq_getElem la) (List.getElem?_eq_getElem lb) ha' hb').2 hj];exact hm⟩)
 exact ⟨(upF (deeds ll) (deeds mm) id x.1,upO id id x.2),holds_iff.2 ⟨hk,exec_wo.2 ⟨hq,hy⟩,fun hr=>h0 (round_map (f:=id) (fun l hl=>link 0 (by omega) hl) hr),sat_map (f:=id) (fun l hl=>link k hk2 hl) (fun c hc=>(h.choices_eq c).2 hc) hs⟩,emb_seen hp hq E (fun a b hab _=>hab) R hx hy⟩
theorem all_up2 (h:UpP ll mm) (hp:prog ll=true) (hq:prog mm=true) {k:Nat} (hk:k≤2):orderAll mm k=orderAll ll k:=orderAll_eq fun z=>⟨fun hz=>all_up h hp z hz,fun hz=>by
 obtain ⟨x,hx,rfl⟩:=mem_orderAll.1 hz
 obtain ⟨y,hy,e⟩:=up_up (up_deeds h) hp hq hk hx
 exact mem_orderAll.2 ⟨y,hy,e⟩⟩
end
end M
end Go.Proofs.YtjjkicffhpcngaaGreat
