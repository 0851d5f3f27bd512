/- What an order allows of a program whose places, or whose values, are named otherwise, as the laws ask it. Plainly. No condition but what is said. -/
import Derived.Below
import Derived.BigQuiet
import Derived.Deep.AppendLies
import Derived.Deep.MidRow
import Derived.Deep.Quiet
import Derived.Deep.QuietTactic
import Derived.Deep.RegionHeld3
import Derived.Deep.RegionLaw
import Derived.Deep.RegionWith
import Derived.Deep.Slices
import Derived.Deep.WholeRow
import Derived.Handy
import Derived.Laws.AppendOwn
import Derived.Laws.AppendOwnNone
import Derived.Laws.EntriesVeiled
import Derived.Laws.IdiomCopy
import Derived.Laws.OwnMore
import Derived.LoopIn
import Derived.LoopN
import Derived.LoopNIn
import Derived.OwnWalkIn
import Derived.RangeFuncBound
import Derived.RangeFuncLeaves
import Derived.RangeFuncNested
import Derived.Shelf.Abstract
import Derived.Shelf.SlSortCmp.NoneTotal
import Derived.Sort.Grow
import Derived.TacticsInMore
import Derived.WalkKit
import Derived.WalkLawsBesides
import Derived.WalkSpells
import Derived.Deep.OwnRows
import Derived.Test.YtihfibjckkmmbaaGreatRows
import Derived.Test.YtihfibjckkmmbaaGreatOebn
import Derived.Test.YtihfibjckkmmbaaGreatOeby
namespace Go.Proofs.YtihfibjckkmmbaaGreat
namespace M
theorem tg_vals {row:List Int} (h0:row.getD 0 0=0):Tg (valF row) id (fun x=>row.getD x.toNat 0) :=
 ⟨fun _=>rfl,fun _ _=>rfl,fun _=>rfl,fun _ h0 h3=>⟨h0,h3⟩,fun _ _ _ _ _ _ e=>e,h0⟩
theorem tgK_vals {row:List Int} {z z':Key} (h:TgK id (fun x=>row.getD x.toNat 0) z z'):z'=(z.1.map fun x=>row.getD x.toNat 0,z.2.map fun x=>row.getD x.toNat 0):=by
 obtain ⟨z1,z2⟩:=z
 obtain ⟨y1,y2⟩:=z'
 obtain ⟨hr1,hl,hl',hat⟩:=h
 simp only at hr1 hl hl' hat
 subst hr1
 have e0:=hat 0 (by omega) (by omega)
 have e1:=hat 1 (by omega) (by omega)
 have e2:=hat 2 (by omega) (by omega)
 match z2,hl with
 | [a,b,c],_ =>
  match y2,hl' with
  | [d,e,f],_ =>
   simp only [id,Int.toNat_zero,Int.toNat_one,List.getD_cons_zero,List.getD_cons_succ] at e0 e1 e2
   have e2':f=row.getD c.toNat 0:=e2
   have e1':e=row.getD b.toNat 0:=e1
   have e0':d=row.getD a.toNat 0:=e0
   rw [e0',e1',e2']
   rfl
theorem all_vals {ll:List (List D)} {row:List Int} (hp:prog ll=true) (hr:rowN row 4=true) (h0:row.getD 0 0=0) (k:Int):sortK ((orderAll ll k).map fun z=>(z.1.map fun x=>row.getD x.toNat 0,z.2.map fun x=>row.getD x.toNat 0))=orderAll (mapS (valF row) ll) k :=
 tg_sorted (tg_vals h0) hp (vals_back hp hr h0).1 (fun _ _ h=>tgK_vals h) k
end M
end Go.Proofs.YtihfibjckkmmbaaGreat
