/- impl.SeenSort, as a list that can be read. Of at most 1048576, each of at most 1048576 numbers. -/
import Derived.Below
import Derived.BigQuiet
import Derived.Deep.AppendLies
import Derived.Deep.MidRow
import Derived.Deep.Quiet
import Derived.Deep.QuietTactic
import Derived.Deep.RegionHeld3
import Derived.Deep.RegionLaw
import Derived.Deep.RegionWith
import Derived.Deep.Slices
import Derived.Deep.WholeRow
import Derived.Handy
import Derived.Laws.AppendOwn
import Derived.Laws.AppendOwnNone
import Derived.Laws.EntriesVeiled
import Derived.Laws.IdiomCopy
import Derived.Laws.OwnMore
import Derived.LoopIn
import Derived.LoopN
import Derived.LoopNIn
import Derived.OwnWalkIn
import Derived.RangeFuncBound
import Derived.RangeFuncLeaves
import Derived.RangeFuncNested
import Derived.Shelf.Abstract
import Derived.Shelf.SlSortCmp.NoneTotal
import Derived.Sort.Grow
import Derived.TacticsInMore
import Derived.WalkKit
import Derived.WalkLawsBesides
import Derived.WalkSpells
import Derived.Deep.OwnRows
import Derived.Test.YtihfibjckkmmbaaGreatRows
import Derived.Test.YtihfibjckkmmbaaGreatQhbg
namespace Go.Proofs.YtihfibjckkmmbaaGreat
open Go.RowKit
theorem iseenSortK (a:Option Addr) (b o c:Nat) (ks:List Key) (w:World) (hl:ks.length≤1048576) (hls:KLe ks 1048576) (h:KS w a b o ks) :
  Calls Tryz.prog 14 #[.slice a ks.length c] w fun e w'=>∃ v,e=.returned v∧Tld w w' v (M.sortK ks):=by
 refine (iseenSort_any a b o c ks w hl hls h).mono fun e w' ⟨a',g,c',uu,he,hk,hn,_,_,hb⟩=>⟨_,he,?_,hb⟩
 have:=hn.ks
 rw [hk] at this
 exact ⟨a',g,c',by rw [← hk,kys_len],this⟩
end Go.Proofs.YtihfibjckkmmbaaGreat
