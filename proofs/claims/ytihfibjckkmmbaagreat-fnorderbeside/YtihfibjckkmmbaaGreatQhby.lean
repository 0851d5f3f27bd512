/- The laws' own comparing of lists of what was seen: laws.lpList, at two that are the same. Of at most 1048576. -/
import Derived.BigQuiet
import Derived.Deep.Quiet
import Derived.Deep.QuietTactic
import Derived.Deep.RegionHeld3
import Derived.Deep.RegionWith
import Derived.Shelf.Abstract
import Derived.Sort.Grow
import Derived.WalkKit
import Derived.WalkLawsBesides
import Derived.WalkSpells
import Derived.Test.YtihfibjckkmmbaaGreatRows
import Derived.Test.YtihfibjckkmmbaaGreatQhan
import Derived.Test.YtihfibjckkmmbaaGreatQhbq
namespace Go.Proofs.YtihfibjckkmmbaaGreat
open Go.RowKit
theorem M.sameS_self (a b:List Int):M.sameS a b a b=true:=by rw [M.sameS_eq,M.cmpS_self];rfl
set_option maxHeartbeats 1000000 in
set_option maxRecDepth 100000 in
theorem lpList_same (a:Option Addr) (b o c:Nat) (a2:Option Addr) (b2 o2 c2:Nat) (ks:List Key) (w:World) (hl:ks.length≤1048576) (hls:KLe ks 1048576) (h:KS w a b o ks) (h2:KS w a2 b2 o2 ks) :
  Calls Tryz.prog 13 #[.slice a ks.length c,.slice a2 ks.length c2] w fun e w'=>e=.returned (.bool true)∧Below w.heap.size w w':=by
 go_enter Tryz.func13,Tryz.ntmps13
 go_wp2_with fail
 go_loopw [5] (fun s5 wr=>∃ n:Nat,s5=.int .i64 n∧n≤ks.length∧Below w.heap.size w wr) (fun s5 _=>ks.length - (intOf s5).toNat)
 case atStart=>exact ⟨0,rfl,Nat.zero_le _,Below.refl _ _⟩
 case round =>
  obtain ⟨n,rfl,hn,hb⟩:=hrel
  by_cases hlt:n < ks.length
  ·obtain ⟨rfl⟩:=h.addr (by omega)
   obtain ⟨rfl⟩:=h2.addr (by omega)
   obtain ⟨s,h1,h2',c1,c2',hsa⟩:=(h.below hb (Nat.le_refl _)).row n hlt
   obtain ⟨t,t1,t2,d1,d2,hta⟩:=(h2.below hb (Nat.le_refl _)).row n hlt
   obtain ⟨e1,e2⟩:=hls _ (List.getElem_mem hlt)
   have hsl:s.Le 1048576:=⟨by rw [h1];exact e1,by rw [h2'];exact e2⟩
   have C:=fun p:BelowOf wr=>(lpSame_any s t p.x hsl (hsa.below p.h (Nat.le_refl _)) (hta.below p.h (Nat.le_refl _)))
   have hq:M.sameS s.l1 s.l2 t.l1 t.l2=true:=by rw [h1,h2',t1,t2,M.sameS_self]
   rw [hq] at C
   clear h1 h2' t1 t2 e1 e2 hq
   have K1:=BelowOf.cell c1
   have K2:=BelowOf.cell c2'
   have K3:=BelowOf.cell d1
   have K4:=BelowOf.cell d2
   have i1:(n:Int) < ks.length:=by omega
   go_wp2_with fail
   haveI:Inhabited (BelowOf wr):=⟨belOf wr⟩
   refine wp_region_quiet_bel (by kernel_rfl) (by kernel_rfl) ?_
   repeat (quiet_step (first | (go_at_call 47;exact Calls.bel_of ((C _).mono fun _ _ ⟨he,hg⟩=>⟨he,hg.bel⟩))))
   refine wpQuiet_nil ?_
   rintro wq ⟨⟨wx,hwq⟩,ew⟩
   change wq=wx at ew
   subst ew
   go_wp2_with fail
   exact ⟨⟨n+1,by go_num,by omega,hb.trans (hwq.mono hb.size)⟩,by simp [intOf];omega⟩
  ·go_wp2_with fail
   go_ret
   exact ⟨rfl,hb⟩
end Go.Proofs.YtihfibjckkmmbaaGreat
