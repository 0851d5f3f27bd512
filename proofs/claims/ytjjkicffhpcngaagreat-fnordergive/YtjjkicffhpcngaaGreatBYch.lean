/- laws.lpWithin, where all of one list is in the other one. Of at most 1048576. -/
import Derived.BigQuiet
import Derived.Deep.Quiet
import Derived.Deep.QuietTactic
import Derived.Deep.RegionHeld3
import Derived.Deep.RegionWith
import Derived.Shelf.Abstract
import Derived.Sort.Grow
import Derived.WalkKit
import Derived.WalkLawsBesides
import Derived.WalkSpells
import Derived.Test.YtjjkicffhpcngaaGreatRows
import Derived.Test.YtjjkicffhpcngaaGreatBYbk
namespace Go.Proofs.YtjjkicffhpcngaaGreat
open Go.RowKit
theorem M.isIn_mem {ks:List Key} {k:Key} (h:k∈ks):M.isIn ks k.1 k.2=true:=by
 unfold M.isIn
 exact List.any_eq_true.2 ⟨k,h,by simp [M.cmpS_self]⟩
set_option maxHeartbeats 1000000 in
set_option maxRecDepth 100000 in
theorem lpWithin_yes (a:Option Addr) (b o c:Nat) (a2:Option Addr) (b2 o2 c2:Nat) (ks ms:List Key) (w:World) (hl:ks.length≤1048576) (hls:KLe ks 1048576) (hl2:ms.length≤1048576) (hls2:KLe ms 1048576) (h:KS w a b o ks) (h2:KS w a2 b2 o2 ms) (hin:∀ k∈ks,k∈ms) :
  Calls Tryz.prog 22 #[.slice a ks.length c,.slice a2 ms.length c2] w fun e w'=>e=.returned (.bool true)∧Below w.heap.size w w':=by
 go_enter Tryz.func22,Tryz.ntmps22
 go_wp2_with fail
 go_loopw [5] (fun s5 wr=>∃ n:Nat,s5=.int .i64 n∧n≤ks.length∧Below w.heap.size w wr) (fun s5 _=>ks.length - (intOf s5).toNat)
 case atStart=>exact ⟨0,rfl,Nat.zero_le _,Below.refl _ _⟩
 case round =>
  obtain ⟨n,rfl,hn,hb⟩:=hrel
  by_cases hlt:n < ks.length
  ·obtain ⟨rfl⟩:=h.addr (by omega)
   obtain ⟨s,h1,h2',c1,c2',hsa⟩:=(h.below hb (Nat.le_refl _)).row n hlt
   obtain ⟨e1,e2⟩:=hls _ (List.getElem_mem hlt)
   have hsl:s.Le 1048576:=⟨by rw [h1];exact e1,by rw [h2'];exact e2⟩
   have C:=sseenIn_any a2 b2 o2 c2 ms s wr hl2 hls2 hsl (h2.below hb (Nat.le_refl _)) hsa
   have hq:M.isIn ms s.l1 s.l2=true:=by rw [h1,h2'];exact M.isIn_mem (hin _ (List.getElem_mem hlt))
   rw [hq] at C
   clear h1 h2' e1 e2 hq hin
   have i1:(n:Int) < ks.length:=by omega
   go_wp2_with fail
   refine C.mono ?_
   rintro e w1 ⟨rfl,b1⟩
   go_wp2_with fail
   exact ⟨⟨n+1,by go_num,by omega,hb.trans (b1.mono hb.size)⟩,by simp [intOf];omega⟩
  ·go_wp2_with fail
   go_ret
   exact ⟨rfl,hb⟩
end Go.Proofs.YtjjkicffhpcngaaGreat
