/- How a list of what was seen lies in memory; impl's and spec's SeenIn. Of lists of at most 1048576 that were seen, each of at most 1048576 numbers. -/
import Derived.Test.YtegommoflmmahaaGreatRows
import Derived.Test.YtegommoflmmahaaGreatQwbr
namespace Go.Proofs.YtegommoflmmahaaGreat
section
open Go.RowKit
namespace M
end M
set_option maxHeartbeats 1000000 in
set_option maxRecDepth 100000 in
theorem sseenIn_any (a:Option Addr) (b o c:Nat) (ks:List Key) (t:Sn) (w:World) (hl:ks.length≤1048576) (hls:KLe ks 1048576) (ht:t.Le 1048576) (h:KS w a b o ks) (hta:t.At w) :
  Calls Tryz.prog 57 #[.slice a ks.length c,.agg #[.slice t.a1 t.l1.length t.c1,.slice t.a2 t.l2.length t.c2]] w fun e w'=>e=.returned (.bool (M.isIn ks t.l1 t.l2))∧Below w.heap.size w w':=by
 have hb0:=below1 w (.cells #[.slice t.a1 t.l1.length t.c1,.slice t.a2 t.l2.length t.c2] 28)
 go_enter Tryz.func57,Tryz.ntmps57
 go_wp2_with fail
 have k0:(w.alloc (.cells #[.slice t.a1 t.l1.length t.c1,.slice t.a2 t.l2.length t.c2] 28)).cell? ⟨w.heap.size,0,none⟩=some (.slice t.a1 t.l1.length t.c1):=by simp
 have k1:(w.alloc (.cells #[.slice t.a1 t.l1.length t.c1,.slice t.a2 t.l2.length t.c2] 28)).cell? ⟨w.heap.size,1,none⟩=some (.slice t.a2 t.l2.length t.c2):=by simp
 generalize w.alloc (.cells #[.slice t.a1 t.l1.length t.c1,.slice t.a2 t.l2.length t.c2] 28)=W at *
 have hW:=h.below hb0 (Nat.le_refl _)
 have htW:=hta.below hb0 (Nat.le_refl _)
 have hcb:w.heap.size < W.heap.size:=World.block_lt_of_cell? _ _ k0
 clear h hta
 go_loopw [5] (fun s5 wr=>∃ n:Nat,s5=.int .i64 n∧n≤ks.length∧M.isIn ks t.l1 t.l2=M.isIn (ks.drop n) t.l1 t.l2∧Below W.heap.size W wr) (fun s5 _=>ks.length - (intOf s5).toNat)
 case atStart=>exact ⟨0,rfl,Nat.zero_le _,rfl,Below.refl _ _⟩
 case round =>
  obtain ⟨n,rfl,hn,hpass,hg⟩:=hrel
  have HP:Hid (M.isIn ks t.l1 t.l2=M.isIn (ks.drop n) t.l1 t.l2):=hpass
  clear hpass
  by_cases hlt:n < ks.length
  ·obtain ⟨rfl⟩:=hW.addr (by omega)
   have HD:Hid (ks.drop n=ks[n]::ks.drop (n+1)):=M.drop_key ks n hlt
   obtain ⟨s,h1,h2,c0,c1,hsa⟩:=(hW.below hg (Nat.le_refl _)).row n hlt
   obtain ⟨e1,e2⟩:=hls _ (List.getElem_mem hlt)
   generalize ks[n]=k at HD h1 h2 e1 e2
   have C:=fun p:BelowOf wr=>(l2Seen_any s t p.x ⟨by rw [h1];exact e1,by rw [h2];exact e2⟩ ht (hsa.below p.h (Nat.le_refl _)) ((htW.below hg (Nat.le_refl _)).below p.h (Nat.le_refl _))).mono fun _ _ ⟨he,hg⟩=>(⟨he,hg.bel⟩:_∧Below p.x.heap.size p.x _)
   obtain ⟨r,hr⟩:∃ r,M.cmpS s.l1 s.l2 t.l1 t.l2=r:=⟨_,rfl⟩
   rw [hr] at C
   rw [h1,h2] at hr
   have HQ:Hid (M.cmpS k.1 k.2 t.l1 t.l2=r):=hr
   clear hr h1 h2 e1 e2 hsa
   have i1:(n:Int) < ks.length:=by omega
   have K0:=BelowOf.cell c0
   have K1:=BelowOf.cell c1
   have K2:=BelowOf.cell ((hg.cell (p:=⟨w.heap.size,0,none⟩) hcb).trans k0)
   have K3:=BelowOf.cell ((hg.cell (p:=⟨w.heap.size,1,none⟩) hcb).trans k1)
   by_cases h0:r=0
   ·subst h0
    go_wp2_with fail
    haveI:Inhabited (BelowOf wr):=⟨belOf wr⟩
    refine wp_region_quiet_bel (by kernel_rfl) (by kernel_rfl) ?_
    repeat (quiet_step (first | (go_at_call 41;exact Calls.bel_of (C _))))
    refine wpQuiet_nil ?_
    rintro _ ⟨⟨wq,hwq⟩,rfl⟩
    go_wp2_with fail
    go_ret
    exact ⟨ret_bool (M.isIn_hit HP.out HD.out (by rw [HQ.out];rfl)).symm,hb0.trans ((hg.trans (hwq.mono hg.size)).mono hb0.size)⟩
   ·have h0':(r==0)=false:=by simpa using h0
    go_wp2_with fail
    haveI:Inhabited (BelowOf wr):=⟨belOf wr⟩
    refine wp_region_quiet_bel (by kernel_rfl) (by kernel_rfl) ?_
    repeat (quiet_step (first | (go_at_call 41;exact Calls.bel_of (C _))))
    refine wpQuiet_nil ?_
    rintro _ ⟨⟨wq,hwq⟩,rfl⟩
    go_wp2_with fail
    exact ⟨⟨n+1,by go_num,by omega,M.isIn_miss HP.out HD.out (by rw [HQ.out];exact h0'),hg.trans (hwq.mono hg.size)⟩,by simp [intOf];omega⟩
  ·go_wp2_with fail
   go_ret
   exact ⟨ret_bool (M.isIn_fin HP.out (by omega)).symm,hb0.trans (hg.mono hb0.size)⟩
end
end Go.Proofs.YtegommoflmmahaaGreat
