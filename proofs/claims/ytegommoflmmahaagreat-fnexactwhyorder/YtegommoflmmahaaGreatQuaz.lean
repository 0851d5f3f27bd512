/- Numbers, rows of the call's own and boxes of two cells, while other blocks turn. No condition. The order of what was seen is one: two are the same, or one stands ahead; what stands ahead of what stands ahead stands ahead. No condition. How a list of what was seen lies in memory; impl's and spec's SeenIn. Of lists of at most 1048576 that were seen, each of at most 1048576 numbers. -/
import Derived.Test.YtegommoflmmahaaGreatRows
import Derived.Test.YtegommoflmmahaaGreatQuaj
namespace Go.Proofs.YtegommoflmmahaaGreat
section
open Go.RowKit
theorem own_capP {w:World} {base g n cap:Nat} {e:TypeId} {size:Nat} {xs:List Value} (h:w.ownsRow base e size (.slice (some ⟨g,0,none⟩) n cap) n xs):n≤cap:=by
 rcases h.2 with ⟨hv,_⟩ | ⟨g',cap',cur,hv,_,_,hc,_⟩
 ·simp at hv
 ·simp at hv
  obtain ⟨_,rfl⟩:=hv
  exact hc
end
section
namespace M
theorem comp_trans:∀ l m n:List Int,comp l m < 0→comp m n < 0→comp l n < 0
 | [],[],_,h,_=>by rw [comp] at h;omega
 | [],_::_,[],_,h=>by rw [comp] at h;omega
 | [],_::_,_::_,_,_=>by rw [comp];omega
 | _::_,[],_,h,_=>by rw [comp] at h;omega
 | _::_,_::_,[],_,h=>by rw [comp] at h;omega
 | x::l,y::m,z::n,h,k=>by
  rw [comp] at h k ⊢
  by_cases h1:x < y
  ·by_cases k1:y < z
   ·rw [if_pos (by omega)];omega
   ·rw [if_neg k1] at k
    by_cases k2:z < y
    ·rw [if_pos k2] at k;omega
    ·rw [if_pos (by omega)];omega
  ·rw [if_neg h1] at h
   by_cases h2:y < x
   ·rw [if_pos h2] at h;omega
   ·rw [if_neg h2] at h
    by_cases k1:y < z
    ·rw [if_pos (by omega)];omega
    ·rw [if_neg k1] at k
     by_cases k2:z < y
     ·rw [if_pos k2] at k;omega
     ·rw [if_neg k2] at k
      rw [if_neg (by omega),if_neg (by omega)]
      exact comp_trans l m n h k
theorem cmpS_trans {a1 a2 b1 b2 c1 c2:List Int} (h:cmpS a1 a2 b1 b2 < 0) (k:cmpS b1 b2 c1 c2 < 0):cmpS a1 a2 c1 c2 < 0:=by
 unfold cmpS at h k ⊢
 by_cases h0:comp a1 b1=0
 ·rw [if_pos h0] at h
  have e:=comp_zero _ _ h0
  subst e
  by_cases k0:comp a1 c1=0
  ·rw [if_pos k0] at k ⊢;exact comp_trans _ _ _ h k
  ·rw [if_neg k0] at k ⊢;exact k
 ·rw [if_neg h0] at h
  by_cases k0:comp b1 c1=0
  ·have e:=comp_zero _ _ k0
   subst e
   rw [if_neg h0];exact h
  ·rw [if_neg k0] at k
   have ht:=comp_trans _ _ _ h k
   rw [if_neg (by omega)];exact ht
end M
end
section
open Go.RowKit
structure KS (w:World) (a:Option Addr) (b o:Nat) (ks:List Key):Prop where
 addr:0 < ks.length→a=some ⟨b,o,none⟩
 row:∀ i (h:i < ks.length),∃ s:Sn,s.l1=ks[i].1∧s.l2=ks[i].2∧w.cell? ⟨b,o+i * 2,none⟩=some (.slice s.a1 s.l1.length s.c1)∧w.cell? ⟨b,o+i * 2+1,none⟩=some (.slice s.a2 s.l2.length s.c2)∧s.At w
def KLe (ks:List Key) (n:Nat):Prop:=∀ k∈ks,k.1.length≤n∧k.2.length≤n
theorem KS.below {w w':World} {a:Option Addr} {B b o:Nat} {ks:List Key} (h:KS w a b o ks) (hb:Below B w w') (hB:w.heap.size≤B):KS w' a b o ks :=
 ⟨h.addr,fun i hi=>by
  obtain ⟨s,h1,h2,c1,c2,ha⟩:=h.row i hi
  have hl:=Nat.lt_of_lt_of_le (World.block_lt_of_cell? _ _ c1) hB
  exact ⟨s,h1,h2,(hb.cell (p:=⟨b,o+i * 2,none⟩) hl).trans c1,(hb.cell (p:=⟨b,o+i * 2+1,none⟩) hl).trans c2,ha.below hb hB⟩⟩
namespace M
def isIn (ks:List Key) (t1 t2:List Int):Bool:=ks.any fun k=>cmpS k.1 k.2 t1 t2==0
theorem isIn_hit {ks:List Key} {t1 t2:List Int} {n:Nat} {k:Key} (h:isIn ks t1 t2=isIn (ks.drop n) t1 t2) (hd:ks.drop n=k::ks.drop (n+1)) (hk:(cmpS k.1 k.2 t1 t2==0)=true):isIn ks t1 t2=true:=by
 rw [h,hd,isIn,List.any_cons,hk,Bool.true_or]
theorem isIn_miss {ks:List Key} {t1 t2:List Int} {n:Nat} {k:Key} (h:isIn ks t1 t2=isIn (ks.drop n) t1 t2) (hd:ks.drop n=k::ks.drop (n+1)) (hk:(cmpS k.1 k.2 t1 t2==0)=false):isIn ks t1 t2=isIn (ks.drop (n+1)) t1 t2:=by
 rw [h,hd,isIn,List.any_cons,hk,Bool.false_or];rfl
theorem isIn_fin {ks:List Key} {t1 t2:List Int} {n:Nat} (h:isIn ks t1 t2=isIn (ks.drop n) t1 t2) (hn:ks.length≤n):isIn ks t1 t2=false:=by
 rw [h,List.drop_eq_nil_of_le hn];rfl
theorem drop_key (ks:List Key) (n:Nat) (h:n < ks.length):ks.drop n=ks[n]::ks.drop (n+1):=(List.getElem_cons_drop h).symm
end M
set_option maxHeartbeats 1000000 in
set_option maxRecDepth 100000 in
theorem sseenIn_any (a:Option Addr) (b o c:Nat) (ks:List Key) (t:Sn) (w:World) (hl:ks.length≤1048576) (hls:KLe ks 1048576) (ht:t.Le 1048576) (h:KS w a b o ks) (hta:t.At w) :
  Calls Tryz.prog 57 #[.slice a ks.length c,.agg #[.slice t.a1 t.l1.length t.c1,.slice t.a2 t.l2.length t.c2]] w fun e w'=>e=.returned (.bool (M.isIn ks t.l1 t.l2))∧Below w.heap.size w w':=by
 have hb0:=below1 w (.cells #[.slice t.a1 t.l1.length t.c1,.slice t.a2 t.l2.length t.c2] 28)
 go_enter Tryz.func57,Tryz.ntmps57
 go_wp2_with fail
 have k0:(w.alloc (.cells #[.slice t.a1 t.l1.length t.c1,.slice t.a2 t.l2.length t.c2] 28)).cell? ⟨w.heap.size,0,none⟩=some (.slice t.a1 t.l1.length t.c1):=by simp
 have k1:(w.alloc (.cells #[.slice t.a1 t.l1.length t.c1,.slice t.a2 t.l2.length t.c2] 28)).cell? ⟨w.heap.size,1,none⟩=some (.slice t.a2 t.l2.length t.c2):=by simp
 generalize w.alloc (.cells #[.slice t.a1 t.l1.length t.c1,.slice t.a2 t.l2.length t.c2] 28)=W at *
 have hW:=h.below hb0 (Nat.le_refl _)
 have htW:=hta.below hb0 (Nat.le_refl _)
 have hcb:w.heap.size < W.heap.size:=World.block_lt_of_cell? _ _ k0
 clear h hta
 go_loopw [5] (fun s5 wr=>∃ n:Nat,s5=.int .i64 n∧n≤ks.length∧M.isIn ks t.l1 t.l2=M.isIn (ks.drop n) t.l1 t.l2∧Below W.heap.size W wr) (fun s5 _=>ks.length - (intOf s5).toNat)
 case atStart=>exact ⟨0,rfl,Nat.zero_le _,rfl,Below.refl _ _⟩
 case round =>
  obtain ⟨n,rfl,hn,hpass,hg⟩:=hrel
  have HP:Hid (M.isIn ks t.l1 t.l2=M.isIn (ks.drop n) t.l1 t.l2):=hpass
  clear hpass
  by_cases hlt:n < ks.length
  ·obtain ⟨rfl⟩:=hW.addr (by omega)
   have HD:Hid (ks.drop n=ks[n]::ks.drop (n+1)):=M.drop_key ks n hlt
   obtain ⟨s,h1,h2,c0,c1,hsa⟩:=(hW.below hg (Nat.le_refl _)).row n hlt
   obtain ⟨e1,e2⟩:=hls _ (List.getElem_mem hlt)
   generalize ks[n]=k at HD h1 h2 e1 e2
   have C:=fun p:BelowOf wr=>(l2Seen_any s t p.x ⟨by rw [h1];exact e1,by rw [h2];exact e2⟩ ht (hsa.below p.h (Nat.le_refl _)) ((htW.below hg (Nat.le_refl _)).below p.h (Nat.le_refl _))).mono fun _ _ ⟨he,hg⟩=>(⟨he,hg.bel⟩:_∧Below p.x.heap.size p.x _)
   obtain ⟨r,hr⟩:∃ r,M.cmpS s.l1 s.l2 t.l1 t.l2=r:=⟨_,rfl⟩
   rw [hr] at C
   rw [h1,h2] at hr
   have HQ:Hid (M.cmpS k.1 k.2 t.l1 t.l2=r):=hr
   clear hr h1 h2 e1 e2 hsa
   have i1:(n:Int) < ks.length:=by omega
   have K0:=BelowOf.cell c0
   have K1:=BelowOf.cell c1
   have K2:=BelowOf.cell ((hg.cell (p:=⟨w.heap.size,0,none⟩) hcb).trans k0)
   have K3:=BelowOf.cell ((hg.cell (p:=⟨w.heap.size,1,none⟩) hcb).trans k1)
   by_cases h0:r=0
   ·subst h0
    go_wp2_with fail
    haveI:Inhabited (BelowOf wr):=⟨belOf wr⟩
    refine wp_region_quiet_bel (by kernel_rfl) (by kernel_rfl) ?_
    repeat (quiet_step (first | (go_at_call 41;exact Calls.bel_of (C _))))
    refine wpQuiet_nil ?_
    rintro _ ⟨⟨wq,hwq⟩,rfl⟩
    go_wp2_with fail
    go_ret
    exact ⟨ret_bool (M.isIn_hit HP.out HD.out (by rw [HQ.out];rfl)).symm,hb0.trans ((hg.trans (hwq.mono hg.size)).mono hb0.size)⟩
   ·have h0':(r==0)=false:=by simpa using h0
    go_wp2_with fail
    haveI:Inhabited (BelowOf wr):=⟨belOf wr⟩
    refine wp_region_quiet_bel (by kernel_rfl) (by kernel_rfl) ?_
    repeat (quiet_step (first | (go_at_call 41;exact Calls.bel_of (C _))))
    refine wpQuiet_nil ?_
    rintro _ ⟨⟨wq,hwq⟩,rfl⟩
    go_wp2_with fail
    exact ⟨⟨n+1,by go_num,by omega,M.isIn_miss HP.out HD.out (by rw [HQ.out];exact h0'),hg.trans (hwq.mono hg.size)⟩,by simp [intOf];omega⟩
  ·go_wp2_with fail
   go_ret
   exact ⟨ret_bool (M.isIn_fin HP.out (by omega)).symm,hb0.trans (hg.mono hb0.size)⟩
end
end Go.Proofs.YtegommoflmmahaaGreat
