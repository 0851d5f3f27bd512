/- The plain mathematics of what was seen: how numbers, and what was seen, are compared. No condition. impl's and spec's SeenOk. Of programs of at most 1048576 threads, each of at most 1048576 steps, and of lists of at most 1048576 numbers. -/
import Derived.BigQuiet
import Derived.Deep.Quiet
import Derived.Deep.QuietTactic
import Derived.Deep.RegionHeld3
import Derived.Deep.RegionWith
import Derived.Sort.Grow
import Derived.WalkKit
import Derived.WalkLawsBesides
import Derived.WalkSpells
import Derived.Test.YtihfibjckkmmbaaGreatRows
import Derived.Test.YtihfibjckkmmbaaGreatOebj
namespace Go.Proofs.YtihfibjckkmmbaaGreat
namespace M
theorem vals_bad {l:List Int} {n:Nat} {x:Int} (h:vals l=vals (l.drop n)) (hl:l.drop n=x::l.drop (n+1)) (hx:¬ (0≤x∧x≤3)):vals l=false:=by
 rw [h,hl]
 simp only [vals,List.all_cons]
 have:(decide (0≤x)&&decide (x≤3))=false:=by
  rw [← Bool.decide_and];simpa using hx
 rw [this,Bool.false_and]
theorem vals_ok {l:List Int} {n:Nat} {x:Int} (h:vals l=vals (l.drop n)) (hl:l.drop n=x::l.drop (n+1)) (h0:0≤x) (h3:x≤3):vals l=vals (l.drop (n+1)):=by
 rw [h,hl]
 simp only [vals,List.all_cons]
 have:(decide (0≤x)&&decide (x≤3))=true:=by simp [h0,h3]
 rw [this,Bool.true_and]
theorem vals_fin {l:List Int} {n:Nat} (h:vals l=vals (l.drop n)) (hl:l.length≤n):vals l=true:=by
 rw [h,List.drop_eq_nil_of_le hl];rfl
end M
end Go.Proofs.YtihfibjckkmmbaaGreat
namespace Go.Proofs.YtihfibjckkmmbaaGreat
open Go.RowKit
set_option maxHeartbeats 400000 in
theorem valsOk_any (a:Option Addr) (b o c:Nat) (l:List Int) (w:World) (hl:l.length≤1048576) (h:IntS w a b o l) :
  Calls Tryz.prog 91 #[.slice a l.length c] w fun e w'=>e=.returned (.bool (M.vals l))∧w'=w:=by
 go_enter Tryz.func91,Tryz.ntmps91
 go_wp2_with fail
 go_loopw [7] (fun s7 wr=>∃ n:Nat,s7=.int .i64 n∧n≤l.length∧M.vals l=M.vals (l.drop n)∧wr=w) (fun s7 _=>l.length - (intOf s7).toNat)
 case atStart=>exact ⟨0,rfl,Nat.zero_le _,rfl,rfl⟩
 case round =>
  obtain ⟨n,rfl,hn,hpass,rfl⟩:=hrel
  have HP:Hid (M.vals l=M.vals (l.drop n)):=hpass
  clear hpass
  by_cases hlt:n < l.length
  ·obtain ⟨rfl⟩:=h.addr (by omega)
   have HD:Hid (l.drop n=l[n]::l.drop (n+1)):=M.drop_int l n hlt
   have hc:=h.row n hlt
   generalize l[n]=x at HD hc
   by_cases h0:x < 0
   ·go_wp2_with fail
    go_ret
    exact ⟨ret_bool (M.vals_bad HP.out HD.out (by omega)).symm,rfl⟩
   ·have h0':decide (x < 0)=false:=by simpa using h0
    by_cases h3:3 < x
    ·go_wp2_with fail
     go_ret
     exact ⟨ret_bool (M.vals_bad HP.out HD.out (by omega)).symm,rfl⟩
    ·go_wp2_with fail
     exact ⟨⟨n+1,by go_num,by omega,M.vals_ok HP.out HD.out (by omega) (by omega),trivial⟩,by simp [intOf];omega⟩
  ·go_wp2_with fail
   go_ret
   exact ⟨ret_bool (M.vals_fin HP.out (by omega)).symm,rfl⟩
namespace M
def seenOk (ll:List (List D)) (l1 l2:List Int):Bool:=decide ((l1.length:Int)=nreads ll)&&(decide (l2.length=3)&&(vals l1&&vals l2))
theorem seenOk_1 {ll:List (List D)} {l1 l2:List Int} (h:¬ (l1.length:Int)=nreads ll):seenOk ll l1 l2=false:=by simp [seenOk,h]
theorem seenOk_2 {ll:List (List D)} {l1 l2:List Int} (h:¬ l2.length=3):seenOk ll l1 l2=false:=by simp [seenOk,h]
theorem seenOk_3 {ll:List (List D)} {l1 l2:List Int} (h:vals l1=false):seenOk ll l1 l2=false:=by simp [seenOk,h]
theorem seenOk_4 {ll:List (List D)} {l1 l2:List Int} (h:(l1.length:Int)=nreads ll) (h2:l2.length=3) (h3:vals l1=true):seenOk ll l1 l2=vals l2:=by simp [seenOk,h,h2,h3]
end M
set_option maxHeartbeats 1000000 in
set_option maxRecDepth 100000 in
theorem iseenOk_any (a:Option Addr) (b o c:Nat) (ll:List (List M.D)) (s:Sn) (w:World) (hl:ll.length≤1048576) (hls:∀ t∈ll,t.length≤1048576) (hs:s.Le 1048576) (h:DoSS w a b o ll) (sa:s.At w) :
  Calls Tryz.prog 56 #[.agg #[.slice a ll.length c],.agg #[.slice s.a1 s.l1.length s.c1,.slice s.a2 s.l2.length s.c2]] w fun e w'=>e=.returned (.bool (M.seenOk ll s.l1 s.l2))∧Below w.heap.size w w':=by
 have hb2:=below2 w (.cells #[.slice a ll.length c] 25) (.cells #[.slice s.a1 s.l1.length s.c1,.slice s.a2 s.l2.length s.c2] 35)
 obtain ⟨hs1,hs2⟩:=hs
 obtain ⟨r,hr⟩:∃ r,M.nreads ll=r:=⟨_,rfl⟩
 go_enter Tryz.func56,Tryz.ntmps56
 go_wp2_with fail
 have k0:((w.alloc (.cells #[.slice a ll.length c] 25)).alloc (.cells #[.slice s.a1 s.l1.length s.c1,.slice s.a2 s.l2.length s.c2] 35)).cell? ⟨w.heap.size,0,none⟩=some (.slice a ll.length c):=by simp
 have k1:((w.alloc (.cells #[.slice a ll.length c] 25)).alloc (.cells #[.slice s.a1 s.l1.length s.c1,.slice s.a2 s.l2.length s.c2] 35)).cell? ⟨w.heap.size+1,0,none⟩=some (.slice s.a1 s.l1.length s.c1):=by simp
 have k2:((w.alloc (.cells #[.slice a ll.length c] 25)).alloc (.cells #[.slice s.a1 s.l1.length s.c1,.slice s.a2 s.l2.length s.c2] 35)).cell? ⟨w.heap.size+1,1,none⟩=some (.slice s.a2 s.l2.length s.c2):=by simp
 generalize (w.alloc (.cells #[.slice a ll.length c] 25)).alloc (.cells #[.slice s.a1 s.l1.length s.c1,.slice s.a2 s.l2.length s.c2] 35)=W at *
 have hlt:w.heap.size+1 < W.heap.size:=World.block_lt_of_cell? _ _ k1
 have C1:=fun p:BelowOf W=>ireads_any a b o c ll p.x hl hls ((h.below hb2 (Nat.le_refl _)).below p.h (Nat.le_refl _))
 rw [hr] at C1
 have saW:=sa.below hb2 (Nat.le_refl _)
 have C2:=fun p:BelowOf W=>valsOk_any s.a1 s.b1 s.o1 s.c1 s.l1 p.x hs1 (saW.below p.h (Nat.le_refl _)).reads
 have C3:=fun p:BelowOf W=>valsOk_any s.a2 s.b2 s.o2 s.c2 s.l2 p.x hs2 (saW.below p.h (Nat.le_refl _)).last
 have K0:=BelowOf.cell k0
 have K1:=BelowOf.cell k1
 have K2:=BelowOf.cell k2
 clear k0 k1 k2 h sa saW
 by_cases g1:(s.l1.length:Int)=r
 ·by_cases g2:s.l2.length=3
  ·cases g3:M.vals s.l1
   ·rw [g3] at C2
    rw [g2] at K2 C3
    haveI:Inhabited (BelowOf W):=⟨belOf W⟩
    refine wp_region_quiet_bel (by kernel_rfl) (by kernel_rfl) ?_
    repeat (quiet_step (first | (go_at_call 26;exact Calls.bel_of (C1 _)) | (go_at_call_of 91 (Value.slice s.a1 s.l1.length s.c1);exact Calls.bel_of_same (C2 _))))
    refine wpQuiet_nil ?_
    rintro _ ⟨⟨wq,hwq⟩,rfl⟩
    go_wp2_with fail
    go_ret
    exact ⟨ret_bool (M.seenOk_3 g3).symm,hb2.trans (hwq.mono hb2.size)⟩
   ·rw [g3] at C2
    rw [g2] at K2 C3
    generalize hv:M.vals s.l2=v at C3
    haveI:Inhabited (BelowOf W):=⟨belOf W⟩
    refine wp_region_quiet_bel (by kernel_rfl) (by kernel_rfl) ?_
    repeat (quiet_step (first | (go_at_call 26;exact Calls.bel_of (C1 _)) | (go_at_call_of 91 (Value.slice s.a1 s.l1.length s.c1);exact Calls.bel_of_same (C2 _)) | (go_at_call_of 91 (Value.slice s.a2 3 s.c2);exact Calls.bel_of_same (C3 _))))
    refine wpQuiet_nil ?_
    rintro _ ⟨⟨wq,hwq⟩,rfl⟩
    go_wp2_with fail
    go_ret
    exact ⟨ret_bool (by rw [M.seenOk_4 (by rw [hr];exact g1) g2 g3,hv]),hb2.trans (hwq.mono hb2.size)⟩
  ·have g2':((s.l2.length:Int)==3)=false:=by simp;omega
   haveI:Inhabited (BelowOf W):=⟨belOf W⟩
   refine wp_region_quiet_bel (by kernel_rfl) (by kernel_rfl) ?_
   repeat (quiet_step (first | (go_at_call 26;exact Calls.bel_of (C1 _))))
   refine wpQuiet_nil ?_
   rintro _ ⟨⟨wq,hwq⟩,rfl⟩
   go_wp2_with fail
   go_ret
   exact ⟨ret_bool (M.seenOk_2 g2).symm,hb2.trans (hwq.mono hb2.size)⟩
 ·have g1':((s.l1.length:Int)==r)=false:=by simpa using g1
  haveI:Inhabited (BelowOf W):=⟨belOf W⟩
  refine wp_region_quiet_bel (by kernel_rfl) (by kernel_rfl) ?_
  repeat (quiet_step (first | (go_at_call 26;exact Calls.bel_of (C1 _))))
  refine wpQuiet_nil ?_
  rintro _ ⟨⟨wq,hwq⟩,rfl⟩
  go_wp2_with fail
  go_ret
  exact ⟨ret_bool (M.seenOk_1 (by rw [hr];exact g1)).symm,hb2.trans (hwq.mono hb2.size)⟩
end Go.Proofs.YtihfibjckkmmbaaGreat
