/- The order of what was seen is one: two are the same, or one stands ahead; what stands ahead of what stands ahead stands ahead. No condition. And what goes with it: SnOrd, SnCmp, SnSee, SnIn. -/
import Derived.BigQuiet
import Derived.Deep.Quiet
import Derived.Deep.QuietTactic
import Derived.Deep.RegionHeld3
import Derived.Deep.RegionWith
import Derived.Shelf.Abstract
import Derived.Sort.Grow
import Derived.WalkKit
import Derived.WalkLawsBesides
import Derived.WalkSpells
import Derived.Test.YtihfibjckkmmbaaGreatRows
import Derived.Test.YtihfibjckkmmbaaGreatQhad
namespace Go.Proofs.YtihfibjckkmmbaaGreat
namespace M
theorem comp_self (l:List Int):comp l l=0:=by
 induction l with
 | nil=>rfl
 | cons x l ih=>rw [comp,if_neg (by omega),if_neg (by omega)];exact ih
theorem comp_zero:∀ l m:List Int,comp l m=0→l=m
 | [],[],_=>rfl
 | [],_::_,h=>by rw [comp] at h;cases h
 | _::_,[],h=>by rw [comp] at h;cases h
 | x::l,y::m,h=>by
  rw [comp] at h
  by_cases h1:x < y
  ·rw [if_pos h1] at h;cases h
  ·rw [if_neg h1] at h
   by_cases h2:y < x
   ·rw [if_pos h2] at h;cases h
   ·rw [if_neg h2] at h
    rw [comp_zero l m h,show x=y by omega]
theorem comp_neg:∀ l m:List Int,comp m l=- comp l m
 | [],[]=>rfl
 | [],_::_=>rfl
 | _::_,[]=>rfl
 | x::l,y::m=>by
  rw [comp,comp]
  by_cases h1:x < y
  ·rw [if_pos h1,if_neg (by omega),if_pos h1];rfl
  ·by_cases h2:y < x
   ·rw [if_pos h2,if_neg h1,if_pos h2]
   ·rw [if_neg h2,if_neg h1,if_neg h1,if_neg h2];exact comp_neg l m
theorem comp_trans:∀ l m n:List Int,comp l m < 0→comp m n < 0→comp l n < 0
 | [],[],_,h,_=>by rw [comp] at h;omega
 | [],_::_,[],_,h=>by rw [comp] at h;omega
 | [],_::_,_::_,_,_=>by rw [comp];omega
 | _::_,[],_,h,_=>by rw [comp] at h;omega
 | _::_,_::_,[],_,h=>by rw [comp] at h;omega
 | x::l,y::m,z::n,h,k=>by
  rw [comp] at h k ⊢
  by_cases h1:x < y
  ·by_cases k1:y < z
   ·rw [if_pos (by omega)];omega
   ·rw [if_neg k1] at k
    by_cases k2:z < y
    ·rw [if_pos k2] at k;omega
    ·rw [if_pos (by omega)];omega
  ·rw [if_neg h1] at h
   by_cases h2:y < x
   ·rw [if_pos h2] at h;omega
   ·rw [if_neg h2] at h
    by_cases k1:y < z
    ·rw [if_pos (by omega)];omega
    ·rw [if_neg k1] at k
     by_cases k2:z < y
     ·rw [if_pos k2] at k;omega
     ·rw [if_neg k2] at k
      rw [if_neg (by omega),if_neg (by omega)]
      exact comp_trans l m n h k
theorem cmpS_self (a b:List Int):cmpS a b a b=0:=by rw [cmpS,comp_self,if_pos rfl,comp_self]
theorem cmpS_zero {a1 a2 b1 b2:List Int} (h:cmpS a1 a2 b1 b2=0):a1=b1∧a2=b2:=by
 unfold cmpS at h
 by_cases h0:comp a1 b1=0
 ·rw [if_pos h0] at h;exact ⟨comp_zero _ _ h0,comp_zero _ _ h⟩
 ·rw [if_neg h0] at h;exact absurd h h0
theorem cmpS_neg (a1 a2 b1 b2:List Int):cmpS b1 b2 a1 a2=- cmpS a1 a2 b1 b2:=by
 unfold cmpS
 rw [comp_neg a1 b1,comp_neg a2 b2]
 by_cases h0:comp a1 b1=0
 ·rw [if_pos h0,if_pos (by omega)]
 ·rw [if_neg h0,if_neg (by omega)]
theorem cmpS_trans {a1 a2 b1 b2 c1 c2:List Int} (h:cmpS a1 a2 b1 b2 < 0) (k:cmpS b1 b2 c1 c2 < 0):cmpS a1 a2 c1 c2 < 0:=by
 unfold cmpS at h k ⊢
 by_cases h0:comp a1 b1=0
 ·rw [if_pos h0] at h
  have e:=comp_zero _ _ h0
  subst e
  by_cases k0:comp a1 c1=0
  ·rw [if_pos k0] at k ⊢;exact comp_trans _ _ _ h k
  ·rw [if_neg k0] at k ⊢;exact k
 ·rw [if_neg h0] at h
  by_cases k0:comp b1 c1=0
  ·have e:=comp_zero _ _ k0
   subst e
   rw [if_neg h0];exact h
  ·rw [if_neg k0] at k
   have ht:=comp_trans _ _ _ h k
   rw [if_neg (by omega)];exact ht
def same:List Int→List Int→Bool
 | [],[]=>true
 | x::l,y::m=>x==y&&same l m
 | _,_=>false
end M
end Go.Proofs.YtihfibjckkmmbaaGreat
namespace Go.Proofs.YtihfibjckkmmbaaGreat
open Go.RowKit
theorem ret_i {a b:Int} (h:a=b):Ending.returned (.int .i64 a)=.returned (.int .i64 b):=by rw [h]
theorem isNaN_any (x:Int) (w:World) :
  Calls Tryz.prog 153 #[.int .i64 x] w fun e w'=>e=.returned (.bool false)∧w'=w:=by
 go_enter Tryz.func153,Tryz.ntmps153
 go_wp2
 go_ret
 exact ⟨rfl,rfl⟩
def cmp3 (x y:Int):Int:=if x < y then -1 else if y < x then 1 else 0
theorem compare_any (x y:Int) (w:World) :
  Calls Tryz.prog 119 #[.int .i64 x,.int .i64 y] w fun e w'=>e=.returned (.int .i64 (cmp3 x y))∧w'=w:=by
 by_cases h1:x < y
 ·go_enter Tryz.func119,Tryz.ntmps119
  go_wp2_with (go_at_call 153;refine (isNaN_any _ _).mono ?_;rintro e w' ⟨rfl,rfl⟩)
  go_ret
  exact ⟨ret_i (by simp [cmp3,h1]),rfl⟩
 ·by_cases h2:y < x
  ·go_enter Tryz.func119,Tryz.ntmps119
   go_wp2_with (go_at_call 153;refine (isNaN_any _ _).mono ?_;rintro e w' ⟨rfl,rfl⟩)
   go_ret
   exact ⟨ret_i (by simp [cmp3,h1,h2]),rfl⟩
  ·go_enter Tryz.func119,Tryz.ntmps119
   go_wp2_with (go_at_call 153;refine (isNaN_any _ _).mono ?_;rintro e w' ⟨rfl,rfl⟩)
   go_ret
   exact ⟨ret_i (by rw [cmp3,if_neg (by omega),if_neg (by omega)]),rfl⟩
set_option maxHeartbeats 400000 in
theorem slcmp_any (a:Option Addr) (b o c:Nat) (l:List Int) (a2:Option Addr) (b2 o2 c2:Nat) (m:List Int) (w:World) (hl:l.length≤1048576) (hm:m.length≤1048576) (h:IntS w a b o l) (h2:IntS w a2 b2 o2 m) :
  Calls Tryz.prog 89 #[.slice a l.length c,.slice a2 m.length c2] w fun e w'=>e=.returned (.int .i64 (M.comp l m))∧w'=w:=by
 go_enter Tryz.func89,Tryz.ntmps89
 go_wp2_with fail
 go_loopw [11] (fun s11 wr=>∃ n:Nat,s11=.int .i64 n∧n≤l.length∧n≤m.length∧M.comp l m=M.comp (l.drop n) (m.drop n)∧wr=w) (fun s11 _=>l.length - (intOf s11).toNat)
 case atStart=>exact ⟨0,rfl,Nat.zero_le _,Nat.zero_le _,rfl,rfl⟩
 case round =>
  obtain ⟨n,rfl,hn,hnm,hpass,rfl⟩:=hrel
  have HP:Hid (M.comp l m=M.comp (l.drop n) (m.drop n)):=hpass
  clear hpass
  by_cases hlt:n < l.length
  ·obtain ⟨rfl⟩:=h.addr (by omega)
   have HD:Hid (l.drop n=l[n]::l.drop (n+1)):=M.drop_int l n hlt
   have hc:=h.row n hlt
   generalize l[n]=x at HD hc
   by_cases hmt:n < m.length
   ·obtain ⟨rfl⟩:=h2.addr (by omega)
    have HD2:Hid (m.drop n=m[n]::m.drop (n+1)):=M.drop_int m n hmt
    have hc2:=h2.row n hmt
    generalize m[n]=y at HD2 hc2
    by_cases h1:x < y
    ·have e3:cmp3 x y=-1:=by simp [cmp3,h1]
     go_wp2_with (go_at_call 119;refine (compare_any _ _ _).mono ?_;rw [e3];rintro e w' ⟨rfl,rfl⟩)
     go_ret
     exact ⟨ret_i (M.comp_lt HP.out HD.out HD2.out h1).symm,rfl⟩
    ·by_cases h2':y < x
     ·have e3:cmp3 x y=1:=by simp [cmp3,h1,h2']
      go_wp2_with (go_at_call 119;refine (compare_any _ _ _).mono ?_;rw [e3];rintro e w' ⟨rfl,rfl⟩)
      go_ret
      exact ⟨ret_i (M.comp_gt HP.out HD.out HD2.out h2').symm,rfl⟩
     ·have e3:cmp3 x y=0:=by simp [cmp3,h1,h2']
      go_wp2_with (go_at_call 119;refine (compare_any _ _ _).mono ?_;rw [e3];rintro e w' ⟨rfl,rfl⟩)
      exact ⟨⟨n+1,by go_num,by omega,by omega,M.comp_eq HP.out HD.out HD2.out (by omega) (by omega),trivial⟩,by simp [intOf];omega⟩
   ·have hmt':(m.length:Int)≤n:=by omega
    go_wp2_with fail
    go_ret
    exact ⟨ret_i (M.comp_snd HP.out hlt (by omega)).symm,rfl⟩
  ·by_cases hmt:n < m.length
   ·have e1:(l.length:Int) < m.length:=by omega
    go_wp2_with fail
    go_ret
    exact ⟨ret_i (M.comp_fst HP.out (by omega) hmt).symm,rfl⟩
   ·have e1:¬ (l.length:Int) < m.length:=by omega
    go_wp2_with fail
    go_ret
    exact ⟨ret_i (M.comp_fin HP.out (by omega) (by omega)).symm,rfl⟩
set_option maxHeartbeats 400000 in
theorem or_any (b:Nat) (x y:Int) (w:World) (hx:w.cell? ⟨b,0,none⟩=some (.int .i64 x)) (hy:w.cell? ⟨b,1,none⟩=some (.int .i64 y)) :
  Calls Tryz.prog 88 #[.slice (some ⟨b,0,none⟩) 2 2] w fun e w'=>e=.returned (.int .i64 (if x=0 then y else x))∧w'=w:=by
 by_cases h0:x=0
 ·subst h0
  by_cases h1:y=0
  ·subst h1
   go_enter Tryz.func88,Tryz.ntmps88
   go_wp2_with fail
   refine wp_loop_rounds 3 ?_
   rw [rounds_succ]
   go_wp2_with fail
   rw [rounds_succ]
   go_wp2_with fail
   rw [rounds_succ]
   go_wp2_with fail
   go_ret
   exact ⟨ret_i (by simp),rfl⟩
  ·have h1':(y==0)=false:=by simpa using h1
   go_enter Tryz.func88,Tryz.ntmps88
   go_wp2_with fail
   refine wp_loop_rounds 3 ?_
   rw [rounds_succ]
   go_wp2_with fail
   rw [rounds_succ]
   go_wp2_with fail
   go_ret
   exact ⟨ret_i (by simp),rfl⟩
 ·have h0':(x==0)=false:=by simpa using h0
  go_enter Tryz.func88,Tryz.ntmps88
  go_wp2_with fail
  refine wp_loop_rounds 3 ?_
  rw [rounds_succ]
  go_wp2_with fail
  go_ret
  exact ⟨ret_i (by simp),rfl⟩
end Go.Proofs.YtihfibjckkmmbaaGreat
namespace Go.Proofs.YtihfibjckkmmbaaGreat
open Go.RowKit
theorem alloc2 (w:World) (x y:Obj):Grown w ((w.alloc x).alloc y):=((Grown.refl w).alloc x).alloc y
set_option maxHeartbeats 1000000 in
set_option maxRecDepth 100000 in
theorem compareSeen_any (s t:Sn) (w:World) (hs:s.Le 1048576) (ht:t.Le 1048576) (hsa:s.At w) (hta:t.At w) :
  Calls Tryz.prog 49 #[.agg #[.slice s.a1 s.l1.length s.c1,.slice s.a2 s.l2.length s.c2],.agg #[.slice t.a1 t.l1.length t.c1,.slice t.a2 t.l2.length t.c2]] w fun e w'=>e=.returned (.int .i64 (M.cmpS s.l1 s.l2 t.l1 t.l2))∧Grown w w':=by
 obtain ⟨a1,b1,o1,c1,l1,a2,b2,o2,c2,l2⟩:=s
 obtain ⟨d1,e1,f1,g1,m1,d2,e2,f2,g2,m2⟩:=t
 obtain ⟨hs1,hs2⟩:=hs
 obtain ⟨ht1,ht2⟩:=ht
 obtain ⟨as1,as2⟩:=hsa
 obtain ⟨at1,at2⟩:=hta
 simp only at hs1 hs2 ht1 ht2 as1 as2 at1 at2
 go_enter Tryz.func49,Tryz.ntmps49
 go_wp2_with fail
 have hg0:Grown w (((w.alloc (.cells #[.slice a1 l1.length c1,.slice a2 l2.length c2] 35)).alloc (.cells #[.slice d1 m1.length g1,.slice d2 m2.length g2] 35))):=alloc2 w _ _
 have k1:((w.alloc (.cells #[.slice a1 l1.length c1,.slice a2 l2.length c2] 35)).alloc (.cells #[.slice d1 m1.length g1,.slice d2 m2.length g2] 35)).cell? ⟨w.heap.size,0,none⟩=some (.slice a1 l1.length c1):=by simp
 have k2:((w.alloc (.cells #[.slice a1 l1.length c1,.slice a2 l2.length c2] 35)).alloc (.cells #[.slice d1 m1.length g1,.slice d2 m2.length g2] 35)).cell? ⟨w.heap.size,1,none⟩=some (.slice a2 l2.length c2):=by simp
 have k3:((w.alloc (.cells #[.slice a1 l1.length c1,.slice a2 l2.length c2] 35)).alloc (.cells #[.slice d1 m1.length g1,.slice d2 m2.length g2] 35)).cell? ⟨w.heap.size+1,0,none⟩=some (.slice d1 m1.length g1):=by simp
 have k4:((w.alloc (.cells #[.slice a1 l1.length c1,.slice a2 l2.length c2] 35)).alloc (.cells #[.slice d1 m1.length g1,.slice d2 m2.length g2] 35)).cell? ⟨w.heap.size+1,1,none⟩=some (.slice d2 m2.length g2):=by simp
 generalize (w.alloc (.cells #[.slice a1 l1.length c1,.slice a2 l2.length c2] 35)).alloc (.cells #[.slice d1 m1.length g1,.slice d2 m2.length g2] 35)=W at *
 have x1:=as1.below hg0.drew.bel (Nat.le_refl _)
 have x2:=as2.below hg0.drew.bel (Nat.le_refl _)
 have y1:=at1.below hg0.drew.bel (Nat.le_refl _)
 have y2:=at2.below hg0.drew.bel (Nat.le_refl _)
 generalize w.heap.size=B at *
 have C1:=slcmp_any a1 b1 o1 c1 l1 d1 e1 f1 g1 m1 _ hs1 ht1 x1 y1
 have C2:=slcmp_any a2 b2 o2 c2 l2 d2 e2 f2 g2 m2 _ hs2 ht2 x2 y2
 obtain ⟨r1,hr1⟩:∃ r,M.comp l1 m1=r:=⟨_,rfl⟩
 obtain ⟨r2,hr2⟩:∃ r,M.comp l2 m2=r:=⟨_,rfl⟩
 obtain ⟨ro,hro⟩:∃ r,(if r1=0 then r2 else r1)=r:=⟨_,rfl⟩
 have hcs:M.cmpS l1 l2 m1 m2=ro:=by unfold M.cmpS;rw [hr1,hr2,hro]
 have HR:Hid (M.cmpS l1 l2 m1 m2=ro):=hcs
 have C3:∀ b W',W'.cell? ⟨b,0,none⟩=some (.int .i64 r1)→W'.cell? ⟨b,1,none⟩=some (.int .i64 r2)→Calls Tryz.prog 88 #[.slice (some ⟨b,0,none⟩) 2 2] W' fun e w'=>e=.returned (.int .i64 ro)∧w'=W':=fun b W' h1 h2=>by have h:=or_any b r1 r2 W' h1 h2;rwa [hro] at h
 clear hcs hro
 rw [hr1] at C1
 rw [hr2] at C2
 clear hr1 hr2
 clear as1 as2 at1 at2 x1 x2 y1 y2 hs1 hs2 ht1 ht2
 generalize l1.length=n1 at *
 generalize l2.length=n2 at *
 generalize m1.length=p1 at *
 generalize m2.length=p2 at *
 go_region_held3 (fun w'=>w'.cell? ⟨B,0,none⟩=some (.slice a1 n1 c1)∧w'.cell? ⟨B,1,none⟩=some (.slice a2 n2 c2)∧w'.cell? ⟨B+1,0,none⟩=some (.slice d1 p1 g1)∧w'.cell? ⟨B+1,1,none⟩=some (.slice d2 p2 g2)) (go_keep) (first
  | (go_at_call_of 89 (Value.slice a1 n1 c1);refine C1.mono ?_;rintro e w' ⟨rfl,rfl⟩)
  | (go_at_call_of 89 (Value.slice a2 n2 c2);refine C2.mono ?_;rintro e w' ⟨rfl,rfl⟩)
  | (go_at_call 88;refine (C3 _ _ ?_ ?_).mono ?_;(simp);(simp);rintro e w' ⟨rfl,rfl⟩))
 go_wp2_with fail
 go_ret
 exact ⟨ret_i HR.out.symm,(hg0.alloc _).drew⟩
end Go.Proofs.YtihfibjckkmmbaaGreat
namespace Go.Proofs.YtihfibjckkmmbaaGreat
open Go.RowKit
abbrev Key:=List Int × List Int
structure KS (w:World) (a:Option Addr) (b o:Nat) (ks:List Key):Prop where
 addr:0 < ks.length→a=some ⟨b,o,none⟩
 row:∀ i (h:i < ks.length),∃ s:Sn,s.l1=ks[i].1∧s.l2=ks[i].2∧w.cell? ⟨b,o+i * 2,none⟩=some (.slice s.a1 s.l1.length s.c1)∧w.cell? ⟨b,o+i * 2+1,none⟩=some (.slice s.a2 s.l2.length s.c2)∧s.At w
def KLe (ks:List Key) (n:Nat):Prop:=∀ k∈ks,k.1.length≤n∧k.2.length≤n
theorem KS.below {w w':World} {a:Option Addr} {B b o:Nat} {ks:List Key} (h:KS w a b o ks) (hb:Below B w w') (hB:w.heap.size≤B):KS w' a b o ks :=
 ⟨h.addr,fun i hi=>by
  obtain ⟨s,h1,h2,c1,c2,ha⟩:=h.row i hi
  have hl:=Nat.lt_of_lt_of_le (World.block_lt_of_cell? _ _ c1) hB
  exact ⟨s,h1,h2,(hb.cell (p:=⟨b,o+i * 2,none⟩) hl).trans c1,(hb.cell (p:=⟨b,o+i * 2+1,none⟩) hl).trans c2,ha.below hb hB⟩⟩
namespace M
end M
end Go.Proofs.YtihfibjckkmmbaaGreat
