/- The plain mathematics of what was seen: how numbers, and what was seen, are compared. No condition. And what goes with it: SnMath, SnMem, SnCmp, SnSee. -/
import Derived.BigQuiet
import Derived.Deep.RegionHeld3
import Derived.Sort.Grow
import Derived.Test.YtegommoflmmahaaGreatRows
import Derived.Test.YtegommoflmmahaaGreatQuab
namespace Go.Proofs.YtegommoflmmahaaGreat
section
namespace M
def comp:List Int→List Int→Int
 | [],[]=>0
 | [],_::_=>-1
 | _::_,[]=>1
 | x::a,y::b=>if x < y then -1 else if y < x then 1 else comp a b
theorem comp_lt {l m:List Int} {n:Nat} {x y:Int} (h:comp l m=comp (l.drop n) (m.drop n)) (hl:l.drop n=x::l.drop (n+1)) (hm:m.drop n=y::m.drop (n+1)) (hxy:x < y):comp l m=-1:=by
 rw [h,hl,hm,comp,if_pos hxy]
theorem comp_gt {l m:List Int} {n:Nat} {x y:Int} (h:comp l m=comp (l.drop n) (m.drop n)) (hl:l.drop n=x::l.drop (n+1)) (hm:m.drop n=y::m.drop (n+1)) (hxy:y < x):comp l m=1:=by
 rw [h,hl,hm,comp,if_neg (by omega),if_pos hxy]
theorem comp_eq {l m:List Int} {n:Nat} {x y:Int} (h:comp l m=comp (l.drop n) (m.drop n)) (hl:l.drop n=x::l.drop (n+1)) (hm:m.drop n=y::m.drop (n+1)) (h1:¬ x < y) (h2:¬ y < x):comp l m=comp (l.drop (n+1)) (m.drop (n+1)):=by
 rw [h,hl,hm,comp,if_neg h1,if_neg h2]
theorem comp_fst {l m:List Int} {n:Nat} (h:comp l m=comp (l.drop n) (m.drop n)) (hl:l.length≤n) (hm:n < m.length):comp l m=-1:=by
 rw [h,List.drop_eq_nil_of_le hl,(List.getElem_cons_drop hm).symm,comp]
theorem comp_snd {l m:List Int} {n:Nat} (h:comp l m=comp (l.drop n) (m.drop n)) (hl:n < l.length) (hm:m.length≤n):comp l m=1:=by
 rw [h,List.drop_eq_nil_of_le hm,(List.getElem_cons_drop hl).symm,comp]
theorem comp_fin {l m:List Int} {n:Nat} (h:comp l m=comp (l.drop n) (m.drop n)) (hl:l.length≤n) (hm:m.length≤n):comp l m=0:=by
 rw [h,List.drop_eq_nil_of_le hl,List.drop_eq_nil_of_le hm,comp]
theorem drop_int (l:List Int) (n:Nat) (h:n < l.length):l.drop n=l[n]::l.drop (n+1):=(List.getElem_cons_drop h).symm
def cmpS (a1 a2 b1 b2:List Int):Int:=if comp a1 b1=0 then comp a2 b2 else comp a1 b1
def vals (l:List Int):Bool:=l.all fun v=>decide (0≤v)&&decide (v≤3)
theorem vals_bad {l:List Int} {n:Nat} {x:Int} (h:vals l=vals (l.drop n)) (hl:l.drop n=x::l.drop (n+1)) (hx:¬ (0≤x∧x≤3)):vals l=false:=by
 rw [h,hl]
 simp only [vals,List.all_cons]
 have:(decide (0≤x)&&decide (x≤3))=false:=by
  rw [← Bool.decide_and];simpa using hx
 rw [this,Bool.false_and]
theorem vals_ok {l:List Int} {n:Nat} {x:Int} (h:vals l=vals (l.drop n)) (hl:l.drop n=x::l.drop (n+1)) (h0:0≤x) (h3:x≤3):vals l=vals (l.drop (n+1)):=by
 rw [h,hl]
 simp only [vals,List.all_cons]
 have:(decide (0≤x)&&decide (x≤3))=true:=by simp [h0,h3]
 rw [this,Bool.true_and]
theorem vals_fin {l:List Int} {n:Nat} (h:vals l=vals (l.drop n)) (hl:l.length≤n):vals l=true:=by
 rw [h,List.drop_eq_nil_of_le hl];rfl
end M
end
section
open Go.RowKit
structure IntS (w:World) (a:Option Addr) (b o:Nat) (l:List Int):Prop where
 addr:0 < l.length→a=some ⟨b,o,none⟩
 row:∀ i (h:i < l.length),w.cell? ⟨b,o+i,none⟩=some (.int .i64 l[i])
theorem IntS.lt {w:World} {a:Option Addr} {b o:Nat} {l:List Int} (h:IntS w a b o l) (hl:0 < l.length):b < w.heap.size:=World.block_lt_of_cell? _ _ (h.row 0 hl)
theorem IntS.below {w w':World} {a:Option Addr} {B b o:Nat} {l:List Int} (h:IntS w a b o l) (hb:Below B w w') (hB:w.heap.size≤B):IntS w' a b o l :=
 ⟨h.addr,fun i hi=>by rw [hb.cell (p:=⟨b,o+i,none⟩) (Nat.lt_of_lt_of_le (h.lt (by omega)) hB)];exact h.row i hi⟩
theorem IntS.nil (w:World) (a:Option Addr) (b o:Nat):IntS w a b o []:=⟨fun h=>absurd h (Nat.lt_irrefl _),fun _ hi=>absurd hi (Nat.not_lt_zero _)⟩
structure Grown (w w':World):Prop where
 bel:Below w.heap.size w w'
 drawn:w.drawn≤w'.drawn
theorem Grown.refl (w:World):Grown w w:=⟨Below.refl _ _,Nat.le_refl _⟩
theorem Grown.trans {a b c:World} (h:Grown a b) (k:Grown b c):Grown a c:=⟨h.bel.trans (k.bel.mono h.bel.size),Nat.le_trans h.drawn k.drawn⟩
theorem Grown.alloc {a b:World} (h:Grown a b) (o:Obj):Grown a (b.alloc o):=⟨h.bel.alloc h.bel.size o,h.drawn⟩
theorem Grown.drewN {a b:World} (h:Grown a b) (n:Nat):Grown a (b.drewN n):=⟨h.bel.trans ⟨rfl,rfl,rfl,Nat.le_refl _,fun _ _=>rfl⟩,Nat.le_trans h.drawn (Nat.le_add_right _ _)⟩
theorem Grown.drew {a b:World} (h:Grown a b):Grown a b.drew:=h.drewN 1
structure Sn where
 a1:Option Addr
 b1:Nat
 o1:Nat
 c1:Nat
 l1:List Int
 a2:Option Addr
 b2:Nat
 o2:Nat
 c2:Nat
 l2:List Int
structure Sn.At (s:Sn) (w:World):Prop where
 reads:IntS w s.a1 s.b1 s.o1 s.l1
 last:IntS w s.a2 s.b2 s.o2 s.l2
structure Sn.Le (s:Sn) (n:Nat):Prop where
 reads:s.l1.length≤n
 last:s.l2.length≤n
theorem Sn.At.below {s:Sn} {w w':World} {B:Nat} (h:s.At w) (hb:Below B w w') (hB:w.heap.size≤B):s.At w':=⟨h.reads.below hb hB,h.last.below hb hB⟩
theorem Sn.At.grown {s:Sn} {w w':World} (h:s.At w) (hg:Grown w w'):s.At w':=h.below hg.bel (Nat.le_refl _)
theorem Sn.Le.mono {s:Sn} {n m:Nat} (h:s.Le n) (hm:n≤m):s.Le m:=⟨Nat.le_trans h.reads hm,Nat.le_trans h.last hm⟩
end
section
open Go.RowKit
theorem ret_i {a b:Int} (h:a=b):Ending.returned (.int .i64 a)=.returned (.int .i64 b):=by rw [h]
theorem isNaN_any (x:Int) (w:World) :
  Calls Tryz.prog 190 #[.int .i64 x] w fun e w'=>e=.returned (.bool false)∧w'=w:=by
 go_enter Tryz.func190,Tryz.ntmps190
 go_wp2
 go_ret
 exact ⟨rfl,rfl⟩
def cmp3 (x y:Int):Int:=if x < y then -1 else if y < x then 1 else 0
theorem compare_any (x y:Int) (w:World) :
  Calls Tryz.prog 147 #[.int .i64 x,.int .i64 y] w fun e w'=>e=.returned (.int .i64 (cmp3 x y))∧w'=w:=by
 by_cases h1:x < y
 ·go_enter Tryz.func147,Tryz.ntmps147
  go_wp2_with (go_at_call 190;refine (isNaN_any _ _).mono ?_;rintro e w' ⟨rfl,rfl⟩)
  go_ret
  exact ⟨ret_i (by simp [cmp3,h1]),rfl⟩
 ·by_cases h2:y < x
  ·go_enter Tryz.func147,Tryz.ntmps147
   go_wp2_with (go_at_call 190;refine (isNaN_any _ _).mono ?_;rintro e w' ⟨rfl,rfl⟩)
   go_ret
   exact ⟨ret_i (by simp [cmp3,h1,h2]),rfl⟩
  ·go_enter Tryz.func147,Tryz.ntmps147
   go_wp2_with (go_at_call 190;refine (isNaN_any _ _).mono ?_;rintro e w' ⟨rfl,rfl⟩)
   go_ret
   exact ⟨ret_i (by rw [cmp3,if_neg (by omega),if_neg (by omega)]),rfl⟩
set_option maxHeartbeats 400000 in
theorem slcmp_any (a:Option Addr) (b o c:Nat) (l:List Int) (a2:Option Addr) (b2 o2 c2:Nat) (m:List Int) (w:World) (hl:l.length≤1048576) (hm:m.length≤1048576) (h:IntS w a b o l) (h2:IntS w a2 b2 o2 m) :
  Calls Tryz.prog 102 #[.slice a l.length c,.slice a2 m.length c2] w fun e w'=>e=.returned (.int .i64 (M.comp l m))∧w'=w:=by
 go_enter Tryz.func102,Tryz.ntmps102
 go_wp2_with fail
 go_loopw [11] (fun s11 wr=>∃ n:Nat,s11=.int .i64 n∧n≤l.length∧n≤m.length∧M.comp l m=M.comp (l.drop n) (m.drop n)∧wr=w) (fun s11 _=>l.length - (intOf s11).toNat)
 case atStart=>exact ⟨0,rfl,Nat.zero_le _,Nat.zero_le _,rfl,rfl⟩
 case round =>
  obtain ⟨n,rfl,hn,hnm,hpass,rfl⟩:=hrel
  have HP:Hid (M.comp l m=M.comp (l.drop n) (m.drop n)):=hpass
  clear hpass
  by_cases hlt:n < l.length
  ·obtain ⟨rfl⟩:=h.addr (by omega)
   have HD:Hid (l.drop n=l[n]::l.drop (n+1)):=M.drop_int l n hlt
   have hc:=h.row n hlt
   generalize l[n]=x at HD hc
   by_cases hmt:n < m.length
   ·obtain ⟨rfl⟩:=h2.addr (by omega)
    have HD2:Hid (m.drop n=m[n]::m.drop (n+1)):=M.drop_int m n hmt
    have hc2:=h2.row n hmt
    generalize m[n]=y at HD2 hc2
    by_cases h1:x < y
    ·have e3:cmp3 x y=-1:=by simp [cmp3,h1]
     go_wp2_with (go_at_call 147;refine (compare_any _ _ _).mono ?_;rw [e3];rintro e w' ⟨rfl,rfl⟩)
     go_ret
     exact ⟨ret_i (M.comp_lt HP.out HD.out HD2.out h1).symm,rfl⟩
    ·by_cases h2':y < x
     ·have e3:cmp3 x y=1:=by simp [cmp3,h1,h2']
      go_wp2_with (go_at_call 147;refine (compare_any _ _ _).mono ?_;rw [e3];rintro e w' ⟨rfl,rfl⟩)
      go_ret
      exact ⟨ret_i (M.comp_gt HP.out HD.out HD2.out h2').symm,rfl⟩
     ·have e3:cmp3 x y=0:=by simp [cmp3,h1,h2']
      go_wp2_with (go_at_call 147;refine (compare_any _ _ _).mono ?_;rw [e3];rintro e w' ⟨rfl,rfl⟩)
      exact ⟨⟨n+1,by go_num,by omega,by omega,M.comp_eq HP.out HD.out HD2.out (by omega) (by omega),trivial⟩,by simp [intOf];omega⟩
   ·have hmt':(m.length:Int)≤n:=by omega
    go_wp2_with fail
    go_ret
    exact ⟨ret_i (M.comp_snd HP.out hlt (by omega)).symm,rfl⟩
  ·by_cases hmt:n < m.length
   ·have e1:(l.length:Int) < m.length:=by omega
    go_wp2_with fail
    go_ret
    exact ⟨ret_i (M.comp_fst HP.out (by omega) hmt).symm,rfl⟩
   ·have e1:¬ (l.length:Int) < m.length:=by omega
    go_wp2_with fail
    go_ret
    exact ⟨ret_i (M.comp_fin HP.out (by omega) (by omega)).symm,rfl⟩
set_option maxHeartbeats 400000 in
theorem or_any (b:Nat) (x y:Int) (w:World) (hx:w.cell? ⟨b,0,none⟩=some (.int .i64 x)) (hy:w.cell? ⟨b,1,none⟩=some (.int .i64 y)) :
  Calls Tryz.prog 101 #[.slice (some ⟨b,0,none⟩) 2 2] w fun e w'=>e=.returned (.int .i64 (if x=0 then y else x))∧w'=w:=by
 by_cases h0:x=0
 ·subst h0
  by_cases h1:y=0
  ·subst h1
   go_enter Tryz.func101,Tryz.ntmps101
   go_wp2_with fail
   refine wp_loop_rounds 3 ?_
   rw [rounds_succ]
   go_wp2_with fail
   rw [rounds_succ]
   go_wp2_with fail
   rw [rounds_succ]
   go_wp2_with fail
   go_ret
   exact ⟨ret_i (by simp),rfl⟩
  ·have h1':(y==0)=false:=by simpa using h1
   go_enter Tryz.func101,Tryz.ntmps101
   go_wp2_with fail
   refine wp_loop_rounds 3 ?_
   rw [rounds_succ]
   go_wp2_with fail
   rw [rounds_succ]
   go_wp2_with fail
   go_ret
   exact ⟨ret_i (by simp),rfl⟩
 ·have h0':(x==0)=false:=by simpa using h0
  go_enter Tryz.func101,Tryz.ntmps101
  go_wp2_with fail
  refine wp_loop_rounds 3 ?_
  rw [rounds_succ]
  go_wp2_with fail
  go_ret
  exact ⟨ret_i (by simp),rfl⟩
end
section
open Go.RowKit
theorem alloc2 (w:World) (x y:Obj):Grown w ((w.alloc x).alloc y):=((Grown.refl w).alloc x).alloc y
set_option maxHeartbeats 1000000 in
set_option maxRecDepth 100000 in
theorem compareSeen_any (s t:Sn) (w:World) (hs:s.Le 1048576) (ht:t.Le 1048576) (hsa:s.At w) (hta:t.At w) :
  Calls Tryz.prog 47 #[.agg #[.slice s.a1 s.l1.length s.c1,.slice s.a2 s.l2.length s.c2],.agg #[.slice t.a1 t.l1.length t.c1,.slice t.a2 t.l2.length t.c2]] w fun e w'=>e=.returned (.int .i64 (M.cmpS s.l1 s.l2 t.l1 t.l2))∧Grown w w':=by
 obtain ⟨a1,b1,o1,c1,l1,a2,b2,o2,c2,l2⟩:=s
 obtain ⟨d1,e1,f1,g1,m1,d2,e2,f2,g2,m2⟩:=t
 obtain ⟨hs1,hs2⟩:=hs
 obtain ⟨ht1,ht2⟩:=ht
 obtain ⟨as1,as2⟩:=hsa
 obtain ⟨at1,at2⟩:=hta
 simp only at hs1 hs2 ht1 ht2 as1 as2 at1 at2
 go_enter Tryz.func47,Tryz.ntmps47
 go_wp2_with fail
 have hg0:Grown w (((w.alloc (.cells #[.slice a1 l1.length c1,.slice a2 l2.length c2] 28)).alloc (.cells #[.slice d1 m1.length g1,.slice d2 m2.length g2] 28))):=alloc2 w _ _
 have k1:((w.alloc (.cells #[.slice a1 l1.length c1,.slice a2 l2.length c2] 28)).alloc (.cells #[.slice d1 m1.length g1,.slice d2 m2.length g2] 28)).cell? ⟨w.heap.size,0,none⟩=some (.slice a1 l1.length c1):=by simp
 have k2:((w.alloc (.cells #[.slice a1 l1.length c1,.slice a2 l2.length c2] 28)).alloc (.cells #[.slice d1 m1.length g1,.slice d2 m2.length g2] 28)).cell? ⟨w.heap.size,1,none⟩=some (.slice a2 l2.length c2):=by simp
 have k3:((w.alloc (.cells #[.slice a1 l1.length c1,.slice a2 l2.length c2] 28)).alloc (.cells #[.slice d1 m1.length g1,.slice d2 m2.length g2] 28)).cell? ⟨w.heap.size+1,0,none⟩=some (.slice d1 m1.length g1):=by simp
 have k4:((w.alloc (.cells #[.slice a1 l1.length c1,.slice a2 l2.length c2] 28)).alloc (.cells #[.slice d1 m1.length g1,.slice d2 m2.length g2] 28)).cell? ⟨w.heap.size+1,1,none⟩=some (.slice d2 m2.length g2):=by simp
 generalize (w.alloc (.cells #[.slice a1 l1.length c1,.slice a2 l2.length c2] 28)).alloc (.cells #[.slice d1 m1.length g1,.slice d2 m2.length g2] 28)=W at *
 have x1:=as1.below hg0.drew.bel (Nat.le_refl _)
 have x2:=as2.below hg0.drew.bel (Nat.le_refl _)
 have y1:=at1.below hg0.drew.bel (Nat.le_refl _)
 have y2:=at2.below hg0.drew.bel (Nat.le_refl _)
 generalize w.heap.size=B at *
 have C1:=slcmp_any a1 b1 o1 c1 l1 d1 e1 f1 g1 m1 _ hs1 ht1 x1 y1
 have C2:=slcmp_any a2 b2 o2 c2 l2 d2 e2 f2 g2 m2 _ hs2 ht2 x2 y2
 obtain ⟨r1,hr1⟩:∃ r,M.comp l1 m1=r:=⟨_,rfl⟩
 obtain ⟨r2,hr2⟩:∃ r,M.comp l2 m2=r:=⟨_,rfl⟩
 obtain ⟨ro,hro⟩:∃ r,(if r1=0 then r2 else r1)=r:=⟨_,rfl⟩
 have hcs:M.cmpS l1 l2 m1 m2=ro:=by unfold M.cmpS;rw [hr1,hr2,hro]
 have HR:Hid (M.cmpS l1 l2 m1 m2=ro):=hcs
 have C3:∀ b W',W'.cell? ⟨b,0,none⟩=some (.int .i64 r1)→W'.cell? ⟨b,1,none⟩=some (.int .i64 r2)→Calls Tryz.prog 101 #[.slice (some ⟨b,0,none⟩) 2 2] W' fun e w'=>e=.returned (.int .i64 ro)∧w'=W':=fun b W' h1 h2=>by have h:=or_any b r1 r2 W' h1 h2;rwa [hro] at h
 clear hcs hro
 rw [hr1] at C1
 rw [hr2] at C2
 clear hr1 hr2
 clear as1 as2 at1 at2 x1 x2 y1 y2 hs1 hs2 ht1 ht2
 generalize l1.length=n1 at *
 generalize l2.length=n2 at *
 generalize m1.length=p1 at *
 generalize m2.length=p2 at *
 go_region_held3 (fun w'=>w'.cell? ⟨B,0,none⟩=some (.slice a1 n1 c1)∧w'.cell? ⟨B,1,none⟩=some (.slice a2 n2 c2)∧w'.cell? ⟨B+1,0,none⟩=some (.slice d1 p1 g1)∧w'.cell? ⟨B+1,1,none⟩=some (.slice d2 p2 g2)) (go_keep) (first
  | (go_at_call_of 102 (Value.slice a1 n1 c1);refine C1.mono ?_;rintro e w' ⟨rfl,rfl⟩)
  | (go_at_call_of 102 (Value.slice a2 n2 c2);refine C2.mono ?_;rintro e w' ⟨rfl,rfl⟩)
  | (go_at_call 101;refine (C3 _ _ ?_ ?_).mono ?_;(simp);(simp);rintro e w' ⟨rfl,rfl⟩))
 go_wp2_with fail
 go_ret
 exact ⟨ret_i HR.out.symm,(hg0.alloc _).drew⟩
set_option maxHeartbeats 1000000 in
theorem l2Comp_any (a:Option Addr) (b o c:Nat) (l:List Int) (a2:Option Addr) (b2 o2 c2:Nat) (m:List Int) (w:World) (hl:l.length≤1048576) (hm:m.length≤1048576) (h:IntS w a b o l) (h2:IntS w a2 b2 o2 m) :
  Calls Tryz.prog 86 #[.slice a l.length c,.slice a2 m.length c2] w fun e w'=>e=.returned (.int .i64 (M.comp l m))∧Grown w w':=by
 go_enter Tryz.func86,Tryz.ntmps86
 go_wp2_with fail
 go_loopw [5] (fun s5 wr=>∃ n:Nat,s5=.int .i64 n∧n≤l.length∧n≤m.length∧M.comp l m=M.comp (l.drop n) (m.drop n)∧Grown w wr) (fun s5 _=>l.length - (intOf s5).toNat)
 case atStart=>exact ⟨0,rfl,Nat.zero_le _,Nat.zero_le _,rfl,Grown.refl _⟩
 case round =>
  obtain ⟨n,rfl,hn,hnm,hpass,hg⟩:=hrel
  have HP:Hid (M.comp l m=M.comp (l.drop n) (m.drop n)):=hpass
  clear hpass
  by_cases hlt:n < l.length
  ·obtain ⟨rfl⟩:=h.addr (by omega)
   have HD:Hid (l.drop n=l[n]::l.drop (n+1)):=M.drop_int l n hlt
   have hc:=(h.below hg.bel (Nat.le_refl _)).row n hlt
   generalize l[n]=x at HD hc
   have i1:(n:Int) < l.length:=by omega
   by_cases hmt:n < m.length
   ·obtain ⟨rfl⟩:=h2.addr (by omega)
    have HD2:Hid (m.drop n=m[n]::m.drop (n+1)):=M.drop_int m n hmt
    have hc2:=(h2.below hg.bel (Nat.le_refl _)).row n hmt
    generalize m[n]=y at HD2 hc2
    have i2:(n:Int) < m.length:=by omega
    by_cases h1:x < y
    ·go_wp2_with fail
     go_quiet (fail)
     go_wp2_with fail
     go_ret
     exact ⟨ret_i (M.comp_lt HP.out HD.out HD2.out h1).symm,hg.drewN _⟩
    ·by_cases h2':y < x
     ·go_wp2_with fail
      go_quiet (fail)
      go_wp2_with fail
      go_quiet (fail)
      go_wp2_with fail
      go_ret
      exact ⟨ret_i (M.comp_gt HP.out HD.out HD2.out h2').symm,(hg.drewN _).drewN _⟩
     ·go_wp2_with fail
      go_quiet (fail)
      go_wp2_with fail
      go_quiet (fail)
      go_wp2_with fail
      exact ⟨⟨n+1,by go_num,by omega,by omega,M.comp_eq HP.out HD.out HD2.out (by omega) (by omega),hg.drewN _⟩,by simp [intOf];omega⟩
   ·have hmt':decide ((n:Int) < m.length)=false:=by simp;omega
    have e1:¬ (l.length:Int) < m.length:=by omega
    have e2:(m.length:Int) < l.length:=by omega
    go_wp2_with fail
    go_ret
    exact ⟨ret_i (M.comp_snd HP.out hlt (by omega)).symm,hg⟩
  ·have i1:decide ((n:Int) < l.length)=false:=by simp;omega
   by_cases hmt:n < m.length
   ·have e1:(l.length:Int) < m.length:=by omega
    go_wp2_with fail
    go_ret
    exact ⟨ret_i (M.comp_fst HP.out (by omega) hmt).symm,hg⟩
   ·have e1:¬ (l.length:Int) < m.length:=by omega
    have e2:¬ (m.length:Int) < l.length:=by omega
    go_wp2_with fail
    go_ret
    exact ⟨ret_i (M.comp_fin HP.out (by omega) (by omega)).symm,hg⟩
set_option maxHeartbeats 400000 in
theorem l2Seen_any (s t:Sn) (w:World) (hs:s.Le 1048576) (ht:t.Le 1048576) (hsa:s.At w) (hta:t.At w) :
  Calls Tryz.prog 41 #[.agg #[.slice s.a1 s.l1.length s.c1,.slice s.a2 s.l2.length s.c2],.agg #[.slice t.a1 t.l1.length t.c1,.slice t.a2 t.l2.length t.c2]] w fun e w'=>e=.returned (.int .i64 (M.cmpS s.l1 s.l2 t.l1 t.l2))∧Grown w w':=by
 have hga:=hsa.grown (alloc2 w (.cells #[.slice s.a1 s.l1.length s.c1,.slice s.a2 s.l2.length s.c2] 28) (.cells #[.slice t.a1 t.l1.length t.c1,.slice t.a2 t.l2.length t.c2] 28))
 have hgb:=hta.grown (alloc2 w (.cells #[.slice s.a1 s.l1.length s.c1,.slice s.a2 s.l2.length s.c2] 28) (.cells #[.slice t.a1 t.l1.length t.c1,.slice t.a2 t.l2.length t.c2] 28))
 have C1:=l2Comp_any s.a1 s.b1 s.o1 s.c1 s.l1 t.a1 t.b1 t.o1 t.c1 t.l1 _ hs.reads ht.reads hga.reads hgb.reads
 obtain ⟨r1,hr1⟩:∃ r,M.comp s.l1 t.l1=r:=⟨_,rfl⟩
 rw [hr1] at C1
 by_cases h0:r1=0
 ·subst h0
  go_enter Tryz.func41,Tryz.ntmps41
  go_wp2_with fail
  refine C1.mono ?_
  rintro e w1 ⟨rfl,hg1⟩
  obtain ⟨hc1,hf1⟩:=bcell hg1.bel
  have C2:=l2Comp_any s.a2 s.b2 s.o2 s.c2 s.l2 t.a2 t.b2 t.o2 t.c2 t.l2 _ hs.last ht.last (hga.grown hg1).last (hgb.grown hg1).last
  go_wp2_with fail
  refine C2.mono ?_
  rintro e w2 ⟨rfl,hg2⟩
  go_wp2_with fail
  go_ret
  exact ⟨ret_i (by simp [M.cmpS,hr1]),((alloc2 w _ _).trans hg1).trans hg2⟩
 ·have h0':(r1==0)=false:=by simpa using h0
  go_enter Tryz.func41,Tryz.ntmps41
  go_wp2_with fail
  refine C1.mono ?_
  rintro e w1 ⟨rfl,hg1⟩
  go_wp2_with fail
  go_ret
  exact ⟨ret_i (by simp [M.cmpS,hr1,h0]),(alloc2 w _ _).trans hg1⟩
end
end Go.Proofs.YtegommoflmmahaaGreat
