/- What spec's order says of events before a way is set: same, inside, loose, stays, net. Of at most 1048576 threads and steps. Made by mkOsR.py. -/
import Derived.Deep.OwnRows
import Derived.Test.YtmhpgdliaclokaaGreatRows
import Derived.Test.YtmhpgdliaclokaaGreatQtbf
namespace Go.Proofs.YtmhpgdliaclokaaGreat
section
open Go.RowKit
structure Lq.Ar (u:Lq) (t:Lp) (w:World):Prop where
 p:t.At w
 c2:w.cell? ⟨t.O,2,none⟩=some (.slice (some ⟨u.rb,0,none⟩) (M.deeds t.ll).length u.rc)
 c3:w.cell? ⟨t.O,3,none⟩=some (.slice (some ⟨u.wb,0,none⟩) (M.deeds t.ll).length u.wc)
 rd:∀ n x,(M.deeds t.ll)[n]?=some x→w.cell? ⟨u.rb,n,none⟩=some (.bool (M.reads x.d.k))
 wr:∀ n x,(M.deeds t.ll)[n]?=some x→w.cell? ⟨u.wb,n,none⟩=some (.bool (M.writes x.d.k))
theorem Lq.Ar.below {u:Lq} {t:Lp} {w w':World} (h:u.Ar t w) (hb:Below w.heap.size w w'):u.Ar t w' :=
 ⟨h.p.below hb,cellC hb h.c2,cellC hb h.c3,fun n x hx=>cellC hb (h.rd n x hx),fun n x hx=>cellC hb (h.wr n x hx)⟩
set_option maxHeartbeats 2000000 in
set_option maxRecDepth 100000 in
theorem sameR_any (t : Lp) (u : Lq) (a b : Nat) (x y : M.De) (w : World) (hk : t.Ok) (h : u.Ar t w) (hx : (M.deeds t.ll)[a]? = some x) (hy : (M.deeds t.ll)[b]? = some y) :
    Calls Tryz.prog 139 #[.pointer (some ⟨t.O, 0, none⟩), .int .i64 (a : Int), .int .i64 (b : Int)] w fun e w' => e = .returned (.bool (M.onePl x y)) ∧ Below w.heap.size w w' := by
  have fl := Tryz.fld1
  have ha := Lp.lt hx
  have hb := Lp.lt hy
  have i1 : (a : Int) < (M.deeds t.ll).length := by omega
  have i2 : (b : Int) < (M.deeds t.ll).length := by omega
  have k2 := h.c2
  have k3 := h.c3
  have rx := h.rd a x hx
  have wx := h.wr a x hx
  have ry := h.rd b y hy
  have wy := h.wr b y hy
  cases hrx : M.reads x.d.k <;> cases hwx : M.writes x.d.k <;> cases hry : M.reads y.d.k <;> cases hwy : M.writes y.d.k
  all_goals
    rw [hrx] at rx
    rw [hwx] at wx
    rw [hry] at ry
    rw [hwy] at wy
    go_enter Tryz.func139, Tryz.ntmps139
    go_wp2_with fail
    first
    | (go_ret
       exact ⟨ret_bool (by simp [M.onePl, M.De.uses, M.uses, hrx, hwx, hry, hwy]), Below.refl _ _⟩)
    | (refine (do_any t a x _ hk h.p hx).mono ?_
       rintro e w1 ⟨rfl, hb1⟩
       go_wp2_with fail
       refine (do_any t b y _ hk (h.p.below hb1) hy).mono ?_
       rintro e w2 ⟨rfl, hb2⟩
       go_wp2_with fail
       go_ret
       exact ⟨ret_bool (by simp [M.onePl, M.De.uses, M.uses, hrx, hwx, hry, hwy]), hb1.trans (hb2.mono hb1.size)⟩)
set_option maxHeartbeats 2000000 in
set_option maxRecDepth 100000 in
theorem insideR_any (t:Lp) (u:Lq) (a b:Nat) (x y:M.De) (w:World) (hk:t.Ok) (h:u.Ar t w) (hx:(M.deeds t.ll)[a]?=some x) (hy:(M.deeds t.ll)[b]?=some y) (ho:M.own a b x y=true) :
  Calls Tryz.prog 181 #[.pointer (some ⟨t.O,0,none⟩),.int .i64 (a:Int),.int .i64 (b:Int)] w fun e w'=>e=.returned (.bool (M.inside (M.deeds t.ll) a b x y))∧Below w.heap.size w w':=by
 have fl:=Tryz.fld0
 have ha:=Lp.lt hx
 have hb:=Lp.lt hy
 have hdl:=hk.dl
 have hab:a < b:=by simp only [M.own,Bool.and_eq_true,decide_eq_true_eq] at ho;exact ho.1
 go_enter Tryz.func181,Tryz.ntmps181
 go_wp2_with fail
 refine (do_any t a x _ hk h.p hx).mono ?_
 rintro e v1 ⟨rfl,hd1⟩
 have hc1:=hd1
 cases h7:(x.d.k==7)<;>cases h8:(y.d.k==8)
 ·go_wp2_with fail
  refine (do_any t b y _ hk (h.p.below hc1) hy).mono ?_
  rintro e v2 ⟨rfl,hd2⟩
  have hc2:=hc1.trans (hd2.mono hc1.size)
  go_wp2_with fail
  refine (sown_any t a b x y _ hk (h.p.below hc2) hx hy).mono ?_
  rw [ho]
  rintro e v3 ⟨rfl,hd3⟩
  have hc3:=hc2.trans (hd3.mono hc2.size)
  go_wp2_with fail
  go_ret
  exact ⟨ret_bool (by simp [M.inside,h7,h8]),hc3⟩
 ·go_wp2_with fail
  refine (do_any t b y _ hk (h.p.below hc1) hy).mono ?_
  rintro e v2 ⟨rfl,hd2⟩
  have hc2:=hc1.trans (hd2.mono hc1.size)
  go_wp2_with fail
  refine (sown_any t a b x y _ hk (h.p.below hc2) hx hy).mono ?_
  rw [ho]
  rintro e v3 ⟨rfl,hd3⟩
  have hc3:=hc2.trans (hd3.mono hc2.size)
  go_wp2_with fail
  have HI:Hid (M.inside (M.deeds t.ll) a b x y=M.midFrom (M.deeds t.ll) false true (b - (a+1)) (a+1)):=by show _=_;simp [M.inside,h7,h8]
  go_loopw [9] (fun s9 wr=>∃ n:Nat,s9=.int .i64 n∧a < n∧n≤b∧Hid (M.midFrom (M.deeds t.ll) false true (b - (a+1)) (a+1)=M.midFrom (M.deeds t.ll) false true (b - n) n)∧Below w.heap.size w wr) (fun s9 _=>b - (intOf s9).toNat)
  case atStart=>exact ⟨a+1,by go_num,by omega,by omega,by show _=_;rfl,hc3⟩
  case round =>
   clear hc1 hc2 hc3 hd1 hd2 hd3
   obtain ⟨n,rfl,han,hnb,HM,hbw⟩:=hrel
   by_cases hlt:n < b
   ·obtain ⟨z,hz⟩:∃ z,(M.deeds t.ll)[n]?=some z:=⟨_,List.getElem?_eq_getElem (by omega)⟩
    have HS:Hid (M.midFrom (M.deeds t.ll) false true (b - n) n=if (false&&z.d.k==8)||(true&&z.d.k==7) then false else M.midFrom (M.deeds t.ll) false true (b - (n+1)) (n+1)):=M.mid_step hlt hz
    have i3:(n:Int) < b:=by omega
    go_wp2_with fail
    refine (do_any t n z _ hk (h.p.below hbw) hz).mono ?_
    rintro e w1 ⟨rfl,hb1⟩
    cases k7:(z.d.k==7)
    case true =>
     go_wp2_with fail
     go_ret
     exact ⟨ret_bool (by rw [HI.out,HM.out,HS.out];simp [k7]),hbw.trans (hb1.mono hbw.size)⟩
    go_wp2_with fail
    exact ⟨⟨n+1,by go_num,by omega,by omega,by show _=_;rw [HM.out,HS.out];simp [k7],hbw.trans (hb1.mono hbw.size)⟩,by simp [intOf];omega⟩
   ·have hnb':¬ (n:Int) < b:=by omega
    go_wp2_with fail
    go_ret
    exact ⟨ret_bool (by rw [HI.out,HM.out,show b - n=0 from by omega];rfl),hbw⟩
 ·go_wp2_with fail
  refine (do_any t b y _ hk (h.p.below hc1) hy).mono ?_
  rintro e v2 ⟨rfl,hd2⟩
  have hc2:=hc1.trans (hd2.mono hc1.size)
  go_wp2_with fail
  refine (sown_any t a b x y _ hk (h.p.below hc2) hx hy).mono ?_
  rw [ho]
  rintro e v3 ⟨rfl,hd3⟩
  have hc3:=hc2.trans (hd3.mono hc2.size)
  go_wp2_with fail
  have HI:Hid (M.inside (M.deeds t.ll) a b x y=M.midFrom (M.deeds t.ll) true false (b - (a+1)) (a+1)):=by show _=_;simp [M.inside,h7,h8]
  go_loopw [9] (fun s9 wr=>∃ n:Nat,s9=.int .i64 n∧a < n∧n≤b∧Hid (M.midFrom (M.deeds t.ll) true false (b - (a+1)) (a+1)=M.midFrom (M.deeds t.ll) true false (b - n) n)∧Below w.heap.size w wr) (fun s9 _=>b - (intOf s9).toNat)
  case atStart=>exact ⟨a+1,by go_num,by omega,by omega,by show _=_;rfl,hc3⟩
  case round =>
   clear hc1 hc2 hc3 hd1 hd2 hd3
   obtain ⟨n,rfl,han,hnb,HM,hbw⟩:=hrel
   by_cases hlt:n < b
   ·obtain ⟨z,hz⟩:∃ z,(M.deeds t.ll)[n]?=some z:=⟨_,List.getElem?_eq_getElem (by omega)⟩
    have HS:Hid (M.midFrom (M.deeds t.ll) true false (b - n) n=if (true&&z.d.k==8)||(false&&z.d.k==7) then false else M.midFrom (M.deeds t.ll) true false (b - (n+1)) (n+1)):=M.mid_step hlt hz
    have i3:(n:Int) < b:=by omega
    go_wp2_with fail
    refine (do_any t n z _ hk (h.p.below hbw) hz).mono ?_
    rintro e w1 ⟨rfl,hb1⟩
    cases k8:(z.d.k==8)
    case true =>
     go_wp2_with fail
     go_ret
     exact ⟨ret_bool (by rw [HI.out,HM.out,HS.out];simp [k8]),hbw.trans (hb1.mono hbw.size)⟩
    go_wp2_with fail
    exact ⟨⟨n+1,by go_num,by omega,by omega,by show _=_;rw [HM.out,HS.out];simp [k8],hbw.trans (hb1.mono hbw.size)⟩,by simp [intOf];omega⟩
   ·have hnb':¬ (n:Int) < b:=by omega
    go_wp2_with fail
    go_ret
    exact ⟨ret_bool (by rw [HI.out,HM.out,show b - n=0 from by omega];rfl),hbw⟩
 ·go_wp2_with fail
  refine (do_any t b y _ hk (h.p.below hc1) hy).mono ?_
  rintro e v2 ⟨rfl,hd2⟩
  have hc2:=hc1.trans (hd2.mono hc1.size)
  go_wp2_with fail
  refine (sown_any t a b x y _ hk (h.p.below hc2) hx hy).mono ?_
  rw [ho]
  rintro e v3 ⟨rfl,hd3⟩
  have hc3:=hc2.trans (hd3.mono hc2.size)
  go_wp2_with fail
  have HI:Hid (M.inside (M.deeds t.ll) a b x y=M.midFrom (M.deeds t.ll) true true (b - (a+1)) (a+1)):=by show _=_;simp [M.inside,h7,h8]
  go_loopw [9] (fun s9 wr=>∃ n:Nat,s9=.int .i64 n∧a < n∧n≤b∧Hid (M.midFrom (M.deeds t.ll) true true (b - (a+1)) (a+1)=M.midFrom (M.deeds t.ll) true true (b - n) n)∧Below w.heap.size w wr) (fun s9 _=>b - (intOf s9).toNat)
  case atStart=>exact ⟨a+1,by go_num,by omega,by omega,by show _=_;rfl,hc3⟩
  case round =>
   clear hc1 hc2 hc3 hd1 hd2 hd3
   obtain ⟨n,rfl,han,hnb,HM,hbw⟩:=hrel
   by_cases hlt:n < b
   ·obtain ⟨z,hz⟩:∃ z,(M.deeds t.ll)[n]?=some z:=⟨_,List.getElem?_eq_getElem (by omega)⟩
    have HS:Hid (M.midFrom (M.deeds t.ll) true true (b - n) n=if (true&&z.d.k==8)||(true&&z.d.k==7) then false else M.midFrom (M.deeds t.ll) true true (b - (n+1)) (n+1)):=M.mid_step hlt hz
    have i3:(n:Int) < b:=by omega
    go_wp2_with fail
    refine (do_any t n z _ hk (h.p.below hbw) hz).mono ?_
    rintro e w1 ⟨rfl,hb1⟩
    cases k8:(z.d.k==8)
    case true =>
     go_wp2_with fail
     go_ret
     exact ⟨ret_bool (by rw [HI.out,HM.out,HS.out];simp [k8]),hbw.trans (hb1.mono hbw.size)⟩
    cases k7:(z.d.k==7)
    case true =>
     go_wp2_with fail
     refine (do_any t n z _ hk ((h.p.below hbw).below hb1) hz).mono ?_
     rintro e w2 ⟨rfl,hb2⟩
     go_wp2_with fail
     go_ret
     exact ⟨ret_bool (by rw [HI.out,HM.out,HS.out];simp [k7]),hbw.trans ((hb1.trans (hb2.mono hb1.size)).mono hbw.size)⟩
    go_wp2_with fail
    refine (do_any t n z _ hk ((h.p.below hbw).below hb1) hz).mono ?_
    rintro e w2 ⟨rfl,hb2⟩
    go_wp2_with fail
    exact ⟨⟨n+1,by go_num,by omega,by omega,by show _=_;rw [HM.out,HS.out];simp [k7,k8],hbw.trans ((hb1.trans (hb2.mono hb1.size)).mono hbw.size)⟩,by simp [intOf];omega⟩
   ·have hnb':¬ (n:Int) < b:=by omega
    go_wp2_with fail
    go_ret
    exact ⟨ret_bool (by rw [HI.out,HM.out,show b - n=0 from by omega];rfl),hbw⟩
set_option maxHeartbeats 2000000 in
set_option maxRecDepth 100000 in
theorem slooseR_any (t:Lp) (u:Lq) (a b:Nat) (x y:M.De) (w:World) (hk:t.Ok) (h:u.Ar t w) (hx:(M.deeds t.ll)[a]?=some x) (hy:(M.deeds t.ll)[b]?=some y) :
  Calls Tryz.prog 138 #[.pointer (some ⟨t.O,0,none⟩),.int .i64 (a:Int),.int .i64 (b:Int)] w fun e w'=>e=.returned (.bool (M.own a b x y&&M.sKeeps (M.deeds t.ll) a b x y))∧Below w.heap.size w w':=by
 have ha:=Lp.lt hx
 have hb:=Lp.lt hy
 have i2:(b:Int) < (M.deeds t.ll).length:=by omega
 have C:=sown_any t a b x y w hk h.p hx hy
 cases ho:M.own a b x y
 case false =>
  rw [ho] at C
  go_enter Tryz.func138,Tryz.ntmps138
  go_wp2_with fail
  refine C.mono ?_
  rintro e w1 ⟨rfl,hb1⟩
  go_wp2_with fail
  go_ret
  exact ⟨ret_bool (by simp),hb1⟩
 rw [ho] at C
 go_enter Tryz.func138,Tryz.ntmps138
 go_wp2_with fail
 refine C.mono ?_
 rintro e w1 ⟨rfl,hb1⟩
 go_wp2_with fail
 refine (do_any t a x _ hk (h.p.below hb1) hx).mono ?_
 rintro e w2 ⟨rfl,hb2⟩
 have hc2:=hb1.trans (hb2.mono hb1.size)
 have V2:=DoV.new w2 x.d
 have hc3:=hc2.alloc hc2.size (.cells #[.int .i64 x.d.k,.int .i64 x.d.p,.int .i64 x.d.v] 94)
 go_wp2_with fail
 generalize w2.alloc (.cells #[.int .i64 x.d.k,.int .i64 x.d.p,.int .i64 x.d.v] 94)=W2 at *
 generalize w2.heap.size=X at *
 refine (do_any t b y _ hk (h.p.below hc3) hy).mono ?_
 rintro e w3 ⟨rfl,hb3⟩
 have hc4:=hc3.trans (hb3.mono hc3.size)
 have U3:=DoV.new w3 y.d
 have V3:=(V2.below hb3).below (below1 w3 (.cells #[.int .i64 y.d.k,.int .i64 y.d.p,.int .i64 y.d.v] 94))
 have hc5:=hc4.alloc hc4.size (.cells #[.int .i64 y.d.k,.int .i64 y.d.p,.int .i64 y.d.v] 94)
 clear hb1 hb2 hb3 hc2 hc3 hc4 V2 C
 have a0:=V3.c0;have a1:=V3.c1;have a2:=V3.c2
 go_wp2_with fail
 clear a0 a1 a2
 generalize w3.alloc (.cells #[.int .i64 y.d.k,.int .i64 y.d.p,.int .i64 y.d.v] 94)=W3 at *
 generalize w3.heap.size=Y at *
 have C1:=wall13_any x.d W3
 cases q1:M.isWall x.d.k
 case true =>
  rw [q1] at C1
  refine C1.mono ?_
  rintro e w4 ⟨rfl,hb4⟩
  go_wp2_with fail
  go_ret
  exact ⟨ret_bool (by simp [M.sKeeps,q1]),hc5.trans (hb4.mono hc5.size)⟩
 rw [q1] at C1
 refine C1.mono ?_
 rintro e w4 ⟨rfl,hb4⟩
 have hc6:=hc5.trans (hb4.mono hc5.size)
 have V4:=V3.below hb4
 have U4:=U3.below hb4
 clear C1 V3 U3 hc5 hb4
 have b0:=U4.c0;have b1:=U4.c1;have b2:=U4.c2
 go_wp2_with fail
 clear b0 b1 b2
 have C2:=wall13_any y.d w4
 cases q2:M.isWall y.d.k
 case true =>
  rw [q2] at C2
  refine C2.mono ?_
  rintro e w5 ⟨rfl,hb5⟩
  go_wp2_with fail
  go_ret
  exact ⟨ret_bool (by simp [M.sKeeps,q2]),hc6.trans (hb5.mono hc6.size)⟩
 rw [q2] at C2
 refine C2.mono ?_
 rintro e w5 ⟨rfl,hb5⟩
 have hc7:=hc6.trans (hb5.mono hc6.size)
 have V5:=V4.below hb5
 have U5:=U4.below hb5
 have a0:=V5.c0
 have b0:=U5.c0
 clear C2 V4 U4 hc6 hb5
 cases q3:(x.d.k==5)
 case true =>
  go_wp2_with fail
  go_ret
  exact ⟨ret_bool (by simp [M.sKeeps,q3]),hc7⟩
 cases q4:(y.d.k==6)
 case true =>
  go_wp2_with fail
  go_ret
  exact ⟨ret_bool (by simp [M.sKeeps,q4]),hc7⟩
 go_wp2_with fail
 have C3:=insideR_any t u a b x y w5 hk (h.below hc7) hx hy ho
 cases q5:M.inside (M.deeds t.ll) a b x y
 case true =>
  rw [q5] at C3
  refine C3.mono ?_
  rintro e w6 ⟨rfl,hb6⟩
  go_wp2_with fail
  go_ret
  exact ⟨ret_bool (by simp [M.sKeeps,q5]),hc7.trans (hb6.mono hc7.size)⟩
 rw [q5] at C3
 refine C3.mono ?_
 rintro e w6 ⟨rfl,hb6⟩
 have hc8:=hc7.trans (hb6.mono hc7.size)
 have U6:=U5.below hb6
 have h6:=h.below hc8
 clear C3 V5 U5 hc7 hb6 a0 b0
 go_wp2_with fail
 have K0:=BelowOf.cell U6.c0
 have P0:=BelowOf.cell h6.p.p0
 have L0:=BelowOf.cell h6.p.l0
 haveI:Inhabited (BelowOf w6):=⟨belOf w6⟩
 by_cases k3:y.d.k=3
 ·have hyb:(M.deeds t.ll)[b]=y:=by rw [List.getElem?_eq_getElem hb] at hy;exact Option.some.inj hy
  have hsrc:=M.src_ok t.ll b hb (by rw [hyb];show M.reads y.d.k=false;rw [k3];rfl)
  have CS:=fun q:BelowOf w6=>l12Source_any t.a t.b t.o t.c t.ll (some ⟨t.g,0,none⟩) t.g t.cc b (M.deeds t.ll)[b].t q.x hb rfl hk.l hk.ls hk.dl ((h6.p.below q.h).ss) ((h6.p.below q.h).dv)
  rw [hsrc,hyb] at CS
  rw [k3] at K0
  clear hsrc hyb
  refine wp_region_quiet_bel (by kernel_rfl) (by kernel_rfl) ?_
  repeat (quiet_step (first | (go_at_call 182;exact Calls.bel_of (CS _))))
  refine wpQuiet_nil ?_
  rintro _ ⟨⟨wq,hwq⟩,rfl⟩
  go_wp2_with fail
  go_ret
  exact ⟨ret_bool (by simp [M.sKeeps,M.copyOf,q1,q3,q5,k3,show M.isWall 3=false from rfl]),hc8.trans (hwq.mono hc8.size)⟩
 ·have k3':(y.d.k==3)=false:=by simpa using k3
  refine wp_region_quiet_bel (by kernel_rfl) (by kernel_rfl) ?_
  iterate 4 (quiet_step (fail))
  iterate 12 go_big_quiet_skip
  iterate 2 (quiet_step (fail))
  refine wpQuiet_nil ?_
  rintro _ ⟨⟨wq,hwq⟩,rfl⟩
  go_wp2_with fail
  go_ret
  exact ⟨ret_bool (by simp [M.sKeeps,M.copyOf,q1,q2,q3,q4,q5,k3]),hc8.trans (hwq.mono hc8.size)⟩
theorem stays1R_any (t:Lp) (u:Lq) (a b:Nat) (x y:M.De) (w:World) (hk:t.Ok) (h:u.Ar t w) (hx:(M.deeds t.ll)[a]?=some x) (hy:(M.deeds t.ll)[b]?=some y) :
  Calls Tryz.prog 84 #[.pointer (some ⟨t.O,0,none⟩),.int .i64 1,.int .i64 (a:Int),.int .i64 (b:Int)] w fun e w'=>e=.returned (.bool (M.stays (M.deeds t.ll) 1 a b x y))∧Below w.heap.size w w':=by
 go_enter Tryz.func84,Tryz.ntmps84
 go_wp2_with fail
 refine (sown_any t a b x y w hk h.p hx hy).mono ?_
 rintro e w1 ⟨rfl,hb1⟩
 go_wp2_with fail
 go_ret
 exact ⟨rfl,hb1⟩
theorem stays3R_any (t:Lp) (u:Lq) (a b:Nat) (x y:M.De) (w:World) (hk:t.Ok) (h:u.Ar t w) (hx:(M.deeds t.ll)[a]?=some x) (hy:(M.deeds t.ll)[b]?=some y) :
  Calls Tryz.prog 84 #[.pointer (some ⟨t.O,0,none⟩),.int .i64 3,.int .i64 (a:Int),.int .i64 (b:Int)] w fun e w'=>e=.returned (.bool (M.stays (M.deeds t.ll) 3 a b x y))∧Below w.heap.size w w':=by
 go_enter Tryz.func84,Tryz.ntmps84
 go_wp2_with fail
 refine (slooseR_any t u a b x y w hk h hx hy).mono ?_
 rintro e w1 ⟨rfl,hb1⟩
 go_wp2_with fail
 go_ret
 exact ⟨rfl,hb1⟩
theorem stays2R_any (t:Lp) (u:Lq) (a b:Nat) (x y:M.De) (w:World) (hk:t.Ok) (h:u.Ar t w) (hx:(M.deeds t.ll)[a]?=some x) (hy:(M.deeds t.ll)[b]?=some y) :
  Calls Tryz.prog 84 #[.pointer (some ⟨t.O,0,none⟩),.int .i64 2,.int .i64 (a:Int),.int .i64 (b:Int)] w fun e w'=>e=.returned (.bool (M.stays (M.deeds t.ll) 2 a b x y))∧Below w.heap.size w w':=by
 have ha:=Lp.lt hx
 have hb:=Lp.lt hy
 have i1:(a:Int) < (M.deeds t.ll).length:=by omega
 have i2:(b:Int) < (M.deeds t.ll).length:=by omega
 have C:=sown_any t a b x y w hk h.p hx hy
 cases ho:M.own a b x y
 ·rw [ho] at C
  go_enter Tryz.func84,Tryz.ntmps84
  go_wp2_with fail
  refine C.mono ?_
  rintro e w1 ⟨rfl,hb1⟩
  go_wp2_with fail
  go_ret
  exact ⟨ret_bool (by simp [M.stays,M.late,ho]),hb1⟩
 ·rw [ho] at C
  cases hw:M.writes x.d.k
  all_goals
   go_enter Tryz.func84,Tryz.ntmps84
   go_wp2_with fail
   refine C.mono ?_
   rintro e w1 ⟨rfl,hb1⟩
   have h1:=h.below hb1
   have k2:=h1.c2
   have k3:=h1.c3
   have wx:=h1.wr a x hx
   have ry:=h1.rd b y hy
   rw [hw] at wx
   go_wp2_with fail
   go_ret
   exact ⟨ret_bool (by simp [M.stays,M.late,ho,hw]),hb1⟩
set_option maxHeartbeats 1000000 in
set_option maxRecDepth 100000 in
theorem stays0R_any (t:Lp) (u:Lq) (a b:Nat) (x y:M.De) (w:World) (hk:t.Ok) (h:u.Ar t w) (hx:(M.deeds t.ll)[a]?=some x) (hy:(M.deeds t.ll)[b]?=some y) :
  Calls Tryz.prog 84 #[.pointer (some ⟨t.O,0,none⟩),.int .i64 0,.int .i64 (a:Int),.int .i64 (b:Int)] w fun e w'=>e=.returned (.bool (M.stays (M.deeds t.ll) 0 a b x y))∧Below w.heap.size w w':=by
 have C:=sown_any t a b x y w hk h.p hx hy
 cases ho:M.own a b x y
 ·rw [ho] at C
  go_enter Tryz.func84,Tryz.ntmps84
  go_wp2_with fail
  refine C.mono ?_
  rintro e w1 ⟨rfl,hb1⟩
  go_wp2_with fail
  go_ret
  exact ⟨ret_bool (by simp [M.stays,ho]),hb1⟩
 ·rw [ho] at C
  go_enter Tryz.func84,Tryz.ntmps84
  go_wp2_with fail
  refine C.mono ?_
  rintro e w1 ⟨rfl,hb1⟩
  go_wp2_with fail
  refine (sameR_any t u a b x y w1 hk (h.below hb1) hx hy).mono ?_
  rintro e w2 ⟨rfl,hb2⟩
  go_wp2_with fail
  go_ret
  exact ⟨ret_bool (by simp [M.stays,ho]),hb1.trans (hb2.mono hb1.size)⟩
set_option maxHeartbeats 4000000 in
set_option maxRecDepth 100000 in
theorem netR_of (t:Lp) (u:Lq) (k:Nat) (w:World) (hn:(M.deeds t.ll).length≤28) (h:u.Ar t w)
  (hS:∀ (a b:Nat) (x y:M.De) (w:World),u.Ar t w→(M.deeds t.ll)[a]?=some x→(M.deeds t.ll)[b]?=some y→Calls Tryz.prog 84 #[.pointer (some ⟨t.O,0,none⟩),.int .i64 k,.int .i64 (a:Int),.int .i64 (b:Int)] w fun e w'=>e=.returned (.bool (M.stays (M.deeds t.ll) k a b x y))∧Below w.heap.size w w') :
  Calls Tryz.prog 37 #[.pointer (some ⟨t.O,0,none⟩),.int .i64 k] w fun e w'=>∃ X',e=.returned (.pointer (some ⟨X',0,none⟩))∧(∃ G' c' va' rb' rc',NtO w' w.heap.size X' G' (M.deeds t.ll).length c' va' rb' rc' (M.staysAt (M.deeds t.ll) k))∧Below w.heap.size w w':=by
 obtain ⟨j0,hj,hy0,hy1,hy2⟩:=info_parts Tryz.infoRb
 have HA:Hid (∀ a b x y,(M.deeds t.ll)[a]?=some x→(M.deeds t.ll)[b]?=some y→M.staysAt (M.deeds t.ll) k a b=M.stays (M.deeds t.ll) k a b x y):=fun a b x y hx hy=>M.staysAt_of hx hy
 generalize M.staysAt (M.deeds t.ll) k=A at *
 go_enter Tryz.func37,Tryz.ntmps37
 go_wp2_with fail
 go_loopw [6] (fun s6 wr=>∃ (m:Nat) (v:Value) (vs:List Value),s6=.int .i64 m∧m≤(M.deeds t.ll).length∧S1 wr w.heap.size v∧NB wr (w.heap.size+1) v (M.rowsB A (M.deeds t.ll).length m) vs∧Below w.heap.size w wr) (fun s6 _=>(M.deeds t.ll).length - (intOf s6).toNat)
 case atStart=>exact ⟨0,.slice none 0 0,[],rfl,Nat.zero_le _,⟨by simp,by simp⟩,NB.nil _ _,below1 _ _⟩
 case round =>
  obtain ⟨m,v,vs,rfl,hm,hS1,hNB,hbel⟩:=hrel
  have hU:=h.below hbel
  have l0:=hU.p.l0
  obtain ⟨n,hnn⟩:∃ n,(M.deeds t.ll).length=n:=⟨_,rfl⟩
  have HN:Hid ((M.deeds t.ll).length=n):=hnn
  by_cases hmn:m < (M.deeds t.ll).length
  ·have hx:=List.getElem?_eq_getElem hmn
   rw [hnn] at l0 hm hmn hn hNB ⊢
   have hmn':(m:Int) < n:=by omega
   have lO:t.O < wr.heap.size:=World.block_lt_of_cell? _ _ l0
   have hmk:=run_make_row' (P:=Tryz.prog) 129 4 (.bool false) 1 Tryz.underlying129 (by kernel_rfl) rfl .i64 .i64 n (by omega) (by omega)
   have hrow:=World.rowIs_made wr (.bool false) n 4
   have bR:=below1 wr (.cells (madeCells #[.bool false] n) 4)
   generalize (M.deeds t.ll)[m]=x at hx
   clear hnn
   go_wp2_with fail
   clear hmk
   generalize wr.alloc (.cells (madeCells #[.bool false] n) 4)=WR at *
   go_loopw [8] (fun s8 wi=>∃ q:Nat,s8=.int .i64 q∧q≤n∧wi.rowIs wr.heap.size 4 n (fun j=>.bool (((List.range q).map fun b=>A m b).getD j false))∧Below wr.heap.size wr wi) (fun s8 _=>n - (intOf s8).toNat)
   case atStart=>exact ⟨0,rfl,Nat.zero_le _,hrow.congr (fun i _=>by simp),bR⟩
   case round =>
    obtain ⟨q,rfl,hq,hrw,hbi⟩:=hrel
    clear hrow bR
    have hUi:=hU.below hbi
    have l1:=hUi.p.l0
    rw [HN.out] at l1
    by_cases hqn:q < n
    ·have hqn':(q:Int) < n:=by omega
     have hy:=List.getElem?_eq_getElem (l:=M.deeds t.ll) (i:=q) (by rw [HN.out];exact hqn)
     generalize (M.deeds t.ll)[q]'(by rw [HN.out];exact hqn)=y at hy
     have C:=hS m q x y wr hUi hx hy
     rw [← HA.out m q x y hx hy] at C
     go_wp2_with fail
     refine C.mono ?_
     rintro e W2 ⟨rfl,b2⟩
     have hrw2:=hrw.of_block (b2.block _ hrw.lt)
     have cq:=hrw2.cell hqn
     have fq:=hrw2.frozen q
     have bb:=hbi.trans (b2.mono hbi.size)
     have hrw3:=(hrw2.set q (.bool (A m q))).congr (g:=fun j=>.bool (((List.range (q+1)).map fun b=>A m b).getD j false)) (fun i hi=>by
      by_cases e:i=q
      ·subst e
       rw [if_pos rfl,List.getD_eq_getElem?_getD]
       simp
      ·rw [if_neg e,List.getD_eq_getElem?_getD,List.getD_eq_getElem?_getD,List.range_succ,List.map_append]
       rcases Nat.lt_or_ge i q with h1 | h1
       ·rw [List.getElem?_append_left (by simpa using h1)]
       ·rw [List.getElem?_append_right (by simpa using h1),List.getElem?_eq_none (by simpa using h1),List.getElem?_eq_none (by simp;omega)])
     clear l1
     generalize A m q=r at *
     go_wp2_with fail
     exact ⟨⟨q+1,by go_num,by omega,hrw3,bb.setCell (Nat.le_refl _) _⟩,by simp [intOf];omega⟩
    ·obtain rfl:q=n:=by omega
     have hqn':¬ ((q:Nat):Int) < q:=by omega
     have hown:=rowIs_own hrw (by simp) (by omega)
     have hNBi:=hNB.below hbi
     have hSi:=hS1.bl hbi
     have bwi:=hbel.trans (hbi.mono hbel.size)
     have hlen:=M.rowsB_len A q m
     have hout:=hNBi.outer
     rw [hlen] at hout
     obtain ⟨vo,co,rfl⟩:=own_sl hout
     have HRS:Hid (M.rowsB A q (m+1)=M.rowsB A q m++[(List.range q).map fun b=>A m b]):=M.rowsB_succ A q m
     have s0:=hSi.c
     have sf:=hSi.fz
     have lN:=hSi.lt
     go_wp2_with (at_builtin;refine wpList_append_lies _ rfl (.tmp 47) (.tmp 49) 136 rfl (w.heap.size+1) 129 j0 _ 1 24 Tryz.underlying136 hj hy0 hy1 hy2 rfl (by decide) _ _ vs rfl (hout.alloc _) ⟨_,0,none⟩ 1 1 _ rfl rfl (World.news_of_block (t:=129) (fr:=(0,0)) (heap_alloc_new _ _)) (by simp [Value.oneCell']) (by omega) (by unfold maxLen;omega) (by omega) (by simp;omega) _ rfl ?_)
     intro g5 cap5 w5 hown5 hg5 hat5 hlt5
     have hge:=own_ge hout
     have hS5:=(hSi.bl (below1 wr _)).grown hg5 (fun e=>by have:=hge _ e;omega)
     have hNB5:=(hNBi.below (below1 wr _)).snoc (l:=(List.range q).map fun b=>A m b) (own_mono2 (by simpa using ownsRow_below hown (below1 wr _)) (by have:=hS1.lt;omega)) (fun i hi j hj e=>by
      have h1:=((hNB.inner i (by have:=hNB.len;omega) hi).lt j hj).2
      have h2:=Option.some.inj e
      simp only at h2
      omega) (by rw [hlen];exact hown5) hg5
     have b5:Below w.heap.size w w5:=below_grown (bwi.alloc bwi.size _) hg5 (fun j hj=>by have:=hge j hj;omega) (by have:=bwi.size;simp;omega)
     clear hown5 hg5 s0 sf
     have s0:=hS5.c
     have sf:=hS5.fz
     go_wp2_with fail
     exact ⟨⟨m+1,_,_,by go_num,by first | omega | (rw [HN.out];omega),hS5.set _,by first | (rw [HN.out,HRS.out];exact hNB5.far (by omega) _) | (rw [HRS.out];exact hNB5.far (by omega) _),b5.setCell (Nat.le_refl _) _⟩,by simp [intOf];omega⟩
  ·have hme:m=(M.deeds t.ll).length:=by omega
   have hmn':¬ (m:Int) < (M.deeds t.ll).length:=by omega
   subst hme
   obtain ⟨vo,co,rfl⟩:=own_sl hNB.outer
   rw [M.rowsB_len] at hNB hS1
   obtain ⟨G',rb',rc',hO⟩:=hNB.net (B:=w.heap.size) hS1.c (Nat.le_refl _)
   clear hnn HN
   go_wp2_with fail
   go_ret
   exact ⟨_,rfl,⟨G',co,vo,rb',rc',hO⟩,hbel⟩
end
end Go.Proofs.YtmhpgdliaclokaaGreat
