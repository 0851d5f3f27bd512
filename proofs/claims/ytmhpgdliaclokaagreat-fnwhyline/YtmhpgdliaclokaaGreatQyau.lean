/- spec's orders: what stays, and what is told. Of at most 1048576 threads and steps. -/
import Derived.Test.YtmhpgdliaclokaaGreatRows
import Derived.Test.YtmhpgdliaclokaaGreatQyat
namespace Go.Proofs.YtmhpgdliaclokaaGreat
section
open Go.RowKit
theorem M.mid_step {ds:List M.De} {fr bt:Bool} {n b:Nat} {z:M.De} (hn:n < b) (hz:ds[n]?=some z):M.midFrom ds fr bt (b - n) n=if (fr&&z.d.k==8)||(bt&&z.d.k==7) then false else M.midFrom ds fr bt (b - (n+1)) (n+1):=by
 rw [show b - n=(b - (n+1))+1 from by omega,M.midFrom]
 simp [M.kAt,hz]
set_option maxHeartbeats 2000000 in
set_option maxRecDepth 100000 in
theorem inside_any (t:Lp) (u:Lq) (a b:Nat) (x y:M.De) (w:World) (hk:t.Ok) (h:u.At t w) (hx:(M.deeds t.ll)[a]?=some x) (hy:(M.deeds t.ll)[b]?=some y) (ho:M.own a b x y=true) :
  Calls Tryz.prog 181 #[.pointer (some ⟨t.O,0,none⟩),.int .i64 (a:Int),.int .i64 (b:Int)] w fun e w'=>e=.returned (.bool (M.inside (M.deeds t.ll) a b x y))∧Below w.heap.size w w':=by
 have fl:=Tryz.fld0
 have ha:=Lp.lt hx
 have hb:=Lp.lt hy
 have hdl:=hk.dl
 have hab:a < b:=by simp only [M.own,Bool.and_eq_true,decide_eq_true_eq] at ho;exact ho.1
 go_enter Tryz.func181,Tryz.ntmps181
 go_wp2_with fail
 refine (do_any t a x _ hk h.p hx).mono ?_
 rintro e v1 ⟨rfl,hd1⟩
 have hc1:=hd1
 cases h7:(x.d.k==7)<;>cases h8:(y.d.k==8)
 ·go_wp2_with fail
  refine (do_any t b y _ hk (h.p.below hc1) hy).mono ?_
  rintro e v2 ⟨rfl,hd2⟩
  have hc2:=hc1.trans (hd2.mono hc1.size)
  go_wp2_with fail
  refine (sown_any t a b x y _ hk (h.p.below hc2) hx hy).mono ?_
  rw [ho]
  rintro e v3 ⟨rfl,hd3⟩
  have hc3:=hc2.trans (hd3.mono hc2.size)
  go_wp2_with fail
  go_ret
  exact ⟨ret_bool (by simp [M.inside,h7,h8]),hc3⟩
 ·go_wp2_with fail
  refine (do_any t b y _ hk (h.p.below hc1) hy).mono ?_
  rintro e v2 ⟨rfl,hd2⟩
  have hc2:=hc1.trans (hd2.mono hc1.size)
  go_wp2_with fail
  refine (sown_any t a b x y _ hk (h.p.below hc2) hx hy).mono ?_
  rw [ho]
  rintro e v3 ⟨rfl,hd3⟩
  have hc3:=hc2.trans (hd3.mono hc2.size)
  go_wp2_with fail
  have HI:Hid (M.inside (M.deeds t.ll) a b x y=M.midFrom (M.deeds t.ll) false true (b - (a+1)) (a+1)):=by show _=_;simp [M.inside,h7,h8]
  go_loopw [9] (fun s9 wr=>∃ n:Nat,s9=.int .i64 n∧a < n∧n≤b∧Hid (M.midFrom (M.deeds t.ll) false true (b - (a+1)) (a+1)=M.midFrom (M.deeds t.ll) false true (b - n) n)∧Below w.heap.size w wr) (fun s9 _=>b - (intOf s9).toNat)
  case atStart=>exact ⟨a+1,by go_num,by omega,by omega,by show _=_;rfl,hc3⟩
  case round =>
   clear hc1 hc2 hc3 hd1 hd2 hd3
   obtain ⟨n,rfl,han,hnb,HM,hbw⟩:=hrel
   by_cases hlt:n < b
   ·obtain ⟨z,hz⟩:∃ z,(M.deeds t.ll)[n]?=some z:=⟨_,List.getElem?_eq_getElem (by omega)⟩
    have HS:Hid (M.midFrom (M.deeds t.ll) false true (b - n) n=if (false&&z.d.k==8)||(true&&z.d.k==7) then false else M.midFrom (M.deeds t.ll) false true (b - (n+1)) (n+1)):=M.mid_step hlt hz
    have i3:(n:Int) < b:=by omega
    go_wp2_with fail
    refine (do_any t n z _ hk (h.p.below hbw) hz).mono ?_
    rintro e w1 ⟨rfl,hb1⟩
    cases k7:(z.d.k==7)
    case true =>
     go_wp2_with fail
     go_ret
     exact ⟨ret_bool (by rw [HI.out,HM.out,HS.out];simp [k7]),hbw.trans (hb1.mono hbw.size)⟩
    go_wp2_with fail
    exact ⟨⟨n+1,by go_num,by omega,by omega,by show _=_;rw [HM.out,HS.out];simp [k7],hbw.trans (hb1.mono hbw.size)⟩,by simp [intOf];omega⟩
   ·have hnb':¬ (n:Int) < b:=by omega
    go_wp2_with fail
    go_ret
    exact ⟨ret_bool (by rw [HI.out,HM.out,show b - n=0 from by omega];rfl),hbw⟩
 ·go_wp2_with fail
  refine (do_any t b y _ hk (h.p.below hc1) hy).mono ?_
  rintro e v2 ⟨rfl,hd2⟩
  have hc2:=hc1.trans (hd2.mono hc1.size)
  go_wp2_with fail
  refine (sown_any t a b x y _ hk (h.p.below hc2) hx hy).mono ?_
  rw [ho]
  rintro e v3 ⟨rfl,hd3⟩
  have hc3:=hc2.trans (hd3.mono hc2.size)
  go_wp2_with fail
  have HI:Hid (M.inside (M.deeds t.ll) a b x y=M.midFrom (M.deeds t.ll) true false (b - (a+1)) (a+1)):=by show _=_;simp [M.inside,h7,h8]
  go_loopw [9] (fun s9 wr=>∃ n:Nat,s9=.int .i64 n∧a < n∧n≤b∧Hid (M.midFrom (M.deeds t.ll) true false (b - (a+1)) (a+1)=M.midFrom (M.deeds t.ll) true false (b - n) n)∧Below w.heap.size w wr) (fun s9 _=>b - (intOf s9).toNat)
  case atStart=>exact ⟨a+1,by go_num,by omega,by omega,by show _=_;rfl,hc3⟩
  case round =>
   clear hc1 hc2 hc3 hd1 hd2 hd3
   obtain ⟨n,rfl,han,hnb,HM,hbw⟩:=hrel
   by_cases hlt:n < b
   ·obtain ⟨z,hz⟩:∃ z,(M.deeds t.ll)[n]?=some z:=⟨_,List.getElem?_eq_getElem (by omega)⟩
    have HS:Hid (M.midFrom (M.deeds t.ll) true false (b - n) n=if (true&&z.d.k==8)||(false&&z.d.k==7) then false else M.midFrom (M.deeds t.ll) true false (b - (n+1)) (n+1)):=M.mid_step hlt hz
    have i3:(n:Int) < b:=by omega
    go_wp2_with fail
    refine (do_any t n z _ hk (h.p.below hbw) hz).mono ?_
    rintro e w1 ⟨rfl,hb1⟩
    cases k8:(z.d.k==8)
    case true =>
     go_wp2_with fail
     go_ret
     exact ⟨ret_bool (by rw [HI.out,HM.out,HS.out];simp [k8]),hbw.trans (hb1.mono hbw.size)⟩
    go_wp2_with fail
    exact ⟨⟨n+1,by go_num,by omega,by omega,by show _=_;rw [HM.out,HS.out];simp [k8],hbw.trans (hb1.mono hbw.size)⟩,by simp [intOf];omega⟩
   ·have hnb':¬ (n:Int) < b:=by omega
    go_wp2_with fail
    go_ret
    exact ⟨ret_bool (by rw [HI.out,HM.out,show b - n=0 from by omega];rfl),hbw⟩
 ·go_wp2_with fail
  refine (do_any t b y _ hk (h.p.below hc1) hy).mono ?_
  rintro e v2 ⟨rfl,hd2⟩
  have hc2:=hc1.trans (hd2.mono hc1.size)
  go_wp2_with fail
  refine (sown_any t a b x y _ hk (h.p.below hc2) hx hy).mono ?_
  rw [ho]
  rintro e v3 ⟨rfl,hd3⟩
  have hc3:=hc2.trans (hd3.mono hc2.size)
  go_wp2_with fail
  have HI:Hid (M.inside (M.deeds t.ll) a b x y=M.midFrom (M.deeds t.ll) true true (b - (a+1)) (a+1)):=by show _=_;simp [M.inside,h7,h8]
  go_loopw [9] (fun s9 wr=>∃ n:Nat,s9=.int .i64 n∧a < n∧n≤b∧Hid (M.midFrom (M.deeds t.ll) true true (b - (a+1)) (a+1)=M.midFrom (M.deeds t.ll) true true (b - n) n)∧Below w.heap.size w wr) (fun s9 _=>b - (intOf s9).toNat)
  case atStart=>exact ⟨a+1,by go_num,by omega,by omega,by show _=_;rfl,hc3⟩
  case round =>
   clear hc1 hc2 hc3 hd1 hd2 hd3
   obtain ⟨n,rfl,han,hnb,HM,hbw⟩:=hrel
   by_cases hlt:n < b
   ·obtain ⟨z,hz⟩:∃ z,(M.deeds t.ll)[n]?=some z:=⟨_,List.getElem?_eq_getElem (by omega)⟩
    have HS:Hid (M.midFrom (M.deeds t.ll) true true (b - n) n=if (true&&z.d.k==8)||(true&&z.d.k==7) then false else M.midFrom (M.deeds t.ll) true true (b - (n+1)) (n+1)):=M.mid_step hlt hz
    have i3:(n:Int) < b:=by omega
    go_wp2_with fail
    refine (do_any t n z _ hk (h.p.below hbw) hz).mono ?_
    rintro e w1 ⟨rfl,hb1⟩
    cases k8:(z.d.k==8)
    case true =>
     go_wp2_with fail
     go_ret
     exact ⟨ret_bool (by rw [HI.out,HM.out,HS.out];simp [k8]),hbw.trans (hb1.mono hbw.size)⟩
    cases k7:(z.d.k==7)
    case true =>
     go_wp2_with fail
     refine (do_any t n z _ hk ((h.p.below hbw).below hb1) hz).mono ?_
     rintro e w2 ⟨rfl,hb2⟩
     go_wp2_with fail
     go_ret
     exact ⟨ret_bool (by rw [HI.out,HM.out,HS.out];simp [k7]),hbw.trans ((hb1.trans (hb2.mono hb1.size)).mono hbw.size)⟩
    go_wp2_with fail
    refine (do_any t n z _ hk ((h.p.below hbw).below hb1) hz).mono ?_
    rintro e w2 ⟨rfl,hb2⟩
    go_wp2_with fail
    exact ⟨⟨n+1,by go_num,by omega,by omega,by show _=_;rw [HM.out,HS.out];simp [k7,k8],hbw.trans ((hb1.trans (hb2.mono hb1.size)).mono hbw.size)⟩,by simp [intOf];omega⟩
   ·have hnb':¬ (n:Int) < b:=by omega
    go_wp2_with fail
    go_ret
    exact ⟨ret_bool (by rw [HI.out,HM.out,show b - n=0 from by omega];rfl),hbw⟩
structure DoV (W:World) (X:Nat) (d:M.D):Prop where
 c0:W.cell? ⟨X,0,none⟩=some (.int .i64 d.k)
 c1:W.cell? ⟨X,1,none⟩=some (.int .i64 d.p)
 c2:W.cell? ⟨X,2,none⟩=some (.int .i64 d.v)
theorem DoV.new (W:World) (d:M.D):DoV (W.alloc (.cells #[.int .i64 d.k,.int .i64 d.p,.int .i64 d.v] 94)) W.heap.size d:=⟨by simp,by simp,by simp⟩
theorem DoV.below {W W':World} {X:Nat} {d:M.D} (h:DoV W X d) (hb:Below W.heap.size W W'):DoV W' X d:=⟨cellC hb h.c0,cellC hb h.c1,cellC hb h.c2⟩
set_option maxHeartbeats 2000000 in
set_option maxRecDepth 100000 in
theorem sloose_any (t:Lp) (u:Lq) (a b:Nat) (x y:M.De) (w:World) (hk:t.Ok) (h:u.At t w) (hx:(M.deeds t.ll)[a]?=some x) (hy:(M.deeds t.ll)[b]?=some y) :
  Calls Tryz.prog 138 #[.pointer (some ⟨t.O,0,none⟩),.int .i64 (a:Int),.int .i64 (b:Int)] w fun e w'=>e=.returned (.bool (M.own a b x y&&M.sKeeps (M.deeds t.ll) a b x y))∧Below w.heap.size w w':=by
 have ha:=Lp.lt hx
 have hb:=Lp.lt hy
 have i2:(b:Int) < (M.deeds t.ll).length:=by omega
 have C:=sown_any t a b x y w hk h.p hx hy
 cases ho:M.own a b x y
 case false =>
  rw [ho] at C
  go_enter Tryz.func138,Tryz.ntmps138
  go_wp2_with fail
  refine C.mono ?_
  rintro e w1 ⟨rfl,hb1⟩
  go_wp2_with fail
  go_ret
  exact ⟨ret_bool (by simp),hb1⟩
 rw [ho] at C
 go_enter Tryz.func138,Tryz.ntmps138
 go_wp2_with fail
 refine C.mono ?_
 rintro e w1 ⟨rfl,hb1⟩
 go_wp2_with fail
 refine (do_any t a x _ hk (h.p.below hb1) hx).mono ?_
 rintro e w2 ⟨rfl,hb2⟩
 have hc2:=hb1.trans (hb2.mono hb1.size)
 have V2:=DoV.new w2 x.d
 have hc3:=hc2.alloc hc2.size (.cells #[.int .i64 x.d.k,.int .i64 x.d.p,.int .i64 x.d.v] 94)
 go_wp2_with fail
 generalize w2.alloc (.cells #[.int .i64 x.d.k,.int .i64 x.d.p,.int .i64 x.d.v] 94)=W2 at *
 generalize w2.heap.size=X at *
 refine (do_any t b y _ hk (h.p.below hc3) hy).mono ?_
 rintro e w3 ⟨rfl,hb3⟩
 have hc4:=hc3.trans (hb3.mono hc3.size)
 have U3:=DoV.new w3 y.d
 have V3:=(V2.below hb3).below (below1 w3 (.cells #[.int .i64 y.d.k,.int .i64 y.d.p,.int .i64 y.d.v] 94))
 have hc5:=hc4.alloc hc4.size (.cells #[.int .i64 y.d.k,.int .i64 y.d.p,.int .i64 y.d.v] 94)
 clear hb1 hb2 hb3 hc2 hc3 hc4 V2 C
 have a0:=V3.c0;have a1:=V3.c1;have a2:=V3.c2
 go_wp2_with fail
 clear a0 a1 a2
 generalize w3.alloc (.cells #[.int .i64 y.d.k,.int .i64 y.d.p,.int .i64 y.d.v] 94)=W3 at *
 generalize w3.heap.size=Y at *
 have C1:=wall13_any x.d W3
 cases q1:M.isWall x.d.k
 case true =>
  rw [q1] at C1
  refine C1.mono ?_
  rintro e w4 ⟨rfl,hb4⟩
  go_wp2_with fail
  go_ret
  exact ⟨ret_bool (by simp [M.sKeeps,q1]),hc5.trans (hb4.mono hc5.size)⟩
 rw [q1] at C1
 refine C1.mono ?_
 rintro e w4 ⟨rfl,hb4⟩
 have hc6:=hc5.trans (hb4.mono hc5.size)
 have V4:=V3.below hb4
 have U4:=U3.below hb4
 clear C1 V3 U3 hc5 hb4
 have b0:=U4.c0;have b1:=U4.c1;have b2:=U4.c2
 go_wp2_with fail
 clear b0 b1 b2
 have C2:=wall13_any y.d w4
 cases q2:M.isWall y.d.k
 case true =>
  rw [q2] at C2
  refine C2.mono ?_
  rintro e w5 ⟨rfl,hb5⟩
  go_wp2_with fail
  go_ret
  exact ⟨ret_bool (by simp [M.sKeeps,q2]),hc6.trans (hb5.mono hc6.size)⟩
 rw [q2] at C2
 refine C2.mono ?_
 rintro e w5 ⟨rfl,hb5⟩
 have hc7:=hc6.trans (hb5.mono hc6.size)
 have V5:=V4.below hb5
 have U5:=U4.below hb5
 have a0:=V5.c0
 have b0:=U5.c0
 clear C2 V4 U4 hc6 hb5
 cases q3:(x.d.k==5)
 case true =>
  go_wp2_with fail
  go_ret
  exact ⟨ret_bool (by simp [M.sKeeps,q3]),hc7⟩
 cases q4:(y.d.k==6)
 case true =>
  go_wp2_with fail
  go_ret
  exact ⟨ret_bool (by simp [M.sKeeps,q4]),hc7⟩
 go_wp2_with fail
 have C3:=inside_any t u a b x y w5 hk (h.below hc7) hx hy ho
 cases q5:M.inside (M.deeds t.ll) a b x y
 case true =>
  rw [q5] at C3
  refine C3.mono ?_
  rintro e w6 ⟨rfl,hb6⟩
  go_wp2_with fail
  go_ret
  exact ⟨ret_bool (by simp [M.sKeeps,q5]),hc7.trans (hb6.mono hc7.size)⟩
 rw [q5] at C3
 refine C3.mono ?_
 rintro e w6 ⟨rfl,hb6⟩
 have hc8:=hc7.trans (hb6.mono hc7.size)
 have U6:=U5.below hb6
 have h6:=h.below hc8
 clear C3 V5 U5 hc7 hb6 a0 b0
 go_wp2_with fail
 have K0:=BelowOf.cell U6.c0
 have P0:=BelowOf.cell h6.p.p0
 have L0:=BelowOf.cell h6.p.l0
 haveI:Inhabited (BelowOf w6):=⟨belOf w6⟩
 by_cases k3:y.d.k=3
 ·have hyb:(M.deeds t.ll)[b]=y:=by rw [List.getElem?_eq_getElem hb] at hy;exact Option.some.inj hy
  have hsrc:=M.src_ok t.ll b hb (by rw [hyb];show M.reads y.d.k=false;rw [k3];rfl)
  have CS:=fun q:BelowOf w6=>l12Source_any t.a t.b t.o t.c t.ll (some ⟨t.g,0,none⟩) t.g t.cc b (M.deeds t.ll)[b].t q.x hb rfl hk.l hk.ls hk.dl ((h6.p.below q.h).ss) ((h6.p.below q.h).dv)
  rw [hsrc,hyb] at CS
  rw [k3] at K0
  clear hsrc hyb
  refine wp_region_quiet_bel (by kernel_rfl) (by kernel_rfl) ?_
  repeat (quiet_step (first | (go_at_call 182;exact Calls.bel_of (CS _))))
  refine wpQuiet_nil ?_
  rintro _ ⟨⟨wq,hwq⟩,rfl⟩
  go_wp2_with fail
  go_ret
  exact ⟨ret_bool (by simp [M.sKeeps,M.copyOf,q1,q3,q5,k3,show M.isWall 3=false from rfl]),hc8.trans (hwq.mono hc8.size)⟩
 ·have k3':(y.d.k==3)=false:=by simpa using k3
  refine wp_region_quiet_bel (by kernel_rfl) (by kernel_rfl) ?_
  iterate 4 (quiet_step (fail))
  iterate 12 go_big_quiet_skip
  iterate 2 (quiet_step (fail))
  refine wpQuiet_nil ?_
  rintro _ ⟨⟨wq,hwq⟩,rfl⟩
  go_wp2_with fail
  go_ret
  exact ⟨ret_bool (by simp [M.sKeeps,M.copyOf,q1,q2,q3,q4,q5,k3]),hc8.trans (hwq.mono hc8.size)⟩
theorem stays1_any (t:Lp) (u:Lq) (a b:Nat) (x y:M.De) (w:World) (hk:t.Ok) (h:u.At t w) (hx:(M.deeds t.ll)[a]?=some x) (hy:(M.deeds t.ll)[b]?=some y) :
  Calls Tryz.prog 84 #[.pointer (some ⟨t.O,0,none⟩),.int .i64 1,.int .i64 (a:Int),.int .i64 (b:Int)] w fun e w'=>e=.returned (.bool (M.stays (M.deeds t.ll) 1 a b x y))∧Below w.heap.size w w':=by
 go_enter Tryz.func84,Tryz.ntmps84
 go_wp2_with fail
 refine (sown_any t a b x y w hk h.p hx hy).mono ?_
 rintro e w1 ⟨rfl,hb1⟩
 go_wp2_with fail
 go_ret
 exact ⟨rfl,hb1⟩
theorem stays3_any (t:Lp) (u:Lq) (a b:Nat) (x y:M.De) (w:World) (hk:t.Ok) (h:u.At t w) (hx:(M.deeds t.ll)[a]?=some x) (hy:(M.deeds t.ll)[b]?=some y) :
  Calls Tryz.prog 84 #[.pointer (some ⟨t.O,0,none⟩),.int .i64 3,.int .i64 (a:Int),.int .i64 (b:Int)] w fun e w'=>e=.returned (.bool (M.stays (M.deeds t.ll) 3 a b x y))∧Below w.heap.size w w':=by
 go_enter Tryz.func84,Tryz.ntmps84
 go_wp2_with fail
 refine (sloose_any t u a b x y w hk h hx hy).mono ?_
 rintro e w1 ⟨rfl,hb1⟩
 go_wp2_with fail
 go_ret
 exact ⟨rfl,hb1⟩
theorem stays2_any (t:Lp) (u:Lq) (a b:Nat) (x y:M.De) (w:World) (hk:t.Ok) (h:u.At t w) (hx:(M.deeds t.ll)[a]?=some x) (hy:(M.deeds t.ll)[b]?=some y) :
  Calls Tryz.prog 84 #[.pointer (some ⟨t.O,0,none⟩),.int .i64 2,.int .i64 (a:Int),.int .i64 (b:Int)] w fun e w'=>e=.returned (.bool (M.stays (M.deeds t.ll) 2 a b x y))∧Below w.heap.size w w':=by
 have ha:=Lp.lt hx
 have hb:=Lp.lt hy
 have i1:(a:Int) < (M.deeds t.ll).length:=by omega
 have i2:(b:Int) < (M.deeds t.ll).length:=by omega
 have C:=sown_any t a b x y w hk h.p hx hy
 cases ho:M.own a b x y
 ·rw [ho] at C
  go_enter Tryz.func84,Tryz.ntmps84
  go_wp2_with fail
  refine C.mono ?_
  rintro e w1 ⟨rfl,hb1⟩
  go_wp2_with fail
  go_ret
  exact ⟨ret_bool (by simp [M.stays,M.late,ho]),hb1⟩
 ·rw [ho] at C
  cases hw:M.writes x.d.k
  all_goals
   go_enter Tryz.func84,Tryz.ntmps84
   go_wp2_with fail
   refine C.mono ?_
   rintro e w1 ⟨rfl,hb1⟩
   have h1:=h.below hb1
   have k2:=h1.c2
   have k3:=h1.c3
   have wx:=h1.wr a x hx
   have ry:=h1.rd b y hy
   rw [hw] at wx
   go_wp2_with fail
   go_ret
   exact ⟨ret_bool (by simp [M.stays,M.late,ho,hw]),hb1⟩
set_option maxHeartbeats 400000 in
set_option maxRecDepth 100000 in
theorem told1_any (t:Lp) (u:Lq) (a b:Nat) (x y:M.De) (w:World) (hk:t.Ok) (h:u.At t w) (hx:(M.deeds t.ll)[a]?=some x) (hy:(M.deeds t.ll)[b]?=some y) :
  Calls Tryz.prog 83 #[.pointer (some ⟨t.O,0,none⟩),.int .i64 1,.int .i64 (a:Int),.int .i64 (b:Int)] w fun e w'=>e=.returned (.bool (M.told u.l u.rows 1 a b x y))∧Below w.heap.size w w':=by
 have ha:=Lp.lt hx
 have hb:=Lp.lt hy
 have i1:(a:Int) < (M.deeds t.ll).length:=by omega
 have i2:(b:Int) < (M.deeds t.ll).length:=by omega
 have K0:=BelowOf.cell h.p.l0
 have C0:=BelowOf.cell (h.p.el hx).c0
 have D0:=BelowOf.cell (h.p.el hy).c0
 haveI:Inhabited (BelowOf w):=⟨belOf w⟩
 go_enter Tryz.func83,Tryz.ntmps83
 go_wp2_with fail
 refine wp_region_quiet_bel (by kernel_rfl) (by kernel_rfl) ?_
 repeat (quiet_step (fail))
 refine wpQuiet_nil ?_
 rintro _ ⟨⟨wq,hwq⟩,rfl⟩
 have h1:=h.below hwq
 clear K0 C0 D0
 have tw:((x.t:Int) != (y.t:Int))=M.two x y:=by rw [Bool.eq_iff_iff];simp [M.two];omega
 rw [tw]
 clear tw
 go_wp2_with fail
 have C1:=sread_any t u a b x y _ hk h1 hx hy
 cases r1:M.sRead u.l a b x y
 ·rw [r1] at C1
  refine C1.mono ?_
  rintro e w2 ⟨rfl,hb2⟩
  have hc:=hwq.trans (hb2.mono hwq.size)
  go_wp2_with fail
  refine (sover_any t u a b x y _ hk (h.below hc) hx hy).mono ?_
  rintro e w3 ⟨rfl,hb3⟩
  go_wp2_with fail
  go_ret
  exact ⟨ret_bool (by simp [M.told,r1]),hc.trans (hb3.mono hc.size)⟩
 ·rw [r1] at C1
  refine C1.mono ?_
  rintro e w2 ⟨rfl,hb2⟩
  go_wp2_with fail
  go_ret
  exact ⟨ret_bool (by simp [M.told,r1]),hwq.trans (hb2.mono hwq.size)⟩
set_option maxHeartbeats 400000 in
set_option maxRecDepth 100000 in
theorem told2_any (t:Lp) (u:Lq) (a b:Nat) (x y:M.De) (w:World) (hk:t.Ok) (h:u.At t w) (hx:(M.deeds t.ll)[a]?=some x) (hy:(M.deeds t.ll)[b]?=some y) :
  Calls Tryz.prog 83 #[.pointer (some ⟨t.O,0,none⟩),.int .i64 2,.int .i64 (a:Int),.int .i64 (b:Int)] w fun e w'=>e=.returned (.bool (M.told u.l u.rows 2 a b x y))∧Below w.heap.size w w':=by
 have ha:=Lp.lt hx
 have hb:=Lp.lt hy
 have i1:(a:Int) < (M.deeds t.ll).length:=by omega
 have i2:(b:Int) < (M.deeds t.ll).length:=by omega
 have K0:=BelowOf.cell h.p.l0
 have C0:=BelowOf.cell (h.p.el hx).c0
 have D0:=BelowOf.cell (h.p.el hy).c0
 haveI:Inhabited (BelowOf w):=⟨belOf w⟩
 go_enter Tryz.func83,Tryz.ntmps83
 go_wp2_with fail
 refine wp_region_quiet_bel (by kernel_rfl) (by kernel_rfl) ?_
 repeat (quiet_step (fail))
 refine wpQuiet_nil ?_
 rintro _ ⟨⟨wq,hwq⟩,rfl⟩
 have h1:=h.below hwq
 clear K0 C0 D0
 have tw:((x.t:Int) != (y.t:Int))=M.two x y:=by rw [Bool.eq_iff_iff];simp [M.two];omega
 rw [tw]
 clear tw
 cases tt:M.two x y
 ·go_wp2_with fail
  refine (sover_any t u a b x y _ hk h1 hx hy).mono ?_
  rintro e w3 ⟨rfl,hb3⟩
  go_wp2_with fail
  go_ret
  exact ⟨ret_bool (by simp [M.told,tt]),hwq.trans (hb3.mono hwq.size)⟩
 ·go_wp2_with fail
  have C1:=sread_any t u a b x y _ hk h1 hx hy
  cases r1:M.sRead u.l a b x y
  ·rw [r1] at C1
   refine C1.mono ?_
   rintro e w2 ⟨rfl,hb2⟩
   have hc:=hwq.trans (hb2.mono hwq.size)
   go_wp2_with fail
   refine (sover_any t u a b x y _ hk (h.below hc) hx hy).mono ?_
   rintro e w3 ⟨rfl,hb3⟩
   go_wp2_with fail
   go_ret
   exact ⟨ret_bool (by simp [M.told,r1]),hc.trans (hb3.mono hc.size)⟩
  ·rw [r1] at C1
   refine C1.mono ?_
   rintro e w2 ⟨rfl,hb2⟩
   go_wp2_with fail
   go_ret
   exact ⟨ret_bool (by simp [M.told,r1,tt]),hwq.trans (hb2.mono hwq.size)⟩
set_option maxHeartbeats 400000 in
set_option maxRecDepth 100000 in
theorem told3_any (t:Lp) (u:Lq) (a b:Nat) (x y:M.De) (w:World) (hk:t.Ok) (h:u.At t w) (hx:(M.deeds t.ll)[a]?=some x) (hy:(M.deeds t.ll)[b]?=some y) :
  Calls Tryz.prog 83 #[.pointer (some ⟨t.O,0,none⟩),.int .i64 3,.int .i64 (a:Int),.int .i64 (b:Int)] w fun e w'=>e=.returned (.bool (M.told u.l u.rows 3 a b x y))∧Below w.heap.size w w':=by
 have ha:=Lp.lt hx
 have hb:=Lp.lt hy
 have i1:(a:Int) < (M.deeds t.ll).length:=by omega
 have i2:(b:Int) < (M.deeds t.ll).length:=by omega
 have K0:=BelowOf.cell h.p.l0
 have C0:=BelowOf.cell (h.p.el hx).c0
 have D0:=BelowOf.cell (h.p.el hy).c0
 haveI:Inhabited (BelowOf w):=⟨belOf w⟩
 go_enter Tryz.func83,Tryz.ntmps83
 go_wp2_with fail
 refine wp_region_quiet_bel (by kernel_rfl) (by kernel_rfl) ?_
 repeat (quiet_step (fail))
 refine wpQuiet_nil ?_
 rintro _ ⟨⟨wq,hwq⟩,rfl⟩
 have h1:=h.below hwq
 clear K0 C0 D0
 have tw:((x.t:Int) != (y.t:Int))=M.two x y:=by rw [Bool.eq_iff_iff];simp [M.two];omega
 rw [tw]
 clear tw
 cases tt:M.two x y
 ·go_wp2_with fail
  go_ret
  exact ⟨ret_bool (by simp [M.told,tt]),hwq⟩
 ·go_wp2_with fail
  have C1:=sread_any t u a b x y _ hk h1 hx hy
  cases r1:M.sRead u.l a b x y
  ·rw [r1] at C1
   refine C1.mono ?_
   rintro e w2 ⟨rfl,hb2⟩
   have hc:=hwq.trans (hb2.mono hwq.size)
   go_wp2_with fail
   refine (sover_any t u a b x y _ hk (h.below hc) hx hy).mono ?_
   rintro e w3 ⟨rfl,hb3⟩
   go_wp2_with fail
   go_ret
   exact ⟨ret_bool (by simp [M.told,r1,tt]),hc.trans (hb3.mono hc.size)⟩
  ·rw [r1] at C1
   refine C1.mono ?_
   rintro e w2 ⟨rfl,hb2⟩
   go_wp2_with fail
   go_ret
   exact ⟨ret_bool (by simp [M.told,r1,tt]),hwq.trans (hb2.mono hwq.size)⟩
end
end Go.Proofs.YtmhpgdliaclokaaGreat
