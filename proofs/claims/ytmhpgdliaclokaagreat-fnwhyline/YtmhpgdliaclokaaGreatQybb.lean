/- What an order allows, plainly: who is among it. No condition. And what goes with it: OaM, OsR, OaNet, OaS, OaAn, OaSn, LiW, LiC, LiH, LiA, LiMath, LiL, LiJ, LiI, LiFact. -/
import Derived.Deep.AppendSrc
import Derived.Deep.OwnRows
import Derived.Test.YtmhpgdliaclokaaGreatRows
import Derived.Test.YtmhpgdliaclokaaGreatQyaz
import Derived.Test.YtmhpgdliaclokaaGreatQyba
namespace Go.Proofs.YtmhpgdliaclokaaGreat
section
namespace M
theorem holds_parts_of {ll:List (List D)} {l:List Int} {rows:List (List Int)} {kind:Int} (h:orderHolds ll l rows kind=true):(decide (1≤kind)&&decide (kind≤3))=true∧execOk ll l rows=true:=by
 unfold orderHolds at h
 obtain ⟨h1,h2⟩:=Bool.and_eq_true_iff.1 h
 exact ⟨h1,(Bool.and_eq_true_iff.1 h2).1⟩
theorem exec_prog {ll:List (List D)} {l:List Int} {rows:List (List Int)} (h:execOk ll l rows=true):prog ll=true:=by
 simp only [execOk,Bool.and_eq_true] at h;exact h.1
theorem mem_ways {ll:List (List D)} {x:Wy} (h:execOk ll x.1 x.2=true):x∈ways (deeds ll):=by
 rw [ways_eq (cop_deeds ll)]
 simp only [execOk,Bool.and_eq_true] at h
 exact mem_all.2 h.2
theorem mem_orderAll {ll:List (List D)} {kind:Int} {k:Key}:k∈orderAll ll kind↔∃ x:Wy,orderHolds ll x.1 x.2 kind=true∧seenOf ll x=k:=by
 unfold orderAll
 cases hg:((decide (1≤kind)&&decide (kind≤3))&&prog ll)
 ·simp only [Bool.false_eq_true,if_false,List.not_mem_nil,false_iff]
  rintro ⟨x,hx,_⟩
  have h:=holds_parts_of hx
  rw [h.1,exec_prog h.2] at hg
  cases hg
 ·rw [if_pos rfl,mem_sortK,orderList,List.mem_map]
  constructor
  ·rintro ⟨x,hx,e⟩
   exact ⟨x,(List.mem_filter.1 hx).2,e⟩
  ·rintro ⟨x,hx,e⟩
   exact ⟨x,List.mem_filter.2 ⟨mem_ways (holds_parts_of hx).2,hx⟩,e⟩
theorem orderAll_le (ll:List (List D)) (kind:Int):KLe (orderAll ll kind) 1048576:=fun k hk=>by
 obtain ⟨x,hx,rfl⟩:=mem_orderAll.1 hk
 have h:=(holds_parts_of hx).2
 have hW:=wok_of h
 have hb:=prog_le hW.prog
 have hdl:=deeds_len hb.1 hb.2
 have h1:=seenR_len (deeds ll) x.1
 have h3:=hW.three.out
 exact ⟨by simp only [seenOf];omega,by simp only [seenOf,seenL,List.length_map];omega⟩
end M
end
section
open Go.RowKit
structure Lq.Ar (u:Lq) (t:Lp) (w:World):Prop where
 p:t.At w
 c2:w.cell? ⟨t.O,2,none⟩=some (.slice (some ⟨u.rb,0,none⟩) (M.deeds t.ll).length u.rc)
 c3:w.cell? ⟨t.O,3,none⟩=some (.slice (some ⟨u.wb,0,none⟩) (M.deeds t.ll).length u.wc)
 rd:∀ n x,(M.deeds t.ll)[n]?=some x→w.cell? ⟨u.rb,n,none⟩=some (.bool (M.reads x.d.k))
 wr:∀ n x,(M.deeds t.ll)[n]?=some x→w.cell? ⟨u.wb,n,none⟩=some (.bool (M.writes x.d.k))
theorem Lq.Ar.below {u:Lq} {t:Lp} {w w':World} (h:u.Ar t w) (hb:Below w.heap.size w w'):u.Ar t w' :=
 ⟨h.p.below hb,cellC hb h.c2,cellC hb h.c3,fun n x hx=>cellC hb (h.rd n x hx),fun n x hx=>cellC hb (h.wr n x hx)⟩
set_option maxHeartbeats 2000000 in
set_option maxRecDepth 100000 in
theorem sameR_any (t : Lp) (u : Lq) (a b : Nat) (x y : M.De) (w : World) (hk : t.Ok) (h : u.Ar t w) (hx : (M.deeds t.ll)[a]? = some x) (hy : (M.deeds t.ll)[b]? = some y) :
    Calls Tryz.prog 139 #[.pointer (some ⟨t.O, 0, none⟩), .int .i64 (a : Int), .int .i64 (b : Int)] w fun e w' => e = .returned (.bool (M.onePl x y)) ∧ Below w.heap.size w w' := by
  have fl := Tryz.fld1
  have ha := Lp.lt hx
  have hb := Lp.lt hy
  have i1 : (a : Int) < (M.deeds t.ll).length := by omega
  have i2 : (b : Int) < (M.deeds t.ll).length := by omega
  have k2 := h.c2
  have k3 := h.c3
  have rx := h.rd a x hx
  have wx := h.wr a x hx
  have ry := h.rd b y hy
  have wy := h.wr b y hy
  cases hrx : M.reads x.d.k <;> cases hwx : M.writes x.d.k <;> cases hry : M.reads y.d.k <;> cases hwy : M.writes y.d.k
  all_goals
    rw [hrx] at rx
    rw [hwx] at wx
    rw [hry] at ry
    rw [hwy] at wy
    go_enter Tryz.func139, Tryz.ntmps139
    go_wp2_with fail
    first
    | (go_ret
       exact ⟨ret_bool (by simp [M.onePl, M.De.uses, M.uses, hrx, hwx, hry, hwy]), Below.refl _ _⟩)
    | (refine (do_any t a x _ hk h.p hx).mono ?_
       rintro e w1 ⟨rfl, hb1⟩
       go_wp2_with fail
       refine (do_any t b y _ hk (h.p.below hb1) hy).mono ?_
       rintro e w2 ⟨rfl, hb2⟩
       go_wp2_with fail
       go_ret
       exact ⟨ret_bool (by simp [M.onePl, M.De.uses, M.uses, hrx, hwx, hry, hwy]), hb1.trans (hb2.mono hb1.size)⟩)
set_option maxHeartbeats 2000000 in
set_option maxRecDepth 100000 in
theorem insideR_any (t:Lp) (u:Lq) (a b:Nat) (x y:M.De) (w:World) (hk:t.Ok) (h:u.Ar t w) (hx:(M.deeds t.ll)[a]?=some x) (hy:(M.deeds t.ll)[b]?=some y) (ho:M.own a b x y=true) :
  Calls Tryz.prog 181 #[.pointer (some ⟨t.O,0,none⟩),.int .i64 (a:Int),.int .i64 (b:Int)] w fun e w'=>e=.returned (.bool (M.inside (M.deeds t.ll) a b x y))∧Below w.heap.size w w':=by
 have fl:=Tryz.fld0
 have ha:=Lp.lt hx
 have hb:=Lp.lt hy
 have hdl:=hk.dl
 have hab:a < b:=by simp only [M.own,Bool.and_eq_true,decide_eq_true_eq] at ho;exact ho.1
 go_enter Tryz.func181,Tryz.ntmps181
 go_wp2_with fail
 refine (do_any t a x _ hk h.p hx).mono ?_
 rintro e v1 ⟨rfl,hd1⟩
 have hc1:=hd1
 cases h7:(x.d.k==7)<;>cases h8:(y.d.k==8)
 ·go_wp2_with fail
  refine (do_any t b y _ hk (h.p.below hc1) hy).mono ?_
  rintro e v2 ⟨rfl,hd2⟩
  have hc2:=hc1.trans (hd2.mono hc1.size)
  go_wp2_with fail
  refine (sown_any t a b x y _ hk (h.p.below hc2) hx hy).mono ?_
  rw [ho]
  rintro e v3 ⟨rfl,hd3⟩
  have hc3:=hc2.trans (hd3.mono hc2.size)
  go_wp2_with fail
  go_ret
  exact ⟨ret_bool (by simp [M.inside,h7,h8]),hc3⟩
 ·go_wp2_with fail
  refine (do_any t b y _ hk (h.p.below hc1) hy).mono ?_
  rintro e v2 ⟨rfl,hd2⟩
  have hc2:=hc1.trans (hd2.mono hc1.size)
  go_wp2_with fail
  refine (sown_any t a b x y _ hk (h.p.below hc2) hx hy).mono ?_
  rw [ho]
  rintro e v3 ⟨rfl,hd3⟩
  have hc3:=hc2.trans (hd3.mono hc2.size)
  go_wp2_with fail
  have HI:Hid (M.inside (M.deeds t.ll) a b x y=M.midFrom (M.deeds t.ll) false true (b - (a+1)) (a+1)):=by show _=_;simp [M.inside,h7,h8]
  go_loopw [9] (fun s9 wr=>∃ n:Nat,s9=.int .i64 n∧a < n∧n≤b∧Hid (M.midFrom (M.deeds t.ll) false true (b - (a+1)) (a+1)=M.midFrom (M.deeds t.ll) false true (b - n) n)∧Below w.heap.size w wr) (fun s9 _=>b - (intOf s9).toNat)
  case atStart=>exact ⟨a+1,by go_num,by omega,by omega,by show _=_;rfl,hc3⟩
  case round =>
   clear hc1 hc2 hc3 hd1 hd2 hd3
   obtain ⟨n,rfl,han,hnb,HM,hbw⟩:=hrel
   by_cases hlt:n < b
   ·obtain ⟨z,hz⟩:∃ z,(M.deeds t.ll)[n]?=some z:=⟨_,List.getElem?_eq_getElem (by omega)⟩
    have HS:Hid (M.midFrom (M.deeds t.ll) false true (b - n) n=if (false&&z.d.k==8)||(true&&z.d.k==7) then false else M.midFrom (M.deeds t.ll) false true (b - (n+1)) (n+1)):=M.mid_step hlt hz
    have i3:(n:Int) < b:=by omega
    go_wp2_with fail
    refine (do_any t n z _ hk (h.p.below hbw) hz).mono ?_
    rintro e w1 ⟨rfl,hb1⟩
    cases k7:(z.d.k==7)
    case true =>
     go_wp2_with fail
     go_ret
     exact ⟨ret_bool (by rw [HI.out,HM.out,HS.out];simp [k7]),hbw.trans (hb1.mono hbw.size)⟩
    go_wp2_with fail
    exact ⟨⟨n+1,by go_num,by omega,by omega,by show _=_;rw [HM.out,HS.out];simp [k7],hbw.trans (hb1.mono hbw.size)⟩,by simp [intOf];omega⟩
   ·have hnb':¬ (n:Int) < b:=by omega
    go_wp2_with fail
    go_ret
    exact ⟨ret_bool (by rw [HI.out,HM.out,show b - n=0 from by omega];rfl),hbw⟩
 ·go_wp2_with fail
  refine (do_any t b y _ hk (h.p.below hc1) hy).mono ?_
  rintro e v2 ⟨rfl,hd2⟩
  have hc2:=hc1.trans (hd2.mono hc1.size)
  go_wp2_with fail
  refine (sown_any t a b x y _ hk (h.p.below hc2) hx hy).mono ?_
  rw [ho]
  rintro e v3 ⟨rfl,hd3⟩
  have hc3:=hc2.trans (hd3.mono hc2.size)
  go_wp2_with fail
  have HI:Hid (M.inside (M.deeds t.ll) a b x y=M.midFrom (M.deeds t.ll) true false (b - (a+1)) (a+1)):=by show _=_;simp [M.inside,h7,h8]
  go_loopw [9] (fun s9 wr=>∃ n:Nat,s9=.int .i64 n∧a < n∧n≤b∧Hid (M.midFrom (M.deeds t.ll) true false (b - (a+1)) (a+1)=M.midFrom (M.deeds t.ll) true false (b - n) n)∧Below w.heap.size w wr) (fun s9 _=>b - (intOf s9).toNat)
  case atStart=>exact ⟨a+1,by go_num,by omega,by omega,by show _=_;rfl,hc3⟩
  case round =>
   clear hc1 hc2 hc3 hd1 hd2 hd3
   obtain ⟨n,rfl,han,hnb,HM,hbw⟩:=hrel
   by_cases hlt:n < b
   ·obtain ⟨z,hz⟩:∃ z,(M.deeds t.ll)[n]?=some z:=⟨_,List.getElem?_eq_getElem (by omega)⟩
    have HS:Hid (M.midFrom (M.deeds t.ll) true false (b - n) n=if (true&&z.d.k==8)||(false&&z.d.k==7) then false else M.midFrom (M.deeds t.ll) true false (b - (n+1)) (n+1)):=M.mid_step hlt hz
    have i3:(n:Int) < b:=by omega
    go_wp2_with fail
    refine (do_any t n z _ hk (h.p.below hbw) hz).mono ?_
    rintro e w1 ⟨rfl,hb1⟩
    cases k8:(z.d.k==8)
    case true =>
     go_wp2_with fail
     go_ret
     exact ⟨ret_bool (by rw [HI.out,HM.out,HS.out];simp [k8]),hbw.trans (hb1.mono hbw.size)⟩
    go_wp2_with fail
    exact ⟨⟨n+1,by go_num,by omega,by omega,by show _=_;rw [HM.out,HS.out];simp [k8],hbw.trans (hb1.mono hbw.size)⟩,by simp [intOf];omega⟩
   ·have hnb':¬ (n:Int) < b:=by omega
    go_wp2_with fail
    go_ret
    exact ⟨ret_bool (by rw [HI.out,HM.out,show b - n=0 from by omega];rfl),hbw⟩
 ·go_wp2_with fail
  refine (do_any t b y _ hk (h.p.below hc1) hy).mono ?_
  rintro e v2 ⟨rfl,hd2⟩
  have hc2:=hc1.trans (hd2.mono hc1.size)
  go_wp2_with fail
  refine (sown_any t a b x y _ hk (h.p.below hc2) hx hy).mono ?_
  rw [ho]
  rintro e v3 ⟨rfl,hd3⟩
  have hc3:=hc2.trans (hd3.mono hc2.size)
  go_wp2_with fail
  have HI:Hid (M.inside (M.deeds t.ll) a b x y=M.midFrom (M.deeds t.ll) true true (b - (a+1)) (a+1)):=by show _=_;simp [M.inside,h7,h8]
  go_loopw [9] (fun s9 wr=>∃ n:Nat,s9=.int .i64 n∧a < n∧n≤b∧Hid (M.midFrom (M.deeds t.ll) true true (b - (a+1)) (a+1)=M.midFrom (M.deeds t.ll) true true (b - n) n)∧Below w.heap.size w wr) (fun s9 _=>b - (intOf s9).toNat)
  case atStart=>exact ⟨a+1,by go_num,by omega,by omega,by show _=_;rfl,hc3⟩
  case round =>
   clear hc1 hc2 hc3 hd1 hd2 hd3
   obtain ⟨n,rfl,han,hnb,HM,hbw⟩:=hrel
   by_cases hlt:n < b
   ·obtain ⟨z,hz⟩:∃ z,(M.deeds t.ll)[n]?=some z:=⟨_,List.getElem?_eq_getElem (by omega)⟩
    have HS:Hid (M.midFrom (M.deeds t.ll) true true (b - n) n=if (true&&z.d.k==8)||(true&&z.d.k==7) then false else M.midFrom (M.deeds t.ll) true true (b - (n+1)) (n+1)):=M.mid_step hlt hz
    have i3:(n:Int) < b:=by omega
    go_wp2_with fail
    refine (do_any t n z _ hk (h.p.below hbw) hz).mono ?_
    rintro e w1 ⟨rfl,hb1⟩
    cases k8:(z.d.k==8)
    case true =>
     go_wp2_with fail
     go_ret
     exact ⟨ret_bool (by rw [HI.out,HM.out,HS.out];simp [k8]),hbw.trans (hb1.mono hbw.size)⟩
    cases k7:(z.d.k==7)
    case true =>
     go_wp2_with fail
     refine (do_any t n z _ hk ((h.p.below hbw).below hb1) hz).mono ?_
     rintro e w2 ⟨rfl,hb2⟩
     go_wp2_with fail
     go_ret
     exact ⟨ret_bool (by rw [HI.out,HM.out,HS.out];simp [k7]),hbw.trans ((hb1.trans (hb2.mono hb1.size)).mono hbw.size)⟩
    go_wp2_with fail
    refine (do_any t n z _ hk ((h.p.below hbw).below hb1) hz).mono ?_
    rintro e w2 ⟨rfl,hb2⟩
    go_wp2_with fail
    exact ⟨⟨n+1,by go_num,by omega,by omega,by show _=_;rw [HM.out,HS.out];simp [k7,k8],hbw.trans ((hb1.trans (hb2.mono hb1.size)).mono hbw.size)⟩,by simp [intOf];omega⟩
   ·have hnb':¬ (n:Int) < b:=by omega
    go_wp2_with fail
    go_ret
    exact ⟨ret_bool (by rw [HI.out,HM.out,show b - n=0 from by omega];rfl),hbw⟩
set_option maxHeartbeats 2000000 in
set_option maxRecDepth 100000 in
theorem slooseR_any (t:Lp) (u:Lq) (a b:Nat) (x y:M.De) (w:World) (hk:t.Ok) (h:u.Ar t w) (hx:(M.deeds t.ll)[a]?=some x) (hy:(M.deeds t.ll)[b]?=some y) :
  Calls Tryz.prog 138 #[.pointer (some ⟨t.O,0,none⟩),.int .i64 (a:Int),.int .i64 (b:Int)] w fun e w'=>e=.returned (.bool (M.own a b x y&&M.sKeeps (M.deeds t.ll) a b x y))∧Below w.heap.size w w':=by
 have ha:=Lp.lt hx
 have hb:=Lp.lt hy
 have i2:(b:Int) < (M.deeds t.ll).length:=by omega
 have C:=sown_any t a b x y w hk h.p hx hy
 cases ho:M.own a b x y
 case false =>
  rw [ho] at C
  go_enter Tryz.func138,Tryz.ntmps138
  go_wp2_with fail
  refine C.mono ?_
  rintro e w1 ⟨rfl,hb1⟩
  go_wp2_with fail
  go_ret
  exact ⟨ret_bool (by simp),hb1⟩
 rw [ho] at C
 go_enter Tryz.func138,Tryz.ntmps138
 go_wp2_with fail
 refine C.mono ?_
 rintro e w1 ⟨rfl,hb1⟩
 go_wp2_with fail
 refine (do_any t a x _ hk (h.p.below hb1) hx).mono ?_
 rintro e w2 ⟨rfl,hb2⟩
 have hc2:=hb1.trans (hb2.mono hb1.size)
 have V2:=DoV.new w2 x.d
 have hc3:=hc2.alloc hc2.size (.cells #[.int .i64 x.d.k,.int .i64 x.d.p,.int .i64 x.d.v] 94)
 go_wp2_with fail
 generalize w2.alloc (.cells #[.int .i64 x.d.k,.int .i64 x.d.p,.int .i64 x.d.v] 94)=W2 at *
 generalize w2.heap.size=X at *
 refine (do_any t b y _ hk (h.p.below hc3) hy).mono ?_
 rintro e w3 ⟨rfl,hb3⟩
 have hc4:=hc3.trans (hb3.mono hc3.size)
 have U3:=DoV.new w3 y.d
 have V3:=(V2.below hb3).below (below1 w3 (.cells #[.int .i64 y.d.k,.int .i64 y.d.p,.int .i64 y.d.v] 94))
 have hc5:=hc4.alloc hc4.size (.cells #[.int .i64 y.d.k,.int .i64 y.d.p,.int .i64 y.d.v] 94)
 clear hb1 hb2 hb3 hc2 hc3 hc4 V2 C
 have a0:=V3.c0;have a1:=V3.c1;have a2:=V3.c2
 go_wp2_with fail
 clear a0 a1 a2
 generalize w3.alloc (.cells #[.int .i64 y.d.k,.int .i64 y.d.p,.int .i64 y.d.v] 94)=W3 at *
 generalize w3.heap.size=Y at *
 have C1:=wall13_any x.d W3
 cases q1:M.isWall x.d.k
 case true =>
  rw [q1] at C1
  refine C1.mono ?_
  rintro e w4 ⟨rfl,hb4⟩
  go_wp2_with fail
  go_ret
  exact ⟨ret_bool (by simp [M.sKeeps,q1]),hc5.trans (hb4.mono hc5.size)⟩
 rw [q1] at C1
 refine C1.mono ?_
 rintro e w4 ⟨rfl,hb4⟩
 have hc6:=hc5.trans (hb4.mono hc5.size)
 have V4:=V3.below hb4
 have U4:=U3.below hb4
 clear C1 V3 U3 hc5 hb4
 have b0:=U4.c0;have b1:=U4.c1;have b2:=U4.c2
 go_wp2_with fail
 clear b0 b1 b2
 have C2:=wall13_any y.d w4
 cases q2:M.isWall y.d.k
 case true =>
  rw [q2] at C2
  refine C2.mono ?_
  rintro e w5 ⟨rfl,hb5⟩
  go_wp2_with fail
  go_ret
  exact ⟨ret_bool (by simp [M.sKeeps,q2]),hc6.trans (hb5.mono hc6.size)⟩
 rw [q2] at C2
 refine C2.mono ?_
 rintro e w5 ⟨rfl,hb5⟩
 have hc7:=hc6.trans (hb5.mono hc6.size)
 have V5:=V4.below hb5
 have U5:=U4.below hb5
 have a0:=V5.c0
 have b0:=U5.c0
 clear C2 V4 U4 hc6 hb5
 cases q3:(x.d.k==5)
 case true =>
  go_wp2_with fail
  go_ret
  exact ⟨ret_bool (by simp [M.sKeeps,q3]),hc7⟩
 cases q4:(y.d.k==6)
 case true =>
  go_wp2_with fail
  go_ret
  exact ⟨ret_bool (by simp [M.sKeeps,q4]),hc7⟩
 go_wp2_with fail
 have C3:=insideR_any t u a b x y w5 hk (h.below hc7) hx hy ho
 cases q5:M.inside (M.deeds t.ll) a b x y
 case true =>
  rw [q5] at C3
  refine C3.mono ?_
  rintro e w6 ⟨rfl,hb6⟩
  go_wp2_with fail
  go_ret
  exact ⟨ret_bool (by simp [M.sKeeps,q5]),hc7.trans (hb6.mono hc7.size)⟩
 rw [q5] at C3
 refine C3.mono ?_
 rintro e w6 ⟨rfl,hb6⟩
 have hc8:=hc7.trans (hb6.mono hc7.size)
 have U6:=U5.below hb6
 have h6:=h.below hc8
 clear C3 V5 U5 hc7 hb6 a0 b0
 go_wp2_with fail
 have K0:=BelowOf.cell U6.c0
 have P0:=BelowOf.cell h6.p.p0
 have L0:=BelowOf.cell h6.p.l0
 haveI:Inhabited (BelowOf w6):=⟨belOf w6⟩
 by_cases k3:y.d.k=3
 ·have hyb:(M.deeds t.ll)[b]=y:=by rw [List.getElem?_eq_getElem hb] at hy;exact Option.some.inj hy
  have hsrc:=M.src_ok t.ll b hb (by rw [hyb];show M.reads y.d.k=false;rw [k3];rfl)
  have CS:=fun q:BelowOf w6=>l12Source_any t.a t.b t.o t.c t.ll (some ⟨t.g,0,none⟩) t.g t.cc b (M.deeds t.ll)[b].t q.x hb rfl hk.l hk.ls hk.dl ((h6.p.below q.h).ss) ((h6.p.below q.h).dv)
  rw [hsrc,hyb] at CS
  rw [k3] at K0
  clear hsrc hyb
  refine wp_region_quiet_bel (by kernel_rfl) (by kernel_rfl) ?_
  repeat (quiet_step (first | (go_at_call 182;exact Calls.bel_of (CS _))))
  refine wpQuiet_nil ?_
  rintro _ ⟨⟨wq,hwq⟩,rfl⟩
  go_wp2_with fail
  go_ret
  exact ⟨ret_bool (by simp [M.sKeeps,M.copyOf,q1,q3,q5,k3,show M.isWall 3=false from rfl]),hc8.trans (hwq.mono hc8.size)⟩
 ·have k3':(y.d.k==3)=false:=by simpa using k3
  refine wp_region_quiet_bel (by kernel_rfl) (by kernel_rfl) ?_
  iterate 4 (quiet_step (fail))
  iterate 12 go_big_quiet_skip
  iterate 2 (quiet_step (fail))
  refine wpQuiet_nil ?_
  rintro _ ⟨⟨wq,hwq⟩,rfl⟩
  go_wp2_with fail
  go_ret
  exact ⟨ret_bool (by simp [M.sKeeps,M.copyOf,q1,q2,q3,q4,q5,k3]),hc8.trans (hwq.mono hc8.size)⟩
theorem stays1R_any (t:Lp) (u:Lq) (a b:Nat) (x y:M.De) (w:World) (hk:t.Ok) (h:u.Ar t w) (hx:(M.deeds t.ll)[a]?=some x) (hy:(M.deeds t.ll)[b]?=some y) :
  Calls Tryz.prog 84 #[.pointer (some ⟨t.O,0,none⟩),.int .i64 1,.int .i64 (a:Int),.int .i64 (b:Int)] w fun e w'=>e=.returned (.bool (M.stays (M.deeds t.ll) 1 a b x y))∧Below w.heap.size w w':=by
 go_enter Tryz.func84,Tryz.ntmps84
 go_wp2_with fail
 refine (sown_any t a b x y w hk h.p hx hy).mono ?_
 rintro e w1 ⟨rfl,hb1⟩
 go_wp2_with fail
 go_ret
 exact ⟨rfl,hb1⟩
theorem stays3R_any (t:Lp) (u:Lq) (a b:Nat) (x y:M.De) (w:World) (hk:t.Ok) (h:u.Ar t w) (hx:(M.deeds t.ll)[a]?=some x) (hy:(M.deeds t.ll)[b]?=some y) :
  Calls Tryz.prog 84 #[.pointer (some ⟨t.O,0,none⟩),.int .i64 3,.int .i64 (a:Int),.int .i64 (b:Int)] w fun e w'=>e=.returned (.bool (M.stays (M.deeds t.ll) 3 a b x y))∧Below w.heap.size w w':=by
 go_enter Tryz.func84,Tryz.ntmps84
 go_wp2_with fail
 refine (slooseR_any t u a b x y w hk h hx hy).mono ?_
 rintro e w1 ⟨rfl,hb1⟩
 go_wp2_with fail
 go_ret
 exact ⟨rfl,hb1⟩
theorem stays2R_any (t:Lp) (u:Lq) (a b:Nat) (x y:M.De) (w:World) (hk:t.Ok) (h:u.Ar t w) (hx:(M.deeds t.ll)[a]?=some x) (hy:(M.deeds t.ll)[b]?=some y) :
  Calls Tryz.prog 84 #[.pointer (some ⟨t.O,0,none⟩),.int .i64 2,.int .i64 (a:Int),.int .i64 (b:Int)] w fun e w'=>e=.returned (.bool (M.stays (M.deeds t.ll) 2 a b x y))∧Below w.heap.size w w':=by
 have ha:=Lp.lt hx
 have hb:=Lp.lt hy
 have i1:(a:Int) < (M.deeds t.ll).length:=by omega
 have i2:(b:Int) < (M.deeds t.ll).length:=by omega
 have C:=sown_any t a b x y w hk h.p hx hy
 cases ho:M.own a b x y
 ·rw [ho] at C
  go_enter Tryz.func84,Tryz.ntmps84
  go_wp2_with fail
  refine C.mono ?_
  rintro e w1 ⟨rfl,hb1⟩
  go_wp2_with fail
  go_ret
  exact ⟨ret_bool (by simp [M.stays,M.late,ho]),hb1⟩
 ·rw [ho] at C
  cases hw:M.writes x.d.k
  all_goals
   go_enter Tryz.func84,Tryz.ntmps84
   go_wp2_with fail
   refine C.mono ?_
   rintro e w1 ⟨rfl,hb1⟩
   have h1:=h.below hb1
   have k2:=h1.c2
   have k3:=h1.c3
   have wx:=h1.wr a x hx
   have ry:=h1.rd b y hy
   rw [hw] at wx
   go_wp2_with fail
   go_ret
   exact ⟨ret_bool (by simp [M.stays,M.late,ho,hw]),hb1⟩
set_option maxHeartbeats 1000000 in
set_option maxRecDepth 100000 in
theorem stays0R_any (t:Lp) (u:Lq) (a b:Nat) (x y:M.De) (w:World) (hk:t.Ok) (h:u.Ar t w) (hx:(M.deeds t.ll)[a]?=some x) (hy:(M.deeds t.ll)[b]?=some y) :
  Calls Tryz.prog 84 #[.pointer (some ⟨t.O,0,none⟩),.int .i64 0,.int .i64 (a:Int),.int .i64 (b:Int)] w fun e w'=>e=.returned (.bool (M.stays (M.deeds t.ll) 0 a b x y))∧Below w.heap.size w w':=by
 have C:=sown_any t a b x y w hk h.p hx hy
 cases ho:M.own a b x y
 ·rw [ho] at C
  go_enter Tryz.func84,Tryz.ntmps84
  go_wp2_with fail
  refine C.mono ?_
  rintro e w1 ⟨rfl,hb1⟩
  go_wp2_with fail
  go_ret
  exact ⟨ret_bool (by simp [M.stays,ho]),hb1⟩
 ·rw [ho] at C
  go_enter Tryz.func84,Tryz.ntmps84
  go_wp2_with fail
  refine C.mono ?_
  rintro e w1 ⟨rfl,hb1⟩
  go_wp2_with fail
  refine (sameR_any t u a b x y w1 hk (h.below hb1) hx hy).mono ?_
  rintro e w2 ⟨rfl,hb2⟩
  go_wp2_with fail
  go_ret
  exact ⟨ret_bool (by simp [M.stays,ho]),hb1.trans (hb2.mono hb1.size)⟩
set_option maxHeartbeats 4000000 in
set_option maxRecDepth 100000 in
theorem netR_of (t:Lp) (u:Lq) (k:Nat) (w:World) (hn:(M.deeds t.ll).length≤28) (h:u.Ar t w)
  (hS:∀ (a b:Nat) (x y:M.De) (w:World),u.Ar t w→(M.deeds t.ll)[a]?=some x→(M.deeds t.ll)[b]?=some y→Calls Tryz.prog 84 #[.pointer (some ⟨t.O,0,none⟩),.int .i64 k,.int .i64 (a:Int),.int .i64 (b:Int)] w fun e w'=>e=.returned (.bool (M.stays (M.deeds t.ll) k a b x y))∧Below w.heap.size w w') :
  Calls Tryz.prog 37 #[.pointer (some ⟨t.O,0,none⟩),.int .i64 k] w fun e w'=>∃ X',e=.returned (.pointer (some ⟨X',0,none⟩))∧(∃ G' c' va' rb' rc',NtO w' w.heap.size X' G' (M.deeds t.ll).length c' va' rb' rc' (M.staysAt (M.deeds t.ll) k))∧Below w.heap.size w w':=by
 obtain ⟨j0,hj,hy0,hy1,hy2⟩:=info_parts Tryz.infoRb
 have HA:Hid (∀ a b x y,(M.deeds t.ll)[a]?=some x→(M.deeds t.ll)[b]?=some y→M.staysAt (M.deeds t.ll) k a b=M.stays (M.deeds t.ll) k a b x y):=fun a b x y hx hy=>M.staysAt_of hx hy
 generalize M.staysAt (M.deeds t.ll) k=A at *
 go_enter Tryz.func37,Tryz.ntmps37
 go_wp2_with fail
 go_loopw [6] (fun s6 wr=>∃ (m:Nat) (v:Value) (vs:List Value),s6=.int .i64 m∧m≤(M.deeds t.ll).length∧S1 wr w.heap.size v∧NB wr (w.heap.size+1) v (M.rowsB A (M.deeds t.ll).length m) vs∧Below w.heap.size w wr) (fun s6 _=>(M.deeds t.ll).length - (intOf s6).toNat)
 case atStart=>exact ⟨0,.slice none 0 0,[],rfl,Nat.zero_le _,⟨by simp,by simp⟩,NB.nil _ _,below1 _ _⟩
 case round =>
  obtain ⟨m,v,vs,rfl,hm,hS1,hNB,hbel⟩:=hrel
  have hU:=h.below hbel
  have l0:=hU.p.l0
  obtain ⟨n,hnn⟩:∃ n,(M.deeds t.ll).length=n:=⟨_,rfl⟩
  have HN:Hid ((M.deeds t.ll).length=n):=hnn
  by_cases hmn:m < (M.deeds t.ll).length
  ·have hx:=List.getElem?_eq_getElem hmn
   rw [hnn] at l0 hm hmn hn hNB ⊢
   have hmn':(m:Int) < n:=by omega
   have lO:t.O < wr.heap.size:=World.block_lt_of_cell? _ _ l0
   have hmk:=run_make_row' (P:=Tryz.prog) 129 4 (.bool false) 1 Tryz.underlying129 (by kernel_rfl) rfl .i64 .i64 n (by omega) (by omega)
   have hrow:=World.rowIs_made wr (.bool false) n 4
   have bR:=below1 wr (.cells (madeCells #[.bool false] n) 4)
   generalize (M.deeds t.ll)[m]=x at hx
   clear hnn
   go_wp2_with fail
   clear hmk
   generalize wr.alloc (.cells (madeCells #[.bool false] n) 4)=WR at *
   go_loopw [8] (fun s8 wi=>∃ q:Nat,s8=.int .i64 q∧q≤n∧wi.rowIs wr.heap.size 4 n (fun j=>.bool (((List.range q).map fun b=>A m b).getD j false))∧Below wr.heap.size wr wi) (fun s8 _=>n - (intOf s8).toNat)
   case atStart=>exact ⟨0,rfl,Nat.zero_le _,hrow.congr (fun i _=>by simp),bR⟩
   case round =>
    obtain ⟨q,rfl,hq,hrw,hbi⟩:=hrel
    clear hrow bR
    have hUi:=hU.below hbi
    have l1:=hUi.p.l0
    rw [HN.out] at l1
    by_cases hqn:q < n
    ·have hqn':(q:Int) < n:=by omega
     have hy:=List.getElem?_eq_getElem (l:=M.deeds t.ll) (i:=q) (by rw [HN.out];exact hqn)
     generalize (M.deeds t.ll)[q]'(by rw [HN.out];exact hqn)=y at hy
     have C:=hS m q x y wr hUi hx hy
     rw [← HA.out m q x y hx hy] at C
     go_wp2_with fail
     refine C.mono ?_
     rintro e W2 ⟨rfl,b2⟩
     have hrw2:=hrw.of_block (b2.block _ hrw.lt)
     have cq:=hrw2.cell hqn
     have fq:=hrw2.frozen q
     have bb:=hbi.trans (b2.mono hbi.size)
     have hrw3:=(hrw2.set q (.bool (A m q))).congr (g:=fun j=>.bool (((List.range (q+1)).map fun b=>A m b).getD j false)) (fun i hi=>by
      by_cases e:i=q
      ·subst e
       rw [if_pos rfl,List.getD_eq_getElem?_getD]
       simp
      ·rw [if_neg e,List.getD_eq_getElem?_getD,List.getD_eq_getElem?_getD,List.range_succ,List.map_append]
       rcases Nat.lt_or_ge i q with h1 | h1
       ·rw [List.getElem?_append_left (by simpa using h1)]
       ·rw [List.getElem?_append_right (by simpa using h1),List.getElem?_eq_none (by simpa using h1),List.getElem?_eq_none (by simp;omega)])
     clear l1
     generalize A m q=r at *
     go_wp2_with fail
     exact ⟨⟨q+1,by go_num,by omega,hrw3,bb.setCell (Nat.le_refl _) _⟩,by simp [intOf];omega⟩
    ·obtain rfl:q=n:=by omega
     have hqn':¬ ((q:Nat):Int) < q:=by omega
     have hown:=rowIs_own hrw (by simp) (by omega)
     have hNBi:=hNB.below hbi
     have hSi:=hS1.bl hbi
     have bwi:=hbel.trans (hbi.mono hbel.size)
     have hlen:=M.rowsB_len A q m
     have hout:=hNBi.outer
     rw [hlen] at hout
     obtain ⟨vo,co,rfl⟩:=own_sl hout
     have HRS:Hid (M.rowsB A q (m+1)=M.rowsB A q m++[(List.range q).map fun b=>A m b]):=M.rowsB_succ A q m
     have s0:=hSi.c
     have sf:=hSi.fz
     have lN:=hSi.lt
     go_wp2_with (at_builtin;refine wpList_append_lies _ rfl (.tmp 47) (.tmp 49) 136 rfl (w.heap.size+1) 129 j0 _ 1 24 Tryz.underlying136 hj hy0 hy1 hy2 rfl (by decide) _ _ vs rfl (hout.alloc _) ⟨_,0,none⟩ 1 1 _ rfl rfl (World.news_of_block (t:=129) (fr:=(0,0)) (heap_alloc_new _ _)) (by simp [Value.oneCell']) (by omega) (by unfold maxLen;omega) (by omega) (by simp;omega) _ rfl ?_)
     intro g5 cap5 w5 hown5 hg5 hat5 hlt5
     have hge:=own_ge hout
     have hS5:=(hSi.bl (below1 wr _)).grown hg5 (fun e=>by have:=hge _ e;omega)
     have hNB5:=(hNBi.below (below1 wr _)).snoc (l:=(List.range q).map fun b=>A m b) (own_mono2 (by simpa using ownsRow_below hown (below1 wr _)) (by have:=hS1.lt;omega)) (fun i hi j hj e=>by
      have h1:=((hNB.inner i (by have:=hNB.len;omega) hi).lt j hj).2
      have h2:=Option.some.inj e
      simp only at h2
      omega) (by rw [hlen];exact hown5) hg5
     have b5:Below w.heap.size w w5:=below_grown (bwi.alloc bwi.size _) hg5 (fun j hj=>by have:=hge j hj;omega) (by have:=bwi.size;simp;omega)
     clear hown5 hg5 s0 sf
     have s0:=hS5.c
     have sf:=hS5.fz
     go_wp2_with fail
     exact ⟨⟨m+1,_,_,by go_num,by first | omega | (rw [HN.out];omega),hS5.set _,by first | (rw [HN.out,HRS.out];exact hNB5.far (by omega) _) | (rw [HRS.out];exact hNB5.far (by omega) _),b5.setCell (Nat.le_refl _) _⟩,by simp [intOf];omega⟩
  ·have hme:m=(M.deeds t.ll).length:=by omega
   have hmn':¬ (m:Int) < (M.deeds t.ll).length:=by omega
   subst hme
   obtain ⟨vo,co,rfl⟩:=own_sl hNB.outer
   rw [M.rowsB_len] at hNB hS1
   obtain ⟨G',rb',rc',hO⟩:=hNB.net (B:=w.heap.size) hS1.c (Nat.le_refl _)
   clear hnn HN
   go_wp2_with fail
   go_ret
   exact ⟨_,rfl,⟨G',co,vo,rb',rc',hO⟩,hbel⟩
end
section
open Go.RowKit
structure NtB (w:World) (O X G n c:Nat) (va:Option Addr) (rb rc:Nat→Nat) (A:Nat→Nat→Bool):Prop where
 nt:NtAt w X G n c va rb rc A
 nX:X≠O
 nG:0 < n→G≠O
 nR:∀ a,a < n→rb a≠O
theorem NtB.but {w w':World} {O X G n c:Nat} {va:Option Addr} {rb rc:Nat→Nat} {A:Nat→Nat→Bool} (h:NtB w O X G n c va rb rc A) (hb:But O w w'):NtB w' O X G n c va rb rc A :=
 ⟨⟨(hb.cell (p:=⟨X,0,none⟩) (World.block_lt_of_cell? _ _ h.nt.box) h.nX).trans h.nt.box,h.nt.addr,fun a ha=>(hb.cell (p:=⟨G,a,none⟩) (World.block_lt_of_cell? _ _ (h.nt.outer a ha)) (h.nG (by omega))).trans (h.nt.outer a ha),fun a ha b hb'=>(hb.cell (p:=⟨rb a,b,none⟩) (World.block_lt_of_cell? _ _ (h.nt.row a ha b hb')) (h.nR a ha)).trans (h.nt.row a ha b hb')⟩,h.nX,h.nG,h.nR⟩
theorem NtB.below {w w':World} {O X G n c:Nat} {va:Option Addr} {rb rc:Nat→Nat} {A:Nat→Nat→Bool} (h:NtB w O X G n c va rb rc A) (hb:Below w.heap.size w w'):NtB w' O X G n c va rb rc A:=⟨h.nt.below hb,h.nX,h.nG,h.nR⟩
set_option maxHeartbeats 1000000 in
set_option maxRecDepth 100000 in
theorem netE2_any (O cc:Nat) (va:Option Addr) (k:Nat) (A:Nat→Nat→Bool) (w:World) (h:w.cell? ⟨O,1,none⟩=some (.slice va 0 cc)) :
  Calls Tryz.prog 37 #[.pointer (some ⟨O,0,none⟩),.int .i64 k] w fun e w'=>∃ X',e=.returned (.pointer (some ⟨X',0,none⟩))∧(∃ G c va rb rc,NtB w' O X' G 0 c va rb rc A)∧Below w.heap.size w w':=by
 have hO:O < w.heap.size:=World.block_lt_of_cell? _ _ h
 go_enter Tryz.func37,Tryz.ntmps37
 go_wp2_with fail
 go_loopw [6] (fun s6 wr=>s6=.int .i64 0∧S1 wr w.heap.size (.slice none 0 0)∧Below w.heap.size w wr) (fun _ _=>0)
 case atStart=>exact ⟨rfl,⟨by simp,by simp⟩,below1 _ _⟩
 case round =>
  obtain ⟨rfl,hS1,hbel⟩:=hrel
  have l0:=cellC hbel h
  have s0:=hS1.c
  go_wp2_with fail
  go_ret
  exact ⟨_,rfl,⟨0,0,none,fun _=>0,fun _=>0,⟨⟨s0,fun h=>absurd h (Nat.lt_irrefl _),fun a ha=>absurd ha (Nat.not_lt_zero _),fun a ha=>absurd ha (Nat.not_lt_zero _)⟩,by omega,fun h=>absurd h (Nat.lt_irrefl _),fun a ha=>absurd ha (Nat.not_lt_zero _)⟩⟩,hbel⟩
theorem netG_any (k:Nat) (hk:k≤3) (a:Option Addr) (b o c:Nat) (ll:List (List M.D)) (w2 w3:World) (O:Nat) (va:Option Addr) (g cc:Nat) (v1 v2:Value) (hl:ll.length≤1048576) (hls:∀ t∈ll,t.length≤1048576) (hdl:(M.deeds ll).length≤28) (hp2:DoSS w2 a b o ll) (hLk:LookedG w2 w3 O a c ll va g cc v1 v2) :
  Calls Tryz.prog 37 #[.pointer (some ⟨O,0,none⟩),.int .i64 k] w3 fun e w'=>∃ X',e=.returned (.pointer (some ⟨X',0,none⟩))∧(∃ G c va rb rc,NtB w' O X' G (M.deeds ll).length c va rb rc (M.staysAt (M.deeds ll) k))∧Below w3.heap.size w3 w':=by
 obtain ⟨f4,f5,hblk⟩:=hLk.blk
 have c0:w3.cell? ⟨O,0,none⟩=some (.slice a ll.length c):=by simp [World.cell?,hblk]
 have c1:w3.cell? ⟨O,1,none⟩=some (.slice va (M.deeds ll).length cc):=by simp [World.cell?,hblk]
 have c2:w3.cell? ⟨O,2,none⟩=some v1:=by simp [World.cell?,hblk]
 have c3:w3.cell? ⟨O,3,none⟩=some v2:=by simp [World.cell?,hblk]
 rcases Nat.eq_zero_or_pos (M.deeds ll).length with h0 | hpos
 ·have hnil:M.deeds ll=[]:=List.eq_nil_of_length_eq_zero h0
  rw [h0] at c1
  rw [hnil]
  exact netE2_any O cc va k _ w3 c1
 ·obtain ⟨rfl⟩:=hLk.dv.addr hpos
  obtain ⟨ub,uc,rfl,_,_⟩:=hLk.own1.form hpos
  obtain ⟨wb,wc,rfl,_,_⟩:=hLk.own2.form hpos
  have rd:∀ n x,(M.deeds ll)[n]?=some x→w3.cell? ⟨ub,n,none⟩=some (.bool (M.reads x.d.k)):=fun n x hx=>by
   have hn:n < (M.deeds ll).length:=by
    rcases Nat.lt_or_ge n (M.deeds ll).length with h | h
    ·exact h
    ·rw [List.getElem?_eq_none h] at hx;cases hx
   have o1:=hLk.own1
   have:=own_bools (l:=(M.deeds ll).map fun x=>M.reads x.d.k) (by rw [List.length_map];exact o1) n (by simpa using hn)
   rw [List.getElem?_eq_getElem hn] at hx
   rw [this,List.getElem_map,Option.some.inj hx]
  have wrt:∀ n x,(M.deeds ll)[n]?=some x→w3.cell? ⟨wb,n,none⟩=some (.bool (M.writes x.d.k)):=fun n x hx=>by
   have hn:n < (M.deeds ll).length:=by
    rcases Nat.lt_or_ge n (M.deeds ll).length with h | h
    ·exact h
    ·rw [List.getElem?_eq_none h] at hx;cases hx
   have o1:=hLk.own2
   have:=own_bools (l:=(M.deeds ll).map fun x=>M.writes x.d.k) (by rw [List.length_map];exact o1) n (by simpa using hn)
   rw [List.getElem?_eq_getElem hn] at hx
   rw [this,List.getElem_map,Option.some.inj hx]
  have hkO:(⟨O,a,b,o,c,ll,g,cc⟩:Lp).Ok:=⟨hl,hls,by show (M.deeds ll).length≤42;omega⟩
  have hA:(⟨ub,uc,wb,wc,0,0,0,[],0,0,[]⟩:Lq).Ar ⟨O,a,b,o,c,ll,g,cc⟩ w3:=⟨⟨c0,c1,hp2.below hLk.bel (Nat.le_refl _),hLk.dv⟩,c2,c3,rd,wrt⟩
  have C:=netR_of ⟨O,a,b,o,c,ll,g,cc⟩ _ k w3 hdl hA (by
   intro p q x y w h hx hy
   rcases (show k=0∨k=1∨k=2∨k=3 by omega) with rfl | rfl | rfl | rfl
   ·exact stays0R_any _ _ p q x y w hkO h hx hy
   ·exact stays1R_any _ _ p q x y w hkO h hx hy
   ·exact stays2R_any _ _ p q x y w hkO h hx hy
   ·exact stays3R_any _ _ p q x y w hkO h hx hy)
  have hOl:=hLk.lt
  refine C.mono (fun e w' ⟨X',he,⟨G',c',va',rb',rc',hO⟩,hb⟩=>⟨X',he,⟨G',c',va',rb',rc',hO.nt,?_,fun _ e1=>?_,fun i hi e1=>?_⟩,hb⟩)
  ·have:=hO.geX;omega
  ·subst e1
   have c0':=(hb.cell (p:=⟨G',0,none⟩) hOl).trans c0
   have h1:=hO.nt.outer 0 hpos
   rw [c0'] at h1
   have e2:a=some ⟨rb' 0,0,none⟩:=by simpa using congrArg (fun v=>match v with | some (Value.slice q _ _)=>q | _=>none) h1
   have hlp:0 < ll.length:=by
    cases ll with
    | nil=>simp [M.deeds,M.deF] at hpos
    | cons _ _=>simp
   have e3:=hp2.addr hlp
   rw [e2] at e3
   have e4:rb' 0=b:=by simpa using congrArg (fun v=>match v with | some (q:Addr)=>q.block | _=>0) e3
   have h5:=hO.ge 0 hpos
   obtain ⟨_,_,_,_,h6,_⟩:=hp2.row 0 hlp
   have h7:b < w2.heap.size:=World.block_lt_of_cell? _ _ h6
   have h8:=hLk.bel.size
   omega
  ·have:=hO.ge i hi;omega
end
section
open Go.RowKit
theorem Sn.At.butO {s:Sn} {w w':World} {O:Nat} (h:s.At w) (hb:But O w w') (h1:s.b1≠O) (h2:s.b2≠O):s.At w' :=
 ⟨⟨h.reads.addr,fun i hi=>(hb.cell (p:=⟨s.b1,_,none⟩) (World.block_lt_of_cell? _ _ (h.reads.row i hi)) h1).trans (h.reads.row i hi)⟩,⟨h.last.addr,fun i hi=>(hb.cell (p:=⟨s.b2,_,none⟩) (World.block_lt_of_cell? _ _ (h.last.row i hi)) h2).trans (h.last.row i hi)⟩⟩
theorem M.row_len {ds:List M.De} {rows:List (List Int)} (h:M.orderOk ds rows=true) (hd:ds.length≤42):∀ r∈rows,r.length≤1048576:=by
 have key:∀ (rows:List (List Int)) (p:Nat),M.orderAt ds p rows=true→∀ r∈rows,r.length≤ds.length:=by
  intro rows
  induction rows with
  | nil=>intro p _ r hr;cases hr
  | cons x rows ih =>
   intro p h r hr
   simp only [M.orderAt,M.isRow,Bool.and_eq_true,decide_eq_true_eq] at h
   rcases List.mem_cons.1 hr with rfl | hr
   ·have:=M.wrs_len p ds 0;omega
   ·exact ih _ h.2 r hr
 simp only [M.orderOk,Bool.and_eq_true] at h
 intro r hr
 have:=key rows 0 h.2 r hr
 omega
structure SLO (w:World) (O g:Nat) (tt:List Sn):Prop where
 sl:SL w g tt
 lt:g < w.heap.size
 ne:g≠O
 off:∀ t∈tt,t.b1≠O∧t.b2≠O
theorem SLO.but {w w':World} {O g:Nat} {tt:List Sn} (h:SLO w O g tt) (hb:But O w w'):SLO w' O g tt:=by
 refine ⟨⟨⟨fun i hi=>?_,fun j=>?_⟩,fun s hs=>⟨(h.sl.at_ s hs).1.butO hb (h.off s hs).1 (h.off s hs).2,(h.sl.at_ s hs).2⟩⟩,Nat.lt_of_lt_of_le h.lt hb.size,h.ne,h.off⟩
 ·obtain ⟨c1,c2⟩:=h.sl.sr.c i hi
  exact ⟨(hb.cell (p:=⟨g,i * 2,none⟩) h.lt h.ne).trans c1,(hb.cell (p:=⟨g,i * 2+1,none⟩) h.lt h.ne).trans c2⟩
 ·exact (hb.frozen (p:=⟨g,j,none⟩) h.lt h.ne).trans (h.sl.sr.fz j)
theorem SLO.below {w w':World} {O g:Nat} {tt:List Sn} (h:SLO w O g tt) (hb:Below w.heap.size w w'):SLO w' O g tt:=h.but (But.of hb)
namespace M
theorem step_no {ll:List (List D)} {kind:Int} {xs:List Wy} {n:Nat} (hn:n < xs.length) (h:orderHolds ll xs[n].1 xs[n].2 kind=false):((xs.take (n+1)).filter fun x=>orderHolds ll x.1 x.2 kind)=(xs.take n).filter fun x=>orderHolds ll x.1 x.2 kind:=by
 rw [List.take_succ_eq_append_getElem hn,List.filter_append];simp [h]
theorem step_yes {ll:List (List D)} {kind:Int} {xs:List Wy} {n:Nat} (hn:n < xs.length) (h:orderHolds ll xs[n].1 xs[n].2 kind=true):((xs.take (n+1)).filter fun x=>orderHolds ll x.1 x.2 kind)=((xs.take n).filter fun x=>orderHolds ll x.1 x.2 kind)++[xs[n]]:=by
 rw [List.take_succ_eq_append_getElem hn,List.filter_append];simp [h]
def heldOf (ll:List (List D)) (kind:Int) (xs:List Wy):List Ky:=(xs.filter fun x=>orderHolds ll x.1 x.2 kind).map fun x=>(seenR (deeds ll) x.1,seenL (deeds ll) x.1 x.2)
theorem held_no {ll:List (List D)} {kind:Int} {xs:List Wy} {n:Nat} (hn:n < xs.length) (h:orderHolds ll xs[n].1 xs[n].2 kind=false):heldOf ll kind (xs.take (n+1))=heldOf ll kind (xs.take n):=by
 rw [heldOf,step_no hn h];rfl
theorem held_yes {ll:List (List D)} {kind:Int} {xs:List Wy} {n:Nat} (hn:n < xs.length) (h:orderHolds ll xs[n].1 xs[n].2 kind=true):heldOf ll kind (xs.take (n+1))=heldOf ll kind (xs.take n)++[(seenR (deeds ll) xs[n].1,seenL (deeds ll) xs[n].1 xs[n].2)]:=by
 rw [heldOf,step_yes hn h,List.map_append];rfl
theorem seen_le {ll:List (List D)} {x:Wy} {s:Sn} (h1:Hid (s.l1=seenR (deeds ll) x.1)) (h2:Hid (s.l2=seenL (deeds ll) x.1 x.2)) (hd:(deeds ll).length≤28) (h3:Hid (x.2.length=3)):s.Le 1048576:=by
 have:=rd_len (deeds ll) x.1 (deeds ll) 0
 have e3:=h3.out
 exact ⟨by rw [h1.out,seenR];omega,by rw [h2.out,seenL,List.length_map];omega⟩
end M
structure OaR (w w2 wr:World) (a:Option Addr) (c:Nat) (ll:List (List M.D)) (kn:Nat) (O:Nat) (va:Option Addr) (g cc:Nat) (v1 v2:Value) (X1 X2:Nat) (g5:Nat) (tt:List Sn):Prop where
 lk:LookedG w2 wr O a c ll va g cc v1 v2
 n1:∃ G c va rb rc,NtB wr O X1 G (M.deeds ll).length c va rb rc (M.staysAt (M.deeds ll) 0)
 n2:∃ G c va rb rc,NtB wr O X2 G (M.deeds ll).length c va rb rc (M.staysAt (M.deeds ll) kn)
 sl:SLO wr O g5 tt
 pc:wr.cell? ⟨w.heap.size,0,none⟩=some (.slice a ll.length c)
 bel:Below w.heap.size w wr
theorem OaR.below {w w2 wr w':World} {a:Option Addr} {c:Nat} {ll:List (List M.D)} {kn O:Nat} {va:Option Addr} {g cc:Nat} {v1 v2:Value} {X1 X2 g5:Nat} {tt:List Sn} (h:OaR w w2 wr a c ll kn O va g cc v1 v2 X1 X2 g5 tt) (hb:Below wr.heap.size wr w'):OaR w w2 w' a c ll kn O va g cc v1 v2 X1 X2 g5 tt:=by
 obtain ⟨G,c',va',rb,rc,h1⟩:=h.n1
 obtain ⟨G2,c2,va2,rb2,rc2,h2⟩:=h.n2
 exact ⟨h.lk.below hb,⟨G,c',va',rb,rc,h1.below hb⟩,⟨G2,c2,va2,rb2,rc2,h2.below hb⟩,h.sl.below hb,(hb.cell (p:=⟨w.heap.size,0,none⟩) (World.block_lt_of_cell? _ _ h.pc)).trans h.pc,h.bel.trans (hb.mono h.bel.size)⟩
theorem OaR.but {w w2 wr w':World} {a:Option Addr} {c:Nat} {ll:List (List M.D)} {kn O:Nat} {va:Option Addr} {g cc:Nat} {v1 v2:Value} {X1 X2 g5:Nat} {tt:List Sn} (h:OaR w w2 wr a c ll kn O va g cc v1 v2 X1 X2 g5 tt) (hO:w.heap.size < O) (hl:LookedG w2 w' O a c ll va g cc v1 v2) (hb:But O wr w'):OaR w w2 w' a c ll kn O va g cc v1 v2 X1 X2 g5 tt:=by
 obtain ⟨G,c',va',rb,rc,h1⟩:=h.n1
 obtain ⟨G2,c2,va2,rb2,rc2,h2⟩:=h.n2
 exact ⟨hl,⟨G,c',va',rb,rc,h1.but hb⟩,⟨G2,c2,va2,rb2,rc2,h2.but hb⟩,h.sl.but hb,(hb.cell (p:=⟨w.heap.size,0,none⟩) (World.block_lt_of_cell? _ _ h.pc) (by show w.heap.size≠O;omega)).trans h.pc,But.low h.bel hb (by omega)⟩
def M.sorderAll (ll:List (List M.D)) (kind:Int):List Key:=if (decide (1≤kind)&&decide (kind≤3))&&M.prog ll then M.sortK (M.heldOf ll kind (M.specAll ll)) else []
end
section
open Go.RowKit
theorem M.sorder_same (ll:List (List M.D)) (kind:Int):M.sorderAll ll kind=M.orderAll ll kind:=by
 unfold M.sorderAll M.orderAll
 cases hp:M.prog ll
 ·rw [Bool.and_false];rfl
 ·congr 1
  unfold M.heldOf M.orderList M.specAll
  rw [if_pos hp,M.ways_eq (M.cop_deeds ll)]
  rfl
end
section
open Go.RowKit
set_option maxHeartbeats 4000000 in
set_option maxRecDepth 100000 in
theorem l13AllN_any (a:Option Addr) (b o c:Nat) (ll:List (List M.D)) (la:Option Addr) (lg lc:Nat) (xs:List M.Wy) (kind:Int) (w:World) (hl:ll.length≤1048576) (hls:∀ t∈ll,t.length≤1048576) (hxl:xs.length≤1048575) (hok:∀ x∈xs,M.execOk ll x.1 x.2=true) (hle:∀ x∈xs,WyLe x) (h:DoSS w a b o ll) (hL:LW w la lg xs) :
  Calls Tryz.prog 129 #[.agg #[.slice a ll.length c],.slice la xs.length lc,.int .i64 kind] w fun e w'=>∃ g cap,∃ tt:List Sn,e=.returned (.slice (some ⟨g,0,none⟩) tt.length cap)∧kys tt=(if (decide (1≤kind)&&decide (kind≤3))&&M.prog ll then M.sortK (M.heldOf ll kind xs) else [])∧SL w' g tt∧tt.length≤xs.length∧tt.length≤cap∧(w.heap.size≤g∧∀ s∈tt,w.heap.size≤s.b1∧w.heap.size≤s.b2∧s.l1.length≤s.c1)∧Below w.heap.size w w':=by
 have b1:=below2 w (.cells #[.slice a ll.length c] 25) (.cells #[] 45)
 have k1:((w.alloc (.cells #[.slice a ll.length c] 25)).alloc (.cells #[] 45)).cell? ⟨w.heap.size,0,none⟩=some (.slice a ll.length c):=by simp
 have z1:((w.alloc (.cells #[.slice a ll.length c] 25)).alloc (.cells #[] 45)).heap.size=w.heap.size+2:=by simp
 have sl0:SL ((w.alloc (.cells #[.slice a ll.length c] 25)).alloc (.cells #[] 45)) (w.heap.size+1) []:=⟨⟨fun i hi=>absurd hi (Nat.not_lt_zero _),fun j=>by simp⟩,fun s hs=>absurd hs (by simp)⟩
 have hp1:=h.below b1 (Nat.le_refl _)
 have hL1:=hL.below b1
 have C1:=sprog_any a b o c ll _ hl hls hp1
 obtain ⟨res,hres⟩:∃ res,(if (decide (1≤kind)&&decide (kind≤3))&&M.prog ll then M.sortK (M.heldOf ll kind xs) else [])=res:=⟨_,rfl⟩
 rw [hres]
 have HRES:Hid ((if (decide (1≤kind)&&decide (kind≤3))&&M.prog ll then M.sortK (M.heldOf ll kind xs) else [])=res):=hres
 clear hres
 go_enter Tryz.func129,Tryz.ntmps129
 go_wp2_with fail
 generalize (w.alloc (.cells #[.slice a ll.length c] 25)).alloc (.cells #[] 45)=W0 at *
 refine C1.mono ?_
 clear C1
 cases hp:M.prog ll
 ·rintro e W1 ⟨rfl,b2⟩
  have HR:Hid (([]:List Key)=res):=by show _=_;rw [← HRES.out,hp,Bool.and_false];rfl
  clear hok
  go_wp2_with fail
  go_ret
  exact ⟨_,_,[],rfl,HR.out,sl0.below b2 (by omega),by simp,by simp,⟨by omega,fun s hs=>(by cases hs)⟩,b1.trans (b2.mono b1.size)⟩
 ·rintro e W1 ⟨rfl,b2⟩
  cases hk:(decide (1≤kind)&&decide (kind≤3))
  ·have hk':M.rng 1 3 kind=false:=hk
   have HR:Hid (([]:List Key)=res):=by show _=_;rw [← HRES.out,hk];rfl
   clear hok hk
   go_wp2_with (go_at_call 59;refine (l6In_any kind 1 3 _).mono ?_;rw [hk'];rintro e w' ⟨rfl,rfl⟩)
   go_ret
   exact ⟨_,_,[],rfl,HR.out,sl0.below b2 (by omega),by simp,by simp,⟨by omega,fun s hs=>(by cases hs)⟩,b1.trans (b2.mono b1.size)⟩
  ·have hk':M.rng 1 3 kind=true:=hk
   obtain ⟨kn,rfl⟩:∃ kn:Nat,kind=kn:=⟨kind.toNat,by simp only [Bool.and_eq_true,decide_eq_true_eq] at hk;omega⟩
   have hk13:1≤kn∧kn≤3:=by simp only [Bool.and_eq_true,decide_eq_true_eq] at hk;omega
   have HO:Hid (∀ l rows,M.execOk ll l rows=true→M.orderHolds ll l rows kn=(M.holdsA (M.netOf (M.deeds ll) l rows 0) (M.deeds ll).length&&M.waitsA (M.deeds ll).length (M.netOf (M.deeds ll) l rows kn) (M.choices (M.deeds ll)))):=by intro l rows he;unfold M.orderHolds;rw [he,hk];simp
   have HZ:Hid ((M.heldOf ll kn xs).foldl M.putIn []=res):=by show _=_;rw [← HRES.out,hk,hp];rfl
   have hdl:=M.deeds28 hp
   have HOK:Hid (∀ x∈xs,M.execOk ll x.1 x.2=true):=hok
   have HPR:Hid (M.prog ll=true):=hp
   clear hok hk hp
   have b12:=b1.trans (b2.mono b1.size)
   have pc1:=(b2.cell (p:=⟨w.heap.size,0,none⟩) (World.block_lt_of_cell? _ _ k1)).trans k1
   have hp2:=hp1.below b2 (Nat.le_refl _)
   have hL2:=hL1.below b2
   have sl1:=sl0.below b2 (by omega)
   have s12:=b2.size
   clear k1 hp1 hL1 sl0 b1 b2
   go_wp2_with (go_at_call 59;refine (l6In_any kn 1 3 _).mono ?_;rw [hk'];rintro e w1x ⟨rfl,rfl⟩)
   refine (l13Look_any a b o c ll _ HPR.out hl hls (by omega) hp2).mono ?_
   rintro e w3 ⟨O,va,g,cc,v1,v2,rfl,hLk0⟩
   have hLk:=hLk0.g
   have hOge:w.heap.size+2≤O:=by have:=hLk.ge;omega
   have b13:=b12.trans (hLk.bel.mono b12.size)
   have pc3:=cellC hLk.bel pc1
   have sl3:SLO w3 O (w.heap.size+1) []:=⟨sl1.below hLk.bel (by omega),by have:=hLk.bel.size;omega,by omega,fun t ht=>by cases ht⟩
   clear hLk0 sl1 pc1
   go_wp2_with fail
   refine (netG_any 0 (by omega) a b o c ll _ w3 O va g cc v1 v2 hl hls hdl hp2 hLk).mono ?_
   rintro e w4 ⟨X1,rfl,⟨G1,c1,va1,rb1,rc1,hN1⟩,b4⟩
   have hLk4:=hLk.below b4
   have b14:=b13.trans (b4.mono b13.size)
   have pc4:=cellC b4 pc3
   have sl4:=sl3.below b4
   clear hLk pc3 sl3
   go_wp2_with fail
   refine (netG_any kn (by omega) a b o c ll _ w4 O va g cc v1 v2 hl hls hdl hp2 hLk4).mono ?_
   rintro e w5 ⟨X2,rfl,⟨G2,c2,va2,rb2,rc2,hN2⟩,b5⟩
   have OR0:OaR w _ w5 a c ll kn O va g cc v1 v2 X1 X2 (w.heap.size+1) []:=⟨hLk4.below b5,⟨G1,c1,va1,rb1,rc1,hN1.below b5⟩,⟨G2,c2,va2,rb2,rc2,hN2⟩,sl4.below b5,cellC b5 pc4,b14.trans (b5.mono b14.size)⟩
   clear hLk4 pc4 sl4 b4 b5 hN1 hN2 b14 b13 b12
   go_wp2_with fail
   go_loopw [7,11] (fun s7 s11 wr=>∃ (n g5 cap5:Nat) (tt:List Sn),s7=.slice (some ⟨g5,0,none⟩) tt.length cap5∧s11=.int .i64 n∧n≤xs.length∧tt.length≤n∧tt.length≤cap5∧Hid (kys tt=(M.heldOf ll kn (xs.take n)).foldl M.putIn [])∧Hid (w.heap.size≤g5∧∀ s∈tt,w.heap.size≤s.b1∧w.heap.size≤s.b2∧s.l1.length≤s.c1)∧OaR w w1x wr a c ll kn O va g cc v1 v2 X1 X2 g5 tt) (fun _ s11 _=>xs.length - (intOf s11).toNat)
   case atStart=>exact ⟨0,_,0,[],rfl,rfl,Nat.zero_le _,by simp,by simp,rfl,⟨by omega,fun s hs=>(by cases hs)⟩,OR0⟩
   case round =>
    clear OR0
    obtain ⟨n,g5,cap5,tt,rfl,rfl,hn,htn,htc,HK,HNW,R⟩:=hrel
    by_cases hlt:n < xs.length
    ·have i1:(n:Int) < xs.length:=by omega
     obtain ⟨rfl⟩:=hL2.addr (by omega)
     obtain ⟨fa,fb,fc,ra,rb,rc,f1,f2,hF,hR⟩:=hL2.row n hlt
     have hxo:=HOK.out _ (List.getElem_mem hlt)
     have hxl':=hle _ (List.getElem_mem hlt)
     obtain ⟨x,hx⟩:∃ x,xs[n]=x:=⟨_,rfl⟩
     rw [hx] at f1 f2 hF hR hxo hxl'
     have HX:Hid (xs[n]=x):=hx
     clear hx
     have hW:=M.wok_of hxo
     have hY:=M.way_of hxo
     have q1:=cellC R.lk.bel f1
     have q2:=cellC R.lk.bel f2
     obtain ⟨St,CW,hP⟩:=holdsG_parts kn hk13 a b o c ll fa fb 0 fc x.1 ra rb 0 rc x.2 _ wr O va g cc v1 v2 hl hls hxl'.c hW hdl hp2 hF hR R.lk
     have HOX:=HO.out x.1 x.2 hxo
     go_wp2_with fail
     refine CW.mono ?_
     rintro e w4 ⟨rfl,hSt,hLkw,hBut⟩
     have R4:=R.but (by omega) hLkw hBut
     clear R hBut hLkw CW q1 q2
     obtain ⟨G1,c1,va1,rb1,rc1,hN1⟩:=R4.n1
     go_wp2_with fail
     refine (hP.whole 0 (Or.inl rfl) X1 G1 c1 va1 rb1 rc1 w4 hSt hN1.nt).mono ?_
     rintro e w6 ⟨X3,rfl,⟨G3,c3,va3,rb3,rc3,hN3⟩,b6⟩
     have hSt6:=hP.bel _ _ hSt b6
     have R6:=R4.below b6
     clear R4 hSt b6 hN1
     have CH:=netHolds_any X3 G3 _ c3 va3 rb3 rc3 _ w6 hdl hN3
     cases hH:M.holdsA (M.netOf (M.deeds ll) x.1 x.2 0) (M.deeds ll).length
     ·rw [hH] at CH
      have HN:Hid (M.heldOf ll kn (xs.take (n+1))=M.heldOf ll kn (xs.take n)):=by
       show _=_
       refine M.held_no hlt ?_
       rw [HX.out,HOX,hH];rfl
      clear hH HOX HX
      go_wp2_with fail
      refine CH.mono ?_
      rintro e w7 ⟨rfl,b7⟩
      have R7:=R6.below b7
      clear R6 CH b7 hP
      go_wp2_with fail
      exact ⟨⟨n+1,g5,cap5,tt,rfl,by go_num,by omega,by omega,htc,by show _=_;rw [HN.out];exact HK.out,HNW,R7⟩,by simp [intOf];omega⟩
     ·rw [hH] at CH
      go_wp2_with fail
      refine CH.mono ?_
      rintro e w7 ⟨rfl,b7⟩
      have R7:=R6.below b7
      have hSt7:=hP.bel _ _ hSt6 b7
      clear R6 CH b7 hSt6 hN3
      obtain ⟨G2,c2,va2,rb2,rc2,hN2⟩:=R7.n2
      go_wp2_with fail
      refine (hP.whole kn (Or.inr rfl) X2 G2 c2 va2 rb2 rc2 w7 hSt7 hN2.nt).mono ?_
      rintro e w9 ⟨X4,rfl,⟨G4,c4,va4,rb4,rc4,hN4⟩,b9⟩
      have hSt9:=hP.bel _ _ hSt7 b9
      have R9:=R7.below b9
      clear R7 hSt7 b9 hN2
      have CT:=hP.waits X4 G4 c4 va4 rb4 rc4 _ w9 hSt9 hN4
      cases hV:M.waitsA (M.deeds ll).length (M.netOf (M.deeds ll) x.1 x.2 kn) (M.choices (M.deeds ll))
      ·rw [hV] at CT
       have HN:Hid (M.heldOf ll kn (xs.take (n+1))=M.heldOf ll kn (xs.take n)):=by
        show _=_
        refine M.held_no hlt ?_
        rw [HX.out,HOX,hH,hV];rfl
       clear hH HOX HX hV
       go_wp2_with fail
       refine CT.mono ?_
       rintro e w10 ⟨rfl,b10⟩
       have R10:=R9.below b10
       clear R9 CT b10 hP
       go_wp2_with fail
       exact ⟨⟨n+1,g5,cap5,tt,rfl,by go_num,by omega,by omega,htc,by show _=_;rw [HN.out];exact HK.out,HNW,R10⟩,by simp [intOf];omega⟩
      ·rw [hV] at CT
       have HN:Hid (M.heldOf ll kn (xs.take (n+1))=M.heldOf ll kn (xs.take n)++[(M.seenR (M.deeds ll) x.1,M.seenL (M.deeds ll) x.1 x.2)]):=by
        show _=_
        have:=M.held_yes (ll:=ll) (kind:=kn) hlt (by rw [HX.out,HOX,hH,hV];rfl)
        rw [HX.out] at this
        exact this
       clear hH HOX HX hV
       go_wp2_with fail
       refine CT.mono ?_
       rintro e w10 ⟨rfl,b10⟩
       have R10:=R9.below b10
       clear R9 CT b10 hP hSt9 hN4
       have R11:=R10.below (Below.refl _ _).drew
       clear R10
       have hbL:=R11.lk.bel
       have hOl:=R11.lk.lt
       obtain ⟨f4,f5,hblk⟩:=R11.lk.blk
       have cO:w10.cell? ⟨O,1,none⟩=some (.slice va (M.deeds ll).length cc):=by
        have:w10.drew.cell? ⟨O,1,none⟩=some (.slice va (M.deeds ll).length cc):=by simp [World.cell?,hblk]
        exact this
       have cP:w10.cell? ⟨w.heap.size,0,none⟩=some (.slice a ll.length c):=R11.pc
       have q1d:=cellC hbL f1
       have q1:w10.cell? ⟨lg,n * 2,none⟩=some (.slice fa x.1.length fc):=q1d
       have q2d:=cellC hbL f2
       have q2:w10.cell? ⟨lg,n * 2+1,none⟩=some (.slice ra x.2.length rc):=q2d
       clear q1d q2d
       have CS:=l12Seen_any a b o c ll va g cc fa fb 0 fc x.1 ra rb 0 rc x.2 w10.drew hl hls (by omega) hY.len hY.inn hY.three hxl'.c hY.mem (hp2.below hbL (Nat.le_refl _)) R11.lk.dv (hF.below hbL (Nat.le_refl _)) (hR.below hbL (Nat.le_refl _))
       have HASC:Hid (M.Asc (kys tt)):=by show M.Asc (kys tt);rw [HK.out];exact M.foldl_asc _ [] List.Pairwise.nil
       clear hblk
       go_wp2_with fail
       go_region_held3 (fun z=>z.cell? ⟨w.heap.size,0,none⟩=some (.slice a ll.length c)∧z.cell? ⟨O,1,none⟩=some (.slice va (M.deeds ll).length cc)∧z.cell? ⟨lg,n * 2,none⟩=some (.slice fa x.1.length fc)∧z.cell? ⟨lg,n * 2+1,none⟩=some (.slice ra x.2.length rc)) (go_keep) (first
        | (go_at_call 113;refine CS.mono ?_;rintro e w12 ⟨s,rfl,hs1,hs2,hsA,hsb1,hsb2,hscc,b12⟩;have HS1:Hid (s.l1=_):=hs1;have HS2:Hid (s.l2=_):=hs2;clear hs1 hs2;have R12:=R11.below b12;have Y1:=R12.pc;have Y2:=cellC b12 cO;have Y3:=cellC b12 q1;have Y4:=cellC b12 q2;have hsl:=M.seen_le (ll:=ll) (x:=x) HS1 HS2 hdl hY.three)
        | (go_at_call 178;refine (l2Put_any g5 cap5 tt s _ (by omega) R12.sl.sl R12.sl.lt hsA hsl HASC.out htc).mono ?_;rintro e w13 ⟨g6,cap6,uu,rfl,hku,hSu,hgu,hul,huc,hin,hgg,b13⟩;have HKU:Hid (kys uu=_):=hku;clear hku;have R13:=R12.below b13;have U1:=R13.pc;have U2:=cellC b13 Y2;have U3:=cellC b13 Y3;have U4:=cellC b13 Y4))
       have s12':=b12.size
       have hOd:O < w10.heap.size:=hOl
       have hsd:w10.heap.size≤s.b1∧w10.heap.size≤s.b2:=⟨hsb1,hsb2⟩
       have hwd:w10.heap.size≤w12.heap.size:=s12'
       have SF:SLO w13 O g6 uu:=⟨hSu,hgu,by have:=R12.sl.ne;have:=R12.sl.lt;omega,fun t ht=>by
        rcases hin t ht with h1 | rfl
        ·exact R12.sl.off t h1
        ·omega⟩
       have hwz:w.heap.size≤w10.heap.size:=R11.bel.size
       have HNF:Hid (w.heap.size≤g6∧∀ t∈uu,w.heap.size≤t.b1∧w.heap.size≤t.b2∧t.l1.length≤t.c1):=⟨by have:=HNW.out.1;omega,fun t ht=>by
        rcases hin t ht with h1 | rfl
        ·exact HNW.out.2 t h1
        ·exact ⟨by omega,by omega,hscc⟩⟩
       have RF:OaR w w1x w13 a c ll kn O va g cc v1 v2 X1 X2 g6 uu:=⟨R13.lk,R13.n1,R13.n2,SF,R13.pc,R13.bel⟩
       have HF:Hid (kys uu=(M.heldOf ll kn (xs.take (n+1))).foldl M.putIn []):=by
        show _=_
        rw [HN.out,List.foldl_append,← HK.out,HKU.out]
        simp only [List.foldl_cons,List.foldl_nil,Sn.ky,HS1.out,HS2.out]
       clear R11 R12 R13 U1 U2 U3 U4 Y1 Y2 Y3 Y4 HKU HN HK CS
       go_wp2_with fail
       exact ⟨⟨n+1,g6,cap6,uu,rfl,by go_num,by omega,by omega,huc,HF,HNF,RF⟩,by simp [intOf];omega⟩
    ·have i1:¬ (n:Int) < xs.length:=by omega
     have e1:xs.take n=xs:=List.take_of_length_le (by omega)
     rw [e1] at HK
     go_wp2_with fail
     go_ret
     exact ⟨g5,cap5,tt,rfl,HK.out.trans HZ.out,R.sl.sl,by omega,htc,HNW.out,R.bel⟩
set_option maxHeartbeats 2000000 in
set_option maxRecDepth 100000 in
theorem sorderAllN_any (a:Option Addr) (b o c:Nat) (ll:List (List M.D)) (kind:Int) (w:World) (hl:ll.length≤1048576) (hls:∀ t∈ll,t.length≤1048576) (h:DoSS w a b o ll) :
  Calls Tryz.prog 67 #[.agg #[.slice a ll.length c],.int .i64 kind] w fun e w'=>∃ g cap,∃ tt:List Sn,e=.returned (.slice (some ⟨g,0,none⟩) tt.length cap)∧kys tt=M.sorderAll ll kind∧SL w' g tt∧tt.length≤117649∧tt.length≤cap∧(w.heap.size≤g∧∀ s∈tt,w.heap.size≤s.b1∧w.heap.size≤s.b2∧s.l1.length≤s.c1)∧Below w.heap.size w w':=by
 have b1:=below1 w (.cells #[.slice a ll.length c] 25)
 have k1:(w.alloc (.cells #[.slice a ll.length c] 25)).cell? ⟨w.heap.size,0,none⟩=some (.slice a ll.length c):=by simp
 have hle:∀ x∈M.specAll ll,WyLe x:=fun x hx=>by
  have ho:=M.mem_execAll.1 hx
  have hW:=M.wok_of ho
  have hb:=M.prog_le hW.prog
  have hdl:=M.deeds_len hb.1 hb.2
  refine ⟨by have:=hW.len.out;omega,by have:=hW.three.out;omega,fun r hr=>?_⟩
  simp only [M.execOk,M.wayOk,Bool.and_eq_true] at ho
  exact M.row_len ho.2.2.1 hdl r hr
 have hok:∀ x∈M.specAll ll,M.execOk ll x.1 x.2=true:=fun x hx=>M.mem_execAll.1 hx
 have hxl:(M.specAll ll).length≤117649:=by
  unfold M.specAll
  cases hp:M.prog ll
  ·simp
  ·rw [if_pos rfl,← M.ways_eq (M.cop_deeds ll)]
   exact M.ways_le2 hp
 have hp1:=h.below b1 (Nat.le_refl _)
 go_enter Tryz.func67,Tryz.ntmps67
 go_wp2_with fail
 generalize w.alloc (.cells #[.slice a ll.length c] 25)=W0 at *
 have hp1d:=hp1.below (Below.refl _ _).drew (Nat.le_refl _)
 have CX:=sexecAllW_any a b o c ll W0.drew hl hls hp1d
 go_region_held3 (fun z=>z.cell? ⟨w.heap.size,0,none⟩=some (.slice a ll.length c)) (go_keep) (first
  | (go_at_call 51;refine CX.mono ?_;rintro e w2 ⟨v,rfl,hA⟩;obtain ⟨la,lg,lc,rfl,hLW⟩:=hA.lw;have hA2:=hA.bel;have Y1:=cellC hA2 k1)
  | (go_at_call 129;refine (l13AllN_any a b o c ll la lg lc _ kind _ hl hls (by omega) hok hle (hp1d.below hA2 (Nat.le_refl _)) hLW).mono ?_;rintro e w3 ⟨g,cap,tt,rfl,hk,hS,h1,h2,hnw,h3⟩;have HK:Hid (kys tt=_):=hk;clear hk;have HNW:Hid (_∧_):=hnw;clear hnw;have U1:=cellC h3 Y1))
 have bF:Below w.heap.size w w3:=(b1.trans ((Below.refl _ _).drew.mono b1.size)).trans ((hA2.trans (h3.mono hA2.size)).mono b1.size)
 go_wp2_with fail
 go_ret
 have hyw:w.heap.size≤w2.heap.size:=Nat.le_trans b1.size hA2.size
 exact ⟨g,cap,tt,rfl,HK.out,hS,by omega,h2,⟨by have:=HNW.out.1;omega,fun s hs=>by have:=HNW.out.2 s hs;exact ⟨by omega,by omega,this.2.2⟩⟩,bF⟩
end
section
open Go.RowKit
set_option maxHeartbeats 4000000 in
set_option maxRecDepth 100000 in
theorem waitChoicesC_any (va:Option Addr) (g c:Nat) (ds:List M.De) (w:World) (hl:ds.length≤28) (hrun:M.run false ds=some false) (h:DeS w va g ds) :
  Calls Tryz.prog 88 #[.slice va ds.length c] w fun e w'=>∃ va' g' c',e=.returned (.slice va' (M.choices ds).length c')∧ChS w' va' g' 0 (M.choices ds)∧(0 < (M.choices ds).length→w.heap.size≤g')∧(M.choices ds).length≤c'∧Below w.heap.size w w':=by
 obtain ⟨i0,hi,hz0,hz1,hz2⟩:=info_parts Tryz.infoCh
 go_enter Tryz.func88,Tryz.ntmps88
 go_wp2_with fail
 go_loopw [3,11] (fun s3 s11 wr=>∃ n:Nat,s11=.int .i64 n∧n≤ds.length∧wr.ownsRow w.heap.size 146 4 s3 (M.chP ds n).length ((M.chP ds n).map M.c4).flatten∧Below w.heap.size w wr) (fun _ s11 _=>ds.length - (intOf s11).toNat)
 case atStart=>exact ⟨0,rfl,Nat.zero_le _,World.ownsRow_nil _ _ _ _,Below.refl _ _⟩
 case round =>
  obtain ⟨n,rfl,hn,hown,hbel⟩:=hrel
  have hbs:=hbel.size
  by_cases hlt:n < ds.length
  ·obtain ⟨rfl⟩:=h.addr (by omega)
   have hx:=DeS.at (h.bel hbel (Nat.le_refl _)) hlt
   have HX:Hid (ds[n]?=some ds[n]):=List.getElem?_eq_getElem hlt
   have HC:Hid (M.chP ds (n+1)=M.chP ds n++(if M.waitsAt ds n then M.choicesAt ds n else [])):=M.chP_succ ds n
   have hcl:=M.chP_len ds n
   have hcl2:(M.chP ds n).length≤784:=Nat.le_trans hcl (Nat.mul_le_mul (show n≤28 by omega) hl)
   clear hcl
   generalize ds[n]=x at *
   generalize M.chP ds n=L at *
   have HW:Hid (M.waitsAt ds n=(x.d.k==9&&!x.last)):=M.waitsAt_of HX.out
   obtain ⟨c0,c1,c2,c3,c4,c5,c6⟩:=hx
   have i1:(n:Int) < ds.length:=by omega
   by_cases hk:x.d.k=9
   ·have hk':(x.d.k != 9)=false:=by simp [hk]
    cases hla:x.last
    ·-- who waits
     have HC2:Hid (M.chP ds (n+1)=L++M.chQ ds n ds.length):=by show _=_;rw [HC.out,HW.out,hk,hla];rfl
     rw [hla] at c2
     clear HC HW HX hk hla
     go_wp2_with fail
     have bA:=hbel.alloc hbel.size (.cells #[.int .i64 (x.t:Int),.int .i64 (x.i:Int),.bool false,.int .i64 x.d.k,.int .i64 x.d.p,.int .i64 x.d.v,.int .i64 x.lr] 96)
     have hownA:=hown.alloc (.cells #[.int .i64 (x.t:Int),.int .i64 (x.i:Int),.bool false,.int .i64 x.d.k,.int .i64 x.d.p,.int .i64 x.d.v,.int .i64 x.lr] 96)
     generalize wr.alloc (.cells #[.int .i64 (x.t:Int),.int .i64 (x.i:Int),.bool false,.int .i64 x.d.k,.int .i64 x.d.p,.int .i64 x.d.v,.int .i64 x.lr] 96)=WA at *
     clear hown hbel c0 c1 c2 c3 c4 c5 c6
     go_loopw [3,29] (fun s3 s29 wi=>∃ m:Nat,s29=.int .i64 m∧m≤ds.length∧wi.ownsRow w.heap.size 146 4 s3 (L++M.chQ ds n m).length ((L++M.chQ ds n m).map M.c4).flatten∧Below w.heap.size w wi) (fun _ s29 _=>ds.length - (intOf s29).toNat)
     case atStart=>exact ⟨0,rfl,Nat.zero_le _,by rw [show M.chQ ds n 0=[] from rfl,List.append_nil];exact hownA,bA⟩
     case round =>
      obtain ⟨m,rfl,hm,hown,hbi⟩:=hrel
      clear hownA bA
      have hbs:=hbi.size
      by_cases hmt:m < ds.length
      ·have hy:=DeS.at (h.bel hbi (Nat.le_refl _)) hmt
       have HK:Hid (M.kAt ds m=ds[m].d.k):=M.kAt_of (List.getElem?_eq_getElem hmt)
       have HQ:Hid (M.chQ ds n (m+1)=M.chQ ds n m++(if M.kAt ds m==7 then [((M.outOf ds m,n+1),(n,m))] else [])):=M.chQ_succ ds n m
       have HO:ds[m].d.k=7→∃ q,m≤q∧∃ hq:q < ds.length,ds[q].d.k=8:=fun h7=>by
        obtain ⟨q,h1,h2,h3⟩:=M.has_out hrun hmt h7
        exact ⟨q,by omega,h2,h3⟩
       have hql:=M.chQ_len ds n m
       have hql2:(L++M.chQ ds n m).length≤900:=by rw [List.length_append];omega
       clear hql
       obtain ⟨d0,d1,d2,d3,d4,d5,d6⟩:=hy
       generalize ds[m]=y at *
       have j1:(m:Int) < ds.length:=by omega
       by_cases h7:y.d.k=7
       ·have h7':(y.d.k==7)=true:=by simp [h7]
        have HQ2:Hid (L++M.chQ ds n (m+1)=(L++M.chQ ds n m)++[((M.outOf ds m,n+1),(n,m))]):=by show _=_;rw [HQ.out,HK.out,h7',if_pos rfl,List.append_assoc]
        have bB:=below1 wr (.cells #[.int .i64 (y.t:Int),.int .i64 (y.i:Int),.bool y.last,.int .i64 y.d.k,.int .i64 y.d.p,.int .i64 y.d.v,.int .i64 y.lr] 96)
        have CO:=outOf_any g c ds m (wr.alloc (.cells #[.int .i64 (y.t:Int),.int .i64 (y.i:Int),.bool y.last,.int .i64 y.d.k,.int .i64 y.d.p,.int .i64 y.d.v,.int .i64 y.lr] 96)) (by omega) (HO h7) ((h.bel hbi (Nat.le_refl _)).bel bB (Nat.le_refl _))
        have hownB:=ownsRow_below hown bB
        have bwB:=hbi.trans (bB.mono hbi.size)
        have hbsB:=bwB.size
        generalize L++M.chQ ds n m=LL at *
        generalize M.outOf ds m=O at *
        clear HQ HK HO h7 hown bB
        go_wp2_with fail
        generalize wr.alloc (.cells #[.int .i64 (y.t:Int),.int .i64 (y.i:Int),.bool y.last,.int .i64 y.d.k,.int .i64 y.d.p,.int .i64 y.d.v,.int .i64 y.lr] 96)=WB at *
        refine CO.mono ?_
        rintro e w1 ⟨rfl,rfl⟩
        go_wp2_with (at_builtin;refine wpList_append_own _ rfl (.tmp 38) (.tmp 48) 141 rfl _ 146 i0 _ 4 32 Tryz.underlying141 hi hz0 hz1 hz2 rfl (by decide) _ _ _ rfl (hownB.alloc _) ⟨w1.heap.size,0,none⟩ 1 1 [.int .i64 O,.int .i64 ((n:Int)+1),.int .i64 n,.int .i64 m] rfl rfl (cells_new4 _ _ _ _ _ _ _ (by simp)) (one4 _ _ _ _) (by unfold maxLen;omega) (by omega) (by simp;omega) ?_)
        intro v4 W4 hown4 hg4 _
        have hge:=own_ge hownB
        have bw4:Below w.heap.size w W4:=below_grown (bwB.alloc bwB.size _) hg4 hge (by simp;omega)
        have hown5:W4.ownsRow w.heap.size 146 4 v4 (LL++[((O,n+1),(n,m))]).length ((LL++[((O,n+1),(n,m))]).map M.c4).flatten:=own_moreC (by simpa using hown4)
        clear hown4 hg4 hownB
        go_wp2_with fail
        exact ⟨⟨m+1,by go_num,by omega,by rw [HQ2.out];exact hown5,bw4⟩,by simp [intOf];omega⟩
       ·have h7':(y.d.k==7)=false:=by simpa using h7
        have HQ2:Hid (L++M.chQ ds n (m+1)=L++M.chQ ds n m):=by show _=_;rw [HQ.out,HK.out,h7'];simp
        clear HQ HK HO h7
        go_wp2_with fail
        exact ⟨⟨m+1,by go_num,by omega,by rw [HQ2.out];exact ownsRow_below hown (below1 _ _),hbi.alloc hbi.size _⟩,by simp [intOf];omega⟩
      ·obtain rfl:m=ds.length:=by omega
       go_wp2_with fail
       exact ⟨⟨n+1,by go_num,by omega,by rw [HC2.out];exact hown,hbi⟩,by simp [intOf];omega⟩
    ·have HC2:Hid (M.chP ds (n+1)=L):=by show _=_;rw [HC.out,HW.out,hk,hla];simp
     rw [hla] at c2
     clear HC HW HX hk hla
     go_wp2_with fail
     exact ⟨⟨n+1,by go_num,by omega,by rw [HC2.out];exact ownsRow_below hown (below1 _ _),hbel.alloc hbel.size _⟩,by simp [intOf];omega⟩
   ·have hk':(x.d.k != 9)=true:=by simpa using hk
    have hk2:(x.d.k==9)=false:=by simpa using hk
    have HC2:Hid (M.chP ds (n+1)=L):=by show _=_;rw [HC.out,HW.out,hk2];simp
    clear HC HW HX hk hk2
    go_wp2_with fail
    exact ⟨⟨n+1,by go_num,by omega,by rw [HC2.out];exact ownsRow_below hown (below1 _ _),hbel.alloc hbel.size _⟩,by simp [intOf];omega⟩
  ·obtain rfl:n=ds.length:=by omega
   rw [M.chP_all] at hown
   obtain ⟨va',g',c',rfl,hC,hcg,hcc⟩:=own_ch hown
   go_wp2_with fail
   go_ret
   exact ⟨va',g',c',rfl,hC,hcg,hcc,hbel⟩
end
section
open Go.RowKit
def M.pickW (N:Nat→Nat) (c:M.Ch) (cs:List M.Ch):M.Lk:=if M.mayW N c.1&&M.chooseW (cs.length+1) (M.addW N c.1) cs then c.1 else c.2
theorem wpList_load_midG {P:Program} {ops:Array Oper} {rest:List Oper} {op:Oper} {a:Act} {w:World} {Q:Exit→Act→World→Prop} (hw:Region.wanted op (yielded ops a.tmps)=true) (ty:TypeId) (x:Operand) (ho:op.op=.load ty x)
  (b o:Nat) (hx:a.eval x=.pointer (some ⟨b,o,none⟩)) (cs:List Value) (d:TypeDesc) (hc:w.rangeAt b o cs)
  (hu:P.underlying ty=some d) (hd:d.isRow=true) (hi:(P.info? ty).map (·.size)=some cs.length)
  (h:wpList P ops Q rest (a.put op.dst (.agg cs.toArray)) w):wpList P ops Q (op::rest) a w :=
 wpList_step fun _ hK=>by rw [if_pos hw];exact wp_load_mid ty x ho b o hx cs d hc hu hd hi (hK _ _ h)
theorem cell2 {w:World} {b:Nat} {x y u v:Value} (h0:w.cell? ⟨b,0,none⟩=some x) (h1:w.cell? ⟨b,1,none⟩=some y):((w.setCell ⟨b,0,none⟩ u).setCell ⟨b,1,none⟩ v).cell? ⟨b,0,none⟩=some u∧((w.setCell ⟨b,0,none⟩ u).setCell ⟨b,1,none⟩ v).cell? ⟨b,1,none⟩=some v :=
 ⟨(World.cell?_setCell_other _ _ _ _ (fun e=>by have:=congrArg Addr.off e;simp at this)).trans (World.cell?_setCell_same _ _ _ h0),World.cell?_setCell_same _ _ _ ((World.cell?_setCell_other _ _ _ _ (fun e=>by have:=congrArg Addr.off e;simp at this)).trans h1)⟩
set_option maxHeartbeats 2000000 in
set_option maxRecDepth 100000 in
theorem chooseL_any (N:Nat→Nat) (ch:M.Ch) (cs:List M.Ch) (va:Option Addr) (g o c:Nat) (w:World) (hl:cs.length≤1048576) (hlow:∀ c∈cs,M.Low 28 c) (hc:M.Low 28 ch) (hN:∀ a,N a < 4294967296) (hC:ChS w va g o cs) :
  Calls Tryz.prog 90 #[.agg (btA N),.agg #[.int .i64 ch.1.1,.int .i64 ch.1.2,.int .i64 ch.2.1,.int .i64 ch.2.2],.slice va cs.length c] w fun e w'=>e=.returned (.agg #[.int .i64 (M.pickW N ch cs).1,.int .i64 (M.pickW N ch cs).2])∧Below w.heap.size w w':=by
 obtain ⟨⟨p1,p2⟩,q1,q2⟩:=ch
 obtain ⟨⟨l1,l2⟩,l3,l4⟩:=hc
 simp only at l1 l2 l3 l4 ⊢
 have b3:=below3 w (.cells (btA N) 82) (.cells #[.int .i64 p1,.int .i64 p2,.int .i64 q1,.int .i64 q2] 146) (.cells #[.int .i64 0,.int .i64 0] 144)
 have B0:Bt (((w.alloc (.cells (btA N) 82)).alloc (.cells #[.int .i64 p1,.int .i64 p2,.int .i64 q1,.int .i64 q2] 146)).alloc (.cells #[.int .i64 0,.int .i64 0] 144)) w.heap.size N:=((Bt.of_block (t:=82) (heap_alloc_new w _) hN).below (below1 _ _)).below (below1 _ _)
 have kc:∀ i v,(#[Value.int .i64 (p1:Int),.int .i64 p2,.int .i64 q1,.int .i64 q2]:Array Value)[i]?=some v→(((w.alloc (.cells (btA N) 82)).alloc (.cells #[.int .i64 p1,.int .i64 p2,.int .i64 q1,.int .i64 q2] 146)).alloc (.cells #[.int .i64 0,.int .i64 0] 144)).cell? ⟨w.heap.size+1,i,none⟩=some v:=fun i v hv=>by
  have h1:((w.alloc (.cells (btA N) 82)).alloc (.cells #[.int .i64 p1,.int .i64 p2,.int .i64 q1,.int .i64 q2] 146)).cell? ⟨w.heap.size+1,i,none⟩=some v:=by
   rw [cell_of_row _ _ _ _ _ _ (alloc_new _ _ _ (by simp))];exact hv
  exact ((below1 _ _).cell (p:=⟨w.heap.size+1,i,none⟩) (by simp)).trans h1
 have c0:=kc 0 _ rfl
 have c1:=kc 1 _ rfl
 have c2:=kc 2 _ rfl
 have c3:=kc 3 _ rfl
 have r0:(((w.alloc (.cells (btA N) 82)).alloc (.cells #[.int .i64 p1,.int .i64 p2,.int .i64 q1,.int .i64 q2] 146)).alloc (.cells #[.int .i64 0,.int .i64 0] 144)).heap[w.heap.size+1+1]?=some (.cells #[.int .i64 0,.int .i64 0] 144 (0,0)):=alloc_new _ _ _ (by simp)
 have hC3:=hC.below b3
 have HP:Hid (M.pickW N ((p1,p2),q1,q2) cs=if M.mayW N (p1,p2)&&M.chooseW (cs.length+1) (M.addW N (p1,p2)) cs then (p1,p2) else (q1,q2)):=rfl
 go_enter Tryz.func90,Tryz.ntmps90
 go_wp2_with fail
 generalize ((w.alloc (.cells (btA N) 82)).alloc (.cells #[.int .i64 p1,.int .i64 p2,.int .i64 q1,.int .i64 q2] 146)).alloc (.cells #[.int .i64 0,.int .i64 0] 144)=W at *
 have CM:=mayAdd_any w.heap.size N (p1,p2) W l1 l2 B0
 obtain ⟨m,hm⟩:∃ m,M.mayW N (p1,p2)=m:=⟨_,rfl⟩
 have hm':(!(N (p1,p2).2).testBit (p1,p2).1)=m:=hm
 rw [hm'] at CM
 rw [hm] at HP
 clear hm hm'
 have k4:w.heap.size+1 < W.heap.size:=World.block_lt_of_cell? _ _ c0
 have k5:w.heap.size+1+1 < W.heap.size:=(Array.getElem?_eq_some_iff.1 r0).1
 have res2:∀ (W':World) (u v:Value),W'.heap[w.heap.size+1+1]?=some (.cells #[.int .i64 0,.int .i64 0] 144 (0,0))→W'.cell? ⟨w.heap.size+1+1,0,none⟩=some (.int .i64 0)∧W'.cell? ⟨w.heap.size+1+1,1,none⟩=some (.int .i64 0)∧∀ i,W'.frozen? ⟨w.heap.size+1+1,i,none⟩=false:=fun W' u v h=>⟨by simp [World.cell?,h],by simp [World.cell?,h],fun i=>by simp [World.frozen?,h]⟩
 clear kc
 refine CM.mono ?_
 rintro e W1 ⟨rfl,b1⟩
 have bw1:=b3.trans (b1.mono b3.size)
 have hC1:=hC3.below b1
 have B1:=B0.below b1
 have r1:=(b1.block _ k5).trans r0
 have d0:=(b1.cell (p:=⟨w.heap.size+1,0,none⟩) k4).trans c0
 have d1:=(b1.cell (p:=⟨w.heap.size+1,1,none⟩) k4).trans c1
 have d2:=(b1.cell (p:=⟨w.heap.size+1,2,none⟩) k4).trans c2
 have d3:=(b1.cell (p:=⟨w.heap.size+1,3,none⟩) k4).trans c3
 clear CM b1 b3 hC3 B0 r0 c0 c1 c2 c3
 cases m
 case true =>
  have hi2:(Tryz.prog.info? 82).map (·.size)=some (btA N).toList.length:=by rw [Tryz.infoSets];simp [btA]
  have hr:=B1.range
  have CW:=fun W=>with_any N (p1,p2) W hN l1 l2
  have hA1:∀ i,M.addW N (p1,p2) i < 4294967296:=M.addW_lt (k:=32) hN (by omega)
  have HM:Hid (M.pickW N ((p1,p2),q1,q2) cs=if M.chooseW (cs.length+1) (M.addW N (p1,p2)) cs then (p1,p2) else (q1,q2)):=by
   show _=_
   rw [HP.out];rfl
  have CC:=fun (W2:World) (h:ChS W2 va g o cs)=>canChoose_any (cs.length+1) cs (M.addW N (p1,p2)) va g o c W2 (by omega) hl hlow hA1 h
  have hbA:Hid ((btA N).toList.toArray=btA N):=btA_list N
  clear HP
  generalize hAe:btA N=A at *
  go_wp2_with (refine wpList_load_midG rfl 82 (.tmp 3) rfl w.heap.size 0 rfl A.toList _ hr Tryz.undSets rfl hi2 ?_)
  refine (CW _).mono ?_
  rintro e W2 ⟨rfl,b2⟩
  have bw2:=bw1.trans (b2.mono bw1.size)
  have k41:=World.block_lt_of_cell? _ _ d0
  have k51:=(Array.getElem?_eq_some_iff.1 r1).1
  have r2:=(b2.block _ k51).trans r1
  have f0:=(b2.cell (p:=⟨w.heap.size+1,0,none⟩) k41).trans d0
  have f1:=(b2.cell (p:=⟨w.heap.size+1,1,none⟩) k41).trans d1
  have f2:=(b2.cell (p:=⟨w.heap.size+1,2,none⟩) k41).trans d2
  have f3:=(b2.cell (p:=⟨w.heap.size+1,3,none⟩) k41).trans d3
  have CC':=CC W2 (hC1.below b2)
  clear CW CC b2 hC1 r1 d0 d1 d2 d3 hr
  go_wp2_with fail
  refine CC'.mono ?_
  rintro e W3 ⟨rfl,b3⟩
  have bw3:=bw2.trans (b3.mono bw2.size)
  have r3:=(b3.block _ (Array.getElem?_eq_some_iff.1 r2).1).trans r2
  have k42:=World.block_lt_of_cell? _ _ f0
  have e0:=(b3.cell (p:=⟨w.heap.size+1,0,none⟩) k42).trans f0
  have e1:=(b3.cell (p:=⟨w.heap.size+1,1,none⟩) k42).trans f1
  have e2:=(b3.cell (p:=⟨w.heap.size+1,2,none⟩) k42).trans f2
  have e3:=(b3.cell (p:=⟨w.heap.size+1,3,none⟩) k42).trans f3
  obtain ⟨x0,x1,xf⟩:=res2 W3 undef undef r3
  clear f0 f1 f2 f3 b3 CC' r2 r3
  have HM2:∀ b,M.chooseW (cs.length+1) (M.addW N (p1,p2)) cs=b→M.pickW N ((p1,p2),q1,q2) cs=if b then (p1,p2) else (q1,q2):=fun b hb=>by rw [HM.out,hb]
  cases hch:M.chooseW (cs.length+1) (M.addW N (p1,p2)) cs
  ·have HE:Hid (M.pickW N ((p1,p2),q1,q2) cs=(q1,q2)):=HM2 _ hch
   clear hch HM HM2
   go_wp2_with fail
   obtain ⟨G0,G1⟩:=cell2 (u:=.int .i64 q1) (v:=.int .i64 q2) x0 x1
   refine bodyPost_ret (v:=.agg #[.int .i64 q1,.int .i64 q2]) (by simp [results,Tryz.results90,go_sem,G0,G1]) rfl ⟨by rw [HE.out],?_⟩
   exact (bw3.setCell (p:=⟨w.heap.size+1+1,0,none⟩) (by show w.heap.size≤w.heap.size+1+1;omega) _).setCell (p:=⟨w.heap.size+1+1,1,none⟩) (by show w.heap.size≤w.heap.size+1+1;omega) _
  ·have HE:Hid (M.pickW N ((p1,p2),q1,q2) cs=(p1,p2)):=HM2 _ hch
   clear hch HM HM2
   go_wp2_with fail
   obtain ⟨G0,G1⟩:=cell2 (u:=.int .i64 p1) (v:=.int .i64 p2) x0 x1
   refine bodyPost_ret (v:=.agg #[.int .i64 p1,.int .i64 p2]) (by simp [results,Tryz.results90,go_sem,G0,G1]) rfl ⟨by rw [HE.out],?_⟩
   exact (bw3.setCell (p:=⟨w.heap.size+1+1,0,none⟩) (by show w.heap.size≤w.heap.size+1+1;omega) _).setCell (p:=⟨w.heap.size+1+1,1,none⟩) (by show w.heap.size≤w.heap.size+1+1;omega) _
 case false =>
  have HE:Hid (M.pickW N ((p1,p2),q1,q2) cs=(q1,q2)):=by
   show _=_
   rw [HP.out];rfl
  obtain ⟨x0,x1,xf⟩:=res2 W1 undef undef r1
  clear HP r1
  go_wp2_with fail
  obtain ⟨G0,G1⟩:=cell2 (u:=.int .i64 q1) (v:=.int .i64 q2) x0 x1
  refine bodyPost_ret (v:=.agg #[.int .i64 q1,.int .i64 q2]) (by simp [results,Tryz.results90,go_sem,G0,G1]) rfl ⟨by rw [HE.out],?_⟩
  exact (bw1.setCell (p:=⟨w.heap.size+1+1,0,none⟩) (by show w.heap.size≤w.heap.size+1+1;omega) _).setCell (p:=⟨w.heap.size+1+1,1,none⟩) (by show w.heap.size≤w.heap.size+1+1;omega) _
end
section
open Go.RowKit
def M.chosenW:(Nat→Nat)→List M.Ch→(Nat→Nat)
 | N,[]=>N
 | N,c::cs=>M.chosenW (M.addW N (M.pickW N c cs)) cs
theorem M.pickW_low {N:Nat→Nat} {c:M.Ch} {cs:List M.Ch} (h:M.Low 28 c):(M.pickW N c cs).1 < 28∧(M.pickW N c cs).2 < 28:=by
 obtain ⟨⟨a,b⟩,d,e⟩:=h
 unfold M.pickW
 split
 ·exact ⟨a,b⟩
 ·exact ⟨d,e⟩
theorem M.chosenW_lt:∀ (cs:List M.Ch) (N:Nat→Nat),(∀ i,N i < 4294967296)→(∀ c∈cs,M.Low 28 c)→∀ i,M.chosenW N cs i < 4294967296
 | [],_,h,_=>h
 | c::cs,N,h,hl=>M.chosenW_lt cs _ (M.addW_lt (k:=32) h (by have:=(M.pickW_low (N:=N) (cs:=cs) (hl c (by simp))).2;omega)) (fun x hx=>hl x (List.mem_cons_of_mem _ hx))
set_option maxHeartbeats 2000000 in
set_option maxRecDepth 100000 in
set_option linter.unusedSimpArgs false in
theorem chosen_of (k:Nat) (Nk:Nat→Nat) (hk:∀ i,Nk i < 4294967296)
  (va:Option Addr) (g c:Nat) (ds:List M.De) (fa:Option Addr) (fb fo fc:Nat) (l:List Int) (ra:Option Addr) (rb ro rc:Nat) (rows:List (List Int)) (w:World) (h:Wy w va g c ds fa fb fo fc l ra rb ro rc rows)
  (hlow:∀ c∈M.choices ds,M.Low 28 c)
  (hAk:∀ w,Wy w va g c ds fa fb fo fc l ra rb ro rc rows→Calls Tryz.prog 87 #[.agg #[.slice va ds.length c,.slice fa l.length fc,.slice ra rows.length rc],.int .i64 k] w fun e w'=>e=.returned (.agg (btA Nk))∧Below w.heap.size w w') :
  Calls Tryz.prog 40 #[.agg #[.slice va ds.length c,.slice fa l.length fc,.slice ra rows.length rc],.int .i64 k] w fun e w'=>e=.returned (.agg (btA (M.chosenW Nk (M.choices ds))))∧Below w.heap.size w w':=by
 have hz:btA (fun _=>0)=#[.int .u32 0,.int .u32 0,.int .u32 0,.int .u32 0,.int .u32 0,.int .u32 0,.int .u32 0,.int .u32 0,.int .u32 0,.int .u32 0,.int .u32 0,.int .u32 0,.int .u32 0,.int .u32 0,.int .u32 0,.int .u32 0,.int .u32 0,.int .u32 0,.int .u32 0,.int .u32 0,.int .u32 0,.int .u32 0,.int .u32 0,.int .u32 0,.int .u32 0,.int .u32 0,.int .u32 0,.int .u32 0]:=by rfl
 have b2:=below2 w (.cells #[.slice va ds.length c,.slice fa l.length fc,.slice ra rows.length rc] 78) (.cells (btA fun _=>0) 82)
 have BR:Bt ((w.alloc (.cells #[.slice va ds.length c,.slice fa l.length fc,.slice ra rows.length rc] 78)).alloc (.cells (btA fun _=>0) 82)) (w.heap.size+1) (fun _=>0):=Bt.of_block (t:=82) (alloc_new _ _ _ (by simp)) (fun _=>by decide)
 have k0:((w.alloc (.cells #[.slice va ds.length c,.slice fa l.length fc,.slice ra rows.length rc] 78)).alloc (.cells (btA fun _=>0) 82)).cell? ⟨w.heap.size,0,none⟩=some (.slice va ds.length c):=cellJ (below1 _ _) (by simp)
 have k1:((w.alloc (.cells #[.slice va ds.length c,.slice fa l.length fc,.slice ra rows.length rc] 78)).alloc (.cells (btA fun _=>0) 82)).cell? ⟨w.heap.size,1,none⟩=some (.slice fa l.length fc):=cellJ (below1 _ _) (by simp)
 have k2:((w.alloc (.cells #[.slice va ds.length c,.slice fa l.length fc,.slice ra rows.length rc] 78)).alloc (.cells (btA fun _=>0) 82)).cell? ⟨w.heap.size,2,none⟩=some (.slice ra rows.length rc):=cellJ (below1 _ _) (by simp)
 have hWA:=h.below b2 (Nat.le_refl _)
 have hdl:=h.dl
 have hrun:=h.run
 go_enter Tryz.func40,Tryz.ntmps40
 go_wp2_with fail
 rw [← hz]
 generalize (w.alloc (.cells #[.slice va ds.length c,.slice fa l.length fc,.slice ra rows.length rc] 78)).alloc (.cells (btA fun _=>0) 82)=W0 at *
 refine (hAk _ hWA).mono ?_
 rintro e w1 ⟨rfl,b1⟩
 have bw1:=b2.trans (b1.mono b2.size)
 have hWy1:=hWA.below b1 (Nat.le_refl _)
 have BZ:Bt (w1.alloc (.cells (btA fun _=>0) 82)) w1.heap.size (fun _=>0):=Bt.of_block (t:=82) (heap_alloc_new w1 _) (fun _=>by decide)
 have bz1:=bw1.trans ((below1 w1 (.cells (btA fun _=>0) 82)).mono bw1.size)
 have hi2:∀ N,(Tryz.prog.info? 82).map (·.size)=some (btA N).toList.length:=fun N=>by rw [Tryz.infoSets];simp [btA]
 have hi3:∀ N,(Tryz.prog.info? 82).map (·.size)=some (btA N).size:=fun N=>by rw [Tryz.infoSets];simp [btA]
 have hth:(w1.alloc (.cells (btA fun _=>0) 82)).there w1.heap.size 0 (btA Nk).size:=by
  have:(btA Nk).size=28:=by simp [btA]
  rw [this];exact BZ.there
 have BF:=BZ.stored hk
 have bF:Below w.heap.size w ((w1.alloc (.cells (btA fun _=>0) 82)).setCells w1.heap.size 0 (btA Nk).toList):=Below.setCells (by have:=bw1.size;omega) _ _ _ bz1
 have bF1:Below w1.heap.size w1 ((w1.alloc (.cells (btA fun _=>0) 82)).setCells w1.heap.size 0 (btA Nk).toList):=Below.setCells (Nat.le_refl _) _ _ _ (below1 w1 _)
 have hWF:=hWy1.below bF1 (Nat.le_refl _)
 have BRF:=(BR.below b1).below bF1
 have m0:=cellJ bF1 (cellJ b1 k0)
 have hszF:w1.heap.size < ((w1.alloc (.cells (btA fun _=>0) 82)).setCells w1.heap.size 0 (btA Nk).toList).heap.size:=BF.lt_
 have hw1:=bw1.size
 have hrs:=(BR.below b1).lt_
 rw [hz] at hth BF bF hWF BRF m0 hszF
 clear BR BZ bz1 k0 k1 k2 hWA hWy1 b1 b2 bF1 hz
 have hi3k:=hi3 Nk
 have hone:=btA_one Nk
 clear hi2 hi3
 generalize hAe:btA Nk=A at *
 have HA:Hid (btA Nk=A):=hAe
 clear hAe
 go_wp2_with (refine wpList_store_mid rfl 82 (.tmp 5) (.tmp 11) rfl w1.heap.size 0 A rfl rfl hth hi3k hone ?_)
 generalize (w1.alloc (.cells #[Value.int .u32 0,.int .u32 0,.int .u32 0,.int .u32 0,.int .u32 0,.int .u32 0,.int .u32 0,.int .u32 0,.int .u32 0,.int .u32 0,.int .u32 0,.int .u32 0,.int .u32 0,.int .u32 0,.int .u32 0,.int .u32 0,.int .u32 0,.int .u32 0,.int .u32 0,.int .u32 0,.int .u32 0,.int .u32 0,.int .u32 0,.int .u32 0,.int .u32 0,.int .u32 0,.int .u32 0,.int .u32 0] 82)).setCells w1.heap.size 0 A.toList=W2 at *
 clear hth hw1 hone hi3k HA
 generalize w1.heap.size=S at *
 have CWt:=waitChoicesC_any va g c ds W2 hdl hrun hWF.d
 have hcl:(M.choices ds).length≤784:=Nat.le_trans (M.chP_len ds ds.length) (Nat.mul_le_mul hdl hdl)
 generalize hCSe:M.choices ds=CS at *
 have HCS:Hid (M.choices ds=CS):=hCSe
 clear hCSe
 refine CWt.mono ?_
 rintro e w3 ⟨va',g',c',rfl,hC,hcg,hcc,b3⟩
 have BF3:=BF.below b3
 have BR3:=BRF.below b3
 have bw3:=bF.trans (b3.mono bF.size)
 have hgS:0 < CS.length→S < g':=fun hp=>by have:=hcg hp;omega
 have hRS:w.heap.size+1 < S:=by have:=hrs;omega
 clear CWt BF BRF bF hWF m0 b3 hcg
 go_wp2_with fail
 go_loopw [17] (fun s17 wr=>∃ (i:Nat) (N:Nat→Nat),s17=.int .i64 i∧i≤CS.length∧Hid (M.chosenW Nk CS=M.chosenW N (CS.drop i))∧Bt wr S N∧Bt wr (w.heap.size+1) (fun _=>0)∧ChS wr va' g' 0 CS∧Below w.heap.size w wr) (fun s17 _=>CS.length - (intOf s17).toNat)
 case atStart=>exact ⟨0,Nk,rfl,Nat.zero_le _,rfl,BF3,BR3,hC,bw3⟩
 case round =>
  clear BF3 BR3 hC bw3
  obtain ⟨i,N,rfl,hi,HC,hB,hR,hC,hb⟩:=hrel
  by_cases hlt:i < CS.length
  ·have i1:(i:Int) < CS.length:=by omega
   have hgS':=hgS (by omega)
   obtain ⟨rfl⟩:=hC.addr (by omega)
   have hat:=hC.row i hlt
   obtain ⟨d0,d1,d2,d3⟩:=hat
   rw [Nat.zero_add] at d0 d1 d2 d3
   have hD:CS.drop i=CS[i]::CS.drop (i+1):=List.drop_eq_getElem_cons hlt
   have hch:=hlow _ (List.getElem_mem hlt)
   have hlr:∀ x∈CS.drop (i+1),M.Low 28 x:=fun x hx=>hlow x (List.mem_of_mem_drop hx)
   rw [hD] at HC
   have HC2:Hid (M.chosenW Nk CS=M.chosenW (M.addW N (M.pickW N CS[i] (CS.drop (i+1)))) (CS.drop (i+1))):=HC.out
   clear HC hD
   generalize CS[i]=ch at *
   go_wp2_with fail
   obtain ⟨⟨p1,p2⟩,q1,q2⟩:=ch
   simp only at d0 d1 d2 d3 ⊢
   have bA:=below1 wr (.cells #[.int .i64 (p1:Int),.int .i64 p2,.int .i64 q1,.int .i64 q2] 146)
   have hBA:=hB.below bA
   have hCA:=hC.below bA
   have hRA:=hR.below bA
   have hbA:=hb.trans (bA.mono hb.size)
   have hST:=hB.lt_
   have T0:(wr.alloc (.cells #[.int .i64 (p1:Int),.int .i64 p2,.int .i64 q1,.int .i64 q2] 146)).heap[wr.heap.size]?=some (.cells #[.int .i64 (p1:Int),.int .i64 p2,.int .i64 q1,.int .i64 q2] 146 (0,0)):=heap_alloc_new wr _
   generalize wr.alloc (.cells #[.int .i64 (p1:Int),.int .i64 p2,.int .i64 q1,.int .i64 q2] 146)=W at *
   generalize wr.heap.size=T at *
   have hTW:T < W.heap.size:=(Array.getElem?_eq_some_iff.1 T0).1
   have KT:∀ w',W.grownBy w' (some S)→w'.cell? ⟨T,0,none⟩=some (.int .i64 p1)∧w'.cell? ⟨T,1,none⟩=some (.int .i64 p2)∧w'.cell? ⟨T,2,none⟩=some (.int .i64 q1)∧w'.cell? ⟨T,3,none⟩=some (.int .i64 q2):=fun w' h=>by
    have h1:=(h.block T hTW (fun e=>by have:=Option.some.inj e;omega)).trans T0
    exact ⟨by simp [World.cell?,h1],by simp [World.cell?,h1],by simp [World.cell?,h1],by simp [World.cell?,h1]⟩
   have hw1:IntKind.i64.wrap ((i:Int)+1)=((i+1:Nat):Int):=by rw [IntKind.wrap_i64];omega
   obtain ⟨VA,hIF⟩:∃ VA,(if c'=i+1 then (some ⟨g',0,none⟩:Option Addr) else some ⟨g',(i+1) * 4,none⟩)=VA:=⟨_,rfl⟩
   have hdl':(CS.drop (i+1)).length=CS.length - (i+1):=List.length_drop
   have l1:((i+1:Nat):Int)≤CS.length:=by omega
   have l1':i+1≤CS.length:=by omega
   have l4:(i:Int)+1≤(CS.length:Int):=by omega
   have l5:(0:Int)≤(i:Int)+1:=by omega
   have l2:¬ ((i+1:Nat):Int) < 0:=by omega
   have l3:i+1≤c':=by omega
   refine wp_region_held_drew (S:=fun w'=>W.grownBy w' (some S)) (by kernel_rfl) ⟨rfl,rfl,rfl,Nat.le_refl _,fun _ _ _=>rfl⟩ (fun hH=>?_)
   refine tk 1 23 (.agg #[.int .i64 p1,.int .i64 p2,.int .i64 q1,.int .i64 q2]) hH rfl rfl (by intro w' hSw;obtain ⟨z0,z1,z2,z3⟩:=KT w' hSw;go_simp) ?_
   simp only [Act.put,zqa,zqb,zqc]
   refine tk 2 24 (.slice (some ⟨g',0,none⟩) CS.length c') hH rfl rfl (by intro w' hSw;go_simp) ?_
   simp only [Act.put,zqa,zqb,zqc]
   refine tk 3 25 (.int .i64 i) hH rfl rfl (by intro w' hSw;go_simp) ?_
   simp only [Act.put,zqa,zqb,zqc]
   refine tk 4 26 (.int .i64 ((i+1:Nat):Int)) hH rfl rfl (by intro w' hSw;go_simp) ?_
   simp only [Act.put,zqa,zqb,zqc]
   refine tk 5 27 (.slice VA (CS.length - (i+1)) (c' - (i+1))) hH rfl rfl (by intro w' hSw;go_simp) ?_
   simp only [Act.put,zqa,zqb,zqc]
   have hrg:W.drew.rangeAt S 0 (btA N).toList:=hBA.range
   have hi2N:(Tryz.prog.info? 82).map (·.size)=some (btA N).toList.length:=by rw [Tryz.infoSets];simp [btA]
   have hTl:ChS W VA g' ((i+1) * 4) (CS.drop (i+1)):=⟨fun hp=>by rw [← hIF,if_neg (by rw [hdl'] at hp;omega)],fun j hj=>by
    have h1:=hCA.row (i+1+j) (by rw [hdl'] at hj;omega)
    rw [show 0+(i+1+j) * 4=(i+1) * 4+j * 4 from by omega] at h1
    rwa [List.getElem_drop]⟩
   have hN':=hBA.lt
   have CC:=chooseL_any N ((p1,p2),q1,q2) (CS.drop (i+1)) VA g' ((i+1) * 4) (c' - (i+1)) W.drew (by rw [hdl'];omega) hlr hch hN' (hTl.below (Below.refl _ _).drew)
   have hpl:=M.pickW_low (N:=N) (cs:=CS.drop (i+1)) hch
   rw [hdl'] at CC
   simp only at CC
   generalize M.pickW N ((p1,p2),q1,q2) (CS.drop (i+1))=lk at *
   have CA:=fun (W':World) (h:Bt W' S N)=>add_any S N lk W' hpl.1 hpl.2 h
   generalize btA N=AN at *
   refine ry 0 rfl (fun K' hK=>?_)
   rw [if_pos (by rfl)]
   refine wp_load_mid 82 (.tmp 5) rfl S 0 rfl AN.toList _ hrg Tryz.undSets rfl hi2N ?_
   rw [Array.toArray_toList]
   refine hK.out _ _ hH (fun hH=>?_)
   clear hK K'
   simp only [Act.put,zqa,zqb,zqc]
   refine ry 6 rfl (fun K' hK=>?_)
   refine sg 28 rfl 90 #[.tmp 22,.tmp 23,.tmp 27] rfl #[.agg AN,.agg #[.int .i64 p1,.int .i64 p2,.int .i64 q1,.int .i64 q2],.slice VA (CS.length - (i+1)) (c' - (i+1))] (enters_of Tryz.func90 (by kernel_rfl) rfl) CC ?_
   rintro e W5 ⟨rfl,b5⟩
   have hH5:=grown_then' hH b5
   refine ⟨_,rfl,hK.out _ _ hH5 (fun hH5=>?_)⟩
   clear hK K'
   simp only [Act.put,zqa,zqb,zqc]
   have b5':Below W.heap.size W W5:=(Below.refl _ _).drew.trans b5
   refine ry 7 rfl (fun K' hK=>?_)
   refine sg 29 rfl 89 #[.tmp 5,.tmp 28] rfl #[.pointer (some ⟨S,0,none⟩),.agg #[.int .i64 lk.1,.int .i64 lk.2]] (enters_of Tryz.func89 (by kernel_rfl) rfl) (CA W5 (hBA.below b5')) ?_
   rintro e W6 ⟨rfl,hB6,hg6⟩
   refine ⟨_,rfl,hK.out _ _ (grown_trans' hH5 hg6) (fun hH6=>?_)⟩
   clear hK K'
   simp only [Act.put,zqa,zqb,zqc]
   refine wpAnyH_done (by kernel_rfl) ?_ _
   have hR6:=(hRA.below b5').grown hg6 (fun e=>by have:=Option.some.inj e;omega)
   have hC6:=(hCA.below b5').grown hg6 (fun _ e=>by have:=Option.some.inj e;omega)
   have hb5:=hbA.trans (b5'.mono hbA.size)
   have hb6:Below w.heap.size w W6:=below_grown hb5 hg6 (fun k hk=>by have:S=k:=Option.some.inj hk;omega) hb5.size
   clear CC CA KT hrg hi2N hTl hH hH5 hH6 hBA hCA hRA hbA b5 b5' hg6
   go_wp2_with fail
   exact ⟨⟨i+1,M.addW N lk,by go_num,by omega,HC2,hB6,hR6,hC6,hb6⟩,by simp [intOf];omega⟩
  ·obtain rfl:i=CS.length:=by omega
   have HF:Hid (M.chosenW Nk CS=N):=by show _=_;rw [HC.out,List.drop_length];rfl
   have hN:=hB.lt
   have hr:=hB.range
   have hi2:(Tryz.prog.info? 82).map (·.size)=some (btA N).toList.length:=by rw [Tryz.infoSets];simp [btA]
   have hi3:(Tryz.prog.info? 82).map (·.size)=some (btA N).toList.toArray.size:=by rw [Tryz.infoSets];simp [btA]
   have hone:(btA N).toList.toArray.all (·.oneCell')=true:=by simpa using btA_one N
   have hth:wr.there (w.heap.size+1) 0 (btA N).toList.toArray.size:=by
    have:(btA N).toList.toArray.size=28:=by simp [btA]
    rw [this];exact hR.there
   have hrF:=(hR.stored hN).range
   have bF:Below w.heap.size w (wr.setCells (w.heap.size+1) 0 (btA N).toList):=Below.setCells (by omega) _ _ _ hb
   have HG:Hid (btA (M.chosenW Nk (M.choices ds))=btA N):=by show _=_;rw [HCS.out,HF.out]
   clear HC hC hB hR hb HF hlow HCS
   generalize btA N=A' at *
   go_wp2_with (first | (refine wpList_load_mid rfl 82 (.tmp 5) rfl S 0 rfl A'.toList _ hr Tryz.undSets rfl hi2 ?_) | (refine wpList_store_mid rfl 82 (.tmp 4) (.tmp 31) rfl (w.heap.size+1) 0 A'.toList.toArray rfl rfl hth hi3 hone ?_))
   refine bodyPost_ret (v:=.agg A') ?_ rfl ⟨by rw [HG.out],bF⟩
   have:=fun t ht=>results_cell_mid Tryz.results40 t _ (w.heap.size+1) 0 A'.toList _ ht hrF Tryz.undSets rfl hi2
   rw [Array.toArray_toList] at this
   exact this _ (by simp [Act.put])
end
section
open Go.RowKit
def M.anyN (N:Nat→Nat) (s b:Nat):Bool:=(List.range 28).any fun a=>s.testBit a&&(N a).testBit b
theorem M.any_hit {N:Nat→Nat} {s b k:Nat} (hk:k < 28) (h1:s.testBit k=true) (h2:(N k).testBit b=true):M.anyN N s b=true:=by
 unfold M.anyN
 rw [List.any_eq_true]
 exact ⟨k,List.mem_range.2 hk,by rw [h1,h2];rfl⟩
theorem M.any_fin {N:Nat→Nat} {s b:Nat} (h:∀ k,k < 28→(s.testBit k&&(N k).testBit b)=false):M.anyN N s b=false:=by
 unfold M.anyN
 rw [List.any_eq_false]
 intro k hk
 rw [h k (List.mem_range.1 hk)]
 simp
set_option maxHeartbeats 1000000 in
set_option maxRecDepth 100000 in
theorem anyAhead_any (N:Nat→Nat) (s b:Nat) (w:World) (hN:∀ i,N i < 4294967296) (hs:s < 4294967296) (hb:b < 28) :
  Calls Tryz.prog 92 #[.agg (btA N),.int .u32 s,.int .i64 b] w fun e w'=>e=.returned (.bool (M.anyN N s b))∧Below w.heap.size w w':=by
 have hB:=Bt.of_block (t:=82) (heap_alloc_new w (.cells (btA N) 82)) hN
 have hb1:=below1 w (.cells (btA N) 82)
 obtain ⟨dS,hd1,hd2⟩:=Tryz.undSet
 have hsz:=btA_size N
 have hr:=hB.range
 have hi2:(Tryz.prog.info? 82).map (·.size)=some (btA N).toList.length:=by rw [Tryz.infoSets];simp [btA]
 have hget:=btA_get N
 generalize btA N=A at *
 go_enter Tryz.func92,Tryz.ntmps92
 go_wp2_with (refine wpList_load_mid rfl 82 (.tmp 3) rfl w.heap.size 0 rfl A.toList _ hr Tryz.undSets rfl hi2 ?_)
 go_loopw [10] (fun s10 wr=>∃ k:Nat,s10=.int .i64 k∧k≤28∧Hid (∀ j,j < k→(s.testBit j&&(N j).testBit b)=false)∧wr=w.alloc (.cells A 82)) (fun s10 _=>28 - (intOf s10).toNat)
 case atStart=>exact ⟨0,rfl,by omega,fun j hj=>absurd hj (Nat.not_lt_zero _),rfl⟩
 case round =>
  obtain ⟨k,rfl,hk,HA,rfl⟩:=hrel
  by_cases hlt:k < 28
  ·have i1:(k:Int) < 28:=by omega
   have hv:A.toList.toArray[k]?=some (.int .u32 (N k)):=by simpa using hget k hlt
   have CH:=fun W=>has_any s k W hs hlt
   have CH2:=fun W=>has_any (N k) b W (hN k) hb
   have HX:Hid ((s.testBit k&&(N k).testBit b)=false→∀ j,j < k+1→(s.testBit j&&(N j).testBit b)=false):=fun h j hj=>by
    by_cases e:j=k
    ·subst e;exact h
    ·exact HA.out j (by omega)
   cases ht:s.testBit k
   ·rw [ht] at CH
    have HX2:Hid (∀ j,j < k+1→(s.testBit j&&(N j).testBit b)=false):=HX.out (by rw [ht];rfl)
    clear ht HX HA
    go_wp2_with (first | (refine wpList_index_one rfl 82 (.tmp 9) (.tmp 10) rfl A.toList.toArray k 28 80 dS _ rfl rfl Tryz.undSets hlt hd1 hd2 Tryz.infoSet hv ?_) | (go_at_call 91;refine (CH _).mono ?_;rintro e w1 ⟨rfl,rfl⟩))
    exact ⟨⟨k+1,by go_num,by omega,HX2,by first | rfl | trivial⟩,by simp [intOf];omega⟩
   ·rw [ht] at CH
    cases ht2:(N k).testBit b
    ·rw [ht2] at CH2
     have HX2:Hid (∀ j,j < k+1→(s.testBit j&&(N j).testBit b)=false):=HX.out (by rw [ht,ht2];rfl)
     clear ht ht2 HX HA
     go_wp2_with (first | (refine wpList_index_one rfl 82 (.tmp 9) (.tmp 10) rfl A.toList.toArray k 28 80 dS _ rfl rfl Tryz.undSets hlt hd1 hd2 Tryz.infoSet hv ?_) | (go_at_call_of 91 (Value.int IntKind.u32 (s:Int));refine (CH _).mono ?_;rintro e w1 ⟨rfl,rfl⟩) | (go_at_call 91;refine (CH2 _).mono ?_;rintro e w1 ⟨rfl,rfl⟩))
     exact ⟨⟨k+1,by go_num,by omega,HX2,by first | rfl | trivial⟩,by simp [intOf];omega⟩
    ·rw [ht2] at CH2
     have HF:Hid (M.anyN N s b=true):=M.any_hit hlt ht ht2
     clear ht ht2 HX HA
     go_wp2_with (first | (refine wpList_index_one rfl 82 (.tmp 9) (.tmp 10) rfl A.toList.toArray k 28 80 dS _ rfl rfl Tryz.undSets hlt hd1 hd2 Tryz.infoSet hv ?_) | (go_at_call_of 91 (Value.int IntKind.u32 (s:Int));refine (CH _).mono ?_;rintro e w1 ⟨rfl,rfl⟩) | (go_at_call 91;refine (CH2 _).mono ?_;rintro e w1 ⟨rfl,rfl⟩))
     go_ret
     exact ⟨ret_bool HF.out.symm,hb1⟩
  ·have i1:¬ (k:Int) < 28:=by omega
   obtain rfl:k=28:=by omega
   have HF:Hid (M.anyN N s b=false):=M.any_fin HA.out
   clear HA
   go_wp2_with fail
   go_ret
   exact ⟨ret_bool HF.out.symm,hb1⟩
end
section
namespace M
def foundA (n:Nat):(Nat→Nat→Bool)→List Ch→(Nat→Nat→Bool) × Bool
 | A,[]=>(A,holdsA A n)
 | A,c::cs=>if holdsA A n then (if (foundA n (setA A c.1) cs).2 then foundA n (setA A c.1) cs else foundA n (setA A c.2) cs) else (A,false)
def lineA (A:Nat→Nat→Bool) (n:Nat):Nat→List Nat→Option (List Nat)
 | 0,out=>some out
 | k+1,out=>match (List.range n).find? (free A n fun x=>out.contains x) with
  | none=>none
  | some b=>lineA A n k (out++[b])
def pickB (S:Bits) (c:Ch) (cs:List Ch):Lk:=if mayAdd S c.1&&choose (cs.length+1) (addB S c.1) cs then c.1 else c.2
def chosenB:Bits→List Ch→Bits
 | S,[]=>S
 | S,c::cs=>chosenB (addB S (pickB S c cs)) cs
def nextB (S:Bits) (n m:Nat) (out:List Nat) (b:Nat):Bool:=!out.contains b&&!((List.range m).any fun a=>(decide (a < n)&&!out.contains a)&&S a b)
def lineB (S:Bits) (n m:Nat):Nat→List Nat→List Nat
 | 0,out=>out
 | k+1,out=>match (List.range n).find? (nextB S n m out) with
  | some b=>lineB S n m k (out++[b])
  | none=>lineB S n m k out
theorem found_waits (n:Nat):∀ (cs:List Ch) (A:Nat→Nat→Bool),(foundA n A cs).2=waitsA n A cs:=by
 intro cs
 induction cs with
 | nil=>intro A;rfl
 | cons c cs ih =>
  intro A
  rw [foundA,waitsA,← ih,← ih]
  cases holdsA A n
  ·rfl
  ·rw [if_pos rfl,Bool.true_and]
   cases h:(foundA n (setA A c.1) cs).2
   ·simp
   ·rw [if_pos rfl,h];rfl
theorem found_tells (n:Nat):∀ (cs:List Ch) (A:Nat→Nat→Bool) (S:Bits),(∀ c∈cs,Inn n c)→(∀ c∈cs,Two c)→Tells S (linksOf A n)→Sat (linksOf A n) cs→Tells (chosenB S cs) (linksOf (foundA n A cs).1 n)∧¬ Round (linksOf (foundA n A cs).1 n):=by
 intro cs
 induction cs with
 | nil=>intro A S _ _ hT hS;exact ⟨hT,sat_nil.1 hS⟩
 | cons c cs ih =>
  intro A S hi h2 hT hS
  obtain ⟨⟨a1,a2⟩,b1,b2⟩:=hi c (List.mem_cons_self ..)
  have hi':∀ x∈cs,Inn n x:=fun x hx=>hi x (List.mem_cons_of_mem _ hx)
  have h2':∀ x∈cs,Two x:=fun x hx=>h2 x (List.mem_cons_of_mem _ hx)
  have hc:=h2 c (List.mem_cons_self ..)
  have hR:=sat_round hS
  have hh:holdsA A n=true:=by rw [holdsA,kahn_ok];exact hR
  have e1:(foundA n (setA A c.1) cs).2=true↔Sat (c.1::linksOf A n) cs:=by rw [found_waits,waits_ok n cs _ hi',sat_mem (links_set a1 a2)]
  have e2:(mayAdd S c.1&&choose (cs.length+1) (addB S c.1) cs)=true↔Sat (c.1::linksOf A n) cs:=by
   rw [Bool.and_eq_true]
   constructor
   ·rintro ⟨q1,q2⟩
    exact (choose_ok _ _ cs _ (Nat.lt_succ_self _) (hT.add c.1) h2' (round_keep hT hR q1 hc.1)).1 q2
   ·intro hs
    have hr:=sat_round hs
    have hm:mayAdd S c.1=true:=by
     cases hm:mayAdd S c.1
     ·exact absurd ((round_add hR).2 (.inr (no_leads hT hm))) hr
     ·rfl
    exact ⟨hm,(choose_ok _ _ cs _ (Nat.lt_succ_self _) (hT.add c.1) h2' hr).2 hs⟩
  rw [foundA,if_pos hh,chosenB,pickB]
  by_cases h1:Sat (c.1::linksOf A n) cs
  ·rw [if_pos (e1.2 h1),if_pos (e2.2 h1)]
   exact ih _ _ hi' h2' (tells_mem (fun l=>(links_set a1 a2 l).symm) (hT.add c.1)) ((sat_mem (links_set a1 a2) cs).2 h1)
  ·rw [if_neg (fun h=>h1 (e1.1 h)),if_neg (fun h=>h1 (e2.1 h))]
   have h3:Sat (c.2::linksOf A n) cs:=(sat_cons.1 hS).resolve_left h1
   exact ih _ _ hi' h2' (tells_mem (fun l=>(links_set b1 b2 l).symm) (hT.add c.2)) ((sat_mem (links_set b1 b2) cs).2 h3)
theorem line_same {A:Nat→Nat→Bool} {n m:Nat} {S:Bits} (hm:n≤m) (hT:Tells S (linksOf A n)) (hR:¬ Round (linksOf A n)) :
  ∀ (k:Nat) (out:List Nat),leftN n (fun x=>out.contains x)=k→(∀ a b,(a,b)∈linksOf A n→out.contains b=true→out.contains a=true)→lineA A n k out=some (lineB S n m k out):=by
 intro k
 induction k with
 | zero=>intro out _ _;rfl
 | succ k ih =>
  intro out hk hc
  have hfree:∀ b,b < n→nextB S n m out b=free A n (fun x=>out.contains x) b:=by
   intro b hb
   rw [Bool.eq_iff_iff]
   simp only [nextB,free,Bool.and_eq_true,Bool.not_eq_true',List.all_eq_true,List.mem_range,Bool.or_eq_true]
   refine and_congr_right fun hb0=>?_
   rw [← Bool.not_eq_true,List.any_eq_true]
   simp only [List.mem_range,Bool.and_eq_true,decide_eq_true_eq,Bool.not_eq_true',not_exists,not_and,Bool.not_eq_true]
   constructor
   ·intro h a ha
    cases hg:out.contains a
    ·right
     have:=h a (by omega) ⟨ha,hg⟩
     cases hA:A a b
     ·rfl
     ·have h1:=(hT a b).2 (.one (mem_links.2 ⟨ha,hb,hA⟩))
      rw [h1] at this;cases this
    ·exact .inl rfl
   ·rintro h a _ ⟨ha,hg⟩
    cases hS:S a b
    ·rfl
    ·have hl:=(hT a b).1 hS
     obtain ⟨c,hcb,hac⟩:=leads_last hl
     obtain ⟨q1,_,q3⟩:=mem_links.1 hcb
     have hgc:out.contains c=true:=(h c q1).resolve_right (by rw [q3];simp)
     rcases hac with rfl | hac
     ·rw [hgc] at hg;cases hg
     ·have:=leads_closed (gone:=fun x=>out.contains x) hc hac hgc
      rw [this] at hg;cases hg
  have hsame:(List.range n).find? (nextB S n m out)=(List.range n).find? (free A n fun x=>out.contains x):=by
   have gen:∀ xs:List Nat,(∀ x∈xs,x < n)→xs.find? (nextB S n m out)=xs.find? (free A n fun x=>out.contains x):=by
    intro xs
    induction xs with
    | nil=>intro _;rfl
    | cons x xs ihx =>
     intro hx
     rw [List.find?_cons,List.find?_cons,hfree x (hx x (by simp)),ihx fun y hy=>hx y (List.mem_cons_of_mem _ hy)]
   exact gen _ fun x hx=>List.mem_range.1 hx
  have hkn:=kahn_yes (A:=A) (n:=n) hR (k+1) _ hk
  rw [lineA,lineB,hsame]
  rw [kahn] at hkn
  cases hs:(List.range n).find? (free A n fun x=>out.contains x) with
  | none=>rw [hs] at hkn;cases hkn
  | some b =>
   simp only
   obtain ⟨f1,f2,f3⟩:=free_lt hs
   have hl:=left_less hs hk
   refine ih (out++[b]) ?_ ?_
   ·rw [← hl]
    congr 1
    funext x
    simp [List.contains_eq_mem,Bool.decide_or]
    by_cases h1:x∈out<;>by_cases h2:x=b<;>simp [h1,h2]
   ·intro x y hxy hy
    simp only [List.contains_eq_mem,List.mem_append,List.mem_singleton,decide_eq_true_eq] at hy ⊢
    rcases hy with hy | rfl
    ·left
     have:=hc x y hxy (by simpa [List.contains_eq_mem] using hy)
     simpa [List.contains_eq_mem] using this
    ·obtain ⟨q1,_,q3⟩:=mem_links.1 hxy
     have:=f3 x q1 q3
     left;simpa [List.contains_eq_mem] using this
structure Line (A:Nat→Nat→Bool) (n:Nat) (out:List Nat):Prop where
 lt:∀ x∈out,x < n
 nodup:out.Nodup
 ahead:∀ i j (hi:i < out.length) (hj:j < i),A out[i] (out[j]'(by omega))=false
 gone:∀ a b,a < n→A a b=true→b∈out→a∈out
theorem line_is {A:Nat→Nat→Bool} {n:Nat}:∀ (k:Nat) (out r:List Nat),Line A n out→lineA A n k out=some r→Line A n r∧r.length=out.length+k:=by
 intro k
 induction k with
 | zero=>intro out r h e;obtain rfl:=Option.some.inj e;exact ⟨h,rfl⟩
 | succ k ih =>
  intro out r h e
  rw [lineA] at e
  cases hs:(List.range n).find? (free A n fun x=>out.contains x) with
  | none=>rw [hs] at e;cases e
  | some b =>
   rw [hs] at e
   simp only at e
   obtain ⟨f1,f2,f3⟩:=free_lt hs
   have hb:b∉out:=by simpa [List.contains_eq_mem] using f2
   obtain ⟨q1,q2⟩:=ih (out++[b]) r ⟨fun x hx=>by
    rcases List.mem_append.1 hx with hx | hx
    ·exact h.lt x hx
    ·rw [List.mem_singleton.1 hx];exact f1,by
    rw [List.nodup_append]
    refine ⟨h.nodup,by simp,fun x hx y hy e=>?_⟩
    rw [List.mem_singleton.1 hy] at e
    rw [e] at hx;exact hb hx,fun i j hi hj=>by
    by_cases hio:i < out.length
    ·rw [List.getElem_append_left hio,List.getElem_append_left (by omega)]
     exact h.ahead i j hio hj
    ·have hie:i=out.length:=by simp at hi;omega
     subst hie
     rw [List.getElem_append_right (Nat.le_refl _),List.getElem_append_left (by omega)]
     simp only [Nat.sub_self,List.getElem_cons_zero]
     cases hA:A b (out[j]'(by omega))
     ·rfl
     ·exact absurd (h.gone b _ f1 hA (List.getElem_mem _)) hb,fun a c ha hA hc=>by
    rcases List.mem_append.1 hc with hc | hc
    ·exact List.mem_append_left _ (h.gone a c ha hA hc)
    ·rw [List.mem_singleton.1 hc] at hA
     have:=f3 a ha hA
     exact List.mem_append_left _ (by simpa [List.contains_eq_mem] using this)⟩ e
   exact ⟨q1,by rw [q2];simp;omega⟩
def orderLine (ll:List (List D)) (l:List Int) (rows:List (List Int)) (kind:Int):Option (List Nat) :=
 if orderHolds ll l rows kind then lineA (foundA (deeds ll).length (netOf (deeds ll) l rows kind.toNat) (choices (deeds ll))).1 (deeds ll).length (deeds ll).length [] else none
theorem line_impl {ll:List (List D)} {l:List Int} {rows:List (List Int)} (hp:prog ll=true) (k:Nat) (hw:waitsA (deeds ll).length (netOf (deeds ll) l rows k) (choices (deeds ll))=true) :
  lineA (foundA (deeds ll).length (netOf (deeds ll) l rows k) (choices (deeds ll))).1 (deeds ll).length (deeds ll).length []=some (lineB (chosenB (bitsOf (netOf (deeds ll) l rows k) (deeds ll).length) (choices (deeds ll))) (deeds ll).length 28 (deeds ll).length []):=by
 have hi:=fun c hc=>(choices_ok (run_of hp) c hc).1
 have h2:=fun c hc=>(choices_ok (run_of hp) c hc).2
 have hS:=(waits_ok _ _ _ hi).1 hw
 obtain ⟨hT,hR⟩:=found_tells (deeds ll).length (choices (deeds ll)) (netOf (deeds ll) l rows k) _ hi h2 (bits_tell _ _) hS
 exact line_same (deeds28 hp) hT hR _ [] (by have:=left_all (deeds ll).length;simpa using this) (fun a b _ h=>by simp at h)
theorem line_some {ll:List (List D)} {l:List Int} {rows:List (List Int)} {kind:Int}:(orderLine ll l rows kind).isSome=orderHolds ll l rows kind:=by
 unfold orderLine
 cases h:orderHolds ll l rows kind
 ·rfl
 ·rw [if_pos rfl]
  have h':=h
  unfold orderHolds at h'
  simp only [Bool.and_eq_true] at h'
  have hp:prog ll=true:=by
   have:=h'.2.1
   unfold execOk at this
   simp only [Bool.and_eq_true] at this
   exact this.1
  rw [line_impl hp _ h'.2.2.2];rfl
end M
end
section
open Go.RowKit
structure LeftW (n:Nat) (out:List Nat) (L:Nat):Prop where
 lt:L < 4294967296
 bit:∀ i,L.testBit i=(decide (i < n)&&!out.contains i)
theorem LeftW.all {n:Nat} (hn:n≤28):LeftW n [] (2 ^ n - 1) :=
 ⟨(by have:2 ^ n≤2 ^ 28:=Nat.pow_le_pow_right (by omega) hn;omega),fun i=>by rw [Nat.testBit_two_pow_sub_one];simp⟩
theorem LeftW.less {n:Nat} {out:List Nat} {L b:Nat} (h:LeftW n out L) (hb:b < 28):LeftW n (out++[b]) (L &&& (4294967295 - 2 ^ b)):=by
 have hp:2 ^ b < 2 ^ 32:=Nat.pow_lt_pow_right (by omega) (by omega)
 refine ⟨Nat.lt_of_le_of_lt Nat.and_le_left h.lt,fun i=>?_⟩
 rw [Nat.testBit_and,h.bit,show 4294967295 - 2 ^ b=2 ^ 32 - (2 ^ b+1) by omega,Nat.testBit_two_pow_sub_succ hp,Nat.testBit_two_pow]
 by_cases h32:i < 32
 ·rw [decide_eq_true h32,Bool.true_and]
  have e:(out++[b]).contains i=(out.contains i||decide (b=i)):=by
   rw [Bool.eq_iff_iff]
   simp only [List.contains_eq_mem,List.mem_append,List.mem_singleton,decide_eq_true_eq,Bool.or_eq_true]
   exact or_congr Iff.rfl eq_comm
  rw [e]
  cases decide (i < n)<;>cases out.contains i<;>cases decide (b=i)<;>rfl
 ·have hL:(decide (i < n)&&!out.contains i)=false:=by
   rw [← h.bit]
   exact Nat.testBit_lt_two_pow (Nat.lt_of_lt_of_le h.lt (Nat.pow_le_pow_right (n:=2) (i:=32) (by omega) (show 32≤i by omega)))
  rw [hL,Bool.false_and]
  rw [Bool.and_eq_false_iff] at hL
  symm
  rw [Bool.and_eq_false_iff]
  refine hL.imp id fun h=>?_
  simp only [Bool.not_eq_false'] at h ⊢
  simp only [List.contains_eq_mem,List.mem_append,decide_eq_true_eq] at h ⊢
  exact .inl h
abbrev M.bitS (N:Nat→Nat):M.Bits:=fun a b=>(N a).testBit b
theorem next_bits {n:Nat} {out:List Nat} {L:Nat} (h:LeftW n out L) (N:Nat→Nat) {b:Nat} (hb:b < n):M.nextB (M.bitS N) n 28 out b=(L.testBit b&&!M.anyN N L b):=by
 unfold M.nextB M.anyN
 rw [h.bit,decide_eq_true hb,Bool.true_and]
 congr 2
 apply List.any_congr rfl
 intro a
 rw [h.bit]
theorem one_shl' {s:Nat} (h:s≤28):(2:Int) ^ s % (4294967296:Int)=((2 ^ s:Nat):Int):=by
 have hp28:2 ^ s≤2 ^ 28:=Nat.pow_le_pow_right (by omega) h
 have e:(2:Int) ^ s=((2 ^ s:Nat):Int):=by simp
 rw [e]
 generalize 2 ^ s=z at hp28
 omega
set_option maxHeartbeats 4000000 in
set_option maxRecDepth 100000 in
theorem lineI_any (N:Nat→Nat) (n:Nat) (w:World) (hn:n≤28) (hN:∀ i,N i < 4294967296) :
  Calls Tryz.prog 41 #[.agg (btA N),.int .i64 n] w fun e w'=>∃ v,e=.returned v∧OwnI w' w.heap.size v (M.lineB (M.bitS N) n 28 n [])∧Below w.heap.size w w':=by
 obtain ⟨i0,hi,hz0,hz1,hz2⟩:=info_parts Tryz.infoInt
 have hB:=Bt.of_block (t:=82) (heap_alloc_new w (.cells (btA N) 82)) hN
 have b0:=below1 w (.cells (btA N) 82)
 have hpw:(2:Int) ^ n % (4294967296:Int)=((2 ^ n:Nat):Int):=by rw [one_shl' hn]
 have hp28:2 ^ n≤268435456:=Nat.pow_le_pow_right (n:=2) (i:=n) (j:=28) (by omega) hn
 have hp1:1≤2 ^ n:=Nat.one_le_two_pow
 have hLA:=LeftW.all hn
 have hle:IntKind.u32.wrap (((2 ^ n:Nat):Int) - 1)=((2 ^ n - 1:Nat):Int):=by rw [IntKind.wrap_u32];omega
 have hi2:(Tryz.prog.info? 82).map (·.size)=some (btA N).toList.length:=by rw [Tryz.infoSets];simp [btA]
 generalize 2 ^ n - 1=L0 at *
 generalize 2 ^ n=Z at *
 go_enter Tryz.func41,Tryz.ntmps41
 go_wp2_with fail
 go_step3
 go_wp2_with fail
 go_step3
 go_wp2_with fail
 go_loopw [5,6,12] (fun s5 s6 s12 wr=>∃ (j L:Nat) (out:List Nat) (v:Value),v=s5∧OwnI wr (w.heap.size+1) v out∧s6=.int .u32 L∧s12=.int .i64 j∧j≤n∧out.length≤j∧LeftW n out L∧Hid (M.lineB (M.bitS N) n 28 n []=M.lineB (M.bitS N) n 28 (n - j) out)∧Below w.heap.size w wr∧Bt wr w.heap.size N) (fun _ _ s12 _=>n - (intOf s12).toNat)
 case atStart=>exact ⟨0,_,[],_,rfl,World.ownsRow_nil _ _ _ _,by first | rfl | rw [hle],rfl,Nat.zero_le _,by simp,hLA,rfl,b0,hB⟩
 case round =>
  obtain ⟨j,L,out,v5,hv5,hO,rfl,rfl,hj,hoj,hLW,HB,hb,hBw⟩:=hrel
  clear b0 hB hLA hle hpw
  subst hv5
  by_cases hlt:j < n
  ·have i1:(j:Int) < n:=by omega
   obtain ⟨k,hk⟩:∃ k,n - j=k+1:=⟨n - j - 1,by omega⟩
   rw [hk] at HB
   have hk':n - (j+1)=k:=by omega
   go_wp2_with fail
   go_loopw [5,6,15] (fun s5 s6 s15 wi=>∃ i:Nat,s5=v5∧s6=.int .u32 L∧s15=.int .i64 i∧i≤n∧Hid (∀ q,q < i→M.nextB (M.bitS N) n 28 out q=false)∧Below wr.heap.size wr wi) (fun _ _ s15 _=>n - (intOf s15).toNat)
   case atStart=>exact ⟨0,rfl,rfl,rfl,Nat.zero_le _,fun q hq=>absurd hq (Nat.not_lt_zero _),Below.refl _ _⟩
   case round =>
    rename World=>wi
    obtain ⟨i,rfl,rfl,rfl,hin,HN,hbi⟩:=hrel
    by_cases hit:i < n
    ·have j1:(i:Int) < n:=by omega
     have hi28:i < 28:=by omega
     have CH:=fun W=>has_any L i W hLW.lt hi28
     have CA:=fun W=>anyAhead_any N L i W hN hLW.lt hi28
     have hnb:=next_bits hLW N hit
     have HX:Hid (M.nextB (M.bitS N) n 28 out i=false→∀ q,q < i+1→M.nextB (M.bitS N) n 28 out q=false):=fun h=>M.find_step (p:=fun q=>M.nextB (M.bitS N) n 28 out q) HN.out h
     have HH:Hid (M.nextB (M.bitS N) n 28 out i=true→M.lineB (M.bitS N) n 28 (k+1) out=M.lineB (M.bitS N) n 28 k (out++[i])):=fun h=>by
      rw [M.lineB,M.find_hit (p:=fun q=>M.nextB (M.bitS N) n 28 out q) HN.out hit h]
     have hr:=(hBw.below hbi).range
     have hbwi:=hb.trans (hbi.mono hb.size)
     cases hq1:L.testBit i
     ·rw [hq1] at CH hnb
      have HX2:Hid (∀ q,q < i+1→M.nextB (M.bitS N) n 28 out q=false):=HX.out (by rw [hnb];rfl)
      clear hq1 hnb HX HH
      go_wp2_with fail
      refine (CH _).mono ?_
      rintro e w1 ⟨rfl,rfl⟩
      go_wp2_with fail
      exact ⟨⟨i+1,by first | rfl | trivial,by first | rfl | trivial,by go_num,by omega,HX2,hbi⟩,by simp [intOf];omega⟩
     ·rw [hq1] at CH hnb
      cases hq2:M.anyN N L i
      ·rw [hq2] at CA hnb
       have HX2:Hid (M.lineB (M.bitS N) n 28 (k+1) out=M.lineB (M.bitS N) n 28 k (out++[i])):=HH.out (by rw [hnb];rfl)
       have hLs:=hLW.less hi28
       obtain ⟨z,hz⟩:∃ z,2 ^ i=z:=⟨_,rfl⟩
       have hsh:(2:Int) ^ i % (4294967296:Int)=(z:Int):=by rw [one_shl' (by omega),hz]
       have hzl:z < 4294967296:=by have:=Nat.pow_lt_pow_right (a:=2) (by omega) hi28;rw [hz] at this;omega
       have hL':=hLW.lt
       have han:=u32_andNot_nat L z hL' hzl
       rw [hz] at hLs
       generalize L &&& (4294967295 - z)=L2 at *
       have hon:out.length+1≤29:=by omega
       clear hq1 hq2 hnb HX HH hz
       go_wp2_with fail
       refine (CH _).mono ?_
       rintro e w1 ⟨rfl,rfl⟩
       go_wp2_with (refine wpList_load_midG rfl 82 (.tmp 2) rfl w.heap.size 0 rfl (btA N).toList _ hr Tryz.undSets rfl hi2 ?_)
       refine (CA _).mono ?_
       rintro e w2 ⟨rfl,b2⟩
       have bw2:=hbi.trans (b2.mono hbi.size)
       have hO2:=ownsRow_below hO bw2
       have bww2:=hb.trans (bw2.mono hb.size)
       have hB2:=hBw.below bw2
       have hbs:=bww2.size
       have hOA:=World.ownsRow.alloc hO2 (.cells #[.int .i64 (i:Int)] 3)
       go_wp2_with (at_builtin;refine wpList_append_own _ rfl (.tmp 28) (.tmp 30) 26 rfl _ 3 i0 _ 1 8 Tryz.underlying26 hi hz0 hz1 hz2 rfl (by decide) _ _ _ rfl hOA ⟨w2.heap.size,0,none⟩ 1 1 [.int .i64 (i:Int)] rfl rfl (cells_new1 _ _ _ _ (by simp)) (one1 _) (by unfold maxLen;omega) (by omega) (by simp;omega) ?_)
       intro v3 w4 hown3 hg3 _
       have hb3:Below w.heap.size w w4:=below_grown (bww2.trans ((below1 w2 _).mono hbs)) hg3 (fun k hk=>by have:=own_ge hO2 k hk;omega) (by simp;omega)
       have hown4:OwnI w4 (w.heap.size+1) v3 (out++[i]):=by unfold OwnI;rw [M.ints_snoc,nums_snoc,List.length_append];exact hown3
       have hB4:Bt w4 w.heap.size N:=(hB2.below (below1 w2 (.cells #[.int .i64 (i:Int)] 3))).grown hg3 (fun e=>by have:=own_ge hO2 _ e.symm;omega)
       go_wp2_with fail
       exact ⟨⟨j+1,L2,out++[i],v3,rfl,hown4,by first | rfl | rw [han],by go_num,by omega,by simp;omega,hLs,by rw [hk'];show _=_;rw [HB.out,HX2.out],hb3,hB4⟩,by simp [intOf];omega⟩
      ·rw [hq2] at CA hnb
       have HX2:Hid (∀ q,q < i+1→M.nextB (M.bitS N) n 28 out q=false):=HX.out (by rw [hnb];rfl)
       clear hq1 hq2 hnb HX HH
       go_wp2_with fail
       refine (CH _).mono ?_
       rintro e w1 ⟨rfl,rfl⟩
       go_wp2_with (refine wpList_load_midG rfl 82 (.tmp 2) rfl w.heap.size 0 rfl (btA N).toList _ hr Tryz.undSets rfl hi2 ?_)
       refine (CA _).mono ?_
       rintro e w2 ⟨rfl,b2⟩
       go_wp2_with fail
       exact ⟨⟨i+1,by first | rfl | trivial,by first | rfl | trivial,by go_num,by omega,HX2,hbi.trans (b2.mono hbi.size)⟩,by simp [intOf];omega⟩
    ·obtain rfl:i=n:=by omega
     have HX:Hid (M.lineB (M.bitS N) i 28 (k+1) out=M.lineB (M.bitS N) i 28 k out):=by
      show _=_
      rw [M.lineB,M.find_miss (p:=fun q=>M.nextB (M.bitS N) i 28 out q) HN.out]
     have hbwi:=hb.trans (hbi.mono hb.size)
     have hBwi:=hBw.below hbi
     go_wp2_with fail
     exact ⟨⟨j+1,L,out,_,rfl,ownsRow_below hO hbi,rfl,by go_num,by omega,by omega,hLW,by rw [hk'];show _=_;rw [HB.out,HX.out],hbwi,hBwi⟩,by simp [intOf];omega⟩
  ·obtain rfl:j=n:=by omega
   have HF:Hid (M.lineB (M.bitS N) j 28 j []=out):=by show _=_;rw [HB.out,Nat.sub_self];rfl
   go_wp2_with fail
   (try rw [Exit.noGoto_ret])
   go_ret
   exact ⟨_,rfl,by rw [HF.out];exact own_low hO (by omega),hb⟩
end
section
open Go.RowKit
namespace M
theorem pick_words {N:Nat→Nat} {S:Bits} (h:Words 28 N S) {c:Ch} {cs:List Ch} (hc:Low 28 c) (hl:∀ x∈cs,Low 28 x):pickW N c cs=pickB S c cs:=by
 unfold pickW pickB
 rw [may_eq h hc.1.2,choose_eq _ cs _ _ (h.add hc.1.2) hl]
theorem chosen_words:∀ (cs:List Ch) (N:Nat→Nat) (S:Bits),Words 28 N S→(∀ c∈cs,Low 28 c)→Words 28 (chosenW N cs) (chosenB S cs)
 | [],_,_,h,_=>h
 | c::cs,N,S,h,hl=>by
  have hr:∀ x∈cs,Low 28 x:=fun x hx=>hl x (List.mem_cons_of_mem _ hx)
  have hc:=hl c (List.mem_cons_self ..)
  rw [chosenW,chosenB,← pick_words h hc hr]
  exact chosen_words cs _ _ (h.add (pickW_low hc).2) hr
theorem next_congr {S S':Bits} {n m:Nat} (h:∀ a,a < m→∀ b,S a b=S' a b) (out:List Nat) (b:Nat):nextB S n m out b=nextB S' n m out b:=by
 unfold nextB
 congr 2
 rw [Bool.eq_iff_iff,List.any_eq_true,List.any_eq_true]
 exact ⟨fun ⟨a,ha,e⟩=>⟨a,ha,by rw [← h a (List.mem_range.1 ha)];exact e⟩,fun ⟨a,ha,e⟩=>⟨a,ha,by rw [h a (List.mem_range.1 ha)];exact e⟩⟩
theorem line_congr {S S':Bits} {n m:Nat} (h:∀ a,a < m→∀ b,S a b=S' a b):∀ (k:Nat) (out:List Nat),lineB S n m k out=lineB S' n m k out
 | 0,_=>rfl
 | k+1,out=>by
  rw [lineB,lineB,show nextB S n m out=nextB S' n m out from funext fun b=>next_congr h out b]
  cases (List.range n).find? (nextB S' n m out) with
  | none=>exact line_congr h k out
  | some b=>exact line_congr h k _
theorem line_words {N:Nat→Nat} {S:Bits} (h:Words 28 N S) (n k:Nat) (out:List Nat):lineB (bitS N) n 28 k out=lineB S n 28 k out:=line_congr (fun a ha b=>h a ha b) k out
end M
theorem wayChosen_any (k:Nat) (hk1:1≤k) (hk3:k≤3) (va:Option Addr) (g c:Nat) (ll:List (List M.D)) (hp:M.prog ll=true) (fa:Option Addr) (fb fo fc:Nat) (l:List Int) (ra:Option Addr) (rb ro rc:Nat) (rows:List (List Int)) (w:World) (h:Wy w va g c (M.deeds ll) fa fb fo fc l ra rb ro rc rows) :
  Calls Tryz.prog 40 #[.agg #[.slice va (M.deeds ll).length c,.slice fa l.length fc,.slice ra rows.length rc],.int .i64 k] w fun e w'=>∃ N,e=.returned (.agg (btA N))∧(∀ i,N i < 4294967296)∧M.Words 28 N (M.chosenB (M.bitsOf (M.netOf (M.deeds ll) l rows k) (M.deeds ll).length) (M.choices (M.deeds ll)))∧Below w.heap.size w w':=by
 have hlow:∀ c∈M.choices (M.deeds ll),M.Low 28 c:=fun c hc=>by
  have h1:=(M.choices_ok (M.run_of hp) c hc).1
  have h2:=M.deeds28 hp
  exact ⟨⟨by have:=h1.1.1;omega,by have:=h1.1.2;omega⟩,by have:=h1.2.1;omega,by have:=h1.2.2;omega⟩
 have hN:=words_small (M.mustAt (M.deeds ll) l rows k) (M.deeds ll).length h.dl
 refine (chosen_of k _ hN va g c (M.deeds ll) fa fb fo fc l ra rb ro rc rows w h hlow (fun w h=>?_)).mono fun e w' ⟨he,hb⟩=>⟨_,he,M.chosenW_lt _ _ hN hlow,M.chosen_words _ _ _ (M.words_bits h.dl) hlow,hb⟩
 rcases (show k=1∨k=2∨k=3 by omega) with rfl | rfl | rfl
 ·exact ahead_of 1 _ _ _ reasons1_any (fun t a b x y w h1 h2 h3 h4=>must1_any t a b x y w h1 h2 h3 h4) va g c (M.deeds ll) fa fb fo fc l ra rb ro rc rows w h
 ·exact ahead_of 2 _ _ _ reasons2_any (fun t a b x y w h1 h2 h3 h4=>must2_any t a b x y w h1 h2 h3 h4) va g c (M.deeds ll) fa fb fo fc l ra rb ro rc rows w h
 ·exact ahead_of 3 _ _ _ reasons3_any (fun t a b x y w h1 h2 h3 h4=>must3_any t a b x y w h1 h2 h3 h4) va g c (M.deeds ll) fa fb fo fc l ra rb ro rc rows w h
end
section
open Go.RowKit
theorem M.holds_parts' {ll:List (List M.D)} {l:List Int} {rows:List (List Int)} {kind:Int} (h:M.orderHolds ll l rows kind=true):M.execOk ll l rows=true∧(1≤kind∧kind≤3)∧M.waitsA (M.deeds ll).length (M.netOf (M.deeds ll) l rows kind.toNat) (M.choices (M.deeds ll))=true:=by
 unfold M.orderHolds at h
 simp only [Bool.and_eq_true,decide_eq_true_eq] at h
 exact ⟨h.2.1,h.1,h.2.2.2⟩
set_option maxHeartbeats 2000000 in
set_option maxRecDepth 100000 in
set_option linter.unusedSimpArgs false in
theorem iorderLine_any (a : Option Addr) (b o c : Nat) (ll : List (List M.D)) (fa : Option Addr) (fb fo fc : Nat) (l : List Int) (ra : Option Addr) (rb ro rc : Nat) (rows : List (List Int)) (kind : Int) (w : World) (hl : ll.length ≤ 1048576) (hls : ∀ t ∈ ll, t.length ≤ 1048576) (hl1 : l.length ≤ 1048576) (hl2 : rows.length ≤ 1048576) (hrs : ∀ r ∈ rows, r.length ≤ 1048576) (h : DoSS w a b o ll) (hf : IntS w fa fb fo l) (hr : IntSS w ra rb ro rows) :
    Calls Tryz.prog 11 #[.agg #[.slice a ll.length c], .agg #[.slice fa l.length fc, .slice ra rows.length rc], .int .i64 kind] w fun e w' => ∃ v, e = .returned (.tuple #[v, .bool (M.orderLine ll l rows kind).isSome]) ∧ OwnI w' w.heap.size v ((M.orderLine ll l rows kind).getD []) ∧ Below w.heap.size w w' := by
  have hb1 := below2 w (.cells #[.slice a ll.length c] 25) (.cells #[.slice fa l.length fc, .slice ra rows.length rc] 29)
  have kp : ((w.alloc (.cells #[.slice a ll.length c] 25)).alloc (.cells #[.slice fa l.length fc, .slice ra rows.length rc] 29)).cell? ⟨w.heap.size, 0, none⟩ = some (.slice a ll.length c) := by simp
  have k0 : ((w.alloc (.cells #[.slice a ll.length c] 25)).alloc (.cells #[.slice fa l.length fc, .slice ra rows.length rc] 29)).cell? ⟨w.heap.size + 1, 0, none⟩ = some (.slice fa l.length fc) := by simp
  have k1 : ((w.alloc (.cells #[.slice a ll.length c] 25)).alloc (.cells #[.slice fa l.length fc, .slice ra rows.length rc] 29)).cell? ⟨w.heap.size + 1, 1, none⟩ = some (.slice ra rows.length rc) := by simp
  have hp1 := h.below hb1 (Nat.le_refl _)
  have hf1 := hf.below hb1 (Nat.le_refl _)
  have hr1 := hr.below hb1 (Nat.le_refl _)
  clear h hf hr
  obtain ⟨res, hres⟩ : ∃ res, M.orderLine ll l rows kind = res := ⟨_, rfl⟩
  have HR : Hid (M.orderLine ll l rows kind = res) := hres
  rw [hres]
  clear hres
  have C1 := iorderHolds_any a b o c ll fa fb fo fc l ra rb ro rc rows kind _ hl hls hl1 hl2 hrs hp1 hf1 hr1
  cases hok : M.orderHolds ll l rows kind
  · rw [hok] at C1
    have HF : Hid (none = res) := by show _ = _; rw [← HR.out]; unfold M.orderLine; rw [hok]; rfl
    clear HR hok
    go_enter Tryz.func11, Tryz.ntmps11
    go_wp2_with fail
    refine C1.mono ?_
    rintro e w1 ⟨rfl, hb2⟩
    go_wp2_with fail
    go_ret2
    exact ⟨_, by rw [← HF.out]; rfl, by rw [← HF.out]; exact World.ownsRow_nil _ _ _ _, hb1.trans (hb2.mono hb1.size)⟩
  · rw [hok] at C1
    obtain ⟨hex, hk13', hwt⟩ := M.holds_parts' hok
    have hW := M.wok_of hex
    obtain ⟨h3, h7⟩ := M.prog_bounds hW.prog
    obtain ⟨kn, rfl⟩ : ∃ kn : Nat, kind = kn := ⟨kind.toNat, by omega⟩
    have hk13 : 1 ≤ kn ∧ kn ≤ 3 := by omega
    have hdl := M.deeds28 hW.prog
    rw [Int.toNat_natCast] at hwt
    have HL : Hid (some (M.lineB (M.chosenB (M.bitsOf (M.netOf (M.deeds ll) l rows kn) (M.deeds ll).length) (M.choices (M.deeds ll))) (M.deeds ll).length 28 (M.deeds ll).length []) = res) := by
      show _ = _
      rw [← HR.out, ← M.line_impl hW.prog kn hwt]
      unfold M.orderLine
      rw [hok]; rfl
    clear HR hok hwt hk13' hex
    go_enter Tryz.func11, Tryz.ntmps11
    go_wp2_with fail
    refine C1.mono ?_
    rintro e w1 ⟨rfl, hb2⟩
    have hb12 := hb1.trans (hb2.mono hb1.size)
    have lt0 : w.heap.size + 1 < w1.heap.size := by have := hb2.size; simp only [World.size_alloc] at this; omega
    have kp1 := cellB hb2 kp
    have k01 := cellB hb2 k0
    have k11 := cellB hb2 k1
    have hp2 := hp1.below hb2 (Nat.le_refl _)
    have hf2 := hf1.below hb2 (Nat.le_refl _)
    have hr2 := hr1.below hb2 (Nat.le_refl _)
    clear kp k0 k1 hp1 hf1 hr1 C1 hb1 hb2
    go_wp2_with fail
    have N0 : w1.heap.size ≠ w.heap.size := by omega
    have N1 : w1.heap.size ≠ w.heap.size + 1 := by omega
    go_region_held3 (fun w' => w'.cell? ⟨w.heap.size, 0, none⟩ = some (.slice a ll.length c) ∧ w'.cell? ⟨w.heap.size + 1, 0, none⟩ = some (.slice fa l.length fc) ∧ w'.cell? ⟨w.heap.size + 1, 1, none⟩ = some (.slice ra rows.length rc)) (go_keep) (first | (go_at_call 39; refine (deedsOf_any a b o c ll _ h3 h7 (hp2.below (by first | exact (Below.refl _ _).drew | exact (below1 _ _).drew) (Nat.le_refl _))).mono ?_; rintro e w2 ⟨v2, rfl, hown, hb3⟩; obtain ⟨va, g, cap, rfl, hds, hgB, _⟩ := own_rs M.De.len hown; have hW2 : Below w1.heap.size w1 w2 := (by first | exact (Below.refl _ _).drew.trans hb3 | exact ((below1 w1 _).drew).trans (hb3.mono (below1 w1 _).size)); have Z0 := cellB hW2 kp1; have Z1 := cellB hW2 k01; have Z2 := cellB hW2 k11; (try (have T3 := slot3_drew hb3; have t0 := T3.c0; have t1 := T3.c1; have t2 := T3.c2; have tf := T3.fz))))
    all_goals
      have hbw := hb12.trans (hW2.mono hb12.size)
      first
      | (have F : Wb w (((w2.setCell ⟨w1.heap.size, 0, none⟩ (.slice va (M.deeds ll).length cap)).setCell ⟨w1.heap.size, 1, none⟩ (.slice fa l.length fc)).setCell ⟨w1.heap.size, 2, none⟩ (.slice ra rows.length rc)) w1.heap.size va g cap (M.deeds ll) fa fb fo fc l ra rb ro rc rows := Wb.first hb12 hW2 T3 hds hf2 hr2 (fun hp => by have hg : (w1.alloc (.cells #[.slice none 0 0, .slice none 0 0, .slice none 0 0] 78)).heap.size ≤ g := hgB hp; rw [World.size_alloc] at hg; omega)
         generalize ((w2.setCell ⟨w1.heap.size, 0, none⟩ (.slice va (M.deeds ll).length cap)).setCell ⟨w1.heap.size, 1, none⟩ (.slice fa l.length fc)).setCell ⟨w1.heap.size, 2, none⟩ (.slice ra rows.length rc) = W at F ⊢
         generalize w1.heap.size = X at F ⊢)
      | (have F : Wb w (w2.alloc (.cells #[.slice va (M.deeds ll).length cap, .slice fa l.length fc, .slice ra rows.length rc] 78)) w2.heap.size va g cap (M.deeds ll) fa fb fo fc l ra rb ro rc rows := ⟨hbw.alloc hbw.size _, by simp, by simp, by simp, DeS.bel hds (below1 _ _) (Nat.le_refl _), (hf2.below hW2 (Nat.le_refl _)).below (below1 _ _) (Nat.le_refl _), (hr2.below hW2 (Nat.le_refl _)).below (below1 _ _) (Nat.le_refl _)⟩
         generalize w2.alloc (.cells #[.slice va (M.deeds ll).length cap, .slice fa l.length fc, .slice ra rows.length rc] 78) = W at F ⊢
         generalize w2.heap.size = X at F ⊢)
      clear kp1 k01 k11 Z0 Z1 Z2 hp2 hf2 hr2 hds hown hW2 hb3 hb12 N0 N1 lt0 hbw hgB
      (try clear T3 t0 t1 t2 tf)
      obtain ⟨hbW, c0, c1, c2, hd, hf, hr⟩ := F
      have K0 : ∀ w', Below W.heap.size W w' → w'.cell? ⟨X, 0, none⟩ = some (.slice va (M.deeds ll).length cap) := fun w' hw => cellJ hw c0
      have K1 : ∀ w', Below W.heap.size W w' → w'.cell? ⟨X, 1, none⟩ = some (.slice fa l.length fc) := fun w' hw => cellJ hw c1
      have K2 : ∀ w', Below W.heap.size W w' → w'.cell? ⟨X, 2, none⟩ = some (.slice ra rows.length rc) := fun w' hw => cellJ hw c2
      clear c0 c1 c2
      go_wp2_with fail
      refine wp_region_held_drew (S := fun w' => Below W.heap.size W w') (by kernel_rfl) (Below.refl _ _).drew (fun hH => ?_)
      refine tk 0 18 (.agg #[.slice va (M.deeds ll).length cap, .slice fa l.length fc, .slice ra rows.length rc]) hH rfl rfl (by intro w' hSw;have hc0 := K0 w' hSw; have hc1 := K1 w' hSw; have hc2 := K2 w' hSw; go_simp) ?_
      simp only [Act.put,zqa,zqb,zqc]
      refine tk 1 19 (.int .i64 kn) hH rfl rfl (by intro w' hSw;go_simp) ?_
      simp only [Act.put,zqa,zqb,zqc]
      refine tk 3 21 (.pointer (some ⟨X, 0, none⟩)) hH rfl rfl (by intro w' hSw;go_simp) ?_
      simp only [Act.put,zqa,zqb,zqc]
      refine tk 4 22 (.slice va (M.deeds ll).length cap) hH rfl rfl (by intro w' hSw;have hc0 := K0 w' hSw; go_simp) ?_
      simp only [Act.put,zqa,zqb,zqc]
      refine tk 5 23 (.int .i64 (M.deeds ll).length) hH rfl rfl (by intro w' hSw;go_simp) ?_
      simp only [Act.put,zqa,zqb,zqc]
      refine ry 2 rfl (fun K' hK=>?_)
      refine sg 20 rfl 40 #[.tmp 18, .tmp 19] rfl #[.agg #[.slice va (M.deeds ll).length cap, .slice fa l.length fc, .slice ra rows.length rc], .int .i64 kn] (enters_of Tryz.func40 (by kernel_rfl) rfl) (wayChosen_any kn hk13.1 hk13.2 va g cap ll hW.prog fa fb fo fc l ra rb ro rc rows _ ⟨hd.bel hH (Nat.le_refl _), hf.below hH (Nat.le_refl _), hr.below hH (Nat.le_refl _), hdl, hW.len, hW.three, hrs, hW.run, hW.pl⟩) ?_
      rintro e W3 ⟨N, rfl, hN, hNw, b3⟩
      have HX : Hid (some (M.lineB (M.bitS N) (M.deeds ll).length 28 (M.deeds ll).length []) = res) := by show _ = _; rw [← HL.out, M.line_words hNw]
      clear HL hNw
      have CI := lineI_any N (M.deeds ll).length W3 hdl hN
      generalize btA N = AN at *
      refine ⟨_, rfl, hK.out _ _ (hH.trans (b3.mono hH.size)) (fun hH1 => ?_)⟩
      clear hK K'
      simp only [Act.put,zqa,zqb,zqc]
      refine ry 6 rfl (fun K' hK=>?_)
      refine sg 24 rfl 41 #[.tmp 20, .tmp 23] rfl #[.agg AN, .int .i64 (M.deeds ll).length] (enters_of Tryz.func41 (by kernel_rfl) rfl) (CI) ?_
      rintro e W4 ⟨v4, rfl, hO, b4⟩
      refine ⟨_, rfl, hK.out _ _ (hH1.trans (b4.mono hH1.size)) (fun hH2 => ?_)⟩
      clear hK K'
      simp only [Act.put,zqa,zqb,zqc]
      refine tk 7 6 (v4) hH2 rfl rfl (by intro w' hSw;go_simp) ?_
      simp only [Act.put,zqa,zqb,zqc]
      refine tk 8 7 (.bool true) hH2 rfl rfl (by intro w' hSw;go_simp) ?_
      simp only [Act.put,zqa,zqb,zqc]
      refine wpAnyH_done (by kernel_rfl) ?_ _
      have hbF := hbW.trans (hH2.mono hbW.size)
      have hge := hbW.size
      have hge1 := hH1.size
      clear K0 K1 K2 CI hH hH1 hH2
      go_wp2_with fail
      go_ret2
      exact ⟨v4, by rw [← HX.out]; rfl, by rw [← HX.out]; exact own_low hO (by omega), hbF⟩
end
section
namespace M
theorem line_parts {ll:List (List D)} {l:List Int} {rows:List (List Int)} {kind:Int} {r:List Nat} (h:orderLine ll l rows kind=some r):orderHolds ll l rows kind=true∧r.length=(deeds ll).length∧Line (foundA (deeds ll).length (netOf (deeds ll) l rows kind.toNat) (choices (deeds ll))).1 (deeds ll).length r:=by
 unfold orderLine at h
 split at h
 ·rename_i hh
  obtain ⟨a,b⟩:=line_is _ [] r ⟨by simp,by simp,by simp,by simp⟩ h
  exact ⟨hh,by simpa using b,a⟩
 ·cases h
theorem line_len {ll:List (List D)} {l:List Int} {rows:List (List Int)} {kind:Int} {r:List Nat} (h:orderLine ll l rows kind=some r):r.length=(deeds ll).length∧r.length≤28:=by
 obtain ⟨hh,h1,_⟩:=line_parts h
 have hok:=(holds_parts_of hh).2
 have hp:prog ll=true:=by
  unfold execOk at hok
  simp only [Bool.and_eq_true] at hok
  exact hok.1
 have:=deeds28 hp
 exact ⟨h1,by omega⟩
end M
end
end Go.Proofs.YtmhpgdliaclokaaGreat
