/- Both say the same of a way. No condition. And what goes with it: OsEq, OsOk, OsOr2, OsOr4. -/
import Derived.Deep.OwnRows
import Derived.Test.YtegommoflmmahaaGreatRows
import Derived.Test.YtegommoflmmahaaGreatQubj
import Derived.Test.YtegommoflmmahaaGreatQubl
import Derived.Test.YtegommoflmmahaaGreatQubn
namespace Go.Proofs.YtegommoflmmahaaGreat
section
theorem M.tell_wrs {ds:List M.De} {x:M.De} {f:Int} (h:x.reads=true):M.mayTell ds x f=(f==-1||decide (f∈M.wrs x.d.p 0 ds)):=by
 by_cases h1:f=-1
 ·subst h1;rw [M.mayTell,if_pos h];simp
 ·have h1':(f==-1)=false:=by simpa using h1
  rw [h1',Bool.false_or]
  by_cases h0:0≤f∧f < ds.length
  ·obtain ⟨n,rfl⟩:∃ n:Nat,f=n:=⟨f.toNat,by omega⟩
   have hn:n < ds.length:=by omega
   rw [M.tell_at h hn]
   have:((n:Int)∈M.wrs x.d.p 0 ds)↔(ds[n]).to x.d.p=true:=by
    rw [M.mem_wrs]
    constructor
    ·rintro ⟨i,hi,e,t⟩
     have:i=n:=by omega
     subst this;exact t
    ·intro t;exact ⟨n,hn,by simp,t⟩
   cases ht:(ds[n]).to x.d.p
   ·rw [ht] at this;exact (decide_eq_false (fun h=>by have:=this.1 h;cases this)).symm
   ·rw [ht] at this;exact (decide_eq_true (this.2 rfl)).symm
  ·have:f∉M.wrs x.d.p 0 ds:=fun h=>by
    obtain ⟨i,hi,e,_⟩:=M.mem_wrs.1 h
    omega
   rw [decide_eq_false this]
   rcases Int.lt_or_le f 0 with hl | hl
   ·exact M.tell_low h h1 (by omega)
   ·exact M.tell_high h h1 (by omega)
theorem M.sFrom_eq {ds:List M.De} {rows:List (List Int)} (hrow:rows.length=3) (ho:M.orderAt ds 0 rows=true):∀ (xs:List M.De) (l:List Int),(∀ x∈xs,x.reads=true→0≤x.d.p∧x.d.p < 3)→M.sFrom rows xs l=M.fromAt ds xs l:=by
 intro xs
 induction xs with
 | nil=>intro l _;cases l<;>rfl
 | cons x xs ih =>
  intro l hp
  cases l with
  | nil=>rfl
  | cons f l =>
   rw [M.sFrom,M.fromAt,ih l (fun y hy=>hp y (List.mem_cons_of_mem _ hy))]
   congr 1
   cases hr:x.reads
   ·rw [M.tell_no hr,M.sTell,if_neg (by rw [hr];simp)]
   ·obtain ⟨h0,h3⟩:=hp x (List.mem_cons_self ..) hr
    have hlt:x.d.p.toNat < rows.length:=by omega
    rw [M.tell_wrs hr,M.sTell,if_pos hr,List.getD_eq_getElem?_getD,List.getElem?_eq_getElem hlt]
    congr 1
    have hg:=M.orderAt_get ho _ hlt
    rw [show ((0+x.d.p.toNat:Nat):Int)=x.d.p from by omega] at hg
    have:=M.isRow_mem hg f
    show M.has rows[x.d.p.toNat] f=_
    rw [Bool.eq_iff_iff,decide_eq_true_eq,← this]
    simp [M.has]
theorem M.way_eq {ds:List M.De} {l:List Int} {rows:List (List Int)} (hp:∀ x∈ds,x.reads=true→0≤x.d.p∧x.d.p < 3):M.sForm ds l rows=(M.fromOk ds l&&M.orderOk ds rows):=by
 unfold M.sForm M.fromOk M.orderOk
 by_cases h1:l.length=ds.length
 ·by_cases h2:rows.length=3
  ·cases h3:M.orderAt ds 0 rows
   ·simp
   ·rw [M.sFrom_eq h2 h3 ds l hp]
    simp [h1,h2]
  ·simp [h2]
 ·simp [h1]
end
section
open Go.RowKit
theorem M.deed_p {ll:List (List M.D)} (h:M.prog ll=true):∀ x∈M.deeds ll,x.reads=true→0≤x.d.p∧x.d.p < 3:=by
 intro x hx hr
 have:=M.deed_do h x hx
 simp only [M.doOk,Bool.and_eq_true,M.placeOk] at this
 have hv:=this.1.2
 rw [if_pos (by rw [M.uses,show M.reads x.d.k=true from hr];rfl)] at hv
 simpa using hv
set_option maxHeartbeats 1000000 in
set_option maxRecDepth 100000 in
theorem sexecOk_any (a:Option Addr) (b o c:Nat) (ll:List (List M.D)) (fa:Option Addr) (fb fo fc:Nat) (l:List Int) (ra:Option Addr) (rb ro rc:Nat) (rows:List (List Int)) (w:World) (hl:ll.length≤1048576) (hls:∀ t∈ll,t.length≤1048576) (hl1:l.length≤1048576) (hrs:∀ r∈rows,r.length≤1048576) (h:DoSS w a b o ll) (hf:IntS w fa fb fo l) (hr:IntSS w ra rb ro rows) :
  Calls Tryz.prog 84 #[.agg #[.slice a ll.length c],.agg #[.slice fa l.length fc,.slice ra rows.length rc]] w fun e w'=>e=.returned (.bool (M.execOk ll l rows))∧Below w.heap.size w w':=by
 have hb2:=below2 w (.cells #[.slice a ll.length c] 25) (.cells #[.slice fa l.length fc,.slice ra rows.length rc] 33)
 have kp:((w.alloc (.cells #[.slice a ll.length c] 25)).alloc (.cells #[.slice fa l.length fc,.slice ra rows.length rc] 33)).cell? ⟨w.heap.size,0,none⟩=some (.slice a ll.length c):=by simp
 have k0:((w.alloc (.cells #[.slice a ll.length c] 25)).alloc (.cells #[.slice fa l.length fc,.slice ra rows.length rc] 33)).cell? ⟨w.heap.size+1,0,none⟩=some (.slice fa l.length fc):=by simp
 have k1:((w.alloc (.cells #[.slice a ll.length c] 25)).alloc (.cells #[.slice fa l.length fc,.slice ra rows.length rc] 33)).cell? ⟨w.heap.size+1,1,none⟩=some (.slice ra rows.length rc):=by simp
 replace h:=h.below hb2 (Nat.le_refl _)
 replace hf:=hf.below hb2 (Nat.le_refl _)
 replace hr:=hr.below hb2 (Nat.le_refl _)
 go_enter Tryz.func84,Tryz.ntmps84
 go_wp2_with fail
 generalize (w.alloc (.cells #[.slice a ll.length c] 25)).alloc (.cells #[.slice fa l.length fc,.slice ra rows.length rc] 33)=W at *
 have lw1:w.heap.size+1 < W.heap.size:=World.block_lt_of_cell? _ _ k0
 have lw:w.heap.size < W.heap.size:=World.block_lt_of_cell? _ _ kp
 have C1:=sprog_any a b o c ll W hl hls h
 cases hp:M.prog ll
 ·rw [hp] at C1
  refine C1.mono ?_
  rintro e w1 ⟨rfl,hb1⟩
  go_wp2_with fail
  go_ret
  exact ⟨ret_bool (by simp [M.execOk,hp]),hb2.trans (hb1.mono hb2.size)⟩
 ·rw [hp] at C1
  obtain ⟨h3,h7⟩:=M.prog_bounds hp
  have hdl:=M.deeds_len h3 h7
  have HE:Hid (M.evAll ll=(M.deeds ll).map M.De.ev):=by show _=_;simp [M.evAll,hp,M.events]
  have HX:Hid (M.execOk ll l rows=((M.fromOk (M.deeds ll) l&&M.orderOk (M.deeds ll) rows)&&M.ends (M.deeds ll) l)):=by show _=_;simp [M.execOk,hp,M.wayOk,Bool.and_assoc]
  refine C1.mono ?_
  rintro e w1 ⟨rfl,hb1⟩
  have kp1:=(hb1.cell (p:=⟨w.heap.size,0,none⟩) lw).trans kp
  go_wp2_with fail
  refine (sexecEvents_any a b o c ll w1 hl hls (h.below hb1 (Nat.le_refl _))).mono ?_
  rintro e w2 ⟨v2,rfl,hown2,hb3⟩
  obtain ⟨va,g,cap,rfl,hev,_,_⟩:=own_rs M.Ev.len hown2
  rw [HE.out] at hev
  have hd:=DvS.of hev
  have hle:(M.evAll ll).length=(M.deeds ll).length:=by rw [HE.out,List.length_map]
  rw [hle]
  have hb12:=hb1.trans (hb3.mono hb1.size)
  have kp2:=(hb12.cell (p:=⟨w.heap.size,0,none⟩) lw).trans kp
  have k02:=(hb12.cell (p:=⟨w.heap.size+1,0,none⟩) lw1).trans k0
  have k12:=(hb12.cell (p:=⟨w.heap.size+1,1,none⟩) lw1).trans k1
  have h2:=h.below hb12 (Nat.le_refl _)
  have hf2:=hf.below hb12 (Nat.le_refl _)
  have hr2:=hr.below hb12 (Nat.le_refl _)
  have hbZ:=hb2.trans (hb12.mono hb2.size)
  have lw12:=Nat.lt_of_lt_of_le lw1 hb12.size
  have lw2:=Nat.lt_of_lt_of_le lw hb12.size
  have C4:=l12Form_any a b o c ll va g cap fa fb fo fc l ra rb ro rc rows w2 hl hls hdl (M.deed_p hp) hl1 hrs h2 hd hf2 hr2
  rw [M.way_eq (M.deed_p hp)] at C4
  clear hle hown2 hev kp k0 k1 kp1 HE C1
  cases hw:(M.fromOk (M.deeds ll) l&&M.orderOk (M.deeds ll) rows)
  ·rw [hw] at C4
   go_wp2_with fail
   refine C4.mono ?_
   rintro e w3 ⟨rfl,hb4⟩
   go_wp2_with fail
   go_ret
   exact ⟨ret_bool (by rw [HX.out,hw];rfl),hbZ.trans (hb4.mono hbZ.size)⟩
  ·rw [hw] at C4
   have hfo:M.fromOk (M.deeds ll) l=true:=by
    simp only [Bool.and_eq_true] at hw;exact hw.1
   have HIN:=M.in_of hfo
   have HLN:Hid (l.length=(M.deeds ll).length):=by
    show _=_
    simp only [M.fromOk,Bool.and_eq_true,decide_eq_true_eq] at hfo
    exact hfo.1
   go_wp2_with fail
   refine C4.mono ?_
   rintro e w3 ⟨rfl,hb4⟩
   have kp3:=(hb4.cell (p:=⟨w.heap.size,0,none⟩) lw2).trans kp2
   have k03:=(hb4.cell (p:=⟨w.heap.size+1,0,none⟩) lw12).trans k02
   have k13:=(hb4.cell (p:=⟨w.heap.size+1,1,none⟩) lw12).trans k12
   have C5:=l12Ends_any a b o c ll va g cap fa fb fo fc l (.slice ra rows.length rc) w3 hl hls hdl HLN HIN (h2.below hb4 (Nat.le_refl _)) (hd.bel hb4 (Nat.le_refl _)) (hf2.below hb4 (Nat.le_refl _))
   rw [M.vEnds_eq HIN (M.deed_v hp) HLN.out] at C5
   have hbY:=hbZ.trans (hb4.mono hbZ.size)
   clear kp2 k02 k12 hfo
   go_wp2_with fail
   refine C5.mono ?_
   rintro e w4 ⟨rfl,hb5⟩
   go_wp2_with fail
   go_ret
   exact ⟨ret_bool (by rw [HX.out,hw];rfl),hbY.trans (hb5.mono hbY.size)⟩
end
section
open Go.RowKit
theorem stays1_any (t:Lp) (u:Lq) (a b:Nat) (x y:M.De) (w:World) (hk:t.Ok) (h:u.At t w) (hx:(M.deeds t.ll)[a]?=some x) (hy:(M.deeds t.ll)[b]?=some y) :
  Calls Tryz.prog 140 #[.pointer (some ⟨t.O,0,none⟩),.int .i64 1,.int .i64 (a:Int),.int .i64 (b:Int)] w fun e w'=>e=.returned (.bool (M.stays (M.deeds t.ll) 1 a b x y))∧Below w.heap.size w w':=by
 go_enter Tryz.func140,Tryz.ntmps140
 go_wp2_with fail
 refine (sown_any t a b x y w hk h.p hx hy).mono ?_
 rintro e w1 ⟨rfl,hb1⟩
 go_wp2_with fail
 go_ret
 exact ⟨rfl,hb1⟩
theorem stays3_any (t:Lp) (u:Lq) (a b:Nat) (x y:M.De) (w:World) (hk:t.Ok) (h:u.At t w) (hx:(M.deeds t.ll)[a]?=some x) (hy:(M.deeds t.ll)[b]?=some y) :
  Calls Tryz.prog 140 #[.pointer (some ⟨t.O,0,none⟩),.int .i64 3,.int .i64 (a:Int),.int .i64 (b:Int)] w fun e w'=>e=.returned (.bool (M.stays (M.deeds t.ll) 3 a b x y))∧Below w.heap.size w w':=by
 go_enter Tryz.func140,Tryz.ntmps140
 go_wp2_with fail
 refine (sloose_any t u a b x y w hk h hx hy).mono ?_
 rintro e w1 ⟨rfl,hb1⟩
 go_wp2_with fail
 go_ret
 exact ⟨rfl,hb1⟩
end
section
open Go.RowKit
namespace M
end M
theorem way_any (t:Lp) (u:Lq) (w0 w:World) (od:Nat) (hk:t.Ok) (hpl:∀ x∈M.deeds t.ll,x.uses=true→0≤x.d.p∧x.d.p < 3) (hpos:0 < (M.deeds t.ll).length) (HL:Hid (u.l.length=(M.deeds t.ll).length)) (H3:Hid (u.rows.length=3)) (hrl:∀ r∈u.rows,r.length≤1048576) (rb ro:Nat)
  (h0:Below w0.heap.size w0 w) (hO:w0.heap.size≤t.O) (hOl:t.O < w.heap.size) (ss:DoSS w0 t.a t.b t.o t.ll) (hf:IntS w0 (some ⟨u.fb,u.fo,none⟩) u.fb u.fo u.l) (hr:IntSS w0 (some ⟨rb,ro,none⟩) rb ro u.rows)
  (blk:w.heap[t.O]?=some (.cells #[.slice t.a t.ll.length t.c,.slice (some ⟨t.g,0,none⟩) (M.deeds t.ll).length t.cc,.slice (some ⟨u.rb,0,none⟩) (M.deeds t.ll).length u.rc,.slice (some ⟨u.wb,0,none⟩) (M.deeds t.ll).length u.wc,.slice none 0 0,.slice none 0 0] 177 (0,0)))
  (dv:DvS w (some ⟨t.g,0,none⟩) t.g (M.deeds t.ll)) (rd:∀ n x,(M.deeds t.ll)[n]?=some x→w.cell? ⟨u.rb,n,none⟩=some (.bool (M.reads x.d.k))) (wrt:∀ n x,(M.deeds t.ll)[n]?=some x→w.cell? ⟨u.wb,n,none⟩=some (.bool (M.writes x.d.k))) (hkb:u.kb=w.heap.size+1) (hkc:u.kc=(M.deeds t.ll).length) :
  Calls Tryz.prog 89 #[.pointer (some ⟨t.O,0,none⟩),.agg #[.slice (some ⟨u.fb,u.fo,none⟩) u.l.length u.fc,.slice (some ⟨rb,ro,none⟩) u.rows.length od]] w fun e w'=>e=.returned (.tuple #[])∧u.At t w'∧But t.O w w' :=
 (wayG_any t u w0 w od hk hpl hpos HL H3 hrl rb ro h0 hO hOl ss hf hr blk dv rd wrt hkb hkc).mono fun _ _ ⟨h1,h2,h3,_⟩=>⟨h1,h2,h3⟩
end
end Go.Proofs.YtegommoflmmahaaGreat
