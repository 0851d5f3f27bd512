/- spec's orders by none of them: of one place. spec's nets with one link more. And what goes with it: HsWith, HsOrd, HsOut, HsWait, HsE, HsG. -/
import Derived.Test.YtjjkicffhpcngaaGreatBWbj
namespace Go.Proofs.YtjjkicffhpcngaaGreat
open Go.RowKit
set_option maxHeartbeats 400000 in
set_option maxRecDepth 100000 in
theorem told0_any (t:Lp) (u:Lq) (a b:Nat) (x y:M.De) (w:World) (hk:t.Ok) (h:u.At t w) (hx:(M.deeds t.ll)[a]?=some x) (hy:(M.deeds t.ll)[b]?=some y) :
  Calls Tryz.prog 132 #[.pointer (some ⟨t.O,0,none⟩),.int .i64 0,.int .i64 (a:Int),.int .i64 (b:Int)] w fun e w'=>e=.returned (.bool (M.told u.l u.rows 0 a b x y))∧Below w.heap.size w w':=by
 have ha:=Lp.lt hx
 have hb:=Lp.lt hy
 have i1:(a:Int) < (M.deeds t.ll).length:=by omega
 have i2:(b:Int) < (M.deeds t.ll).length:=by omega
 have K0:=BelowOf.cell h.p.l0
 have C0:=BelowOf.cell (h.p.el hx).c0
 have D0:=BelowOf.cell (h.p.el hy).c0
 haveI:Inhabited (BelowOf w):=⟨belOf w⟩
 go_enter Tryz.func132,Tryz.ntmps132
 go_wp2_with fail
 refine wp_region_quiet_bel (by kernel_rfl) (by kernel_rfl) ?_
 repeat (quiet_step (fail))
 refine wpQuiet_nil ?_
 rintro _ ⟨⟨wq,hwq⟩,rfl⟩
 have h1:=h.below hwq
 clear K0 C0 D0
 have tw:((x.t:Int) != (y.t:Int))=M.two x y:=by rw [Bool.eq_iff_iff];simp [M.two];omega
 rw [tw]
 clear tw
 go_wp2_with fail
 have C1:=sread_any t u a b x y _ hk h1 hx hy
 cases r1:M.sRead u.l a b x y
 ·rw [r1] at C1
  refine C1.mono ?_
  rintro e w2 ⟨rfl,hb2⟩
  have hc:=hwq.trans (hb2.mono hwq.size)
  go_wp2_with fail
  refine (sover_any t u a b x y _ hk (h.below hc) hx hy).mono ?_
  rintro e w3 ⟨rfl,hb3⟩
  go_wp2_with fail
  go_ret
  exact ⟨ret_bool (by simp [M.told,r1]),hc.trans (hb3.mono hc.size)⟩
 ·rw [r1] at C1
  refine C1.mono ?_
  rintro e w2 ⟨rfl,hb2⟩
  go_wp2_with fail
  go_ret
  exact ⟨ret_bool (by simp [M.told,r1]),hwq.trans (hb2.mono hwq.size)⟩
set_option maxHeartbeats 400000 in
set_option maxRecDepth 100000 in
set_option maxHeartbeats 1000000 in
set_option maxRecDepth 100000 in
theorem withNet_any (X G n c:Nat) (va:Option Addr) (rb rc:Nat→Nat) (A:Nat→Nat→Bool) (a b:Nat) (w:World) (hn:n≤28) (ha:a < n) (hb:b < n) (h:NtAt w X G n c va rb rc A) :
  Calls Tryz.prog 133 #[.pointer (some ⟨X,0,none⟩),.int .i64 a,.int .i64 b] w fun e w'=>∃ X',e=.returned (.pointer (some ⟨X',0,none⟩))∧(∃ G' c' va' rb' rc',NtO w' w.heap.size X' G' n c' va' rb' rc' (M.setA A (a,b)))∧Below w.heap.size w w':=by
 have ha':(a:Int) < n:=by omega
 have hb':(b:Int) < n:=by omega
 go_enter Tryz.func133,Tryz.ntmps133
 go_wp2_with fail
 refine (copy_any X G n c va rb rc A w hn h).mono ?_
 rintro e w1 ⟨X1,rfl,⟨G1,c1,va1,rb1,rc1,hO⟩,b1⟩
 obtain ⟨rfl⟩:=hO.nt.addr (by omega)
 have k0:=hO.nt.box
 have k1:=hO.nt.outer a ha
 have k2:=hO.nt.row a ha b hb
 have k3:=hO.fz a ha b
 go_wp2_with fail
 go_ret
 exact ⟨X1,rfl,⟨G1,c1,_,rb1,rc1,hO.set ha hb⟩,b1.setCell (hO.ge a ha) _⟩
end Go.Proofs.YtjjkicffhpcngaaGreat
namespace Go.Proofs.YtjjkicffhpcngaaGreat
open Go.RowKit
theorem rowIs_own {w:World} {b:Nat} {t:TypeId} {n:Nat} {l:List Bool} (h:w.rowIs b t n (fun j=>.bool (l.getD j false))) (hl:l.length=n) (hn:n≤1048576):w.ownsRow b t 1 (.slice (some ⟨b,0,none⟩) n n) n (bools l):=by
 obtain ⟨c,h1,h2,h3⟩:=h
 refine ⟨by simp [bools,hl],.inr ⟨b,n,c,rfl,Nat.le_refl _,h1,Nat.le_refl _,by unfold maxLen;omega,by omega,?_⟩⟩
 rw [Nat.mul_one,List.take_of_length_le (by simp;omega)]
 apply List.ext_getElem?
 intro i
 rcases Nat.lt_or_ge i n with hi | hi
 ·have:=h3 i hi
  rw [Array.getElem?_toList,this]
  simp [bools,hl,hi]
 ·rw [List.getElem?_eq_none (by simp;omega),List.getElem?_eq_none (by simp [bools];omega)]
def M.staysAt (ds:List M.De) (k a b:Nat):Bool:=match ds[a]?,ds[b]? with | some x,some y=>M.stays ds k a b x y | _,_=>false
def M.toldAt (ds:List M.De) (l:List Int) (rows:List (List Int)) (k a b:Nat):Bool:=match ds[a]?,ds[b]? with | some x,some y=>M.told l rows k a b x y | _,_=>false
theorem M.staysAt_of {ds:List M.De} {k a b:Nat} {x y:M.De} (hx:ds[a]?=some x) (hy:ds[b]?=some y):M.staysAt ds k a b=M.stays ds k a b x y:=by unfold M.staysAt;rw [hx,hy]
theorem M.toldAt_of {ds:List M.De} {l:List Int} {rows:List (List Int)} {k a b:Nat} {x y:M.De} (hx:ds[a]?=some x) (hy:ds[b]?=some y):M.toldAt ds l rows k a b=M.told l rows k a b x y:=by unfold M.toldAt;rw [hx,hy]
def M.orTo (A T:Nat→Nat→Bool) (k q:Nat):Nat→Nat→Bool:=fun a b=>A a b||(T a b&&(decide (a < k)||(a==k&&decide (b < q))))
theorem M.orTo_yes {A T:Nat→Nat→Bool} {k q:Nat} (h:T k q=true):M.setA (M.orTo A T k q) (k,q)=M.orTo A T k (q+1):=by
 funext a b
 unfold M.setA M.orTo
 by_cases h1:a=k
 ·subst h1
  by_cases h2:b=q
  ·subst h2;simp [h]
  ·have e2:(b==q)=false:=by simpa using h2
   have e3:decide (b < q+1)=decide (b < q):=by rw [decide_eq_decide];omega
   simp [e2,e3]
 ·have e1:(a==k)=false:=by simpa using h1
  simp [e1]
theorem M.orTo_no {A T:Nat→Nat→Bool} {k q:Nat} (h:T k q=false):M.orTo A T k (q+1)=M.orTo A T k q:=by
 funext a b
 unfold M.orTo
 by_cases h1:a=k
 ·subst h1
  by_cases h2:b=q
  ·subst h2;simp [h]
  ·have e3:decide (b < q+1)=decide (b < q):=by rw [decide_eq_decide];omega
   simp [e3]
 ·have e1:(a==k)=false:=by simpa using h1
  simp [e1]
theorem M.orTo_next {A T:Nat→Nat→Bool} {k n a b:Nat} (hb:b < n):M.orTo A T k n a b=M.orTo A T (k+1) 0 a b:=by
 unfold M.orTo
 congr 2
 by_cases h1:a=k
 ·subst h1;simp [hb]
 ·have e1:(a==k)=false:=by simpa using h1
  have e3:decide (a < k+1)=decide (a < k):=by rw [decide_eq_decide];omega
  simp [e1,e3]
theorem M.orTo_start {A T:Nat→Nat→Bool} {a b:Nat}:M.orTo A T 0 0 a b=A a b:=by simp [M.orTo]
theorem M.orTo_end {A T:Nat→Nat→Bool} {n a b:Nat} (ha:a < n):M.orTo A T n 0 a b=(A a b||T a b):=by simp [M.orTo,ha]
theorem NtAt.congr {w:World} {X G n c:Nat} {va:Option Addr} {rb rc:Nat→Nat} {A A':Nat→Nat→Bool} (h:NtAt w X G n c va rb rc A) (he:∀ a b,a < n→b < n→A a b=A' a b):NtAt w X G n c va rb rc A' :=
 ⟨h.box,h.addr,h.outer,fun a ha b hb=>by rw [h.row a ha b hb,he a b ha hb]⟩
theorem NtO.congr {w:World} {B X G n c:Nat} {va:Option Addr} {rb rc:Nat→Nat} {A A':Nat→Nat→Bool} (h:NtO w B X G n c va rb rc A) (he:∀ a b,a < n→b < n→A a b=A' a b):NtO w B X G n c va rb rc A' :=
 ⟨h.nt.congr he,h.geX,h.ge,h.fz,h.ap,h.apX,h.apG⟩
set_option maxHeartbeats 4000000 in
set_option maxRecDepth 100000 in
theorem whole_of (t:Lp) (u:Lq) (k:Nat) (X G c:Nat) (va:Option Addr) (rb rc:Nat→Nat) (A:Nat→Nat→Bool) (w:World) (hn:(M.deeds t.ll).length≤28) (h:u.At t w) (hA:NtAt w X G (M.deeds t.ll).length c va rb rc A)
  (hS:∀ (a b:Nat) (x y:M.De) (w:World),u.At t w→(M.deeds t.ll)[a]?=some x→(M.deeds t.ll)[b]?=some y→Calls Tryz.prog 132 #[.pointer (some ⟨t.O,0,none⟩),.int .i64 k,.int .i64 (a:Int),.int .i64 (b:Int)] w fun e w'=>e=.returned (.bool (M.told u.l u.rows k a b x y))∧Below w.heap.size w w') :
  Calls Tryz.prog 87 #[.pointer (some ⟨t.O,0,none⟩),.pointer (some ⟨X,0,none⟩),.int .i64 k] w fun e w'=>∃ X',e=.returned (.pointer (some ⟨X',0,none⟩))∧(∃ G' c' va' rb' rc',NtO w' w.heap.size X' G' (M.deeds t.ll).length c' va' rb' rc' (fun a b=>A a b||M.toldAt (M.deeds t.ll) u.l u.rows k a b))∧Below w.heap.size w w':=by
 have HA:Hid (∀ a b x y,(M.deeds t.ll)[a]?=some x→(M.deeds t.ll)[b]?=some y→M.toldAt (M.deeds t.ll) u.l u.rows k a b=M.told u.l u.rows k a b x y):=fun a b x y hx hy=>M.toldAt_of hx hy
 generalize M.toldAt (M.deeds t.ll) u.l u.rows k=T at *
 go_enter Tryz.func87,Tryz.ntmps87
 go_wp2_with fail
 refine (copy_any X G _ c va rb rc A w hn hA).mono ?_
 rintro e W1 ⟨X1,rfl,⟨G1,c1,va1,rb1,rc1,hO⟩,b1⟩
 have hU1:=h.below b1
 clear hA
 go_wp2_with fail
 go_loopw [8] (fun s8 wr=>∃ m:Nat,s8=.int .i64 m∧m≤(M.deeds t.ll).length∧NtO wr w.heap.size X1 G1 (M.deeds t.ll).length c1 va1 rb1 rc1 (M.orTo A T m 0)∧Below w.heap.size w wr) (fun s8 _=>(M.deeds t.ll).length - (intOf s8).toNat)
 case atStart=>exact ⟨0,rfl,Nat.zero_le _,hO.congr (fun a b _ _=>M.orTo_start.symm),b1⟩
 case round =>
  obtain ⟨m,rfl,hm,hOr,hbel⟩:=hrel
  clear hO hU1 b1
  have hU:=h.below hbel
  have l0:=hU.p.l0
  by_cases hmn:m < (M.deeds t.ll).length
  ·have hmn':(m:Int) < (M.deeds t.ll).length:=by omega
   have hx:=List.getElem?_eq_getElem hmn
   generalize (M.deeds t.ll)[m]=x at hx
   obtain ⟨rfl⟩:=hOr.nt.addr (by omega)
   go_wp2_with fail
   go_loopw [9] (fun s9 wi=>∃ q:Nat,s9=.int .i64 q∧q≤(M.deeds t.ll).length∧NtO wi w.heap.size X1 G1 (M.deeds t.ll).length c1 (some ⟨G1,0,none⟩) rb1 rc1 (M.orTo A T m q)∧Below w.heap.size w wi) (fun s9 _=>(M.deeds t.ll).length - (intOf s9).toNat)
   case atStart=>exact ⟨0,rfl,Nat.zero_le _,hOr,hbel⟩
   case round =>
    obtain ⟨q,rfl,hq,hOi,hbi⟩:=hrel
    have hUi:=h.below hbi
    clear l0
    have l0:=hUi.p.l0
    by_cases hqn:q < (M.deeds t.ll).length
    ·have hqn':(q:Int) < (M.deeds t.ll).length:=by omega
     have hy:=List.getElem?_eq_getElem hqn
     generalize (M.deeds t.ll)[q]=y at hy
     have C:=hS m q x y wr hUi hx hy
     rw [← HA.out m q x y hx hy] at C
     cases hT:T m q
     ·have HO:Hid (M.orTo A T m (q+1)=M.orTo A T m q):=M.orTo_no hT
      rw [hT] at C
      clear hT
      go_wp2_with fail
      refine C.mono ?_
      rintro e W2 ⟨rfl,b2⟩
      clear l0
      go_wp2_with fail
      exact ⟨⟨q+1,by go_num,by omega,by rw [HO.out];exact hOi.below b2,hbi.trans (b2.mono hbi.size)⟩,by simp [intOf];omega⟩
     ·have HO:Hid (M.setA (M.orTo A T m q) (m,q)=M.orTo A T m (q+1)):=M.orTo_yes hT
      rw [hT] at C
      clear hT
      go_wp2_with fail
      refine C.mono ?_
      rintro e W2 ⟨rfl,b2⟩
      have hO2:=hOi.below b2
      have b22:=hbi.trans (b2.mono hbi.size)
      have k0:=hO2.nt.box
      have k1:=hO2.nt.outer m hmn
      have k2:=hO2.nt.row m hmn q hqn
      have k3:=hO2.fz m hmn q
      clear l0
      go_wp2_with fail
      exact ⟨⟨q+1,by go_num,by omega,by rw [← HO.out];exact hO2.set hmn hqn,b22.setCell (hO2.ge m hmn) _⟩,by simp [intOf];omega⟩
    ·have hqe:q=(M.deeds t.ll).length:=by omega
     have hqn':¬ (q:Int) < (M.deeds t.ll).length:=by omega
     have hO3:=hOi.congr (A':=M.orTo A T (m+1) 0) (fun a b _ hb=>by rw [hqe];exact M.orTo_next hb)
     clear hqe
     go_wp2_with fail
     exact ⟨⟨m+1,by go_num,by omega,hO3,hbi⟩,by simp [intOf];omega⟩
  ·have hme:m=(M.deeds t.ll).length:=by omega
   have hmn':¬ (m:Int) < (M.deeds t.ll).length:=by omega
   have hO3:=hOr.congr (A':=fun a b=>A a b||T a b) (fun a b ha _=>by rw [hme];exact M.orTo_end ha)
   clear hme
   go_wp2_with fail
   go_ret
   exact ⟨_,rfl,⟨G1,c1,va1,rb1,rc1,hO3⟩,hbel⟩
end Go.Proofs.YtjjkicffhpcngaaGreat
namespace Go.Proofs.YtjjkicffhpcngaaGreat
open Go.RowKit
namespace M
theorem deT_t (t:Nat):∀ (l:List D) (i:Nat) (lr:Int) (n:Nat),∀ x∈deT t i lr n l,x.t=t:=by
 intro l
 induction l with
 | nil=>intro i lr n x hx;simp [deT] at hx
 | cons d l ih =>
  intro i lr n x hx
  rw [deT] at hx
  rcases List.mem_append.1 hx with hx | hx
  ·unfold deD at hx
   split at hx
   ·simp only [List.mem_cons,List.not_mem_nil,or_false] at hx
    rcases hx with rfl | rfl<;>rfl
   ·simp only [List.mem_cons,List.not_mem_nil,or_false] at hx
    subst hx;rfl
  ·exact ih _ _ _ x hx
theorem out_same:∀ (ll:List (List D)) (t n:Nat),(∀ l∈ll,readers false l=true)→∀ a (ha:a < (deF t n ll).length),(deF t n ll)[a].d.k=7→∃ m,a < m∧∃ hm:m < (deF t n ll).length,(deF t n ll)[m].d.k=8∧(deF t n ll)[m].t=(deF t n ll)[a].t∧∀ q (hq:q < (deF t n ll).length),a < q→q < m→(deF t n ll)[q].d.k≠8:=by
 intro ll
 induction ll with
 | nil=>intro t n _ a ha;simp [deF] at ha
 | cons l ll ih =>
  intro t n hr a ha h7
  have hT:=run_T t l 0 (-1) n false (hr l (by simp))
  have ht:=deT_t t l 0 (-1) n
  have hI:=ih (t+1) (n+(deT t 0 (-1) n l).length) (fun x hx=>hr x (List.mem_cons_of_mem _ hx))
  have e:deF t n (l::ll)=deT t 0 (-1) n l++deF (t+1) (n+(deT t 0 (-1) n l).length) ll:=rfl
  generalize deT t 0 (-1) n l=sg at *
  generalize deF (t+1) (n+sg.length) ll=rs at *
  generalize deF t n (l::ll)=ds at *
  subst e
  by_cases h1:a < sg.length
  ·rw [List.getElem_append_left h1] at h7
   obtain ⟨hm,h8⟩:=out_at hT h1 h7
   have hge:a≤outOf sg a:=by unfold outOf;exact outFrom_ge _ _
   have hne:a≠outOf sg a:=fun e=>by
    have e2:sg[a]=sg[outOf sg a]:=by congr 1
    rw [← e2,h7] at h8
    cases h8
   refine ⟨outOf sg a,by omega,by simp;omega,?_,?_,fun q hq q1 q2=>?_⟩
   ·rw [List.getElem_append_left hm];exact h8
   ·rw [List.getElem_append_left hm,List.getElem_append_left h1,ht _ (List.getElem_mem hm),ht _ (List.getElem_mem h1)]
   ·rw [List.getElem_append_left (by omega)]
    exact (le_outOf (a:=a) (b:=outOf sg a) (by omega) (by omega)).1 (Nat.le_refl _) q (by omega) (by omega) q2
  ·rw [List.getElem_append_right (by omega)] at h7
   rw [List.length_append] at ha
   obtain ⟨m,m1,m2,m3,m4,m5⟩:=hI (a - sg.length) (by omega) h7
   refine ⟨sg.length+m,by omega,by rw [List.length_append];omega,?_,?_,fun q hq q1 q2=>?_⟩
   ·rw [List.getElem_append_right (by omega)]
    simpa using m3
   ·rw [List.getElem_append_right (by omega),List.getElem_append_right (by omega)]
    simpa using m4
   ·rw [List.length_append] at hq
    rw [List.getElem_append_right (by omega)]
    exact m5 (q - sg.length) (by omega) (by omega) (by omega)
theorem readers_of {ll:List (List D)} (h:prog ll=true):∀ l∈ll,readers false l=true:=fun l hl=>by
 simp only [prog,Bool.and_eq_true,decide_eq_true_eq] at h
 have:=from_thr ll 0 0 h.2 l hl
 simp only [thread,Bool.and_eq_true] at this
 exact this.2
theorem out_deeds {ll:List (List D)} (hp:prog ll=true) {a:Nat} (ha:a < (deeds ll).length) (h7:(deeds ll)[a].d.k=7):∃ m,a < m∧∃ hm:m < (deeds ll).length,(deeds ll)[m].d.k=8∧(deeds ll)[m].t=(deeds ll)[a].t∧∀ q (hq:q < (deeds ll).length),a < q→q < m→(deeds ll)[q].d.k≠8 :=
 out_same ll 0 0 (readers_of hp) a ha h7
theorem out_first {ds:List De} {a m:Nat} (ham:a < m) (hm:m < ds.length) (h7:(ds[a]'(by omega)).d.k=7) (h8:ds[m].d.k=8) (hn:∀ q (hq:q < ds.length),a < q→q < m→ds[q].d.k≠8):outOf ds a=m:=by
 have h1:m≤outOf ds a:=(le_outOf (by omega) (by omega)).2 (fun q hq q1 q2=>by
  by_cases e:q=a
  ·subst e;rw [h7];decide
  ·exact hn q hq (by omega) q2)
 have h2:¬ m+1≤outOf ds a:=fun h=>(le_outOf (by omega) (by omega)).1 h m hm (by omega) (by omega) h8
 omega
end M
set_option maxHeartbeats 1000000 in
set_option maxRecDepth 100000 in
theorem outs_any (t:Lp) (a:Nat) (w:World) (hk:t.Ok) (hp:M.prog t.ll=true) (h:t.At w) (ha:a < (M.deeds t.ll).length) (h7:(M.deeds t.ll)[a].d.k=7) :
  Calls Tryz.prog 134 #[.pointer (some ⟨t.O,0,none⟩),.int .i64 a] w fun e w'=>e=.returned (.int .i64 (M.outOf (M.deeds t.ll) a:Nat))∧Below w.heap.size w w':=by
 obtain ⟨m,ham,hm,h8,hth,hno⟩:=M.out_deeds hp ha h7
 have ho:=M.out_first (ds:=M.deeds t.ll) ham hm h7 h8 hno
 rw [ho]
 have hdl:=hk.dl
 have HX:Hid (∀ q (hq:q < (M.deeds t.ll).length),q < m→a < q→(M.deeds t.ll)[q].d.k≠8):=fun q hq h1 h2=>hno q hq h2 h1
 have HM8:Hid ((M.deeds t.ll)[m].d.k=8):=h8
 have HTH:Hid ((M.deeds t.ll)[m].t=(M.deeds t.ll)[a].t):=hth
 have hxa:=List.getElem?_eq_getElem ha
 clear ho hno h8 hth h7
 go_enter Tryz.func134,Tryz.ntmps134
 go_wp2_with fail
 go_loopw [5] (fun s5 wr=>∃ k:Nat,s5=.int .i64 k∧a < k∧k≤m∧Below w.heap.size w wr) (fun s5 _=>m - (intOf s5).toNat)
 case atStart=>exact ⟨a+1,by go_num,by omega,by omega,Below.refl _ _⟩
 case round =>
  obtain ⟨k,rfl,hak,hkm,hbel⟩:=hrel
  have hA:=h.below hbel
  have l0:=hA.l0
  have hkn:k < (M.deeds t.ll).length:=by have:m < (M.deeds t.ll).length:=hm;omega
  have hkn':(k:Int) < (M.deeds t.ll).length:=by omega
  have hy:=List.getElem?_eq_getElem hkn
  have C1:=sown_any t a k _ _ wr hk hA hxa hy
  have C2:=fun W (hW:t.At W)=>do_any t k _ W hk hW hy
  by_cases hke:k=m
  ·subst hke
   have hk8:(M.deeds t.ll)[k].d.k=8:=HM8.out
   have hown:M.own a k (M.deeds t.ll)[a] (M.deeds t.ll)[k]=true:=by
    have e:((M.deeds t.ll)[k]'hkn).t=((M.deeds t.ll)[a]'ha).t:=HTH.out
    unfold M.own
    rw [e]
    simp [hak]
   rw [hown] at C1
   rw [hk8] at C2
   generalize (M.deeds t.ll)[k].d.p=dp at *
   generalize (M.deeds t.ll)[k].d.v=dv at *
   clear hown hk8 hy
   have hF:=fun W=>Tryz.fld0 (.int .i64 8) (.int .i64 dp) (.int .i64 dv) W
   go_wp2_with fail
   refine C1.mono ?_
   rintro e W1 ⟨rfl,b1⟩
   clear l0
   go_wp2_with fail
   refine (C2 W1 (hA.below b1)).mono ?_
   rintro e W2 ⟨rfl,b2⟩
   have bw1:=hbel.trans (b1.mono hbel.size)
   go_wp2_with fail
   go_ret
   exact ⟨rfl,bw1.trans (b2.mono bw1.size)⟩
  ·have hk8:(M.deeds t.ll)[k].d.k≠8:=HX.out k hkn (by omega) hak
   have hk8':((M.deeds t.ll)[k].d.k==8)=false:=by simpa using hk8
   generalize M.own a k (M.deeds t.ll)[a] (M.deeds t.ll)[k]=ow at C1
   generalize (M.deeds t.ll)[k].d.k=dk at *
   generalize (M.deeds t.ll)[k].d.p=dp at *
   generalize (M.deeds t.ll)[k].d.v=dv at *
   clear hk8 hy
   have hF:=fun W=>Tryz.fld0 (.int .i64 dk) (.int .i64 dp) (.int .i64 dv) W
   go_wp2_with fail
   refine C1.mono ?_
   rintro e W1 ⟨rfl,b1⟩
   clear l0
   have bw1:=hbel.trans (b1.mono hbel.size)
   cases ow
   ·go_wp2_with fail
    exact ⟨⟨k+1,by go_num,by omega,by omega,bw1⟩,by simp [intOf];omega⟩
   ·go_wp2_with fail
    refine (C2 W1 (hA.below b1)).mono ?_
    rintro e W2 ⟨rfl,b2⟩
    go_wp2_with fail
    exact ⟨⟨k+1,by go_num,by omega,by omega,bw1.trans (b2.mono bw1.size)⟩,by simp [intOf];omega⟩
end Go.Proofs.YtjjkicffhpcngaaGreat
namespace Go.Proofs.YtjjkicffhpcngaaGreat
open Go.RowKit
namespace M
theorem chP_pre (ds : List De) {n n' : Nat} (h : n ≤ n') : ∃ rest, chP ds n' = chP ds n ++ rest := by
  induction n' with
  | zero => obtain rfl : n = 0 := by omega
            exact ⟨[], by simp⟩
  | succ k ih =>
    rcases Nat.lt_or_ge k n with h1 | h1
    · obtain rfl : n = k + 1 := by omega
      exact ⟨[], by simp⟩
    · obtain ⟨r, hr⟩ := ih h1
      exact ⟨_, by rw [chP_succ, hr, List.append_assoc]⟩
theorem chQ_pre (ds : List De) (b : Nat) {m m' : Nat} (h : m ≤ m') : ∃ rest, chQ ds b m' = chQ ds b m ++ rest := by
  induction m' with
  | zero => obtain rfl : m = 0 := by omega
            exact ⟨[], by simp⟩
  | succ k ih =>
    rcases Nat.lt_or_ge k m with h1 | h1
    · obtain rfl : m = k + 1 := by omega
      exact ⟨[], by simp⟩
    · obtain ⟨r, hr⟩ := ih h1
      exact ⟨_, by rw [chQ_succ, hr, List.append_assoc]⟩
theorem choice_next {ds:List De} {n m:Nat} (hn:n < ds.length) (hm:m < ds.length) (hw:waitsAt ds n=true) (hr:(kAt ds m==7)=true):∃ tail,(choices ds).drop ((chP ds n++chQ ds n m).length)=((outOf ds m,n+1),(n,m))::tail:=by
 obtain ⟨r1,h1⟩:=chP_pre ds (show n+1≤ds.length by omega)
 obtain ⟨r2,h2⟩:=chQ_pre ds n (show m+1≤ds.length by omega)
 rw [chP_succ,hw,if_pos rfl,← chQ_all,h2,chQ_succ,hr,if_pos rfl] at h1
 refine ⟨r2++r1,?_⟩
 rw [← chP_all,h1]
 simp
end M
def WaitsOk (t:Lp) (cs:List M.Ch):Prop:=∀ (A:Nat→Nat→Bool) (X G c:Nat) (va:Option Addr) (rb rc:Nat→Nat) (w:World) (fr:Nat),Hid ((M.choices (M.deeds t.ll)).drop fr=cs)→fr≤1000→t.At w→NtAt w X G (M.deeds t.ll).length c va rb rc A →
  Calls Tryz.prog 89 #[.pointer (some ⟨t.O,0,none⟩),.pointer (some ⟨X,0,none⟩),.int .i64 fr] w fun e w'=>e=.returned (.bool (M.waitsA (M.deeds t.ll).length A cs))∧Below w.heap.size w w'
set_option maxHeartbeats 4000000 in
set_option maxRecDepth 100000 in
theorem waits_of (t:Lp) (hk:t.Ok) (hp:M.prog t.ll=true) (hn:(M.deeds t.ll).length≤28) (cs:List M.Ch) (ih:∀ ch cs',cs=ch::cs'→WaitsOk t cs') (A:Nat→Nat→Bool) (X G c:Nat) (va:Option Addr) (rb rc:Nat→Nat) (w:World) (fr:Nat) (HC:Hid ((M.choices (M.deeds t.ll)).drop fr=cs)) (hfr:fr≤1000) (h:t.At w) (hN:NtAt w X G (M.deeds t.ll).length c va rb rc A) :
  Calls Tryz.prog 89 #[.pointer (some ⟨t.O,0,none⟩),.pointer (some ⟨X,0,none⟩),.int .i64 fr] w fun e w'=>e=.returned (.bool (M.waitsA (M.deeds t.ll).length A cs))∧Below w.heap.size w w':=by
 have hcl:(M.choices (M.deeds t.ll)).length≤784:=by
  have h1:=M.chP_len (M.deeds t.ll) (M.deeds t.ll).length
  rw [M.chP_all] at h1
  have h2:=Nat.mul_le_mul hn hn
  omega
 cases hH:M.holdsA A (M.deeds t.ll).length
 ·have C:=netHolds_any X G _ c va rb rc A w hn hN
  rw [hH] at C
  go_enter Tryz.func89,Tryz.ntmps89
  go_wp2_with fail
  refine C.mono ?_
  rintro e W1 ⟨rfl,b1⟩
  go_wp2_with fail
  go_ret
  exact ⟨ret_bool (by cases cs<;>rw [M.waitsA,hH]<;>rfl),b1⟩
 ·have C:=netHolds_any X G _ c va rb rc A w hn hN
  rw [hH] at C
  have HF0:Hid (cs=[]→M.waitsA (M.deeds t.ll).length A cs=true):=fun e=>by rw [e,M.waitsA,hH]
  have HF1:Hid (∀ ch cs',cs=ch::cs'→M.waitsA (M.deeds t.ll).length A cs=(M.waitsA (M.deeds t.ll).length (M.setA A ch.1) cs'||M.waitsA (M.deeds t.ll).length (M.setA A ch.2) cs')):=fun ch cs' e=>by rw [e,M.waitsA,hH];rfl
  clear hH
  go_enter Tryz.func89,Tryz.ntmps89
  go_wp2_with fail
  refine C.mono ?_
  rintro e W1 ⟨rfl,b1⟩
  go_wp2_with fail
  go_loopw [7,8] (fun s7 s8 wr=>∃ m:Nat,s8=.int .i64 m∧s7=.int .i64 ((M.chP (M.deeds t.ll) m).length:Nat)∧m≤(M.deeds t.ll).length∧(M.chP (M.deeds t.ll) m).length≤fr∧Below w.heap.size w wr) (fun _ s8 _=>(M.deeds t.ll).length - (intOf s8).toNat)
  case atStart=>exact ⟨0,rfl,rfl,Nat.zero_le _,Nat.zero_le _,b1⟩
  case round =>
   obtain ⟨m,rfl,rfl,hm,hcm,hbel⟩:=hrel
   have hA:=h.below hbel
   have l0:=hA.l0
   by_cases hmn:m < (M.deeds t.ll).length
   ·have hmn':(m:Int) < (M.deeds t.ll).length:=by omega
    have hx:=List.getElem?_eq_getElem hmn
    have HP:Hid (M.chP (M.deeds t.ll) (m+1)=M.chP (M.deeds t.ll) m++(if M.waitsAt (M.deeds t.ll) m then M.choicesAt (M.deeds t.ll) m else [])):=M.chP_succ _ _
    have HW:Hid (M.waitsAt (M.deeds t.ll) m=((M.deeds t.ll)[m].d.k==9&&!(M.deeds t.ll)[m].last)):=M.waitsAt_of hx
    have C2:=fun W (hW:t.At W)=>do_any t m _ W hk hW hx
    have hel:=fun W (hW:t.At W)=>hW.el hx
    obtain ⟨x,hxx⟩:∃ x,(M.deeds t.ll)[m]=x:=⟨_,rfl⟩
    rw [hxx] at C2 HW
    have hel2:∀ W,t.At W→DvAt W t.g (m * 3) x:=fun W hW=>by have:=hel W hW;rwa [hxx] at this
    clear hel hxx hx
    obtain ⟨L,hL⟩:∃ L,M.chP (M.deeds t.ll) m=L:=⟨_,rfl⟩
    have HLe:Hid (M.chP (M.deeds t.ll) m=L):=hL
    rw [hL] at HP hcm ⊢
    clear hL
    have hF:=fun W=>Tryz.fld0 (.int .i64 x.d.k) (.int .i64 x.d.p) (.int .i64 x.d.v) W
    go_wp2_with fail
    refine (C2 wr hA).mono ?_
    rintro e W2 ⟨rfl,b2⟩
    have hA2:=hA.below b2
    have bw2:=hbel.trans (b2.mono hbel.size)
    obtain ⟨d0,d1,d2⟩:=hel2 W2 hA2
    clear l0
    have l0:=hA2.l0
    by_cases hk9:x.d.k=9
    ·have hk9':(x.d.k != 9)=false:=by simp [hk9]
     cases hla:x.last
     ·rw [hla] at d2
      have HWt:Hid (M.waitsAt (M.deeds t.ll) m=true):=by show _=_;rw [HW.out,hk9,hla];rfl
      clear hk9 HW
      go_wp2_with fail
      go_loopw [7,9] (fun s7 s9 wi=>∃ q:Nat,s9=.int .i64 q∧s7=.int .i64 ((L++M.chQ (M.deeds t.ll) m q).length:Nat)∧q≤(M.deeds t.ll).length∧(L++M.chQ (M.deeds t.ll) m q).length≤fr∧Below w.heap.size w wi) (fun _ s9 _=>(M.deeds t.ll).length - (intOf s9).toNat)
      case atStart=>exact ⟨0,rfl,by simp [M.chQ],Nat.zero_le _,by simpa [M.chQ] using hcm,bw2⟩
      case round =>
       obtain ⟨q,rfl,rfl,hq,hcq,hbi⟩:=hrel
       have hAi:=h.below hbi
       clear l0
       have l0:=hAi.l0
       by_cases hqn:q < (M.deeds t.ll).length
       ·have hqn':(q:Int) < (M.deeds t.ll).length:=by omega
        have hy:=List.getElem?_eq_getElem hqn
        have HQ:Hid (M.chQ (M.deeds t.ll) m (q+1)=M.chQ (M.deeds t.ll) m q++(if M.kAt (M.deeds t.ll) q==7 then [((M.outOf (M.deeds t.ll) q,m+1),(m,q))] else [])):=M.chQ_succ _ _ _
        have HKq:Hid (M.kAt (M.deeds t.ll) q=(M.deeds t.ll)[q].d.k):=M.kAt_of hy
        have C3:=fun W (hW:t.At W)=>do_any t q _ W hk hW hy
        have CO:=fun W (hW:t.At W) h7=>outs_any t q W hk hp hW hqn h7
        obtain ⟨y,hyy⟩:∃ y,(M.deeds t.ll)[q]=y:=⟨_,rfl⟩
        rw [hyy] at C3 HKq CO
        clear hyy hy
        obtain ⟨LL,hLL⟩:∃ LL,L++M.chQ (M.deeds t.ll) m q=LL:=⟨_,rfl⟩
        have HLL:Hid (L++M.chQ (M.deeds t.ll) m q=LL):=hLL
        rw [hLL] at hcq ⊢
        clear hLL
        have hF3:=fun W=>Tryz.fld0 (.int .i64 y.d.k) (.int .i64 y.d.p) (.int .i64 y.d.v) W
        go_wp2_with fail
        refine (C3 wr hAi).mono ?_
        rintro e W3 ⟨rfl,b3⟩
        have hA3:=hAi.below b3
        have bw3:=hbi.trans (b3.mono hbi.size)
        clear l0
        by_cases hk7:y.d.k=7
        ·have hk7':(y.d.k != 7)=false:=by simp [hk7]
         have HK7:Hid ((M.kAt (M.deeds t.ll) q==7)=true):=by show _=_;rw [HKq.out,hk7];rfl
         have CO3:=CO W3 hA3 hk7
         have HQ2:Hid (L++M.chQ (M.deeds t.ll) m (q+1)=LL++[((M.outOf (M.deeds t.ll) q,m+1),(m,q))]):=by show _=_;rw [HQ.out,HK7.out,if_pos rfl,← List.append_assoc,HLL.out]
         clear hk7 HKq HQ CO C3
         by_cases hfe:LL.length=fr
         ·have hfc:fr < (M.choices (M.deeds t.ll)).length:=by
           obtain ⟨tail,htl⟩:=M.choice_next hmn hqn HWt.out HK7.out
           rw [HLe.out,HLL.out,hfe] at htl
           have:=congrArg List.length htl
           simp at this
           omega
          obtain ⟨tail,htl⟩:=M.choice_next hmn hqn HWt.out HK7.out
          rw [HLe.out,HLL.out,hfe,HC.out] at htl
          have hmem:((M.outOf (M.deeds t.ll) q,m+1),(m,q))∈M.choices (M.deeds t.ll):=by
           have:((M.outOf (M.deeds t.ll) q,m+1),(m,q))∈(M.choices (M.deeds t.ll)).drop fr:=by rw [HC.out,htl];simp
           exact List.mem_of_mem_drop this
          obtain ⟨⟨e1,e2⟩,e3,e4⟩:=(M.choices_ok (M.run_of hp) _ hmem).1
          simp only at e1 e2 e3 e4
          have HFr:=HF1.out _ _ htl
          have HFR:Hid (M.waitsA (M.deeds t.ll).length A cs=(M.waitsA (M.deeds t.ll).length (M.setA A (M.outOf (M.deeds t.ll) q,m+1)) tail||M.waitsA (M.deeds t.ll).length (M.setA A (m,q)) tail)):=HFr
          have IH:=ih _ _ htl
          have HC2:Hid ((M.choices (M.deeds t.ll)).drop (fr+1)=tail):=by
           show _=_
           have:=congrArg (List.drop 1) (HC.out.trans htl)
           rw [List.drop_drop] at this
           simpa using this
          have CW1:=fun W hW=>withNet_any X G _ c va rb rc A (M.outOf (M.deeds t.ll) q) (m+1) W hn e1 e2 hW
          have CW2:=fun W hW=>withNet_any X G _ c va rb rc A m q W hn e3 e4 hW
          have EM:Hid (((m+1:Nat):Int)=(m:Int)+1):=by show _=_;omega
          have EF:Hid (((fr+1:Nat):Int)=(fr:Int)+1):=by show _=_;omega
          clear HFr hmem htl HQ2 HLe HLL HC
          generalize M.outOf (M.deeds t.ll) q=O at *
          generalize M.setA A (O,m+1)=A1 at *
          generalize M.setA A (m,q)=A2 at *
          have hfe':(fr:Int) < (LL.length:Int)+1:=by omega
          have hfr1:fr+1≤1000:=by omega
          clear hfe
          go_wp2_with fail
          refine CO3.mono ?_
          rintro e W4 ⟨rfl,b4⟩
          have bw4:=bw3.trans (b4.mono bw3.size)
          go_wp2_with fail
          have C4:=CW1 W4 (hN.below bw4)
          rw [EM.out] at C4
          refine C4.mono ?_
          rintro e W5 ⟨X5,rfl,⟨G5,c5,va5,rb5,rc5,hO5⟩,b5⟩
          have bw5:=bw4.trans (b5.mono bw4.size)
          go_wp2_with fail
          have C5:=IH A1 X5 G5 c5 va5 rb5 rc5 W5 (fr+1) HC2 hfr1 (h.below bw5) hO5.nt
          rw [EF.out] at C5
          refine C5.mono ?_
          rintro e W6 ⟨rfl,b6⟩
          have bw6:=bw5.trans (b6.mono bw5.size)
          cases hr1:M.waitsA (M.deeds t.ll).length A1 tail
          ·go_wp2_with fail
           refine (CW2 W6 (hN.below bw6)).mono ?_
           rintro e W7 ⟨X7,rfl,⟨G7,c7,va7,rb7,rc7,hO7⟩,b7⟩
           have bw7:=bw6.trans (b7.mono bw6.size)
           go_wp2_with fail
           have C7:=IH A2 X7 G7 c7 va7 rb7 rc7 W7 (fr+1) HC2 hfr1 (h.below bw7) hO7.nt
           rw [EF.out] at C7
           refine C7.mono ?_
           rintro e W8 ⟨rfl,b8⟩
           go_wp2_with fail
           go_ret
           exact ⟨ret_bool (by rw [HFR.out,hr1];rfl),bw7.trans (b8.mono bw7.size)⟩
          ·go_wp2_with fail
           go_ret
           exact ⟨ret_bool (by rw [HFR.out,hr1];rfl),bw6⟩
         ·have hlt2:LL.length+1≤fr:=by omega
          have hfe':¬ (fr:Int) < (LL.length:Int)+1:=by omega
          go_wp2_with fail
          exact ⟨⟨q+1,by go_num,by rw [HQ2.out];simp,by omega,by rw [HQ2.out];simpa using hlt2,bw3⟩,by simp [intOf];omega⟩
        ·have hk7':(y.d.k != 7)=true:=by simpa using hk7
         have hk72:(y.d.k==7)=false:=by simpa using hk7
         have HQ2:Hid (L++M.chQ (M.deeds t.ll) m (q+1)=LL):=by show _=_;rw [HQ.out,HKq.out,hk72,if_neg (by simp),List.append_nil,HLL.out]
         clear hk7 hk72 HKq HQ CO C3
         go_wp2_with fail
         exact ⟨⟨q+1,by go_num,by rw [HQ2.out],by omega,by rw [HQ2.out];exact hcq,bw3⟩,by simp [intOf];omega⟩
       ·have hqe:q=(M.deeds t.ll).length:=by omega
        have hqn':¬ (q:Int) < (M.deeds t.ll).length:=by omega
        have HP2:Hid (M.chP (M.deeds t.ll) (m+1)=L++M.chQ (M.deeds t.ll) m q):=by show _=_;rw [HP.out,HWt.out,if_pos rfl,hqe,M.chQ_all]
        clear hqe
        go_wp2_with fail
        exact ⟨⟨m+1,by go_num,by rw [HP2.out],by omega,by rw [HP2.out];exact hcq,hbi⟩,by simp [intOf];omega⟩
     ·rw [hla] at d2
      have HP2:Hid (M.chP (M.deeds t.ll) (m+1)=L):=by show _=_;rw [HP.out,HW.out,hla];simp
      clear hk9 HP HW
      go_wp2_with fail
      exact ⟨⟨m+1,by go_num,by rw [HP2.out],by omega,by rw [HP2.out];exact hcm,bw2⟩,by simp [intOf];omega⟩
    ·have hk9':(x.d.k != 9)=true:=by simpa using hk9
     have hk92:(x.d.k==9)=false:=by simpa using hk9
     have HP2:Hid (M.chP (M.deeds t.ll) (m+1)=L):=by show _=_;rw [HP.out,HW.out,hk92];simp
     clear hk9 hk92 HP HW
     go_wp2_with fail
     exact ⟨⟨m+1,by go_num,by rw [HP2.out],by omega,by rw [HP2.out];exact hcm,bw2⟩,by simp [intOf];omega⟩
   ·have hme:m=(M.deeds t.ll).length:=by omega
    have hmn':¬ (m:Int) < (M.deeds t.ll).length:=by omega
    have hcs:cs=[]:=by
     rw [hme,M.chP_all] at hcm
     rw [← HC.out,List.drop_eq_nil_of_le hcm]
    have hF:=HF0.out hcs
    have HF:Hid (M.waitsA (M.deeds t.ll).length A cs=true):=hF
    clear hme hcs hF
    go_wp2_with fail
    go_ret
    exact ⟨ret_bool HF.out.symm,hbel⟩
theorem waits_any (t:Lp) (hk:t.Ok) (hp:M.prog t.ll=true) (hn:(M.deeds t.ll).length≤28):∀ cs:List M.Ch,WaitsOk t cs:=by
 intro cs
 induction cs with
 | nil=>exact fun A X G c va rb rc w fr HC hfr h hN=>waits_of t hk hp hn [] (fun _ _ e=>by cases e) A X G c va rb rc w fr HC hfr h hN
 | cons ch cs ih=>exact fun A X G c va rb rc w fr HC hfr h hN=>waits_of t hk hp hn (ch::cs) (fun _ _ e=>by cases e;exact ih) A X G c va rb rc w fr HC hfr h hN
end Go.Proofs.YtjjkicffhpcngaaGreat
namespace Go.Proofs.YtjjkicffhpcngaaGreat
open Go.RowKit
set_option maxHeartbeats 1000000 in
set_option maxRecDepth 100000 in
theorem wholeE_any (O cc:Nat) (va:Option Addr) (k:Nat) (A A':Nat→Nat→Bool) (X G c:Nat) (va':Option Addr) (rb rc:Nat→Nat) (w:World) (h:w.cell? ⟨O,1,none⟩=some (.slice va 0 cc)) (hA:NtAt w X G 0 c va' rb rc A) :
  Calls Tryz.prog 87 #[.pointer (some ⟨O,0,none⟩),.pointer (some ⟨X,0,none⟩),.int .i64 k] w fun e w'=>∃ X',e=.returned (.pointer (some ⟨X',0,none⟩))∧(∃ G c va rb rc,NtAt w' X' G 0 c va rb rc A')∧Below w.heap.size w w':=by
 go_enter Tryz.func87,Tryz.ntmps87
 go_wp2_with fail
 refine (copy_any X G 0 c va' rb rc A w (by omega) hA).mono ?_
 rintro e W1 ⟨X1,rfl,⟨G1,c1,va1,rb1,rc1,hO⟩,b1⟩
 have hN:=hO.nt.congr (A':=A') (fun a b ha=>absurd ha (Nat.not_lt_zero _))
 clear hA hO
 go_wp2_with fail
 go_loopw [8] (fun s8 wr=>s8=.int .i64 0∧NtAt wr X1 G1 0 c1 va1 rb1 rc1 A'∧Below w.heap.size w wr) (fun _ _=>0)
 case atStart=>exact ⟨rfl,hN,b1⟩
 case round =>
  obtain ⟨rfl,hN',hbel⟩:=hrel
  clear hN b1
  have l0:=cellC hbel h
  go_wp2_with fail
  go_ret
  exact ⟨_,rfl,⟨G1,c1,va1,rb1,rc1,hN'⟩,hbel⟩
set_option maxHeartbeats 1000000 in
set_option maxRecDepth 100000 in
theorem waitsE_any (O cc:Nat) (va:Option Addr) (A:Nat→Nat→Bool) (X G c:Nat) (va':Option Addr) (rb rc:Nat→Nat) (w:World) (h:w.cell? ⟨O,1,none⟩=some (.slice va 0 cc)) (hA:NtAt w X G 0 c va' rb rc A) :
  Calls Tryz.prog 89 #[.pointer (some ⟨O,0,none⟩),.pointer (some ⟨X,0,none⟩),.int .i64 0] w fun e w'=>e=.returned (.bool true)∧Below w.heap.size w w':=by
 have C:=netHolds_any X G 0 c va' rb rc A w (by omega) hA
 rw [show M.holdsA A 0=true from rfl] at C
 go_enter Tryz.func89,Tryz.ntmps89
 go_wp2_with fail
 refine C.mono ?_
 rintro e W1 ⟨rfl,b1⟩
 go_wp2_with fail
 go_loopw [7,8] (fun s7 s8 wr=>s7=.int .i64 0∧s8=.int .i64 0∧Below w.heap.size w wr) (fun _ _ _=>0)
 case atStart=>exact ⟨rfl,rfl,b1⟩
 case round =>
  obtain ⟨rfl,rfl,hbel⟩:=hrel
  clear b1
  have l0:=cellC hbel h
  go_wp2_with fail
  go_ret
  exact ⟨rfl,hbel⟩
end Go.Proofs.YtjjkicffhpcngaaGreat
namespace Go.Proofs.YtjjkicffhpcngaaGreat
open Go.RowKit
set_option maxHeartbeats 2000000 in
set_option maxRecDepth 100000 in
theorem wayEG_any {f4 f5:Value} (O cc:Nat) (va:Option Addr) (v0 v1 v2:Value) (fa ra:Option Addr) (fl' fc rl rc:Nat) (n:Nat) (HN:Hid (n=0)) (w:World) (hO:O < w.heap.size) (blk:w.heap[O]?=some (.cells #[v0,.slice va n cc,v1,v2,f4,f5] 126 (0,0))) :
  Calls Tryz.prog 86 #[.pointer (some ⟨O,0,none⟩),.agg #[.slice fa fl' fc,.slice ra rl rc]] w fun e w'=>e=.returned (.tuple #[])∧w'.heap[O]?=some (.cells #[v0,.slice va n cc,v1,v2,.slice fa fl' fc,.slice (some ⟨w.heap.size+1,0,none⟩) n n] 126 (0,0))∧But O w w':=by
 have fl:=Tryz.fld1
 have hmk:=run_make_row' (P:=Tryz.prog) 47 3 (.int .i64 0) 8 Tryz.underlying47 Tryz.infoInt rfl .i64 .i64 n (by have:=HN.out;omega) (by have:=HN.out;omega)
 have b1:w.cell? ⟨O,1,none⟩=some (.slice va n cc):=by simp [World.cell?,blk]
 have b4:w.cell? ⟨O,4,none⟩=some f4:=by simp [World.cell?,blk]
 have b5:w.cell? ⟨O,5,none⟩=some f5:=by simp [World.cell?,blk]
 have bf:∀ i,w.frozen? ⟨O,i,none⟩=false:=fun i=>by simp [World.frozen?,blk]
 go_enter Tryz.func86,Tryz.ntmps86
 go_wp2_with fail
 have e1:=heap_setCell_same w O 4 _ _ (.slice fa fl' fc) blk
 have e2:=heap_setCell_same _ O 5 _ _ (.slice (some ⟨w.heap.size+1,0,none⟩) n n) e1
 have hbut:But O w ((((w.setCell ⟨O,4,none⟩ (.slice fa fl' fc)).setCell ⟨O,5,none⟩ (.slice (some ⟨w.heap.size+1,0,none⟩) n n)).alloc (.cells #[.slice fa fl' fc,.slice ra rl rc] 63)).alloc (.cells (madeCells #[.int .i64 0] n) 3)):=((((But.refl O w).setCell (Or.inr rfl) _).setCell (Or.inr rfl) _).alloc _).alloc _
 have hc1:((((w.setCell ⟨O,4,none⟩ (.slice fa fl' fc)).setCell ⟨O,5,none⟩ (.slice (some ⟨w.heap.size+1,0,none⟩) n n)).alloc (.cells #[.slice fa fl' fc,.slice ra rl rc] 63)).alloc (.cells (madeCells #[.int .i64 0] n) 3)).heap[O]?=some (.cells #[v0,.slice va n cc,v1,v2,.slice fa fl' fc,.slice (some ⟨w.heap.size+1,0,none⟩) n n] 126 (0,0)):=by
  rw [alloc_old _ _ _ (by simp;omega),alloc_old _ _ _ (by simp;omega)]
  exact e2
 generalize ((((w.setCell ⟨O,4,none⟩ (.slice fa fl' fc)).setCell ⟨O,5,none⟩ (.slice (some ⟨w.heap.size+1,0,none⟩) n n)).alloc (.cells #[.slice fa fl' fc,.slice ra rl rc] 63)).alloc (.cells (madeCells #[.int .i64 0] n) 3))=W0 at hbut hc1 ⊢
 clear hmk b1 b4 b5 bf e1 e2 blk
 go_loopw [4] (fun s4 wq=>s4=.int .i64 0∧wq.heap[O]?=some (.cells #[v0,.slice va n cc,v1,v2,.slice fa fl' fc,.slice (some ⟨w.heap.size+1,0,none⟩) n n] 126 (0,0))∧But O w wq) (fun _ _=>0)
 case atStart=>exact ⟨rfl,hc1,hbut⟩
 case round =>
  clear hc1 hbut
  obtain ⟨rfl,q0,hbut⟩:=hrel
  have q1:wr.cell? ⟨O,1,none⟩=some (.slice va n cc):=by simp [World.cell?,q0]
  have hz:¬ (0:Int) < n:=by have:=HN.out;omega
  go_wp2_with fail
  exact bodyPost_end (v:=.tuple #[]) (results_none Tryz.results86 _ _ _) rfl ⟨rfl,q0,hbut⟩
theorem own_but {w w':World} {O B:Nat} {e:TypeId} {size:Nat} {v:Value} {n:Nat} {xs:List Value} (h:w.ownsRow B e size v n xs) (hb:But O w w') (hO:O < B):w'.ownsRow B e size v n xs:=by
 obtain ⟨h1,h2⟩:=h
 refine ⟨h1,?_⟩
 rcases h2 with h2 | ⟨g,cap,cur,hv,hg,hh,r⟩
 ·exact Or.inl h2
 ·refine Or.inr ⟨g,cap,cur,hv,hg,(hb.block g ?_ (by omega)).trans hh,r⟩
  rcases Nat.lt_or_ge g w.heap.size with hlt | hge
  ·exact hlt
  ·rw [Array.getElem?_eq_none hge] at hh;cases hh
structure LookedG (w w':World) (O:Nat) (a:Option Addr) (c:Nat) (ll:List (List M.D)) (va:Option Addr) (g cc:Nat) (v1 v2:Value):Prop where
 bel:Below w.heap.size w w'
 ge:w.heap.size≤O
 blk:∃ f4 f5,w'.heap[O]?=some (.cells #[.slice a ll.length c,.slice va (M.deeds ll).length cc,v1,v2,f4,f5] 126 (0,0))
 dv:DvS w' va g (M.deeds ll)
 own1:w'.ownsRow (O+1) 4 1 v1 (M.deeds ll).length (bools ((M.deeds ll).map fun x=>M.reads x.d.k))
 own2:w'.ownsRow (O+1) 4 1 v2 (M.deeds ll).length (bools ((M.deeds ll).map fun x=>M.writes x.d.k))
theorem Looked.g {w w':World} {O:Nat} {a:Option Addr} {c:Nat} {ll:List (List M.D)} {va:Option Addr} {g cc:Nat} {v1 v2:Value} (h:Looked w w' O a c ll va g cc v1 v2):LookedG w w' O a c ll va g cc v1 v2:=⟨h.bel,h.ge,⟨_,_,h.blk⟩,h.dv,h.own1,h.own2⟩
theorem LookedG.lt {w w':World} {O:Nat} {a:Option Addr} {c:Nat} {ll:List (List M.D)} {va:Option Addr} {g cc:Nat} {v1 v2:Value} (h:LookedG w w' O a c ll va g cc v1 v2):O < w'.heap.size:=by
 obtain ⟨f4,f5,hb⟩:=h.blk
 have c1:w'.cell? ⟨O,1,none⟩=some (.slice va (M.deeds ll).length cc):=by simp [World.cell?,hb]
 exact World.block_lt_of_cell? _ _ c1
theorem LookedG.but {w w3 w':World} {O:Nat} {a:Option Addr} {c:Nat} {ll:List (List M.D)} {va:Option Addr} {g cc:Nat} {v1 v2 f4 f5:Value} (h:LookedG w w3 O a c ll va g cc v1 v2) (hb:But O w3 w') (hk:w'.heap[O]?=some (.cells #[.slice a ll.length c,.slice va (M.deeds ll).length cc,v1,v2,f4,f5] 126 (0,0))):LookedG w w' O a c ll va g cc v1 v2:=by
 refine ⟨But.low h.bel hb h.ge,h.ge,⟨_,_,hk⟩,?_,own_but h.own1 hb (by omega),own_but h.own2 hb (by omega)⟩
 rcases Nat.eq_zero_or_pos (M.deeds ll).length with h0 | hpos
 ·have hnil:M.deeds ll=[]:=List.eq_nil_of_length_eq_zero h0
  rw [hnil]
  exact ⟨fun h=>absurd h (Nat.lt_irrefl _),fun i hi=>absurd hi (Nat.not_lt_zero _)⟩
 ·refine h.dv.but hb fun e=>?_
  obtain ⟨f4,f5,hb0⟩:=h.blk
  have h1:=(h.dv.at hpos).c0
  have b0:w3.cell? ⟨O,0,none⟩=some (.slice a ll.length c):=by simp [World.cell?,hb0]
  rw [e,Nat.zero_mul,b0] at h1
  cases h1
theorem LookedG.below {w w3 w':World} {O:Nat} {a:Option Addr} {c:Nat} {ll:List (List M.D)} {va:Option Addr} {g cc:Nat} {v1 v2:Value} (h:LookedG w w3 O a c ll va g cc v1 v2) (hb:Below w3.heap.size w3 w'):LookedG w w' O a c ll va g cc v1 v2:=by
 obtain ⟨f4,f5,hk⟩:=h.blk
 refine h.but ⟨hb.os,hb.tape,hb.output,hb.size,fun k hk _=>hb.block k hk⟩ ((hb.block O h.lt).trans hk)
structure HoldQ (kn:Nat) (ds:List M.De) (l:List Int) (rows:List (List Int)) (O:Nat) (St:World→Prop):Prop where
 bel:∀ w w',St w→Below w.heap.size w w'→St w'
 whole:∀ k:Nat,k=0∨k=kn→∀ X G c va rb rc w,St w→NtAt w X G ds.length c va rb rc (M.staysAt ds k)→Calls Tryz.prog 87 #[.pointer (some ⟨O,0,none⟩),.pointer (some ⟨X,0,none⟩),.int .i64 k] w fun e w'=>∃ X',e=.returned (.pointer (some ⟨X',0,none⟩))∧(∃ G c va rb rc,NtAt w' X' G ds.length c va rb rc (M.netOf ds l rows k))∧Below w.heap.size w w'
 waits:∀ X G c va rb rc A w,St w→NtAt w X G ds.length c va rb rc A→Calls Tryz.prog 89 #[.pointer (some ⟨O,0,none⟩),.pointer (some ⟨X,0,none⟩),.int .i64 0] w fun e w'=>e=.returned (.bool (M.waitsA ds.length A (M.choices ds)))∧Below w.heap.size w w'
theorem holdsG_parts (kn:Nat) (hk13:1≤kn∧kn≤3) (a:Option Addr) (b o c:Nat) (ll:List (List M.D)) (fa:Option Addr) (fb fo fc:Nat) (l:List Int) (ra:Option Addr) (rb ro rc:Nat) (rows:List (List Int)) (w2 w3:World) (O:Nat) (va:Option Addr) (g cc:Nat) (v1 v2:Value) (hl:ll.length≤1048576) (hls:∀ t∈ll,t.length≤1048576) (hrs:∀ r∈rows,r.length≤1048576) (hW:M.Wok ll l rows) (hdl:(M.deeds ll).length≤28) (hp2:DoSS w2 a b o ll) (hf2:IntS w2 fa fb fo l) (hr2:IntSS w2 ra rb ro rows) (hLk:LookedG w2 w3 O a c ll va g cc v1 v2) :
  ∃ St:World→Prop,Calls Tryz.prog 86 #[.pointer (some ⟨O,0,none⟩),.agg #[.slice fa l.length fc,.slice ra rows.length rc]] w3 (fun e w'=>e=.returned (.tuple #[])∧St w'∧LookedG w2 w' O a c ll va g cc v1 v2∧But O w3 w')∧HoldQ kn (M.deeds ll) l rows O St:=by
 have hOl:=hLk.lt
 obtain ⟨f4,f5,hblk⟩:=hLk.blk
 rcases Nat.eq_zero_or_pos (M.deeds ll).length with h0 | hpos
 ·have hnil:M.deeds ll=[]:=List.eq_nil_of_length_eq_zero h0
  refine ⟨fun w=>w.cell? ⟨O,1,none⟩=some (.slice va 0 cc),?_,fun w w' h hb=>cellC hb h,?_,?_⟩
  ·have C:=wayEG_any O cc va _ v1 v2 fa ra l.length fc rows.length rc _ h0 w3 hOl hblk
   refine C.mono fun e w' ⟨he,hb,hbut⟩=>⟨he,?_,hLk.but hbut hb,hbut⟩
   show w'.cell? ⟨O,1,none⟩=some (.slice va 0 cc)
   rw [← h0];simp [World.cell?,hb]
  ·intro k _ X G c va' rb rc w hSt hN
   rw [hnil] at hN ⊢
   exact wholeE_any O cc va k _ _ X G c va' rb rc w hSt hN
  ·intro X G c va' rb rc A w hSt hN
   rw [hnil] at hN ⊢
   exact waitsE_any O cc va A X G c va' rb rc w hSt hN
 ·obtain ⟨rfl⟩:=hLk.dv.addr hpos
  obtain ⟨rfl⟩:=hf2.addr (by have:=hW.len.out;omega)
  obtain ⟨rfl⟩:=hr2.addr (by have:=hW.three.out;omega)
  obtain ⟨ub,uc,rfl,_,_⟩:=hLk.own1.form hpos
  obtain ⟨wb,wc,rfl,_,_⟩:=hLk.own2.form hpos
  have rd:∀ n x,(M.deeds ll)[n]?=some x→w3.cell? ⟨ub,n,none⟩=some (.bool (M.reads x.d.k)):=fun n x hx=>by
   have hn:n < (M.deeds ll).length:=by
    rcases Nat.lt_or_ge n (M.deeds ll).length with h | h
    ·exact h
    ·rw [List.getElem?_eq_none h] at hx;cases hx
   have o1:=hLk.own1
   have:=own_bools (l:=(M.deeds ll).map fun x=>M.reads x.d.k) (by rw [List.length_map];exact o1) n (by simpa using hn)
   rw [List.getElem?_eq_getElem hn] at hx
   rw [this,List.getElem_map,Option.some.inj hx]
  have wrt:∀ n x,(M.deeds ll)[n]?=some x→w3.cell? ⟨wb,n,none⟩=some (.bool (M.writes x.d.k)):=fun n x hx=>by
   have hn:n < (M.deeds ll).length:=by
    rcases Nat.lt_or_ge n (M.deeds ll).length with h | h
    ·exact h
    ·rw [List.getElem?_eq_none h] at hx;cases hx
   have o1:=hLk.own2
   have:=own_bools (l:=(M.deeds ll).map fun x=>M.writes x.d.k) (by rw [List.length_map];exact o1) n (by simpa using hn)
   rw [List.getElem?_eq_getElem hn] at hx
   rw [this,List.getElem_map,Option.some.inj hx]
  have hkO:(⟨O,a,b,o,c,ll,g,cc⟩:Lp).Ok:=⟨hl,hls,by show (M.deeds ll).length≤42;omega⟩
  have CW:=wayG_any ⟨O,a,b,o,c,ll,g,cc⟩ ⟨ub,uc,wb,wc,fb,fo,fc,l,w3.heap.size+1,(M.deeds ll).length,rows⟩ _ w3 rc hkO hW.pl hpos hW.len hW.three hrs rb ro hLk.bel hLk.ge hOl hp2 hf2 hr2 hblk hLk.dv rd wrt rfl rfl
  refine ⟨_,CW.mono fun e w' ⟨he,hA,hbut,f4',f5',hb⟩=>⟨he,hA,hLk.but hbut hb,hbut⟩,fun w w' h hb=>h.below hb,?_,?_⟩
  ·intro k hk X G c' va' rb' rc' w hSt hN
   have C:=whole_of ⟨O,a,b,o,c,ll,g,cc⟩ _ k X G c' va' rb' rc' _ w hdl hSt hN (by
    intro p q x y w h hx hy
    rcases hk with rfl | rfl
    ·exact told0_any _ _ p q x y w hkO h hx hy
    ·rcases (show k=1∨k=2∨k=3 by omega) with rfl | rfl | rfl
     ·exact told1_any _ _ p q x y w hkO h hx hy
     ·exact told2_any _ _ p q x y w hkO h hx hy
     ·exact told3_any _ _ p q x y w hkO h hx hy)
   refine C.mono (fun e w' ⟨X',he,⟨G',c',va',rb',rc',hO⟩,hb⟩=>⟨X',he,⟨G',c',va',rb',rc',hO.nt.congr (fun p q hp hq=>?_)⟩,hb⟩)
   have hx:=List.getElem?_eq_getElem hp
   have hy:=List.getElem?_eq_getElem hq
   show (M.staysAt (M.deeds ll) k p q||M.toldAt (M.deeds ll) l rows k p q)=M.mustAt (M.deeds ll) l rows k p q
   rw [M.staysAt_of hx hy,M.toldAt_of hx hy,M.mustAt,hx,hy,M.must_eq hW.fro hW.run k hp hq]
  ·intro X G c' va' rb' rc' A w hSt hN
   exact waits_any ⟨O,a,b,o,c,ll,g,cc⟩ hkO hW.prog hdl _ A X G c' va' rb' rc' w 0 (show Hid (_=_) from rfl) (by omega) hSt.p hN
end Go.Proofs.YtjjkicffhpcngaaGreat
