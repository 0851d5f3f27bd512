/- Both say the same of a way. No condition. spec's ExecOk: whether a way is told just so. Of at most 1048576 threads, steps, numbers and rows. -/
import Derived.Test.YtmhpgdliaclokaaGreatRows
import Derived.Test.YtmhpgdliaclokaaGreatQzap
namespace Go.Proofs.YtmhpgdliaclokaaGreat
section
theorem nodup_le:∀ {l m:List Int},l.Nodup→(∀ x∈l,x∈m)→l.length≤m.length:=by
 intro l
 induction l with
 | nil=>intro m _ _;exact Nat.zero_le _
 | cons x l ih =>
  intro m hn hs
  obtain ⟨hx,hl⟩:=List.nodup_cons.1 hn
  have hm:=hs x (List.mem_cons_self ..)
  have:=ih (m:=m.erase x) hl (fun y hy=>by
   have hne:y≠x:=fun e=>hx (e▸hy)
   exact (List.mem_erase_of_ne hne).2 (hs y (List.mem_cons_of_mem _ hy)))
  rw [List.length_erase_of_mem hm] at this
  have hpos:0 < m.length:=List.length_pos_of_mem hm
  simp only [List.length_cons]
  omega
theorem nodup_all {l m:List Int} (hn:l.Nodup) (hs:∀ x∈l,x∈m) (hlen:m.length=l.length):∀ y∈m,y∈l:=by
 intro y hy
 rcases Classical.em (y∈l) with h | h
 ·exact h
 ·have:=nodup_le (l:=y::l) (m:=m) (List.nodup_cons.2 ⟨h,hn⟩) (fun x hx=>by
   rcases List.mem_cons.1 hx with rfl | hx
   ·exact hy
   ·exact hs x hx)
  simp only [List.length_cons] at this
  omega
theorem M.isRow_mem {ds:List M.De} {p:Int} {row:List Int} (h:M.isRow row (M.wrs p 0 ds)=true) (f:Int):f∈row↔f∈M.wrs p 0 ds:=by
 simp only [M.isRow,Bool.and_eq_true,decide_eq_true_eq,List.all_eq_true] at h
 obtain ⟨hlen,hall⟩:=h
 have hs:∀ x∈M.wrs p 0 ds,x∈row:=fun x hx=>by simpa using hall x hx
 exact ⟨nodup_all (M.nodup_wrs p ds 0) hs hlen f,hs f⟩
theorem M.orderAt_get {ds:List M.De}:∀ {rows:List (List Int)} {p:Nat},M.orderAt ds p rows=true→∀ n (h:n < rows.length),M.isRow rows[n] (M.wrs ((p+n:Nat):Int) 0 ds)=true:=by
 intro rows
 induction rows with
 | nil=>intro p _ n h;exact absurd h (Nat.not_lt_zero _)
 | cons row rows ih =>
  intro p h n hn
  simp only [M.orderAt,Bool.and_eq_true] at h
  cases n with
  | zero=>exact h.1
  | succ n =>
   have:=ih h.2 n (by simpa using hn)
   rw [show p+1+n=p+(n+1) from by omega] at this
   simpa using this
theorem M.tell_wrs {ds:List M.De} {x:M.De} {f:Int} (h:x.reads=true):M.mayTell ds x f=(f==-1||decide (f∈M.wrs x.d.p 0 ds)):=by
 by_cases h1:f=-1
 ·subst h1;rw [M.mayTell,if_pos h];simp
 ·have h1':(f==-1)=false:=by simpa using h1
  rw [h1',Bool.false_or]
  by_cases h0:0≤f∧f < ds.length
  ·obtain ⟨n,rfl⟩:∃ n:Nat,f=n:=⟨f.toNat,by omega⟩
   have hn:n < ds.length:=by omega
   rw [M.tell_at h hn]
   have:((n:Int)∈M.wrs x.d.p 0 ds)↔(ds[n]).to x.d.p=true:=by
    rw [M.mem_wrs]
    constructor
    ·rintro ⟨i,hi,e,t⟩
     have:i=n:=by omega
     subst this;exact t
    ·intro t;exact ⟨n,hn,by simp,t⟩
   cases ht:(ds[n]).to x.d.p
   ·rw [ht] at this;exact (decide_eq_false (fun h=>by have:=this.1 h;cases this)).symm
   ·rw [ht] at this;exact (decide_eq_true (this.2 rfl)).symm
  ·have:f∉M.wrs x.d.p 0 ds:=fun h=>by
    obtain ⟨i,hi,e,_⟩:=M.mem_wrs.1 h
    omega
   rw [decide_eq_false this]
   rcases Int.lt_or_le f 0 with hl | hl
   ·exact M.tell_low h h1 (by omega)
   ·exact M.tell_high h h1 (by omega)
def M.backQ (ds:List M.De) (l:List Int) (n:Nat):Nat→Nat
 | 0=>n
 | k+1=>(M.valFrom ds l (M.backQ ds l n k)).toNat
theorem M.backQ_succ (ds:List M.De) (l:List Int) (n:Nat):∀ k,M.backQ ds l n (k+1)=M.backQ ds l (M.valFrom ds l n).toNat k:=by
 intro k
 induction k with
 | zero=>rfl
 | succ k ih=>rw [M.backQ,ih,M.backQ]
theorem M.backQ_add (ds:List M.De) (l:List Int) (n a:Nat):∀ k,M.backQ ds l n (a+k)=M.backQ ds l (M.backQ ds l n a) k:=by
 intro k
 induction k with
 | zero=>rfl
 | succ k ih=>rw [← Nat.add_assoc,M.backQ,ih,M.backQ]
theorem M.orig_iff (ds:List M.De) (l:List Int):∀ (m n:Nat),(M.orig ds l m n).isSome=true↔∃ k,k < m∧M.valFrom ds l (M.backQ ds l n k) < 0:=by
 intro m
 induction m with
 | zero=>intro n;simp [M.orig]
 | succ m ih =>
  intro n
  rw [M.orig]
  by_cases h:M.valFrom ds l n < 0
  ·rw [if_pos h];exact ⟨fun _=>⟨0,by omega,h⟩,fun _=>rfl⟩
  ·rw [if_neg h,ih]
   constructor
   ·rintro ⟨k,hk,h2⟩;exact ⟨k+1,by omega,by rw [M.backQ_succ];exact h2⟩
   ·rintro ⟨k,hk,h2⟩
    cases k with
    | zero=>exact absurd h2 h
    | succ k=>rw [M.backQ_succ] at h2;exact ⟨k,by omega,h2⟩
theorem M.backQ_short {ds:List M.De} {l:List Int} (hin:M.In ds l) {n:Nat} (hn:n < ds.length):∀ k,M.valFrom ds l (M.backQ ds l n k) < 0→∃ j,j < ds.length∧M.valFrom ds l (M.backQ ds l n j) < 0:=by
 intro k
 induction k using Nat.strongRecOn with
 | ind k ih =>
  intro hk
  by_cases hlt:k < ds.length
  ·exact ⟨k,hlt,hk⟩
  ·by_cases hex:∃ j,j < k∧M.valFrom ds l (M.backQ ds l n j) < 0
   ·obtain ⟨j,hj,h2⟩:=hex
    exact ih j hj h2
   ·have hall:∀ j,j≤k→M.backQ ds l n j < ds.length:=by
     intro j
     induction j with
     | zero=>intro _;exact hn
     | succ j ihj =>
      intro hj
      have h1:=hin _ (ihj (by omega))
      have h2:¬ M.valFrom ds l (M.backQ ds l n j) < 0:=fun h=>hex ⟨j,by omega,h⟩
      rw [M.backQ];omega
    have hpg:∃ a b,a < b∧b≤ds.length∧M.backQ ds l n a=M.backQ ds l n b:=by
     refine Classical.byContradiction fun hno=>?_
     have hnd:((List.range (ds.length+1)).map (fun j=>(M.backQ ds l n j:Int))).Nodup:=by
      unfold List.Nodup
      rw [List.pairwise_map]
      refine List.Pairwise.imp_of_mem ?_ List.pairwise_lt_range
      intro a b ha hb hab e
      rw [List.mem_range] at ha hb
      exact hno ⟨a,b,hab,by omega,by omega⟩
     have:=nodup_le (m:=(List.range ds.length).map (fun j:Nat=>(j:Int))) hnd (by
      intro x hx
      obtain ⟨j,hj,rfl⟩:=List.mem_map.1 hx
      rw [List.mem_range] at hj
      exact List.mem_map.2 ⟨_,List.mem_range.2 (hall j (by omega)),rfl⟩)
     simp at this
     omega
    obtain ⟨a,b,hab,hb,e⟩:=hpg
    refine ih (a+(k - b)) (by omega) ?_
    rw [M.backQ_add,e,← M.backQ_add,show b+(k - b)=k from by omega]
    exact hk
theorem M.orig_more {ds:List M.De} {l:List Int} (hin:M.In ds l) {n:Nat} (hn:n < ds.length):(M.orig ds l (2 * ds.length+2) n).isSome=(M.orig ds l ds.length n).isSome:=by
 rw [Bool.eq_iff_iff,M.orig_iff,M.orig_iff]
 constructor
 ·rintro ⟨k,_,h⟩;exact M.backQ_short hin hn k h
 ·rintro ⟨k,hk,h⟩;exact ⟨k,by omega,h⟩
theorem M.vEnds_eq {ds:List M.De} {l:List Int} (hin:M.In ds l) (hv:∀ x∈ds,0≤x.d.v) (hll:l.length=ds.length):M.vEnds ds l 0 ds=M.ends ds l:=by
 have key:∀ (xs:List M.De) (n:Nat),n+xs.length=ds.length→M.vEnds ds l n xs=M.endsAt ds l n xs:=by
  intro xs
  induction xs with
  | nil=>intro n _;rfl
  | cons x xs ih =>
   intro n hn
   simp only [List.length_cons] at hn
   rw [M.vEnds,M.endsAt,ih (n+1) (by omega),M.val_orig hin hv hll _ n (by omega),M.orig_more hin (by omega)]
 exact key ds 0 (by omega)
theorem M.sFrom_eq {ds:List M.De} {rows:List (List Int)} (hrow:rows.length=3) (ho:M.orderAt ds 0 rows=true):∀ (xs:List M.De) (l:List Int),(∀ x∈xs,x.reads=true→0≤x.d.p∧x.d.p < 3)→M.sFrom rows xs l=M.fromAt ds xs l:=by
 intro xs
 induction xs with
 | nil=>intro l _;cases l<;>rfl
 | cons x xs ih =>
  intro l hp
  cases l with
  | nil=>rfl
  | cons f l =>
   rw [M.sFrom,M.fromAt,ih l (fun y hy=>hp y (List.mem_cons_of_mem _ hy))]
   congr 1
   cases hr:x.reads
   ·rw [M.tell_no hr,M.sTell,if_neg (by rw [hr];simp)]
   ·obtain ⟨h0,h3⟩:=hp x (List.mem_cons_self ..) hr
    have hlt:x.d.p.toNat < rows.length:=by omega
    rw [M.tell_wrs hr,M.sTell,if_pos hr,List.getD_eq_getElem?_getD,List.getElem?_eq_getElem hlt]
    congr 1
    have hg:=M.orderAt_get ho _ hlt
    rw [show ((0+x.d.p.toNat:Nat):Int)=x.d.p from by omega] at hg
    have:=M.isRow_mem hg f
    show M.has rows[x.d.p.toNat] f=_
    rw [Bool.eq_iff_iff,decide_eq_true_eq,← this]
    simp [M.has]
theorem M.way_eq {ds:List M.De} {l:List Int} {rows:List (List Int)} (hp:∀ x∈ds,x.reads=true→0≤x.d.p∧x.d.p < 3):M.sForm ds l rows=(M.fromOk ds l&&M.orderOk ds rows):=by
 unfold M.sForm M.fromOk M.orderOk
 by_cases h1:l.length=ds.length
 ·by_cases h2:rows.length=3
  ·cases h3:M.orderAt ds 0 rows
   ·simp
   ·rw [M.sFrom_eq h2 h3 ds l hp]
    simp [h1,h2]
  ·simp [h2]
 ·simp [h1]
end
section
open Go.RowKit
theorem M.prog_do {ll:List (List M.D)} (h:M.prog ll=true):∀ l∈ll,∀ d∈l,M.doOk d=true:=by
 simp only [M.prog,Bool.and_eq_true,decide_eq_true_eq] at h
 have key:∀ (ll:List (List M.D)) (a u:Nat),M.progFrom a u ll=true→∀ l∈ll,∀ d∈l,M.doOk d=true:=by
  intro ll
  induction ll with
  | nil=>intro a u _ l hl;cases hl
  | cons x ll ih =>
   intro a u hp l hl
   simp only [M.progFrom] at hp
   split at hp
   ·rename_i hx
    rcases List.mem_cons.1 hl with rfl | hl
    ·simp only [M.thread,Bool.and_eq_true,M.form,List.all_eq_true] at hx
     exact hx.1.1.2
    ·exact ih _ _ hp l hl
   ·cases hp
 exact key ll 0 0 h.2
theorem M.deed_do {ll:List (List M.D)} (h:M.prog ll=true):∀ x∈M.deeds ll,M.doOk x.d=true:=by
 intro x hx
 obtain ⟨ht,hi,e⟩:=M.ofEv x hx
 rw [← e]
 exact M.prog_do h _ (List.getElem_mem ht) _ (List.getElem_mem hi)
theorem M.deed_v {ll:List (List M.D)} (h:M.prog ll=true):∀ x∈M.deeds ll,0≤x.d.v:=by
 intro x hx
 have:=M.deed_do h x hx
 simp only [M.doOk,Bool.and_eq_true,M.valOk] at this
 have hv:=this.2
 split at hv
 ·simp at hv;omega
 ·simp at hv;omega
theorem M.deed_p {ll:List (List M.D)} (h:M.prog ll=true):∀ x∈M.deeds ll,x.reads=true→0≤x.d.p∧x.d.p < 3:=by
 intro x hx hr
 have:=M.deed_do h x hx
 simp only [M.doOk,Bool.and_eq_true,M.placeOk] at this
 have hv:=this.1.2
 rw [if_pos (by rw [M.uses,show M.reads x.d.k=true from hr];rfl)] at hv
 simpa using hv
set_option maxHeartbeats 1000000 in
set_option maxRecDepth 100000 in
theorem sexecOk_any (a:Option Addr) (b o c:Nat) (ll:List (List M.D)) (fa:Option Addr) (fb fo fc:Nat) (l:List Int) (ra:Option Addr) (rb ro rc:Nat) (rows:List (List Int)) (w:World) (hl:ll.length≤1048576) (hls:∀ t∈ll,t.length≤1048576) (hl1:l.length≤1048576) (hrs:∀ r∈rows,r.length≤1048576) (h:DoSS w a b o ll) (hf:IntS w fa fb fo l) (hr:IntSS w ra rb ro rows) :
  Calls Tryz.prog 58 #[.agg #[.slice a ll.length c],.agg #[.slice fa l.length fc,.slice ra rows.length rc]] w fun e w'=>e=.returned (.bool (M.execOk ll l rows))∧Below w.heap.size w w':=by
 have hb2:=below2 w (.cells #[.slice a ll.length c] 25) (.cells #[.slice fa l.length fc,.slice ra rows.length rc] 29)
 have kp:((w.alloc (.cells #[.slice a ll.length c] 25)).alloc (.cells #[.slice fa l.length fc,.slice ra rows.length rc] 29)).cell? ⟨w.heap.size,0,none⟩=some (.slice a ll.length c):=by simp
 have k0:((w.alloc (.cells #[.slice a ll.length c] 25)).alloc (.cells #[.slice fa l.length fc,.slice ra rows.length rc] 29)).cell? ⟨w.heap.size+1,0,none⟩=some (.slice fa l.length fc):=by simp
 have k1:((w.alloc (.cells #[.slice a ll.length c] 25)).alloc (.cells #[.slice fa l.length fc,.slice ra rows.length rc] 29)).cell? ⟨w.heap.size+1,1,none⟩=some (.slice ra rows.length rc):=by simp
 replace h:=h.below hb2 (Nat.le_refl _)
 replace hf:=hf.below hb2 (Nat.le_refl _)
 replace hr:=hr.below hb2 (Nat.le_refl _)
 go_enter Tryz.func58,Tryz.ntmps58
 go_wp2_with fail
 generalize (w.alloc (.cells #[.slice a ll.length c] 25)).alloc (.cells #[.slice fa l.length fc,.slice ra rows.length rc] 29)=W at *
 have lw1:w.heap.size+1 < W.heap.size:=World.block_lt_of_cell? _ _ k0
 have lw:w.heap.size < W.heap.size:=World.block_lt_of_cell? _ _ kp
 have C1:=sprog_any a b o c ll W hl hls h
 cases hp:M.prog ll
 ·rw [hp] at C1
  refine C1.mono ?_
  rintro e w1 ⟨rfl,hb1⟩
  go_wp2_with fail
  go_ret
  exact ⟨ret_bool (by simp [M.execOk,hp]),hb2.trans (hb1.mono hb2.size)⟩
 ·rw [hp] at C1
  obtain ⟨h3,h7⟩:=M.prog_bounds hp
  have hdl:=M.deeds_len h3 h7
  have HE:Hid (M.evAll ll=(M.deeds ll).map M.De.ev):=by show _=_;simp [M.evAll,hp,M.events]
  have HX:Hid (M.execOk ll l rows=((M.fromOk (M.deeds ll) l&&M.orderOk (M.deeds ll) rows)&&M.ends (M.deeds ll) l)):=by show _=_;simp [M.execOk,hp,M.wayOk,Bool.and_assoc]
  refine C1.mono ?_
  rintro e w1 ⟨rfl,hb1⟩
  have kp1:=(hb1.cell (p:=⟨w.heap.size,0,none⟩) lw).trans kp
  go_wp2_with fail
  refine (sexecEvents_any a b o c ll w1 hl hls (h.below hb1 (Nat.le_refl _))).mono ?_
  rintro e w2 ⟨v2,rfl,hown2,hb3⟩
  obtain ⟨va,g,cap,rfl,hev,_,_⟩:=own_rs M.Ev.len hown2
  rw [HE.out] at hev
  have hd:=DvS.of hev
  have hle:(M.evAll ll).length=(M.deeds ll).length:=by rw [HE.out,List.length_map]
  rw [hle]
  have hb12:=hb1.trans (hb3.mono hb1.size)
  have kp2:=(hb12.cell (p:=⟨w.heap.size,0,none⟩) lw).trans kp
  have k02:=(hb12.cell (p:=⟨w.heap.size+1,0,none⟩) lw1).trans k0
  have k12:=(hb12.cell (p:=⟨w.heap.size+1,1,none⟩) lw1).trans k1
  have h2:=h.below hb12 (Nat.le_refl _)
  have hf2:=hf.below hb12 (Nat.le_refl _)
  have hr2:=hr.below hb12 (Nat.le_refl _)
  have hbZ:=hb2.trans (hb12.mono hb2.size)
  have lw12:=Nat.lt_of_lt_of_le lw1 hb12.size
  have lw2:=Nat.lt_of_lt_of_le lw hb12.size
  have C4:=l12Form_any a b o c ll va g cap fa fb fo fc l ra rb ro rc rows w2 hl hls hdl (M.deed_p hp) hl1 hrs h2 hd hf2 hr2
  rw [M.way_eq (M.deed_p hp)] at C4
  clear hle hown2 hev kp k0 k1 kp1 HE C1
  cases hw:(M.fromOk (M.deeds ll) l&&M.orderOk (M.deeds ll) rows)
  ·rw [hw] at C4
   go_wp2_with fail
   refine C4.mono ?_
   rintro e w3 ⟨rfl,hb4⟩
   go_wp2_with fail
   go_ret
   exact ⟨ret_bool (by rw [HX.out,hw];rfl),hbZ.trans (hb4.mono hbZ.size)⟩
  ·rw [hw] at C4
   have hfo:M.fromOk (M.deeds ll) l=true:=by
    simp only [Bool.and_eq_true] at hw;exact hw.1
   have HIN:=M.in_of hfo
   have HLN:Hid (l.length=(M.deeds ll).length):=by
    show _=_
    simp only [M.fromOk,Bool.and_eq_true,decide_eq_true_eq] at hfo
    exact hfo.1
   go_wp2_with fail
   refine C4.mono ?_
   rintro e w3 ⟨rfl,hb4⟩
   have kp3:=(hb4.cell (p:=⟨w.heap.size,0,none⟩) lw2).trans kp2
   have k03:=(hb4.cell (p:=⟨w.heap.size+1,0,none⟩) lw12).trans k02
   have k13:=(hb4.cell (p:=⟨w.heap.size+1,1,none⟩) lw12).trans k12
   have C5:=l12Ends_any a b o c ll va g cap fa fb fo fc l (.slice ra rows.length rc) w3 hl hls hdl HLN HIN (h2.below hb4 (Nat.le_refl _)) (hd.bel hb4 (Nat.le_refl _)) (hf2.below hb4 (Nat.le_refl _))
   rw [M.vEnds_eq HIN (M.deed_v hp) HLN.out] at C5
   have hbY:=hbZ.trans (hb4.mono hbZ.size)
   clear kp2 k02 k12 hfo
   go_wp2_with fail
   refine C5.mono ?_
   rintro e w4 ⟨rfl,hb5⟩
   go_wp2_with fail
   go_ret
   exact ⟨ret_bool (by rw [HX.out,hw];rfl),hbY.trans (hb5.mono hbY.size)⟩
end
end Go.Proofs.YtmhpgdliaclokaaGreat
