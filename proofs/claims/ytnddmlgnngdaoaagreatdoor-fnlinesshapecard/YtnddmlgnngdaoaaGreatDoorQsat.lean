/- The plain mathematics of ways: what is told just so. No condition. And what goes with it: OkMath, OkImpl, OkOrd, OkEnd. -/
import Derived.Test.YtnddmlgnngdaoaaGreatDoorRows
import Derived.Test.YtnddmlgnngdaoaaGreatDoorQsas
namespace Go.Proofs.YtnddmlgnngdaoaaGreatDoor
section
namespace M
def De.reads (x:De):Bool:=M.reads x.d.k
def De.to (x:De) (p:Int):Bool:=M.writes x.d.k&&x.d.p==p
def wrs (p:Int):Nat→List De→List Int
 | _,[]=>[]
 | n,x::l=>if x.to p then (n:Int)::wrs p (n+1) l else wrs p (n+1) l
theorem wrs_step {p:Int} {ds:List De} {acc:List Int} {n:Nat} (h:wrs p 0 ds=acc++wrs p n (ds.drop n)) (hn:n < ds.length):wrs p 0 ds=(if (ds[n]).to p then acc++[(n:Int)] else acc)++wrs p (n+1) (ds.drop (n+1)):=by
 rw [h,← List.getElem_cons_drop hn,wrs]
 split<;>simp
theorem wrs_fin {p:Int} {ds:List De} {acc:List Int} {n:Nat} (h:wrs p 0 ds=acc++wrs p n (ds.drop n)) (hn:ds.length≤n):wrs p 0 ds=acc:=by
 rw [h,List.drop_eq_nil_of_le hn];simp [wrs]
theorem wrs_len (p:Int) (l:List De):∀ n,(wrs p n l).length≤l.length:=by
 induction l with
 | nil=>intro n;simp [wrs]
 | cons x l ih =>
  intro n
  have:=ih (n+1)
  unfold wrs
  split<;>simp<;>omega
theorem mem_wrs {p:Int} {l:List De}:∀ {n:Nat} {k:Int},k∈wrs p n l↔∃ i,∃ h:i < l.length,k=((n+i:Nat):Int)∧(l[i]).to p=true:=by
 induction l with
 | nil=>intro n k;simp [wrs]
 | cons x l ih =>
  intro n k
  have step:k∈wrs p (n+1) l↔∃ i,∃ h:i+1 < (x::l).length,k=((n+(i+1):Nat):Int)∧((x::l)[i+1]).to p=true:=by
   rw [ih]
   constructor
   ·rintro ⟨i,h,e,t⟩
    exact ⟨i,by simpa using h,by rw [e];congr 1;omega,by simpa using t⟩
   ·rintro ⟨i,h,e,t⟩
    exact ⟨i,by simpa using h,by rw [e];congr 1;omega,by simpa using t⟩
  have all:(∃ i,∃ h:i < (x::l).length,k=((n+i:Nat):Int)∧((x::l)[i]).to p=true)↔((k=n∧x.to p=true)∨∃ i,∃ h:i+1 < (x::l).length,k=((n+(i+1):Nat):Int)∧((x::l)[i+1]).to p=true):=by
   constructor
   ·rintro ⟨i,h,e,t⟩
    cases i with
    | zero=>exact Or.inl ⟨by simpa using e,by simpa using t⟩
    | succ i=>exact Or.inr ⟨i,h,e,t⟩
   ·rintro (⟨e,t⟩ | ⟨i,h,e,t⟩)
    ·exact ⟨0,by simp,by simpa using e,by simpa using t⟩
    ·exact ⟨i+1,h,e,t⟩
  rw [all,← step,wrs]
  by_cases ht:x.to p=true
  ·rw [if_pos ht];simp [ht]
  ·rw [if_neg ht];simp [ht]
theorem nodup_wrs (p:Int) (l:List De):∀ n,(wrs p n l).Nodup:=by
 induction l with
 | nil=>intro n;simp [wrs]
 | cons x l ih =>
  intro n
  unfold wrs
  split
  ·refine List.nodup_cons.2 ⟨fun h=>?_,ih (n+1)⟩
   obtain ⟨i,_,e,_⟩:=mem_wrs.1 h
   omega
  ·exact ih (n+1)
def mayTell (ds:List De) (x:De) (f:Int):Bool :=
 if x.reads then f==-1||(decide (0≤f)&&(decide (f < ds.length)&&match ds[f.toNat]? with | some y=>y.to x.d.p | none=>false)) else f==-2
def fromAt (ds:List De):List De→List Int→Bool
 | [],_=>true
 | x::xs,f::fs=>mayTell ds x f&&fromAt ds xs fs
 | _::_,[]=>false
def fromOk (ds:List De) (l:List Int):Bool:=decide (l.length=ds.length)&&fromAt ds ds l
def isRow (row evs:List Int):Bool:=decide (row.length=evs.length)&&evs.all (row.contains ·)
def orderAt (ds:List De):Nat→List (List Int)→Bool
 | _,[]=>true
 | p,row::rows=>isRow row (wrs p 0 ds)&&orderAt ds (p+1) rows
def orderOk (ds:List De) (rows:List (List Int)):Bool:=decide (rows.length=3)&&orderAt ds 0 rows
def valFrom (ds:List De) (l:List Int) (at_:Nat):Int :=
 match ds[at_]? with
 | none=>-1
 | some x=>if x.reads then l.getD at_ 0 else if x.d.k==3 then x.lr else -1
def orig (ds:List De) (l:List Int):Nat→Nat→Option Nat
 | 0,_=>none
 | n+1,at_=>if valFrom ds l at_ < 0 then some at_ else orig ds l n (valFrom ds l at_).toNat
def endsAt (ds:List De) (l:List Int):Nat→List De→Bool
 | _,[]=>true
 | n,_::xs=>(orig ds l ds.length n).isSome&&endsAt ds l (n+1) xs
def ends (ds:List De) (l:List Int):Bool:=endsAt ds l 0 ds
def wayOk (ds:List De) (l:List Int) (rows:List (List Int)):Bool:=fromOk ds l&&(orderOk ds rows&&ends ds l)
def execOk (ll:List (List D)) (l:List Int) (rows:List (List Int)):Bool:=prog ll&&wayOk (deeds ll) l rows
end M
end
section
open Go.RowKit
abbrev DeS (w:World) (va:Option Addr) (g:Nat) (l:List M.De):Prop:=RS M.De.cells 7 w va g l
abbrev M.De.agg (x:M.De):Value:=.agg #[.int .i64 (x.t:Int),.int .i64 (x.i:Int),.bool x.last,.int .i64 x.d.k,.int .i64 x.d.p,.int .i64 x.d.v,.int .i64 x.lr]
structure DeAt (w:World) (g o:Nat) (x:M.De):Prop where
 c0:w.cell? ⟨g,o,none⟩=some (.int .i64 x.t)
 c1:w.cell? ⟨g,o+1,none⟩=some (.int .i64 x.i)
 c2:w.cell? ⟨g,o+2,none⟩=some (.bool x.last)
 c3:w.cell? ⟨g,o+3,none⟩=some (.int .i64 x.d.k)
 c4:w.cell? ⟨g,o+4,none⟩=some (.int .i64 x.d.p)
 c5:w.cell? ⟨g,o+5,none⟩=some (.int .i64 x.d.v)
 c6:w.cell? ⟨g,o+6,none⟩=some (.int .i64 x.lr)
theorem DeS.at {w:World} {va:Option Addr} {g:Nat} {l:List M.De} (h:DeS w va g l) {n:Nat} (hn:n < l.length):DeAt w g (n * 7) l[n] :=
 ⟨h.row n hn 0 (by omega),h.row n hn 1 (by omega),h.row n hn 2 (by omega),h.row n hn 3 (by omega),h.row n hn 4 (by omega),h.row n hn 5 (by omega),h.row n hn 6 (by omega)⟩
theorem DeS.bel {w w':World} {va:Option Addr} {g B:Nat} {l:List M.De} (h:DeS w va g l) (hb:Below B w w') (hB:w.heap.size≤B):DeS w' va g l:=h.below M.De.len hb hB
theorem deReads_any (x:M.De) (w:World) :
  Calls Tryz.prog 86 #[x.agg] w fun e w'=>e=.returned (.bool x.reads)∧w'=w.alloc (.cells #[.int .i64 (x.t:Int),.int .i64 (x.i:Int),.bool x.last,.int .i64 x.d.k,.int .i64 x.d.p,.int .i64 x.d.v,.int .i64 x.lr] 167):=by
 go_enter Tryz.func86,Tryz.ntmps86
 go_wp2_with (go_at_call 37;refine (reads_any _ _).mono ?_;rintro e w' ⟨rfl,rfl⟩)
 go_ret
 exact ⟨rfl,rfl⟩
theorem writesTo_any (x:M.De) (p:Int) (w:World) :
  Calls Tryz.prog 166 #[x.agg,.int .i64 p] w fun e w'=>e=.returned (.bool (x.to p))∧w'=w.alloc (.cells #[.int .i64 (x.t:Int),.int .i64 (x.i:Int),.bool x.last,.int .i64 x.d.k,.int .i64 x.d.p,.int .i64 x.d.v,.int .i64 x.lr] 167):=by
 cases hw:M.writes x.d.k
 all_goals
  go_enter Tryz.func166,Tryz.ntmps166
  go_wp2_with (go_at_call 38;refine (writes_any _ _).mono ?_;rw [hw];rintro e w' ⟨rfl,rfl⟩)
  go_ret
  exact ⟨ret_bool (by simp [M.De.to,hw]),rfl⟩
set_option maxHeartbeats 1000000 in
theorem writers_any (va:Option Addr) (g c:Nat) (ds:List M.De) (p:Int) (w:World) (hl:ds.length≤1048576) (h:DeS w va g ds) :
  Calls Tryz.prog 126 #[.slice va ds.length c,.int .i64 p] w fun e w'=>∃ v,e=.returned v∧w'.ownsRow w.heap.size 3 1 v (M.wrs p 0 ds).length (nums (M.wrs p 0 ds))∧Below w.heap.size w w':=by
 obtain ⟨i0,hi,hz0,hz1,hz2⟩:=info_parts Tryz.infoInt
 go_enter Tryz.func126,Tryz.ntmps126
 go_wp2_with fail
 go_loopw [5,10] (fun s5 s10 wr=>∃ (n:Nat) (acc:List Int) (va':Option Addr) (vc:Nat),s5=.slice va' acc.length vc∧s10=.int .i64 n∧n≤ds.length∧acc.length≤n∧Hid (M.wrs p 0 ds=acc++M.wrs p n (ds.drop n))∧Told w wr 3 1 (.slice va' acc.length vc) acc.length (nums acc)) (fun _ s10 _=>ds.length - (intOf s10).toNat)
 case atStart=>exact ⟨0,[],none,0,rfl,rfl,Nat.zero_le _,Nat.le_refl _,by show _=_;rfl,Told.start _ _ _ _ (Below.refl _ _)⟩
 case round =>
  obtain ⟨n,acc,va',vc,rfl,rfl,hn,hacc,HW,hT⟩:=hrel
  by_cases hlt:n < ds.length
  ·obtain ⟨rfl⟩:=h.addr (by omega)
   have hx:=DeS.at (h.bel hT.bel (Nat.le_refl _)) hlt
   have HW2:=M.wrs_step HW.out hlt
   have HW2:Hid (M.wrs p 0 ds=(if (ds[n]).to p then acc++[(n:Int)] else acc)++M.wrs p (n+1) (ds.drop (n+1))):=HW2
   clear HW
   generalize ds[n]=x at *
   obtain ⟨c0,c1,c2,c3,c4,c5,c6⟩:=hx
   have i1:(n:Int) < ds.length:=by omega
   have lg:g < wr.heap.size:=World.block_lt_of_cell? _ _ c0
   have hT1:=hT.below (below2 wr (.cells #[.int .i64 (x.t:Int),.int .i64 (x.i:Int),.bool x.last,.int .i64 x.d.k,.int .i64 x.d.p,.int .i64 x.d.v,.int .i64 x.lr] 167) (.cells #[.int .i64 (x.t:Int),.int .i64 (x.i:Int),.bool x.last,.int .i64 x.d.k,.int .i64 x.d.p,.int .i64 x.d.v,.int .i64 x.lr] 167))
   cases ht:x.to p
   ·go_wp2_with (go_at_call 166;refine (writesTo_any x p _).mono ?_;rw [ht];rintro e w' ⟨rfl,rfl⟩)
    exact ⟨⟨n+1,acc,va',vc,rfl,by go_num,by omega,by omega,by show _=_;have:=HW2.out;rw [ht] at this;exact this,hT1⟩,by simp [intOf];omega⟩
   ·go_wp2_with (first | (go_at_call 166;refine (writesTo_any x p _).mono ?_;rw [ht];rintro e w' ⟨rfl,rfl⟩) | (at_builtin;refine wpList_append_lies _ rfl (.tmp 18) (.tmp 20) 31 rfl w.heap.size 3 i0 _ 1 8 Tryz.underlying31 hi hz0 hz1 hz2 rfl (by decide) _ _ _ rfl (hT1.own.alloc _) ⟨wr.heap.size+1+1,0,none⟩ 1 1 [.int .i64 n] rfl rfl (World.news_of_block (cs:=#[.int .i64 (n:Int)]) (t:=3) (fr:=(0,0)) (by have:=heap_alloc_new ((wr.alloc (.cells #[.int .i64 (x.t:Int),.int .i64 (x.i:Int),.bool x.last,.int .i64 x.d.k,.int .i64 x.d.p,.int .i64 x.d.v,.int .i64 x.lr] 167)).alloc (.cells #[.int .i64 (x.t:Int),.int .i64 (x.i:Int),.bool x.last,.int .i64 x.d.k,.int .i64 x.d.p,.int .i64 x.d.v,.int .i64 x.lr] 167)) (.cells #[.int .i64 (n:Int)] 3);simpa using this)) (by simp [Value.oneCell']) (by omega) (by unfold maxLen;omega) (by omega) (by have:=hT1.bel.size;simp at this ⊢;omega) (wr.heap.size+1+1+1) (by simp) ?_))
    intro g6 cap6 w6 hown6 hg6 hat6 hlt6
    have hT6:Told w w6 3 1 (.slice (some ⟨g6,0,none⟩) (acc.length+1) cap6) (acc.length+1) (nums (acc++[(n:Int)])):=by
     have e:nums (acc++[(n:Int)])=nums acc++[.int .i64 n]:=by simp [nums]
     rw [e];exact hT1.snoc hown6 hg6
    clear hown6 hg6 hat6 hlt6
    go_wp2_with fail
    exact ⟨⟨n+1,acc++[(n:Int)],some ⟨g6,0,none⟩,cap6,by simp,by go_num,by omega,by simp;omega,by show _=_;have:=HW2.out;rw [ht] at this;exact this,by rw [List.length_append];exact hT6⟩,by simp [intOf];omega⟩
  ·go_wp2_with fail
   go_ret
   have hf:=M.wrs_fin HW.out (by omega)
   exact ⟨_,rfl,by rw [hf];exact hT.own,hT.bel⟩
end
section
open Go.RowKit
structure IntSS (w:World) (a:Option Addr) (b o:Nat) (rows:List (List Int)):Prop where
 addr:0 < rows.length→a=some ⟨b,o,none⟩
 row:∀ i (h:i < rows.length),∃ a' b' o' c',w.cell? ⟨b,o+i,none⟩=some (.slice a' rows[i].length c')∧IntS w a' b' o' rows[i]
theorem IntSS.below {w w':World} {a:Option Addr} {B b o:Nat} {rows:List (List Int)} (h:IntSS w a b o rows) (hb:Below B w w') (hB:w.heap.size≤B):IntSS w' a b o rows :=
 ⟨h.addr,fun i hi=>by
  obtain ⟨a',b',o',c',hc,hr⟩:=h.row i hi
  exact ⟨a',b',o',c',(hb.cell (p:=⟨b,o+i,none⟩) (Nat.lt_of_lt_of_le (World.block_lt_of_cell? _ _ hc) hB)).trans hc,hr.below hb hB⟩⟩
end
section
open Go.RowKit
def M.In (ds:List M.De) (l:List Int):Prop:=∀ n,n < ds.length→M.valFrom ds l n < ds.length
theorem M.lr_lt {ll:List (List M.D)}:∀ x∈M.deeds ll,x.lr < (M.deeds ll).length:=by
 have hD:∀ (t i:Nat) (lr:Int) (n:Nat) (d:M.D),∀ x∈M.deD t i lr n d,x.lr=M.lrOf lr n d:=fun t i lr n d x hx=>by
  unfold M.deD at hx;split at hx<;>simp at hx<;>rcases hx with rfl | rfl<;>rfl
 have hT:∀ (l:List M.D) (t i:Nat) (lr:Int) (n:Nat),lr < n→∀ x∈M.deT t i lr n l,x.lr < ((n+(M.deT t i lr n l).length:Nat):Int):=by
  intro l
  induction l with
  | nil=>intro t i lr n _ x hx;simp [M.deT] at hx
  | cons d l ih =>
   intro t i lr n hlr x hx
   have h1:=(M.deD_len t i lr n d).1
   have hlo:M.lrOf lr n d < ((n+(M.deD t i lr n d).length:Nat):Int):=by unfold M.lrOf;split<;>omega
   rw [M.deT,List.length_append]
   rw [M.deT] at hx
   rcases List.mem_append.1 hx with hx | hx
   ·have:=hD t i lr n d x hx
    omega
   ·have:=ih t (i+1) (M.lrOf lr n d) _ hlo x hx
    omega
 have hF:∀ (ll:List (List M.D)) (t n:Nat),∀ x∈M.deF t n ll,x.lr < ((n+(M.deF t n ll).length:Nat):Int):=by
  intro ll
  induction ll with
  | nil=>intro t n x hx;simp [M.deF] at hx
  | cons l ll ih =>
   intro t n x hx
   rw [M.deF,List.length_append]
   rw [M.deF] at hx
   rcases List.mem_append.1 hx with hx | hx
   ·have:=hT l t 0 (-1) n (by omega) x hx
    omega
   ·have:=ih (t+1) _ x hx
    omega
 intro x hx
 have:=hF ll 0 0 x hx
 rw [Nat.zero_add] at this
 exact this
theorem M.fromAt_get {ds:List M.De}:∀ {xs:List M.De} {l:List Int},M.fromAt ds xs l=true→∀ n (h:n < xs.length),∃ h2:n < l.length,M.mayTell ds xs[n] l[n]=true:=by
 intro xs
 induction xs with
 | nil=>intro l _ n h;exact absurd h (Nat.not_lt_zero _)
 | cons x xs ih =>
  intro l h n hn
  cases l with
  | nil=>simp [M.fromAt] at h
  | cons f l =>
   simp only [M.fromAt,Bool.and_eq_true] at h
   cases n with
   | zero=>exact ⟨by simp,h.1⟩
   | succ n =>
    obtain ⟨h2,h3⟩:=ih h.2 n (by simpa using hn)
    exact ⟨by simpa using h2,by simpa using h3⟩
theorem M.in_of {ll:List (List M.D)} {l:List Int} (h:M.fromOk (M.deeds ll) l=true):M.In (M.deeds ll) l:=by
 intro n hn
 simp only [M.fromOk,Bool.and_eq_true,decide_eq_true_eq] at h
 obtain ⟨h2,ht⟩:=M.fromAt_get h.2 n hn
 unfold M.valFrom
 rw [List.getElem?_eq_getElem hn]
 simp only []
 split
 ·rename_i hr
  rw [List.getD_eq_getElem?_getD,List.getElem?_eq_getElem h2]
  show l[n] < _
  simp only [M.mayTell,hr,if_true,Bool.or_eq_true,Bool.and_eq_true,decide_eq_true_eq,beq_iff_eq] at ht
  rcases ht with ht | ht
  ·omega
  ·omega
 ·split
  ·exact M.lr_lt _ (List.getElem_mem hn)
  ·omega
set_option maxHeartbeats 400000 in
theorem valueFrom_any (va:Option Addr) (g c:Nat) (ds:List M.De) (a:Option Addr) (b o c2:Nat) (l:List Int) (n:Nat) (w:World) (hn:n < ds.length) (hln:n < l.length) (hl:ds.length≤1048576) (hl2:l.length≤1048576) (h:DeS w va g ds) (h2:IntS w a b o l) :
  Calls Tryz.prog 180 #[.slice va ds.length c,.slice a l.length c2,.int .i64 n] w fun e w'=>e=.returned (.int .i64 (M.valFrom ds l n))∧Below w.heap.size w w':=by
 obtain ⟨rfl⟩:=h.addr (by omega)
 obtain ⟨rfl⟩:=h2.addr (by omega)
 have hx:=DeS.at h hn
 have hf:=h2.row n hln
 have HV:Hid (M.valFrom ds l n=if (ds[n]).reads then l[n] else if (ds[n]).d.k==3 then (ds[n]).lr else -1):=by
  show _=_
  simp [M.valFrom,hn,hln]
 generalize ds[n]=x at *
 generalize l[n]=f at *
 obtain ⟨c0,c1,c2',c3,c4,c5,c6⟩:=hx
 have i1:(n:Int) < ds.length:=by omega
 have i2:(n:Int) < l.length:=by omega
 have lb:b < w.heap.size:=World.block_lt_of_cell? _ _ hf
 cases hr:x.reads
 ·cases h3:(x.d.k==3)
  all_goals
   go_enter Tryz.func180,Tryz.ntmps180
   go_wp2_with (go_at_call 86;refine (deReads_any x _).mono ?_;rw [hr];rintro e w' ⟨rfl,rfl⟩)
   go_ret
   exact ⟨by rw [HV.out,hr,h3];rfl,below2 _ _ _⟩
 ·go_enter Tryz.func180,Tryz.ntmps180
  go_wp2_with (go_at_call 86;refine (deReads_any x _).mono ?_;rw [hr];rintro e w' ⟨rfl,rfl⟩)
  go_ret
  exact ⟨by rw [HV.out,hr];rfl,below2 _ _ _⟩
def M.origV (r:Option Nat):Value:=match r with | none=>.tuple #[.int .i64 0,.bool false] | some n=>.tuple #[.int .i64 n,.bool true]
set_option maxHeartbeats 1000000 in
theorem origin_any (va:Option Addr) (g c:Nat) (ds:List M.De) (a:Option Addr) (b o c2:Nat) (l:List Int) (n:Nat) (w:World) (hn:n < ds.length) (hll:l.length=ds.length) (hin:M.In ds l) (hl:ds.length≤1048576) (h:DeS w va g ds) (h2:IntS w a b o l) :
  Calls Tryz.prog 136 #[.slice va ds.length c,.slice a l.length c2,.int .i64 n] w fun e w'=>e=.returned (M.origV (M.orig ds l ds.length n))∧Below w.heap.size w w':=by
 have HLL:Hid (l.length=ds.length):=hll
 have hl2:l.length≤1048576:=by omega
 clear hll
 go_enter Tryz.func136,Tryz.ntmps136
 go_wp2_with fail
 go_loopw [2,11] (fun s2 s11 wr=>∃ m q:Nat,s2=.int .i64 m∧s11=.int .i64 q∧q≤ds.length∧m < ds.length∧Hid (M.orig ds l ds.length n=M.orig ds l (ds.length - q) m)∧Below w.heap.size w wr) (fun _ s11 _=>ds.length - (intOf s11).toNat)
 case atStart=>exact ⟨n,0,rfl,rfl,Nat.zero_le _,hn,by show _=_;rfl,Below.refl _ _⟩
 case round =>
  obtain ⟨m,q,rfl,rfl,hq,hm,HO,hb⟩:=hrel
  by_cases hlt:q < ds.length
  ·have HS:Hid (M.orig ds l ds.length n=if M.valFrom ds l m < 0 then some m else M.orig ds l (ds.length - (q+1)) (M.valFrom ds l m).toNat):=by
    show _=_
    rw [HO.out,show ds.length - q=(ds.length - (q+1))+1 from by omega,M.orig]
   clear HO
   have hi:=hin m hm
   have C:=valueFrom_any va g c ds a b o c2 l m wr hm (by rw [HLL.out];exact hm) hl hl2 (h.bel hb (Nat.le_refl _)) (h2.below hb (Nat.le_refl _))
   generalize M.valFrom ds l m=vf at *
   have i1:(q:Int) < ds.length:=by omega
   by_cases hneg:vf < 0
   ·go_wp2_with (go_at_call 180;refine C.mono ?_;rintro e w1 ⟨rfl,hb1⟩)
    go_ret2
    exact ⟨by rw [HS.out,if_pos hneg];rfl,hb.trans (hb1.mono hb.size)⟩
   ·obtain ⟨m2,rfl⟩:∃ m2:Nat,vf=m2:=⟨vf.toNat,by omega⟩
    go_wp2_with (go_at_call 180;refine C.mono ?_;rintro e w1 ⟨rfl,hb1⟩)
    exact ⟨⟨m2,q+1,rfl,by go_num,by omega,by omega,by show _=_;rw [HS.out,if_neg (by omega),Int.toNat_natCast],hb.trans (hb1.mono hb.size)⟩,by simp [intOf];omega⟩
  ·go_wp2_with fail
   go_ret2
   exact ⟨by rw [HO.out,show ds.length - q=0 from by omega];rfl,hb⟩
theorem M.ends_step {ds:List M.De} {l:List Int} {n:Nat} (h:M.endsAt ds l 0 ds=M.endsAt ds l n (ds.drop n)) (hn:n < ds.length):M.endsAt ds l 0 ds=((M.orig ds l ds.length n).isSome&&M.endsAt ds l (n+1) (ds.drop (n+1))):=by
 rw [h,← List.getElem_cons_drop hn,M.endsAt]
set_option maxHeartbeats 1000000 in
theorem copiesEnd_any (va:Option Addr) (g c:Nat) (ds:List M.De) (a:Option Addr) (b o c2:Nat) (l:List Int) (w:World) (hll:l.length=ds.length) (hin:M.In ds l) (hl:ds.length≤1048576) (h:DeS w va g ds) (h2:IntS w a b o l) :
  Calls Tryz.prog 165 #[.slice va ds.length c,.slice a l.length c2] w fun e w'=>e=.returned (.bool (M.ends ds l))∧Below w.heap.size w w':=by
 have HLL:Hid (l.length=ds.length):=hll
 clear hll
 go_enter Tryz.func165,Tryz.ntmps165
 go_wp2_with fail
 go_loopw [10] (fun s10 wr=>∃ n:Nat,s10=.int .i64 n∧n≤ds.length∧Hid (M.endsAt ds l 0 ds=M.endsAt ds l n (ds.drop n))∧Below w.heap.size w wr) (fun s10 _=>ds.length - (intOf s10).toNat)
 case atStart=>exact ⟨0,rfl,Nat.zero_le _,by show _=_;rfl,Below.refl _ _⟩
 case round =>
  obtain ⟨n,rfl,hn,HA,hb⟩:=hrel
  by_cases hlt:n < ds.length
  ·have HS:Hid (M.endsAt ds l 0 ds=((M.orig ds l ds.length n).isSome&&M.endsAt ds l (n+1) (ds.drop (n+1)))):=M.ends_step HA.out hlt
   clear HA
   have C:=origin_any va g c ds a b o c2 l n wr hlt HLL.out hin hl (h.bel hb (Nat.le_refl _)) (h2.below hb (Nat.le_refl _))
   have i1:(n:Int) < ds.length:=by omega
   cases ho:M.orig ds l ds.length n with
   | none =>
    rw [ho] at C
    change Calls _ _ _ _ fun e w'=>e=.returned (.tuple #[.int .i64 0,.bool false])∧_ at C
    go_wp2_with (go_at_call 136;refine C.mono ?_;rintro e w1 ⟨rfl,hb1⟩)
    go_ret
    exact ⟨ret_bool (by rw [M.ends,HS.out,ho];rfl),hb.trans (hb1.mono hb.size)⟩
   | some q =>
    rw [ho] at C
    change Calls _ _ _ _ fun e w'=>e=.returned (.tuple #[.int .i64 q,.bool true])∧_ at C
    go_wp2_with (go_at_call 136;refine C.mono ?_;rintro e w1 ⟨rfl,hb1⟩)
    exact ⟨⟨n+1,by go_num,by omega,by show _=_;rw [HS.out,ho];rfl,hb.trans (hb1.mono hb.size)⟩,by simp [intOf];omega⟩
  ·go_wp2_with fail
   go_ret
   exact ⟨ret_bool (by rw [M.ends,HA.out,List.drop_eq_nil_of_le (by omega)];rfl),hb⟩
end
end Go.Proofs.YtnddmlgnngdaoaaGreatDoor
