/- The plain mathematics of ways: what is told just so. No condition. And what goes with it: OkMath, OkImpl, OkOrd, XaMath, XaBnd, OkFrom, OkEnd, OsDo, XaMem. -/
import Derived.Shelf.Abstract
import Derived.BigQuiet
import Derived.Deep.RegionHeld3
import Derived.Deep.AppendLies
import Derived.Laws.AppendOwnNone
import Derived.Test.YtjjkicffhpcngaaGreatBWam
namespace Go.Proofs.YtjjkicffhpcngaaGreat
namespace M
def De.reads (x:De):Bool:=M.reads x.d.k
def De.to (x:De) (p:Int):Bool:=M.writes x.d.k&&x.d.p==p
def wrs (p:Int):Nat→List De→List Int
 | _,[]=>[]
 | n,x::l=>if x.to p then (n:Int)::wrs p (n+1) l else wrs p (n+1) l
theorem wrs_step {p:Int} {ds:List De} {acc:List Int} {n:Nat} (h:wrs p 0 ds=acc++wrs p n (ds.drop n)) (hn:n < ds.length):wrs p 0 ds=(if (ds[n]).to p then acc++[(n:Int)] else acc)++wrs p (n+1) (ds.drop (n+1)):=by
 rw [h,← List.getElem_cons_drop hn,wrs]
 split<;>simp
theorem wrs_fin {p:Int} {ds:List De} {acc:List Int} {n:Nat} (h:wrs p 0 ds=acc++wrs p n (ds.drop n)) (hn:ds.length≤n):wrs p 0 ds=acc:=by
 rw [h,List.drop_eq_nil_of_le hn];simp [wrs]
theorem wrs_len (p:Int) (l:List De):∀ n,(wrs p n l).length≤l.length:=by
 induction l with
 | nil=>intro n;simp [wrs]
 | cons x l ih =>
  intro n
  have:=ih (n+1)
  unfold wrs
  split<;>simp<;>omega
theorem mem_wrs {p:Int} {l:List De}:∀ {n:Nat} {k:Int},k∈wrs p n l↔∃ i,∃ h:i < l.length,k=((n+i:Nat):Int)∧(l[i]).to p=true:=by
 induction l with
 | nil=>intro n k;simp [wrs]
 | cons x l ih =>
  intro n k
  have step:k∈wrs p (n+1) l↔∃ i,∃ h:i+1 < (x::l).length,k=((n+(i+1):Nat):Int)∧((x::l)[i+1]).to p=true:=by
   rw [ih]
   constructor
   ·rintro ⟨i,h,e,t⟩
    exact ⟨i,by simpa using h,by rw [e];congr 1;omega,by simpa using t⟩
   ·rintro ⟨i,h,e,t⟩
    exact ⟨i,by simpa using h,by rw [e];congr 1;omega,by simpa using t⟩
  have all:(∃ i,∃ h:i < (x::l).length,k=((n+i:Nat):Int)∧((x::l)[i]).to p=true)↔((k=n∧x.to p=true)∨∃ i,∃ h:i+1 < (x::l).length,k=((n+(i+1):Nat):Int)∧((x::l)[i+1]).to p=true):=by
   constructor
   ·rintro ⟨i,h,e,t⟩
    cases i with
    | zero=>exact Or.inl ⟨by simpa using e,by simpa using t⟩
    | succ i=>exact Or.inr ⟨i,h,e,t⟩
   ·rintro (⟨e,t⟩ | ⟨i,h,e,t⟩)
    ·exact ⟨0,by simp,by simpa using e,by simpa using t⟩
    ·exact ⟨i+1,h,e,t⟩
  rw [all,← step,wrs]
  by_cases ht:x.to p=true
  ·rw [if_pos ht];simp [ht]
  ·rw [if_neg ht];simp [ht]
theorem nodup_wrs (p:Int) (l:List De):∀ n,(wrs p n l).Nodup:=by
 induction l with
 | nil=>intro n;simp [wrs]
 | cons x l ih =>
  intro n
  unfold wrs
  split
  ·refine List.nodup_cons.2 ⟨fun h=>?_,ih (n+1)⟩
   obtain ⟨i,_,e,_⟩:=mem_wrs.1 h
   omega
  ·exact ih (n+1)
def mayTell (ds:List De) (x:De) (f:Int):Bool :=
 if x.reads then f==-1||(decide (0≤f)&&(decide (f < ds.length)&&match ds[f.toNat]? with | some y=>y.to x.d.p | none=>false)) else f==-2
def fromAt (ds:List De):List De→List Int→Bool
 | [],_=>true
 | x::xs,f::fs=>mayTell ds x f&&fromAt ds xs fs
 | _::_,[]=>false
def fromOk (ds:List De) (l:List Int):Bool:=decide (l.length=ds.length)&&fromAt ds ds l
def isRow (row evs:List Int):Bool:=decide (row.length=evs.length)&&evs.all (row.contains ·)
def orderAt (ds:List De):Nat→List (List Int)→Bool
 | _,[]=>true
 | p,row::rows=>isRow row (wrs p 0 ds)&&orderAt ds (p+1) rows
def orderOk (ds:List De) (rows:List (List Int)):Bool:=decide (rows.length=3)&&orderAt ds 0 rows
def valFrom (ds:List De) (l:List Int) (at_:Nat):Int :=
 match ds[at_]? with
 | none=>-1
 | some x=>if x.reads then l.getD at_ 0 else if x.d.k==3 then x.lr else -1
def orig (ds:List De) (l:List Int):Nat→Nat→Option Nat
 | 0,_=>none
 | n+1,at_=>if valFrom ds l at_ < 0 then some at_ else orig ds l n (valFrom ds l at_).toNat
def endsAt (ds:List De) (l:List Int):Nat→List De→Bool
 | _,[]=>true
 | n,_::xs=>(orig ds l ds.length n).isSome&&endsAt ds l (n+1) xs
def ends (ds:List De) (l:List Int):Bool:=endsAt ds l 0 ds
def wayOk (ds:List De) (l:List Int) (rows:List (List Int)):Bool:=fromOk ds l&&(orderOk ds rows&&ends ds l)
def execOk (ll:List (List D)) (l:List Int) (rows:List (List Int)):Bool:=prog ll&&wayOk (deeds ll) l rows
end M
end Go.Proofs.YtjjkicffhpcngaaGreat
namespace Go.Proofs.YtjjkicffhpcngaaGreat
open Go.RowKit
abbrev DeS (w:World) (va:Option Addr) (g:Nat) (l:List M.De):Prop:=RS M.De.cells 7 w va g l
abbrev M.De.agg (x:M.De):Value:=.agg #[.int .i64 (x.t:Int),.int .i64 (x.i:Int),.bool x.last,.int .i64 x.d.k,.int .i64 x.d.p,.int .i64 x.d.v,.int .i64 x.lr]
structure DeAt (w:World) (g o:Nat) (x:M.De):Prop where
 c0:w.cell? ⟨g,o,none⟩=some (.int .i64 x.t)
 c1:w.cell? ⟨g,o+1,none⟩=some (.int .i64 x.i)
 c2:w.cell? ⟨g,o+2,none⟩=some (.bool x.last)
 c3:w.cell? ⟨g,o+3,none⟩=some (.int .i64 x.d.k)
 c4:w.cell? ⟨g,o+4,none⟩=some (.int .i64 x.d.p)
 c5:w.cell? ⟨g,o+5,none⟩=some (.int .i64 x.d.v)
 c6:w.cell? ⟨g,o+6,none⟩=some (.int .i64 x.lr)
theorem DeS.at {w:World} {va:Option Addr} {g:Nat} {l:List M.De} (h:DeS w va g l) {n:Nat} (hn:n < l.length):DeAt w g (n * 7) l[n] :=
 ⟨h.row n hn 0 (by omega),h.row n hn 1 (by omega),h.row n hn 2 (by omega),h.row n hn 3 (by omega),h.row n hn 4 (by omega),h.row n hn 5 (by omega),h.row n hn 6 (by omega)⟩
theorem DeS.bel {w w':World} {va:Option Addr} {g B:Nat} {l:List M.De} (h:DeS w va g l) (hb:Below B w w') (hB:w.heap.size≤B):DeS w' va g l:=h.below M.De.len hb hB
theorem deReads_any (x:M.De) (w:World) :
  Calls Tryz.prog 80 #[x.agg] w fun e w'=>e=.returned (.bool x.reads)∧w'=w.alloc (.cells #[.int .i64 (x.t:Int),.int .i64 (x.i:Int),.bool x.last,.int .i64 x.d.k,.int .i64 x.d.p,.int .i64 x.d.v,.int .i64 x.lr] 95):=by
 go_enter Tryz.func80,Tryz.ntmps80
 go_wp2_with (go_at_call 71;refine (reads_any _ _).mono ?_;rintro e w' ⟨rfl,rfl⟩)
 go_ret
 exact ⟨rfl,rfl⟩
theorem writesTo_any (x:M.De) (p:Int) (w:World) :
  Calls Tryz.prog 153 #[x.agg,.int .i64 p] w fun e w'=>e=.returned (.bool (x.to p))∧w'=w.alloc (.cells #[.int .i64 (x.t:Int),.int .i64 (x.i:Int),.bool x.last,.int .i64 x.d.k,.int .i64 x.d.p,.int .i64 x.d.v,.int .i64 x.lr] 95):=by
 cases hw:M.writes x.d.k
 all_goals
  go_enter Tryz.func153,Tryz.ntmps153
  go_wp2_with (go_at_call 115;refine (writes_any _ _).mono ?_;rw [hw];rintro e w' ⟨rfl,rfl⟩)
  go_ret
  exact ⟨ret_bool (by simp [M.De.to,hw]),rfl⟩
set_option maxHeartbeats 1000000 in
theorem writers_any (va:Option Addr) (g c:Nat) (ds:List M.De) (p:Int) (w:World) (hl:ds.length≤1048576) (h:DeS w va g ds) :
  Calls Tryz.prog 117 #[.slice va ds.length c,.int .i64 p] w fun e w'=>∃ v,e=.returned v∧w'.ownsRow w.heap.size 3 1 v (M.wrs p 0 ds).length (nums (M.wrs p 0 ds))∧Below w.heap.size w w':=by
 obtain ⟨i0,hi,hz0,hz1,hz2⟩:=info_parts Tryz.infoInt
 go_enter Tryz.func117,Tryz.ntmps117
 go_wp2_with fail
 go_loopw [5,10] (fun s5 s10 wr=>∃ (n:Nat) (acc:List Int) (va':Option Addr) (vc:Nat),s5=.slice va' acc.length vc∧s10=.int .i64 n∧n≤ds.length∧acc.length≤n∧Hid (M.wrs p 0 ds=acc++M.wrs p n (ds.drop n))∧Told w wr 3 1 (.slice va' acc.length vc) acc.length (nums acc)) (fun _ s10 _=>ds.length - (intOf s10).toNat)
 case atStart=>exact ⟨0,[],none,0,rfl,rfl,Nat.zero_le _,Nat.le_refl _,by show _=_;rfl,Told.start _ _ _ _ (Below.refl _ _)⟩
 case round =>
  obtain ⟨n,acc,va',vc,rfl,rfl,hn,hacc,HW,hT⟩:=hrel
  by_cases hlt:n < ds.length
  ·obtain ⟨rfl⟩:=h.addr (by omega)
   have hx:=DeS.at (h.bel hT.bel (Nat.le_refl _)) hlt
   have HW2:=M.wrs_step HW.out hlt
   have HW2:Hid (M.wrs p 0 ds=(if (ds[n]).to p then acc++[(n:Int)] else acc)++M.wrs p (n+1) (ds.drop (n+1))):=HW2
   clear HW
   generalize ds[n]=x at *
   obtain ⟨c0,c1,c2,c3,c4,c5,c6⟩:=hx
   have i1:(n:Int) < ds.length:=by omega
   have lg:g < wr.heap.size:=World.block_lt_of_cell? _ _ c0
   have hT1:=hT.below (below2 wr (.cells #[.int .i64 (x.t:Int),.int .i64 (x.i:Int),.bool x.last,.int .i64 x.d.k,.int .i64 x.d.p,.int .i64 x.d.v,.int .i64 x.lr] 95) (.cells #[.int .i64 (x.t:Int),.int .i64 (x.i:Int),.bool x.last,.int .i64 x.d.k,.int .i64 x.d.p,.int .i64 x.d.v,.int .i64 x.lr] 95))
   cases ht:x.to p
   ·go_wp2_with (go_at_call 153;refine (writesTo_any x p _).mono ?_;rw [ht];rintro e w' ⟨rfl,rfl⟩)
    exact ⟨⟨n+1,acc,va',vc,rfl,by go_num,by omega,by omega,by show _=_;have:=HW2.out;rw [ht] at this;exact this,hT1⟩,by simp [intOf];omega⟩
   ·go_wp2_with (first | (go_at_call 153;refine (writesTo_any x p _).mono ?_;rw [ht];rintro e w' ⟨rfl,rfl⟩) | (at_builtin;refine wpList_append_lies _ rfl (.tmp 18) (.tmp 20) 47 rfl w.heap.size 3 i0 _ 1 8 Tryz.underlying47 hi hz0 hz1 hz2 rfl (by decide) _ _ _ rfl (hT1.own.alloc _) ⟨wr.heap.size+1+1,0,none⟩ 1 1 [.int .i64 n] rfl rfl (World.news_of_block (cs:=#[.int .i64 (n:Int)]) (t:=3) (fr:=(0,0)) (by have:=heap_alloc_new ((wr.alloc (.cells #[.int .i64 (x.t:Int),.int .i64 (x.i:Int),.bool x.last,.int .i64 x.d.k,.int .i64 x.d.p,.int .i64 x.d.v,.int .i64 x.lr] 95)).alloc (.cells #[.int .i64 (x.t:Int),.int .i64 (x.i:Int),.bool x.last,.int .i64 x.d.k,.int .i64 x.d.p,.int .i64 x.d.v,.int .i64 x.lr] 95)) (.cells #[.int .i64 (n:Int)] 3);simpa using this)) (by simp [Value.oneCell']) (by omega) (by unfold maxLen;omega) (by omega) (by have:=hT1.bel.size;simp at this ⊢;omega) (wr.heap.size+1+1+1) (by simp) ?_))
    intro g6 cap6 w6 hown6 hg6 hat6 hlt6
    have hT6:Told w w6 3 1 (.slice (some ⟨g6,0,none⟩) (acc.length+1) cap6) (acc.length+1) (nums (acc++[(n:Int)])):=by
     have e:nums (acc++[(n:Int)])=nums acc++[.int .i64 n]:=by simp [nums]
     rw [e];exact hT1.snoc hown6 hg6
    clear hown6 hg6 hat6 hlt6
    go_wp2_with fail
    exact ⟨⟨n+1,acc++[(n:Int)],some ⟨g6,0,none⟩,cap6,by simp,by go_num,by omega,by simp;omega,by show _=_;have:=HW2.out;rw [ht] at this;exact this,by rw [List.length_append];exact hT6⟩,by simp [intOf];omega⟩
  ·go_wp2_with fail
   go_ret
   have hf:=M.wrs_fin HW.out (by omega)
   exact ⟨_,rfl,by rw [hf];exact hT.own,hT.bel⟩
end Go.Proofs.YtjjkicffhpcngaaGreat
namespace Go.Proofs.YtjjkicffhpcngaaGreat
open Go.RowKit
structure IntSS (w:World) (a:Option Addr) (b o:Nat) (rows:List (List Int)):Prop where
 addr:0 < rows.length→a=some ⟨b,o,none⟩
 row:∀ i (h:i < rows.length),∃ a' b' o' c',w.cell? ⟨b,o+i,none⟩=some (.slice a' rows[i].length c')∧IntS w a' b' o' rows[i]
theorem IntSS.below {w w':World} {a:Option Addr} {B b o:Nat} {rows:List (List Int)} (h:IntSS w a b o rows) (hb:Below B w w') (hB:w.heap.size≤B):IntSS w' a b o rows :=
 ⟨h.addr,fun i hi=>by
  obtain ⟨a',b',o',c',hc,hr⟩:=h.row i hi
  exact ⟨a',b',o',c',(hb.cell (p:=⟨b,o+i,none⟩) (Nat.lt_of_lt_of_le (World.block_lt_of_cell? _ _ hc) hB)).trans hc,hr.below hb hB⟩⟩
end Go.Proofs.YtjjkicffhpcngaaGreat
namespace Go.Proofs.YtjjkicffhpcngaaGreat
namespace M
def rowsOf (l:List Int):Nat→List Int→List (List Int)
 | 0,h=>[h]
 | n+1,h=>l.flatMap fun v=>if M.has h v then [] else rowsOf l n (h++[v])
def fromsOf (ds:List De):Nat→List Int→List (List Int)
 | 0,f=>[f]
 | n+1,f=>if ((ds[f.length]?).map De.reads).getD false then fromsOf ds n (f++[-1])++(wrs (((ds[f.length]?).map fun x=>x.d.p).getD 0) 0 ds).flatMap fun v=>fromsOf ds n (f++[v]) else fromsOf ds n (f++[-2])
def addPlace (rows:List (List Int)) (out:List (List (List Int))):List (List (List Int)):=out.flatMap fun o=>rows.map fun r=>o++[r]
def ordersOf (ds:List De):List (List (List Int)):=addPlace (rowsOf (wrs 2 0 ds) (wrs 2 0 ds).length []) (addPlace (rowsOf (wrs 1 0 ds) (wrs 1 0 ds).length []) (addPlace (rowsOf (wrs 0 0 ds) (wrs 0 0 ds).length []) [[]]))
theorem flatMap_le {α β:Type} (f:α→List β) (m:Nat):∀ l:List α,(∀ x∈l,(f x).length≤m)→(l.flatMap f).length≤l.length * m
 | [],_=>by simp
 | x::l,h=>by
  have h1:=h x (by simp)
  have h2:=flatMap_le f m l (fun y hy=>h y (List.mem_cons_of_mem _ hy))
  rw [List.flatMap_cons,List.length_append,List.length_cons,Nat.succ_mul]
  omega
theorem rowsOf_len (l:List Int):∀ (n:Nat) (h:List Int),(rowsOf l n h).length≤l.length ^ n
 | 0,h=>by simp [rowsOf]
 | n+1,h=>by
  have:=flatMap_le (fun v=>if M.has h v then [] else rowsOf l n (h++[v])) (l.length ^ n) l (fun v _=>by
   by_cases hc:M.has h v=true
   ·rw [if_pos hc];exact Nat.zero_le _
   ·rw [if_neg hc];exact rowsOf_len l n _)
  rw [rowsOf,Nat.pow_succ,Nat.mul_comm]
  exact this
theorem rowsOf_each (l:List Int):∀ (n:Nat) (h r:List Int),r∈rowsOf l n h→r.length=h.length+n
 | 0,h,r,hr=>by simp [rowsOf] at hr;simp [hr]
 | n+1,h,r,hr=>by
  rw [rowsOf,List.mem_flatMap] at hr
  obtain ⟨v,_,hv⟩:=hr
  by_cases hc:M.has h v=true
  ·rw [if_pos hc] at hv;cases hv
  ·rw [if_neg hc] at hv
   have:=rowsOf_each l n _ r hv
   simp at this
   omega
theorem rows_step {l:List Int} {n k:Nat} {h:List Int} {rs all:List (List Int)} (e:all=rs++(l.drop k).flatMap fun v=>if M.has h v then [] else rowsOf l n (h++[v])) (hk:k < l.length):all=(rs++if M.has h l[k] then [] else rowsOf l n (h++[l[k]]))++(l.drop (k+1)).flatMap fun v=>if M.has h v then [] else rowsOf l n (h++[v]):=by
 rw [e,← List.getElem_cons_drop hk,List.flatMap_cons,List.append_assoc]
def rdN (ds:List De):Nat:=(ds.filter De.reads).length
theorem wrs_le (p:Int):∀ (n:Nat) (ds:List De),(wrs p n ds).length≤(ds.filter fun x=>M.writes x.d.k).length
 | _,[]=>by simp [wrs]
 | n,x::ds=>by
  have:=wrs_le p (n+1) ds
  by_cases hw:M.writes x.d.k=true
  ·rw [List.filter_cons_of_pos (by simpa using hw)]
   simp only [wrs,De.to]
   by_cases hp:x.d.p==p
   ·simp only [hw,hp,Bool.and_self,if_true];simp;omega
   ·simp only [hw,hp,Bool.and_false,Bool.false_eq_true,if_false];simp;omega
  ·rw [List.filter_cons_of_neg (by simpa using hw)]
   simp only [wrs,De.to,hw,Bool.false_and,Bool.false_eq_true,if_false]
   exact this
theorem fromsOf_len (ds:List De) (m:Nat) (hm:∀ p,(wrs p 0 ds).length+1≤m):∀ (n:Nat) (f:List Int),f.length+n=ds.length→(fromsOf ds n f).length≤m ^ rdN (ds.drop f.length)
 | 0,f,h=>by
  have h1:=hm 0
  simp only [fromsOf,List.length_singleton]
  exact Nat.one_le_pow _ _ (by omega)
 | n+1,f,h=>by
  have hlt:f.length < ds.length:=by omega
  have e:ds.drop f.length=ds[f.length]::ds.drop (f.length+1):=(List.getElem_cons_drop hlt).symm
  have hstep:∀ v:Int,(fromsOf ds n (f++[v])).length≤m ^ rdN (ds.drop (f.length+1)):=fun v=>by
   have:=fromsOf_len ds m hm n (f++[v]) (by simp;omega)
   simpa using this
  have hx:ds[f.length]?=some ds[f.length]:=List.getElem?_eq_getElem hlt
  rw [fromsOf,hx,e]
  simp only [Option.map_some,Option.getD_some]
  cases hr:De.reads ds[f.length]
  ·rw [if_neg (by simp),rdN,List.filter_cons_of_neg (by simp [hr])]
   exact hstep _
  ·rw [if_pos rfl,rdN,List.filter_cons_of_pos hr,List.length_cons,Nat.pow_succ,List.length_append]
   have h1:=hstep (-1)
   have h2:=flatMap_le (fun v=>fromsOf ds n (f++[v])) _ (wrs (ds[f.length]).d.p 0 ds) (fun v _=>hstep v)
   have h3:=hm (ds[f.length]).d.p
   have h4:((wrs (ds[f.length]).d.p 0 ds).length+1) * m ^ rdN (ds.drop (f.length+1))≤m * m ^ rdN (ds.drop (f.length+1)):=Nat.mul_le_mul_right _ h3
   rw [Nat.add_mul,Nat.one_mul] at h4
   rw [Nat.mul_comm (m ^ _) m]
   unfold rdN at *
   omega
theorem froms_no {ds:List De} {n:Nat} {f:List Int} (hlt:f.length < ds.length) {x:De} (hx:ds[f.length]=x) (hr:M.reads x.d.k=false):fromsOf ds (n+1) f=fromsOf ds n (f++[-2]):=by
 rw [fromsOf,List.getElem?_eq_getElem hlt,hx]
 simp [De.reads,hr]
theorem froms_yes {ds:List De} {n:Nat} {f:List Int} (hlt:f.length < ds.length) {x:De} (hx:ds[f.length]=x) (hr:M.reads x.d.k=true):fromsOf ds (n+1) f=fromsOf ds n (f++[-1])++(wrs x.d.p 0 ds).flatMap fun v=>fromsOf ds n (f++[v]):=by
 rw [fromsOf,List.getElem?_eq_getElem hlt,hx]
 simp [De.reads,hr]
theorem flat_step {α β:Type} {F:α→List β} {l:List α} {k:Nat} {rs all:List β} (e:all=rs++(l.drop k).flatMap F) (hk:k < l.length):all=(rs++F l[k])++(l.drop (k+1)).flatMap F:=by
 rw [e,← List.getElem_cons_drop hk,List.flatMap_cons,List.append_assoc]
theorem fromsOf_each (ds:List De):∀ (n:Nat) (f r:List Int),r∈fromsOf ds n f→r.length=f.length+n
 | 0,f,r,hr=>by simp [fromsOf] at hr;simp [hr]
 | n+1,f,r,hr=>by
  rw [fromsOf] at hr
  by_cases hc:((ds[f.length]?).map De.reads).getD false=true
  ·rw [if_pos hc,List.mem_append,List.mem_flatMap] at hr
   rcases hr with hv | ⟨v,_,hv⟩
   all_goals
    have:=fromsOf_each ds n _ r hv
    simp at this
    omega
  ·rw [if_neg hc] at hr
   have:=fromsOf_each ds n _ r hr
   simp at this
   omega
theorem addPlace_len (rows:List (List Int)) (out:List (List (List Int))):(addPlace rows out).length=out.length * rows.length:=by
 unfold addPlace
 induction out with
 | nil=>simp
 | cons o out ih=>rw [List.flatMap_cons,List.length_append,ih,List.length_map,List.length_cons,Nat.succ_mul];omega
end M
end Go.Proofs.YtjjkicffhpcngaaGreat
namespace Go.Proofs.YtjjkicffhpcngaaGreat
namespace M
def useN (ds:List De):Nat:=(ds.filter fun x=>uses x.d.k).length
theorem useN_append (l m:List De):useN (l++m)=useN l+useN m:=by simp [useN]
theorem useN_deD (t i:Nat) (lr:Int) (n:Nat) (d:D):useN (deD t i lr n d)=if uses d.k then 1 else 0:=by
 unfold deD useN
 by_cases h:d.k==9
 ·have h9:d.k=9:=by simpa using h
  have hu:uses d.k=false:=by rw [h9];decide
  rw [if_pos h];simp [hu]
 ·rw [if_neg h]
  cases hu:uses d.k<;>simp [hu]
theorem useN_deT (t:Nat):∀ (l:List D) (i:Nat) (lr:Int) (n:Nat),useN (deT t i lr n l)=cnt uses l
 | [],_,_,_=>by simp [deT,useN,cnt]
 | d::l,i,lr,n=>by
  rw [deT,useN_append,useN_deD,useN_deT t l,cnt_cons]
theorem useN_prog:∀ (ll:List (List D)) (t n a u:Nat),progFrom a u ll=true→u+useN (deF t n ll)≤6
 | [],_,_,a,u,h=>by simp [progFrom] at h;simp [deF,useN];omega
 | l::ll,t,n,a,u,h=>by
  by_cases hb:thread l=true
  ·simp only [progFrom,hb,if_true] at h
   have:=useN_prog ll (t+1) (n+(deT t 0 (-1) n l).length) _ _ h
   rw [deF,useN_append,useN_deT]
   omega
  ·simp [progFrom,hb] at h
theorem use6 {ll:List (List D)} (h:prog ll=true):useN (deeds ll)≤6:=by
 simp only [prog,Bool.and_eq_true,decide_eq_true_eq] at h
 have:=useN_prog ll 0 0 0 0 h.2
 unfold deeds
 omega
theorem filter_mono {α:Type} (p q:α→Bool):∀ l:List α,(∀ x∈l,p x=true→q x=true)→(l.filter p).length≤(l.filter q).length
 | [],_=>by simp
 | x::l,h=>by
  have ih:=filter_mono p q l (fun y hy=>h y (List.mem_cons_of_mem _ hy))
  cases hp:p x
  ·rw [List.filter_cons_of_neg (by simp [hp])]
   cases hq:q x
   ·rw [List.filter_cons_of_neg (by simp [hq])];exact ih
   ·rw [List.filter_cons_of_pos hq,List.length_cons];omega
  ·rw [List.filter_cons_of_pos hp,List.filter_cons_of_pos (h x (by simp) hp),List.length_cons,List.length_cons];omega
theorem rd6 {ds:List De} (h:useN ds≤6):rdN ds≤6:=Nat.le_trans (filter_mono _ _ ds (fun x _ hx=>by simp only [De.reads] at hx;simp [uses,hx])) h
theorem wr6 {ds:List De} (h:useN ds≤6) (p:Int):(wrs p 0 ds).length≤6:=Nat.le_trans (wrs_le p 0 ds) (Nat.le_trans (filter_mono _ _ ds (fun x _ hx=>by simp [uses,hx])) h)
theorem froms6 {ll:List (List D)} (h:prog ll=true):(fromsOf (deeds ll) (deeds ll).length []).length≤117649:=by
 have h6:=use6 h
 have h1:=fromsOf_len (deeds ll) 7 (fun p=>by have:=wr6 h6 p;omega) (deeds ll).length [] (by simp)
 have h2:7 ^ rdN ((deeds ll).drop ([]:List Int).length)≤7 ^ 6:=Nat.pow_le_pow_right (by decide) (by simpa using rd6 h6)
 omega
theorem rows6 {ll:List (List D)} (h:prog ll=true) (p:Int):(rowsOf (wrs p 0 (deeds ll)) (wrs p 0 (deeds ll)).length []).length≤6 ^ (wrs p 0 (deeds ll)).length :=
 Nat.le_trans (rowsOf_len _ _ _) (Nat.pow_le_pow_left (wr6 (use6 h) p) _)
theorem to_one (x:De):(if x.to 0 then 1 else 0)+(if x.to 1 then 1 else 0)+(if x.to 2 then 1 else 0)≤if M.writes x.d.k then 1 else 0:=by
 unfold De.to
 cases M.writes x.d.k
 ·simp
 ·by_cases h0:x.d.p=0
  ·simp [h0]
  ·by_cases h1:x.d.p=1
   ·simp [h1]
   ·by_cases h2:x.d.p=2<;>simp [h0,h1,h2]
theorem wrs_cons (p:Int) (n:Nat) (x:De) (ds:List De):(wrs p n (x::ds)).length=(if x.to p then 1 else 0)+(wrs p (n+1) ds).length:=by
 rw [wrs]
 cases x.to p
 ·simp
 ·simp;omega
theorem wrs_three:∀ (n:Nat) (ds:List De),(wrs 0 n ds).length+(wrs 1 n ds).length+(wrs 2 n ds).length≤(ds.filter fun x=>M.writes x.d.k).length
 | _,[]=>by simp [wrs]
 | n,x::ds=>by
  have ih:=wrs_three (n+1) ds
  have h1:=to_one x
  rw [wrs_cons,wrs_cons,wrs_cons]
  cases hw:M.writes x.d.k
  ·rw [List.filter_cons_of_neg (by simp [hw])]
   simp only [hw,Bool.false_eq_true,if_false] at h1
   omega
  ·rw [List.filter_cons_of_pos (by simp [hw]),List.length_cons]
   simp only [hw,if_true] at h1
   omega
theorem orders6 {ll:List (List D)} (h:prog ll=true):(ordersOf (deeds ll)).length≤46656:=by
 have h6:((deeds ll).filter fun x=>M.writes x.d.k).length≤6:=Nat.le_trans (filter_mono _ _ (deeds ll) (fun x _ hx=>by simp [uses,hx])) (use6 h)
 have h3:=wrs_three 0 (deeds ll)
 have r0:=rows6 h 0
 have r1:=rows6 h 1
 have r2:=rows6 h 2
 unfold ordersOf
 rw [addPlace_len,addPlace_len,addPlace_len,List.length_singleton,Nat.one_mul]
 have e:6 ^ (wrs 0 0 (deeds ll)).length * 6 ^ (wrs 1 0 (deeds ll)).length * 6 ^ (wrs 2 0 (deeds ll)).length≤6 ^ 6:=by
  rw [← Nat.pow_add,← Nat.pow_add]
  exact Nat.pow_le_pow_right (by decide) (by omega)
 exact Nat.le_trans (Nat.mul_le_mul (Nat.mul_le_mul r0 r1) r2) e
end M
end Go.Proofs.YtjjkicffhpcngaaGreat
namespace Go.Proofs.YtjjkicffhpcngaaGreat
open Go.RowKit
namespace M
theorem tell_no {ds:List De} {x:De} {f:Int} (h:x.reads=false):mayTell ds x f=(f==-2):=by simp [mayTell,h]
theorem tell_at {ds:List De} {x:De} {n:Nat} (h:x.reads=true) (hn:n < ds.length):mayTell ds x (n:Int)=(ds[n]).to x.d.p:=by
 have h1:((n:Int)==-1)=false:=by simp
 have h2:decide ((0:Int)≤n)=true:=by simp
 have h3:decide ((n:Int) < ds.length)=true:=by simpa using hn
 simp only [mayTell,h,h1,h2,h3,Int.toNat_natCast,List.getElem?_eq_getElem hn]
 rfl
end M
end Go.Proofs.YtjjkicffhpcngaaGreat
namespace Go.Proofs.YtjjkicffhpcngaaGreat
open Go.RowKit
def M.In (ds:List M.De) (l:List Int):Prop:=∀ n,n < ds.length→M.valFrom ds l n < ds.length
theorem M.lr_lt {ll:List (List M.D)}:∀ x∈M.deeds ll,x.lr < (M.deeds ll).length:=by
 have hD:∀ (t i:Nat) (lr:Int) (n:Nat) (d:M.D),∀ x∈M.deD t i lr n d,x.lr=M.lrOf lr n d:=fun t i lr n d x hx=>by
  unfold M.deD at hx;split at hx<;>simp at hx<;>rcases hx with rfl | rfl<;>rfl
 have hT:∀ (l:List M.D) (t i:Nat) (lr:Int) (n:Nat),lr < n→∀ x∈M.deT t i lr n l,x.lr < ((n+(M.deT t i lr n l).length:Nat):Int):=by
  intro l
  induction l with
  | nil=>intro t i lr n _ x hx;simp [M.deT] at hx
  | cons d l ih =>
   intro t i lr n hlr x hx
   have h1:=(M.deD_len t i lr n d).1
   have hlo:M.lrOf lr n d < ((n+(M.deD t i lr n d).length:Nat):Int):=by unfold M.lrOf;split<;>omega
   rw [M.deT,List.length_append]
   rw [M.deT] at hx
   rcases List.mem_append.1 hx with hx | hx
   ·have:=hD t i lr n d x hx
    omega
   ·have:=ih t (i+1) (M.lrOf lr n d) _ hlo x hx
    omega
 have hF:∀ (ll:List (List M.D)) (t n:Nat),∀ x∈M.deF t n ll,x.lr < ((n+(M.deF t n ll).length:Nat):Int):=by
  intro ll
  induction ll with
  | nil=>intro t n x hx;simp [M.deF] at hx
  | cons l ll ih =>
   intro t n x hx
   rw [M.deF,List.length_append]
   rw [M.deF] at hx
   rcases List.mem_append.1 hx with hx | hx
   ·have:=hT l t 0 (-1) n (by omega) x hx
    omega
   ·have:=ih (t+1) _ x hx
    omega
 intro x hx
 have:=hF ll 0 0 x hx
 rw [Nat.zero_add] at this
 exact this
theorem M.fromAt_get {ds:List M.De}:∀ {xs:List M.De} {l:List Int},M.fromAt ds xs l=true→∀ n (h:n < xs.length),∃ h2:n < l.length,M.mayTell ds xs[n] l[n]=true:=by
 intro xs
 induction xs with
 | nil=>intro l _ n h;exact absurd h (Nat.not_lt_zero _)
 | cons x xs ih =>
  intro l h n hn
  cases l with
  | nil=>simp [M.fromAt] at h
  | cons f l =>
   simp only [M.fromAt,Bool.and_eq_true] at h
   cases n with
   | zero=>exact ⟨by simp,h.1⟩
   | succ n =>
    obtain ⟨h2,h3⟩:=ih h.2 n (by simpa using hn)
    exact ⟨by simpa using h2,by simpa using h3⟩
theorem M.in_of {ll:List (List M.D)} {l:List Int} (h:M.fromOk (M.deeds ll) l=true):M.In (M.deeds ll) l:=by
 intro n hn
 simp only [M.fromOk,Bool.and_eq_true,decide_eq_true_eq] at h
 obtain ⟨h2,ht⟩:=M.fromAt_get h.2 n hn
 unfold M.valFrom
 rw [List.getElem?_eq_getElem hn]
 simp only []
 split
 ·rename_i hr
  rw [List.getD_eq_getElem?_getD,List.getElem?_eq_getElem h2]
  show l[n] < _
  simp only [M.mayTell,hr,if_true,Bool.or_eq_true,Bool.and_eq_true,decide_eq_true_eq,beq_iff_eq] at ht
  rcases ht with ht | ht
  ·omega
  ·omega
 ·split
  ·exact M.lr_lt _ (List.getElem_mem hn)
  ·omega
set_option maxHeartbeats 400000 in
theorem valueFrom_any (va:Option Addr) (g c:Nat) (ds:List M.De) (a:Option Addr) (b o c2:Nat) (l:List Int) (n:Nat) (w:World) (hn:n < ds.length) (hln:n < l.length) (hl:ds.length≤1048576) (hl2:l.length≤1048576) (h:DeS w va g ds) (h2:IntS w a b o l) :
  Calls Tryz.prog 166 #[.slice va ds.length c,.slice a l.length c2,.int .i64 n] w fun e w'=>e=.returned (.int .i64 (M.valFrom ds l n))∧Below w.heap.size w w':=by
 obtain ⟨rfl⟩:=h.addr (by omega)
 obtain ⟨rfl⟩:=h2.addr (by omega)
 have hx:=DeS.at h hn
 have hf:=h2.row n hln
 have HV:Hid (M.valFrom ds l n=if (ds[n]).reads then l[n] else if (ds[n]).d.k==3 then (ds[n]).lr else -1):=by
  show _=_
  simp [M.valFrom,hn,hln]
 generalize ds[n]=x at *
 generalize l[n]=f at *
 obtain ⟨c0,c1,c2',c3,c4,c5,c6⟩:=hx
 have i1:(n:Int) < ds.length:=by omega
 have i2:(n:Int) < l.length:=by omega
 have lb:b < w.heap.size:=World.block_lt_of_cell? _ _ hf
 cases hr:x.reads
 ·cases h3:(x.d.k==3)
  all_goals
   go_enter Tryz.func166,Tryz.ntmps166
   go_wp2_with (go_at_call 80;refine (deReads_any x _).mono ?_;rw [hr];rintro e w' ⟨rfl,rfl⟩)
   go_ret
   exact ⟨by rw [HV.out,hr,h3];rfl,below2 _ _ _⟩
 ·go_enter Tryz.func166,Tryz.ntmps166
  go_wp2_with (go_at_call 80;refine (deReads_any x _).mono ?_;rw [hr];rintro e w' ⟨rfl,rfl⟩)
  go_ret
  exact ⟨by rw [HV.out,hr];rfl,below2 _ _ _⟩
def M.origV (r:Option Nat):Value:=match r with | none=>.tuple #[.int .i64 0,.bool false] | some n=>.tuple #[.int .i64 n,.bool true]
set_option maxHeartbeats 1000000 in
theorem origin_any (va:Option Addr) (g c:Nat) (ds:List M.De) (a:Option Addr) (b o c2:Nat) (l:List Int) (n:Nat) (w:World) (hn:n < ds.length) (hll:l.length=ds.length) (hin:M.In ds l) (hl:ds.length≤1048576) (h:DeS w va g ds) (h2:IntS w a b o l) :
  Calls Tryz.prog 127 #[.slice va ds.length c,.slice a l.length c2,.int .i64 n] w fun e w'=>e=.returned (M.origV (M.orig ds l ds.length n))∧Below w.heap.size w w':=by
 have HLL:Hid (l.length=ds.length):=hll
 have hl2:l.length≤1048576:=by omega
 clear hll
 go_enter Tryz.func127,Tryz.ntmps127
 go_wp2_with fail
 go_loopw [2,11] (fun s2 s11 wr=>∃ m q:Nat,s2=.int .i64 m∧s11=.int .i64 q∧q≤ds.length∧m < ds.length∧Hid (M.orig ds l ds.length n=M.orig ds l (ds.length - q) m)∧Below w.heap.size w wr) (fun _ s11 _=>ds.length - (intOf s11).toNat)
 case atStart=>exact ⟨n,0,rfl,rfl,Nat.zero_le _,hn,by show _=_;rfl,Below.refl _ _⟩
 case round =>
  obtain ⟨m,q,rfl,rfl,hq,hm,HO,hb⟩:=hrel
  by_cases hlt:q < ds.length
  ·have HS:Hid (M.orig ds l ds.length n=if M.valFrom ds l m < 0 then some m else M.orig ds l (ds.length - (q+1)) (M.valFrom ds l m).toNat):=by
    show _=_
    rw [HO.out,show ds.length - q=(ds.length - (q+1))+1 from by omega,M.orig]
   clear HO
   have hi:=hin m hm
   have C:=valueFrom_any va g c ds a b o c2 l m wr hm (by rw [HLL.out];exact hm) hl hl2 (h.bel hb (Nat.le_refl _)) (h2.below hb (Nat.le_refl _))
   generalize M.valFrom ds l m=vf at *
   have i1:(q:Int) < ds.length:=by omega
   by_cases hneg:vf < 0
   ·go_wp2_with (go_at_call 166;refine C.mono ?_;rintro e w1 ⟨rfl,hb1⟩)
    go_ret2
    exact ⟨by rw [HS.out,if_pos hneg];rfl,hb.trans (hb1.mono hb.size)⟩
   ·obtain ⟨m2,rfl⟩:∃ m2:Nat,vf=m2:=⟨vf.toNat,by omega⟩
    go_wp2_with (go_at_call 166;refine C.mono ?_;rintro e w1 ⟨rfl,hb1⟩)
    exact ⟨⟨m2,q+1,rfl,by go_num,by omega,by omega,by show _=_;rw [HS.out,if_neg (by omega),Int.toNat_natCast],hb.trans (hb1.mono hb.size)⟩,by simp [intOf];omega⟩
  ·go_wp2_with fail
   go_ret2
   exact ⟨by rw [HO.out,show ds.length - q=0 from by omega];rfl,hb⟩
theorem M.ends_step {ds:List M.De} {l:List Int} {n:Nat} (h:M.endsAt ds l 0 ds=M.endsAt ds l n (ds.drop n)) (hn:n < ds.length):M.endsAt ds l 0 ds=((M.orig ds l ds.length n).isSome&&M.endsAt ds l (n+1) (ds.drop (n+1))):=by
 rw [h,← List.getElem_cons_drop hn,M.endsAt]
set_option maxHeartbeats 1000000 in
theorem copiesEnd_any (va:Option Addr) (g c:Nat) (ds:List M.De) (a:Option Addr) (b o c2:Nat) (l:List Int) (w:World) (hll:l.length=ds.length) (hin:M.In ds l) (hl:ds.length≤1048576) (h:DeS w va g ds) (h2:IntS w a b o l) :
  Calls Tryz.prog 152 #[.slice va ds.length c,.slice a l.length c2] w fun e w'=>e=.returned (.bool (M.ends ds l))∧Below w.heap.size w w':=by
 have HLL:Hid (l.length=ds.length):=hll
 clear hll
 go_enter Tryz.func152,Tryz.ntmps152
 go_wp2_with fail
 go_loopw [10] (fun s10 wr=>∃ n:Nat,s10=.int .i64 n∧n≤ds.length∧Hid (M.endsAt ds l 0 ds=M.endsAt ds l n (ds.drop n))∧Below w.heap.size w wr) (fun s10 _=>ds.length - (intOf s10).toNat)
 case atStart=>exact ⟨0,rfl,Nat.zero_le _,by show _=_;rfl,Below.refl _ _⟩
 case round =>
  obtain ⟨n,rfl,hn,HA,hb⟩:=hrel
  by_cases hlt:n < ds.length
  ·have HS:Hid (M.endsAt ds l 0 ds=((M.orig ds l ds.length n).isSome&&M.endsAt ds l (n+1) (ds.drop (n+1)))):=M.ends_step HA.out hlt
   clear HA
   have C:=origin_any va g c ds a b o c2 l n wr hlt HLL.out hin hl (h.bel hb (Nat.le_refl _)) (h2.below hb (Nat.le_refl _))
   have i1:(n:Int) < ds.length:=by omega
   cases ho:M.orig ds l ds.length n with
   | none =>
    rw [ho] at C
    change Calls _ _ _ _ fun e w'=>e=.returned (.tuple #[.int .i64 0,.bool false])∧_ at C
    go_wp2_with (go_at_call 127;refine C.mono ?_;rintro e w1 ⟨rfl,hb1⟩)
    go_ret
    exact ⟨ret_bool (by rw [M.ends,HS.out,ho];rfl),hb.trans (hb1.mono hb.size)⟩
   | some q =>
    rw [ho] at C
    change Calls _ _ _ _ fun e w'=>e=.returned (.tuple #[.int .i64 q,.bool true])∧_ at C
    go_wp2_with (go_at_call 127;refine C.mono ?_;rintro e w1 ⟨rfl,hb1⟩)
    exact ⟨⟨n+1,by go_num,by omega,by show _=_;rw [HS.out,ho];rfl,hb.trans (hb1.mono hb.size)⟩,by simp [intOf];omega⟩
  ·go_wp2_with fail
   go_ret
   exact ⟨ret_bool (by rw [M.ends,HA.out,List.drop_eq_nil_of_le (by omega)];rfl),hb⟩
end Go.Proofs.YtjjkicffhpcngaaGreat
namespace Go.Proofs.YtjjkicffhpcngaaGreat
open Go.RowKit
set_option maxHeartbeats 1000000 in
set_option maxRecDepth 100000 in
theorem l12Do_any (a:Option Addr) (b o c:Nat) (ll:List (List M.D)) (t i:Nat) (last:Bool) (d:M.D) (w:World) (ht:t < ll.length) (hi:i < ll[t].length) (hd:ll[t][i]=d) (hl:ll.length≤1048576) (hls:ll[t].length≤1048576) (h:DoSS w a b o ll) :
  Calls Tryz.prog 135 #[.agg #[.slice a ll.length c],.agg #[.int .i64 t,.int .i64 i,.bool last]] w fun e w'=>e=.returned (.agg #[.int .i64 d.k,.int .i64 d.p,.int .i64 d.v])∧Below w.heap.size w w':=by
 obtain ⟨rfl⟩:=h.addr (by omega)
 obtain ⟨a',b',o',c',hc,hr⟩:=h.row t ht
 obtain ⟨rfl⟩:=hr.addr (by omega)
 obtain ⟨ck,cp,cv⟩:=hr.row i hi
 rw [hd] at ck cp cv
 generalize ll[t]=l at *
 have i1:(t:Int) < ll.length:=by omega
 have i2:(i:Int) < l.length:=by omega
 have lb:=World.block_lt_of_cell? _ _ hc
 have lb':=World.block_lt_of_cell? _ _ ck
 simp only at lb lb'
 have hb2:=below2 w (.cells #[.slice (some ⟨b,o,none⟩) ll.length c] 25) (.cells #[.int .i64 t,.int .i64 i,.bool last] 93)
 have hb3:=hb2.trans ((below1 _ (.cells #[.int .i64 0,.int .i64 0,.int .i64 0] 43)).mono hb2.size)
 have hc3:=(hb3.cell (p:=⟨b,o+t,none⟩) lb).trans hc
 have ck3:=(hb3.cell (p:=⟨b',o'+i * 3,none⟩) lb').trans ck
 have cp3:=(hb3.cell (p:=⟨b',o'+i * 3+1,none⟩) lb').trans cp
 have cv3:=(hb3.cell (p:=⟨b',o'+i * 3+2,none⟩) lb').trans cv
 clear hc ck cp cv
 go_enter Tryz.func135,Tryz.ntmps135
 go_wp2_with fail
 go_region
 go_wp2_with fail
 have hb4:=hb2.trans ((below1 _ (.cells #[.int .i64 d.k,.int .i64 d.p,.int .i64 d.v] 43)).mono hb2.size)
 exact bodyPost_ret (v:=.agg #[.int .i64 d.k,.int .i64 d.p,.int .i64 d.v]) (by simp [results,Tryz.results135,go_sem]) rfl ⟨rfl,hb4.drew⟩
def M.OfEv (ll:List (List M.D)) (x:M.De):Prop:=∃ (ht:x.t < ll.length) (hi:x.i < ll[x.t].length),ll[x.t][x.i]=x.d
theorem M.ofEv {ll:List (List M.D)}:∀ x∈M.deeds ll,M.OfEv ll x:=by
 have hT:∀ (ll:List (List M.D)) (t:Nat) (ht:t < ll.length) (l:List M.D) (i:Nat) (lr:Int) (n:Nat),ll[t].drop i=l→∀ x∈M.deT t i lr n l,M.OfEv ll x:=by
  intro ll t ht l
  induction l with
  | nil=>intro i lr n _ x hx;simp [M.deT] at hx
  | cons d l ih =>
   intro i lr n hd x hx
   have hi:i < ll[t].length:=by
    rcases Nat.lt_or_ge i ll[t].length with h | h
    ·exact h
    ·rw [List.drop_eq_nil_of_le h] at hd;cases hd
   rw [← List.getElem_cons_drop hi] at hd
   obtain ⟨hd1,hd2⟩:=List.cons.inj hd
   rw [M.deT] at hx
   rcases List.mem_append.1 hx with hx | hx
   ·have:x.t=t∧x.i=i∧x.d=d:=by
     unfold M.deD at hx
     split at hx
     ·simp only [List.mem_cons,List.not_mem_nil,or_false] at hx
      rcases hx with rfl | rfl<;>exact ⟨rfl,rfl,rfl⟩
     ·simp only [List.mem_cons,List.not_mem_nil,or_false] at hx
      subst hx;exact ⟨rfl,rfl,rfl⟩
    obtain ⟨xt,xi,xl,xd,xr⟩:=x
    obtain ⟨rfl,rfl,rfl⟩:=this
    exact ⟨ht,hi,hd1⟩
   ·exact ih _ _ _ hd2 x hx
 have hF:∀ (ll:List (List M.D)) (l:List (List M.D)) (t n:Nat),ll.drop t=l→∀ x∈M.deF t n l,M.OfEv ll x:=by
  intro ll l
  induction l with
  | nil=>intro t n _ x hx;simp [M.deF] at hx
  | cons d l ih =>
   intro t n hd x hx
   have ht:t < ll.length:=by
    rcases Nat.lt_or_ge t ll.length with h | h
    ·exact h
    ·rw [List.drop_eq_nil_of_le h] at hd;cases hd
   rw [← List.getElem_cons_drop ht] at hd
   obtain ⟨hd1,hd2⟩:=List.cons.inj hd
   rw [M.deF] at hx
   rcases List.mem_append.1 hx with hx | hx
   ·exact hT ll t ht d 0 _ _ (by rw [hd1];rfl) x hx
   ·exact ih _ _ hd2 x hx
 exact hF ll ll 0 0 rfl
abbrev DvS (w:World) (va:Option Addr) (g:Nat) (ds:List M.De):Prop:=RS (fun x:M.De=>x.ev.cells) 3 w va g ds
structure DvAt (w:World) (g o:Nat) (x:M.De):Prop where
 c0:w.cell? ⟨g,o,none⟩=some (.int .i64 x.t)
 c1:w.cell? ⟨g,o+1,none⟩=some (.int .i64 x.i)
 c2:w.cell? ⟨g,o+2,none⟩=some (.bool x.last)
theorem DvS.at {w:World} {va:Option Addr} {g:Nat} {l:List M.De} (h:DvS w va g l) {n:Nat} (hn:n < l.length):DvAt w g (n * 3) l[n] :=
 ⟨h.row n hn 0 (by omega),h.row n hn 1 (by omega),h.row n hn 2 (by omega)⟩
theorem DvS.bel {w w':World} {va:Option Addr} {g B:Nat} {l:List M.De} (h:DvS w va g l) (hb:Below B w w') (hB:w.heap.size≤B):DvS w' va g l:=h.below (fun _=>rfl) hb hB
theorem DvS.of {w:World} {va:Option Addr} {g:Nat} {l:List M.De} (h:RS M.Ev.cells 3 w va g (l.map M.De.ev)):DvS w va g l :=
 ⟨fun hl=>h.addr (by simpa using hl),fun i hi j hj=>by
  have:=h.row i (by simpa using hi) j hj
  rw [this,List.getElem_map]⟩
theorem l12Do_ev (a:Option Addr) (b o c:Nat) (ll:List (List M.D)) (x:M.De) (w:World) (hx:M.OfEv ll x) (hl:ll.length≤1048576) (hls:∀ t∈ll,t.length≤1048576) (h:DoSS w a b o ll) :
  Calls Tryz.prog 135 #[.agg #[.slice a ll.length c],.agg #[.int .i64 x.t,.int .i64 x.i,.bool x.last]] w fun e w'=>e=.returned (.agg #[.int .i64 x.d.k,.int .i64 x.d.p,.int .i64 x.d.v])∧Below w.heap.size w w':=by
 obtain ⟨ht,hi,hd⟩:=hx
 exact l12Do_any a b o c ll x.t x.i x.last x.d w ht hi hd hl (hls _ (List.getElem_mem ht)) h
end Go.Proofs.YtjjkicffhpcngaaGreat
namespace Go.Proofs.YtjjkicffhpcngaaGreat
open Go.RowKit
theorem Tryz.infoRs:(Tryz.prog.info? 47).map (fun i=>(i.zero,i.size,i.bytes))=some (some (.slice none 0 0),1,24):=by kernel_rfl
theorem grown_refl (w:World) (row:Option Nat):w.grownBy w row:=⟨rfl,rfl,rfl,Nat.le_refl _,fun _ _ _=>rfl⟩
theorem grown_of {w w':World} (h:Below w.heap.size w w') (row:Option Nat):w.grownBy w' row:=⟨h.os,h.tape,h.output,h.size,fun k hk _=>h.block k hk⟩
theorem grown_then {a b c:World} {row row':Option Nat} (h:a.grownBy b row) (k:b.grownBy c row') (hr:∀ j,row'=some j→a.heap.size≤j∨row=some j):a.grownBy c row :=
 ⟨k.os.trans h.os,k.tape.trans h.tape,k.output.trans h.output,Nat.le_trans h.size k.size,fun i hi hne=>(k.block i (Nat.lt_of_lt_of_le hi h.size) (fun e=>by
  rcases hr i e.symm with h1 | h1
  ·omega
  ·exact hne h1.symm)).trans (h.block i hi hne)⟩
theorem grown_below {w w':World} (h:w.grownBy w' none):Below w.heap.size w w':=⟨h.os,h.tape,h.output,h.size,fun k hk=>h.block k hk (by simp)⟩
theorem IntS.grown {w w':World} {row:Option Nat} {a:Option Addr} {b o:Nat} {l:List Int} (h:IntS w a b o l) (hg:w.grownBy w' row) (hne:0 < l.length→some b≠row):IntS w' a b o l :=
 ⟨h.addr,fun i hi=>(hg.cell_far ⟨b,o+i,none⟩ (h.lt (by omega)) (hne (by omega))).trans (h.row i hi)⟩
theorem own_empty {X:World} {base g:Nat} {e:TypeId} (h:X.heap[g]?=some (.cells #[] e (0,0))) (hb:base≤g):X.ownsRow base e 1 (.slice (some ⟨g,0,none⟩) 0 0) 0 [] :=
 ⟨by simp,.inr ⟨g,0,#[],rfl,hb,h,Nat.le_refl _,Nat.zero_le _,by simp,by simp⟩⟩
theorem own_ints {w:World} {base:Nat} {e:TypeId} {v:Value} {l:List Int} (h:w.ownsRow base e 1 v l.length (nums l)):∃ a g c,v=.slice a l.length c∧IntS w a g 0 l∧(a=none→c=0)∧(0 < l.length→base≤g):=by
 rcases h.2 with ⟨hv,hn⟩ | ⟨g,cap,cur,hv,hg,hh,hc,r⟩
 ·have:l=[]:=List.length_eq_zero_iff.1 hn
  subst this
  exact ⟨none,0,0,hv,IntS.nil _ _ _ _,fun _=>rfl,fun h=>absurd h (Nat.lt_irrefl _)⟩
 ·refine ⟨_,g,cap,hv,⟨fun _=>rfl,fun i hi=>?_⟩,fun e=>(by cases e),fun _=>hg⟩
  have:=h.cells (g:=g) (by rw [hv];rfl) i (.int .i64 l[i]) (by simp [nums,hi])
  rwa [Go.WideShapes.add_plain] at this
theorem own_at {w:World} {base g n cap:Nat} {e:TypeId} {l:List Int} {xs:List Value} (h:w.ownsRow base e 1 (.slice (some ⟨g,0,none⟩) n cap) n xs) (hx:xs=nums l):IntS w (some ⟨g,0,none⟩) g 0 l∧base≤g:=by
 refine ⟨⟨fun _=>rfl,fun i hi=>?_⟩,(h.lt g rfl).1⟩
 have:=h.cells (g:=g) rfl i (.int .i64 l[i]) (by rw [hx];simp [nums,hi])
 rwa [Go.WideShapes.add_plain] at this
theorem wp_append_ints {P:Program} {o:Oper} {a:Act} {w:World} {K:Act→World→Prop} {Q:Exit→Act→World→Prop} (s x:Operand) (t:TypeId)
  (ho:o.op=.call { callee:=.builtin .append,args:=#[s,x],argTypes:=#[t,t] }) (base:Nat) (e:TypeId) (i:TypeInfo) (ht:P.underlying t=some (.slice e)) (hi:P.info? e=some i) (hz0:i.zero=some (.int .i64 0)) (hz1:i.size=1) (hz2:i.bytes=8)
  (v:Value) (n:Nat) (xs:List Value) (hs:a.eval s=v) (hown:w.ownsRow base e 1 v n xs) (hbase:base≤w.heap.size) (sa:Option Addr) (b off c:Nat) (l:List Int) (hx:a.eval x=.slice sa l.length c) (hI:IntS w sa b off l) (hl:n+l.length≤1048576) (hc:sa=none→c=0)
  (h:∀ v' w',w'.ownsRow base e 1 v' (n+l.length) (xs++nums l)→w.grownBy w' v.ownBlock→(v'.ownBlock=v.ownBlock∨v'.ownBlock=some w.heap.size)→K (a.put o.dst v') w') :
  Oper.wp P o a w K Q:=by
 cases sa with
 | none =>
  have hl0:l=[]:=by
   rcases Nat.eq_zero_or_pos l.length with h0 | h0
   ·exact List.length_eq_zero_iff.1 h0
   ·cases hI.addr h0
  subst hl0
  obtain ⟨rfl⟩:=hc rfl
  rw [List.length_nil] at hx
  have hrun:=run_append_owned_none (P:=P) (w:=w) base t o.type e i 1 ht hi v n xs hown
  have hk:=h v w (by simpa [nums] using hown) (grown_refl _ _) (.inl rfl)
  unfold Oper.wp
  simp [execOp,ho,resolve,invoke,builtin,hs,hx,hrun,Result.andThen]
  exact hk
 | some ad =>
  have hn:∀ j u,(nums l)[j]?=some u→w.cell? (ad.add j)=some u:=fun j u hj=>by
   have hjl:j < l.length:=by
    have:=(List.getElem?_eq_some_iff.1 hj).1
    simpa [nums] using this
   obtain ⟨rfl⟩:=hI.addr (by omega)
   rw [Go.WideShapes.add_plain,hI.row j hjl]
   simpa [nums,hjl] using hj
  obtain ⟨v',w',hrun,h2,h3,_,h5⟩:=run_append_own_at (P:=P) w base t o.type e i (.int .i64 0) 1 8 ht hi hz0 hz1 hz2 rfl (by decide) v n xs hown ad l.length c (nums l) (by simp [nums]) hn (fun u hu=>by simp [nums] at hu;obtain ⟨_,_,rfl⟩:=hu;rfl) (by unfold maxLen;omega) (by omega) hbase
  have hk:=h v' w' h2 h3 h5
  unfold Oper.wp
  simp [execOp,ho,resolve,invoke,builtin,hs,hx,hrun,Result.andThen]
  exact hk
theorem step_append_ints {P:Program} {ops:Array Oper} {o:Oper} {a:Act} {w:World} {K:Act→World→Prop} {Q:Exit→Act→World→Prop} {E:Prop} (hgd:o.guard=none) (s x:Operand) (t:TypeId)
  (ho:o.op=.call { callee:=.builtin .append,args:=#[s,x],argTypes:=#[t,t] }) (base:Nat) (e:TypeId) (i:TypeInfo) (ht:P.underlying t=some (.slice e)) (hi:P.info? e=some i) (hz0:i.zero=some (.int .i64 0)) (hz1:i.size=1) (hz2:i.bytes=8)
  (v:Value) (n:Nat) (xs:List Value) (hs:a.eval s=v) (hown:w.ownsRow base e 1 v n xs) (hbase:base≤w.heap.size) (sa:Option Addr) (b off c:Nat) (l:List Int) (hx:a.eval x=.slice sa l.length c) (hI:IntS w sa b off l) (hl:n+l.length≤1048576) (hc:sa=none→c=0)
  (h:∀ v' w',w'.ownsRow base e 1 v' (n+l.length) (xs++nums l)→w.grownBy w' v.ownBlock→(v'.ownBlock=v.ownBlock∨v'.ownBlock=some w.heap.size)→K (a.put o.dst v') w') :
  if Region.wanted o (yielded ops a.tmps)=true then Oper.wp P o a w K Q else E:=by
 have hw:Region.wanted o (yielded ops a.tmps)=true:=by simp [Region.wanted,hgd]
 rw [if_pos hw]
 exact wp_append_ints s x t ho base e i ht hi hz0 hz1 hz2 v n xs hs hown hbase sa b off c l hx hI hl hc h
theorem wpList_append_ints {P:Program} {ops:Array Oper} {rest:List Oper} {o:Oper} {a:Act} {w:World} {Q:Exit→Act→World→Prop} (hgd:o.guard=none) (s x:Operand) (t:TypeId)
  (ho:o.op=.call { callee:=.builtin .append,args:=#[s,x],argTypes:=#[t,t] }) (base:Nat) (e:TypeId) (i:TypeInfo) (ht:P.underlying t=some (.slice e)) (hi:P.info? e=some i) (hz0:i.zero=some (.int .i64 0)) (hz1:i.size=1) (hz2:i.bytes=8)
  (v:Value) (n:Nat) (xs:List Value) (hs:a.eval s=v) (hown:w.ownsRow base e 1 v n xs) (hbase:base≤w.heap.size) (sa:Option Addr) (b off c:Nat) (l:List Int) (hx:a.eval x=.slice sa l.length c) (hI:IntS w sa b off l) (hl:n+l.length≤1048576) (hc:sa=none→c=0)
  (h:∀ v' w',w'.ownsRow base e 1 v' (n+l.length) (xs++nums l)→w.grownBy w' v.ownBlock→(v'.ownBlock=v.ownBlock∨v'.ownBlock=some w.heap.size)→wpList P ops Q rest (a.put o.dst v') w') :
  wpList P ops Q (o::rest) a w :=
 wpList_plain hgd fun _ hK=>wp_append_ints s x t ho base e i ht hi hz0 hz1 hz2 v n xs hs hown hbase sa b off c l hx hI hl hc fun v' w' h1 h2 h3=>hK _ _ (h v' w' h1 h2 h3)
structure RR (w:World) (base:Nat) (v:Value) (cs:List Value) (rows:List (List Int)):Prop where
 own:w.ownsRow base 47 1 v rows.length cs
 row:∀ i (h:i < rows.length),∃ a b c,cs[i]?=some (.slice a rows[i].length c)∧IntS w a b 0 rows[i]∧(a=none→c=0)∧(0 < rows[i].length→some b≠v.ownBlock)
theorem RR.nil (w:World) (base:Nat):RR w base (.slice none 0 0) [] []:=⟨World.ownsRow_nil _ _ _ _,fun _ h=>absurd h (Nat.not_lt_zero _)⟩
theorem RR.below {w w':World} {base:Nat} {v:Value} {cs:List Value} {rows:List (List Int)} (h:RR w base v cs rows) (hb:Below w.heap.size w w'):RR w' base v cs rows :=
 ⟨ownsRow_below h.own hb,fun i hi=>by
  obtain ⟨a,b,c,h1,h2,h3,h4⟩:=h.row i hi
  exact ⟨a,b,c,h1,h2.below hb (Nat.le_refl _),h3,h4⟩⟩
theorem RR.snoc {w W w':World} {base:Nat} {v:Value} {cs:List Value} {rows:List (List Int)} (h:RR w base v cs rows) (hb:Below w.heap.size w W) {r:List Int} {a:Option Addr} {b c g cap:Nat} (hr:IntS W a b 0 r) (hac:a=none→c=0) (hrb:0 < r.length→some b≠v.ownBlock)
  (ho:w'.ownsRow base 47 1 (.slice (some ⟨g,0,none⟩) (rows.length+1) cap) (rows.length+1) (cs++[.slice a r.length c])) (hg:W.grownBy w' v.ownBlock) (hat:v.ownBlock=some g∨g=W.heap.size):RR w' base (.slice (some ⟨g,0,none⟩) (rows.length+1) cap) (cs++[.slice a r.length c]) (rows++[r]):=by
 have hcl:cs.length=rows.length:=by have:=h.own.1;omega
 have hW:=h.below hb
 refine ⟨by rw [List.length_append];exact ho,fun i hi=>?_⟩
 rcases Nat.lt_or_ge i rows.length with h1 | h1
 ·obtain ⟨a',b',c',e1,e2,e3,e4⟩:=hW.row i h1
  rw [List.getElem_append_left h1]
  refine ⟨a',b',c',by rw [List.getElem?_append_left (by omega)];exact e1,e2.grown hg e4,e3,fun hp=>?_⟩
  rcases hat with e | e
  ·intro e';exact e4 hp (by rw [e];exact e')
  ·have:=e2.lt hp
   intro e'
   have e'':b'=g:=Option.some.inj e'
   omega
 ·have hie:i=rows.length:=by simp at hi;omega
  subst hie
  have e0:(rows++[r])[rows.length]=r:=by simp
  rw [e0]
  refine ⟨a,b,c,by rw [List.getElem?_append_right (by omega),hcl];simp,hr.grown hg hrb,hac,fun hp=>?_⟩
  rcases hat with e | e
  ·intro e';exact hrb hp (by rw [e];exact e')
  ·have:=hr.lt hp
   intro e'
   have e'':b=g:=Option.some.inj e'
   omega
end Go.Proofs.YtjjkicffhpcngaaGreat
