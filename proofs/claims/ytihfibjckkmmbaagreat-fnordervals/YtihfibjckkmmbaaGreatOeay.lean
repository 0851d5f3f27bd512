/- Turning about, plainly: rows of numbers, threads, places and values turned, programs side by side, plain ones. No condition. And what goes with it: TnMath, TnFact, TnB0, TnBase, TnI, TnT, TnGo, TnCp, TnMm, TnSr, TnAp. -/
import Derived.BigQuiet
import Derived.Deep.AppendLies
import Derived.Deep.MidRow
import Derived.Deep.QuietTactic
import Derived.Deep.RegionHeld3
import Derived.Deep.RegionLaw
import Derived.Deep.RegionWith
import Derived.Deep.WholeRow
import Derived.Laws.OwnMore
import Derived.Maps.AppendAt
import Derived.Sort.Grow
import Derived.WalkKit
import Derived.WalkLawsBesides
import Derived.WalkSpells
import Derived.Test.YtihfibjckkmmbaaGreatRows
import Derived.Test.YtihfibjckkmmbaaGreatOeap
import Derived.Test.YtihfibjckkmmbaaGreatOeaq
namespace Go.Proofs.YtihfibjckkmmbaaGreat
namespace M
def bel (n:Nat):List Int:=(List.range n).map fun i:Nat=>(i:Int)
theorem bel_len (n:Nat):(bel n).length=n:=by simp [bel]
theorem bel_get (n i:Nat) (h:i < (bel n).length):(bel n)[i]=(i:Int):=by simp [bel]
theorem bel_succ (n:Nat):bel (n+1)=bel n++[(n:Int)]:=by simp [bel,List.range_succ]
theorem bel_mem {n:Nat} {x:Int}:x∈bel n↔0≤x∧x < n:=by
 simp only [bel,List.mem_map,List.mem_range]
 constructor
 ·rintro ⟨a,ha,rfl⟩;omega
 ·rintro ⟨h1,h2⟩;exact ⟨x.toNat,by omega,by omega⟩
theorem bel_nodup (n:Nat):(bel n).Nodup:=by
 induction n with
 | zero=>simp [bel]
 | succ n ih =>
  rw [bel_succ,List.nodup_append]
  refine ⟨ih,by simp,fun x hx y hy=>?_⟩
  have:=(bel_mem.1 hx).2
  simp at hy
  omega
def rowOf (row evs:List Int):Bool:=decide (row.length=evs.length)&&evs.all (fun v=>has row v)
theorem rowOf_short {row evs:List Int} (h:¬ row.length=evs.length):rowOf row evs=false:=by simp [rowOf,h]
theorem rowOf_same {row evs:List Int} (h:row.length=evs.length):rowOf row evs=evs.all (fun v=>has row v):=by simp [rowOf,h]
theorem rowAll_step {row evs:List Int} {n:Nat} (h:evs.all (fun v=>has row v)=(evs.drop n).all (fun v=>has row v)) (hn:n < evs.length):evs.all (fun v=>has row v)=(has row evs[n]&&(evs.drop (n+1)).all (fun v=>has row v)):=by
 rw [h,← List.getElem_cons_drop hn,List.all_cons]
def rowN (row:List Int) (n:Nat):Bool:=rowOf row (bel n)
theorem nodupI_le:∀ {l m:List Int},l.Nodup→(∀ x∈l,x∈m)→l.length≤m.length:=by
 intro l
 induction l with
 | nil=>intro m _ _;simp
 | cons x l ih =>
  intro m hn hs
  rw [List.nodup_cons] at hn
  have hx:=hs x (by simp)
  have h1:=ih (m:=m.erase x) hn.2 (fun y hy=>by
   have hne:y≠x:=fun e=>hn.1 (by rw [← e];exact hy)
   exact (List.mem_erase_of_ne hne).2 (hs y (List.mem_cons_of_mem _ hy)))
  have h2:=List.length_erase_of_mem hx
  have h3:0 < m.length:=List.length_pos_of_mem hx
  simp only [List.length_cons]
  omega
theorem nodupI_all {l m:List Int} (hn:l.Nodup) (hs:∀ x∈l,x∈m) (hlen:m.length=l.length):∀ y∈m,y∈l:=by
 intro y hy
 apply Classical.byContradiction
 intro hc
 have h1:=nodupI_le (l:=y::l) (m:=m) (List.nodup_cons.2 ⟨hc,hn⟩) (fun x hx=>by
  rcases List.mem_cons.1 hx with rfl | hx
  ·exact hy
  ·exact hs x hx)
 simp only [List.length_cons] at h1
 omega
theorem rowN_len {row:List Int} {n:Nat} (h:rowN row n=true):row.length=n:=by
 simp only [rowN,rowOf,Bool.and_eq_true,decide_eq_true_eq,bel_len] at h;exact h.1
theorem rowN_all {row:List Int} {n:Nat} (h:rowN row n=true):∀ x∈bel n,x∈row:=by
 simp only [rowN,rowOf,Bool.and_eq_true,List.all_eq_true,has,List.contains_eq_mem,decide_eq_true_eq] at h;exact h.2
theorem rowN_mem {row:List Int} {n:Nat} (h:rowN row n=true):∀ x∈row,0≤x∧x < n:=fun x hx =>
 bel_mem.1 (nodupI_all (bel_nodup n) (rowN_all h) (by rw [rowN_len h,bel_len]) x hx)
theorem rowN_get {row:List Int} {n:Nat} (h:rowN row n=true) (i:Nat) (hi:i < row.length):0≤row[i]∧row[i] < n:=rowN_mem h _ (List.getElem_mem hi)
def pick {α:Type} (z:α) (row:List Int) (l:List α):List α:=row.map fun i=>l.getD i.toNat z
theorem pick_len {α:Type} (z:α) (row:List Int) (l:List α):(pick z row l).length=row.length:=by simp [pick]
theorem pick_take {α:Type} (z:α) (row:List Int) (l:List α) (n:Nat) (h:n < row.length):pick z (row.take (n+1)) l=pick z (row.take n) l++[l.getD row[n].toNat z]:=by
 rw [List.take_succ_eq_append_getElem h];unfold pick;rw [List.map_append];rfl
theorem getD_get {α:Type} {z:α} {l:List α} {i:Nat} (h:i < l.length):l.getD i z=l[i]:=by
 rw [List.getD_eq_getElem?_getD,List.getElem?_eq_getElem h];rfl
end M
end Go.Proofs.YtihfibjckkmmbaaGreat
namespace Go.Proofs.YtihfibjckkmmbaaGreat
namespace M
def backUpto (row:List Int):Nat→List Int
 | 0=>List.replicate row.length 0
 | k+1=>(backUpto row k).set (row.getD k 0).toNat k
def back (row:List Int):List Int:=backUpto row row.length
theorem three_of {x:Int} (h:0≤x∧x < 3):x=0∨x=1∨x=2:=by omega
theorem row3 {row:List Int} (h:rowN row 3=true):row=[0,1,2]∨row=[0,2,1]∨row=[1,0,2]∨row=[1,2,0]∨row=[2,0,1]∨row=[2,1,0]:=by
 match row,rowN_len h,rowN_mem h,h with
 | [x,y,z],_,hm,h =>
  have hx:=three_of (hm x (by simp))
  have hy:=three_of (hm y (by simp))
  have hz:=three_of (hm z (by simp))
  clear hm
  rcases hx with rfl | rfl | rfl<;>rcases hy with rfl | rfl | rfl<;>rcases hz with rfl | rfl | rfl<;>first | (exact absurd h (by decide)) | simp
def stp:List (List D)→Nat
 | []=>0
 | t::l=>t.length+stp l
theorem from_iff (l:List (List D)):∀ a u:Nat,progFrom a u l=true↔(∀ t∈l,thread t=true)∧a+stp l≤14∧u+tot uses l≤6:=by
 induction l with
 | nil=>intro a u;simp [progFrom,stp,tot]
 | cons t l ih =>
  intro a u
  by_cases hb:thread t=true
  ·simp only [progFrom,hb,if_true,ih,stp,tot,List.mem_cons,forall_eq_or_imp,true_and]
   constructor
   ·rintro ⟨h1,h2,h3⟩;exact ⟨h1,by omega,by omega⟩
   ·rintro ⟨h1,h2,h3⟩;exact ⟨h1,by omega,by omega⟩
  ·simp [progFrom,hb]
theorem prog_iff (l:List (List D)):prog l=true↔l.length≤3∧(∀ t∈l,thread t=true)∧stp l≤14∧tot uses l≤6:=by
 simp only [prog,Bool.and_eq_true,decide_eq_true_eq,from_iff,Nat.zero_add]
end M
end Go.Proofs.YtihfibjckkmmbaaGreat
namespace Go.Proofs.YtihfibjckkmmbaaGreat
open Go.RowKit
theorem nums_snoc (l:List Int) (x:Int):nums (l++[x])=nums l++[.int .i64 x]:=by simp [nums]
theorem cells_new1 (w:World) (x:Value) (t:TypeId) (N:Nat) (hN:N=w.heap.size):∀ (j:Nat) (u:Value),[x][j]?=some u→(w.alloc (.cells #[x] t)).cell? ((⟨N,0,none⟩:Addr).add j)=some u:=by
 subst hN
 intro j u hj
 match j,hj with
 | 0,hj=>simp at hj;subst hj;simp [Addr.add]
theorem one1 (x:Int):∀ u∈[Value.int .i64 x],u.oneCell'=true:=by intro u hu;simp at hu;subst hu;rfl
theorem DoS.flat_cells {w:World} {b o:Nat} {l:List M.D} (h:Row w b o l):∀ (j:Nat) (u:Value),(flat l)[j]?=some u→w.cell? ((⟨b,o,none⟩:Addr).add j)=some u:=by
 intro j u hj
 have hjl:=(List.getElem?_eq_some_iff.1 hj).1
 rw [flat_length] at hjl
 rw [Go.WideShapes.add_plain]
 have hi:j / 3 < l.length:=by omega
 obtain ⟨f0,f1,f2⟩:=flat_get l (j / 3) hi
 have hr:=h (j / 3) hi
 have hm:j % 3=0∨j % 3=1∨j % 3=2:=by omega
 rcases hm with hm | hm | hm
 ·have e:j=j / 3 * 3:=by omega
  rw [e,f0] at hj
  rw [← Option.some.inj hj,show o+j=o+j / 3 * 3 from by omega]
  exact hr.k
 ·have e:j=j / 3 * 3+1:=by omega
  rw [e,f1] at hj
  rw [← Option.some.inj hj,show o+j=o+j / 3 * 3+1 from by omega]
  exact hr.p
 ·have e:j=j / 3 * 3+2:=by omega
  rw [e,f2] at hj
  rw [← Option.some.inj hj,show o+j=o+j / 3 * 3+2 from by omega]
  exact hr.v
theorem flat_one' (l:List M.D):∀ y∈flat l,y.oneCell'=true:=by
 induction l with
 | nil=>intro y hy;cases hy
 | cons d l ih =>
  intro y hy
  simp only [flat,List.mem_cons] at hy
  rcases hy with rfl | rfl | rfl | hy
  ·rfl
  ·rfl
  ·rfl
  ·exact ih y hy
end Go.Proofs.YtihfibjckkmmbaaGreat
namespace Go.Proofs.YtihfibjckkmmbaaGreat
open Go.RowKit
theorem Slot1.bl' {w w':World} {b:Nat} {x:Value} (h:Slot1 w b x) (hb:Below w.heap.size w w'):Slot1 w' b x :=
 ⟨(hb.cell (p:=⟨b,0,none⟩) h.lt).trans h.c,(hb.frozen (p:=⟨b,0,none⟩) h.lt).trans h.fz⟩
end Go.Proofs.YtihfibjckkmmbaaGreat
namespace Go.Proofs.YtihfibjckkmmbaaGreat
open Go.RowKit
set_option maxHeartbeats 1000000 in
set_option maxRecDepth 100000 in
theorem numbersBelow_any (n:Nat) (w:World) (hn:n≤1000) :
  Calls Tryz.prog 37 #[.int .i64 n] w fun e w'=>∃ v,e=.returned v∧w'.ownsRow w.heap.size 3 1 v (M.bel n).length (nums (M.bel n))∧Below w.heap.size w w':=by
 obtain ⟨i0,hi,hz0,hz1,hz2⟩:=info_parts Tryz.infoInt
 go_enter Tryz.func37,Tryz.ntmps37
 go_wp2_with fail
 go_loopw [3,6] (fun s3 s6 wr=>∃ k:Nat,s6=.int .i64 k∧k≤n∧wr.ownsRow w.heap.size 3 1 s3 (M.bel k).length (nums (M.bel k))∧Below w.heap.size w wr) (fun _ s6 _=>n - (intOf s6).toNat)
 case atStart=>exact ⟨0,rfl,Nat.zero_le _,World.ownsRow_nil _ _ _ _,Below.refl _ _⟩
 case round =>
  obtain ⟨k,rfl,hk,hown,hbel⟩:=hrel
  by_cases hkn:k < n
  ·have hkn':(k:Int) < n:=by omega
   have HB:Hid (M.bel (k+1)=M.bel k++[(k:Int)]):=M.bel_succ k
   have hbl:=M.bel_len k
   have hbs:=hbel.size
   generalize M.bel k=l at *
   have hl:l.length≤1000:=by omega
   clear hbl
   go_wp2_with (at_builtin;refine wpList_append_own _ rfl (.tmp 9) (.tmp 11) 26 rfl _ 3 i0 _ 1 8 Tryz.underlying26 hi hz0 hz1 hz2 rfl (by decide) _ _ _ rfl (hown.alloc _) ⟨wr.heap.size,0,none⟩ 1 1 [.int .i64 k] rfl rfl (cells_new1 _ _ _ _ (by simp)) (one1 _) (by unfold maxLen;omega) (by omega) (by simp;omega) ?_)
   intro v3 w3 hown3 hg3 _
   have hb3:Below _ _ w3:=below_grown (hbel.trans ((below1 wr _).mono hbel.size)) hg3 (own_ge hown) (by simp;omega)
   have hown4:w3.ownsRow w.heap.size 3 1 v3 (M.bel (k+1)).length (nums (M.bel (k+1))):=by rw [HB.out,nums_snoc,List.length_append];exact hown3
   clear hown3 hg3 hown
   go_wp2_with fail
   exact ⟨⟨k+1,by go_num,by omega,hown4,hb3⟩,by simp [intOf];omega⟩
  ·obtain rfl:k=n:=by omega
   have hkn':¬ (k:Int) < k:=by omega
   go_wp2_with fail
   go_ret
   exact ⟨_,rfl,hown,hbel⟩
set_option maxHeartbeats 400000 in
set_option maxRecDepth 100000 in
theorem rowOf_any (a:Option Addr) (b o c:Nat) (row:List Int) (a2:Option Addr) (b2 o2 c2:Nat) (evs:List Int) (w:World) (hl:row.length≤1048576) (hl2:evs.length≤1048576) (h:IntS w a b o row) (h2:IntS w a2 b2 o2 evs) :
  Calls Tryz.prog 70 #[.slice a row.length c,.slice a2 evs.length c2] w fun e w'=>e=.returned (.bool (M.rowOf row evs))∧w'=w:=by
 by_cases hln:row.length=evs.length
 ·have HF:Hid (M.rowOf row evs=evs.all (fun v=>M.has row v)):=M.rowOf_same hln
  have hq:((row.length:Int) != evs.length)=false:=by simp;omega
  have HL:Hid (row.length=evs.length):=hln
  clear hln
  go_enter Tryz.func70,Tryz.ntmps70
  go_wp2_with fail
  go_loopw [14] (fun s14 wr=>∃ n:Nat,s14=.int .i64 n∧n≤evs.length∧Hid (evs.all (fun v=>M.has row v)=(evs.drop n).all (fun v=>M.has row v))∧wr=w) (fun s14 _=>evs.length - (intOf s14).toNat)
  case atStart=>exact ⟨0,rfl,Nat.zero_le _,by show _=_;rfl,rfl⟩
  case round =>
   obtain ⟨n,rfl,hn,HA,rfl⟩:=hrel
   by_cases hlt:n < evs.length
   ·obtain ⟨rfl⟩:=h2.addr (by omega)
    have hx:=h2.row n hlt
    have HS:Hid (evs.all (fun v=>M.has row v)=(M.has row evs[n]&&(evs.drop (n+1)).all (fun v=>M.has row v))):=M.rowAll_step HA.out hlt
    clear HA
    generalize evs[n]=y at *
    have i1:(n:Int) < evs.length:=by omega
    cases hh:M.has row y
    ·go_wp2_with (go_at_call 100;refine (containsI_any a b o c row y _ hl h).mono ?_;rw [hh];rintro e w' ⟨rfl,rfl⟩)
     go_ret
     exact ⟨ret_bool (by rw [HF.out,HS.out,hh];rfl),rfl⟩
    ·go_wp2_with (go_at_call 100;refine (containsI_any a b o c row y _ hl h).mono ?_;rw [hh];rintro e w' ⟨rfl,rfl⟩)
     exact ⟨⟨n+1,by go_num,by omega,by show _=_;rw [HS.out,hh];rfl,trivial⟩,by simp [intOf];omega⟩
   ·go_wp2_with fail
    go_ret
    exact ⟨ret_bool (by rw [HF.out,HA.out,List.drop_eq_nil_of_le (by omega)];rfl),rfl⟩
 ·have hln':((row.length:Int)==evs.length)=false:=by simp;omega
  go_enter Tryz.func70,Tryz.ntmps70
  go_wp2_with fail
  go_ret
  exact ⟨ret_bool (M.rowOf_short hln).symm,rfl⟩
end Go.Proofs.YtihfibjckkmmbaaGreat
namespace Go.Proofs.YtihfibjckkmmbaaGreat
open Go.RowKit
def M.turned {α:Type} (z:α) (row:List Int) (l:List α):List α:=if M.rowN row l.length then M.pick z row l else []
theorem M.turned_no {α:Type} {z:α} {row:List Int} {l:List α} (h:M.rowN row l.length=false):M.turned z row l=[]:=by simp [M.turned,h]
theorem M.turned_yes {α:Type} {z:α} {row:List Int} {l:List α} (h:M.rowN row l.length=true):M.turned z row l=M.pick z row l:=by simp [M.turned,h]
end Go.Proofs.YtihfibjckkmmbaaGreat
namespace Go.Proofs.YtihfibjckkmmbaaGreat
open Go.RowKit
theorem step_goV {P:Program} {ops:Array Oper} {o:Oper} {a:Act} {w:World} {K:Act→World→Prop} {Q:Exit→Act→World→Prop} {E:Prop}
  (hw:Region.wanted o (yielded ops a.tmps)=true) (d:Option Tmp) (hd:o.dst=d) (f:FuncId) (os:Array Operand) (ts:Array TypeId) (hop:o.op=Op.call { callee:=Callee.value (Operand.func f),args:=os,argTypes:=ts })
  (vals:Array Value) (hv:os.map a.eval=vals) (he:∀ args w,(callFunc f args).run P w=.ok (.enter f args) w) {R:Ending→World→Prop} (hc:Calls P f vals w R)
  (hK:∀ e w',R e w'→∃ v,e=.returned v∧K (a.put d v) w') :
  if Region.wanted o (yielded ops a.tmps)=true then Oper.wp P o a w K Q else E:=by
 subst hd
 rw [if_pos hw]
 subst hv
 have hr:(execOp a.eval o).run P w=.ok (.enter f (os.map a.eval)) w:=by
  simp [execOp,hop,resolve,invoke,Act.eval,Deferred.ofValue,he]
 unfold Oper.wp
 rw [hr,Oper.upon_enter]
 refine hc.mono fun e w' h=>?_
 obtain ⟨v,rfl,hk⟩:=hK e w' h
 exact hk
theorem run_append_nilT {P:Program} (w:World) (t ty e:TypeId) (i:TypeInfo) (ht:P.underlying t=some (.slice e)) (hi:P.info? e=some i) (a:Option Addr) (c:Nat) :
  (Builtin.append_ #[t,t] ty #[.slice none 0 0,.slice a 0 c]).run P w=.ok (.slice none 0 0) w:=by
 cases a
 ·simp [Builtin.append_,run_underlying ht,sizeOf,typeInfo,hi,Builtin.lenOf,Builtin.firstCells]
 ·simp [Builtin.append_,run_underlying ht,sizeOf,typeInfo,hi,Builtin.lenOf,Builtin.firstCells,loadCells,loadCellsFrom]
theorem wpList_append_nilT {P:Program} {w:World} {ops:Array Oper} {rest:List Oper} {o:Oper} {a:Act} {Q:Exit→Act→World→Prop} (hgd:o.guard=none) (s x:Operand) (t:TypeId)
  (ho:o.op=.call { callee:=.builtin .append,args:=#[s,x],argTypes:=#[t,t] }) (e:TypeId) (i:TypeInfo) (ht:P.underlying t=some (.slice e)) (hi:P.info? e=some i)
  (hs:a.eval s=.slice none 0 0) (b:Option Addr) (c:Nat) (hx:a.eval x=.slice b 0 c)
  (h:wpList P ops Q rest (a.put o.dst (.slice none 0 0)) w):wpList P ops Q (o::rest) a w:=by
 refine wpList_plain hgd fun K hK=>?_
 have hrun:=run_append_nilT (P:=P) w t o.type e i ht hi b c
 unfold Oper.wp
 simp [execOp,ho,resolve,invoke,builtin,hs,hx,hrun,Result.andThen]
 exact hK _ _ h
theorem own_slx {w:World} {B:Nat} {e:TypeId} {size:Nat} {v:Value} {n:Nat} {xs:List Value} (h:w.ownsRow B e size v n xs):∃ a c,v=.slice a n c:=by
 rcases h.2 with ⟨hv,h0⟩ | ⟨g,cap,cur,hv,_⟩
 ·exact ⟨none,0,by rw [hv,h0]⟩
 ·exact ⟨_,cap,hv⟩
end Go.Proofs.YtihfibjckkmmbaaGreat
namespace Go.Proofs.YtihfibjckkmmbaaGreat
open Go.RowKit
set_option maxHeartbeats 1000000 in
theorem newListD_any (a:Option Addr) (b o c:Nat) (l:List M.D) (w:World) (hl:l.length≤1048576) (h:DoS w a b o l) :
  Calls Tryz.prog 90 #[.slice a l.length c] w fun e w'=>∃ v,e=.returned v∧w'.ownsRow w.heap.size 56 3 v l.length (flat l)∧Below w.heap.size w w':=by
 obtain ⟨i0,hi,hz0,hz1,hz2⟩:=info_parts Tryz.info56
 rcases Nat.eq_zero_or_pos l.length with h0 | hpos
 ·have hl0:l=[]:=List.length_eq_zero_iff.1 h0
  subst hl0
  rw [List.length_nil]
  go_enter Tryz.func90,Tryz.ntmps90
  go_wp2_with (at_builtin;refine wpList_append_nilT rfl (.const (.slice none 0 0)) (.tmp 3) 53 rfl 56 i0 Tryz.underlying53 hi rfl a c rfl ?_)
  go_wp2_with fail
  go_ret
  exact ⟨_,rfl,World.ownsRow_nil _ _ _ _,Below.refl _ _⟩
 ·obtain ⟨rfl⟩:=h.addr hpos
  go_enter Tryz.func90,Tryz.ntmps90
  go_wp2_with (at_builtin;refine wpList_append_lies _ rfl (.const (.slice none 0 0)) (.tmp 3) 53 rfl w.heap.size 56 i0 _ 3 24 Tryz.underlying53 hi hz0 hz1 hz2 rfl (by decide) _ 0 [] rfl (World.ownsRow_nil _ _ _ _) ⟨b,o,none⟩ l.length c (flat l) rfl (flat_length l) (DoS.flat_cells h.row) (flat_one' l) hpos (by unfold maxLen;omega) (by omega) (Nat.le_refl _) w.heap.size rfl ?_)
  intro g cap w1 hown hg hat hlt
  have hb:Below w.heap.size w w1:=⟨hg.os,hg.tape,hg.output,hg.size,fun k hk=>hg.block k hk (fun e=>by simp [Value.ownBlock] at e)⟩
  have hown':w1.ownsRow w.heap.size 56 3 (.slice (some ⟨g,0,none⟩) l.length cap) l.length (flat l):=by simpa using hown
  go_wp2_with fail
  go_ret
  exact ⟨_,by first | rfl | simp,hown',hb⟩
set_option maxHeartbeats 4000000 in
set_option maxRecDepth 100000 in
set_option linter.unusedSimpArgs false in
theorem copyProg_any (a:Option Addr) (b o c:Nat) (ll:List (List M.D)) (w:World) (hl:ll.length≤1048576) (hls:∀ t∈ll,t.length≤1048576) (h:DoSS w a b o ll) :
  Calls Tryz.prog 55 #[.agg #[.slice a ll.length c]] w fun e w'=>∃ v,e=.returned (.agg #[v])∧(∃ vs,Rdg w' w.heap.size v ll vs)∧Below w.heap.size w w':=by
 obtain ⟨i0,hi,hz0,hz1,hz2⟩:=info_parts Tryz.info53
 go_enter Tryz.func55,Tryz.ntmps55
 go_wp2_with fail
 go_loopw [9] (fun s9 wr=>∃ (n:Nat) (v:Value) (vs:List Value),s9=.int .i64 n∧n≤ll.length∧Rdg wr (w.heap.size+3) v (ll.take n) vs∧Slot1 wr (w.heap.size+1+1) v∧Slot1 wr (w.heap.size+1) (.slice none 0 0)∧Below w.heap.size w wr) (fun s9 _=>ll.length - (intOf s9).toNat)
 case atStart =>
  refine ⟨0,.slice none 0 0,[],rfl,Nat.zero_le _,by simpa using Rdg.nil _ _,?_,?_,below3 _ _ _ _⟩
  ·have:=Slot1.new ((w.alloc (.cells #[.slice a ll.length c] 25)).alloc (.cells #[.slice none 0 0] 25)) (.slice none 0 0) 25
   rwa [World.size_alloc,World.size_alloc] at this
  ·have:=(Slot1.new (w.alloc (.cells #[.slice a ll.length c] 25)) (.slice none 0 0) 25).bl' (below1 _ (.cells #[.slice none 0 0] 25))
   rwa [World.size_alloc] at this
 case round =>
  obtain ⟨n,v,vs,rfl,hn,hR,hP,hQ,hbel⟩:=hrel
  by_cases hlt:n < ll.length
  ·obtain ⟨rfl⟩:=h.addr (by omega)
   obtain ⟨a',b',o',c',hc,hd⟩:=(h.below hbel (Nat.le_refl _)).row n hlt
   have ht:=hls _ (List.getElem_mem hlt)
   have HW:Hid (ll.take (n+1)=ll.take n++[ll[n]]):=List.take_succ_eq_append_getElem hlt
   have hmm:(ll.take n).length≤1048576:=by simp;omega
   generalize ll[n]=t at *
   generalize ll.take n=mm at *
   have i1:(n:Int) < ll.length:=by omega
   obtain ⟨av,gv,cv,rfl,_⟩:=hR.b.ss
   have x0:=hP.c
   have lP:=hP.lt
   have F4:Hid (∀ (w4:World) (v4:Value),w4.ownsRow wr.heap.size 56 3 v4 t.length (flat t)→Below wr.heap.size wr.drew w4→∃ a4 c4,v4=.slice a4 t.length c4∧Below wr.heap.size wr w4∧Slot1 w4 (w.heap.size+1+1) (.slice av mm.length cv)∧Rdg w4 (w.heap.size+3) (.slice av mm.length cv) mm vs):=by
    intro w4 v4 ho hb
    obtain ⟨a4,c4,e⟩:=own_slx ho
    have b4:Below wr.heap.size wr w4:=(Below.refl _ _).drew.trans hb
    exact ⟨a4,c4,e,b4,hP.bl' b4,hR.below b4⟩
   have F5:Hid (∀ (w4:World) (a4:Option Addr) (c4:Nat),Below wr.heap.size wr w4→w4.ownsRow wr.heap.size 56 3 (.slice a4 t.length c4) t.length (flat t)→∀ (g5 cap5:Nat) (w5:World),w5.ownsRow (w.heap.size+3) 53 1 (.slice (some ⟨g5,0,none⟩) (mm.length+1) cap5) (mm.length+1) (vs++[.slice a4 t.length c4])→(w4.alloc (.cells #[.slice a4 t.length c4] 53)).grownBy w5 (Value.slice av mm.length cv).ownBlock→Below w.heap.size w w5∧Slot1 w5 (w.heap.size+1+1) (.slice av mm.length cv)∧Slot1 w5 (w.heap.size+1) (.slice none 0 0)∧Rdg w5 (w.heap.size+3) (.slice (some ⟨g5,0,none⟩) (mm.length+1) cap5) (mm++[t]) (vs++[.slice a4 t.length c4])):=by
    intro w4 a4 c4 b4 hx4 g5 cap5 w5 ho hg
    have hal:=below1 w4 (.cells #[.slice a4 t.length c4] 53)
    have hge:=own_ge hR.b.outer
    have b4a:=b4.trans (hal.mono b4.size)
    have bwa:=hbel.trans (b4a.mono hbel.size)
    refine ⟨below_grown bwa hg (fun j hj=>by have:=hge j hj;omega) bwa.size,(hP.bl' b4a).apart hg (fun e=>by have:=hge _ e;omega),(hQ.bl' b4a).apart hg (fun e=>by have:=hge _ e;omega),((hR.below b4).below hal).snocT (ownsRow_mono (ownsRow_below hx4 hal) (by omega)) (fun i hi j hj e=>?_) ho hg⟩
    have h1:=((hR.b.inner i (by have:=hR.b.len;omega) hi).lt j hj).2
    have h2:=own_ge hx4 j e
    omega
   have CN:=newListD_any a' b' o' c' t wr.drew ht (hd.below (Below.refl wr.heap.size wr).drew (Nat.le_refl _))
   go_wp2_with fail
   refine wp_region_held_drew (S:=fun w'=>Below w.heap.size w w') (by kernel_rfl) hbel.drew (fun hH=>?_)
   refine takeD 0 (some 13) (.pointer (some ⟨w.heap.size+1+1,0,none⟩)) hH rfl rfl (by kernel_rfl) (by kernel_rfl) (by kernel_rfl) (fun _ _ _ h=>h) (Or.inl ⟨by rfl,by intro w' hSw;go_simp⟩) ?_
   simp only [Act.put,List.setIfInBounds_toArray,List.set_cons_zero,List.set_cons_succ]
   refine takeD 2 (some 15) (.slice a' t.length c') hH rfl rfl (by kernel_rfl) (by kernel_rfl) (by kernel_rfl) (fun _ _ _ h=>h) (Or.inl ⟨by rfl,by intro w' hSw;go_simp⟩) ?_
   simp only [Act.put,List.setIfInBounds_toArray,List.set_cons_zero,List.set_cons_succ]
   refine wpAnyH_ready (rs:=[1,3]) (by kernel_rfl) (by simp) ?_
   refine AllReadyH.cons rfl (fun K' hK=>?_) (AllReadyH.cons rfl (fun K' hK=>?_) AllReadyH.nil)
   ·have xx:=x0
    rw [if_pos (by rfl)]
    go_simp
    refine hK.out _ _ hH (fun _=>?_)
    clear hK K' xx
    refine wpAnyH_ready (rs:=[3]) (by kernel_rfl) (by simp) ?_
    refine AllReadyH.cons rfl (fun K' hK=>?_) AllReadyH.nil
    refine step_goV (by rfl) (some 16) rfl 90 #[.tmp 15] _ rfl #[.slice a' t.length c'] (by simp [Act.eval]) (fun _ _=>rfl) CN ?_
    rintro e w4 ⟨v4,rfl,ho4,hb4⟩
    obtain ⟨a4,c4,rfl,b4,hS4,hR4⟩:=F4.out w4 v4 ho4 hb4
    refine ⟨_,rfl,?_⟩
    simp only [Act.put,List.setIfInBounds_toArray,List.set_cons_zero,List.set_cons_succ]
    refine hK.out _ _ (hbel.trans (b4.mono hbel.size)) (fun hH4=>?_)
    clear hK K'
    have hS4a:=hS4.bl' (below1 w4 (.cells #[.slice a4 t.length c4] 53))
    have S4a:Below w.heap.size w (w4.alloc (.cells #[.slice a4 t.length c4] 53)):=hH4.alloc hH4.size _
    refine wpAnyH_ready (rs:=[4]) (by kernel_rfl) (by simp) ?_
    refine AllReadyH.cons rfl (fun K' hK=>?_) AllReadyH.nil
    rw [if_pos (by rfl)]
    go_simp
    refine hK.out _ _ S4a (fun _=>?_)
    clear hK K'
    refine wpAnyH_ready (rs:=[5]) (by kernel_rfl) (by simp) ?_
    refine AllReadyH.cons rfl (fun K' hK=>?_) AllReadyH.nil
    refine step_append_lies _ (by rfl) (.tmp 14) (.tmp 17) 23 (by rfl) (w.heap.size+3) 53 i0 _ 1 24 Tryz.underlying23 hi hz0 hz1 hz2 rfl (by decide) (.slice av mm.length cv) mm.length vs (by rfl) ((hR4.b.outer).alloc _) ⟨w4.heap.size,0,none⟩ 1 1 [.slice a4 t.length c4] (by rfl) (by rfl) (World.news_of_block (cs:=#[.slice a4 t.length c4]) (t:=53) (fr:=(0,0)) (heap_alloc_new w4 _)) (by simp [Value.oneCell']) (by omega) (by unfold maxLen;omega) (by omega) (by have:=b4.size;simp;omega) (w4.heap.size+1) (by simp) ?_
    intro g5 cap5 w5 hown5 hg5 hat5 hlt5
    obtain ⟨b5,hS5,hQ5,hR5⟩:=F5.out w4 a4 c4 b4 ho4 g5 cap5 w5 hown5 hg5
    simp only [Act.put,List.setIfInBounds_toArray,List.set_cons_zero,List.set_cons_succ]
    refine hK.out _ _ b5 (fun hH5=>?_)
    clear hK K'
    refine takeD 6 (some 19) (.pointer (some ⟨w.heap.size+1+1,0,none⟩)) hH5 rfl rfl (by kernel_rfl) (by kernel_rfl) (by kernel_rfl) (fun _ _ _ h=>h) (Or.inl ⟨by rfl,by intro w' hSw;go_simp⟩) ?_
    simp only [Act.put,List.setIfInBounds_toArray,List.set_cons_zero,List.set_cons_succ]
    refine wpAnyH_ready (rs:=[7]) (by kernel_rfl) (by simp) ?_
    refine AllReadyH.cons rfl (fun K' hK=>?_) AllReadyH.nil
    have xc:=hS5.c
    have xz:=hS5.fz
    rw [if_pos (by rfl)]
    go_simp
    refine hK.out _ _ (b5.setCell (by show w.heap.size≤w.heap.size+1+1;omega) _) (fun _=>?_)
    clear hK K'
    refine wpAnyH_done (by kernel_rfl) ?_ _
    clear xc xz
    go_wp2_with fail
    exact ⟨⟨n+1,_,_,by go_num,by omega,by rw [HW.out];exact hR5.far (by omega) _,hS5.set _,hQ5.far (by omega) _,b5.setCell (by show w.heap.size≤w.heap.size+1+1;omega) _⟩,by simp [intOf];omega⟩
   ·refine step_goV (by rfl) (some 16) rfl 90 #[.tmp 15] _ rfl #[.slice a' t.length c'] (by simp [Act.eval]) (fun _ _=>rfl) CN ?_
    rintro e w4 ⟨v4,rfl,ho4,hb4⟩
    obtain ⟨a4,c4,rfl,b4,hS4,hR4⟩:=F4.out w4 v4 ho4 hb4
    refine ⟨_,rfl,?_⟩
    simp only [Act.put,List.setIfInBounds_toArray,List.set_cons_zero,List.set_cons_succ]
    refine hK.out _ _ (hbel.trans (b4.mono hbel.size)) (fun hH4=>?_)
    clear hK K'
    have hS4a:=hS4.bl' (below1 w4 (.cells #[.slice a4 t.length c4] 53))
    have S4a:Below w.heap.size w (w4.alloc (.cells #[.slice a4 t.length c4] 53)):=hH4.alloc hH4.size _
    refine wpAnyH_ready (rs:=[1,4]) (by kernel_rfl) (by simp) ?_
    refine AllReadyH.cons rfl (fun K' hK=>?_) (AllReadyH.cons rfl (fun K' hK=>?_) AllReadyH.nil)
    ·have xx:=hS4.c
     rw [if_pos (by rfl)]
     go_simp
     refine hK.out _ _ hH4 (fun _=>?_)
     clear hK K' xx
     refine wpAnyH_ready (rs:=[4]) (by kernel_rfl) (by simp) ?_
     refine AllReadyH.cons rfl (fun K' hK=>?_) AllReadyH.nil
     rw [if_pos (by rfl)]
     go_simp
     refine hK.out _ _ S4a (fun _=>?_)
     clear hK K'
     refine wpAnyH_ready (rs:=[5]) (by kernel_rfl) (by simp) ?_
     refine AllReadyH.cons rfl (fun K' hK=>?_) AllReadyH.nil
     refine step_append_lies _ (by rfl) (.tmp 14) (.tmp 17) 23 (by rfl) (w.heap.size+3) 53 i0 _ 1 24 Tryz.underlying23 hi hz0 hz1 hz2 rfl (by decide) (.slice av mm.length cv) mm.length vs (by rfl) ((hR4.b.outer).alloc _) ⟨w4.heap.size,0,none⟩ 1 1 [.slice a4 t.length c4] (by rfl) (by rfl) (World.news_of_block (cs:=#[.slice a4 t.length c4]) (t:=53) (fr:=(0,0)) (heap_alloc_new w4 _)) (by simp [Value.oneCell']) (by omega) (by unfold maxLen;omega) (by omega) (by have:=b4.size;simp;omega) (w4.heap.size+1) (by simp) ?_
     intro g5 cap5 w5 hown5 hg5 hat5 hlt5
     obtain ⟨b5,hS5,hQ5,hR5⟩:=F5.out w4 a4 c4 b4 ho4 g5 cap5 w5 hown5 hg5
     simp only [Act.put,List.setIfInBounds_toArray,List.set_cons_zero,List.set_cons_succ]
     refine hK.out _ _ b5 (fun hH5=>?_)
     clear hK K'
     refine takeD 6 (some 19) (.pointer (some ⟨w.heap.size+1+1,0,none⟩)) hH5 rfl rfl (by kernel_rfl) (by kernel_rfl) (by kernel_rfl) (fun _ _ _ h=>h) (Or.inl ⟨by rfl,by intro w' hSw;go_simp⟩) ?_
     simp only [Act.put,List.setIfInBounds_toArray,List.set_cons_zero,List.set_cons_succ]
     refine wpAnyH_ready (rs:=[7]) (by kernel_rfl) (by simp) ?_
     refine AllReadyH.cons rfl (fun K' hK=>?_) AllReadyH.nil
     have xc:=hS5.c
     have xz:=hS5.fz
     rw [if_pos (by rfl)]
     go_simp
     refine hK.out _ _ (b5.setCell (by show w.heap.size≤w.heap.size+1+1;omega) _) (fun _=>?_)
     clear hK K'
     refine wpAnyH_done (by kernel_rfl) ?_ _
     clear xc xz
     go_wp2_with fail
     exact ⟨⟨n+1,_,_,by go_num,by omega,by rw [HW.out];exact hR5.far (by omega) _,hS5.set _,hQ5.far (by omega) _,b5.setCell (by show w.heap.size≤w.heap.size+1+1;omega) _⟩,by simp [intOf];omega⟩
    ·rw [if_pos (by rfl)]
     go_simp
     refine hK.out _ _ S4a (fun _=>?_)
     clear hK K'
     refine wpAnyH_ready (rs:=[1]) (by kernel_rfl) (by simp) ?_
     refine AllReadyH.cons rfl (fun K' hK=>?_) AllReadyH.nil
     have xx:=hS4a.c
     rw [if_pos (by rfl)]
     go_simp
     refine hK.out _ _ S4a (fun _=>?_)
     clear hK K' xx
     refine wpAnyH_ready (rs:=[5]) (by kernel_rfl) (by simp) ?_
     refine AllReadyH.cons rfl (fun K' hK=>?_) AllReadyH.nil
     refine step_append_lies _ (by rfl) (.tmp 14) (.tmp 17) 23 (by rfl) (w.heap.size+3) 53 i0 _ 1 24 Tryz.underlying23 hi hz0 hz1 hz2 rfl (by decide) (.slice av mm.length cv) mm.length vs (by rfl) ((hR4.b.outer).alloc _) ⟨w4.heap.size,0,none⟩ 1 1 [.slice a4 t.length c4] (by rfl) (by rfl) (World.news_of_block (cs:=#[.slice a4 t.length c4]) (t:=53) (fr:=(0,0)) (heap_alloc_new w4 _)) (by simp [Value.oneCell']) (by omega) (by unfold maxLen;omega) (by omega) (by have:=b4.size;simp;omega) (w4.heap.size+1) (by simp) ?_
     intro g5 cap5 w5 hown5 hg5 hat5 hlt5
     obtain ⟨b5,hS5,hQ5,hR5⟩:=F5.out w4 a4 c4 b4 ho4 g5 cap5 w5 hown5 hg5
     simp only [Act.put,List.setIfInBounds_toArray,List.set_cons_zero,List.set_cons_succ]
     refine hK.out _ _ b5 (fun hH5=>?_)
     clear hK K'
     refine takeD 6 (some 19) (.pointer (some ⟨w.heap.size+1+1,0,none⟩)) hH5 rfl rfl (by kernel_rfl) (by kernel_rfl) (by kernel_rfl) (fun _ _ _ h=>h) (Or.inl ⟨by rfl,by intro w' hSw;go_simp⟩) ?_
     simp only [Act.put,List.setIfInBounds_toArray,List.set_cons_zero,List.set_cons_succ]
     refine wpAnyH_ready (rs:=[7]) (by kernel_rfl) (by simp) ?_
     refine AllReadyH.cons rfl (fun K' hK=>?_) AllReadyH.nil
     have xc:=hS5.c
     have xz:=hS5.fz
     rw [if_pos (by rfl)]
     go_simp
     refine hK.out _ _ (b5.setCell (by show w.heap.size≤w.heap.size+1+1;omega) _) (fun _=>?_)
     clear hK K'
     refine wpAnyH_done (by kernel_rfl) ?_ _
     clear xc xz
     go_wp2_with fail
     exact ⟨⟨n+1,_,_,by go_num,by omega,by rw [HW.out];exact hR5.far (by omega) _,hS5.set _,hQ5.far (by omega) _,b5.setCell (by show w.heap.size≤w.heap.size+1+1;omega) _⟩,by simp [intOf];omega⟩
  ·have htk:ll.take n=ll:=List.take_of_length_le (by omega)
   rw [htk] at hR
   obtain ⟨av,gv,cv,rfl,_⟩:=hR.b.ss
   have hkn':¬ (n:Int) < ll.length:=by omega
   have p0:=hP.c
   have pf:=hP.fz
   have q0:=hQ.c
   have qf:=hQ.fz
   have lP:=hP.lt
   have lQ:=hQ.lt
   have hne:w.heap.size+1≠w.heap.size+1+1:=by omega
   go_wp2_with fail
   have q1:=(hQ.set (.slice av ll.length cv)).c
   exact bodyPost_ret (v:=.agg #[.slice av ll.length cv]) (by simp [results,Tryz.results55,go_sem,q1]) rfl ⟨_,rfl,⟨vs,(hR.far (by omega) _).mono (by omega)⟩,hbel.setCell (by show w.heap.size≤w.heap.size+1;omega) _⟩
end Go.Proofs.YtihfibjckkmmbaaGreat
namespace Go.Proofs.YtihfibjckkmmbaaGreat
open Go.RowKit
namespace M
def curT (f:D→D) (k:Nat) (t:List D):List D:=(t.take k).map f++t.drop k
def cur (f:D→D) (n k:Nat) (ll:List (List D)):List (List D):=ll.mapIdx fun i t=>if i < n then t.map f else if i=n then curT f k t else t
end M
end Go.Proofs.YtihfibjckkmmbaaGreat
namespace Go.Proofs.YtihfibjckkmmbaaGreat
open Go.RowKit
set_option maxHeartbeats 400000 in
set_option maxRecDepth 100000 in
theorem l22Row_any (a:Option Addr) (b o c:Nat) (row:List Int) (m:Nat) (w:World) (hl:row.length≤1048576) (hm:m≤1000) (h:IntS w a b o row) :
  Calls Tryz.prog 33 #[.slice a row.length c,.int .i64 m] w fun e w'=>e=.returned (.bool (M.rowN row m))∧w'=w:=by
 by_cases hln:row.length=m
 ·have HF:Hid (M.rowN row m=(M.bel m).all (fun v=>M.has row v)):=M.rowOf_same (by rw [M.bel_len];exact hln)
  have hq:((row.length:Int) != m)=false:=by simp;omega
  have HL:Hid (row.length=m):=hln
  clear hln
  go_enter Tryz.func33,Tryz.ntmps33
  go_wp2_with fail
  go_loopw [5] (fun s5 wr=>∃ n:Nat,s5=.int .i64 n∧n≤m∧Hid ((M.bel m).all (fun v=>M.has row v)=((M.bel m).drop n).all (fun v=>M.has row v))∧wr=w) (fun s5 _=>m - (intOf s5).toNat)
  case atStart=>exact ⟨0,rfl,Nat.zero_le _,by show _=_;rfl,rfl⟩
  case round =>
   obtain ⟨n,rfl,hn,HA,rfl⟩:=hrel
   by_cases hlt:n < m
   ·have hlt2:n < (M.bel m).length:=by rw [M.bel_len];exact hlt
    have HS:Hid ((M.bel m).all (fun v=>M.has row v)=(M.has row (n:Int)&&((M.bel m).drop (n+1)).all (fun v=>M.has row v))):=by
     have:=M.rowAll_step HA.out hlt2
     rw [M.bel_get] at this
     exact this
    clear HA hlt2
    have i1:(n:Int) < m:=by omega
    cases hh:M.has row (n:Int)
    ·go_wp2_with (go_at_call 52;refine (l12Has_any a b o c row n _ hl h).mono ?_;rw [hh];rintro e w' ⟨rfl,rfl⟩)
     go_ret
     exact ⟨ret_bool (by rw [HF.out,HS.out,hh];rfl),rfl⟩
    ·go_wp2_with (go_at_call 52;refine (l12Has_any a b o c row n _ hl h).mono ?_;rw [hh];rintro e w' ⟨rfl,rfl⟩)
     exact ⟨⟨n+1,by go_num,by omega,by show _=_;rw [HS.out,hh];rfl,trivial⟩,by simp [intOf];omega⟩
   ·have i1:¬ (n:Int) < m:=by omega
    go_wp2_with fail
    go_ret
    exact ⟨ret_bool (by rw [HF.out,HA.out,List.drop_eq_nil_of_le (by rw [M.bel_len];omega)];rfl),rfl⟩
 ·have hln':((row.length:Int)==m)=false:=by simp;omega
  go_enter Tryz.func33,Tryz.ntmps33
  go_wp2_with fail
  go_ret
  exact ⟨ret_bool (M.rowOf_short (by rw [M.bel_len];exact hln)).symm,rfl⟩
end Go.Proofs.YtihfibjckkmmbaaGreat
namespace Go.Proofs.YtihfibjckkmmbaaGreat
open Go.RowKit
theorem run_append_emp0 {P:Program} (w:World) (t ty e:TypeId) (i:TypeInfo) (ht:P.underlying t=some (.slice e)) (hi:P.info? e=some i) (ad:Addr) (a:Option Addr) (c:Nat) :
  (Builtin.append_ #[t,t] ty #[.slice (some ad) 0 0,.slice a 0 c]).run P w=.ok (.slice (some ad) 0 0) w:=by
 cases a
 ·simp [Builtin.append_,run_underlying ht,sizeOf,typeInfo,hi,Builtin.lenOf,Builtin.firstCells,storeCells]
 ·simp [Builtin.append_,run_underlying ht,sizeOf,typeInfo,hi,Builtin.lenOf,Builtin.firstCells,loadCells,loadCellsFrom,storeCells]
theorem grow_refl (w:World) (row:Option Nat):w.grownBy w row:=⟨rfl,rfl,rfl,Nat.le_refl _,fun _ _ _=>rfl⟩
theorem own_emp {X:World} {base g size:Nat} {e:TypeId} (h:X.heap[g]?=some (.cells #[] e (0,0))) (hb:base≤g):X.ownsRow base e size (.slice (some ⟨g,0,none⟩) 0 0) 0 [] :=
 ⟨by simp,.inr ⟨g,0,#[],rfl,hb,h,Nat.le_refl _,Nat.zero_le _,by simp,by simp⟩⟩
theorem wp_append_does {P:Program} {o:Oper} {a:Act} {w:World} {K:Act→World→Prop} {Q:Exit→Act→World→Prop} (s x:Operand) (t:TypeId)
  (ho:o.op=.call { callee:=.builtin .append,args:=#[s,x],argTypes:=#[t,t] }) (d:Option Tmp) (hd:o.dst=d) (base:Nat) (e:TypeId) (i:TypeInfo) (ht:P.underlying t=some (.slice e)) (hi:P.info? e=some i) (hz0:i.zero=some (.agg #[.int .i64 0,.int .i64 0,.int .i64 0])) (hz1:i.size=3) (hz2:i.bytes=24)
  (g:Nat) (hs:a.eval s=.slice (some ⟨g,0,none⟩) 0 0) (hown:w.ownsRow base e 3 (.slice (some ⟨g,0,none⟩) 0 0) 0 []) (hbase:base≤w.heap.size) (sa:Option Addr) (b off c:Nat) (l:List M.D) (hx:a.eval x=.slice sa l.length c) (hI:DoS w sa b off l) (hl:l.length≤1048576)
  (h:∀ v' w',w'.ownsRow base e 3 v' l.length (flat l)→w.grownBy w' (some g)→(v'.ownBlock=some g∨v'.ownBlock=some w.heap.size)→K (a.put d v') w') :
  Oper.wp P o a w K Q:=by
 subst hd
 cases sa with
 | none =>
  have hl0:l=[]:=by
   rcases Nat.eq_zero_or_pos l.length with h0 | h0
   ·exact List.length_eq_zero_iff.1 h0
   ·cases hI.addr h0
  subst hl0
  rw [List.length_nil] at hx
  have hrun:=run_append_emp0 (P:=P) w t o.type e i ht hi ⟨g,0,none⟩ none c
  have hk:=h (.slice (some ⟨g,0,none⟩) 0 0) w hown (grow_refl _ _) (.inl rfl)
  unfold Oper.wp
  simp [execOp,ho,resolve,invoke,builtin,hs,hx,hrun,Result.andThen]
  exact hk
 | some ad =>
  have hn:∀ j u,(flat l)[j]?=some u→w.cell? (ad.add j)=some u:=fun j u hj=>by
   have hjl:=(List.getElem?_eq_some_iff.1 hj).1
   rw [flat_length] at hjl
   obtain ⟨rfl⟩:=hI.addr (by omega)
   exact DoS.flat_cells hI.row j u hj
  obtain ⟨v',w',hrun,h2,h3,_,h5⟩:=run_append_own_at (P:=P) w base t o.type e i (.agg #[.int .i64 0,.int .i64 0,.int .i64 0]) 3 24 ht hi hz0 hz1 hz2 rfl (by decide) (.slice (some ⟨g,0,none⟩) 0 0) 0 [] hown ad l.length c (flat l) (flat_length l) hn (flat_one' l) (by unfold maxLen;omega) (by omega) hbase
  have hk:=h v' w' (by simpa using h2) h3 h5
  unfold Oper.wp
  simp [execOp,ho,resolve,invoke,builtin,hs,hx,hrun,Result.andThen]
  exact hk
end Go.Proofs.YtihfibjckkmmbaaGreat
