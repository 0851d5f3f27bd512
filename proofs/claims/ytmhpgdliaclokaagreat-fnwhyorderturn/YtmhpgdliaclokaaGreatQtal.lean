/- Cells of literals; a row of steps more; steps as the cells of their row. No condition. And what goes with it: TnB0, TnBase, TnGo, TnMath, TnI, TnT, TnFact, TnCp, TnTh, TnCc, TnAp. -/
import Derived.Lib.AppendZerosOnto
import Derived.Test.YtmhpgdliaclokaaGreatRows
import Derived.Test.YtmhpgdliaclokaaGreatQtak
namespace Go.Proofs.YtmhpgdliaclokaaGreat
section
open Go.RowKit
theorem nums_snoc (l:List Int) (x:Int):nums (l++[x])=nums l++[.int .i64 x]:=by simp [nums]
theorem cells_new1 (w:World) (x:Value) (t:TypeId) (N:Nat) (hN:N=w.heap.size):∀ (j:Nat) (u:Value),[x][j]?=some u→(w.alloc (.cells #[x] t)).cell? ((⟨N,0,none⟩:Addr).add j)=some u:=by
 subst hN
 intro j u hj
 match j,hj with
 | 0,hj=>simp at hj;subst hj;simp [Addr.add]
theorem one1 (x:Int):∀ u∈[Value.int .i64 x],u.oneCell'=true:=by intro u hu;simp at hu;subst hu;rfl
theorem DoS.flat_cells {w:World} {b o:Nat} {l:List M.D} (h:Row w b o l):∀ (j:Nat) (u:Value),(flat l)[j]?=some u→w.cell? ((⟨b,o,none⟩:Addr).add j)=some u:=by
 intro j u hj
 have hjl:=(List.getElem?_eq_some_iff.1 hj).1
 rw [flat_length] at hjl
 rw [Go.WideShapes.add_plain]
 have hi:j / 3 < l.length:=by omega
 obtain ⟨f0,f1,f2⟩:=flat_get l (j / 3) hi
 have hr:=h (j / 3) hi
 have hm:j % 3=0∨j % 3=1∨j % 3=2:=by omega
 rcases hm with hm | hm | hm
 ·have e:j=j / 3 * 3:=by omega
  rw [e,f0] at hj
  rw [← Option.some.inj hj,show o+j=o+j / 3 * 3 from by omega]
  exact hr.k
 ·have e:j=j / 3 * 3+1:=by omega
  rw [e,f1] at hj
  rw [← Option.some.inj hj,show o+j=o+j / 3 * 3+1 from by omega]
  exact hr.p
 ·have e:j=j / 3 * 3+2:=by omega
  rw [e,f2] at hj
  rw [← Option.some.inj hj,show o+j=o+j / 3 * 3+2 from by omega]
  exact hr.v
theorem flat_one' (l:List M.D):∀ y∈flat l,y.oneCell'=true:=by
 induction l with
 | nil=>intro y hy;cases hy
 | cons d l ih =>
  intro y hy
  simp only [flat,List.mem_cons] at hy
  rcases hy with rfl | rfl | rfl | hy
  ·rfl
  ·rfl
  ·rfl
  ·exact ih y hy
end
section
open Go.RowKit
theorem Slot1.bl' {w w':World} {b:Nat} {x:Value} (h:Slot1 w b x) (hb:Below w.heap.size w w'):Slot1 w' b x :=
 ⟨(hb.cell (p:=⟨b,0,none⟩) h.lt).trans h.c,(hb.frozen (p:=⟨b,0,none⟩) h.lt).trans h.fz⟩
end
section
open Go.RowKit
theorem step_goV {P:Program} {ops:Array Oper} {o:Oper} {a:Act} {w:World} {K:Act→World→Prop} {Q:Exit→Act→World→Prop} {E:Prop}
  (hw:Region.wanted o (yielded ops a.tmps)=true) (d:Option Tmp) (hd:o.dst=d) (f:FuncId) (os:Array Operand) (ts:Array TypeId) (hop:o.op=Op.call { callee:=Callee.value (Operand.func f),args:=os,argTypes:=ts })
  (vals:Array Value) (hv:os.map a.eval=vals) (he:∀ args w,(callFunc f args).run P w=.ok (.enter f args) w) {R:Ending→World→Prop} (hc:Calls P f vals w R)
  (hK:∀ e w',R e w'→∃ v,e=.returned v∧K (a.put d v) w') :
  if Region.wanted o (yielded ops a.tmps)=true then Oper.wp P o a w K Q else E:=by
 subst hd
 rw [if_pos hw]
 subst hv
 have hr:(execOp a.eval o).run P w=.ok (.enter f (os.map a.eval)) w:=by
  simp [execOp,hop,resolve,invoke,Act.eval,Deferred.ofValue,he]
 unfold Oper.wp
 rw [hr,Oper.upon_enter]
 refine hc.mono fun e w' h=>?_
 obtain ⟨v,rfl,hk⟩:=hK e w' h
 exact hk
theorem sg {P:Program} {ops:Array Oper} {o:Oper} {a:Act} {w:World} {K:Act→World→Prop} {Q:Exit→Act→World→Prop} {E:Prop}
    (t:Nat) (hd:o.dst=some t) (f:FuncId) (os:Array Operand) {ts:Array TypeId} (hop:o.op=Op.call { callee:=Callee.value (Operand.func f),args:=os,argTypes:=ts })
    (vals:Array Value) (he:∀ args w,(callFunc f args).run P w=.ok (.enter f args) w) {R:Ending→World→Prop} (hc:Calls P f vals w R)
    (hK:∀ e w',R e w'→∃ v,e=.returned v∧K (a.put (some t) v) w') (hw:Region.wanted o (yielded ops a.tmps)=true:=by rfl) (hv:os.map a.eval=vals:=by simp [Act.eval]) :
    if Region.wanted o (yielded ops a.tmps)=true then Oper.wp P o a w K Q else E:=step_goV hw (some t) hd f os ts hop vals hv he hc hK
theorem run_append_nilT {P:Program} (w:World) (t ty e:TypeId) (i:TypeInfo) (ht:P.underlying t=some (.slice e)) (hi:P.info? e=some i) (a:Option Addr) (c:Nat) :
  (Builtin.append_ #[t,t] ty #[.slice none 0 0,.slice a 0 c]).run P w=.ok (.slice none 0 0) w:=by
 cases a
 ·simp [Builtin.append_,run_underlying ht,sizeOf,typeInfo,hi,Builtin.lenOf,Builtin.firstCells]
 ·simp [Builtin.append_,run_underlying ht,sizeOf,typeInfo,hi,Builtin.lenOf,Builtin.firstCells,loadCells,loadCellsFrom]
theorem wpList_append_nilT {P:Program} {w:World} {ops:Array Oper} {rest:List Oper} {o:Oper} {a:Act} {Q:Exit→Act→World→Prop} (hgd:o.guard=none) (s x:Operand) (t:TypeId)
  (ho:o.op=.call { callee:=.builtin .append,args:=#[s,x],argTypes:=#[t,t] }) (e:TypeId) (i:TypeInfo) (ht:P.underlying t=some (.slice e)) (hi:P.info? e=some i)
  (hs:a.eval s=.slice none 0 0) (b:Option Addr) (c:Nat) (hx:a.eval x=.slice b 0 c)
  (h:wpList P ops Q rest (a.put o.dst (.slice none 0 0)) w):wpList P ops Q (o::rest) a w:=by
 refine wpList_plain hgd fun K hK=>?_
 have hrun:=run_append_nilT (P:=P) w t o.type e i ht hi b c
 unfold Oper.wp
 simp [execOp,ho,resolve,invoke,builtin,hs,hx,hrun,Result.andThen]
 exact hK _ _ h
theorem own_slx {w:World} {B:Nat} {e:TypeId} {size:Nat} {v:Value} {n:Nat} {xs:List Value} (h:w.ownsRow B e size v n xs):∃ a c,v=.slice a n c:=by
 rcases h.2 with ⟨hv,h0⟩ | ⟨g,cap,cur,hv,_⟩
 ·exact ⟨none,0,by rw [hv,h0]⟩
 ·exact ⟨_,cap,hv⟩
end
section
namespace M
def bel (n:Nat):List Int:=(List.range n).map fun i:Nat=>(i:Int)
theorem bel_len (n:Nat):(bel n).length=n:=by simp [bel]
theorem bel_succ (n:Nat):bel (n+1)=bel n++[(n:Int)]:=by simp [bel,List.range_succ]
theorem bel_mem {n:Nat} {x:Int}:x∈bel n↔0≤x∧x < n:=by
 simp only [bel,List.mem_map,List.mem_range]
 constructor
 ·rintro ⟨a,ha,rfl⟩;omega
 ·rintro ⟨h1,h2⟩;exact ⟨x.toNat,by omega,by omega⟩
theorem bel_nodup (n:Nat):(bel n).Nodup:=by
 induction n with
 | zero=>simp [bel]
 | succ n ih =>
  rw [bel_succ,List.nodup_append]
  refine ⟨ih,by simp,fun x hx y hy=>?_⟩
  have:=(bel_mem.1 hx).2
  simp at hy
  omega
def rowOf (row evs:List Int):Bool:=decide (row.length=evs.length)&&evs.all (fun v=>has row v)
theorem rowOf_short {row evs:List Int} (h:¬ row.length=evs.length):rowOf row evs=false:=by simp [rowOf,h]
theorem rowOf_same {row evs:List Int} (h:row.length=evs.length):rowOf row evs=evs.all (fun v=>has row v):=by simp [rowOf,h]
theorem rowAll_step {row evs:List Int} {n:Nat} (h:evs.all (fun v=>has row v)=(evs.drop n).all (fun v=>has row v)) (hn:n < evs.length):evs.all (fun v=>has row v)=(has row evs[n]&&(evs.drop (n+1)).all (fun v=>has row v)):=by
 rw [h,← List.getElem_cons_drop hn,List.all_cons]
def rowN (row:List Int) (n:Nat):Bool:=rowOf row (bel n)
theorem nodupI_le:∀ {l m:List Int},l.Nodup→(∀ x∈l,x∈m)→l.length≤m.length:=by
 intro l
 induction l with
 | nil=>intro m _ _;simp
 | cons x l ih =>
  intro m hn hs
  rw [List.nodup_cons] at hn
  have hx:=hs x (by simp)
  have h1:=ih (m:=m.erase x) hn.2 (fun y hy=>by
   have hne:y≠x:=fun e=>hn.1 (by rw [← e];exact hy)
   exact (List.mem_erase_of_ne hne).2 (hs y (List.mem_cons_of_mem _ hy)))
  have h2:=List.length_erase_of_mem hx
  have h3:0 < m.length:=List.length_pos_of_mem hx
  simp only [List.length_cons]
  omega
theorem nodupI_all {l m:List Int} (hn:l.Nodup) (hs:∀ x∈l,x∈m) (hlen:m.length=l.length):∀ y∈m,y∈l:=by
 intro y hy
 apply Classical.byContradiction
 intro hc
 have h1:=nodupI_le (l:=y::l) (m:=m) (List.nodup_cons.2 ⟨hc,hn⟩) (fun x hx=>by
  rcases List.mem_cons.1 hx with rfl | hx
  ·exact hy
  ·exact hs x hx)
 simp only [List.length_cons] at h1
 omega
theorem rowN_len {row:List Int} {n:Nat} (h:rowN row n=true):row.length=n:=by
 simp only [rowN,rowOf,Bool.and_eq_true,decide_eq_true_eq,bel_len] at h;exact h.1
theorem rowN_all {row:List Int} {n:Nat} (h:rowN row n=true):∀ x∈bel n,x∈row:=by
 simp only [rowN,rowOf,Bool.and_eq_true,List.all_eq_true,has,List.contains_eq_mem,decide_eq_true_eq] at h;exact h.2
theorem rowN_mem {row:List Int} {n:Nat} (h:rowN row n=true):∀ x∈row,0≤x∧x < n:=fun x hx =>
 bel_mem.1 (nodupI_all (bel_nodup n) (rowN_all h) (by rw [rowN_len h,bel_len]) x hx)
theorem rowN_get {row:List Int} {n:Nat} (h:rowN row n=true) (i:Nat) (hi:i < row.length):0≤row[i]∧row[i] < n:=rowN_mem h _ (List.getElem_mem hi)
def pick {α:Type} (z:α) (row:List Int) (l:List α):List α:=row.map fun i=>l.getD i.toNat z
theorem pick_len {α:Type} (z:α) (row:List Int) (l:List α):(pick z row l).length=row.length:=by simp [pick]
theorem pick_take {α:Type} (z:α) (row:List Int) (l:List α) (n:Nat) (h:n < row.length):pick z (row.take (n+1)) l=pick z (row.take n) l++[l.getD row[n].toNat z]:=by
 rw [List.take_succ_eq_append_getElem h];unfold pick;rw [List.map_append];rfl
theorem getD_get {α:Type} {z:α} {l:List α} {i:Nat} (h:i < l.length):l.getD i z=l[i]:=by
 rw [List.getD_eq_getElem?_getD,List.getElem?_eq_getElem h];rfl
theorem pick_mem {α:Type} {z:α} {row:List Int} {l:List α} {t:α} (h:t∈pick z row l):t∈l∨t=z:=by
 simp only [pick,List.mem_map] at h
 obtain ⟨i,_,rfl⟩:=h
 by_cases hi:i.toNat < l.length
 ·rw [getD_get hi];exact Or.inl (List.getElem_mem hi)
 ·right;rw [List.getD_eq_getElem?_getD,List.getElem?_eq_none (by omega)];rfl
def turnThreads (ll:List (List D)) (row:List Int):Option (List (List D)):=if prog ll&&rowN row ll.length then some (pick [] row ll) else none
theorem turnThreads_bad {ll:List (List D)} {row:List Int} (h:prog ll=false):turnThreads ll row=none:=by simp [turnThreads,h]
theorem turnThreads_row {ll:List (List D)} {row:List Int} (h:rowN row ll.length=false):turnThreads ll row=none:=by simp [turnThreads,h]
theorem turnThreads_yes {ll:List (List D)} {row:List Int} (h:prog ll=true) (h2:rowN row ll.length=true):turnThreads ll row=some (pick [] row ll):=by simp [turnThreads,h,h2]
theorem turnThreads_some {ll mm:List (List D)} {row:List Int} (h:turnThreads ll row=some mm):prog ll=true∧rowN row ll.length=true∧mm=pick [] row ll:=by
 unfold turnThreads at h
 split at h
 ·rename_i hc
  simp only [Bool.and_eq_true] at hc
  exact ⟨hc.1,hc.2,(Option.some.inj h).symm⟩
 ·cases h
theorem turnThreads_small {ll mm:List (List D)} {row:List Int} (e:(turnThreads ll row).getD []=mm):mm.length≤3∧∀ t∈mm,t.length≤7:=by
 cases h:turnThreads ll row with
 | none=>rw [h] at e;subst e;simp
 | some x =>
  rw [h] at e
  obtain rfl:x=mm:=e
  obtain ⟨h1,h2,rfl⟩:=turnThreads_some h
  obtain ⟨h3,h7⟩:=prog_le h1
  refine ⟨by rw [pick_len,rowN_len h2];exact h3,fun t ht=>?_⟩
  rcases pick_mem ht with ht | rfl
  ·exact h7 t ht
  ·simp
end M
end
section
open Go.RowKit
set_option maxHeartbeats 1000000 in
set_option maxRecDepth 100000 in
theorem numbersBelow_any (n:Nat) (w:World) (hn:n≤1000) :
  Calls Tryz.prog 131 #[.int .i64 n] w fun e w'=>∃ v,e=.returned v∧w'.ownsRow w.heap.size 3 1 v (M.bel n).length (nums (M.bel n))∧Below w.heap.size w w':=by
 obtain ⟨i0,hi,hz0,hz1,hz2⟩:=info_parts Tryz.infoInt
 go_enter Tryz.func131,Tryz.ntmps131
 go_wp2_with fail
 go_loopw [3,6] (fun s3 s6 wr=>∃ k:Nat,s6=.int .i64 k∧k≤n∧wr.ownsRow w.heap.size 3 1 s3 (M.bel k).length (nums (M.bel k))∧Below w.heap.size w wr) (fun _ s6 _=>n - (intOf s6).toNat)
 case atStart=>exact ⟨0,rfl,Nat.zero_le _,World.ownsRow_nil _ _ _ _,Below.refl _ _⟩
 case round =>
  obtain ⟨k,rfl,hk,hown,hbel⟩:=hrel
  by_cases hkn:k < n
  ·have hkn':(k:Int) < n:=by omega
   have HB:Hid (M.bel (k+1)=M.bel k++[(k:Int)]):=M.bel_succ k
   have hbl:=M.bel_len k
   have hbs:=hbel.size
   generalize M.bel k=l at *
   have hl:l.length≤1000:=by omega
   clear hbl
   go_wp2_with (at_builtin;refine wpList_append_own _ rfl (.tmp 9) (.tmp 11) 26 rfl _ 3 i0 _ 1 8 Tryz.underlying26 hi hz0 hz1 hz2 rfl (by decide) _ _ _ rfl (hown.alloc _) ⟨wr.heap.size,0,none⟩ 1 1 [.int .i64 k] rfl rfl (cells_new1 _ _ _ _ (by simp)) (one1 _) (by unfold maxLen;omega) (by omega) (by simp;omega) ?_)
   intro v3 w3 hown3 hg3 _
   have hb3:Below _ _ w3:=below_grown (hbel.trans ((below1 wr _).mono hbel.size)) hg3 (own_ge hown) (by simp;omega)
   have hown4:w3.ownsRow w.heap.size 3 1 v3 (M.bel (k+1)).length (nums (M.bel (k+1))):=by rw [HB.out,nums_snoc,List.length_append];exact hown3
   clear hown3 hg3 hown
   go_wp2_with fail
   exact ⟨⟨k+1,by go_num,by omega,hown4,hb3⟩,by simp [intOf];omega⟩
  ·obtain rfl:k=n:=by omega
   have hkn':¬ (k:Int) < k:=by omega
   go_wp2_with fail
   go_ret
   exact ⟨_,rfl,hown,hbel⟩
set_option maxHeartbeats 400000 in
set_option maxRecDepth 100000 in
theorem rowOf_any (a:Option Addr) (b o c:Nat) (row:List Int) (a2:Option Addr) (b2 o2 c2:Nat) (evs:List Int) (w:World) (hl:row.length≤1048576) (hl2:evs.length≤1048576) (h:IntS w a b o row) (h2:IntS w a2 b2 o2 evs) :
  Calls Tryz.prog 130 #[.slice a row.length c,.slice a2 evs.length c2] w fun e w'=>e=.returned (.bool (M.rowOf row evs))∧w'=w:=by
 by_cases hln:row.length=evs.length
 ·have HF:Hid (M.rowOf row evs=evs.all (fun v=>M.has row v)):=M.rowOf_same hln
  have hq:((row.length:Int) != evs.length)=false:=by simp;omega
  have HL:Hid (row.length=evs.length):=hln
  clear hln
  go_enter Tryz.func130,Tryz.ntmps130
  go_wp2_with fail
  go_loopw [14] (fun s14 wr=>∃ n:Nat,s14=.int .i64 n∧n≤evs.length∧Hid (evs.all (fun v=>M.has row v)=(evs.drop n).all (fun v=>M.has row v))∧wr=w) (fun s14 _=>evs.length - (intOf s14).toNat)
  case atStart=>exact ⟨0,rfl,Nat.zero_le _,by show _=_;rfl,rfl⟩
  case round =>
   obtain ⟨n,rfl,hn,HA,rfl⟩:=hrel
   by_cases hlt:n < evs.length
   ·obtain ⟨rfl⟩:=h2.addr (by omega)
    have hx:=h2.row n hlt
    have HS:Hid (evs.all (fun v=>M.has row v)=(M.has row evs[n]&&(evs.drop (n+1)).all (fun v=>M.has row v))):=M.rowAll_step HA.out hlt
    clear HA
    generalize evs[n]=y at *
    have i1:(n:Int) < evs.length:=by omega
    cases hh:M.has row y
    ·go_wp2_with (go_at_call 179;refine (containsI_any a b o c row y _ hl h).mono ?_;rw [hh];rintro e w' ⟨rfl,rfl⟩)
     go_ret
     exact ⟨ret_bool (by rw [HF.out,HS.out,hh];rfl),rfl⟩
    ·go_wp2_with (go_at_call 179;refine (containsI_any a b o c row y _ hl h).mono ?_;rw [hh];rintro e w' ⟨rfl,rfl⟩)
     exact ⟨⟨n+1,by go_num,by omega,by show _=_;rw [HS.out,hh];rfl,trivial⟩,by simp [intOf];omega⟩
   ·go_wp2_with fail
    go_ret
    exact ⟨ret_bool (by rw [HF.out,HA.out,List.drop_eq_nil_of_le (by omega)];rfl),rfl⟩
 ·have hln':((row.length:Int)==evs.length)=false:=by simp;omega
  go_enter Tryz.func130,Tryz.ntmps130
  go_wp2_with fail
  go_ret
  exact ⟨ret_bool (M.rowOf_short hln).symm,rfl⟩
end
section
open Go.RowKit
def M.turned {α:Type} (z:α) (row:List Int) (l:List α):List α:=if M.rowN row l.length then M.pick z row l else []
theorem M.turned_no {α:Type} {z:α} {row:List Int} {l:List α} (h:M.rowN row l.length=false):M.turned z row l=[]:=by simp [M.turned,h]
theorem M.turned_yes {α:Type} {z:α} {row:List Int} {l:List α} (h:M.rowN row l.length=true):M.turned z row l=M.pick z row l:=by simp [M.turned,h]
def Thx (w:World) (vs:List Value) (ll:List (List M.D)):Prop:=vs.length=ll.length∧∀ i (h1:i < ll.length) (h2:i < vs.length),∃ a' b' o' c',vs[i]=.slice a' ll[i].length c'∧DoS w a' b' o' ll[i]
theorem Thx.nil (w:World):Thx w [] []:=⟨rfl,fun _ h=>absurd h (Nat.not_lt_zero _)⟩
theorem Thx.below {w w':World} {vs:List Value} {ll:List (List M.D)} {B:Nat} (h:Thx w vs ll) (hb:Below B w w') (hB:w.heap.size≤B):Thx w' vs ll :=
 ⟨h.1,fun i h1 h2=>by obtain ⟨a',b',o',c',e,hd⟩:=h.2 i h1 h2;exact ⟨a',b',o',c',e,hd.below hb hB⟩⟩
theorem Thx.snoc {w:World} {vs:List Value} {ll:List (List M.D)} {a:Option Addr} {b o c:Nat} {l:List M.D} (h:Thx w vs ll) (hd:DoS w a b o l):Thx w (vs++[.slice a l.length c]) (ll++[l]):=by
 have hl:=h.1
 refine ⟨by simp [hl],fun i h1 h2=>?_⟩
 by_cases hi:i < ll.length
 ·rw [List.getElem_append_left (by omega),List.getElem_append_left hi]
  exact h.2 i hi (by omega)
 ·have:i=ll.length:=by simp at h1;omega
  subst this
  have e1:(ll++[l])[ll.length]=l:=by simp
  have e2:(vs++[Value.slice a l.length c])[ll.length]=.slice a l.length c:=by
   rw [List.getElem_append_right (by omega)]
   simp [hl]
  rw [e1,e2]
  exact ⟨a,b,o,c,rfl,hd⟩
theorem Thx.ss {w:World} {B:Nat} {v:Value} {vs:List Value} {ll:List (List M.D)} (h:Thx w vs ll) (ho:w.ownsRow B 97 1 v ll.length vs):∃ a g c,v=.slice a ll.length c∧DoSS w a g 0 ll:=by
 have hl:=h.1
 rcases ho.2 with ⟨hv,hn⟩ | ⟨g,cap,cur,hv,hg,hh,r⟩
 ·have:ll=[]:=List.length_eq_zero_iff.1 hn
  subst this
  exact ⟨none,0,0,hv,⟨fun h=>absurd h (Nat.lt_irrefl _),fun i hi=>absurd hi (Nat.not_lt_zero _)⟩⟩
 ·refine ⟨_,g,cap,hv,⟨fun _=>rfl,fun i hi=>?_⟩⟩
  have hc:=ho.cells (g:=g) (by rw [hv];rfl) i vs[i] (List.getElem?_eq_getElem (by omega))
  rw [Go.WideShapes.add_plain] at hc
  obtain ⟨a',b',o',c',e,hd⟩:=h.2 i hi (by omega)
  rw [e] at hc
  exact ⟨a',b',o',c',hc,hd⟩
theorem Tryz.infoTh:(Tryz.prog.info? 97).map (fun i=>(i.zero,i.size,i.bytes))=some (some (.slice none 0 0),1,24):=by kernel_rfl
set_option maxHeartbeats 1000000 in
set_option maxRecDepth 100000 in
theorem turnT_any (a:Option Addr) (b o c:Nat) (row:List Int) (a2:Option Addr) (b2 o2 c2:Nat) (ll:List (List M.D)) (w:World) (hl:row.length≤1048576) (hl2:ll.length≤1000) (h:IntS w a b o row) (h2:DoSS w a2 b2 o2 ll) :
  Calls Tryz.prog 68 #[.slice a row.length c,.slice a2 ll.length c2] w fun e w'=>∃ v,e=.returned (.tuple #[v,.bool (M.rowN row ll.length)])∧(∃ a',(∃ c',v=.slice a' (M.turned [] row ll).length c')∧∃ g',DoSS w' a' g' 0 (M.turned [] row ll))∧Below w.heap.size w w':=by
 obtain ⟨i0,hi,hz0,hz1,hz2⟩:=info_parts Tryz.infoTh
 go_enter Tryz.func68,Tryz.ntmps68
 go_wp2_with fail
 refine (numbersBelow_any ll.length w hl2).mono ?_
 rintro e w1 ⟨v1,rfl,hown1,b1⟩
 obtain ⟨a1,g1,c1,rfl,hI1,_,_⟩:=own_nums hown1
 have hbl:(M.bel ll.length).length≤1048576:=by rw [M.bel_len];omega
 have CR:=rowOf_any a b o c row a1 g1 0 c1 (M.bel ll.length) w1 hl hbl (h.below b1 (Nat.le_refl _)) hI1
 change Calls _ _ _ _ (fun e w'=>e=.returned (.bool (M.rowN row ll.length))∧_) at CR
 clear hown1 hI1 hbl
 generalize (M.bel ll.length).length=bl at *
 cases hr:M.rowN row ll.length
 ·rw [hr] at CR
  go_wp2_with (first | (go_at_call 130;refine CR.mono ?_;rintro e w2 ⟨rfl,rfl⟩))
  exact bodyPost_ret (v:=.tuple #[.slice none 0 0,.bool false]) (by simp [results,Tryz.results68,go_sem]) rfl ⟨_,by rw [hr],⟨none,⟨0,by rw [M.turned_no hr,List.length_nil]⟩,0,by rw [M.turned_no hr];exact ⟨fun h=>absurd h (Nat.lt_irrefl _),fun i hi=>absurd hi (Nat.not_lt_zero _)⟩⟩,b1⟩
 ·rw [hr] at CR
  have HR:Hid (M.rowN row ll.length=true):=hr
  clear hr
  go_wp2_with (first | (go_at_call 130;refine CR.mono ?_;rintro e w2 ⟨rfl,rfl⟩))
  go_loopw [6,17] (fun s6 s17 wr=>∃ (k:Nat) (vs:List Value),s17=.int .i64 k∧k≤row.length∧wr.ownsRow w.heap.size 97 1 s6 (M.pick [] (row.take k) ll).length vs∧Thx w vs (M.pick [] (row.take k) ll)∧Below w.heap.size w wr) (fun _ s17 _=>row.length - (intOf s17).toNat)
  case atStart=>exact ⟨0,[],rfl,Nat.zero_le _,World.ownsRow_nil _ _ _ _,Thx.nil _,b1⟩
  case round =>
   obtain ⟨k,vs,rfl,hk,hown,hT,hbel⟩:=hrel
   by_cases hkn:k < row.length
   ·have hkn':(k:Int) < row.length:=by omega
    obtain ⟨rfl⟩:=h.addr (by omega)
    have x1:=(h.below hbel (Nat.le_refl _)).row k hkn
    have HB:Hid (M.pick [] (row.take (k+1)) ll=M.pick [] (row.take k) ll++[ll.getD row[k].toNat []]):=M.pick_take [] row ll k hkn
    obtain ⟨r0,r1⟩:=M.rowN_get HR.out k hkn
    obtain ⟨rfl⟩:=h2.addr (by omega)
    generalize row[k]=y at *
    obtain ⟨j,rfl⟩:∃ j:Nat,y=j:=⟨y.toNat,by omega⟩
    have hj:j < ll.length:=by omega
    obtain ⟨a',b',o',c',hc,hd⟩:=h2.row j hj
    have x2:=(hbel.cell (p:=⟨b2,o2+j,none⟩) (World.block_lt_of_cell? _ _ hc)).trans hc
    have HB2:Hid (M.pick [] (row.take (k+1)) ll=M.pick [] (row.take k) ll++[ll[j]]):=by show _=_;rw [HB.out];congr 2;exact M.getD_get hj
    clear HB hc
    have hpl:(M.pick [] (row.take k) ll).length≤1048576:=by rw [M.pick_len];simp;omega
    have hbs:=hbel.size
    generalize ll[j]=z at *
    generalize M.pick [] (row.take k) ll=m at *
    go_wp2_with (at_builtin;refine wpList_append_own _ rfl (.tmp 21) (.tmp 26) 23 rfl _ 97 i0 _ 1 24 Tryz.underlying23 hi hz0 hz1 hz2 rfl (by decide) _ _ _ rfl (hown.alloc _) ⟨wr.heap.size,0,none⟩ 1 1 [.slice a' z.length c'] rfl rfl (cells_new1 _ _ _ _ (by simp)) (by simp [Value.oneCell']) (by unfold maxLen;omega) (by omega) (by simp;omega) ?_)
    intro v3 w3 hown3 hg3 _
    have hb3:Below _ _ w3:=below_grown (hbel.trans ((below1 wr _).mono hbel.size)) hg3 (own_ge hown) (by simp;omega)
    have hown4:w3.ownsRow w.heap.size 97 1 v3 (M.pick [] (row.take (k+1)) ll).length (vs++[.slice a' z.length c']):=by rw [HB2.out,List.length_append];exact hown3
    have hT4:Thx w (vs++[.slice a' z.length c']) (M.pick [] (row.take (k+1)) ll):=by rw [HB2.out];exact hT.snoc hd
    clear hown3 hg3 hown
    go_wp2_with fail
    exact ⟨⟨k+1,_,by go_num,by omega,hown4,hT4,hb3⟩,by simp [intOf];omega⟩
   ·have htk:row.take k=row:=List.take_of_length_le (by omega)
    rw [htk] at hown hT
    have hkn':¬ (k:Int) < row.length:=by omega
    obtain ⟨a',g',c',rfl,hs⟩:=(hT.below hbel (Nat.le_refl _)).ss hown
    go_wp2_with fail
    exact bodyPost_ret (v:=.tuple #[.slice a' (M.pick [] row ll).length c',.bool true]) (by simp [results,Tryz.results68,go_sem]) rfl ⟨_,by rw [HR.out],⟨a',⟨c',by rw [M.turned_yes HR.out]⟩,g',by rw [M.turned_yes HR.out];exact hs⟩,hbel⟩
end
section
namespace M
def backUpto (row:List Int):Nat→List Int
 | 0=>List.replicate row.length 0
 | k+1=>(backUpto row k).set (row.getD k 0).toNat k
def back (row:List Int):List Int:=backUpto row row.length
theorem three_of {x:Int} (h:0≤x∧x < 3):x=0∨x=1∨x=2:=by omega
theorem row0 {row:List Int} (h:rowN row 0=true):row=[]:=List.length_eq_zero_iff.1 (rowN_len h)
theorem row1 {row:List Int} (h:rowN row 1=true):row=[0]:=by
 match row,rowN_len h,rowN_mem h with
 | [x],_,hm=>have:=hm x (by simp);congr 1;omega
theorem row2 {row:List Int} (h:rowN row 2=true):row=[0,1]∨row=[1,0]:=by
 match row,rowN_len h,rowN_mem h,h with
 | [x,y],_,hm,h =>
  have hx:=hm x (by simp)
  have hy:=hm y (by simp)
  have hx:x=0∨x=1:=by omega
  have hy:y=0∨y=1:=by omega
  clear hm
  rcases hx with rfl | rfl<;>rcases hy with rfl | rfl<;>first | (exact absurd h (by decide)) | simp
theorem row3 {row:List Int} (h:rowN row 3=true):row=[0,1,2]∨row=[0,2,1]∨row=[1,0,2]∨row=[1,2,0]∨row=[2,0,1]∨row=[2,1,0]:=by
 match row,rowN_len h,rowN_mem h,h with
 | [x,y,z],_,hm,h =>
  have hx:=three_of (hm x (by simp))
  have hy:=three_of (hm y (by simp))
  have hz:=three_of (hm z (by simp))
  clear hm
  rcases hx with rfl | rfl | rfl<;>rcases hy with rfl | rfl | rfl<;>rcases hz with rfl | rfl | rfl<;>first | (exact absurd h (by decide)) | simp
def stp:List (List D)→Nat
 | []=>0
 | t::l=>t.length+stp l
theorem from_iff (l:List (List D)):∀ a u:Nat,progFrom a u l=true↔(∀ t∈l,thread t=true)∧a+stp l≤14∧u+tot uses l≤6:=by
 induction l with
 | nil=>intro a u;simp [progFrom,stp,tot]
 | cons t l ih =>
  intro a u
  by_cases hb:thread t=true
  ·simp only [progFrom,hb,if_true,ih,stp,tot,List.mem_cons,forall_eq_or_imp,true_and]
   constructor
   ·rintro ⟨h1,h2,h3⟩;exact ⟨h1,by omega,by omega⟩
   ·rintro ⟨h1,h2,h3⟩;exact ⟨h1,by omega,by omega⟩
  ·simp [progFrom,hb]
theorem prog_iff (l:List (List D)):prog l=true↔l.length≤3∧(∀ t∈l,thread t=true)∧stp l≤14∧tot uses l≤6:=by
 simp only [prog,Bool.and_eq_true,decide_eq_true_eq,from_iff,Nat.zero_add]
theorem threads_back {ll:List (List D)} {row:List Int} (h:prog ll=true) (hr:rowN row ll.length=true) :
  prog (pick [] row ll)=true∧tot reads (pick [] row ll)=tot reads ll∧rowN (back row) (pick [] row ll).length=true∧pick [] (back row) (pick [] row ll)=ll:=by
 have h3:=(prog_le h).1
 rw [prog_iff] at h ⊢
 obtain ⟨_,h1,h2,h4⟩:=h
 match ll,h3,hr with
 | [],_,hr=>obtain rfl:=row0 hr;exact ⟨by simp [pick,stp,tot],rfl,rfl,rfl⟩
 | [a],_,hr =>
  obtain rfl:=row1 hr
  exact ⟨⟨by simp [pick],by simpa [pick] using h1,by simpa [pick] using h2,by simpa [pick] using h4⟩,rfl,by rw [pick_len];decide,rfl⟩
 | [a,b],_,hr =>
  simp only [List.mem_cons,List.not_mem_nil,or_false,forall_eq_or_imp,forall_eq] at h1
  simp only [stp,tot] at h2 h4
  rcases row2 hr with rfl | rfl<;>refine ⟨⟨by simp [pick],by simp [pick,h1],by simp [pick,stp];omega,by simp [pick,tot];omega⟩,by simp [pick,tot];try omega,by rw [pick_len];decide,rfl⟩
 | [a,b,c],_,hr =>
  simp only [List.mem_cons,List.not_mem_nil,or_false,forall_eq_or_imp,forall_eq] at h1
  simp only [stp,tot] at h2 h4
  rcases row3 hr with rfl | rfl | rfl | rfl | rfl | rfl<;>refine ⟨⟨by simp [pick],by simp [pick,h1],by simp [pick,stp];omega,by simp [pick,tot];omega⟩,by simp [pick,tot];try omega,by rw [pick_len];decide,rfl⟩
end M
end
section
open Go.RowKit
set_option maxHeartbeats 1000000 in
theorem newListD_any (a:Option Addr) (b o c:Nat) (l:List M.D) (w:World) (hl:l.length≤1048576) (h:DoS w a b o l) :
  Calls Tryz.prog 132 #[.slice a l.length c] w fun e w'=>∃ v,e=.returned v∧w'.ownsRow w.heap.size 94 3 v l.length (flat l)∧Below w.heap.size w w':=by
 obtain ⟨i0,hi,hz0,hz1,hz2⟩:=info_parts Tryz.info94
 rcases Nat.eq_zero_or_pos l.length with h0 | hpos
 ·have hl0:l=[]:=List.length_eq_zero_iff.1 h0
  subst hl0
  rw [List.length_nil]
  go_enter Tryz.func132,Tryz.ntmps132
  go_wp2_with (at_builtin;refine wpList_append_nilT rfl (.const (.slice none 0 0)) (.tmp 3) 97 rfl 94 i0 Tryz.underlying97 hi rfl a c rfl ?_)
  go_wp2_with fail
  go_ret
  exact ⟨_,rfl,World.ownsRow_nil _ _ _ _,Below.refl _ _⟩
 ·obtain ⟨rfl⟩:=h.addr hpos
  go_enter Tryz.func132,Tryz.ntmps132
  go_wp2_with (at_builtin;refine wpList_append_lies _ rfl (.const (.slice none 0 0)) (.tmp 3) 97 rfl w.heap.size 94 i0 _ 3 24 Tryz.underlying97 hi hz0 hz1 hz2 rfl (by decide) _ 0 [] rfl (World.ownsRow_nil _ _ _ _) ⟨b,o,none⟩ l.length c (flat l) rfl (flat_length l) (DoS.flat_cells h.row) (flat_one' l) hpos (by unfold maxLen;omega) (by omega) (Nat.le_refl _) w.heap.size rfl ?_)
  intro g cap w1 hown hg hat hlt
  have hb:Below w.heap.size w w1:=⟨hg.os,hg.tape,hg.output,hg.size,fun k hk=>hg.block k hk (fun e=>by simp [Value.ownBlock] at e)⟩
  have hown':w1.ownsRow w.heap.size 94 3 (.slice (some ⟨g,0,none⟩) l.length cap) l.length (flat l):=by simpa using hown
  go_wp2_with fail
  go_ret
  exact ⟨_,by first | rfl | simp,hown',hb⟩
set_option maxHeartbeats 4000000 in
set_option maxRecDepth 100000 in
set_option linter.unusedSimpArgs false in
theorem copyProg_any (a:Option Addr) (b o c:Nat) (ll:List (List M.D)) (w:World) (hl:ll.length≤1048576) (hls:∀ t∈ll,t.length≤1048576) (h:DoSS w a b o ll) :
  Calls Tryz.prog 69 #[.agg #[.slice a ll.length c]] w fun e w'=>∃ v,e=.returned (.agg #[v])∧(∃ vs,Rdg w' w.heap.size v ll vs)∧Below w.heap.size w w':=by
 obtain ⟨i0,hi,hz0,hz1,hz2⟩:=info_parts Tryz.info97
 go_enter Tryz.func69,Tryz.ntmps69
 go_wp2_with fail
 go_loopw [9] (fun s9 wr=>∃ (n:Nat) (v:Value) (vs:List Value),s9=.int .i64 n∧n≤ll.length∧Rdg wr (w.heap.size+3) v (ll.take n) vs∧Slot1 wr (w.heap.size+1+1) v∧Slot1 wr (w.heap.size+1) (.slice none 0 0)∧Below w.heap.size w wr) (fun s9 _=>ll.length - (intOf s9).toNat)
 case atStart =>
  refine ⟨0,.slice none 0 0,[],rfl,Nat.zero_le _,by simpa using Rdg.nil _ _,?_,?_,below3 _ _ _ _⟩
  ·have:=Slot1.new ((w.alloc (.cells #[.slice a ll.length c] 25)).alloc (.cells #[.slice none 0 0] 25)) (.slice none 0 0) 25
   rwa [World.size_alloc,World.size_alloc] at this
  ·have:=(Slot1.new (w.alloc (.cells #[.slice a ll.length c] 25)) (.slice none 0 0) 25).bl' (below1 _ (.cells #[.slice none 0 0] 25))
   rwa [World.size_alloc] at this
 case round =>
  obtain ⟨n,v,vs,rfl,hn,hR,hP,hQ,hbel⟩:=hrel
  by_cases hlt:n < ll.length
  ·obtain ⟨rfl⟩:=h.addr (by omega)
   obtain ⟨a',b',o',c',hc,hd⟩:=(h.below hbel (Nat.le_refl _)).row n hlt
   have ht:=hls _ (List.getElem_mem hlt)
   have HW:Hid (ll.take (n+1)=ll.take n++[ll[n]]):=List.take_succ_eq_append_getElem hlt
   have hmm:(ll.take n).length≤1048576:=by simp;omega
   generalize ll[n]=t at *
   generalize ll.take n=mm at *
   have i1:(n:Int) < ll.length:=by omega
   obtain ⟨av,gv,cv,rfl,_⟩:=hR.b.ss
   have x0:=hP.c
   have lP:=hP.lt
   have F4:Hid (∀ (w4:World) (v4:Value),w4.ownsRow wr.heap.size 94 3 v4 t.length (flat t)→Below wr.heap.size wr.drew w4→∃ a4 c4,v4=.slice a4 t.length c4∧Below wr.heap.size wr w4∧Slot1 w4 (w.heap.size+1+1) (.slice av mm.length cv)∧Rdg w4 (w.heap.size+3) (.slice av mm.length cv) mm vs):=by
    intro w4 v4 ho hb
    obtain ⟨a4,c4,e⟩:=own_slx ho
    have b4:Below wr.heap.size wr w4:=(Below.refl _ _).drew.trans hb
    exact ⟨a4,c4,e,b4,hP.bl' b4,hR.below b4⟩
   have F5:Hid (∀ (w4:World) (a4:Option Addr) (c4:Nat),Below wr.heap.size wr w4→w4.ownsRow wr.heap.size 94 3 (.slice a4 t.length c4) t.length (flat t)→∀ (g5 cap5:Nat) (w5:World),w5.ownsRow (w.heap.size+3) 97 1 (.slice (some ⟨g5,0,none⟩) (mm.length+1) cap5) (mm.length+1) (vs++[.slice a4 t.length c4])→(w4.alloc (.cells #[.slice a4 t.length c4] 97)).grownBy w5 (Value.slice av mm.length cv).ownBlock→Below w.heap.size w w5∧Slot1 w5 (w.heap.size+1+1) (.slice av mm.length cv)∧Slot1 w5 (w.heap.size+1) (.slice none 0 0)∧Rdg w5 (w.heap.size+3) (.slice (some ⟨g5,0,none⟩) (mm.length+1) cap5) (mm++[t]) (vs++[.slice a4 t.length c4])):=by
    intro w4 a4 c4 b4 hx4 g5 cap5 w5 ho hg
    have hal:=below1 w4 (.cells #[.slice a4 t.length c4] 97)
    have hge:=own_ge hR.b.outer
    have b4a:=b4.trans (hal.mono b4.size)
    have bwa:=hbel.trans (b4a.mono hbel.size)
    refine ⟨below_grown bwa hg (fun j hj=>by have:=hge j hj;omega) bwa.size,(hP.bl' b4a).apart hg (fun e=>by have:=hge _ e;omega),(hQ.bl' b4a).apart hg (fun e=>by have:=hge _ e;omega),((hR.below b4).below hal).snocT (ownsRow_mono (ownsRow_below hx4 hal) (by omega)) (fun i hi j hj e=>?_) ho hg⟩
    have h1:=((hR.b.inner i (by have:=hR.b.len;omega) hi).lt j hj).2
    have h2:=own_ge hx4 j e
    omega
   have CN:=newListD_any a' b' o' c' t wr.drew ht (hd.below (Below.refl wr.heap.size wr).drew (Nat.le_refl _))
   go_wp2_with fail
   refine wp_region_held_drew (S:=fun w'=>Below w.heap.size w w') (by kernel_rfl) hbel.drew (fun hH=>?_)
   refine tk 0 13 (.pointer (some ⟨w.heap.size+1+1,0,none⟩)) hH rfl rfl (by intro w' hSw;go_simp) ?_
   simp only [Act.put,zqa,zqb,zqc]
   refine tk 2 15 (.slice a' t.length c') hH rfl rfl (by intro w' hSw;go_simp) ?_
   simp only [Act.put,zqa,zqb,zqc]
   refine wpAnyH_ready (rs:=[1,3]) (by kernel_rfl) (by simp) ?_
   refine AllReadyH.cons rfl (fun K' hK=>?_) (AllReadyH.cons rfl (fun K' hK=>?_) AllReadyH.nil)
   ·have xx:=x0
    rw [if_pos (by rfl)]
    go_simp
    refine hK.out _ _ hH (fun _=>?_)
    clear hK K' xx
    refine ry 3 rfl (fun K' hK=>?_)
    refine sg 16 rfl 132 #[.tmp 15] rfl #[.slice a' t.length c'] (fun _ _=>rfl) CN ?_
    rintro e w4 ⟨v4,rfl,ho4,hb4⟩
    obtain ⟨a4,c4,rfl,b4,hS4,hR4⟩:=F4.out w4 v4 ho4 hb4
    refine ⟨_,rfl,?_⟩
    simp only [Act.put,zqa,zqb,zqc]
    refine hK.out _ _ (hbel.trans (b4.mono hbel.size)) (fun hH4=>?_)
    clear hK K'
    have hS4a:=hS4.bl' (below1 w4 (.cells #[.slice a4 t.length c4] 97))
    have S4a:Below w.heap.size w (w4.alloc (.cells #[.slice a4 t.length c4] 97)):=hH4.alloc hH4.size _
    refine ry 4 rfl (fun K' hK=>?_)
    rw [if_pos (by rfl)]
    go_simp
    refine hK.out _ _ S4a (fun _=>?_)
    clear hK K'
    refine ry 5 rfl (fun K' hK=>?_)
    refine step_append_lies _ (by rfl) (.tmp 14) (.tmp 17) 23 (by rfl) (w.heap.size+3) 97 i0 _ 1 24 Tryz.underlying23 hi hz0 hz1 hz2 rfl (by decide) (.slice av mm.length cv) mm.length vs (by rfl) ((hR4.b.outer).alloc _) ⟨w4.heap.size,0,none⟩ 1 1 [.slice a4 t.length c4] (by rfl) (by rfl) (World.news_of_block (cs:=#[.slice a4 t.length c4]) (t:=97) (fr:=(0,0)) (heap_alloc_new w4 _)) (by simp [Value.oneCell']) (by omega) (by unfold maxLen;omega) (by omega) (by have:=b4.size;simp;omega) (w4.heap.size+1) (by simp) ?_
    intro g5 cap5 w5 hown5 hg5 hat5 hlt5
    obtain ⟨b5,hS5,hQ5,hR5⟩:=F5.out w4 a4 c4 b4 ho4 g5 cap5 w5 hown5 hg5
    simp only [Act.put,zqa,zqb,zqc]
    refine hK.out _ _ b5 (fun hH5=>?_)
    clear hK K'
    refine tk 6 19 (.pointer (some ⟨w.heap.size+1+1,0,none⟩)) hH5 rfl rfl (by intro w' hSw;go_simp) ?_
    simp only [Act.put,zqa,zqb,zqc]
    refine ry 7 rfl (fun K' hK=>?_)
    have xc:=hS5.c
    have xz:=hS5.fz
    rw [if_pos (by rfl)]
    go_simp
    refine hK.out _ _ (b5.setCell (by show w.heap.size≤w.heap.size+1+1;omega) _) (fun _=>?_)
    clear hK K'
    refine wpAnyH_done (by kernel_rfl) ?_ _
    clear xc xz
    go_wp2_with fail
    exact ⟨⟨n+1,_,_,by go_num,by omega,by rw [HW.out];exact hR5.far (by omega) _,hS5.set _,hQ5.far (by omega) _,b5.setCell (by show w.heap.size≤w.heap.size+1+1;omega) _⟩,by simp [intOf];omega⟩
   ·refine sg 16 rfl 132 #[.tmp 15] rfl #[.slice a' t.length c'] (fun _ _=>rfl) CN ?_
    rintro e w4 ⟨v4,rfl,ho4,hb4⟩
    obtain ⟨a4,c4,rfl,b4,hS4,hR4⟩:=F4.out w4 v4 ho4 hb4
    refine ⟨_,rfl,?_⟩
    simp only [Act.put,zqa,zqb,zqc]
    refine hK.out _ _ (hbel.trans (b4.mono hbel.size)) (fun hH4=>?_)
    clear hK K'
    have hS4a:=hS4.bl' (below1 w4 (.cells #[.slice a4 t.length c4] 97))
    have S4a:Below w.heap.size w (w4.alloc (.cells #[.slice a4 t.length c4] 97)):=hH4.alloc hH4.size _
    refine wpAnyH_ready (rs:=[1,4]) (by kernel_rfl) (by simp) ?_
    refine AllReadyH.cons rfl (fun K' hK=>?_) (AllReadyH.cons rfl (fun K' hK=>?_) AllReadyH.nil)
    ·have xx:=hS4.c
     rw [if_pos (by rfl)]
     go_simp
     refine hK.out _ _ hH4 (fun _=>?_)
     clear hK K' xx
     refine ry 4 rfl (fun K' hK=>?_)
     rw [if_pos (by rfl)]
     go_simp
     refine hK.out _ _ S4a (fun _=>?_)
     clear hK K'
     refine ry 5 rfl (fun K' hK=>?_)
     refine step_append_lies _ (by rfl) (.tmp 14) (.tmp 17) 23 (by rfl) (w.heap.size+3) 97 i0 _ 1 24 Tryz.underlying23 hi hz0 hz1 hz2 rfl (by decide) (.slice av mm.length cv) mm.length vs (by rfl) ((hR4.b.outer).alloc _) ⟨w4.heap.size,0,none⟩ 1 1 [.slice a4 t.length c4] (by rfl) (by rfl) (World.news_of_block (cs:=#[.slice a4 t.length c4]) (t:=97) (fr:=(0,0)) (heap_alloc_new w4 _)) (by simp [Value.oneCell']) (by omega) (by unfold maxLen;omega) (by omega) (by have:=b4.size;simp;omega) (w4.heap.size+1) (by simp) ?_
     intro g5 cap5 w5 hown5 hg5 hat5 hlt5
     obtain ⟨b5,hS5,hQ5,hR5⟩:=F5.out w4 a4 c4 b4 ho4 g5 cap5 w5 hown5 hg5
     simp only [Act.put,zqa,zqb,zqc]
     refine hK.out _ _ b5 (fun hH5=>?_)
     clear hK K'
     refine tk 6 19 (.pointer (some ⟨w.heap.size+1+1,0,none⟩)) hH5 rfl rfl (by intro w' hSw;go_simp) ?_
     simp only [Act.put,zqa,zqb,zqc]
     refine ry 7 rfl (fun K' hK=>?_)
     have xc:=hS5.c
     have xz:=hS5.fz
     rw [if_pos (by rfl)]
     go_simp
     refine hK.out _ _ (b5.setCell (by show w.heap.size≤w.heap.size+1+1;omega) _) (fun _=>?_)
     clear hK K'
     refine wpAnyH_done (by kernel_rfl) ?_ _
     clear xc xz
     go_wp2_with fail
     exact ⟨⟨n+1,_,_,by go_num,by omega,by rw [HW.out];exact hR5.far (by omega) _,hS5.set _,hQ5.far (by omega) _,b5.setCell (by show w.heap.size≤w.heap.size+1+1;omega) _⟩,by simp [intOf];omega⟩
    ·rw [if_pos (by rfl)]
     go_simp
     refine hK.out _ _ S4a (fun _=>?_)
     clear hK K'
     refine ry 1 rfl (fun K' hK=>?_)
     have xx:=hS4a.c
     rw [if_pos (by rfl)]
     go_simp
     refine hK.out _ _ S4a (fun _=>?_)
     clear hK K' xx
     refine ry 5 rfl (fun K' hK=>?_)
     refine step_append_lies _ (by rfl) (.tmp 14) (.tmp 17) 23 (by rfl) (w.heap.size+3) 97 i0 _ 1 24 Tryz.underlying23 hi hz0 hz1 hz2 rfl (by decide) (.slice av mm.length cv) mm.length vs (by rfl) ((hR4.b.outer).alloc _) ⟨w4.heap.size,0,none⟩ 1 1 [.slice a4 t.length c4] (by rfl) (by rfl) (World.news_of_block (cs:=#[.slice a4 t.length c4]) (t:=97) (fr:=(0,0)) (heap_alloc_new w4 _)) (by simp [Value.oneCell']) (by omega) (by unfold maxLen;omega) (by omega) (by have:=b4.size;simp;omega) (w4.heap.size+1) (by simp) ?_
     intro g5 cap5 w5 hown5 hg5 hat5 hlt5
     obtain ⟨b5,hS5,hQ5,hR5⟩:=F5.out w4 a4 c4 b4 ho4 g5 cap5 w5 hown5 hg5
     simp only [Act.put,zqa,zqb,zqc]
     refine hK.out _ _ b5 (fun hH5=>?_)
     clear hK K'
     refine tk 6 19 (.pointer (some ⟨w.heap.size+1+1,0,none⟩)) hH5 rfl rfl (by intro w' hSw;go_simp) ?_
     simp only [Act.put,zqa,zqb,zqc]
     refine ry 7 rfl (fun K' hK=>?_)
     have xc:=hS5.c
     have xz:=hS5.fz
     rw [if_pos (by rfl)]
     go_simp
     refine hK.out _ _ (b5.setCell (by show w.heap.size≤w.heap.size+1+1;omega) _) (fun _=>?_)
     clear hK K'
     refine wpAnyH_done (by kernel_rfl) ?_ _
     clear xc xz
     go_wp2_with fail
     exact ⟨⟨n+1,_,_,by go_num,by omega,by rw [HW.out];exact hR5.far (by omega) _,hS5.set _,hQ5.far (by omega) _,b5.setCell (by show w.heap.size≤w.heap.size+1+1;omega) _⟩,by simp [intOf];omega⟩
  ·have htk:ll.take n=ll:=List.take_of_length_le (by omega)
   rw [htk] at hR
   obtain ⟨av,gv,cv,rfl,_⟩:=hR.b.ss
   have hkn':¬ (n:Int) < ll.length:=by omega
   have p0:=hP.c
   have pf:=hP.fz
   have q0:=hQ.c
   have qf:=hQ.fz
   have lP:=hP.lt
   have lQ:=hQ.lt
   have hne:w.heap.size+1≠w.heap.size+1+1:=by omega
   go_wp2_with fail
   have q1:=(hQ.set (.slice av ll.length cv)).c
   exact bodyPost_ret (v:=.agg #[.slice av ll.length cv]) (by simp [results,Tryz.results69,go_sem,q1]) rfl ⟨_,rfl,⟨vs,(hR.far (by omega) _).mono (by omega)⟩,hbel.setCell (by show w.heap.size≤w.heap.size+1;omega) _⟩
end
section
open Go.RowKit
theorem M.turnThreads_get {ll:List (List M.D)} {row:List Int} (h:M.prog ll=true):(M.turnThreads ll row).getD []=M.turned [] row ll∧(M.turnThreads ll row).isSome=M.rowN row ll.length:=by
 cases hr:M.rowN row ll.length
 ·rw [M.turnThreads_row hr,M.turned_no hr];exact ⟨rfl,rfl⟩
 ·rw [M.turnThreads_yes h hr,M.turned_yes hr];exact ⟨rfl,rfl⟩
theorem M.turned_small {ll mm:List (List M.D)} {row:List Int} (h:M.prog ll=true) (e:M.turned [] row ll=mm):mm.length≤3∧∀ t∈mm,t.length≤7 :=
 M.turnThreads_small (ll:=ll) (row:=row) (by rw [(M.turnThreads_get h).1];exact e)
set_option maxHeartbeats 1000000 in
set_option maxRecDepth 100000 in
theorem iturnThreads_any (a:Option Addr) (b o c:Nat) (ll:List (List M.D)) (hl:ll.length≤1048576) (hls:∀ t∈ll,t.length≤1048576) (ga:Option Addr) (gb go gc:Nat) (gs:List Int) (hgl:gs.length≤1048576) (w:World) (h:DoSS w a b o ll) (hG:IntS w ga gb go gs) :
  Calls Tryz.prog 29 #[.agg #[.slice a ll.length c],.slice ga gs.length gc] w fun e w'=>∃ v,e=.returned (.tuple #[.agg #[v],.bool (M.turnThreads ll gs).isSome])∧(∃ vs,Rdg w' w.heap.size v ((M.turnThreads ll gs).getD []) vs)∧Below w.heap.size w w':=by
 have b2:=below2 w (.cells #[.slice a ll.length c] 25) (.cells #[.slice none 0 0] 25)
 have h2:=h.below b2 (Nat.le_refl _)
 have hG2:=hG.below b2 (Nat.le_refl _)
 have hX:=(Slot1.new w (.slice a ll.length c) 25).bl' (below1 _ (.cells #[.slice none 0 0] 25))
 have hY:=Slot1.new (w.alloc (.cells #[.slice a ll.length c] 25)) (.slice none 0 0) 25
 rw [World.size_alloc] at hY
 go_enter Tryz.func29,Tryz.ntmps29
 go_wp2_with fail
 generalize (w.alloc (.cells #[.slice a ll.length c] 25)).alloc (.cells #[.slice none 0 0] 25)=W at *
 have CP:=iprog_any a b o c ll W hl hls h2
 cases hp:M.prog ll
 ·rw [hp] at CP
  refine CP.mono ?_
  rintro e W1 ⟨rfl,b1⟩
  have hY1:=hY.bl' b1
  have y0:=hY1.c
  have yf:=hY1.fz
  have ly:=hY1.lt
  have bw1:=b2.trans (b1.mono b2.size)
  have hno:=M.turnThreads_bad (row:=gs) hp
  go_wp2_with fail
  have q1:=(hY1.set (.slice none 0 0)).c
  exact bodyPost_ret (v:=.tuple #[.agg #[.slice none 0 0],.bool false]) (by simp [results,Tryz.results29,go_sem,q1]) rfl ⟨_,by rw [hno];rfl,⟨[],by rw [hno];exact Rdg.nil _ _⟩,bw1.setCell (by show w.heap.size≤w.heap.size+1;omega) _⟩
 ·rw [hp] at CP
  obtain ⟨h3,h7⟩:=M.prog_le hp
  obtain ⟨e1,e2⟩:=M.turnThreads_get (row:=gs) hp
  obtain ⟨mm,hmm⟩:∃ mm,M.turned [] gs ll=mm:=⟨_,rfl⟩
  obtain ⟨hm3,hm7⟩:=M.turned_small hp hmm
  obtain ⟨ok,hok⟩:∃ ok,M.rowN gs ll.length=ok:=⟨_,rfl⟩
  have E1:Hid ((M.turnThreads ll gs).getD []=mm):=e1.trans hmm
  have E2:Hid ((M.turnThreads ll gs).isSome=ok):=e2.trans hok
  have CT:=fun A B C D W x y=>turnT_any ga gb go gc gs A B C D ll W hgl (by omega) x y
  rw [hmm,hok] at CT
  clear hp hmm hok e1 e2
  refine CP.mono ?_
  rintro e W1 ⟨rfl,b1⟩
  have h1:=h2.below b1 (Nat.le_refl _)
  have hG1:=hG2.below b1 (Nat.le_refl _)
  have hX1:=hX.bl' b1
  have hY1:=hY.bl' b1
  have bw1:=b2.trans (b1.mono b2.size)
  have x0:=hX1.c
  clear CP h2 hG2 hX hY b1 b2
  go_wp2_with fail
  refine (CT a b o c W1 hG1 h1).mono ?_
  rintro e W2 ⟨v2,rfl,⟨a2,⟨c2,rfl⟩,g2,hs2⟩,b2⟩
  go_wp2_with fail
  refine (copyProg_any a2 g2 0 c2 mm W2 (by omega) (fun t ht=>by have:=hm7 t ht;omega) hs2).mono ?_
  rintro e W3 ⟨v3,rfl,⟨vs,hR⟩,b3⟩
  have hY3:=(hY1.bl' b2).bl' b3
  have y0:=hY3.c
  have yf:=hY3.fz
  have ly:=hY3.lt
  have ly1:=hY1.lt
  have b13:=b2.trans (b3.mono b2.size)
  have bw3:=bw1.trans (b13.mono bw1.size)
  have hsz:=b2.size
  obtain ⟨av,gv,cv,rfl,_⟩:=hR.b.ss
  go_wp2_with fail
  have q1:=(hY3.set (.slice av mm.length cv)).c
  exact bodyPost_ret (v:=.tuple #[.agg #[.slice av mm.length cv],.bool ok]) (by simp [results,Tryz.results29,go_sem,q1]) rfl ⟨_,by rw [E2.out],⟨vs,by rw [E1.out];exact (hR.far (by omega) _).mono (by have:=bw1.size;omega)⟩,bw3.setCell (by show w.heap.size≤w.heap.size+1;omega) _⟩
end
section
open Go.RowKit
theorem run_append_zero {P:Program} (w:World) (t ty e:TypeId) (i:TypeInfo) (ht:P.underlying t=some (.slice e)) (hi:P.info? e=some i) {base size n:Nat} {v:Value} {xs:List Value} {e':TypeId} (hown:w.ownsRow base e' size v n xs) (a:Option Addr) (c:Nat) :
  (Builtin.append_ #[t,t] ty #[v,.slice a 0 c]).run P w=.ok v w:=by
 rcases hown.2 with ⟨hv,h0⟩ | ⟨g,cap,cur,hv,_,_,hnc,_⟩
 ·subst hv
  cases a
  ·simp [Builtin.append_,run_underlying ht,sizeOf,typeInfo,hi,Builtin.lenOf,Builtin.firstCells]
  ·simp [Builtin.append_,run_underlying ht,sizeOf,typeInfo,hi,Builtin.lenOf,Builtin.firstCells,loadCells,loadCellsFrom]
 ·subst hv
  cases a
  ·simp [Builtin.append_,run_underlying ht,sizeOf,typeInfo,hi,Builtin.lenOf,Builtin.firstCells,storeCells,hnc]
  ·simp [Builtin.append_,run_underlying ht,sizeOf,typeInfo,hi,Builtin.lenOf,Builtin.firstCells,loadCells,loadCellsFrom,storeCells,hnc]
theorem wpList_append_zero {P:Program} {w:World} {ops:Array Oper} {rest:List Oper} {o:Oper} {a:Act} {Q:Exit→Act→World→Prop} (hgd:o.guard=none) (s x:Operand) (t:TypeId)
  (ho:o.op=.call { callee:=.builtin .append,args:=#[s,x],argTypes:=#[t,t] }) (d:Option Tmp) (hd:o.dst=d) (e:TypeId) (i:TypeInfo) (ht:P.underlying t=some (.slice e)) (hi:P.info? e=some i)
  {base size n:Nat} {v:Value} {xs:List Value} {e':TypeId} (hs:a.eval s=v) (hown:w.ownsRow base e' size v n xs) (b:Option Addr) (m c:Nat) (hm:m=0) (hx:a.eval x=.slice b m c)
  (h:wpList P ops Q rest (a.put d v) w):wpList P ops Q (o::rest) a w:=by
 subst hd
 subst hm
 refine wpList_plain hgd fun K hK=>?_
 have hrun:=run_append_zero (P:=P) w t o.type e i ht hi hown b c
 unfold Oper.wp
 simp [execOp,ho,resolve,invoke,builtin,hs,hx,hrun,Result.andThen]
 exact hK _ _ h
end
section
open Go.RowKit
theorem own_emp {X:World} {base g size:Nat} {e:TypeId} (h:X.heap[g]?=some (.cells #[] e (0,0))) (hb:base≤g):X.ownsRow base e size (.slice (some ⟨g,0,none⟩) 0 0) 0 [] :=
 ⟨by simp,.inr ⟨g,0,#[],rfl,hb,h,Nat.le_refl _,Nat.zero_le _,by simp,by simp⟩⟩
end
end Go.Proofs.YtmhpgdliaclokaaGreat
