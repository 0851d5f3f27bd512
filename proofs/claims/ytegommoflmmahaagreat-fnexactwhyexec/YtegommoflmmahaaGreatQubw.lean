/- What an order allows, plainly: who is among it. No condition. And what goes with it: OaM, OaS, WyMath, OpenNum, OpenSn, Open, Front0, Front, Bx2. -/
import Derived.Deep.AppendSrc
import Derived.Deep.Strs
import Derived.Deep.OwnRows
import Derived.Test.YtegommoflmmahaaGreatRows
import Derived.Test.YtegommoflmmahaaGreatQubg
namespace Go.Proofs.YtegommoflmmahaaGreat
section
namespace M
theorem holds_parts_of {ll:List (List D)} {l:List Int} {rows:List (List Int)} {kind:Int} (h:orderHolds ll l rows kind=true):(decide (1≤kind)&&decide (kind≤3))=true∧execOk ll l rows=true:=by
 unfold orderHolds at h
 obtain ⟨h1,h2⟩:=Bool.and_eq_true_iff.1 h
 exact ⟨h1,(Bool.and_eq_true_iff.1 h2).1⟩
theorem exec_prog {ll:List (List D)} {l:List Int} {rows:List (List Int)} (h:execOk ll l rows=true):prog ll=true:=by
 simp only [execOk,Bool.and_eq_true] at h;exact h.1
theorem mem_ways {ll:List (List D)} {x:Wy} (h:execOk ll x.1 x.2=true):x∈ways (deeds ll):=by
 rw [ways_eq (cop_deeds ll)]
 simp only [execOk,Bool.and_eq_true] at h
 exact mem_all.2 h.2
theorem mem_orderAll {ll:List (List D)} {kind:Int} {k:Key}:k∈orderAll ll kind↔∃ x:Wy,orderHolds ll x.1 x.2 kind=true∧seenOf ll x=k:=by
 unfold orderAll
 cases hg:((decide (1≤kind)&&decide (kind≤3))&&prog ll)
 ·simp only [Bool.false_eq_true,if_false,List.not_mem_nil,false_iff]
  rintro ⟨x,hx,_⟩
  have h:=holds_parts_of hx
  rw [h.1,exec_prog h.2] at hg
  cases hg
 ·rw [if_pos rfl,mem_sortK,orderList,List.mem_map]
  constructor
  ·rintro ⟨x,hx,e⟩
   exact ⟨x,(List.mem_filter.1 hx).2,e⟩
  ·rintro ⟨x,hx,e⟩
   exact ⟨x,List.mem_filter.2 ⟨mem_ways (holds_parts_of hx).2,hx⟩,e⟩
end M
end
section
open Go.RowKit
theorem M.row_len {ds:List M.De} {rows:List (List Int)} (h:M.orderOk ds rows=true) (hd:ds.length≤42):∀ r∈rows,r.length≤1048576:=by
 have key:∀ (rows:List (List Int)) (p:Nat),M.orderAt ds p rows=true→∀ r∈rows,r.length≤ds.length:=by
  intro rows
  induction rows with
  | nil=>intro p _ r hr;cases hr
  | cons x rows ih =>
   intro p h r hr
   simp only [M.orderAt,M.isRow,Bool.and_eq_true,decide_eq_true_eq] at h
   rcases List.mem_cons.1 hr with rfl | hr
   ·have:=M.wrs_len p ds 0;omega
   ·exact ih _ h.2 r hr
 simp only [M.orderOk,Bool.and_eq_true] at h
 intro r hr
 have:=key rows 0 h.2 r hr
 omega
namespace M
end M
end
section
namespace M
theorem all_seenOkW {ll:List (List D)} {kind:Int}:∀ k∈orderAll ll kind,seenOk ll k.1 k.2=true:=fun k hk=>by
 obtain ⟨x,hx,rfl⟩:=mem_orderAll.1 hk
 have h:=(holds_parts_of hx).2
 have e:=exec_seenOk h
 have e2:execSeen ll x.1 x.2=seenOf ll x:=by simp [execSeen,h,seenOf]
 rw [e2] at e
 exact e
theorem whyGood_mem {ll:List (List D)} {t1 t2:List Int} {k:Int} {x:Wy} (h:whyGood ll t1 t2 k x=true):orderHolds ll x.1 x.2 k=true∧seenOf ll x=(t1,t2)∧(t1,t2)∈orderAll ll k:=by
 unfold whyGood at h
 simp only [Bool.and_eq_true,beq_iff_eq] at h
 obtain ⟨h1,h2⟩:=h
 obtain ⟨e1,e2⟩:=cmpS_zero h1
 have e:seenOf ll x=(t1,t2):=by unfold seenOf;rw [e1,e2]
 exact ⟨h2,e,mem_orderAll.2 ⟨x,h2,e⟩⟩
theorem whyExec_some {ll:List (List D)} {t1 t2:List Int} {k:Int} {x:Wy} (h:whyExec ll t1 t2 k=some x):x∈ways (deeds ll)∧whyGood ll t1 t2 k x=true:=by
 unfold whyExec at h
 split at h
 ·exact ⟨List.mem_of_find?_eq_some h,List.find?_some h⟩
 ·cases h
end M
end
section
open Go.ChangeShapes Go.WideShapes Go.ChangeAt Go.RowKit Go.Deep
theorem Tryz.cellsInt:Tryz.prog.cellsOf 3=1:=by kernel_rfl
theorem Tryz.cells26:Tryz.prog.cellsOf 26=1:=by kernel_rfl
def Wf (l:List Int):Prop:=∀ n∈l,(Lit.int .i64 n).wf=true
section
variable {H : Type} {enc : TypeId × Value → H} {w : World} {base : Nat} {spare : Nat → Bool} {held : Bool}
set_option maxRecDepth 100000 in
theorem open_nums {fuel:Nat} {u:Value} {x:DataW H × List MemPlace} (h:DataW.trod enc Tryz.prog w base spare held fuel 26 [u]=some x):∃ a b o c,∃ l:List Int,u=.slice a l.length c∧l.length≤maxLen∧IntS w a b o l∧Wf l:=by
 rcases open_ints Tryz.underlying26 Tryz.underlying3 Tryz.cellsInt h with ⟨hcs,_⟩ | ⟨a,len,cap,zs,hcs,_,hl,hm,hmm,_,hel,hwf⟩
 ·simp at hcs
  exact ⟨none,0,0,0,[],hcs,Nat.zero_le _,IntS.nil _ _ _ _,fun n hn=>absurd hn (by simp)⟩
 ·simp at hcs
  obtain ⟨gb,go,gs⟩:=a
  have hlm:len≤zs.length:=by rw [hmm];split<;>omega
  have hlen:(zs.take len).length=len:=by simp;omega
  rcases Nat.eq_zero_or_pos len with h0 | hpos
  ·subst h0
   exact ⟨_,0,0,cap,[],hcs,Nat.zero_le _,IntS.nil _ _ _ _,fun n hn=>absurd hn (by simp)⟩
  ·have hgs:gs=none:=by simpa [Addr.add] using World.cell?_spot (hel 0 (by omega))
   subst hgs
   refine ⟨_,gb,go,cap,zs.take len,by rw [hlen];exact hcs,by rw [hlen];omega,⟨fun _=>rfl,fun i hi=>?_⟩,fun n hn=>hwf n (List.mem_of_mem_take hn)⟩
   rw [hlen] at hi
   have:=hel i (by omega)
   rw [add_plain] at this
   rw [this,List.getElem_take,List.getD_eq_getElem?_getD,List.getElem?_eq_getElem (by omega)]
   rfl
end
end
section
open Go.ChangeShapes Go.WideShapes Go.ChangeAt Go.RowKit Go.Deep
theorem Tryz.cells56:Tryz.prog.cellsOf 56=2:=by kernel_rfl
section
variable {H : Type} {enc : TypeId × Value → H} {w : World} {base : Nat} {spare : Nat → Bool} {held : Bool}
set_option maxRecDepth 100000 in
theorem open_seen {fuel:Nat} {cs:List Value} {x:DataW H × List MemPlace} (h:DataW.trod enc Tryz.prog w base spare held fuel 56 cs=some x):∃ s:Sn,cs=[.slice s.a1 s.l1.length s.c1,.slice s.a2 s.l2.length s.c2]∧s.Le maxLen∧s.At w∧Wf s.l1∧Wf s.l2:=by
 obtain ⟨y0,y1,n,_,hl,t0,t1⟩:=trod_struct2 Tryz.underlying56 h
 rw [Tryz.cells56] at hl
 match cs,hl with
 | [u0,u1],_ =>
  have t0':DataW.trod enc Tryz.prog w base spare held n 26 [u0]=some y0:=by simpa [Tryz.cells26] using t0
  have t1':DataW.trod enc Tryz.prog w base spare held n 26 [u1]=some y1:=by simpa [Tryz.cells26] using t1
  obtain ⟨a1,b1,o1,c1,l1,e1,h1,i1,f1⟩:=open_nums t0'
  obtain ⟨a2,b2,o2,c2,l2,e2,h2,i2,f2⟩:=open_nums t1'
  exact ⟨⟨a1,b1,o1,c1,l1,a2,b2,o2,c2,l2⟩,by rw [e1,e2],⟨h1,h2⟩,⟨i1,i2⟩,f1,f2⟩
end
end
section
open Go.ChangeShapes Go.WideShapes Go.ChangeAt Go.RowKit Go.Deep
theorem Tryz.cells208:Tryz.prog.cellsOf 208=3:=by kernel_rfl
theorem Tryz.cells165:Tryz.prog.cellsOf 165=1:=by kernel_rfl
theorem Tryz.cells53:Tryz.prog.cellsOf 53=1:=by kernel_rfl
theorem Tryz.cells55:Tryz.prog.cellsOf 55=1:=by kernel_rfl
theorem Tryz.cells3:Tryz.prog.cellsOf 3=1:=by kernel_rfl
section
variable {H : Type} {enc : TypeId × Value → H} {w : World} {base : Nat} {spare : Nat → Bool} {held : Bool}
set_option maxRecDepth 100000 in
theorem open_step {fuel:Nat} {cs:List Value} {x:DataW H × List MemPlace} (h:DataW.trod enc Tryz.prog w base spare held fuel 208 cs=some x):∃ k p v:Int,cs=[.int .i64 k,.int .i64 p,.int .i64 v]:=by
 obtain ⟨y0,y1,y2,n,_,hl,t0,t1,t2⟩:=trod_struct3 Tryz.underlying208 h
 rw [Tryz.cells208] at hl
 match cs,hl with
 | [c0,c1,c2],_ =>
  obtain ⟨k,e0,_,_⟩:=DataW.trod_int Tryz.underlying3 t0
  obtain ⟨p,e1,_,_⟩:=DataW.trod_int Tryz.underlying3 t1
  obtain ⟨v,e2,_,_⟩:=DataW.trod_int Tryz.underlying3 t2
  simp [Tryz.cells3] at e0 e1 e2
  exact ⟨k,p,v,by rw [e0,e1,e2]⟩
set_option maxRecDepth 100000 in
theorem open_thread {fuel:Nat} {u:Value} {x:DataW H × List MemPlace} (h:DataW.trod enc Tryz.prog w base spare held fuel 165 [u]=some x):∃ a b o c,∃ l:List M.D,u=.slice a l.length c∧l.length≤maxLen∧DoS w a b o l:=by
 rcases open_slice Tryz.underlying165 h with ⟨hcs,_⟩ | ⟨a,len,cap,m,n,D,Pl,hcs,_,hl,hm,hmm,_,hel⟩
 ·simp at hcs
  exact ⟨none,0,0,0,[],hcs,Nat.zero_le _,⟨fun h=>absurd h (Nat.lt_irrefl _),fun i hi=>absurd hi (Nat.not_lt_zero _)⟩⟩
 ·simp at hcs
  obtain ⟨gb,go,gs⟩:=a
  have hlm:len≤m:=by rw [hmm];split<;>omega
  rw [Tryz.cells208] at hel
  rcases Nat.eq_zero_or_pos len with h0 | hpos
  ·subst h0
   exact ⟨_,0,0,cap,[],hcs,Nat.zero_le _,⟨fun h=>absurd h (Nat.lt_irrefl _),fun i hi=>absurd hi (Nat.not_lt_zero _)⟩⟩
  ·have key:∀ i,i < len→∃ d:M.D,w.cell? ((Addr.mk gb go gs).add (i * 3) |>.add 0)=some (.int .i64 d.k)∧w.cell? ((Addr.mk gb go gs).add (i * 3) |>.add 1)=some (.int .i64 d.p)∧w.cell? ((Addr.mk gb go gs).add (i * 3) |>.add 2)=some (.int .i64 d.v):=fun i hi=>by
    obtain ⟨cs',h1,h2⟩:=hel i (by omega)
    obtain ⟨k,p,v,rfl⟩:=open_step h2
    have hc:=(World.cells?_some h1).2.2
    exact ⟨⟨k,p,v⟩,hc 0 (by omega),hc 1 (by omega),hc 2 (by omega)⟩
   have hgs:gs=none:=by
    obtain ⟨d,hk,_⟩:=key 0 hpos
    simpa [Addr.add] using World.cell?_spot hk
   subst hgs
   haveI:Inhabited M.D:=⟨⟨0,0,0⟩⟩
   obtain ⟨f,hf⟩:=choose_lt (α:=M.D) key
   refine ⟨_,gb,go,cap,(List.range len).map f,by simp only [List.length_map,List.length_range];exact hcs,by simp;omega,⟨fun _=>rfl,fun i hi=>?_⟩⟩
   simp only [List.length_map,List.length_range] at hi
   obtain ⟨hk,hp,hv⟩:=hf i hi
   simp only [add_plain] at hk hp hv
   rw [List.getElem_map,List.getElem_range]
   exact ⟨hk,hp,hv⟩
set_option maxRecDepth 100000 in
theorem open_threads {fuel:Nat} {u:Value} {x:DataW H × List MemPlace} (h:DataW.trod enc Tryz.prog w base spare held fuel 53 [u]=some x) :
  ∃ a b o c,∃ ll:List (List M.D),u=.slice a ll.length c∧ll.length≤maxLen∧(∀ t∈ll,t.length≤maxLen)∧DoSS w a b o ll:=by
 rcases open_slice1 Tryz.underlying53 Tryz.cells165 h with ⟨hcs,_⟩ | ⟨a,len,cap,m,n,V,D,Pl,hcs,_,hl,hm,hmm,_,hel⟩
 ·simp at hcs
  exact ⟨none,0,0,0,[],hcs,Nat.zero_le _,fun t ht=>absurd ht (by simp),⟨fun h=>absurd h (Nat.lt_irrefl _),fun i hi=>absurd hi (Nat.not_lt_zero _)⟩⟩
 ·simp at hcs
  obtain ⟨gb,go,gs⟩:=a
  have hlm:len≤m:=by rw [hmm];split<;>omega
  rcases Nat.eq_zero_or_pos len with h0 | hpos
  ·subst h0
   exact ⟨_,0,0,cap,[],hcs,Nat.zero_le _,fun t ht=>absurd ht (by simp),⟨fun h=>absurd h (Nat.lt_irrefl _),fun i hi=>absurd hi (Nat.not_lt_zero _)⟩⟩
  ·have hgs:gs=none:=by simpa [Addr.add] using World.cell?_spot (hel 0 (by omega)).1
   subst hgs
   have key:∀ i,i < len→∃ l:List M.D,l.length≤maxLen∧∃ a' b' o' c',w.cell? ⟨gb,go+i,none⟩=some (.slice a' l.length c')∧DoS w a' b' o' l:=fun i hi=>by
    obtain ⟨h1,h2⟩:=hel i (by omega)
    obtain ⟨a',b',o',c',l,e,hll,hs⟩:=open_thread h2
    rw [add_plain,e] at h1
    exact ⟨l,hll,a',b',o',c',h1,hs⟩
   obtain ⟨f,hf⟩:=choose_lt (α:=List M.D) key
   refine ⟨_,gb,go,cap,(List.range len).map f,by simp only [List.length_map,List.length_range];exact hcs,by simp;omega,fun t ht=>?_,⟨fun _=>rfl,fun i hi=>?_⟩⟩
   ·obtain ⟨i,hi,rfl⟩:=List.mem_map.1 ht
    exact (hf i (List.mem_range.1 hi)).1
   ·simp only [List.length_map,List.length_range] at hi
    rw [List.getElem_map,List.getElem_range]
    exact (hf i hi).2
end
end
section
open Go.ChangeShapes Go.WideShapes Go.ChangeAt Go.RowKit Go.Deep
theorem Tryz.own:ownKnob Tryz.prog.godebug=none:=by kernel_rfl
theorem Tryz.laidOut:laidOutB Tryz.prog=true:=by kernel_rfl
theorem one_of_size {cs:Array Value} (h:cs.size=1):∃ u,cs=#[u]:=by
 obtain ⟨l⟩:=cs
 match l,h with
 | [u],_=>exact ⟨u,rfl⟩
end
section
open Go.ChangeShapes Go.WideShapes Go.ChangeAt Go.RowKit Go.Deep
theorem field_one {H:Type} {enc:TypeId × Value→H} {w:World} {base n:Nat} {spare:Nat→Bool} {held:Bool} {u:Value} {y:DataW H × List MemPlace}
  (h:DataW.trod enc Tryz.prog w base spare held n 53 (((Value.agg #[u]).cells.toList.drop 0).take (Tryz.prog.cellsOf 53))=some y):DataW.trod enc Tryz.prog w base spare held n 53 [u]=some y:=by
 simpa [Value.cells,Tryz.cells53] using h
end
section
open Go.RowKit
theorem M.three (s t:Sn):∃ b1 b2 b3:Bool,decide (M.cmpS s.l1 s.l2 t.l1 t.l2 < 0)=b1∧decide (M.cmpS t.l1 t.l2 s.l1 s.l2 < 0)=b2∧M.sameS s.l1 s.l2 t.l1 t.l2=b3∧((b1=true∧b2=false∧b3=false)∨(b1=false∧b2=true∧b3=false)∨(b1=false∧b2=false∧b3=true)):=by
 refine ⟨_,_,_,rfl,rfl,rfl,?_⟩
 rw [M.sameS_eq,M.cmpS_neg s.l1 s.l2 t.l1 t.l2]
 generalize M.cmpS s.l1 s.l2 t.l1 t.l2=z
 rcases Int.lt_trichotomy z 0 with h | h | h
 ·exact Or.inl ⟨by simpa using h,by simp;omega,by simp;omega⟩
 ·subst h;exact Or.inr (Or.inr ⟨by decide,by decide,by decide⟩)
 ·exact Or.inr (Or.inl ⟨by simp;omega,by simp;omega,by simp;omega⟩)
end
end Go.Proofs.YtegommoflmmahaaGreat
