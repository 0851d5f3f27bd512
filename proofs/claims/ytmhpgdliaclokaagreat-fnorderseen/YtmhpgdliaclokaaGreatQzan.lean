/- The plain mathematics of what was seen: how numbers, and what was seen, are compared. No condition. And what goes with it: SnMath, SnMem, SnFar, RowMore, TnBase, TnGo, NlO, SxVal, SnOrd, SnCmp, SnSee, SnIn, TnMath, TnT. -/
import Derived.Test.YtmhpgdliaclokaaGreatRows
import Derived.Test.YtmhpgdliaclokaaGreatQzak
import Derived.Test.YtmhpgdliaclokaaGreatQzam
namespace Go.Proofs.YtmhpgdliaclokaaGreat
section
namespace M
theorem comp_lt {l m:List Int} {n:Nat} {x y:Int} (h:comp l m=comp (l.drop n) (m.drop n)) (hl:l.drop n=x::l.drop (n+1)) (hm:m.drop n=y::m.drop (n+1)) (hxy:x < y):comp l m=-1:=by
 rw [h,hl,hm,comp,if_pos hxy]
theorem comp_gt {l m:List Int} {n:Nat} {x y:Int} (h:comp l m=comp (l.drop n) (m.drop n)) (hl:l.drop n=x::l.drop (n+1)) (hm:m.drop n=y::m.drop (n+1)) (hxy:y < x):comp l m=1:=by
 rw [h,hl,hm,comp,if_neg (by omega),if_pos hxy]
theorem comp_eq {l m:List Int} {n:Nat} {x y:Int} (h:comp l m=comp (l.drop n) (m.drop n)) (hl:l.drop n=x::l.drop (n+1)) (hm:m.drop n=y::m.drop (n+1)) (h1:¬ x < y) (h2:¬ y < x):comp l m=comp (l.drop (n+1)) (m.drop (n+1)):=by
 rw [h,hl,hm,comp,if_neg h1,if_neg h2]
theorem comp_fst {l m:List Int} {n:Nat} (h:comp l m=comp (l.drop n) (m.drop n)) (hl:l.length≤n) (hm:n < m.length):comp l m=-1:=by
 rw [h,List.drop_eq_nil_of_le hl,(List.getElem_cons_drop hm).symm,comp]
theorem comp_snd {l m:List Int} {n:Nat} (h:comp l m=comp (l.drop n) (m.drop n)) (hl:n < l.length) (hm:m.length≤n):comp l m=1:=by
 rw [h,List.drop_eq_nil_of_le hm,(List.getElem_cons_drop hl).symm,comp]
theorem comp_fin {l m:List Int} {n:Nat} (h:comp l m=comp (l.drop n) (m.drop n)) (hl:l.length≤n) (hm:m.length≤n):comp l m=0:=by
 rw [h,List.drop_eq_nil_of_le hl,List.drop_eq_nil_of_le hm,comp]
end M
end
section
open Go.RowKit
theorem Grown.trans {a b c:World} (h:Grown a b) (k:Grown b c):Grown a c:=⟨h.bel.trans (k.bel.mono h.bel.size),Nat.le_trans h.drawn k.drawn⟩
theorem Grown.alloc {a b:World} (h:Grown a b) (o:Obj):Grown a (b.alloc o):=⟨h.bel.alloc h.bel.size o,h.drawn⟩
theorem Grown.drew {a b:World} (h:Grown a b):Grown a b.drew:=h.drewN 1
structure Sn.At (s:Sn) (w:World):Prop where
 reads:IntS w s.a1 s.b1 s.o1 s.l1
 last:IntS w s.a2 s.b2 s.o2 s.l2
structure Sn.Le (s:Sn) (n:Nat):Prop where
 reads:s.l1.length≤n
 last:s.l2.length≤n
theorem Sn.At.below {s:Sn} {w w':World} {B:Nat} (h:s.At w) (hb:Below B w w') (hB:w.heap.size≤B):s.At w':=⟨h.reads.below hb hB,h.last.below hb hB⟩
theorem Sn.At.grown {s:Sn} {w w':World} (h:s.At w) (hg:Grown w w'):s.At w':=h.below hg.bel (Nat.le_refl _)
end
section
open Go.RowKit
structure Slot2 (w:World) (b:Nat) (x y:Value):Prop where
 blk:w.heap[b]?=some (.cells #[x,y] 45 (0,0))
theorem Slot2.lt {w:World} {b:Nat} {x y:Value} (h:Slot2 w b x y):b < w.heap.size:=by
 by_cases hb:b < w.heap.size
 ·exact hb
 ·have:=h.blk;rw [Array.getElem?_eq_none (by omega)] at this;cases this
theorem Slot2.c0 {w:World} {b:Nat} {x y:Value} (h:Slot2 w b x y):w.cell? ⟨b,0,none⟩=some x:=by simp [World.cell?,h.blk]
theorem Slot2.c1 {w:World} {b:Nat} {x y:Value} (h:Slot2 w b x y):w.cell? ⟨b,1,none⟩=some y:=by simp [World.cell?,h.blk]
theorem Slot2.fz {w:World} {b:Nat} {x y:Value} (h:Slot2 w b x y) (i:Nat):w.frozen? ⟨b,i,none⟩=false:=by simp [World.frozen?,h.blk]
theorem Slot2.of {w w':World} {b:Nat} {x y:Value} (h:Slot2 w b x y) (hb:w'.heap[b]?=w.heap[b]?):Slot2 w' b x y:=⟨hb.trans h.blk⟩
theorem Slot2.far {w:World} {b b' i:Nat} {x y:Value} (h:Slot2 w b x y) (hne:b'≠b) (u:Value):Slot2 (w.setCell ⟨b',i,none⟩ u) b x y:=h.of (Below.heap_setCell _ _ _ _ (fun e=>hne e.symm))
theorem Slot2.set0 {w:World} {b:Nat} {x y:Value} (h:Slot2 w b x y) (u:Value):Slot2 (w.setCell ⟨b,0,none⟩ u) b u y:=⟨heap_setCell_same w b 0 #[x,y] _ u h.blk⟩
theorem Slot2.set1 {w:World} {b:Nat} {x y:Value} (h:Slot2 w b x y) (u:Value):Slot2 (w.setCell ⟨b,1,none⟩ u) b x u:=⟨heap_setCell_same w b 1 #[x,y] _ u h.blk⟩
theorem own_slot {w:World} {b i B n:Nat} {x y v:Value} {xs:List Value} (ho:w.ownsRow B 3 1 v n xs) (h:Slot2 w b x y) (u:Value):(w.setCell ⟨b,i,none⟩ u).ownsRow B 3 1 v n xs:=by
 refine ⟨ho.1,?_⟩
 rcases ho.2 with h0 | ⟨g,cap,cur,hv,hg,hh,r⟩
 ·exact Or.inl h0
 ·refine Or.inr ⟨g,cap,cur,hv,hg,?_,r⟩
  rw [Below.heap_setCell _ _ _ _ (fun e=>?_)]
  ·exact hh
  ·simp at e
   subst e
   rw [h.blk] at hh
   simp at hh
theorem own_cap {w:World} {base g n cap:Nat} {e:TypeId} {size:Nat} {xs:List Value} (h:w.ownsRow base e size (.slice (some ⟨g,0,none⟩) n cap) n xs):n≤cap:=by
 rcases h.2 with ⟨hv,_⟩ | ⟨g',cap',cur,hv,_,_,hc,_⟩
 ·simp at hv
 ·simp at hv
  obtain ⟨_,rfl⟩:=hv
  exact hc
theorem own_capP {w:World} {base g n cap:Nat} {e:TypeId} {size:Nat} {xs:List Value} (h:w.ownsRow base e size (.slice (some ⟨g,0,none⟩) n cap) n xs):n≤cap:=by
 rcases h.2 with ⟨hv,_⟩ | ⟨g',cap',cur,hv,_,_,hc,_⟩
 ·simp at hv
 ·simp at hv
  obtain ⟨_,rfl⟩:=hv
  exact hc
def Sn.blk (s:Sn) (b:Nat):Prop:=(0 < s.l1.length∧b=s.b1)∨(0 < s.l2.length∧b=s.b2)
structure Own2 (w:World) (s:Sn):Prop where
 ne:0 < s.l1.length→0 < s.l2.length→s.b1≠s.b2
 fz:∀ b,s.blk b→∀ j,w.frozen? ⟨b,j,none⟩=false
end
section
open Go.RowKit
theorem Slot1.apart {w w':World} {b:Nat} {x:Value} {row:Option Nat} (h:Slot1 w b x) (hg:w.grownBy w' row) (hr:row≠some b):Slot1 w' b x:=by
 have hne:some b≠row:=fun e=>hr e.symm
 exact ⟨hg.cell h.c hne,(World.frozen?_of_block (w:=w) (hg.block b h.lt hne)).trans h.fz⟩
end
section
open Go.RowKit
theorem Slot1.bl' {w w':World} {b:Nat} {x:Value} (h:Slot1 w b x) (hb:Below w.heap.size w w'):Slot1 w' b x :=
 ⟨(hb.cell (p:=⟨b,0,none⟩) h.lt).trans h.c,(hb.frozen (p:=⟨b,0,none⟩) h.lt).trans h.fz⟩
end
section
open Go.RowKit
theorem run_append_nilT {P:Program} (w:World) (t ty e:TypeId) (i:TypeInfo) (ht:P.underlying t=some (.slice e)) (hi:P.info? e=some i) (a:Option Addr) (c:Nat) :
  (Builtin.append_ #[t,t] ty #[.slice none 0 0,.slice a 0 c]).run P w=.ok (.slice none 0 0) w:=by
 cases a
 ·simp [Builtin.append_,run_underlying ht,sizeOf,typeInfo,hi,Builtin.lenOf,Builtin.firstCells]
 ·simp [Builtin.append_,run_underlying ht,sizeOf,typeInfo,hi,Builtin.lenOf,Builtin.firstCells,loadCells,loadCellsFrom]
theorem wpList_append_nilT {P:Program} {w:World} {ops:Array Oper} {rest:List Oper} {o:Oper} {a:Act} {Q:Exit→Act→World→Prop} (hgd:o.guard=none) (s x:Operand) (t:TypeId)
  (ho:o.op=.call { callee:=.builtin .append,args:=#[s,x],argTypes:=#[t,t] }) (e:TypeId) (i:TypeInfo) (ht:P.underlying t=some (.slice e)) (hi:P.info? e=some i)
  (hs:a.eval s=.slice none 0 0) (b:Option Addr) (c:Nat) (hx:a.eval x=.slice b 0 c)
  (h:wpList P ops Q rest (a.put o.dst (.slice none 0 0)) w):wpList P ops Q (o::rest) a w:=by
 refine wpList_plain hgd fun K hK=>?_
 have hrun:=run_append_nilT (P:=P) w t o.type e i ht hi b c
 unfold Oper.wp
 simp [execOp,ho,resolve,invoke,builtin,hs,hx,hrun,Result.andThen]
 exact hK _ _ h
theorem own_slx {w:World} {B:Nat} {e:TypeId} {size:Nat} {v:Value} {n:Nat} {xs:List Value} (h:w.ownsRow B e size v n xs):∃ a c,v=.slice a n c:=by
 rcases h.2 with ⟨hv,h0⟩ | ⟨g,cap,cur,hv,_⟩
 ·exact ⟨none,0,by rw [hv,h0]⟩
 ·exact ⟨_,cap,hv⟩
end
section
open Go.RowKit
theorem nums_cells {w:World} {b o:Nat} {l:List Int} {sa:Option Addr} (h:IntS w sa b o l):∀ (j:Nat) (u:Value),(nums l)[j]?=some u→w.cell? ((⟨b,o,none⟩:Addr).add j)=some u:=by
 intro j u hj
 have hjl:j < l.length:=by
  have:=(List.getElem?_eq_some_iff.1 hj).1
  simpa [nums] using this
 rw [Go.WideShapes.add_plain,h.row j hjl]
 simpa [nums,hjl] using hj
theorem nums_one (l:List Int):∀ u∈nums l,u.oneCell'=true:=by intro u hu;simp [nums] at hu;obtain ⟨_,_,rfl⟩:=hu;rfl
set_option maxHeartbeats 1000000 in
set_option maxRecDepth 100000 in
theorem newListO_any (a:Option Addr) (b o c:Nat) (l:List Int) (w:World) (hl:l.length≤1048576) (h:IntS w a b o l) :
  Calls Tryz.prog 73 #[.slice a l.length c] w fun e w'=>∃ v,e=.returned v∧w'.ownsRow w.heap.size 3 1 v l.length (nums l)∧Below w.heap.size w w':=by
 obtain ⟨i0,hi,hz0,hz1,hz2⟩:=info_parts Tryz.infoInt
 rcases Nat.eq_zero_or_pos l.length with h0 | hpos
 ·have hl0:l=[]:=List.length_eq_zero_iff.1 h0
  subst hl0
  rw [List.length_nil]
  go_enter Tryz.func73,Tryz.ntmps73
  go_wp2_with (at_builtin;refine wpList_append_nilT rfl (.const (.slice none 0 0)) (.tmp 3) 26 rfl 3 i0 Tryz.underlying26 hi rfl a c rfl ?_)
  go_wp2_with fail
  go_ret
  exact ⟨_,rfl,World.ownsRow_nil _ _ _ _,Below.refl _ _⟩
 ·obtain ⟨rfl⟩:=h.addr hpos
  go_enter Tryz.func73,Tryz.ntmps73
  go_wp2_with (at_builtin;refine wpList_append_lies _ rfl (.const (.slice none 0 0)) (.tmp 3) 26 rfl w.heap.size 3 i0 _ 1 8 Tryz.underlying26 hi hz0 hz1 hz2 rfl (by decide) _ 0 [] rfl (World.ownsRow_nil _ _ _ _) ⟨b,o,none⟩ l.length c (nums l) rfl (by simp [nums]) (nums_cells h) (nums_one l) hpos (by unfold maxLen;omega) (by omega) (Nat.le_refl _) w.heap.size rfl ?_)
  intro g cap w1 hown hg hat hlt
  have hb:Below w.heap.size w w1:=⟨hg.os,hg.tape,hg.output,hg.size,fun k hk=>hg.block k hk (fun e=>by simp [Value.ownBlock] at e)⟩
  have hown':w1.ownsRow w.heap.size 3 1 (.slice (some ⟨g,0,none⟩) l.length cap) l.length (nums l):=by simpa using hown
  go_wp2_with fail
  go_ret
  exact ⟨_,by first | rfl | simp,hown',hb⟩
end
section
open Go.RowKit
theorem M.orig_lt {ds:List M.De} {l:List Int} (hin:M.In ds l):∀ (m n q:Nat),n < ds.length→M.orig ds l m n=some q→q < ds.length:=by
 intro m
 induction m with
 | zero=>intro n q _ h;simp [M.orig] at h
 | succ m ih =>
  intro n q hn h
  rw [M.orig] at h
  split at h
  ·obtain rfl:=Option.some.inj h;exact hn
  ·have:=hin n hn
   exact ih _ q (by omega) h
set_option maxHeartbeats 400000 in
theorem value_any (va:Option Addr) (g c:Nat) (ds:List M.De) (a:Option Addr) (b o c2:Nat) (l:List Int) (n q:Nat) (w:World) (hn:n < ds.length) (HLL:Hid (l.length=ds.length)) (hin:M.In ds l) (ho:M.orig ds l ds.length n=some q) (hq:q < ds.length) (hl:ds.length≤1048576) (h:DeS w va g ds) (h2:IntS w a b o l) :
  Calls Tryz.prog 124 #[.slice va ds.length c,.slice a l.length c2,.int .i64 n] w fun e w'=>e=.returned (.int .i64 ds[q].d.v)∧Below w.heap.size w w':=by
 have C:=origin_any va g c ds a b o c2 l n w hn HLL.out hin hl h h2
 rw [ho] at C
 change Calls _ _ _ _ fun e w'=>e=.returned (.tuple #[.int .i64 q,.bool true])∧_ at C
 obtain ⟨rfl⟩:=h.addr (by omega)
 have i1:(q:Int) < ds.length:=by omega
 go_enter Tryz.func124,Tryz.ntmps124
 go_wp2_with (go_at_call 173;refine C.mono ?_;rintro e w1 ⟨rfl,hb1⟩;obtain ⟨_,_,_,_,_,c5,_⟩:=DeS.at (h.bel hb1 (Nat.le_refl _)) hq)
 go_ret
 exact ⟨rfl,hb1⟩
theorem M.val_of_orig {ds:List M.De} {l:List Int} (hin:M.In ds l) (hll:l.length=ds.length) (hz:∀ x∈ds,x.reads=true∨x.d.k=3→x.d.v=0):∀ (m n q:Nat),n < ds.length→(hq:q < ds.length)→M.orig ds l m n=some q→M.val ds l m n=ds[q].d.v:=by
 intro m
 induction m with
 | zero=>intro n q _ _ h;simp [M.orig] at h
 | succ m ih =>
  intro n q hn hq h
  have hi:=hin n hn
  have hvf:M.valFrom ds l n=if ds[n].reads then l[n] else if ds[n].d.k==3 then ds[n].lr else -1:=by
   simp [M.valFrom,hn,show n < l.length by omega]
  rw [M.val_at ds l m n hn (by omega)]
  rw [M.orig] at h
  have step:∀ f:Int,M.valFrom ds l n=f→(ds[n].reads=true∨ds[n].d.k=3)→M.val ds l m f=ds[q].d.v:=by
   intro f hf hk
   rw [hf] at h hi
   by_cases h0:f < 0
   ·rw [if_pos h0] at h
    obtain rfl:=Option.some.inj h
    rw [M.val_neg _ _ _ h0,hz _ (List.getElem_mem hn) hk]
   ·rw [if_neg h0] at h
    obtain ⟨k,rfl⟩:∃ k:Nat,f=k:=⟨f.toNat,by omega⟩
    rw [Int.toNat_natCast] at h
    exact ih k q (by omega) hq h
  by_cases hr:ds[n].reads=true
  ·rw [if_pos hr]
   rw [if_pos hr] at hvf
   exact step _ hvf (Or.inl hr)
  ·rw [if_neg hr]
   rw [if_neg hr] at hvf
   by_cases h3:(ds[n].d.k==3)=true
   ·rw [if_pos h3]
    rw [if_pos h3] at hvf
    exact step _ hvf (Or.inr (by simpa using h3))
   ·rw [if_neg h3]
    rw [if_neg h3] at hvf
    rw [hvf,if_pos (by omega)] at h
    obtain rfl:=Option.some.inj h
    rfl
end
section
namespace M
theorem comp_trans:∀ l m n:List Int,comp l m < 0→comp m n < 0→comp l n < 0
 | [],[],_,h,_=>by rw [comp] at h;omega
 | [],_::_,[],_,h=>by rw [comp] at h;omega
 | [],_::_,_::_,_,_=>by rw [comp];omega
 | _::_,[],_,h,_=>by rw [comp] at h;omega
 | _::_,_::_,[],_,h=>by rw [comp] at h;omega
 | x::l,y::m,z::n,h,k=>by
  rw [comp] at h k ⊢
  by_cases h1:x < y
  ·by_cases k1:y < z
   ·rw [if_pos (by omega)];omega
   ·rw [if_neg k1] at k
    by_cases k2:z < y
    ·rw [if_pos k2] at k;omega
    ·rw [if_pos (by omega)];omega
  ·rw [if_neg h1] at h
   by_cases h2:y < x
   ·rw [if_pos h2] at h;omega
   ·rw [if_neg h2] at h
    by_cases k1:y < z
    ·rw [if_pos (by omega)];omega
    ·rw [if_neg k1] at k
     by_cases k2:z < y
     ·rw [if_pos k2] at k;omega
     ·rw [if_neg k2] at k
      rw [if_neg (by omega),if_neg (by omega)]
      exact comp_trans l m n h k
theorem cmpS_trans {a1 a2 b1 b2 c1 c2:List Int} (h:cmpS a1 a2 b1 b2 < 0) (k:cmpS b1 b2 c1 c2 < 0):cmpS a1 a2 c1 c2 < 0:=by
 unfold cmpS at h k ⊢
 by_cases h0:comp a1 b1=0
 ·rw [if_pos h0] at h
  have e:=comp_zero _ _ h0
  subst e
  by_cases k0:comp a1 c1=0
  ·rw [if_pos k0] at k ⊢;exact comp_trans _ _ _ h k
  ·rw [if_neg k0] at k ⊢;exact k
 ·rw [if_neg h0] at h
  by_cases k0:comp b1 c1=0
  ·have e:=comp_zero _ _ k0
   subst e
   rw [if_neg h0];exact h
  ·rw [if_neg k0] at k
   have ht:=comp_trans _ _ _ h k
   rw [if_neg (by omega)];exact ht
end M
end
section
open Go.RowKit
theorem ret_i {a b:Int} (h:a=b):Ending.returned (.int .i64 a)=.returned (.int .i64 b):=by rw [h]
theorem isNaN_any (x:Int) (w:World) :
  Calls Tryz.prog 203 #[.int .i64 x] w fun e w'=>e=.returned (.bool false)∧w'=w:=by
 go_enter Tryz.func203,Tryz.ntmps203
 go_wp2
 go_ret
 exact ⟨rfl,rfl⟩
def cmp3 (x y:Int):Int:=if x < y then -1 else if y < x then 1 else 0
theorem compare_any (x y:Int) (w:World) :
  Calls Tryz.prog 172 #[.int .i64 x,.int .i64 y] w fun e w'=>e=.returned (.int .i64 (cmp3 x y))∧w'=w:=by
 by_cases h1:x < y
 ·go_enter Tryz.func172,Tryz.ntmps172
  go_wp2_with (go_at_call 203;refine (isNaN_any _ _).mono ?_;rintro e w' ⟨rfl,rfl⟩)
  go_ret
  exact ⟨ret_i (by simp [cmp3,h1]),rfl⟩
 ·by_cases h2:y < x
  ·go_enter Tryz.func172,Tryz.ntmps172
   go_wp2_with (go_at_call 203;refine (isNaN_any _ _).mono ?_;rintro e w' ⟨rfl,rfl⟩)
   go_ret
   exact ⟨ret_i (by simp [cmp3,h1,h2]),rfl⟩
  ·go_enter Tryz.func172,Tryz.ntmps172
   go_wp2_with (go_at_call 203;refine (isNaN_any _ _).mono ?_;rintro e w' ⟨rfl,rfl⟩)
   go_ret
   exact ⟨ret_i (by rw [cmp3,if_neg (by omega),if_neg (by omega)]),rfl⟩
set_option maxHeartbeats 400000 in
theorem slcmp_any (a:Option Addr) (b o c:Nat) (l:List Int) (a2:Option Addr) (b2 o2 c2:Nat) (m:List Int) (w:World) (hl:l.length≤1048576) (hm:m.length≤1048576) (h:IntS w a b o l) (h2:IntS w a2 b2 o2 m) :
  Calls Tryz.prog 122 #[.slice a l.length c,.slice a2 m.length c2] w fun e w'=>e=.returned (.int .i64 (M.comp l m))∧w'=w:=by
 go_enter Tryz.func122,Tryz.ntmps122
 go_wp2_with fail
 go_loopw [11] (fun s11 wr=>∃ n:Nat,s11=.int .i64 n∧n≤l.length∧n≤m.length∧M.comp l m=M.comp (l.drop n) (m.drop n)∧wr=w) (fun s11 _=>l.length - (intOf s11).toNat)
 case atStart=>exact ⟨0,rfl,Nat.zero_le _,Nat.zero_le _,rfl,rfl⟩
 case round =>
  obtain ⟨n,rfl,hn,hnm,hpass,rfl⟩:=hrel
  have HP:Hid (M.comp l m=M.comp (l.drop n) (m.drop n)):=hpass
  clear hpass
  by_cases hlt:n < l.length
  ·obtain ⟨rfl⟩:=h.addr (by omega)
   have HD:Hid (l.drop n=l[n]::l.drop (n+1)):=M.drop_int l n hlt
   have hc:=h.row n hlt
   generalize l[n]=x at HD hc
   by_cases hmt:n < m.length
   ·obtain ⟨rfl⟩:=h2.addr (by omega)
    have HD2:Hid (m.drop n=m[n]::m.drop (n+1)):=M.drop_int m n hmt
    have hc2:=h2.row n hmt
    generalize m[n]=y at HD2 hc2
    by_cases h1:x < y
    ·have e3:cmp3 x y=-1:=by simp [cmp3,h1]
     go_wp2_with (go_at_call 172;refine (compare_any _ _ _).mono ?_;rw [e3];rintro e w' ⟨rfl,rfl⟩)
     go_ret
     exact ⟨ret_i (M.comp_lt HP.out HD.out HD2.out h1).symm,rfl⟩
    ·by_cases h2':y < x
     ·have e3:cmp3 x y=1:=by simp [cmp3,h1,h2']
      go_wp2_with (go_at_call 172;refine (compare_any _ _ _).mono ?_;rw [e3];rintro e w' ⟨rfl,rfl⟩)
      go_ret
      exact ⟨ret_i (M.comp_gt HP.out HD.out HD2.out h2').symm,rfl⟩
     ·have e3:cmp3 x y=0:=by simp [cmp3,h1,h2']
      go_wp2_with (go_at_call 172;refine (compare_any _ _ _).mono ?_;rw [e3];rintro e w' ⟨rfl,rfl⟩)
      exact ⟨⟨n+1,by go_num,by omega,by omega,M.comp_eq HP.out HD.out HD2.out (by omega) (by omega),trivial⟩,by simp [intOf];omega⟩
   ·have hmt':(m.length:Int)≤n:=by omega
    go_wp2_with fail
    go_ret
    exact ⟨ret_i (M.comp_snd HP.out hlt (by omega)).symm,rfl⟩
  ·by_cases hmt:n < m.length
   ·have e1:(l.length:Int) < m.length:=by omega
    go_wp2_with fail
    go_ret
    exact ⟨ret_i (M.comp_fst HP.out (by omega) hmt).symm,rfl⟩
   ·have e1:¬ (l.length:Int) < m.length:=by omega
    go_wp2_with fail
    go_ret
    exact ⟨ret_i (M.comp_fin HP.out (by omega) (by omega)).symm,rfl⟩
set_option maxHeartbeats 400000 in
theorem or_any (b:Nat) (x y:Int) (w:World) (hx:w.cell? ⟨b,0,none⟩=some (.int .i64 x)) (hy:w.cell? ⟨b,1,none⟩=some (.int .i64 y)) :
  Calls Tryz.prog 121 #[.slice (some ⟨b,0,none⟩) 2 2] w fun e w'=>e=.returned (.int .i64 (if x=0 then y else x))∧w'=w:=by
 by_cases h0:x=0
 ·subst h0
  by_cases h1:y=0
  ·subst h1
   go_enter Tryz.func121,Tryz.ntmps121
   go_wp2_with fail
   refine wp_loop_rounds 3 ?_
   rw [rounds_succ]
   go_wp2_with fail
   rw [rounds_succ]
   go_wp2_with fail
   rw [rounds_succ]
   go_wp2_with fail
   go_ret
   exact ⟨ret_i (by simp),rfl⟩
  ·have h1':(y==0)=false:=by simpa using h1
   go_enter Tryz.func121,Tryz.ntmps121
   go_wp2_with fail
   refine wp_loop_rounds 3 ?_
   rw [rounds_succ]
   go_wp2_with fail
   rw [rounds_succ]
   go_wp2_with fail
   go_ret
   exact ⟨ret_i (by simp),rfl⟩
 ·have h0':(x==0)=false:=by simpa using h0
  go_enter Tryz.func121,Tryz.ntmps121
  go_wp2_with fail
  refine wp_loop_rounds 3 ?_
  rw [rounds_succ]
  go_wp2_with fail
  go_ret
  exact ⟨ret_i (by simp),rfl⟩
end
section
open Go.RowKit
theorem alloc2 (w:World) (x y:Obj):Grown w ((w.alloc x).alloc y):=((Grown.refl w).alloc x).alloc y
set_option maxHeartbeats 1000000 in
set_option maxRecDepth 100000 in
theorem compareSeen_any (s t:Sn) (w:World) (hs:s.Le 1048576) (ht:t.Le 1048576) (hsa:s.At w) (hta:t.At w) :
  Calls Tryz.prog 56 #[.agg #[.slice s.a1 s.l1.length s.c1,.slice s.a2 s.l2.length s.c2],.agg #[.slice t.a1 t.l1.length t.c1,.slice t.a2 t.l2.length t.c2]] w fun e w'=>e=.returned (.int .i64 (M.cmpS s.l1 s.l2 t.l1 t.l2))∧Grown w w':=by
 obtain ⟨a1,b1,o1,c1,l1,a2,b2,o2,c2,l2⟩:=s
 obtain ⟨d1,e1,f1,g1,m1,d2,e2,f2,g2,m2⟩:=t
 obtain ⟨hs1,hs2⟩:=hs
 obtain ⟨ht1,ht2⟩:=ht
 obtain ⟨as1,as2⟩:=hsa
 obtain ⟨at1,at2⟩:=hta
 simp only at hs1 hs2 ht1 ht2 as1 as2 at1 at2
 go_enter Tryz.func56,Tryz.ntmps56
 go_wp2_with fail
 have hg0:Grown w (((w.alloc (.cells #[.slice a1 l1.length c1,.slice a2 l2.length c2] 45)).alloc (.cells #[.slice d1 m1.length g1,.slice d2 m2.length g2] 45))):=alloc2 w _ _
 have k1:((w.alloc (.cells #[.slice a1 l1.length c1,.slice a2 l2.length c2] 45)).alloc (.cells #[.slice d1 m1.length g1,.slice d2 m2.length g2] 45)).cell? ⟨w.heap.size,0,none⟩=some (.slice a1 l1.length c1):=by simp
 have k2:((w.alloc (.cells #[.slice a1 l1.length c1,.slice a2 l2.length c2] 45)).alloc (.cells #[.slice d1 m1.length g1,.slice d2 m2.length g2] 45)).cell? ⟨w.heap.size,1,none⟩=some (.slice a2 l2.length c2):=by simp
 have k3:((w.alloc (.cells #[.slice a1 l1.length c1,.slice a2 l2.length c2] 45)).alloc (.cells #[.slice d1 m1.length g1,.slice d2 m2.length g2] 45)).cell? ⟨w.heap.size+1,0,none⟩=some (.slice d1 m1.length g1):=by simp
 have k4:((w.alloc (.cells #[.slice a1 l1.length c1,.slice a2 l2.length c2] 45)).alloc (.cells #[.slice d1 m1.length g1,.slice d2 m2.length g2] 45)).cell? ⟨w.heap.size+1,1,none⟩=some (.slice d2 m2.length g2):=by simp
 generalize (w.alloc (.cells #[.slice a1 l1.length c1,.slice a2 l2.length c2] 45)).alloc (.cells #[.slice d1 m1.length g1,.slice d2 m2.length g2] 45)=W at *
 have x1:=as1.below hg0.drew.bel (Nat.le_refl _)
 have x2:=as2.below hg0.drew.bel (Nat.le_refl _)
 have y1:=at1.below hg0.drew.bel (Nat.le_refl _)
 have y2:=at2.below hg0.drew.bel (Nat.le_refl _)
 generalize w.heap.size=B at *
 have C1:=slcmp_any a1 b1 o1 c1 l1 d1 e1 f1 g1 m1 _ hs1 ht1 x1 y1
 have C2:=slcmp_any a2 b2 o2 c2 l2 d2 e2 f2 g2 m2 _ hs2 ht2 x2 y2
 obtain ⟨r1,hr1⟩:∃ r,M.comp l1 m1=r:=⟨_,rfl⟩
 obtain ⟨r2,hr2⟩:∃ r,M.comp l2 m2=r:=⟨_,rfl⟩
 obtain ⟨ro,hro⟩:∃ r,(if r1=0 then r2 else r1)=r:=⟨_,rfl⟩
 have hcs:M.cmpS l1 l2 m1 m2=ro:=by unfold M.cmpS;rw [hr1,hr2,hro]
 have HR:Hid (M.cmpS l1 l2 m1 m2=ro):=hcs
 have C3:∀ b W',W'.cell? ⟨b,0,none⟩=some (.int .i64 r1)→W'.cell? ⟨b,1,none⟩=some (.int .i64 r2)→Calls Tryz.prog 121 #[.slice (some ⟨b,0,none⟩) 2 2] W' fun e w'=>e=.returned (.int .i64 ro)∧w'=W':=fun b W' h1 h2=>by have h:=or_any b r1 r2 W' h1 h2;rwa [hro] at h
 clear hcs hro
 rw [hr1] at C1
 rw [hr2] at C2
 clear hr1 hr2
 clear as1 as2 at1 at2 x1 x2 y1 y2 hs1 hs2 ht1 ht2
 generalize l1.length=n1 at *
 generalize l2.length=n2 at *
 generalize m1.length=p1 at *
 generalize m2.length=p2 at *
 go_region_held3 (fun w'=>w'.cell? ⟨B,0,none⟩=some (.slice a1 n1 c1)∧w'.cell? ⟨B,1,none⟩=some (.slice a2 n2 c2)∧w'.cell? ⟨B+1,0,none⟩=some (.slice d1 p1 g1)∧w'.cell? ⟨B+1,1,none⟩=some (.slice d2 p2 g2)) (go_keep) (first
  | (go_at_call_of 122 (Value.slice a1 n1 c1);refine C1.mono ?_;rintro e w' ⟨rfl,rfl⟩)
  | (go_at_call_of 122 (Value.slice a2 n2 c2);refine C2.mono ?_;rintro e w' ⟨rfl,rfl⟩)
  | (go_at_call 121;refine (C3 _ _ ?_ ?_).mono ?_;(simp);(simp);rintro e w' ⟨rfl,rfl⟩))
 go_wp2_with fail
 go_ret
 exact ⟨ret_i HR.out.symm,(hg0.alloc _).drew⟩
end
section
open Go.RowKit
abbrev Key:=List Int × List Int
def KLe (ks:List Key) (n:Nat):Prop:=∀ k∈ks,k.1.length≤n∧k.2.length≤n
namespace M
end M
end
section
namespace M
def rowOf (row evs:List Int):Bool:=decide (row.length=evs.length)&&evs.all (fun v=>has row v)
def rowN (row:List Int) (n:Nat):Bool:=rowOf row (bel n)
def pick {α:Type} (z:α) (row:List Int) (l:List α):List α:=row.map fun i=>l.getD i.toNat z
end M
end
section
open Go.RowKit
def M.turned {α:Type} (z:α) (row:List Int) (l:List α):List α:=if M.rowN row l.length then M.pick z row l else []
end
end Go.Proofs.YtmhpgdliaclokaaGreat
