/- What it is that of what was there only one block has turned. No condition. And what goes with it: But, SnMath, SnMem, SnFar, Leaf, StepGo, SnOrd. -/
import Derived.Deep.AppendLies
import Derived.Deep.RegionLaw
import Derived.Shelf.Abstract
import Derived.Sort.Grow
import Derived.Test.YtmhpgdliaclokaaGreatRows
import Derived.Test.YtmhpgdliaclokaaGreatQzab
namespace Go.Proofs.YtmhpgdliaclokaaGreat
section
open Go.RowKit
structure But (rb:Nat) (w w':World):Prop where
 os:w'.os=w.os
 tape:w'.tape=w.tape
 output:w'.output=w.output
 size:w.heap.size≤w'.heap.size
 block:∀ k,k < w.heap.size→k≠rb→w'.heap[k]?=w.heap[k]?
theorem But.refl (rb:Nat) (w:World):But rb w w:=⟨rfl,rfl,rfl,Nat.le_refl _,fun _ _ _=>rfl⟩
theorem But.trans {rb:Nat} {a b c:World} (h:But rb a b) (k:But rb b c):But rb a c :=
 ⟨k.os.trans h.os,k.tape.trans h.tape,k.output.trans h.output,Nat.le_trans h.size k.size,fun i hi hne=>(k.block i (Nat.lt_of_lt_of_le hi h.size) hne).trans (h.block i hi hne)⟩
theorem But.of {rb:Nat} {w w':World} (h:Below w.heap.size w w'):But rb w w':=⟨h.os,h.tape,h.output,h.size,fun k hk _=>h.block k hk⟩
theorem But.drew {rb:Nat} {a w:World} (h:But rb a w):But rb a w.drew:=⟨h.os,h.tape,h.output,h.size,h.block⟩
theorem But.drewN {rb:Nat} {a w:World} (h:But rb a w):∀ n,But rb a (w.drewN n)
 | 0=>h
 | n+1=>by
  have:=h.drewN n
  exact ⟨this.os,this.tape,this.output,this.size,this.block⟩
theorem But.alloc {rb:Nat} {a w:World} (h:But rb a w) (o:Obj):But rb a (w.alloc o):=h.trans (But.of (below1 w o))
theorem But.setCell {rb:Nat} {a w:World} (h:But rb a w) {p:Addr} (hp:a.heap.size≤p.block∨p.block=rb) (u:Value):But rb a (w.setCell p u) :=
 ⟨h.os,h.tape,h.output,by rw [show (w.setCell p u).heap.size=w.heap.size from by simp [World.setCell]];exact h.size,fun k hk hne=>(Below.heap_setCell _ _ _ _ (by rcases hp with hp | hp<;>omega)).trans (h.block k hk hne)⟩
theorem But.cell {rb:Nat} {w w':World} (h:But rb w w') {p:Addr} (hp:p.block < w.heap.size) (hne:p.block≠rb):w'.cell? p=w.cell? p:=World.cell?_of_block (w:=w) (h.block p.block hp hne)
theorem But.frozen {rb:Nat} {w w':World} (h:But rb w w') {p:Addr} (hp:p.block < w.heap.size) (hne:p.block≠rb):w'.frozen? p=w.frozen? p:=World.frozen?_of_block (w:=w) (h.block p.block hp hne)
theorem But.below {rb:Nat} {w w1 w':World} (h:Below w.heap.size w w1) (k:But rb w1 w') (hr:w.heap.size≤rb):Below w.heap.size w w' :=
 ⟨k.os.trans h.os,k.tape.trans h.tape,k.output.trans h.output,Nat.le_trans h.size k.size,fun i hi=>(k.block i (Nat.lt_of_lt_of_le hi h.size) (by omega)).trans (h.block i hi)⟩
end
section
namespace M
def comp:List Int→List Int→Int
 | [],[]=>0
 | [],_::_=>-1
 | _::_,[]=>1
 | x::a,y::b=>if x < y then -1 else if y < x then 1 else comp a b
theorem drop_int (l:List Int) (n:Nat) (h:n < l.length):l.drop n=l[n]::l.drop (n+1):=(List.getElem_cons_drop h).symm
def cmpS (a1 a2 b1 b2:List Int):Int:=if comp a1 b1=0 then comp a2 b2 else comp a1 b1
def vals (l:List Int):Bool:=l.all fun v=>decide (0≤v)&&decide (v≤3)
end M
end
section
open Go.RowKit
structure IntS (w:World) (a:Option Addr) (b o:Nat) (l:List Int):Prop where
 addr:0 < l.length→a=some ⟨b,o,none⟩
 row:∀ i (h:i < l.length),w.cell? ⟨b,o+i,none⟩=some (.int .i64 l[i])
theorem IntS.lt {w:World} {a:Option Addr} {b o:Nat} {l:List Int} (h:IntS w a b o l) (hl:0 < l.length):b < w.heap.size:=World.block_lt_of_cell? _ _ (h.row 0 hl)
theorem IntS.below {w w':World} {a:Option Addr} {B b o:Nat} {l:List Int} (h:IntS w a b o l) (hb:Below B w w') (hB:w.heap.size≤B):IntS w' a b o l :=
 ⟨h.addr,fun i hi=>by rw [hb.cell (p:=⟨b,o+i,none⟩) (Nat.lt_of_lt_of_le (h.lt (by omega)) hB)];exact h.row i hi⟩
theorem IntS.nil (w:World) (a:Option Addr) (b o:Nat):IntS w a b o []:=⟨fun h=>absurd h (Nat.lt_irrefl _),fun _ hi=>absurd hi (Nat.not_lt_zero _)⟩
structure Grown (w w':World):Prop where
 bel:Below w.heap.size w w'
 drawn:w.drawn≤w'.drawn
theorem Grown.refl (w:World):Grown w w:=⟨Below.refl _ _,Nat.le_refl _⟩
theorem Grown.drewN {a b:World} (h:Grown a b) (n:Nat):Grown a (b.drewN n):=⟨h.bel.trans ⟨rfl,rfl,rfl,Nat.le_refl _,fun _ _=>rfl⟩,Nat.le_trans h.drawn (Nat.le_add_right _ _)⟩
structure Sn where
 a1:Option Addr
 b1:Nat
 o1:Nat
 c1:Nat
 l1:List Int
 a2:Option Addr
 b2:Nat
 o2:Nat
 c2:Nat
 l2:List Int
end
section
open Go.RowKit
theorem But.grown {rb:Nat} {w0 w w':World} {row:Option Nat} (h:But rb w0 w) (hg:w.grownBy w' row) (hr:∀ k,row=some k→w0.heap.size≤k):But rb w0 w' :=
 ⟨hg.os.trans h.os,hg.tape.trans h.tape,hg.output.trans h.output,Nat.le_trans h.size hg.size,fun k hk hne=>(hg.block k (Nat.lt_of_lt_of_le hk h.size) (fun e=>by have:=hr k e.symm;omega)).trans (h.block k hk hne)⟩
theorem own_ge {w:World} {base:Nat} {e:TypeId} {size:Nat} {v:Value} {n:Nat} {xs:List Value} (h:w.ownsRow base e size v n xs):∀ k,v.ownBlock=some k→base≤k:=fun k hk=>(h.lt k hk).1
theorem below_grown {B:Nat} {w0 w w':World} {row:Option Nat} (h:Below B w0 w) (hg:w.grownBy w' row) (hr:∀ k,row=some k→B≤k) (hB:B≤w.heap.size:=by simp):Below B w0 w' :=
 ⟨hg.os.trans h.os,hg.tape.trans h.tape,hg.output.trans h.output,Nat.le_trans h.size hg.size,fun k hk=>(hg.block k (by omega) (fun e=>by have:=hr k e.symm;omega)).trans (h.block k hk)⟩
theorem ownsRow_below {w w':World} {base:Nat} {e:TypeId} {size:Nat} {v:Value} {n:Nat} {xs:List Value} (h:w.ownsRow base e size v n xs) (hb:Below w.heap.size w w'):w'.ownsRow base e size v n xs:=by
 obtain ⟨h1,h2⟩:=h
 refine ⟨h1,?_⟩
 rcases h2 with h2 | ⟨g,cap,cur,hv,hg,hh,r⟩
 ·exact Or.inl h2
 ·refine Or.inr ⟨g,cap,cur,hv,hg,?_,r⟩
  rw [hb.block g (by by_cases hlt:g < w.heap.size;exact hlt;rw [Array.getElem?_eq_none (by omega)] at hh;cases hh)]
  exact hh
def nums (l:List Int):List Value:=l.map (.int .i64)
theorem own_nums {w:World} {base:Nat} {v:Value} {l:List Int} (h:w.ownsRow base 3 1 v l.length (nums l)):∃ a g c,v=.slice a l.length c∧IntS w a g 0 l∧base≤g∧(a=none→c=0):=by
 rcases h.2 with ⟨hv,hn⟩ | ⟨g,cap,cur,hv,hg,hh,r⟩
 ·have:l=[]:=List.length_eq_zero_iff.1 hn
  subst this
  exact ⟨none,base,0,hv,IntS.nil _ _ _ _,Nat.le_refl _,fun _=>rfl⟩
 ·refine ⟨_,g,cap,hv,⟨fun _=>rfl,fun i hi=>?_⟩,hg,fun h=>by cases h⟩
  have hc:=h.cells (g:=g) (by rw [hv];rfl) i (.int .i64 l[i]) (by simp [nums,hi])
  rwa [Go.WideShapes.add_plain] at hc
theorem three {m:List Int} (h:m.length=3):∃ x y z,m=[x,y,z]:=by
 match m,h with
 | [x,y,z],_=>exact ⟨x,y,z,rfl⟩
theorem alloc_new (w:World) (o:Obj) (n:Nat) (hn:n=w.heap.size):(w.alloc o).heap[n]?=some o:=by subst hn;exact heap_alloc_new w o
theorem alloc_old (w:World) (o:Obj) (k:Nat) (hk:k < w.heap.size):(w.alloc o).heap[k]?=w.heap[k]?:=(below1 w o).block k hk
theorem Tryz.infoInt:(Tryz.prog.info? 3).map (fun i=>(i.zero,i.size,i.bytes))=some (some (.int .i64 0),1,8):=by kernel_rfl
theorem IntS.but {w w':World} {a:Option Addr} {rb b o:Nat} {l:List Int} (h:IntS w a b o l) (hb:But rb w w') (hne:b≠rb):IntS w' a b o l :=
 ⟨h.addr,fun i hi=>by rw [hb.cell (p:=⟨b,o+i,none⟩) (h.lt (by omega)) hne];exact h.row i hi⟩
theorem IntS.far {w:World} {a:Option Addr} {b o B i:Nat} {l:List Int} {u:Value} (h:IntS w a b o l) (hb:0 < l.length→b≠B):IntS (w.setCell ⟨B,i,none⟩ u) a b o l :=
 ⟨h.addr,fun j hj=>by rw [World.cell?_setCell_other _ _ _ _ (fun e=>hb (by omega) (congrArg Addr.block e).symm)];exact h.row j hj⟩
theorem own_fzS {w:World} {B g n cap:Nat} {e:TypeId} {size:Nat} {xs:List Value} (h:w.ownsRow B e size (.slice (some ⟨g,0,none⟩) n cap) n xs) (i:Nat):w.frozen? ⟨g,i,none⟩=false:=by
 rcases h.2 with ⟨hv,_⟩ | ⟨g',cap',cur,hv,_,hh,_⟩
 ·simp at hv
 ·simp at hv
  obtain ⟨rfl,_⟩:=hv
  simp [World.frozen?,hh]
end
section
open Go.RowKit
theorem reads_any (k:Int) (w:World) :
  Calls Tryz.prog 86 #[.int .i64 k] w fun e w'=>e=.returned (.bool (M.reads k))∧w'=w:=by
 by_cases h2:k=2
 ·subst h2
  go_enter Tryz.func86,Tryz.ntmps86
  go_wp2
  go_ret
  exact ⟨ret_bool (by simp [M.reads]),rfl⟩
 ·have h2':(k==2)=false:=by simpa using h2
  go_enter Tryz.func86,Tryz.ntmps86
  go_wp2
  go_ret
  exact ⟨ret_bool (by simp [M.reads,h2']),rfl⟩
theorem stores_any (k:Int) (w:World) :
  Calls Tryz.prog 184 #[.int .i64 k] w fun e w'=>e=.returned (.bool (M.stores k))∧w'=w:=by
 by_cases h1:k=1
 ·subst h1
  go_enter Tryz.func184,Tryz.ntmps184
  go_wp2
  go_ret
  exact ⟨ret_bool (by simp [M.stores]),rfl⟩
 ·have h1':(k==1)=false:=by simpa using h1
  go_enter Tryz.func184,Tryz.ntmps184
  go_wp2
  go_ret
  exact ⟨ret_bool (by simp [M.stores,h1']),rfl⟩
theorem writes_any (k:Int) (w:World) :
  Calls Tryz.prog 148 #[.int .i64 k] w fun e w'=>e=.returned (.bool (M.writes k))∧w'=w:=by
 cases hs:M.stores k
 all_goals
  go_enter Tryz.func148,Tryz.ntmps148
  go_wp2_with (go_at_call 184;refine (stores_any _ _).mono ?_;rintro e w' ⟨rfl,rfl⟩)
  go_ret
  exact ⟨ret_bool (by simp [M.writes,hs]),rfl⟩
theorem uses_any (k:Int) (w:World) :
  Calls Tryz.prog 104 #[.int .i64 k] w fun e w'=>e=.returned (.bool (M.uses k))∧w'=w:=by
 cases hs:M.reads k
 all_goals
  go_enter Tryz.func104,Tryz.ntmps104
  go_wp2_with (first | (go_at_call 86;refine (reads_any _ _).mono ?_;rintro e w' ⟨rfl,rfl⟩) | (go_at_call 148;refine (writes_any _ _).mono ?_;rintro e w' ⟨rfl,rfl⟩))
  go_ret
  exact ⟨ret_bool (by simp [M.uses,hs]),rfl⟩
theorem placeOk_any (k p:Int) (w:World) :
  Calls Tryz.prog 188 #[.int .i64 k,.int .i64 p] w fun e w'=>e=.returned (.bool (M.placeOk k p))∧w'=w:=by
 cases hs:M.uses k
 ·go_enter Tryz.func188,Tryz.ntmps188
  go_wp2_with (go_at_call 104;refine (uses_any _ _).mono ?_;rintro e w' ⟨rfl,rfl⟩)
  go_ret
  exact ⟨ret_bool (by simp [M.placeOk,hs]),rfl⟩
 ·by_cases hp:0≤p
  ·go_enter Tryz.func188,Tryz.ntmps188
   go_wp2_with (go_at_call 104;refine (uses_any _ _).mono ?_;rintro e w' ⟨rfl,rfl⟩)
   go_ret
   exact ⟨ret_bool (by simp [M.placeOk,hs,hp]),rfl⟩
  ·have hp':decide (0≤p)=false:=by simpa using hp
   go_enter Tryz.func188,Tryz.ntmps188
   go_wp2_with (go_at_call 104;refine (uses_any _ _).mono ?_;rintro e w' ⟨rfl,rfl⟩)
   go_ret
   exact ⟨ret_bool (by simp [M.placeOk,hs];omega),rfl⟩
theorem valOk_any (k v:Int) (w:World) :
  Calls Tryz.prog 189 #[.int .i64 k,.int .i64 v] w fun e w'=>e=.returned (.bool (M.valOk k v))∧w'=w:=by
 cases hs:M.stores k
 ·go_enter Tryz.func189,Tryz.ntmps189
  go_wp2_with (go_at_call 184;refine (stores_any _ _).mono ?_;rintro e w' ⟨rfl,rfl⟩)
  go_ret
  exact ⟨ret_bool (by simp [M.valOk,hs]),rfl⟩
 ·by_cases hp:1≤v
  ·go_enter Tryz.func189,Tryz.ntmps189
   go_wp2_with (go_at_call 184;refine (stores_any _ _).mono ?_;rintro e w' ⟨rfl,rfl⟩)
   go_ret
   exact ⟨ret_bool (by simp [M.valOk,hs,hp]),rfl⟩
  ·have hp':decide (1≤v)=false:=by simpa using hp
   go_enter Tryz.func189,Tryz.ntmps189
   go_wp2_with (go_at_call 184;refine (stores_any _ _).mono ?_;rintro e w' ⟨rfl,rfl⟩)
   go_ret
   exact ⟨ret_bool (by simp [M.valOk,hs];omega),rfl⟩
theorem l6In_any (n a b:Int) (w:World) :
  Calls Tryz.prog 59 #[.int .i64 n,.int .i64 a,.int .i64 b] w fun e w'=>e=.returned (.bool (M.rng a b n))∧w'=w:=by
 by_cases hp:a≤n
 ·go_enter Tryz.func59,Tryz.ntmps59
  go_wp2
  go_ret
  exact ⟨ret_bool (by simp [M.rng,hp]),rfl⟩
 ·have hp':decide (a≤n)=false:=by simpa using hp
  go_enter Tryz.func59,Tryz.ntmps59
  go_wp2
  go_ret
  exact ⟨ret_bool (by simp [M.rng,hp']),rfl⟩
theorem l1Reads_any (d:M.D) (w:World) :
  Calls Tryz.prog 76 #[.agg #[.int .i64 d.k,.int .i64 d.p,.int .i64 d.v]] w fun e w'=>e=.returned (.bool (M.reads d.k))∧w'=w.alloc (.cells #[.int .i64 d.k,.int .i64 d.p,.int .i64 d.v] 94):=by
 obtain ⟨k,p,v⟩:=d
 by_cases h2:k=2
 ·subst h2
  go_enter Tryz.func76,Tryz.ntmps76
  go_wp2
  go_ret
  exact ⟨ret_bool (by simp [M.reads]),rfl⟩
 ·have h2':(k==2)=false:=by simpa using h2
  go_enter Tryz.func76,Tryz.ntmps76
  go_wp2
  go_ret
  exact ⟨ret_bool (by simp [M.reads,h2']),rfl⟩
theorem l1Writes_any (d:M.D) (w:World) :
  Calls Tryz.prog 78 #[.agg #[.int .i64 d.k,.int .i64 d.p,.int .i64 d.v]] w fun e w'=>e=.returned (.bool (M.writes d.k))∧w'=w.alloc (.cells #[.int .i64 d.k,.int .i64 d.p,.int .i64 d.v] 94):=by
 obtain ⟨k,p,v⟩:=d
 by_cases h1:k=1
 ·subst h1
  go_enter Tryz.func78,Tryz.ntmps78
  go_wp2
  go_ret
  exact ⟨ret_bool (by simp [M.writes,M.stores]),rfl⟩
 ·have h1':(k==1)=false:=by simpa using h1
  by_cases h3:k=3
  ·subst h3
   go_enter Tryz.func78,Tryz.ntmps78
   go_wp2
   go_ret
   exact ⟨ret_bool (by simp [M.writes,M.stores]),rfl⟩
  ·have h3':(k==3)=false:=by simpa using h3
   go_enter Tryz.func78,Tryz.ntmps78
   go_wp2
   go_ret
   exact ⟨ret_bool (by simp [M.writes,M.stores,h1',h3']),rfl⟩
end
section
open Go.RowKit
theorem step_go {P:Program} {ops:Array Oper} {o:Oper} {a:Act} {w:World} {K:Act→World→Prop} {Q:Exit→Act→World→Prop} {E:Prop}
  (hg:o.guard=none) (f:FuncId) (os:Array Operand) (ts:Array TypeId) (hop:o.op=Op.call { callee:=Callee.value (Operand.func f),args:=os,argTypes:=ts })
  (vals:Array Value) (hv:os.map a.eval=vals) (he:∀ args w,(callFunc f args).run P w=.ok (.enter f args) w) {R:Ending→World→Prop} (hc:Calls P f vals w R)
  (hK:∀ e w',R e w'→∃ v,e=.returned v∧K (a.put o.dst v) w') :
  if Region.wanted o (yielded ops a.tmps)=true then Oper.wp P o a w K Q else E:=by
 have hw:Region.wanted o (yielded ops a.tmps)=true:=by simp [Region.wanted,hg]
 rw [if_pos hw]
 subst hv
 have hr:(execOp a.eval o).run P w=.ok (.enter f (os.map a.eval)) w:=by
  simp [execOp,hop,resolve,invoke,Act.eval,Deferred.ofValue,he]
 unfold Oper.wp
 rw [hr,Oper.upon_enter]
 refine hc.mono fun e w' h=>?_
 obtain ⟨v,rfl,hk⟩:=hK e w' h
 exact hk
theorem step_go2 {P:Program} {ops:Array Oper} {o:Oper} {a:Act} {w:World} {K:Act→World→Prop} {Q:Exit→Act→World→Prop} {E:Prop}
  (hg:o.guard=none) (f:FuncId) (x y:Operand) (ts:Array TypeId) (hop:o.op=Op.call { callee:=Callee.value (Operand.func f),args:=#[x,y],argTypes:=ts })
  (vx vy:Value) (hx:a.eval x=vx) (hy:a.eval y=vy) (he:∀ args w,(callFunc f args).run P w=.ok (.enter f args) w) {R:Ending→World→Prop} (hc:Calls P f #[vx,vy] w R)
  (hK:∀ e w',R e w'→∃ v,e=.returned v∧K (a.put o.dst v) w') :
  if Region.wanted o (yielded ops a.tmps)=true then Oper.wp P o a w K Q else E :=
 step_go hg f #[x,y] ts hop #[vx,vy] (by simp [hx,hy]) he hc hK
theorem step_go3 {P:Program} {ops:Array Oper} {o:Oper} {a:Act} {w:World} {K:Act→World→Prop} {Q:Exit→Act→World→Prop} {E:Prop}
  (hg:o.guard=none) (f:FuncId) (x y z:Operand) (ts:Array TypeId) (hop:o.op=Op.call { callee:=Callee.value (Operand.func f),args:=#[x,y,z],argTypes:=ts })
  (vx vy vz:Value) (hx:a.eval x=vx) (hy:a.eval y=vy) (hz:a.eval z=vz) (he:∀ args w,(callFunc f args).run P w=.ok (.enter f args) w) {R:Ending→World→Prop} (hc:Calls P f #[vx,vy,vz] w R)
  (hK:∀ e w',R e w'→∃ v,e=.returned v∧K (a.put o.dst v) w') :
  if Region.wanted o (yielded ops a.tmps)=true then Oper.wp P o a w K Q else E :=
 step_go hg f #[x,y,z] ts hop #[vx,vy,vz] (by simp [hx,hy,hz]) he hc hK
end
section
namespace M
theorem comp_self (l:List Int):comp l l=0:=by
 induction l with
 | nil=>rfl
 | cons x l ih=>rw [comp,if_neg (by omega),if_neg (by omega)];exact ih
theorem comp_zero:∀ l m:List Int,comp l m=0→l=m
 | [],[],_=>rfl
 | [],_::_,h=>by rw [comp] at h;cases h
 | _::_,[],h=>by rw [comp] at h;cases h
 | x::l,y::m,h=>by
  rw [comp] at h
  by_cases h1:x < y
  ·rw [if_pos h1] at h;cases h
  ·rw [if_neg h1] at h
   by_cases h2:y < x
   ·rw [if_pos h2] at h;cases h
   ·rw [if_neg h2] at h
    rw [comp_zero l m h,show x=y by omega]
theorem comp_neg:∀ l m:List Int,comp m l=- comp l m
 | [],[]=>rfl
 | [],_::_=>rfl
 | _::_,[]=>rfl
 | x::l,y::m=>by
  rw [comp,comp]
  by_cases h1:x < y
  ·rw [if_pos h1,if_neg (by omega),if_pos h1];rfl
  ·by_cases h2:y < x
   ·rw [if_pos h2,if_neg h1,if_pos h2]
   ·rw [if_neg h2,if_neg h1,if_neg h1,if_neg h2];exact comp_neg l m
theorem cmpS_self (a b:List Int):cmpS a b a b=0:=by rw [cmpS,comp_self,if_pos rfl,comp_self]
theorem cmpS_zero {a1 a2 b1 b2:List Int} (h:cmpS a1 a2 b1 b2=0):a1=b1∧a2=b2:=by
 unfold cmpS at h
 by_cases h0:comp a1 b1=0
 ·rw [if_pos h0] at h;exact ⟨comp_zero _ _ h0,comp_zero _ _ h⟩
 ·rw [if_neg h0] at h;exact absurd h h0
theorem cmpS_neg (a1 a2 b1 b2:List Int):cmpS b1 b2 a1 a2=- cmpS a1 a2 b1 b2:=by
 unfold cmpS
 rw [comp_neg a1 b1,comp_neg a2 b2]
 by_cases h0:comp a1 b1=0
 ·rw [if_pos h0,if_pos (by omega)]
 ·rw [if_neg h0,if_neg (by omega)]
def same:List Int→List Int→Bool
 | [],[]=>true
 | x::l,y::m=>x==y&&same l m
 | _,_=>false
theorem same_eq:∀ l m:List Int,same l m=true↔l=m
 | [],[]=>by simp [same]
 | [],_::_=>by simp [same]
 | _::_,[]=>by simp [same]
 | x::l,y::m=>by simp [same,same_eq l m]
def sameS (a1 a2 b1 b2:List Int):Bool:=same a1 b1&&same a2 b2
theorem sameS_eq (a1 a2 b1 b2:List Int):sameS a1 a2 b1 b2=decide (cmpS a1 a2 b1 b2=0):=by
 by_cases h:cmpS a1 a2 b1 b2=0
 ·obtain ⟨rfl,rfl⟩:=cmpS_zero h
  simp [sameS,h,(same_eq _ _).2]
 ·rw [decide_eq_false h]
  by_cases h1:a1=b1
  ·by_cases h2:a2=b2
   ·subst h1;subst h2;exact absurd (cmpS_self _ _) h
   ·have:same a2 b2=false:=by
     cases e:same a2 b2
     ·rfl
     ·exact absurd ((same_eq _ _).1 e) h2
    rw [sameS,this,Bool.and_false]
  ·have:same a1 b1=false:=by
    cases e:same a1 b1
    ·rfl
    ·exact absurd ((same_eq _ _).1 e) h1
   rw [sameS,this,Bool.false_and]
end M
end
end Go.Proofs.YtmhpgdliaclokaaGreat
