/- The plain mathematics of what was seen: how numbers, and what was seen, are compared. No condition. And what goes with it: SnMath, SnMem, SnFar, SnCmp, SnSee, SnIn, SnOrd. -/
import Derived.BigQuiet
import Derived.Deep.AppendLies
import Derived.Deep.RegionHeld3
import Derived.Test.YtnddmlgnngdaoaaGreatDoorRows
import Derived.Test.YtnddmlgnngdaoaaGreatDoorQsad
namespace Go.Proofs.YtnddmlgnngdaoaaGreatDoor
section
namespace M
def comp:List Int→List Int→Int
 | [],[]=>0
 | [],_::_=>-1
 | _::_,[]=>1
 | x::a,y::b=>if x < y then -1 else if y < x then 1 else comp a b
theorem comp_lt {l m:List Int} {n:Nat} {x y:Int} (h:comp l m=comp (l.drop n) (m.drop n)) (hl:l.drop n=x::l.drop (n+1)) (hm:m.drop n=y::m.drop (n+1)) (hxy:x < y):comp l m=-1:=by
 rw [h,hl,hm,comp,if_pos hxy]
theorem comp_gt {l m:List Int} {n:Nat} {x y:Int} (h:comp l m=comp (l.drop n) (m.drop n)) (hl:l.drop n=x::l.drop (n+1)) (hm:m.drop n=y::m.drop (n+1)) (hxy:y < x):comp l m=1:=by
 rw [h,hl,hm,comp,if_neg (by omega),if_pos hxy]
theorem comp_eq {l m:List Int} {n:Nat} {x y:Int} (h:comp l m=comp (l.drop n) (m.drop n)) (hl:l.drop n=x::l.drop (n+1)) (hm:m.drop n=y::m.drop (n+1)) (h1:¬ x < y) (h2:¬ y < x):comp l m=comp (l.drop (n+1)) (m.drop (n+1)):=by
 rw [h,hl,hm,comp,if_neg h1,if_neg h2]
theorem comp_fst {l m:List Int} {n:Nat} (h:comp l m=comp (l.drop n) (m.drop n)) (hl:l.length≤n) (hm:n < m.length):comp l m=-1:=by
 rw [h,List.drop_eq_nil_of_le hl,(List.getElem_cons_drop hm).symm,comp]
theorem comp_snd {l m:List Int} {n:Nat} (h:comp l m=comp (l.drop n) (m.drop n)) (hl:n < l.length) (hm:m.length≤n):comp l m=1:=by
 rw [h,List.drop_eq_nil_of_le hm,(List.getElem_cons_drop hl).symm,comp]
theorem comp_fin {l m:List Int} {n:Nat} (h:comp l m=comp (l.drop n) (m.drop n)) (hl:l.length≤n) (hm:m.length≤n):comp l m=0:=by
 rw [h,List.drop_eq_nil_of_le hl,List.drop_eq_nil_of_le hm,comp]
theorem drop_int (l:List Int) (n:Nat) (h:n < l.length):l.drop n=l[n]::l.drop (n+1):=(List.getElem_cons_drop h).symm
def cmpS (a1 a2 b1 b2:List Int):Int:=if comp a1 b1=0 then comp a2 b2 else comp a1 b1
def vals (l:List Int):Bool:=l.all fun v=>decide (0≤v)&&decide (v≤3)
end M
end
section
open Go.RowKit
structure IntS (w:World) (a:Option Addr) (b o:Nat) (l:List Int):Prop where
 addr:0 < l.length→a=some ⟨b,o,none⟩
 row:∀ i (h:i < l.length),w.cell? ⟨b,o+i,none⟩=some (.int .i64 l[i])
theorem IntS.lt {w:World} {a:Option Addr} {b o:Nat} {l:List Int} (h:IntS w a b o l) (hl:0 < l.length):b < w.heap.size:=World.block_lt_of_cell? _ _ (h.row 0 hl)
theorem IntS.below {w w':World} {a:Option Addr} {B b o:Nat} {l:List Int} (h:IntS w a b o l) (hb:Below B w w') (hB:w.heap.size≤B):IntS w' a b o l :=
 ⟨h.addr,fun i hi=>by rw [hb.cell (p:=⟨b,o+i,none⟩) (Nat.lt_of_lt_of_le (h.lt (by omega)) hB)];exact h.row i hi⟩
theorem IntS.nil (w:World) (a:Option Addr) (b o:Nat):IntS w a b o []:=⟨fun h=>absurd h (Nat.lt_irrefl _),fun _ hi=>absurd hi (Nat.not_lt_zero _)⟩
structure Grown (w w':World):Prop where
 bel:Below w.heap.size w w'
 drawn:w.drawn≤w'.drawn
theorem Grown.refl (w:World):Grown w w:=⟨Below.refl _ _,Nat.le_refl _⟩
theorem Grown.trans {a b c:World} (h:Grown a b) (k:Grown b c):Grown a c:=⟨h.bel.trans (k.bel.mono h.bel.size),Nat.le_trans h.drawn k.drawn⟩
theorem Grown.alloc {a b:World} (h:Grown a b) (o:Obj):Grown a (b.alloc o):=⟨h.bel.alloc h.bel.size o,h.drawn⟩
theorem Grown.drewN {a b:World} (h:Grown a b) (n:Nat):Grown a (b.drewN n):=⟨h.bel.trans ⟨rfl,rfl,rfl,Nat.le_refl _,fun _ _=>rfl⟩,Nat.le_trans h.drawn (Nat.le_add_right _ _)⟩
theorem Grown.drew {a b:World} (h:Grown a b):Grown a b.drew:=h.drewN 1
theorem Grown.grow {w w':World} (h:Grown w w'):∃ q os,w'=Sort.grow (w.drewN q) os:=by
 obtain ⟨⟨ho,ht,hu,hs,hb⟩,hd⟩:=h
 refine ⟨w'.drawn - w.drawn,w'.heap.extract w.heap.size w'.heap.size,?_⟩
 obtain ⟨heap,tape,drawn,os,output⟩:=w
 obtain ⟨heap',tape',drawn',os',output'⟩:=w'
 simp only at ho ht hu hs hb hd
 subst ho;subst ht;subst hu
 simp only [Sort.grow,World.drewN,World.mk.injEq,true_and,and_true]
 refine ⟨?_,by omega⟩
 apply Array.ext_getElem?
 intro i
 rw [Array.getElem?_append]
 by_cases hi:i < heap.size
 ·rw [if_pos hi];exact hb i hi
 ·rw [if_neg hi,Array.getElem?_extract]
  by_cases h2:i < heap'.size
  ·rw [if_pos (by omega)];congr 1;omega
  ·rw [if_neg (by omega)];exact Array.getElem?_eq_none (by omega)
structure Sn where
 a1:Option Addr
 b1:Nat
 o1:Nat
 c1:Nat
 l1:List Int
 a2:Option Addr
 b2:Nat
 o2:Nat
 c2:Nat
 l2:List Int
structure Sn.At (s:Sn) (w:World):Prop where
 reads:IntS w s.a1 s.b1 s.o1 s.l1
 last:IntS w s.a2 s.b2 s.o2 s.l2
structure Sn.Le (s:Sn) (n:Nat):Prop where
 reads:s.l1.length≤n
 last:s.l2.length≤n
theorem Sn.At.below {s:Sn} {w w':World} {B:Nat} (h:s.At w) (hb:Below B w w') (hB:w.heap.size≤B):s.At w':=⟨h.reads.below hb hB,h.last.below hb hB⟩
theorem Sn.At.grown {s:Sn} {w w':World} (h:s.At w) (hg:Grown w w'):s.At w':=h.below hg.bel (Nat.le_refl _)
end
section
open Go.RowKit
theorem own_ge {w:World} {base:Nat} {e:TypeId} {size:Nat} {v:Value} {n:Nat} {xs:List Value} (h:w.ownsRow base e size v n xs):∀ k,v.ownBlock=some k→base≤k:=fun k hk=>(h.lt k hk).1
theorem below_grown {B:Nat} {w0 w w':World} {row:Option Nat} (h:Below B w0 w) (hg:w.grownBy w' row) (hr:∀ k,row=some k→B≤k) (hB:B≤w.heap.size:=by simp):Below B w0 w' :=
 ⟨hg.os.trans h.os,hg.tape.trans h.tape,hg.output.trans h.output,Nat.le_trans h.size hg.size,fun k hk=>(hg.block k (by omega) (fun e=>by have:=hr k e.symm;omega)).trans (h.block k hk)⟩
theorem ownsRow_below {w w':World} {base:Nat} {e:TypeId} {size:Nat} {v:Value} {n:Nat} {xs:List Value} (h:w.ownsRow base e size v n xs) (hb:Below w.heap.size w w'):w'.ownsRow base e size v n xs:=by
 obtain ⟨h1,h2⟩:=h
 refine ⟨h1,?_⟩
 rcases h2 with h2 | ⟨g,cap,cur,hv,hg,hh,r⟩
 ·exact Or.inl h2
 ·refine Or.inr ⟨g,cap,cur,hv,hg,?_,r⟩
  rw [hb.block g (by by_cases hlt:g < w.heap.size;exact hlt;rw [Array.getElem?_eq_none (by omega)] at hh;cases hh)]
  exact hh
def nums (l:List Int):List Value:=l.map (.int .i64)
structure Slot2 (w:World) (b:Nat) (x y:Value):Prop where
 blk:w.heap[b]?=some (.cells #[x,y] 33 (0,0))
theorem Slot2.lt {w:World} {b:Nat} {x y:Value} (h:Slot2 w b x y):b < w.heap.size:=by
 by_cases hb:b < w.heap.size
 ·exact hb
 ·have:=h.blk;rw [Array.getElem?_eq_none (by omega)] at this;cases this
theorem Slot2.c0 {w:World} {b:Nat} {x y:Value} (h:Slot2 w b x y):w.cell? ⟨b,0,none⟩=some x:=by simp [World.cell?,h.blk]
theorem Slot2.c1 {w:World} {b:Nat} {x y:Value} (h:Slot2 w b x y):w.cell? ⟨b,1,none⟩=some y:=by simp [World.cell?,h.blk]
theorem Slot2.fz {w:World} {b:Nat} {x y:Value} (h:Slot2 w b x y) (i:Nat):w.frozen? ⟨b,i,none⟩=false:=by simp [World.frozen?,h.blk]
theorem Slot2.of {w w':World} {b:Nat} {x y:Value} (h:Slot2 w b x y) (hb:w'.heap[b]?=w.heap[b]?):Slot2 w' b x y:=⟨hb.trans h.blk⟩
theorem Slot2.far {w:World} {b b' i:Nat} {x y:Value} (h:Slot2 w b x y) (hne:b'≠b) (u:Value):Slot2 (w.setCell ⟨b',i,none⟩ u) b x y:=h.of (Below.heap_setCell _ _ _ _ (fun e=>hne e.symm))
theorem Slot2.set0 {w:World} {b:Nat} {x y:Value} (h:Slot2 w b x y) (u:Value):Slot2 (w.setCell ⟨b,0,none⟩ u) b u y:=⟨heap_setCell_same w b 0 #[x,y] _ u h.blk⟩
theorem Slot2.set1 {w:World} {b:Nat} {x y:Value} (h:Slot2 w b x y) (u:Value):Slot2 (w.setCell ⟨b,1,none⟩ u) b x u:=⟨heap_setCell_same w b 1 #[x,y] _ u h.blk⟩
theorem own_slot {w:World} {b i B n:Nat} {x y v:Value} {xs:List Value} (ho:w.ownsRow B 3 1 v n xs) (h:Slot2 w b x y) (u:Value):(w.setCell ⟨b,i,none⟩ u).ownsRow B 3 1 v n xs:=by
 refine ⟨ho.1,?_⟩
 rcases ho.2 with h0 | ⟨g,cap,cur,hv,hg,hh,r⟩
 ·exact Or.inl h0
 ·refine Or.inr ⟨g,cap,cur,hv,hg,?_,r⟩
  rw [Below.heap_setCell _ _ _ _ (fun e=>?_)]
  ·exact hh
  ·simp at e
   subst e
   rw [h.blk] at hh
   simp at hh
theorem own_nums {w:World} {base:Nat} {v:Value} {l:List Int} (h:w.ownsRow base 3 1 v l.length (nums l)):∃ a g c,v=.slice a l.length c∧IntS w a g 0 l∧base≤g∧(a=none→c=0):=by
 rcases h.2 with ⟨hv,hn⟩ | ⟨g,cap,cur,hv,hg,hh,r⟩
 ·have:l=[]:=List.length_eq_zero_iff.1 hn
  subst this
  exact ⟨none,base,0,hv,IntS.nil _ _ _ _,Nat.le_refl _,fun _=>rfl⟩
 ·refine ⟨_,g,cap,hv,⟨fun _=>rfl,fun i hi=>?_⟩,hg,fun h=>by cases h⟩
  have hc:=h.cells (g:=g) (by rw [hv];rfl) i (.int .i64 l[i]) (by simp [nums,hi])
  rwa [Go.WideShapes.add_plain] at hc
theorem three {m:List Int} (h:m.length=3):∃ x y z,m=[x,y,z]:=by
 match m,h with
 | [x,y,z],_=>exact ⟨x,y,z,rfl⟩
theorem own_cap {w:World} {base g n cap:Nat} {e:TypeId} {size:Nat} {xs:List Value} (h:w.ownsRow base e size (.slice (some ⟨g,0,none⟩) n cap) n xs):n≤cap:=by
 rcases h.2 with ⟨hv,_⟩ | ⟨g',cap',cur,hv,_,_,hc,_⟩
 ·simp at hv
 ·simp at hv
  obtain ⟨_,rfl⟩:=hv
  exact hc
theorem alloc_new (w:World) (o:Obj) (n:Nat) (hn:n=w.heap.size):(w.alloc o).heap[n]?=some o:=by subst hn;exact heap_alloc_new w o
theorem alloc_old (w:World) (o:Obj) (k:Nat) (hk:k < w.heap.size):(w.alloc o).heap[k]?=w.heap[k]?:=(below1 w o).block k hk
theorem Tryz.infoInt:(Tryz.prog.info? 3).map (fun i=>(i.zero,i.size,i.bytes))=some (some (.int .i64 0),1,8):=by kernel_rfl
theorem IntS.but {w w':World} {a:Option Addr} {rb b o:Nat} {l:List Int} (h:IntS w a b o l) (hb:But rb w w') (hne:b≠rb):IntS w' a b o l :=
 ⟨h.addr,fun i hi=>by rw [hb.cell (p:=⟨b,o+i,none⟩) (h.lt (by omega)) hne];exact h.row i hi⟩
theorem IntS.far {w:World} {a:Option Addr} {b o B i:Nat} {l:List Int} {u:Value} (h:IntS w a b o l) (hb:0 < l.length→b≠B):IntS (w.setCell ⟨B,i,none⟩ u) a b o l :=
 ⟨h.addr,fun j hj=>by rw [World.cell?_setCell_other _ _ _ _ (fun e=>hb (by omega) (congrArg Addr.block e).symm)];exact h.row j hj⟩
theorem Sn.At.far {s:Sn} {w:World} {B i:Nat} {u:Value} (h:s.At w) (h1:0 < s.l1.length→s.b1≠B) (h2:0 < s.l2.length→s.b2≠B):s.At (w.setCell ⟨B,i,none⟩ u):=⟨h.reads.far h1,h.last.far h2⟩
theorem own_fzS {w:World} {B g n cap:Nat} {e:TypeId} {size:Nat} {xs:List Value} (h:w.ownsRow B e size (.slice (some ⟨g,0,none⟩) n cap) n xs) (i:Nat):w.frozen? ⟨g,i,none⟩=false:=by
 rcases h.2 with ⟨hv,_⟩ | ⟨g',cap',cur,hv,_,hh,_⟩
 ·simp at hv
 ·simp at hv
  obtain ⟨rfl,_⟩:=hv
  simp [World.frozen?,hh]
theorem own_capP {w:World} {base g n cap:Nat} {e:TypeId} {size:Nat} {xs:List Value} (h:w.ownsRow base e size (.slice (some ⟨g,0,none⟩) n cap) n xs):n≤cap:=by
 rcases h.2 with ⟨hv,_⟩ | ⟨g',cap',cur,hv,_,_,hc,_⟩
 ·simp at hv
 ·simp at hv
  obtain ⟨_,rfl⟩:=hv
  exact hc
def Sn.blk (s:Sn) (b:Nat):Prop:=(0 < s.l1.length∧b=s.b1)∨(0 < s.l2.length∧b=s.b2)
theorem Sn.blk_lt {s:Sn} {w:World} {b:Nat} (h:s.At w) (hb:s.blk b):b < w.heap.size:=by
 rcases hb with ⟨h0,rfl⟩ | ⟨h0,rfl⟩
 ·exact h.reads.lt h0
 ·exact h.last.lt h0
structure Own2 (w:World) (s:Sn):Prop where
 ne:0 < s.l1.length→0 < s.l2.length→s.b1≠s.b2
 fz:∀ b,s.blk b→∀ j,w.frozen? ⟨b,j,none⟩=false
theorem Own2.below {w w':World} {s:Sn} (h:Own2 w s) (ha:s.At w) (hb:Below w.heap.size w w'):Own2 w' s :=
 ⟨h.ne,fun b hk j=>(hb.frozen (p:=⟨b,j,none⟩) (Sn.blk_lt ha hk)).trans (h.fz b hk j)⟩
theorem Own2.far {w:World} {s:Sn} {p:Addr} {u:Value} (h:Own2 w s):Own2 (w.setCell p u) s:=⟨h.ne,fun b hk j=>by rw [World.frozen?_setCell];exact h.fz b hk j⟩
structure Sep (uu:List Sn):Prop where
 far:∀ i j (hi:i < uu.length) (hj:j < uu.length),i≠j→∀ b,uu[i].blk b→¬ uu[j].blk b
 ne:∀ s∈uu,0 < s.l1.length→0 < s.l2.length→s.b1≠s.b2
end
section
open Go.RowKit
theorem ret_i {a b:Int} (h:a=b):Ending.returned (.int .i64 a)=.returned (.int .i64 b):=by rw [h]
theorem isNaN_any (x:Int) (w:World) :
  Calls Tryz.prog 207 #[.int .i64 x] w fun e w'=>e=.returned (.bool false)∧w'=w:=by
 go_enter Tryz.func207,Tryz.ntmps207
 go_wp2
 go_ret
 exact ⟨rfl,rfl⟩
def cmp3 (x y:Int):Int:=if x < y then -1 else if y < x then 1 else 0
theorem compare_any (x y:Int) (w:World) :
  Calls Tryz.prog 183 #[.int .i64 x,.int .i64 y] w fun e w'=>e=.returned (.int .i64 (cmp3 x y))∧w'=w:=by
 by_cases h1:x < y
 ·go_enter Tryz.func183,Tryz.ntmps183
  go_wp2_with (go_at_call 207;refine (isNaN_any _ _).mono ?_;rintro e w' ⟨rfl,rfl⟩)
  go_ret
  exact ⟨ret_i (by simp [cmp3,h1]),rfl⟩
 ·by_cases h2:y < x
  ·go_enter Tryz.func183,Tryz.ntmps183
   go_wp2_with (go_at_call 207;refine (isNaN_any _ _).mono ?_;rintro e w' ⟨rfl,rfl⟩)
   go_ret
   exact ⟨ret_i (by simp [cmp3,h1,h2]),rfl⟩
  ·go_enter Tryz.func183,Tryz.ntmps183
   go_wp2_with (go_at_call 207;refine (isNaN_any _ _).mono ?_;rintro e w' ⟨rfl,rfl⟩)
   go_ret
   exact ⟨ret_i (by rw [cmp3,if_neg (by omega),if_neg (by omega)]),rfl⟩
set_option maxHeartbeats 400000 in
theorem slcmp_any (a:Option Addr) (b o c:Nat) (l:List Int) (a2:Option Addr) (b2 o2 c2:Nat) (m:List Int) (w:World) (hl:l.length≤1048576) (hm:m.length≤1048576) (h:IntS w a b o l) (h2:IntS w a2 b2 o2 m) :
  Calls Tryz.prog 142 #[.slice a l.length c,.slice a2 m.length c2] w fun e w'=>e=.returned (.int .i64 (M.comp l m))∧w'=w:=by
 go_enter Tryz.func142,Tryz.ntmps142
 go_wp2_with fail
 go_loopw [11] (fun s11 wr=>∃ n:Nat,s11=.int .i64 n∧n≤l.length∧n≤m.length∧M.comp l m=M.comp (l.drop n) (m.drop n)∧wr=w) (fun s11 _=>l.length - (intOf s11).toNat)
 case atStart=>exact ⟨0,rfl,Nat.zero_le _,Nat.zero_le _,rfl,rfl⟩
 case round =>
  obtain ⟨n,rfl,hn,hnm,hpass,rfl⟩:=hrel
  have HP:Hid (M.comp l m=M.comp (l.drop n) (m.drop n)):=hpass
  clear hpass
  by_cases hlt:n < l.length
  ·obtain ⟨rfl⟩:=h.addr (by omega)
   have HD:Hid (l.drop n=l[n]::l.drop (n+1)):=M.drop_int l n hlt
   have hc:=h.row n hlt
   generalize l[n]=x at HD hc
   by_cases hmt:n < m.length
   ·obtain ⟨rfl⟩:=h2.addr (by omega)
    have HD2:Hid (m.drop n=m[n]::m.drop (n+1)):=M.drop_int m n hmt
    have hc2:=h2.row n hmt
    generalize m[n]=y at HD2 hc2
    by_cases h1:x < y
    ·have e3:cmp3 x y=-1:=by simp [cmp3,h1]
     go_wp2_with (go_at_call 183;refine (compare_any _ _ _).mono ?_;rw [e3];rintro e w' ⟨rfl,rfl⟩)
     go_ret
     exact ⟨ret_i (M.comp_lt HP.out HD.out HD2.out h1).symm,rfl⟩
    ·by_cases h2':y < x
     ·have e3:cmp3 x y=1:=by simp [cmp3,h1,h2']
      go_wp2_with (go_at_call 183;refine (compare_any _ _ _).mono ?_;rw [e3];rintro e w' ⟨rfl,rfl⟩)
      go_ret
      exact ⟨ret_i (M.comp_gt HP.out HD.out HD2.out h2').symm,rfl⟩
     ·have e3:cmp3 x y=0:=by simp [cmp3,h1,h2']
      go_wp2_with (go_at_call 183;refine (compare_any _ _ _).mono ?_;rw [e3];rintro e w' ⟨rfl,rfl⟩)
      exact ⟨⟨n+1,by go_num,by omega,by omega,M.comp_eq HP.out HD.out HD2.out (by omega) (by omega),trivial⟩,by simp [intOf];omega⟩
   ·have hmt':(m.length:Int)≤n:=by omega
    go_wp2_with fail
    go_ret
    exact ⟨ret_i (M.comp_snd HP.out hlt (by omega)).symm,rfl⟩
  ·by_cases hmt:n < m.length
   ·have e1:(l.length:Int) < m.length:=by omega
    go_wp2_with fail
    go_ret
    exact ⟨ret_i (M.comp_fst HP.out (by omega) hmt).symm,rfl⟩
   ·have e1:¬ (l.length:Int) < m.length:=by omega
    go_wp2_with fail
    go_ret
    exact ⟨ret_i (M.comp_fin HP.out (by omega) (by omega)).symm,rfl⟩
set_option maxHeartbeats 400000 in
theorem or_any (b:Nat) (x y:Int) (w:World) (hx:w.cell? ⟨b,0,none⟩=some (.int .i64 x)) (hy:w.cell? ⟨b,1,none⟩=some (.int .i64 y)) :
  Calls Tryz.prog 141 #[.slice (some ⟨b,0,none⟩) 2 2] w fun e w'=>e=.returned (.int .i64 (if x=0 then y else x))∧w'=w:=by
 by_cases h0:x=0
 ·subst h0
  by_cases h1:y=0
  ·subst h1
   go_enter Tryz.func141,Tryz.ntmps141
   go_wp2_with fail
   refine wp_loop_rounds 3 ?_
   rw [rounds_succ]
   go_wp2_with fail
   rw [rounds_succ]
   go_wp2_with fail
   rw [rounds_succ]
   go_wp2_with fail
   go_ret
   exact ⟨ret_i (by simp),rfl⟩
  ·have h1':(y==0)=false:=by simpa using h1
   go_enter Tryz.func141,Tryz.ntmps141
   go_wp2_with fail
   refine wp_loop_rounds 3 ?_
   rw [rounds_succ]
   go_wp2_with fail
   rw [rounds_succ]
   go_wp2_with fail
   go_ret
   exact ⟨ret_i (by simp),rfl⟩
 ·have h0':(x==0)=false:=by simpa using h0
  go_enter Tryz.func141,Tryz.ntmps141
  go_wp2_with fail
  refine wp_loop_rounds 3 ?_
  rw [rounds_succ]
  go_wp2_with fail
  go_ret
  exact ⟨ret_i (by simp),rfl⟩
end
section
open Go.RowKit
theorem alloc2 (w:World) (x y:Obj):Grown w ((w.alloc x).alloc y):=((Grown.refl w).alloc x).alloc y
set_option maxHeartbeats 1000000 in
set_option maxRecDepth 100000 in
theorem compareSeen_any (s t:Sn) (w:World) (hs:s.Le 1048576) (ht:t.Le 1048576) (hsa:s.At w) (hta:t.At w) :
  Calls Tryz.prog 89 #[.agg #[.slice s.a1 s.l1.length s.c1,.slice s.a2 s.l2.length s.c2],.agg #[.slice t.a1 t.l1.length t.c1,.slice t.a2 t.l2.length t.c2]] w fun e w'=>e=.returned (.int .i64 (M.cmpS s.l1 s.l2 t.l1 t.l2))∧Grown w w':=by
 obtain ⟨a1,b1,o1,c1,l1,a2,b2,o2,c2,l2⟩:=s
 obtain ⟨d1,e1,f1,g1,m1,d2,e2,f2,g2,m2⟩:=t
 obtain ⟨hs1,hs2⟩:=hs
 obtain ⟨ht1,ht2⟩:=ht
 obtain ⟨as1,as2⟩:=hsa
 obtain ⟨at1,at2⟩:=hta
 simp only at hs1 hs2 ht1 ht2 as1 as2 at1 at2
 go_enter Tryz.func89,Tryz.ntmps89
 go_wp2_with fail
 have hg0:Grown w (((w.alloc (.cells #[.slice a1 l1.length c1,.slice a2 l2.length c2] 33)).alloc (.cells #[.slice d1 m1.length g1,.slice d2 m2.length g2] 33))):=alloc2 w _ _
 have k1:((w.alloc (.cells #[.slice a1 l1.length c1,.slice a2 l2.length c2] 33)).alloc (.cells #[.slice d1 m1.length g1,.slice d2 m2.length g2] 33)).cell? ⟨w.heap.size,0,none⟩=some (.slice a1 l1.length c1):=by simp
 have k2:((w.alloc (.cells #[.slice a1 l1.length c1,.slice a2 l2.length c2] 33)).alloc (.cells #[.slice d1 m1.length g1,.slice d2 m2.length g2] 33)).cell? ⟨w.heap.size,1,none⟩=some (.slice a2 l2.length c2):=by simp
 have k3:((w.alloc (.cells #[.slice a1 l1.length c1,.slice a2 l2.length c2] 33)).alloc (.cells #[.slice d1 m1.length g1,.slice d2 m2.length g2] 33)).cell? ⟨w.heap.size+1,0,none⟩=some (.slice d1 m1.length g1):=by simp
 have k4:((w.alloc (.cells #[.slice a1 l1.length c1,.slice a2 l2.length c2] 33)).alloc (.cells #[.slice d1 m1.length g1,.slice d2 m2.length g2] 33)).cell? ⟨w.heap.size+1,1,none⟩=some (.slice d2 m2.length g2):=by simp
 generalize (w.alloc (.cells #[.slice a1 l1.length c1,.slice a2 l2.length c2] 33)).alloc (.cells #[.slice d1 m1.length g1,.slice d2 m2.length g2] 33)=W at *
 have x1:=as1.below hg0.drew.bel (Nat.le_refl _)
 have x2:=as2.below hg0.drew.bel (Nat.le_refl _)
 have y1:=at1.below hg0.drew.bel (Nat.le_refl _)
 have y2:=at2.below hg0.drew.bel (Nat.le_refl _)
 generalize w.heap.size=B at *
 have C1:=slcmp_any a1 b1 o1 c1 l1 d1 e1 f1 g1 m1 _ hs1 ht1 x1 y1
 have C2:=slcmp_any a2 b2 o2 c2 l2 d2 e2 f2 g2 m2 _ hs2 ht2 x2 y2
 obtain ⟨r1,hr1⟩:∃ r,M.comp l1 m1=r:=⟨_,rfl⟩
 obtain ⟨r2,hr2⟩:∃ r,M.comp l2 m2=r:=⟨_,rfl⟩
 obtain ⟨ro,hro⟩:∃ r,(if r1=0 then r2 else r1)=r:=⟨_,rfl⟩
 have hcs:M.cmpS l1 l2 m1 m2=ro:=by unfold M.cmpS;rw [hr1,hr2,hro]
 have HR:Hid (M.cmpS l1 l2 m1 m2=ro):=hcs
 have C3:∀ b W',W'.cell? ⟨b,0,none⟩=some (.int .i64 r1)→W'.cell? ⟨b,1,none⟩=some (.int .i64 r2)→Calls Tryz.prog 141 #[.slice (some ⟨b,0,none⟩) 2 2] W' fun e w'=>e=.returned (.int .i64 ro)∧w'=W':=fun b W' h1 h2=>by have h:=or_any b r1 r2 W' h1 h2;rwa [hro] at h
 clear hcs hro
 rw [hr1] at C1
 rw [hr2] at C2
 clear hr1 hr2
 clear as1 as2 at1 at2 x1 x2 y1 y2 hs1 hs2 ht1 ht2
 generalize l1.length=n1 at *
 generalize l2.length=n2 at *
 generalize m1.length=p1 at *
 generalize m2.length=p2 at *
 go_region_held3 (fun w'=>w'.cell? ⟨B,0,none⟩=some (.slice a1 n1 c1)∧w'.cell? ⟨B,1,none⟩=some (.slice a2 n2 c2)∧w'.cell? ⟨B+1,0,none⟩=some (.slice d1 p1 g1)∧w'.cell? ⟨B+1,1,none⟩=some (.slice d2 p2 g2)) (go_keep) (first
  | (go_at_call_of 142 (Value.slice a1 n1 c1);refine C1.mono ?_;rintro e w' ⟨rfl,rfl⟩)
  | (go_at_call_of 142 (Value.slice a2 n2 c2);refine C2.mono ?_;rintro e w' ⟨rfl,rfl⟩)
  | (go_at_call 141;refine (C3 _ _ ?_ ?_).mono ?_;(simp);(simp);rintro e w' ⟨rfl,rfl⟩))
 go_wp2_with fail
 go_ret
 exact ⟨ret_i HR.out.symm,(hg0.alloc _).drew⟩
set_option maxHeartbeats 1000000 in
theorem l2Comp_any (a:Option Addr) (b o c:Nat) (l:List Int) (a2:Option Addr) (b2 o2 c2:Nat) (m:List Int) (w:World) (hl:l.length≤1048576) (hm:m.length≤1048576) (h:IntS w a b o l) (h2:IntS w a2 b2 o2 m) :
  Calls Tryz.prog 94 #[.slice a l.length c,.slice a2 m.length c2] w fun e w'=>e=.returned (.int .i64 (M.comp l m))∧Grown w w':=by
 go_enter Tryz.func94,Tryz.ntmps94
 go_wp2_with fail
 go_loopw [5] (fun s5 wr=>∃ n:Nat,s5=.int .i64 n∧n≤l.length∧n≤m.length∧M.comp l m=M.comp (l.drop n) (m.drop n)∧Grown w wr) (fun s5 _=>l.length - (intOf s5).toNat)
 case atStart=>exact ⟨0,rfl,Nat.zero_le _,Nat.zero_le _,rfl,Grown.refl _⟩
 case round =>
  obtain ⟨n,rfl,hn,hnm,hpass,hg⟩:=hrel
  have HP:Hid (M.comp l m=M.comp (l.drop n) (m.drop n)):=hpass
  clear hpass
  by_cases hlt:n < l.length
  ·obtain ⟨rfl⟩:=h.addr (by omega)
   have HD:Hid (l.drop n=l[n]::l.drop (n+1)):=M.drop_int l n hlt
   have hc:=(h.below hg.bel (Nat.le_refl _)).row n hlt
   generalize l[n]=x at HD hc
   have i1:(n:Int) < l.length:=by omega
   by_cases hmt:n < m.length
   ·obtain ⟨rfl⟩:=h2.addr (by omega)
    have HD2:Hid (m.drop n=m[n]::m.drop (n+1)):=M.drop_int m n hmt
    have hc2:=(h2.below hg.bel (Nat.le_refl _)).row n hmt
    generalize m[n]=y at HD2 hc2
    have i2:(n:Int) < m.length:=by omega
    by_cases h1:x < y
    ·go_wp2_with fail
     go_quiet (fail)
     go_wp2_with fail
     go_ret
     exact ⟨ret_i (M.comp_lt HP.out HD.out HD2.out h1).symm,hg.drewN _⟩
    ·by_cases h2':y < x
     ·go_wp2_with fail
      go_quiet (fail)
      go_wp2_with fail
      go_quiet (fail)
      go_wp2_with fail
      go_ret
      exact ⟨ret_i (M.comp_gt HP.out HD.out HD2.out h2').symm,(hg.drewN _).drewN _⟩
     ·go_wp2_with fail
      go_quiet (fail)
      go_wp2_with fail
      go_quiet (fail)
      go_wp2_with fail
      exact ⟨⟨n+1,by go_num,by omega,by omega,M.comp_eq HP.out HD.out HD2.out (by omega) (by omega),hg.drewN _⟩,by simp [intOf];omega⟩
   ·have hmt':decide ((n:Int) < m.length)=false:=by simp;omega
    have e1:¬ (l.length:Int) < m.length:=by omega
    have e2:(m.length:Int) < l.length:=by omega
    go_wp2_with fail
    go_ret
    exact ⟨ret_i (M.comp_snd HP.out hlt (by omega)).symm,hg⟩
  ·have i1:decide ((n:Int) < l.length)=false:=by simp;omega
   by_cases hmt:n < m.length
   ·have e1:(l.length:Int) < m.length:=by omega
    go_wp2_with fail
    go_ret
    exact ⟨ret_i (M.comp_fst HP.out (by omega) hmt).symm,hg⟩
   ·have e1:¬ (l.length:Int) < m.length:=by omega
    have e2:¬ (m.length:Int) < l.length:=by omega
    go_wp2_with fail
    go_ret
    exact ⟨ret_i (M.comp_fin HP.out (by omega) (by omega)).symm,hg⟩
set_option maxHeartbeats 400000 in
theorem l2Seen_any (s t:Sn) (w:World) (hs:s.Le 1048576) (ht:t.Le 1048576) (hsa:s.At w) (hta:t.At w) :
  Calls Tryz.prog 62 #[.agg #[.slice s.a1 s.l1.length s.c1,.slice s.a2 s.l2.length s.c2],.agg #[.slice t.a1 t.l1.length t.c1,.slice t.a2 t.l2.length t.c2]] w fun e w'=>e=.returned (.int .i64 (M.cmpS s.l1 s.l2 t.l1 t.l2))∧Grown w w':=by
 have hga:=hsa.grown (alloc2 w (.cells #[.slice s.a1 s.l1.length s.c1,.slice s.a2 s.l2.length s.c2] 33) (.cells #[.slice t.a1 t.l1.length t.c1,.slice t.a2 t.l2.length t.c2] 33))
 have hgb:=hta.grown (alloc2 w (.cells #[.slice s.a1 s.l1.length s.c1,.slice s.a2 s.l2.length s.c2] 33) (.cells #[.slice t.a1 t.l1.length t.c1,.slice t.a2 t.l2.length t.c2] 33))
 have C1:=l2Comp_any s.a1 s.b1 s.o1 s.c1 s.l1 t.a1 t.b1 t.o1 t.c1 t.l1 _ hs.reads ht.reads hga.reads hgb.reads
 obtain ⟨r1,hr1⟩:∃ r,M.comp s.l1 t.l1=r:=⟨_,rfl⟩
 rw [hr1] at C1
 by_cases h0:r1=0
 ·subst h0
  go_enter Tryz.func62,Tryz.ntmps62
  go_wp2_with fail
  refine C1.mono ?_
  rintro e w1 ⟨rfl,hg1⟩
  obtain ⟨hc1,hf1⟩:=bcell hg1.bel
  have C2:=l2Comp_any s.a2 s.b2 s.o2 s.c2 s.l2 t.a2 t.b2 t.o2 t.c2 t.l2 _ hs.last ht.last (hga.grown hg1).last (hgb.grown hg1).last
  go_wp2_with fail
  refine C2.mono ?_
  rintro e w2 ⟨rfl,hg2⟩
  go_wp2_with fail
  go_ret
  exact ⟨ret_i (by simp [M.cmpS,hr1]),((alloc2 w _ _).trans hg1).trans hg2⟩
 ·have h0':(r1==0)=false:=by simpa using h0
  go_enter Tryz.func62,Tryz.ntmps62
  go_wp2_with fail
  refine C1.mono ?_
  rintro e w1 ⟨rfl,hg1⟩
  go_wp2_with fail
  go_ret
  exact ⟨ret_i (by simp [M.cmpS,hr1,h0]),(alloc2 w _ _).trans hg1⟩
end
section
open Go.RowKit
abbrev Key:=List Int × List Int
structure KS (w:World) (a:Option Addr) (b o:Nat) (ks:List Key):Prop where
 addr:0 < ks.length→a=some ⟨b,o,none⟩
 row:∀ i (h:i < ks.length),∃ s:Sn,s.l1=ks[i].1∧s.l2=ks[i].2∧w.cell? ⟨b,o+i * 2,none⟩=some (.slice s.a1 s.l1.length s.c1)∧w.cell? ⟨b,o+i * 2+1,none⟩=some (.slice s.a2 s.l2.length s.c2)∧s.At w
def KLe (ks:List Key) (n:Nat):Prop:=∀ k∈ks,k.1.length≤n∧k.2.length≤n
theorem KS.below {w w':World} {a:Option Addr} {B b o:Nat} {ks:List Key} (h:KS w a b o ks) (hb:Below B w w') (hB:w.heap.size≤B):KS w' a b o ks :=
 ⟨h.addr,fun i hi=>by
  obtain ⟨s,h1,h2,c1,c2,ha⟩:=h.row i hi
  have hl:=Nat.lt_of_lt_of_le (World.block_lt_of_cell? _ _ c1) hB
  exact ⟨s,h1,h2,(hb.cell (p:=⟨b,o+i * 2,none⟩) hl).trans c1,(hb.cell (p:=⟨b,o+i * 2+1,none⟩) hl).trans c2,ha.below hb hB⟩⟩
namespace M
def isIn (ks:List Key) (t1 t2:List Int):Bool:=ks.any fun k=>cmpS k.1 k.2 t1 t2==0
theorem isIn_hit {ks:List Key} {t1 t2:List Int} {n:Nat} {k:Key} (h:isIn ks t1 t2=isIn (ks.drop n) t1 t2) (hd:ks.drop n=k::ks.drop (n+1)) (hk:(cmpS k.1 k.2 t1 t2==0)=true):isIn ks t1 t2=true:=by
 rw [h,hd,isIn,List.any_cons,hk,Bool.true_or]
theorem isIn_miss {ks:List Key} {t1 t2:List Int} {n:Nat} {k:Key} (h:isIn ks t1 t2=isIn (ks.drop n) t1 t2) (hd:ks.drop n=k::ks.drop (n+1)) (hk:(cmpS k.1 k.2 t1 t2==0)=false):isIn ks t1 t2=isIn (ks.drop (n+1)) t1 t2:=by
 rw [h,hd,isIn,List.any_cons,hk,Bool.false_or];rfl
theorem isIn_fin {ks:List Key} {t1 t2:List Int} {n:Nat} (h:isIn ks t1 t2=isIn (ks.drop n) t1 t2) (hn:ks.length≤n):isIn ks t1 t2=false:=by
 rw [h,List.drop_eq_nil_of_le hn];rfl
theorem drop_key (ks:List Key) (n:Nat) (h:n < ks.length):ks.drop n=ks[n]::ks.drop (n+1):=(List.getElem_cons_drop h).symm
end M
set_option maxHeartbeats 1000000 in
set_option maxRecDepth 100000 in
theorem sseenIn_any (a:Option Addr) (b o c:Nat) (ks:List Key) (t:Sn) (w:World) (hl:ks.length≤1048576) (hls:KLe ks 1048576) (ht:t.Le 1048576) (h:KS w a b o ks) (hta:t.At w) :
  Calls Tryz.prog 34 #[.slice a ks.length c,.agg #[.slice t.a1 t.l1.length t.c1,.slice t.a2 t.l2.length t.c2]] w fun e w'=>e=.returned (.bool (M.isIn ks t.l1 t.l2))∧Below w.heap.size w w':=by
 have hb0:=below1 w (.cells #[.slice t.a1 t.l1.length t.c1,.slice t.a2 t.l2.length t.c2] 33)
 go_enter Tryz.func34,Tryz.ntmps34
 go_wp2_with fail
 have k0:(w.alloc (.cells #[.slice t.a1 t.l1.length t.c1,.slice t.a2 t.l2.length t.c2] 33)).cell? ⟨w.heap.size,0,none⟩=some (.slice t.a1 t.l1.length t.c1):=by simp
 have k1:(w.alloc (.cells #[.slice t.a1 t.l1.length t.c1,.slice t.a2 t.l2.length t.c2] 33)).cell? ⟨w.heap.size,1,none⟩=some (.slice t.a2 t.l2.length t.c2):=by simp
 generalize w.alloc (.cells #[.slice t.a1 t.l1.length t.c1,.slice t.a2 t.l2.length t.c2] 33)=W at *
 have hW:=h.below hb0 (Nat.le_refl _)
 have htW:=hta.below hb0 (Nat.le_refl _)
 have hcb:w.heap.size < W.heap.size:=World.block_lt_of_cell? _ _ k0
 clear h hta
 go_loopw [5] (fun s5 wr=>∃ n:Nat,s5=.int .i64 n∧n≤ks.length∧M.isIn ks t.l1 t.l2=M.isIn (ks.drop n) t.l1 t.l2∧Below W.heap.size W wr) (fun s5 _=>ks.length - (intOf s5).toNat)
 case atStart=>exact ⟨0,rfl,Nat.zero_le _,rfl,Below.refl _ _⟩
 case round =>
  obtain ⟨n,rfl,hn,hpass,hg⟩:=hrel
  have HP:Hid (M.isIn ks t.l1 t.l2=M.isIn (ks.drop n) t.l1 t.l2):=hpass
  clear hpass
  by_cases hlt:n < ks.length
  ·obtain ⟨rfl⟩:=hW.addr (by omega)
   have HD:Hid (ks.drop n=ks[n]::ks.drop (n+1)):=M.drop_key ks n hlt
   obtain ⟨s,h1,h2,c0,c1,hsa⟩:=(hW.below hg (Nat.le_refl _)).row n hlt
   obtain ⟨e1,e2⟩:=hls _ (List.getElem_mem hlt)
   generalize ks[n]=k at HD h1 h2 e1 e2
   have C:=fun p:BelowOf wr=>(l2Seen_any s t p.x ⟨by rw [h1];exact e1,by rw [h2];exact e2⟩ ht (hsa.below p.h (Nat.le_refl _)) ((htW.below hg (Nat.le_refl _)).below p.h (Nat.le_refl _))).mono fun _ _ ⟨he,hg⟩=>(⟨he,hg.bel⟩:_∧Below p.x.heap.size p.x _)
   obtain ⟨r,hr⟩:∃ r,M.cmpS s.l1 s.l2 t.l1 t.l2=r:=⟨_,rfl⟩
   rw [hr] at C
   rw [h1,h2] at hr
   have HQ:Hid (M.cmpS k.1 k.2 t.l1 t.l2=r):=hr
   clear hr h1 h2 e1 e2 hsa
   have i1:(n:Int) < ks.length:=by omega
   have K0:=BelowOf.cell c0
   have K1:=BelowOf.cell c1
   have K2:=BelowOf.cell ((hg.cell (p:=⟨w.heap.size,0,none⟩) hcb).trans k0)
   have K3:=BelowOf.cell ((hg.cell (p:=⟨w.heap.size,1,none⟩) hcb).trans k1)
   by_cases h0:r=0
   ·subst h0
    go_wp2_with fail
    haveI:Inhabited (BelowOf wr):=⟨belOf wr⟩
    refine wp_region_quiet_bel (by kernel_rfl) (by kernel_rfl) ?_
    repeat (quiet_step (first | (go_at_call 62;exact Calls.bel_of (C _))))
    refine wpQuiet_nil ?_
    rintro _ ⟨⟨wq,hwq⟩,rfl⟩
    go_wp2_with fail
    go_ret
    exact ⟨ret_bool (M.isIn_hit HP.out HD.out (by rw [HQ.out];rfl)).symm,hb0.trans ((hg.trans (hwq.mono hg.size)).mono hb0.size)⟩
   ·have h0':(r==0)=false:=by simpa using h0
    go_wp2_with fail
    haveI:Inhabited (BelowOf wr):=⟨belOf wr⟩
    refine wp_region_quiet_bel (by kernel_rfl) (by kernel_rfl) ?_
    repeat (quiet_step (first | (go_at_call 62;exact Calls.bel_of (C _))))
    refine wpQuiet_nil ?_
    rintro _ ⟨⟨wq,hwq⟩,rfl⟩
    go_wp2_with fail
    exact ⟨⟨n+1,by go_num,by omega,M.isIn_miss HP.out HD.out (by rw [HQ.out];exact h0'),hg.trans (hwq.mono hg.size)⟩,by simp [intOf];omega⟩
  ·go_wp2_with fail
   go_ret
   exact ⟨ret_bool (M.isIn_fin HP.out (by omega)).symm,hb0.trans (hg.mono hb0.size)⟩
end
section
namespace M
theorem comp_self (l:List Int):comp l l=0:=by
 induction l with
 | nil=>rfl
 | cons x l ih=>rw [comp,if_neg (by omega),if_neg (by omega)];exact ih
theorem comp_zero:∀ l m:List Int,comp l m=0→l=m
 | [],[],_=>rfl
 | [],_::_,h=>by rw [comp] at h;cases h
 | _::_,[],h=>by rw [comp] at h;cases h
 | x::l,y::m,h=>by
  rw [comp] at h
  by_cases h1:x < y
  ·rw [if_pos h1] at h;cases h
  ·rw [if_neg h1] at h
   by_cases h2:y < x
   ·rw [if_pos h2] at h;cases h
   ·rw [if_neg h2] at h
    rw [comp_zero l m h,show x=y by omega]
theorem comp_neg:∀ l m:List Int,comp m l=- comp l m
 | [],[]=>rfl
 | [],_::_=>rfl
 | _::_,[]=>rfl
 | x::l,y::m=>by
  rw [comp,comp]
  by_cases h1:x < y
  ·rw [if_pos h1,if_neg (by omega),if_pos h1];rfl
  ·by_cases h2:y < x
   ·rw [if_pos h2,if_neg h1,if_pos h2]
   ·rw [if_neg h2,if_neg h1,if_neg h1,if_neg h2];exact comp_neg l m
theorem comp_trans:∀ l m n:List Int,comp l m < 0→comp m n < 0→comp l n < 0
 | [],[],_,h,_=>by rw [comp] at h;omega
 | [],_::_,[],_,h=>by rw [comp] at h;omega
 | [],_::_,_::_,_,_=>by rw [comp];omega
 | _::_,[],_,h,_=>by rw [comp] at h;omega
 | _::_,_::_,[],_,h=>by rw [comp] at h;omega
 | x::l,y::m,z::n,h,k=>by
  rw [comp] at h k ⊢
  by_cases h1:x < y
  ·by_cases k1:y < z
   ·rw [if_pos (by omega)];omega
   ·rw [if_neg k1] at k
    by_cases k2:z < y
    ·rw [if_pos k2] at k;omega
    ·rw [if_pos (by omega)];omega
  ·rw [if_neg h1] at h
   by_cases h2:y < x
   ·rw [if_pos h2] at h;omega
   ·rw [if_neg h2] at h
    by_cases k1:y < z
    ·rw [if_pos (by omega)];omega
    ·rw [if_neg k1] at k
     by_cases k2:z < y
     ·rw [if_pos k2] at k;omega
     ·rw [if_neg k2] at k
      rw [if_neg (by omega),if_neg (by omega)]
      exact comp_trans l m n h k
theorem cmpS_self (a b:List Int):cmpS a b a b=0:=by rw [cmpS,comp_self,if_pos rfl,comp_self]
theorem cmpS_zero {a1 a2 b1 b2:List Int} (h:cmpS a1 a2 b1 b2=0):a1=b1∧a2=b2:=by
 unfold cmpS at h
 by_cases h0:comp a1 b1=0
 ·rw [if_pos h0] at h;exact ⟨comp_zero _ _ h0,comp_zero _ _ h⟩
 ·rw [if_neg h0] at h;exact absurd h h0
theorem cmpS_neg (a1 a2 b1 b2:List Int):cmpS b1 b2 a1 a2=- cmpS a1 a2 b1 b2:=by
 unfold cmpS
 rw [comp_neg a1 b1,comp_neg a2 b2]
 by_cases h0:comp a1 b1=0
 ·rw [if_pos h0,if_pos (by omega)]
 ·rw [if_neg h0,if_neg (by omega)]
theorem cmpS_trans {a1 a2 b1 b2 c1 c2:List Int} (h:cmpS a1 a2 b1 b2 < 0) (k:cmpS b1 b2 c1 c2 < 0):cmpS a1 a2 c1 c2 < 0:=by
 unfold cmpS at h k ⊢
 by_cases h0:comp a1 b1=0
 ·rw [if_pos h0] at h
  have e:=comp_zero _ _ h0
  subst e
  by_cases k0:comp a1 c1=0
  ·rw [if_pos k0] at k ⊢;exact comp_trans _ _ _ h k
  ·rw [if_neg k0] at k ⊢;exact k
 ·rw [if_neg h0] at h
  by_cases k0:comp b1 c1=0
  ·have e:=comp_zero _ _ k0
   subst e
   rw [if_neg h0];exact h
  ·rw [if_neg k0] at k
   have ht:=comp_trans _ _ _ h k
   rw [if_neg (by omega)];exact ht
def same:List Int→List Int→Bool
 | [],[]=>true
 | x::l,y::m=>x==y&&same l m
 | _,_=>false
end M
end
end Go.Proofs.YtnddmlgnngdaoaaGreatDoor
