/- The reader of a code (spec.l6Rd): its box, and what a pick does. And what goes with it: Rd, DrTh, DrPb, DrOp. -/
import Derived.Test.YtnddmlgnngdaoaaGreatDoorRows
import Derived.Test.YtnddmlgnngdaoaaGreatDoorQsai
namespace Go.Proofs.YtnddmlgnngdaoaaGreatDoor
section
open Go.RowKit
structure Rd (w:World) (B rb:Nat) (ca:Option Addr) (cb co L C:Nat) (x:Nat→Int) (p:Nat):Prop where
 s:w.cell? ⟨rb,0,none⟩=some (.slice ca L C)
 p:w.cell? ⟨rb,1,none⟩=some (.int .i64 p)
 fz:w.frozen? ⟨rb,1,none⟩=false
 ad:0 < L→ca=some ⟨cb,co,none⟩
 le:L≤2000
 cells:∀ i,i < L→w.cell? ⟨cb,co+i,none⟩=some (.int .u8 (x i))∧0≤x i∧x i≤255
 ne:0 < L→cb < B
 ge:B≤rb
theorem Rd.lt {w:World} {B rb:Nat} {ca:Option Addr} {cb co L C:Nat} {x:Nat→Int} {p:Nat} (h:Rd w B rb ca cb co L C x p):rb < w.heap.size:=World.block_lt_of_cell? _ _ h.s
theorem Rd.drew {w:World} {B rb:Nat} {ca:Option Addr} {cb co L C:Nat} {x:Nat→Int} {p:Nat} (h:Rd w B rb ca cb co L C x p):Rd w.drew B rb ca cb co L C x p:=⟨h.s,h.p,h.fz,h.ad,h.le,h.cells,h.ne,h.ge⟩
theorem Rd.drewN {w:World} {B rb:Nat} {ca:Option Addr} {cb co L C:Nat} {x:Nat→Int} {p:Nat} (h:Rd w B rb ca cb co L C x p):∀ n,Rd (w.drewN n) B rb ca cb co L C x p
 | 0=>h
 | n+1=>(h.drewN n).drew
theorem Rd.step {w:World} {B rb:Nat} {ca:Option Addr} {cb co L C:Nat} {x:Nat→Int} {p:Nat} (h:Rd w B rb ca cb co L C x p):Rd (w.setCell ⟨rb,1,none⟩ (.int .i64 ((p:Int)+1))) B rb ca cb co L C x (p+1):=by
 refine ⟨?_,?_,?_,h.ad,h.le,fun i hi=>⟨?_,(h.cells i hi).2⟩,h.ne,h.ge⟩
 ·rw [World.cell?_setCell_other _ _ _ _ (fun e=>by have:=congrArg Addr.off e;simp at this)];exact h.s
 ·rw [World.cell?_setCell_same _ _ _ h.p,Int.natCast_add];rfl
 ·rw [World.frozen?_setCell];exact h.fz
 ·rw [World.cell?_setCell_other _ _ _ _ (fun e=>by have e1:rb=cb:=congrArg Addr.block e;have:=h.ne (by omega);have:=h.ge;omega)];exact (h.cells i hi).1
theorem bits_xor_small (a b:Nat) (ha:a < 4294967296) (hb:b < 4294967296):bits .xor .i64 (a:Int) (b:Int)=((a ^^^ b:Nat):Int):=by
 have hx:a ^^^ b < 2 ^ 32:=Nat.xor_lt_two_pow (by omega) (by omega)
 have h1:(BitVec.ofInt 64 (a:Int)).toNat=a:=by
  rw [BitVec.ofInt_natCast,BitVec.toNat_ofNat];exact Nat.mod_eq_of_lt (by omega)
 have h2:(BitVec.ofInt 64 (b:Int)).toNat=b:=by
  rw [BitVec.ofInt_natCast,BitVec.toNat_ofNat];exact Nat.mod_eq_of_lt (by omega)
 show IntKind.i64.wrap ((BitVec.ofInt 64 (a:Int) ^^^ BitVec.ofInt 64 (b:Int)).toNat:Int)=_
 rw [BitVec.toNat_xor,h1,h2,IntKind.wrap_i64]
 omega
theorem mixed_in (X n:Int) (h0:0≤X) (h1:X < 4294967296) (hn:1≤n):0≤(bits .xor .i64 X (X / 64)).tmod n∧(bits .xor .i64 X (X / 64)).tmod n < n:=by
 obtain ⟨a,rfl⟩:=Int.eq_ofNat_of_zero_le h0
 have e:(a:Int) / 64=((a / 64:Nat):Int):=by omega
 rw [e,bits_xor_small a (a / 64) (by omega) (by omega),Int.tmod_eq_emod_of_nonneg (by omega)]
 exact ⟨Int.emod_nonneg _ (by omega),Int.emod_lt_of_pos _ (by omega)⟩
set_option maxHeartbeats 400000 in
theorem pick_any (B rb:Nat) (ca:Option Addr) (cb co L C:Nat) (x:Nat→Int) (p:Nat) (n:Int) (w:World) (hn:1≤n) (hn2:n≤10000000000) (hp:p≤1000000) (h:Rd w B rb ca cb co L C x p) :
  Calls Tryz.prog 14 #[.pointer (some ⟨rb,0,none⟩),.int .i64 n] w fun e w'=>∃ r:Int,e=.returned (.int .i64 r)∧0≤r∧r < n∧Rd w' B rb ca cb co L C x (p+1)∧But rb w w':=by
 have hs:=h.s
 have hpp:=h.p
 have hfz:=h.fz
 have hle:=h.le
 have h2:=h.step
 have hbut:But rb w (w.setCell ⟨rb,1,none⟩ (.int .i64 ((p:Int)+1))):=(But.refl rb w).setCell (Or.inr rfl) _
 have n1:decide (n < 1)=false:=by simp;omega
 rcases Nat.eq_zero_or_pos L with hL | hL
 ·subst hL
  go_enter Tryz.func14,Tryz.ntmps14
  go_wp2_with fail
  go_ret
  exact ⟨0,rfl,by omega,by omega,h2,hbut⟩
 ·have hL0:((L:Int)==0)=false:=by simp;omega
  obtain ⟨rfl⟩:=h.ad hL
  by_cases hpl:p < L
  ·obtain ⟨hc,hx0,hx1⟩:=h2.cells p hpl
   go_enter Tryz.func14,Tryz.ntmps14
   go_wp2_with fail
   go_ret
   exact ⟨x p % n,rfl,Int.emod_nonneg _ (by omega),Int.emod_lt_of_pos _ (by omega),h2,hbut⟩
  ·have hL1:¬ ((L:Int)=0):=by omega
   have hL2:¬ (L=0):=by omega
   have hL3:(0:Int) < L:=by omega
   have hpl':¬ ((p:Int) < L):=by omega
   obtain ⟨q1,hq1,hq1l⟩:∃ q:Nat,(p:Int).tmod L=q∧q < L:=⟨p % L,by rw [Int.tmod_eq_emod_of_nonneg (by omega)];omega,Nat.mod_lt _ hL⟩
   obtain ⟨q2,hq2,hq2l⟩:∃ q:Nat,((p:Int) * 7+3).tmod L=q∧q < L:=⟨(p * 7+3) % L,by rw [show ((p:Int) * 7+3)=((p * 7+3:Nat):Int) from by omega,Int.tmod_eq_emod_of_nonneg (by omega)];exact (Int.natCast_emod _ _).symm,Nat.mod_lt _ hL⟩
   obtain ⟨q3,hq3,hq3l⟩:∃ q:Nat,(p:Int).tdiv L=q∧q≤p:=⟨p / L,by rw [Int.tdiv_eq_ediv_of_nonneg (by omega)];omega,Nat.div_le_self _ _⟩
   obtain ⟨hc1,hx0,hx1⟩:=h2.cells q1 hq1l
   obtain ⟨hc2,hy0,hy1⟩:=h2.cells q2 hq2l
   have i1:(q1:Int) < L:=by omega
   have i2:(q2:Int) < L:=by omega
   generalize x q1=y1 at hc1 hx0 hx1
   generalize x q2=y2 at hc2 hy0 hy1
   go_enter Tryz.func14,Tryz.ntmps14
   go_wp2_with fail
   go_quiet (fail)
   go_wp2_with fail
   go_ret
   obtain ⟨r0,r1⟩:=mixed_in (y1 * 131+y2 * 1117+p * 29+q3 * 53) n (by omega) (by omega) hn
   exact ⟨_,rfl,r0,r1,h2.drewN _,hbut.drewN _⟩
def Rdr (w:World) (B rb p:Nat):Prop:=∃ ca cb co L C x,Rd w B rb ca cb co L C x p
theorem Rdr.lt {w:World} {B rb p:Nat} (h:Rdr w B rb p):rb < w.heap.size:=by obtain ⟨_,_,_,_,_,_,h⟩:=h;exact h.lt
theorem pick_rdr (B rb p:Nat) (n:Int) (w:World) (hn:1≤n) (hn2:n≤1000) (hp:p≤1000000) (h:Rdr w B rb p) :
  Calls Tryz.prog 14 #[.pointer (some ⟨rb,0,none⟩),.int .i64 n] w fun e w'=>∃ r:Int,e=.returned (.int .i64 r)∧0≤r∧r < n∧Rdr w' B rb (p+1)∧But rb w w':=by
 obtain ⟨ca,cb,co,L,C,x,h⟩:=h
 refine (pick_any B rb ca cb co L C x p n w hn (by omega) hp h).mono ?_
 rintro e w' ⟨r,he,h0,h1,hr,hb⟩
 exact ⟨r,he,h0,h1,⟨ca,cb,co,L,C,x,hr⟩,hb⟩
end
section
open Go.RowKit
def flat:List M.D→List Value
 | []=>[]
 | d::l=>.int .i64 d.k::.int .i64 d.p::.int .i64 d.v::flat l
theorem flat_length (l:List M.D):(flat l).length=l.length * 3:=by
 induction l with
 | nil=>rfl
 | cons d l ih=>simp [flat,ih];omega
theorem flat_append (l m:List M.D):flat (l++m)=flat l++flat m:=by
 induction l with
 | nil=>rfl
 | cons d l ih=>simp [flat,ih]
theorem flat_get (l:List M.D):∀ i (h:i < l.length),(flat l)[i * 3]?=some (.int .i64 l[i].k)∧(flat l)[i * 3+1]?=some (.int .i64 l[i].p)∧(flat l)[i * 3+2]?=some (.int .i64 l[i].v):=by
 induction l with
 | nil=>intro i h;exact absurd h (Nat.not_lt_zero _)
 | cons d l ih =>
  intro i h
  cases i with
  | zero=>exact ⟨rfl,rfl,rfl⟩
  | succ i =>
   obtain ⟨h0,h1,h2⟩:=ih i (by simpa using h)
   have e:(i+1) * 3=i * 3+3:=by omega
   rw [e]
   exact ⟨by simpa [flat] using h0,by simpa [flat] using h1,by simpa [flat] using h2⟩
theorem own_steps {w:World} {base:Nat} {v:Value} {l:List M.D} (h:w.ownsRow base 48 3 v l.length (flat l)):∃ a g c,v=.slice a l.length c∧DoS w a g 0 l∧(0 < l.length→base≤g):=by
 have hx:=h.1
 rcases h.2 with ⟨hv,hn⟩ | ⟨g,cap,cur,hv,hg,hh,r⟩
 ·have:l=[]:=List.length_eq_zero_iff.1 hn
  subst this
  exact ⟨none,0,0,hv,⟨fun h=>absurd h (Nat.lt_irrefl _),fun i hi=>absurd hi (Nat.not_lt_zero _)⟩,fun h=>absurd h (Nat.lt_irrefl _)⟩
 ·refine ⟨_,g,cap,hv,⟨fun _=>rfl,fun i hi=>?_⟩,fun _=>hg⟩
  obtain ⟨h0,h1,h2⟩:=flat_get l i hi
  have hc:=h.cells (g:=g) (by rw [hv];rfl)
  refine ⟨?_,?_,?_⟩
  ·have:=hc _ _ h0;rwa [Go.WideShapes.add_plain] at this
  ·have:=hc _ _ h1;rw [Go.WideShapes.add_plain] at this;rwa [Nat.zero_add] at this ⊢
  ·have:=hc _ _ h2;rw [Go.WideShapes.add_plain] at this;rwa [Nat.zero_add] at this ⊢
theorem Tryz.info48:(Tryz.prog.info? 48).map (fun i=>(i.zero,i.size,i.bytes))=some (some (.agg #[.int .i64 0,.int .i64 0,.int .i64 0]),3,24):=by kernel_rfl
end
section
open Go.RowKit
theorem ownsRow_mono {w:World} {B B':Nat} {e:TypeId} {size:Nat} {v:Value} {n:Nat} {xs:List Value} (h:w.ownsRow B e size v n xs) (hB:B'≤B):w.ownsRow B' e size v n xs:=by
 obtain ⟨h1,h2⟩:=h
 refine ⟨h1,?_⟩
 rcases h2 with h2 | ⟨g,cap,cur,hv,hg,r⟩
 ·exact Or.inl h2
 ·exact Or.inr ⟨g,cap,cur,hv,Nat.le_trans hB hg,r⟩
theorem own_apart {w:World} {B B':Nat} {e e':TypeId} {size size':Nat} {v v':Value} {n n':Nat} {xs xs':List Value} (h:w.ownsRow B e size v n xs) (h':w.ownsRow B' e' size' v' n' xs') (he:e≠e'):v.ownBlock=none∨v.ownBlock≠v'.ownBlock:=by
 rcases h.2 with ⟨hv,_⟩ | ⟨g,cap,cur,hv,_,hh,_⟩
 ·exact Or.inl (by rw [hv];rfl)
 ·right
  rcases h'.2 with ⟨hv',_⟩ | ⟨g',cap',cur',hv',_,hh',_⟩
  ·rw [hv,hv'];simp [Value.ownBlock]
  ·rw [hv,hv']
   intro e2
   simp [Value.ownBlock] at e2
   rw [e2] at hh
   rw [hh] at hh'
   simp at hh'
   exact he hh'.2
structure Build (w:World) (B:Nat) (v:Value) (ll:List (List M.D)) (vs:List Value):Prop where
 outer:w.ownsRow B 45 1 v ll.length vs
 len:vs.length=ll.length
 inner:∀ i (h:i < ll.length) (h':i < vs.length),w.ownsRow B 48 3 vs[i] ll[i].length (flat ll[i])
theorem Build.mono {w:World} {B B':Nat} {v:Value} {ll:List (List M.D)} {vs:List Value} (h:Build w B v ll vs) (hB:B'≤B):Build w B' v ll vs :=
 ⟨ownsRow_mono h.outer hB,h.len,fun i h1 h2=>ownsRow_mono (h.inner i h1 h2) hB⟩
theorem Build.nil (w:World) (B:Nat):Build w B (.slice none 0 0) [] []:=⟨World.ownsRow_nil _ _ _ _,rfl,fun _ h _=>absurd h (Nat.not_lt_zero _)⟩
theorem ownsRow_far {w:World} {B:Nat} {e:TypeId} {size:Nat} {v:Value} {n:Nat} {xs:List Value} (h:w.ownsRow B e size v n xs) {b i:Nat} (hb:b < B) (u:Value):(w.setCell ⟨b,i,none⟩ u).ownsRow B e size v n xs :=
 ownsRow_setCell_below h (a:=⟨b,i,none⟩) hb u
theorem Build.far {w:World} {B:Nat} {v:Value} {ll:List (List M.D)} {vs:List Value} (h:Build w B v ll vs) {b i:Nat} (hb:b < B) (u:Value):Build (w.setCell ⟨b,i,none⟩ u) B v ll vs :=
 ⟨ownsRow_far h.outer hb u,h.len,fun i h1 h2=>ownsRow_far (h.inner i h1 h2) hb u⟩
theorem Build.snoc {w w':World} {B:Nat} {v v' x:Value} {ll:List (List M.D)} {vs:List Value} {l:List M.D} (h:Build w B v ll vs) (hx:w.ownsRow B 48 3 x l.length (flat l))
  (ho:w'.ownsRow B 45 1 v' (ll.length+1) (vs++[x])) (hg:w.grownBy w' v.ownBlock):Build w' B v' (ll++[l]) (vs++[x]):=by
 have hl:=h.len
 refine ⟨by rw [List.length_append];exact ho,by simp [hl],fun i h1 h2=>?_⟩
 by_cases hi:i < ll.length
 ·rw [List.getElem_append_left hi,List.getElem_append_left (by omega)]
  exact (h.inner i hi (by omega)).kept hg (own_apart (h.inner i hi (by omega)) h.outer (by decide))
 ·have:i=ll.length:=by simp at h1;omega
  subst this
  have e1:(ll++[l])[ll.length]=l:=by simp
  have e2:(vs++[x])[ll.length]=x:=by
   rw [List.getElem_append_right (by omega)]
   simp [hl]
  rw [e1,e2]
  exact hx.kept hg (own_apart hx h.outer (by decide))
theorem Build.ss {w:World} {B:Nat} {v:Value} {ll:List (List M.D)} {vs:List Value} (h:Build w B v ll vs):∃ a g c,v=.slice a ll.length c∧DoSS w a g 0 ll:=by
 have hl:=h.len
 rcases h.outer.2 with ⟨hv,hn⟩ | ⟨g,cap,cur,hv,hg,hh,r⟩
 ·have:ll=[]:=List.length_eq_zero_iff.1 hn
  subst this
  exact ⟨none,0,0,hv,⟨fun h=>absurd h (Nat.lt_irrefl _),fun i hi=>absurd hi (Nat.not_lt_zero _)⟩⟩
 ·refine ⟨_,g,cap,hv,⟨fun _=>rfl,fun i hi=>?_⟩⟩
  have hc:=h.outer.cells (g:=g) (by rw [hv];rfl) i vs[i] (List.getElem?_eq_getElem (by omega))
  rw [Go.WideShapes.add_plain] at hc
  obtain ⟨a',g',c',e,hd,_⟩:=own_steps (h.inner i hi (by omega))
  rw [e] at hc
  exact ⟨a',g',0,c',hc,hd⟩
theorem Tryz.info45:(Tryz.prog.info? 45).map (fun i=>(i.zero,i.size,i.bytes))=some (some (.slice none 0 0),1,24):=by kernel_rfl
structure Slot1 (w:World) (b:Nat) (x:Value):Prop where
 c:w.cell? ⟨b,0,none⟩=some x
 fz:w.frozen? ⟨b,0,none⟩=false
theorem Slot1.lt {w:World} {b:Nat} {x:Value} (h:Slot1 w b x):b < w.heap.size:=World.block_lt_of_cell? _ _ h.c
theorem Slot1.but {w w':World} {b rb:Nat} {x:Value} (h:Slot1 w b x) (hb:But rb w w') (hne:b≠rb):Slot1 w' b x :=
 ⟨(hb.cell (p:=⟨b,0,none⟩) h.lt hne).trans h.c,(hb.frozen (p:=⟨b,0,none⟩) h.lt hne).trans h.fz⟩
theorem Slot1.new (w:World) (x:Value) (t:TypeId):Slot1 (w.alloc (.cells #[x] t)) w.heap.size x:=⟨by simp,by simp⟩
theorem Slot1.far {w:World} {b b' i:Nat} {x:Value} (h:Slot1 w b x) (hne:b'≠b) (u:Value):Slot1 (w.setCell ⟨b',i,none⟩ u) b x :=
 ⟨(World.cell?_setCell_other _ _ _ _ (fun e=>hne (congrArg Addr.block e))).trans h.c,by rw [World.frozen?_setCell];exact h.fz⟩
theorem Slot1.set {w:World} {b:Nat} {x:Value} (h:Slot1 w b x) (u:Value):Slot1 (w.setCell ⟨b,0,none⟩ u) b u :=
 ⟨World.cell?_setCell_same _ _ _ h.c,by rw [World.frozen?_setCell];exact h.fz⟩
end
section
open Go.RowKit
set_option maxHeartbeats 400000 in
theorem l6Open_any (ca:Option Addr) (cb co L C:Nat) (x:Nat→Int) (w:World) (hL:L≤C) (had:0 < L→ca=some ⟨cb,co,none⟩) (hc:∀ i,i < L→w.cell? ⟨cb,co+i,none⟩=some (.int .u8 (x i))∧0≤x i∧x i≤255) (hLb:L≤1048576) :
  Calls Tryz.prog 13 #[.slice ca L C] w fun e w'=>e=.returned (.pointer (some ⟨w.heap.size,0,none⟩))∧Rdr w' w.heap.size w.heap.size 0∧Below w.heap.size w w':=by
 by_cases h2:L≤2000
 ·have h2':¬ (2000:Int) < L:=by omega
  go_enter Tryz.func13,Tryz.ntmps13
  go_wp2_with fail
  go_ret
  refine ⟨rfl,⟨ca,cb,co,L,C,x,by simp,by simp,by simp,had,h2,fun i hi=>⟨?_,(hc i hi).2⟩,fun h0=>World.block_lt_of_cell? _ _ (hc 0 h0).1,Nat.le_refl _⟩,below1 _ _⟩
  rw [World.cell?_alloc_past _ _ _ (World.block_lt_of_cell? _ _ (hc i hi).1)]
  exact (hc i hi).1
 ·have h2':(2000:Int) < L:=by omega
  obtain ⟨rfl⟩:=had (by omega)
  go_enter Tryz.func13,Tryz.ntmps13
  go_wp2_with fail
  go_ret
  refine ⟨rfl,⟨_,cb,co,2000,C,x,by simp,by simp,by simp,fun _=>rfl,by omega,fun i hi=>⟨?_,(hc i (by omega)).2⟩,fun h0=>World.block_lt_of_cell? _ _ (hc 0 (by omega)).1,Nat.le_refl _⟩,below1 _ _⟩
  rw [World.cell?_alloc_past _ _ _ (World.block_lt_of_cell? _ _ (hc i (by omega)).1)]
  exact (hc i (by omega)).1
end
end Go.Proofs.YtnddmlgnngdaoaaGreatDoor
