/- A program in memory whose blocks all lie beyond a bound. No condition. And what goes with it: DoSN, MathN, DrX, DrKi, OsOr4, OsOr5, WaMath, RvWy, OaM, RvWl, RgJ, Front0, Bx2. -/
import Derived.Handy
import Derived.LoopIn
import Derived.LoopNIn
import Derived.OwnWalkIn
import Derived.RangeFuncBound
import Derived.RangeFuncNested
import Derived.Shelf.SlSortCmp.NoneTotal
import Derived.TacticsInMore
import Derived.Deep.OwnRows
import Derived.Test.YtmhpgdliaclokaaGreatRows
import Derived.Test.YtmhpgdliaclokaaGreatQzam
import Derived.Test.YtmhpgdliaclokaaGreatQzau
import Derived.Test.YtmhpgdliaclokaaGreatQzav
namespace Go.Proofs.YtmhpgdliaclokaaGreat
section
open Go.RowKit
theorem DoS.far {w:World} {a:Option Addr} {b o B i:Nat} {l:List M.D} {u:Value} (h:DoS w a b o l) (hb:0 < l.length→b≠B):DoS (w.setCell ⟨B,i,none⟩ u) a b o l:=by
 refine ⟨h.addr,fun j hj=>?_⟩
 have hne:=hb (by omega)
 have hr:=h.row j hj
 exact ⟨(World.cell?_setCell_other _ _ _ _ (fun e=>hne (congrArg Addr.block e).symm)).trans hr.k,(World.cell?_setCell_other _ _ _ _ (fun e=>hne (congrArg Addr.block e).symm)).trans hr.p,(World.cell?_setCell_other _ _ _ _ (fun e=>hne (congrArg Addr.block e).symm)).trans hr.v⟩
theorem DoS.but {w w':World} {a:Option Addr} {rb b o:Nat} {l:List M.D} (h:DoS w a b o l) (hb:But rb w w') (hne:0 < l.length→b≠rb):DoS w' a b o l:=by
 refine ⟨h.addr,fun j hj=>?_⟩
 have hn:=hne (by omega)
 have hr:=h.row j hj
 have hl:=hr.lt
 exact ⟨(hb.cell (p:=⟨b,o+j * 3,none⟩) hl hn).trans hr.k,(hb.cell (p:=⟨b,o+j * 3+1,none⟩) hl hn).trans hr.p,(hb.cell (p:=⟨b,o+j * 3+2,none⟩) hl hn).trans hr.v⟩
theorem own_capS {w:World} {base n cap:Nat} {a:Option Addr} {e:TypeId} {size:Nat} {xs:List Value} (h:w.ownsRow base e size (.slice a n cap) n xs):n≤cap:=by
 rcases h.2 with ⟨hv,_⟩ | ⟨g',cap',cur,hv,_,_,hc,_⟩
 ·simp at hv;omega
 ·simp at hv
  obtain ⟨_,rfl⟩:=hv
  exact hc
theorem own_stepsC {w:World} {base:Nat} {v:Value} {l:List M.D} (h:w.ownsRow base 94 3 v l.length (flat l)):∃ a g c,v=.slice a l.length c∧DoS w a g 0 l∧(0 < l.length→base≤g)∧l.length≤c:=by
 obtain ⟨a,g,c,rfl,hd,hg⟩:=own_steps h
 exact ⟨a,g,c,rfl,hd,hg,own_capS h⟩
structure DoSN (N:Nat) (w:World) (a:Option Addr) (b o:Nat) (ll:List (List M.D)):Prop where
 addr:0 < ll.length→a=some ⟨b,o,none⟩
 ge:0 < ll.length→N≤b
 row:∀ i (h:i < ll.length),∃ a' b' o' c',w.cell? ⟨b,o+i,none⟩=some (.slice a' ll[i].length c')∧DoS w a' b' o' ll[i]∧(0 < ll[i].length→N≤b')∧ll[i].length≤c'
theorem DoSN.ss {N:Nat} {w:World} {a:Option Addr} {b o:Nat} {ll:List (List M.D)} (h:DoSN N w a b o ll):DoSS w a b o ll :=
 ⟨h.addr,fun i hi=>by obtain ⟨a',b',o',c',hc,hd,_,_⟩:=h.row i hi;exact ⟨a',b',o',c',hc,hd⟩⟩
theorem DoSN.far {N:Nat} {w:World} {a:Option Addr} {b o B i:Nat} {ll:List (List M.D)} {u:Value} (h:DoSN N w a b o ll) (hB:B < N):DoSN N (w.setCell ⟨B,i,none⟩ u) a b o ll:=by
 refine ⟨h.addr,h.ge,fun j hj=>?_⟩
 obtain ⟨a',b',o',c',hc,hd,hg,hq⟩:=h.row j hj
 have:=h.ge (by omega)
 exact ⟨a',b',o',c',(World.cell?_setCell_other _ _ _ _ (fun e=>by have:=congrArg Addr.block e;simp at this;omega)).trans hc,hd.far (fun hl=>by have:=hg hl;omega),hg,hq⟩
theorem DoSN.but {N:Nat} {w w':World} {a:Option Addr} {rb b o:Nat} {ll:List (List M.D)} (h:DoSN N w a b o ll) (hb:But rb w w') (hr:rb < N):DoSN N w' a b o ll:=by
 refine ⟨h.addr,h.ge,fun j hj=>?_⟩
 obtain ⟨a',b',o',c',hc,hd,hg,hq⟩:=h.row j hj
 have:=h.ge (by omega)
 exact ⟨a',b',o',c',(hb.cell (p:=⟨b,o+j,none⟩) (World.block_lt_of_cell? _ _ hc) (by show b≠rb;omega)).trans hc,hd.but hb (fun hl=>by have:=hg hl;omega),hg,hq⟩
theorem DoSN.mono {N N':Nat} {w:World} {a:Option Addr} {b o:Nat} {ll:List (List M.D)} (h:DoSN N w a b o ll) (hN:N'≤N):DoSN N' w a b o ll :=
 ⟨h.addr,fun hl=>Nat.le_trans hN (h.ge hl),fun i hi=>by obtain ⟨a',b',o',c',hc,hd,hg,hq⟩:=h.row i hi;exact ⟨a',b',o',c',hc,hd,fun hl=>Nat.le_trans hN (hg hl),hq⟩⟩
theorem own_capR {w:World} {base g n cap:Nat} {e:TypeId} {size:Nat} {xs:List Value} (h:w.ownsRow base e size (.slice (some ⟨g,0,none⟩) n cap) n xs):n≤cap:=by
 rcases h.2 with ⟨hv,_⟩ | ⟨g',cap',cur,hv,_,_,hc,_⟩
 ·simp at hv
 ·simp at hv
  obtain ⟨_,rfl⟩:=hv
  exact hc
theorem Build.cap {w:World} {B n c:Nat} {a:Option Addr} {ll:List (List M.D)} {vs:List Value} (h:Build w B (.slice a n c) ll vs):ll.length≤c:=by
 rcases h.outer.2 with ⟨hv,hn⟩ | ⟨g',cap',cur,hv,_,_,hc,_⟩
 ·omega
 ·simp at hv
  obtain ⟨_,_,rfl⟩:=hv
  exact hc
theorem Build.sn {w:World} {B:Nat} {v:Value} {ll:List (List M.D)} {vs:List Value} (h:Build w B v ll vs):∃ a g c,v=.slice a ll.length c∧DoSN B w a g 0 ll:=by
 have hl:=h.len
 rcases h.outer.2 with ⟨hv,hn⟩ | ⟨g,cap,cur,hv,hg,hh,r⟩
 ·have:ll=[]:=List.length_eq_zero_iff.1 hn
  subst this
  exact ⟨none,0,0,hv,⟨fun h=>absurd h (Nat.lt_irrefl _),fun h=>absurd h (Nat.lt_irrefl _),fun i hi=>absurd hi (Nat.not_lt_zero _)⟩⟩
 ·refine ⟨_,g,cap,hv,⟨fun _=>rfl,fun _=>hg,fun i hi=>?_⟩⟩
  have hc:=h.outer.cells (g:=g) (by rw [hv];rfl) i vs[i] (List.getElem?_eq_getElem (by omega))
  rw [Go.WideShapes.add_plain] at hc
  obtain ⟨a',g',c',e,hd,hge,hq⟩:=own_stepsC (h.inner i hi (by omega))
  rw [e] at hc
  exact ⟨a',g',0,c',hc,hd,hge,hq⟩
theorem set_sn {w:World} {B B' g n c:Nat} {v u:Value} {ll:List (List M.D)} {vs:List Value} {L:List M.D} {k:Nat} (hk:k < ll.length) (hB:Build w B' v ll vs) (ho:w.ownsRow B 97 1 (.slice (some ⟨g,0,none⟩) n c) n (vs.set k u)) (hu:w.ownsRow B 94 3 u L.length (flat L)) (hBB:B'≤B):DoSN B' w (some ⟨g,0,none⟩) g 0 (ll.set k L):=by
 have hl:=hB.len
 refine ⟨fun _=>rfl,fun _=>Nat.le_trans hBB (own_ge ho g rfl),fun i hi=>?_⟩
 have hi':i < ll.length:=by simpa using hi
 by_cases e:i=k
 ·subst e
  have hc:=ho.cells (g:=g) rfl i u (by rw [List.getElem?_set_self (by omega)])
  rw [Go.WideShapes.add_plain] at hc
  obtain ⟨a',g',c',e1,hd,hge,hq⟩:=own_stepsC hu
  rw [e1] at hc
  rw [List.getElem_set_self]
  exact ⟨a',g',0,c',hc,hd,fun h=>Nat.le_trans hBB (hge h),hq⟩
 ·have hc:=ho.cells (g:=g) rfl i vs[i] (by rw [List.getElem?_set_ne (fun h=>e h.symm)];exact List.getElem?_eq_getElem (by omega))
  rw [Go.WideShapes.add_plain] at hc
  obtain ⟨a',g',c',e1,hd,hge,hq⟩:=own_stepsC (hB.inner i hi' (by omega))
  rw [e1] at hc
  rw [List.getElem_set_ne (fun h=>e h.symm)]
  exact ⟨a',g',0,c',hc,hd,hge,hq⟩
end
section
open Go.RowKit
theorem M.from_le {ll:List (List M.D)}:∀ {a u:Nat},M.progFrom a u ll=true→∀ t∈ll,t.length≤7:=by
 induction ll with
 | nil=>intro a u _ t ht;simp at ht
 | cons t l ih =>
  intro a u h t' ht'
  by_cases hb:M.thread t=true
  ·simp only [M.progFrom,hb,if_true] at h
   rcases List.mem_cons.1 ht' with rfl | hm
   ·exact M.thread_le hb
   ·exact ih h t' hm
  ·simp [M.progFrom,hb] at h
theorem M.prog_le {ll:List (List M.D)} (h:M.prog ll=true):ll.length≤3∧∀ t∈ll,t.length≤7:=by
 simp only [M.prog,Bool.and_eq_true,decide_eq_true_eq] at h
 exact ⟨h.1,M.from_le h.2⟩
end
section
open Go.RowKit
theorem Slot1.ofB {w w':World} {b:Nat} {x:Value} (h:Slot1 w b x) (hb:w'.heap[b]?=w.heap[b]?):Slot1 w' b x :=
 ⟨(World.cell?_of_block (a:=⟨b,0,none⟩) hb).trans h.c,(World.frozen?_of_block (a:=⟨b,0,none⟩) hb).trans h.fz⟩
end
section
open Go.RowKit
set_option maxHeartbeats 1000000 in
set_option maxRecDepth 100000 in
theorem l71Kind_any (B rb p:Nat) (w:World) (hp:p≤900000) (h:Rdr w B rb p) :
  Calls Tryz.prog 49 #[.pointer (some ⟨rb,0,none⟩)] w fun e w'=>∃ r:Int,e=.returned (.int .i64 r)∧-1≤r∧r≤4∧Rdr w' B rb (p+2)∧But rb w w':=by
 have hlt:=h.lt
 go_enter Tryz.func49,Tryz.ntmps49
 go_wp2_with fail
 refine (pick_rdr B rb p 24 _ (by omega) (by omega) (by omega) h).mono ?_
 rintro e w1 ⟨r1,rfl,r10,r11,hr1,hb1⟩
 by_cases h0:r1=0
 ·subst h0
  have hal:=below1 w1 (.cells #[.int .i64 0,.int .i64 4,.int .i64 (-1)] 3)
  have hr2:=hr1.below hal (Nat.le_refl _)
  have hl1:=hb1.size
  go_wp2_with fail
  refine (pick_rdr B rb (p+1) 3 _ (by omega) (by omega) (by omega) hr2).mono ?_
  rintro e w2 ⟨r2,rfl,r20,r21,hr3,hb2⟩
  have c0:(w1.alloc (.cells #[.int .i64 0,.int .i64 4,.int .i64 (-1)] 3)).cell? ⟨w1.heap.size,0,none⟩=some (.int .i64 0):=by simp
  have c1:(w1.alloc (.cells #[.int .i64 0,.int .i64 4,.int .i64 (-1)] 3)).cell? ⟨w1.heap.size,1,none⟩=some (.int .i64 4):=by simp
  have c2:(w1.alloc (.cells #[.int .i64 0,.int .i64 4,.int .i64 (-1)] 3)).cell? ⟨w1.heap.size,2,none⟩=some (.int .i64 (-1)):=by simp
  have d0:=(hb2.cell (p:=⟨w1.heap.size,0,none⟩) (by simp) (by show w1.heap.size≠rb;omega)).trans c0
  have d1:=(hb2.cell (p:=⟨w1.heap.size,1,none⟩) (by simp) (by show w1.heap.size≠rb;omega)).trans c1
  have d2:=(hb2.cell (p:=⟨w1.heap.size,2,none⟩) (by simp) (by show w1.heap.size≠rb;omega)).trans c2
  have hbw:=(hb1.trans (But.of hal)).trans hb2
  clear c0 c1 c2 hal
  have hr:r2=0∨r2=1∨r2=2:=by omega
  rcases hr with rfl | rfl | rfl
  ·go_wp2_with fail
   go_ret
   exact ⟨_,rfl,by omega,by omega,hr3,hbw⟩
  ·go_wp2_with fail
   go_ret
   exact ⟨_,rfl,by omega,by omega,hr3,hbw⟩
  ·go_wp2_with fail
   go_ret
   exact ⟨_,rfl,by omega,by omega,hr3,hbw⟩
 ·have b0:(r1==0)=false:=by simp [h0]
  go_wp2_with fail
  refine (pick_rdr B rb (p+1) 3 _ (by omega) (by omega) (by omega) hr1).mono ?_
  rintro e w2 ⟨r2,rfl,r20,r21,hr3,hb2⟩
  go_wp2_with fail
  go_ret
  exact ⟨_,rfl,by (try rw [IntKind.wrap_i64]);omega,by (try rw [IntKind.wrap_i64]);omega,hr3,hb1.trans hb2⟩
end
section
open Go.RowKit
namespace M
theorem idx_at {l:List Int} {v:Int} {n:Nat} (hn:n < l.length) (h:l[n]=v) (hb:∀ i (_:i < n) (hi:i < l.length),l[i]≠v):idx l v=n:=by
 have:l.findIdx? (·==v)=some n:=by
  rw [List.findIdx?_eq_some_iff_getElem]
  exact ⟨hn,by simpa using h,fun j hj=>by simpa using hb j hj (by omega)⟩
 simp [idx,this]
theorem idx_not {l:List Int} {v:Int} (h:∀ i (_:i < l.length),l[i]≠v):idx l v=-1:=by
 have:l.findIdx? (·==v)=none:=by
  rw [List.findIdx?_eq_none_iff]
  intro x hx
  obtain ⟨i,hi,rfl⟩:=List.getElem_of_mem hx
  simpa using h i hi
 simp [idx,this]
end M
set_option maxHeartbeats 400000 in
theorem l13Rank_any (a:Option Addr) (b o c:Nat) (l:List Int) (v:Int) (w:World) (hl:l.length≤1048576) (h:IntS w a b o l) :
  Calls Tryz.prog 79 #[.slice a l.length c,.int .i64 v] w fun e w'=>e=.returned (.int .i64 (M.idx l v))∧w'=w:=by
 go_enter Tryz.func79,Tryz.ntmps79
 go_wp2_with fail
 go_loopw [5] (fun s5 wr=>∃ n:Nat,s5=.int .i64 n∧n≤l.length∧Hid (∀ i (_:i < n) (h:i < l.length),l[i]≠v)∧wr=w) (fun s5 _=>l.length - (intOf s5).toNat)
 case atStart=>exact ⟨0,rfl,Nat.zero_le _,fun i hi=>absurd hi (Nat.not_lt_zero _),rfl⟩
 case round =>
  obtain ⟨n,rfl,hn,HA,rfl⟩:=hrel
  by_cases hlt:n < l.length
  ·obtain ⟨rfl⟩:=h.addr (by omega)
   have hx:=h.row n hlt
   obtain ⟨y,hy⟩:∃ y,l[n]=y:=⟨_,rfl⟩
   have HY:Hid (l[n]=y):=hy
   rw [hy] at hx
   clear hy
   have i1:(n:Int) < l.length:=by omega
   by_cases e:y=v
   ·subst e
    go_wp2_with fail
    go_ret
    exact ⟨by rw [M.idx_at hlt HY.out HA.out];rfl,rfl⟩
   ·have e':(y==v)=false:=by simpa using e
    go_wp2_with fail
    exact ⟨⟨n+1,by go_num,by omega,fun i hi hl=>by
     by_cases ei:i=n
     ·subst ei;rw [HY.out];exact e
     ·exact HA.out i (by omega) hl,trivial⟩,by simp [intOf];omega⟩
  ·go_wp2_with fail
   go_ret
   exact ⟨by rw [M.idx_not (fun i hi=>HA.out i (by omega) hi)];rfl,rfl⟩
theorem cellBut {O:Nat} {W W':World} {p:Addr} {v:Value} (hb:But O W W') (h:W.cell? p=some v) (hne:p.block≠O):W'.cell? p=some v:=(hb.cell (p:=p) (World.block_lt_of_cell? _ _ h) hne).trans h
theorem But.low {O:Nat} {w0 w w':World} (h:Below w0.heap.size w0 w) (k:But O w w') (hO:w0.heap.size≤O):Below w0.heap.size w0 w' :=
 ⟨k.os.trans h.os,k.tape.trans h.tape,k.output.trans h.output,Nat.le_trans h.size k.size,fun i hi=>(k.block i (Nat.lt_of_lt_of_le hi h.size) (by omega)).trans (h.block i hi)⟩
structure Wk (w wr:World) (O:Nat) (p l v1 v2 fr od:Value) (n:Nat) (f:Nat→Int):Prop where
 but:But O w wr
 blk:wr.heap[O]?=some (.cells #[p,l,v1,v2,fr,.slice (some ⟨w.heap.size+1,0,none⟩) n n] 131 (0,0))
 x0:wr.cell? ⟨w.heap.size,0,none⟩=some fr
 x1:wr.cell? ⟨w.heap.size,1,none⟩=some od
 row:wr.rowIs (w.heap.size+1) 3 n (fun i=>.int .i64 (f i))
theorem Wk.lt {w wr:World} {O:Nat} {p l v1 v2 fr od:Value} {n:Nat} {f:Nat→Int} (h:Wk w wr O p l v1 v2 fr od n f):w.heap.size+1 < wr.heap.size:=h.row.lt
theorem Wk.below {w wr w1:World} {O:Nat} {p l v1 v2 fr od:Value} {n:Nat} {f:Nat→Int} (h:Wk w wr O p l v1 v2 fr od n f) (hO:O < w.heap.size) (hb:Below wr.heap.size wr w1):Wk w w1 O p l v1 v2 fr od n f:=by
 have hl:=h.lt
 exact ⟨h.but.trans (But.of hb),(hb.block _ (by omega)).trans h.blk,cellC hb h.x0,cellC hb h.x1,h.row.of_block (hb.block _ hl)⟩
theorem Wk.store {w wr:World} {O:Nat} {p l v1 v2 fr od:Value} {n:Nat} {f:Nat→Int} (h:Wk w wr O p l v1 v2 fr od n f) (hO:O < w.heap.size) (i:Nat) (x:Int):Wk w (wr.setCell ⟨w.heap.size+1,i,none⟩ (.int .i64 x)) O p l v1 v2 fr od n (fun j=>if j=i then x else f j):=by
 refine ⟨h.but.setCell (Or.inl (by show w.heap.size≤w.heap.size+1;omega)) _,(Below.heap_setCell _ _ _ _ (by show O≠w.heap.size+1;omega)).trans h.blk,?_,?_,(h.row.set i (.int .i64 x)).congr (fun j _=>?_)⟩
 ·rw [World.cell?_setCell_other _ _ _ _ (fun e=>by have:=congrArg Addr.block e;simp at this)];exact h.x0
 ·rw [World.cell?_setCell_other _ _ _ _ (fun e=>by have:=congrArg Addr.block e;simp at this)];exact h.x1
 ·by_cases e:j=i<;>simp [e]
theorem Wk.c {w wr:World} {O:Nat} {p l v1 v2 fr od:Value} {n:Nat} {f:Nat→Int} (h:Wk w wr O p l v1 v2 fr od n f):wr.cell? ⟨O,0,none⟩=some p∧wr.cell? ⟨O,1,none⟩=some l∧wr.cell? ⟨O,2,none⟩=some v1∧wr.cell? ⟨O,3,none⟩=some v2∧wr.cell? ⟨O,4,none⟩=some fr∧wr.cell? ⟨O,5,none⟩=some (.slice (some ⟨w.heap.size+1,0,none⟩) n n):=by
 refine ⟨?_,?_,?_,?_,?_,?_⟩
 all_goals simp [World.cell?,h.blk]
theorem DvS.but {w w':World} {O:Nat} {va:Option Addr} {g:Nat} {l:List M.De} (h:DvS w va g l) (hb:But O w w') (hne:g≠O):DvS w' va g l :=
 ⟨h.addr,fun i hi j hj=>by
  have h1:=h.row i hi j hj
  match j,hj with
  | 0,_=>exact cellBut hb h1 hne
  | 1,_=>exact cellBut hb h1 hne
  | 2,_=>exact cellBut hb h1 hne⟩
set_option maxHeartbeats 2000000 in
set_option maxRecDepth 100000 in
theorem wayG_any {f4 f5:Value} (t:Lp) (u:Lq) (w0 w:World) (od:Nat) (hk:t.Ok) (hpl:∀ x∈M.deeds t.ll,x.uses=true→0≤x.d.p∧x.d.p < 3) (hpos:0 < (M.deeds t.ll).length) (HL:Hid (u.l.length=(M.deeds t.ll).length)) (H3:Hid (u.rows.length=3)) (hrl:∀ r∈u.rows,r.length≤1048576) (rb ro:Nat)
  (h0:Below w0.heap.size w0 w) (hO:w0.heap.size≤t.O) (hOl:t.O < w.heap.size) (ss:DoSS w0 t.a t.b t.o t.ll) (hf:IntS w0 (some ⟨u.fb,u.fo,none⟩) u.fb u.fo u.l) (hr:IntSS w0 (some ⟨rb,ro,none⟩) rb ro u.rows)
  (blk:w.heap[t.O]?=some (.cells #[.slice t.a t.ll.length t.c,.slice (some ⟨t.g,0,none⟩) (M.deeds t.ll).length t.cc,.slice (some ⟨u.rb,0,none⟩) (M.deeds t.ll).length u.rc,.slice (some ⟨u.wb,0,none⟩) (M.deeds t.ll).length u.wc,f4,f5] 131 (0,0)))
  (dv:DvS w (some ⟨t.g,0,none⟩) t.g (M.deeds t.ll)) (rd:∀ n x,(M.deeds t.ll)[n]?=some x→w.cell? ⟨u.rb,n,none⟩=some (.bool (M.reads x.d.k))) (wrt:∀ n x,(M.deeds t.ll)[n]?=some x→w.cell? ⟨u.wb,n,none⟩=some (.bool (M.writes x.d.k))) (hkb:u.kb=w.heap.size+1) (hkc:u.kc=(M.deeds t.ll).length) :
  Calls Tryz.prog 34 #[.pointer (some ⟨t.O,0,none⟩),.agg #[.slice (some ⟨u.fb,u.fo,none⟩) u.l.length u.fc,.slice (some ⟨rb,ro,none⟩) u.rows.length od]] w fun e w'=>e=.returned (.tuple #[])∧u.At t w'∧But t.O w w'∧∃ f4' f5',w'.heap[t.O]?=some (.cells #[.slice t.a t.ll.length t.c,.slice (some ⟨t.g,0,none⟩) (M.deeds t.ll).length t.cc,.slice (some ⟨u.rb,0,none⟩) (M.deeds t.ll).length u.rc,.slice (some ⟨u.wb,0,none⟩) (M.deeds t.ll).length u.wc,f4',f5'] 131 (0,0)):=by
 have hdl:=hk.dl
 have fl:=Tryz.fld1
 have hmk:=run_make_row' (P:=Tryz.prog) 26 3 (.int .i64 0) 8 Tryz.underlying26 Tryz.infoInt rfl .i64 .i64 (M.deeds t.ll).length (by omega) (by omega)
 have b1:w.cell? ⟨t.O,1,none⟩=some (.slice (some ⟨t.g,0,none⟩) (M.deeds t.ll).length t.cc):=by simp [World.cell?,blk]
 have b4:w.cell? ⟨t.O,4,none⟩=some f4:=by simp [World.cell?,blk]
 have b5:w.cell? ⟨t.O,5,none⟩=some f5:=by simp [World.cell?,blk]
 have bf:∀ i,w.frozen? ⟨t.O,i,none⟩=false:=fun i=>by simp [World.frozen?,blk]
 go_enter Tryz.func34,Tryz.ntmps34
 go_wp2_with fail
 have k0:Wk w ((((w.setCell ⟨t.O,4,none⟩ (.slice (some ⟨u.fb,u.fo,none⟩) u.l.length u.fc)).setCell ⟨t.O,5,none⟩ (.slice (some ⟨w.heap.size+1,0,none⟩) (M.deeds t.ll).length (M.deeds t.ll).length)).alloc (.cells #[.slice (some ⟨u.fb,u.fo,none⟩) u.l.length u.fc,.slice (some ⟨rb,ro,none⟩) u.rows.length od] 29)).alloc (.cells (madeCells #[.int .i64 0] (M.deeds t.ll).length) 3)) t.O (.slice t.a t.ll.length t.c) (.slice (some ⟨t.g,0,none⟩) (M.deeds t.ll).length t.cc) (.slice (some ⟨u.rb,0,none⟩) (M.deeds t.ll).length u.rc) (.slice (some ⟨u.wb,0,none⟩) (M.deeds t.ll).length u.wc) (.slice (some ⟨u.fb,u.fo,none⟩) u.l.length u.fc) (.slice (some ⟨rb,ro,none⟩) u.rows.length od) (M.deeds t.ll).length (fun _=>0):=by
  have e1:=heap_setCell_same w t.O 4 _ _ (.slice (some ⟨u.fb,u.fo,none⟩) u.l.length u.fc) blk
  have e2:=heap_setCell_same _ t.O 5 _ _ (.slice (some ⟨w.heap.size+1,0,none⟩) (M.deeds t.ll).length (M.deeds t.ll).length) e1
  refine ⟨(((((But.refl t.O w).setCell (Or.inr rfl) _).setCell (Or.inr rfl) _).alloc _).alloc _),?_,by simp [go_sem],by simp [go_sem],?_⟩
  ·rw [alloc_old _ _ _ (by simp;omega),alloc_old _ _ _ (by simp;omega)];exact e2
  ·have:=World.rowIs_made (((w.setCell ⟨t.O,4,none⟩ (.slice (some ⟨u.fb,u.fo,none⟩) u.l.length u.fc)).setCell ⟨t.O,5,none⟩ (.slice (some ⟨w.heap.size+1,0,none⟩) (M.deeds t.ll).length (M.deeds t.ll).length)).alloc (.cells #[.slice (some ⟨u.fb,u.fo,none⟩) u.l.length u.fc,.slice (some ⟨rb,ro,none⟩) u.rows.length od] 29)) (.int .i64 0) (M.deeds t.ll).length 3
   simpa using this
 generalize ((((w.setCell ⟨t.O,4,none⟩ (.slice (some ⟨u.fb,u.fo,none⟩) u.l.length u.fc)).setCell ⟨t.O,5,none⟩ (.slice (some ⟨w.heap.size+1,0,none⟩) (M.deeds t.ll).length (M.deeds t.ll).length)).alloc (.cells #[.slice (some ⟨u.fb,u.fo,none⟩) u.l.length u.fc,.slice (some ⟨rb,ro,none⟩) u.rows.length od] 29)).alloc (.cells (madeCells #[.int .i64 0] (M.deeds t.ll).length) 3))=W0 at k0 ⊢
 clear hmk b1 b4 b5 bf
 obtain ⟨x0,hx0⟩:∃ x,(M.deeds t.ll)[0]?=some x:=⟨_,List.getElem?_eq_getElem hpos⟩
 have b0:w.cell? ⟨t.O,0,none⟩=some (.slice t.a t.ll.length t.c):=by simp [World.cell?,blk]
 have hgO:t.g≠t.O:=fun e=>by
  have h1:=(dv.at hpos).c0
  rw [e,Nat.zero_mul,b0] at h1
  cases h1
 have hwO:u.wb≠t.O:=fun e=>by
  have h1:=wrt 0 x0 hx0
  rw [e,b0] at h1
  cases h1
 have hrO:u.rb≠t.O:=fun e=>by
  have h1:=rd 0 x0 hx0
  rw [e,b0] at h1
  cases h1
 have tAt:∀ W' f,Wk w W' t.O (.slice t.a t.ll.length t.c) (.slice (some ⟨t.g,0,none⟩) (M.deeds t.ll).length t.cc) (.slice (some ⟨u.rb,0,none⟩) (M.deeds t.ll).length u.rc) (.slice (some ⟨u.wb,0,none⟩) (M.deeds t.ll).length u.wc) (.slice (some ⟨u.fb,u.fo,none⟩) u.l.length u.fc) (.slice (some ⟨rb,ro,none⟩) u.rows.length od) (M.deeds t.ll).length f→t.At W':=fun W' f kk=>⟨kk.c.1,kk.c.2.1,ss.below (But.low h0 kk.but hO) (Nat.le_refl _),dv.but kk.but hgO⟩
 go_loopw [4] (fun s4 wq=>∃ (n:Nat) (f:Nat→Int),s4=.int .i64 n∧n≤(M.deeds t.ll).length∧Hid (∀ j x,(M.deeds t.ll)[j]?=some x→f j=if j < n then M.rankAt u.l u.rows j x else 0)∧Wk w wq t.O (.slice t.a t.ll.length t.c) (.slice (some ⟨t.g,0,none⟩) (M.deeds t.ll).length t.cc) (.slice (some ⟨u.rb,0,none⟩) (M.deeds t.ll).length u.rc) (.slice (some ⟨u.wb,0,none⟩) (M.deeds t.ll).length u.wc) (.slice (some ⟨u.fb,u.fo,none⟩) u.l.length u.fc) (.slice (some ⟨rb,ro,none⟩) u.rows.length od) (M.deeds t.ll).length f) (fun s4 _=>(M.deeds t.ll).length - (intOf s4).toNat)
 case atStart=>exact ⟨0,fun _=>0,rfl,Nat.zero_le _,(fun j x _=>by simp),k0⟩
 case round =>
  clear k0 b0 hx0
  obtain ⟨n,f,rfl,hn,HF,k⟩:=hrel
  have q1:=k.c.2.1
  have q2:=k.c.2.2.1
  have q3:=k.c.2.2.2.1
  by_cases hlt:n < (M.deeds t.ll).length
  ·obtain ⟨x,hx⟩:∃ x,(M.deeds t.ll)[n]?=some x:=⟨_,List.getElem?_eq_getElem hlt⟩
   have i1:(n:Int) < (M.deeds t.ll).length:=by omega
   have wx:=cellBut k.but (wrt n x hx) hwO
   have rx:=cellBut k.but (rd n x hx) hrO
   have FSTEP:∀ v,M.rankAt u.l u.rows n x=v→Hid (∀ j y,(M.deeds t.ll)[j]?=some y→(if j=n then v else f j)=if j < n+1 then M.rankAt u.l u.rows j y else 0):=fun v hv j y hy=>by
    by_cases e:j=n
    ·subst e
     rw [hx] at hy
     obtain rfl:=Option.some.inj hy
     rw [if_pos rfl,if_pos (by omega),hv]
    ·rw [if_neg e,HF.out j y hy]
     by_cases e2:j < n
     ·rw [if_pos e2,if_pos (by omega)]
     ·rw [if_neg e2,if_neg (by omega)]
   cases hw:M.writes x.d.k
   case true =>
    rw [hw] at wx
    obtain ⟨hp0,hp3⟩:=hpl x (List.mem_of_getElem? hx) (by simp [M.De.uses,M.uses,hw])
    obtain ⟨p,hp⟩:∃ p:Nat,x.d.p=p:=⟨x.d.p.toNat,by omega⟩
    have hpr:p < u.rows.length:=by have:=H3.out;omega
    obtain ⟨a',b',o',c',hc0,hrow0⟩:=hr.row p hpr
    have hc:=cellC h0 hc0
    have hrlp:=hrl _ (List.getElem_mem hpr)
    have HRW:Hid (u.rows.getD p []=u.rows[p]):=by show _=_;rw [List.getD_eq_getElem?_getD,List.getElem?_eq_getElem hpr];rfl
    have hrbO:rb≠t.O:=by
     have:rb < w0.heap.size:=World.block_lt_of_cell? _ _ hc0
     omega
    have hrowB:∀ W',But t.O w W'→IntS W' a' b' o' u.rows[p]:=fun W' hb=>hrow0.below (But.low h0 hb hO) (Nat.le_refl _)
    clear hrow0 hc0
    generalize u.rows[p]=row at *
    have HRK:Hid (M.rankAt u.l u.rows n x=M.idx row (n:Int)):=by show _=_;rw [M.rankAt,if_pos hw,hp,Int.toNat_natCast,HRW.out]
    have i4:(p:Int) < u.rows.length:=by omega
    have N1:w.heap.size+1≠t.O:=by omega
    have N2:w.heap.size+1≠w.heap.size:=by omega
    have N3:w.heap.size+1≠rb:=by have:rb < w.heap.size:=World.block_lt_of_cell? _ _ hc;omega
    have X1:=k.c.2.2.2.2.2
    have X2:=k.x1
    have X3:=cellBut k.but hc hrbO
    have hOwr:=k.lt
    have C:=do_any t n x _ hk (tAt _ _ (k.below hOl (Below.refl _ _).drew)) hx
    rw [hp] at C
    go_wp2_with fail
    go_region_held3 (fun w'=>w'.cell? ⟨t.O,5,none⟩=some (.slice (some ⟨w.heap.size+1,0,none⟩) (M.deeds t.ll).length (M.deeds t.ll).length)∧w'.cell? ⟨w.heap.size,1,none⟩=some (.slice (some ⟨rb,ro,none⟩) u.rows.length od)∧w'.cell? ⟨rb,ro+p,none⟩=some (.slice a' row.length c')) (go_keep) (first
     | (go_at_call 77;refine C.mono ?_;rintro e w1 ⟨rfl,hb1⟩;have k1:=k.below hOl ((Below.refl _ _).drew.trans hb1);have Y1:=k1.c.2.2.2.2.2;have Y2:=k1.x1;have Y3:=cellBut k1.but hc hrbO;have Z0:=k1.row.cell hlt;have Zf:=k1.row.frozen;have Zl:=k1.lt)
     | (go_at_call 79;refine (l13Rank_any a' b' o' c' row (n:Int) _ hrlp (hrowB _ k1.but)).mono ?_;rintro e w2x ⟨rfl,rfl⟩))
    have k2:=k1.store hOl n (M.idx row (n:Int))
    go_wp2_with fail
    exact ⟨⟨n+1,_,by go_num,by omega,FSTEP _ HRK.out,k2⟩,by simp [intOf];omega⟩
   rw [hw] at wx
   cases hrd:M.reads x.d.k
   case true =>
    rw [hrd] at rx
    obtain ⟨hp0,hp3⟩:=hpl x (List.mem_of_getElem? hx) (by simp [M.De.uses,M.uses,hrd])
    obtain ⟨p,hp⟩:∃ p:Nat,x.d.p=p:=⟨x.d.p.toNat,by omega⟩
    have hpr:p < u.rows.length:=by have:=H3.out;omega
    obtain ⟨a',b',o',c',hc0,hrow0⟩:=hr.row p hpr
    have hc:=cellC h0 hc0
    have hrlp:=hrl _ (List.getElem_mem hpr)
    have HRW:Hid (u.rows.getD p []=u.rows[p]):=by show _=_;rw [List.getD_eq_getElem?_getD,List.getElem?_eq_getElem hpr];rfl
    have hrbO:rb≠t.O:=by
     have:rb < w0.heap.size:=World.block_lt_of_cell? _ _ hc0
     omega
    have hrowB:∀ W',But t.O w W'→IntS W' a' b' o' u.rows[p]:=fun W' hb=>hrow0.below (But.low h0 hb hO) (Nat.le_refl _)
    clear hrow0 hc0
    generalize u.rows[p]=row at *
    have hnl:n < u.l.length:=by have:=HL.out;omega
    have HG:Hid (u.l.getD n 0=u.l[n]):=by show _=_;simp [hnl]
    have fn0:=(hf.below h0 (Nat.le_refl _)).row n hnl
    have hfO:u.fb≠t.O:=by have:=hf.lt (by omega);omega
    generalize u.l[n]=fv at *
    have i5:(n:Int) < u.l.length:=by omega
    have X4:=k.x0
    have X5:=cellBut k.but fn0 hfO
    have HRK:Hid (M.rankAt u.l u.rows n x=M.idx row fv):=by show _=_;rw [M.rankAt,if_neg (by rw [hw];simp),if_pos hrd,hp,Int.toNat_natCast,HRW.out,HG.out]
    have i4:(p:Int) < u.rows.length:=by omega
    have N1:w.heap.size+1≠t.O:=by omega
    have N2:w.heap.size+1≠w.heap.size:=by omega
    have N3:w.heap.size+1≠rb:=by have:rb < w.heap.size:=World.block_lt_of_cell? _ _ hc;omega
    have N4:w.heap.size+1≠u.fb:=by have:=hf.lt (by have:=HL.out;omega);have:=h0.size;omega
    have X1:=k.c.2.2.2.2.2
    have X2:=k.x1
    have X3:=cellBut k.but hc hrbO
    have hOwr:=k.lt
    have C:=do_any t n x _ hk (tAt _ _ (k.below hOl (Below.refl _ _).drew)) hx
    rw [hp] at C
    go_wp2_with fail
    go_region_held3 (fun w'=>w'.cell? ⟨t.O,5,none⟩=some (.slice (some ⟨w.heap.size+1,0,none⟩) (M.deeds t.ll).length (M.deeds t.ll).length)∧w'.cell? ⟨w.heap.size,1,none⟩=some (.slice (some ⟨rb,ro,none⟩) u.rows.length od)∧w'.cell? ⟨rb,ro+p,none⟩=some (.slice a' row.length c')∧w'.cell? ⟨w.heap.size,0,none⟩=some (.slice (some ⟨u.fb,u.fo,none⟩) u.l.length u.fc)∧w'.cell? ⟨u.fb,u.fo+n,none⟩=some (.int .i64 fv)) (go_keep) (first
     | (go_at_call 77;refine C.mono ?_;rintro e w1 ⟨rfl,hb1⟩;have k1:=k.below hOl ((Below.refl _ _).drew.trans hb1);have Y1:=k1.c.2.2.2.2.2;have Y2:=k1.x1;have Y3:=cellBut k1.but hc hrbO;have Y4:=k1.x0;have Y5:=cellBut k1.but fn0 hfO;have Z0:=k1.row.cell hlt;have Zf:=k1.row.frozen;have Zl:=k1.lt)
     | (go_at_call 79;refine (l13Rank_any a' b' o' c' row fv _ hrlp (hrowB _ k1.but)).mono ?_;rintro e w2x ⟨rfl,rfl⟩))
    have k2:=k1.store hOl n (M.idx row fv)
    go_wp2_with fail
    exact ⟨⟨n+1,_,by go_num,by omega,FSTEP _ HRK.out,k2⟩,by simp [intOf];omega⟩
   rw [hrd] at rx
   go_wp2_with fail
   have hz:M.rankAt u.l u.rows n x=0:=by rw [M.rankAt,if_neg (by rw [hw];simp),if_neg (by rw [hrd];simp)]
   refine ⟨⟨n+1,f,by go_num,by omega,(fun j y hy=>?_),k⟩,by simp [intOf];omega⟩
   rw [HF.out j y hy]
   by_cases e:j=n
   ·subst e
    rw [hx] at hy
    obtain rfl:=Option.some.inj hy
    rw [if_neg (by omega),if_pos (by omega),hz]
   ·by_cases e2:j < n
    ·rw [if_pos e2,if_pos (by omega)]
    ·rw [if_neg e2,if_neg (by omega)]
  ·go_wp2_with fail
   refine bodyPost_end (v:=.tuple #[]) (results_none Tryz.results34 _ _ _) rfl ⟨rfl,⟨tAt _ _ k,k.c.2.2.1,k.c.2.2.2.1,k.c.2.2.2.2.1,?_,fun j y hy=>cellBut k.but (rd j y hy) hrO,fun j y hy=>cellBut k.but (wrt j y hy) hwO,hf.below (But.low h0 k.but hO) (Nat.le_refl _),HL,fun j y hy=>?_⟩,k.but,_,_,k.blk⟩
   ·rw [hkb,hkc];exact k.c.2.2.2.2.2
   ·have hj:=Lp.lt hy
    rw [hkb,k.row.cell hj,HF.out j y hy,if_pos (by omega)]
theorem way_any (t:Lp) (u:Lq) (w0 w:World) (od:Nat) (hk:t.Ok) (hpl:∀ x∈M.deeds t.ll,x.uses=true→0≤x.d.p∧x.d.p < 3) (hpos:0 < (M.deeds t.ll).length) (HL:Hid (u.l.length=(M.deeds t.ll).length)) (H3:Hid (u.rows.length=3)) (hrl:∀ r∈u.rows,r.length≤1048576) (rb ro:Nat)
  (h0:Below w0.heap.size w0 w) (hO:w0.heap.size≤t.O) (hOl:t.O < w.heap.size) (ss:DoSS w0 t.a t.b t.o t.ll) (hf:IntS w0 (some ⟨u.fb,u.fo,none⟩) u.fb u.fo u.l) (hr:IntSS w0 (some ⟨rb,ro,none⟩) rb ro u.rows)
  (blk:w.heap[t.O]?=some (.cells #[.slice t.a t.ll.length t.c,.slice (some ⟨t.g,0,none⟩) (M.deeds t.ll).length t.cc,.slice (some ⟨u.rb,0,none⟩) (M.deeds t.ll).length u.rc,.slice (some ⟨u.wb,0,none⟩) (M.deeds t.ll).length u.wc,.slice none 0 0,.slice none 0 0] 131 (0,0)))
  (dv:DvS w (some ⟨t.g,0,none⟩) t.g (M.deeds t.ll)) (rd:∀ n x,(M.deeds t.ll)[n]?=some x→w.cell? ⟨u.rb,n,none⟩=some (.bool (M.reads x.d.k))) (wrt:∀ n x,(M.deeds t.ll)[n]?=some x→w.cell? ⟨u.wb,n,none⟩=some (.bool (M.writes x.d.k))) (hkb:u.kb=w.heap.size+1) (hkc:u.kc=(M.deeds t.ll).length) :
  Calls Tryz.prog 34 #[.pointer (some ⟨t.O,0,none⟩),.agg #[.slice (some ⟨u.fb,u.fo,none⟩) u.l.length u.fc,.slice (some ⟨rb,ro,none⟩) u.rows.length od]] w fun e w'=>e=.returned (.tuple #[])∧u.At t w'∧But t.O w w' :=
 (wayG_any t u w0 w od hk hpl hpos HL H3 hrl rb ro h0 hO hOl ss hf hr blk dv rd wrt hkb hkc).mono fun _ _ ⟨h1,h2,h3,_⟩=>⟨h1,h2,h3⟩
end
section
open Go.RowKit
theorem own_bools {w:World} {base g cap:Nat} {l:List Bool} (h:w.ownsRow base 4 1 (.slice (some ⟨g,0,none⟩) l.length cap) l.length (bools l)) (i:Nat) (hi:i < l.length):w.cell? ⟨g,i,none⟩=some (.bool l[i]):=by
 have hc:=h.cells (g:=g) rfl i (.bool l[i]) (by simp [bools,hi])
 rwa [Go.WideShapes.add_plain,Nat.zero_add] at hc
end
section
namespace M
abbrev Wy:=List Int × List (List Int)
end M
end
section
open Go.RowKit Go.Shelf
attribute [local go_sem] Oper.semAt_some
namespace M
end M
theorem cellsOf {W:World} {b:Nat} {cs:Array Value} {ty:TypeId} (h:W.heap[b]?=some (.cells cs ty (0,0))) (i:Nat):W.cell? ⟨b,i,none⟩=cs[i]?:=by
 unfold World.cell?;simp [h]
end
section
namespace M
theorem holds_parts_of {ll:List (List D)} {l:List Int} {rows:List (List Int)} {kind:Int} (h:orderHolds ll l rows kind=true):(decide (1≤kind)&&decide (kind≤3))=true∧execOk ll l rows=true:=by
 unfold orderHolds at h
 obtain ⟨h1,h2⟩:=Bool.and_eq_true_iff.1 h
 exact ⟨h1,(Bool.and_eq_true_iff.1 h2).1⟩
end M
end
section
open Go.RowKit
abbrev Y3:=Value × Value × List Value
end
section
open Go.RowKit
def M.ints (r:List Nat):List Int:=r.map fun (x:Nat)=>(x:Int)
end
section
open Go.ChangeShapes Go.WideShapes Go.ChangeAt Go.RowKit Go.Deep
theorem Tryz.own:ownKnob Tryz.prog.godebug=none:=by kernel_rfl
theorem Tryz.laidOut:laidOutB Tryz.prog=true:=by kernel_rfl
end
section
open Go.RowKit
theorem M.three (s t:Sn):∃ b1 b2 b3:Bool,decide (M.cmpS s.l1 s.l2 t.l1 t.l2 < 0)=b1∧decide (M.cmpS t.l1 t.l2 s.l1 s.l2 < 0)=b2∧M.sameS s.l1 s.l2 t.l1 t.l2=b3∧((b1=true∧b2=false∧b3=false)∨(b1=false∧b2=true∧b3=false)∨(b1=false∧b2=false∧b3=true)):=by
 refine ⟨_,_,_,rfl,rfl,rfl,?_⟩
 rw [M.sameS_eq,M.cmpS_neg s.l1 s.l2 t.l1 t.l2]
 generalize M.cmpS s.l1 s.l2 t.l1 t.l2=z
 rcases Int.lt_trichotomy z 0 with h | h | h
 ·exact Or.inl ⟨by simpa using h,by simp;omega,by simp;omega⟩
 ·subst h;exact Or.inr (Or.inr ⟨by decide,by decide,by decide⟩)
 ·exact Or.inr (Or.inl ⟨by simp;omega,by simp;omega,by simp;omega⟩)
end
end Go.Proofs.YtmhpgdliaclokaaGreat
