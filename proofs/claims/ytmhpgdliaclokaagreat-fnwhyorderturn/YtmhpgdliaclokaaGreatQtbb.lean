/- How many ways there are at most, more sharply; and rows of things of two cells. No condition. And what goes with it: WaSpec, SnOk, OsOr4, OsOr5, LpXe, WaAns, BxP, Bx2, EmbMath, WjMath, WkMath, RwMath. -/
import Derived.Maps.OwnIn
import Derived.Deep.OwnRows
import Derived.Test.YtmhpgdliaclokaaGreatRows
import Derived.Test.YtmhpgdliaclokaaGreatQtap
import Derived.Test.YtmhpgdliaclokaaGreatQtas
import Derived.Test.YtmhpgdliaclokaaGreatQtat
import Derived.Test.YtmhpgdliaclokaaGreatQtav
import Derived.Test.YtmhpgdliaclokaaGreatQtax
import Derived.Test.YtmhpgdliaclokaaGreatQtba
namespace Go.Proofs.YtmhpgdliaclokaaGreat
section
open Go.RowKit
namespace M
theorem use_split:∀ (ds:List De),rdN ds+(ds.filter fun x=>M.writes x.d.k).length≤useN ds
 | []=>by simp [rdN,useN]
 | x::ds=>by
  have ih:=use_split ds
  have hx:(if x.reads then 1 else 0)+(if M.writes x.d.k then 1 else 0)≤if uses x.d.k then 1 else 0:=by
   simp only [De.reads,uses,writes,stores,reads]
   by_cases h2:x.d.k=2
   ·simp [h2]
   ·by_cases h5:x.d.k=5
    ·simp [h5]
    ·simp [h2,h5]
  unfold rdN useN at *
  simp only [List.filter_cons]
  split<;>split<;>split<;>simp_all<;>omega
theorem ways_le2 {ll:List (List D)} (h:prog ll=true):(ways (deeds ll)).length≤117649:=by
 have hu:=use6 h
 have hs:=use_split (deeds ll)
 have hw3:=wrs_three 0 (deeds ll)
 have hf:=fromsOf_len (deeds ll) 7 (fun p=>by have:=wr6 hu p;omega) (deeds ll).length [] (by simp)
 simp only [List.length_nil,List.drop_zero] at hf
 have hr:=fun p:Int=>rows6 h p
 have ho:(ordersOf (deeds ll)).length≤6 ^ ((wrs 0 0 (deeds ll)).length+(wrs 1 0 (deeds ll)).length+(wrs 2 0 (deeds ll)).length):=by
  unfold ordersOf
  rw [addPlace_len,addPlace_len,addPlace_len]
  simp only [List.length_singleton,Nat.one_mul]
  rw [Nat.pow_add,Nat.pow_add]
  exact Nat.mul_le_mul (Nat.mul_le_mul (hr 0) (hr 1)) (hr 2)
 have key:∀ (fs:List (List Int)),(fs.flatMap fun f=>if ends (deeds ll) f then (ordersOf (deeds ll)).map fun o=>(f,o) else []).length≤fs.length * (ordersOf (deeds ll)).length:=fun fs=>flatMap_le _ _ fs (fun f _=>by
  split
  ·simp
  ·simp)
 rw [ways_eq (cop_deeds ll)]
 unfold allWays
 refine Nat.le_trans (key _) ?_
 have h67:6 ^ ((wrs 0 0 (deeds ll)).length+(wrs 1 0 (deeds ll)).length+(wrs 2 0 (deeds ll)).length)≤7 ^ ((wrs 0 0 (deeds ll)).length+(wrs 1 0 (deeds ll)).length+(wrs 2 0 (deeds ll)).length):=Nat.pow_le_pow_left (by omega) _
 refine Nat.le_trans (Nat.mul_le_mul hf (Nat.le_trans ho h67)) ?_
 rw [← Nat.pow_add]
 exact Nat.le_trans (Nat.pow_le_pow_right (by omega) (show _≤6 by omega)) (by decide)
end M
theorem IntS.fr' {w W:World} {D:Nat→Prop} {a:Option Addr} {b o:Nat} {l:List Int} (h:IntS w a b o l) (hf:Fr D w W) (hD:0 < l.length→D b):IntS W a b o l :=
 ⟨h.addr,fun i hi=>hf.cell (p:=⟨b,o+i,none⟩) (hD (by omega)) (h.row i hi)⟩
end
section
open Go.RowKit
set_option maxHeartbeats 400000 in
theorem valsOk_any (a:Option Addr) (b o c:Nat) (l:List Int) (w:World) (hl:l.length≤1048576) (h:IntS w a b o l) :
  Calls Tryz.prog 116 #[.slice a l.length c] w fun e w'=>e=.returned (.bool (M.vals l))∧w'=w:=by
 go_enter Tryz.func116,Tryz.ntmps116
 go_wp2_with fail
 go_loopw [7] (fun s7 wr=>∃ n:Nat,s7=.int .i64 n∧n≤l.length∧M.vals l=M.vals (l.drop n)∧wr=w) (fun s7 _=>l.length - (intOf s7).toNat)
 case atStart=>exact ⟨0,rfl,Nat.zero_le _,rfl,rfl⟩
 case round =>
  obtain ⟨n,rfl,hn,hpass,rfl⟩:=hrel
  have HP:Hid (M.vals l=M.vals (l.drop n)):=hpass
  clear hpass
  by_cases hlt:n < l.length
  ·obtain ⟨rfl⟩:=h.addr (by omega)
   have HD:Hid (l.drop n=l[n]::l.drop (n+1)):=M.drop_int l n hlt
   have hc:=h.row n hlt
   generalize l[n]=x at HD hc
   by_cases h0:x < 0
   ·go_wp2_with fail
    go_ret
    exact ⟨ret_bool (M.vals_bad HP.out HD.out (by omega)).symm,rfl⟩
   ·have h0':decide (x < 0)=false:=by simpa using h0
    by_cases h3:3 < x
    ·go_wp2_with fail
     go_ret
     exact ⟨ret_bool (M.vals_bad HP.out HD.out (by omega)).symm,rfl⟩
    ·go_wp2_with fail
     exact ⟨⟨n+1,by go_num,by omega,M.vals_ok HP.out HD.out (by omega) (by omega),trivial⟩,by simp [intOf];omega⟩
  ·go_wp2_with fail
   go_ret
   exact ⟨ret_bool (M.vals_fin HP.out (by omega)).symm,rfl⟩
namespace M
def seenOk (ll:List (List D)) (l1 l2:List Int):Bool:=decide ((l1.length:Int)=nreads ll)&&(decide (l2.length=3)&&(vals l1&&vals l2))
theorem seenOk_1 {ll:List (List D)} {l1 l2:List Int} (h:¬ (l1.length:Int)=nreads ll):seenOk ll l1 l2=false:=by simp [seenOk,h]
theorem seenOk_2 {ll:List (List D)} {l1 l2:List Int} (h:¬ l2.length=3):seenOk ll l1 l2=false:=by simp [seenOk,h]
theorem seenOk_3 {ll:List (List D)} {l1 l2:List Int} (h:vals l1=false):seenOk ll l1 l2=false:=by simp [seenOk,h]
theorem seenOk_4 {ll:List (List D)} {l1 l2:List Int} (h:(l1.length:Int)=nreads ll) (h2:l2.length=3) (h3:vals l1=true):seenOk ll l1 l2=vals l2:=by simp [seenOk,h,h2,h3]
end M
set_option maxHeartbeats 1000000 in
set_option maxRecDepth 100000 in
theorem iseenOk_any (a:Option Addr) (b o c:Nat) (ll:List (List M.D)) (s:Sn) (w:World) (hl:ll.length≤1048576) (hls:∀ t∈ll,t.length≤1048576) (hs:s.Le 1048576) (h:DoSS w a b o ll) (sa:s.At w) :
  Calls Tryz.prog 54 #[.agg #[.slice a ll.length c],.agg #[.slice s.a1 s.l1.length s.c1,.slice s.a2 s.l2.length s.c2]] w fun e w'=>e=.returned (.bool (M.seenOk ll s.l1 s.l2))∧Below w.heap.size w w':=by
 have hb2:=below2 w (.cells #[.slice a ll.length c] 25) (.cells #[.slice s.a1 s.l1.length s.c1,.slice s.a2 s.l2.length s.c2] 45)
 obtain ⟨hs1,hs2⟩:=hs
 obtain ⟨r,hr⟩:∃ r,M.nreads ll=r:=⟨_,rfl⟩
 go_enter Tryz.func54,Tryz.ntmps54
 go_wp2_with fail
 have k0:((w.alloc (.cells #[.slice a ll.length c] 25)).alloc (.cells #[.slice s.a1 s.l1.length s.c1,.slice s.a2 s.l2.length s.c2] 45)).cell? ⟨w.heap.size,0,none⟩=some (.slice a ll.length c):=by simp
 have k1:((w.alloc (.cells #[.slice a ll.length c] 25)).alloc (.cells #[.slice s.a1 s.l1.length s.c1,.slice s.a2 s.l2.length s.c2] 45)).cell? ⟨w.heap.size+1,0,none⟩=some (.slice s.a1 s.l1.length s.c1):=by simp
 have k2:((w.alloc (.cells #[.slice a ll.length c] 25)).alloc (.cells #[.slice s.a1 s.l1.length s.c1,.slice s.a2 s.l2.length s.c2] 45)).cell? ⟨w.heap.size+1,1,none⟩=some (.slice s.a2 s.l2.length s.c2):=by simp
 generalize (w.alloc (.cells #[.slice a ll.length c] 25)).alloc (.cells #[.slice s.a1 s.l1.length s.c1,.slice s.a2 s.l2.length s.c2] 45)=W at *
 have hlt:w.heap.size+1 < W.heap.size:=World.block_lt_of_cell? _ _ k1
 have C1:=fun p:BelowOf W=>ireads_any a b o c ll p.x hl hls ((h.below hb2 (Nat.le_refl _)).below p.h (Nat.le_refl _))
 rw [hr] at C1
 have saW:=sa.below hb2 (Nat.le_refl _)
 have C2:=fun p:BelowOf W=>valsOk_any s.a1 s.b1 s.o1 s.c1 s.l1 p.x hs1 (saW.below p.h (Nat.le_refl _)).reads
 have C3:=fun p:BelowOf W=>valsOk_any s.a2 s.b2 s.o2 s.c2 s.l2 p.x hs2 (saW.below p.h (Nat.le_refl _)).last
 have K0:=BelowOf.cell k0
 have K1:=BelowOf.cell k1
 have K2:=BelowOf.cell k2
 clear k0 k1 k2 h sa saW
 by_cases g1:(s.l1.length:Int)=r
 ·by_cases g2:s.l2.length=3
  ·cases g3:M.vals s.l1
   ·rw [g3] at C2
    rw [g2] at K2 C3
    haveI:Inhabited (BelowOf W):=⟨belOf W⟩
    refine wp_region_quiet_bel (by kernel_rfl) (by kernel_rfl) ?_
    repeat (quiet_step (first | (go_at_call 115;exact Calls.bel_of (C1 _)) | (go_at_call_of 116 (Value.slice s.a1 s.l1.length s.c1);exact Calls.bel_of_same (C2 _))))
    refine wpQuiet_nil ?_
    rintro _ ⟨⟨wq,hwq⟩,rfl⟩
    go_wp2_with fail
    go_ret
    exact ⟨ret_bool (M.seenOk_3 g3).symm,hb2.trans (hwq.mono hb2.size)⟩
   ·rw [g3] at C2
    rw [g2] at K2 C3
    generalize hv:M.vals s.l2=v at C3
    haveI:Inhabited (BelowOf W):=⟨belOf W⟩
    refine wp_region_quiet_bel (by kernel_rfl) (by kernel_rfl) ?_
    repeat (quiet_step (first | (go_at_call 115;exact Calls.bel_of (C1 _)) | (go_at_call_of 116 (Value.slice s.a1 s.l1.length s.c1);exact Calls.bel_of_same (C2 _)) | (go_at_call_of 116 (Value.slice s.a2 3 s.c2);exact Calls.bel_of_same (C3 _))))
    refine wpQuiet_nil ?_
    rintro _ ⟨⟨wq,hwq⟩,rfl⟩
    go_wp2_with fail
    go_ret
    exact ⟨ret_bool (by rw [M.seenOk_4 (by rw [hr];exact g1) g2 g3,hv]),hb2.trans (hwq.mono hb2.size)⟩
  ·have g2':((s.l2.length:Int)==3)=false:=by simp;omega
   haveI:Inhabited (BelowOf W):=⟨belOf W⟩
   refine wp_region_quiet_bel (by kernel_rfl) (by kernel_rfl) ?_
   repeat (quiet_step (first | (go_at_call 115;exact Calls.bel_of (C1 _))))
   refine wpQuiet_nil ?_
   rintro _ ⟨⟨wq,hwq⟩,rfl⟩
   go_wp2_with fail
   go_ret
   exact ⟨ret_bool (M.seenOk_2 g2).symm,hb2.trans (hwq.mono hb2.size)⟩
 ·have g1':((s.l1.length:Int)==r)=false:=by simpa using g1
  haveI:Inhabited (BelowOf W):=⟨belOf W⟩
  refine wp_region_quiet_bel (by kernel_rfl) (by kernel_rfl) ?_
  repeat (quiet_step (first | (go_at_call 115;exact Calls.bel_of (C1 _))))
  refine wpQuiet_nil ?_
  rintro _ ⟨⟨wq,hwq⟩,rfl⟩
  go_wp2_with fail
  go_ret
  exact ⟨ret_bool (M.seenOk_1 (by rw [hr];exact g1)).symm,hb2.trans (hwq.mono hb2.size)⟩
end
section
open Go.RowKit
namespace M
theorem idx_at {l:List Int} {v:Int} {n:Nat} (hn:n < l.length) (h:l[n]=v) (hb:∀ i (_:i < n) (hi:i < l.length),l[i]≠v):idx l v=n:=by
 have:l.findIdx? (·==v)=some n:=by
  rw [List.findIdx?_eq_some_iff_getElem]
  exact ⟨hn,by simpa using h,fun j hj=>by simpa using hb j hj (by omega)⟩
 simp [idx,this]
theorem idx_not {l:List Int} {v:Int} (h:∀ i (_:i < l.length),l[i]≠v):idx l v=-1:=by
 have:l.findIdx? (·==v)=none:=by
  rw [List.findIdx?_eq_none_iff]
  intro x hx
  obtain ⟨i,hi,rfl⟩:=List.getElem_of_mem hx
  simpa using h i hi
 simp [idx,this]
end M
set_option maxHeartbeats 400000 in
theorem l13Rank_any (a:Option Addr) (b o c:Nat) (l:List Int) (v:Int) (w:World) (hl:l.length≤1048576) (h:IntS w a b o l) :
  Calls Tryz.prog 79 #[.slice a l.length c,.int .i64 v] w fun e w'=>e=.returned (.int .i64 (M.idx l v))∧w'=w:=by
 go_enter Tryz.func79,Tryz.ntmps79
 go_wp2_with fail
 go_loopw [5] (fun s5 wr=>∃ n:Nat,s5=.int .i64 n∧n≤l.length∧Hid (∀ i (_:i < n) (h:i < l.length),l[i]≠v)∧wr=w) (fun s5 _=>l.length - (intOf s5).toNat)
 case atStart=>exact ⟨0,rfl,Nat.zero_le _,fun i hi=>absurd hi (Nat.not_lt_zero _),rfl⟩
 case round =>
  obtain ⟨n,rfl,hn,HA,rfl⟩:=hrel
  by_cases hlt:n < l.length
  ·obtain ⟨rfl⟩:=h.addr (by omega)
   have hx:=h.row n hlt
   obtain ⟨y,hy⟩:∃ y,l[n]=y:=⟨_,rfl⟩
   have HY:Hid (l[n]=y):=hy
   rw [hy] at hx
   clear hy
   have i1:(n:Int) < l.length:=by omega
   by_cases e:y=v
   ·subst e
    go_wp2_with fail
    go_ret
    exact ⟨by rw [M.idx_at hlt HY.out HA.out];rfl,rfl⟩
   ·have e':(y==v)=false:=by simpa using e
    go_wp2_with fail
    exact ⟨⟨n+1,by go_num,by omega,fun i hi hl=>by
     by_cases ei:i=n
     ·subst ei;rw [HY.out];exact e
     ·exact HA.out i (by omega) hl,trivial⟩,by simp [intOf];omega⟩
  ·go_wp2_with fail
   go_ret
   exact ⟨by rw [M.idx_not (fun i hi=>HA.out i (by omega) hi)];rfl,rfl⟩
theorem cellBut {O:Nat} {W W':World} {p:Addr} {v:Value} (hb:But O W W') (h:W.cell? p=some v) (hne:p.block≠O):W'.cell? p=some v:=(hb.cell (p:=p) (World.block_lt_of_cell? _ _ h) hne).trans h
theorem But.low {O:Nat} {w0 w w':World} (h:Below w0.heap.size w0 w) (k:But O w w') (hO:w0.heap.size≤O):Below w0.heap.size w0 w' :=
 ⟨k.os.trans h.os,k.tape.trans h.tape,k.output.trans h.output,Nat.le_trans h.size k.size,fun i hi=>(k.block i (Nat.lt_of_lt_of_le hi h.size) (by omega)).trans (h.block i hi)⟩
structure Wk (w wr:World) (O:Nat) (p l v1 v2 fr od:Value) (n:Nat) (f:Nat→Int):Prop where
 but:But O w wr
 blk:wr.heap[O]?=some (.cells #[p,l,v1,v2,fr,.slice (some ⟨w.heap.size+1,0,none⟩) n n] 131 (0,0))
 x0:wr.cell? ⟨w.heap.size,0,none⟩=some fr
 x1:wr.cell? ⟨w.heap.size,1,none⟩=some od
 row:wr.rowIs (w.heap.size+1) 3 n (fun i=>.int .i64 (f i))
theorem Wk.lt {w wr:World} {O:Nat} {p l v1 v2 fr od:Value} {n:Nat} {f:Nat→Int} (h:Wk w wr O p l v1 v2 fr od n f):w.heap.size+1 < wr.heap.size:=h.row.lt
theorem Wk.below {w wr w1:World} {O:Nat} {p l v1 v2 fr od:Value} {n:Nat} {f:Nat→Int} (h:Wk w wr O p l v1 v2 fr od n f) (hO:O < w.heap.size) (hb:Below wr.heap.size wr w1):Wk w w1 O p l v1 v2 fr od n f:=by
 have hl:=h.lt
 exact ⟨h.but.trans (But.of hb),(hb.block _ (by omega)).trans h.blk,cellC hb h.x0,cellC hb h.x1,h.row.of_block (hb.block _ hl)⟩
theorem Wk.store {w wr:World} {O:Nat} {p l v1 v2 fr od:Value} {n:Nat} {f:Nat→Int} (h:Wk w wr O p l v1 v2 fr od n f) (hO:O < w.heap.size) (i:Nat) (x:Int):Wk w (wr.setCell ⟨w.heap.size+1,i,none⟩ (.int .i64 x)) O p l v1 v2 fr od n (fun j=>if j=i then x else f j):=by
 refine ⟨h.but.setCell (Or.inl (by show w.heap.size≤w.heap.size+1;omega)) _,(Below.heap_setCell _ _ _ _ (by show O≠w.heap.size+1;omega)).trans h.blk,?_,?_,(h.row.set i (.int .i64 x)).congr (fun j _=>?_)⟩
 ·rw [World.cell?_setCell_other _ _ _ _ (fun e=>by have:=congrArg Addr.block e;simp at this)];exact h.x0
 ·rw [World.cell?_setCell_other _ _ _ _ (fun e=>by have:=congrArg Addr.block e;simp at this)];exact h.x1
 ·by_cases e:j=i<;>simp [e]
theorem Wk.c {w wr:World} {O:Nat} {p l v1 v2 fr od:Value} {n:Nat} {f:Nat→Int} (h:Wk w wr O p l v1 v2 fr od n f):wr.cell? ⟨O,0,none⟩=some p∧wr.cell? ⟨O,1,none⟩=some l∧wr.cell? ⟨O,2,none⟩=some v1∧wr.cell? ⟨O,3,none⟩=some v2∧wr.cell? ⟨O,4,none⟩=some fr∧wr.cell? ⟨O,5,none⟩=some (.slice (some ⟨w.heap.size+1,0,none⟩) n n):=by
 refine ⟨?_,?_,?_,?_,?_,?_⟩
 all_goals simp [World.cell?,h.blk]
theorem DvS.but {w w':World} {O:Nat} {va:Option Addr} {g:Nat} {l:List M.De} (h:DvS w va g l) (hb:But O w w') (hne:g≠O):DvS w' va g l :=
 ⟨h.addr,fun i hi j hj=>by
  have h1:=h.row i hi j hj
  match j,hj with
  | 0,_=>exact cellBut hb h1 hne
  | 1,_=>exact cellBut hb h1 hne
  | 2,_=>exact cellBut hb h1 hne⟩
set_option maxHeartbeats 2000000 in
set_option maxRecDepth 100000 in
theorem wayG_any {f4 f5:Value} (t:Lp) (u:Lq) (w0 w:World) (od:Nat) (hk:t.Ok) (hpl:∀ x∈M.deeds t.ll,x.uses=true→0≤x.d.p∧x.d.p < 3) (hpos:0 < (M.deeds t.ll).length) (HL:Hid (u.l.length=(M.deeds t.ll).length)) (H3:Hid (u.rows.length=3)) (hrl:∀ r∈u.rows,r.length≤1048576) (rb ro:Nat)
  (h0:Below w0.heap.size w0 w) (hO:w0.heap.size≤t.O) (hOl:t.O < w.heap.size) (ss:DoSS w0 t.a t.b t.o t.ll) (hf:IntS w0 (some ⟨u.fb,u.fo,none⟩) u.fb u.fo u.l) (hr:IntSS w0 (some ⟨rb,ro,none⟩) rb ro u.rows)
  (blk:w.heap[t.O]?=some (.cells #[.slice t.a t.ll.length t.c,.slice (some ⟨t.g,0,none⟩) (M.deeds t.ll).length t.cc,.slice (some ⟨u.rb,0,none⟩) (M.deeds t.ll).length u.rc,.slice (some ⟨u.wb,0,none⟩) (M.deeds t.ll).length u.wc,f4,f5] 131 (0,0)))
  (dv:DvS w (some ⟨t.g,0,none⟩) t.g (M.deeds t.ll)) (rd:∀ n x,(M.deeds t.ll)[n]?=some x→w.cell? ⟨u.rb,n,none⟩=some (.bool (M.reads x.d.k))) (wrt:∀ n x,(M.deeds t.ll)[n]?=some x→w.cell? ⟨u.wb,n,none⟩=some (.bool (M.writes x.d.k))) (hkb:u.kb=w.heap.size+1) (hkc:u.kc=(M.deeds t.ll).length) :
  Calls Tryz.prog 34 #[.pointer (some ⟨t.O,0,none⟩),.agg #[.slice (some ⟨u.fb,u.fo,none⟩) u.l.length u.fc,.slice (some ⟨rb,ro,none⟩) u.rows.length od]] w fun e w'=>e=.returned (.tuple #[])∧u.At t w'∧But t.O w w'∧∃ f4' f5',w'.heap[t.O]?=some (.cells #[.slice t.a t.ll.length t.c,.slice (some ⟨t.g,0,none⟩) (M.deeds t.ll).length t.cc,.slice (some ⟨u.rb,0,none⟩) (M.deeds t.ll).length u.rc,.slice (some ⟨u.wb,0,none⟩) (M.deeds t.ll).length u.wc,f4',f5'] 131 (0,0)):=by
 have hdl:=hk.dl
 have fl:=Tryz.fld1
 have hmk:=run_make_row' (P:=Tryz.prog) 26 3 (.int .i64 0) 8 Tryz.underlying26 Tryz.infoInt rfl .i64 .i64 (M.deeds t.ll).length (by omega) (by omega)
 have b1:w.cell? ⟨t.O,1,none⟩=some (.slice (some ⟨t.g,0,none⟩) (M.deeds t.ll).length t.cc):=by simp [World.cell?,blk]
 have b4:w.cell? ⟨t.O,4,none⟩=some f4:=by simp [World.cell?,blk]
 have b5:w.cell? ⟨t.O,5,none⟩=some f5:=by simp [World.cell?,blk]
 have bf:∀ i,w.frozen? ⟨t.O,i,none⟩=false:=fun i=>by simp [World.frozen?,blk]
 go_enter Tryz.func34,Tryz.ntmps34
 go_wp2_with fail
 have k0:Wk w ((((w.setCell ⟨t.O,4,none⟩ (.slice (some ⟨u.fb,u.fo,none⟩) u.l.length u.fc)).setCell ⟨t.O,5,none⟩ (.slice (some ⟨w.heap.size+1,0,none⟩) (M.deeds t.ll).length (M.deeds t.ll).length)).alloc (.cells #[.slice (some ⟨u.fb,u.fo,none⟩) u.l.length u.fc,.slice (some ⟨rb,ro,none⟩) u.rows.length od] 29)).alloc (.cells (madeCells #[.int .i64 0] (M.deeds t.ll).length) 3)) t.O (.slice t.a t.ll.length t.c) (.slice (some ⟨t.g,0,none⟩) (M.deeds t.ll).length t.cc) (.slice (some ⟨u.rb,0,none⟩) (M.deeds t.ll).length u.rc) (.slice (some ⟨u.wb,0,none⟩) (M.deeds t.ll).length u.wc) (.slice (some ⟨u.fb,u.fo,none⟩) u.l.length u.fc) (.slice (some ⟨rb,ro,none⟩) u.rows.length od) (M.deeds t.ll).length (fun _=>0):=by
  have e1:=heap_setCell_same w t.O 4 _ _ (.slice (some ⟨u.fb,u.fo,none⟩) u.l.length u.fc) blk
  have e2:=heap_setCell_same _ t.O 5 _ _ (.slice (some ⟨w.heap.size+1,0,none⟩) (M.deeds t.ll).length (M.deeds t.ll).length) e1
  refine ⟨(((((But.refl t.O w).setCell (Or.inr rfl) _).setCell (Or.inr rfl) _).alloc _).alloc _),?_,by simp [go_sem],by simp [go_sem],?_⟩
  ·rw [alloc_old _ _ _ (by simp;omega),alloc_old _ _ _ (by simp;omega)];exact e2
  ·have:=World.rowIs_made (((w.setCell ⟨t.O,4,none⟩ (.slice (some ⟨u.fb,u.fo,none⟩) u.l.length u.fc)).setCell ⟨t.O,5,none⟩ (.slice (some ⟨w.heap.size+1,0,none⟩) (M.deeds t.ll).length (M.deeds t.ll).length)).alloc (.cells #[.slice (some ⟨u.fb,u.fo,none⟩) u.l.length u.fc,.slice (some ⟨rb,ro,none⟩) u.rows.length od] 29)) (.int .i64 0) (M.deeds t.ll).length 3
   simpa using this
 generalize ((((w.setCell ⟨t.O,4,none⟩ (.slice (some ⟨u.fb,u.fo,none⟩) u.l.length u.fc)).setCell ⟨t.O,5,none⟩ (.slice (some ⟨w.heap.size+1,0,none⟩) (M.deeds t.ll).length (M.deeds t.ll).length)).alloc (.cells #[.slice (some ⟨u.fb,u.fo,none⟩) u.l.length u.fc,.slice (some ⟨rb,ro,none⟩) u.rows.length od] 29)).alloc (.cells (madeCells #[.int .i64 0] (M.deeds t.ll).length) 3))=W0 at k0 ⊢
 clear hmk b1 b4 b5 bf
 obtain ⟨x0,hx0⟩:∃ x,(M.deeds t.ll)[0]?=some x:=⟨_,List.getElem?_eq_getElem hpos⟩
 have b0:w.cell? ⟨t.O,0,none⟩=some (.slice t.a t.ll.length t.c):=by simp [World.cell?,blk]
 have hgO:t.g≠t.O:=fun e=>by
  have h1:=(dv.at hpos).c0
  rw [e,Nat.zero_mul,b0] at h1
  cases h1
 have hwO:u.wb≠t.O:=fun e=>by
  have h1:=wrt 0 x0 hx0
  rw [e,b0] at h1
  cases h1
 have hrO:u.rb≠t.O:=fun e=>by
  have h1:=rd 0 x0 hx0
  rw [e,b0] at h1
  cases h1
 have tAt:∀ W' f,Wk w W' t.O (.slice t.a t.ll.length t.c) (.slice (some ⟨t.g,0,none⟩) (M.deeds t.ll).length t.cc) (.slice (some ⟨u.rb,0,none⟩) (M.deeds t.ll).length u.rc) (.slice (some ⟨u.wb,0,none⟩) (M.deeds t.ll).length u.wc) (.slice (some ⟨u.fb,u.fo,none⟩) u.l.length u.fc) (.slice (some ⟨rb,ro,none⟩) u.rows.length od) (M.deeds t.ll).length f→t.At W':=fun W' f kk=>⟨kk.c.1,kk.c.2.1,ss.below (But.low h0 kk.but hO) (Nat.le_refl _),dv.but kk.but hgO⟩
 go_loopw [4] (fun s4 wq=>∃ (n:Nat) (f:Nat→Int),s4=.int .i64 n∧n≤(M.deeds t.ll).length∧Hid (∀ j x,(M.deeds t.ll)[j]?=some x→f j=if j < n then M.rankAt u.l u.rows j x else 0)∧Wk w wq t.O (.slice t.a t.ll.length t.c) (.slice (some ⟨t.g,0,none⟩) (M.deeds t.ll).length t.cc) (.slice (some ⟨u.rb,0,none⟩) (M.deeds t.ll).length u.rc) (.slice (some ⟨u.wb,0,none⟩) (M.deeds t.ll).length u.wc) (.slice (some ⟨u.fb,u.fo,none⟩) u.l.length u.fc) (.slice (some ⟨rb,ro,none⟩) u.rows.length od) (M.deeds t.ll).length f) (fun s4 _=>(M.deeds t.ll).length - (intOf s4).toNat)
 case atStart=>exact ⟨0,fun _=>0,rfl,Nat.zero_le _,(fun j x _=>by simp),k0⟩
 case round =>
  clear k0 b0 hx0
  obtain ⟨n,f,rfl,hn,HF,k⟩:=hrel
  have q1:=k.c.2.1
  have q2:=k.c.2.2.1
  have q3:=k.c.2.2.2.1
  by_cases hlt:n < (M.deeds t.ll).length
  ·obtain ⟨x,hx⟩:∃ x,(M.deeds t.ll)[n]?=some x:=⟨_,List.getElem?_eq_getElem hlt⟩
   have i1:(n:Int) < (M.deeds t.ll).length:=by omega
   have wx:=cellBut k.but (wrt n x hx) hwO
   have rx:=cellBut k.but (rd n x hx) hrO
   have FSTEP:∀ v,M.rankAt u.l u.rows n x=v→Hid (∀ j y,(M.deeds t.ll)[j]?=some y→(if j=n then v else f j)=if j < n+1 then M.rankAt u.l u.rows j y else 0):=fun v hv j y hy=>by
    by_cases e:j=n
    ·subst e
     rw [hx] at hy
     obtain rfl:=Option.some.inj hy
     rw [if_pos rfl,if_pos (by omega),hv]
    ·rw [if_neg e,HF.out j y hy]
     by_cases e2:j < n
     ·rw [if_pos e2,if_pos (by omega)]
     ·rw [if_neg e2,if_neg (by omega)]
   cases hw:M.writes x.d.k
   case true =>
    rw [hw] at wx
    obtain ⟨hp0,hp3⟩:=hpl x (List.mem_of_getElem? hx) (by simp [M.De.uses,M.uses,hw])
    obtain ⟨p,hp⟩:∃ p:Nat,x.d.p=p:=⟨x.d.p.toNat,by omega⟩
    have hpr:p < u.rows.length:=by have:=H3.out;omega
    obtain ⟨a',b',o',c',hc0,hrow0⟩:=hr.row p hpr
    have hc:=cellC h0 hc0
    have hrlp:=hrl _ (List.getElem_mem hpr)
    have HRW:Hid (u.rows.getD p []=u.rows[p]):=by show _=_;rw [List.getD_eq_getElem?_getD,List.getElem?_eq_getElem hpr];rfl
    have hrbO:rb≠t.O:=by
     have:rb < w0.heap.size:=World.block_lt_of_cell? _ _ hc0
     omega
    have hrowB:∀ W',But t.O w W'→IntS W' a' b' o' u.rows[p]:=fun W' hb=>hrow0.below (But.low h0 hb hO) (Nat.le_refl _)
    clear hrow0 hc0
    generalize u.rows[p]=row at *
    have HRK:Hid (M.rankAt u.l u.rows n x=M.idx row (n:Int)):=by show _=_;rw [M.rankAt,if_pos hw,hp,Int.toNat_natCast,HRW.out]
    have i4:(p:Int) < u.rows.length:=by omega
    have N1:w.heap.size+1≠t.O:=by omega
    have N2:w.heap.size+1≠w.heap.size:=by omega
    have N3:w.heap.size+1≠rb:=by have:rb < w.heap.size:=World.block_lt_of_cell? _ _ hc;omega
    have X1:=k.c.2.2.2.2.2
    have X2:=k.x1
    have X3:=cellBut k.but hc hrbO
    have hOwr:=k.lt
    have C:=do_any t n x _ hk (tAt _ _ (k.below hOl (Below.refl _ _).drew)) hx
    rw [hp] at C
    go_wp2_with fail
    go_region_held3 (fun w'=>w'.cell? ⟨t.O,5,none⟩=some (.slice (some ⟨w.heap.size+1,0,none⟩) (M.deeds t.ll).length (M.deeds t.ll).length)∧w'.cell? ⟨w.heap.size,1,none⟩=some (.slice (some ⟨rb,ro,none⟩) u.rows.length od)∧w'.cell? ⟨rb,ro+p,none⟩=some (.slice a' row.length c')) (go_keep) (first
     | (go_at_call 77;refine C.mono ?_;rintro e w1 ⟨rfl,hb1⟩;have k1:=k.below hOl ((Below.refl _ _).drew.trans hb1);have Y1:=k1.c.2.2.2.2.2;have Y2:=k1.x1;have Y3:=cellBut k1.but hc hrbO;have Z0:=k1.row.cell hlt;have Zf:=k1.row.frozen;have Zl:=k1.lt)
     | (go_at_call 79;refine (l13Rank_any a' b' o' c' row (n:Int) _ hrlp (hrowB _ k1.but)).mono ?_;rintro e w2x ⟨rfl,rfl⟩))
    have k2:=k1.store hOl n (M.idx row (n:Int))
    go_wp2_with fail
    exact ⟨⟨n+1,_,by go_num,by omega,FSTEP _ HRK.out,k2⟩,by simp [intOf];omega⟩
   rw [hw] at wx
   cases hrd:M.reads x.d.k
   case true =>
    rw [hrd] at rx
    obtain ⟨hp0,hp3⟩:=hpl x (List.mem_of_getElem? hx) (by simp [M.De.uses,M.uses,hrd])
    obtain ⟨p,hp⟩:∃ p:Nat,x.d.p=p:=⟨x.d.p.toNat,by omega⟩
    have hpr:p < u.rows.length:=by have:=H3.out;omega
    obtain ⟨a',b',o',c',hc0,hrow0⟩:=hr.row p hpr
    have hc:=cellC h0 hc0
    have hrlp:=hrl _ (List.getElem_mem hpr)
    have HRW:Hid (u.rows.getD p []=u.rows[p]):=by show _=_;rw [List.getD_eq_getElem?_getD,List.getElem?_eq_getElem hpr];rfl
    have hrbO:rb≠t.O:=by
     have:rb < w0.heap.size:=World.block_lt_of_cell? _ _ hc0
     omega
    have hrowB:∀ W',But t.O w W'→IntS W' a' b' o' u.rows[p]:=fun W' hb=>hrow0.below (But.low h0 hb hO) (Nat.le_refl _)
    clear hrow0 hc0
    generalize u.rows[p]=row at *
    have hnl:n < u.l.length:=by have:=HL.out;omega
    have HG:Hid (u.l.getD n 0=u.l[n]):=by show _=_;simp [hnl]
    have fn0:=(hf.below h0 (Nat.le_refl _)).row n hnl
    have hfO:u.fb≠t.O:=by have:=hf.lt (by omega);omega
    generalize u.l[n]=fv at *
    have i5:(n:Int) < u.l.length:=by omega
    have X4:=k.x0
    have X5:=cellBut k.but fn0 hfO
    have HRK:Hid (M.rankAt u.l u.rows n x=M.idx row fv):=by show _=_;rw [M.rankAt,if_neg (by rw [hw];simp),if_pos hrd,hp,Int.toNat_natCast,HRW.out,HG.out]
    have i4:(p:Int) < u.rows.length:=by omega
    have N1:w.heap.size+1≠t.O:=by omega
    have N2:w.heap.size+1≠w.heap.size:=by omega
    have N3:w.heap.size+1≠rb:=by have:rb < w.heap.size:=World.block_lt_of_cell? _ _ hc;omega
    have N4:w.heap.size+1≠u.fb:=by have:=hf.lt (by have:=HL.out;omega);have:=h0.size;omega
    have X1:=k.c.2.2.2.2.2
    have X2:=k.x1
    have X3:=cellBut k.but hc hrbO
    have hOwr:=k.lt
    have C:=do_any t n x _ hk (tAt _ _ (k.below hOl (Below.refl _ _).drew)) hx
    rw [hp] at C
    go_wp2_with fail
    go_region_held3 (fun w'=>w'.cell? ⟨t.O,5,none⟩=some (.slice (some ⟨w.heap.size+1,0,none⟩) (M.deeds t.ll).length (M.deeds t.ll).length)∧w'.cell? ⟨w.heap.size,1,none⟩=some (.slice (some ⟨rb,ro,none⟩) u.rows.length od)∧w'.cell? ⟨rb,ro+p,none⟩=some (.slice a' row.length c')∧w'.cell? ⟨w.heap.size,0,none⟩=some (.slice (some ⟨u.fb,u.fo,none⟩) u.l.length u.fc)∧w'.cell? ⟨u.fb,u.fo+n,none⟩=some (.int .i64 fv)) (go_keep) (first
     | (go_at_call 77;refine C.mono ?_;rintro e w1 ⟨rfl,hb1⟩;have k1:=k.below hOl ((Below.refl _ _).drew.trans hb1);have Y1:=k1.c.2.2.2.2.2;have Y2:=k1.x1;have Y3:=cellBut k1.but hc hrbO;have Y4:=k1.x0;have Y5:=cellBut k1.but fn0 hfO;have Z0:=k1.row.cell hlt;have Zf:=k1.row.frozen;have Zl:=k1.lt)
     | (go_at_call 79;refine (l13Rank_any a' b' o' c' row fv _ hrlp (hrowB _ k1.but)).mono ?_;rintro e w2x ⟨rfl,rfl⟩))
    have k2:=k1.store hOl n (M.idx row fv)
    go_wp2_with fail
    exact ⟨⟨n+1,_,by go_num,by omega,FSTEP _ HRK.out,k2⟩,by simp [intOf];omega⟩
   rw [hrd] at rx
   go_wp2_with fail
   have hz:M.rankAt u.l u.rows n x=0:=by rw [M.rankAt,if_neg (by rw [hw];simp),if_neg (by rw [hrd];simp)]
   refine ⟨⟨n+1,f,by go_num,by omega,(fun j y hy=>?_),k⟩,by simp [intOf];omega⟩
   rw [HF.out j y hy]
   by_cases e:j=n
   ·subst e
    rw [hx] at hy
    obtain rfl:=Option.some.inj hy
    rw [if_neg (by omega),if_pos (by omega),hz]
   ·by_cases e2:j < n
    ·rw [if_pos e2,if_pos (by omega)]
    ·rw [if_neg e2,if_neg (by omega)]
  ·go_wp2_with fail
   refine bodyPost_end (v:=.tuple #[]) (results_none Tryz.results34 _ _ _) rfl ⟨rfl,⟨tAt _ _ k,k.c.2.2.1,k.c.2.2.2.1,k.c.2.2.2.2.1,?_,fun j y hy=>cellBut k.but (rd j y hy) hrO,fun j y hy=>cellBut k.but (wrt j y hy) hwO,hf.below (But.low h0 k.but hO) (Nat.le_refl _),HL,fun j y hy=>?_⟩,k.but,_,_,k.blk⟩
   ·rw [hkb,hkc];exact k.c.2.2.2.2.2
   ·have hj:=Lp.lt hy
    rw [hkb,k.row.cell hj,HF.out j y hy,if_pos (by omega)]
end
section
open Go.RowKit
theorem own_bools {w:World} {base g cap:Nat} {l:List Bool} (h:w.ownsRow base 4 1 (.slice (some ⟨g,0,none⟩) l.length cap) l.length (bools l)) (i:Nat) (hi:i < l.length):w.cell? ⟨g,i,none⟩=some (.bool l[i]):=by
 have hc:=h.cells (g:=g) rfl i (.bool l[i]) (by simp [bools,hi])
 rwa [Go.WideShapes.add_plain,Nat.zero_add] at hc
end
section
open Go.RowKit Go.Shelf
structure LW (w:World) (a:Option Addr) (g:Nat) (xs:List M.Wy):Prop where
 addr:0 < xs.length→a=some ⟨g,0,none⟩
 row:∀ i (h:i < xs.length),∃ fa fb fc ra rb rc,w.cell? ⟨g,i * 2,none⟩=some (.slice fa xs[i].1.length fc)∧w.cell? ⟨g,i * 2+1,none⟩=some (.slice ra xs[i].2.length rc)∧IntS w fa fb 0 xs[i].1∧IntSS w ra rb 0 xs[i].2
theorem LW.below {w w':World} {a:Option Addr} {g:Nat} {xs:List M.Wy} (h:LW w a g xs) (hb:Below w.heap.size w w'):LW w' a g xs :=
 ⟨h.addr,fun i hi=>by
  obtain ⟨fa,fb,fc,ra,rb,rc,h1,h2,h3,h4⟩:=h.row i hi
  exact ⟨fa,fb,fc,ra,rb,rc,(hb.cell (p:=⟨g,i * 2,none⟩) (World.block_lt_of_cell? _ _ h1)).trans h1,(hb.cell (p:=⟨g,i * 2+1,none⟩) (World.block_lt_of_cell? _ _ h2)).trans h2,h3.below hb (Nat.le_refl _),h4.below hb (Nat.le_refl _)⟩⟩
end
section
open Go.RowKit
theorem M.mem_execAll {ll:List (List M.D)} {x:M.Wy}:x∈M.specAll ll↔M.execOk ll x.1 x.2=true:=by
 unfold M.specAll M.execOk
 cases hp:M.prog ll
 ·simp
 ·rw [if_pos rfl,Bool.true_and]
  exact M.mem_all
structure WyLe (x:M.Wy):Prop where
 a:x.1.length≤1048576
 b:x.2.length≤1048576
 c:∀ r∈x.2,r.length≤1048576
theorem own_two {w:World} {base n:Nat} {e:TypeId} {v:Value} {xs:List Value} (h:w.ownsRow base e 2 v n xs):∃ a g c,v=.slice a n c∧(0 < n→a=some ⟨g,0,none⟩)∧∀ j u,xs[j]?=some u→w.cell? ⟨g,j,none⟩=some u:=by
 rcases h.2 with ⟨hv,hn⟩ | ⟨g,cap,cur,hv,hg,hh,hc,r⟩
 ·have hx:xs=[]:=List.length_eq_zero_iff.1 (by rw [h.1,hn])
  subst hx
  exact ⟨none,0,0,by rw [hv,hn],fun h=>absurd h (by omega),fun j u hj=>(by simp at hj)⟩
 ·refine ⟨_,g,cap,hv,fun _=>rfl,fun j u hj=>?_⟩
  have:=h.cells (g:=g) (by rw [hv];rfl) j u hj
  rwa [Go.WideShapes.add_plain,Nat.zero_add] at this
theorem Xw.lw {W:World} {B:Nat} {fv ov:Value} {x:M.Wy} {cs:List Value} (h:Xw W B fv ov x.1 cs x.2):∃ fa fb fc ra rb rc,fv=.slice fa x.1.length fc∧ov=.slice ra x.2.length rc∧IntS W fa fb 0 x.1∧IntSS W ra rb 0 x.2:=h.reads
theorem RXL.lw {W:World} {base n:Nat} {v:Value} {cs:List Value} {xs:List M.Wy} (h:RXL W base v cs n xs):∃ a g c,v=.slice a xs.length c∧LW W a g xs:=by
 obtain ⟨a,g,c,e1,e2,e3⟩:=own_two h.own
 have hl:=h.len.out
 rw [← hl] at e1 e2
 refine ⟨a,g,c,e1,e2,fun i hi=>?_⟩
 obtain ⟨fv,ov,rc0,c1,c2,hx,_⟩:=h.row i hi
 obtain ⟨fa,fb,fc,ra,rb,rc,f1,f2,f3,f4⟩:=hx.lw
 exact ⟨fa,fb,fc,ra,rb,rc,by rw [← f1];exact e3 _ _ c1,by rw [← f2];exact e3 _ _ c2,f3,f4⟩
theorem SxaAns.lw {w w':World} {ll:List (List M.D)} {v:Value} (h:SxaAns w w' ll v):∃ a g c,v=.slice a (M.specAll ll).length c∧LW w' a g (M.specAll ll):=by
 obtain ⟨cs,n,hw,_⟩:=h.ex
 exact hw.lw
end
section
open Go.RowKit
theorem Slot1.bel {w w':World} {b:Nat} {x:Value} (h:Slot1 w b x) (hb:Below w.heap.size w w'):Slot1 w' b x :=
 ⟨(hb.cell (p:=⟨b,0,none⟩) h.lt).trans h.c,(hb.frozen (p:=⟨b,0,none⟩) h.lt).trans h.fz⟩
theorem Small.le {mm:List (List M.D)} {c:Nat} (h:Small mm c):∀ t∈mm,t.length≤1048576:=fun t ht=>by have:=h.steps t ht;omega
end
section
open Go.RowKit
theorem Slot2.bel {w w':World} {b:Nat} {x y:Value} (h:Slot2 w b x y) (hb:Below w.heap.size w w'):Slot2 w' b x y:=h.of (hb.block b h.lt)
theorem M.three (s t:Sn):∃ b1 b2 b3:Bool,decide (M.cmpS s.l1 s.l2 t.l1 t.l2 < 0)=b1∧decide (M.cmpS t.l1 t.l2 s.l1 s.l2 < 0)=b2∧M.sameS s.l1 s.l2 t.l1 t.l2=b3∧((b1=true∧b2=false∧b3=false)∨(b1=false∧b2=true∧b3=false)∨(b1=false∧b2=false∧b3=true)):=by
 refine ⟨_,_,_,rfl,rfl,rfl,?_⟩
 rw [M.sameS_eq,M.cmpS_neg s.l1 s.l2 t.l1 t.l2]
 generalize M.cmpS s.l1 s.l2 t.l1 t.l2=z
 rcases Int.lt_trichotomy z 0 with h | h | h
 ·exact Or.inl ⟨by simpa using h,by simp;omega,by simp;omega⟩
 ·subst h;exact Or.inr (Or.inr ⟨by decide,by decide,by decide⟩)
 ·exact Or.inr (Or.inl ⟨by simp;omega,by simp;omega,by simp;omega⟩)
end
section
namespace M
def up (f:Nat→Nat) (z:Int):Int:=if z < 0 then z else (f z.toNat:Int)
theorem up_nat (f:Nat→Nat) (n:Nat):up f (n:Int)=(f n:Int):=by unfold up;rw [if_neg (by omega)];simp
theorem up_neg {f:Nat→Nat} {z:Int} (h:z < 0):up f z=z:=by unfold up;rw [if_pos h]
structure Like (f:Nat→Nat) (g v:Int→Int) (x y:De):Prop where
 rd:y.reads=x.reads
 wr:M.writes y.d.k=M.writes x.d.k
 k3:(y.d.k==3)=(x.d.k==3)
 pl:x.uses=true→y.d.p=g x.d.p
 vl:y.d.v=v x.d.v
 lr:x.d.k=3→y.lr=up f x.lr
theorem Like.us {f:Nat→Nat} {g v:Int→Int} {x y:De} (h:Like f g v x y):y.uses=x.uses:=by
 show (M.reads y.d.k||M.writes y.d.k)=(M.reads x.d.k||M.writes x.d.k)
 rw [h.wr,show M.reads y.d.k=M.reads x.d.k from h.rd]
structure Emb (ds es:List De) (f:Nat→Nat) (g v:Int→Int):Prop where
 at_:∀ (a:Nat) (x:De),ds[a]?=some x→∃ y,es[f a]?=some y∧Like f g v x y
 inj:∀ a b,a < ds.length→b < ds.length→f a=f b→a=b
 out:∀ (c:Nat) (y:De),es[c]?=some y→y.uses=true→∃ a,a < ds.length∧f a=c
 pr:∀ x∈ds,x.uses=true→0≤x.d.p∧x.d.p < 3
 gi:∀ p:Int,0≤p→p < 3→0≤g p∧g p < 3
 gj:∀ p q:Int,0≤p→p < 3→0≤q→q < 3→g p=g q→p=q
 vz:v 0=0
 lro:∀ x∈ds,x.lr < ds.length
structure Rel (ds:List De) (f:Nat→Nat) (g:Int→Int) (x y:Wy):Prop where
 rd:∀ (a:Nat) (u:De),ds[a]?=some u→u.reads=true→y.1.getD (f a) 0=up f (x.1.getD a 0)
 row:∀ p:Int,0≤p→p < 3→y.2.getD (g p).toNat []=(x.2.getD p.toNat []).map (up f)
theorem lt_of_get {α:Type} {l:List α} {n:Nat} {x:α} (h:l[n]?=some x):n < l.length:=(List.getElem?_eq_some_iff.1 h).1
theorem mem_of_get {α:Type} {l:List α} {n:Nat} {x:α} (h:l[n]?=some x):x∈l:=List.mem_of_getElem? h
def Fro (ds:List De) (l:List Int):Prop:=∀ (a:Nat) (x:De),ds[a]?=some x→if x.reads then l.getD a 0=-1∨∃ (b:Nat) (y:De),l.getD a 0=(b:Int)∧ds[b]?=some y∧y.to x.d.p=true else l.getD a 0=-2
structure WO (ds:List De) (l:List Int) (rows:List (List Int)):Prop where
 len:l.length=ds.length
 fro:Fro ds l
 three:rows.length=3
 row:∀ p:Int,0≤p→p < 3→(rows.getD p.toNat []).Perm (wrs p 0 ds)
 fin:ends ds l=true
theorem perm_mem {a b:List Int} (ha:a.Nodup) (hb:b.Nodup) (h:∀ v,v∈a↔v∈b):a.Perm b:=perm_of a b ha (fun v hv=>(h v).1 hv) (nodup_le hb fun v hv=>(h v).2 hv)
theorem isRow_iff {row evs:List Int} (hn:evs.Nodup):isRow row evs=true↔row.Perm evs:=by
 simp only [isRow,Bool.and_eq_true,decide_eq_true_eq,List.all_eq_true]
 constructor
 ·rintro ⟨h1,h2⟩
  exact (perm_of evs row hn (fun v hv=>by simpa using h2 v hv) (by omega)).symm
 ·intro h
  exact ⟨h.length_eq,fun v hv=>by simpa using h.mem_iff.2 hv⟩
theorem wo_iff {ds:List De} {l:List Int} {rows:List (List Int)}:wayOk ds l rows=true↔WO ds l rows:=by
 simp only [wayOk,Bool.and_eq_true,fromOk,orderOk,decide_eq_true_eq]
 have fr:∀ (h:l.length=ds.length),fromAt ds ds l=true↔Fro ds l:=fun h=>by
  rw [fromAt_iff ds l h]
  constructor
  ·intro hk a x hx
   obtain ⟨ha,rfl⟩:=List.getElem?_eq_some_iff.1 hx
   have:=hk a ha
   rw [mayTell_iff] at this
   split at this
   ·rename_i hr
    rw [if_pos hr]
    refine this.imp id fun hm=>?_
    obtain ⟨i,hi,e,ht⟩:=mem_wrs.1 hm
    exact ⟨i,ds[i],by rw [e];simp,List.getElem?_eq_getElem hi,ht⟩
   ·rename_i hr
    rw [if_neg hr]
    exact this
  ·intro hk a ha
   have:=hk a _ (List.getElem?_eq_getElem ha)
   rw [mayTell_iff]
   split at this
   ·rename_i hr
    rw [if_pos hr]
    refine this.imp id fun ⟨b,y,e,hy,ht⟩=>?_
    obtain ⟨hb,rfl⟩:=List.getElem?_eq_some_iff.1 hy
    rw [e]
    exact mem_wrs.2 ⟨b,hb,by simp,ht⟩
   ·rename_i hr
    rw [if_neg hr]
    exact this
 have od:∀ (h:rows.length=3),orderAt ds 0 rows=true↔∀ p:Int,0≤p→p < 3→(rows.getD p.toNat []).Perm (wrs p 0 ds):=fun h=>by
  match rows,h with
  | [r0,r1,r2],_ =>
   simp only [orderAt,Bool.and_eq_true,and_true]
   rw [isRow_iff (nodup_wrs _ _ _),isRow_iff (nodup_wrs _ _ _),isRow_iff (nodup_wrs _ _ _)]
   constructor
   ·rintro ⟨h0,h1,h2⟩ p hp hp3
    rcases (show p=0∨p=1∨p=2 by omega) with rfl | rfl | rfl
    ·exact h0
    ·exact h1
    ·exact h2
   ·intro hk
    exact ⟨hk 0 (by omega) (by omega),hk 1 (by omega) (by omega),hk 2 (by omega) (by omega)⟩
 constructor
 ·rintro ⟨⟨h1,h2⟩,⟨h3,h4⟩,h5⟩
  exact ⟨h1,(fr h1).1 h2,h3,(od h3).1 h4,h5⟩
 ·intro h
  exact ⟨⟨h.len,(fr h.len).2 h.fro⟩,⟨h.three,(od h.three).2 h.row⟩,h.fin⟩
theorem fro_in {ds:List De} {l:List Int} (hf:Fro ds l) (hl:∀ x∈ds,x.lr < ds.length):In ds l:=fun n hn=>by
 have hx:=List.getElem?_eq_getElem hn
 unfold valFrom
 rw [hx]
 dsimp only
 have:=hf n _ hx
 split at this
 ·rename_i hr
  rw [if_pos hr]
  rcases this with e | ⟨b,y,e,hy,_⟩
  ·omega
  ·have:=lt_of_get hy;omega
 ·rename_i hr
  rw [if_neg hr]
  split
  ·exact hl _ (List.getElem_mem hn)
  ·omega
theorem WO.in_ {ds:List De} {l:List Int} {rows:List (List Int)} (h:WO ds l rows) (hl:∀ x∈ds,x.lr < ds.length):In ds l:=fro_in h.fro hl
theorem orig_any {ds:List De} {l:List Int} (hin:In ds l) {n m:Nat} (hn:n < ds.length) (h:(orig ds l m n).isSome=true):(orig ds l ds.length n).isSome=true:=by
 rw [orig_iff] at h ⊢
 obtain ⟨k,_,hk⟩:=h
 exact backQ_short hin hn k hk
section
variable {ds es : List De} {f : Nat → Nat} {g v : Int → Int}
theorem Emb.lt (E:Emb ds es f g v) {a:Nat} (h:a < ds.length):f a < es.length:=by
 obtain ⟨y,hy,_⟩:=E.at_ a _ (List.getElem?_eq_getElem h)
 exact lt_of_get hy
theorem Emb.val (E:Emb ds es f g v) {x y:Wy} (R:Rel ds f g x y) {a:Nat} (ha:a < ds.length):valFrom es y.1 (f a)=up f (valFrom ds x.1 a):=by
 have hx:=List.getElem?_eq_getElem ha
 obtain ⟨u,hu,L⟩:=E.at_ a _ hx
 unfold valFrom
 rw [hx,hu]
 dsimp only
 rw [L.rd,L.k3]
 cases hr:ds[a].reads
 ·simp only [Bool.false_eq_true,if_false]
  split
  ·rename_i h3
   exact L.lr (by simpa using h3)
  ·rw [up_neg (by omega)]
 ·simp only [if_true]
  exact R.rd a _ hx hr
theorem Emb.orig (E:Emb ds es f g v) {x y:Wy} (R:Rel ds f g x y) (hin:In ds x.1):∀ (m a:Nat),a < ds.length→M.orig es y.1 m (f a)=(M.orig ds x.1 m a).map f
 | 0,a,_=>rfl
 | m+1,a,ha=>by
  have hv:=E.val R ha
  have hl:=hin a ha
  rw [M.orig,M.orig,hv]
  by_cases h0:valFrom ds x.1 a < 0
  ·rw [if_pos h0,if_pos (by rw [up_neg h0];exact h0)];rfl
  ·obtain ⟨n,hn⟩:∃ n:Nat,valFrom ds x.1 a=n:=⟨(valFrom ds x.1 a).toNat,by omega⟩
   rw [hn] at hl ⊢
   rw [up_nat,if_neg (by omega),if_neg (by omega),Int.toNat_natCast,Int.toNat_natCast]
   exact Emb.orig E R hin m n (by omega)
theorem Emb.wrs (E:Emb ds es f g v) {p:Int} (h0:0≤p) (h3:p < 3):((M.wrs p 0 ds).map (up f)).Perm (M.wrs (g p) 0 es):=by
 refine perm_mem ?_ (nodup_wrs _ _ _) fun z=>?_
 ·rw [List.Nodup,List.pairwise_map]
  have hn:=nodup_wrs p ds 0
  refine List.Pairwise.imp_of_mem (fun {a b} ha hb hne e=>hne ?_) hn
  obtain ⟨i,hi,e1,_⟩:=mem_wrs.1 ha
  obtain ⟨j,hj,e2,_⟩:=mem_wrs.1 hb
  rw [e1,e2,up_nat,up_nat] at e
  have:=E.inj _ _ (by omega) (by omega) (by omega:f (0+i)=f (0+j))
  rw [e1,e2,this]
 ·rw [List.mem_map]
  constructor
  ·rintro ⟨a,ha,rfl⟩
   obtain ⟨i,hi,rfl,ht⟩:=mem_wrs.1 ha
   obtain ⟨y,hy,L⟩:=E.at_ i _ (List.getElem?_eq_getElem hi)
   obtain ⟨hc,rfl⟩:=List.getElem?_eq_some_iff.1 hy
   simp only [De.to,Bool.and_eq_true,beq_iff_eq] at ht
   rw [Nat.zero_add,up_nat]
   refine mem_wrs.2 ⟨f i,hc,by simp,?_⟩
   simp only [De.to,Bool.and_eq_true,beq_iff_eq]
   have hu:ds[i].uses=true:=by show (M.reads _||M.writes _)=true;rw [ht.1,Bool.or_true]
   exact ⟨L.wr.trans ht.1,(L.pl hu).trans (by rw [ht.2])⟩
  ·intro hz
   obtain ⟨c,hc,rfl,ht⟩:=mem_wrs.1 hz
   simp only [De.to,Bool.and_eq_true,beq_iff_eq] at ht
   have hu:es[c].uses=true:=by show (M.reads _||M.writes _)=true;rw [ht.1,Bool.or_true]
   obtain ⟨a,ha,rfl⟩:=E.out c _ (List.getElem?_eq_getElem hc) hu
   obtain ⟨y,hy,L⟩:=E.at_ a _ (List.getElem?_eq_getElem ha)
   rw [List.getElem?_eq_getElem hc] at hy
   obtain rfl:=Option.some.inj hy
   refine ⟨(a:Int),mem_wrs.2 ⟨a,ha,by simp,?_⟩,by rw [up_nat,Nat.zero_add]⟩
   simp only [De.to,Bool.and_eq_true,beq_iff_eq]
   have hu':ds[a].uses=true:=L.us▸hu
   have hp:=E.pr _ (List.getElem_mem ha) hu'
   exact ⟨L.wr▸ht.1,E.gj _ _ hp.1 hp.2 h0 h3 ((L.pl hu').symm.trans ht.2)⟩
def dn (ds:List De) (f:Nat→Nat) (z:Int):Int:=if z < 0 then z else match (List.range ds.length).find? (fun a=>f a==z.toNat) with | some a=>(a:Int) | none=>-1
theorem Emb.dn_up (E:Emb ds es f g v) {a:Nat} (ha:a < ds.length):dn ds f (f a:Int)=a:=by
 unfold dn
 rw [if_neg (by omega),Int.toNat_natCast]
 cases hf:(List.range ds.length).find? (fun b=>f b==f a) with
 | none =>
  have:=List.find?_eq_none.1 hf a (List.mem_range.2 ha)
  simp at this
 | some b =>
  have h1:=List.find?_some hf
  have h2:=List.mem_range.1 (List.mem_of_find?_eq_some hf)
  rw [E.inj b a h2 ha (by simpa using h1)]
def upF (ds es:List De) (f:Nat→Nat) (l:List Int):List Int:=(List.range es.length).map fun (c:Nat)=>if ((es[c]?).map De.reads).getD false then up f (l.getD (dn ds f c).toNat 0) else -2
def upO (g:Int→Int) (f:Nat→Nat) (rows:List (List Int)):List (List Int):=[(0:Int),1,2].map fun q=>match [(0:Int),1,2].find? (fun p=>g p==q) with | some p=>(rows.getD p.toNat []).map (up f) | none=>[]
theorem upF_at {l:List Int} {c:Nat} {y:De} (h:es[c]?=some y):(upF ds es f l).getD c 0=if y.reads then up f (l.getD (dn ds f c).toNat 0) else -2:=by
 have hc:=lt_of_get h
 obtain ⟨_,rfl⟩:=List.getElem?_eq_some_iff.1 h
 simp [upF,List.getD_eq_getElem?_getD,hc]
theorem Emb.upO_at (E:Emb ds es f g v) {rows:List (List Int)} {p:Int} (h0:0≤p) (h3:p < 3):(upO g f rows).getD (g p).toNat []=(rows.getD p.toNat []).map (up f):=by
 have hg:=E.gi p h0 h3
 have key:∀ q:Int,g p=q→([(0:Int),1,2].find? (fun p=>g p==q))=some p:=fun q hq=>by
  cases hf:[(0:Int),1,2].find? (fun p=>g p==q) with
  | none =>
   have:=List.find?_eq_none.1 hf p (by simp;omega)
   simp [hq] at this
  | some b =>
   have h1:=List.find?_some hf
   have h2:=List.mem_of_find?_eq_some hf
   have hb:0≤b∧b < 3:=by simp at h2;omega
   rw [E.gj b p hb.1 hb.2 h0 h3 (by rw [hq];simpa using h1)]
 rcases (show g p=0∨g p=1∨g p=2 by omega) with e | e | e
 ·have:=key 0 e
  rw [e]
  show (match [(0:Int),1,2].find? (fun p=>g p==0) with | some p=>(rows.getD p.toNat []).map (up f) | none=>[])=_
  rw [this]
 ·have:=key 1 e
  rw [e]
  show (match [(0:Int),1,2].find? (fun p=>g p==1) with | some p=>(rows.getD p.toNat []).map (up f) | none=>[])=_
  rw [this]
 ·have:=key 2 e
  rw [e]
  show (match [(0:Int),1,2].find? (fun p=>g p==2) with | some p=>(rows.getD p.toNat []).map (up f) | none=>[])=_
  rw [this]
theorem Emb.inv (E:Emb ds es f g v):∀ q:Int,0≤q→q < 3→∃ p,0≤p∧p < 3∧g p=q:=by
 have h0:=E.gi 0 (by omega) (by omega)
 have h1:=E.gi 1 (by omega) (by omega)
 have h2:=E.gi 2 (by omega) (by omega)
 have n01:g 0≠g 1:=fun e=>by have:=E.gj 0 1 (by omega) (by omega) (by omega) (by omega) e;omega
 have n02:g 0≠g 2:=fun e=>by have:=E.gj 0 2 (by omega) (by omega) (by omega) (by omega) e;omega
 have n12:g 1≠g 2:=fun e=>by have:=E.gj 1 2 (by omega) (by omega) (by omega) (by omega) e;omega
 intro q hq hq3
 by_cases e0:g 0=q
 ·exact ⟨0,by omega,by omega,e0⟩
 ·by_cases e1:g 1=q
  ·exact ⟨1,by omega,by omega,e1⟩
  ·exact ⟨2,by omega,by omega,by omega⟩
theorem Emb.relUp (E:Emb ds es f g v) (x:Wy):Rel ds f g x (upF ds es f x.1,upO g f x.2):=by
 refine ⟨fun a u hu hr=>?_,fun p h0 h3=>E.upO_at h0 h3⟩
 obtain ⟨y,hy,L⟩:=E.at_ a u hu
 show (upF ds es f x.1).getD (f a) 0=_
 rw [upF_at hy,L.rd,hr,if_pos rfl,E.dn_up (lt_of_get hu),Int.toNat_natCast]
theorem val_none {l:List Int} {c:Nat} {y:De} (h:es[c]?=some y) (hu:y.uses=false):valFrom es l c=-1:=by
 have hu':(M.reads y.d.k||M.writes y.d.k)=false:=hu
 rw [Bool.or_eq_false_iff] at hu'
 have h3:(y.d.k==3)=false:=by
  cases h3:(y.d.k==3)
  ·rfl
  ·have:y.d.k=3:=by simpa using h3
   have:=hu'.2
   simp [M.writes,h3] at this
 unfold valFrom
 rw [h]
 dsimp only
 rw [show y.reads=false from hu'.1,h3]
 rfl
theorem Emb.up_ok (E:Emb ds es f g v) (hlo:∀ y∈es,y.lr < es.length) {x:Wy} (h:WO ds x.1 x.2):WO es (upF ds es f x.1) (upO g f x.2):=by
 have R:=E.relUp x
 have hfro:Fro es (upF ds es f x.1):=by
  intro c y hy
  rw [upF_at hy]
  cases hr:y.reads
  ·simp
  ·simp only [if_true]
   obtain ⟨a,ha,rfl⟩:=E.out c y hy (by show (M.reads _||M.writes _)=true;rw [show M.reads y.d.k=true from hr,Bool.true_or])
   rw [E.dn_up ha,Int.toNat_natCast]
   have hx:=List.getElem?_eq_getElem ha
   obtain ⟨y',hy',L⟩:=E.at_ a _ hx
   rw [hy] at hy'
   obtain rfl:=Option.some.inj hy'
   have hra:ds[a].reads=true:=L.rd▸hr
   have hf:=h.fro a _ hx
   rw [if_pos hra] at hf
   rcases hf with e | ⟨b,z,e,hz,ht⟩
   ·rw [e];exact Or.inl (up_neg (by omega))
   ·rw [e,up_nat]
    obtain ⟨z',hz',L'⟩:=E.at_ b z hz
    refine Or.inr ⟨f b,z',rfl,hz',?_⟩
    simp only [De.to,Bool.and_eq_true,beq_iff_eq] at ht ⊢
    have huz:z.uses=true:=by show (M.reads _||M.writes _)=true;rw [ht.1,Bool.or_true]
    have hua:ds[a].uses=true:=by show (M.reads _||M.writes _)=true;rw [show M.reads ds[a].d.k=true from hra,Bool.true_or]
    exact ⟨L'.wr.trans ht.1,(L'.pl huz).trans (by rw [L.pl hua,ht.2])⟩
 have hlen:(upF ds es f x.1).length=es.length:=by simp [upF]
 have hin:=h.in_ E.lro
 have hrow:∀ p:Int,0≤p→p < 3→((upO g f x.2).getD p.toNat []).Perm (M.wrs p 0 es):=by
  intro q h0 h3
  obtain ⟨p,p0,p3,rfl⟩:=E.inv q h0 h3
  rw [E.upO_at p0 p3]
  exact ((h.row p p0 p3).map _).trans (E.wrs p0 p3)
 have hin2:In es (upF ds es f x.1):=fro_in hfro hlo
 refine ⟨hlen,hfro,rfl,hrow,?_⟩
 rw [ends_iff]
 intro c hc
 have hy:=List.getElem?_eq_getElem hc
 cases hu:es[c].uses
 ·obtain ⟨m,hm⟩:∃ m,es.length=m+1:=⟨es.length - 1,by omega⟩
  rw [hm,M.orig,val_none hy hu,if_pos (by omega)];rfl
 ·obtain ⟨a,ha,rfl⟩:=E.out c _ hy hu
  refine orig_any hin2 hc (m:=ds.length) ?_
  have:=(ends_iff ds x.1).1 h.fin a ha
  rw [E.orig R hin ds.length a ha]
  simpa using this
theorem Emb.read (E:Emb ds es f g v) {x y:Wy} (R:Rel ds f g x y) (hx:WO ds x.1 x.2) (hy:WO es y.1 y.2) {a b:Nat} (ha:a < ds.length) (hb:b < ds.length):M.read y.1 (f a) (f b)=M.read x.1 a b:=by
 unfold M.read
 have hxb:=List.getElem?_eq_getElem hb
 obtain ⟨z,hz,L⟩:=E.at_ b _ hxb
 have h1:=hx.fro b _ hxb
 have h2:=hy.fro (f b) z hz
 cases hr:ds[b].reads
 ·rw [hr,if_neg (by simp)] at h1
  rw [L.rd,hr,if_neg (by simp)] at h2
  rw [h1,h2]
  have e1:((-2:Int)==(f a:Int))=false:=by simp
  have e2:((-2:Int)==(a:Int))=false:=by simp
  rw [e1,e2]
 ·rw [R.rd b _ hxb hr]
  rw [if_pos hr] at h1
  rcases h1 with e | ⟨c,u,e,hu,_⟩
  ·rw [e,up_neg (by omega)]
   have e1:((-1:Int)==(f a:Int))=false:=by simp
   have e2:((-1:Int)==(a:Int))=false:=by simp
   rw [e1,e2]
  ·rw [e,up_nat]
   rw [Bool.eq_iff_iff,beq_iff_eq,beq_iff_eq]
   constructor
   ·intro h;have:=E.inj c a (lt_of_get hu) ha (by omega);omega
   ·intro h;have:c=a:=by omega
    rw [this]
theorem idx_map {h:Int→Int} {z:Int}:∀ {row:List Int},(∀ r∈row,h r=h z→r=z)→idx (row.map h) (h z)=idx row z:=by
 intro row hh
 have e:(row.map h).findIdx? (·==h z)=row.findIdx? (·==z):=by
  induction row with
  | nil=>rfl
  | cons r row ih =>
   have h1:=ih fun r hr=>hh r (List.mem_cons_of_mem _ hr)
   have h2:(h r==h z)=(r==z):=by
    rw [Bool.eq_iff_iff,beq_iff_eq,beq_iff_eq]
    exact ⟨hh r (List.mem_cons_self ..),fun e=>by rw [e]⟩
   rw [List.map_cons,List.findIdx?_cons,List.findIdx?_cons,h1,h2]
 unfold idx
 rw [e]
theorem Emb.up_inj (E:Emb ds es f g v) {y z:Int} (hy:y < ds.length) (hz:z < ds.length) (h:up f y=up f z):y=z:=by
 rcases Int.lt_or_le y 0 with h1 | h1
 ·rcases Int.lt_or_le z 0 with h2 | h2
  ·rwa [up_neg h1,up_neg h2] at h
  ·obtain ⟨n,rfl⟩:∃ n:Nat,z=n:=⟨z.toNat,by omega⟩
   rw [up_neg h1,up_nat] at h;omega
 ·obtain ⟨m,rfl⟩:∃ n:Nat,y=n:=⟨y.toNat,by omega⟩
  rcases Int.lt_or_le z 0 with h2 | h2
  ·rw [up_neg h2,up_nat] at h;omega
  ·obtain ⟨n,rfl⟩:∃ n:Nat,z=n:=⟨z.toNat,by omega⟩
   rw [up_nat,up_nat] at h
   have:=E.inj m n (by omega) (by omega) (by omega)
   omega
theorem Emb.over (E:Emb ds es f g v) {x y:Wy} (R:Rel ds f g x y) (hx:WO ds x.1 x.2) {a b:Nat} {s t s' t':De} (ha:ds[a]?=some s) (hb:ds[b]?=some t) (ha':es[f a]?=some s') (hb':es[f b]?=some t'):M.over y.1 y.2 (f a) (f b) s' t'=M.over x.1 x.2 a b s t:=by
 obtain ⟨u,hu,L⟩:=E.at_ a s ha
 rw [ha'] at hu
 obtain rfl:=Option.some.inj hu
 obtain ⟨u,hu,K⟩:=E.at_ b t hb
 rw [hb'] at hu
 obtain rfl:=Option.some.inj hu
 unfold M.over
 have one:onePl s' t'=onePl s t:=by
  unfold onePl
  rw [L.us,K.us]
  cases hs:s.uses
  ·rfl
  ·cases ht:t.uses
   ·rfl
   ·have p1:=E.pr _ (mem_of_get ha) hs
    have p2:=E.pr _ (mem_of_get hb) ht
    rw [L.pl hs,K.pl ht]
    simp only [Bool.true_and]
    rw [Bool.eq_iff_iff,beq_iff_eq,beq_iff_eq]
    exact ⟨fun e=>E.gj _ _ p1.1 p1.2 p2.1 p2.2 e,fun e=>by rw [e]⟩
 rw [one,K.wr]
 cases ho:onePl s t
 ·rfl
 ·cases hw:M.writes t.d.k
  ·rfl
  ·simp only [Bool.true_and]
   simp only [onePl,Bool.and_eq_true,beq_iff_eq] at ho
   have hu2:=ho.2.1
   have p2:=E.pr _ (mem_of_get hb) hu2
   rw [K.pl hu2,R.row _ p2.1 p2.2]
   have hperm:=hx.row t.d.p p2.1 p2.2
   have hmem:∀ r∈x.2.getD t.d.p.toNat [],r < ds.length:=fun r hr=>by
    obtain ⟨i,hi,rfl,_⟩:=mem_wrs.1 (hperm.mem_iff.1 hr);omega
   have hwl:wrote x.1 a s < ds.length:=by
    have h1:=hx.fro a s ha
    unfold wrote
    split
    ·rename_i hr
     rw [if_pos (show s.reads=true from hr)] at h1
     rcases h1 with e | ⟨c,u,e,hc,_⟩
     ·omega
     ·have:=lt_of_get hc;omega
    ·have:=lt_of_get ha;omega
   have hwr:wrote y.1 (f a) s'=up f (wrote x.1 a s):=by
    unfold wrote
    rw [show M.reads s'.d.k=M.reads s.d.k from L.rd]
    split
    ·rename_i hr
     exact R.rd a s ha hr
    ·rw [up_nat]
   have hbl:=lt_of_get hb
   rw [hwr,← up_nat,idx_map fun r hr=>E.up_inj (hmem r hr) hwl,idx_map fun r hr=>E.up_inj (hmem r hr) (by omega)]
theorem Emb.vl (E:Emb ds es f g v) {x y:Wy} (R:Rel ds f g x y) (hx:WO ds x.1 x.2) (hy:WO es y.1 y.2) (hlo:∀ y∈es,y.lr < es.length) (hz:∀ x∈ds,x.reads=true∨x.d.k=3→x.d.v=0) (hz':∀ x∈es,x.reads=true∨x.d.k=3→x.d.v=0) {a:Nat} (ha:a < ds.length):M.vl es y.1 (f a)=v (M.vl ds x.1 a):=by
 have hin:=hx.in_ E.lro
 obtain ⟨q,hq,e1,e2⟩:=vl_of hin hx.len hz hx.fin a ha
 obtain ⟨q',hq',e3,e4⟩:=vl_of (hy.in_ hlo) hy.len hz' hy.fin (f a) (E.lt ha)
 have e5:=E.orig R hin ds.length a ha
 rw [e1] at e5
 have e6:=orig_mono _ (ds.length+es.length) _ _ (by omega) e5
 have e7:=orig_mono _ (ds.length+es.length) _ _ (by omega) e3
 rw [e6] at e7
 have e8:f q=q':=Option.some.inj e7
 subst e8
 rw [e2,e4]
 obtain ⟨u,hu,L⟩:=E.at_ q _ (List.getElem?_eq_getElem hq)
 rw [List.getElem?_eq_getElem hq'] at hu
 obtain rfl:=Option.some.inj hu
 exact L.vl
theorem lastD_map {h:Int→Int} {d:Int} (row:List Int):(row.map h).getLastD (h d)=h (row.getLastD d):=by
 rw [List.getLastD_eq_getLast?,List.getLastD_eq_getLast?,List.getLast?_map]
 cases row.getLast?<;>rfl
theorem Emb.last (E:Emb ds es f g v) {x y:Wy} (R:Rel ds f g x y) (hx:WO ds x.1 x.2) (hy:WO es y.1 y.2) (hlo:∀ y∈es,y.lr < es.length) (hz:∀ x∈ds,x.reads=true∨x.d.k=3→x.d.v=0) (hz':∀ x∈es,x.reads=true∨x.d.k=3→x.d.v=0) {p:Int} (h0:0≤p) (h3:p < 3):lastOf es y.1 (y.2.getD (g p).toNat [])=v (lastOf ds x.1 (x.2.getD p.toNat [])):=by
 rw [R.row p h0 h3]
 have hperm:=hx.row p h0 h3
 generalize x.2.getD p.toNat []=row at *
 cases hr:row with
 | nil=>rw [List.map_nil,last_nil,last_nil,E.vz]
 | cons r rs =>
  have hl:row.getLastD (-1)∈row:=by
   rw [List.getLastD_eq_getLast?,List.getLast?_eq_some_getLast (by rw [hr];simp)]
   exact List.getLast_mem _
  rw [← hr]
  unfold lastOf
  have e:=lastD_map (h:=up f) (d:=-1) row
  rw [up_neg (show (-1:Int) < 0 by omega)] at e
  rw [e]
  obtain ⟨i,hi,e2,_⟩:=mem_wrs.1 (hperm.mem_iff.1 hl)
  rw [e2,Nat.zero_add,up_nat]
  exact E.vl R hx hy hlo hz hz' hi
end
end M
end
section
namespace M
section
variable {ds es : List De} {pos back : List Nat}
def img (f:Nat→Nat) (c:Ch):Ch:=((f c.1.1,f c.1.2),(f c.2.1,f c.2.2))
theorem mem_choices {ds:List De} {c:Ch}:c∈choices ds↔∃ (w r:Nat) (x y:De),ds[w]?=some x∧x.d.k=9∧x.last=false∧ds[r]?=some y∧y.d.k=7∧c=((outOf ds r,w+1),(w,r)):=by
 simp only [choices,List.mem_flatMap,choicesAt,List.mem_map,List.mem_filter,List.mem_range]
 constructor
 ·rintro ⟨w,⟨hw,hwt⟩,r,⟨hr,hk⟩,rfl⟩
  unfold waitsAt at hwt
  rw [List.getElem?_eq_getElem hw] at hwt
  rw [kAt_eq hr] at hk
  simp only [Bool.and_eq_true,beq_iff_eq,Bool.not_eq_true'] at hwt
  exact ⟨w,r,ds[w],ds[r],List.getElem?_eq_getElem hw,hwt.1,hwt.2,List.getElem?_eq_getElem hr,by simpa using hk,rfl⟩
 ·rintro ⟨w,r,x,y,hx,h9,hf,hy,h7,rfl⟩
  refine ⟨w,⟨lt_of_get hx,?_⟩,r,⟨lt_of_get hy,?_⟩,rfl⟩
  ·unfold waitsAt;rw [hx];simp [h9,hf]
  ·unfold kAt;rw [hy];simp [h7]
end
end M
end
section
namespace M
theorem deed_zero {ll:List (List D)} (hp:prog ll=true):∀ x∈deeds ll,x.reads=true∨x.d.k=3→x.d.v=0:=deed_z hp
theorem lro_deeds (ll:List (List D)):∀ x∈deeds ll,x.lr < (deeds ll).length:=fun x hx=>by
 obtain ⟨n,hn,rfl⟩:=List.getElem_of_mem hx
 exact lr_lt2 ll n _ (List.getElem?_eq_getElem hn)
section
variable {ll mm : List (List D)} {pos back : List Nat}
end
end M
end
section
namespace M
theorem wrs_app (p:Int):∀ (l m:List De) (n:Nat),wrs p n (l++m)=wrs p n l++wrs p (n+l.length) m
 | [],m,n=>by simp [wrs]
 | x::l,m,n=>by
  rw [List.cons_append,wrs,wrs,wrs_app p l m (n+1),List.length_cons,show n+1+l.length=n+(l.length+1) by omega]
  split<;>simp
section
variable {ds : List De} {x : De}
theorem rdAt_app (D:List De) (l:List Int) (ys:List De):∀ (xs:List De) (n:Nat),rdAt D l n (xs++ys)=rdAt D l n xs++rdAt D l (n+xs.length) ys
 | [],n=>by simp [rdAt]
 | z::xs,n=>by
  rw [List.cons_append,rdAt,rdAt,rdAt_app D l ys xs (n+1),List.length_cons,show n+1+xs.length=n+(xs.length+1) by omega]
  split<;>simp
end
section
variable {ll mm : List (List D)} {x : De}
end
end M
end
end Go.Proofs.YtmhpgdliaclokaaGreat
