/- How many ways there are at most, more sharply; and rows of things of two cells. No condition. And what goes with it: WaSpec, RvOa, RvWy, OsOr4, OsOr5, RvWl, WaAns, SpMath, SpPut, ExSo. -/
import Derived.Maps.OwnIn
import Derived.Deep.OwnRows
import Derived.Test.YtmhpgdliaclokaaGreatRows
import Derived.Test.YtmhpgdliaclokaaGreatQyap
import Derived.Test.YtmhpgdliaclokaaGreatQyar
import Derived.Test.YtmhpgdliaclokaaGreatQyas
import Derived.Test.YtmhpgdliaclokaaGreatQyav
import Derived.Test.YtmhpgdliaclokaaGreatQyax
namespace Go.Proofs.YtmhpgdliaclokaaGreat
section
open Go.RowKit
namespace M
theorem use_split:∀ (ds:List De),rdN ds+(ds.filter fun x=>M.writes x.d.k).length≤useN ds
 | []=>by simp [rdN,useN]
 | x::ds=>by
  have ih:=use_split ds
  have hx:(if x.reads then 1 else 0)+(if M.writes x.d.k then 1 else 0)≤if uses x.d.k then 1 else 0:=by
   simp only [De.reads,uses,writes,stores,reads]
   by_cases h2:x.d.k=2
   ·simp [h2]
   ·by_cases h5:x.d.k=5
    ·simp [h5]
    ·simp [h2,h5]
  unfold rdN useN at *
  simp only [List.filter_cons]
  split<;>split<;>split<;>simp_all<;>omega
theorem ways_le2 {ll:List (List D)} (h:prog ll=true):(ways (deeds ll)).length≤117649:=by
 have hu:=use6 h
 have hs:=use_split (deeds ll)
 have hw3:=wrs_three 0 (deeds ll)
 have hf:=fromsOf_len (deeds ll) 7 (fun p=>by have:=wr6 hu p;omega) (deeds ll).length [] (by simp)
 simp only [List.length_nil,List.drop_zero] at hf
 have hr:=fun p:Int=>rows6 h p
 have ho:(ordersOf (deeds ll)).length≤6 ^ ((wrs 0 0 (deeds ll)).length+(wrs 1 0 (deeds ll)).length+(wrs 2 0 (deeds ll)).length):=by
  unfold ordersOf
  rw [addPlace_len,addPlace_len,addPlace_len]
  simp only [List.length_singleton,Nat.one_mul]
  rw [Nat.pow_add,Nat.pow_add]
  exact Nat.mul_le_mul (Nat.mul_le_mul (hr 0) (hr 1)) (hr 2)
 have key:∀ (fs:List (List Int)),(fs.flatMap fun f=>if ends (deeds ll) f then (ordersOf (deeds ll)).map fun o=>(f,o) else []).length≤fs.length * (ordersOf (deeds ll)).length:=fun fs=>flatMap_le _ _ fs (fun f _=>by
  split
  ·simp
  ·simp)
 rw [ways_eq (cop_deeds ll)]
 unfold allWays
 refine Nat.le_trans (key _) ?_
 have h67:6 ^ ((wrs 0 0 (deeds ll)).length+(wrs 1 0 (deeds ll)).length+(wrs 2 0 (deeds ll)).length)≤7 ^ ((wrs 0 0 (deeds ll)).length+(wrs 1 0 (deeds ll)).length+(wrs 2 0 (deeds ll)).length):=Nat.pow_le_pow_left (by omega) _
 refine Nat.le_trans (Nat.mul_le_mul hf (Nat.le_trans ho h67)) ?_
 rw [← Nat.pow_add]
 exact Nat.le_trans (Nat.pow_le_pow_right (by omega) (show _≤6 by omega)) (by decide)
end M
theorem IntS.fr' {w W:World} {D:Nat→Prop} {a:Option Addr} {b o:Nat} {l:List Int} (h:IntS w a b o l) (hf:Fr D w W) (hD:0 < l.length→D b):IntS W a b o l :=
 ⟨h.addr,fun i hi=>hf.cell (p:=⟨b,o+i,none⟩) (hD (by omega)) (h.row i hi)⟩
end
section
open Go.RowKit Go.Shelf
attribute [local go_sem] Oper.semAt_some
namespace M
def seenOf (ll:List (List D)) (x:Wy):Key:=(seenR (deeds ll) x.1,seenL (deeds ll) x.1 x.2)
def orderList (ll:List (List D)) (kind:Int):List Key:=((ways (deeds ll)).filter fun x=>orderHolds ll x.1 x.2 kind).map (seenOf ll)
def orderAll (ll:List (List D)) (kind:Int):List Key:=if (decide (1≤kind)&&decide (kind≤3))&&prog ll then sortK (orderList ll kind) else []
theorem ways_ok {ll:List (List D)} (hp:prog ll=true) {x:Wy} (h:x∈ways (deeds ll)):execOk ll x.1 x.2=true:=by
 unfold execOk
 rw [hp,Bool.true_and]
 exact (mem_all (f:=x.1) (o:=x.2)).1 (by rw [← ways_eq (cop_deeds ll)];exact h)
theorem seenR_len (ds:List De) (l:List Int):(seenR ds l).length≤ds.length:=by
 have key:∀ (n:Nat) (xs:List De),(rdAt ds l n xs).length≤xs.length:=by
  intro n xs
  induction xs generalizing n with
  | nil=>simp [rdAt]
  | cons x xs ih =>
   have:=ih (n+1)
   simp only [rdAt]
   split<;>simp<;>omega
 exact key 0 ds
end M
def BlkS (s:Sn) (k:Nat):Prop:=(0 < s.l1.length∧k=s.b1)∨(0 < s.l2.length∧k=s.b2)
theorem Sn.At.fr {s:Sn} {W W':World} {O:Nat→Prop} (h:s.At W) (hf:Fr O W W') (hO:∀ k,BlkS s k→O k):s.At W' :=
 ⟨h.reads.fr' hf (fun hl=>hO _ (Or.inl ⟨hl,rfl⟩)),h.last.fr' hf (fun hl=>hO _ (Or.inr ⟨hl,rfl⟩))⟩
theorem Sn.At.lt {s:Sn} {W:World} (h:s.At W) {k:Nat} (hk:BlkS s k):k < W.heap.size:=by
 rcases hk with ⟨hl,rfl⟩ | ⟨hl,rfl⟩
 ·exact World.block_lt_of_cell? _ _ (h.reads.row 0 hl)
 ·exact World.block_lt_of_cell? _ _ (h.last.row 0 hl)
end
section
open Go.RowKit Go.Shelf
attribute [local go_sem] Oper.semAt_some
namespace M
def whyGood (ll:List (List D)) (t1 t2:List Int) (k:Int) (x:Wy):Bool:=(cmpS (seenR (deeds ll) x.1) (seenL (deeds ll) x.1 x.2) t1 t2==0)&&orderHolds ll x.1 x.2 k
def whyExec (ll:List (List D)) (t1 t2:List Int) (k:Int):Option Wy:=if (decide (1≤k)&&decide (k≤3))&&seenOk ll t1 t2 then (ways (deeds ll)).find? (whyGood ll t1 t2 k) else none
theorem find_pre {α:Type} {p:α→Bool} {pre xs:List α} {x:α} (h:pre <+: xs) (hf:pre.find? p=some x):xs.find? p=some x:=by
 obtain ⟨t,rfl⟩:=h
 rw [List.find?_append,hf];rfl
theorem find_no {α:Type} {p:α→Bool} {pre:List α} {x:α} (h:pre.find? p=none) (hx:p x=false):(pre++[x]).find? p=none:=by
 rw [List.find?_append,h];simp [hx]
theorem find_yes {α:Type} {p:α→Bool} {pre:List α} {x:α} (h:pre.find? p=none) (hx:p x=true):(pre++[x]).find? p=some x:=by
 rw [List.find?_append,h];simp [hx]
end M
structure WhyAns (w w':World) (r:Option M.Wy) (v:Value):Prop where
 no:r=none→v=.tuple #[.agg #[.slice none 0 0,.slice none 0 0],.bool false]
 yes:∀ x,r=some x→∃ fv ov cs,v=.tuple #[.agg #[fv,ov],.bool true]∧Xw w' w.heap.size fv ov x.1 cs x.2
 bel:Below w.heap.size w w'
structure WhI (good:M.Wy→Bool) (Rb Tb:Nat) (W4:World) (pre:List M.Wy) (C:Nat→Prop) (W:World):Prop where
 c:∀ k,C k↔k=Rb∨k=Tb
 r:W.heap[Rb]?=some (.cells #[.slice none 0 0,.slice none 0 0] 29 (0,0))
 t:W.heap[Tb]?=some (.cells #[.bool false] 4 (0,0))
 no:Hid (pre.find? good=none)
 fr:Fr (fun k=>k < W4.heap.size∧k≠Rb∧k≠Tb) W4 W
theorem WhI.frames (good:M.Wy→Bool) (Rb Tb:Nat) (W4:World):Frames (fun k=>k < W4.heap.size∧k≠Rb∧k≠Tb) (WhI good Rb Tb W4):=by
 rintro pre C W W' ⟨h1,h2,h3,h4,h5⟩ hf
 exact ⟨h1,hf.heap (Or.inl ((h1 _).2 (Or.inl rfl))) h2,hf.heap (Or.inl ((h1 _).2 (Or.inr rfl))) h3,h4,h5.trans (hf.mono fun k _ hk=>Or.inr hk)⟩
structure WhX (good:M.Wy→Bool) (Rb Tb:Nat) (W4:World) (c:Code) (pre:List M.Wy) (C:Nat→Prop) (W:World):Prop where
 ret:c=.ret
 ex:∃ x fv ov cs,pre.find? good=some x∧(∀ k,C k↔k=Rb∨k=Tb∨Blks fv ov cs k)∧W.heap[Rb]?=some (.cells #[fv,ov] 29 (0,0))∧W.heap[Tb]?=some (.cells #[.bool true] 4 (0,0))∧Xw W W4.heap.size fv ov x.1 cs x.2
 fr:Fr (fun k=>k < W4.heap.size∧k≠Rb∧k≠Tb) W4 W
theorem WhX.frames (good:M.Wy→Bool) (Rb Tb:Nat) (W4:World) (c:Code):Frames (fun k=>k < W4.heap.size∧k≠Rb∧k≠Tb) (WhX good Rb Tb W4 c):=by
 rintro pre C W W' ⟨h0,⟨x,fv,ov,cs,h1,h2,h3,h4,h5⟩,h6⟩ hf
 exact ⟨h0,⟨x,fv,ov,cs,h1,h2,hf.heap (Or.inl ((h2 _).2 (Or.inl rfl))) h3,hf.heap (Or.inl ((h2 _).2 (Or.inr (Or.inl rfl)))) h4,h5.fr hf (fun k hk=>Or.inl ((h2 k).2 (Or.inr (Or.inr hk))))⟩,h6.trans (hf.mono fun k _ hk=>Or.inr hk)⟩
theorem cellsOf {W:World} {b:Nat} {cs:Array Value} {ty:TypeId} (h:W.heap[b]?=some (.cells cs ty (0,0))) (i:Nat):W.cell? ⟨b,i,none⟩=cs[i]?:=by
 unfold World.cell?;simp [h]
theorem frozOf {W:World} {b:Nat} {cs:Array Value} {ty:TypeId} (h:W.heap[b]?=some (.cells cs ty (0,0))) (i:Nat):W.frozen? ⟨b,i,none⟩=false:=by
 unfold World.frozen?;simp [h]
theorem five (w:World) (A B C D E:Obj):Below w.heap.size w (((((w.alloc A).alloc B).alloc C).alloc D).alloc E)∧(((((w.alloc A).alloc B).alloc C).alloc D).alloc E).heap.size=w.heap.size+5∧(((((w.alloc A).alloc B).alloc C).alloc D).alloc E).heap[w.heap.size]?=some A∧(((((w.alloc A).alloc B).alloc C).alloc D).alloc E).heap[w.heap.size+1]?=some B∧(((((w.alloc A).alloc B).alloc C).alloc D).alloc E).heap[w.heap.size+2]?=some C∧(((((w.alloc A).alloc B).alloc C).alloc D).alloc E).heap[w.heap.size+3]?=some D∧(((((w.alloc A).alloc B).alloc C).alloc D).alloc E).heap[w.heap.size+4]?=some E:=by
 obtain ⟨W1,h1⟩:∃ W1,w.alloc A=W1:=⟨_,rfl⟩
 have n1:W1.heap.size=w.heap.size+1:=by rw [← h1];simp
 have e1:W1.heap[w.heap.size]?=some A:=by rw [← h1];exact heap_alloc_new _ _
 have B1:Below w.heap.size w W1:=by rw [← h1];exact below1 w A
 rw [h1]
 obtain ⟨W2,h2⟩:∃ W2,W1.alloc B=W2:=⟨_,rfl⟩
 have n2:W2.heap.size=w.heap.size+2:=by rw [← h2];simp [n1]
 have e2:W2.heap[w.heap.size+1]?=some B:=by rw [← h2,← n1];exact heap_alloc_new _ _
 have B2:Below W1.heap.size W1 W2:=by rw [← h2];exact below1 _ _
 rw [h2]
 obtain ⟨W3,h3⟩:∃ W3,W2.alloc C=W3:=⟨_,rfl⟩
 have n3:W3.heap.size=w.heap.size+3:=by rw [← h3];simp [n2]
 have e3:W3.heap[w.heap.size+2]?=some C:=by rw [← h3,← n2];exact heap_alloc_new _ _
 have B3:Below W2.heap.size W2 W3:=by rw [← h3];exact below1 _ _
 rw [h3]
 obtain ⟨W4,h4⟩:∃ W4,W3.alloc D=W4:=⟨_,rfl⟩
 have n4:W4.heap.size=w.heap.size+4:=by rw [← h4];simp [n3]
 have e4:W4.heap[w.heap.size+3]?=some D:=by rw [← h4,← n3];exact heap_alloc_new _ _
 have B4:Below W3.heap.size W3 W4:=by rw [← h4];exact below1 _ _
 rw [h4]
 obtain ⟨W5,h5⟩:∃ W5,W4.alloc E=W5:=⟨_,rfl⟩
 have n5:W5.heap.size=w.heap.size+5:=by rw [← h5];simp [n4]
 have e5:W5.heap[w.heap.size+4]?=some E:=by rw [← h5,← n4];exact heap_alloc_new _ _
 have B5:Below W4.heap.size W4 W5:=by rw [← h5];exact below1 _ _
 rw [h5]
 clear h1 h2 h3 h4 h5
 refine ⟨(((B1.trans (B2.mono (by omega))).trans (B3.mono (by omega))).trans (B4.mono (by omega))).trans (B5.mono (by omega)),n5,?_,?_,?_,?_,e5⟩
 ·exact (B5.block _ (by omega)).trans ((B4.block _ (by omega)).trans ((B3.block _ (by omega)).trans ((B2.block _ (by omega)).trans e1)))
 ·exact (B5.block _ (by omega)).trans ((B4.block _ (by omega)).trans ((B3.block _ (by omega)).trans e2))
 ·exact (B5.block _ (by omega)).trans ((B4.block _ (by omega)).trans e3)
 ·exact (B5.block _ (by omega)).trans e4
theorem wy_stored (W:World) (Rb Tb:Nat) (hne:Rb≠Tb) (fv ov:Value) (hr:W.heap[Rb]?=some (.cells #[.slice none 0 0,.slice none 0 0] 29 (0,0))) (ht:W.heap[Tb]?=some (.cells #[.bool false] 4 (0,0))) :
  (((W.setCell ⟨Rb,0,none⟩ fv).setCell ⟨Rb,1,none⟩ ov).setCell ⟨Tb,0,none⟩ (.bool true)).heap[Rb]?=some (.cells #[fv,ov] 29 (0,0))∧(((W.setCell ⟨Rb,0,none⟩ fv).setCell ⟨Rb,1,none⟩ ov).setCell ⟨Tb,0,none⟩ (.bool true)).heap[Tb]?=some (.cells #[.bool true] 4 (0,0))∧∀ C:Nat→Prop,¬ C Rb→¬ C Tb→Fr C W (((W.setCell ⟨Rb,0,none⟩ fv).setCell ⟨Rb,1,none⟩ ov).setCell ⟨Tb,0,none⟩ (.bool true)):=by
 refine ⟨?_,?_,fun C h1 h2=>(((Fr.refl C W).setCell _ h1).setCell _ h1).setCell _ h2⟩
 ·rw [Below.heap_setCell _ _ _ _ hne]
  exact (heap_setCell_same _ Rb 1 _ _ ov (heap_setCell_same W Rb 0 _ _ fv hr)).trans rfl
 ·refine (heap_setCell_same _ Tb 0 #[.bool false] _ (.bool true) ?_).trans rfl
  rw [Below.heap_setCell _ _ _ _ (Ne.symm hne),Below.heap_setCell _ _ _ _ (Ne.symm hne)]
  exact ht
theorem Tryz.szExW:(Tryz.prog.info? 29).map (·.size)=some 2:=by kernel_rfl
theorem wy_results {fn:Func} (h:fn.results=#[.cell 6 29,.cell 7 4]) (tmps:Array Value) (w:World) (Rb Tb:Nat) (fv ov:Value) (b:Bool) (h6:tmps.getD 6 undef=.pointer (some ⟨Rb,0,none⟩)) (h7:tmps.getD 7 undef=.pointer (some ⟨Tb,0,none⟩))
  (c0:w.cell? ⟨Rb,0,none⟩=some fv) (c1:w.cell? ⟨Rb,1,none⟩=some ov) (t0:w.cell? ⟨Tb,0,none⟩=some (.bool b)) :
  (results fn tmps).run Tryz.prog w=.ok (.tuple #[.agg #[fv,ov],.bool b]) w:=by
 have hl:(loadVar 29 ⟨Rb,0,none⟩).run Tryz.prog w=.ok (.agg #[fv,ov]) w:=by
  refine run_loadVar_mid w Rb 0 29 [fv,ov] _ (fun j v hv=>?_) Tryz.underlying29 rfl Tryz.szExW
  match j,hv with
  | 0,hv=>simp at hv;subst hv;exact c0
  | 1,hv=>simp at hv;subst hv;exact c1
  | j+2,hv=>simp at hv
 have h6':tmps[6]?.getD undef=.pointer (some ⟨Rb,0,none⟩):=by simpa using h6
 have h7':tmps[7]?.getD undef=.pointer (some ⟨Tb,0,none⟩):=by simpa using h7
 simp [results,h,h6',h7',asAddr,hl]
 simp [go_sem,t0]
set_option maxHeartbeats 4000000 in
set_option maxRecDepth 100000 in
set_option linter.unusedSimpArgs false in
theorem iwhyExec_any (a:Option Addr) (b o c:Nat) (ll:List (List M.D)) (t:Sn) (kind:Int) (w:World) (hl:ll.length≤1048576) (hls:∀ t∈ll,t.length≤1048576) (ht:t.Le 1048576) (h:DoSS w a b o ll) (hta:t.At w) :
  Calls Tryz.prog 20 #[.agg #[.slice a ll.length c],.agg #[.slice t.a1 t.l1.length t.c1,.slice t.a2 t.l2.length t.c2],.int .i64 kind] w fun e w'=>∃ v,e=.returned v∧WhyAns w w' (M.whyExec ll t.l1 t.l2 kind) v:=by
 obtain ⟨W0,hW0⟩:∃ W0,((((w.alloc (.cells #[.slice a ll.length c] 25)).alloc (.cells #[.slice t.a1 t.l1.length t.c1,.slice t.a2 t.l2.length t.c2] 45)).alloc (.cells #[.int .i64 kind] 3)).alloc (.cells #[.slice none 0 0,.slice none 0 0] 29)).alloc (.cells #[.bool false] 4)=W0:=⟨_,rfl⟩
 have hF5:=five w (.cells #[.slice a ll.length c] 25) (.cells #[.slice t.a1 t.l1.length t.c1,.slice t.a2 t.l2.length t.c2] 45) (.cells #[.int .i64 kind] 3) (.cells #[.slice none 0 0,.slice none 0 0] 29) (.cells #[.bool false] 4)
 rw [hW0] at hF5
 obtain ⟨b1,sz1,hP0,hS0,hK0,hR0,hT0⟩:=hF5
 have k1:W0.cell? ⟨w.heap.size,0,none⟩=some (.slice a ll.length c):=(cellsOf hP0 0).trans rfl
 have k2:W0.cell? ⟨w.heap.size+1,0,none⟩=some (.slice t.a1 t.l1.length t.c1)∧W0.cell? ⟨w.heap.size+1,1,none⟩=some (.slice t.a2 t.l2.length t.c2):=⟨(cellsOf hS0 0).trans rfl,(cellsOf hS0 1).trans rfl⟩
 have k3:W0.cell? ⟨w.heap.size+2,0,none⟩=some (.int .i64 kind):=(cellsOf hK0 0).trans rfl
 have C1:=iseenOk_any a b o c ll t W0 hl hls ht (h.below b1 (Nat.le_refl _)) (hta.below b1 (Nat.le_refl _))
 have NO:∀ (W:World) (d:List Deferred) (tm:Array Value),W.heap[w.heap.size+3]?=some (.cells #[.slice none 0 0,.slice none 0 0] 29 (0,0))→W.heap[w.heap.size+4]?=some (.cells #[.bool false] 4 (0,0))→Below w.heap.size w W→M.whyExec ll t.l1 t.l2 kind=none→tm.getD 6 undef=.pointer (some ⟨w.heap.size+3,0,none⟩)→tm.getD 7 undef=.pointer (some ⟨w.heap.size+4,0,none⟩) →
   bodyPostM Fence.wide 9 Tryz.prog Tryz.f20 (fun e w'=>∃ v,e=.returned v∧WhyAns w w' (M.whyExec ll t.l1 t.l2 kind) v) .ret { tmps:=tm,defers:=[] } (((W.setCell ⟨w.heap.size+3,0,none⟩ (.slice none 0 0)).setCell ⟨w.heap.size+3,1,none⟩ (.slice none 0 0)).setCell ⟨w.heap.size+4,0,none⟩ (.bool false)):=fun W d tm hr ht hb hx h6 h7=>by
  have r0:=(cellsOf hr 0).trans (show _=some (Value.slice none 0 0) from rfl)
  have r1:=(cellsOf hr 1).trans (show _=some (Value.slice none 0 0) from rfl)
  have t0:=(cellsOf ht 0).trans (show _=some (Value.bool false) from rfl)
  refine ⟨_,wy_results rfl _ _ (w.heap.size+3) (w.heap.size+4) (.slice none 0 0) (.slice none 0 0) false h6 h7 ?_ ?_ ?_,_,rfl,fun _=>rfl,fun x hx'=>by rw [hx] at hx';(cases hx'),((hb.setCell (by show w.heap.size≤w.heap.size+3;omega) _).setCell (by show w.heap.size≤w.heap.size+3;omega) _).setCell (by show w.heap.size≤w.heap.size+4;omega) _⟩
  ·simp [go_sem,r0,r1,t0]
  ·simp [go_sem,r0,r1,t0]
  ·simp [go_sem,r0,r1,t0]
 refine (callsIn_wide (n:=9)).1 ?_
 refine callsIn_of_wp_marks Tryz.func20 rfl trivial ?_ rfl
 simp only [Tryz.ntmps20,List.size_toArray,List.length_cons,List.length_nil,Nat.reduceAdd,Nat.reduceSub,Array.replicate_succ,Array.replicate_zero,List.push_toArray,List.append_toArray,List.nil_append,List.cons_append]
 gi_wp2_with fail
 refine ⟨trivial,(callsIn_wide.2 (isOrder_any kind W0)).mono ?_⟩
 cases hk:(decide (1≤kind)&&decide (kind≤3))
 ·rintro e W1 ⟨rfl,e1⟩
  subst e1
  have hx:M.whyExec ll t.l1 t.l2 kind=none:=by simp only [M.whyExec];rw [hk];rfl
  have hA:=fun tm=>NO W1 [] tm hR0 hT0 b1 hx
  have r0:=(cellsOf hR0 0).trans (show _=some (Value.slice none 0 0) from rfl)
  have r1:=(cellsOf hR0 1).trans (show _=some (Value.slice none 0 0) from rfl)
  have t0:=(cellsOf hT0 0).trans (show _=some (Value.bool false) from rfl)
  have fz:=frozOf hR0
  have ft:=frozOf hT0
  clear hk C1 NO hx hW0
  gi_wp2_with fail
  refine ⟨trivial,?_⟩
  gi_wp2_with fail
  exact hA _ rfl rfl
 ·rintro e W1 ⟨rfl,e1⟩
  subst e1
  gi_wp2_with fail
  refine ⟨trivial,(callsIn_wide.2 C1).mono ?_⟩
  have fz:=frozOf hR0
  have ft:=frozOf hT0
  cases hp:M.seenOk ll t.l1 t.l2
  ·rintro e W2 ⟨rfl,b2⟩
   have hx:M.whyExec ll t.l1 t.l2 kind=none:=by simp only [M.whyExec];rw [hp,Bool.and_false];rfl
   have hR2:=(b2.block _ (by omega)).trans hR0
   have hT2:=(b2.block _ (by omega)).trans hT0
   have hA:=fun tm=>NO W2 [] tm hR2 hT2 (b1.trans (b2.mono (by omega))) hx
   have r0:=(cellsOf hR2 0).trans (show _=some (Value.slice none 0 0) from rfl)
   have r1:=(cellsOf hR2 1).trans (show _=some (Value.slice none 0 0) from rfl)
   have t0:=(cellsOf hT2 0).trans (show _=some (Value.bool false) from rfl)
   have fz:=frozOf hR2
   have ft:=frozOf hT2
   clear hk C1 NO hx hW0
   gi_wp2_with fail
   exact hA _ rfl rfl
  ·rintro e W2 ⟨rfl,b2⟩
   have HX:Hid (M.whyExec ll t.l1 t.l2 kind=(M.ways (M.deeds ll)).find? (M.whyGood ll t.l1 t.l2 kind)):=by show _=_;simp only [M.whyExec];rw [hk,hp];rfl
   have hpg:M.prog ll=true:=(M.seenOk_len hp).1
   have hpl:=M.prog_le hpg
   have hwl:=M.ways_le2 hpg
   obtain ⟨kn,rfl⟩:∃ kn:Nat,kind=kn:=⟨kind.toNat,by simp only [Bool.and_eq_true,decide_eq_true_eq] at hk;omega⟩
   have hk13:1≤kn∧kn≤3:=by simp only [Bool.and_eq_true,decide_eq_true_eq] at hk;omega
   have bw1:=b1.trans (b2.mono (by omega))
   have q1:=(b2.cell (p:=⟨w.heap.size,0,none⟩) (by show w.heap.size < _;omega)).trans k1
   have hR2:=(b2.block _ (by omega)).trans hR0
   have hT2:=(b2.block _ (by omega)).trans hT0
   have hS2:=(b2.block _ (by omega)).trans hS0
   have hK2:=(b2.block _ (by omega)).trans hK0
   have s1:=b2.size
   have hta1:=hta.below bw1 (Nat.le_refl _)
   clear C1 hk k1 k2 k3 hP0 hS0 hK0 hR0 hT0 fz ft NO hW0
   gi_wp2_with fail
   have C2:=deedsOf_any a b o c ll W2 hpl.1 hpl.2 (h.below bw1 (Nat.le_refl _))
   refine ⟨trivial,(callsIn_wide.2 C2).mono ?_⟩
   rintro e W3 ⟨v3,rfl,ho3,b4⟩
   obtain ⟨va,g,cc,rfl,hde,hge,_⟩:=own_rs M.De.len ho3
   have hd1:=M.deeds_len hpl.1 hpl.2
   have hdlt:0 < (M.deeds ll).length→g < W3.heap.size∧W2.heap.size≤g:=fun h0=>⟨World.block_lt_of_cell? _ _ ((hde.row 0 h0 0 (by omega)).trans rfl),hge h0⟩
   have hq:WyOk (M.deeds ll) (M.firstW (M.deeds ll)):=WyOk.first (fun n x hx=>M.lr_lt2 ll n x hx)
   have s2:=b4.size
   have b5:=below1 W3 (.cells #[.slice va (M.deeds ll).length cc] 75)
   have bA:(W3.alloc (.cells #[.slice va (M.deeds ll).length cc] 75)).cell? ⟨W3.heap.size,0,none⟩=some (.slice va (M.deeds ll).length cc):=by simp
   have szA:(W3.alloc (.cells #[.slice va (M.deeds ll).length cc] 75)).heap.size=W3.heap.size+1:=by simp
   have b42:=b4.trans (b5.mono b4.size)
   have hdeA:=hde.below M.De.len b5 (Nat.le_refl _)
   clear C2 ho3 q1 hde
   gi_wp2_with fail
   generalize W3.alloc (.cells #[.slice va (M.deeds ll).length cc] 75)=WA at *
   have hc4:=ways_any va g cc (M.deeds ll) WA (by omega) hdeA
   refine ⟨trivial,(callsIn_wide.2 hc4).mono ?_⟩
   rintro e W4 ⟨f,rfl,hit,b6⟩
   have s4:=b6.size
   have b46:=b42.trans (b6.mono b42.size)
   have hR4:=(b46.block _ (by omega)).trans hR2
   have hT4:=(b46.block _ (by omega)).trans hT2
   have hS4:=(b46.block _ (by omega)).trans hS2
   have hK4:=(b46.block _ (by omega)).trans hK2
   have hta4:=hta1.below b46 (Nat.le_refl _)
   have qA4:=(b6.cell (p:=⟨W3.heap.size,0,none⟩) (by show W3.heap.size < _;omega)).trans bA
   have hde4:=hdeA.below M.De.len b6 (Nat.le_refl _)
   obtain ⟨gf,lb,rfl,eg,hseq⟩:=hit.seq hde4 (by omega) hq (D:=fun k=>k < W4.heap.size∧k≠w.heap.size+3∧k≠w.heap.size+4) (fun k hk hk'=>⟨hk',by omega,by omega⟩) (fun h0=>⟨by have:=hdlt h0;omega,by have:=hdlt h0;omega,by have:=hdlt h0;omega⟩) (fun k hk=>hk.1)
   have bw4:Below w.heap.size w W4:=bw1.trans (b46.mono bw1.size)
   have hgD:0 < (M.deeds ll).length→g < W4.heap.size∧g≠w.heap.size+3∧g≠w.heap.size+4:=fun h0=>⟨by have:=hdlt h0;omega,by have:=hdlt h0;omega,by have:=hdlt h0;omega⟩
   have ltA:W3.heap.size < W4.heap.size∧W3.heap.size≠w.heap.size+3∧W3.heap.size≠w.heap.size+4:=by omega
   have ltw:w.heap.size+5≤W4.heap.size:=by omega
   have htl:∀ k,BlkS t k→k < w.heap.size:=fun k hk=>hta.lt hk
   clear hit hc4 hge hdlt b2 b4 b5 b6 b42 b46 bw1 hdeA bA hR2 hT2 hS2 hK2 hta1 szA s4 s2 s1
   obtain ⟨Ab,hAb⟩:∃ Ab,W3.heap.size=Ab:=⟨_,rfl⟩
   rw [hAb] at qA4 ltA ⊢
   clear hAb
   gi_wp2_with fail
   refine rv_outer (n:=9) (a:=_) (D:=fun k=>k < W4.heap.size∧k≠w.heap.size+3∧k≠w.heap.size+4) (xs:=M.ways (M.deeds ll)) (w0:=W4) (C0:=fun k=>k=w.heap.size+3∨k=w.heap.size+4) rfl (by omega) (gf:=gf) (lb:=lb) rfl trivial eg (hseq 8) (Fr.refl _ _) (fun k hk=>hk.1) (V:=WayV (WyOk (M.deeds ll)))
    (fun x vs O W h=>by obtain ⟨⟨_,_,_,rfl,_,_⟩,_⟩:=h;rfl) (fun k hk=>?c0)
    (WhI (M.whyGood ll t.l1 t.l2 kn) (w.heap.size+3) (w.heap.size+4) W4) (WhX (M.whyGood ll t.l1 t.l2 kn) (w.heap.size+3) (w.heap.size+4) W4) (WhI.frames _ _ _ _) (fun c=>WhX.frames _ _ _ _ c) ?h0 ?round ?done ?stop
   case c0=>exact ⟨by omega,fun h=>by omega⟩
   case h0=>exact ⟨fun k=>Iff.rfl,hR4,hT4,(by show _=_;rfl),Fr.refl _ _⟩
   case done =>
    rintro C' W' hf hC ⟨hc,hr,ht',hno,hfr⟩ hK
    have r0:=(cellsOf hr 0).trans (show _=some (Value.slice none 0 0) from rfl)
    have r1:=(cellsOf hr 1).trans (show _=some (Value.slice none 0 0) from rfl)
    have t0:=(cellsOf ht' 0).trans (show _=some (Value.bool false) from rfl)
    have fz:=frozOf hr
    have ft:=frozOf ht'
    have hlt4:W4.heap.size < W'.heap.size:=(Array.getElem?_eq_some_iff.1 hK).1
    have sw4:=bw4.size
    have HN:Hid (M.whyExec ll t.l1 t.l2 kn=none):=by show _=_;rw [HX.out,hno.out]
    have hKs:(((W'.setCell ⟨w.heap.size+3,0,none⟩ (.slice none 0 0)).setCell ⟨w.heap.size+3,1,none⟩ (.slice none 0 0)).setCell ⟨w.heap.size+4,0,none⟩ (.bool false)).heap[W4.heap.size]?=some (.deferred (some [])):=by
     rw [Below.heap_setCell _ _ _ _ (by show W4.heap.size≠w.heap.size+4;omega),Below.heap_setCell _ _ _ _ (by show W4.heap.size≠w.heap.size+3;omega),Below.heap_setCell _ _ _ _ (by show W4.heap.size≠w.heap.size+3;omega)];exact hK
    have bF:Below w.heap.size w ((((W'.setCell ⟨w.heap.size+3,0,none⟩ (.slice none 0 0)).setCell ⟨w.heap.size+3,1,none⟩ (.slice none 0 0)).setCell ⟨w.heap.size+4,0,none⟩ (.bool false)).putObj W4.heap.size (.deferred none)):=by
     refine ⟨hf.os.trans bw4.os,hf.tape.trans bw4.tape,hf.output.trans bw4.output,by have:=hf.size;simp;omega,fun k hk=>?_⟩
     rw [World.putObj_heap_other (by omega),Below.heap_setCell _ _ _ _ (by show k≠w.heap.size+4;omega),Below.heap_setCell _ _ _ _ (by show k≠w.heap.size+3;omega),Below.heap_setCell _ _ _ _ (by show k≠w.heap.size+3;omega),hf.same k (by omega) (by omega)]
     exact bw4.block k hk
    have E0:((((W'.setCell ⟨w.heap.size+3,0,none⟩ (.slice none 0 0)).setCell ⟨w.heap.size+3,1,none⟩ (.slice none 0 0)).setCell ⟨w.heap.size+4,0,none⟩ (.bool false)).putObj W4.heap.size (.deferred none)).heap[w.heap.size+3]?=some (.cells #[.slice none 0 0,.slice none 0 0] 29 (0,0)):=by
     rw [World.putObj_heap_other (by omega),Below.heap_setCell _ _ _ _ (by show w.heap.size+3≠w.heap.size+4;omega)]
     exact (heap_setCell_same _ _ 1 _ _ _ (heap_setCell_same W' _ 0 _ _ _ hr)).trans rfl
    have E1:((((W'.setCell ⟨w.heap.size+3,0,none⟩ (.slice none 0 0)).setCell ⟨w.heap.size+3,1,none⟩ (.slice none 0 0)).setCell ⟨w.heap.size+4,0,none⟩ (.bool false)).putObj W4.heap.size (.deferred none)).heap[w.heap.size+4]?=some (.cells #[.bool false] 4 (0,0)):=by
     rw [World.putObj_heap_other (by omega)]
     refine (heap_setCell_same _ _ 0 #[.bool false] _ (.bool false) ?_).trans rfl
     rw [Below.heap_setCell _ _ _ _ (by show w.heap.size+4≠w.heap.size+3;omega),Below.heap_setCell _ _ _ _ (by show w.heap.size+4≠w.heap.size+3;omega)];exact ht'
    clear hseq HX hno hf hfr hC hc eg hgD
    gi_wp2_with fail
    refine ⟨by simp,.inl ⟨_,_,rfl,run_takeDeferred hKs,?_⟩⟩
    exact ⟨_,wy_results rfl _ _ (w.heap.size+3) (w.heap.size+4) (.slice none 0 0) (.slice none 0 0) false rfl rfl ((cellsOf E0 0).trans rfl) ((cellsOf E0 1).trans rfl) ((cellsOf E1 0).trans rfl),_,rfl,fun _=>rfl,fun x hx'=>by rw [HN.out] at hx';(cases hx'),bF⟩
   case stop =>
    rintro c pre C' W' hp hf hC ⟨rfl,⟨x,fv,ov,cs,hfd,hCx,hr,ht',hxw⟩,hfr⟩ hK
    have hlt4:W4.heap.size < W'.heap.size:=(Array.getElem?_eq_some_iff.1 hK).1
    have sw4:=bw4.size
    have HY:Hid (M.whyExec ll t.l1 t.l2 kn=some x):=by show _=_;rw [HX.out];exact M.find_pre hp hfd
    have E0:=(World.putObj_heap_other (w:=W') (o:=.deferred none) (show w.heap.size+3≠W4.heap.size by omega)).trans hr
    have E1:=(World.putObj_heap_other (w:=W') (o:=.deferred none) (show w.heap.size+4≠W4.heap.size by omega)).trans ht'
    have hblk:∀ k,Blks fv ov cs k→k≠W4.heap.size:=fun k hk e=>by
     have h1:=hC k ((hCx k).2 (Or.inr (Or.inr hk)))
     omega
    have hxF:Xw (W'.putObj W4.heap.size (.deferred none)) w.heap.size fv ov x.1 cs x.2:=(hxw.fr (O:=fun k=>k≠W4.heap.size) ((Fr.refl _ W').putObj _ (fun h=>h rfl)) hblk).mono (by omega)
    have bF:Below w.heap.size w (W'.putObj W4.heap.size (.deferred none)):=by
     refine ⟨hf.os.trans bw4.os,hf.tape.trans bw4.tape,hf.output.trans bw4.output,by have:=hf.size;simp;omega,fun k hk=>?_⟩
     rw [World.putObj_heap_other (by omega),hf.same k (by omega) (by omega)]
     exact bw4.block k hk
    clear hseq HX hf hfr hC hCx eg hgD hfd hxw hblk
    gi_wp2_with fail
    refine ⟨by simp,.inl ⟨_,_,rfl,run_takeDeferred hK,?_⟩⟩
    exact ⟨_,wy_results rfl _ _ (w.heap.size+3) (w.heap.size+4) fv ov true rfl rfl ((cellsOf E0 0).trans rfl) ((cellsOf E0 1).trans rfl) ((cellsOf E1 0).trans rfl),_,rfl,fun hx'=>by rw [HY.out] at hx';(cases hx'),fun y hy=>by rw [HY.out] at hy;obtain rfl:=Option.some.inj hy;exact ⟨fv,ov,cs,rfl,hxF⟩,bF⟩
   case round =>
    rintro l1 pre C1 x vs O W5 hb ⟨r1,hr1⟩ hCl hOl hpx ⟨hC,hRb,hTb,HNO,hfr⟩ hVx hO
    obtain ⟨⟨fv,ov,cs,rfl,hxw,hOb⟩,hqx⟩:=hVx
    have hmem:x∈M.ways (M.deeds ll):=by obtain ⟨t,ht⟩:=hpx;rw [← ht];simp
    have hok:M.execOk ll x.1 x.2=true:=M.ways_ok hpg hmem
    have hW:=M.wok_of hok
    have hY:=M.way_of hok
    have hOge:∀ k,Blks fv ov cs k→W4.heap.size≤k∧k < W5.heap.size:=fun k hk=>by
     have h1:=hO k ((hOb k).2 hk)
     have h2:=(hxw.blk_lt hk).2
     refine ⟨?_,h2⟩
     rcases Nat.lt_or_ge k W4.heap.size with h | h
     ·exfalso
      refine h1.2 ⟨h,fun e=>h1.1 ((hC k).2 (Or.inl e)),fun e=>h1.1 ((hC k).2 (Or.inr e))⟩
     ·exact h
    obtain ⟨a1,c1,rfl⟩:=own_slx hxw.from_
    obtain ⟨a2,c2,rfl⟩:=own_slx hxw.ord
    have hl1:l1 < W5.heap.size:=(Array.getElem?_eq_some_iff.1 hr1).1
    have hW45:=hfr.size
    gi_wp2
    refine ⟨.of_below ((Below.refl _ W5).alloc (Nat.le_refl _) _),fun Wb hfb=>?_⟩
    intro rb0 hrb
    have hW5b:Fr (fun k=>k≠l1) W5 Wb:=(Fr.of_below ((Below.refl _ W5).alloc (Nat.le_refl _) _)).trans hfb
    have cx0:Wb.cell? ⟨W5.heap.size,0,none⟩=some (.slice a1 x.1.length c1):=hfb.cell (by show W5.heap.size≠l1;omega) (by simp)
    have cx1:Wb.cell? ⟨W5.heap.size,1,none⟩=some (.slice a2 x.2.length c2):=hfb.cell (by show W5.heap.size≠l1;omega) (by simp)
    have hRl:w.heap.size+3≠l1:=fun e=>hCl ((hC l1).2 (Or.inl e.symm))
    have hTl:w.heap.size+4≠l1:=fun e=>hCl ((hC l1).2 (Or.inr e.symm))
    have hRb':=hW5b.heap hRl hRb
    have hTb':=hW5b.heap hTl hTb
    have hfb4:Fr (fun k=>k < W4.heap.size∧k≠w.heap.size+3∧k≠w.heap.size+4) W4 Wb:=hfr.trans (hW5b.mono fun k _ hk=>by omega)
    have cA:=hfb4.cell (p:=⟨Ab,0,none⟩) ltA qA4
    have cK:=(cellsOf (hfb4.heap (show w.heap.size+2 < W4.heap.size∧w.heap.size+2≠w.heap.size+3∧w.heap.size+2≠w.heap.size+4 by omega) hK4) 0).trans (show _=some (Value.int .i64 kn) from rfl)
    have hSb:=hfb4.heap (show w.heap.size+1 < W4.heap.size∧w.heap.size+1≠w.heap.size+3∧w.heap.size+1≠w.heap.size+4 by omega) hS4
    have cS0:=(cellsOf hSb 0).trans (show _=some (Value.slice t.a1 t.l1.length t.c1) from rfl)
    have cS1:=(cellsOf hSb 1).trans (show _=some (Value.slice t.a2 t.l2.length t.c2) from rfl)
    have htb:t.At Wb:=hta4.fr hfb4 (fun k hk=>by have:=htl k hk;exact ⟨by omega,by omega,by omega⟩)
    have hdb:=DeS.fr hde4 hfb4 hgD
    have hxb:=hxw.fr hW5b (fun k hk e=>hOl (e▸(hOb k).2 hk))
    obtain ⟨a1',fb,c1',a2',rb,c2',e1,e2,hF,hR⟩:=hxb.reads
    simp only [Value.slice.injEq] at e1 e2
    obtain ⟨rfl,_,rfl⟩:=e1
    obtain ⟨rfl,_,rfl⟩:=e2
    have s5b:=hW5b.size
    have sb:W5.heap.size < Wb.heap.size:=World.block_lt_of_cell? _ _ cx0
    have hrl:∀ r∈x.2,r.length≤1048576:=fun r hr=>by have:=hqx.row_le r hr;omega
    have HOH:Hid (M.orderHolds ll x.1 x.2 kn=(M.holdsA (M.netOf (M.deeds ll) x.1 x.2 0) (M.deeds ll).length&&M.waitsA (M.deeds ll).length (M.netOf (M.deeds ll) x.1 x.2 kn) (M.choices (M.deeds ll)))):=by
     show _=_
     unfold M.orderHolds
     rw [hok]
     have e1:decide ((1:Int)≤(kn:Int))=true:=by simpa using (by omega:(1:Int)≤kn)
     have e2:decide ((kn:Int)≤3)=true:=by simpa using (by omega:(kn:Int)≤3)
     rw [e1,e2]
     simp
    have C7:=fun (W:World) (hb:Below Wb.heap.size Wb W)=>wayHolds_any kn hk13.1 hk13.2 va g cc ll hpg a1 fb 0 c1 x.1 a2 rb 0 c2 x.2 W ⟨hdb.bel hb (Nat.le_refl _),hF.below hb (Nat.le_refl _),hR.below hb (Nat.le_refl _),M.deeds28 hpg,hW.len,hW.three,hrl,hW.run,hW.pl⟩
    rw [← HOH.out] at C7
    have CS:=fun (W:World) (hb:Below Wb.heap.size Wb W)=>iseen_any va g cc (M.deeds ll) a1 fb 0 c1 x.1 a2 rb 0 c2 x.2 W hY.len hY.inn hY.zero hY.fin (by omega) hY.three hrl hY.mem (hdb.bel hb (Nat.le_refl _)) (hF.below hb (Nat.le_refl _)) (hR.below hb (Nat.le_refl _))
    have hsl1:(M.seenR (M.deeds ll) x.1).length≤1048576:=by have:=M.seenR_len (M.deeds ll) x.1;omega
    have hsl2:(M.seenL (M.deeds ll) x.1 x.2).length≤1048576:=by rw [M.seenL,List.length_map,hY.three.out];omega
    have HSC:∀ W:World,Below Wb.heap.size Wb W→W.cell? ⟨Ab,0,none⟩=some (.slice va (M.deeds ll).length cc)∧W.cell? ⟨W5.heap.size,0,none⟩=some (.slice a1 x.1.length c1)∧W.cell? ⟨W5.heap.size,1,none⟩=some (.slice a2 x.2.length c2)∧W.cell? ⟨w.heap.size+1,0,none⟩=some (.slice t.a1 t.l1.length t.c1)∧W.cell? ⟨w.heap.size+1,1,none⟩=some (.slice t.a2 t.l2.length t.c2)∧W.cell? ⟨w.heap.size+2,0,none⟩=some (.int .i64 kn):=fun W hb =>
     ⟨(hb.cell (p:=⟨Ab,0,none⟩) (World.block_lt_of_cell? _ _ cA)).trans cA,(hb.cell (p:=⟨W5.heap.size,0,none⟩) sb).trans cx0,(hb.cell (p:=⟨W5.heap.size,1,none⟩) sb).trans cx1,(hb.cell (p:=⟨w.heap.size+1,0,none⟩) (World.block_lt_of_cell? _ _ cS0)).trans cS0,(hb.cell (p:=⟨w.heap.size+1,1,none⟩) (World.block_lt_of_cell? _ _ cS1)).trans cS1,(hb.cell (p:=⟨w.heap.size+2,0,none⟩) (World.block_lt_of_cell? _ _ cK)).trans cK⟩
    have FIN0:∀ W:World,Below Wb.heap.size Wb W→M.whyGood ll t.l1 t.l2 kn x=false→RvBody (WhI (M.whyGood ll t.l1 t.l2 kn) (w.heap.size+3) (w.heap.size+4) W4) (pre++[x]) C1 O W5 Wb W:=fun W b hg =>
     ⟨.of_below b,C1,fun k hk=>Or.inl hk,hC,(b.block _ (by omega)).trans hRb',(b.block _ (by omega)).trans hTb',(M.find_no HNO.out hg:List.find? _ _=_),hfb4.trans (.of_below b)⟩
    have FINX:∀ W:World,Below Wb.heap.size Wb W→M.whyGood ll t.l1 t.l2 kn x=true→(∀ i,W.frozen? ⟨w.heap.size+3,i,none⟩=false)∧(∀ i,W.frozen? ⟨w.heap.size+4,i,none⟩=false)∧W.cell? ⟨w.heap.size+3,0,none⟩=some (.slice none 0 0)∧W.cell? ⟨w.heap.size+3,1,none⟩=some (.slice none 0 0)∧W.cell? ⟨w.heap.size+4,0,none⟩=some (.bool false) ∧
      RvBody (WhX (M.whyGood ll t.l1 t.l2 kn) (w.heap.size+3) (w.heap.size+4) W4 .ret) (pre++[x]) C1 O W5 Wb (((W.setCell ⟨w.heap.size+3,0,none⟩ (.slice a1 x.1.length c1)).setCell ⟨w.heap.size+3,1,none⟩ (.slice a2 x.2.length c2)).setCell ⟨w.heap.size+4,0,none⟩ (.bool true)):=fun W b hg=>by
     have hr:=(b.block _ (by omega)).trans hRb'
     have ht':=(b.block _ (by omega)).trans hTb'
     obtain ⟨y1,y2,y3⟩:=wy_stored W (w.heap.size+3) (w.heap.size+4) (by omega) (.slice a1 x.1.length c1) (.slice a2 x.2.length c2) hr ht'
     have hxW:=(hxb.below b).base (B':=W4.heap.size) (fun k hk=>(hOge k hk).1)
     have hxZ:=hxW.fr (y3 (fun k=>k≠w.heap.size+3∧k≠w.heap.size+4) (fun h=>h.1 rfl) (fun h=>h.2 rfl)) (fun k hk=>by have:=(hOge k hk).1;exact ⟨by omega,by omega⟩)
     refine ⟨frozOf hr,frozOf ht',(cellsOf hr 0).trans rfl,(cellsOf hr 1).trans rfl,(cellsOf ht' 0).trans rfl,(Fr.of_below b).trans (y3 _ (fun h=>h.1 ((hC _).2 (Or.inl rfl))) (fun h=>h.1 ((hC _).2 (Or.inr rfl)))),fun k=>k=w.heap.size+3∨k=w.heap.size+4∨Blks (.slice a1 x.1.length c1) (.slice a2 x.2.length c2) cs k,fun k hk=>?_,rfl,⟨x,_,_,cs,M.find_yes HNO.out hg,fun k=>Iff.rfl,y1,y2,hxZ⟩,(hfb4.trans (.of_below b)).trans (y3 _ (fun h=>h.2.1 rfl) (fun h=>h.2.2 rfl))⟩
     rcases hk with hk | hk | hk
     ·exact Or.inl ((hC k).2 (Or.inl hk))
     ·exact Or.inl ((hC k).2 (Or.inr hk))
     ·exact Or.inr (Or.inl ((hOb k).2 hk))
    clear HOH hseq HX hO
    gi_wp2_with fail
    refine wpIn_region_round' (S:=fun W=>W.cell? ⟨Ab,0,none⟩=some (.slice va (M.deeds ll).length cc)∧W.cell? ⟨W5.heap.size,0,none⟩=some (.slice a1 x.1.length c1)∧W.cell? ⟨W5.heap.size,1,none⟩=some (.slice a2 x.2.length c2)∧W.cell? ⟨w.heap.size+1,0,none⟩=some (.slice t.a1 t.l1.length t.c1)∧W.cell? ⟨w.heap.size+1,1,none⟩=some (.slice t.a2 t.l2.length t.c2)∧W.cell? ⟨w.heap.size+2,0,none⟩=some (.int .i64 kn)) (by kernel_rfl) (by rintro ⟨_,_,h⟩;exact h) (by kernel_rfl) (HSC _ (Below.refl _ _).drew) (fun hH=>?_)
    have bn:Below Wb.heap.size Wb Wb.drew:=(Below.refl _ _).drew
    generalize Wb.drew=Wd at *
    refine tk 0 25 (.slice va (M.deeds ll).length cc) hH rfl rfl (by intro w' hSw;obtain ⟨u0,u1,u2,u3,u4,u5⟩:=hSw;go_simp) ?_
    simp only [Act.put,zqa,zqb,zqc]
    refine tk 1 26 (.agg #[.slice a1 x.1.length c1,.slice a2 x.2.length c2]) hH rfl rfl (by intro w' hSw;obtain ⟨u0,u1,u2,u3,u4,u5⟩:=hSw;go_simp) ?_
    simp only [Act.put,zqa,zqb,zqc]
    refine tk 3 28 (.agg #[.slice t.a1 t.l1.length t.c1,.slice t.a2 t.l2.length t.c2]) hH rfl rfl (by intro w' hSw;obtain ⟨u0,u1,u2,u3,u4,u5⟩:=hSw;go_simp) ?_
    simp only [Act.put,zqa,zqb,zqc]
    refine ry 2 rfl (fun K' hK=>?_)
    refine sg 27 rfl 57 #[.tmp 25,.tmp 26] rfl #[.slice va (M.deeds ll).length cc,.agg #[.slice a1 x.1.length c1,.slice a2 x.2.length c2]] (enters_of Tryz.func57 (by kernel_rfl) rfl) (CS Wd bn) ?_
    rintro e W7 ⟨s,rfl,hs1,hs2,hNS,bN⟩
    have HS1:Hid (s.l1=_):=hs1
    have HS2:Hid (s.l2=_):=hs2
    clear hs1 hs2
    refine ⟨_,rfl,?_⟩
    simp only [Act.put,zqa,zqb,zqc]
    have bm:=bn.trans (bN.mono bn.size)
    refine hK.out _ _ (HSC W7 bm) (fun hH7=>?_)
    clear hK K'
    have hsA:=hNS.at_
    have hsL:s.Le 1048576:=⟨by rw [HS1.out];exact hsl1,by rw [HS2.out];exact hsl2⟩
    have CC:=compareSeen_any s t W7 hsL ht hsA (htb.below bm (Nat.le_refl _))
    rw [HS1.out,HS2.out] at CC
    clear bN hNS
    refine ry 4 rfl (fun K' hK=>?_)
    refine sg 29 rfl 56 #[.tmp 27,.tmp 28] rfl #[.agg #[.slice s.a1 s.l1.length s.c1,.slice s.a2 s.l2.length s.c2],.agg #[.slice t.a1 t.l1.length t.c1,.slice t.a2 t.l2.length t.c2]] (enters_of Tryz.func56 (by kernel_rfl) rfl) (by rw [HS1.out,HS2.out];exact CC) ?_
    rintro e W8 ⟨rfl,hg8⟩
    refine ⟨_,rfl,?_⟩
    simp only [Act.put,zqa,zqb,zqc]
    have b8:=bm.trans (hg8.bel.mono bm.size)
    refine hK.out _ _ (HSC W8 b8) (fun hH8=>?_)
    clear hK K' hH7 CC hg8 bm bn hsA hsL HS1 HS2
    obtain ⟨z,hz⟩:∃ z,M.cmpS (M.seenR (M.deeds ll) x.1) (M.seenL (M.deeds ll) x.1 x.2) t.l1 t.l2=z:=⟨_,rfl⟩
    have HZ:Hid (M.cmpS (M.seenR (M.deeds ll) x.1) (M.seenL (M.deeds ll) x.1 x.2) t.l1 t.l2=z):=hz
    rw [hz]
    clear hz
    by_cases h0:z=0
    ·subst h0
     refine tk 5 30 (.bool true) hH8 rfl rfl (by intro w' hSw;obtain ⟨u0,u1,u2,u3,u4,u5⟩:=hSw;go_simp) ?_
     simp only [Act.put,zqa,zqb,zqc]
     refine tk 6 31 (.bool true) hH8 rfl rfl (by intro w' hSw;obtain ⟨u0,u1,u2,u3,u4,u5⟩:=hSw;go_simp) ?_
     simp only [Act.put,zqa,zqb,zqc]
     refine tk 7 32 (.slice va (M.deeds ll).length cc) hH8 rfl rfl (by intro w' hSw;obtain ⟨u0,u1,u2,u3,u4,u5⟩:=hSw;go_simp) ?_
     simp only [Act.put,zqa,zqb,zqc]
     refine tk 8 33 (.agg #[.slice a1 x.1.length c1,.slice a2 x.2.length c2]) hH8 rfl rfl (by intro w' hSw;obtain ⟨u0,u1,u2,u3,u4,u5⟩:=hSw;go_simp) ?_
     simp only [Act.put,zqa,zqb,zqc]
     refine tk 9 34 (.agg #[.slice va (M.deeds ll).length cc,.slice a1 x.1.length c1,.slice a2 x.2.length c2]) hH8 rfl rfl (by intro w' hSw;obtain ⟨u0,u1,u2,u3,u4,u5⟩:=hSw;go_simp) ?_
     simp only [Act.put,zqa,zqb,zqc]
     refine tk 10 35 (.int .i64 kn) hH8 rfl rfl (by intro w' hSw;obtain ⟨u0,u1,u2,u3,u4,u5⟩:=hSw;go_simp) ?_
     simp only [Act.put,zqa,zqb,zqc]
     refine ry 11 rfl (fun K' hK=>?_)
     refine sg 36 rfl 48 #[.tmp 34,.tmp 35] rfl #[.agg #[.slice va (M.deeds ll).length cc,.slice a1 x.1.length c1,.slice a2 x.2.length c2],.int .i64 kn] (enters_of Tryz.func48 (by kernel_rfl) rfl) (C7 W8 b8) ?_
     rintro e W9 ⟨rfl,b9⟩
     refine ⟨_,rfl,?_⟩
     simp only [Act.put,zqa,zqb,zqc]
     have bt:=b8.trans (b9.mono b8.size)
     refine hK.out _ _ (HSC W9 bt) (fun hH9=>?_)
     clear hK K' hH8 b8 b9
     have HW:Hid (M.whyGood ll t.l1 t.l2 kn x=M.orderHolds ll x.1 x.2 kn):=by show _=_;unfold M.whyGood;rw [HZ.out];rfl
     obtain ⟨r,hr⟩:∃ r,M.orderHolds ll x.1 x.2 kn=r:=⟨_,rfl⟩
     rw [hr] at HW ⊢
     clear hr
     refine tk 12 37 (.bool r) hH9 rfl rfl (by intro w' hSw;obtain ⟨u0,u1,u2,u3,u4,u5⟩:=hSw;go_simp) ?_
     simp only [Act.put,zqa,zqb,zqc]
     refine wpAnyH_done (by kernel_rfl) ?_ _
     obtain ⟨u0,u1,u2,u3,u4,u5⟩:=hH9
     cases r
     ·have FIN:=FIN0 W9 bt HW.out
      clear HZ u3 u4 u5
      gi_wp2_with fail
      exact FIN
     ·obtain ⟨fz,ft,r0,r1,t0,FIN⟩:=FINX W9 bt HW.out
      clear HZ u3 u4 u5
      gi_wp2_with fail
      exact FIN
    ·have HW:M.whyGood ll t.l1 t.l2 kn x=false:=by unfold M.whyGood;rw [HZ.out];simp [h0]
     have FIN:=FIN0 W8 b8 HW
     clear HW HZ
     refine tk 5 30 (.bool false) hH8 rfl rfl (by intro w' hSw;clear hSw;(first | (go_simp;done) | (go_simp;simp [h0]) | simp [go_sem,h0])) ?_
     simp only [Act.put,zqa,zqb,zqc]
     refine tk 6 31 (.bool false) hH8 rfl rfl (by intro w' hSw;obtain ⟨u0,u1,u2,u3,u4,u5⟩:=hSw;go_simp) ?_
     simp only [Act.put,zqa,zqb,zqc]
     refine tz 7 32 hH8 rfl rfl ?_
     simp only [Act.put,zqa,zqb,zqc]
     refine tz 8 33 hH8 rfl rfl ?_
     simp only [Act.put,zqa,zqb,zqc]
     refine tz 9 34 hH8 rfl rfl ?_
     simp only [Act.put,zqa,zqb,zqc]
     refine tz 10 35 hH8 rfl rfl ?_
     simp only [Act.put,zqa,zqb,zqc]
     refine tz 11 36 hH8 rfl rfl ?_
     simp only [Act.put,zqa,zqb,zqc]
     refine tk 12 37 (.bool false) hH8 rfl rfl (by intro w' hSw;obtain ⟨u0,u1,u2,u3,u4,u5⟩:=hSw;go_simp) ?_
     simp only [Act.put,zqa,zqb,zqc]
     refine wpAnyH_done (by kernel_rfl) ?_ _
     clear hH8
     gi_wp2_with fail
     exact FIN
end
section
open Go.RowKit
namespace M
theorem idx_at {l:List Int} {v:Int} {n:Nat} (hn:n < l.length) (h:l[n]=v) (hb:∀ i (_:i < n) (hi:i < l.length),l[i]≠v):idx l v=n:=by
 have:l.findIdx? (·==v)=some n:=by
  rw [List.findIdx?_eq_some_iff_getElem]
  exact ⟨hn,by simpa using h,fun j hj=>by simpa using hb j hj (by omega)⟩
 simp [idx,this]
theorem idx_not {l:List Int} {v:Int} (h:∀ i (_:i < l.length),l[i]≠v):idx l v=-1:=by
 have:l.findIdx? (·==v)=none:=by
  rw [List.findIdx?_eq_none_iff]
  intro x hx
  obtain ⟨i,hi,rfl⟩:=List.getElem_of_mem hx
  simpa using h i hi
 simp [idx,this]
end M
set_option maxHeartbeats 400000 in
theorem l13Rank_any (a:Option Addr) (b o c:Nat) (l:List Int) (v:Int) (w:World) (hl:l.length≤1048576) (h:IntS w a b o l) :
  Calls Tryz.prog 79 #[.slice a l.length c,.int .i64 v] w fun e w'=>e=.returned (.int .i64 (M.idx l v))∧w'=w:=by
 go_enter Tryz.func79,Tryz.ntmps79
 go_wp2_with fail
 go_loopw [5] (fun s5 wr=>∃ n:Nat,s5=.int .i64 n∧n≤l.length∧Hid (∀ i (_:i < n) (h:i < l.length),l[i]≠v)∧wr=w) (fun s5 _=>l.length - (intOf s5).toNat)
 case atStart=>exact ⟨0,rfl,Nat.zero_le _,fun i hi=>absurd hi (Nat.not_lt_zero _),rfl⟩
 case round =>
  obtain ⟨n,rfl,hn,HA,rfl⟩:=hrel
  by_cases hlt:n < l.length
  ·obtain ⟨rfl⟩:=h.addr (by omega)
   have hx:=h.row n hlt
   obtain ⟨y,hy⟩:∃ y,l[n]=y:=⟨_,rfl⟩
   have HY:Hid (l[n]=y):=hy
   rw [hy] at hx
   clear hy
   have i1:(n:Int) < l.length:=by omega
   by_cases e:y=v
   ·subst e
    go_wp2_with fail
    go_ret
    exact ⟨by rw [M.idx_at hlt HY.out HA.out];rfl,rfl⟩
   ·have e':(y==v)=false:=by simpa using e
    go_wp2_with fail
    exact ⟨⟨n+1,by go_num,by omega,fun i hi hl=>by
     by_cases ei:i=n
     ·subst ei;rw [HY.out];exact e
     ·exact HA.out i (by omega) hl,trivial⟩,by simp [intOf];omega⟩
  ·go_wp2_with fail
   go_ret
   exact ⟨by rw [M.idx_not (fun i hi=>HA.out i (by omega) hi)];rfl,rfl⟩
theorem cellBut {O:Nat} {W W':World} {p:Addr} {v:Value} (hb:But O W W') (h:W.cell? p=some v) (hne:p.block≠O):W'.cell? p=some v:=(hb.cell (p:=p) (World.block_lt_of_cell? _ _ h) hne).trans h
theorem But.low {O:Nat} {w0 w w':World} (h:Below w0.heap.size w0 w) (k:But O w w') (hO:w0.heap.size≤O):Below w0.heap.size w0 w' :=
 ⟨k.os.trans h.os,k.tape.trans h.tape,k.output.trans h.output,Nat.le_trans h.size k.size,fun i hi=>(k.block i (Nat.lt_of_lt_of_le hi h.size) (by omega)).trans (h.block i hi)⟩
structure Wk (w wr:World) (O:Nat) (p l v1 v2 fr od:Value) (n:Nat) (f:Nat→Int):Prop where
 but:But O w wr
 blk:wr.heap[O]?=some (.cells #[p,l,v1,v2,fr,.slice (some ⟨w.heap.size+1,0,none⟩) n n] 131 (0,0))
 x0:wr.cell? ⟨w.heap.size,0,none⟩=some fr
 x1:wr.cell? ⟨w.heap.size,1,none⟩=some od
 row:wr.rowIs (w.heap.size+1) 3 n (fun i=>.int .i64 (f i))
theorem Wk.lt {w wr:World} {O:Nat} {p l v1 v2 fr od:Value} {n:Nat} {f:Nat→Int} (h:Wk w wr O p l v1 v2 fr od n f):w.heap.size+1 < wr.heap.size:=h.row.lt
theorem Wk.below {w wr w1:World} {O:Nat} {p l v1 v2 fr od:Value} {n:Nat} {f:Nat→Int} (h:Wk w wr O p l v1 v2 fr od n f) (hO:O < w.heap.size) (hb:Below wr.heap.size wr w1):Wk w w1 O p l v1 v2 fr od n f:=by
 have hl:=h.lt
 exact ⟨h.but.trans (But.of hb),(hb.block _ (by omega)).trans h.blk,cellC hb h.x0,cellC hb h.x1,h.row.of_block (hb.block _ hl)⟩
theorem Wk.store {w wr:World} {O:Nat} {p l v1 v2 fr od:Value} {n:Nat} {f:Nat→Int} (h:Wk w wr O p l v1 v2 fr od n f) (hO:O < w.heap.size) (i:Nat) (x:Int):Wk w (wr.setCell ⟨w.heap.size+1,i,none⟩ (.int .i64 x)) O p l v1 v2 fr od n (fun j=>if j=i then x else f j):=by
 refine ⟨h.but.setCell (Or.inl (by show w.heap.size≤w.heap.size+1;omega)) _,(Below.heap_setCell _ _ _ _ (by show O≠w.heap.size+1;omega)).trans h.blk,?_,?_,(h.row.set i (.int .i64 x)).congr (fun j _=>?_)⟩
 ·rw [World.cell?_setCell_other _ _ _ _ (fun e=>by have:=congrArg Addr.block e;simp at this)];exact h.x0
 ·rw [World.cell?_setCell_other _ _ _ _ (fun e=>by have:=congrArg Addr.block e;simp at this)];exact h.x1
 ·by_cases e:j=i<;>simp [e]
theorem Wk.c {w wr:World} {O:Nat} {p l v1 v2 fr od:Value} {n:Nat} {f:Nat→Int} (h:Wk w wr O p l v1 v2 fr od n f):wr.cell? ⟨O,0,none⟩=some p∧wr.cell? ⟨O,1,none⟩=some l∧wr.cell? ⟨O,2,none⟩=some v1∧wr.cell? ⟨O,3,none⟩=some v2∧wr.cell? ⟨O,4,none⟩=some fr∧wr.cell? ⟨O,5,none⟩=some (.slice (some ⟨w.heap.size+1,0,none⟩) n n):=by
 refine ⟨?_,?_,?_,?_,?_,?_⟩
 all_goals simp [World.cell?,h.blk]
theorem DvS.but {w w':World} {O:Nat} {va:Option Addr} {g:Nat} {l:List M.De} (h:DvS w va g l) (hb:But O w w') (hne:g≠O):DvS w' va g l :=
 ⟨h.addr,fun i hi j hj=>by
  have h1:=h.row i hi j hj
  match j,hj with
  | 0,_=>exact cellBut hb h1 hne
  | 1,_=>exact cellBut hb h1 hne
  | 2,_=>exact cellBut hb h1 hne⟩
set_option maxHeartbeats 2000000 in
set_option maxRecDepth 100000 in
theorem wayG_any {f4 f5:Value} (t:Lp) (u:Lq) (w0 w:World) (od:Nat) (hk:t.Ok) (hpl:∀ x∈M.deeds t.ll,x.uses=true→0≤x.d.p∧x.d.p < 3) (hpos:0 < (M.deeds t.ll).length) (HL:Hid (u.l.length=(M.deeds t.ll).length)) (H3:Hid (u.rows.length=3)) (hrl:∀ r∈u.rows,r.length≤1048576) (rb ro:Nat)
  (h0:Below w0.heap.size w0 w) (hO:w0.heap.size≤t.O) (hOl:t.O < w.heap.size) (ss:DoSS w0 t.a t.b t.o t.ll) (hf:IntS w0 (some ⟨u.fb,u.fo,none⟩) u.fb u.fo u.l) (hr:IntSS w0 (some ⟨rb,ro,none⟩) rb ro u.rows)
  (blk:w.heap[t.O]?=some (.cells #[.slice t.a t.ll.length t.c,.slice (some ⟨t.g,0,none⟩) (M.deeds t.ll).length t.cc,.slice (some ⟨u.rb,0,none⟩) (M.deeds t.ll).length u.rc,.slice (some ⟨u.wb,0,none⟩) (M.deeds t.ll).length u.wc,f4,f5] 131 (0,0)))
  (dv:DvS w (some ⟨t.g,0,none⟩) t.g (M.deeds t.ll)) (rd:∀ n x,(M.deeds t.ll)[n]?=some x→w.cell? ⟨u.rb,n,none⟩=some (.bool (M.reads x.d.k))) (wrt:∀ n x,(M.deeds t.ll)[n]?=some x→w.cell? ⟨u.wb,n,none⟩=some (.bool (M.writes x.d.k))) (hkb:u.kb=w.heap.size+1) (hkc:u.kc=(M.deeds t.ll).length) :
  Calls Tryz.prog 34 #[.pointer (some ⟨t.O,0,none⟩),.agg #[.slice (some ⟨u.fb,u.fo,none⟩) u.l.length u.fc,.slice (some ⟨rb,ro,none⟩) u.rows.length od]] w fun e w'=>e=.returned (.tuple #[])∧u.At t w'∧But t.O w w'∧∃ f4' f5',w'.heap[t.O]?=some (.cells #[.slice t.a t.ll.length t.c,.slice (some ⟨t.g,0,none⟩) (M.deeds t.ll).length t.cc,.slice (some ⟨u.rb,0,none⟩) (M.deeds t.ll).length u.rc,.slice (some ⟨u.wb,0,none⟩) (M.deeds t.ll).length u.wc,f4',f5'] 131 (0,0)):=by
 have hdl:=hk.dl
 have fl:=Tryz.fld1
 have hmk:=run_make_row' (P:=Tryz.prog) 26 3 (.int .i64 0) 8 Tryz.underlying26 Tryz.infoInt rfl .i64 .i64 (M.deeds t.ll).length (by omega) (by omega)
 have b1:w.cell? ⟨t.O,1,none⟩=some (.slice (some ⟨t.g,0,none⟩) (M.deeds t.ll).length t.cc):=by simp [World.cell?,blk]
 have b4:w.cell? ⟨t.O,4,none⟩=some f4:=by simp [World.cell?,blk]
 have b5:w.cell? ⟨t.O,5,none⟩=some f5:=by simp [World.cell?,blk]
 have bf:∀ i,w.frozen? ⟨t.O,i,none⟩=false:=fun i=>by simp [World.frozen?,blk]
 go_enter Tryz.func34,Tryz.ntmps34
 go_wp2_with fail
 have k0:Wk w ((((w.setCell ⟨t.O,4,none⟩ (.slice (some ⟨u.fb,u.fo,none⟩) u.l.length u.fc)).setCell ⟨t.O,5,none⟩ (.slice (some ⟨w.heap.size+1,0,none⟩) (M.deeds t.ll).length (M.deeds t.ll).length)).alloc (.cells #[.slice (some ⟨u.fb,u.fo,none⟩) u.l.length u.fc,.slice (some ⟨rb,ro,none⟩) u.rows.length od] 29)).alloc (.cells (madeCells #[.int .i64 0] (M.deeds t.ll).length) 3)) t.O (.slice t.a t.ll.length t.c) (.slice (some ⟨t.g,0,none⟩) (M.deeds t.ll).length t.cc) (.slice (some ⟨u.rb,0,none⟩) (M.deeds t.ll).length u.rc) (.slice (some ⟨u.wb,0,none⟩) (M.deeds t.ll).length u.wc) (.slice (some ⟨u.fb,u.fo,none⟩) u.l.length u.fc) (.slice (some ⟨rb,ro,none⟩) u.rows.length od) (M.deeds t.ll).length (fun _=>0):=by
  have e1:=heap_setCell_same w t.O 4 _ _ (.slice (some ⟨u.fb,u.fo,none⟩) u.l.length u.fc) blk
  have e2:=heap_setCell_same _ t.O 5 _ _ (.slice (some ⟨w.heap.size+1,0,none⟩) (M.deeds t.ll).length (M.deeds t.ll).length) e1
  refine ⟨(((((But.refl t.O w).setCell (Or.inr rfl) _).setCell (Or.inr rfl) _).alloc _).alloc _),?_,by simp [go_sem],by simp [go_sem],?_⟩
  ·rw [alloc_old _ _ _ (by simp;omega),alloc_old _ _ _ (by simp;omega)];exact e2
  ·have:=World.rowIs_made (((w.setCell ⟨t.O,4,none⟩ (.slice (some ⟨u.fb,u.fo,none⟩) u.l.length u.fc)).setCell ⟨t.O,5,none⟩ (.slice (some ⟨w.heap.size+1,0,none⟩) (M.deeds t.ll).length (M.deeds t.ll).length)).alloc (.cells #[.slice (some ⟨u.fb,u.fo,none⟩) u.l.length u.fc,.slice (some ⟨rb,ro,none⟩) u.rows.length od] 29)) (.int .i64 0) (M.deeds t.ll).length 3
   simpa using this
 generalize ((((w.setCell ⟨t.O,4,none⟩ (.slice (some ⟨u.fb,u.fo,none⟩) u.l.length u.fc)).setCell ⟨t.O,5,none⟩ (.slice (some ⟨w.heap.size+1,0,none⟩) (M.deeds t.ll).length (M.deeds t.ll).length)).alloc (.cells #[.slice (some ⟨u.fb,u.fo,none⟩) u.l.length u.fc,.slice (some ⟨rb,ro,none⟩) u.rows.length od] 29)).alloc (.cells (madeCells #[.int .i64 0] (M.deeds t.ll).length) 3))=W0 at k0 ⊢
 clear hmk b1 b4 b5 bf
 obtain ⟨x0,hx0⟩:∃ x,(M.deeds t.ll)[0]?=some x:=⟨_,List.getElem?_eq_getElem hpos⟩
 have b0:w.cell? ⟨t.O,0,none⟩=some (.slice t.a t.ll.length t.c):=by simp [World.cell?,blk]
 have hgO:t.g≠t.O:=fun e=>by
  have h1:=(dv.at hpos).c0
  rw [e,Nat.zero_mul,b0] at h1
  cases h1
 have hwO:u.wb≠t.O:=fun e=>by
  have h1:=wrt 0 x0 hx0
  rw [e,b0] at h1
  cases h1
 have hrO:u.rb≠t.O:=fun e=>by
  have h1:=rd 0 x0 hx0
  rw [e,b0] at h1
  cases h1
 have tAt:∀ W' f,Wk w W' t.O (.slice t.a t.ll.length t.c) (.slice (some ⟨t.g,0,none⟩) (M.deeds t.ll).length t.cc) (.slice (some ⟨u.rb,0,none⟩) (M.deeds t.ll).length u.rc) (.slice (some ⟨u.wb,0,none⟩) (M.deeds t.ll).length u.wc) (.slice (some ⟨u.fb,u.fo,none⟩) u.l.length u.fc) (.slice (some ⟨rb,ro,none⟩) u.rows.length od) (M.deeds t.ll).length f→t.At W':=fun W' f kk=>⟨kk.c.1,kk.c.2.1,ss.below (But.low h0 kk.but hO) (Nat.le_refl _),dv.but kk.but hgO⟩
 go_loopw [4] (fun s4 wq=>∃ (n:Nat) (f:Nat→Int),s4=.int .i64 n∧n≤(M.deeds t.ll).length∧Hid (∀ j x,(M.deeds t.ll)[j]?=some x→f j=if j < n then M.rankAt u.l u.rows j x else 0)∧Wk w wq t.O (.slice t.a t.ll.length t.c) (.slice (some ⟨t.g,0,none⟩) (M.deeds t.ll).length t.cc) (.slice (some ⟨u.rb,0,none⟩) (M.deeds t.ll).length u.rc) (.slice (some ⟨u.wb,0,none⟩) (M.deeds t.ll).length u.wc) (.slice (some ⟨u.fb,u.fo,none⟩) u.l.length u.fc) (.slice (some ⟨rb,ro,none⟩) u.rows.length od) (M.deeds t.ll).length f) (fun s4 _=>(M.deeds t.ll).length - (intOf s4).toNat)
 case atStart=>exact ⟨0,fun _=>0,rfl,Nat.zero_le _,(fun j x _=>by simp),k0⟩
 case round =>
  clear k0 b0 hx0
  obtain ⟨n,f,rfl,hn,HF,k⟩:=hrel
  have q1:=k.c.2.1
  have q2:=k.c.2.2.1
  have q3:=k.c.2.2.2.1
  by_cases hlt:n < (M.deeds t.ll).length
  ·obtain ⟨x,hx⟩:∃ x,(M.deeds t.ll)[n]?=some x:=⟨_,List.getElem?_eq_getElem hlt⟩
   have i1:(n:Int) < (M.deeds t.ll).length:=by omega
   have wx:=cellBut k.but (wrt n x hx) hwO
   have rx:=cellBut k.but (rd n x hx) hrO
   have FSTEP:∀ v,M.rankAt u.l u.rows n x=v→Hid (∀ j y,(M.deeds t.ll)[j]?=some y→(if j=n then v else f j)=if j < n+1 then M.rankAt u.l u.rows j y else 0):=fun v hv j y hy=>by
    by_cases e:j=n
    ·subst e
     rw [hx] at hy
     obtain rfl:=Option.some.inj hy
     rw [if_pos rfl,if_pos (by omega),hv]
    ·rw [if_neg e,HF.out j y hy]
     by_cases e2:j < n
     ·rw [if_pos e2,if_pos (by omega)]
     ·rw [if_neg e2,if_neg (by omega)]
   cases hw:M.writes x.d.k
   case true =>
    rw [hw] at wx
    obtain ⟨hp0,hp3⟩:=hpl x (List.mem_of_getElem? hx) (by simp [M.De.uses,M.uses,hw])
    obtain ⟨p,hp⟩:∃ p:Nat,x.d.p=p:=⟨x.d.p.toNat,by omega⟩
    have hpr:p < u.rows.length:=by have:=H3.out;omega
    obtain ⟨a',b',o',c',hc0,hrow0⟩:=hr.row p hpr
    have hc:=cellC h0 hc0
    have hrlp:=hrl _ (List.getElem_mem hpr)
    have HRW:Hid (u.rows.getD p []=u.rows[p]):=by show _=_;rw [List.getD_eq_getElem?_getD,List.getElem?_eq_getElem hpr];rfl
    have hrbO:rb≠t.O:=by
     have:rb < w0.heap.size:=World.block_lt_of_cell? _ _ hc0
     omega
    have hrowB:∀ W',But t.O w W'→IntS W' a' b' o' u.rows[p]:=fun W' hb=>hrow0.below (But.low h0 hb hO) (Nat.le_refl _)
    clear hrow0 hc0
    generalize u.rows[p]=row at *
    have HRK:Hid (M.rankAt u.l u.rows n x=M.idx row (n:Int)):=by show _=_;rw [M.rankAt,if_pos hw,hp,Int.toNat_natCast,HRW.out]
    have i4:(p:Int) < u.rows.length:=by omega
    have N1:w.heap.size+1≠t.O:=by omega
    have N2:w.heap.size+1≠w.heap.size:=by omega
    have N3:w.heap.size+1≠rb:=by have:rb < w.heap.size:=World.block_lt_of_cell? _ _ hc;omega
    have X1:=k.c.2.2.2.2.2
    have X2:=k.x1
    have X3:=cellBut k.but hc hrbO
    have hOwr:=k.lt
    have C:=do_any t n x _ hk (tAt _ _ (k.below hOl (Below.refl _ _).drew)) hx
    rw [hp] at C
    go_wp2_with fail
    go_region_held3 (fun w'=>w'.cell? ⟨t.O,5,none⟩=some (.slice (some ⟨w.heap.size+1,0,none⟩) (M.deeds t.ll).length (M.deeds t.ll).length)∧w'.cell? ⟨w.heap.size,1,none⟩=some (.slice (some ⟨rb,ro,none⟩) u.rows.length od)∧w'.cell? ⟨rb,ro+p,none⟩=some (.slice a' row.length c')) (go_keep) (first
     | (go_at_call 77;refine C.mono ?_;rintro e w1 ⟨rfl,hb1⟩;have k1:=k.below hOl ((Below.refl _ _).drew.trans hb1);have Y1:=k1.c.2.2.2.2.2;have Y2:=k1.x1;have Y3:=cellBut k1.but hc hrbO;have Z0:=k1.row.cell hlt;have Zf:=k1.row.frozen;have Zl:=k1.lt)
     | (go_at_call 79;refine (l13Rank_any a' b' o' c' row (n:Int) _ hrlp (hrowB _ k1.but)).mono ?_;rintro e w2x ⟨rfl,rfl⟩))
    have k2:=k1.store hOl n (M.idx row (n:Int))
    go_wp2_with fail
    exact ⟨⟨n+1,_,by go_num,by omega,FSTEP _ HRK.out,k2⟩,by simp [intOf];omega⟩
   rw [hw] at wx
   cases hrd:M.reads x.d.k
   case true =>
    rw [hrd] at rx
    obtain ⟨hp0,hp3⟩:=hpl x (List.mem_of_getElem? hx) (by simp [M.De.uses,M.uses,hrd])
    obtain ⟨p,hp⟩:∃ p:Nat,x.d.p=p:=⟨x.d.p.toNat,by omega⟩
    have hpr:p < u.rows.length:=by have:=H3.out;omega
    obtain ⟨a',b',o',c',hc0,hrow0⟩:=hr.row p hpr
    have hc:=cellC h0 hc0
    have hrlp:=hrl _ (List.getElem_mem hpr)
    have HRW:Hid (u.rows.getD p []=u.rows[p]):=by show _=_;rw [List.getD_eq_getElem?_getD,List.getElem?_eq_getElem hpr];rfl
    have hrbO:rb≠t.O:=by
     have:rb < w0.heap.size:=World.block_lt_of_cell? _ _ hc0
     omega
    have hrowB:∀ W',But t.O w W'→IntS W' a' b' o' u.rows[p]:=fun W' hb=>hrow0.below (But.low h0 hb hO) (Nat.le_refl _)
    clear hrow0 hc0
    generalize u.rows[p]=row at *
    have hnl:n < u.l.length:=by have:=HL.out;omega
    have HG:Hid (u.l.getD n 0=u.l[n]):=by show _=_;simp [hnl]
    have fn0:=(hf.below h0 (Nat.le_refl _)).row n hnl
    have hfO:u.fb≠t.O:=by have:=hf.lt (by omega);omega
    generalize u.l[n]=fv at *
    have i5:(n:Int) < u.l.length:=by omega
    have X4:=k.x0
    have X5:=cellBut k.but fn0 hfO
    have HRK:Hid (M.rankAt u.l u.rows n x=M.idx row fv):=by show _=_;rw [M.rankAt,if_neg (by rw [hw];simp),if_pos hrd,hp,Int.toNat_natCast,HRW.out,HG.out]
    have i4:(p:Int) < u.rows.length:=by omega
    have N1:w.heap.size+1≠t.O:=by omega
    have N2:w.heap.size+1≠w.heap.size:=by omega
    have N3:w.heap.size+1≠rb:=by have:rb < w.heap.size:=World.block_lt_of_cell? _ _ hc;omega
    have N4:w.heap.size+1≠u.fb:=by have:=hf.lt (by have:=HL.out;omega);have:=h0.size;omega
    have X1:=k.c.2.2.2.2.2
    have X2:=k.x1
    have X3:=cellBut k.but hc hrbO
    have hOwr:=k.lt
    have C:=do_any t n x _ hk (tAt _ _ (k.below hOl (Below.refl _ _).drew)) hx
    rw [hp] at C
    go_wp2_with fail
    go_region_held3 (fun w'=>w'.cell? ⟨t.O,5,none⟩=some (.slice (some ⟨w.heap.size+1,0,none⟩) (M.deeds t.ll).length (M.deeds t.ll).length)∧w'.cell? ⟨w.heap.size,1,none⟩=some (.slice (some ⟨rb,ro,none⟩) u.rows.length od)∧w'.cell? ⟨rb,ro+p,none⟩=some (.slice a' row.length c')∧w'.cell? ⟨w.heap.size,0,none⟩=some (.slice (some ⟨u.fb,u.fo,none⟩) u.l.length u.fc)∧w'.cell? ⟨u.fb,u.fo+n,none⟩=some (.int .i64 fv)) (go_keep) (first
     | (go_at_call 77;refine C.mono ?_;rintro e w1 ⟨rfl,hb1⟩;have k1:=k.below hOl ((Below.refl _ _).drew.trans hb1);have Y1:=k1.c.2.2.2.2.2;have Y2:=k1.x1;have Y3:=cellBut k1.but hc hrbO;have Y4:=k1.x0;have Y5:=cellBut k1.but fn0 hfO;have Z0:=k1.row.cell hlt;have Zf:=k1.row.frozen;have Zl:=k1.lt)
     | (go_at_call 79;refine (l13Rank_any a' b' o' c' row fv _ hrlp (hrowB _ k1.but)).mono ?_;rintro e w2x ⟨rfl,rfl⟩))
    have k2:=k1.store hOl n (M.idx row fv)
    go_wp2_with fail
    exact ⟨⟨n+1,_,by go_num,by omega,FSTEP _ HRK.out,k2⟩,by simp [intOf];omega⟩
   rw [hrd] at rx
   go_wp2_with fail
   have hz:M.rankAt u.l u.rows n x=0:=by rw [M.rankAt,if_neg (by rw [hw];simp),if_neg (by rw [hrd];simp)]
   refine ⟨⟨n+1,f,by go_num,by omega,(fun j y hy=>?_),k⟩,by simp [intOf];omega⟩
   rw [HF.out j y hy]
   by_cases e:j=n
   ·subst e
    rw [hx] at hy
    obtain rfl:=Option.some.inj hy
    rw [if_neg (by omega),if_pos (by omega),hz]
   ·by_cases e2:j < n
    ·rw [if_pos e2,if_pos (by omega)]
    ·rw [if_neg e2,if_neg (by omega)]
  ·go_wp2_with fail
   refine bodyPost_end (v:=.tuple #[]) (results_none Tryz.results34 _ _ _) rfl ⟨rfl,⟨tAt _ _ k,k.c.2.2.1,k.c.2.2.2.1,k.c.2.2.2.2.1,?_,fun j y hy=>cellBut k.but (rd j y hy) hrO,fun j y hy=>cellBut k.but (wrt j y hy) hwO,hf.below (But.low h0 k.but hO) (Nat.le_refl _),HL,fun j y hy=>?_⟩,k.but,_,_,k.blk⟩
   ·rw [hkb,hkc];exact k.c.2.2.2.2.2
   ·have hj:=Lp.lt hy
    rw [hkb,k.row.cell hj,HF.out j y hy,if_pos (by omega)]
theorem way_any (t:Lp) (u:Lq) (w0 w:World) (od:Nat) (hk:t.Ok) (hpl:∀ x∈M.deeds t.ll,x.uses=true→0≤x.d.p∧x.d.p < 3) (hpos:0 < (M.deeds t.ll).length) (HL:Hid (u.l.length=(M.deeds t.ll).length)) (H3:Hid (u.rows.length=3)) (hrl:∀ r∈u.rows,r.length≤1048576) (rb ro:Nat)
  (h0:Below w0.heap.size w0 w) (hO:w0.heap.size≤t.O) (hOl:t.O < w.heap.size) (ss:DoSS w0 t.a t.b t.o t.ll) (hf:IntS w0 (some ⟨u.fb,u.fo,none⟩) u.fb u.fo u.l) (hr:IntSS w0 (some ⟨rb,ro,none⟩) rb ro u.rows)
  (blk:w.heap[t.O]?=some (.cells #[.slice t.a t.ll.length t.c,.slice (some ⟨t.g,0,none⟩) (M.deeds t.ll).length t.cc,.slice (some ⟨u.rb,0,none⟩) (M.deeds t.ll).length u.rc,.slice (some ⟨u.wb,0,none⟩) (M.deeds t.ll).length u.wc,.slice none 0 0,.slice none 0 0] 131 (0,0)))
  (dv:DvS w (some ⟨t.g,0,none⟩) t.g (M.deeds t.ll)) (rd:∀ n x,(M.deeds t.ll)[n]?=some x→w.cell? ⟨u.rb,n,none⟩=some (.bool (M.reads x.d.k))) (wrt:∀ n x,(M.deeds t.ll)[n]?=some x→w.cell? ⟨u.wb,n,none⟩=some (.bool (M.writes x.d.k))) (hkb:u.kb=w.heap.size+1) (hkc:u.kc=(M.deeds t.ll).length) :
  Calls Tryz.prog 34 #[.pointer (some ⟨t.O,0,none⟩),.agg #[.slice (some ⟨u.fb,u.fo,none⟩) u.l.length u.fc,.slice (some ⟨rb,ro,none⟩) u.rows.length od]] w fun e w'=>e=.returned (.tuple #[])∧u.At t w'∧But t.O w w' :=
 (wayG_any t u w0 w od hk hpl hpos HL H3 hrl rb ro h0 hO hOl ss hf hr blk dv rd wrt hkb hkc).mono fun _ _ ⟨h1,h2,h3,_⟩=>⟨h1,h2,h3⟩
end
section
open Go.RowKit
theorem own_bools {w:World} {base g cap:Nat} {l:List Bool} (h:w.ownsRow base 4 1 (.slice (some ⟨g,0,none⟩) l.length cap) l.length (bools l)) (i:Nat) (hi:i < l.length):w.cell? ⟨g,i,none⟩=some (.bool l[i]):=by
 have hc:=h.cells (g:=g) rfl i (.bool l[i]) (by simp [bools,hi])
 rwa [Go.WideShapes.add_plain,Nat.zero_add] at hc
end
section
open Go.RowKit
abbrev Y3:=Value × Value × List Value
end
section
open Go.RowKit
theorem M.mem_execAll {ll:List (List M.D)} {x:M.Wy}:x∈M.specAll ll↔M.execOk ll x.1 x.2=true:=by
 unfold M.specAll M.execOk
 cases hp:M.prog ll
 ·simp
 ·rw [if_pos rfl,Bool.true_and]
  exact M.mem_all
structure WyLe (x:M.Wy):Prop where
 a:x.1.length≤1048576
 b:x.2.length≤1048576
 c:∀ r∈x.2,r.length≤1048576
theorem own_two {w:World} {base n:Nat} {e:TypeId} {v:Value} {xs:List Value} (h:w.ownsRow base e 2 v n xs):∃ a g c,v=.slice a n c∧(0 < n→a=some ⟨g,0,none⟩)∧∀ j u,xs[j]?=some u→w.cell? ⟨g,j,none⟩=some u:=by
 rcases h.2 with ⟨hv,hn⟩ | ⟨g,cap,cur,hv,hg,hh,hc,r⟩
 ·have hx:xs=[]:=List.length_eq_zero_iff.1 (by rw [h.1,hn])
  subst hx
  exact ⟨none,0,0,by rw [hv,hn],fun h=>absurd h (by omega),fun j u hj=>(by simp at hj)⟩
 ·refine ⟨_,g,cap,hv,fun _=>rfl,fun j u hj=>?_⟩
  have:=h.cells (g:=g) (by rw [hv];rfl) j u hj
  rwa [Go.WideShapes.add_plain,Nat.zero_add] at this
theorem Xw.lw {W:World} {B:Nat} {fv ov:Value} {x:M.Wy} {cs:List Value} (h:Xw W B fv ov x.1 cs x.2):∃ fa fb fc ra rb rc,fv=.slice fa x.1.length fc∧ov=.slice ra x.2.length rc∧IntS W fa fb 0 x.1∧IntSS W ra rb 0 x.2:=h.reads
theorem RXL.lw {W:World} {base n:Nat} {v:Value} {cs:List Value} {xs:List M.Wy} (h:RXL W base v cs n xs):∃ a g c,v=.slice a xs.length c∧LW W a g xs:=by
 obtain ⟨a,g,c,e1,e2,e3⟩:=own_two h.own
 have hl:=h.len.out
 rw [← hl] at e1 e2
 refine ⟨a,g,c,e1,e2,fun i hi=>?_⟩
 obtain ⟨fv,ov,rc0,c1,c2,hx,_⟩:=h.row i hi
 obtain ⟨fa,fb,fc,ra,rb,rc,f1,f2,f3,f4⟩:=hx.lw
 exact ⟨fa,fb,fc,ra,rb,rc,by rw [← f1];exact e3 _ _ c1,by rw [← f2];exact e3 _ _ c2,f3,f4⟩
theorem SxaAns.lw {w w':World} {ll:List (List M.D)} {v:Value} (h:SxaAns w w' ll v):∃ a g c,v=.slice a (M.specAll ll).length c∧LW w' a g (M.specAll ll):=by
 obtain ⟨cs,n,hw,_⟩:=h.ex
 exact hw.lw
end
section
namespace M
structure Put (ks:List Ky) (k:Ky) (out:List Ky) (done:Bool) (n:Nat):Prop where
 le:n≤ks.length
 no:done=false→out=ks.take n∧putIn ks k=ks.take n++putIn (ks.drop n) k
 yes:done=true→putIn ks k=out++ks.drop n∧∀ y∈ks.drop n,0 < cmpK y k
theorem Put.start (ks:List Ky) (k:Ky):Put ks k [] false 0:=⟨Nat.zero_le _,fun _=>⟨rfl,rfl⟩,fun h=>by cases h⟩
theorem Put.less {ks:List Ky} {k:Ky} {out:List Ky} {n:Nat} (h:Put ks k out false n) (hn:n < ks.length) (hc:cmpK ks[n] k < 0):Put ks k (out++[ks[n]]) false (n+1):=by
 obtain ⟨h1,h2⟩:=h.no rfl
 refine ⟨by omega,fun _=>⟨?_,?_⟩,fun h=>by cases h⟩
 ·rw [h1,List.take_succ_eq_append_getElem hn]
 ·rw [h2,← List.getElem_cons_drop hn,putIn,if_neg (by omega),if_neg (by omega),List.take_succ_eq_append_getElem hn,List.append_assoc]
  rfl
theorem Put.more {ks:List Ky} {k:Ky} {out:List Ky} {n:Nat} (ha:Asc ks) (h:Put ks k out false n) (hn:n < ks.length) (hc:0 < cmpK ks[n] k):Put ks k (out++[k]++[ks[n]]) true (n+1):=by
 obtain ⟨h1,h2⟩:=h.no rfl
 refine ⟨by omega,fun h=>(by cases h),fun _=>⟨?_,fun y hy=>?_⟩⟩
 ·rw [h2,h1,← List.getElem_cons_drop hn,putIn,if_neg (by omega),if_pos hc]
  simp
 ·have hd:Asc (ks.drop n):=List.Pairwise.sublist (List.drop_sublist n ks) ha
  rw [← List.getElem_cons_drop hn] at hd
  have h3:=(List.pairwise_cons.1 hd).1 y hy
  have h4:cmpK k ks[n] < 0:=by have:=cmpK_neg ks[n] k;omega
  have h5:=cmpK_trans h4 h3
  have:=cmpK_neg k y
  omega
theorem Put.on {ks:List Ky} {k:Ky} {out:List Ky} {n:Nat} (h:Put ks k out true n) (hn:n < ks.length):Put ks k (out++[ks[n]]) true (n+1):=by
 obtain ⟨h1,h2⟩:=h.yes rfl
 refine ⟨by omega,fun h=>(by cases h),fun _=>⟨?_,fun y hy=>?_⟩⟩
 ·rw [h1,← List.getElem_cons_drop hn];simp
 ·exact h2 y (by rw [← List.getElem_cons_drop hn];exact List.mem_cons_of_mem _ hy)
theorem Put.ne {ks:List Ky} {k:Ky} {out:List Ky} {n:Nat} (h:Put ks k out true n) (hn:n < ks.length):0 < cmpK ks[n] k :=
 (h.yes rfl).2 _ (by rw [← List.getElem_cons_drop hn];exact List.mem_cons_self ..)
theorem Put.there {ks:List Ky} {k:Ky} {out:List Ky} {n:Nat} (h:Put ks k out false n) (hn:n < ks.length) (hc:cmpK ks[n] k=0):putIn ks k=ks:=by
 rw [(h.no rfl).2,← List.getElem_cons_drop hn,putIn,if_pos hc,List.getElem_cons_drop hn,List.take_append_drop]
theorem Put.fin {ks:List Ky} {k:Ky} {out:List Ky} {n:Nat} (h:Put ks k out true n) (hn:ks.length≤n):out=putIn ks k:=by
 rw [(h.yes rfl).1,List.drop_eq_nil_of_le hn,List.append_nil]
theorem Put.last {ks:List Ky} {k:Ky} {out:List Ky} {n:Nat} (h:Put ks k out false n) (hn:ks.length≤n):out++[k]=putIn ks k:=by
 obtain ⟨h1,h2⟩:=h.no rfl
 rw [h2,h1,List.drop_eq_nil_of_le hn];rfl
end M
end
section
open Go.RowKit
structure SL (w:World) (g:Nat) (ss:List Sn):Prop where
 sr:SR w g ss
 at_:∀ s∈ss,s.At w∧s.Le 1048576
theorem SL.below {w w':World} {g:Nat} {ss:List Sn} (h:SL w g ss) (hb:Below w.heap.size w w') (hl:g < w.heap.size):SL w' g ss :=
 ⟨h.sr.below hb hl,fun s hs=>⟨(h.at_ s hs).1.below hb (Nat.le_refl _),(h.at_ s hs).2⟩⟩
structure OwnS (w W:World) (g cap:Nat) (tt:List Sn) (s:Sn):Prop where
 own:W.ownsRow (w.heap.size+1) 45 2 (.slice (some ⟨g,0,none⟩) tt.length cap) tt.length (flatS tt)
 ge:w.heap.size+1≤g
 lt:g < W.heap.size
 box:Slot2 W w.heap.size (.slice s.a1 s.l1.length s.c1) (.slice s.a2 s.l2.length s.c2)
 bel:Below w.heap.size w W
theorem OwnS.below {w W W':World} {g cap:Nat} {tt:List Sn} {s:Sn} (h:OwnS w W g cap tt s) (hb:Below W.heap.size W W'):OwnS w W' g cap tt s :=
 ⟨ownsRow_below h.own hb,h.ge,Nat.lt_of_lt_of_le h.lt hb.size,h.box.of (hb.block _ h.box.lt),h.bel.trans (hb.mono h.bel.size)⟩
theorem OwnS.snoc {w W W':World} {g cap g' cap':Nat} {tt:List Sn} {s e:Sn} {o:Obj} (h:OwnS w W g cap tt s)
  (ho:W'.ownsRow (w.heap.size+1) 45 2 (.slice (some ⟨g',0,none⟩) (tt.length+1) cap') (tt.length+1) (flatS tt++[.slice e.a1 e.l1.length e.c1,.slice e.a2 e.l2.length e.c2])) (hg:(W.alloc o).grownBy W' (some g)) (hlt:g' < W'.heap.size):OwnS w W' g' cap' (tt++[e]) s:=by
 have hb:=h.bel.size
 have hge:=h.ge
 have hbl:=h.box.lt
 refine ⟨by rw [List.length_append,flatS_append];exact ho,own_ge ho g' rfl,hlt,h.box.of ?_,below_grown (h.bel.alloc hb o) hg (fun k hk=>by simp at hk;omega) (by simp;omega)⟩
 rw [hg.block w.heap.size (by simp;omega) (fun e=>by simp at e;omega)]
 exact alloc_old _ _ _ hbl
theorem OwnS.sl {w W:World} {g cap:Nat} {tt ss:List Sn} {s:Sn} (h:OwnS w W g cap tt s) (hss:∀ x∈ss,x.At w∧x.Le 1048576) (hsa:s.At w∧s.Le 1048576) (hin:∀ t∈tt,t∈ss∨t=s):SL W g tt :=
 ⟨⟨fun i hi=>by
  obtain ⟨f1,f2⟩:=flatS_get tt i hi
  have e1:=h.own.cells (g:=g) rfl _ _ f1
  have e2:=h.own.cells (g:=g) rfl _ _ f2
  rw [Go.WideShapes.add_plain,Nat.zero_add] at e1 e2
  exact ⟨e1,e2⟩,fun j=>own_fzS h.own j⟩,fun t ht=>by
  rcases hin t ht with hx | rfl
  ·exact ⟨(hss t hx).1.below h.bel (Nat.le_refl _),(hss t hx).2⟩
  ·exact ⟨hsa.1.below h.bel (Nat.le_refl _),hsa.2⟩⟩
set_option maxHeartbeats 4000000 in
set_option maxRecDepth 100000 in
theorem l2Put_any (g cap:Nat) (ss:List Sn) (s:Sn) (w:World) (hl:ss.length≤1048575) (h:SL w g ss) (hg:g < w.heap.size) (hsa:s.At w) (hsl:s.Le 1048576) (hasc:M.Asc (kys ss)) (hcap:ss.length≤cap) :
  Calls Tryz.prog 178 #[.slice (some ⟨g,0,none⟩) ss.length cap,.agg #[.slice s.a1 s.l1.length s.c1,.slice s.a2 s.l2.length s.c2]] w fun e w'=>∃ g' cap',∃ tt:List Sn,e=.returned (.slice (some ⟨g',0,none⟩) tt.length cap')∧kys tt=M.putIn (kys ss) s.ky∧SL w' g' tt∧g' < w'.heap.size∧tt.length≤ss.length+1∧tt.length≤cap'∧(∀ t∈tt,t∈ss∨t=s)∧(g'=g∨w.heap.size≤g')∧Below w.heap.size w w':=by
 obtain ⟨i0,hi,hz0,hz1,hz2⟩:=info_parts Tryz.infoSeen
 go_enter Tryz.func178,Tryz.ntmps178
 go_wp2_with fail
 have hb2:=below2 w (.cells #[.slice s.a1 s.l1.length s.c1,.slice s.a2 s.l2.length s.c2] 45) (.cells #[] 45)
 have hbx0:Slot2 ((w.alloc (.cells #[.slice s.a1 s.l1.length s.c1,.slice s.a2 s.l2.length s.c2] 45)).alloc (.cells #[] 45)) w.heap.size (.slice s.a1 s.l1.length s.c1) (.slice s.a2 s.l2.length s.c2):=⟨by rw [alloc_old _ _ _ (by simp only [World.size_alloc];omega)];exact alloc_new _ _ _ rfl⟩
 have hown0:((w.alloc (.cells #[.slice s.a1 s.l1.length s.c1,.slice s.a2 s.l2.length s.c2] 45)).alloc (.cells #[] 45)).ownsRow (w.heap.size+1) 45 2 (.slice (some ⟨w.heap.size+1,0,none⟩) 0 0) 0 (flatS []):=by
  have:=World.ownsRow_made (base:=w.heap.size+1) (e:=45) (size:=2) (w.alloc (.cells #[.slice s.a1 s.l1.length s.c1,.slice s.a2 s.l2.length s.c2] 45)) #[] 0 (by simp) (Nat.zero_le _) rfl
  simp only [World.size_alloc] at this
  exact this
 have hsz0:w.heap.size+1 < ((w.alloc (.cells #[.slice s.a1 s.l1.length s.c1,.slice s.a2 s.l2.length s.c2] 45)).alloc (.cells #[] 45)).heap.size:=by simp
 generalize (w.alloc (.cells #[.slice s.a1 s.l1.length s.c1,.slice s.a2 s.l2.length s.c2] 45)).alloc (.cells #[] 45)=W0 at *
 go_loopw [5,6,7] (fun s5 s6 s7 wr=>∃ (n:Nat) (done:Bool) (tt:List Sn) (g5 cap5:Nat),s5=.slice (some ⟨g5,0,none⟩) tt.length cap5∧s6=.bool done∧s7=.int .i64 n∧n≤ss.length∧tt.length≤n+1∧Hid (done=false→tt.length=n)∧Hid (M.Put (kys ss) s.ky (kys tt) done n)∧Hid (∀ t∈tt,t∈ss∨t=s)∧OwnS w wr g5 cap5 tt s) (fun _ _ s7 _=>ss.length - (intOf s7).toNat)
 case atStart=>exact ⟨0,false,[],w.heap.size+1,0,rfl,rfl,rfl,Nat.zero_le _,by simp,fun _=>rfl,M.Put.start _ _,fun t ht=>absurd ht (by simp),⟨hown0,Nat.le_refl _,hsz0,hbx0,hb2⟩⟩
 case round =>
  obtain ⟨n,done,tt,g5,cap5,rfl,rfl,rfl,hn,htl,Hd,HP,Hin,os⟩:=hrel
  clear hown0 hbx0 hb2 hsz0
  have hb:=os.bel
  have q0:=os.box.c0
  have q1:=os.box.c1
  have hL:=h.below hb hg
  have hgr:g < wr.heap.size:=Nat.lt_of_lt_of_le hg hb.size
  have hsr:=hsa.below hb (Nat.le_refl _)
  by_cases hlt:n < ss.length
  ·have i1:(n:Int) < ss.length:=by omega
   obtain ⟨c1,c2⟩:=hL.sr.c n hlt
   obtain ⟨ta,tl⟩:=hL.at_ _ (List.getElem_mem hlt)
   obtain ⟨t,ht⟩:∃ t,ss[n]=t:=⟨_,rfl⟩
   have HT:Hid (ss[n]=t):=ht
   rw [ht] at c1 c2 ta tl
   clear ht
   have HK:Hid ((kys ss)[n]'(by rw [kys_len];exact hlt)=t.ky):=by
    show (kys ss)[n]'(by rw [kys_len];exact hlt)=t.ky
    rw [kys_get ss hlt,HT.out]
   have C:=fun p:BelowOf wr=>calls_bel (l2Seen_any t s p.x tl hsl (ta.below p.h (Nat.le_refl _)) (hsr.below p.h (Nat.le_refl _)))
   obtain ⟨r,hr⟩:∃ r,M.cmpS t.l1 t.l2 s.l1 s.l2=r:=⟨_,rfl⟩
   rw [hr] at C
   have HR:Hid (M.cmpK t.ky s.ky=r):=hr
   clear hr
   have K1:=BelowOf.cell c1
   have K2:=BelowOf.cell c2
   have K3:=BelowOf.cell q0
   have K4:=BelowOf.cell q1
   go_wp2_with fail
   haveI:Inhabited (BelowOf wr):=⟨belOf wr⟩
   refine wp_region_quiet_bel (by kernel_rfl) (by kernel_rfl) ?_
   repeat (quiet_step (first | (go_at_call 53;exact Calls.bel_of (C _))))
   refine wpQuiet_nil ?_
   rintro wq ⟨⟨wx,hwq⟩,ew⟩
   change wq=wx at ew
   subst ew
   have osq:=os.below hwq
   have e1:wq.cell? ⟨g,n * 2,none⟩=some (.slice t.a1 t.l1.length t.c1):=K1 ⟨wq,hwq⟩
   have e2:wq.cell? ⟨g,n * 2+1,none⟩=some (.slice t.a2 t.l2.length t.c2):=K2 ⟨wq,hwq⟩
   have f1:=osq.box.c0
   have f2:=osq.box.c1
   have hgq:g < wq.heap.size:=Nat.lt_of_lt_of_le hgr hwq.size
   have fl:=osq.box.lt
   have hkl:n < (kys ss).length:=by rw [kys_len];exact hlt
   have tin:t∈ss:=by rw [← HT.out];exact List.getElem_mem hlt
   have hcm:M.cmpK ((kys ss)[n]'hkl) s.ky=r:=by rw [HK.out];exact HR.out
   have HC:Hid (M.cmpK ((kys ss)[n]'hkl) s.ky=r):=hcm
   clear hcm C K1 K2 K3 K4 q0 q1 os
   cases done
   ·have htn:=Hd.out rfl
    have HTN:Hid (tt.length=n):=htn
    clear htn
    rcases Int.lt_trichotomy r 0 with hr | hr | hr
    ·have hr0:(r==0)=false:=by simp;omega
     have hr1:¬ 0 < r:=by omega
     go_wp2_with (at_builtin;refine wpList_append_lies _ rfl (.tmp 35) (.tmp 40) 54 rfl (w.heap.size+1) 45 i0 _ 2 48 Tryz.underlying54 hi hz0 hz1 hz2 rfl (by decide) _ _ _ rfl (osq.own.alloc _) ⟨wq.heap.size,0,none⟩ 1 1 [.slice t.a1 t.l1.length t.c1,.slice t.a2 t.l2.length t.c2] rfl rfl (World.news_of_block (cs:=#[.slice t.a1 t.l1.length t.c1,.slice t.a2 t.l2.length t.c2]) (t:=45) (fr:=(0,0)) (heap_alloc_new wq _)) (by simp [Value.oneCell']) (by omega) (by unfold maxLen;omega) (by omega) (by simp;have:=osq.bel.size;have:=osq.lt;have:=osq.ge;omega) (wq.heap.size+1) (by simp) ?_)
     intro g6 cap6 w6 hown6 hg6 hat6 hlt6
     have os6:=osq.snoc hown6 hg6 hlt6
     clear hown6 hg6 hat6 hlt6
     go_wp2_with fail
     exact ⟨⟨n+1,false,tt++[t],g6,cap6,by simp,rfl,by go_num,by omega,by simp;omega,fun _=>by simp [HTN.out],by
      show M.Put _ _ _ _ _
      have:=HP.out.less hkl (by rw [HC.out];exact hr)
      rw [HK.out] at this
      simpa [kys] using this,fun x hx=>by
      rcases List.mem_append.1 hx with hx | hx
      ·exact Hin.out x hx
      ·simp at hx;subst hx;exact Or.inl tin,os6⟩,by simp [intOf];omega⟩
    ·subst hr
     go_wp2_with fail
     go_ret
     have:=HP.out.there hkl HC.out
     exact ⟨g,cap,ss,rfl,this.symm,hL.below hwq hgr,hgq,by omega,hcap,fun t ht=>Or.inl ht,Or.inl rfl,osq.bel⟩
    ·have hr0:(r==0)=false:=by simp;omega
     go_wp2_with (at_builtin;refine wpList_append_lies _ rfl (.tmp 31) (.tmp 33) 54 rfl (w.heap.size+1) 45 i0 _ 2 48 Tryz.underlying54 hi hz0 hz1 hz2 rfl (by decide) _ _ _ rfl (osq.own.alloc _) ⟨wq.heap.size,0,none⟩ 1 1 [.slice s.a1 s.l1.length s.c1,.slice s.a2 s.l2.length s.c2] rfl rfl (World.news_of_block (cs:=#[.slice s.a1 s.l1.length s.c1,.slice s.a2 s.l2.length s.c2]) (t:=45) (fr:=(0,0)) (heap_alloc_new wq _)) (by simp [Value.oneCell']) (by omega) (by unfold maxLen;omega) (by omega) (by simp;have:=osq.bel.size;have:=osq.lt;have:=osq.ge;omega) (wq.heap.size+1) (by simp) ?_)
     intro g6 cap6 w6 hown6 hg6 hat6 hlt6
     have os6:=osq.snoc hown6 hg6 hlt6
     clear hown6 hg6 hat6 hlt6
     have e3:w6.cell? ⟨g,n * 2,none⟩=some (.slice t.a1 t.l1.length t.c1):=((h.below os6.bel hg).sr.c n hlt).1.trans (by rw [HT.out])
     have e4:w6.cell? ⟨g,n * 2+1,none⟩=some (.slice t.a2 t.l2.length t.c2):=((h.below os6.bel hg).sr.c n hlt).2.trans (by rw [HT.out])
     obtain ⟨t2,ht2⟩:∃ t2,tt++[s]=t2:=⟨_,rfl⟩
     have ht2l:tt.length+1=t2.length:=by rw [← ht2];simp
     rw [ht2l]
     rw [ht2] at os6
     have HT2:Hid (tt++[s]=t2):=ht2
     have ht2b:t2.length≤n+1:=by rw [← ht2l,HTN.out];omega
     have hg6l:g < w6.heap.size:=World.block_lt_of_cell? _ _ e3
     clear ht2 ht2l
     go_wp2_with (at_builtin;refine wpList_append_lies _ rfl (.tmp 35) (.tmp 40) 54 rfl (w.heap.size+1) 45 i0 _ 2 48 Tryz.underlying54 hi hz0 hz1 hz2 rfl (by decide) _ _ _ rfl (os6.own.alloc _) ⟨w6.heap.size,0,none⟩ 1 1 [.slice t.a1 t.l1.length t.c1,.slice t.a2 t.l2.length t.c2] rfl rfl (World.news_of_block (cs:=#[.slice t.a1 t.l1.length t.c1,.slice t.a2 t.l2.length t.c2]) (t:=45) (fr:=(0,0)) (heap_alloc_new w6 _)) (by simp [Value.oneCell']) (by omega) (by unfold maxLen;omega) (by omega) (by simp;have:=os6.bel.size;have:=os6.lt;have:=os6.ge;omega) (w6.heap.size+1) (by simp) ?_)
     intro g7 cap7 w7 hown6 hg6 hat6 hlt6
     have os7:=os6.snoc hown6 hg6 hlt6
     clear hown6 hg6 hat6 hlt6
     go_wp2_with fail
     exact ⟨⟨n+1,true,t2++[t],g7,cap7,by simp,rfl,by go_num,by omega,by simp;omega,fun h=>(by cases h),by
      show M.Put _ _ _ _ _
      have:=HP.out.more hasc hkl (by rw [HC.out];exact hr)
      rw [HK.out] at this
      rw [← HT2.out]
      simpa [kys] using this,fun x hx=>by
      rcases List.mem_append.1 hx with hx | hx
      ·rw [← HT2.out] at hx
       rcases List.mem_append.1 hx with hx | hx
       ·exact Hin.out x hx
       ·simp at hx;exact Or.inr hx
      ·simp at hx;subst hx;exact Or.inl tin,os7⟩,by simp [intOf];omega⟩
   ·have hrp:0 < r:=by rw [← HC.out];exact HP.out.ne hkl
    have hr0:(r==0)=false:=by simp;omega
    go_wp2_with (at_builtin;refine wpList_append_lies _ rfl (.tmp 35) (.tmp 40) 54 rfl (w.heap.size+1) 45 i0 _ 2 48 Tryz.underlying54 hi hz0 hz1 hz2 rfl (by decide) _ _ _ rfl (osq.own.alloc _) ⟨wq.heap.size,0,none⟩ 1 1 [.slice t.a1 t.l1.length t.c1,.slice t.a2 t.l2.length t.c2] rfl rfl (World.news_of_block (cs:=#[.slice t.a1 t.l1.length t.c1,.slice t.a2 t.l2.length t.c2]) (t:=45) (fr:=(0,0)) (heap_alloc_new wq _)) (by simp [Value.oneCell']) (by omega) (by unfold maxLen;omega) (by omega) (by simp;have:=osq.bel.size;have:=osq.lt;have:=osq.ge;omega) (wq.heap.size+1) (by simp) ?_)
    intro g6 cap6 w6 hown6 hg6 hat6 hlt6
    have os6:=osq.snoc hown6 hg6 hlt6
    clear hown6 hg6 hat6 hlt6
    go_wp2_with fail
    exact ⟨⟨n+1,true,tt++[t],g6,cap6,by simp,rfl,by go_num,by omega,by simp;omega,fun h=>(by cases h),by
     show M.Put _ _ _ _ _
     have:=HP.out.on hkl
     rw [HK.out] at this
     simpa [kys] using this,fun x hx=>by
     rcases List.mem_append.1 hx with hx | hx
     ·exact Hin.out x hx
     ·simp at hx;subst hx;exact Or.inl tin,os6⟩,by simp [intOf];omega⟩
  ·have hke:(kys ss).length≤n:=by rw [kys_len];omega
   have fl:=os.box.lt
   cases done
   ·have HTN:Hid (tt.length=n):=Hd.out rfl
    have htn2:tt.length≤ss.length:=by rw [HTN.out];exact hn
    go_wp2_with (at_builtin;refine wpList_append_lies _ rfl (.tmp 44) (.tmp 46) 54 rfl (w.heap.size+1) 45 i0 _ 2 48 Tryz.underlying54 hi hz0 hz1 hz2 rfl (by decide) _ _ _ rfl (os.own.alloc _) ⟨wr.heap.size,0,none⟩ 1 1 [.slice s.a1 s.l1.length s.c1,.slice s.a2 s.l2.length s.c2] rfl rfl (World.news_of_block (cs:=#[.slice s.a1 s.l1.length s.c1,.slice s.a2 s.l2.length s.c2]) (t:=45) (fr:=(0,0)) (heap_alloc_new wr _)) (by simp [Value.oneCell']) (by omega) (by unfold maxLen;omega) (by omega) (by simp;have:=os.bel.size;have:=os.lt;have:=os.ge;omega) (wr.heap.size+1) (by simp) ?_)
    intro g6 cap6 w6 hown6 hg6 hat6 hlt6
    have os6:=os.snoc hown6 hg6 hlt6
    clear hown6 hg6 hat6 hlt6
    go_wp2_with fail
    go_ret
    refine ⟨g6,cap6,tt++[s],by simp,?_,os6.sl (fun x hx=>h.at_ x hx) ⟨hsa,hsl⟩ (fun x hx=>?_),os6.lt,by simp;omega,own_capP os6.own,fun x hx=>?_,Or.inr (by have:=os6.ge;omega),os6.bel⟩
    ·rw [← HP.out.last hke];simp [kys]
    ·rcases List.mem_append.1 hx with hx | hx
     ·exact Hin.out x hx
     ·simp at hx;exact Or.inr hx
    ·rcases List.mem_append.1 hx with hx | hx
     ·exact Hin.out x hx
     ·simp at hx;exact Or.inr hx
   ·go_wp2_with fail
    go_ret
    exact ⟨g5,cap5,tt,rfl,HP.out.fin hke,os.sl (fun x hx=>h.at_ x hx) ⟨hsa,hsl⟩ Hin.out,os.lt,by omega,own_capP os.own,Hin.out,Or.inr (by have:=os.ge;omega),os.bel⟩
end
section
namespace M
theorem rdN_append (l m:List De):rdN (l++m)=rdN l+rdN m:=by simp [rdN]
theorem rdN_deD (t i:Nat) (lr:Int) (n:Nat) (d:D):rdN (deD t i lr n d)=if reads d.k then 1 else 0:=by
 unfold deD rdN
 by_cases h:d.k==9
 ·have h9:d.k=9:=by simpa using h
  have hu:reads d.k=false:=by rw [h9];decide
  rw [if_pos h];simp [De.reads,hu]
 ·rw [if_neg h]
  cases hu:reads d.k<;>simp [De.reads,hu]
theorem rdN_deT (t:Nat):∀ (l:List D) (i:Nat) (lr:Int) (n:Nat),rdN (deT t i lr n l)=cnt reads l
 | [],_,_,_=>by simp [deT,rdN,cnt]
 | d::l,i,lr,n=>by
  rw [deT,rdN_append,rdN_deD,rdN_deT t l,cnt_cons]
theorem rdN_deF:∀ (ll:List (List D)) (t n:Nat),rdN (deF t n ll)=tot reads ll
 | [],_,_=>by simp [deF,rdN,tot]
 | l::ll,t,n=>by rw [deF,rdN_append,rdN_deT,rdN_deF ll,tot]
theorem rdAt_len (ds:List De) (l:List Int):∀ (xs:List De) (n:Nat),(rdAt ds l n xs).length=rdN xs
 | [],_=>by simp [rdAt,rdN]
 | x::xs,n=>by
  have ih:=rdAt_len ds l xs (n+1)
  unfold rdAt
  cases hx:x.reads
  ·simpa [rdN,hx] using ih
  ·simp [rdN,hx];simpa [rdN] using ih
theorem deed_v3 {ll:List (List D)} (h:prog ll=true):∀ x∈deeds ll,0≤x.d.v∧x.d.v≤3:=by
 intro x hx
 have:=deed_do h x hx
 simp only [doOk,Bool.and_eq_true,valOk] at this
 have hv:=this.2
 split at hv
 ·simp at hv;omega
 ·simp at hv;omega
theorem vl_in {ll:List (List D)} {l:List Int} {rows:List (List Int)} (h:Way ll l rows) (n:Nat) (hn:n < (deeds ll).length):0≤vl (deeds ll) l n∧vl (deeds ll) l n≤3:=by
 obtain ⟨q,hq,_,e⟩:=vl_of h.inn h.len.out h.zero h.fin n hn
 rw [e]
 exact deed_v3 h.prog _ (List.getElem_mem hq)
theorem rdAt_in {ll:List (List D)} {l:List Int} {rows:List (List Int)} (h:Way ll l rows):∀ (xs:List De) (n:Nat),n+xs.length≤(deeds ll).length→vals (rdAt (deeds ll) l n xs)=true
 | [],_,_=>by simp [rdAt,vals]
 | x::xs,n,hn=>by
  simp only [List.length_cons] at hn
  have ih:=rdAt_in h xs (n+1) (by omega)
  have hv:=vl_in h n (by omega)
  unfold rdAt
  split
  ·simp only [vals,List.all_cons,Bool.and_eq_true,decide_eq_true_eq] at ih ⊢
   exact ⟨hv,ih⟩
  ·exact ih
theorem last_in {ll:List (List D)} {l:List Int} {rows:List (List Int)} (h:Way ll l rows):∀ (rs:List (List Int)),(∀ r∈rs,r∈rows)→vals (seenL (deeds ll) l rs)=true
 | [],_=>by simp [seenL,vals]
 | r::rs,hr=>by
  have ih:=last_in h rs (fun x hx=>hr x (List.mem_cons_of_mem _ hx))
  have hv:0≤lastOf (deeds ll) l r∧lastOf (deeds ll) l r≤3:=by
   rcases Nat.eq_zero_or_pos r.length with h0 | h0
   ·rw [List.length_eq_zero_iff.1 h0,last_nil];omega
   ·rw [last_some _ _ h0]
    obtain ⟨m0,m1⟩:=h.mem r (hr r (List.mem_cons_self ..)) _ (List.getElem_mem (show r.length - 1 < r.length by omega))
    obtain ⟨q,hq⟩:=Int.eq_ofNat_of_zero_le m0
    rw [hq] at m1 ⊢
    exact vl_in h q (by omega)
  simp only [seenL,List.map_cons,vals,List.all_cons,Bool.and_eq_true,decide_eq_true_eq] at ih ⊢
  exact ⟨hv,ih⟩
theorem exec_seenOk {ll:List (List D)} {l:List Int} {rows:List (List Int)} (h:execOk ll l rows=true):seenOk ll (execSeen ll l rows).1 (execSeen ll l rows).2=true:=by
 have W:=way_of h
 have e:execSeen ll l rows=(seenR (deeds ll) l,seenL (deeds ll) l rows):=by simp [execSeen,h]
 have h1:((seenR (deeds ll) l).length:Int)=nreads ll:=by
  rw [nreads_ok W.prog,seenR,rdAt_len,deeds,rdN_deF]
 have h2:(seenL (deeds ll) l rows).length=3:=by rw [seenL,List.length_map,W.three.out]
 have h3:vals (seenR (deeds ll) l)=true:=rdAt_in W _ _ (by simp)
 have h4:vals (seenL (deeds ll) l rows)=true:=last_in W rows (fun _ h=>h)
 rw [e]
 simp only [seenOk,h1,h2,h3,h4,decide_true,Bool.and_true]
end M
end
end Go.Proofs.YtmhpgdliaclokaaGreat
