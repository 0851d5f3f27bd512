/- impl.OrderAll: what is seen in all ways that hold by an order, in order, each once. Of at most 1048576 threads and steps. impl.WhyExec: the first way in which something is seen, by an order. Of at most 1048576 threads and steps, of as many numbers. A list of ways, each in rows of its own: memory. No condition. -/
import Derived.Deep.OwnRows
import Derived.Test.YtmhpgdliaclokaaGreatRows
import Derived.Test.YtmhpgdliaclokaaGreatQtbc
namespace Go.Proofs.YtmhpgdliaclokaaGreat
section
open Go.RowKit Go.Shelf
attribute [local go_sem] Oper.semAt_some
namespace M
def seenOf (ll:List (List D)) (x:Wy):Key:=(seenR (deeds ll) x.1,seenL (deeds ll) x.1 x.2)
def orderList (ll:List (List D)) (kind:Int):List Key:=((ways (deeds ll)).filter fun x=>orderHolds ll x.1 x.2 kind).map (seenOf ll)
def orderAll (ll:List (List D)) (kind:Int):List Key:=if (decide (1≤kind)&&decide (kind≤3))&&prog ll then sortK (orderList ll kind) else []
theorem ways_ok {ll:List (List D)} (hp:prog ll=true) {x:Wy} (h:x∈ways (deeds ll)):execOk ll x.1 x.2=true:=by
 unfold execOk
 rw [hp,Bool.true_and]
 exact (mem_all (f:=x.1) (o:=x.2)).1 (by rw [← ways_eq (cop_deeds ll)];exact h)
theorem seenR_len (ds:List De) (l:List Int):(seenR ds l).length≤ds.length:=by
 have key:∀ (n:Nat) (xs:List De),(rdAt ds l n xs).length≤xs.length:=by
  intro n xs
  induction xs generalizing n with
  | nil=>simp [rdAt]
  | cons x xs ih =>
   have:=ih (n+1)
   simp only [rdAt]
   split<;>simp<;>omega
 exact key 0 ds
end M
def BlkS (s:Sn) (k:Nat):Prop:=(0 < s.l1.length∧k=s.b1)∨(0 < s.l2.length∧k=s.b2)
theorem Sn.At.fr {s:Sn} {W W':World} {O:Nat→Prop} (h:s.At W) (hf:Fr O W W') (hO:∀ k,BlkS s k→O k):s.At W' :=
 ⟨h.reads.fr' hf (fun hl=>hO _ (Or.inl ⟨hl,rfl⟩)),h.last.fr' hf (fun hl=>hO _ (Or.inr ⟨hl,rfl⟩))⟩
theorem Sn.At.lt {s:Sn} {W:World} (h:s.At W) {k:Nat} (hk:BlkS s k):k < W.heap.size:=by
 rcases hk with ⟨hl,rfl⟩ | ⟨hl,rfl⟩
 ·exact World.block_lt_of_cell? _ _ (h.reads.row 0 hl)
 ·exact World.block_lt_of_cell? _ _ (h.last.row 0 hl)
end
section
open Go.RowKit Go.Shelf
attribute [local go_sem] Oper.semAt_some
namespace M
def whyGood (ll:List (List D)) (t1 t2:List Int) (k:Int) (x:Wy):Bool:=(cmpS (seenR (deeds ll) x.1) (seenL (deeds ll) x.1 x.2) t1 t2==0)&&orderHolds ll x.1 x.2 k
def whyExec (ll:List (List D)) (t1 t2:List Int) (k:Int):Option Wy:=if (decide (1≤k)&&decide (k≤3))&&seenOk ll t1 t2 then (ways (deeds ll)).find? (whyGood ll t1 t2 k) else none
theorem find_pre {α:Type} {p:α→Bool} {pre xs:List α} {x:α} (h:pre <+: xs) (hf:pre.find? p=some x):xs.find? p=some x:=by
 obtain ⟨t,rfl⟩:=h
 rw [List.find?_append,hf];rfl
theorem find_no {α:Type} {p:α→Bool} {pre:List α} {x:α} (h:pre.find? p=none) (hx:p x=false):(pre++[x]).find? p=none:=by
 rw [List.find?_append,h];simp [hx]
theorem find_yes {α:Type} {p:α→Bool} {pre:List α} {x:α} (h:pre.find? p=none) (hx:p x=true):(pre++[x]).find? p=some x:=by
 rw [List.find?_append,h];simp [hx]
end M
structure WhyAns (w w':World) (r:Option M.Wy) (v:Value):Prop where
 no:r=none→v=.tuple #[.agg #[.slice none 0 0,.slice none 0 0],.bool false]
 yes:∀ x,r=some x→∃ fv ov cs,v=.tuple #[.agg #[fv,ov],.bool true]∧Xw w' w.heap.size fv ov x.1 cs x.2
 bel:Below w.heap.size w w'
structure WhI (good:M.Wy→Bool) (Rb Tb:Nat) (W4:World) (pre:List M.Wy) (C:Nat→Prop) (W:World):Prop where
 c:∀ k,C k↔k=Rb∨k=Tb
 r:W.heap[Rb]?=some (.cells #[.slice none 0 0,.slice none 0 0] 29 (0,0))
 t:W.heap[Tb]?=some (.cells #[.bool false] 4 (0,0))
 no:Hid (pre.find? good=none)
 fr:Fr (fun k=>k < W4.heap.size∧k≠Rb∧k≠Tb) W4 W
theorem WhI.frames (good:M.Wy→Bool) (Rb Tb:Nat) (W4:World):Frames (fun k=>k < W4.heap.size∧k≠Rb∧k≠Tb) (WhI good Rb Tb W4):=by
 rintro pre C W W' ⟨h1,h2,h3,h4,h5⟩ hf
 exact ⟨h1,hf.heap (Or.inl ((h1 _).2 (Or.inl rfl))) h2,hf.heap (Or.inl ((h1 _).2 (Or.inr rfl))) h3,h4,h5.trans (hf.mono fun k _ hk=>Or.inr hk)⟩
structure WhX (good:M.Wy→Bool) (Rb Tb:Nat) (W4:World) (c:Code) (pre:List M.Wy) (C:Nat→Prop) (W:World):Prop where
 ret:c=.ret
 ex:∃ x fv ov cs,pre.find? good=some x∧(∀ k,C k↔k=Rb∨k=Tb∨Blks fv ov cs k)∧W.heap[Rb]?=some (.cells #[fv,ov] 29 (0,0))∧W.heap[Tb]?=some (.cells #[.bool true] 4 (0,0))∧Xw W W4.heap.size fv ov x.1 cs x.2
 fr:Fr (fun k=>k < W4.heap.size∧k≠Rb∧k≠Tb) W4 W
theorem WhX.frames (good:M.Wy→Bool) (Rb Tb:Nat) (W4:World) (c:Code):Frames (fun k=>k < W4.heap.size∧k≠Rb∧k≠Tb) (WhX good Rb Tb W4 c):=by
 rintro pre C W W' ⟨h0,⟨x,fv,ov,cs,h1,h2,h3,h4,h5⟩,h6⟩ hf
 exact ⟨h0,⟨x,fv,ov,cs,h1,h2,hf.heap (Or.inl ((h2 _).2 (Or.inl rfl))) h3,hf.heap (Or.inl ((h2 _).2 (Or.inr (Or.inl rfl)))) h4,h5.fr hf (fun k hk=>Or.inl ((h2 k).2 (Or.inr (Or.inr hk))))⟩,h6.trans (hf.mono fun k _ hk=>Or.inr hk)⟩
theorem cellsOf {W:World} {b:Nat} {cs:Array Value} {ty:TypeId} (h:W.heap[b]?=some (.cells cs ty (0,0))) (i:Nat):W.cell? ⟨b,i,none⟩=cs[i]?:=by
 unfold World.cell?;simp [h]
theorem frozOf {W:World} {b:Nat} {cs:Array Value} {ty:TypeId} (h:W.heap[b]?=some (.cells cs ty (0,0))) (i:Nat):W.frozen? ⟨b,i,none⟩=false:=by
 unfold World.frozen?;simp [h]
theorem five (w:World) (A B C D E:Obj):Below w.heap.size w (((((w.alloc A).alloc B).alloc C).alloc D).alloc E)∧(((((w.alloc A).alloc B).alloc C).alloc D).alloc E).heap.size=w.heap.size+5∧(((((w.alloc A).alloc B).alloc C).alloc D).alloc E).heap[w.heap.size]?=some A∧(((((w.alloc A).alloc B).alloc C).alloc D).alloc E).heap[w.heap.size+1]?=some B∧(((((w.alloc A).alloc B).alloc C).alloc D).alloc E).heap[w.heap.size+2]?=some C∧(((((w.alloc A).alloc B).alloc C).alloc D).alloc E).heap[w.heap.size+3]?=some D∧(((((w.alloc A).alloc B).alloc C).alloc D).alloc E).heap[w.heap.size+4]?=some E:=by
 obtain ⟨W1,h1⟩:∃ W1,w.alloc A=W1:=⟨_,rfl⟩
 have n1:W1.heap.size=w.heap.size+1:=by rw [← h1];simp
 have e1:W1.heap[w.heap.size]?=some A:=by rw [← h1];exact heap_alloc_new _ _
 have B1:Below w.heap.size w W1:=by rw [← h1];exact below1 w A
 rw [h1]
 obtain ⟨W2,h2⟩:∃ W2,W1.alloc B=W2:=⟨_,rfl⟩
 have n2:W2.heap.size=w.heap.size+2:=by rw [← h2];simp [n1]
 have e2:W2.heap[w.heap.size+1]?=some B:=by rw [← h2,← n1];exact heap_alloc_new _ _
 have B2:Below W1.heap.size W1 W2:=by rw [← h2];exact below1 _ _
 rw [h2]
 obtain ⟨W3,h3⟩:∃ W3,W2.alloc C=W3:=⟨_,rfl⟩
 have n3:W3.heap.size=w.heap.size+3:=by rw [← h3];simp [n2]
 have e3:W3.heap[w.heap.size+2]?=some C:=by rw [← h3,← n2];exact heap_alloc_new _ _
 have B3:Below W2.heap.size W2 W3:=by rw [← h3];exact below1 _ _
 rw [h3]
 obtain ⟨W4,h4⟩:∃ W4,W3.alloc D=W4:=⟨_,rfl⟩
 have n4:W4.heap.size=w.heap.size+4:=by rw [← h4];simp [n3]
 have e4:W4.heap[w.heap.size+3]?=some D:=by rw [← h4,← n3];exact heap_alloc_new _ _
 have B4:Below W3.heap.size W3 W4:=by rw [← h4];exact below1 _ _
 rw [h4]
 obtain ⟨W5,h5⟩:∃ W5,W4.alloc E=W5:=⟨_,rfl⟩
 have n5:W5.heap.size=w.heap.size+5:=by rw [← h5];simp [n4]
 have e5:W5.heap[w.heap.size+4]?=some E:=by rw [← h5,← n4];exact heap_alloc_new _ _
 have B5:Below W4.heap.size W4 W5:=by rw [← h5];exact below1 _ _
 rw [h5]
 clear h1 h2 h3 h4 h5
 refine ⟨(((B1.trans (B2.mono (by omega))).trans (B3.mono (by omega))).trans (B4.mono (by omega))).trans (B5.mono (by omega)),n5,?_,?_,?_,?_,e5⟩
 ·exact (B5.block _ (by omega)).trans ((B4.block _ (by omega)).trans ((B3.block _ (by omega)).trans ((B2.block _ (by omega)).trans e1)))
 ·exact (B5.block _ (by omega)).trans ((B4.block _ (by omega)).trans ((B3.block _ (by omega)).trans e2))
 ·exact (B5.block _ (by omega)).trans ((B4.block _ (by omega)).trans e3)
 ·exact (B5.block _ (by omega)).trans e4
theorem wy_stored (W:World) (Rb Tb:Nat) (hne:Rb≠Tb) (fv ov:Value) (hr:W.heap[Rb]?=some (.cells #[.slice none 0 0,.slice none 0 0] 29 (0,0))) (ht:W.heap[Tb]?=some (.cells #[.bool false] 4 (0,0))) :
  (((W.setCell ⟨Rb,0,none⟩ fv).setCell ⟨Rb,1,none⟩ ov).setCell ⟨Tb,0,none⟩ (.bool true)).heap[Rb]?=some (.cells #[fv,ov] 29 (0,0))∧(((W.setCell ⟨Rb,0,none⟩ fv).setCell ⟨Rb,1,none⟩ ov).setCell ⟨Tb,0,none⟩ (.bool true)).heap[Tb]?=some (.cells #[.bool true] 4 (0,0))∧∀ C:Nat→Prop,¬ C Rb→¬ C Tb→Fr C W (((W.setCell ⟨Rb,0,none⟩ fv).setCell ⟨Rb,1,none⟩ ov).setCell ⟨Tb,0,none⟩ (.bool true)):=by
 refine ⟨?_,?_,fun C h1 h2=>(((Fr.refl C W).setCell _ h1).setCell _ h1).setCell _ h2⟩
 ·rw [Below.heap_setCell _ _ _ _ hne]
  exact (heap_setCell_same _ Rb 1 _ _ ov (heap_setCell_same W Rb 0 _ _ fv hr)).trans rfl
 ·refine (heap_setCell_same _ Tb 0 #[.bool false] _ (.bool true) ?_).trans rfl
  rw [Below.heap_setCell _ _ _ _ (Ne.symm hne),Below.heap_setCell _ _ _ _ (Ne.symm hne)]
  exact ht
theorem Tryz.szExW:(Tryz.prog.info? 29).map (·.size)=some 2:=by kernel_rfl
theorem wy_results {fn:Func} (h:fn.results=#[.cell 6 29,.cell 7 4]) (tmps:Array Value) (w:World) (Rb Tb:Nat) (fv ov:Value) (b:Bool) (h6:tmps.getD 6 undef=.pointer (some ⟨Rb,0,none⟩)) (h7:tmps.getD 7 undef=.pointer (some ⟨Tb,0,none⟩))
  (c0:w.cell? ⟨Rb,0,none⟩=some fv) (c1:w.cell? ⟨Rb,1,none⟩=some ov) (t0:w.cell? ⟨Tb,0,none⟩=some (.bool b)) :
  (results fn tmps).run Tryz.prog w=.ok (.tuple #[.agg #[fv,ov],.bool b]) w:=by
 have hl:(loadVar 29 ⟨Rb,0,none⟩).run Tryz.prog w=.ok (.agg #[fv,ov]) w:=by
  refine run_loadVar_mid w Rb 0 29 [fv,ov] _ (fun j v hv=>?_) Tryz.underlying29 rfl Tryz.szExW
  match j,hv with
  | 0,hv=>simp at hv;subst hv;exact c0
  | 1,hv=>simp at hv;subst hv;exact c1
  | j+2,hv=>simp at hv
 have h6':tmps[6]?.getD undef=.pointer (some ⟨Rb,0,none⟩):=by simpa using h6
 have h7':tmps[7]?.getD undef=.pointer (some ⟨Tb,0,none⟩):=by simpa using h7
 simp [results,h,h6',h7',asAddr,hl]
 simp [go_sem,t0]
set_option maxHeartbeats 4000000 in
set_option maxRecDepth 100000 in
set_option linter.unusedSimpArgs false in
theorem iwhyExec_any (a:Option Addr) (b o c:Nat) (ll:List (List M.D)) (t:Sn) (kind:Int) (w:World) (hl:ll.length≤1048576) (hls:∀ t∈ll,t.length≤1048576) (ht:t.Le 1048576) (h:DoSS w a b o ll) (hta:t.At w) :
  Calls Tryz.prog 20 #[.agg #[.slice a ll.length c],.agg #[.slice t.a1 t.l1.length t.c1,.slice t.a2 t.l2.length t.c2],.int .i64 kind] w fun e w'=>∃ v,e=.returned v∧WhyAns w w' (M.whyExec ll t.l1 t.l2 kind) v:=by
 obtain ⟨W0,hW0⟩:∃ W0,((((w.alloc (.cells #[.slice a ll.length c] 25)).alloc (.cells #[.slice t.a1 t.l1.length t.c1,.slice t.a2 t.l2.length t.c2] 45)).alloc (.cells #[.int .i64 kind] 3)).alloc (.cells #[.slice none 0 0,.slice none 0 0] 29)).alloc (.cells #[.bool false] 4)=W0:=⟨_,rfl⟩
 have hF5:=five w (.cells #[.slice a ll.length c] 25) (.cells #[.slice t.a1 t.l1.length t.c1,.slice t.a2 t.l2.length t.c2] 45) (.cells #[.int .i64 kind] 3) (.cells #[.slice none 0 0,.slice none 0 0] 29) (.cells #[.bool false] 4)
 rw [hW0] at hF5
 obtain ⟨b1,sz1,hP0,hS0,hK0,hR0,hT0⟩:=hF5
 have k1:W0.cell? ⟨w.heap.size,0,none⟩=some (.slice a ll.length c):=(cellsOf hP0 0).trans rfl
 have k2:W0.cell? ⟨w.heap.size+1,0,none⟩=some (.slice t.a1 t.l1.length t.c1)∧W0.cell? ⟨w.heap.size+1,1,none⟩=some (.slice t.a2 t.l2.length t.c2):=⟨(cellsOf hS0 0).trans rfl,(cellsOf hS0 1).trans rfl⟩
 have k3:W0.cell? ⟨w.heap.size+2,0,none⟩=some (.int .i64 kind):=(cellsOf hK0 0).trans rfl
 have C1:=iseenOk_any a b o c ll t W0 hl hls ht (h.below b1 (Nat.le_refl _)) (hta.below b1 (Nat.le_refl _))
 have NO:∀ (W:World) (d:List Deferred) (tm:Array Value),W.heap[w.heap.size+3]?=some (.cells #[.slice none 0 0,.slice none 0 0] 29 (0,0))→W.heap[w.heap.size+4]?=some (.cells #[.bool false] 4 (0,0))→Below w.heap.size w W→M.whyExec ll t.l1 t.l2 kind=none→tm.getD 6 undef=.pointer (some ⟨w.heap.size+3,0,none⟩)→tm.getD 7 undef=.pointer (some ⟨w.heap.size+4,0,none⟩) →
   bodyPostM Fence.wide 9 Tryz.prog Tryz.f20 (fun e w'=>∃ v,e=.returned v∧WhyAns w w' (M.whyExec ll t.l1 t.l2 kind) v) .ret { tmps:=tm,defers:=[] } (((W.setCell ⟨w.heap.size+3,0,none⟩ (.slice none 0 0)).setCell ⟨w.heap.size+3,1,none⟩ (.slice none 0 0)).setCell ⟨w.heap.size+4,0,none⟩ (.bool false)):=fun W d tm hr ht hb hx h6 h7=>by
  have r0:=(cellsOf hr 0).trans (show _=some (Value.slice none 0 0) from rfl)
  have r1:=(cellsOf hr 1).trans (show _=some (Value.slice none 0 0) from rfl)
  have t0:=(cellsOf ht 0).trans (show _=some (Value.bool false) from rfl)
  refine ⟨_,wy_results rfl _ _ (w.heap.size+3) (w.heap.size+4) (.slice none 0 0) (.slice none 0 0) false h6 h7 ?_ ?_ ?_,_,rfl,fun _=>rfl,fun x hx'=>by rw [hx] at hx';(cases hx'),((hb.setCell (by show w.heap.size≤w.heap.size+3;omega) _).setCell (by show w.heap.size≤w.heap.size+3;omega) _).setCell (by show w.heap.size≤w.heap.size+4;omega) _⟩
  ·simp [go_sem,r0,r1,t0]
  ·simp [go_sem,r0,r1,t0]
  ·simp [go_sem,r0,r1,t0]
 refine (callsIn_wide (n:=9)).1 ?_
 refine callsIn_of_wp_marks Tryz.func20 rfl trivial ?_ rfl
 simp only [Tryz.ntmps20,List.size_toArray,List.length_cons,List.length_nil,Nat.reduceAdd,Nat.reduceSub,Array.replicate_succ,Array.replicate_zero,List.push_toArray,List.append_toArray,List.nil_append,List.cons_append]
 gi_wp2_with fail
 refine ⟨trivial,(callsIn_wide.2 (isOrder_any kind W0)).mono ?_⟩
 cases hk:(decide (1≤kind)&&decide (kind≤3))
 ·rintro e W1 ⟨rfl,e1⟩
  subst e1
  have hx:M.whyExec ll t.l1 t.l2 kind=none:=by simp only [M.whyExec];rw [hk];rfl
  have hA:=fun tm=>NO W1 [] tm hR0 hT0 b1 hx
  have r0:=(cellsOf hR0 0).trans (show _=some (Value.slice none 0 0) from rfl)
  have r1:=(cellsOf hR0 1).trans (show _=some (Value.slice none 0 0) from rfl)
  have t0:=(cellsOf hT0 0).trans (show _=some (Value.bool false) from rfl)
  have fz:=frozOf hR0
  have ft:=frozOf hT0
  clear hk C1 NO hx hW0
  gi_wp2_with fail
  refine ⟨trivial,?_⟩
  gi_wp2_with fail
  exact hA _ rfl rfl
 ·rintro e W1 ⟨rfl,e1⟩
  subst e1
  gi_wp2_with fail
  refine ⟨trivial,(callsIn_wide.2 C1).mono ?_⟩
  have fz:=frozOf hR0
  have ft:=frozOf hT0
  cases hp:M.seenOk ll t.l1 t.l2
  ·rintro e W2 ⟨rfl,b2⟩
   have hx:M.whyExec ll t.l1 t.l2 kind=none:=by simp only [M.whyExec];rw [hp,Bool.and_false];rfl
   have hR2:=(b2.block _ (by omega)).trans hR0
   have hT2:=(b2.block _ (by omega)).trans hT0
   have hA:=fun tm=>NO W2 [] tm hR2 hT2 (b1.trans (b2.mono (by omega))) hx
   have r0:=(cellsOf hR2 0).trans (show _=some (Value.slice none 0 0) from rfl)
   have r1:=(cellsOf hR2 1).trans (show _=some (Value.slice none 0 0) from rfl)
   have t0:=(cellsOf hT2 0).trans (show _=some (Value.bool false) from rfl)
   have fz:=frozOf hR2
   have ft:=frozOf hT2
   clear hk C1 NO hx hW0
   gi_wp2_with fail
   exact hA _ rfl rfl
  ·rintro e W2 ⟨rfl,b2⟩
   have HX:Hid (M.whyExec ll t.l1 t.l2 kind=(M.ways (M.deeds ll)).find? (M.whyGood ll t.l1 t.l2 kind)):=by show _=_;simp only [M.whyExec];rw [hk,hp];rfl
   have hpg:M.prog ll=true:=(M.seenOk_len hp).1
   have hpl:=M.prog_le hpg
   have hwl:=M.ways_le2 hpg
   obtain ⟨kn,rfl⟩:∃ kn:Nat,kind=kn:=⟨kind.toNat,by simp only [Bool.and_eq_true,decide_eq_true_eq] at hk;omega⟩
   have hk13:1≤kn∧kn≤3:=by simp only [Bool.and_eq_true,decide_eq_true_eq] at hk;omega
   have bw1:=b1.trans (b2.mono (by omega))
   have q1:=(b2.cell (p:=⟨w.heap.size,0,none⟩) (by show w.heap.size < _;omega)).trans k1
   have hR2:=(b2.block _ (by omega)).trans hR0
   have hT2:=(b2.block _ (by omega)).trans hT0
   have hS2:=(b2.block _ (by omega)).trans hS0
   have hK2:=(b2.block _ (by omega)).trans hK0
   have s1:=b2.size
   have hta1:=hta.below bw1 (Nat.le_refl _)
   clear C1 hk k1 k2 k3 hP0 hS0 hK0 hR0 hT0 fz ft NO hW0
   gi_wp2_with fail
   have C2:=deedsOf_any a b o c ll W2 hpl.1 hpl.2 (h.below bw1 (Nat.le_refl _))
   refine ⟨trivial,(callsIn_wide.2 C2).mono ?_⟩
   rintro e W3 ⟨v3,rfl,ho3,b4⟩
   obtain ⟨va,g,cc,rfl,hde,hge,_⟩:=own_rs M.De.len ho3
   have hd1:=M.deeds_len hpl.1 hpl.2
   have hdlt:0 < (M.deeds ll).length→g < W3.heap.size∧W2.heap.size≤g:=fun h0=>⟨World.block_lt_of_cell? _ _ ((hde.row 0 h0 0 (by omega)).trans rfl),hge h0⟩
   have hq:WyOk (M.deeds ll) (M.firstW (M.deeds ll)):=WyOk.first (fun n x hx=>M.lr_lt2 ll n x hx)
   have s2:=b4.size
   have b5:=below1 W3 (.cells #[.slice va (M.deeds ll).length cc] 75)
   have bA:(W3.alloc (.cells #[.slice va (M.deeds ll).length cc] 75)).cell? ⟨W3.heap.size,0,none⟩=some (.slice va (M.deeds ll).length cc):=by simp
   have szA:(W3.alloc (.cells #[.slice va (M.deeds ll).length cc] 75)).heap.size=W3.heap.size+1:=by simp
   have b42:=b4.trans (b5.mono b4.size)
   have hdeA:=hde.below M.De.len b5 (Nat.le_refl _)
   clear C2 ho3 q1 hde
   gi_wp2_with fail
   generalize W3.alloc (.cells #[.slice va (M.deeds ll).length cc] 75)=WA at *
   have hc4:=ways_any va g cc (M.deeds ll) WA (by omega) hdeA
   refine ⟨trivial,(callsIn_wide.2 hc4).mono ?_⟩
   rintro e W4 ⟨f,rfl,hit,b6⟩
   have s4:=b6.size
   have b46:=b42.trans (b6.mono b42.size)
   have hR4:=(b46.block _ (by omega)).trans hR2
   have hT4:=(b46.block _ (by omega)).trans hT2
   have hS4:=(b46.block _ (by omega)).trans hS2
   have hK4:=(b46.block _ (by omega)).trans hK2
   have hta4:=hta1.below b46 (Nat.le_refl _)
   have qA4:=(b6.cell (p:=⟨W3.heap.size,0,none⟩) (by show W3.heap.size < _;omega)).trans bA
   have hde4:=hdeA.below M.De.len b6 (Nat.le_refl _)
   obtain ⟨gf,lb,rfl,eg,hseq⟩:=hit.seq hde4 (by omega) hq (D:=fun k=>k < W4.heap.size∧k≠w.heap.size+3∧k≠w.heap.size+4) (fun k hk hk'=>⟨hk',by omega,by omega⟩) (fun h0=>⟨by have:=hdlt h0;omega,by have:=hdlt h0;omega,by have:=hdlt h0;omega⟩) (fun k hk=>hk.1)
   have bw4:Below w.heap.size w W4:=bw1.trans (b46.mono bw1.size)
   have hgD:0 < (M.deeds ll).length→g < W4.heap.size∧g≠w.heap.size+3∧g≠w.heap.size+4:=fun h0=>⟨by have:=hdlt h0;omega,by have:=hdlt h0;omega,by have:=hdlt h0;omega⟩
   have ltA:W3.heap.size < W4.heap.size∧W3.heap.size≠w.heap.size+3∧W3.heap.size≠w.heap.size+4:=by omega
   have ltw:w.heap.size+5≤W4.heap.size:=by omega
   have htl:∀ k,BlkS t k→k < w.heap.size:=fun k hk=>hta.lt hk
   clear hit hc4 hge hdlt b2 b4 b5 b6 b42 b46 bw1 hdeA bA hR2 hT2 hS2 hK2 hta1 szA s4 s2 s1
   obtain ⟨Ab,hAb⟩:∃ Ab,W3.heap.size=Ab:=⟨_,rfl⟩
   rw [hAb] at qA4 ltA ⊢
   clear hAb
   gi_wp2_with fail
   refine rv_outer (n:=9) (a:=_) (D:=fun k=>k < W4.heap.size∧k≠w.heap.size+3∧k≠w.heap.size+4) (xs:=M.ways (M.deeds ll)) (w0:=W4) (C0:=fun k=>k=w.heap.size+3∨k=w.heap.size+4) rfl (by omega) (gf:=gf) (lb:=lb) rfl trivial eg (hseq 8) (Fr.refl _ _) (fun k hk=>hk.1) (V:=WayV (WyOk (M.deeds ll)))
    (fun x vs O W h=>by obtain ⟨⟨_,_,_,rfl,_,_⟩,_⟩:=h;rfl) (fun k hk=>?c0)
    (WhI (M.whyGood ll t.l1 t.l2 kn) (w.heap.size+3) (w.heap.size+4) W4) (WhX (M.whyGood ll t.l1 t.l2 kn) (w.heap.size+3) (w.heap.size+4) W4) (WhI.frames _ _ _ _) (fun c=>WhX.frames _ _ _ _ c) ?h0 ?round ?done ?stop
   case c0=>exact ⟨by omega,fun h=>by omega⟩
   case h0=>exact ⟨fun k=>Iff.rfl,hR4,hT4,(by show _=_;rfl),Fr.refl _ _⟩
   case done =>
    rintro C' W' hf hC ⟨hc,hr,ht',hno,hfr⟩ hK
    have r0:=(cellsOf hr 0).trans (show _=some (Value.slice none 0 0) from rfl)
    have r1:=(cellsOf hr 1).trans (show _=some (Value.slice none 0 0) from rfl)
    have t0:=(cellsOf ht' 0).trans (show _=some (Value.bool false) from rfl)
    have fz:=frozOf hr
    have ft:=frozOf ht'
    have hlt4:W4.heap.size < W'.heap.size:=(Array.getElem?_eq_some_iff.1 hK).1
    have sw4:=bw4.size
    have HN:Hid (M.whyExec ll t.l1 t.l2 kn=none):=by show _=_;rw [HX.out,hno.out]
    have hKs:(((W'.setCell ⟨w.heap.size+3,0,none⟩ (.slice none 0 0)).setCell ⟨w.heap.size+3,1,none⟩ (.slice none 0 0)).setCell ⟨w.heap.size+4,0,none⟩ (.bool false)).heap[W4.heap.size]?=some (.deferred (some [])):=by
     rw [Below.heap_setCell _ _ _ _ (by show W4.heap.size≠w.heap.size+4;omega),Below.heap_setCell _ _ _ _ (by show W4.heap.size≠w.heap.size+3;omega),Below.heap_setCell _ _ _ _ (by show W4.heap.size≠w.heap.size+3;omega)];exact hK
    have bF:Below w.heap.size w ((((W'.setCell ⟨w.heap.size+3,0,none⟩ (.slice none 0 0)).setCell ⟨w.heap.size+3,1,none⟩ (.slice none 0 0)).setCell ⟨w.heap.size+4,0,none⟩ (.bool false)).putObj W4.heap.size (.deferred none)):=by
     refine ⟨hf.os.trans bw4.os,hf.tape.trans bw4.tape,hf.output.trans bw4.output,by have:=hf.size;simp;omega,fun k hk=>?_⟩
     rw [World.putObj_heap_other (by omega),Below.heap_setCell _ _ _ _ (by show k≠w.heap.size+4;omega),Below.heap_setCell _ _ _ _ (by show k≠w.heap.size+3;omega),Below.heap_setCell _ _ _ _ (by show k≠w.heap.size+3;omega),hf.same k (by omega) (by omega)]
     exact bw4.block k hk
    have E0:((((W'.setCell ⟨w.heap.size+3,0,none⟩ (.slice none 0 0)).setCell ⟨w.heap.size+3,1,none⟩ (.slice none 0 0)).setCell ⟨w.heap.size+4,0,none⟩ (.bool false)).putObj W4.heap.size (.deferred none)).heap[w.heap.size+3]?=some (.cells #[.slice none 0 0,.slice none 0 0] 29 (0,0)):=by
     rw [World.putObj_heap_other (by omega),Below.heap_setCell _ _ _ _ (by show w.heap.size+3≠w.heap.size+4;omega)]
     exact (heap_setCell_same _ _ 1 _ _ _ (heap_setCell_same W' _ 0 _ _ _ hr)).trans rfl
    have E1:((((W'.setCell ⟨w.heap.size+3,0,none⟩ (.slice none 0 0)).setCell ⟨w.heap.size+3,1,none⟩ (.slice none 0 0)).setCell ⟨w.heap.size+4,0,none⟩ (.bool false)).putObj W4.heap.size (.deferred none)).heap[w.heap.size+4]?=some (.cells #[.bool false] 4 (0,0)):=by
     rw [World.putObj_heap_other (by omega)]
     refine (heap_setCell_same _ _ 0 #[.bool false] _ (.bool false) ?_).trans rfl
     rw [Below.heap_setCell _ _ _ _ (by show w.heap.size+4≠w.heap.size+3;omega),Below.heap_setCell _ _ _ _ (by show w.heap.size+4≠w.heap.size+3;omega)];exact ht'
    clear hseq HX hno hf hfr hC hc eg hgD
    gi_wp2_with fail
    refine ⟨by simp,.inl ⟨_,_,rfl,run_takeDeferred hKs,?_⟩⟩
    exact ⟨_,wy_results rfl _ _ (w.heap.size+3) (w.heap.size+4) (.slice none 0 0) (.slice none 0 0) false rfl rfl ((cellsOf E0 0).trans rfl) ((cellsOf E0 1).trans rfl) ((cellsOf E1 0).trans rfl),_,rfl,fun _=>rfl,fun x hx'=>by rw [HN.out] at hx';(cases hx'),bF⟩
   case stop =>
    rintro c pre C' W' hp hf hC ⟨rfl,⟨x,fv,ov,cs,hfd,hCx,hr,ht',hxw⟩,hfr⟩ hK
    have hlt4:W4.heap.size < W'.heap.size:=(Array.getElem?_eq_some_iff.1 hK).1
    have sw4:=bw4.size
    have HY:Hid (M.whyExec ll t.l1 t.l2 kn=some x):=by show _=_;rw [HX.out];exact M.find_pre hp hfd
    have E0:=(World.putObj_heap_other (w:=W') (o:=.deferred none) (show w.heap.size+3≠W4.heap.size by omega)).trans hr
    have E1:=(World.putObj_heap_other (w:=W') (o:=.deferred none) (show w.heap.size+4≠W4.heap.size by omega)).trans ht'
    have hblk:∀ k,Blks fv ov cs k→k≠W4.heap.size:=fun k hk e=>by
     have h1:=hC k ((hCx k).2 (Or.inr (Or.inr hk)))
     omega
    have hxF:Xw (W'.putObj W4.heap.size (.deferred none)) w.heap.size fv ov x.1 cs x.2:=(hxw.fr (O:=fun k=>k≠W4.heap.size) ((Fr.refl _ W').putObj _ (fun h=>h rfl)) hblk).mono (by omega)
    have bF:Below w.heap.size w (W'.putObj W4.heap.size (.deferred none)):=by
     refine ⟨hf.os.trans bw4.os,hf.tape.trans bw4.tape,hf.output.trans bw4.output,by have:=hf.size;simp;omega,fun k hk=>?_⟩
     rw [World.putObj_heap_other (by omega),hf.same k (by omega) (by omega)]
     exact bw4.block k hk
    clear hseq HX hf hfr hC hCx eg hgD hfd hxw hblk
    gi_wp2_with fail
    refine ⟨by simp,.inl ⟨_,_,rfl,run_takeDeferred hK,?_⟩⟩
    exact ⟨_,wy_results rfl _ _ (w.heap.size+3) (w.heap.size+4) fv ov true rfl rfl ((cellsOf E0 0).trans rfl) ((cellsOf E0 1).trans rfl) ((cellsOf E1 0).trans rfl),_,rfl,fun hx'=>by rw [HY.out] at hx';(cases hx'),fun y hy=>by rw [HY.out] at hy;obtain rfl:=Option.some.inj hy;exact ⟨fv,ov,cs,rfl,hxF⟩,bF⟩
   case round =>
    rintro l1 pre C1 x vs O W5 hb ⟨r1,hr1⟩ hCl hOl hpx ⟨hC,hRb,hTb,HNO,hfr⟩ hVx hO
    obtain ⟨⟨fv,ov,cs,rfl,hxw,hOb⟩,hqx⟩:=hVx
    have hmem:x∈M.ways (M.deeds ll):=by obtain ⟨t,ht⟩:=hpx;rw [← ht];simp
    have hok:M.execOk ll x.1 x.2=true:=M.ways_ok hpg hmem
    have hW:=M.wok_of hok
    have hY:=M.way_of hok
    have hOge:∀ k,Blks fv ov cs k→W4.heap.size≤k∧k < W5.heap.size:=fun k hk=>by
     have h1:=hO k ((hOb k).2 hk)
     have h2:=(hxw.blk_lt hk).2
     refine ⟨?_,h2⟩
     rcases Nat.lt_or_ge k W4.heap.size with h | h
     ·exfalso
      refine h1.2 ⟨h,fun e=>h1.1 ((hC k).2 (Or.inl e)),fun e=>h1.1 ((hC k).2 (Or.inr e))⟩
     ·exact h
    obtain ⟨a1,c1,rfl⟩:=own_slx hxw.from_
    obtain ⟨a2,c2,rfl⟩:=own_slx hxw.ord
    have hl1:l1 < W5.heap.size:=(Array.getElem?_eq_some_iff.1 hr1).1
    have hW45:=hfr.size
    gi_wp2
    refine ⟨.of_below ((Below.refl _ W5).alloc (Nat.le_refl _) _),fun Wb hfb=>?_⟩
    intro rb0 hrb
    have hW5b:Fr (fun k=>k≠l1) W5 Wb:=(Fr.of_below ((Below.refl _ W5).alloc (Nat.le_refl _) _)).trans hfb
    have cx0:Wb.cell? ⟨W5.heap.size,0,none⟩=some (.slice a1 x.1.length c1):=hfb.cell (by show W5.heap.size≠l1;omega) (by simp)
    have cx1:Wb.cell? ⟨W5.heap.size,1,none⟩=some (.slice a2 x.2.length c2):=hfb.cell (by show W5.heap.size≠l1;omega) (by simp)
    have hRl:w.heap.size+3≠l1:=fun e=>hCl ((hC l1).2 (Or.inl e.symm))
    have hTl:w.heap.size+4≠l1:=fun e=>hCl ((hC l1).2 (Or.inr e.symm))
    have hRb':=hW5b.heap hRl hRb
    have hTb':=hW5b.heap hTl hTb
    have hfb4:Fr (fun k=>k < W4.heap.size∧k≠w.heap.size+3∧k≠w.heap.size+4) W4 Wb:=hfr.trans (hW5b.mono fun k _ hk=>by omega)
    have cA:=hfb4.cell (p:=⟨Ab,0,none⟩) ltA qA4
    have cK:=(cellsOf (hfb4.heap (show w.heap.size+2 < W4.heap.size∧w.heap.size+2≠w.heap.size+3∧w.heap.size+2≠w.heap.size+4 by omega) hK4) 0).trans (show _=some (Value.int .i64 kn) from rfl)
    have hSb:=hfb4.heap (show w.heap.size+1 < W4.heap.size∧w.heap.size+1≠w.heap.size+3∧w.heap.size+1≠w.heap.size+4 by omega) hS4
    have cS0:=(cellsOf hSb 0).trans (show _=some (Value.slice t.a1 t.l1.length t.c1) from rfl)
    have cS1:=(cellsOf hSb 1).trans (show _=some (Value.slice t.a2 t.l2.length t.c2) from rfl)
    have htb:t.At Wb:=hta4.fr hfb4 (fun k hk=>by have:=htl k hk;exact ⟨by omega,by omega,by omega⟩)
    have hdb:=DeS.fr hde4 hfb4 hgD
    have hxb:=hxw.fr hW5b (fun k hk e=>hOl (e▸(hOb k).2 hk))
    obtain ⟨a1',fb,c1',a2',rb,c2',e1,e2,hF,hR⟩:=hxb.reads
    simp only [Value.slice.injEq] at e1 e2
    obtain ⟨rfl,_,rfl⟩:=e1
    obtain ⟨rfl,_,rfl⟩:=e2
    have s5b:=hW5b.size
    have sb:W5.heap.size < Wb.heap.size:=World.block_lt_of_cell? _ _ cx0
    have hrl:∀ r∈x.2,r.length≤1048576:=fun r hr=>by have:=hqx.row_le r hr;omega
    have HOH:Hid (M.orderHolds ll x.1 x.2 kn=(M.holdsA (M.netOf (M.deeds ll) x.1 x.2 0) (M.deeds ll).length&&M.waitsA (M.deeds ll).length (M.netOf (M.deeds ll) x.1 x.2 kn) (M.choices (M.deeds ll)))):=by
     show _=_
     unfold M.orderHolds
     rw [hok]
     have e1:decide ((1:Int)≤(kn:Int))=true:=by simpa using (by omega:(1:Int)≤kn)
     have e2:decide ((kn:Int)≤3)=true:=by simpa using (by omega:(kn:Int)≤3)
     rw [e1,e2]
     simp
    have C7:=fun (W:World) (hb:Below Wb.heap.size Wb W)=>wayHolds_any kn hk13.1 hk13.2 va g cc ll hpg a1 fb 0 c1 x.1 a2 rb 0 c2 x.2 W ⟨hdb.bel hb (Nat.le_refl _),hF.below hb (Nat.le_refl _),hR.below hb (Nat.le_refl _),M.deeds28 hpg,hW.len,hW.three,hrl,hW.run,hW.pl⟩
    rw [← HOH.out] at C7
    have CS:=fun (W:World) (hb:Below Wb.heap.size Wb W)=>iseen_any va g cc (M.deeds ll) a1 fb 0 c1 x.1 a2 rb 0 c2 x.2 W hY.len hY.inn hY.zero hY.fin (by omega) hY.three hrl hY.mem (hdb.bel hb (Nat.le_refl _)) (hF.below hb (Nat.le_refl _)) (hR.below hb (Nat.le_refl _))
    have hsl1:(M.seenR (M.deeds ll) x.1).length≤1048576:=by have:=M.seenR_len (M.deeds ll) x.1;omega
    have hsl2:(M.seenL (M.deeds ll) x.1 x.2).length≤1048576:=by rw [M.seenL,List.length_map,hY.three.out];omega
    have HSC:∀ W:World,Below Wb.heap.size Wb W→W.cell? ⟨Ab,0,none⟩=some (.slice va (M.deeds ll).length cc)∧W.cell? ⟨W5.heap.size,0,none⟩=some (.slice a1 x.1.length c1)∧W.cell? ⟨W5.heap.size,1,none⟩=some (.slice a2 x.2.length c2)∧W.cell? ⟨w.heap.size+1,0,none⟩=some (.slice t.a1 t.l1.length t.c1)∧W.cell? ⟨w.heap.size+1,1,none⟩=some (.slice t.a2 t.l2.length t.c2)∧W.cell? ⟨w.heap.size+2,0,none⟩=some (.int .i64 kn):=fun W hb =>
     ⟨(hb.cell (p:=⟨Ab,0,none⟩) (World.block_lt_of_cell? _ _ cA)).trans cA,(hb.cell (p:=⟨W5.heap.size,0,none⟩) sb).trans cx0,(hb.cell (p:=⟨W5.heap.size,1,none⟩) sb).trans cx1,(hb.cell (p:=⟨w.heap.size+1,0,none⟩) (World.block_lt_of_cell? _ _ cS0)).trans cS0,(hb.cell (p:=⟨w.heap.size+1,1,none⟩) (World.block_lt_of_cell? _ _ cS1)).trans cS1,(hb.cell (p:=⟨w.heap.size+2,0,none⟩) (World.block_lt_of_cell? _ _ cK)).trans cK⟩
    have FIN0:∀ W:World,Below Wb.heap.size Wb W→M.whyGood ll t.l1 t.l2 kn x=false→RvBody (WhI (M.whyGood ll t.l1 t.l2 kn) (w.heap.size+3) (w.heap.size+4) W4) (pre++[x]) C1 O W5 Wb W:=fun W b hg =>
     ⟨.of_below b,C1,fun k hk=>Or.inl hk,hC,(b.block _ (by omega)).trans hRb',(b.block _ (by omega)).trans hTb',(M.find_no HNO.out hg:List.find? _ _=_),hfb4.trans (.of_below b)⟩
    have FINX:∀ W:World,Below Wb.heap.size Wb W→M.whyGood ll t.l1 t.l2 kn x=true→(∀ i,W.frozen? ⟨w.heap.size+3,i,none⟩=false)∧(∀ i,W.frozen? ⟨w.heap.size+4,i,none⟩=false)∧W.cell? ⟨w.heap.size+3,0,none⟩=some (.slice none 0 0)∧W.cell? ⟨w.heap.size+3,1,none⟩=some (.slice none 0 0)∧W.cell? ⟨w.heap.size+4,0,none⟩=some (.bool false) ∧
      RvBody (WhX (M.whyGood ll t.l1 t.l2 kn) (w.heap.size+3) (w.heap.size+4) W4 .ret) (pre++[x]) C1 O W5 Wb (((W.setCell ⟨w.heap.size+3,0,none⟩ (.slice a1 x.1.length c1)).setCell ⟨w.heap.size+3,1,none⟩ (.slice a2 x.2.length c2)).setCell ⟨w.heap.size+4,0,none⟩ (.bool true)):=fun W b hg=>by
     have hr:=(b.block _ (by omega)).trans hRb'
     have ht':=(b.block _ (by omega)).trans hTb'
     obtain ⟨y1,y2,y3⟩:=wy_stored W (w.heap.size+3) (w.heap.size+4) (by omega) (.slice a1 x.1.length c1) (.slice a2 x.2.length c2) hr ht'
     have hxW:=(hxb.below b).base (B':=W4.heap.size) (fun k hk=>(hOge k hk).1)
     have hxZ:=hxW.fr (y3 (fun k=>k≠w.heap.size+3∧k≠w.heap.size+4) (fun h=>h.1 rfl) (fun h=>h.2 rfl)) (fun k hk=>by have:=(hOge k hk).1;exact ⟨by omega,by omega⟩)
     refine ⟨frozOf hr,frozOf ht',(cellsOf hr 0).trans rfl,(cellsOf hr 1).trans rfl,(cellsOf ht' 0).trans rfl,(Fr.of_below b).trans (y3 _ (fun h=>h.1 ((hC _).2 (Or.inl rfl))) (fun h=>h.1 ((hC _).2 (Or.inr rfl)))),fun k=>k=w.heap.size+3∨k=w.heap.size+4∨Blks (.slice a1 x.1.length c1) (.slice a2 x.2.length c2) cs k,fun k hk=>?_,rfl,⟨x,_,_,cs,M.find_yes HNO.out hg,fun k=>Iff.rfl,y1,y2,hxZ⟩,(hfb4.trans (.of_below b)).trans (y3 _ (fun h=>h.2.1 rfl) (fun h=>h.2.2 rfl))⟩
     rcases hk with hk | hk | hk
     ·exact Or.inl ((hC k).2 (Or.inl hk))
     ·exact Or.inl ((hC k).2 (Or.inr hk))
     ·exact Or.inr (Or.inl ((hOb k).2 hk))
    clear HOH hseq HX hO
    gi_wp2_with fail
    refine wpIn_region_round' (S:=fun W=>W.cell? ⟨Ab,0,none⟩=some (.slice va (M.deeds ll).length cc)∧W.cell? ⟨W5.heap.size,0,none⟩=some (.slice a1 x.1.length c1)∧W.cell? ⟨W5.heap.size,1,none⟩=some (.slice a2 x.2.length c2)∧W.cell? ⟨w.heap.size+1,0,none⟩=some (.slice t.a1 t.l1.length t.c1)∧W.cell? ⟨w.heap.size+1,1,none⟩=some (.slice t.a2 t.l2.length t.c2)∧W.cell? ⟨w.heap.size+2,0,none⟩=some (.int .i64 kn)) (by kernel_rfl) (by rintro ⟨_,_,h⟩;exact h) (by kernel_rfl) (HSC _ (Below.refl _ _).drew) (fun hH=>?_)
    have bn:Below Wb.heap.size Wb Wb.drew:=(Below.refl _ _).drew
    generalize Wb.drew=Wd at *
    refine tk 0 25 (.slice va (M.deeds ll).length cc) hH rfl rfl (by intro w' hSw;obtain ⟨u0,u1,u2,u3,u4,u5⟩:=hSw;go_simp) ?_
    simp only [Act.put,zqa,zqb,zqc]
    refine tk 1 26 (.agg #[.slice a1 x.1.length c1,.slice a2 x.2.length c2]) hH rfl rfl (by intro w' hSw;obtain ⟨u0,u1,u2,u3,u4,u5⟩:=hSw;go_simp) ?_
    simp only [Act.put,zqa,zqb,zqc]
    refine tk 3 28 (.agg #[.slice t.a1 t.l1.length t.c1,.slice t.a2 t.l2.length t.c2]) hH rfl rfl (by intro w' hSw;obtain ⟨u0,u1,u2,u3,u4,u5⟩:=hSw;go_simp) ?_
    simp only [Act.put,zqa,zqb,zqc]
    refine ry 2 rfl (fun K' hK=>?_)
    refine sg 27 rfl 57 #[.tmp 25,.tmp 26] rfl #[.slice va (M.deeds ll).length cc,.agg #[.slice a1 x.1.length c1,.slice a2 x.2.length c2]] (enters_of Tryz.func57 (by kernel_rfl) rfl) (CS Wd bn) ?_
    rintro e W7 ⟨s,rfl,hs1,hs2,hNS,bN⟩
    have HS1:Hid (s.l1=_):=hs1
    have HS2:Hid (s.l2=_):=hs2
    clear hs1 hs2
    refine ⟨_,rfl,?_⟩
    simp only [Act.put,zqa,zqb,zqc]
    have bm:=bn.trans (bN.mono bn.size)
    refine hK.out _ _ (HSC W7 bm) (fun hH7=>?_)
    clear hK K'
    have hsA:=hNS.at_
    have hsL:s.Le 1048576:=⟨by rw [HS1.out];exact hsl1,by rw [HS2.out];exact hsl2⟩
    have CC:=compareSeen_any s t W7 hsL ht hsA (htb.below bm (Nat.le_refl _))
    rw [HS1.out,HS2.out] at CC
    clear bN hNS
    refine ry 4 rfl (fun K' hK=>?_)
    refine sg 29 rfl 56 #[.tmp 27,.tmp 28] rfl #[.agg #[.slice s.a1 s.l1.length s.c1,.slice s.a2 s.l2.length s.c2],.agg #[.slice t.a1 t.l1.length t.c1,.slice t.a2 t.l2.length t.c2]] (enters_of Tryz.func56 (by kernel_rfl) rfl) (by rw [HS1.out,HS2.out];exact CC) ?_
    rintro e W8 ⟨rfl,hg8⟩
    refine ⟨_,rfl,?_⟩
    simp only [Act.put,zqa,zqb,zqc]
    have b8:=bm.trans (hg8.bel.mono bm.size)
    refine hK.out _ _ (HSC W8 b8) (fun hH8=>?_)
    clear hK K' hH7 CC hg8 bm bn hsA hsL HS1 HS2
    obtain ⟨z,hz⟩:∃ z,M.cmpS (M.seenR (M.deeds ll) x.1) (M.seenL (M.deeds ll) x.1 x.2) t.l1 t.l2=z:=⟨_,rfl⟩
    have HZ:Hid (M.cmpS (M.seenR (M.deeds ll) x.1) (M.seenL (M.deeds ll) x.1 x.2) t.l1 t.l2=z):=hz
    rw [hz]
    clear hz
    by_cases h0:z=0
    ·subst h0
     refine tk 5 30 (.bool true) hH8 rfl rfl (by intro w' hSw;obtain ⟨u0,u1,u2,u3,u4,u5⟩:=hSw;go_simp) ?_
     simp only [Act.put,zqa,zqb,zqc]
     refine tk 6 31 (.bool true) hH8 rfl rfl (by intro w' hSw;obtain ⟨u0,u1,u2,u3,u4,u5⟩:=hSw;go_simp) ?_
     simp only [Act.put,zqa,zqb,zqc]
     refine tk 7 32 (.slice va (M.deeds ll).length cc) hH8 rfl rfl (by intro w' hSw;obtain ⟨u0,u1,u2,u3,u4,u5⟩:=hSw;go_simp) ?_
     simp only [Act.put,zqa,zqb,zqc]
     refine tk 8 33 (.agg #[.slice a1 x.1.length c1,.slice a2 x.2.length c2]) hH8 rfl rfl (by intro w' hSw;obtain ⟨u0,u1,u2,u3,u4,u5⟩:=hSw;go_simp) ?_
     simp only [Act.put,zqa,zqb,zqc]
     refine tk 9 34 (.agg #[.slice va (M.deeds ll).length cc,.slice a1 x.1.length c1,.slice a2 x.2.length c2]) hH8 rfl rfl (by intro w' hSw;obtain ⟨u0,u1,u2,u3,u4,u5⟩:=hSw;go_simp) ?_
     simp only [Act.put,zqa,zqb,zqc]
     refine tk 10 35 (.int .i64 kn) hH8 rfl rfl (by intro w' hSw;obtain ⟨u0,u1,u2,u3,u4,u5⟩:=hSw;go_simp) ?_
     simp only [Act.put,zqa,zqb,zqc]
     refine ry 11 rfl (fun K' hK=>?_)
     refine sg 36 rfl 48 #[.tmp 34,.tmp 35] rfl #[.agg #[.slice va (M.deeds ll).length cc,.slice a1 x.1.length c1,.slice a2 x.2.length c2],.int .i64 kn] (enters_of Tryz.func48 (by kernel_rfl) rfl) (C7 W8 b8) ?_
     rintro e W9 ⟨rfl,b9⟩
     refine ⟨_,rfl,?_⟩
     simp only [Act.put,zqa,zqb,zqc]
     have bt:=b8.trans (b9.mono b8.size)
     refine hK.out _ _ (HSC W9 bt) (fun hH9=>?_)
     clear hK K' hH8 b8 b9
     have HW:Hid (M.whyGood ll t.l1 t.l2 kn x=M.orderHolds ll x.1 x.2 kn):=by show _=_;unfold M.whyGood;rw [HZ.out];rfl
     obtain ⟨r,hr⟩:∃ r,M.orderHolds ll x.1 x.2 kn=r:=⟨_,rfl⟩
     rw [hr] at HW ⊢
     clear hr
     refine tk 12 37 (.bool r) hH9 rfl rfl (by intro w' hSw;obtain ⟨u0,u1,u2,u3,u4,u5⟩:=hSw;go_simp) ?_
     simp only [Act.put,zqa,zqb,zqc]
     refine wpAnyH_done (by kernel_rfl) ?_ _
     obtain ⟨u0,u1,u2,u3,u4,u5⟩:=hH9
     cases r
     ·have FIN:=FIN0 W9 bt HW.out
      clear HZ u3 u4 u5
      gi_wp2_with fail
      exact FIN
     ·obtain ⟨fz,ft,r0,r1,t0,FIN⟩:=FINX W9 bt HW.out
      clear HZ u3 u4 u5
      gi_wp2_with fail
      exact FIN
    ·have HW:M.whyGood ll t.l1 t.l2 kn x=false:=by unfold M.whyGood;rw [HZ.out];simp [h0]
     have FIN:=FIN0 W8 b8 HW
     clear HW HZ
     refine tk 5 30 (.bool false) hH8 rfl rfl (by intro w' hSw;clear hSw;(first | (go_simp;done) | (go_simp;simp [h0]) | simp [go_sem,h0])) ?_
     simp only [Act.put,zqa,zqb,zqc]
     refine tk 6 31 (.bool false) hH8 rfl rfl (by intro w' hSw;obtain ⟨u0,u1,u2,u3,u4,u5⟩:=hSw;go_simp) ?_
     simp only [Act.put,zqa,zqb,zqc]
     refine tz 7 32 hH8 rfl rfl ?_
     simp only [Act.put,zqa,zqb,zqc]
     refine tz 8 33 hH8 rfl rfl ?_
     simp only [Act.put,zqa,zqb,zqc]
     refine tz 9 34 hH8 rfl rfl ?_
     simp only [Act.put,zqa,zqb,zqc]
     refine tz 10 35 hH8 rfl rfl ?_
     simp only [Act.put,zqa,zqb,zqc]
     refine tz 11 36 hH8 rfl rfl ?_
     simp only [Act.put,zqa,zqb,zqc]
     refine tk 12 37 (.bool false) hH8 rfl rfl (by intro w' hSw;obtain ⟨u0,u1,u2,u3,u4,u5⟩:=hSw;go_simp) ?_
     simp only [Act.put,zqa,zqb,zqc]
     refine wpAnyH_done (by kernel_rfl) ?_ _
     clear hH8
     gi_wp2_with fail
     exact FIN
end
section
open Go.RowKit
abbrev Y3:=Value × Value × List Value
end
end Go.Proofs.YtmhpgdliaclokaaGreat
