/- What one may not think of: impl's oddOf and ShapeOdd, spec's ShapeOdd. No condition. What is odd of shapes, by each order: plainly, by counting. No condition. -/
import Derived.Deep.OwnRows
import Derived.Test.YtnddmlgnngdaoaaGreatDoorRows
import Derived.Test.YtnddmlgnngdaoaaGreatDoorQsap
import Derived.Test.YtnddmlgnngdaoaaGreatDoorQsbf
namespace Go.Proofs.YtnddmlgnngdaoaaGreatDoor
section
open Go.RowKit
def M.oddR (s:Int):List Int:=if s=1 then [0,0] else if s=2 then [1,0] else if s=3 then [1,1] else if s=4 then [1,0] else if s=6 then [1,0] else []
def M.oddL (s:Int):List Int:=if s=1 then [1,1,0] else if s=2 then [1,1,0] else if s=3 then [1,1,0] else if s=4 then [1,0,0] else if s=5 then [2,2,0] else if s=6 then [1,1,0] else []
theorem own_litI {w:World} {B:Nat} (l:List Int) {cs:Array Value} (hB:B≤w.heap.size) (hcs:cs.toList=nums l) (hn:l.length≤1000):(w.alloc (.cells cs 3)).ownsRow B 3 1 (.slice (some ⟨w.heap.size,0,none⟩) l.length l.length) l.length (nums l) :=
 ⟨by simp [nums],.inr ⟨_,l.length,cs,rfl,hB,heap_alloc_new w _,Nat.le_refl _,by unfold maxLen;omega,by rw [← Array.length_toList,hcs];simp [nums],by rw [hcs,Nat.mul_one,List.take_of_length_le (by simp [nums])]⟩⟩
theorem ts_lit {w W:World} (r1 r2:List Int) {c1 c2:Array Value} (hb:Below w.heap.size w W) (h1:c1.toList=nums r1) (h2:c2.toList=nums r2) (n1:r1.length≤1000) (n2:r2.length≤1000) :
  TsAns w ((W.alloc (.cells c1 3)).alloc (.cells c2 3)) (.slice (some ⟨W.heap.size,0,none⟩) r1.length r1.length) (.slice (some ⟨W.heap.size+1,0,none⟩) r2.length r2.length) r1 r2:=by
 have R1:=ownsRow_below (own_litI (w:=W) (B:=w.heap.size) r1 hb.size h1 n1) (below1 _ (.cells c2 3))
 have R2:=own_litI (w:=W.alloc (.cells c1 3)) (B:=w.heap.size) r2 (by have:=hb.size;simp;omega) h2 n2
 rw [World.size_alloc] at R2
 have bb:=(hb.alloc hb.size (.cells c1 3)).alloc (hb.alloc hb.size (.cells c1 3)).size (.cells c2 3)
 refine ⟨R1,R2,?_,bb⟩
 intro k hk e
 simp [Value.ownBlock] at hk e
 omega
theorem ts_lit1 {w W:World} (r2:List Int) {c2:Array Value} (hb:Below w.heap.size w W) (h2:c2.toList=nums r2) (n2:r2.length≤1000) :
  TsAns w (W.alloc (.cells c2 3)) (.slice none 0 0) (.slice (some ⟨W.heap.size,0,none⟩) r2.length r2.length) [] r2:=by
 have R2:=own_litI (w:=W) (B:=w.heap.size) r2 hb.size h2 n2
 have bb:=hb.alloc hb.size (.cells c2 3)
 refine ⟨World.ownsRow_nil _ _ _ _,R2,?_,bb⟩
 intro k hk e
 simp [Value.ownBlock] at hk
theorem Slot2.belo {w w':World} {b:Nat} {x y:Value} (h:Slot2 w b x y) (hb:Below w.heap.size w w'):Slot2 w' b x y:=h.of (hb.block b h.lt)
theorem ts_none {w W:World} (hb:Below w.heap.size w W):TsAns w W (.slice none 0 0) (.slice none 0 0) [] [] :=
 ⟨World.ownsRow_nil _ _ _ _,World.ownsRow_nil _ _ _ _,fun k hk=>by simp [Value.ownBlock] at hk,hb⟩
theorem as_cross_cross (W:World) (v:Value):(Instr.typeAssert (.iface 87 v) 52 87 true).run Tryz.prog W=.ok (.tuple #[v,.bool true]) W:=by kernel_rfl
theorem as_pass_cross (W:World) (v:Value):(Instr.typeAssert (.iface 88 v) 52 87 true).run Tryz.prog W=.ok (.tuple #[.agg #[],.bool false]) W:=by kernel_rfl
theorem as_pass_pass (W:World) (v:Value):(Instr.typeAssert (.iface 88 v) 52 88 true).run Tryz.prog W=.ok (.tuple #[v,.bool true]) W:=by kernel_rfl
theorem as_pass_wait (W:World) (v:Value):(Instr.typeAssert (.iface 88 v) 52 92 true).run Tryz.prog W=.ok (.tuple #[.agg #[],.bool false]) W:=by kernel_rfl
theorem as_round_cross (W:World) (v:Value):(Instr.typeAssert (.iface 89 v) 52 87 true).run Tryz.prog W=.ok (.tuple #[.agg #[],.bool false]) W:=by kernel_rfl
theorem as_round_pass (W:World) (v:Value):(Instr.typeAssert (.iface 89 v) 52 88 true).run Tryz.prog W=.ok (.tuple #[.agg #[],.bool false]) W:=by kernel_rfl
theorem as_round_round (W:World) (v:Value):(Instr.typeAssert (.iface 89 v) 52 89 true).run Tryz.prog W=.ok (.tuple #[v,.bool true]) W:=by kernel_rfl
theorem as_round_wait (W:World) (v:Value):(Instr.typeAssert (.iface 89 v) 52 92 true).run Tryz.prog W=.ok (.tuple #[.agg #[],.bool false]) W:=by kernel_rfl
theorem as_twice_cross (W:World) (v:Value):(Instr.typeAssert (.iface 90 v) 52 87 true).run Tryz.prog W=.ok (.tuple #[.agg #[],.bool false]) W:=by kernel_rfl
theorem as_twice_pass (W:World) (v:Value):(Instr.typeAssert (.iface 90 v) 52 88 true).run Tryz.prog W=.ok (.tuple #[.agg #[],.bool false]) W:=by kernel_rfl
theorem as_twice_round (W:World) (v:Value):(Instr.typeAssert (.iface 90 v) 52 89 true).run Tryz.prog W=.ok (.tuple #[.agg #[],.bool false]) W:=by kernel_rfl
theorem as_twice_twice (W:World) (v:Value):(Instr.typeAssert (.iface 90 v) 52 90 true).run Tryz.prog W=.ok (.tuple #[v,.bool true]) W:=by kernel_rfl
theorem as_twice_wait (W:World) (v:Value):(Instr.typeAssert (.iface 90 v) 52 92 true).run Tryz.prog W=.ok (.tuple #[.agg #[],.bool false]) W:=by kernel_rfl
theorem as_four_cross (W:World) (v:Value):(Instr.typeAssert (.iface 91 v) 52 87 true).run Tryz.prog W=.ok (.tuple #[.agg #[],.bool false]) W:=by kernel_rfl
theorem as_four_pass (W:World) (v:Value):(Instr.typeAssert (.iface 91 v) 52 88 true).run Tryz.prog W=.ok (.tuple #[.agg #[],.bool false]) W:=by kernel_rfl
theorem as_four_round (W:World) (v:Value):(Instr.typeAssert (.iface 91 v) 52 89 true).run Tryz.prog W=.ok (.tuple #[.agg #[],.bool false]) W:=by kernel_rfl
theorem as_four_twice (W:World) (v:Value):(Instr.typeAssert (.iface 91 v) 52 90 true).run Tryz.prog W=.ok (.tuple #[.agg #[],.bool false]) W:=by kernel_rfl
theorem as_four_four (W:World) (v:Value):(Instr.typeAssert (.iface 91 v) 52 91 true).run Tryz.prog W=.ok (.tuple #[v,.bool true]) W:=by kernel_rfl
theorem as_four_wait (W:World) (v:Value):(Instr.typeAssert (.iface 91 v) 52 92 true).run Tryz.prog W=.ok (.tuple #[.agg #[],.bool false]) W:=by kernel_rfl
theorem as_wait_cross (W:World) (v:Value):(Instr.typeAssert (.iface 92 v) 52 87 true).run Tryz.prog W=.ok (.tuple #[.agg #[],.bool false]) W:=by kernel_rfl
theorem as_wait_pass (W:World) (v:Value):(Instr.typeAssert (.iface 92 v) 52 88 true).run Tryz.prog W=.ok (.tuple #[.agg #[],.bool false]) W:=by kernel_rfl
theorem as_wait_wait (W:World) (v:Value):(Instr.typeAssert (.iface 92 v) 52 92 true).run Tryz.prog W=.ok (.tuple #[v,.bool true]) W:=by kernel_rfl
set_option maxHeartbeats 1000000 in
set_option maxRecDepth 100000 in
theorem odd_cross (w:World) :
  Calls Tryz.prog 21 #[.iface 87 (.agg #[])] w fun e w'=>∃ v1 v2,e=.returned (.agg #[v1,v2])∧TsAns w w' v1 v2 [0,0] [1,1,0]:=by
 have a0:=fun W=>as_cross_cross W (.agg #[])
 go_enter Tryz.func21,Tryz.ntmps21
 go_wp2_with fail
 have T:=ts_lit (w:=w) [0,0] [1,1,0] (c1:=#[.int .i64 0,.int .i64 0]) (c2:=#[.int .i64 1,.int .i64 1,.int .i64 0]) (below1 w (.cells #[.slice (some ⟨w.heap.size+1,0,none⟩) 2 2,.slice (some ⟨w.heap.size+1+1,0,none⟩) 3 3] 33)) rfl rfl (by simp) (by simp)
 simp only [World.size_alloc] at T
 go_returns
 exact ⟨_,_,rfl,T⟩
set_option maxHeartbeats 1000000 in
set_option maxRecDepth 100000 in
theorem odd_pass (w:World) :
  Calls Tryz.prog 21 #[.iface 88 (.agg #[])] w fun e w'=>∃ v1 v2,e=.returned (.agg #[v1,v2])∧TsAns w w' v1 v2 [1,0] [1,1,0]:=by
 have a0:=fun W=>as_pass_cross W (.agg #[])
 have a1:=fun W=>as_pass_pass W (.agg #[])
 have a2:=fun W=>as_pass_wait W (.agg #[])
 go_enter Tryz.func21,Tryz.ntmps21
 go_wp2_with fail
 have T:=ts_lit (w:=w) [1,0] [1,1,0] (c1:=#[.int .i64 1,.int .i64 0]) (c2:=#[.int .i64 1,.int .i64 1,.int .i64 0]) (below1 w (.cells #[.slice (some ⟨w.heap.size+1,0,none⟩) 2 2,.slice (some ⟨w.heap.size+1+1,0,none⟩) 3 3] 33)) rfl rfl (by simp) (by simp)
 simp only [World.size_alloc] at T
 go_returns
 exact ⟨_,_,rfl,T⟩
set_option maxHeartbeats 1000000 in
set_option maxRecDepth 100000 in
theorem odd_round (w:World) :
  Calls Tryz.prog 21 #[.iface 89 (.agg #[])] w fun e w'=>∃ v1 v2,e=.returned (.agg #[v1,v2])∧TsAns w w' v1 v2 [1,1] [1,1,0]:=by
 have a0:=fun W=>as_round_cross W (.agg #[])
 have a1:=fun W=>as_round_pass W (.agg #[])
 have a2:=fun W=>as_round_wait W (.agg #[])
 have a3:=fun W=>as_round_round W (.agg #[])
 go_enter Tryz.func21,Tryz.ntmps21
 go_wp2_with fail
 have T:=ts_lit (w:=w) [1,1] [1,1,0] (c1:=#[.int .i64 1,.int .i64 1]) (c2:=#[.int .i64 1,.int .i64 1,.int .i64 0]) (below1 w (.cells #[.slice (some ⟨w.heap.size+1,0,none⟩) 2 2,.slice (some ⟨w.heap.size+1+1,0,none⟩) 3 3] 33)) rfl rfl (by simp) (by simp)
 simp only [World.size_alloc] at T
 go_returns
 exact ⟨_,_,rfl,T⟩
set_option maxHeartbeats 1000000 in
set_option maxRecDepth 100000 in
theorem odd_twice (w:World) :
  Calls Tryz.prog 21 #[.iface 90 (.agg #[])] w fun e w'=>∃ v1 v2,e=.returned (.agg #[v1,v2])∧TsAns w w' v1 v2 [1,0] [1,0,0]:=by
 have a0:=fun W=>as_twice_cross W (.agg #[])
 have a1:=fun W=>as_twice_pass W (.agg #[])
 have a2:=fun W=>as_twice_wait W (.agg #[])
 have a3:=fun W=>as_twice_round W (.agg #[])
 have a4:=fun W=>as_twice_twice W (.agg #[])
 go_enter Tryz.func21,Tryz.ntmps21
 go_wp2_with fail
 have T:=ts_lit (w:=w) [1,0] [1,0,0] (c1:=#[.int .i64 1,.int .i64 0]) (c2:=#[.int .i64 1,.int .i64 0,.int .i64 0]) (below1 w (.cells #[.slice (some ⟨w.heap.size+1,0,none⟩) 2 2,.slice (some ⟨w.heap.size+1+1,0,none⟩) 3 3] 33)) rfl rfl (by simp) (by simp)
 simp only [World.size_alloc] at T
 go_returns
 exact ⟨_,_,rfl,T⟩
set_option maxHeartbeats 1000000 in
set_option maxRecDepth 100000 in
theorem odd_four (w:World) :
  Calls Tryz.prog 21 #[.iface 91 (.agg #[])] w fun e w'=>∃ v1 v2,e=.returned (.agg #[v1,v2])∧TsAns w w' v1 v2 [] [2,2,0]:=by
 have a0:=fun W=>as_four_cross W (.agg #[])
 have a1:=fun W=>as_four_pass W (.agg #[])
 have a2:=fun W=>as_four_wait W (.agg #[])
 have a3:=fun W=>as_four_round W (.agg #[])
 have a4:=fun W=>as_four_twice W (.agg #[])
 have a5:=fun W=>as_four_four W (.agg #[])
 go_enter Tryz.func21,Tryz.ntmps21
 go_wp2_with fail
 have T:=ts_lit1 (w:=w) [2,2,0] (c2:=#[.int .i64 2,.int .i64 2,.int .i64 0]) (below1 w (.cells #[.slice none 0 0,.slice (some ⟨w.heap.size+1,0,none⟩) 3 3] 33)) rfl (by simp)
 simp only [World.size_alloc] at T
 go_returns
 exact ⟨_,_,rfl,T⟩
set_option maxHeartbeats 1000000 in
set_option maxRecDepth 100000 in
theorem odd_wait (w:World) :
  Calls Tryz.prog 21 #[.iface 92 (.agg #[])] w fun e w'=>∃ v1 v2,e=.returned (.agg #[v1,v2])∧TsAns w w' v1 v2 [1,0] [1,1,0]:=by
 have a0:=fun W=>as_wait_cross W (.agg #[])
 have a1:=fun W=>as_wait_pass W (.agg #[])
 have a2:=fun W=>as_wait_wait W (.agg #[])
 go_enter Tryz.func21,Tryz.ntmps21
 go_wp2_with fail
 have T:=ts_lit (w:=w) [1,0] [1,1,0] (c1:=#[.int .i64 1,.int .i64 0]) (c2:=#[.int .i64 1,.int .i64 1,.int .i64 0]) (below1 w (.cells #[.slice (some ⟨w.heap.size+1,0,none⟩) 2 2,.slice (some ⟨w.heap.size+1+1,0,none⟩) 3 3] 33)) rfl rfl (by simp) (by simp)
 simp only [World.size_alloc] at T
 go_returns
 exact ⟨_,_,rfl,T⟩
def M.oddOk (s:Int):Bool:=decide (1≤s)&&decide (s≤6)
theorem TsAns.box {w W W':World} {v1 v2:Value} {r1 r2:List Int} (h:TsAns W W' v1 v2 r1 r2) (hb:Below w.heap.size w W) {X:Nat} (hX:w.heap.size≤X) (hXW:X < W.heap.size) (u1 u2:Value):TsAns w ((W'.setCell ⟨X,0,none⟩ u1).setCell ⟨X,1,none⟩ u2) v1 v2 r1 r2:=by
 have g1:=own_ge h.o1
 have g2:=own_ge h.o2
 refine ⟨ownsRow_mono (ownsRow_setCell_other (ownsRow_setCell_other h.o1 (a:=⟨X,0,none⟩) ?_ _) (a:=⟨X,1,none⟩) ?_ _) hb.size,ownsRow_mono (ownsRow_setCell_other (ownsRow_setCell_other h.o2 (a:=⟨X,0,none⟩) ?_ _) (a:=⟨X,1,none⟩) ?_ _) hb.size,h.ap,((hb.trans (h.bel.mono hb.size)).setCell hX _).setCell hX _⟩
 ·intro e;have:=g1 X e;omega
 ·intro e;have:=g1 X e;omega
 ·intro e;have:=g2 X e;omega
 ·intro e;have:=g2 X e;omega
set_option maxHeartbeats 1000000 in
set_option maxRecDepth 100000 in
theorem iodd_any (s:Int) (w:World) :
  Calls Tryz.prog 8 #[.int .i64 s] w fun e w'=>∃ v1 v2,e=.returned (.tuple #[.agg #[v1,v2],.bool (M.oddOk s)])∧TsAns w w' v1 v2 (M.oddR s) (M.oddL s):=by
 have hb:=below1 w (.cells #[.slice none 0 0,.slice none 0 0] 33)
 have hlt:w.heap.size < (w.alloc (.cells #[.slice none 0 0,.slice none 0 0] 33)).heap.size:=by simp
 have hS:Slot2 (w.alloc (.cells #[.slice none 0 0,.slice none 0 0] 33)) w.heap.size (.slice none 0 0) (.slice none 0 0):=⟨heap_alloc_new w _⟩
 by_cases h1:s=1
 ·subst h1
  go_enter Tryz.func8,Tryz.ntmps8
  go_wp2_with fail
  refine (formOf_any 1 _).mono ?_
  rintro e w0 ⟨rfl,rfl⟩
  go_wp2_with fail
  refine (odd_cross _).mono ?_
  rintro e w1 ⟨v1,v2,rfl,hT⟩
  obtain ⟨x1,y1,rfl⟩:=own_slx hT.o1
  obtain ⟨x2,y2,rfl⟩:=own_slx hT.o2
  simp only [List.length_cons,List.length_nil,Nat.zero_add,Nat.reduceAdd] at hT ⊢
  have hS1:=hS.belo hT.bel
  have c0:=hS1.c0
  have c1:=hS1.c1
  have cf:=hS1.fz
  have hS2:=(hS1.set0 (.slice x1 2 y1)).set1 (.slice x2 3 y2)
  have d0:=hS2.c0
  have d1:=hS2.c1
  go_wp2_with fail
  exact bodyPost_ret (v:=.tuple #[.agg #[.slice x1 2 y1,.slice x2 3 y2],.bool true]) (by simp [results,Tryz.results8,go_sem,d0,d1]) rfl ⟨_,_,rfl,hT.box hb (Nat.le_refl _) hlt _ _⟩
 by_cases h2:s=2
 ·subst h2
  go_enter Tryz.func8,Tryz.ntmps8
  go_wp2_with fail
  refine (formOf_any 2 _).mono ?_
  rintro e w0 ⟨rfl,rfl⟩
  go_wp2_with fail
  refine (odd_pass _).mono ?_
  rintro e w1 ⟨v1,v2,rfl,hT⟩
  obtain ⟨x1,y1,rfl⟩:=own_slx hT.o1
  obtain ⟨x2,y2,rfl⟩:=own_slx hT.o2
  simp only [List.length_cons,List.length_nil,Nat.zero_add,Nat.reduceAdd] at hT ⊢
  have hS1:=hS.belo hT.bel
  have c0:=hS1.c0
  have c1:=hS1.c1
  have cf:=hS1.fz
  have hS2:=(hS1.set0 (.slice x1 2 y1)).set1 (.slice x2 3 y2)
  have d0:=hS2.c0
  have d1:=hS2.c1
  go_wp2_with fail
  exact bodyPost_ret (v:=.tuple #[.agg #[.slice x1 2 y1,.slice x2 3 y2],.bool true]) (by simp [results,Tryz.results8,go_sem,d0,d1]) rfl ⟨_,_,rfl,hT.box hb (Nat.le_refl _) hlt _ _⟩
 by_cases h3:s=3
 ·subst h3
  go_enter Tryz.func8,Tryz.ntmps8
  go_wp2_with fail
  refine (formOf_any 3 _).mono ?_
  rintro e w0 ⟨rfl,rfl⟩
  go_wp2_with fail
  refine (odd_round _).mono ?_
  rintro e w1 ⟨v1,v2,rfl,hT⟩
  obtain ⟨x1,y1,rfl⟩:=own_slx hT.o1
  obtain ⟨x2,y2,rfl⟩:=own_slx hT.o2
  simp only [List.length_cons,List.length_nil,Nat.zero_add,Nat.reduceAdd] at hT ⊢
  have hS1:=hS.belo hT.bel
  have c0:=hS1.c0
  have c1:=hS1.c1
  have cf:=hS1.fz
  have hS2:=(hS1.set0 (.slice x1 2 y1)).set1 (.slice x2 3 y2)
  have d0:=hS2.c0
  have d1:=hS2.c1
  go_wp2_with fail
  exact bodyPost_ret (v:=.tuple #[.agg #[.slice x1 2 y1,.slice x2 3 y2],.bool true]) (by simp [results,Tryz.results8,go_sem,d0,d1]) rfl ⟨_,_,rfl,hT.box hb (Nat.le_refl _) hlt _ _⟩
 by_cases h4:s=4
 ·subst h4
  go_enter Tryz.func8,Tryz.ntmps8
  go_wp2_with fail
  refine (formOf_any 4 _).mono ?_
  rintro e w0 ⟨rfl,rfl⟩
  go_wp2_with fail
  refine (odd_twice _).mono ?_
  rintro e w1 ⟨v1,v2,rfl,hT⟩
  obtain ⟨x1,y1,rfl⟩:=own_slx hT.o1
  obtain ⟨x2,y2,rfl⟩:=own_slx hT.o2
  simp only [List.length_cons,List.length_nil,Nat.zero_add,Nat.reduceAdd] at hT ⊢
  have hS1:=hS.belo hT.bel
  have c0:=hS1.c0
  have c1:=hS1.c1
  have cf:=hS1.fz
  have hS2:=(hS1.set0 (.slice x1 2 y1)).set1 (.slice x2 3 y2)
  have d0:=hS2.c0
  have d1:=hS2.c1
  go_wp2_with fail
  exact bodyPost_ret (v:=.tuple #[.agg #[.slice x1 2 y1,.slice x2 3 y2],.bool true]) (by simp [results,Tryz.results8,go_sem,d0,d1]) rfl ⟨_,_,rfl,hT.box hb (Nat.le_refl _) hlt _ _⟩
 by_cases h5:s=5
 ·subst h5
  go_enter Tryz.func8,Tryz.ntmps8
  go_wp2_with fail
  refine (formOf_any 5 _).mono ?_
  rintro e w0 ⟨rfl,rfl⟩
  go_wp2_with fail
  refine (odd_four _).mono ?_
  rintro e w1 ⟨v1,v2,rfl,hT⟩
  obtain ⟨x1,y1,rfl⟩:=own_slx hT.o1
  obtain ⟨x2,y2,rfl⟩:=own_slx hT.o2
  simp only [List.length_cons,List.length_nil,Nat.zero_add,Nat.reduceAdd] at hT ⊢
  have hS1:=hS.belo hT.bel
  have c0:=hS1.c0
  have c1:=hS1.c1
  have cf:=hS1.fz
  have hS2:=(hS1.set0 (.slice x1 0 y1)).set1 (.slice x2 3 y2)
  have d0:=hS2.c0
  have d1:=hS2.c1
  go_wp2_with fail
  exact bodyPost_ret (v:=.tuple #[.agg #[.slice x1 0 y1,.slice x2 3 y2],.bool true]) (by simp [results,Tryz.results8,go_sem,d0,d1]) rfl ⟨_,_,rfl,hT.box hb (Nat.le_refl _) hlt _ _⟩
 by_cases h6:s=6
 ·subst h6
  go_enter Tryz.func8,Tryz.ntmps8
  go_wp2_with fail
  refine (formOf_any 6 _).mono ?_
  rintro e w0 ⟨rfl,rfl⟩
  go_wp2_with fail
  refine (odd_wait _).mono ?_
  rintro e w1 ⟨v1,v2,rfl,hT⟩
  obtain ⟨x1,y1,rfl⟩:=own_slx hT.o1
  obtain ⟨x2,y2,rfl⟩:=own_slx hT.o2
  simp only [List.length_cons,List.length_nil,Nat.zero_add,Nat.reduceAdd] at hT ⊢
  have hS1:=hS.belo hT.bel
  have c0:=hS1.c0
  have c1:=hS1.c1
  have cf:=hS1.fz
  have hS2:=(hS1.set0 (.slice x1 2 y1)).set1 (.slice x2 3 y2)
  have d0:=hS2.c0
  have d1:=hS2.c1
  go_wp2_with fail
  exact bodyPost_ret (v:=.tuple #[.agg #[.slice x1 2 y1,.slice x2 3 y2],.bool true]) (by simp [results,Tryz.results8,go_sem,d0,d1]) rfl ⟨_,_,rfl,hT.box hb (Nat.le_refl _) hlt _ _⟩
 have hno:(decide (1≤s)&&decide (s≤6))=false:=by simp;omega
 have e1:M.oddOk s=false:=hno
 have e2:M.oddR s=[]:=by simp [M.oddR,h1,h2,h3,h4,h6]
 have e3:M.oddL s=[]:=by simp [M.oddL,h1,h2,h3,h4,h5,h6]
 have CF:∀ W,Calls Tryz.prog 19 #[.int .i64 s] W fun e w'=>∃ fv,e=.returned (.tuple #[fv,.bool false])∧w'=W:=fun W=>by have C:=formOf_any s W;rw [hno] at C;exact C.mono fun _ _ ⟨a,b⟩=>⟨_,a,b⟩
 rw [e1,e2,e3]
 go_enter Tryz.func8,Tryz.ntmps8
 go_wp2_with fail
 refine (CF _).mono ?_
 rintro e w0 ⟨fv,rfl,rfl⟩
 go_wp2_with fail
 go_returns
 exact ⟨_,_,rfl,ts_none hb⟩
end
section
open Go.RowKit
namespace M
def oddSeen (s h k:Int):Bool:=if k=1 then false else if k=2 then decide (s=1∧h≠1) else decide (s=1∧h≠1)||decide ((s=2∨s=5)∧(h=0∨h=3))||decide (s=3∧h=0)
set_option maxRecDepth 100000 in
theorem odd_tab:(([1,2,3,4,5,6]:List Int).all fun s=>([0,1,2,3]:List Int).all fun h=>([1,2,3]:List Int).all fun k=>isIn (orderAll ((shape s h).getD []) k) (oddR s) (oddL s)==oddSeen s h k)=true:=by decide +kernel
theorem odd_at {s h k:Int} (hs:shapeOk s h=true) (hk:k=1∨k=2∨k=3):isIn (orderAll ((shape s h).getD []) k) (oddR s) (oddL s)=oddSeen s h k:=by
 obtain ⟨h1,h2⟩:=shape_cases hs
 have t:=odd_tab
 rw [List.all_eq_true] at t
 have t1:=t s (by rcases h1 with rfl | rfl | rfl | rfl | rfl | rfl<;>simp)
 rw [List.all_eq_true] at t1
 have t2:=t1 h (by rcases h2 with rfl | rfl | rfl | rfl<;>simp)
 rw [List.all_eq_true] at t2
 have t3:=t2 k (by rcases hk with rfl | rfl | rfl<;>simp)
 simpa using t3
end M
end
end Go.Proofs.YtnddmlgnngdaoaaGreatDoor
