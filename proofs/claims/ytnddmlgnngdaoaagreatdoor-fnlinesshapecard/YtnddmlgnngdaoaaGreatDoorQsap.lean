/- Shapes, plainly. No condition. And what goes with it: ShMath, ShRow, ShI, ShF, ShLp, ShL, ShS0, ShS, ShFact. -/
import Derived.Handy
import Derived.Test.YtnddmlgnngdaoaaGreatDoorRows
import Derived.Test.YtnddmlgnngdaoaaGreatDoorQsan
import Derived.Test.YtnddmlgnngdaoaaGreatDoorQsao
namespace Go.Proofs.YtnddmlgnngdaoaaGreatDoor
section
namespace M
def kst (h:Int):Int:=if h=2 then 6 else 1
def kld (h:Int):Int:=if h=2 then 5 else 2
theorem kst_yes {h:Int} (e:h=2):kst h=6:=by simp [kst,e]
theorem kst_no {h:Int} (e:h≠2):kst h=1:=by simp [kst,e]
theorem kld_yes {h:Int} (e:h=2):kld h=5:=by simp [kld,e]
theorem kld_no {h:Int} (e:h≠2):kld h=2:=by simp [kld,e]
def sst (h pl v:Int):D:=⟨kst h,pl,v⟩
def sld (h pl:Int):D:=⟨kld h,pl,0⟩
def raw (s h:Int):List (List D) :=
 if s=1 then [[sst h 0 1,sld h 1],[sst h 1 1,sld h 0]]
 else if s=2 then [[sst 0 0 1,sst h 1 1],[sld h 1,sld 0 0]]
 else if s=3 then [[sld h 0,sst h 1 1],[sld h 1,sst h 0 1]]
 else if s=4 then [[sst h 0 1],[sld h 0,sld h 0]]
 else if s=5 then [[sst h 0 2,sst h 1 1],[sst h 1 2,sst h 0 1]]
 else [[⟨7,0,0⟩,sld 0 1,sld 0 0,⟨8,0,0⟩],[sst 0 0 1,⟨9,0,0⟩,sst h 1 1]]
def fin (h:Int) (l:List D):List D :=
 match l with
 | [a,b]=>if h=1 then [a,⟨4,0,0⟩,b] else if h=3∧reads a.k=true∧writes b.k=true then [a,⟨3,b.p,0⟩] else [a,b]
 | l=>l
def shapeOk (s h:Int):Bool:=decide (1≤s)&&decide (s≤6)&&decide (0≤h)&&decide (h≤3)
def shape (s h:Int):Option (List (List D)):=if shapeOk s h then some ((raw s h).map (fin h)) else none
theorem fin_len (h:Int) (l:List D) (hl:l.length≠2):fin h l=l:=by
 match l,hl with
 | [],_=>rfl
 | [a],_=>rfl
 | [a,b],hl=>simp at hl
 | a::b::c::l,_=>rfl
end M
end
section
open Go.RowKit
theorem own_lit {w:World} {B:Nat} (l:List M.D) {cs:Array Value} (hB:B≤w.heap.size) (hcs:cs.toList=flat l) (hn:l.length≤1000):(w.alloc (.cells cs 48)).ownsRow B 48 3 (.slice (some ⟨w.heap.size,0,none⟩) l.length l.length) l.length (flat l) :=
 ⟨flat_length l,.inr ⟨_,l.length,cs,rfl,hB,heap_alloc_new w _,Nat.le_refl _,by unfold maxLen;omega,by rw [← Array.length_toList,hcs,flat_length],by rw [hcs,← flat_length,List.take_length]⟩⟩
theorem own_lit2 {w:World} {B:Nat} {v1 v2:Value} (hB:B≤w.heap.size):(w.alloc (.cells #[v1,v2] 45)).ownsRow B 45 1 (.slice (some ⟨w.heap.size,0,none⟩) 2 2) 2 [v1,v2] :=
 ⟨rfl,.inr ⟨_,2,_,rfl,hB,heap_alloc_new w _,Nat.le_refl _,by unfold maxLen;omega,rfl,rfl⟩⟩
theorem rdg_two {w:World} {B:Nat} {v v1 v2:Value} {l1 l2:List M.D} (r1:w.ownsRow B 48 3 v1 l1.length (flat l1)) (r2:w.ownsRow B 48 3 v2 l2.length (flat l2)) (hne:∀ k,v1.ownBlock=some k→v2.ownBlock≠some k) (o:w.ownsRow B 45 1 v 2 [v1,v2]):Rdg w B v [l1,l2] [v1,v2]:=by
 refine ⟨⟨o,rfl,fun i h h'=>?_⟩,fun i j hi hj hij k hk=>?_⟩
 ·match i,h,h' with
  | 0,_,_=>exact r1
  | 1,_,_=>exact r2
 ·match i,j,hi,hj,hij,hk with
  | 0,1,_,_,_,hk=>exact hne k hk
  | 1,0,_,_,_,hk=>exact fun e=>hne k e hk
  | 0,0,_,_,hij,_=>exact absurd rfl hij
  | 1,1,_,_,hij,_=>exact absurd rfl hij
theorem own_ne {w w':World} {B:Nat} {v1:Value} {n:Nat} {xs:List Value} {e:TypeId} {z:Nat} (r1:w.ownsRow B e z v1 n xs) (hs:w.heap.size≤w'.heap.size) {m c:Nat}:∀ k,v1.ownBlock=some k→(Value.slice (some ⟨w'.heap.size,0,none⟩) m c).ownBlock≠some k:=fun k hk e=>by
 have h1:=(r1.lt k hk).2
 have h2:w'.heap.size=k:=Option.some.inj e
 omega
end
section
open Go.RowKit
set_option maxHeartbeats 400000 in
theorem hstore_any (h pl v k:Int) (w:World) (hk:M.kst h=k) :
  Calls Tryz.prog 241 #[.int .i64 h,.int .i64 pl,.int .i64 v] w fun e w'=>e=.returned (.agg #[.int .i64 k,.int .i64 pl,.int .i64 v])∧Below w.heap.size w w':=by
 subst hk
 by_cases h2:h=2
 ·rw [M.kst_yes h2]
  subst h2
  go_enter Tryz.func241,Tryz.ntmps241
  go_wp2_with fail
  go_returns
  exact ⟨rfl,by go_grown⟩
 ·rw [M.kst_no h2]
  have h2':(h==2)=false:=by simpa using h2
  go_enter Tryz.func241,Tryz.ntmps241
  go_wp2_with fail
  go_returns
  exact ⟨rfl,by go_grown⟩
set_option maxHeartbeats 400000 in
theorem hread_any (h pl k:Int) (w:World) (hk:M.kld h=k) :
  Calls Tryz.prog 238 #[.int .i64 h,.int .i64 pl] w fun e w'=>e=.returned (.agg #[.int .i64 k,.int .i64 pl,.int .i64 0])∧Below w.heap.size w w':=by
 subst hk
 by_cases h2:h=2
 ·rw [M.kld_yes h2]
  subst h2
  go_enter Tryz.func238,Tryz.ntmps238
  go_wp2_with fail
  go_returns
  exact ⟨rfl,by go_grown⟩
 ·rw [M.kld_no h2]
  have h2':(h==2)=false:=by simpa using h2
  go_enter Tryz.func238,Tryz.ntmps238
  go_wp2_with fail
  go_returns
  exact ⟨rfl,by go_grown⟩
set_option maxHeartbeats 1000000 in
theorem thr_cross (h ks kl:Int) (w:World) (hs:M.kst h=ks) (_hl:M.kld h=kl) :
  Calls Tryz.prog 240 #[.agg #[],.int .i64 h] w fun e w'=>∃ v vs,e=.returned v∧Rdg w' w.heap.size v [[⟨ks,0,1⟩,⟨kl,1,0⟩],[⟨ks,1,1⟩,⟨kl,0,0⟩]] vs∧Below w.heap.size w w':=by
 have hb:=below1 w (.cells #[] 87)
 go_enter Tryz.func240,Tryz.ntmps240
 go_wp2_with fail
 generalize w.alloc (.cells #[] 87)=V at *
 refine (hstore_any h 0 1 ks _ hs).mono ?_
 rintro e W1 ⟨rfl,b⟩
 replace hb:=hb.trans (b.mono hb.size)
 clear b
 go_wp2_with fail
 refine (hread_any h 1 kl _ _hl).mono ?_
 rintro e W2 ⟨rfl,b⟩
 replace hb:=hb.trans (b.mono hb.size)
 clear b
 have R0:=own_lit (w:=W2) (B:=w.heap.size) [⟨ks,0,1⟩,⟨kl,1,0⟩] (cs:=#[.int .i64 ks,.int .i64 0,.int .i64 1,.int .i64 kl,.int .i64 1,.int .i64 0]) hb.size rfl (by simp)
 replace hb:=hb.alloc hb.size (.cells #[.int .i64 ks,.int .i64 0,.int .i64 1,.int .i64 kl,.int .i64 1,.int .i64 0] 48)
 go_wp2_with fail
 generalize W2.alloc (.cells #[.int .i64 ks,.int .i64 0,.int .i64 1,.int .i64 kl,.int .i64 1,.int .i64 0] 48)=V0 at *
 generalize W2.heap.size=G0 at *
 refine (hstore_any h 1 1 ks _ hs).mono ?_
 rintro e W3 ⟨rfl,b⟩
 replace hb:=hb.trans (b.mono hb.size)
 replace R0:=ownsRow_below R0 b
 clear b
 go_wp2_with fail
 refine (hread_any h 0 kl _ _hl).mono ?_
 rintro e W4 ⟨rfl,b⟩
 replace hb:=hb.trans (b.mono hb.size)
 replace R0:=ownsRow_below R0 b
 clear b
 have R1:=own_lit (w:=W4) (B:=w.heap.size) [⟨ks,1,1⟩,⟨kl,0,0⟩] (cs:=#[.int .i64 ks,.int .i64 1,.int .i64 1,.int .i64 kl,.int .i64 0,.int .i64 0]) hb.size rfl (by simp)
 have hne:=own_ne (m:=2) (c:=2) R0 (Nat.le_refl W4.heap.size)
 replace R0:=ownsRow_below R0 (below1 W4 (.cells #[.int .i64 ks,.int .i64 1,.int .i64 1,.int .i64 kl,.int .i64 0,.int .i64 0] 48))
 replace hb:=hb.alloc hb.size (.cells #[.int .i64 ks,.int .i64 1,.int .i64 1,.int .i64 kl,.int .i64 0,.int .i64 0] 48)
 simp only [List.length_cons,List.length_nil,Nat.zero_add,Nat.reduceAdd] at R0 R1
 go_wp2_with fail
 have O:=own_lit2 (w:=(W4.alloc (.cells #[.int .i64 ks,.int .i64 1,.int .i64 1,.int .i64 kl,.int .i64 0,.int .i64 0] 48))) (B:=w.heap.size) (v1:=(.slice (some ⟨G0,0,none⟩) 2 2)) (v2:=(.slice (some ⟨W4.heap.size,0,none⟩) 2 2)) hb.size
 have bo:=below1 (W4.alloc (.cells #[.int .i64 ks,.int .i64 1,.int .i64 1,.int .i64 kl,.int .i64 0,.int .i64 0] 48)) (.cells #[.slice (some ⟨G0,0,none⟩) 2 2,.slice (some ⟨W4.heap.size,0,none⟩) 2 2] 45)
 replace R0:=ownsRow_below R0 bo
 replace R1:=ownsRow_below R1 bo
 replace hb:=hb.trans (bo.mono hb.size)
 rw [World.size_alloc] at O
 go_ret
 exact ⟨_,_,rfl,rdg_two (l1:=[⟨ks,0,1⟩,⟨kl,1,0⟩]) (l2:=[⟨ks,1,1⟩,⟨kl,0,0⟩]) R0 R1 hne O,hb⟩
set_option maxHeartbeats 1000000 in
theorem thr_pass (h ks kl:Int) (w:World) (hs:M.kst h=ks) (_hl:M.kld h=kl) :
  Calls Tryz.prog 242 #[.agg #[],.int .i64 h] w fun e w'=>∃ v vs,e=.returned v∧Rdg w' w.heap.size v [[⟨1,0,1⟩,⟨ks,1,1⟩],[⟨kl,1,0⟩,⟨2,0,0⟩]] vs∧Below w.heap.size w w':=by
 have hb:=below1 w (.cells #[] 88)
 go_enter Tryz.func242,Tryz.ntmps242
 go_wp2_with fail
 generalize w.alloc (.cells #[] 88)=V at *
 refine (hstore_any 0 0 1 1 _ rfl).mono ?_
 rintro e W1 ⟨rfl,b⟩
 replace hb:=hb.trans (b.mono hb.size)
 clear b
 go_wp2_with fail
 refine (hstore_any h 1 1 ks _ hs).mono ?_
 rintro e W2 ⟨rfl,b⟩
 replace hb:=hb.trans (b.mono hb.size)
 clear b
 have R0:=own_lit (w:=W2) (B:=w.heap.size) [⟨1,0,1⟩,⟨ks,1,1⟩] (cs:=#[.int .i64 1,.int .i64 0,.int .i64 1,.int .i64 ks,.int .i64 1,.int .i64 1]) hb.size rfl (by simp)
 replace hb:=hb.alloc hb.size (.cells #[.int .i64 1,.int .i64 0,.int .i64 1,.int .i64 ks,.int .i64 1,.int .i64 1] 48)
 go_wp2_with fail
 generalize W2.alloc (.cells #[.int .i64 1,.int .i64 0,.int .i64 1,.int .i64 ks,.int .i64 1,.int .i64 1] 48)=V0 at *
 generalize W2.heap.size=G0 at *
 refine (hread_any h 1 kl _ _hl).mono ?_
 rintro e W3 ⟨rfl,b⟩
 replace hb:=hb.trans (b.mono hb.size)
 replace R0:=ownsRow_below R0 b
 clear b
 go_wp2_with fail
 refine (hread_any 0 0 2 _ rfl).mono ?_
 rintro e W4 ⟨rfl,b⟩
 replace hb:=hb.trans (b.mono hb.size)
 replace R0:=ownsRow_below R0 b
 clear b
 have R1:=own_lit (w:=W4) (B:=w.heap.size) [⟨kl,1,0⟩,⟨2,0,0⟩] (cs:=#[.int .i64 kl,.int .i64 1,.int .i64 0,.int .i64 2,.int .i64 0,.int .i64 0]) hb.size rfl (by simp)
 have hne:=own_ne (m:=2) (c:=2) R0 (Nat.le_refl W4.heap.size)
 replace R0:=ownsRow_below R0 (below1 W4 (.cells #[.int .i64 kl,.int .i64 1,.int .i64 0,.int .i64 2,.int .i64 0,.int .i64 0] 48))
 replace hb:=hb.alloc hb.size (.cells #[.int .i64 kl,.int .i64 1,.int .i64 0,.int .i64 2,.int .i64 0,.int .i64 0] 48)
 simp only [List.length_cons,List.length_nil,Nat.zero_add,Nat.reduceAdd] at R0 R1
 go_wp2_with fail
 have O:=own_lit2 (w:=(W4.alloc (.cells #[.int .i64 kl,.int .i64 1,.int .i64 0,.int .i64 2,.int .i64 0,.int .i64 0] 48))) (B:=w.heap.size) (v1:=(.slice (some ⟨G0,0,none⟩) 2 2)) (v2:=(.slice (some ⟨W4.heap.size,0,none⟩) 2 2)) hb.size
 have bo:=below1 (W4.alloc (.cells #[.int .i64 kl,.int .i64 1,.int .i64 0,.int .i64 2,.int .i64 0,.int .i64 0] 48)) (.cells #[.slice (some ⟨G0,0,none⟩) 2 2,.slice (some ⟨W4.heap.size,0,none⟩) 2 2] 45)
 replace R0:=ownsRow_below R0 bo
 replace R1:=ownsRow_below R1 bo
 replace hb:=hb.trans (bo.mono hb.size)
 rw [World.size_alloc] at O
 go_ret
 exact ⟨_,_,rfl,rdg_two (l1:=[⟨1,0,1⟩,⟨ks,1,1⟩]) (l2:=[⟨kl,1,0⟩,⟨2,0,0⟩]) R0 R1 hne O,hb⟩
set_option maxHeartbeats 1000000 in
theorem thr_round (h ks kl:Int) (w:World) (hs:M.kst h=ks) (_hl:M.kld h=kl) :
  Calls Tryz.prog 243 #[.agg #[],.int .i64 h] w fun e w'=>∃ v vs,e=.returned v∧Rdg w' w.heap.size v [[⟨kl,0,0⟩,⟨ks,1,1⟩],[⟨kl,1,0⟩,⟨ks,0,1⟩]] vs∧Below w.heap.size w w':=by
 have hb:=below1 w (.cells #[] 89)
 go_enter Tryz.func243,Tryz.ntmps243
 go_wp2_with fail
 generalize w.alloc (.cells #[] 89)=V at *
 refine (hread_any h 0 kl _ _hl).mono ?_
 rintro e W1 ⟨rfl,b⟩
 replace hb:=hb.trans (b.mono hb.size)
 clear b
 go_wp2_with fail
 refine (hstore_any h 1 1 ks _ hs).mono ?_
 rintro e W2 ⟨rfl,b⟩
 replace hb:=hb.trans (b.mono hb.size)
 clear b
 have R0:=own_lit (w:=W2) (B:=w.heap.size) [⟨kl,0,0⟩,⟨ks,1,1⟩] (cs:=#[.int .i64 kl,.int .i64 0,.int .i64 0,.int .i64 ks,.int .i64 1,.int .i64 1]) hb.size rfl (by simp)
 replace hb:=hb.alloc hb.size (.cells #[.int .i64 kl,.int .i64 0,.int .i64 0,.int .i64 ks,.int .i64 1,.int .i64 1] 48)
 go_wp2_with fail
 generalize W2.alloc (.cells #[.int .i64 kl,.int .i64 0,.int .i64 0,.int .i64 ks,.int .i64 1,.int .i64 1] 48)=V0 at *
 generalize W2.heap.size=G0 at *
 refine (hread_any h 1 kl _ _hl).mono ?_
 rintro e W3 ⟨rfl,b⟩
 replace hb:=hb.trans (b.mono hb.size)
 replace R0:=ownsRow_below R0 b
 clear b
 go_wp2_with fail
 refine (hstore_any h 0 1 ks _ hs).mono ?_
 rintro e W4 ⟨rfl,b⟩
 replace hb:=hb.trans (b.mono hb.size)
 replace R0:=ownsRow_below R0 b
 clear b
 have R1:=own_lit (w:=W4) (B:=w.heap.size) [⟨kl,1,0⟩,⟨ks,0,1⟩] (cs:=#[.int .i64 kl,.int .i64 1,.int .i64 0,.int .i64 ks,.int .i64 0,.int .i64 1]) hb.size rfl (by simp)
 have hne:=own_ne (m:=2) (c:=2) R0 (Nat.le_refl W4.heap.size)
 replace R0:=ownsRow_below R0 (below1 W4 (.cells #[.int .i64 kl,.int .i64 1,.int .i64 0,.int .i64 ks,.int .i64 0,.int .i64 1] 48))
 replace hb:=hb.alloc hb.size (.cells #[.int .i64 kl,.int .i64 1,.int .i64 0,.int .i64 ks,.int .i64 0,.int .i64 1] 48)
 simp only [List.length_cons,List.length_nil,Nat.zero_add,Nat.reduceAdd] at R0 R1
 go_wp2_with fail
 have O:=own_lit2 (w:=(W4.alloc (.cells #[.int .i64 kl,.int .i64 1,.int .i64 0,.int .i64 ks,.int .i64 0,.int .i64 1] 48))) (B:=w.heap.size) (v1:=(.slice (some ⟨G0,0,none⟩) 2 2)) (v2:=(.slice (some ⟨W4.heap.size,0,none⟩) 2 2)) hb.size
 have bo:=below1 (W4.alloc (.cells #[.int .i64 kl,.int .i64 1,.int .i64 0,.int .i64 ks,.int .i64 0,.int .i64 1] 48)) (.cells #[.slice (some ⟨G0,0,none⟩) 2 2,.slice (some ⟨W4.heap.size,0,none⟩) 2 2] 45)
 replace R0:=ownsRow_below R0 bo
 replace R1:=ownsRow_below R1 bo
 replace hb:=hb.trans (bo.mono hb.size)
 rw [World.size_alloc] at O
 go_ret
 exact ⟨_,_,rfl,rdg_two (l1:=[⟨kl,0,0⟩,⟨ks,1,1⟩]) (l2:=[⟨kl,1,0⟩,⟨ks,0,1⟩]) R0 R1 hne O,hb⟩
set_option maxHeartbeats 1000000 in
theorem thr_twice (h ks kl:Int) (w:World) (hs:M.kst h=ks) (_hl:M.kld h=kl) :
  Calls Tryz.prog 244 #[.agg #[],.int .i64 h] w fun e w'=>∃ v vs,e=.returned v∧Rdg w' w.heap.size v [[⟨ks,0,1⟩],[⟨kl,0,0⟩,⟨kl,0,0⟩]] vs∧Below w.heap.size w w':=by
 have hb:=below1 w (.cells #[] 90)
 go_enter Tryz.func244,Tryz.ntmps244
 go_wp2_with fail
 generalize w.alloc (.cells #[] 90)=V at *
 refine (hstore_any h 0 1 ks _ hs).mono ?_
 rintro e W1 ⟨rfl,b⟩
 replace hb:=hb.trans (b.mono hb.size)
 clear b
 have R0:=own_lit (w:=W1) (B:=w.heap.size) [⟨ks,0,1⟩] (cs:=#[.int .i64 ks,.int .i64 0,.int .i64 1]) hb.size rfl (by simp)
 replace hb:=hb.alloc hb.size (.cells #[.int .i64 ks,.int .i64 0,.int .i64 1] 48)
 go_wp2_with fail
 generalize W1.alloc (.cells #[.int .i64 ks,.int .i64 0,.int .i64 1] 48)=V0 at *
 generalize W1.heap.size=G0 at *
 refine (hread_any h 0 kl _ _hl).mono ?_
 rintro e W2 ⟨rfl,b⟩
 replace hb:=hb.trans (b.mono hb.size)
 replace R0:=ownsRow_below R0 b
 clear b
 go_wp2_with fail
 refine (hread_any h 0 kl _ _hl).mono ?_
 rintro e W3 ⟨rfl,b⟩
 replace hb:=hb.trans (b.mono hb.size)
 replace R0:=ownsRow_below R0 b
 clear b
 have R1:=own_lit (w:=W3) (B:=w.heap.size) [⟨kl,0,0⟩,⟨kl,0,0⟩] (cs:=#[.int .i64 kl,.int .i64 0,.int .i64 0,.int .i64 kl,.int .i64 0,.int .i64 0]) hb.size rfl (by simp)
 have hne:=own_ne (m:=2) (c:=2) R0 (Nat.le_refl W3.heap.size)
 replace R0:=ownsRow_below R0 (below1 W3 (.cells #[.int .i64 kl,.int .i64 0,.int .i64 0,.int .i64 kl,.int .i64 0,.int .i64 0] 48))
 replace hb:=hb.alloc hb.size (.cells #[.int .i64 kl,.int .i64 0,.int .i64 0,.int .i64 kl,.int .i64 0,.int .i64 0] 48)
 simp only [List.length_cons,List.length_nil,Nat.zero_add,Nat.reduceAdd] at R0 R1
 go_wp2_with fail
 have O:=own_lit2 (w:=(W3.alloc (.cells #[.int .i64 kl,.int .i64 0,.int .i64 0,.int .i64 kl,.int .i64 0,.int .i64 0] 48))) (B:=w.heap.size) (v1:=(.slice (some ⟨G0,0,none⟩) 1 1)) (v2:=(.slice (some ⟨W3.heap.size,0,none⟩) 2 2)) hb.size
 have bo:=below1 (W3.alloc (.cells #[.int .i64 kl,.int .i64 0,.int .i64 0,.int .i64 kl,.int .i64 0,.int .i64 0] 48)) (.cells #[.slice (some ⟨G0,0,none⟩) 1 1,.slice (some ⟨W3.heap.size,0,none⟩) 2 2] 45)
 replace R0:=ownsRow_below R0 bo
 replace R1:=ownsRow_below R1 bo
 replace hb:=hb.trans (bo.mono hb.size)
 rw [World.size_alloc] at O
 go_ret
 exact ⟨_,_,rfl,rdg_two (l1:=[⟨ks,0,1⟩]) (l2:=[⟨kl,0,0⟩,⟨kl,0,0⟩]) R0 R1 hne O,hb⟩
set_option maxHeartbeats 1000000 in
theorem thr_four (h ks kl:Int) (w:World) (hs:M.kst h=ks) (_hl:M.kld h=kl) :
  Calls Tryz.prog 245 #[.agg #[],.int .i64 h] w fun e w'=>∃ v vs,e=.returned v∧Rdg w' w.heap.size v [[⟨ks,0,2⟩,⟨ks,1,1⟩],[⟨ks,1,2⟩,⟨ks,0,1⟩]] vs∧Below w.heap.size w w':=by
 have hb:=below1 w (.cells #[] 91)
 go_enter Tryz.func245,Tryz.ntmps245
 go_wp2_with fail
 generalize w.alloc (.cells #[] 91)=V at *
 refine (hstore_any h 0 2 ks _ hs).mono ?_
 rintro e W1 ⟨rfl,b⟩
 replace hb:=hb.trans (b.mono hb.size)
 clear b
 go_wp2_with fail
 refine (hstore_any h 1 1 ks _ hs).mono ?_
 rintro e W2 ⟨rfl,b⟩
 replace hb:=hb.trans (b.mono hb.size)
 clear b
 have R0:=own_lit (w:=W2) (B:=w.heap.size) [⟨ks,0,2⟩,⟨ks,1,1⟩] (cs:=#[.int .i64 ks,.int .i64 0,.int .i64 2,.int .i64 ks,.int .i64 1,.int .i64 1]) hb.size rfl (by simp)
 replace hb:=hb.alloc hb.size (.cells #[.int .i64 ks,.int .i64 0,.int .i64 2,.int .i64 ks,.int .i64 1,.int .i64 1] 48)
 go_wp2_with fail
 generalize W2.alloc (.cells #[.int .i64 ks,.int .i64 0,.int .i64 2,.int .i64 ks,.int .i64 1,.int .i64 1] 48)=V0 at *
 generalize W2.heap.size=G0 at *
 refine (hstore_any h 1 2 ks _ hs).mono ?_
 rintro e W3 ⟨rfl,b⟩
 replace hb:=hb.trans (b.mono hb.size)
 replace R0:=ownsRow_below R0 b
 clear b
 go_wp2_with fail
 refine (hstore_any h 0 1 ks _ hs).mono ?_
 rintro e W4 ⟨rfl,b⟩
 replace hb:=hb.trans (b.mono hb.size)
 replace R0:=ownsRow_below R0 b
 clear b
 have R1:=own_lit (w:=W4) (B:=w.heap.size) [⟨ks,1,2⟩,⟨ks,0,1⟩] (cs:=#[.int .i64 ks,.int .i64 1,.int .i64 2,.int .i64 ks,.int .i64 0,.int .i64 1]) hb.size rfl (by simp)
 have hne:=own_ne (m:=2) (c:=2) R0 (Nat.le_refl W4.heap.size)
 replace R0:=ownsRow_below R0 (below1 W4 (.cells #[.int .i64 ks,.int .i64 1,.int .i64 2,.int .i64 ks,.int .i64 0,.int .i64 1] 48))
 replace hb:=hb.alloc hb.size (.cells #[.int .i64 ks,.int .i64 1,.int .i64 2,.int .i64 ks,.int .i64 0,.int .i64 1] 48)
 simp only [List.length_cons,List.length_nil,Nat.zero_add,Nat.reduceAdd] at R0 R1
 go_wp2_with fail
 have O:=own_lit2 (w:=(W4.alloc (.cells #[.int .i64 ks,.int .i64 1,.int .i64 2,.int .i64 ks,.int .i64 0,.int .i64 1] 48))) (B:=w.heap.size) (v1:=(.slice (some ⟨G0,0,none⟩) 2 2)) (v2:=(.slice (some ⟨W4.heap.size,0,none⟩) 2 2)) hb.size
 have bo:=below1 (W4.alloc (.cells #[.int .i64 ks,.int .i64 1,.int .i64 2,.int .i64 ks,.int .i64 0,.int .i64 1] 48)) (.cells #[.slice (some ⟨G0,0,none⟩) 2 2,.slice (some ⟨W4.heap.size,0,none⟩) 2 2] 45)
 replace R0:=ownsRow_below R0 bo
 replace R1:=ownsRow_below R1 bo
 replace hb:=hb.trans (bo.mono hb.size)
 rw [World.size_alloc] at O
 go_ret
 exact ⟨_,_,rfl,rdg_two (l1:=[⟨ks,0,2⟩,⟨ks,1,1⟩]) (l2:=[⟨ks,1,2⟩,⟨ks,0,1⟩]) R0 R1 hne O,hb⟩
set_option maxHeartbeats 1000000 in
theorem thr_wait (h ks kl:Int) (w:World) (hs:M.kst h=ks) (_hl:M.kld h=kl) :
  Calls Tryz.prog 246 #[.agg #[],.int .i64 h] w fun e w'=>∃ v vs,e=.returned v∧Rdg w' w.heap.size v [[⟨7,0,0⟩,⟨2,1,0⟩,⟨2,0,0⟩,⟨8,0,0⟩],[⟨1,0,1⟩,⟨9,0,0⟩,⟨ks,1,1⟩]] vs∧Below w.heap.size w w':=by
 have hb:=below1 w (.cells #[] 92)
 go_enter Tryz.func246,Tryz.ntmps246
 go_wp2_with fail
 generalize w.alloc (.cells #[] 92)=V at *
 refine (hread_any 0 1 2 _ rfl).mono ?_
 rintro e W1 ⟨rfl,b⟩
 replace hb:=hb.trans (b.mono hb.size)
 clear b
 go_wp2_with fail
 refine (hread_any 0 0 2 _ rfl).mono ?_
 rintro e W2 ⟨rfl,b⟩
 replace hb:=hb.trans (b.mono hb.size)
 clear b
 have R0:=own_lit (w:=W2) (B:=w.heap.size) [⟨7,0,0⟩,⟨2,1,0⟩,⟨2,0,0⟩,⟨8,0,0⟩] (cs:=#[.int .i64 7,.int .i64 0,.int .i64 0,.int .i64 2,.int .i64 1,.int .i64 0,.int .i64 2,.int .i64 0,.int .i64 0,.int .i64 8,.int .i64 0,.int .i64 0]) hb.size rfl (by simp)
 replace hb:=hb.alloc hb.size (.cells #[.int .i64 7,.int .i64 0,.int .i64 0,.int .i64 2,.int .i64 1,.int .i64 0,.int .i64 2,.int .i64 0,.int .i64 0,.int .i64 8,.int .i64 0,.int .i64 0] 48)
 go_wp2_with fail
 generalize W2.alloc (.cells #[.int .i64 7,.int .i64 0,.int .i64 0,.int .i64 2,.int .i64 1,.int .i64 0,.int .i64 2,.int .i64 0,.int .i64 0,.int .i64 8,.int .i64 0,.int .i64 0] 48)=V0 at *
 generalize W2.heap.size=G0 at *
 refine (hstore_any 0 0 1 1 _ rfl).mono ?_
 rintro e W3 ⟨rfl,b⟩
 replace hb:=hb.trans (b.mono hb.size)
 replace R0:=ownsRow_below R0 b
 clear b
 go_wp2_with fail
 refine (hstore_any h 1 1 ks _ hs).mono ?_
 rintro e W4 ⟨rfl,b⟩
 replace hb:=hb.trans (b.mono hb.size)
 replace R0:=ownsRow_below R0 b
 clear b
 have R1:=own_lit (w:=W4) (B:=w.heap.size) [⟨1,0,1⟩,⟨9,0,0⟩,⟨ks,1,1⟩] (cs:=#[.int .i64 1,.int .i64 0,.int .i64 1,.int .i64 9,.int .i64 0,.int .i64 0,.int .i64 ks,.int .i64 1,.int .i64 1]) hb.size rfl (by simp)
 have hne:=own_ne (m:=3) (c:=3) R0 (Nat.le_refl W4.heap.size)
 replace R0:=ownsRow_below R0 (below1 W4 (.cells #[.int .i64 1,.int .i64 0,.int .i64 1,.int .i64 9,.int .i64 0,.int .i64 0,.int .i64 ks,.int .i64 1,.int .i64 1] 48))
 replace hb:=hb.alloc hb.size (.cells #[.int .i64 1,.int .i64 0,.int .i64 1,.int .i64 9,.int .i64 0,.int .i64 0,.int .i64 ks,.int .i64 1,.int .i64 1] 48)
 simp only [List.length_cons,List.length_nil,Nat.zero_add,Nat.reduceAdd] at R0 R1
 go_wp2_with fail
 have O:=own_lit2 (w:=(W4.alloc (.cells #[.int .i64 1,.int .i64 0,.int .i64 1,.int .i64 9,.int .i64 0,.int .i64 0,.int .i64 ks,.int .i64 1,.int .i64 1] 48))) (B:=w.heap.size) (v1:=(.slice (some ⟨G0,0,none⟩) 4 4)) (v2:=(.slice (some ⟨W4.heap.size,0,none⟩) 3 3)) hb.size
 have bo:=below1 (W4.alloc (.cells #[.int .i64 1,.int .i64 0,.int .i64 1,.int .i64 9,.int .i64 0,.int .i64 0,.int .i64 ks,.int .i64 1,.int .i64 1] 48)) (.cells #[.slice (some ⟨G0,0,none⟩) 4 4,.slice (some ⟨W4.heap.size,0,none⟩) 3 3] 45)
 replace R0:=ownsRow_below R0 bo
 replace R1:=ownsRow_below R1 bo
 replace hb:=hb.trans (bo.mono hb.size)
 rw [World.size_alloc] at O
 go_ret
 exact ⟨_,_,rfl,rdg_two (l1:=[⟨7,0,0⟩,⟨2,1,0⟩,⟨2,0,0⟩,⟨8,0,0⟩]) (l2:=[⟨1,0,1⟩,⟨9,0,0⟩,⟨ks,1,1⟩]) R0 R1 hne O,hb⟩
end
section
open Go.RowKit
theorem own_cells {w:World} {B g c:Nat} {l:List M.D} {n:Nat} (h:w.ownsRow B 48 3 (.slice (some ⟨g,0,none⟩) n c) n (flat l)) (i:Nat) (hi:i < l.length):w.cell? ⟨g,i * 3,none⟩=some (.int .i64 l[i].k)∧w.cell? ⟨g,i * 3+1,none⟩=some (.int .i64 l[i].p)∧w.cell? ⟨g,i * 3+2,none⟩=some (.int .i64 l[i].v):=by
 obtain ⟨h0,h1,h2⟩:=flat_get l i hi
 have c0:=h.cells (g:=g) rfl (i * 3) _ h0
 have c1:=h.cells (g:=g) rfl (i * 3+1) _ h1
 have c2:=h.cells (g:=g) rfl (i * 3+2) _ h2
 rw [Go.WideShapes.add_plain,Nat.zero_add] at c0 c1 c2
 exact ⟨c0,c1,c2⟩
structure FinAns (w w':World) (B:Nat) (v v':Value) (l:List M.D):Prop where
 own:w'.ownsRow B 48 3 v' l.length (flat l)
 at_:v'=v∨∀ k,v'.ownBlock=some k→w.heap.size≤k
 bel:Below w.heap.size w w'
theorem fin_lit {w:World} {B:Nat} (v:Value) (l:List M.D) {cs:Array Value} (hB:B≤w.heap.size) (hcs:cs.toList=flat l) (hn:l.length≤1000) (c1 c2:Array Value):FinAns w (((w.alloc (.cells c1 48)).alloc (.cells c2 48)).alloc (.cells cs 48)).drew B v (.slice (some ⟨w.heap.size+1+1,0,none⟩) l.length l.length) l:=by
 have R:=own_lit (w:=(w.alloc (.cells c1 48)).alloc (.cells c2 48)) (B:=B) l (by simp;omega) hcs hn
 simp only [World.size_alloc] at R
 have b3:=(below2 w (.cells c1 48) (.cells c2 48)).alloc (by simp;omega) (.cells cs 48)
 refine ⟨R,Or.inr fun k hk=>?_,b3.drew⟩
 have:w.heap.size+1+1=k:=Option.some.inj hk
 omega
set_option maxHeartbeats 1000000 in
set_option maxRecDepth 100000 in
theorem finish_any (h:Int) (B:Nat) (v:Value) (l:List M.D) (w:World) (hB:B≤w.heap.size) (hl:l.length≤1000) (ho:w.ownsRow B 48 3 v l.length (flat l)) :
  Calls Tryz.prog 20 #[.int .i64 h,v] w fun e w'=>∃ v',e=.returned v'∧FinAns w w' B v v' (M.fin h l):=by
 obtain ⟨av,cv,rfl⟩:=own_slx ho
 by_cases h2:l.length=2
 ·match l,h2,ho with
  | [a,b],_,ho =>
   obtain ⟨g,cap,hv,hg,hlt⟩:=ho.form (by simp)
   simp only [Value.slice.injEq] at hv
   obtain ⟨rfl,_,rfl⟩:=hv
   have hcap:=own_cap ho
   obtain ⟨k0,k1,k2⟩:=own_cells (l:=[a,b]) ho 0 (by simp)
   obtain ⟨j0,j1,j2⟩:=own_cells (l:=[a,b]) ho 1 (by simp)
   simp only [List.getElem_cons_zero,List.getElem_cons_succ,Nat.zero_mul,Nat.zero_add,Nat.one_mul] at k0 k1 k2 j0 j1 j2
   simp only [List.length_cons,List.length_nil,Nat.zero_add,Nat.reduceAdd] at ho hcap ⊢
   obtain ⟨ak,ap,av⟩:=a
   obtain ⟨bk,bp,bv⟩:=b
   simp only at k0 k1 k2 j0 j1 j2
   by_cases h1:h=1
   ·subst h1
    have T:=fin_lit (w:=w) (B:=B) (.slice (some ⟨g,0,none⟩) 2 cv) [⟨ak,ap,av⟩,⟨4,0,0⟩,⟨bk,bp,bv⟩] (cs:=#[.int .i64 ak,.int .i64 ap,.int .i64 av,.int .i64 4,.int .i64 0,.int .i64 0,.int .i64 bk,.int .i64 bp,.int .i64 bv]) hB rfl (by simp)
    go_enter Tryz.func20,Tryz.ntmps20
    go_wp2_with fail
    go_region
    all_goals
     go_wp2_with fail
     go_ret
     exact ⟨_,rfl,T _ _⟩
   ·have h1':(h==1)=false:=by simpa using h1
    by_cases h3:h=3∧M.reads ak=true∧M.writes bk=true
    ·obtain ⟨rfl,hr,hw⟩:=h3
     have e:M.fin 3 [⟨ak,ap,av⟩,⟨bk,bp,bv⟩]=[⟨ak,ap,av⟩,⟨3,bp,0⟩]:=by simp [M.fin,hr,hw]
     have T:=fin_lit (w:=w) (B:=B) (.slice (some ⟨g,0,none⟩) 2 cv) [⟨ak,ap,av⟩,⟨3,bp,0⟩] (cs:=#[.int .i64 ak,.int .i64 ap,.int .i64 av,.int .i64 3,.int .i64 bp,.int .i64 0]) hB rfl (by simp)
     have C1:=fun W=>reads_any ak W
     have C2:=fun W=>writes_any bk W
     rw [hr] at C1
     rw [hw] at C2
     rw [e]
     go_enter Tryz.func20,Tryz.ntmps20
     go_wp2_with fail
     go_region
     all_goals
      go_wp2_with (first | (go_at_call 37;refine (C1 _).mono ?_;rintro e w' ⟨rfl,rfl⟩) | (go_at_call 38;refine (C2 _).mono ?_;rintro e w' ⟨rfl,rfl⟩))
      go_ret
      exact ⟨_,rfl,T _ _⟩
    ·have e:M.fin h [⟨ak,ap,av⟩,⟨bk,bp,bv⟩]=[⟨ak,ap,av⟩,⟨bk,bp,bv⟩]:=by simp only [M.fin];rw [if_neg h1,if_neg h3]
     have T:∀ c1 c2:Array Value,FinAns w ((w.alloc (.cells c1 48)).alloc (.cells c2 48)).drew B (.slice (some ⟨g,0,none⟩) 2 cv) (.slice (some ⟨g,0,none⟩) 2 cv) [⟨ak,ap,av⟩,⟨bk,bp,bv⟩]:=fun c1 c2=>⟨ownsRow_below ho (below2 w _ _).drew,Or.inl rfl,(below2 w _ _).drew⟩
     have C1:=fun W=>reads_any ak W
     have C2:=fun W=>writes_any bk W
     rw [e]
     by_cases h3':h=3
     ·subst h3'
      cases hr:M.reads ak
      ·rw [hr] at C1
       go_enter Tryz.func20,Tryz.ntmps20
       go_wp2_with fail
       go_region
       all_goals
        go_wp2_with (first | (go_at_call 37;refine (C1 _).mono ?_;rintro e w' ⟨rfl,rfl⟩) | (go_at_call 38;refine (C2 _).mono ?_;rintro e w' ⟨rfl,rfl⟩))
        go_ret
        exact ⟨_,rfl,T _ _⟩
      ·have hw:M.writes bk=false:=Bool.eq_false_iff.2 fun hw=>h3 ⟨rfl,hr,hw⟩
       rw [hr] at C1
       rw [hw] at C2
       go_enter Tryz.func20,Tryz.ntmps20
       go_wp2_with fail
       go_region
       all_goals
        go_wp2_with (first | (go_at_call 37;refine (C1 _).mono ?_;rintro e w' ⟨rfl,rfl⟩) | (go_at_call 38;refine (C2 _).mono ?_;rintro e w' ⟨rfl,rfl⟩))
        go_ret
        exact ⟨_,rfl,T _ _⟩
     ·have h3'':(h==3)=false:=by simpa using h3'
      go_enter Tryz.func20,Tryz.ntmps20
      go_wp2_with fail
      go_region
      all_goals
       go_wp2_with fail
       go_ret
       exact ⟨_,rfl,T _ _⟩
 ·have hne:¬ ((l.length:Int)=2):=by omega
  have hne':((l.length:Int)==2)=false:=by simpa using hne
  go_enter Tryz.func20,Tryz.ntmps20
  go_wp2_with fail
  go_ret
  exact ⟨_,rfl,⟨by rw [M.fin_len h l h2];exact ho,Or.inl rfl,Below.refl _ _⟩⟩
set_option maxHeartbeats 1000000 in
theorem formOf_any (s:Int) (w:World) :
  Calls Tryz.prog 19 #[.int .i64 s] w fun e w'=>e=.returned (.tuple #[if s=1 then .iface 87 (.agg #[]) else if s=2 then .iface 88 (.agg #[]) else if s=3 then .iface 89 (.agg #[]) else if s=4 then .iface 90 (.agg #[]) else if s=5 then .iface 91 (.agg #[]) else if s=6 then .iface 92 (.agg #[]) else .nilIface,.bool (decide (1≤s)&&decide (s≤6))])∧w'=w:=by
 by_cases h1:s=1
 ·subst h1
  go_enter Tryz.func19,Tryz.ntmps19
  go_wp2_with fail
  go_returns
  exact ⟨rfl,rfl⟩
 have h1':(s==1)=false:=by simpa using h1
 by_cases h2:s=2
 ·subst h2
  go_enter Tryz.func19,Tryz.ntmps19
  go_wp2_with fail
  go_returns
  exact ⟨rfl,rfl⟩
 have h2':(s==2)=false:=by simpa using h2
 by_cases h3:s=3
 ·subst h3
  go_enter Tryz.func19,Tryz.ntmps19
  go_wp2_with fail
  go_returns
  exact ⟨rfl,rfl⟩
 have h3':(s==3)=false:=by simpa using h3
 by_cases h4:s=4
 ·subst h4
  go_enter Tryz.func19,Tryz.ntmps19
  go_wp2_with fail
  go_returns
  exact ⟨rfl,rfl⟩
 have h4':(s==4)=false:=by simpa using h4
 by_cases h5:s=5
 ·subst h5
  go_enter Tryz.func19,Tryz.ntmps19
  go_wp2_with fail
  go_returns
  exact ⟨rfl,rfl⟩
 have h5':(s==5)=false:=by simpa using h5
 by_cases h6:s=6
 ·subst h6
  go_enter Tryz.func19,Tryz.ntmps19
  go_wp2_with fail
  go_returns
  exact ⟨rfl,rfl⟩
 have h6':(s==6)=false:=by simpa using h6
 have hno:(decide (1≤s)&&decide (s≤6))=false:=by simp;omega
 rw [hno,if_neg h1,if_neg h2,if_neg h3,if_neg h4,if_neg h5,if_neg h6]
 go_enter Tryz.func19,Tryz.ntmps19
 go_wp2_with fail
 go_returns
 exact ⟨rfl,rfl⟩
end
section
open Go.RowKit
theorem ownsRow_keep {w w':World} {B:Nat} {e:TypeId} {z:Nat} {v:Value} {n:Nat} {xs:List Value} (h:w.ownsRow B e z v n xs) (hk:∀ b,B≤b→b < w.heap.size→w'.heap[b]?=w.heap[b]?):w'.ownsRow B e z v n xs:=by
 obtain ⟨h1,h2⟩:=h
 refine ⟨h1,?_⟩
 rcases h2 with h2 | ⟨g,cap,cur,hv,hg,hh,r⟩
 ·exact .inl h2
 ·have hlt:g < w.heap.size:=by
   rw [Array.getElem?_eq_some_iff] at hh
   exact hh.1
  exact .inr ⟨g,cap,cur,hv,hg,(hk g hg hlt).trans hh,r⟩
structure ShLp (w W1 wr:World) (h:Int) (ll:List (List M.D)) (us:List Value) (n:Nat) (v:Value) (vs:List Value):Prop where
 rd:Rdg wr (w.heap.size+2) v ((ll.take n).map (M.fin h)) vs
 p:Slot1 wr (w.heap.size+1) v
 q:Slot1 wr w.heap.size (.slice none 0 0)
 bel:Below w.heap.size w wr
 sz:W1.heap.size≤wr.heap.size
 keep:∀ b,w.heap.size+2≤b→b < W1.heap.size→wr.heap[b]?=W1.heap[b]?
 vb:∀ k,v.ownBlock=some k→W1.heap.size≤k
 at_:∀ i (hi:i < vs.length) (hu:i < us.length) k,vs[i].ownBlock=some k→us[i].ownBlock=some k∨W1.heap.size≤k
theorem ShLp.len {w W1 wr:World} {h:Int} {ll:List (List M.D)} {us:List Value} {n:Nat} {v:Value} {vs:List Value} (H:ShLp w W1 wr h ll us n v vs) (hn:n≤ll.length):vs.length=n:=by
 rw [H.rd.b.len,List.length_map,List.length_take];omega
theorem ShLp.next {w W1 wr w4 w5:World} {h:Int} {ll:List (List M.D)} {us:List Value} {n:Nat} {v v4 vt:Value} {vs:List Value} {g5 cap5:Nat} (H:ShLp w W1 wr h ll us n v vs) (R0:Rdg W1 (w.heap.size+2) vt ll us) (hn:n < ll.length) (hu:n < us.length)
  (hF:FinAns wr w4 (w.heap.size+2) us[n] v4 (M.fin h ll[n])) (ho5:w5.ownsRow (w.heap.size+2) 45 1 (.slice (some ⟨g5,0,none⟩) (((ll.take n).map (M.fin h)).length+1) cap5) (((ll.take n).map (M.fin h)).length+1) (vs++[v4]))
  (hg5:(w4.alloc (.cells #[v4] 45)).grownBy w5 v.ownBlock) (hat:v.ownBlock=some g5∨g5=w4.heap.size+1) (hlt:W1.heap.size≤w4.heap.size) :
  Slot1 w5 (w.heap.size+1) v∧Below w.heap.size w w5∧∀ u,u=Value.slice (some ⟨g5,0,none⟩) (((ll.take n).map (M.fin h)).length+1) cap5→ShLp w W1 (w5.setCell ⟨w.heap.size+1,0,none⟩ u) h ll us (n+1) u (vs++[v4]):=by
 have hal:=below1 w4 (.cells #[v4] 45)
 have hge:=own_ge H.rd.b.outer
 have b4:=hF.bel
 have b4a:=b4.trans (hal.mono b4.size)
 have bwa:=H.bel.trans (b4a.mono H.bel.size)
 have lp:=H.p.lt
 have lenv:=H.len (Nat.le_of_lt hn)
 have hS:Slot1 w5 (w.heap.size+1) v:=(H.p.bl' b4a).apart hg5 (fun e=>by have:=hge _ e;omega)
 have hQ:Slot1 w5 w.heap.size (.slice none 0 0):=(H.q.bl' b4a).apart hg5 (fun e=>by have:=hge _ e;omega)
 have hB:Below w.heap.size w w5:=below_grown bwa hg5 (fun j hj=>by have:=hge j hj;omega) bwa.size
 have hR:Rdg w5 (w.heap.size+2) (.slice (some ⟨g5,0,none⟩) (((ll.take n).map (M.fin h)).length+1) cap5) ((ll.take n).map (M.fin h)++[M.fin h ll[n]]) (vs++[v4]):=by
  refine ((H.rd.below b4).below hal).snocT (ownsRow_below hF.own hal) (fun i hi j hj e=>?_) ho5 hg5
  have hi':i < us.length:=by omega
  have l1:=((H.rd.b.inner i (by have:=H.rd.b.len;omega) hi).lt j hj).2
  rcases hF.at_ with e4 | e4
  ·rw [e4] at e
   have l2:=((R0.b.inner n hn hu).lt j e).2
   rcases H.at_ i hi hi' j hj with e5 | e5
   ·exact R0.ap i n hi' hu (by omega) j e5 e
   ·omega
  ·have:=e4 j e
   omega
 refine ⟨hS,hB,fun u hu'=>?_⟩
 subst hu'
 have tk:(ll.take (n+1)).map (M.fin h)=(ll.take n).map (M.fin h)++[M.fin h ll[n]]:=by
  rw [List.take_succ_eq_append_getElem hn,List.map_append];rfl
 refine ⟨by rw [tk];exact hR.far (by omega) _,hS.set _,hQ.far (by omega) _,hB.setCell (by show w.heap.size≤w.heap.size+1;omega) _,?_,fun b hb1 hb2=>?_,fun k hk=>?_,fun i hi hu2 k hk=>?_⟩
 ·have h1:=hg5.size
  simp only [World.size_setCell,World.size_alloc] at *
  omega
 ·rw [Below.heap_setCell _ _ _ _ (by show b≠w.heap.size+1;omega)]
  have h1:w5.heap[b]?=(w4.alloc (.cells #[v4] 45)).heap[b]?:=hg5.block b (by simp;omega) (fun e=>by have:=H.vb b e.symm;omega)
  rw [h1,hal.block b (by omega),b4.block b (by have:=H.sz;omega)]
  exact H.keep b hb1 hb2
 ·have hk':g5=k:=Option.some.inj hk
  rcases hat with e | e
  ·have:=H.vb g5 e;omega
  ·omega
 ·by_cases hi':i < vs.length
  ·rw [List.getElem_append_left hi'] at hk
   exact H.at_ i hi' hu2 k hk
  ·have:i=n:=by simp at hi;omega
   subst this
   rw [List.getElem_append_right (by omega)] at hk
   have e0:i - vs.length=0:=by omega
   simp only [e0,List.getElem_cons_zero] at hk
   rcases hF.at_ with e4 | e4
   ·rw [e4] at hk;exact Or.inl hk
   ·have:=e4 k hk
    exact Or.inr (by have:=H.sz;omega)
theorem M.shape_no {s h:Int} (e:M.shapeOk s h=false):M.shape s h=none:=by simp [M.shape,e]
theorem M.shape_yes {s h:Int} (e:M.shapeOk s h=true):M.shape s h=some ((M.raw s h).map (M.fin h)):=by simp [M.shape,e]
theorem M.raw_two (s h:Int):(M.raw s h).length=2∧∀ t∈M.raw s h,t.length≤4:=by
 unfold M.raw
 repeat' split
 all_goals simp [M.sst]
theorem M.fin_le (h:Int) (l:List M.D):(M.fin h l).length≤l.length+1:=by
 unfold M.fin
 repeat' split
 all_goals simp
end
section
open Go.RowKit
theorem FinAns.undrew {w w':World} {B:Nat} {v v':Value} {l:List M.D} (h:FinAns w.drew w' B v v' l):FinAns w w' B v v' l:=⟨h.own,h.at_,(Below.refl w.heap.size w).drew.trans h.bel⟩
set_option maxHeartbeats 8000000 in
set_option maxRecDepth 100000 in
set_option linter.unusedSimpArgs false in
theorem ishapeOf_any (s h:Int) (w:World) :
  Calls Tryz.prog 6 #[.int .i64 s,.int .i64 h] w fun e w'=>∃ v,e=.returned (.tuple #[.agg #[v],.bool (M.shape s h).isSome])∧(∃ vs,Rdg w' w.heap.size v ((M.shape s h).getD []) vs)∧Below w.heap.size w w':=by
 obtain ⟨i0,hi,hz0,hz1,hz2⟩:=info_parts Tryz.info45
 cases hok:M.shapeOk s h
 ·rw [M.shape_no hok]
  have CF:∀ W,Calls Tryz.prog 19 #[.int .i64 s] W fun e w'=>∃ fv,e=.returned (.tuple #[fv,.bool (decide (1≤s)&&decide (s≤6))])∧w'=W:=fun W=>(formOf_any s W).mono fun _ _ ⟨a,b⟩=>⟨_,a,b⟩
  have hS:=Slot1.new w (.slice none 0 0) 27
  have y0:=hS.c
  have yf:=hS.fz
  have hS1:=hS.set (.slice none 0 0)
  have q1:=hS1.c
  have hb:=below1 w (.cells #[.slice none 0 0] 27)
  have hb1:Below w.heap.size w ((w.alloc (.cells #[.slice none 0 0] 27)).setCell ⟨w.heap.size,0,none⟩ (.slice none 0 0)):=hb.setCell (Nat.le_refl _) _
  cases hs:(decide (1≤s)&&decide (s≤6))
  ·rw [hs] at CF
   go_enter Tryz.func6,Tryz.ntmps6
   go_wp2_with fail
   refine (CF _).mono ?_
   rintro e w0 ⟨fv,rfl,rfl⟩
   go_wp2_with fail
   go_returns
   exact ⟨_,rfl,⟨[],Rdg.nil _ _⟩,by go_grown⟩
  ·rw [hs] at CF
   have o7:h < 0∨3 < h:=by
    simp only [M.shapeOk,hs,Bool.true_and] at hok
    simp at hok
    omega
   rcases o7 with o7 | o7
   ·go_enter Tryz.func6,Tryz.ntmps6
    go_wp2_with fail
    refine (CF _).mono ?_
    rintro e w0 ⟨fv,rfl,rfl⟩
    go_wp2_with fail
    go_returns
    exact ⟨_,rfl,⟨[],Rdg.nil _ _⟩,by go_grown⟩
   ·have o8:¬ h < 0:=by omega
    go_enter Tryz.func6,Tryz.ntmps6
    go_wp2_with fail
    refine (CF _).mono ?_
    rintro e w0 ⟨fv,rfl,rfl⟩
    go_wp2_with fail
    go_returns
    exact ⟨_,rfl,⟨[],Rdg.nil _ _⟩,by go_grown⟩
 ·rw [M.shape_yes hok]
  simp only [M.shapeOk,Bool.and_eq_true,decide_eq_true_eq] at hok
  obtain ⟨⟨⟨o1,o2⟩,o3⟩,o4⟩:=hok
  have o5:¬ h < 0:=by omega
  have o6:¬ 3 < h:=by omega
  have hcs:s=1∨s=2∨s=3∨s=4∨s=5∨s=6:=by omega
  obtain ⟨hl2,hl4⟩:=M.raw_two s h
  have bP:=below2 w (.cells #[.slice none 0 0] 27) (.cells #[.slice none 0 0] 27)
  have hQ:=(Slot1.new w (.slice none 0 0) 27).bl' (below1 _ (.cells #[.slice none 0 0] 27))
  have hP:=Slot1.new (w.alloc (.cells #[.slice none 0 0] 27)) (.slice none 0 0) 27
  rw [World.size_alloc] at hP
  rcases hcs with rfl | rfl | rfl | rfl | rfl | rfl
  ·have CT:=thr_cross h _ _ ((w.alloc (.cells #[.slice none 0 0] 27)).alloc (.cells #[.slice none 0 0] 27)) rfl rfl
   have er:M.raw 1 h=[[⟨M.kst h,0,1⟩,⟨M.kld h,1,0⟩],[⟨M.kst h,1,1⟩,⟨M.kld h,0,0⟩]]:=by simp [M.raw,M.sst,M.sld,M.kst_no,M.kld_no]
   rw [← er] at CT
   clear er
   generalize M.raw 1 h=ll at *
   go_enter Tryz.func6,Tryz.ntmps6
   go_wp2_with fail
   refine (formOf_any 1 _).mono ?_
   rintro e w0 ⟨rfl,rfl⟩
   go_wp2_with fail
   refine CT.mono ?_
   clear CT
   rintro e W1 ⟨vt,us,rfl,R0,b1⟩
   simp only [World.size_alloc] at R0
   obtain ⟨G,ct,rfl,hG1,hG2⟩:=R0.b.outer.form (by omega)
   have hul:us.length=ll.length:=R0.b.len
   have bw1:=bP.trans (b1.mono bP.size)
   have L0:ShLp w W1 W1 h ll us 0 (.slice none 0 0) []:=⟨by simpa using Rdg.nil _ _,hP.bl' b1,hQ.bl' b1,bw1,Nat.le_refl _,fun _ _ _=>rfl,fun k hk=>by simp [Value.ownBlock] at hk,fun i hi=>by simp at hi⟩
   clear bP hP hQ b1
   go_wp2_with fail
   go_loopw [33] (fun s33 wr=>∃ (n:Nat) (v:Value) (vs:List Value),s33=.int .i64 n∧n≤ll.length∧ShLp w W1 wr h ll us n v vs) (fun s33 _=>ll.length - (intOf s33).toNat)
   case atStart=>exact ⟨0,_,_,rfl,Nat.zero_le _,L0⟩
   case round =>
    obtain ⟨n,v,vs,rfl,hn,HL⟩:=hrel
    clear L0
    by_cases hlt:n < ll.length
    ·have hun:n < us.length:=by omega
     have OU:=ownsRow_keep R0.b.outer HL.keep
     have OR:=ownsRow_keep (R0.b.inner n hlt hun) HL.keep
     have hc:=OU.cells (g:=G) rfl n us[n] (by simp [hun])
     rw [Go.WideShapes.add_plain,Nat.zero_add] at hc
     have ht:=hl4 _ (List.getElem_mem hlt)
     obtain ⟨at_,ct_,eu⟩:=own_slx OR
     have hmm:((ll.take n).map (M.fin h)).length≤1048576:=by simp;omega
     have hT:(M.fin h ll[n]).length≤1048576:=by have:=M.fin_le h ll[n];omega
     have F4:Hid (∀ (w4:World) (v4:Value),FinAns wr w4 (w.heap.size+2) us[n] v4 (M.fin h ll[n])→∃ a4 c4,v4=.slice a4 (M.fin h ll[n]).length c4∧Below wr.heap.size wr w4∧Slot1 w4 (w.heap.size+1) v∧Rdg w4 (w.heap.size+2) v ((ll.take n).map (M.fin h)) vs):=by
      intro w4 v4 hF
      obtain ⟨a4,c4,e⟩:=own_slx hF.own
      exact ⟨a4,c4,e,hF.bel,HL.p.bl' hF.bel,HL.rd.below hF.bel⟩
     have F5:Hid (∀ (w4:World) (v4:Value),FinAns wr w4 (w.heap.size+2) us[n] v4 (M.fin h ll[n])→∀ (g5 cap5:Nat) (w5:World),w5.ownsRow (w.heap.size+2) 45 1 (.slice (some ⟨g5,0,none⟩) (((ll.take n).map (M.fin h)).length+1) cap5) (((ll.take n).map (M.fin h)).length+1) (vs++[v4])→(w4.alloc (.cells #[v4] 45)).grownBy w5 v.ownBlock→(v.ownBlock=some g5∨g5=w4.heap.size+1)→Slot1 w5 (w.heap.size+1) v∧Below w.heap.size w w5∧∀ u,u=Value.slice (some ⟨g5,0,none⟩) (((ll.take n).map (M.fin h)).length+1) cap5→ShLp w W1 (w5.setCell ⟨w.heap.size+1,0,none⟩ u) h ll us (n+1) u (vs++[v4])):=by
      intro w4 v4 hF g5 cap5 w5 ho hg hat
      exact HL.next R0 hlt hun hF ho hg hat (by have:=HL.sz;have:=hF.bel.size;omega)
     have CN:Calls Tryz.prog 20 #[.int .i64 h,us[n]] wr.drew fun e w'=>∃ v',e=.returned v'∧FinAns wr w' (w.heap.size+2) us[n] v' (M.fin h ll[n]) :=
      (finish_any h (w.heap.size+2) us[n] ll[n] wr.drew (by have:=HL.p.lt;show w.heap.size+2≤wr.heap.size;omega) (by omega) (ownsRow_below OR (Below.refl wr.heap.size wr).drew)).mono fun e w' ⟨v',he,hF⟩=>⟨v',he,hF.undrew⟩
     have HW:Hid (us[n]=.slice at_ ll[n].length ct_):=eu
     rw [eu] at hc CN F4 F5
     clear eu OU OR
     obtain ⟨T4,hT4⟩:∃ T4,(M.fin h ll[n]).length=T4:=⟨_,rfl⟩
     rw [hT4] at F4 hT
     clear hT4
     generalize M.fin h ll[n]=t4 at *
     generalize ll[n]=t at *
     have i1:(n:Int) < ll.length:=by omega
     have hRd:=HL.rd
     obtain ⟨av,gv,cv,rfl,_⟩:=hRd.b.ss
     clear hRd
     generalize (ll.take n).map (M.fin h)=mm at *
     have x0:=HL.p.c
     have lP:=HL.p.lt
     go_wp2_with fail
     refine wp_region_held_drew (S:=fun w'=>Below w.heap.size w w') (by kernel_rfl) HL.bel.drew (fun hH=>?_)
     refine tk 0 37 (.pointer (some ⟨w.heap.size+1,0,none⟩)) hH rfl rfl (by intro w' hSw;go_simp) ?_
     simp only [Act.put,zqa,zqb,zqc]
     refine tk 2 39 (.int .i64 h) hH rfl rfl (by intro w' hSw;go_simp) ?_
     simp only [Act.put,zqa,zqb,zqc]
     refine tk 3 40 (.slice at_ t.length ct_) hH rfl rfl (by intro w' hSw;go_simp) ?_
     simp only [Act.put,zqa,zqb,zqc]
     refine wpAnyH_ready (rs:=[1,4]) (by kernel_rfl) (by simp) ?_
     refine AllReadyH.cons rfl (fun K' hK=>?_) (AllReadyH.cons rfl (fun K' hK=>?_) AllReadyH.nil)
     ·have xx:=x0
      rw [if_pos (by rfl)]
      go_simp
      refine hK.out _ _ hH (fun _=>?_)
      clear hK K' xx
      refine ry 4 rfl (fun K' hK=>?_)
      refine sg 41 rfl 20 #[.tmp 39,.tmp 40] rfl #[.int .i64 h,.slice at_ t.length ct_] (fun _ _=>rfl) CN ?_
      rintro e w4 ⟨v4,rfl,hF4⟩
      obtain ⟨a4,c4,rfl,b4,hS4,hR4⟩:=F4.out w4 v4 hF4
      refine ⟨_,rfl,?_⟩
      simp only [Act.put,zqa,zqb,zqc]
      refine hK.out _ _ (HL.bel.trans (b4.mono HL.bel.size)) (fun hH4=>?_)
      clear hK K'
      have hS4a:=hS4.bl' (below1 w4 (.cells #[.slice a4 T4 c4] 45))
      have S4a:Below w.heap.size w (w4.alloc (.cells #[.slice a4 T4 c4] 45)):=hH4.alloc hH4.size _
      refine ry 5 rfl (fun K' hK=>?_)
      rw [if_pos (by rfl)]
      go_simp
      refine hK.out _ _ S4a (fun _=>?_)
      clear hK K'
      refine ry 6 rfl (fun K' hK=>?_)
      refine step_append_lies _ (by rfl) (.tmp 38) (.tmp 42) 25 (by rfl) (w.heap.size+2) 45 i0 _ 1 24 Tryz.underlying25 hi hz0 hz1 hz2 rfl (by decide) (.slice av mm.length cv) mm.length vs (by rfl) ((hR4.b.outer).alloc _) ⟨w4.heap.size,0,none⟩ 1 1 [.slice a4 T4 c4] (by rfl) (by rfl) (World.news_of_block (cs:=#[.slice a4 T4 c4]) (t:=45) (fr:=(0,0)) (heap_alloc_new w4 _)) (by simp [Value.oneCell']) (by omega) (by unfold maxLen;omega) (by omega) (by have:=b4.size;simp;omega) (w4.heap.size+1) (by simp) ?_
      intro g5 cap5 w5 hown5 hg5 hat5 hlt5
      obtain ⟨hS5,b5,hL5⟩:=F5.out w4 _ hF4 g5 cap5 w5 hown5 hg5 hat5
      simp only [Act.put,zqa,zqb,zqc]
      refine hK.out _ _ b5 (fun hH5=>?_)
      clear hK K'
      refine tk 7 44 (.pointer (some ⟨w.heap.size+1,0,none⟩)) hH5 rfl rfl (by intro w' hSw;go_simp) ?_
      simp only [Act.put,zqa,zqb,zqc]
      refine ry 8 rfl (fun K' hK=>?_)
      have xc:=hS5.c
      have xz:=hS5.fz
      rw [if_pos (by rfl)]
      go_simp
      refine hK.out _ _ (b5.setCell (by show w.heap.size≤w.heap.size+1;omega) _) (fun _=>?_)
      clear hK K'
      refine wpAnyH_done (by kernel_rfl) ?_ _
      clear xc xz
      go_wp2_with fail
      exact ⟨⟨n+1,_,_,by go_num,by omega,hL5 _ rfl⟩,by simp [intOf];omega⟩
     ·refine sg 41 rfl 20 #[.tmp 39,.tmp 40] rfl #[.int .i64 h,.slice at_ t.length ct_] (fun _ _=>rfl) CN ?_
      rintro e w4 ⟨v4,rfl,hF4⟩
      obtain ⟨a4,c4,rfl,b4,hS4,hR4⟩:=F4.out w4 v4 hF4
      refine ⟨_,rfl,?_⟩
      simp only [Act.put,zqa,zqb,zqc]
      refine hK.out _ _ (HL.bel.trans (b4.mono HL.bel.size)) (fun hH4=>?_)
      clear hK K'
      have hS4a:=hS4.bl' (below1 w4 (.cells #[.slice a4 T4 c4] 45))
      have S4a:Below w.heap.size w (w4.alloc (.cells #[.slice a4 T4 c4] 45)):=hH4.alloc hH4.size _
      refine wpAnyH_ready (rs:=[1,5]) (by kernel_rfl) (by simp) ?_
      refine AllReadyH.cons rfl (fun K' hK=>?_) (AllReadyH.cons rfl (fun K' hK=>?_) AllReadyH.nil)
      ·have xx:=hS4.c
       rw [if_pos (by rfl)]
       go_simp
       refine hK.out _ _ hH4 (fun _=>?_)
       clear hK K' xx
       refine ry 5 rfl (fun K' hK=>?_)
       rw [if_pos (by rfl)]
       go_simp
       refine hK.out _ _ S4a (fun _=>?_)
       clear hK K'
       refine ry 6 rfl (fun K' hK=>?_)
       refine step_append_lies _ (by rfl) (.tmp 38) (.tmp 42) 25 (by rfl) (w.heap.size+2) 45 i0 _ 1 24 Tryz.underlying25 hi hz0 hz1 hz2 rfl (by decide) (.slice av mm.length cv) mm.length vs (by rfl) ((hR4.b.outer).alloc _) ⟨w4.heap.size,0,none⟩ 1 1 [.slice a4 T4 c4] (by rfl) (by rfl) (World.news_of_block (cs:=#[.slice a4 T4 c4]) (t:=45) (fr:=(0,0)) (heap_alloc_new w4 _)) (by simp [Value.oneCell']) (by omega) (by unfold maxLen;omega) (by omega) (by have:=b4.size;simp;omega) (w4.heap.size+1) (by simp) ?_
       intro g5 cap5 w5 hown5 hg5 hat5 hlt5
       obtain ⟨hS5,b5,hL5⟩:=F5.out w4 _ hF4 g5 cap5 w5 hown5 hg5 hat5
       simp only [Act.put,zqa,zqb,zqc]
       refine hK.out _ _ b5 (fun hH5=>?_)
       clear hK K'
       refine tk 7 44 (.pointer (some ⟨w.heap.size+1,0,none⟩)) hH5 rfl rfl (by intro w' hSw;go_simp) ?_
       simp only [Act.put,zqa,zqb,zqc]
       refine ry 8 rfl (fun K' hK=>?_)
       have xc:=hS5.c
       have xz:=hS5.fz
       rw [if_pos (by rfl)]
       go_simp
       refine hK.out _ _ (b5.setCell (by show w.heap.size≤w.heap.size+1;omega) _) (fun _=>?_)
       clear hK K'
       refine wpAnyH_done (by kernel_rfl) ?_ _
       clear xc xz
       go_wp2_with fail
       exact ⟨⟨n+1,_,_,by go_num,by omega,hL5 _ rfl⟩,by simp [intOf];omega⟩
      ·rw [if_pos (by rfl)]
       go_simp
       refine hK.out _ _ S4a (fun _=>?_)
       clear hK K'
       refine ry 1 rfl (fun K' hK=>?_)
       have xx:=hS4a.c
       rw [if_pos (by rfl)]
       go_simp
       refine hK.out _ _ S4a (fun _=>?_)
       clear hK K' xx
       refine ry 6 rfl (fun K' hK=>?_)
       refine step_append_lies _ (by rfl) (.tmp 38) (.tmp 42) 25 (by rfl) (w.heap.size+2) 45 i0 _ 1 24 Tryz.underlying25 hi hz0 hz1 hz2 rfl (by decide) (.slice av mm.length cv) mm.length vs (by rfl) ((hR4.b.outer).alloc _) ⟨w4.heap.size,0,none⟩ 1 1 [.slice a4 T4 c4] (by rfl) (by rfl) (World.news_of_block (cs:=#[.slice a4 T4 c4]) (t:=45) (fr:=(0,0)) (heap_alloc_new w4 _)) (by simp [Value.oneCell']) (by omega) (by unfold maxLen;omega) (by omega) (by have:=b4.size;simp;omega) (w4.heap.size+1) (by simp) ?_
       intro g5 cap5 w5 hown5 hg5 hat5 hlt5
       obtain ⟨hS5,b5,hL5⟩:=F5.out w4 _ hF4 g5 cap5 w5 hown5 hg5 hat5
       simp only [Act.put,zqa,zqb,zqc]
       refine hK.out _ _ b5 (fun hH5=>?_)
       clear hK K'
       refine tk 7 44 (.pointer (some ⟨w.heap.size+1,0,none⟩)) hH5 rfl rfl (by intro w' hSw;go_simp) ?_
       simp only [Act.put,zqa,zqb,zqc]
       refine ry 8 rfl (fun K' hK=>?_)
       have xc:=hS5.c
       have xz:=hS5.fz
       rw [if_pos (by rfl)]
       go_simp
       refine hK.out _ _ (b5.setCell (by show w.heap.size≤w.heap.size+1;omega) _) (fun _=>?_)
       clear hK K'
       refine wpAnyH_done (by kernel_rfl) ?_ _
       clear xc xz
       go_wp2_with fail
       exact ⟨⟨n+1,_,_,by go_num,by omega,hL5 _ rfl⟩,by simp [intOf];omega⟩
    ·have htk:ll.take n=ll:=List.take_of_length_le (by omega)
     obtain ⟨hR,hP,hQ,hbel,_,_,_,_⟩:=HL
     rw [htk] at hR
     obtain ⟨rr,hrr⟩:∃ rr,ll.map (M.fin h)=rr:=⟨_,rfl⟩
     rw [hrr] at hR
     have HRR:Hid (ll.map (M.fin h)=rr):=hrr
     clear hrr
     obtain ⟨av,gv,cv,rfl,_⟩:=hR.b.ss
     have hkn':¬ (n:Int) < ll.length:=by omega
     have p0:=hP.c
     have pf:=hP.fz
     have q0:=hQ.c
     have qf:=hQ.fz
     have lP:=hP.lt
     have lQ:=hQ.lt
     have hne:w.heap.size≠w.heap.size+1:=by omega
     go_wp2_with fail
     have q1:=(hQ.set (.slice av rr.length cv)).c
     exact bodyPost_ret (v:=.tuple #[.agg #[.slice av rr.length cv],.bool true]) (by simp [results,Tryz.results6,go_sem,q1]) rfl ⟨_,rfl,⟨vs,by rw [HRR.out];exact (hR.far (by omega) _).mono (by omega)⟩,hbel.setCell (Nat.le_refl _) _⟩
  ·have CT:=thr_pass h _ _ ((w.alloc (.cells #[.slice none 0 0] 27)).alloc (.cells #[.slice none 0 0] 27)) rfl rfl
   have er:M.raw 2 h=[[⟨1,0,1⟩,⟨M.kst h,1,1⟩],[⟨M.kld h,1,0⟩,⟨2,0,0⟩]]:=by simp [M.raw,M.sst,M.sld,M.kst_no,M.kld_no]
   rw [← er] at CT
   clear er
   generalize M.raw 2 h=ll at *
   go_enter Tryz.func6,Tryz.ntmps6
   go_wp2_with fail
   refine (formOf_any 2 _).mono ?_
   rintro e w0 ⟨rfl,rfl⟩
   go_wp2_with fail
   refine CT.mono ?_
   clear CT
   rintro e W1 ⟨vt,us,rfl,R0,b1⟩
   simp only [World.size_alloc] at R0
   obtain ⟨G,ct,rfl,hG1,hG2⟩:=R0.b.outer.form (by omega)
   have hul:us.length=ll.length:=R0.b.len
   have bw1:=bP.trans (b1.mono bP.size)
   have L0:ShLp w W1 W1 h ll us 0 (.slice none 0 0) []:=⟨by simpa using Rdg.nil _ _,hP.bl' b1,hQ.bl' b1,bw1,Nat.le_refl _,fun _ _ _=>rfl,fun k hk=>by simp [Value.ownBlock] at hk,fun i hi=>by simp at hi⟩
   clear bP hP hQ b1
   go_wp2_with fail
   go_loopw [33] (fun s33 wr=>∃ (n:Nat) (v:Value) (vs:List Value),s33=.int .i64 n∧n≤ll.length∧ShLp w W1 wr h ll us n v vs) (fun s33 _=>ll.length - (intOf s33).toNat)
   case atStart=>exact ⟨0,_,_,rfl,Nat.zero_le _,L0⟩
   case round =>
    obtain ⟨n,v,vs,rfl,hn,HL⟩:=hrel
    clear L0
    by_cases hlt:n < ll.length
    ·have hun:n < us.length:=by omega
     have OU:=ownsRow_keep R0.b.outer HL.keep
     have OR:=ownsRow_keep (R0.b.inner n hlt hun) HL.keep
     have hc:=OU.cells (g:=G) rfl n us[n] (by simp [hun])
     rw [Go.WideShapes.add_plain,Nat.zero_add] at hc
     have ht:=hl4 _ (List.getElem_mem hlt)
     obtain ⟨at_,ct_,eu⟩:=own_slx OR
     have hmm:((ll.take n).map (M.fin h)).length≤1048576:=by simp;omega
     have hT:(M.fin h ll[n]).length≤1048576:=by have:=M.fin_le h ll[n];omega
     have F4:Hid (∀ (w4:World) (v4:Value),FinAns wr w4 (w.heap.size+2) us[n] v4 (M.fin h ll[n])→∃ a4 c4,v4=.slice a4 (M.fin h ll[n]).length c4∧Below wr.heap.size wr w4∧Slot1 w4 (w.heap.size+1) v∧Rdg w4 (w.heap.size+2) v ((ll.take n).map (M.fin h)) vs):=by
      intro w4 v4 hF
      obtain ⟨a4,c4,e⟩:=own_slx hF.own
      exact ⟨a4,c4,e,hF.bel,HL.p.bl' hF.bel,HL.rd.below hF.bel⟩
     have F5:Hid (∀ (w4:World) (v4:Value),FinAns wr w4 (w.heap.size+2) us[n] v4 (M.fin h ll[n])→∀ (g5 cap5:Nat) (w5:World),w5.ownsRow (w.heap.size+2) 45 1 (.slice (some ⟨g5,0,none⟩) (((ll.take n).map (M.fin h)).length+1) cap5) (((ll.take n).map (M.fin h)).length+1) (vs++[v4])→(w4.alloc (.cells #[v4] 45)).grownBy w5 v.ownBlock→(v.ownBlock=some g5∨g5=w4.heap.size+1)→Slot1 w5 (w.heap.size+1) v∧Below w.heap.size w w5∧∀ u,u=Value.slice (some ⟨g5,0,none⟩) (((ll.take n).map (M.fin h)).length+1) cap5→ShLp w W1 (w5.setCell ⟨w.heap.size+1,0,none⟩ u) h ll us (n+1) u (vs++[v4])):=by
      intro w4 v4 hF g5 cap5 w5 ho hg hat
      exact HL.next R0 hlt hun hF ho hg hat (by have:=HL.sz;have:=hF.bel.size;omega)
     have CN:Calls Tryz.prog 20 #[.int .i64 h,us[n]] wr.drew fun e w'=>∃ v',e=.returned v'∧FinAns wr w' (w.heap.size+2) us[n] v' (M.fin h ll[n]) :=
      (finish_any h (w.heap.size+2) us[n] ll[n] wr.drew (by have:=HL.p.lt;show w.heap.size+2≤wr.heap.size;omega) (by omega) (ownsRow_below OR (Below.refl wr.heap.size wr).drew)).mono fun e w' ⟨v',he,hF⟩=>⟨v',he,hF.undrew⟩
     have HW:Hid (us[n]=.slice at_ ll[n].length ct_):=eu
     rw [eu] at hc CN F4 F5
     clear eu OU OR
     obtain ⟨T4,hT4⟩:∃ T4,(M.fin h ll[n]).length=T4:=⟨_,rfl⟩
     rw [hT4] at F4 hT
     clear hT4
     generalize M.fin h ll[n]=t4 at *
     generalize ll[n]=t at *
     have i1:(n:Int) < ll.length:=by omega
     have hRd:=HL.rd
     obtain ⟨av,gv,cv,rfl,_⟩:=hRd.b.ss
     clear hRd
     generalize (ll.take n).map (M.fin h)=mm at *
     have x0:=HL.p.c
     have lP:=HL.p.lt
     go_wp2_with fail
     refine wp_region_held_drew (S:=fun w'=>Below w.heap.size w w') (by kernel_rfl) HL.bel.drew (fun hH=>?_)
     refine tk 0 37 (.pointer (some ⟨w.heap.size+1,0,none⟩)) hH rfl rfl (by intro w' hSw;go_simp) ?_
     simp only [Act.put,zqa,zqb,zqc]
     refine tk 2 39 (.int .i64 h) hH rfl rfl (by intro w' hSw;go_simp) ?_
     simp only [Act.put,zqa,zqb,zqc]
     refine tk 3 40 (.slice at_ t.length ct_) hH rfl rfl (by intro w' hSw;go_simp) ?_
     simp only [Act.put,zqa,zqb,zqc]
     refine wpAnyH_ready (rs:=[1,4]) (by kernel_rfl) (by simp) ?_
     refine AllReadyH.cons rfl (fun K' hK=>?_) (AllReadyH.cons rfl (fun K' hK=>?_) AllReadyH.nil)
     ·have xx:=x0
      rw [if_pos (by rfl)]
      go_simp
      refine hK.out _ _ hH (fun _=>?_)
      clear hK K' xx
      refine ry 4 rfl (fun K' hK=>?_)
      refine sg 41 rfl 20 #[.tmp 39,.tmp 40] rfl #[.int .i64 h,.slice at_ t.length ct_] (fun _ _=>rfl) CN ?_
      rintro e w4 ⟨v4,rfl,hF4⟩
      obtain ⟨a4,c4,rfl,b4,hS4,hR4⟩:=F4.out w4 v4 hF4
      refine ⟨_,rfl,?_⟩
      simp only [Act.put,zqa,zqb,zqc]
      refine hK.out _ _ (HL.bel.trans (b4.mono HL.bel.size)) (fun hH4=>?_)
      clear hK K'
      have hS4a:=hS4.bl' (below1 w4 (.cells #[.slice a4 T4 c4] 45))
      have S4a:Below w.heap.size w (w4.alloc (.cells #[.slice a4 T4 c4] 45)):=hH4.alloc hH4.size _
      refine ry 5 rfl (fun K' hK=>?_)
      rw [if_pos (by rfl)]
      go_simp
      refine hK.out _ _ S4a (fun _=>?_)
      clear hK K'
      refine ry 6 rfl (fun K' hK=>?_)
      refine step_append_lies _ (by rfl) (.tmp 38) (.tmp 42) 25 (by rfl) (w.heap.size+2) 45 i0 _ 1 24 Tryz.underlying25 hi hz0 hz1 hz2 rfl (by decide) (.slice av mm.length cv) mm.length vs (by rfl) ((hR4.b.outer).alloc _) ⟨w4.heap.size,0,none⟩ 1 1 [.slice a4 T4 c4] (by rfl) (by rfl) (World.news_of_block (cs:=#[.slice a4 T4 c4]) (t:=45) (fr:=(0,0)) (heap_alloc_new w4 _)) (by simp [Value.oneCell']) (by omega) (by unfold maxLen;omega) (by omega) (by have:=b4.size;simp;omega) (w4.heap.size+1) (by simp) ?_
      intro g5 cap5 w5 hown5 hg5 hat5 hlt5
      obtain ⟨hS5,b5,hL5⟩:=F5.out w4 _ hF4 g5 cap5 w5 hown5 hg5 hat5
      simp only [Act.put,zqa,zqb,zqc]
      refine hK.out _ _ b5 (fun hH5=>?_)
      clear hK K'
      refine tk 7 44 (.pointer (some ⟨w.heap.size+1,0,none⟩)) hH5 rfl rfl (by intro w' hSw;go_simp) ?_
      simp only [Act.put,zqa,zqb,zqc]
      refine ry 8 rfl (fun K' hK=>?_)
      have xc:=hS5.c
      have xz:=hS5.fz
      rw [if_pos (by rfl)]
      go_simp
      refine hK.out _ _ (b5.setCell (by show w.heap.size≤w.heap.size+1;omega) _) (fun _=>?_)
      clear hK K'
      refine wpAnyH_done (by kernel_rfl) ?_ _
      clear xc xz
      go_wp2_with fail
      exact ⟨⟨n+1,_,_,by go_num,by omega,hL5 _ rfl⟩,by simp [intOf];omega⟩
     ·refine sg 41 rfl 20 #[.tmp 39,.tmp 40] rfl #[.int .i64 h,.slice at_ t.length ct_] (fun _ _=>rfl) CN ?_
      rintro e w4 ⟨v4,rfl,hF4⟩
      obtain ⟨a4,c4,rfl,b4,hS4,hR4⟩:=F4.out w4 v4 hF4
      refine ⟨_,rfl,?_⟩
      simp only [Act.put,zqa,zqb,zqc]
      refine hK.out _ _ (HL.bel.trans (b4.mono HL.bel.size)) (fun hH4=>?_)
      clear hK K'
      have hS4a:=hS4.bl' (below1 w4 (.cells #[.slice a4 T4 c4] 45))
      have S4a:Below w.heap.size w (w4.alloc (.cells #[.slice a4 T4 c4] 45)):=hH4.alloc hH4.size _
      refine wpAnyH_ready (rs:=[1,5]) (by kernel_rfl) (by simp) ?_
      refine AllReadyH.cons rfl (fun K' hK=>?_) (AllReadyH.cons rfl (fun K' hK=>?_) AllReadyH.nil)
      ·have xx:=hS4.c
       rw [if_pos (by rfl)]
       go_simp
       refine hK.out _ _ hH4 (fun _=>?_)
       clear hK K' xx
       refine ry 5 rfl (fun K' hK=>?_)
       rw [if_pos (by rfl)]
       go_simp
       refine hK.out _ _ S4a (fun _=>?_)
       clear hK K'
       refine ry 6 rfl (fun K' hK=>?_)
       refine step_append_lies _ (by rfl) (.tmp 38) (.tmp 42) 25 (by rfl) (w.heap.size+2) 45 i0 _ 1 24 Tryz.underlying25 hi hz0 hz1 hz2 rfl (by decide) (.slice av mm.length cv) mm.length vs (by rfl) ((hR4.b.outer).alloc _) ⟨w4.heap.size,0,none⟩ 1 1 [.slice a4 T4 c4] (by rfl) (by rfl) (World.news_of_block (cs:=#[.slice a4 T4 c4]) (t:=45) (fr:=(0,0)) (heap_alloc_new w4 _)) (by simp [Value.oneCell']) (by omega) (by unfold maxLen;omega) (by omega) (by have:=b4.size;simp;omega) (w4.heap.size+1) (by simp) ?_
       intro g5 cap5 w5 hown5 hg5 hat5 hlt5
       obtain ⟨hS5,b5,hL5⟩:=F5.out w4 _ hF4 g5 cap5 w5 hown5 hg5 hat5
       simp only [Act.put,zqa,zqb,zqc]
       refine hK.out _ _ b5 (fun hH5=>?_)
       clear hK K'
       refine tk 7 44 (.pointer (some ⟨w.heap.size+1,0,none⟩)) hH5 rfl rfl (by intro w' hSw;go_simp) ?_
       simp only [Act.put,zqa,zqb,zqc]
       refine ry 8 rfl (fun K' hK=>?_)
       have xc:=hS5.c
       have xz:=hS5.fz
       rw [if_pos (by rfl)]
       go_simp
       refine hK.out _ _ (b5.setCell (by show w.heap.size≤w.heap.size+1;omega) _) (fun _=>?_)
       clear hK K'
       refine wpAnyH_done (by kernel_rfl) ?_ _
       clear xc xz
       go_wp2_with fail
       exact ⟨⟨n+1,_,_,by go_num,by omega,hL5 _ rfl⟩,by simp [intOf];omega⟩
      ·rw [if_pos (by rfl)]
       go_simp
       refine hK.out _ _ S4a (fun _=>?_)
       clear hK K'
       refine ry 1 rfl (fun K' hK=>?_)
       have xx:=hS4a.c
       rw [if_pos (by rfl)]
       go_simp
       refine hK.out _ _ S4a (fun _=>?_)
       clear hK K' xx
       refine ry 6 rfl (fun K' hK=>?_)
       refine step_append_lies _ (by rfl) (.tmp 38) (.tmp 42) 25 (by rfl) (w.heap.size+2) 45 i0 _ 1 24 Tryz.underlying25 hi hz0 hz1 hz2 rfl (by decide) (.slice av mm.length cv) mm.length vs (by rfl) ((hR4.b.outer).alloc _) ⟨w4.heap.size,0,none⟩ 1 1 [.slice a4 T4 c4] (by rfl) (by rfl) (World.news_of_block (cs:=#[.slice a4 T4 c4]) (t:=45) (fr:=(0,0)) (heap_alloc_new w4 _)) (by simp [Value.oneCell']) (by omega) (by unfold maxLen;omega) (by omega) (by have:=b4.size;simp;omega) (w4.heap.size+1) (by simp) ?_
       intro g5 cap5 w5 hown5 hg5 hat5 hlt5
       obtain ⟨hS5,b5,hL5⟩:=F5.out w4 _ hF4 g5 cap5 w5 hown5 hg5 hat5
       simp only [Act.put,zqa,zqb,zqc]
       refine hK.out _ _ b5 (fun hH5=>?_)
       clear hK K'
       refine tk 7 44 (.pointer (some ⟨w.heap.size+1,0,none⟩)) hH5 rfl rfl (by intro w' hSw;go_simp) ?_
       simp only [Act.put,zqa,zqb,zqc]
       refine ry 8 rfl (fun K' hK=>?_)
       have xc:=hS5.c
       have xz:=hS5.fz
       rw [if_pos (by rfl)]
       go_simp
       refine hK.out _ _ (b5.setCell (by show w.heap.size≤w.heap.size+1;omega) _) (fun _=>?_)
       clear hK K'
       refine wpAnyH_done (by kernel_rfl) ?_ _
       clear xc xz
       go_wp2_with fail
       exact ⟨⟨n+1,_,_,by go_num,by omega,hL5 _ rfl⟩,by simp [intOf];omega⟩
    ·have htk:ll.take n=ll:=List.take_of_length_le (by omega)
     obtain ⟨hR,hP,hQ,hbel,_,_,_,_⟩:=HL
     rw [htk] at hR
     obtain ⟨rr,hrr⟩:∃ rr,ll.map (M.fin h)=rr:=⟨_,rfl⟩
     rw [hrr] at hR
     have HRR:Hid (ll.map (M.fin h)=rr):=hrr
     clear hrr
     obtain ⟨av,gv,cv,rfl,_⟩:=hR.b.ss
     have hkn':¬ (n:Int) < ll.length:=by omega
     have p0:=hP.c
     have pf:=hP.fz
     have q0:=hQ.c
     have qf:=hQ.fz
     have lP:=hP.lt
     have lQ:=hQ.lt
     have hne:w.heap.size≠w.heap.size+1:=by omega
     go_wp2_with fail
     have q1:=(hQ.set (.slice av rr.length cv)).c
     exact bodyPost_ret (v:=.tuple #[.agg #[.slice av rr.length cv],.bool true]) (by simp [results,Tryz.results6,go_sem,q1]) rfl ⟨_,rfl,⟨vs,by rw [HRR.out];exact (hR.far (by omega) _).mono (by omega)⟩,hbel.setCell (Nat.le_refl _) _⟩
  ·have CT:=thr_round h _ _ ((w.alloc (.cells #[.slice none 0 0] 27)).alloc (.cells #[.slice none 0 0] 27)) rfl rfl
   have er:M.raw 3 h=[[⟨M.kld h,0,0⟩,⟨M.kst h,1,1⟩],[⟨M.kld h,1,0⟩,⟨M.kst h,0,1⟩]]:=by simp [M.raw,M.sst,M.sld,M.kst_no,M.kld_no]
   rw [← er] at CT
   clear er
   generalize M.raw 3 h=ll at *
   go_enter Tryz.func6,Tryz.ntmps6
   go_wp2_with fail
   refine (formOf_any 3 _).mono ?_
   rintro e w0 ⟨rfl,rfl⟩
   go_wp2_with fail
   refine CT.mono ?_
   clear CT
   rintro e W1 ⟨vt,us,rfl,R0,b1⟩
   simp only [World.size_alloc] at R0
   obtain ⟨G,ct,rfl,hG1,hG2⟩:=R0.b.outer.form (by omega)
   have hul:us.length=ll.length:=R0.b.len
   have bw1:=bP.trans (b1.mono bP.size)
   have L0:ShLp w W1 W1 h ll us 0 (.slice none 0 0) []:=⟨by simpa using Rdg.nil _ _,hP.bl' b1,hQ.bl' b1,bw1,Nat.le_refl _,fun _ _ _=>rfl,fun k hk=>by simp [Value.ownBlock] at hk,fun i hi=>by simp at hi⟩
   clear bP hP hQ b1
   go_wp2_with fail
   go_loopw [33] (fun s33 wr=>∃ (n:Nat) (v:Value) (vs:List Value),s33=.int .i64 n∧n≤ll.length∧ShLp w W1 wr h ll us n v vs) (fun s33 _=>ll.length - (intOf s33).toNat)
   case atStart=>exact ⟨0,_,_,rfl,Nat.zero_le _,L0⟩
   case round =>
    obtain ⟨n,v,vs,rfl,hn,HL⟩:=hrel
    clear L0
    by_cases hlt:n < ll.length
    ·have hun:n < us.length:=by omega
     have OU:=ownsRow_keep R0.b.outer HL.keep
     have OR:=ownsRow_keep (R0.b.inner n hlt hun) HL.keep
     have hc:=OU.cells (g:=G) rfl n us[n] (by simp [hun])
     rw [Go.WideShapes.add_plain,Nat.zero_add] at hc
     have ht:=hl4 _ (List.getElem_mem hlt)
     obtain ⟨at_,ct_,eu⟩:=own_slx OR
     have hmm:((ll.take n).map (M.fin h)).length≤1048576:=by simp;omega
     have hT:(M.fin h ll[n]).length≤1048576:=by have:=M.fin_le h ll[n];omega
     have F4:Hid (∀ (w4:World) (v4:Value),FinAns wr w4 (w.heap.size+2) us[n] v4 (M.fin h ll[n])→∃ a4 c4,v4=.slice a4 (M.fin h ll[n]).length c4∧Below wr.heap.size wr w4∧Slot1 w4 (w.heap.size+1) v∧Rdg w4 (w.heap.size+2) v ((ll.take n).map (M.fin h)) vs):=by
      intro w4 v4 hF
      obtain ⟨a4,c4,e⟩:=own_slx hF.own
      exact ⟨a4,c4,e,hF.bel,HL.p.bl' hF.bel,HL.rd.below hF.bel⟩
     have F5:Hid (∀ (w4:World) (v4:Value),FinAns wr w4 (w.heap.size+2) us[n] v4 (M.fin h ll[n])→∀ (g5 cap5:Nat) (w5:World),w5.ownsRow (w.heap.size+2) 45 1 (.slice (some ⟨g5,0,none⟩) (((ll.take n).map (M.fin h)).length+1) cap5) (((ll.take n).map (M.fin h)).length+1) (vs++[v4])→(w4.alloc (.cells #[v4] 45)).grownBy w5 v.ownBlock→(v.ownBlock=some g5∨g5=w4.heap.size+1)→Slot1 w5 (w.heap.size+1) v∧Below w.heap.size w w5∧∀ u,u=Value.slice (some ⟨g5,0,none⟩) (((ll.take n).map (M.fin h)).length+1) cap5→ShLp w W1 (w5.setCell ⟨w.heap.size+1,0,none⟩ u) h ll us (n+1) u (vs++[v4])):=by
      intro w4 v4 hF g5 cap5 w5 ho hg hat
      exact HL.next R0 hlt hun hF ho hg hat (by have:=HL.sz;have:=hF.bel.size;omega)
     have CN:Calls Tryz.prog 20 #[.int .i64 h,us[n]] wr.drew fun e w'=>∃ v',e=.returned v'∧FinAns wr w' (w.heap.size+2) us[n] v' (M.fin h ll[n]) :=
      (finish_any h (w.heap.size+2) us[n] ll[n] wr.drew (by have:=HL.p.lt;show w.heap.size+2≤wr.heap.size;omega) (by omega) (ownsRow_below OR (Below.refl wr.heap.size wr).drew)).mono fun e w' ⟨v',he,hF⟩=>⟨v',he,hF.undrew⟩
     have HW:Hid (us[n]=.slice at_ ll[n].length ct_):=eu
     rw [eu] at hc CN F4 F5
     clear eu OU OR
     obtain ⟨T4,hT4⟩:∃ T4,(M.fin h ll[n]).length=T4:=⟨_,rfl⟩
     rw [hT4] at F4 hT
     clear hT4
     generalize M.fin h ll[n]=t4 at *
     generalize ll[n]=t at *
     have i1:(n:Int) < ll.length:=by omega
     have hRd:=HL.rd
     obtain ⟨av,gv,cv,rfl,_⟩:=hRd.b.ss
     clear hRd
     generalize (ll.take n).map (M.fin h)=mm at *
     have x0:=HL.p.c
     have lP:=HL.p.lt
     go_wp2_with fail
     refine wp_region_held_drew (S:=fun w'=>Below w.heap.size w w') (by kernel_rfl) HL.bel.drew (fun hH=>?_)
     refine tk 0 37 (.pointer (some ⟨w.heap.size+1,0,none⟩)) hH rfl rfl (by intro w' hSw;go_simp) ?_
     simp only [Act.put,zqa,zqb,zqc]
     refine tk 2 39 (.int .i64 h) hH rfl rfl (by intro w' hSw;go_simp) ?_
     simp only [Act.put,zqa,zqb,zqc]
     refine tk 3 40 (.slice at_ t.length ct_) hH rfl rfl (by intro w' hSw;go_simp) ?_
     simp only [Act.put,zqa,zqb,zqc]
     refine wpAnyH_ready (rs:=[1,4]) (by kernel_rfl) (by simp) ?_
     refine AllReadyH.cons rfl (fun K' hK=>?_) (AllReadyH.cons rfl (fun K' hK=>?_) AllReadyH.nil)
     ·have xx:=x0
      rw [if_pos (by rfl)]
      go_simp
      refine hK.out _ _ hH (fun _=>?_)
      clear hK K' xx
      refine ry 4 rfl (fun K' hK=>?_)
      refine sg 41 rfl 20 #[.tmp 39,.tmp 40] rfl #[.int .i64 h,.slice at_ t.length ct_] (fun _ _=>rfl) CN ?_
      rintro e w4 ⟨v4,rfl,hF4⟩
      obtain ⟨a4,c4,rfl,b4,hS4,hR4⟩:=F4.out w4 v4 hF4
      refine ⟨_,rfl,?_⟩
      simp only [Act.put,zqa,zqb,zqc]
      refine hK.out _ _ (HL.bel.trans (b4.mono HL.bel.size)) (fun hH4=>?_)
      clear hK K'
      have hS4a:=hS4.bl' (below1 w4 (.cells #[.slice a4 T4 c4] 45))
      have S4a:Below w.heap.size w (w4.alloc (.cells #[.slice a4 T4 c4] 45)):=hH4.alloc hH4.size _
      refine ry 5 rfl (fun K' hK=>?_)
      rw [if_pos (by rfl)]
      go_simp
      refine hK.out _ _ S4a (fun _=>?_)
      clear hK K'
      refine ry 6 rfl (fun K' hK=>?_)
      refine step_append_lies _ (by rfl) (.tmp 38) (.tmp 42) 25 (by rfl) (w.heap.size+2) 45 i0 _ 1 24 Tryz.underlying25 hi hz0 hz1 hz2 rfl (by decide) (.slice av mm.length cv) mm.length vs (by rfl) ((hR4.b.outer).alloc _) ⟨w4.heap.size,0,none⟩ 1 1 [.slice a4 T4 c4] (by rfl) (by rfl) (World.news_of_block (cs:=#[.slice a4 T4 c4]) (t:=45) (fr:=(0,0)) (heap_alloc_new w4 _)) (by simp [Value.oneCell']) (by omega) (by unfold maxLen;omega) (by omega) (by have:=b4.size;simp;omega) (w4.heap.size+1) (by simp) ?_
      intro g5 cap5 w5 hown5 hg5 hat5 hlt5
      obtain ⟨hS5,b5,hL5⟩:=F5.out w4 _ hF4 g5 cap5 w5 hown5 hg5 hat5
      simp only [Act.put,zqa,zqb,zqc]
      refine hK.out _ _ b5 (fun hH5=>?_)
      clear hK K'
      refine tk 7 44 (.pointer (some ⟨w.heap.size+1,0,none⟩)) hH5 rfl rfl (by intro w' hSw;go_simp) ?_
      simp only [Act.put,zqa,zqb,zqc]
      refine ry 8 rfl (fun K' hK=>?_)
      have xc:=hS5.c
      have xz:=hS5.fz
      rw [if_pos (by rfl)]
      go_simp
      refine hK.out _ _ (b5.setCell (by show w.heap.size≤w.heap.size+1;omega) _) (fun _=>?_)
      clear hK K'
      refine wpAnyH_done (by kernel_rfl) ?_ _
      clear xc xz
      go_wp2_with fail
      exact ⟨⟨n+1,_,_,by go_num,by omega,hL5 _ rfl⟩,by simp [intOf];omega⟩
     ·refine sg 41 rfl 20 #[.tmp 39,.tmp 40] rfl #[.int .i64 h,.slice at_ t.length ct_] (fun _ _=>rfl) CN ?_
      rintro e w4 ⟨v4,rfl,hF4⟩
      obtain ⟨a4,c4,rfl,b4,hS4,hR4⟩:=F4.out w4 v4 hF4
      refine ⟨_,rfl,?_⟩
      simp only [Act.put,zqa,zqb,zqc]
      refine hK.out _ _ (HL.bel.trans (b4.mono HL.bel.size)) (fun hH4=>?_)
      clear hK K'
      have hS4a:=hS4.bl' (below1 w4 (.cells #[.slice a4 T4 c4] 45))
      have S4a:Below w.heap.size w (w4.alloc (.cells #[.slice a4 T4 c4] 45)):=hH4.alloc hH4.size _
      refine wpAnyH_ready (rs:=[1,5]) (by kernel_rfl) (by simp) ?_
      refine AllReadyH.cons rfl (fun K' hK=>?_) (AllReadyH.cons rfl (fun K' hK=>?_) AllReadyH.nil)
      ·have xx:=hS4.c
       rw [if_pos (by rfl)]
       go_simp
       refine hK.out _ _ hH4 (fun _=>?_)
       clear hK K' xx
       refine ry 5 rfl (fun K' hK=>?_)
       rw [if_pos (by rfl)]
       go_simp
       refine hK.out _ _ S4a (fun _=>?_)
       clear hK K'
       refine ry 6 rfl (fun K' hK=>?_)
       refine step_append_lies _ (by rfl) (.tmp 38) (.tmp 42) 25 (by rfl) (w.heap.size+2) 45 i0 _ 1 24 Tryz.underlying25 hi hz0 hz1 hz2 rfl (by decide) (.slice av mm.length cv) mm.length vs (by rfl) ((hR4.b.outer).alloc _) ⟨w4.heap.size,0,none⟩ 1 1 [.slice a4 T4 c4] (by rfl) (by rfl) (World.news_of_block (cs:=#[.slice a4 T4 c4]) (t:=45) (fr:=(0,0)) (heap_alloc_new w4 _)) (by simp [Value.oneCell']) (by omega) (by unfold maxLen;omega) (by omega) (by have:=b4.size;simp;omega) (w4.heap.size+1) (by simp) ?_
       intro g5 cap5 w5 hown5 hg5 hat5 hlt5
       obtain ⟨hS5,b5,hL5⟩:=F5.out w4 _ hF4 g5 cap5 w5 hown5 hg5 hat5
       simp only [Act.put,zqa,zqb,zqc]
       refine hK.out _ _ b5 (fun hH5=>?_)
       clear hK K'
       refine tk 7 44 (.pointer (some ⟨w.heap.size+1,0,none⟩)) hH5 rfl rfl (by intro w' hSw;go_simp) ?_
       simp only [Act.put,zqa,zqb,zqc]
       refine ry 8 rfl (fun K' hK=>?_)
       have xc:=hS5.c
       have xz:=hS5.fz
       rw [if_pos (by rfl)]
       go_simp
       refine hK.out _ _ (b5.setCell (by show w.heap.size≤w.heap.size+1;omega) _) (fun _=>?_)
       clear hK K'
       refine wpAnyH_done (by kernel_rfl) ?_ _
       clear xc xz
       go_wp2_with fail
       exact ⟨⟨n+1,_,_,by go_num,by omega,hL5 _ rfl⟩,by simp [intOf];omega⟩
      ·rw [if_pos (by rfl)]
       go_simp
       refine hK.out _ _ S4a (fun _=>?_)
       clear hK K'
       refine ry 1 rfl (fun K' hK=>?_)
       have xx:=hS4a.c
       rw [if_pos (by rfl)]
       go_simp
       refine hK.out _ _ S4a (fun _=>?_)
       clear hK K' xx
       refine ry 6 rfl (fun K' hK=>?_)
       refine step_append_lies _ (by rfl) (.tmp 38) (.tmp 42) 25 (by rfl) (w.heap.size+2) 45 i0 _ 1 24 Tryz.underlying25 hi hz0 hz1 hz2 rfl (by decide) (.slice av mm.length cv) mm.length vs (by rfl) ((hR4.b.outer).alloc _) ⟨w4.heap.size,0,none⟩ 1 1 [.slice a4 T4 c4] (by rfl) (by rfl) (World.news_of_block (cs:=#[.slice a4 T4 c4]) (t:=45) (fr:=(0,0)) (heap_alloc_new w4 _)) (by simp [Value.oneCell']) (by omega) (by unfold maxLen;omega) (by omega) (by have:=b4.size;simp;omega) (w4.heap.size+1) (by simp) ?_
       intro g5 cap5 w5 hown5 hg5 hat5 hlt5
       obtain ⟨hS5,b5,hL5⟩:=F5.out w4 _ hF4 g5 cap5 w5 hown5 hg5 hat5
       simp only [Act.put,zqa,zqb,zqc]
       refine hK.out _ _ b5 (fun hH5=>?_)
       clear hK K'
       refine tk 7 44 (.pointer (some ⟨w.heap.size+1,0,none⟩)) hH5 rfl rfl (by intro w' hSw;go_simp) ?_
       simp only [Act.put,zqa,zqb,zqc]
       refine ry 8 rfl (fun K' hK=>?_)
       have xc:=hS5.c
       have xz:=hS5.fz
       rw [if_pos (by rfl)]
       go_simp
       refine hK.out _ _ (b5.setCell (by show w.heap.size≤w.heap.size+1;omega) _) (fun _=>?_)
       clear hK K'
       refine wpAnyH_done (by kernel_rfl) ?_ _
       clear xc xz
       go_wp2_with fail
       exact ⟨⟨n+1,_,_,by go_num,by omega,hL5 _ rfl⟩,by simp [intOf];omega⟩
    ·have htk:ll.take n=ll:=List.take_of_length_le (by omega)
     obtain ⟨hR,hP,hQ,hbel,_,_,_,_⟩:=HL
     rw [htk] at hR
     obtain ⟨rr,hrr⟩:∃ rr,ll.map (M.fin h)=rr:=⟨_,rfl⟩
     rw [hrr] at hR
     have HRR:Hid (ll.map (M.fin h)=rr):=hrr
     clear hrr
     obtain ⟨av,gv,cv,rfl,_⟩:=hR.b.ss
     have hkn':¬ (n:Int) < ll.length:=by omega
     have p0:=hP.c
     have pf:=hP.fz
     have q0:=hQ.c
     have qf:=hQ.fz
     have lP:=hP.lt
     have lQ:=hQ.lt
     have hne:w.heap.size≠w.heap.size+1:=by omega
     go_wp2_with fail
     have q1:=(hQ.set (.slice av rr.length cv)).c
     exact bodyPost_ret (v:=.tuple #[.agg #[.slice av rr.length cv],.bool true]) (by simp [results,Tryz.results6,go_sem,q1]) rfl ⟨_,rfl,⟨vs,by rw [HRR.out];exact (hR.far (by omega) _).mono (by omega)⟩,hbel.setCell (Nat.le_refl _) _⟩
  ·have CT:=thr_twice h _ _ ((w.alloc (.cells #[.slice none 0 0] 27)).alloc (.cells #[.slice none 0 0] 27)) rfl rfl
   have er:M.raw 4 h=[[⟨M.kst h,0,1⟩],[⟨M.kld h,0,0⟩,⟨M.kld h,0,0⟩]]:=by simp [M.raw,M.sst,M.sld,M.kst_no,M.kld_no]
   rw [← er] at CT
   clear er
   generalize M.raw 4 h=ll at *
   go_enter Tryz.func6,Tryz.ntmps6
   go_wp2_with fail
   refine (formOf_any 4 _).mono ?_
   rintro e w0 ⟨rfl,rfl⟩
   go_wp2_with fail
   refine CT.mono ?_
   clear CT
   rintro e W1 ⟨vt,us,rfl,R0,b1⟩
   simp only [World.size_alloc] at R0
   obtain ⟨G,ct,rfl,hG1,hG2⟩:=R0.b.outer.form (by omega)
   have hul:us.length=ll.length:=R0.b.len
   have bw1:=bP.trans (b1.mono bP.size)
   have L0:ShLp w W1 W1 h ll us 0 (.slice none 0 0) []:=⟨by simpa using Rdg.nil _ _,hP.bl' b1,hQ.bl' b1,bw1,Nat.le_refl _,fun _ _ _=>rfl,fun k hk=>by simp [Value.ownBlock] at hk,fun i hi=>by simp at hi⟩
   clear bP hP hQ b1
   go_wp2_with fail
   go_loopw [33] (fun s33 wr=>∃ (n:Nat) (v:Value) (vs:List Value),s33=.int .i64 n∧n≤ll.length∧ShLp w W1 wr h ll us n v vs) (fun s33 _=>ll.length - (intOf s33).toNat)
   case atStart=>exact ⟨0,_,_,rfl,Nat.zero_le _,L0⟩
   case round =>
    obtain ⟨n,v,vs,rfl,hn,HL⟩:=hrel
    clear L0
    by_cases hlt:n < ll.length
    ·have hun:n < us.length:=by omega
     have OU:=ownsRow_keep R0.b.outer HL.keep
     have OR:=ownsRow_keep (R0.b.inner n hlt hun) HL.keep
     have hc:=OU.cells (g:=G) rfl n us[n] (by simp [hun])
     rw [Go.WideShapes.add_plain,Nat.zero_add] at hc
     have ht:=hl4 _ (List.getElem_mem hlt)
     obtain ⟨at_,ct_,eu⟩:=own_slx OR
     have hmm:((ll.take n).map (M.fin h)).length≤1048576:=by simp;omega
     have hT:(M.fin h ll[n]).length≤1048576:=by have:=M.fin_le h ll[n];omega
     have F4:Hid (∀ (w4:World) (v4:Value),FinAns wr w4 (w.heap.size+2) us[n] v4 (M.fin h ll[n])→∃ a4 c4,v4=.slice a4 (M.fin h ll[n]).length c4∧Below wr.heap.size wr w4∧Slot1 w4 (w.heap.size+1) v∧Rdg w4 (w.heap.size+2) v ((ll.take n).map (M.fin h)) vs):=by
      intro w4 v4 hF
      obtain ⟨a4,c4,e⟩:=own_slx hF.own
      exact ⟨a4,c4,e,hF.bel,HL.p.bl' hF.bel,HL.rd.below hF.bel⟩
     have F5:Hid (∀ (w4:World) (v4:Value),FinAns wr w4 (w.heap.size+2) us[n] v4 (M.fin h ll[n])→∀ (g5 cap5:Nat) (w5:World),w5.ownsRow (w.heap.size+2) 45 1 (.slice (some ⟨g5,0,none⟩) (((ll.take n).map (M.fin h)).length+1) cap5) (((ll.take n).map (M.fin h)).length+1) (vs++[v4])→(w4.alloc (.cells #[v4] 45)).grownBy w5 v.ownBlock→(v.ownBlock=some g5∨g5=w4.heap.size+1)→Slot1 w5 (w.heap.size+1) v∧Below w.heap.size w w5∧∀ u,u=Value.slice (some ⟨g5,0,none⟩) (((ll.take n).map (M.fin h)).length+1) cap5→ShLp w W1 (w5.setCell ⟨w.heap.size+1,0,none⟩ u) h ll us (n+1) u (vs++[v4])):=by
      intro w4 v4 hF g5 cap5 w5 ho hg hat
      exact HL.next R0 hlt hun hF ho hg hat (by have:=HL.sz;have:=hF.bel.size;omega)
     have CN:Calls Tryz.prog 20 #[.int .i64 h,us[n]] wr.drew fun e w'=>∃ v',e=.returned v'∧FinAns wr w' (w.heap.size+2) us[n] v' (M.fin h ll[n]) :=
      (finish_any h (w.heap.size+2) us[n] ll[n] wr.drew (by have:=HL.p.lt;show w.heap.size+2≤wr.heap.size;omega) (by omega) (ownsRow_below OR (Below.refl wr.heap.size wr).drew)).mono fun e w' ⟨v',he,hF⟩=>⟨v',he,hF.undrew⟩
     have HW:Hid (us[n]=.slice at_ ll[n].length ct_):=eu
     rw [eu] at hc CN F4 F5
     clear eu OU OR
     obtain ⟨T4,hT4⟩:∃ T4,(M.fin h ll[n]).length=T4:=⟨_,rfl⟩
     rw [hT4] at F4 hT
     clear hT4
     generalize M.fin h ll[n]=t4 at *
     generalize ll[n]=t at *
     have i1:(n:Int) < ll.length:=by omega
     have hRd:=HL.rd
     obtain ⟨av,gv,cv,rfl,_⟩:=hRd.b.ss
     clear hRd
     generalize (ll.take n).map (M.fin h)=mm at *
     have x0:=HL.p.c
     have lP:=HL.p.lt
     go_wp2_with fail
     refine wp_region_held_drew (S:=fun w'=>Below w.heap.size w w') (by kernel_rfl) HL.bel.drew (fun hH=>?_)
     refine tk 0 37 (.pointer (some ⟨w.heap.size+1,0,none⟩)) hH rfl rfl (by intro w' hSw;go_simp) ?_
     simp only [Act.put,zqa,zqb,zqc]
     refine tk 2 39 (.int .i64 h) hH rfl rfl (by intro w' hSw;go_simp) ?_
     simp only [Act.put,zqa,zqb,zqc]
     refine tk 3 40 (.slice at_ t.length ct_) hH rfl rfl (by intro w' hSw;go_simp) ?_
     simp only [Act.put,zqa,zqb,zqc]
     refine wpAnyH_ready (rs:=[1,4]) (by kernel_rfl) (by simp) ?_
     refine AllReadyH.cons rfl (fun K' hK=>?_) (AllReadyH.cons rfl (fun K' hK=>?_) AllReadyH.nil)
     ·have xx:=x0
      rw [if_pos (by rfl)]
      go_simp
      refine hK.out _ _ hH (fun _=>?_)
      clear hK K' xx
      refine ry 4 rfl (fun K' hK=>?_)
      refine sg 41 rfl 20 #[.tmp 39,.tmp 40] rfl #[.int .i64 h,.slice at_ t.length ct_] (fun _ _=>rfl) CN ?_
      rintro e w4 ⟨v4,rfl,hF4⟩
      obtain ⟨a4,c4,rfl,b4,hS4,hR4⟩:=F4.out w4 v4 hF4
      refine ⟨_,rfl,?_⟩
      simp only [Act.put,zqa,zqb,zqc]
      refine hK.out _ _ (HL.bel.trans (b4.mono HL.bel.size)) (fun hH4=>?_)
      clear hK K'
      have hS4a:=hS4.bl' (below1 w4 (.cells #[.slice a4 T4 c4] 45))
      have S4a:Below w.heap.size w (w4.alloc (.cells #[.slice a4 T4 c4] 45)):=hH4.alloc hH4.size _
      refine ry 5 rfl (fun K' hK=>?_)
      rw [if_pos (by rfl)]
      go_simp
      refine hK.out _ _ S4a (fun _=>?_)
      clear hK K'
      refine ry 6 rfl (fun K' hK=>?_)
      refine step_append_lies _ (by rfl) (.tmp 38) (.tmp 42) 25 (by rfl) (w.heap.size+2) 45 i0 _ 1 24 Tryz.underlying25 hi hz0 hz1 hz2 rfl (by decide) (.slice av mm.length cv) mm.length vs (by rfl) ((hR4.b.outer).alloc _) ⟨w4.heap.size,0,none⟩ 1 1 [.slice a4 T4 c4] (by rfl) (by rfl) (World.news_of_block (cs:=#[.slice a4 T4 c4]) (t:=45) (fr:=(0,0)) (heap_alloc_new w4 _)) (by simp [Value.oneCell']) (by omega) (by unfold maxLen;omega) (by omega) (by have:=b4.size;simp;omega) (w4.heap.size+1) (by simp) ?_
      intro g5 cap5 w5 hown5 hg5 hat5 hlt5
      obtain ⟨hS5,b5,hL5⟩:=F5.out w4 _ hF4 g5 cap5 w5 hown5 hg5 hat5
      simp only [Act.put,zqa,zqb,zqc]
      refine hK.out _ _ b5 (fun hH5=>?_)
      clear hK K'
      refine tk 7 44 (.pointer (some ⟨w.heap.size+1,0,none⟩)) hH5 rfl rfl (by intro w' hSw;go_simp) ?_
      simp only [Act.put,zqa,zqb,zqc]
      refine ry 8 rfl (fun K' hK=>?_)
      have xc:=hS5.c
      have xz:=hS5.fz
      rw [if_pos (by rfl)]
      go_simp
      refine hK.out _ _ (b5.setCell (by show w.heap.size≤w.heap.size+1;omega) _) (fun _=>?_)
      clear hK K'
      refine wpAnyH_done (by kernel_rfl) ?_ _
      clear xc xz
      go_wp2_with fail
      exact ⟨⟨n+1,_,_,by go_num,by omega,hL5 _ rfl⟩,by simp [intOf];omega⟩
     ·refine sg 41 rfl 20 #[.tmp 39,.tmp 40] rfl #[.int .i64 h,.slice at_ t.length ct_] (fun _ _=>rfl) CN ?_
      rintro e w4 ⟨v4,rfl,hF4⟩
      obtain ⟨a4,c4,rfl,b4,hS4,hR4⟩:=F4.out w4 v4 hF4
      refine ⟨_,rfl,?_⟩
      simp only [Act.put,zqa,zqb,zqc]
      refine hK.out _ _ (HL.bel.trans (b4.mono HL.bel.size)) (fun hH4=>?_)
      clear hK K'
      have hS4a:=hS4.bl' (below1 w4 (.cells #[.slice a4 T4 c4] 45))
      have S4a:Below w.heap.size w (w4.alloc (.cells #[.slice a4 T4 c4] 45)):=hH4.alloc hH4.size _
      refine wpAnyH_ready (rs:=[1,5]) (by kernel_rfl) (by simp) ?_
      refine AllReadyH.cons rfl (fun K' hK=>?_) (AllReadyH.cons rfl (fun K' hK=>?_) AllReadyH.nil)
      ·have xx:=hS4.c
       rw [if_pos (by rfl)]
       go_simp
       refine hK.out _ _ hH4 (fun _=>?_)
       clear hK K' xx
       refine ry 5 rfl (fun K' hK=>?_)
       rw [if_pos (by rfl)]
       go_simp
       refine hK.out _ _ S4a (fun _=>?_)
       clear hK K'
       refine ry 6 rfl (fun K' hK=>?_)
       refine step_append_lies _ (by rfl) (.tmp 38) (.tmp 42) 25 (by rfl) (w.heap.size+2) 45 i0 _ 1 24 Tryz.underlying25 hi hz0 hz1 hz2 rfl (by decide) (.slice av mm.length cv) mm.length vs (by rfl) ((hR4.b.outer).alloc _) ⟨w4.heap.size,0,none⟩ 1 1 [.slice a4 T4 c4] (by rfl) (by rfl) (World.news_of_block (cs:=#[.slice a4 T4 c4]) (t:=45) (fr:=(0,0)) (heap_alloc_new w4 _)) (by simp [Value.oneCell']) (by omega) (by unfold maxLen;omega) (by omega) (by have:=b4.size;simp;omega) (w4.heap.size+1) (by simp) ?_
       intro g5 cap5 w5 hown5 hg5 hat5 hlt5
       obtain ⟨hS5,b5,hL5⟩:=F5.out w4 _ hF4 g5 cap5 w5 hown5 hg5 hat5
       simp only [Act.put,zqa,zqb,zqc]
       refine hK.out _ _ b5 (fun hH5=>?_)
       clear hK K'
       refine tk 7 44 (.pointer (some ⟨w.heap.size+1,0,none⟩)) hH5 rfl rfl (by intro w' hSw;go_simp) ?_
       simp only [Act.put,zqa,zqb,zqc]
       refine ry 8 rfl (fun K' hK=>?_)
       have xc:=hS5.c
       have xz:=hS5.fz
       rw [if_pos (by rfl)]
       go_simp
       refine hK.out _ _ (b5.setCell (by show w.heap.size≤w.heap.size+1;omega) _) (fun _=>?_)
       clear hK K'
       refine wpAnyH_done (by kernel_rfl) ?_ _
       clear xc xz
       go_wp2_with fail
       exact ⟨⟨n+1,_,_,by go_num,by omega,hL5 _ rfl⟩,by simp [intOf];omega⟩
      ·rw [if_pos (by rfl)]
       go_simp
       refine hK.out _ _ S4a (fun _=>?_)
       clear hK K'
       refine ry 1 rfl (fun K' hK=>?_)
       have xx:=hS4a.c
       rw [if_pos (by rfl)]
       go_simp
       refine hK.out _ _ S4a (fun _=>?_)
       clear hK K' xx
       refine ry 6 rfl (fun K' hK=>?_)
       refine step_append_lies _ (by rfl) (.tmp 38) (.tmp 42) 25 (by rfl) (w.heap.size+2) 45 i0 _ 1 24 Tryz.underlying25 hi hz0 hz1 hz2 rfl (by decide) (.slice av mm.length cv) mm.length vs (by rfl) ((hR4.b.outer).alloc _) ⟨w4.heap.size,0,none⟩ 1 1 [.slice a4 T4 c4] (by rfl) (by rfl) (World.news_of_block (cs:=#[.slice a4 T4 c4]) (t:=45) (fr:=(0,0)) (heap_alloc_new w4 _)) (by simp [Value.oneCell']) (by omega) (by unfold maxLen;omega) (by omega) (by have:=b4.size;simp;omega) (w4.heap.size+1) (by simp) ?_
       intro g5 cap5 w5 hown5 hg5 hat5 hlt5
       obtain ⟨hS5,b5,hL5⟩:=F5.out w4 _ hF4 g5 cap5 w5 hown5 hg5 hat5
       simp only [Act.put,zqa,zqb,zqc]
       refine hK.out _ _ b5 (fun hH5=>?_)
       clear hK K'
       refine tk 7 44 (.pointer (some ⟨w.heap.size+1,0,none⟩)) hH5 rfl rfl (by intro w' hSw;go_simp) ?_
       simp only [Act.put,zqa,zqb,zqc]
       refine ry 8 rfl (fun K' hK=>?_)
       have xc:=hS5.c
       have xz:=hS5.fz
       rw [if_pos (by rfl)]
       go_simp
       refine hK.out _ _ (b5.setCell (by show w.heap.size≤w.heap.size+1;omega) _) (fun _=>?_)
       clear hK K'
       refine wpAnyH_done (by kernel_rfl) ?_ _
       clear xc xz
       go_wp2_with fail
       exact ⟨⟨n+1,_,_,by go_num,by omega,hL5 _ rfl⟩,by simp [intOf];omega⟩
    ·have htk:ll.take n=ll:=List.take_of_length_le (by omega)
     obtain ⟨hR,hP,hQ,hbel,_,_,_,_⟩:=HL
     rw [htk] at hR
     obtain ⟨rr,hrr⟩:∃ rr,ll.map (M.fin h)=rr:=⟨_,rfl⟩
     rw [hrr] at hR
     have HRR:Hid (ll.map (M.fin h)=rr):=hrr
     clear hrr
     obtain ⟨av,gv,cv,rfl,_⟩:=hR.b.ss
     have hkn':¬ (n:Int) < ll.length:=by omega
     have p0:=hP.c
     have pf:=hP.fz
     have q0:=hQ.c
     have qf:=hQ.fz
     have lP:=hP.lt
     have lQ:=hQ.lt
     have hne:w.heap.size≠w.heap.size+1:=by omega
     go_wp2_with fail
     have q1:=(hQ.set (.slice av rr.length cv)).c
     exact bodyPost_ret (v:=.tuple #[.agg #[.slice av rr.length cv],.bool true]) (by simp [results,Tryz.results6,go_sem,q1]) rfl ⟨_,rfl,⟨vs,by rw [HRR.out];exact (hR.far (by omega) _).mono (by omega)⟩,hbel.setCell (Nat.le_refl _) _⟩
  ·have CT:=thr_four h _ _ ((w.alloc (.cells #[.slice none 0 0] 27)).alloc (.cells #[.slice none 0 0] 27)) rfl rfl
   have er:M.raw 5 h=[[⟨M.kst h,0,2⟩,⟨M.kst h,1,1⟩],[⟨M.kst h,1,2⟩,⟨M.kst h,0,1⟩]]:=by simp [M.raw,M.sst,M.sld,M.kst_no,M.kld_no]
   rw [← er] at CT
   clear er
   generalize M.raw 5 h=ll at *
   go_enter Tryz.func6,Tryz.ntmps6
   go_wp2_with fail
   refine (formOf_any 5 _).mono ?_
   rintro e w0 ⟨rfl,rfl⟩
   go_wp2_with fail
   refine CT.mono ?_
   clear CT
   rintro e W1 ⟨vt,us,rfl,R0,b1⟩
   simp only [World.size_alloc] at R0
   obtain ⟨G,ct,rfl,hG1,hG2⟩:=R0.b.outer.form (by omega)
   have hul:us.length=ll.length:=R0.b.len
   have bw1:=bP.trans (b1.mono bP.size)
   have L0:ShLp w W1 W1 h ll us 0 (.slice none 0 0) []:=⟨by simpa using Rdg.nil _ _,hP.bl' b1,hQ.bl' b1,bw1,Nat.le_refl _,fun _ _ _=>rfl,fun k hk=>by simp [Value.ownBlock] at hk,fun i hi=>by simp at hi⟩
   clear bP hP hQ b1
   go_wp2_with fail
   go_loopw [33] (fun s33 wr=>∃ (n:Nat) (v:Value) (vs:List Value),s33=.int .i64 n∧n≤ll.length∧ShLp w W1 wr h ll us n v vs) (fun s33 _=>ll.length - (intOf s33).toNat)
   case atStart=>exact ⟨0,_,_,rfl,Nat.zero_le _,L0⟩
   case round =>
    obtain ⟨n,v,vs,rfl,hn,HL⟩:=hrel
    clear L0
    by_cases hlt:n < ll.length
    ·have hun:n < us.length:=by omega
     have OU:=ownsRow_keep R0.b.outer HL.keep
     have OR:=ownsRow_keep (R0.b.inner n hlt hun) HL.keep
     have hc:=OU.cells (g:=G) rfl n us[n] (by simp [hun])
     rw [Go.WideShapes.add_plain,Nat.zero_add] at hc
     have ht:=hl4 _ (List.getElem_mem hlt)
     obtain ⟨at_,ct_,eu⟩:=own_slx OR
     have hmm:((ll.take n).map (M.fin h)).length≤1048576:=by simp;omega
     have hT:(M.fin h ll[n]).length≤1048576:=by have:=M.fin_le h ll[n];omega
     have F4:Hid (∀ (w4:World) (v4:Value),FinAns wr w4 (w.heap.size+2) us[n] v4 (M.fin h ll[n])→∃ a4 c4,v4=.slice a4 (M.fin h ll[n]).length c4∧Below wr.heap.size wr w4∧Slot1 w4 (w.heap.size+1) v∧Rdg w4 (w.heap.size+2) v ((ll.take n).map (M.fin h)) vs):=by
      intro w4 v4 hF
      obtain ⟨a4,c4,e⟩:=own_slx hF.own
      exact ⟨a4,c4,e,hF.bel,HL.p.bl' hF.bel,HL.rd.below hF.bel⟩
     have F5:Hid (∀ (w4:World) (v4:Value),FinAns wr w4 (w.heap.size+2) us[n] v4 (M.fin h ll[n])→∀ (g5 cap5:Nat) (w5:World),w5.ownsRow (w.heap.size+2) 45 1 (.slice (some ⟨g5,0,none⟩) (((ll.take n).map (M.fin h)).length+1) cap5) (((ll.take n).map (M.fin h)).length+1) (vs++[v4])→(w4.alloc (.cells #[v4] 45)).grownBy w5 v.ownBlock→(v.ownBlock=some g5∨g5=w4.heap.size+1)→Slot1 w5 (w.heap.size+1) v∧Below w.heap.size w w5∧∀ u,u=Value.slice (some ⟨g5,0,none⟩) (((ll.take n).map (M.fin h)).length+1) cap5→ShLp w W1 (w5.setCell ⟨w.heap.size+1,0,none⟩ u) h ll us (n+1) u (vs++[v4])):=by
      intro w4 v4 hF g5 cap5 w5 ho hg hat
      exact HL.next R0 hlt hun hF ho hg hat (by have:=HL.sz;have:=hF.bel.size;omega)
     have CN:Calls Tryz.prog 20 #[.int .i64 h,us[n]] wr.drew fun e w'=>∃ v',e=.returned v'∧FinAns wr w' (w.heap.size+2) us[n] v' (M.fin h ll[n]) :=
      (finish_any h (w.heap.size+2) us[n] ll[n] wr.drew (by have:=HL.p.lt;show w.heap.size+2≤wr.heap.size;omega) (by omega) (ownsRow_below OR (Below.refl wr.heap.size wr).drew)).mono fun e w' ⟨v',he,hF⟩=>⟨v',he,hF.undrew⟩
     have HW:Hid (us[n]=.slice at_ ll[n].length ct_):=eu
     rw [eu] at hc CN F4 F5
     clear eu OU OR
     obtain ⟨T4,hT4⟩:∃ T4,(M.fin h ll[n]).length=T4:=⟨_,rfl⟩
     rw [hT4] at F4 hT
     clear hT4
     generalize M.fin h ll[n]=t4 at *
     generalize ll[n]=t at *
     have i1:(n:Int) < ll.length:=by omega
     have hRd:=HL.rd
     obtain ⟨av,gv,cv,rfl,_⟩:=hRd.b.ss
     clear hRd
     generalize (ll.take n).map (M.fin h)=mm at *
     have x0:=HL.p.c
     have lP:=HL.p.lt
     go_wp2_with fail
     refine wp_region_held_drew (S:=fun w'=>Below w.heap.size w w') (by kernel_rfl) HL.bel.drew (fun hH=>?_)
     refine tk 0 37 (.pointer (some ⟨w.heap.size+1,0,none⟩)) hH rfl rfl (by intro w' hSw;go_simp) ?_
     simp only [Act.put,zqa,zqb,zqc]
     refine tk 2 39 (.int .i64 h) hH rfl rfl (by intro w' hSw;go_simp) ?_
     simp only [Act.put,zqa,zqb,zqc]
     refine tk 3 40 (.slice at_ t.length ct_) hH rfl rfl (by intro w' hSw;go_simp) ?_
     simp only [Act.put,zqa,zqb,zqc]
     refine wpAnyH_ready (rs:=[1,4]) (by kernel_rfl) (by simp) ?_
     refine AllReadyH.cons rfl (fun K' hK=>?_) (AllReadyH.cons rfl (fun K' hK=>?_) AllReadyH.nil)
     ·have xx:=x0
      rw [if_pos (by rfl)]
      go_simp
      refine hK.out _ _ hH (fun _=>?_)
      clear hK K' xx
      refine ry 4 rfl (fun K' hK=>?_)
      refine sg 41 rfl 20 #[.tmp 39,.tmp 40] rfl #[.int .i64 h,.slice at_ t.length ct_] (fun _ _=>rfl) CN ?_
      rintro e w4 ⟨v4,rfl,hF4⟩
      obtain ⟨a4,c4,rfl,b4,hS4,hR4⟩:=F4.out w4 v4 hF4
      refine ⟨_,rfl,?_⟩
      simp only [Act.put,zqa,zqb,zqc]
      refine hK.out _ _ (HL.bel.trans (b4.mono HL.bel.size)) (fun hH4=>?_)
      clear hK K'
      have hS4a:=hS4.bl' (below1 w4 (.cells #[.slice a4 T4 c4] 45))
      have S4a:Below w.heap.size w (w4.alloc (.cells #[.slice a4 T4 c4] 45)):=hH4.alloc hH4.size _
      refine ry 5 rfl (fun K' hK=>?_)
      rw [if_pos (by rfl)]
      go_simp
      refine hK.out _ _ S4a (fun _=>?_)
      clear hK K'
      refine ry 6 rfl (fun K' hK=>?_)
      refine step_append_lies _ (by rfl) (.tmp 38) (.tmp 42) 25 (by rfl) (w.heap.size+2) 45 i0 _ 1 24 Tryz.underlying25 hi hz0 hz1 hz2 rfl (by decide) (.slice av mm.length cv) mm.length vs (by rfl) ((hR4.b.outer).alloc _) ⟨w4.heap.size,0,none⟩ 1 1 [.slice a4 T4 c4] (by rfl) (by rfl) (World.news_of_block (cs:=#[.slice a4 T4 c4]) (t:=45) (fr:=(0,0)) (heap_alloc_new w4 _)) (by simp [Value.oneCell']) (by omega) (by unfold maxLen;omega) (by omega) (by have:=b4.size;simp;omega) (w4.heap.size+1) (by simp) ?_
      intro g5 cap5 w5 hown5 hg5 hat5 hlt5
      obtain ⟨hS5,b5,hL5⟩:=F5.out w4 _ hF4 g5 cap5 w5 hown5 hg5 hat5
      simp only [Act.put,zqa,zqb,zqc]
      refine hK.out _ _ b5 (fun hH5=>?_)
      clear hK K'
      refine tk 7 44 (.pointer (some ⟨w.heap.size+1,0,none⟩)) hH5 rfl rfl (by intro w' hSw;go_simp) ?_
      simp only [Act.put,zqa,zqb,zqc]
      refine ry 8 rfl (fun K' hK=>?_)
      have xc:=hS5.c
      have xz:=hS5.fz
      rw [if_pos (by rfl)]
      go_simp
      refine hK.out _ _ (b5.setCell (by show w.heap.size≤w.heap.size+1;omega) _) (fun _=>?_)
      clear hK K'
      refine wpAnyH_done (by kernel_rfl) ?_ _
      clear xc xz
      go_wp2_with fail
      exact ⟨⟨n+1,_,_,by go_num,by omega,hL5 _ rfl⟩,by simp [intOf];omega⟩
     ·refine sg 41 rfl 20 #[.tmp 39,.tmp 40] rfl #[.int .i64 h,.slice at_ t.length ct_] (fun _ _=>rfl) CN ?_
      rintro e w4 ⟨v4,rfl,hF4⟩
      obtain ⟨a4,c4,rfl,b4,hS4,hR4⟩:=F4.out w4 v4 hF4
      refine ⟨_,rfl,?_⟩
      simp only [Act.put,zqa,zqb,zqc]
      refine hK.out _ _ (HL.bel.trans (b4.mono HL.bel.size)) (fun hH4=>?_)
      clear hK K'
      have hS4a:=hS4.bl' (below1 w4 (.cells #[.slice a4 T4 c4] 45))
      have S4a:Below w.heap.size w (w4.alloc (.cells #[.slice a4 T4 c4] 45)):=hH4.alloc hH4.size _
      refine wpAnyH_ready (rs:=[1,5]) (by kernel_rfl) (by simp) ?_
      refine AllReadyH.cons rfl (fun K' hK=>?_) (AllReadyH.cons rfl (fun K' hK=>?_) AllReadyH.nil)
      ·have xx:=hS4.c
       rw [if_pos (by rfl)]
       go_simp
       refine hK.out _ _ hH4 (fun _=>?_)
       clear hK K' xx
       refine ry 5 rfl (fun K' hK=>?_)
       rw [if_pos (by rfl)]
       go_simp
       refine hK.out _ _ S4a (fun _=>?_)
       clear hK K'
       refine ry 6 rfl (fun K' hK=>?_)
       refine step_append_lies _ (by rfl) (.tmp 38) (.tmp 42) 25 (by rfl) (w.heap.size+2) 45 i0 _ 1 24 Tryz.underlying25 hi hz0 hz1 hz2 rfl (by decide) (.slice av mm.length cv) mm.length vs (by rfl) ((hR4.b.outer).alloc _) ⟨w4.heap.size,0,none⟩ 1 1 [.slice a4 T4 c4] (by rfl) (by rfl) (World.news_of_block (cs:=#[.slice a4 T4 c4]) (t:=45) (fr:=(0,0)) (heap_alloc_new w4 _)) (by simp [Value.oneCell']) (by omega) (by unfold maxLen;omega) (by omega) (by have:=b4.size;simp;omega) (w4.heap.size+1) (by simp) ?_
       intro g5 cap5 w5 hown5 hg5 hat5 hlt5
       obtain ⟨hS5,b5,hL5⟩:=F5.out w4 _ hF4 g5 cap5 w5 hown5 hg5 hat5
       simp only [Act.put,zqa,zqb,zqc]
       refine hK.out _ _ b5 (fun hH5=>?_)
       clear hK K'
       refine tk 7 44 (.pointer (some ⟨w.heap.size+1,0,none⟩)) hH5 rfl rfl (by intro w' hSw;go_simp) ?_
       simp only [Act.put,zqa,zqb,zqc]
       refine ry 8 rfl (fun K' hK=>?_)
       have xc:=hS5.c
       have xz:=hS5.fz
       rw [if_pos (by rfl)]
       go_simp
       refine hK.out _ _ (b5.setCell (by show w.heap.size≤w.heap.size+1;omega) _) (fun _=>?_)
       clear hK K'
       refine wpAnyH_done (by kernel_rfl) ?_ _
       clear xc xz
       go_wp2_with fail
       exact ⟨⟨n+1,_,_,by go_num,by omega,hL5 _ rfl⟩,by simp [intOf];omega⟩
      ·rw [if_pos (by rfl)]
       go_simp
       refine hK.out _ _ S4a (fun _=>?_)
       clear hK K'
       refine ry 1 rfl (fun K' hK=>?_)
       have xx:=hS4a.c
       rw [if_pos (by rfl)]
       go_simp
       refine hK.out _ _ S4a (fun _=>?_)
       clear hK K' xx
       refine ry 6 rfl (fun K' hK=>?_)
       refine step_append_lies _ (by rfl) (.tmp 38) (.tmp 42) 25 (by rfl) (w.heap.size+2) 45 i0 _ 1 24 Tryz.underlying25 hi hz0 hz1 hz2 rfl (by decide) (.slice av mm.length cv) mm.length vs (by rfl) ((hR4.b.outer).alloc _) ⟨w4.heap.size,0,none⟩ 1 1 [.slice a4 T4 c4] (by rfl) (by rfl) (World.news_of_block (cs:=#[.slice a4 T4 c4]) (t:=45) (fr:=(0,0)) (heap_alloc_new w4 _)) (by simp [Value.oneCell']) (by omega) (by unfold maxLen;omega) (by omega) (by have:=b4.size;simp;omega) (w4.heap.size+1) (by simp) ?_
       intro g5 cap5 w5 hown5 hg5 hat5 hlt5
       obtain ⟨hS5,b5,hL5⟩:=F5.out w4 _ hF4 g5 cap5 w5 hown5 hg5 hat5
       simp only [Act.put,zqa,zqb,zqc]
       refine hK.out _ _ b5 (fun hH5=>?_)
       clear hK K'
       refine tk 7 44 (.pointer (some ⟨w.heap.size+1,0,none⟩)) hH5 rfl rfl (by intro w' hSw;go_simp) ?_
       simp only [Act.put,zqa,zqb,zqc]
       refine ry 8 rfl (fun K' hK=>?_)
       have xc:=hS5.c
       have xz:=hS5.fz
       rw [if_pos (by rfl)]
       go_simp
       refine hK.out _ _ (b5.setCell (by show w.heap.size≤w.heap.size+1;omega) _) (fun _=>?_)
       clear hK K'
       refine wpAnyH_done (by kernel_rfl) ?_ _
       clear xc xz
       go_wp2_with fail
       exact ⟨⟨n+1,_,_,by go_num,by omega,hL5 _ rfl⟩,by simp [intOf];omega⟩
    ·have htk:ll.take n=ll:=List.take_of_length_le (by omega)
     obtain ⟨hR,hP,hQ,hbel,_,_,_,_⟩:=HL
     rw [htk] at hR
     obtain ⟨rr,hrr⟩:∃ rr,ll.map (M.fin h)=rr:=⟨_,rfl⟩
     rw [hrr] at hR
     have HRR:Hid (ll.map (M.fin h)=rr):=hrr
     clear hrr
     obtain ⟨av,gv,cv,rfl,_⟩:=hR.b.ss
     have hkn':¬ (n:Int) < ll.length:=by omega
     have p0:=hP.c
     have pf:=hP.fz
     have q0:=hQ.c
     have qf:=hQ.fz
     have lP:=hP.lt
     have lQ:=hQ.lt
     have hne:w.heap.size≠w.heap.size+1:=by omega
     go_wp2_with fail
     have q1:=(hQ.set (.slice av rr.length cv)).c
     exact bodyPost_ret (v:=.tuple #[.agg #[.slice av rr.length cv],.bool true]) (by simp [results,Tryz.results6,go_sem,q1]) rfl ⟨_,rfl,⟨vs,by rw [HRR.out];exact (hR.far (by omega) _).mono (by omega)⟩,hbel.setCell (Nat.le_refl _) _⟩
  ·have CT:=thr_wait h _ _ ((w.alloc (.cells #[.slice none 0 0] 27)).alloc (.cells #[.slice none 0 0] 27)) rfl rfl
   have er:M.raw 6 h=[[⟨7,0,0⟩,⟨2,1,0⟩,⟨2,0,0⟩,⟨8,0,0⟩],[⟨1,0,1⟩,⟨9,0,0⟩,⟨M.kst h,1,1⟩]]:=by simp [M.raw,M.sst,M.sld,M.kst_no,M.kld_no]
   rw [← er] at CT
   clear er
   generalize M.raw 6 h=ll at *
   go_enter Tryz.func6,Tryz.ntmps6
   go_wp2_with fail
   refine (formOf_any 6 _).mono ?_
   rintro e w0 ⟨rfl,rfl⟩
   go_wp2_with fail
   refine CT.mono ?_
   clear CT
   rintro e W1 ⟨vt,us,rfl,R0,b1⟩
   simp only [World.size_alloc] at R0
   obtain ⟨G,ct,rfl,hG1,hG2⟩:=R0.b.outer.form (by omega)
   have hul:us.length=ll.length:=R0.b.len
   have bw1:=bP.trans (b1.mono bP.size)
   have L0:ShLp w W1 W1 h ll us 0 (.slice none 0 0) []:=⟨by simpa using Rdg.nil _ _,hP.bl' b1,hQ.bl' b1,bw1,Nat.le_refl _,fun _ _ _=>rfl,fun k hk=>by simp [Value.ownBlock] at hk,fun i hi=>by simp at hi⟩
   clear bP hP hQ b1
   go_wp2_with fail
   go_loopw [33] (fun s33 wr=>∃ (n:Nat) (v:Value) (vs:List Value),s33=.int .i64 n∧n≤ll.length∧ShLp w W1 wr h ll us n v vs) (fun s33 _=>ll.length - (intOf s33).toNat)
   case atStart=>exact ⟨0,_,_,rfl,Nat.zero_le _,L0⟩
   case round =>
    obtain ⟨n,v,vs,rfl,hn,HL⟩:=hrel
    clear L0
    by_cases hlt:n < ll.length
    ·have hun:n < us.length:=by omega
     have OU:=ownsRow_keep R0.b.outer HL.keep
     have OR:=ownsRow_keep (R0.b.inner n hlt hun) HL.keep
     have hc:=OU.cells (g:=G) rfl n us[n] (by simp [hun])
     rw [Go.WideShapes.add_plain,Nat.zero_add] at hc
     have ht:=hl4 _ (List.getElem_mem hlt)
     obtain ⟨at_,ct_,eu⟩:=own_slx OR
     have hmm:((ll.take n).map (M.fin h)).length≤1048576:=by simp;omega
     have hT:(M.fin h ll[n]).length≤1048576:=by have:=M.fin_le h ll[n];omega
     have F4:Hid (∀ (w4:World) (v4:Value),FinAns wr w4 (w.heap.size+2) us[n] v4 (M.fin h ll[n])→∃ a4 c4,v4=.slice a4 (M.fin h ll[n]).length c4∧Below wr.heap.size wr w4∧Slot1 w4 (w.heap.size+1) v∧Rdg w4 (w.heap.size+2) v ((ll.take n).map (M.fin h)) vs):=by
      intro w4 v4 hF
      obtain ⟨a4,c4,e⟩:=own_slx hF.own
      exact ⟨a4,c4,e,hF.bel,HL.p.bl' hF.bel,HL.rd.below hF.bel⟩
     have F5:Hid (∀ (w4:World) (v4:Value),FinAns wr w4 (w.heap.size+2) us[n] v4 (M.fin h ll[n])→∀ (g5 cap5:Nat) (w5:World),w5.ownsRow (w.heap.size+2) 45 1 (.slice (some ⟨g5,0,none⟩) (((ll.take n).map (M.fin h)).length+1) cap5) (((ll.take n).map (M.fin h)).length+1) (vs++[v4])→(w4.alloc (.cells #[v4] 45)).grownBy w5 v.ownBlock→(v.ownBlock=some g5∨g5=w4.heap.size+1)→Slot1 w5 (w.heap.size+1) v∧Below w.heap.size w w5∧∀ u,u=Value.slice (some ⟨g5,0,none⟩) (((ll.take n).map (M.fin h)).length+1) cap5→ShLp w W1 (w5.setCell ⟨w.heap.size+1,0,none⟩ u) h ll us (n+1) u (vs++[v4])):=by
      intro w4 v4 hF g5 cap5 w5 ho hg hat
      exact HL.next R0 hlt hun hF ho hg hat (by have:=HL.sz;have:=hF.bel.size;omega)
     have CN:Calls Tryz.prog 20 #[.int .i64 h,us[n]] wr.drew fun e w'=>∃ v',e=.returned v'∧FinAns wr w' (w.heap.size+2) us[n] v' (M.fin h ll[n]) :=
      (finish_any h (w.heap.size+2) us[n] ll[n] wr.drew (by have:=HL.p.lt;show w.heap.size+2≤wr.heap.size;omega) (by omega) (ownsRow_below OR (Below.refl wr.heap.size wr).drew)).mono fun e w' ⟨v',he,hF⟩=>⟨v',he,hF.undrew⟩
     have HW:Hid (us[n]=.slice at_ ll[n].length ct_):=eu
     rw [eu] at hc CN F4 F5
     clear eu OU OR
     obtain ⟨T4,hT4⟩:∃ T4,(M.fin h ll[n]).length=T4:=⟨_,rfl⟩
     rw [hT4] at F4 hT
     clear hT4
     generalize M.fin h ll[n]=t4 at *
     generalize ll[n]=t at *
     have i1:(n:Int) < ll.length:=by omega
     have hRd:=HL.rd
     obtain ⟨av,gv,cv,rfl,_⟩:=hRd.b.ss
     clear hRd
     generalize (ll.take n).map (M.fin h)=mm at *
     have x0:=HL.p.c
     have lP:=HL.p.lt
     go_wp2_with fail
     refine wp_region_held_drew (S:=fun w'=>Below w.heap.size w w') (by kernel_rfl) HL.bel.drew (fun hH=>?_)
     refine tk 0 37 (.pointer (some ⟨w.heap.size+1,0,none⟩)) hH rfl rfl (by intro w' hSw;go_simp) ?_
     simp only [Act.put,zqa,zqb,zqc]
     refine tk 2 39 (.int .i64 h) hH rfl rfl (by intro w' hSw;go_simp) ?_
     simp only [Act.put,zqa,zqb,zqc]
     refine tk 3 40 (.slice at_ t.length ct_) hH rfl rfl (by intro w' hSw;go_simp) ?_
     simp only [Act.put,zqa,zqb,zqc]
     refine wpAnyH_ready (rs:=[1,4]) (by kernel_rfl) (by simp) ?_
     refine AllReadyH.cons rfl (fun K' hK=>?_) (AllReadyH.cons rfl (fun K' hK=>?_) AllReadyH.nil)
     ·have xx:=x0
      rw [if_pos (by rfl)]
      go_simp
      refine hK.out _ _ hH (fun _=>?_)
      clear hK K' xx
      refine ry 4 rfl (fun K' hK=>?_)
      refine sg 41 rfl 20 #[.tmp 39,.tmp 40] rfl #[.int .i64 h,.slice at_ t.length ct_] (fun _ _=>rfl) CN ?_
      rintro e w4 ⟨v4,rfl,hF4⟩
      obtain ⟨a4,c4,rfl,b4,hS4,hR4⟩:=F4.out w4 v4 hF4
      refine ⟨_,rfl,?_⟩
      simp only [Act.put,zqa,zqb,zqc]
      refine hK.out _ _ (HL.bel.trans (b4.mono HL.bel.size)) (fun hH4=>?_)
      clear hK K'
      have hS4a:=hS4.bl' (below1 w4 (.cells #[.slice a4 T4 c4] 45))
      have S4a:Below w.heap.size w (w4.alloc (.cells #[.slice a4 T4 c4] 45)):=hH4.alloc hH4.size _
      refine ry 5 rfl (fun K' hK=>?_)
      rw [if_pos (by rfl)]
      go_simp
      refine hK.out _ _ S4a (fun _=>?_)
      clear hK K'
      refine ry 6 rfl (fun K' hK=>?_)
      refine step_append_lies _ (by rfl) (.tmp 38) (.tmp 42) 25 (by rfl) (w.heap.size+2) 45 i0 _ 1 24 Tryz.underlying25 hi hz0 hz1 hz2 rfl (by decide) (.slice av mm.length cv) mm.length vs (by rfl) ((hR4.b.outer).alloc _) ⟨w4.heap.size,0,none⟩ 1 1 [.slice a4 T4 c4] (by rfl) (by rfl) (World.news_of_block (cs:=#[.slice a4 T4 c4]) (t:=45) (fr:=(0,0)) (heap_alloc_new w4 _)) (by simp [Value.oneCell']) (by omega) (by unfold maxLen;omega) (by omega) (by have:=b4.size;simp;omega) (w4.heap.size+1) (by simp) ?_
      intro g5 cap5 w5 hown5 hg5 hat5 hlt5
      obtain ⟨hS5,b5,hL5⟩:=F5.out w4 _ hF4 g5 cap5 w5 hown5 hg5 hat5
      simp only [Act.put,zqa,zqb,zqc]
      refine hK.out _ _ b5 (fun hH5=>?_)
      clear hK K'
      refine tk 7 44 (.pointer (some ⟨w.heap.size+1,0,none⟩)) hH5 rfl rfl (by intro w' hSw;go_simp) ?_
      simp only [Act.put,zqa,zqb,zqc]
      refine ry 8 rfl (fun K' hK=>?_)
      have xc:=hS5.c
      have xz:=hS5.fz
      rw [if_pos (by rfl)]
      go_simp
      refine hK.out _ _ (b5.setCell (by show w.heap.size≤w.heap.size+1;omega) _) (fun _=>?_)
      clear hK K'
      refine wpAnyH_done (by kernel_rfl) ?_ _
      clear xc xz
      go_wp2_with fail
      exact ⟨⟨n+1,_,_,by go_num,by omega,hL5 _ rfl⟩,by simp [intOf];omega⟩
     ·refine sg 41 rfl 20 #[.tmp 39,.tmp 40] rfl #[.int .i64 h,.slice at_ t.length ct_] (fun _ _=>rfl) CN ?_
      rintro e w4 ⟨v4,rfl,hF4⟩
      obtain ⟨a4,c4,rfl,b4,hS4,hR4⟩:=F4.out w4 v4 hF4
      refine ⟨_,rfl,?_⟩
      simp only [Act.put,zqa,zqb,zqc]
      refine hK.out _ _ (HL.bel.trans (b4.mono HL.bel.size)) (fun hH4=>?_)
      clear hK K'
      have hS4a:=hS4.bl' (below1 w4 (.cells #[.slice a4 T4 c4] 45))
      have S4a:Below w.heap.size w (w4.alloc (.cells #[.slice a4 T4 c4] 45)):=hH4.alloc hH4.size _
      refine wpAnyH_ready (rs:=[1,5]) (by kernel_rfl) (by simp) ?_
      refine AllReadyH.cons rfl (fun K' hK=>?_) (AllReadyH.cons rfl (fun K' hK=>?_) AllReadyH.nil)
      ·have xx:=hS4.c
       rw [if_pos (by rfl)]
       go_simp
       refine hK.out _ _ hH4 (fun _=>?_)
       clear hK K' xx
       refine ry 5 rfl (fun K' hK=>?_)
       rw [if_pos (by rfl)]
       go_simp
       refine hK.out _ _ S4a (fun _=>?_)
       clear hK K'
       refine ry 6 rfl (fun K' hK=>?_)
       refine step_append_lies _ (by rfl) (.tmp 38) (.tmp 42) 25 (by rfl) (w.heap.size+2) 45 i0 _ 1 24 Tryz.underlying25 hi hz0 hz1 hz2 rfl (by decide) (.slice av mm.length cv) mm.length vs (by rfl) ((hR4.b.outer).alloc _) ⟨w4.heap.size,0,none⟩ 1 1 [.slice a4 T4 c4] (by rfl) (by rfl) (World.news_of_block (cs:=#[.slice a4 T4 c4]) (t:=45) (fr:=(0,0)) (heap_alloc_new w4 _)) (by simp [Value.oneCell']) (by omega) (by unfold maxLen;omega) (by omega) (by have:=b4.size;simp;omega) (w4.heap.size+1) (by simp) ?_
       intro g5 cap5 w5 hown5 hg5 hat5 hlt5
       obtain ⟨hS5,b5,hL5⟩:=F5.out w4 _ hF4 g5 cap5 w5 hown5 hg5 hat5
       simp only [Act.put,zqa,zqb,zqc]
       refine hK.out _ _ b5 (fun hH5=>?_)
       clear hK K'
       refine tk 7 44 (.pointer (some ⟨w.heap.size+1,0,none⟩)) hH5 rfl rfl (by intro w' hSw;go_simp) ?_
       simp only [Act.put,zqa,zqb,zqc]
       refine ry 8 rfl (fun K' hK=>?_)
       have xc:=hS5.c
       have xz:=hS5.fz
       rw [if_pos (by rfl)]
       go_simp
       refine hK.out _ _ (b5.setCell (by show w.heap.size≤w.heap.size+1;omega) _) (fun _=>?_)
       clear hK K'
       refine wpAnyH_done (by kernel_rfl) ?_ _
       clear xc xz
       go_wp2_with fail
       exact ⟨⟨n+1,_,_,by go_num,by omega,hL5 _ rfl⟩,by simp [intOf];omega⟩
      ·rw [if_pos (by rfl)]
       go_simp
       refine hK.out _ _ S4a (fun _=>?_)
       clear hK K'
       refine ry 1 rfl (fun K' hK=>?_)
       have xx:=hS4a.c
       rw [if_pos (by rfl)]
       go_simp
       refine hK.out _ _ S4a (fun _=>?_)
       clear hK K' xx
       refine ry 6 rfl (fun K' hK=>?_)
       refine step_append_lies _ (by rfl) (.tmp 38) (.tmp 42) 25 (by rfl) (w.heap.size+2) 45 i0 _ 1 24 Tryz.underlying25 hi hz0 hz1 hz2 rfl (by decide) (.slice av mm.length cv) mm.length vs (by rfl) ((hR4.b.outer).alloc _) ⟨w4.heap.size,0,none⟩ 1 1 [.slice a4 T4 c4] (by rfl) (by rfl) (World.news_of_block (cs:=#[.slice a4 T4 c4]) (t:=45) (fr:=(0,0)) (heap_alloc_new w4 _)) (by simp [Value.oneCell']) (by omega) (by unfold maxLen;omega) (by omega) (by have:=b4.size;simp;omega) (w4.heap.size+1) (by simp) ?_
       intro g5 cap5 w5 hown5 hg5 hat5 hlt5
       obtain ⟨hS5,b5,hL5⟩:=F5.out w4 _ hF4 g5 cap5 w5 hown5 hg5 hat5
       simp only [Act.put,zqa,zqb,zqc]
       refine hK.out _ _ b5 (fun hH5=>?_)
       clear hK K'
       refine tk 7 44 (.pointer (some ⟨w.heap.size+1,0,none⟩)) hH5 rfl rfl (by intro w' hSw;go_simp) ?_
       simp only [Act.put,zqa,zqb,zqc]
       refine ry 8 rfl (fun K' hK=>?_)
       have xc:=hS5.c
       have xz:=hS5.fz
       rw [if_pos (by rfl)]
       go_simp
       refine hK.out _ _ (b5.setCell (by show w.heap.size≤w.heap.size+1;omega) _) (fun _=>?_)
       clear hK K'
       refine wpAnyH_done (by kernel_rfl) ?_ _
       clear xc xz
       go_wp2_with fail
       exact ⟨⟨n+1,_,_,by go_num,by omega,hL5 _ rfl⟩,by simp [intOf];omega⟩
    ·have htk:ll.take n=ll:=List.take_of_length_le (by omega)
     obtain ⟨hR,hP,hQ,hbel,_,_,_,_⟩:=HL
     rw [htk] at hR
     obtain ⟨rr,hrr⟩:∃ rr,ll.map (M.fin h)=rr:=⟨_,rfl⟩
     rw [hrr] at hR
     have HRR:Hid (ll.map (M.fin h)=rr):=hrr
     clear hrr
     obtain ⟨av,gv,cv,rfl,_⟩:=hR.b.ss
     have hkn':¬ (n:Int) < ll.length:=by omega
     have p0:=hP.c
     have pf:=hP.fz
     have q0:=hQ.c
     have qf:=hQ.fz
     have lP:=hP.lt
     have lQ:=hQ.lt
     have hne:w.heap.size≠w.heap.size+1:=by omega
     go_wp2_with fail
     have q1:=(hQ.set (.slice av rr.length cv)).c
     exact bodyPost_ret (v:=.tuple #[.agg #[.slice av rr.length cv],.bool true]) (by simp [results,Tryz.results6,go_sem,q1]) rfl ⟨_,rfl,⟨vs,by rw [HRR.out];exact (hR.far (by omega) _).mono (by omega)⟩,hbel.setCell (Nat.le_refl _) _⟩
end
section
open Go.RowKit
set_option maxHeartbeats 400000 in
theorem l23Store_any (h pl v k:Int) (w:World) (hk:M.kst h=k) :
  Calls Tryz.prog 17 #[.int .i64 pl,.int .i64 v,.int .i64 h] w fun e w'=>e=.returned (.agg #[.int .i64 k,.int .i64 pl,.int .i64 v])∧Below w.heap.size w w':=by
 subst hk
 by_cases h2:h=2
 ·rw [M.kst_yes h2]
  subst h2
  go_enter Tryz.func17,Tryz.ntmps17
  go_wp2_with fail
  go_returns
  exact ⟨rfl,by go_grown⟩
 ·rw [M.kst_no h2]
  have h2':(h==2)=false:=by simpa using h2
  go_enter Tryz.func17,Tryz.ntmps17
  go_wp2_with fail
  go_returns
  exact ⟨rfl,by go_grown⟩
set_option maxHeartbeats 400000 in
theorem l23Load_any (h pl k:Int) (w:World) (hk:M.kld h=k) :
  Calls Tryz.prog 18 #[.int .i64 pl,.int .i64 h] w fun e w'=>e=.returned (.agg #[.int .i64 k,.int .i64 pl,.int .i64 0])∧Below w.heap.size w w':=by
 subst hk
 by_cases h2:h=2
 ·rw [M.kld_yes h2]
  subst h2
  go_enter Tryz.func18,Tryz.ntmps18
  go_wp2_with fail
  go_returns
  exact ⟨rfl,by go_grown⟩
 ·rw [M.kld_no h2]
  have h2':(h==2)=false:=by simpa using h2
  go_enter Tryz.func18,Tryz.ntmps18
  go_wp2_with fail
  go_returns
  exact ⟨rfl,by go_grown⟩
structure TwoAns (w w':World) (e:Ending) (l:List M.D):Prop where
 ex:∃ x c,e=.returned (.slice x l.length c)∧w'.ownsRow w.heap.size 48 3 (.slice x l.length c) l.length (flat l)
 bel:Below w.heap.size w w'
theorem two_lit {w W:World} {N:Nat} (l:List M.D) {cs:Array Value} (hb:Below w.heap.size w W) (hcs:cs.toList=flat l) (hn:l.length≤1000) (hN:W.heap.size=N):TwoAns w (W.alloc (.cells cs 48)) (.returned (.slice (some ⟨N,0,none⟩) l.length l.length)) l:=by
 subst hN
 exact ⟨⟨_,_,rfl,own_lit (w:=W) (B:=w.heap.size) l hb.size hcs hn⟩,hb.alloc hb.size _⟩
set_option maxHeartbeats 1000000 in
set_option maxRecDepth 100000 in
theorem l23Two_any (h ak ap av bk bp bv:Int) (w:World) :
  Calls Tryz.prog 16 #[.agg #[.int .i64 ak,.int .i64 ap,.int .i64 av],.agg #[.int .i64 bk,.int .i64 bp,.int .i64 bv],.int .i64 h] w fun e w'=>TwoAns w w' e (M.fin h [⟨ak,ap,av⟩,⟨bk,bp,bv⟩]):=by
 have C1:=fun W=>l1Reads_any ⟨ak,ap,av⟩ W
 have C2:=fun W=>l1Writes_any ⟨bk,bp,bv⟩ W
 simp only at C1 C2
 by_cases h1:h=1
 ·subst h1
  go_enter Tryz.func16,Tryz.ntmps16
  go_wp2_with fail
  go_ret
  exact two_lit [⟨ak,ap,av⟩,⟨4,0,0⟩,⟨bk,bp,bv⟩] (below2 _ _ _) rfl (by simp) (by simp only [World.size_alloc])
 ·have h1':(h==1)=false:=by simpa using h1
  by_cases h3:h=3
  ·subst h3
   cases hr:M.reads ak
   ·have e:M.fin 3 [⟨ak,ap,av⟩,⟨bk,bp,bv⟩]=[⟨ak,ap,av⟩,⟨bk,bp,bv⟩]:=by simp [M.fin,hr]
    rw [e]
    rw [hr] at C1
    go_enter Tryz.func16,Tryz.ntmps16
    go_wp2_with (first | (go_at_call 35;refine (C1 _).mono ?_;rintro e w1 ⟨rfl,rfl⟩) | (go_at_call 36;refine (C2 _).mono ?_;rintro e w1 ⟨rfl,rfl⟩))
    go_ret
    exact two_lit [⟨ak,ap,av⟩,⟨bk,bp,bv⟩] (below3 _ _ _ _) rfl (by simp) (by simp only [World.size_alloc])
   ·cases hw:M.writes bk
    ·have e:M.fin 3 [⟨ak,ap,av⟩,⟨bk,bp,bv⟩]=[⟨ak,ap,av⟩,⟨bk,bp,bv⟩]:=by simp [M.fin,hw]
     rw [e]
     rw [hr] at C1
     rw [hw] at C2
     go_enter Tryz.func16,Tryz.ntmps16
     go_wp2_with (first | (go_at_call 35;refine (C1 _).mono ?_;rintro e w1 ⟨rfl,rfl⟩) | (go_at_call 36;refine (C2 _).mono ?_;rintro e w1 ⟨rfl,rfl⟩))
     go_ret
     exact two_lit [⟨ak,ap,av⟩,⟨bk,bp,bv⟩] ((below3 _ _ _ _).alloc (by simp;omega) _) rfl (by simp) (by simp only [World.size_alloc])
    ·have e:M.fin 3 [⟨ak,ap,av⟩,⟨bk,bp,bv⟩]=[⟨ak,ap,av⟩,⟨3,bp,0⟩]:=by simp [M.fin,hr,hw]
     rw [e]
     rw [hr] at C1
     rw [hw] at C2
     go_enter Tryz.func16,Tryz.ntmps16
     go_wp2_with (first | (go_at_call 35;refine (C1 _).mono ?_;rintro e w1 ⟨rfl,rfl⟩) | (go_at_call 36;refine (C2 _).mono ?_;rintro e w1 ⟨rfl,rfl⟩))
     go_ret
     exact two_lit [⟨ak,ap,av⟩,⟨3,bp,0⟩] ((below3 _ _ _ _).alloc (by simp;omega) _) rfl (by simp) (by simp only [World.size_alloc])
  ·have h3':(h==3)=false:=by simpa using h3
   have e:M.fin h [⟨ak,ap,av⟩,⟨bk,bp,bv⟩]=[⟨ak,ap,av⟩,⟨bk,bp,bv⟩]:=by simp [M.fin,h1,h3]
   rw [e]
   go_enter Tryz.func16,Tryz.ntmps16
   go_wp2_with fail
   go_ret
   exact two_lit [⟨ak,ap,av⟩,⟨bk,bp,bv⟩] (below2 _ _ _) rfl (by simp) (by simp only [World.size_alloc])
end
section
open Go.RowKit
set_option maxHeartbeats 2000000 in
set_option linter.unusedSimpArgs false in
set_option maxRecDepth 100000 in
theorem ssh_cross (h:Int) (w:World) (o3:0≤h) (o4:h≤3) :
  Calls Tryz.prog 5 #[.int .i64 1,.int .i64 h] w fun e w'=>∃ v,e=.returned (.tuple #[.agg #[v],.bool true])∧(∃ vs,Rdg w' w.heap.size v ((M.raw 1 h).map (M.fin h)) vs)∧Below w.heap.size w w':=by
 have bP:=below2 w (.cells #[.slice none 0 0] 27) (.cells #[.slice none 0 0] 27)
 have hQ:=(Slot1.new w (.slice none 0 0) 27).bl' (below1 _ (.cells #[.slice none 0 0] 27))
 have hP:=Slot1.new (w.alloc (.cells #[.slice none 0 0] 27)) (.slice none 0 0) 27
 rw [World.size_alloc] at hP
 have C1:=fun W=>l6In_any 1 1 6 W
 have C2:=fun W=>l6In_any h 0 3 W
 rw [show M.rng 1 6 1=true by decide] at C1
 rw [show M.rng 0 3 h=true by simp [M.rng,o3,o4]] at C2
 obtain ⟨ks,hks⟩:∃ x,M.kst h=x:=⟨_,rfl⟩
 obtain ⟨kl,hkl⟩:∃ x,M.kld h=x:=⟨_,rfl⟩
 have hs:Hid (M.kst h=ks):=hks
 have hl:Hid (M.kld h=kl):=hkl
 obtain ⟨l0,hl0⟩:∃ x,M.fin h [⟨ks,0,1⟩,⟨kl,1,0⟩]=x:=⟨_,rfl⟩
 have T0:=fun W=>l23Two_any h ks 0 1 kl 1 0 W
 rw [hl0] at T0
 obtain ⟨l1,hl1⟩:∃ x,M.fin h [⟨ks,1,1⟩,⟨kl,0,0⟩]=x:=⟨_,rfl⟩
 have T1:=fun W=>l23Two_any h ks 1 1 kl 0 0 W
 rw [hl1] at T1
 have er:(M.raw 1 h).map (M.fin h)=[l0,l1]:=by
  have e0:M.raw 1 h=[[⟨ks,0,1⟩,⟨kl,1,0⟩],[⟨ks,1,1⟩,⟨kl,0,0⟩]]:=by simp [M.raw,M.sst,M.sld,hks,hkl,M.kst_no,M.kld_no]
  rw [e0]
  simp only [List.map_cons,List.map_nil,hl0,hl1]
 rw [er]
 clear er hks hkl hl0 hl1
 go_enter Tryz.func5,Tryz.ntmps5
 go_wp2_with fail
 refine (C1 _).mono ?_
 rintro e w0 ⟨rfl,rfl⟩
 go_wp2_with fail
 refine (C2 _).mono ?_
 rintro e w0 ⟨rfl,rfl⟩
 clear C1 C2
 go_wp2_with fail
 generalize hV:((w.alloc (.cells #[.slice none 0 0] 27)).alloc (.cells #[.slice none 0 0] 27))=V at *
 have hb:=Below.refl V.heap.size V
 have sV:V.heap.size=w.heap.size+2:=by rw [← hV];simp
 clear hV
 refine (l23Store_any h 0 1 ks _ hs.out).mono ?_
 rintro e W1 ⟨rfl,b⟩
 replace hb:=hb.trans (b.mono hb.size)
 clear b
 go_wp2_with fail
 refine (l23Load_any h 1 kl _ hl.out).mono ?_
 rintro e W2 ⟨rfl,b⟩
 replace hb:=hb.trans (b.mono hb.size)
 clear b
 go_wp2_with fail
 refine (T0 _).mono ?_
 rintro e W3 ⟨⟨x0,c0,rfl,R0⟩,b⟩
 replace R0:=ownsRow_mono R0 hb.size
 replace hb:=hb.trans (b.mono hb.size)
 clear b
 go_wp2_with fail
 refine (l23Store_any h 1 1 ks _ hs.out).mono ?_
 rintro e W4 ⟨rfl,b⟩
 replace hb:=hb.trans (b.mono hb.size)
 replace R0:=ownsRow_below R0 b
 clear b
 go_wp2_with fail
 refine (l23Load_any h 0 kl _ hl.out).mono ?_
 rintro e W5 ⟨rfl,b⟩
 replace hb:=hb.trans (b.mono hb.size)
 replace R0:=ownsRow_below R0 b
 clear b
 go_wp2_with fail
 refine (T1 _).mono ?_
 rintro e W6 ⟨⟨x1,c1,rfl,R1⟩,b⟩
 have hne:∀ k,(Value.slice x0 l0.length c0).ownBlock=some k→(Value.slice x1 l1.length c1).ownBlock≠some k:=fun k h1 h2=>by have:=(R0.lt k h1).2;have:=own_ge R1 k h2;omega
 replace R0:=ownsRow_below R0 b
 replace R1:=ownsRow_mono R1 hb.size
 replace hb:=hb.trans (b.mono hb.size)
 clear b
 have O:=own_lit2 (w:=W6) (B:=V.heap.size) (v1:=(.slice x0 l0.length c0)) (v2:=(.slice x1 l1.length c1)) hb.size
 have bo:=below1 W6 (.cells #[.slice x0 l0.length c0,.slice x1 l1.length c1] 45)
 replace R0:=ownsRow_below R0 bo
 replace R1:=ownsRow_below R1 bo
 replace hb:=hb.trans (bo.mono hb.size)
 have RD:=rdg_two (l1:=l0) (l2:=l1) R0 R1 hne O
 have P1:=hP.bl' hb
 have Q1:=hQ.bl' hb
 have bw:=bP.trans (hb.mono bP.size)
 have p0:=P1.c
 have pf:=P1.fz
 have q0:=Q1.c
 have qf:=Q1.fz
 have lP:=P1.lt
 have lQ:=Q1.lt
 have nPQ:w.heap.size≠w.heap.size+1:=by omega
 have P2:=P1.set (.slice (some ⟨W6.heap.size,0,none⟩) 2 2)
 have Q2:=Q1.far (b':=w.heap.size+1) (i:=0) (by omega) (.slice (some ⟨W6.heap.size,0,none⟩) 2 2)
 have Q3:=Q2.set (.slice (some ⟨W6.heap.size,0,none⟩) 2 2)
 have p2:=P2.c
 have q2:=Q2.c
 have qf2:=Q2.fz
 have q3:=Q3.c
 clear R0 R1 O bo
 go_wp2_with fail
 exact bodyPost_ret (v:=.tuple #[.agg #[.slice (some ⟨W6.heap.size,0,none⟩) 2 2],.bool true]) (by simp [results,Tryz.results5,go_sem,q3]) rfl ⟨_,rfl,⟨_,((RD.far (by omega) _).far (by omega) _).mono (by omega)⟩,(bw.setCell (by show w.heap.size≤w.heap.size+1;omega) _).setCell (Nat.le_refl _) _⟩
set_option maxHeartbeats 2000000 in
set_option linter.unusedSimpArgs false in
set_option maxRecDepth 100000 in
theorem ssh_pass (h:Int) (w:World) (o3:0≤h) (o4:h≤3) :
  Calls Tryz.prog 5 #[.int .i64 2,.int .i64 h] w fun e w'=>∃ v,e=.returned (.tuple #[.agg #[v],.bool true])∧(∃ vs,Rdg w' w.heap.size v ((M.raw 2 h).map (M.fin h)) vs)∧Below w.heap.size w w':=by
 have bP:=below2 w (.cells #[.slice none 0 0] 27) (.cells #[.slice none 0 0] 27)
 have hQ:=(Slot1.new w (.slice none 0 0) 27).bl' (below1 _ (.cells #[.slice none 0 0] 27))
 have hP:=Slot1.new (w.alloc (.cells #[.slice none 0 0] 27)) (.slice none 0 0) 27
 rw [World.size_alloc] at hP
 have C1:=fun W=>l6In_any 2 1 6 W
 have C2:=fun W=>l6In_any h 0 3 W
 rw [show M.rng 1 6 2=true by decide] at C1
 rw [show M.rng 0 3 h=true by simp [M.rng,o3,o4]] at C2
 obtain ⟨ks,hks⟩:∃ x,M.kst h=x:=⟨_,rfl⟩
 obtain ⟨kl,hkl⟩:∃ x,M.kld h=x:=⟨_,rfl⟩
 have hs:Hid (M.kst h=ks):=hks
 have hl:Hid (M.kld h=kl):=hkl
 obtain ⟨l0,hl0⟩:∃ x,M.fin h [⟨1,0,1⟩,⟨ks,1,1⟩]=x:=⟨_,rfl⟩
 have T0:=fun W=>l23Two_any h 1 0 1 ks 1 1 W
 rw [hl0] at T0
 obtain ⟨l1,hl1⟩:∃ x,M.fin h [⟨kl,1,0⟩,⟨2,0,0⟩]=x:=⟨_,rfl⟩
 have T1:=fun W=>l23Two_any h kl 1 0 2 0 0 W
 rw [hl1] at T1
 have er:(M.raw 2 h).map (M.fin h)=[l0,l1]:=by
  have e0:M.raw 2 h=[[⟨1,0,1⟩,⟨ks,1,1⟩],[⟨kl,1,0⟩,⟨2,0,0⟩]]:=by simp [M.raw,M.sst,M.sld,hks,hkl,M.kst_no,M.kld_no]
  rw [e0]
  simp only [List.map_cons,List.map_nil,hl0,hl1]
 rw [er]
 clear er hks hkl hl0 hl1
 go_enter Tryz.func5,Tryz.ntmps5
 go_wp2_with fail
 refine (C1 _).mono ?_
 rintro e w0 ⟨rfl,rfl⟩
 go_wp2_with fail
 refine (C2 _).mono ?_
 rintro e w0 ⟨rfl,rfl⟩
 clear C1 C2
 go_wp2_with fail
 generalize hV:((w.alloc (.cells #[.slice none 0 0] 27)).alloc (.cells #[.slice none 0 0] 27))=V at *
 have hb:=Below.refl V.heap.size V
 have sV:V.heap.size=w.heap.size+2:=by rw [← hV];simp
 clear hV
 refine (l23Store_any 0 0 1 1 _ rfl).mono ?_
 rintro e W1 ⟨rfl,b⟩
 replace hb:=hb.trans (b.mono hb.size)
 clear b
 go_wp2_with fail
 refine (l23Store_any h 1 1 ks _ hs.out).mono ?_
 rintro e W2 ⟨rfl,b⟩
 replace hb:=hb.trans (b.mono hb.size)
 clear b
 go_wp2_with fail
 refine (T0 _).mono ?_
 rintro e W3 ⟨⟨x0,c0,rfl,R0⟩,b⟩
 replace R0:=ownsRow_mono R0 hb.size
 replace hb:=hb.trans (b.mono hb.size)
 clear b
 go_wp2_with fail
 refine (l23Load_any h 1 kl _ hl.out).mono ?_
 rintro e W4 ⟨rfl,b⟩
 replace hb:=hb.trans (b.mono hb.size)
 replace R0:=ownsRow_below R0 b
 clear b
 go_wp2_with fail
 refine (l23Load_any 0 0 2 _ rfl).mono ?_
 rintro e W5 ⟨rfl,b⟩
 replace hb:=hb.trans (b.mono hb.size)
 replace R0:=ownsRow_below R0 b
 clear b
 go_wp2_with fail
 refine (T1 _).mono ?_
 rintro e W6 ⟨⟨x1,c1,rfl,R1⟩,b⟩
 have hne:∀ k,(Value.slice x0 l0.length c0).ownBlock=some k→(Value.slice x1 l1.length c1).ownBlock≠some k:=fun k h1 h2=>by have:=(R0.lt k h1).2;have:=own_ge R1 k h2;omega
 replace R0:=ownsRow_below R0 b
 replace R1:=ownsRow_mono R1 hb.size
 replace hb:=hb.trans (b.mono hb.size)
 clear b
 have O:=own_lit2 (w:=W6) (B:=V.heap.size) (v1:=(.slice x0 l0.length c0)) (v2:=(.slice x1 l1.length c1)) hb.size
 have bo:=below1 W6 (.cells #[.slice x0 l0.length c0,.slice x1 l1.length c1] 45)
 replace R0:=ownsRow_below R0 bo
 replace R1:=ownsRow_below R1 bo
 replace hb:=hb.trans (bo.mono hb.size)
 have RD:=rdg_two (l1:=l0) (l2:=l1) R0 R1 hne O
 have P1:=hP.bl' hb
 have Q1:=hQ.bl' hb
 have bw:=bP.trans (hb.mono bP.size)
 have p0:=P1.c
 have pf:=P1.fz
 have q0:=Q1.c
 have qf:=Q1.fz
 have lP:=P1.lt
 have lQ:=Q1.lt
 have nPQ:w.heap.size≠w.heap.size+1:=by omega
 have P2:=P1.set (.slice (some ⟨W6.heap.size,0,none⟩) 2 2)
 have Q2:=Q1.far (b':=w.heap.size+1) (i:=0) (by omega) (.slice (some ⟨W6.heap.size,0,none⟩) 2 2)
 have Q3:=Q2.set (.slice (some ⟨W6.heap.size,0,none⟩) 2 2)
 have p2:=P2.c
 have q2:=Q2.c
 have qf2:=Q2.fz
 have q3:=Q3.c
 clear R0 R1 O bo
 go_wp2_with fail
 exact bodyPost_ret (v:=.tuple #[.agg #[.slice (some ⟨W6.heap.size,0,none⟩) 2 2],.bool true]) (by simp [results,Tryz.results5,go_sem,q3]) rfl ⟨_,rfl,⟨_,((RD.far (by omega) _).far (by omega) _).mono (by omega)⟩,(bw.setCell (by show w.heap.size≤w.heap.size+1;omega) _).setCell (Nat.le_refl _) _⟩
set_option maxHeartbeats 2000000 in
set_option linter.unusedSimpArgs false in
set_option maxRecDepth 100000 in
theorem ssh_round (h:Int) (w:World) (o3:0≤h) (o4:h≤3) :
  Calls Tryz.prog 5 #[.int .i64 3,.int .i64 h] w fun e w'=>∃ v,e=.returned (.tuple #[.agg #[v],.bool true])∧(∃ vs,Rdg w' w.heap.size v ((M.raw 3 h).map (M.fin h)) vs)∧Below w.heap.size w w':=by
 have bP:=below2 w (.cells #[.slice none 0 0] 27) (.cells #[.slice none 0 0] 27)
 have hQ:=(Slot1.new w (.slice none 0 0) 27).bl' (below1 _ (.cells #[.slice none 0 0] 27))
 have hP:=Slot1.new (w.alloc (.cells #[.slice none 0 0] 27)) (.slice none 0 0) 27
 rw [World.size_alloc] at hP
 have C1:=fun W=>l6In_any 3 1 6 W
 have C2:=fun W=>l6In_any h 0 3 W
 rw [show M.rng 1 6 3=true by decide] at C1
 rw [show M.rng 0 3 h=true by simp [M.rng,o3,o4]] at C2
 obtain ⟨ks,hks⟩:∃ x,M.kst h=x:=⟨_,rfl⟩
 obtain ⟨kl,hkl⟩:∃ x,M.kld h=x:=⟨_,rfl⟩
 have hs:Hid (M.kst h=ks):=hks
 have hl:Hid (M.kld h=kl):=hkl
 obtain ⟨l0,hl0⟩:∃ x,M.fin h [⟨kl,0,0⟩,⟨ks,1,1⟩]=x:=⟨_,rfl⟩
 have T0:=fun W=>l23Two_any h kl 0 0 ks 1 1 W
 rw [hl0] at T0
 obtain ⟨l1,hl1⟩:∃ x,M.fin h [⟨kl,1,0⟩,⟨ks,0,1⟩]=x:=⟨_,rfl⟩
 have T1:=fun W=>l23Two_any h kl 1 0 ks 0 1 W
 rw [hl1] at T1
 have er:(M.raw 3 h).map (M.fin h)=[l0,l1]:=by
  have e0:M.raw 3 h=[[⟨kl,0,0⟩,⟨ks,1,1⟩],[⟨kl,1,0⟩,⟨ks,0,1⟩]]:=by simp [M.raw,M.sst,M.sld,hks,hkl,M.kst_no,M.kld_no]
  rw [e0]
  simp only [List.map_cons,List.map_nil,hl0,hl1]
 rw [er]
 clear er hks hkl hl0 hl1
 go_enter Tryz.func5,Tryz.ntmps5
 go_wp2_with fail
 refine (C1 _).mono ?_
 rintro e w0 ⟨rfl,rfl⟩
 go_wp2_with fail
 refine (C2 _).mono ?_
 rintro e w0 ⟨rfl,rfl⟩
 clear C1 C2
 go_wp2_with fail
 generalize hV:((w.alloc (.cells #[.slice none 0 0] 27)).alloc (.cells #[.slice none 0 0] 27))=V at *
 have hb:=Below.refl V.heap.size V
 have sV:V.heap.size=w.heap.size+2:=by rw [← hV];simp
 clear hV
 refine (l23Load_any h 0 kl _ hl.out).mono ?_
 rintro e W1 ⟨rfl,b⟩
 replace hb:=hb.trans (b.mono hb.size)
 clear b
 go_wp2_with fail
 refine (l23Store_any h 1 1 ks _ hs.out).mono ?_
 rintro e W2 ⟨rfl,b⟩
 replace hb:=hb.trans (b.mono hb.size)
 clear b
 go_wp2_with fail
 refine (T0 _).mono ?_
 rintro e W3 ⟨⟨x0,c0,rfl,R0⟩,b⟩
 replace R0:=ownsRow_mono R0 hb.size
 replace hb:=hb.trans (b.mono hb.size)
 clear b
 go_wp2_with fail
 refine (l23Load_any h 1 kl _ hl.out).mono ?_
 rintro e W4 ⟨rfl,b⟩
 replace hb:=hb.trans (b.mono hb.size)
 replace R0:=ownsRow_below R0 b
 clear b
 go_wp2_with fail
 refine (l23Store_any h 0 1 ks _ hs.out).mono ?_
 rintro e W5 ⟨rfl,b⟩
 replace hb:=hb.trans (b.mono hb.size)
 replace R0:=ownsRow_below R0 b
 clear b
 go_wp2_with fail
 refine (T1 _).mono ?_
 rintro e W6 ⟨⟨x1,c1,rfl,R1⟩,b⟩
 have hne:∀ k,(Value.slice x0 l0.length c0).ownBlock=some k→(Value.slice x1 l1.length c1).ownBlock≠some k:=fun k h1 h2=>by have:=(R0.lt k h1).2;have:=own_ge R1 k h2;omega
 replace R0:=ownsRow_below R0 b
 replace R1:=ownsRow_mono R1 hb.size
 replace hb:=hb.trans (b.mono hb.size)
 clear b
 have O:=own_lit2 (w:=W6) (B:=V.heap.size) (v1:=(.slice x0 l0.length c0)) (v2:=(.slice x1 l1.length c1)) hb.size
 have bo:=below1 W6 (.cells #[.slice x0 l0.length c0,.slice x1 l1.length c1] 45)
 replace R0:=ownsRow_below R0 bo
 replace R1:=ownsRow_below R1 bo
 replace hb:=hb.trans (bo.mono hb.size)
 have RD:=rdg_two (l1:=l0) (l2:=l1) R0 R1 hne O
 have P1:=hP.bl' hb
 have Q1:=hQ.bl' hb
 have bw:=bP.trans (hb.mono bP.size)
 have p0:=P1.c
 have pf:=P1.fz
 have q0:=Q1.c
 have qf:=Q1.fz
 have lP:=P1.lt
 have lQ:=Q1.lt
 have nPQ:w.heap.size≠w.heap.size+1:=by omega
 have P2:=P1.set (.slice (some ⟨W6.heap.size,0,none⟩) 2 2)
 have Q2:=Q1.far (b':=w.heap.size+1) (i:=0) (by omega) (.slice (some ⟨W6.heap.size,0,none⟩) 2 2)
 have Q3:=Q2.set (.slice (some ⟨W6.heap.size,0,none⟩) 2 2)
 have p2:=P2.c
 have q2:=Q2.c
 have qf2:=Q2.fz
 have q3:=Q3.c
 clear R0 R1 O bo
 go_wp2_with fail
 exact bodyPost_ret (v:=.tuple #[.agg #[.slice (some ⟨W6.heap.size,0,none⟩) 2 2],.bool true]) (by simp [results,Tryz.results5,go_sem,q3]) rfl ⟨_,rfl,⟨_,((RD.far (by omega) _).far (by omega) _).mono (by omega)⟩,(bw.setCell (by show w.heap.size≤w.heap.size+1;omega) _).setCell (Nat.le_refl _) _⟩
set_option maxHeartbeats 2000000 in
set_option linter.unusedSimpArgs false in
set_option maxRecDepth 100000 in
theorem ssh_twice (h:Int) (w:World) (o3:0≤h) (o4:h≤3) :
  Calls Tryz.prog 5 #[.int .i64 4,.int .i64 h] w fun e w'=>∃ v,e=.returned (.tuple #[.agg #[v],.bool true])∧(∃ vs,Rdg w' w.heap.size v ((M.raw 4 h).map (M.fin h)) vs)∧Below w.heap.size w w':=by
 have bP:=below2 w (.cells #[.slice none 0 0] 27) (.cells #[.slice none 0 0] 27)
 have hQ:=(Slot1.new w (.slice none 0 0) 27).bl' (below1 _ (.cells #[.slice none 0 0] 27))
 have hP:=Slot1.new (w.alloc (.cells #[.slice none 0 0] 27)) (.slice none 0 0) 27
 rw [World.size_alloc] at hP
 have C1:=fun W=>l6In_any 4 1 6 W
 have C2:=fun W=>l6In_any h 0 3 W
 rw [show M.rng 1 6 4=true by decide] at C1
 rw [show M.rng 0 3 h=true by simp [M.rng,o3,o4]] at C2
 obtain ⟨ks,hks⟩:∃ x,M.kst h=x:=⟨_,rfl⟩
 obtain ⟨kl,hkl⟩:∃ x,M.kld h=x:=⟨_,rfl⟩
 have hs:Hid (M.kst h=ks):=hks
 have hl:Hid (M.kld h=kl):=hkl
 obtain ⟨l1,hl1⟩:∃ x,M.fin h [⟨kl,0,0⟩,⟨kl,0,0⟩]=x:=⟨_,rfl⟩
 have T1:=fun W=>l23Two_any h kl 0 0 kl 0 0 W
 rw [hl1] at T1
 have er:(M.raw 4 h).map (M.fin h)=[[⟨ks,0,1⟩],l1]:=by
  have e0:M.raw 4 h=[[⟨ks,0,1⟩],[⟨kl,0,0⟩,⟨kl,0,0⟩]]:=by simp [M.raw,M.sst,M.sld,hks,hkl,M.kst_no,M.kld_no]
  rw [e0]
  simp only [List.map_cons,List.map_nil,hl1]
  rfl
 rw [er]
 clear er hks hkl hl1
 go_enter Tryz.func5,Tryz.ntmps5
 go_wp2_with fail
 refine (C1 _).mono ?_
 rintro e w0 ⟨rfl,rfl⟩
 go_wp2_with fail
 refine (C2 _).mono ?_
 rintro e w0 ⟨rfl,rfl⟩
 clear C1 C2
 go_wp2_with fail
 generalize hV:((w.alloc (.cells #[.slice none 0 0] 27)).alloc (.cells #[.slice none 0 0] 27))=V at *
 have hb:=Below.refl V.heap.size V
 have sV:V.heap.size=w.heap.size+2:=by rw [← hV];simp
 clear hV
 refine (l23Store_any h 0 1 ks _ hs.out).mono ?_
 rintro e W1 ⟨rfl,b⟩
 replace hb:=hb.trans (b.mono hb.size)
 clear b
 have R0:=own_lit (w:=W1) (B:=V.heap.size) [⟨ks,0,1⟩] (cs:=#[.int .i64 ks,.int .i64 0,.int .i64 1]) hb.size rfl (by simp)
 replace hb:=hb.alloc hb.size (.cells #[.int .i64 ks,.int .i64 0,.int .i64 1] 48)
 simp only [List.length_cons,List.length_nil,Nat.zero_add,Nat.reduceAdd] at R0
 go_wp2_with fail
 generalize W1.alloc (.cells #[.int .i64 ks,.int .i64 0,.int .i64 1] 48)=V0 at *
 generalize W1.heap.size=G0 at *
 refine (l23Load_any h 0 kl _ hl.out).mono ?_
 rintro e W2 ⟨rfl,b⟩
 replace hb:=hb.trans (b.mono hb.size)
 replace R0:=ownsRow_below R0 b
 clear b
 go_wp2_with fail
 refine (l23Load_any h 0 kl _ hl.out).mono ?_
 rintro e W3 ⟨rfl,b⟩
 replace hb:=hb.trans (b.mono hb.size)
 replace R0:=ownsRow_below R0 b
 clear b
 go_wp2_with fail
 refine (T1 _).mono ?_
 rintro e W4 ⟨⟨x1,c1,rfl,R1⟩,b⟩
 have hne:∀ k,(Value.slice (some ⟨G0,0,none⟩) 1 1).ownBlock=some k→(Value.slice x1 l1.length c1).ownBlock≠some k:=fun k h1 h2=>by have:=(R0.lt k h1).2;have:=own_ge R1 k h2;omega
 replace R0:=ownsRow_below R0 b
 replace R1:=ownsRow_mono R1 hb.size
 replace hb:=hb.trans (b.mono hb.size)
 clear b
 have O:=own_lit2 (w:=W4) (B:=V.heap.size) (v1:=(.slice (some ⟨G0,0,none⟩) 1 1)) (v2:=(.slice x1 l1.length c1)) hb.size
 have bo:=below1 W4 (.cells #[.slice (some ⟨G0,0,none⟩) 1 1,.slice x1 l1.length c1] 45)
 replace R0:=ownsRow_below R0 bo
 replace R1:=ownsRow_below R1 bo
 replace hb:=hb.trans (bo.mono hb.size)
 have RD:=rdg_two (l1:=[⟨ks,0,1⟩]) (l2:=l1) R0 R1 hne O
 have P1:=hP.bl' hb
 have Q1:=hQ.bl' hb
 have bw:=bP.trans (hb.mono bP.size)
 have p0:=P1.c
 have pf:=P1.fz
 have q0:=Q1.c
 have qf:=Q1.fz
 have lP:=P1.lt
 have lQ:=Q1.lt
 have nPQ:w.heap.size≠w.heap.size+1:=by omega
 have P2:=P1.set (.slice (some ⟨W4.heap.size,0,none⟩) 2 2)
 have Q2:=Q1.far (b':=w.heap.size+1) (i:=0) (by omega) (.slice (some ⟨W4.heap.size,0,none⟩) 2 2)
 have Q3:=Q2.set (.slice (some ⟨W4.heap.size,0,none⟩) 2 2)
 have p2:=P2.c
 have q2:=Q2.c
 have qf2:=Q2.fz
 have q3:=Q3.c
 clear R0 R1 O bo
 go_wp2_with fail
 exact bodyPost_ret (v:=.tuple #[.agg #[.slice (some ⟨W4.heap.size,0,none⟩) 2 2],.bool true]) (by simp [results,Tryz.results5,go_sem,q3]) rfl ⟨_,rfl,⟨_,((RD.far (by omega) _).far (by omega) _).mono (by omega)⟩,(bw.setCell (by show w.heap.size≤w.heap.size+1;omega) _).setCell (Nat.le_refl _) _⟩
set_option maxHeartbeats 2000000 in
set_option linter.unusedSimpArgs false in
set_option maxRecDepth 100000 in
theorem ssh_four (h:Int) (w:World) (o3:0≤h) (o4:h≤3) :
  Calls Tryz.prog 5 #[.int .i64 5,.int .i64 h] w fun e w'=>∃ v,e=.returned (.tuple #[.agg #[v],.bool true])∧(∃ vs,Rdg w' w.heap.size v ((M.raw 5 h).map (M.fin h)) vs)∧Below w.heap.size w w':=by
 have bP:=below2 w (.cells #[.slice none 0 0] 27) (.cells #[.slice none 0 0] 27)
 have hQ:=(Slot1.new w (.slice none 0 0) 27).bl' (below1 _ (.cells #[.slice none 0 0] 27))
 have hP:=Slot1.new (w.alloc (.cells #[.slice none 0 0] 27)) (.slice none 0 0) 27
 rw [World.size_alloc] at hP
 have C1:=fun W=>l6In_any 5 1 6 W
 have C2:=fun W=>l6In_any h 0 3 W
 rw [show M.rng 1 6 5=true by decide] at C1
 rw [show M.rng 0 3 h=true by simp [M.rng,o3,o4]] at C2
 obtain ⟨ks,hks⟩:∃ x,M.kst h=x:=⟨_,rfl⟩
 obtain ⟨kl,hkl⟩:∃ x,M.kld h=x:=⟨_,rfl⟩
 have hs:Hid (M.kst h=ks):=hks
 have hl:Hid (M.kld h=kl):=hkl
 obtain ⟨l0,hl0⟩:∃ x,M.fin h [⟨ks,0,2⟩,⟨ks,1,1⟩]=x:=⟨_,rfl⟩
 have T0:=fun W=>l23Two_any h ks 0 2 ks 1 1 W
 rw [hl0] at T0
 obtain ⟨l1,hl1⟩:∃ x,M.fin h [⟨ks,1,2⟩,⟨ks,0,1⟩]=x:=⟨_,rfl⟩
 have T1:=fun W=>l23Two_any h ks 1 2 ks 0 1 W
 rw [hl1] at T1
 have er:(M.raw 5 h).map (M.fin h)=[l0,l1]:=by
  have e0:M.raw 5 h=[[⟨ks,0,2⟩,⟨ks,1,1⟩],[⟨ks,1,2⟩,⟨ks,0,1⟩]]:=by simp [M.raw,M.sst,M.sld,hks,hkl,M.kst_no,M.kld_no]
  rw [e0]
  simp only [List.map_cons,List.map_nil,hl0,hl1]
 rw [er]
 clear er hks hkl hl0 hl1
 go_enter Tryz.func5,Tryz.ntmps5
 go_wp2_with fail
 refine (C1 _).mono ?_
 rintro e w0 ⟨rfl,rfl⟩
 go_wp2_with fail
 refine (C2 _).mono ?_
 rintro e w0 ⟨rfl,rfl⟩
 clear C1 C2
 go_wp2_with fail
 generalize hV:((w.alloc (.cells #[.slice none 0 0] 27)).alloc (.cells #[.slice none 0 0] 27))=V at *
 have hb:=Below.refl V.heap.size V
 have sV:V.heap.size=w.heap.size+2:=by rw [← hV];simp
 clear hV
 refine (l23Store_any h 0 2 ks _ hs.out).mono ?_
 rintro e W1 ⟨rfl,b⟩
 replace hb:=hb.trans (b.mono hb.size)
 clear b
 go_wp2_with fail
 refine (l23Store_any h 1 1 ks _ hs.out).mono ?_
 rintro e W2 ⟨rfl,b⟩
 replace hb:=hb.trans (b.mono hb.size)
 clear b
 go_wp2_with fail
 refine (T0 _).mono ?_
 rintro e W3 ⟨⟨x0,c0,rfl,R0⟩,b⟩
 replace R0:=ownsRow_mono R0 hb.size
 replace hb:=hb.trans (b.mono hb.size)
 clear b
 go_wp2_with fail
 refine (l23Store_any h 1 2 ks _ hs.out).mono ?_
 rintro e W4 ⟨rfl,b⟩
 replace hb:=hb.trans (b.mono hb.size)
 replace R0:=ownsRow_below R0 b
 clear b
 go_wp2_with fail
 refine (l23Store_any h 0 1 ks _ hs.out).mono ?_
 rintro e W5 ⟨rfl,b⟩
 replace hb:=hb.trans (b.mono hb.size)
 replace R0:=ownsRow_below R0 b
 clear b
 go_wp2_with fail
 refine (T1 _).mono ?_
 rintro e W6 ⟨⟨x1,c1,rfl,R1⟩,b⟩
 have hne:∀ k,(Value.slice x0 l0.length c0).ownBlock=some k→(Value.slice x1 l1.length c1).ownBlock≠some k:=fun k h1 h2=>by have:=(R0.lt k h1).2;have:=own_ge R1 k h2;omega
 replace R0:=ownsRow_below R0 b
 replace R1:=ownsRow_mono R1 hb.size
 replace hb:=hb.trans (b.mono hb.size)
 clear b
 have O:=own_lit2 (w:=W6) (B:=V.heap.size) (v1:=(.slice x0 l0.length c0)) (v2:=(.slice x1 l1.length c1)) hb.size
 have bo:=below1 W6 (.cells #[.slice x0 l0.length c0,.slice x1 l1.length c1] 45)
 replace R0:=ownsRow_below R0 bo
 replace R1:=ownsRow_below R1 bo
 replace hb:=hb.trans (bo.mono hb.size)
 have RD:=rdg_two (l1:=l0) (l2:=l1) R0 R1 hne O
 have P1:=hP.bl' hb
 have Q1:=hQ.bl' hb
 have bw:=bP.trans (hb.mono bP.size)
 have p0:=P1.c
 have pf:=P1.fz
 have q0:=Q1.c
 have qf:=Q1.fz
 have lP:=P1.lt
 have lQ:=Q1.lt
 have nPQ:w.heap.size≠w.heap.size+1:=by omega
 have P2:=P1.set (.slice (some ⟨W6.heap.size,0,none⟩) 2 2)
 have Q2:=Q1.far (b':=w.heap.size+1) (i:=0) (by omega) (.slice (some ⟨W6.heap.size,0,none⟩) 2 2)
 have Q3:=Q2.set (.slice (some ⟨W6.heap.size,0,none⟩) 2 2)
 have p2:=P2.c
 have q2:=Q2.c
 have qf2:=Q2.fz
 have q3:=Q3.c
 clear R0 R1 O bo
 go_wp2_with fail
 exact bodyPost_ret (v:=.tuple #[.agg #[.slice (some ⟨W6.heap.size,0,none⟩) 2 2],.bool true]) (by simp [results,Tryz.results5,go_sem,q3]) rfl ⟨_,rfl,⟨_,((RD.far (by omega) _).far (by omega) _).mono (by omega)⟩,(bw.setCell (by show w.heap.size≤w.heap.size+1;omega) _).setCell (Nat.le_refl _) _⟩
set_option maxHeartbeats 2000000 in
set_option linter.unusedSimpArgs false in
set_option maxRecDepth 100000 in
theorem ssh_wait (h:Int) (w:World) (o3:0≤h) (o4:h≤3) :
  Calls Tryz.prog 5 #[.int .i64 6,.int .i64 h] w fun e w'=>∃ v,e=.returned (.tuple #[.agg #[v],.bool true])∧(∃ vs,Rdg w' w.heap.size v ((M.raw 6 h).map (M.fin h)) vs)∧Below w.heap.size w w':=by
 have bP:=below2 w (.cells #[.slice none 0 0] 27) (.cells #[.slice none 0 0] 27)
 have hQ:=(Slot1.new w (.slice none 0 0) 27).bl' (below1 _ (.cells #[.slice none 0 0] 27))
 have hP:=Slot1.new (w.alloc (.cells #[.slice none 0 0] 27)) (.slice none 0 0) 27
 rw [World.size_alloc] at hP
 have C1:=fun W=>l6In_any 6 1 6 W
 have C2:=fun W=>l6In_any h 0 3 W
 rw [show M.rng 1 6 6=true by decide] at C1
 rw [show M.rng 0 3 h=true by simp [M.rng,o3,o4]] at C2
 obtain ⟨ks,hks⟩:∃ x,M.kst h=x:=⟨_,rfl⟩
 obtain ⟨kl,hkl⟩:∃ x,M.kld h=x:=⟨_,rfl⟩
 have hs:Hid (M.kst h=ks):=hks
 have hl:Hid (M.kld h=kl):=hkl
 have er:(M.raw 6 h).map (M.fin h)=[[⟨7,0,0⟩,⟨2,1,0⟩,⟨2,0,0⟩,⟨8,0,0⟩],[⟨1,0,1⟩,⟨9,0,0⟩,⟨ks,1,1⟩]]:=by
  have e0:M.raw 6 h=[[⟨7,0,0⟩,⟨2,1,0⟩,⟨2,0,0⟩,⟨8,0,0⟩],[⟨1,0,1⟩,⟨9,0,0⟩,⟨ks,1,1⟩]]:=by simp [M.raw,M.sst,M.sld,hks,hkl,M.kst_no,M.kld_no]
  rw [e0]
  simp only [List.map_cons,List.map_nil]
  rfl
 rw [er]
 clear er hks hkl 
 go_enter Tryz.func5,Tryz.ntmps5
 go_wp2_with fail
 refine (C1 _).mono ?_
 rintro e w0 ⟨rfl,rfl⟩
 go_wp2_with fail
 refine (C2 _).mono ?_
 rintro e w0 ⟨rfl,rfl⟩
 clear C1 C2
 go_wp2_with fail
 generalize hV:((w.alloc (.cells #[.slice none 0 0] 27)).alloc (.cells #[.slice none 0 0] 27))=V at *
 have hb:=Below.refl V.heap.size V
 have sV:V.heap.size=w.heap.size+2:=by rw [← hV];simp
 clear hV
 refine (l23Load_any 0 1 2 _ rfl).mono ?_
 rintro e W1 ⟨rfl,b⟩
 replace hb:=hb.trans (b.mono hb.size)
 clear b
 go_wp2_with fail
 refine (l23Load_any 0 0 2 _ rfl).mono ?_
 rintro e W2 ⟨rfl,b⟩
 replace hb:=hb.trans (b.mono hb.size)
 clear b
 have R0:=own_lit (w:=W2) (B:=V.heap.size) [⟨7,0,0⟩,⟨2,1,0⟩,⟨2,0,0⟩,⟨8,0,0⟩] (cs:=#[.int .i64 7,.int .i64 0,.int .i64 0,.int .i64 2,.int .i64 1,.int .i64 0,.int .i64 2,.int .i64 0,.int .i64 0,.int .i64 8,.int .i64 0,.int .i64 0]) hb.size rfl (by simp)
 replace hb:=hb.alloc hb.size (.cells #[.int .i64 7,.int .i64 0,.int .i64 0,.int .i64 2,.int .i64 1,.int .i64 0,.int .i64 2,.int .i64 0,.int .i64 0,.int .i64 8,.int .i64 0,.int .i64 0] 48)
 simp only [List.length_cons,List.length_nil,Nat.zero_add,Nat.reduceAdd] at R0
 go_wp2_with fail
 generalize W2.alloc (.cells #[.int .i64 7,.int .i64 0,.int .i64 0,.int .i64 2,.int .i64 1,.int .i64 0,.int .i64 2,.int .i64 0,.int .i64 0,.int .i64 8,.int .i64 0,.int .i64 0] 48)=V0 at *
 generalize W2.heap.size=G0 at *
 refine (l23Store_any 0 0 1 1 _ rfl).mono ?_
 rintro e W3 ⟨rfl,b⟩
 replace hb:=hb.trans (b.mono hb.size)
 replace R0:=ownsRow_below R0 b
 clear b
 go_wp2_with fail
 refine (l23Store_any h 1 1 ks _ hs.out).mono ?_
 rintro e W4 ⟨rfl,b⟩
 replace hb:=hb.trans (b.mono hb.size)
 replace R0:=ownsRow_below R0 b
 clear b
 have R1:=own_lit (w:=W4) (B:=V.heap.size) [⟨1,0,1⟩,⟨9,0,0⟩,⟨ks,1,1⟩] (cs:=#[.int .i64 1,.int .i64 0,.int .i64 1,.int .i64 9,.int .i64 0,.int .i64 0,.int .i64 ks,.int .i64 1,.int .i64 1]) hb.size rfl (by simp)
 have hne:=own_ne (m:=3) (c:=3) R0 (Nat.le_refl W4.heap.size)
 replace R0:=ownsRow_below R0 (below1 W4 (.cells #[.int .i64 1,.int .i64 0,.int .i64 1,.int .i64 9,.int .i64 0,.int .i64 0,.int .i64 ks,.int .i64 1,.int .i64 1] 48))
 replace hb:=hb.alloc hb.size (.cells #[.int .i64 1,.int .i64 0,.int .i64 1,.int .i64 9,.int .i64 0,.int .i64 0,.int .i64 ks,.int .i64 1,.int .i64 1] 48)
 simp only [List.length_cons,List.length_nil,Nat.zero_add,Nat.reduceAdd] at R1
 have O:=own_lit2 (w:=(W4.alloc (.cells #[.int .i64 1,.int .i64 0,.int .i64 1,.int .i64 9,.int .i64 0,.int .i64 0,.int .i64 ks,.int .i64 1,.int .i64 1] 48))) (B:=V.heap.size) (v1:=(.slice (some ⟨G0,0,none⟩) 4 4)) (v2:=(.slice (some ⟨W4.heap.size,0,none⟩) 3 3)) hb.size
 have bo:=below1 (W4.alloc (.cells #[.int .i64 1,.int .i64 0,.int .i64 1,.int .i64 9,.int .i64 0,.int .i64 0,.int .i64 ks,.int .i64 1,.int .i64 1] 48)) (.cells #[.slice (some ⟨G0,0,none⟩) 4 4,.slice (some ⟨W4.heap.size,0,none⟩) 3 3] 45)
 replace R0:=ownsRow_below R0 bo
 replace R1:=ownsRow_below R1 bo
 replace hb:=hb.trans (bo.mono hb.size)
 rw [World.size_alloc] at O
 have RD:=rdg_two (l1:=[⟨7,0,0⟩,⟨2,1,0⟩,⟨2,0,0⟩,⟨8,0,0⟩]) (l2:=[⟨1,0,1⟩,⟨9,0,0⟩,⟨ks,1,1⟩]) R0 R1 hne O
 have P1:=hP.bl' hb
 have Q1:=hQ.bl' hb
 have bw:=bP.trans (hb.mono bP.size)
 have p0:=P1.c
 have pf:=P1.fz
 have q0:=Q1.c
 have qf:=Q1.fz
 have lP:=P1.lt
 have lQ:=Q1.lt
 have nPQ:w.heap.size≠w.heap.size+1:=by omega
 have P2:=P1.set (.slice (some ⟨W4.heap.size+1,0,none⟩) 2 2)
 have Q2:=Q1.far (b':=w.heap.size+1) (i:=0) (by omega) (.slice (some ⟨W4.heap.size+1,0,none⟩) 2 2)
 have Q3:=Q2.set (.slice (some ⟨W4.heap.size+1,0,none⟩) 2 2)
 have p2:=P2.c
 have q2:=Q2.c
 have qf2:=Q2.fz
 have q3:=Q3.c
 clear R0 R1 O bo
 go_wp2_with fail
 exact bodyPost_ret (v:=.tuple #[.agg #[.slice (some ⟨W4.heap.size+1,0,none⟩) 2 2],.bool true]) (by simp [results,Tryz.results5,go_sem,q3]) rfl ⟨_,rfl,⟨_,((RD.far (by omega) _).far (by omega) _).mono (by omega)⟩,(bw.setCell (by show w.heap.size≤w.heap.size+1;omega) _).setCell (Nat.le_refl _) _⟩
set_option maxHeartbeats 1000000 in
theorem sshapeOf_any (s h:Int) (w:World) :
  Calls Tryz.prog 5 #[.int .i64 s,.int .i64 h] w fun e w'=>∃ v,e=.returned (.tuple #[.agg #[v],.bool (M.shape s h).isSome])∧(∃ vs,Rdg w' w.heap.size v ((M.shape s h).getD []) vs)∧Below w.heap.size w w':=by
 cases hok:M.shapeOk s h
 ·rw [M.shape_no hok]
  have C1:=fun W=>l6In_any s 1 6 W
  have C2:=fun W=>l6In_any h 0 3 W
  cases hs:M.rng 1 6 s
  ·rw [hs] at C1
   go_enter Tryz.func5,Tryz.ntmps5
   go_wp2_with fail
   refine (C1 _).mono ?_
   rintro e w0 ⟨rfl,rfl⟩
   go_wp2_with fail
   go_returns
   exact ⟨_,rfl,⟨[],Rdg.nil _ _⟩,by go_grown⟩
  ·have hh:M.rng 0 3 h=false:=by
    simp only [M.rng,M.shapeOk,Bool.and_eq_true,decide_eq_true_eq,Bool.and_eq_false_iff,decide_eq_false_iff_not] at *
    omega
   rw [hs] at C1
   rw [hh] at C2
   go_enter Tryz.func5,Tryz.ntmps5
   go_wp2_with fail
   refine (C1 _).mono ?_
   rintro e w0 ⟨rfl,rfl⟩
   go_wp2_with fail
   refine (C2 _).mono ?_
   rintro e w0 ⟨rfl,rfl⟩
   go_wp2_with fail
   go_returns
   exact ⟨_,rfl,⟨[],Rdg.nil _ _⟩,by go_grown⟩
 ·rw [M.shape_yes hok]
  simp only [M.shapeOk,Bool.and_eq_true,decide_eq_true_eq] at hok
  obtain ⟨⟨⟨o1,o2⟩,o3⟩,o4⟩:=hok
  have hcs:s=1∨s=2∨s=3∨s=4∨s=5∨s=6:=by omega
  rcases hcs with rfl | rfl | rfl | rfl | rfl | rfl
  ·exact ssh_cross h w o3 o4
  ·exact ssh_pass h w o3 o4
  ·exact ssh_round h w o3 o4
  ·exact ssh_twice h w o3 o4
  ·exact ssh_four h w o3 o4
  ·exact ssh_wait h w o3 o4
end
section
open Go.RowKit
theorem M.shape_small (s h:Int):((M.shape s h).getD []).length≤2∧∀ t∈(M.shape s h).getD [],t.length≤5:=by
 cases hok:M.shapeOk s h
 ·rw [M.shape_no hok];simp
 ·rw [M.shape_yes hok]
  obtain ⟨h2,h4⟩:=M.raw_two s h
  refine ⟨by simp [h2],fun t ht=>?_⟩
  simp only [Option.getD_some,List.mem_map] at ht
  obtain ⟨u,hu,rfl⟩:=ht
  have:=h4 u hu
  have:=M.fin_le h u
  omega
theorem M.shape_some (s h:Int):(M.shape s h).isSome=M.shapeOk s h:=by
 cases hok:M.shapeOk s h
 ·rw [M.shape_no hok];rfl
 ·rw [M.shape_yes hok];rfl
theorem M.shape_cases {s h:Int} (e:M.shapeOk s h=true):(s=1∨s=2∨s=3∨s=4∨s=5∨s=6)∧(h=0∨h=1∨h=2∨h=3):=by
 simp only [M.shapeOk,Bool.and_eq_true,decide_eq_true_eq] at e
 omega
theorem M.shape_prog {s h:Int} (e:M.shapeOk s h=true):M.prog ((M.shape s h).getD [])=true∧((M.shape s h).getD []).length=2:=by
 obtain ⟨hs,hh⟩:=M.shape_cases e
 rcases hs with rfl | rfl | rfl | rfl | rfl | rfl<;>rcases hh with rfl | rfl | rfl | rfl<;>exact ⟨by decide,by decide⟩
end
end Go.Proofs.YtnddmlgnngdaoaaGreatDoor
