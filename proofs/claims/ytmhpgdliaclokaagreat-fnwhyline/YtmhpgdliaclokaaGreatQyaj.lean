/- spec.l71Bad: a drawn program in which something is not as it was. -/
import Derived.Test.YtmhpgdliaclokaaGreatRows
import Derived.Test.YtmhpgdliaclokaaGreatQyah
namespace Go.Proofs.YtmhpgdliaclokaaGreat
section
open Go.RowKit
structure Bad (w W:World) (B rb p:Nat) (v:Value):Prop where
 r:Rdr W B rb p
 b:But rb w W
 s0:Slot1 W w.heap.size v
 s1:Slot1 W (w.heap.size+1) (.slice none 0 0)
theorem Bad.step {w W W':World} {B rb p p':Nat} {v:Value} (h:Bad w W B rb p v) (hr:Rdr W' B rb p') (hb:But rb W W') (hlt:rb < w.heap.size):Bad w W' B rb p' v :=
 ⟨hr,h.b.trans hb,h.s0.but hb (by omega),h.s1.but hb (by omega)⟩
theorem Bad.alloc {w W:World} {B rb p:Nat} {v:Value} (h:Bad w W B rb p v) (hlt:rb < w.heap.size) (o:Obj):Bad w (W.alloc o) B rb p v :=
 h.step (h.r.alloc o) ((But.refl rb W).alloc o) hlt
theorem Bad.grown {w W W':World} {B rb p:Nat} {v:Value} {row:Option Nat} (h:Bad w W B rb p v) (hg:W.grownBy W' row) (hlt:rb < w.heap.size) (hr:∀ k,row=some k→w.heap.size+2≤k):Bad w W' B rb p v :=
 ⟨h.r.grown hg (fun k hk=>⟨by have:=hr k hk;have:=h.r.ge;omega,by have:=hr k hk;omega⟩),h.b.grown hg (fun k hk=>by have:=hr k hk;omega),h.s0.grown hg (fun k hk=>by have:=hr k hk;omega),h.s1.grown hg (fun k hk=>by have:=hr k hk;omega)⟩
theorem flat_one (l:List M.D):∀ y∈flat l,y.oneCell'=true:=by
 induction l with
 | nil=>intro y hy;cases hy
 | cons d l ih =>
  intro y hy
  simp only [flat,List.mem_cons] at hy
  rcases hy with rfl | rfl | rfl | hy
  ·rfl
  ·rfl
  ·rfl
  ·exact ih y hy
theorem Build.one {w:World} {B:Nat} {v:Value} {ll:List (List M.D)} {vs:List Value} (h:Build w B v ll vs):∀ y∈vs,y.oneCell'=true:=by
 intro y hy
 obtain ⟨i,hi,rfl⟩:=List.getElem_of_mem hy
 rcases (h.inner i (by have:=h.len;omega) hi).2 with ⟨hv,_⟩ | ⟨g,cap,cur,hv,_⟩<;>rw [hv]<;>rfl
theorem own_fz {w:World} {B g n cap:Nat} {e:TypeId} {size:Nat} {xs:List Value} (h:w.ownsRow B e size (.slice (some ⟨g,0,none⟩) n cap) n xs) (i:Nat):w.frozen? ⟨g,i,none⟩=false:=by
 rcases h.2 with ⟨hv,_⟩ | ⟨g',cap',cur,hv,_,hh,_⟩
 ·simp at hv
 ·simp at hv
  obtain ⟨rfl,_⟩:=hv
  simp [World.frozen?,hh]
theorem two_of (x y:Int) (q:Nat) (h:q < 2):∃ z:Int,(#[Value.int .i64 x,Value.int .i64 y]:Array Value)[q]?=some (.int .i64 z):=by
 match q,h with
 | 0,_=>exact ⟨x,rfl⟩
 | 1,_=>exact ⟨y,rfl⟩
theorem lit_row (W:World) (B:Nat) (x y z:Int) (hB:B≤W.heap.size):(W.alloc (.cells #[.int .i64 x,.int .i64 y,.int .i64 z] 94)).ownsRow B 94 3 (.slice (some ⟨W.heap.size,0,none⟩) 1 1) 1 (flat [⟨x,y,z⟩]):=World.ownsRow_lit W _ 1 hB (by decide) rfl
set_option maxHeartbeats 4000000 in
set_option maxRecDepth 100000 in
theorem l71Bad_any (B B' rb p:Nat) (v:Value) (ll:List (List M.D)) (vs:List Value) (w:World) (hp:p≤500000) (hl0:0 < ll.length) (hl3:ll.length≤3) (hl7:∀ t∈ll,t.length≤7) (hB:Build w B' v ll vs) (hrB:rb < B') (h:Rdr w B rb p) :
  Calls Tryz.prog 162 #[.pointer (some ⟨rb,0,none⟩),.agg #[v]] w fun e w'=>∃ (a:Option Addr) (g c:Nat) (mm:List (List M.D)),e=.returned (.agg #[.slice a mm.length c])∧DoSN B' w' a g 0 mm∧mm.length=ll.length∧mm.length≤c∧(∀ t∈mm,t.length≤14)∧∃ p':Nat,p'≤p+20∧Rdr w' B rb p'∧But rb w w':=by
 have hlt:=h.lt
 have hge:=h.ge
 have hBw:B'≤w.heap.size+2:=by
  rcases hB.outer.2 with ⟨_,h0⟩ | ⟨g,cap,cur,hv,hg,hh,_⟩
  ·omega
  ·have:=hB.outer.lt g (by rw [hv];rfl);omega
 obtain ⟨i0,hi,hz0,hz1,hz2⟩:=info_parts Tryz.info97
 obtain ⟨i1,hi1,hz01,hz11,hz21⟩:=info_parts Tryz.info94
 obtain ⟨g,c,rfl,hgB⟩:∃ g c,v=.slice (some ⟨g,0,none⟩) ll.length c∧B'≤g:=by
  rcases hB.outer.2 with ⟨_,h0⟩ | ⟨g,cap,cur,hv,hg,_⟩
  ·omega
  ·exact ⟨g,cap,hv,hg⟩
 go_enter Tryz.func162,Tryz.ntmps162
 go_wp2_with fail
 have hd0:Bad w ((w.alloc (.cells #[.slice (some ⟨g,0,none⟩) ll.length c] 25)).alloc (.cells #[.slice none 0 0] 25)) B rb p (.slice (some ⟨g,0,none⟩) ll.length c) :=
  ⟨(h.alloc _).alloc _,((But.refl rb w).alloc _).alloc _,(Slot1.new w _ _).but ((But.refl rb _).alloc _) (by omega),by have:=Slot1.new (w.alloc (.cells #[.slice (some ⟨g,0,none⟩) ll.length c] 25)) (.slice none 0 0) 25;simpa only [World.size_alloc] using this⟩
 refine (pick_rdr B rb p _ _ (by omega) (by omega) (by omega) hd0.r).mono ?_
 rintro e w1 ⟨r1,rfl,r10,r11,hr1,hb1⟩
 have hd1:=hd0.step hr1 hb1 hlt
 clear hd0 hr1 hb1
 obtain ⟨k,rfl⟩:=Int.eq_ofNat_of_zero_le r10
 have hk:k < ll.length:=by omega
 have hB1:=hB.but hd1.b hrB
 have hvl:=hB.len
 have hin:=hB1.inner k hk (by omega)
 have hck:=hB1.outer.cells (g:=g) rfl k vs[k] (List.getElem?_eq_getElem (by omega))
 rw [Go.WideShapes.add_plain,Nat.zero_add] at hck
 have hl7k:=hl7 _ (List.getElem_mem hk)
 obtain ⟨u,hu⟩:∃ u,vs[k]=u:=⟨_,rfl⟩
 rw [hu] at hin hck
 obtain ⟨l0,hl0e⟩:∃ l0,ll[k]=l0:=⟨_,rfl⟩
 rw [hl0e] at hin hl7k
 have c0:=hd1.s0.c
 have hsz1:=hd1.s1.lt
 have hsz0:=hd1.s0.lt
 have hgl:g < w1.heap.size:=World.block_lt_of_cell? _ _ hck
 have hown1:(w1.alloc (.cells #[] 94)).ownsRow (w.heap.size+2) 94 3 (.slice (some ⟨w1.heap.size,0,none⟩) 0 0) 0 (flat []):=World.ownsRow_made w1 _ 0 (by omega) (Nat.zero_le _) rfl
 go_wp2_with (at_builtin;refine wpList_append_rows rfl (.tmp 14) (.tmp 19) 97 rfl (w.heap.size+2) 94 i1 _ 3 24 Tryz.underlying97 hi1 hz01 hz11 hz21 rfl (by decide) _ _ _ rfl hown1 _ u _ _ rfl (hin.alloc _) (flat_one _) (by unfold maxLen;omega) (by omega) (by simp;omega) ?_)
 intro v2 w2 hown2 hg2
 have hd2:=(hd1.alloc hlt (.cells #[] 94)).grown hg2 hlt (fun q hq=>by simp [Value.ownBlock] at hq;omega)
 have hown2':w2.ownsRow (w.heap.size+2) 94 3 v2 l0.length (flat l0):=by simpa [flat] using hown2
 clear hd1 hown1 hown2 hg2 hck hin c0 hB1 hsz1
 go_wp2_with fail
 refine (pick_rdr B rb (p+1) _ _ (by omega) (by omega) (by omega) hd2.r).mono ?_
 rintro e w3 ⟨r3,rfl,r30,r31,hr3,hb3⟩
 have hd3:=hd2.step hr3 hb3 hlt
 have hown3:=ownsRow_but hown2' hb3 (by omega)
 clear hd2 hr3 hb3 hown2'
 obtain ⟨q,rfl⟩:=Int.eq_ofNat_of_zero_le r30
 rcases (show q=0∨q=1∨q=2∨q=3∨q=4∨q=5∨q=6∨q=7 by omega) with rfl | rfl | rfl | rfl | rfl | rfl | rfl | rfl
 ·go_wp2_with fail
  refine (pick_rdr B rb (p+1+1) _ _ (by omega) (by omega) (by omega) hd3.r).mono ?_
  rintro e w4 ⟨r4,rfl,r40,r41,hr4,hb4⟩
  have hd4:=hd3.step hr4 hb4 hlt
  have hown4:=ownsRow_but hown3 hb4 (by omega)
  have hs1:=hd4.s1.lt
  clear hd3 hr4 hb4 hown3
  go_wp2_with (at_builtin;refine wpList_append_rows rfl (.tmp 29) (.tmp 34) 97 rfl (w.heap.size+2) 94 i1 _ 3 24 Tryz.underlying97 hi1 hz01 hz11 hz21 rfl (by decide) _ _ _ rfl (hown4.alloc _) _ _ _ _ rfl (lit_row w4 (w.heap.size+2) (r4 - 1) 0 0 (by omega)) (flat_one _) (by unfold maxLen;omega) (by omega) (by simp;omega) ?_)
  intro v5 w5 hown5 hg5
  have hge4:=own_ge hown4
  have hd5:=(hd4.alloc hlt (.cells #[.int .i64 (r4 - 1),.int .i64 0,.int .i64 0] 94)).grown hg5 hlt hge4
  have hown5':w5.ownsRow (w.heap.size+2) 94 3 v5 (l0++[M.D.mk (r4 - 1) 0 0]).length (flat (l0++[M.D.mk (r4 - 1) 0 0])):=by rw [flat_append,List.length_append];exact hown5
  obtain ⟨L,hL⟩:∃ L,l0++[M.D.mk (r4 - 1) 0 0]=L:=⟨_,rfl⟩
  have hL14:L.length≤14:=by rw [← hL];simp;omega
  rw [hL] at hown5'
  clear hd4 hown4 hown5 hg5 hs1 hge4 hL
  obtain ⟨p4,hp4,hd4⟩:∃ p4,p4≤p+20∧Bad w w5 B rb p4 (.slice (some ⟨g,0,none⟩) ll.length c):=⟨_,by omega,hd5⟩
  obtain ⟨w4,rfl⟩:∃ w4,w4=w5:=⟨_,rfl⟩
  have hown4:=hown5'
  clear hd5 hown5'
  obtain ⟨a4,g4,c4,rfl,_,_⟩:=own_steps hown4
  have c0:=hd4.s0.c
  have hs0:=hd4.s0.lt
  have hs1:=hd4.s1.lt
  have hB4:=hB.but hd4.b hrB
  have hcg:=hB4.outer.cells (g:=g) rfl k vs[k] (List.getElem?_eq_getElem (by omega))
  rw [Go.WideShapes.add_plain] at hcg
  have hgl:g < w4.heap.size:=World.block_lt_of_cell? _ _ hcg
  clear hcg
  have hownT:(w4.alloc (.cells #[] 97)).ownsRow (w.heap.size+2) 97 1 (.slice (some ⟨w4.heap.size,0,none⟩) 0 0) 0 []:=World.ownsRow_made w4 _ 0 (by omega) (Nat.zero_le _) rfl
  go_wp2_with (at_builtin;refine wpList_append_rows rfl (.tmp 91) (.tmp 93) 23 rfl (w.heap.size+2) 97 i0 _ 1 24 Tryz.underlying23 hi hz0 hz1 hz2 rfl (by decide) _ _ _ rfl hownT _ _ _ _ rfl (hB4.outer.alloc _) hB4.one (by unfold maxLen;omega) (by omega) (by simp;omega) ?_)
  intro v5 w5 hown5 hg5
  have hd5:=(hd4.alloc hlt (.cells #[] 97)).grown hg5 hlt (fun q hq=>by simp [Value.ownBlock] at hq;omega)
  have hl5:=(hown4.alloc (.cells #[] 97)).kept hg5 (own_apart (hown4.alloc _) hownT (by decide))
  obtain ⟨g5,c5,rfl,hgB5⟩:∃ g5 c5,v5=.slice (some ⟨g5,0,none⟩) ll.length c5∧w.heap.size+2≤g5:=by
   rcases hown5.2 with ⟨_,h0⟩ | ⟨g5,cap,cur,hv,hg,_⟩
   ·omega
   ·exact ⟨g5,cap,by first | exact hv | (rw [hv,Nat.zero_add]),hg⟩
  have ho5:w5.ownsRow (w.heap.size+2) 97 1 (.slice (some ⟨g5,0,none⟩) ll.length c5) ll.length vs:=by simpa using hown5
  clear hd4 hown4 hownT hown5 hg5 c0 hs0 hs1 hB4 hgl
  have c0:=hd5.s0.c
  have hs0:=hd5.s0.lt
  have hs1:=hd5.s1.lt
  have hr0:=hd5.s1.c
  have hrf:=hd5.s1.fz
  have ck:=ho5.cells (g:=g5) rfl k vs[k] (List.getElem?_eq_getElem (by omega))
  rw [Go.WideShapes.add_plain,Nat.zero_add] at ck
  have fk:=own_fz ho5 k
  have hg5l:g5 < w5.heap.size:=World.block_lt_of_cell? _ _ ck
  have ik:(k:Int) < ll.length:=by omega
  go_wp2_with fail
  obtain ⟨so,sg⟩:=ho5.stored k (.slice a4 L.length c4)
  have hu6:=hl5.kept sg (own_apart hl5 ho5 (by decide))
  have hd6:=hd5.grown sg hlt (fun q hq=>by simp at hq;omega)
  have so7:=(ownsRow_far so (b:=w.heap.size+1) (i:=0) (by omega) (.slice (some ⟨g5,0,none⟩) ll.length c5)).alloc (.cells #[.slice (some ⟨g5,0,none⟩) ll.length c5] 25)
  have hu7:=(ownsRow_far hu6 (b:=w.heap.size+1) (i:=0) (by omega) (.slice (some ⟨g5,0,none⟩) ll.length c5)).alloc (.cells #[.slice (some ⟨g5,0,none⟩) ll.length c5] 25)
  have b7:=(hd6.b.setCell (p:=⟨w.heap.size+1,0,none⟩) (Or.inl (by show w.heap.size≤w.heap.size+1;omega)) (.slice (some ⟨g5,0,none⟩) ll.length c5)).alloc (.cells #[.slice (some ⟨g5,0,none⟩) ll.length c5] 25)
  have r7:=(hd6.r.setCell (b:=w.heap.size+1) (i:=0) (by omega) (by omega) (.slice (some ⟨g5,0,none⟩) ll.length c5)).alloc (.cells #[.slice (some ⟨g5,0,none⟩) ll.length c5] 25)
  have s7:=((hd6.s1.set (.slice (some ⟨g5,0,none⟩) ll.length c5)).but ((But.refl rb _).alloc (.cells #[.slice (some ⟨g5,0,none⟩) ll.length c5] 25)) (by omega)).c
  have ss7:=set_sn hk (hB.but b7 hrB) so7 hu7 hBw
  refine bodyPost_ret (v:=.agg #[.slice (some ⟨g5,0,none⟩) ll.length c5]) (by simp [results,Tryz.results162,go_sem,s7]) rfl ⟨some ⟨g5,0,none⟩,g5,c5,ll.set k L,by rw [List.length_set],ss7,by simp,by rw [List.length_set];exact own_capR ho5,fun t ht=>?_,p4,hp4,r7,b7⟩
  rcases List.mem_or_eq_of_mem_set ht with h1 | rfl
  ·have:=hl7 t h1;omega
  ·exact hL14
 ·have hs1:=hd3.s1.lt
  go_wp2_with (at_builtin;refine wpList_append_rows rfl (.tmp 39) (.tmp 40) 97 rfl (w.heap.size+2) 94 i1 _ 3 24 Tryz.underlying97 hi1 hz01 hz11 hz21 rfl (by decide) _ _ _ rfl (lit_row w3 (w.heap.size+2) 3 0 0 (by omega)) _ _ _ _ rfl (hown3.alloc _) (flat_one _) (by unfold maxLen;omega) (by omega) (by simp;omega) ?_)
  intro v5 w5 hown5 hg5
  have hd5:=(hd3.alloc hlt (.cells #[.int .i64 3,.int .i64 0,.int .i64 0] 94)).grown hg5 hlt (fun q hq=>by simp [Value.ownBlock] at hq;omega)
  have hown5':w5.ownsRow (w.heap.size+2) 94 3 v5 (M.D.mk 3 0 0::l0).length (flat (M.D.mk 3 0 0::l0)):=by rw [List.length_cons,Nat.add_comm l0.length 1];exact hown5
  clear hd3 hown3 hown5 hg5 hs1
  obtain ⟨L,hL⟩:∃ L,M.D.mk 3 0 0::l0=L:=⟨_,rfl⟩
  have hL14:L.length≤14:=by rw [← hL];simp;omega
  rw [hL] at hown5'
  clear hL
  obtain ⟨p4,hp4,hd4'⟩:∃ p4,p4≤p+20∧Bad w w5 B rb p4 (.slice (some ⟨g,0,none⟩) ll.length c):=⟨_,by omega,hd5⟩
  clear hd5
  obtain ⟨w4',rfl⟩:∃ w4',w4'=w5:=⟨_,rfl⟩
  have hown4:=hown5'
  have hd4:=hd4'
  clear hown5' hd4'
  obtain ⟨w4,rfl⟩:∃ w4,w4=w4':=⟨_,rfl⟩
  obtain ⟨a4,g4,c4,rfl,_,_⟩:=own_steps hown4
  have c0:=hd4.s0.c
  have hs0:=hd4.s0.lt
  have hs1:=hd4.s1.lt
  have hB4:=hB.but hd4.b hrB
  have hcg:=hB4.outer.cells (g:=g) rfl k vs[k] (List.getElem?_eq_getElem (by omega))
  rw [Go.WideShapes.add_plain] at hcg
  have hgl:g < w4.heap.size:=World.block_lt_of_cell? _ _ hcg
  clear hcg
  have hownT:(w4.alloc (.cells #[] 97)).ownsRow (w.heap.size+2) 97 1 (.slice (some ⟨w4.heap.size,0,none⟩) 0 0) 0 []:=World.ownsRow_made w4 _ 0 (by omega) (Nat.zero_le _) rfl
  go_wp2_with (at_builtin;refine wpList_append_rows rfl (.tmp 91) (.tmp 93) 23 rfl (w.heap.size+2) 97 i0 _ 1 24 Tryz.underlying23 hi hz0 hz1 hz2 rfl (by decide) _ _ _ rfl hownT _ _ _ _ rfl (hB4.outer.alloc _) hB4.one (by unfold maxLen;omega) (by omega) (by simp;omega) ?_)
  intro v5 w5 hown5 hg5
  have hd5:=(hd4.alloc hlt (.cells #[] 97)).grown hg5 hlt (fun q hq=>by simp [Value.ownBlock] at hq;omega)
  have hl5:=(hown4.alloc (.cells #[] 97)).kept hg5 (own_apart (hown4.alloc _) hownT (by decide))
  obtain ⟨g5,c5,rfl,hgB5⟩:∃ g5 c5,v5=.slice (some ⟨g5,0,none⟩) ll.length c5∧w.heap.size+2≤g5:=by
   rcases hown5.2 with ⟨_,h0⟩ | ⟨g5,cap,cur,hv,hg,_⟩
   ·omega
   ·exact ⟨g5,cap,by first | exact hv | (rw [hv,Nat.zero_add]),hg⟩
  have ho5:w5.ownsRow (w.heap.size+2) 97 1 (.slice (some ⟨g5,0,none⟩) ll.length c5) ll.length vs:=by simpa using hown5
  clear hd4 hown4 hownT hown5 hg5 c0 hs0 hs1 hB4 hgl
  have c0:=hd5.s0.c
  have hs0:=hd5.s0.lt
  have hs1:=hd5.s1.lt
  have hr0:=hd5.s1.c
  have hrf:=hd5.s1.fz
  have ck:=ho5.cells (g:=g5) rfl k vs[k] (List.getElem?_eq_getElem (by omega))
  rw [Go.WideShapes.add_plain,Nat.zero_add] at ck
  have fk:=own_fz ho5 k
  have hg5l:g5 < w5.heap.size:=World.block_lt_of_cell? _ _ ck
  have ik:(k:Int) < ll.length:=by omega
  go_wp2_with fail
  obtain ⟨so,sg⟩:=ho5.stored k (.slice a4 L.length c4)
  have hu6:=hl5.kept sg (own_apart hl5 ho5 (by decide))
  have hd6:=hd5.grown sg hlt (fun q hq=>by simp at hq;omega)
  have so7:=(ownsRow_far so (b:=w.heap.size+1) (i:=0) (by omega) (.slice (some ⟨g5,0,none⟩) ll.length c5)).alloc (.cells #[.slice (some ⟨g5,0,none⟩) ll.length c5] 25)
  have hu7:=(ownsRow_far hu6 (b:=w.heap.size+1) (i:=0) (by omega) (.slice (some ⟨g5,0,none⟩) ll.length c5)).alloc (.cells #[.slice (some ⟨g5,0,none⟩) ll.length c5] 25)
  have b7:=(hd6.b.setCell (p:=⟨w.heap.size+1,0,none⟩) (Or.inl (by show w.heap.size≤w.heap.size+1;omega)) (.slice (some ⟨g5,0,none⟩) ll.length c5)).alloc (.cells #[.slice (some ⟨g5,0,none⟩) ll.length c5] 25)
  have r7:=(hd6.r.setCell (b:=w.heap.size+1) (i:=0) (by omega) (by omega) (.slice (some ⟨g5,0,none⟩) ll.length c5)).alloc (.cells #[.slice (some ⟨g5,0,none⟩) ll.length c5] 25)
  have s7:=((hd6.s1.set (.slice (some ⟨g5,0,none⟩) ll.length c5)).but ((But.refl rb _).alloc (.cells #[.slice (some ⟨g5,0,none⟩) ll.length c5] 25)) (by omega)).c
  have ss7:=set_sn hk (hB.but b7 hrB) so7 hu7 hBw
  refine bodyPost_ret (v:=.agg #[.slice (some ⟨g5,0,none⟩) ll.length c5]) (by simp [results,Tryz.results162,go_sem,s7]) rfl ⟨some ⟨g5,0,none⟩,g5,c5,ll.set k L,by rw [List.length_set],ss7,by simp,by rw [List.length_set];exact own_capR ho5,fun t ht=>?_,p4,hp4,r7,b7⟩
  rcases List.mem_or_eq_of_mem_set ht with h1 | rfl
  ·have:=hl7 t h1;omega
  ·exact hL14
 ·have hs1:=hd3.s1.lt
  go_wp2_with (at_builtin;refine wpList_append_rows rfl (.tmp 44) (.tmp 46) 97 rfl (w.heap.size+2) 94 i1 _ 3 24 Tryz.underlying97 hi1 hz01 hz11 hz21 rfl (by decide) _ _ _ rfl (hown3.alloc _) _ _ _ _ rfl (lit_row w3 (w.heap.size+2) 7 0 0 (by omega)) (flat_one _) (by unfold maxLen;omega) (by omega) (by simp;omega) ?_)
  intro v5 w5 hown5 hg5
  have hge4:=own_ge hown3
  have hd5:=(hd3.alloc hlt (.cells #[.int .i64 7,.int .i64 0,.int .i64 0] 94)).grown hg5 hlt hge4
  have hown5':w5.ownsRow (w.heap.size+2) 94 3 v5 (l0++[M.D.mk 7 0 0]).length (flat (l0++[M.D.mk 7 0 0])):=by rw [flat_append,List.length_append];exact hown5
  clear hd3 hown3 hown5 hg5 hs1 hge4
  obtain ⟨L,hL⟩:∃ L,l0++[M.D.mk 7 0 0]=L:=⟨_,rfl⟩
  have hL14:L.length≤14:=by rw [← hL];simp;omega
  rw [hL] at hown5'
  clear hL
  obtain ⟨p4,hp4,hd4'⟩:∃ p4,p4≤p+20∧Bad w w5 B rb p4 (.slice (some ⟨g,0,none⟩) ll.length c):=⟨_,by omega,hd5⟩
  clear hd5
  obtain ⟨w4',rfl⟩:∃ w4',w4'=w5:=⟨_,rfl⟩
  have hown4:=hown5'
  have hd4:=hd4'
  clear hown5' hd4'
  obtain ⟨w4,rfl⟩:∃ w4,w4=w4':=⟨_,rfl⟩
  obtain ⟨a4,g4,c4,rfl,_,_⟩:=own_steps hown4
  have c0:=hd4.s0.c
  have hs0:=hd4.s0.lt
  have hs1:=hd4.s1.lt
  have hB4:=hB.but hd4.b hrB
  have hcg:=hB4.outer.cells (g:=g) rfl k vs[k] (List.getElem?_eq_getElem (by omega))
  rw [Go.WideShapes.add_plain] at hcg
  have hgl:g < w4.heap.size:=World.block_lt_of_cell? _ _ hcg
  clear hcg
  have hownT:(w4.alloc (.cells #[] 97)).ownsRow (w.heap.size+2) 97 1 (.slice (some ⟨w4.heap.size,0,none⟩) 0 0) 0 []:=World.ownsRow_made w4 _ 0 (by omega) (Nat.zero_le _) rfl
  go_wp2_with (at_builtin;refine wpList_append_rows rfl (.tmp 91) (.tmp 93) 23 rfl (w.heap.size+2) 97 i0 _ 1 24 Tryz.underlying23 hi hz0 hz1 hz2 rfl (by decide) _ _ _ rfl hownT _ _ _ _ rfl (hB4.outer.alloc _) hB4.one (by unfold maxLen;omega) (by omega) (by simp;omega) ?_)
  intro v5 w5 hown5 hg5
  have hd5:=(hd4.alloc hlt (.cells #[] 97)).grown hg5 hlt (fun q hq=>by simp [Value.ownBlock] at hq;omega)
  have hl5:=(hown4.alloc (.cells #[] 97)).kept hg5 (own_apart (hown4.alloc _) hownT (by decide))
  obtain ⟨g5,c5,rfl,hgB5⟩:∃ g5 c5,v5=.slice (some ⟨g5,0,none⟩) ll.length c5∧w.heap.size+2≤g5:=by
   rcases hown5.2 with ⟨_,h0⟩ | ⟨g5,cap,cur,hv,hg,_⟩
   ·omega
   ·exact ⟨g5,cap,by first | exact hv | (rw [hv,Nat.zero_add]),hg⟩
  have ho5:w5.ownsRow (w.heap.size+2) 97 1 (.slice (some ⟨g5,0,none⟩) ll.length c5) ll.length vs:=by simpa using hown5
  clear hd4 hown4 hownT hown5 hg5 c0 hs0 hs1 hB4 hgl
  have c0:=hd5.s0.c
  have hs0:=hd5.s0.lt
  have hs1:=hd5.s1.lt
  have hr0:=hd5.s1.c
  have hrf:=hd5.s1.fz
  have ck:=ho5.cells (g:=g5) rfl k vs[k] (List.getElem?_eq_getElem (by omega))
  rw [Go.WideShapes.add_plain,Nat.zero_add] at ck
  have fk:=own_fz ho5 k
  have hg5l:g5 < w5.heap.size:=World.block_lt_of_cell? _ _ ck
  have ik:(k:Int) < ll.length:=by omega
  go_wp2_with fail
  obtain ⟨so,sg⟩:=ho5.stored k (.slice a4 L.length c4)
  have hu6:=hl5.kept sg (own_apart hl5 ho5 (by decide))
  have hd6:=hd5.grown sg hlt (fun q hq=>by simp at hq;omega)
  have so7:=(ownsRow_far so (b:=w.heap.size+1) (i:=0) (by omega) (.slice (some ⟨g5,0,none⟩) ll.length c5)).alloc (.cells #[.slice (some ⟨g5,0,none⟩) ll.length c5] 25)
  have hu7:=(ownsRow_far hu6 (b:=w.heap.size+1) (i:=0) (by omega) (.slice (some ⟨g5,0,none⟩) ll.length c5)).alloc (.cells #[.slice (some ⟨g5,0,none⟩) ll.length c5] 25)
  have b7:=(hd6.b.setCell (p:=⟨w.heap.size+1,0,none⟩) (Or.inl (by show w.heap.size≤w.heap.size+1;omega)) (.slice (some ⟨g5,0,none⟩) ll.length c5)).alloc (.cells #[.slice (some ⟨g5,0,none⟩) ll.length c5] 25)
  have r7:=(hd6.r.setCell (b:=w.heap.size+1) (i:=0) (by omega) (by omega) (.slice (some ⟨g5,0,none⟩) ll.length c5)).alloc (.cells #[.slice (some ⟨g5,0,none⟩) ll.length c5] 25)
  have s7:=((hd6.s1.set (.slice (some ⟨g5,0,none⟩) ll.length c5)).but ((But.refl rb _).alloc (.cells #[.slice (some ⟨g5,0,none⟩) ll.length c5] 25)) (by omega)).c
  have ss7:=set_sn hk (hB.but b7 hrB) so7 hu7 hBw
  refine bodyPost_ret (v:=.agg #[.slice (some ⟨g5,0,none⟩) ll.length c5]) (by simp [results,Tryz.results162,go_sem,s7]) rfl ⟨some ⟨g5,0,none⟩,g5,c5,ll.set k L,by rw [List.length_set],ss7,by simp,by rw [List.length_set];exact own_capR ho5,fun t ht=>?_,p4,hp4,r7,b7⟩
  rcases List.mem_or_eq_of_mem_set ht with h1 | rfl
  ·have:=hl7 t h1;omega
  ·exact hL14
 ·have hs1:=hd3.s1.lt
  go_wp2_with (at_builtin;refine wpList_append_rows rfl (.tmp 51) (.tmp 52) 97 rfl (w.heap.size+2) 94 i1 _ 3 24 Tryz.underlying97 hi1 hz01 hz11 hz21 rfl (by decide) _ _ _ rfl (lit_row w3 (w.heap.size+2) 8 0 0 (by omega)) _ _ _ _ rfl (hown3.alloc _) (flat_one _) (by unfold maxLen;omega) (by omega) (by simp;omega) ?_)
  intro v5 w5 hown5 hg5
  have hd5:=(hd3.alloc hlt (.cells #[.int .i64 8,.int .i64 0,.int .i64 0] 94)).grown hg5 hlt (fun q hq=>by simp [Value.ownBlock] at hq;omega)
  have hown5':w5.ownsRow (w.heap.size+2) 94 3 v5 (M.D.mk 8 0 0::l0).length (flat (M.D.mk 8 0 0::l0)):=by rw [List.length_cons,Nat.add_comm l0.length 1];exact hown5
  clear hd3 hown3 hown5 hg5 hs1
  obtain ⟨L,hL⟩:∃ L,M.D.mk 8 0 0::l0=L:=⟨_,rfl⟩
  have hL14:L.length≤14:=by rw [← hL];simp;omega
  rw [hL] at hown5'
  clear hL
  obtain ⟨p4,hp4,hd4'⟩:∃ p4,p4≤p+20∧Bad w w5 B rb p4 (.slice (some ⟨g,0,none⟩) ll.length c):=⟨_,by omega,hd5⟩
  clear hd5
  obtain ⟨w4',rfl⟩:∃ w4',w4'=w5:=⟨_,rfl⟩
  have hown4:=hown5'
  have hd4:=hd4'
  clear hown5' hd4'
  obtain ⟨w4,rfl⟩:∃ w4,w4=w4':=⟨_,rfl⟩
  obtain ⟨a4,g4,c4,rfl,_,_⟩:=own_steps hown4
  have c0:=hd4.s0.c
  have hs0:=hd4.s0.lt
  have hs1:=hd4.s1.lt
  have hB4:=hB.but hd4.b hrB
  have hcg:=hB4.outer.cells (g:=g) rfl k vs[k] (List.getElem?_eq_getElem (by omega))
  rw [Go.WideShapes.add_plain] at hcg
  have hgl:g < w4.heap.size:=World.block_lt_of_cell? _ _ hcg
  clear hcg
  have hownT:(w4.alloc (.cells #[] 97)).ownsRow (w.heap.size+2) 97 1 (.slice (some ⟨w4.heap.size,0,none⟩) 0 0) 0 []:=World.ownsRow_made w4 _ 0 (by omega) (Nat.zero_le _) rfl
  go_wp2_with (at_builtin;refine wpList_append_rows rfl (.tmp 91) (.tmp 93) 23 rfl (w.heap.size+2) 97 i0 _ 1 24 Tryz.underlying23 hi hz0 hz1 hz2 rfl (by decide) _ _ _ rfl hownT _ _ _ _ rfl (hB4.outer.alloc _) hB4.one (by unfold maxLen;omega) (by omega) (by simp;omega) ?_)
  intro v5 w5 hown5 hg5
  have hd5:=(hd4.alloc hlt (.cells #[] 97)).grown hg5 hlt (fun q hq=>by simp [Value.ownBlock] at hq;omega)
  have hl5:=(hown4.alloc (.cells #[] 97)).kept hg5 (own_apart (hown4.alloc _) hownT (by decide))
  obtain ⟨g5,c5,rfl,hgB5⟩:∃ g5 c5,v5=.slice (some ⟨g5,0,none⟩) ll.length c5∧w.heap.size+2≤g5:=by
   rcases hown5.2 with ⟨_,h0⟩ | ⟨g5,cap,cur,hv,hg,_⟩
   ·omega
   ·exact ⟨g5,cap,by first | exact hv | (rw [hv,Nat.zero_add]),hg⟩
  have ho5:w5.ownsRow (w.heap.size+2) 97 1 (.slice (some ⟨g5,0,none⟩) ll.length c5) ll.length vs:=by simpa using hown5
  clear hd4 hown4 hownT hown5 hg5 c0 hs0 hs1 hB4 hgl
  have c0:=hd5.s0.c
  have hs0:=hd5.s0.lt
  have hs1:=hd5.s1.lt
  have hr0:=hd5.s1.c
  have hrf:=hd5.s1.fz
  have ck:=ho5.cells (g:=g5) rfl k vs[k] (List.getElem?_eq_getElem (by omega))
  rw [Go.WideShapes.add_plain,Nat.zero_add] at ck
  have fk:=own_fz ho5 k
  have hg5l:g5 < w5.heap.size:=World.block_lt_of_cell? _ _ ck
  have ik:(k:Int) < ll.length:=by omega
  go_wp2_with fail
  obtain ⟨so,sg⟩:=ho5.stored k (.slice a4 L.length c4)
  have hu6:=hl5.kept sg (own_apart hl5 ho5 (by decide))
  have hd6:=hd5.grown sg hlt (fun q hq=>by simp at hq;omega)
  have so7:=(ownsRow_far so (b:=w.heap.size+1) (i:=0) (by omega) (.slice (some ⟨g5,0,none⟩) ll.length c5)).alloc (.cells #[.slice (some ⟨g5,0,none⟩) ll.length c5] 25)
  have hu7:=(ownsRow_far hu6 (b:=w.heap.size+1) (i:=0) (by omega) (.slice (some ⟨g5,0,none⟩) ll.length c5)).alloc (.cells #[.slice (some ⟨g5,0,none⟩) ll.length c5] 25)
  have b7:=(hd6.b.setCell (p:=⟨w.heap.size+1,0,none⟩) (Or.inl (by show w.heap.size≤w.heap.size+1;omega)) (.slice (some ⟨g5,0,none⟩) ll.length c5)).alloc (.cells #[.slice (some ⟨g5,0,none⟩) ll.length c5] 25)
  have r7:=(hd6.r.setCell (b:=w.heap.size+1) (i:=0) (by omega) (by omega) (.slice (some ⟨g5,0,none⟩) ll.length c5)).alloc (.cells #[.slice (some ⟨g5,0,none⟩) ll.length c5] 25)
  have s7:=((hd6.s1.set (.slice (some ⟨g5,0,none⟩) ll.length c5)).but ((But.refl rb _).alloc (.cells #[.slice (some ⟨g5,0,none⟩) ll.length c5] 25)) (by omega)).c
  have ss7:=set_sn hk (hB.but b7 hrB) so7 hu7 hBw
  refine bodyPost_ret (v:=.agg #[.slice (some ⟨g5,0,none⟩) ll.length c5]) (by simp [results,Tryz.results162,go_sem,s7]) rfl ⟨some ⟨g5,0,none⟩,g5,c5,ll.set k L,by rw [List.length_set],ss7,by simp,by rw [List.length_set];exact own_capR ho5,fun t ht=>?_,p4,hp4,r7,b7⟩
  rcases List.mem_or_eq_of_mem_set ht with h1 | rfl
  ·have:=hl7 t h1;omega
  ·exact hL14
 ·go_wp2_with fail
  refine (pick_rdr B rb (p+1+1) _ _ (by omega) (by omega) (by omega) (hd3.alloc hlt (.cells #[.int .i64 (-1),.int .i64 3] 3)).r).mono ?_
  rintro e w6 ⟨r4,rfl,r40,r41,hr4,hb4⟩
  obtain ⟨q4,rfl⟩:=Int.eq_ofNat_of_zero_le r40
  obtain ⟨x4,hx4⟩:=two_of ((-1)) (3) q4 (by omega)
  have hs3:=hd3.s1.lt
  have cx:w6.cell? ⟨w3.heap.size,q4,none⟩=some (.int .i64 x4):=(hb4.cell (p:=⟨w3.heap.size,q4,none⟩) (by simp) (by show w3.heap.size≠rb;omega)).trans ((World.cell?_alloc_new w3 _ 3 q4).trans hx4)
  have hd6:=(hd3.alloc hlt (.cells #[.int .i64 (-1),.int .i64 3] 3)).step hr4 hb4 hlt
  have hown6:=ownsRow_but (hown3.alloc (.cells #[.int .i64 (-1),.int .i64 3] 3)) hb4 (by omega)
  have l4:w3.heap.size < w6.heap.size:=World.block_lt_of_cell? _ _ cx
  have i4:(q4:Int) < 2:=by omega
  have hs1:=hd6.s1.lt
  clear hd3 hr4 hb4 hown3 hx4 hs3
  go_wp2_with (at_builtin;refine wpList_append_rows rfl (.tmp 56) (.tmp 63) 97 rfl (w.heap.size+2) 94 i1 _ 3 24 Tryz.underlying97 hi1 hz01 hz11 hz21 rfl (by decide) _ _ _ rfl (hown6.alloc _) _ _ _ _ rfl (lit_row w6 (w.heap.size+2) 1 x4 1 (by omega)) (flat_one _) (by unfold maxLen;omega) (by omega) (by simp;omega) ?_)
  intro v5 w5 hown5 hg5
  have hge4:=own_ge hown6
  have hd5:=(hd6.alloc hlt (.cells #[.int .i64 1,.int .i64 x4,.int .i64 1] 94)).grown hg5 hlt hge4
  have hown5':w5.ownsRow (w.heap.size+2) 94 3 v5 (l0++[M.D.mk 1 x4 1]).length (flat (l0++[M.D.mk 1 x4 1])):=by rw [flat_append,List.length_append];exact hown5
  clear hd6 hown6 hown5 hg5 hs1 hge4 l4 i4 cx
  obtain ⟨L,hL⟩:∃ L,l0++[M.D.mk 1 x4 1]=L:=⟨_,rfl⟩
  have hL14:L.length≤14:=by rw [← hL];simp;omega
  rw [hL] at hown5'
  clear hL
  obtain ⟨p4,hp4,hd4'⟩:∃ p4,p4≤p+20∧Bad w w5 B rb p4 (.slice (some ⟨g,0,none⟩) ll.length c):=⟨_,by omega,hd5⟩
  clear hd5
  obtain ⟨w4',rfl⟩:∃ w4',w4'=w5:=⟨_,rfl⟩
  have hown4:=hown5'
  have hd4:=hd4'
  clear hown5' hd4'
  obtain ⟨w4,rfl⟩:∃ w4,w4=w4':=⟨_,rfl⟩
  obtain ⟨a4,g4,c4,rfl,_,_⟩:=own_steps hown4
  have c0:=hd4.s0.c
  have hs0:=hd4.s0.lt
  have hs1:=hd4.s1.lt
  have hB4:=hB.but hd4.b hrB
  have hcg:=hB4.outer.cells (g:=g) rfl k vs[k] (List.getElem?_eq_getElem (by omega))
  rw [Go.WideShapes.add_plain] at hcg
  have hgl:g < w4.heap.size:=World.block_lt_of_cell? _ _ hcg
  clear hcg
  have hownT:(w4.alloc (.cells #[] 97)).ownsRow (w.heap.size+2) 97 1 (.slice (some ⟨w4.heap.size,0,none⟩) 0 0) 0 []:=World.ownsRow_made w4 _ 0 (by omega) (Nat.zero_le _) rfl
  go_wp2_with (at_builtin;refine wpList_append_rows rfl (.tmp 91) (.tmp 93) 23 rfl (w.heap.size+2) 97 i0 _ 1 24 Tryz.underlying23 hi hz0 hz1 hz2 rfl (by decide) _ _ _ rfl hownT _ _ _ _ rfl (hB4.outer.alloc _) hB4.one (by unfold maxLen;omega) (by omega) (by simp;omega) ?_)
  intro v5 w5 hown5 hg5
  have hd5:=(hd4.alloc hlt (.cells #[] 97)).grown hg5 hlt (fun q hq=>by simp [Value.ownBlock] at hq;omega)
  have hl5:=(hown4.alloc (.cells #[] 97)).kept hg5 (own_apart (hown4.alloc _) hownT (by decide))
  obtain ⟨g5,c5,rfl,hgB5⟩:∃ g5 c5,v5=.slice (some ⟨g5,0,none⟩) ll.length c5∧w.heap.size+2≤g5:=by
   rcases hown5.2 with ⟨_,h0⟩ | ⟨g5,cap,cur,hv,hg,_⟩
   ·omega
   ·exact ⟨g5,cap,by first | exact hv | (rw [hv,Nat.zero_add]),hg⟩
  have ho5:w5.ownsRow (w.heap.size+2) 97 1 (.slice (some ⟨g5,0,none⟩) ll.length c5) ll.length vs:=by simpa using hown5
  clear hd4 hown4 hownT hown5 hg5 c0 hs0 hs1 hB4 hgl
  have c0:=hd5.s0.c
  have hs0:=hd5.s0.lt
  have hs1:=hd5.s1.lt
  have hr0:=hd5.s1.c
  have hrf:=hd5.s1.fz
  have ck:=ho5.cells (g:=g5) rfl k vs[k] (List.getElem?_eq_getElem (by omega))
  rw [Go.WideShapes.add_plain,Nat.zero_add] at ck
  have fk:=own_fz ho5 k
  have hg5l:g5 < w5.heap.size:=World.block_lt_of_cell? _ _ ck
  have ik:(k:Int) < ll.length:=by omega
  go_wp2_with fail
  obtain ⟨so,sg⟩:=ho5.stored k (.slice a4 L.length c4)
  have hu6:=hl5.kept sg (own_apart hl5 ho5 (by decide))
  have hd6:=hd5.grown sg hlt (fun q hq=>by simp at hq;omega)
  have so7:=(ownsRow_far so (b:=w.heap.size+1) (i:=0) (by omega) (.slice (some ⟨g5,0,none⟩) ll.length c5)).alloc (.cells #[.slice (some ⟨g5,0,none⟩) ll.length c5] 25)
  have hu7:=(ownsRow_far hu6 (b:=w.heap.size+1) (i:=0) (by omega) (.slice (some ⟨g5,0,none⟩) ll.length c5)).alloc (.cells #[.slice (some ⟨g5,0,none⟩) ll.length c5] 25)
  have b7:=(hd6.b.setCell (p:=⟨w.heap.size+1,0,none⟩) (Or.inl (by show w.heap.size≤w.heap.size+1;omega)) (.slice (some ⟨g5,0,none⟩) ll.length c5)).alloc (.cells #[.slice (some ⟨g5,0,none⟩) ll.length c5] 25)
  have r7:=(hd6.r.setCell (b:=w.heap.size+1) (i:=0) (by omega) (by omega) (.slice (some ⟨g5,0,none⟩) ll.length c5)).alloc (.cells #[.slice (some ⟨g5,0,none⟩) ll.length c5] 25)
  have s7:=((hd6.s1.set (.slice (some ⟨g5,0,none⟩) ll.length c5)).but ((But.refl rb _).alloc (.cells #[.slice (some ⟨g5,0,none⟩) ll.length c5] 25)) (by omega)).c
  have ss7:=set_sn hk (hB.but b7 hrB) so7 hu7 hBw
  refine bodyPost_ret (v:=.agg #[.slice (some ⟨g5,0,none⟩) ll.length c5]) (by simp [results,Tryz.results162,go_sem,s7]) rfl ⟨some ⟨g5,0,none⟩,g5,c5,ll.set k L,by rw [List.length_set],ss7,by simp,by rw [List.length_set];exact own_capR ho5,fun t ht=>?_,p4,hp4,r7,b7⟩
  rcases List.mem_or_eq_of_mem_set ht with h1 | rfl
  ·have:=hl7 t h1;omega
  ·exact hL14
 ·go_wp2_with fail
  refine (pick_rdr B rb (p+1+1) _ _ (by omega) (by omega) (by omega) (hd3.alloc hlt (.cells #[.int .i64 0,.int .i64 4] 3)).r).mono ?_
  rintro e w6 ⟨r4,rfl,r40,r41,hr4,hb4⟩
  obtain ⟨q4,rfl⟩:=Int.eq_ofNat_of_zero_le r40
  obtain ⟨x4,hx4⟩:=two_of (0) (4) q4 (by omega)
  have hs3:=hd3.s1.lt
  have cx:w6.cell? ⟨w3.heap.size,q4,none⟩=some (.int .i64 x4):=(hb4.cell (p:=⟨w3.heap.size,q4,none⟩) (by simp) (by show w3.heap.size≠rb;omega)).trans ((World.cell?_alloc_new w3 _ 3 q4).trans hx4)
  have hd6:=(hd3.alloc hlt (.cells #[.int .i64 0,.int .i64 4] 3)).step hr4 hb4 hlt
  have hown6:=ownsRow_but (hown3.alloc (.cells #[.int .i64 0,.int .i64 4] 3)) hb4 (by omega)
  have l4:w3.heap.size < w6.heap.size:=World.block_lt_of_cell? _ _ cx
  have i4:(q4:Int) < 2:=by omega
  have hs1:=hd6.s1.lt
  clear hd3 hr4 hb4 hown3 hx4 hs3
  go_wp2_with (at_builtin;refine wpList_append_rows rfl (.tmp 67) (.tmp 74) 97 rfl (w.heap.size+2) 94 i1 _ 3 24 Tryz.underlying97 hi1 hz01 hz11 hz21 rfl (by decide) _ _ _ rfl (hown6.alloc _) _ _ _ _ rfl (lit_row w6 (w.heap.size+2) 1 0 x4 (by omega)) (flat_one _) (by unfold maxLen;omega) (by omega) (by simp;omega) ?_)
  intro v5 w5 hown5 hg5
  have hge4:=own_ge hown6
  have hd5:=(hd6.alloc hlt (.cells #[.int .i64 1,.int .i64 0,.int .i64 x4] 94)).grown hg5 hlt hge4
  have hown5':w5.ownsRow (w.heap.size+2) 94 3 v5 (l0++[M.D.mk 1 0 x4]).length (flat (l0++[M.D.mk 1 0 x4])):=by rw [flat_append,List.length_append];exact hown5
  clear hd6 hown6 hown5 hg5 hs1 hge4 l4 i4 cx
  obtain ⟨L,hL⟩:∃ L,l0++[M.D.mk 1 0 x4]=L:=⟨_,rfl⟩
  have hL14:L.length≤14:=by rw [← hL];simp;omega
  rw [hL] at hown5'
  clear hL
  obtain ⟨p4,hp4,hd4'⟩:∃ p4,p4≤p+20∧Bad w w5 B rb p4 (.slice (some ⟨g,0,none⟩) ll.length c):=⟨_,by omega,hd5⟩
  clear hd5
  obtain ⟨w4',rfl⟩:∃ w4',w4'=w5:=⟨_,rfl⟩
  have hown4:=hown5'
  have hd4:=hd4'
  clear hown5' hd4'
  obtain ⟨w4,rfl⟩:∃ w4,w4=w4':=⟨_,rfl⟩
  obtain ⟨a4,g4,c4,rfl,_,_⟩:=own_steps hown4
  have c0:=hd4.s0.c
  have hs0:=hd4.s0.lt
  have hs1:=hd4.s1.lt
  have hB4:=hB.but hd4.b hrB
  have hcg:=hB4.outer.cells (g:=g) rfl k vs[k] (List.getElem?_eq_getElem (by omega))
  rw [Go.WideShapes.add_plain] at hcg
  have hgl:g < w4.heap.size:=World.block_lt_of_cell? _ _ hcg
  clear hcg
  have hownT:(w4.alloc (.cells #[] 97)).ownsRow (w.heap.size+2) 97 1 (.slice (some ⟨w4.heap.size,0,none⟩) 0 0) 0 []:=World.ownsRow_made w4 _ 0 (by omega) (Nat.zero_le _) rfl
  go_wp2_with (at_builtin;refine wpList_append_rows rfl (.tmp 91) (.tmp 93) 23 rfl (w.heap.size+2) 97 i0 _ 1 24 Tryz.underlying23 hi hz0 hz1 hz2 rfl (by decide) _ _ _ rfl hownT _ _ _ _ rfl (hB4.outer.alloc _) hB4.one (by unfold maxLen;omega) (by omega) (by simp;omega) ?_)
  intro v5 w5 hown5 hg5
  have hd5:=(hd4.alloc hlt (.cells #[] 97)).grown hg5 hlt (fun q hq=>by simp [Value.ownBlock] at hq;omega)
  have hl5:=(hown4.alloc (.cells #[] 97)).kept hg5 (own_apart (hown4.alloc _) hownT (by decide))
  obtain ⟨g5,c5,rfl,hgB5⟩:∃ g5 c5,v5=.slice (some ⟨g5,0,none⟩) ll.length c5∧w.heap.size+2≤g5:=by
   rcases hown5.2 with ⟨_,h0⟩ | ⟨g5,cap,cur,hv,hg,_⟩
   ·omega
   ·exact ⟨g5,cap,by first | exact hv | (rw [hv,Nat.zero_add]),hg⟩
  have ho5:w5.ownsRow (w.heap.size+2) 97 1 (.slice (some ⟨g5,0,none⟩) ll.length c5) ll.length vs:=by simpa using hown5
  clear hd4 hown4 hownT hown5 hg5 c0 hs0 hs1 hB4 hgl
  have c0:=hd5.s0.c
  have hs0:=hd5.s0.lt
  have hs1:=hd5.s1.lt
  have hr0:=hd5.s1.c
  have hrf:=hd5.s1.fz
  have ck:=ho5.cells (g:=g5) rfl k vs[k] (List.getElem?_eq_getElem (by omega))
  rw [Go.WideShapes.add_plain,Nat.zero_add] at ck
  have fk:=own_fz ho5 k
  have hg5l:g5 < w5.heap.size:=World.block_lt_of_cell? _ _ ck
  have ik:(k:Int) < ll.length:=by omega
  go_wp2_with fail
  obtain ⟨so,sg⟩:=ho5.stored k (.slice a4 L.length c4)
  have hu6:=hl5.kept sg (own_apart hl5 ho5 (by decide))
  have hd6:=hd5.grown sg hlt (fun q hq=>by simp at hq;omega)
  have so7:=(ownsRow_far so (b:=w.heap.size+1) (i:=0) (by omega) (.slice (some ⟨g5,0,none⟩) ll.length c5)).alloc (.cells #[.slice (some ⟨g5,0,none⟩) ll.length c5] 25)
  have hu7:=(ownsRow_far hu6 (b:=w.heap.size+1) (i:=0) (by omega) (.slice (some ⟨g5,0,none⟩) ll.length c5)).alloc (.cells #[.slice (some ⟨g5,0,none⟩) ll.length c5] 25)
  have b7:=(hd6.b.setCell (p:=⟨w.heap.size+1,0,none⟩) (Or.inl (by show w.heap.size≤w.heap.size+1;omega)) (.slice (some ⟨g5,0,none⟩) ll.length c5)).alloc (.cells #[.slice (some ⟨g5,0,none⟩) ll.length c5] 25)
  have r7:=(hd6.r.setCell (b:=w.heap.size+1) (i:=0) (by omega) (by omega) (.slice (some ⟨g5,0,none⟩) ll.length c5)).alloc (.cells #[.slice (some ⟨g5,0,none⟩) ll.length c5] 25)
  have s7:=((hd6.s1.set (.slice (some ⟨g5,0,none⟩) ll.length c5)).but ((But.refl rb _).alloc (.cells #[.slice (some ⟨g5,0,none⟩) ll.length c5] 25)) (by omega)).c
  have ss7:=set_sn hk (hB.but b7 hrB) so7 hu7 hBw
  refine bodyPost_ret (v:=.agg #[.slice (some ⟨g5,0,none⟩) ll.length c5]) (by simp [results,Tryz.results162,go_sem,s7]) rfl ⟨some ⟨g5,0,none⟩,g5,c5,ll.set k L,by rw [List.length_set],ss7,by simp,by rw [List.length_set];exact own_capR ho5,fun t ht=>?_,p4,hp4,r7,b7⟩
  rcases List.mem_or_eq_of_mem_set ht with h1 | rfl
  ·have:=hl7 t h1;omega
  ·exact hL14
 ·go_wp2_with fail
  go_loopw [6,7] (fun s6 s7 wr=>∃ (l:List M.D) (n p':Nat),s7=.int .i64 n∧n≤7∧l.length≤7+n∧p'≤p+2+n∧wr.ownsRow (w.heap.size+2) 94 3 s6 l.length (flat l)∧Bad w wr B rb p' (.slice (some ⟨g,0,none⟩) ll.length c)) (fun _ s7 _=>7 - (intOf s7).toNat)
  case atStart=>exact ⟨l0,0,p+1+1,rfl,by omega,by omega,by omega,hown3,hd3⟩
  case round =>
   obtain ⟨l,n,p',rfl,hn,hll,hp',hown,hd⟩:=hrel
   clear hown3 hd3
   by_cases hn7:n < 7
   ·have hn7':(n:Int) < 7:=by omega
    go_wp2_with fail
    refine (pick_rdr B rb (p') _ _ (by omega) (by omega) (by omega) (hd.alloc hlt (.cells #[.int .i64 4,.int .i64 2] 3)).r).mono ?_
    rintro e w6 ⟨r4,rfl,r40,r41,hr4,hb4⟩
    obtain ⟨q4,rfl⟩:=Int.eq_ofNat_of_zero_le r40
    obtain ⟨x4,hx4⟩:=two_of (4) (2) q4 (by omega)
    have hs3:=hd.s1.lt
    have cx:w6.cell? ⟨wr.heap.size,q4,none⟩=some (.int .i64 x4):=(hb4.cell (p:=⟨wr.heap.size,q4,none⟩) (by simp) (by show wr.heap.size≠rb;omega)).trans ((World.cell?_alloc_new wr _ 3 q4).trans hx4)
    have hd6:=(hd.alloc hlt (.cells #[.int .i64 4,.int .i64 2] 3)).step hr4 hb4 hlt
    have hown6:=ownsRow_but (hown.alloc (.cells #[.int .i64 4,.int .i64 2] 3)) hb4 (by omega)
    have l4:wr.heap.size < w6.heap.size:=World.block_lt_of_cell? _ _ cx
    have i4:(q4:Int) < 2:=by omega
    have hs1:=hd6.s1.lt
    clear hd hr4 hb4 hown hx4 hs3
    go_wp2_with (at_builtin;refine wpList_append_rows rfl (.tmp 82) (.tmp 89) 97 rfl (w.heap.size+2) 94 i1 _ 3 24 Tryz.underlying97 hi1 hz01 hz11 hz21 rfl (by decide) _ _ _ rfl (hown6.alloc _) _ _ _ _ rfl (lit_row w6 (w.heap.size+2) x4 0 0 (by omega)) (flat_one _) (by unfold maxLen;omega) (by omega) (by simp;omega) ?_)
    intro v5 w5 hown5 hg5
    have hge4:=own_ge hown6
    have hd5:=(hd6.alloc hlt (.cells #[.int .i64 x4,.int .i64 0,.int .i64 0] 94)).grown hg5 hlt hge4
    have hown5':w5.ownsRow (w.heap.size+2) 94 3 v5 (l++[M.D.mk x4 0 0]).length (flat (l++[M.D.mk x4 0 0])):=by rw [flat_append,List.length_append];exact hown5
    clear hd6 hown6 hown5 hg5 hs1 hge4 l4 i4 cx
    go_wp2_with fail
    exact ⟨⟨l++[M.D.mk x4 0 0],n+1,_,by go_num,by omega,by simp;omega,by omega,hown5',hd5⟩,by simp [intOf];omega⟩
   ·have hn7':¬ (n:Int) < 7:=by omega
    obtain ⟨w4,rfl⟩:∃ w4,w4=wr:=⟨_,rfl⟩
    have hL14:l.length≤14:=by omega
    obtain ⟨p4,hp4,hd4⟩:∃ p4,p4≤p+20∧Bad w w4 B rb p4 (.slice (some ⟨g,0,none⟩) ll.length c):=⟨_,by omega,hd⟩
    have hown4:=hown
    clear hd hown
    obtain ⟨a4,g4,c4,rfl,_,_⟩:=own_steps hown4
    have c0:=hd4.s0.c
    have hs0:=hd4.s0.lt
    have hs1:=hd4.s1.lt
    have hB4:=hB.but hd4.b hrB
    have hcg:=hB4.outer.cells (g:=g) rfl k vs[k] (List.getElem?_eq_getElem (by omega))
    rw [Go.WideShapes.add_plain] at hcg
    have hgl:g < w4.heap.size:=World.block_lt_of_cell? _ _ hcg
    clear hcg
    have hownT:(w4.alloc (.cells #[] 97)).ownsRow (w.heap.size+2) 97 1 (.slice (some ⟨w4.heap.size,0,none⟩) 0 0) 0 []:=World.ownsRow_made w4 _ 0 (by omega) (Nat.zero_le _) rfl
    go_wp2_with (at_builtin;refine wpList_append_rows rfl (.tmp 91) (.tmp 93) 23 rfl (w.heap.size+2) 97 i0 _ 1 24 Tryz.underlying23 hi hz0 hz1 hz2 rfl (by decide) _ _ _ rfl hownT _ _ _ _ rfl (hB4.outer.alloc _) hB4.one (by unfold maxLen;omega) (by omega) (by simp;omega) ?_)
    intro v5 w5 hown5 hg5
    have hd5:=(hd4.alloc hlt (.cells #[] 97)).grown hg5 hlt (fun q hq=>by simp [Value.ownBlock] at hq;omega)
    have hl5:=(hown4.alloc (.cells #[] 97)).kept hg5 (own_apart (hown4.alloc _) hownT (by decide))
    obtain ⟨g5,c5,rfl,hgB5⟩:∃ g5 c5,v5=.slice (some ⟨g5,0,none⟩) ll.length c5∧w.heap.size+2≤g5:=by
     rcases hown5.2 with ⟨_,h0⟩ | ⟨g5,cap,cur,hv,hg,_⟩
     ·omega
     ·exact ⟨g5,cap,by first | exact hv | (rw [hv,Nat.zero_add]),hg⟩
    have ho5:w5.ownsRow (w.heap.size+2) 97 1 (.slice (some ⟨g5,0,none⟩) ll.length c5) ll.length vs:=by simpa using hown5
    clear hd4 hown4 hownT hown5 hg5 c0 hs0 hs1 hB4 hgl
    have c0:=hd5.s0.c
    have hs0:=hd5.s0.lt
    have hs1:=hd5.s1.lt
    have hr0:=hd5.s1.c
    have hrf:=hd5.s1.fz
    have ck:=ho5.cells (g:=g5) rfl k vs[k] (List.getElem?_eq_getElem (by omega))
    rw [Go.WideShapes.add_plain,Nat.zero_add] at ck
    have fk:=own_fz ho5 k
    have hg5l:g5 < w5.heap.size:=World.block_lt_of_cell? _ _ ck
    have ik:(k:Int) < ll.length:=by omega
    go_wp2_with fail
    obtain ⟨so,sg⟩:=ho5.stored k (.slice a4 l.length c4)
    have hu6:=hl5.kept sg (own_apart hl5 ho5 (by decide))
    have hd6:=hd5.grown sg hlt (fun q hq=>by simp at hq;omega)
    have so7:=(ownsRow_far so (b:=w.heap.size+1) (i:=0) (by omega) (.slice (some ⟨g5,0,none⟩) ll.length c5)).alloc (.cells #[.slice (some ⟨g5,0,none⟩) ll.length c5] 25)
    have hu7:=(ownsRow_far hu6 (b:=w.heap.size+1) (i:=0) (by omega) (.slice (some ⟨g5,0,none⟩) ll.length c5)).alloc (.cells #[.slice (some ⟨g5,0,none⟩) ll.length c5] 25)
    have b7:=(hd6.b.setCell (p:=⟨w.heap.size+1,0,none⟩) (Or.inl (by show w.heap.size≤w.heap.size+1;omega)) (.slice (some ⟨g5,0,none⟩) ll.length c5)).alloc (.cells #[.slice (some ⟨g5,0,none⟩) ll.length c5] 25)
    have r7:=(hd6.r.setCell (b:=w.heap.size+1) (i:=0) (by omega) (by omega) (.slice (some ⟨g5,0,none⟩) ll.length c5)).alloc (.cells #[.slice (some ⟨g5,0,none⟩) ll.length c5] 25)
    have s7:=((hd6.s1.set (.slice (some ⟨g5,0,none⟩) ll.length c5)).but ((But.refl rb _).alloc (.cells #[.slice (some ⟨g5,0,none⟩) ll.length c5] 25)) (by omega)).c
    have ss7:=set_sn hk (hB.but b7 hrB) so7 hu7 hBw
    refine bodyPost_ret (v:=.agg #[.slice (some ⟨g5,0,none⟩) ll.length c5]) (by simp [results,Tryz.results162,go_sem,s7]) rfl ⟨some ⟨g5,0,none⟩,g5,c5,ll.set k l,by rw [List.length_set],ss7,by simp,by rw [List.length_set];exact own_capR ho5,fun t ht=>?_,p4,hp4,r7,b7⟩
    rcases List.mem_or_eq_of_mem_set ht with h1 | rfl
    ·have:=hl7 t h1;omega
    ·exact hL14
 ·have hs1:=hd3.s1.lt
  go_wp2_with (at_builtin;refine wpList_append_rows rfl (.tmp 23) (.tmp 25) 97 rfl (w.heap.size+2) 94 i1 _ 3 24 Tryz.underlying97 hi1 hz01 hz11 hz21 rfl (by decide) _ _ _ rfl (hown3.alloc _) _ _ _ _ rfl (lit_row w3 (w.heap.size+2) 4 0 1 (by omega)) (flat_one _) (by unfold maxLen;omega) (by omega) (by simp;omega) ?_)
  intro v5 w5 hown5 hg5
  have hge4:=own_ge hown3
  have hd5:=(hd3.alloc hlt (.cells #[.int .i64 4,.int .i64 0,.int .i64 1] 94)).grown hg5 hlt hge4
  have hown5':w5.ownsRow (w.heap.size+2) 94 3 v5 (l0++[M.D.mk 4 0 1]).length (flat (l0++[M.D.mk 4 0 1])):=by rw [flat_append,List.length_append];exact hown5
  clear hd3 hown3 hown5 hg5 hs1 hge4
  obtain ⟨L,hL⟩:∃ L,l0++[M.D.mk 4 0 1]=L:=⟨_,rfl⟩
  have hL14:L.length≤14:=by rw [← hL];simp;omega
  rw [hL] at hown5'
  clear hL
  obtain ⟨p4,hp4,hd4'⟩:∃ p4,p4≤p+20∧Bad w w5 B rb p4 (.slice (some ⟨g,0,none⟩) ll.length c):=⟨_,by omega,hd5⟩
  clear hd5
  obtain ⟨w4',rfl⟩:∃ w4',w4'=w5:=⟨_,rfl⟩
  have hown4:=hown5'
  have hd4:=hd4'
  clear hown5' hd4'
  obtain ⟨w4,rfl⟩:∃ w4,w4=w4':=⟨_,rfl⟩
  obtain ⟨a4,g4,c4,rfl,_,_⟩:=own_steps hown4
  have c0:=hd4.s0.c
  have hs0:=hd4.s0.lt
  have hs1:=hd4.s1.lt
  have hB4:=hB.but hd4.b hrB
  have hcg:=hB4.outer.cells (g:=g) rfl k vs[k] (List.getElem?_eq_getElem (by omega))
  rw [Go.WideShapes.add_plain] at hcg
  have hgl:g < w4.heap.size:=World.block_lt_of_cell? _ _ hcg
  clear hcg
  have hownT:(w4.alloc (.cells #[] 97)).ownsRow (w.heap.size+2) 97 1 (.slice (some ⟨w4.heap.size,0,none⟩) 0 0) 0 []:=World.ownsRow_made w4 _ 0 (by omega) (Nat.zero_le _) rfl
  go_wp2_with (at_builtin;refine wpList_append_rows rfl (.tmp 91) (.tmp 93) 23 rfl (w.heap.size+2) 97 i0 _ 1 24 Tryz.underlying23 hi hz0 hz1 hz2 rfl (by decide) _ _ _ rfl hownT _ _ _ _ rfl (hB4.outer.alloc _) hB4.one (by unfold maxLen;omega) (by omega) (by simp;omega) ?_)
  intro v5 w5 hown5 hg5
  have hd5:=(hd4.alloc hlt (.cells #[] 97)).grown hg5 hlt (fun q hq=>by simp [Value.ownBlock] at hq;omega)
  have hl5:=(hown4.alloc (.cells #[] 97)).kept hg5 (own_apart (hown4.alloc _) hownT (by decide))
  obtain ⟨g5,c5,rfl,hgB5⟩:∃ g5 c5,v5=.slice (some ⟨g5,0,none⟩) ll.length c5∧w.heap.size+2≤g5:=by
   rcases hown5.2 with ⟨_,h0⟩ | ⟨g5,cap,cur,hv,hg,_⟩
   ·omega
   ·exact ⟨g5,cap,by first | exact hv | (rw [hv,Nat.zero_add]),hg⟩
  have ho5:w5.ownsRow (w.heap.size+2) 97 1 (.slice (some ⟨g5,0,none⟩) ll.length c5) ll.length vs:=by simpa using hown5
  clear hd4 hown4 hownT hown5 hg5 c0 hs0 hs1 hB4 hgl
  have c0:=hd5.s0.c
  have hs0:=hd5.s0.lt
  have hs1:=hd5.s1.lt
  have hr0:=hd5.s1.c
  have hrf:=hd5.s1.fz
  have ck:=ho5.cells (g:=g5) rfl k vs[k] (List.getElem?_eq_getElem (by omega))
  rw [Go.WideShapes.add_plain,Nat.zero_add] at ck
  have fk:=own_fz ho5 k
  have hg5l:g5 < w5.heap.size:=World.block_lt_of_cell? _ _ ck
  have ik:(k:Int) < ll.length:=by omega
  go_wp2_with fail
  obtain ⟨so,sg⟩:=ho5.stored k (.slice a4 L.length c4)
  have hu6:=hl5.kept sg (own_apart hl5 ho5 (by decide))
  have hd6:=hd5.grown sg hlt (fun q hq=>by simp at hq;omega)
  have so7:=(ownsRow_far so (b:=w.heap.size+1) (i:=0) (by omega) (.slice (some ⟨g5,0,none⟩) ll.length c5)).alloc (.cells #[.slice (some ⟨g5,0,none⟩) ll.length c5] 25)
  have hu7:=(ownsRow_far hu6 (b:=w.heap.size+1) (i:=0) (by omega) (.slice (some ⟨g5,0,none⟩) ll.length c5)).alloc (.cells #[.slice (some ⟨g5,0,none⟩) ll.length c5] 25)
  have b7:=(hd6.b.setCell (p:=⟨w.heap.size+1,0,none⟩) (Or.inl (by show w.heap.size≤w.heap.size+1;omega)) (.slice (some ⟨g5,0,none⟩) ll.length c5)).alloc (.cells #[.slice (some ⟨g5,0,none⟩) ll.length c5] 25)
  have r7:=(hd6.r.setCell (b:=w.heap.size+1) (i:=0) (by omega) (by omega) (.slice (some ⟨g5,0,none⟩) ll.length c5)).alloc (.cells #[.slice (some ⟨g5,0,none⟩) ll.length c5] 25)
  have s7:=((hd6.s1.set (.slice (some ⟨g5,0,none⟩) ll.length c5)).but ((But.refl rb _).alloc (.cells #[.slice (some ⟨g5,0,none⟩) ll.length c5] 25)) (by omega)).c
  have ss7:=set_sn hk (hB.but b7 hrB) so7 hu7 hBw
  refine bodyPost_ret (v:=.agg #[.slice (some ⟨g5,0,none⟩) ll.length c5]) (by simp [results,Tryz.results162,go_sem,s7]) rfl ⟨some ⟨g5,0,none⟩,g5,c5,ll.set k L,by rw [List.length_set],ss7,by simp,by rw [List.length_set];exact own_capR ho5,fun t ht=>?_,p4,hp4,r7,b7⟩
  rcases List.mem_or_eq_of_mem_set ht with h1 | rfl
  ·have:=hl7 t h1;omega
  ·exact hL14
end
end Go.Proofs.YtmhpgdliaclokaaGreat
