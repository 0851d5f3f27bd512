/- The law's own marking of a program: laws.markDoS, markDoSS, markProg. Of at most 1048576 threads, each of at most 1048576 steps. The law's own marking of a way, and of what was seen: laws.markIntSS, markExec, markSeen, heldSeen; eqSeen. Of at most 1048576 rows, each of at most 1048576 numbers. -/
import Derived.Deep.OwnRows
import Derived.Test.YtdningnhbplfiaaGreatRows
import Derived.Test.YtdningnhbplfiaaGreatQrbm
namespace Go.Proofs.YtdningnhbplfiaaGreat
section
open Go.RowKit
set_option maxHeartbeats 400000 in
theorem markDoS_any (a:Option Addr) (b o n c:Nat) (k:Int) (w:World) (hn:n≤1048576) (hk:0≤k) (hk2:k≤4611686018427387904) (had:0 < n→a=some ⟨b,o,none⟩) (hrow:∀ i,i < n * 3→∃ x,w.cell? ⟨b,o+i,none⟩=some (.int .i64 x)) (hfz:0 < n→Fz w b) :
  Calls Tryz.prog 113 #[.slice a n c,.int .i64 k] w fun e w'=>e=.returned (.int .i64 (k+n * 3))∧Mk (fun j=>j=b∧0 < n) w w':=by
 go_enter Tryz.func113,Tryz.ntmps113
 go_wp2_with fail
 go_loopw [1,5] (fun s1 s5 wr=>∃ m:Nat,s1=.int .i64 (k+m * 3)∧s5=.int .i64 m∧m≤n∧Mk (fun j=>j=b∧0 < n) w wr) (fun _ s5 _=>n - (intOf s5).toNat)
 case atStart=>exact ⟨0,by simp,rfl,Nat.zero_le _,Mk.refl _ _⟩
 case round =>
  obtain ⟨m,rfl,rfl,hm,hmk⟩:=hrel
  by_cases hlt:m < n
  ·obtain ⟨rfl⟩:=had (by omega)
   obtain ⟨x0,y0⟩:=hrow (m * 3) (by omega)
   obtain ⟨x1,y1⟩:=hrow (m * 3+1) (by omega)
   obtain ⟨x2,y2⟩:=hrow (m * 3+2) (by omega)
   obtain ⟨z0,c0⟩:=hmk.ints _ _ y0
   obtain ⟨z1,c1⟩:=hmk.ints _ _ y1
   obtain ⟨z2,c2⟩:=hmk.ints _ _ y2
   have fz:∀ j,wr.frozen? ⟨b,j,none⟩=false:=fun j=>(hmk.fz _).trans (hfz (by omega) j)
   rw [← Nat.add_assoc] at c1 c2
   have i1:(m:Int) < n:=by omega
   have hP:(fun j=>j=b∧0 < n) b:=⟨rfl,by omega⟩
   have m1:=hmk.setCell (y:=k+m * 3) hP c0
   have c1':(wr.setCell ⟨b,o+m * 3,none⟩ (.int .i64 (k+m * 3))).cell? ⟨b,o+m * 3+1,none⟩=some (.int .i64 z1):=by rw [World.cell?_setCell_other _ _ _ _ (fun e=>by have:=congrArg Addr.off e;simp at this)];exact c1
   have m2:=m1.setCell (y:=k+m * 3+1) hP c1'
   have c2':((wr.setCell ⟨b,o+m * 3,none⟩ (.int .i64 (k+m * 3))).setCell ⟨b,o+m * 3+1,none⟩ (.int .i64 (k+m * 3+1))).cell? ⟨b,o+m * 3+2,none⟩=some (.int .i64 z2):=by rw [World.cell?_setCell_other _ _ _ _ (fun e=>by have:=congrArg Addr.off e;simp at this),World.cell?_setCell_other _ _ _ _ (fun e=>by have:=congrArg Addr.off e;simp at this)];exact c2
   have m3:=m2.setCell (y:=k+m * 3+1+1) hP c2'
   clear c1' c2' m1 m2 y0 y1 y2
   go_wp2_with fail
   refine ⟨⟨m+1,?_,by go_num,by omega,m3⟩,by simp [intOf];omega⟩
   congr 1;omega
  ·obtain rfl:m=n:=by omega
   go_wp2_with fail
   go_ret
   exact ⟨rfl,hmk⟩
def tot3:List (List M.D)→Nat
 | []=>0
 | l::ll=>l.length+tot3 ll
theorem tot3_take (ll:List (List M.D)) (n:Nat) (h:n < ll.length):tot3 (ll.take (n+1))=tot3 (ll.take n)+ll[n].length:=by
 have app:∀ a b:List (List M.D),tot3 (a++b)=tot3 a+tot3 b:=fun a b=>by
  induction a with
  | nil=>simp [tot3]
  | cons x a ih=>simp only [List.cons_append,tot3,ih];omega
 rw [List.take_succ_eq_append_getElem h,app];simp [tot3]
theorem tot3_le {ll:List (List M.D)} (h:∀ l∈ll,l.length≤1048576):tot3 ll≤1048576 * ll.length:=by
 induction ll with
 | nil=>simp [tot3]
 | cons l ll ih =>
  have:=h l (by simp)
  have:=ih (fun x hx=>h x (List.mem_cons_of_mem _ hx))
  simp only [tot3,List.length_cons]
  omega
set_option maxHeartbeats 1000000 in
theorem markDoSS_any (g c B N:Nat) (ll:List (List M.D)) (w:World) (hl:ll.length≤1048576) (hls:∀ l∈ll,l.length≤1048576) (h:NewSS w B N g ll) :
  Calls Tryz.prog 64 #[.slice (some ⟨g,0,none⟩) ll.length c,.int .i64 1] w fun e w'=>∃ k:Int,e=.returned (.int .i64 k)∧(0≤k∧k≤4398046511104)∧Mk (fun j=>B≤j∧j < N) w w':=by
 go_enter Tryz.func64,Tryz.ntmps64
 go_wp2_with fail
 go_loopw [1,5] (fun s1 s5 wr=>∃ m:Nat,s1=.int .i64 (1+tot3 (ll.take m) * 3)∧s5=.int .i64 m∧m≤ll.length∧Mk (fun j=>B≤j∧j < N) w wr) (fun _ s5 _=>ll.length - (intOf s5).toNat)
 case atStart=>exact ⟨0,by simp [tot3],rfl,Nat.zero_le _,Mk.refl _ _⟩
 case round =>
  obtain ⟨m,rfl,rfl,hm,hmk⟩:=hrel
  by_cases hlt:m < ll.length
  ·obtain ⟨a',b',o',c',hc,hd,hb',hz,hl2⟩:=h.row m hlt
   have hc':=hmk.rest _ _ hc (fun _ e=>by cases e)
   have hle:=hls _ (List.getElem_mem hlt)
   have HT:Hid (tot3 (ll.take (m+1))=tot3 (ll.take m)+ll[m].length):=tot3_take ll m hlt
   have hb:=tot3_le (ll:=ll.take m) (fun s hs=>hls s (List.mem_of_mem_take hs))
   have hbl:(ll.take m).length≤1048576:=by simp;omega
   generalize ll[m]=l at *
   obtain ⟨T,hT⟩:∃ T,tot3 (ll.take m)=T:=⟨_,rfl⟩
   have HT2:Hid (tot3 (ll.take m)=T):=hT
   rw [hT] at hb ⊢
   clear hT hc
   have i1:(m:Int) < ll.length:=by omega
   have C:=markDoS_any a' b' o' l.length c' (1+T * 3) wr hle (by omega) (by omega) hd.addr (fun i hi=>by
    have hr:=hd.row (i / 3) (by omega)
    have key:∃ x,w.cell? ⟨b',o'+i,none⟩=some (.int .i64 x):=by
     rcases Nat.lt_or_ge (i % 3) 1 with h0 | h0
     ·exact ⟨_,by rw [show o'+i=o'+i / 3 * 3 from by omega];exact hr.k⟩
     ·rcases Nat.lt_or_ge (i % 3) 2 with h1 | h1
      ·exact ⟨_,by rw [show o'+i=o'+i / 3 * 3+1 from by omega];exact hr.p⟩
      ·exact ⟨_,by rw [show o'+i=o'+i / 3 * 3+2 from by omega];exact hr.v⟩
    obtain ⟨x,hx⟩:=key
    exact hmk.ints _ x hx) (fun _ j=>(hmk.fz _).trans (hz j))
   go_wp2_with fail
   refine C.mono ?_
   rintro e w1 ⟨rfl,mk1⟩
   go_wp2_with fail
   refine ⟨⟨m+1,?_,by go_num,by omega,hmk.trans (mk1.mono (fun j hj=>?_))⟩,by simp [intOf];omega⟩
   ·rw [HT.out,HT2.out];congr 1;omega
   ·obtain ⟨rfl,_⟩:=hj;exact ⟨hb',hl2⟩
  ·obtain rfl:m=ll.length:=by omega
   have hb:=tot3_le (ll:=ll.take ll.length) (fun s hs=>hls s (List.mem_of_mem_take hs))
   have hbl:(ll.take ll.length).length≤1048576:=by simp;omega
   go_wp2_with fail
   go_ret
   exact ⟨_,rfl,by omega,hmk⟩
set_option maxHeartbeats 400000 in
theorem markProg_any (g c B N:Nat) (ll:List (List M.D)) (w:World) (hl:ll.length≤1048576) (hls:∀ l∈ll,l.length≤1048576) (h:NewSS w B N g ll) :
  Calls Tryz.prog 21 #[.agg #[.slice (some ⟨g,0,none⟩) ll.length c],.int .i64 1] w fun e w'=>∃ (k:Int) (wa:World),e=.returned (.int .i64 k)∧(0≤k∧k≤4398046511104)∧wa=w.alloc (.cells #[.slice (some ⟨g,0,none⟩) ll.length c] 35)∧Mk (fun j=>B≤j∧j < N) wa w':=by
 have hb1:=below1 w (.cells #[.slice (some ⟨g,0,none⟩) ll.length c] 35)
 have C:=markDoSS_any g c B N ll _ hl hls (h.below hb1 (Nat.le_refl _))
 go_enter Tryz.func21,Tryz.ntmps21
 go_wp2_with fail
 refine C.mono ?_
 rintro e w1 ⟨k,rfl,hk,hmk⟩
 go_wp2_with fail
 go_ret
 exact ⟨k,_,rfl,hk,rfl,hmk⟩
end
section
open Go.RowKit
theorem IntC.below {w w':World} {a:Option Addr} {b o n:Nat} (hc:IntC w a b o n) (hb:Below w.heap.size w w'):IntC w' a b o n:=by
 refine ⟨hc.addr,fun i hi=>?_,fun hn j=>?_⟩
 ·obtain ⟨x,hx⟩:=hc.row i hi
  exact ⟨x,(hb.cell (p:=⟨b,o+i,none⟩) (World.block_lt_of_cell? _ _ hx)).trans hx⟩
 ·obtain ⟨x,hx⟩:=hc.row 0 hn
  have hlt:b < w.heap.size:=World.block_lt_of_cell? _ _ hx
  exact (hb.frozen (p:=⟨b,j,none⟩) hlt).trans (hc.fz hn j)
structure RowsC (w:World) (B N g:Nat) (rows:List (List Int)):Prop where
 row:∀ i (h:i < rows.length),∃ a' b' o' c',w.cell? ⟨g,i,none⟩=some (.slice a' rows[i].length c')∧IntC w a' b' o' rows[i].length∧B≤b'∧b' < N
theorem NewRR.rowsC {w:World} {B N g:Nat} {rows:List (List Int)} (h:NewRR w B N g rows):RowsC w B N g rows:=⟨fun i hi=>by
 obtain ⟨a',b',o',c',hc,hd,hb,hz,hl⟩:=h.row i hi
 exact ⟨a',b',o',c',hc,hd.toC (fun _ j=>hz j),hb,hl⟩⟩
theorem RowsC.mk_ {P:Nat→Prop} {w w':World} {B N g:Nat} {rows:List (List Int)} (h:RowsC w B N g rows) (hm:Mk P w w'):RowsC w' B N g rows:=⟨fun i hi=>by
 obtain ⟨a',b',o',c',hc,hd,hb,hl⟩:=h.row i hi
 exact ⟨a',b',o',c',hm.rest _ _ hc (fun _ e=>by cases e),hd.mk_ hm,hb,hl⟩⟩
def totI:List (List Int)→Nat
 | []=>0
 | l::ll=>l.length+totI ll
theorem totI_take (ll:List (List Int)) (n:Nat) (h:n < ll.length):totI (ll.take (n+1))=totI (ll.take n)+ll[n].length:=by
 have app:∀ a b:List (List Int),totI (a++b)=totI a+totI b:=fun a b=>by
  induction a with
  | nil=>simp [totI]
  | cons x a ih=>simp only [List.cons_append,totI,ih];omega
 rw [List.take_succ_eq_append_getElem h,app];simp [totI]
theorem totI_le {ll:List (List Int)} (h:∀ l∈ll,l.length≤1048576):totI ll≤1048576 * ll.length:=by
 induction ll with
 | nil=>simp [totI]
 | cons l ll ih =>
  have:=h l (by simp)
  have:=ih (fun x hx=>h x (List.mem_cons_of_mem _ hx))
  simp only [totI,List.length_cons]
  omega
set_option maxHeartbeats 1000000 in
theorem markIntSS_any (g c B N:Nat) (ll:List (List Int)) (k:Int) (w:World) (hk:0≤k) (hk2:k≤8796093022208) (hl:ll.length≤1048576) (hls:∀ l∈ll,l.length≤1048576) (h:RowsC w B N g ll) :
  Calls Tryz.prog 65 #[.slice (some ⟨g,0,none⟩) ll.length c,.int .i64 k] w fun e w'=>∃ k':Int,e=.returned (.int .i64 k')∧0≤k'∧Mk (fun j=>B≤j∧j < N) w w':=by
 go_enter Tryz.func65,Tryz.ntmps65
 go_wp2_with fail
 go_loopw [1,5] (fun s1 s5 wr=>∃ m:Nat,s1=.int .i64 (k+totI (ll.take m))∧s5=.int .i64 m∧m≤ll.length∧Mk (fun j=>B≤j∧j < N) w wr) (fun _ s5 _=>ll.length - (intOf s5).toNat)
 case atStart=>exact ⟨0,by simp [totI],rfl,Nat.zero_le _,Mk.refl _ _⟩
 case round =>
  obtain ⟨m,rfl,rfl,hm,hmk⟩:=hrel
  by_cases hlt:m < ll.length
  ·obtain ⟨a',b',o',c',hc,hd,hb',hl2⟩:=(h.mk_ hmk).row m hlt
   have hle:=hls _ (List.getElem_mem hlt)
   have HT:Hid (totI (ll.take (m+1))=totI (ll.take m)+ll[m].length):=totI_take ll m hlt
   have hb:=totI_le (ll:=ll.take m) (fun s hs=>hls s (List.mem_of_mem_take hs))
   have hbl:(ll.take m).length≤1048576:=by simp;omega
   generalize ll[m]=l at *
   obtain ⟨T,hT⟩:∃ T,totI (ll.take m)=T:=⟨_,rfl⟩
   have HT2:Hid (totI (ll.take m)=T):=hT
   rw [hT] at hb ⊢
   clear hT
   have i1:(m:Int) < ll.length:=by omega
   have C:=markIntS_any a' b' o' l.length c' (k+T) wr hle (by omega) (by omega) hd
   go_wp2_with fail
   refine C.mono ?_
   rintro e w1 ⟨rfl,_,mk1⟩
   go_wp2_with fail
   refine ⟨⟨m+1,?_,by go_num,by omega,hmk.trans (mk1.mono (fun j hj=>?_))⟩,by simp [intOf];omega⟩
   ·rw [HT.out,HT2.out];congr 1;omega
   ·obtain ⟨rfl,_⟩:=hj;exact ⟨hb',hl2⟩
  ·obtain rfl:m=ll.length:=by omega
   go_wp2_with fail
   go_ret
   exact ⟨_,rfl,by omega,hmk⟩
set_option maxHeartbeats 400000 in
theorem markExec_any (B N g1 g2 c1 c2:Nat) (l:List Int) (rows:List (List Int)) (k:Int) (w:World) (hk:0≤k) (hk2:k≤4398046511104) (hl1:l.length≤1048576) (hl:rows.length≤1048576) (hls:∀ r∈rows,r.length≤1048576) (hc:IntC w (some ⟨g1,0,none⟩) g1 0 l.length) (hB:B≤g1) (hN:g1 < N) (hr:RowsC w B N g2 rows) :
  Calls Tryz.prog 22 #[.agg #[.slice (some ⟨g1,0,none⟩) l.length c1,.slice (some ⟨g2,0,none⟩) rows.length c2],.int .i64 k] w fun e w'=>∃ (k':Int) (wa:World),e=.returned (.int .i64 k')∧0≤k'∧wa=w.alloc (.cells #[.slice (some ⟨g1,0,none⟩) l.length c1,.slice (some ⟨g2,0,none⟩) rows.length c2] 37)∧Mk (fun j=>B≤j∧j < N) wa w':=by
 have hb1:=below1 w (.cells #[.slice (some ⟨g1,0,none⟩) l.length c1,.slice (some ⟨g2,0,none⟩) rows.length c2] 37)
 have k1:(w.alloc (.cells #[.slice (some ⟨g1,0,none⟩) l.length c1,.slice (some ⟨g2,0,none⟩) rows.length c2] 37)).cell? ⟨w.heap.size,1,none⟩=some (.slice (some ⟨g2,0,none⟩) rows.length c2):=by simp
 have hrb:RowsC (w.alloc (.cells #[.slice (some ⟨g1,0,none⟩) l.length c1,.slice (some ⟨g2,0,none⟩) rows.length c2] 37)) B N g2 rows:=⟨fun i hi=>by
  obtain ⟨a',b',o',c',hc,hd,hb,hl⟩:=hr.row i hi
  exact ⟨a',b',o',c',(hb1.cell (p:=⟨g2,i,none⟩) (World.block_lt_of_cell? _ _ hc)).trans hc,hd.below hb1,hb,hl⟩⟩
 have C:=markIntS_any (some ⟨g1,0,none⟩) g1 0 l.length c1 k _ hl1 hk (by omega) (hc.below hb1)
 go_enter Tryz.func22,Tryz.ntmps22
 go_wp2_with fail
 refine C.mono ?_
 rintro e w1 ⟨rfl,_,mk1⟩
 have k1':=mk1.rest _ _ k1 (fun _ e=>by cases e)
 have mk1':=mk1.mono (Q:=fun j=>B≤j∧j < N) (fun j hj=>by obtain ⟨rfl,_⟩:=hj;exact ⟨hB,hN⟩)
 go_wp2_with fail
 refine (markIntSS_any g2 c2 B N rows (k+l.length) w1 (by omega) (by omega) hl hls (hrb.mk_ mk1)).mono ?_
 rintro e w2 ⟨k',rfl,hk',mk2⟩
 go_wp2_with fail
 go_ret
 exact ⟨k',_,rfl,hk',rfl,mk1'.trans mk2⟩
theorem IntS.mkFar {P:Nat→Prop} {w w':World} {a:Option Addr} {b o:Nat} {l:List Int} (h:IntS w a b o l) (hm:Mk P w w') (hne:0 < l.length→¬ P b):IntS w' a b o l :=
 ⟨h.addr,fun i hi=>by rw [hm.cell (p:=⟨b,o+i,none⟩) (hne (by omega))];exact h.row i hi⟩
end
end Go.Proofs.YtdningnhbplfiaaGreat
