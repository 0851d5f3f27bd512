/- The law's own marking of numbers, and whether marks still stand: laws.markIntS, heldIntS. Of lists of at most 1048576 numbers. The law's own marking of a program: laws.markDoS, markDoSS, markProg. Of at most 1048576 threads, each of at most 1048576 steps. -/
import Derived.Deep.OwnRows
import Derived.Test.YtegommoflmmahaaGreatRows
import Derived.Test.YtegommoflmmahaaGreatQuai
import Derived.Test.YtegommoflmmahaaGreatQuan
namespace Go.Proofs.YtegommoflmmahaaGreat
section
open Go.RowKit
structure Mk (P:Nat→Prop) (w w':World):Prop where
 os:w'.os=w.os
 tape:w'.tape=w.tape
 output:w'.output=w.output
 size:w'.heap.size=w.heap.size
 ints:∀ p x,w.cell? p=some (.int .i64 x)→∃ y,w'.cell? p=some (.int .i64 y)
 rest:∀ p v,w.cell? p=some v→(∀ x,v≠.int .i64 x)→w'.cell? p=some v
 fz:∀ p,w'.frozen? p=w.frozen? p
 block:∀ k,¬ P k→w'.heap[k]?=w.heap[k]?
theorem Mk.refl (P:Nat→Prop) (w:World):Mk P w w:=⟨rfl,rfl,rfl,rfl,fun _ x h=>⟨x,h⟩,fun _ _ h _=>h,fun _=>rfl,fun _ _=>rfl⟩
theorem Mk.trans {P:Nat→Prop} {a b c:World} (h:Mk P a b) (k:Mk P b c):Mk P a c :=
 ⟨k.os.trans h.os,k.tape.trans h.tape,k.output.trans h.output,k.size.trans h.size,fun p x hx=>(let ⟨y,hy⟩:=h.ints p x hx;k.ints p y hy),fun p v hv hn=>k.rest p v (h.rest p v hv hn) hn,fun p=>(k.fz p).trans (h.fz p),fun i hi=>(k.block i hi).trans (h.block i hi)⟩
theorem Mk.mono {P Q:Nat→Prop} {a b:World} (h:Mk P a b) (hPQ:∀ k,P k→Q k):Mk Q a b:=⟨h.os,h.tape,h.output,h.size,h.ints,h.rest,h.fz,fun i hi=>h.block i (fun hp=>hi (hPQ i hp))⟩
theorem Mk.setCell {P:Nat→Prop} {a w:World} (h:Mk P a w) {b i:Nat} {x y:Int} (hb:P b) (hx:w.cell? ⟨b,i,none⟩=some (.int .i64 x)):Mk P a (w.setCell ⟨b,i,none⟩ (.int .i64 y)):=by
 refine h.trans ⟨rfl,rfl,rfl,by simp [World.setCell],fun p z hz=>?_,fun p v hv hn=>?_,fun p=>World.frozen?_setCell _ _ _ _,fun k hk=>Below.heap_setCell _ _ _ _ (fun e=>hk (by have e':k=b:=e;rw [e'];exact hb))⟩
 ·by_cases e:p=⟨b,i,none⟩
  ·subst e;exact ⟨y,World.cell?_setCell_same _ _ _ hx⟩
  ·exact ⟨z,by rw [World.cell?_setCell_other _ _ _ _ (fun h=>e h.symm)];exact hz⟩
 ·by_cases e:p=⟨b,i,none⟩
  ·subst e;rw [hx] at hv;exact absurd (Option.some.inj hv).symm (hn x)
  ·rw [World.cell?_setCell_other _ _ _ _ (fun h=>e h.symm)];exact hv
theorem Mk.cell {P:Nat→Prop} {w w':World} (h:Mk P w w') {p:Addr} (hp:¬ P p.block):w'.cell? p=w.cell? p:=World.cell?_of_block (w:=w) (h.block p.block hp)
theorem Mk.below {P:Nat→Prop} {B:Nat} {w w1 w':World} (h:Below B w w1) (k:Mk P w1 w') (hr:∀ j,P j→B≤j):Below B w w' :=
 ⟨k.os.trans h.os,k.tape.trans h.tape,k.output.trans h.output,by rw [k.size];exact h.size,fun i hi=>(k.block i (fun hp=>by have:=hr i hp;omega)).trans (h.block i hi)⟩
structure IntC (w:World) (a:Option Addr) (b o n:Nat):Prop where
 addr:0 < n→a=some ⟨b,o,none⟩
 row:∀ i,i < n→∃ x,w.cell? ⟨b,o+i,none⟩=some (.int .i64 x)
 fz:0 < n→∀ j,w.frozen? ⟨b,j,none⟩=false
theorem IntC.mk_ {P:Nat→Prop} {w w':World} {a:Option Addr} {b o n:Nat} (h:IntC w a b o n) (hm:Mk P w w'):IntC w' a b o n :=
 ⟨h.addr,fun i hi=>(let ⟨x,hx⟩:=h.row i hi;hm.ints _ x hx),fun hn j=>(hm.fz _).trans (h.fz hn j)⟩
theorem IntS.toC {w:World} {a:Option Addr} {b o:Nat} {l:List Int} (h:IntS w a b o l) (fz:0 < l.length→∀ j,w.frozen? ⟨b,j,none⟩=false):IntC w a b o l.length :=
 ⟨h.addr,fun i hi=>⟨_,h.row i hi⟩,fz⟩
namespace M
theorem seq_len (k:Int) (n:Nat):(seq k n).length=n:=by simp [seq]
theorem seq_get (k:Int) (n i:Nat) (h:i < (seq k n).length):(seq k n)[i]=k+i:=by simp [seq]
end M
set_option maxHeartbeats 400000 in
theorem markIntS_any (a:Option Addr) (b o n c:Nat) (k:Int) (w:World) (hn:n≤1048576) (hk:0≤k) (hk2:k≤4611686018427387904) (h:IntC w a b o n) :
  Calls Tryz.prog 73 #[.slice a n c,.int .i64 k] w fun e w'=>e=.returned (.int .i64 (k+n))∧IntS w' a b o (M.seq k n)∧Mk (fun j=>j=b∧0 < n) w w':=by
 go_enter Tryz.func73,Tryz.ntmps73
 go_wp2_with fail
 go_loopw [1,5] (fun s1 s5 wr=>∃ m:Nat,s1=.int .i64 (k+m)∧s5=.int .i64 m∧m≤n∧(∀ i,i < m→wr.cell? ⟨b,o+i,none⟩=some (.int .i64 (k+i)))∧Mk (fun j=>j=b∧0 < n) w wr) (fun _ s5 _=>n - (intOf s5).toNat)
 case atStart=>exact ⟨0,by simp,rfl,Nat.zero_le _,fun i hi=>absurd hi (Nat.not_lt_zero _),Mk.refl _ _⟩
 case round =>
  obtain ⟨m,rfl,rfl,hm,hdone,hmk⟩:=hrel
  by_cases hlt:m < n
  ·obtain ⟨rfl⟩:=h.addr (by omega)
   obtain ⟨x,hx⟩:=(h.mk_ hmk).row m hlt
   have fz:=(h.mk_ hmk).fz (by omega)
   have i1:(m:Int) < n:=by omega
   have HD:Hid (∀ i,i < m→wr.cell? ⟨b,o+i,none⟩=some (.int .i64 (k+i))):=hdone
   clear hdone
   go_wp2_with fail
   refine ⟨⟨m+1,?_,by go_num,by omega,fun i hi=>?_,hmk.setCell ⟨rfl,by omega⟩ hx⟩,by simp [intOf];omega⟩
   ·rw [Int.natCast_add,← Int.add_assoc];rfl
   ·by_cases e:i=m
    ·subst e;exact World.cell?_setCell_same _ _ _ hx
    ·rw [World.cell?_setCell_other _ _ _ _ (fun h=>e (by have:=congrArg Addr.off h;simp at this;omega))]
     exact HD.out i (by omega)
  ·obtain rfl:m=n:=by omega
   go_wp2_with fail
   go_ret
   exact ⟨rfl,⟨fun hl=>h.addr (by rw [M.seq_len] at hl;exact hl),fun i hi=>by rw [M.seq_get];exact hdone i (by rw [M.seq_len] at hi;exact hi)⟩,hmk⟩
set_option maxHeartbeats 400000 in
theorem heldIntS_any (a:Option Addr) (b o n c:Nat) (k:Int) (w:World) (hn:n≤1048576) (hk:0≤k) (hk2:k≤4611686018427387904) (h:IntS w a b o (M.seq k n)) :
  Calls Tryz.prog 75 #[.slice a n c,.int .i64 k] w fun e w'=>e=.returned (.int .i64 (k+n))∧w'=w:=by
 go_enter Tryz.func75,Tryz.ntmps75
 go_wp2_with fail
 go_loopw [1,5] (fun s1 s5 wr=>∃ m:Nat,s1=.int .i64 (k+m)∧s5=.int .i64 m∧m≤n∧wr=w) (fun _ s5 _=>n - (intOf s5).toNat)
 case atStart=>exact ⟨0,by simp,rfl,Nat.zero_le _,rfl⟩
 case round =>
  obtain ⟨m,rfl,rfl,hm,rfl⟩:=hrel
  by_cases hlt:m < n
  ·obtain ⟨rfl⟩:=h.addr (by rw [M.seq_len];omega)
   have hx:=h.row m (by rw [M.seq_len];exact hlt)
   rw [M.seq_get] at hx
   have i1:(m:Int) < n:=by omega
   go_wp2_with fail
   exact ⟨⟨m+1,by rw [Int.natCast_add,← Int.add_assoc];rfl,by go_num,by omega,trivial⟩,by simp [intOf];omega⟩
  ·obtain rfl:m=n:=by omega
   go_wp2_with fail
   go_ret
   exact ⟨rfl,rfl⟩
end
section
open Go.RowKit
set_option maxHeartbeats 400000 in
theorem markDoS_any (a:Option Addr) (b o n c:Nat) (k:Int) (w:World) (hn:n≤1048576) (hk:0≤k) (hk2:k≤4611686018427387904) (had:0 < n→a=some ⟨b,o,none⟩) (hrow:∀ i,i < n * 3→∃ x,w.cell? ⟨b,o+i,none⟩=some (.int .i64 x)) (hfz:0 < n→Fz w b) :
  Calls Tryz.prog 124 #[.slice a n c,.int .i64 k] w fun e w'=>e=.returned (.int .i64 (k+n * 3))∧Mk (fun j=>j=b∧0 < n) w w':=by
 go_enter Tryz.func124,Tryz.ntmps124
 go_wp2_with fail
 go_loopw [1,5] (fun s1 s5 wr=>∃ m:Nat,s1=.int .i64 (k+m * 3)∧s5=.int .i64 m∧m≤n∧Mk (fun j=>j=b∧0 < n) w wr) (fun _ s5 _=>n - (intOf s5).toNat)
 case atStart=>exact ⟨0,by simp,rfl,Nat.zero_le _,Mk.refl _ _⟩
 case round =>
  obtain ⟨m,rfl,rfl,hm,hmk⟩:=hrel
  by_cases hlt:m < n
  ·obtain ⟨rfl⟩:=had (by omega)
   obtain ⟨x0,y0⟩:=hrow (m * 3) (by omega)
   obtain ⟨x1,y1⟩:=hrow (m * 3+1) (by omega)
   obtain ⟨x2,y2⟩:=hrow (m * 3+2) (by omega)
   obtain ⟨z0,c0⟩:=hmk.ints _ _ y0
   obtain ⟨z1,c1⟩:=hmk.ints _ _ y1
   obtain ⟨z2,c2⟩:=hmk.ints _ _ y2
   have fz:∀ j,wr.frozen? ⟨b,j,none⟩=false:=fun j=>(hmk.fz _).trans (hfz (by omega) j)
   rw [← Nat.add_assoc] at c1 c2
   have i1:(m:Int) < n:=by omega
   have hP:(fun j=>j=b∧0 < n) b:=⟨rfl,by omega⟩
   have m1:=hmk.setCell (y:=k+m * 3) hP c0
   have c1':(wr.setCell ⟨b,o+m * 3,none⟩ (.int .i64 (k+m * 3))).cell? ⟨b,o+m * 3+1,none⟩=some (.int .i64 z1):=by rw [World.cell?_setCell_other _ _ _ _ (fun e=>by have:=congrArg Addr.off e;simp at this)];exact c1
   have m2:=m1.setCell (y:=k+m * 3+1) hP c1'
   have c2':((wr.setCell ⟨b,o+m * 3,none⟩ (.int .i64 (k+m * 3))).setCell ⟨b,o+m * 3+1,none⟩ (.int .i64 (k+m * 3+1))).cell? ⟨b,o+m * 3+2,none⟩=some (.int .i64 z2):=by rw [World.cell?_setCell_other _ _ _ _ (fun e=>by have:=congrArg Addr.off e;simp at this),World.cell?_setCell_other _ _ _ _ (fun e=>by have:=congrArg Addr.off e;simp at this)];exact c2
   have m3:=m2.setCell (y:=k+m * 3+1+1) hP c2'
   clear c1' c2' m1 m2 y0 y1 y2
   go_wp2_with fail
   refine ⟨⟨m+1,?_,by go_num,by omega,m3⟩,by simp [intOf];omega⟩
   congr 1;omega
  ·obtain rfl:m=n:=by omega
   go_wp2_with fail
   go_ret
   exact ⟨rfl,hmk⟩
def tot3:List (List M.D)→Nat
 | []=>0
 | l::ll=>l.length+tot3 ll
theorem tot3_take (ll:List (List M.D)) (n:Nat) (h:n < ll.length):tot3 (ll.take (n+1))=tot3 (ll.take n)+ll[n].length:=by
 have app:∀ a b:List (List M.D),tot3 (a++b)=tot3 a+tot3 b:=fun a b=>by
  induction a with
  | nil=>simp [tot3]
  | cons x a ih=>simp only [List.cons_append,tot3,ih];omega
 rw [List.take_succ_eq_append_getElem h,app];simp [tot3]
theorem tot3_le {ll:List (List M.D)} (h:∀ l∈ll,l.length≤1048576):tot3 ll≤1048576 * ll.length:=by
 induction ll with
 | nil=>simp [tot3]
 | cons l ll ih =>
  have:=h l (by simp)
  have:=ih (fun x hx=>h x (List.mem_cons_of_mem _ hx))
  simp only [tot3,List.length_cons]
  omega
set_option maxHeartbeats 1000000 in
theorem markDoSS_any (g c B N:Nat) (ll:List (List M.D)) (w:World) (hl:ll.length≤1048576) (hls:∀ l∈ll,l.length≤1048576) (h:NewSS w B N g ll) :
  Calls Tryz.prog 72 #[.slice (some ⟨g,0,none⟩) ll.length c,.int .i64 1] w fun e w'=>∃ k:Int,e=.returned (.int .i64 k)∧(0≤k∧k≤4398046511104)∧Mk (fun j=>B≤j∧j < N) w w':=by
 go_enter Tryz.func72,Tryz.ntmps72
 go_wp2_with fail
 go_loopw [1,5] (fun s1 s5 wr=>∃ m:Nat,s1=.int .i64 (1+tot3 (ll.take m) * 3)∧s5=.int .i64 m∧m≤ll.length∧Mk (fun j=>B≤j∧j < N) w wr) (fun _ s5 _=>ll.length - (intOf s5).toNat)
 case atStart=>exact ⟨0,by simp [tot3],rfl,Nat.zero_le _,Mk.refl _ _⟩
 case round =>
  obtain ⟨m,rfl,rfl,hm,hmk⟩:=hrel
  by_cases hlt:m < ll.length
  ·obtain ⟨a',b',o',c',hc,hd,hb',hz,hl2⟩:=h.row m hlt
   have hc':=hmk.rest _ _ hc (fun _ e=>by cases e)
   have hle:=hls _ (List.getElem_mem hlt)
   have HT:Hid (tot3 (ll.take (m+1))=tot3 (ll.take m)+ll[m].length):=tot3_take ll m hlt
   have hb:=tot3_le (ll:=ll.take m) (fun s hs=>hls s (List.mem_of_mem_take hs))
   have hbl:(ll.take m).length≤1048576:=by simp;omega
   generalize ll[m]=l at *
   obtain ⟨T,hT⟩:∃ T,tot3 (ll.take m)=T:=⟨_,rfl⟩
   have HT2:Hid (tot3 (ll.take m)=T):=hT
   rw [hT] at hb ⊢
   clear hT hc
   have i1:(m:Int) < ll.length:=by omega
   have C:=markDoS_any a' b' o' l.length c' (1+T * 3) wr hle (by omega) (by omega) hd.addr (fun i hi=>by
    have hr:=hd.row (i / 3) (by omega)
    have key:∃ x,w.cell? ⟨b',o'+i,none⟩=some (.int .i64 x):=by
     rcases Nat.lt_or_ge (i % 3) 1 with h0 | h0
     ·exact ⟨_,by rw [show o'+i=o'+i / 3 * 3 from by omega];exact hr.k⟩
     ·rcases Nat.lt_or_ge (i % 3) 2 with h1 | h1
      ·exact ⟨_,by rw [show o'+i=o'+i / 3 * 3+1 from by omega];exact hr.p⟩
      ·exact ⟨_,by rw [show o'+i=o'+i / 3 * 3+2 from by omega];exact hr.v⟩
    obtain ⟨x,hx⟩:=key
    exact hmk.ints _ x hx) (fun _ j=>(hmk.fz _).trans (hz j))
   go_wp2_with fail
   refine C.mono ?_
   rintro e w1 ⟨rfl,mk1⟩
   go_wp2_with fail
   refine ⟨⟨m+1,?_,by go_num,by omega,hmk.trans (mk1.mono (fun j hj=>?_))⟩,by simp [intOf];omega⟩
   ·rw [HT.out,HT2.out];congr 1;omega
   ·obtain ⟨rfl,_⟩:=hj;exact ⟨hb',hl2⟩
  ·obtain rfl:m=ll.length:=by omega
   have hb:=tot3_le (ll:=ll.take ll.length) (fun s hs=>hls s (List.mem_of_mem_take hs))
   have hbl:(ll.take ll.length).length≤1048576:=by simp;omega
   go_wp2_with fail
   go_ret
   exact ⟨_,rfl,by omega,hmk⟩
set_option maxHeartbeats 400000 in
theorem markProg_any (g c B N:Nat) (ll:List (List M.D)) (w:World) (hl:ll.length≤1048576) (hls:∀ l∈ll,l.length≤1048576) (h:NewSS w B N g ll) :
  Calls Tryz.prog 32 #[.agg #[.slice (some ⟨g,0,none⟩) ll.length c],.int .i64 1] w fun e w'=>∃ (k:Int) (wa:World),e=.returned (.int .i64 k)∧(0≤k∧k≤4398046511104)∧wa=w.alloc (.cells #[.slice (some ⟨g,0,none⟩) ll.length c] 25)∧Mk (fun j=>B≤j∧j < N) wa w':=by
 have hb1:=below1 w (.cells #[.slice (some ⟨g,0,none⟩) ll.length c] 25)
 have C:=markDoSS_any g c B N ll _ hl hls (h.below hb1 (Nat.le_refl _))
 go_enter Tryz.func32,Tryz.ntmps32
 go_wp2_with fail
 refine C.mono ?_
 rintro e w1 ⟨k,rfl,hk,hmk⟩
 go_wp2_with fail
 go_ret
 exact ⟨k,_,rfl,hk,rfl,hmk⟩
end
end Go.Proofs.YtegommoflmmahaaGreat
