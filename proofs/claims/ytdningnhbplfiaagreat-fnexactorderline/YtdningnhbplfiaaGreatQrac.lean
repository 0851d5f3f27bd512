/- The plain mathematics of programs: what impl's and spec's tests of chapter 1 compute, and that they are the same. No condition. The law's own marking of numbers, and whether marks still stand: laws.markIntS, heldIntS. Of lists of at most 1048576 numbers. -/
import Derived.Test.YtdningnhbplfiaaGreatRows
import Derived.Test.YtdningnhbplfiaaGreatQrab
namespace Go.Proofs.YtdningnhbplfiaaGreat
section
namespace M
structure D where
 k:Int
 p:Int
 v:Int
def reads (k:Int):Bool:=k==2||k==5
def stores (k:Int):Bool:=k==1||k==6
def writes (k:Int):Bool:=stores k||k==3
def uses (k:Int):Bool:=reads k||writes k
def wordOk (k:Int):Bool:=decide (1≤k)&&decide (k≤9)
def placeOk (k p:Int):Bool:=if uses k then decide (0≤p)&&decide (p < 3) else p==0
def valOk (k v:Int):Bool:=if stores k then decide (1≤v)&&decide (v≤3) else v==0
def doOk (d:D):Bool:=wordOk d.k&&placeOk d.k d.p&&valOk d.k d.v
def rng (a b n:Int):Bool:=decide (a≤n)&&decide (n≤b)
theorem doOk_eq (k p v:Int):doOk ⟨k,p,v⟩=(rng 1 9 k&&(if uses k then rng 0 2 p else p==0)&&(if stores k then rng 1 3 v else v==0)):=by
 have e:decide (p < 3)=decide (p≤2):=by rw [decide_eq_decide];omega
 simp only [doOk,wordOk,placeOk,valOk,rng,e]
def form (l:List D):Bool:=l.all doOk
def copies:Bool→List D→Bool
 | _,[]=>true
 | r,d::l=>if d.k==3&&!r then false else copies (r||reads d.k) l
def readers:Bool→List D→Bool
 | i,[]=>!i
 | i,d::l=>if d.k==7 then (if i then false else readers true l) else if d.k==8 then (if i then readers false l else false) else if d.k==9 then (if i then false else readers i l) else readers i l
def thread (l:List D):Bool:=decide (l.length≤7)&&form l&&copies false l&&readers false l
def bad (r i:Bool) (d:D):Bool:=!doOk d||d.k==3&&!r||d.k==7&&i||d.k==8&&!i||d.k==9&&i
def inAfter (i:Bool) (k:Int):Bool:=if k==7 then true else if k==8 then false else i
def pass:Bool→Bool→List D→Bool
 | _,i,[]=>!i
 | r,i,d::l=>if bad r i d then false else pass (r||reads d.k) (inAfter i d.k) l
def sthread (l:List D):Bool:=decide (l.length≤7)&&pass false false l
theorem pass_eq (r i:Bool) (l:List D):pass r i l=(form l&&copies r l&&readers i l):=by
 induction l generalizing r i with
 | nil=>simp [pass,form,copies,readers]
 | cons d l ih =>
  simp only [pass,form,copies,readers,List.all_cons] at *
  by_cases hd:doOk d=true
  ·by_cases h3:(d.k==3)=true
   ·have hk:d.k=3:=by simpa using h3
    simp only [bad,inAfter,hd,hk]
    cases r<;>cases i<;>simp [reads,ih]
   ·have h3':(d.k==3)=false:=by simpa using h3
    by_cases h7:d.k=7
    ·simp only [bad,inAfter,hd,h7]
     cases r<;>cases i<;>simp [reads,ih]
    ·by_cases h8:d.k=8
     ·simp only [bad,inAfter,hd,h8]
      cases r<;>cases i<;>simp [reads,ih]
     ·by_cases h9:d.k=9
      ·simp only [bad,inAfter,hd,h9]
       cases r<;>cases i<;>simp [reads,ih]
      ·have e7:(d.k==7)=false:=by simpa using h7
       have e8:(d.k==8)=false:=by simpa using h8
       have e9:(d.k==9)=false:=by simpa using h9
       simp only [bad,inAfter,hd,h3',e7,e8,e9]
       simp [ih]
  ·have hd':doOk d=false:=by simpa using hd
   simp [bad,hd']
theorem sthread_eq (l:List D):sthread l=thread l:=by
 simp only [sthread,thread,pass_eq]
 cases decide (l.length≤7)<;>simp [Bool.and_assoc]
def cnt (f:Int→Bool) (l:List D):Nat:=(l.filter fun d=>f d.k).length
theorem cnt_le (f:Int→Bool) (l:List D):cnt f l≤l.length:=List.length_filter_le _ _
theorem cnt_cons (f:Int→Bool) (d:D) (l:List D):cnt f (d::l)=(if f d.k then 1 else 0)+cnt f l:=by
 simp only [cnt,List.filter_cons]
 cases f d.k<;>simp
 omega
def progFrom:Nat→Nat→List (List D)→Bool
 | a,u,[]=>decide (a≤14)&&decide (u≤6)
 | a,u,t::l=>if thread t then progFrom (a+t.length) (u+cnt uses t) l else false
def prog (l:List (List D)):Bool:=decide (l.length≤3)&&progFrom 0 0 l
theorem drop_at (l:List D) (n:Nat) (h:n < l.length):l.drop n=l[n]::l.drop (n+1):=(List.getElem_cons_drop h).symm
theorem pass_bad {l:List D} {r i:Bool} {n:Nat} {d:D} (hp:pass false false l=pass r i (l.drop n)) (hd:l.drop n=d::l.drop (n+1)) (hb:bad r i d=true):sthread l=false:=by
 simp [sthread,hp,hd,pass,hb]
theorem pass_ok {l:List D} {r i:Bool} {n:Nat} {d:D} (hp:pass false false l=pass r i (l.drop n)) (hd:l.drop n=d::l.drop (n+1)) (hb:bad r i d=false) {r' i':Bool} (hr:r'=(r||reads d.k)) (hi:i'=inAfter i d.k) :
  pass false false l=pass r' i' (l.drop (n+1)):=by
 subst hr;subst hi
 rw [hp,hd]
 simp [pass,hb]
theorem pass_fin {l:List D} {r i:Bool} {n:Nat} (hp:pass false false l=pass r i (l.drop n)) (hn:l.length≤n) (h7:l.length≤7):sthread l=!i:=by
 rw [List.drop_eq_nil_of_le hn] at hp
 simp [sthread,hp,pass,h7]
end M
end
section
open Go.RowKit
structure Mk (P:Nat→Prop) (w w':World):Prop where
 os:w'.os=w.os
 tape:w'.tape=w.tape
 output:w'.output=w.output
 size:w'.heap.size=w.heap.size
 ints:∀ p x,w.cell? p=some (.int .i64 x)→∃ y,w'.cell? p=some (.int .i64 y)
 rest:∀ p v,w.cell? p=some v→(∀ x,v≠.int .i64 x)→w'.cell? p=some v
 fz:∀ p,w'.frozen? p=w.frozen? p
 block:∀ k,¬ P k→w'.heap[k]?=w.heap[k]?
theorem Mk.refl (P:Nat→Prop) (w:World):Mk P w w:=⟨rfl,rfl,rfl,rfl,fun _ x h=>⟨x,h⟩,fun _ _ h _=>h,fun _=>rfl,fun _ _=>rfl⟩
theorem Mk.trans {P:Nat→Prop} {a b c:World} (h:Mk P a b) (k:Mk P b c):Mk P a c :=
 ⟨k.os.trans h.os,k.tape.trans h.tape,k.output.trans h.output,k.size.trans h.size,fun p x hx=>(let ⟨y,hy⟩:=h.ints p x hx;k.ints p y hy),fun p v hv hn=>k.rest p v (h.rest p v hv hn) hn,fun p=>(k.fz p).trans (h.fz p),fun i hi=>(k.block i hi).trans (h.block i hi)⟩
theorem Mk.mono {P Q:Nat→Prop} {a b:World} (h:Mk P a b) (hPQ:∀ k,P k→Q k):Mk Q a b:=⟨h.os,h.tape,h.output,h.size,h.ints,h.rest,h.fz,fun i hi=>h.block i (fun hp=>hi (hPQ i hp))⟩
theorem Mk.setCell {P:Nat→Prop} {a w:World} (h:Mk P a w) {b i:Nat} {x y:Int} (hb:P b) (hx:w.cell? ⟨b,i,none⟩=some (.int .i64 x)):Mk P a (w.setCell ⟨b,i,none⟩ (.int .i64 y)):=by
 refine h.trans ⟨rfl,rfl,rfl,by simp [World.setCell],fun p z hz=>?_,fun p v hv hn=>?_,fun p=>World.frozen?_setCell _ _ _ _,fun k hk=>Below.heap_setCell _ _ _ _ (fun e=>hk (by have e':k=b:=e;rw [e'];exact hb))⟩
 ·by_cases e:p=⟨b,i,none⟩
  ·subst e;exact ⟨y,World.cell?_setCell_same _ _ _ hx⟩
  ·exact ⟨z,by rw [World.cell?_setCell_other _ _ _ _ (fun h=>e h.symm)];exact hz⟩
 ·by_cases e:p=⟨b,i,none⟩
  ·subst e;rw [hx] at hv;exact absurd (Option.some.inj hv).symm (hn x)
  ·rw [World.cell?_setCell_other _ _ _ _ (fun h=>e h.symm)];exact hv
theorem Mk.cell {P:Nat→Prop} {w w':World} (h:Mk P w w') {p:Addr} (hp:¬ P p.block):w'.cell? p=w.cell? p:=World.cell?_of_block (w:=w) (h.block p.block hp)
theorem Mk.below {P:Nat→Prop} {B:Nat} {w w1 w':World} (h:Below B w w1) (k:Mk P w1 w') (hr:∀ j,P j→B≤j):Below B w w' :=
 ⟨k.os.trans h.os,k.tape.trans h.tape,k.output.trans h.output,by rw [k.size];exact h.size,fun i hi=>(k.block i (fun hp=>by have:=hr i hp;omega)).trans (h.block i hi)⟩
structure IntC (w:World) (a:Option Addr) (b o n:Nat):Prop where
 addr:0 < n→a=some ⟨b,o,none⟩
 row:∀ i,i < n→∃ x,w.cell? ⟨b,o+i,none⟩=some (.int .i64 x)
 fz:0 < n→∀ j,w.frozen? ⟨b,j,none⟩=false
theorem IntC.mk_ {P:Nat→Prop} {w w':World} {a:Option Addr} {b o n:Nat} (h:IntC w a b o n) (hm:Mk P w w'):IntC w' a b o n :=
 ⟨h.addr,fun i hi=>(let ⟨x,hx⟩:=h.row i hi;hm.ints _ x hx),fun hn j=>(hm.fz _).trans (h.fz hn j)⟩
theorem IntS.toC {w:World} {a:Option Addr} {b o:Nat} {l:List Int} (h:IntS w a b o l) (fz:0 < l.length→∀ j,w.frozen? ⟨b,j,none⟩=false):IntC w a b o l.length :=
 ⟨h.addr,fun i hi=>⟨_,h.row i hi⟩,fz⟩
namespace M
def seq (k:Int) (n:Nat):List Int:=(List.range n).map fun (i:Nat)=>k+(i:Int)
theorem seq_len (k:Int) (n:Nat):(seq k n).length=n:=by simp [seq]
theorem seq_get (k:Int) (n i:Nat) (h:i < (seq k n).length):(seq k n)[i]=k+i:=by simp [seq]
end M
set_option maxHeartbeats 400000 in
theorem markIntS_any (a:Option Addr) (b o n c:Nat) (k:Int) (w:World) (hn:n≤1048576) (hk:0≤k) (hk2:k≤4611686018427387904) (h:IntC w a b o n) :
  Calls Tryz.prog 23 #[.slice a n c,.int .i64 k] w fun e w'=>e=.returned (.int .i64 (k+n))∧IntS w' a b o (M.seq k n)∧Mk (fun j=>j=b∧0 < n) w w':=by
 go_enter Tryz.func23,Tryz.ntmps23
 go_wp2_with fail
 go_loopw [1,5] (fun s1 s5 wr=>∃ m:Nat,s1=.int .i64 (k+m)∧s5=.int .i64 m∧m≤n∧(∀ i,i < m→wr.cell? ⟨b,o+i,none⟩=some (.int .i64 (k+i)))∧Mk (fun j=>j=b∧0 < n) w wr) (fun _ s5 _=>n - (intOf s5).toNat)
 case atStart=>exact ⟨0,by simp,rfl,Nat.zero_le _,fun i hi=>absurd hi (Nat.not_lt_zero _),Mk.refl _ _⟩
 case round =>
  obtain ⟨m,rfl,rfl,hm,hdone,hmk⟩:=hrel
  by_cases hlt:m < n
  ·obtain ⟨rfl⟩:=h.addr (by omega)
   obtain ⟨x,hx⟩:=(h.mk_ hmk).row m hlt
   have fz:=(h.mk_ hmk).fz (by omega)
   have i1:(m:Int) < n:=by omega
   have HD:Hid (∀ i,i < m→wr.cell? ⟨b,o+i,none⟩=some (.int .i64 (k+i))):=hdone
   clear hdone
   go_wp2_with fail
   refine ⟨⟨m+1,?_,by go_num,by omega,fun i hi=>?_,hmk.setCell ⟨rfl,by omega⟩ hx⟩,by simp [intOf];omega⟩
   ·rw [Int.natCast_add,← Int.add_assoc];rfl
   ·by_cases e:i=m
    ·subst e;exact World.cell?_setCell_same _ _ _ hx
    ·rw [World.cell?_setCell_other _ _ _ _ (fun h=>e (by have:=congrArg Addr.off h;simp at this;omega))]
     exact HD.out i (by omega)
  ·obtain rfl:m=n:=by omega
   go_wp2_with fail
   go_ret
   exact ⟨rfl,⟨fun hl=>h.addr (by rw [M.seq_len] at hl;exact hl),fun i hi=>by rw [M.seq_get];exact hdone i (by rw [M.seq_len] at hi;exact hi)⟩,hmk⟩
set_option maxHeartbeats 400000 in
theorem heldIntS_any (a:Option Addr) (b o n c:Nat) (k:Int) (w:World) (hn:n≤1048576) (hk:0≤k) (hk2:k≤4611686018427387904) (h:IntS w a b o (M.seq k n)) :
  Calls Tryz.prog 24 #[.slice a n c,.int .i64 k] w fun e w'=>e=.returned (.int .i64 (k+n))∧w'=w:=by
 go_enter Tryz.func24,Tryz.ntmps24
 go_wp2_with fail
 go_loopw [1,5] (fun s1 s5 wr=>∃ m:Nat,s1=.int .i64 (k+m)∧s5=.int .i64 m∧m≤n∧wr=w) (fun _ s5 _=>n - (intOf s5).toNat)
 case atStart=>exact ⟨0,by simp,rfl,Nat.zero_le _,rfl⟩
 case round =>
  obtain ⟨m,rfl,rfl,hm,rfl⟩:=hrel
  by_cases hlt:m < n
  ·obtain ⟨rfl⟩:=h.addr (by rw [M.seq_len];omega)
   have hx:=h.row m (by rw [M.seq_len];exact hlt)
   rw [M.seq_get] at hx
   have i1:(m:Int) < n:=by omega
   go_wp2_with fail
   exact ⟨⟨m+1,by rw [Int.natCast_add,← Int.add_assoc];rfl,by go_num,by omega,trivial⟩,by simp [intOf];omega⟩
  ·obtain rfl:m=n:=by omega
   go_wp2_with fail
   go_ret
   exact ⟨rfl,rfl⟩
end
end Go.Proofs.YtdningnhbplfiaaGreat
