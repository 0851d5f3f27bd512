/- What an argument of a law reads as: numbers, in memory. No condition. What an argument of a law reads as: a way, in memory. No condition. What an argument of the law reads as: a program in memory. No condition. -/
import Derived.Deep.Strs
import Derived.ProofKit
import Derived.Test.YtdningnhbplfiaaGreatRows
import Derived.Test.YtdningnhbplfiaaGreatQrap
namespace Go.Proofs.YtdningnhbplfiaaGreat
section
open Go.ChangeShapes Go.WideShapes Go.ChangeAt Go.RowKit Go.Deep
theorem Tryz.cellsInt:Tryz.prog.cellsOf 3=1:=by kernel_rfl
theorem Tryz.cells25:Tryz.prog.cellsOf 25=1:=by kernel_rfl
def Wf (l:List Int):Prop:=∀ n∈l,(Lit.int .i64 n).wf=true
section
variable {H : Type} {enc : TypeId × Value → H} {w : World} {base : Nat} {spare : Nat → Bool} {held : Bool}
set_option maxRecDepth 100000 in
theorem open_nums {fuel:Nat} {u:Value} {x:DataW H × List MemPlace} (h:DataW.trod enc Tryz.prog w base spare held fuel 25 [u]=some x):∃ a b o c,∃ l:List Int,u=.slice a l.length c∧l.length≤maxLen∧IntS w a b o l∧Wf l:=by
 rcases open_ints Tryz.underlying25 Tryz.underlying3 Tryz.cellsInt h with ⟨hcs,_⟩ | ⟨a,len,cap,zs,hcs,_,hl,hm,hmm,_,hel,hwf⟩
 ·simp at hcs
  exact ⟨none,0,0,0,[],hcs,Nat.zero_le _,IntS.nil _ _ _ _,fun n hn=>absurd hn (by simp)⟩
 ·simp at hcs
  obtain ⟨gb,go,gs⟩:=a
  have hlm:len≤zs.length:=by rw [hmm];split<;>omega
  have hlen:(zs.take len).length=len:=by simp;omega
  rcases Nat.eq_zero_or_pos len with h0 | hpos
  ·subst h0
   exact ⟨_,0,0,cap,[],hcs,Nat.zero_le _,IntS.nil _ _ _ _,fun n hn=>absurd hn (by simp)⟩
  ·have hgs:gs=none:=by simpa [Addr.add] using World.cell?_spot (hel 0 (by omega))
   subst hgs
   refine ⟨_,gb,go,cap,zs.take len,by rw [hlen];exact hcs,by rw [hlen];omega,⟨fun _=>rfl,fun i hi=>?_⟩,fun n hn=>hwf n (List.mem_of_mem_take hn)⟩
   rw [hlen] at hi
   have:=hel i (by omega)
   rw [add_plain] at this
   rw [this,List.getElem_take,List.getD_eq_getElem?_getD,List.getElem?_eq_getElem (by omega)]
   rfl
end
end
section
open Go.ChangeShapes Go.WideShapes Go.ChangeAt Go.RowKit Go.Deep
theorem Tryz.cells26:Tryz.prog.cellsOf 26=1:=by kernel_rfl
theorem Tryz.cells28:Tryz.prog.cellsOf 28=2:=by kernel_rfl
section
variable {H : Type} {enc : TypeId × Value → H} {w : World} {base : Nat} {spare : Nat → Bool} {held : Bool}
set_option maxRecDepth 100000 in
theorem open_rows {fuel:Nat} {u:Value} {x:DataW H × List MemPlace} (h:DataW.trod enc Tryz.prog w base spare held fuel 26 [u]=some x) :
  ∃ a b o c,∃ rows:List (List Int),u=.slice a rows.length c∧rows.length≤maxLen∧(∀ t∈rows,t.length≤maxLen)∧IntSS w a b o rows:=by
 rcases open_slice1 Tryz.underlying26 Tryz.cells25 h with ⟨hcs,_⟩ | ⟨a,len,cap,m,n,V,D,Pl,hcs,_,hl,hm,hmm,_,hel⟩
 ·simp at hcs
  exact ⟨none,0,0,0,[],hcs,Nat.zero_le _,fun t ht=>absurd ht (by simp),⟨fun h=>absurd h (Nat.lt_irrefl _),fun i hi=>absurd hi (Nat.not_lt_zero _)⟩⟩
 ·simp at hcs
  obtain ⟨gb,go,gs⟩:=a
  have hlm:len≤m:=by rw [hmm];split<;>omega
  rcases Nat.eq_zero_or_pos len with h0 | hpos
  ·subst h0
   exact ⟨_,0,0,cap,[],hcs,Nat.zero_le _,fun t ht=>absurd ht (by simp),⟨fun h=>absurd h (Nat.lt_irrefl _),fun i hi=>absurd hi (Nat.not_lt_zero _)⟩⟩
  ·have hgs:gs=none:=by simpa [Addr.add] using World.cell?_spot (hel 0 (by omega)).1
   subst hgs
   have key:∀ i,i < len→∃ l:List Int,l.length≤maxLen∧∃ a' b' o' c',w.cell? ⟨gb,go+i,none⟩=some (.slice a' l.length c')∧IntS w a' b' o' l:=fun i hi=>by
    obtain ⟨h1,h2⟩:=hel i (by omega)
    obtain ⟨a',b',o',c',l,e,hll,hs,_⟩:=open_nums h2
    rw [add_plain,e] at h1
    exact ⟨l,hll,a',b',o',c',h1,hs⟩
   obtain ⟨f,hf⟩:=choose_lt (α:=List Int) key
   refine ⟨_,gb,go,cap,(List.range len).map f,by simp only [List.length_map,List.length_range];exact hcs,by simp;omega,fun t ht=>?_,⟨fun _=>rfl,fun i hi=>?_⟩⟩
   ·obtain ⟨i,hi,rfl⟩:=List.mem_map.1 ht
    exact (hf i (List.mem_range.1 hi)).1
   ·simp only [List.length_map,List.length_range] at hi
    rw [List.getElem_map,List.getElem_range]
    exact (hf i hi).2
set_option maxRecDepth 100000 in
theorem open_exec {fuel:Nat} {cs:List Value} {x:DataW H × List MemPlace} (h:DataW.trod enc Tryz.prog w base spare held fuel 28 cs=some x) :
  ∃ fa fb fo fc,∃ l:List Int,∃ ra rb ro rc,∃ rows:List (List Int),cs=[.slice fa l.length fc,.slice ra rows.length rc]∧l.length≤maxLen∧rows.length≤maxLen∧(∀ t∈rows,t.length≤maxLen)∧IntS w fa fb fo l∧IntSS w ra rb ro rows:=by
 obtain ⟨y0,y1,n,_,hl,t0,t1⟩:=trod_struct2 Tryz.underlying28 h
 rw [Tryz.cells28] at hl
 match cs,hl with
 | [u0,u1],_ =>
  have t0':DataW.trod enc Tryz.prog w base spare held n 25 [u0]=some y0:=by simpa [Tryz.cells25] using t0
  have t1':DataW.trod enc Tryz.prog w base spare held n 26 [u1]=some y1:=by simpa [Tryz.cells25,Tryz.cells26] using t1
  obtain ⟨a1,b1,o1,c1,l1,e1,h1,i1,_⟩:=open_nums t0'
  obtain ⟨a2,b2,o2,c2,l2,e2,h2,hs2,i2⟩:=open_rows t1'
  exact ⟨a1,b1,o1,c1,l1,a2,b2,o2,c2,l2,by rw [e1,e2],h1,h2,hs2,i1,i2⟩
end
end
section
open Go.ChangeShapes Go.WideShapes Go.ChangeAt Go.RowKit Go.Deep
theorem Tryz.cells198:Tryz.prog.cellsOf 198=3:=by kernel_rfl
theorem Tryz.cells141:Tryz.prog.cellsOf 141=1:=by kernel_rfl
theorem Tryz.cells22:Tryz.prog.cellsOf 22=1:=by kernel_rfl
theorem Tryz.cells24:Tryz.prog.cellsOf 24=1:=by kernel_rfl
theorem Tryz.cells3:Tryz.prog.cellsOf 3=1:=by kernel_rfl
section
variable {H : Type} {enc : TypeId × Value → H} {w : World} {base : Nat} {spare : Nat → Bool} {held : Bool}
set_option maxRecDepth 100000 in
theorem open_step {fuel:Nat} {cs:List Value} {x:DataW H × List MemPlace} (h:DataW.trod enc Tryz.prog w base spare held fuel 198 cs=some x):∃ k p v:Int,cs=[.int .i64 k,.int .i64 p,.int .i64 v]:=by
 obtain ⟨y0,y1,y2,n,_,hl,t0,t1,t2⟩:=trod_struct3 Tryz.underlying198 h
 rw [Tryz.cells198] at hl
 match cs,hl with
 | [c0,c1,c2],_ =>
  obtain ⟨k,e0,_,_⟩:=DataW.trod_int Tryz.underlying3 t0
  obtain ⟨p,e1,_,_⟩:=DataW.trod_int Tryz.underlying3 t1
  obtain ⟨v,e2,_,_⟩:=DataW.trod_int Tryz.underlying3 t2
  simp [Tryz.cells3] at e0 e1 e2
  exact ⟨k,p,v,by rw [e0,e1,e2]⟩
set_option maxRecDepth 100000 in
theorem open_thread {fuel:Nat} {u:Value} {x:DataW H × List MemPlace} (h:DataW.trod enc Tryz.prog w base spare held fuel 141 [u]=some x):∃ a b o c,∃ l:List M.D,u=.slice a l.length c∧l.length≤maxLen∧DoS w a b o l:=by
 rcases open_slice Tryz.underlying141 h with ⟨hcs,_⟩ | ⟨a,len,cap,m,n,D,Pl,hcs,_,hl,hm,hmm,_,hel⟩
 ·simp at hcs
  exact ⟨none,0,0,0,[],hcs,Nat.zero_le _,⟨fun h=>absurd h (Nat.lt_irrefl _),fun i hi=>absurd hi (Nat.not_lt_zero _)⟩⟩
 ·simp at hcs
  obtain ⟨gb,go,gs⟩:=a
  have hlm:len≤m:=by rw [hmm];split<;>omega
  rw [Tryz.cells198] at hel
  rcases Nat.eq_zero_or_pos len with h0 | hpos
  ·subst h0
   exact ⟨_,0,0,cap,[],hcs,Nat.zero_le _,⟨fun h=>absurd h (Nat.lt_irrefl _),fun i hi=>absurd hi (Nat.not_lt_zero _)⟩⟩
  ·have key:∀ i,i < len→∃ d:M.D,w.cell? ((Addr.mk gb go gs).add (i * 3) |>.add 0)=some (.int .i64 d.k)∧w.cell? ((Addr.mk gb go gs).add (i * 3) |>.add 1)=some (.int .i64 d.p)∧w.cell? ((Addr.mk gb go gs).add (i * 3) |>.add 2)=some (.int .i64 d.v):=fun i hi=>by
    obtain ⟨cs',h1,h2⟩:=hel i (by omega)
    obtain ⟨k,p,v,rfl⟩:=open_step h2
    have hc:=(World.cells?_some h1).2.2
    exact ⟨⟨k,p,v⟩,hc 0 (by omega),hc 1 (by omega),hc 2 (by omega)⟩
   have hgs:gs=none:=by
    obtain ⟨d,hk,_⟩:=key 0 hpos
    simpa [Addr.add] using World.cell?_spot hk
   subst hgs
   haveI:Inhabited M.D:=⟨⟨0,0,0⟩⟩
   obtain ⟨f,hf⟩:=choose_lt (α:=M.D) key
   refine ⟨_,gb,go,cap,(List.range len).map f,by simp only [List.length_map,List.length_range];exact hcs,by simp;omega,⟨fun _=>rfl,fun i hi=>?_⟩⟩
   simp only [List.length_map,List.length_range] at hi
   obtain ⟨hk,hp,hv⟩:=hf i hi
   simp only [add_plain] at hk hp hv
   rw [List.getElem_map,List.getElem_range]
   exact ⟨hk,hp,hv⟩
set_option maxRecDepth 100000 in
theorem open_threads {fuel:Nat} {u:Value} {x:DataW H × List MemPlace} (h:DataW.trod enc Tryz.prog w base spare held fuel 22 [u]=some x) :
  ∃ a b o c,∃ ll:List (List M.D),u=.slice a ll.length c∧ll.length≤maxLen∧(∀ t∈ll,t.length≤maxLen)∧DoSS w a b o ll:=by
 rcases open_slice1 Tryz.underlying22 Tryz.cells141 h with ⟨hcs,_⟩ | ⟨a,len,cap,m,n,V,D,Pl,hcs,_,hl,hm,hmm,_,hel⟩
 ·simp at hcs
  exact ⟨none,0,0,0,[],hcs,Nat.zero_le _,fun t ht=>absurd ht (by simp),⟨fun h=>absurd h (Nat.lt_irrefl _),fun i hi=>absurd hi (Nat.not_lt_zero _)⟩⟩
 ·simp at hcs
  obtain ⟨gb,go,gs⟩:=a
  have hlm:len≤m:=by rw [hmm];split<;>omega
  rcases Nat.eq_zero_or_pos len with h0 | hpos
  ·subst h0
   exact ⟨_,0,0,cap,[],hcs,Nat.zero_le _,fun t ht=>absurd ht (by simp),⟨fun h=>absurd h (Nat.lt_irrefl _),fun i hi=>absurd hi (Nat.not_lt_zero _)⟩⟩
  ·have hgs:gs=none:=by simpa [Addr.add] using World.cell?_spot (hel 0 (by omega)).1
   subst hgs
   have key:∀ i,i < len→∃ l:List M.D,l.length≤maxLen∧∃ a' b' o' c',w.cell? ⟨gb,go+i,none⟩=some (.slice a' l.length c')∧DoS w a' b' o' l:=fun i hi=>by
    obtain ⟨h1,h2⟩:=hel i (by omega)
    obtain ⟨a',b',o',c',l,e,hll,hs⟩:=open_thread h2
    rw [add_plain,e] at h1
    exact ⟨l,hll,a',b',o',c',h1,hs⟩
   obtain ⟨f,hf⟩:=choose_lt (α:=List M.D) key
   refine ⟨_,gb,go,cap,(List.range len).map f,by simp only [List.length_map,List.length_range];exact hcs,by simp;omega,fun t ht=>?_,⟨fun _=>rfl,fun i hi=>?_⟩⟩
   ·obtain ⟨i,hi,rfl⟩:=List.mem_map.1 ht
    exact (hf i (List.mem_range.1 hi)).1
   ·simp only [List.length_map,List.length_range] at hi
    rw [List.getElem_map,List.getElem_range]
    exact (hf i hi).2
end
end
end Go.Proofs.YtdningnhbplfiaaGreat
