/- What an argument of the law reads as: a program in memory. No condition. What an argument of a law reads as: numbers, in memory. No condition. -/
import Derived.Deep.Strs
import Derived.ProofKit
import Derived.Test.YtnddmlgnngdaoaaRows
import Derived.Test.YtnddmlgnngdaoaaQjae
import Derived.Test.YtnddmlgnngdaoaaQjao
namespace Go.Proofs.Ytnddmlgnngdaoaa
section
open Go.ChangeShapes Go.WideShapes Go.ChangeAt Go.RowKit Go.Deep
theorem Try.cells117:Try.prog.cellsOf 117=3:=by kernel_rfl
theorem Try.cells80:Try.prog.cellsOf 80=1:=by kernel_rfl
theorem Try.cells22:Try.prog.cellsOf 22=1:=by kernel_rfl
theorem Try.cells24:Try.prog.cellsOf 24=1:=by kernel_rfl
theorem Try.cells3:Try.prog.cellsOf 3=1:=by kernel_rfl
section
variable {H : Type} {enc : TypeId × Value → H} {w : World} {base : Nat} {spare : Nat → Bool} {held : Bool}
set_option maxRecDepth 100000 in
theorem open_step {fuel:Nat} {cs:List Value} {x:DataW H × List MemPlace} (h:DataW.trod enc Try.prog w base spare held fuel 117 cs=some x):∃ k p v:Int,cs=[.int .i64 k,.int .i64 p,.int .i64 v]:=by
 obtain ⟨y0,y1,y2,n,_,hl,t0,t1,t2⟩:=trod_struct3 Try.underlying117 h
 rw [Try.cells117] at hl
 match cs,hl with
 | [c0,c1,c2],_ =>
  obtain ⟨k,e0,_,_⟩:=DataW.trod_int Try.underlying3 t0
  obtain ⟨p,e1,_,_⟩:=DataW.trod_int Try.underlying3 t1
  obtain ⟨v,e2,_,_⟩:=DataW.trod_int Try.underlying3 t2
  simp [Try.cells3] at e0 e1 e2
  exact ⟨k,p,v,by rw [e0,e1,e2]⟩
set_option maxRecDepth 100000 in
theorem open_thread {fuel:Nat} {u:Value} {x:DataW H × List MemPlace} (h:DataW.trod enc Try.prog w base spare held fuel 80 [u]=some x):∃ a b o c,∃ l:List M.D,u=.slice a l.length c∧l.length≤maxLen∧DoS w a b o l:=by
 rcases open_slice Try.underlying80 h with ⟨hcs,_⟩ | ⟨a,len,cap,m,n,D,Pl,hcs,_,hl,hm,hmm,_,hel⟩
 ·simp at hcs
  exact ⟨none,0,0,0,[],hcs,Nat.zero_le _,⟨fun h=>absurd h (Nat.lt_irrefl _),fun i hi=>absurd hi (Nat.not_lt_zero _)⟩⟩
 ·simp at hcs
  obtain ⟨gb,go,gs⟩:=a
  have hlm:len≤m:=by rw [hmm];split<;>omega
  rw [Try.cells117] at hel
  rcases Nat.eq_zero_or_pos len with h0 | hpos
  ·subst h0
   exact ⟨_,0,0,cap,[],hcs,Nat.zero_le _,⟨fun h=>absurd h (Nat.lt_irrefl _),fun i hi=>absurd hi (Nat.not_lt_zero _)⟩⟩
  ·have key:∀ i,i < len→∃ d:M.D,w.cell? ((Addr.mk gb go gs).add (i * 3) |>.add 0)=some (.int .i64 d.k)∧w.cell? ((Addr.mk gb go gs).add (i * 3) |>.add 1)=some (.int .i64 d.p)∧w.cell? ((Addr.mk gb go gs).add (i * 3) |>.add 2)=some (.int .i64 d.v):=fun i hi=>by
    obtain ⟨cs',h1,h2⟩:=hel i (by omega)
    obtain ⟨k,p,v,rfl⟩:=open_step h2
    have hc:=(World.cells?_some h1).2.2
    exact ⟨⟨k,p,v⟩,hc 0 (by omega),hc 1 (by omega),hc 2 (by omega)⟩
   have hgs:gs=none:=by
    obtain ⟨d,hk,_⟩:=key 0 hpos
    simpa [Addr.add] using World.cell?_spot hk
   subst hgs
   haveI:Inhabited M.D:=⟨⟨0,0,0⟩⟩
   obtain ⟨f,hf⟩:=choose_lt (α:=M.D) key
   refine ⟨_,gb,go,cap,(List.range len).map f,by simp only [List.length_map,List.length_range];exact hcs,by simp;omega,⟨fun _=>rfl,fun i hi=>?_⟩⟩
   simp only [List.length_map,List.length_range] at hi
   obtain ⟨hk,hp,hv⟩:=hf i hi
   simp only [add_plain] at hk hp hv
   rw [List.getElem_map,List.getElem_range]
   exact ⟨hk,hp,hv⟩
set_option maxRecDepth 100000 in
theorem open_threads {fuel:Nat} {u:Value} {x:DataW H × List MemPlace} (h:DataW.trod enc Try.prog w base spare held fuel 22 [u]=some x) :
  ∃ a b o c,∃ ll:List (List M.D),u=.slice a ll.length c∧ll.length≤maxLen∧(∀ t∈ll,t.length≤maxLen)∧DoSS w a b o ll:=by
 rcases open_slice1 Try.underlying22 Try.cells80 h with ⟨hcs,_⟩ | ⟨a,len,cap,m,n,V,D,Pl,hcs,_,hl,hm,hmm,_,hel⟩
 ·simp at hcs
  exact ⟨none,0,0,0,[],hcs,Nat.zero_le _,fun t ht=>absurd ht (by simp),⟨fun h=>absurd h (Nat.lt_irrefl _),fun i hi=>absurd hi (Nat.not_lt_zero _)⟩⟩
 ·simp at hcs
  obtain ⟨gb,go,gs⟩:=a
  have hlm:len≤m:=by rw [hmm];split<;>omega
  rcases Nat.eq_zero_or_pos len with h0 | hpos
  ·subst h0
   exact ⟨_,0,0,cap,[],hcs,Nat.zero_le _,fun t ht=>absurd ht (by simp),⟨fun h=>absurd h (Nat.lt_irrefl _),fun i hi=>absurd hi (Nat.not_lt_zero _)⟩⟩
  ·have hgs:gs=none:=by simpa [Addr.add] using World.cell?_spot (hel 0 (by omega)).1
   subst hgs
   have key:∀ i,i < len→∃ l:List M.D,l.length≤maxLen∧∃ a' b' o' c',w.cell? ⟨gb,go+i,none⟩=some (.slice a' l.length c')∧DoS w a' b' o' l:=fun i hi=>by
    obtain ⟨h1,h2⟩:=hel i (by omega)
    obtain ⟨a',b',o',c',l,e,hll,hs⟩:=open_thread h2
    rw [add_plain,e] at h1
    exact ⟨l,hll,a',b',o',c',h1,hs⟩
   obtain ⟨f,hf⟩:=choose_lt (α:=List M.D) key
   refine ⟨_,gb,go,cap,(List.range len).map f,by simp only [List.length_map,List.length_range];exact hcs,by simp;omega,fun t ht=>?_,⟨fun _=>rfl,fun i hi=>?_⟩⟩
   ·obtain ⟨i,hi,rfl⟩:=List.mem_map.1 ht
    exact (hf i (List.mem_range.1 hi)).1
   ·simp only [List.length_map,List.length_range] at hi
    rw [List.getElem_map,List.getElem_range]
    exact (hf i hi).2
end
end
section
open Go.ChangeShapes Go.WideShapes Go.ChangeAt Go.RowKit Go.Deep
theorem Try.cellsInt:Try.prog.cellsOf 3=1:=by kernel_rfl
def Wf (l:List Int):Prop:=∀ n∈l,(Lit.int .i64 n).wf=true
section
variable {H : Type} {enc : TypeId × Value → H} {w : World} {base : Nat} {spare : Nat → Bool} {held : Bool}
set_option maxRecDepth 100000 in
theorem open_nums {fuel:Nat} {u:Value} {x:DataW H × List MemPlace} (h:DataW.trod enc Try.prog w base spare held fuel 25 [u]=some x):∃ a b o c,∃ l:List Int,u=.slice a l.length c∧l.length≤maxLen∧IntS w a b o l∧Wf l:=by
 rcases open_ints Try.underlying25 Try.underlying3 Try.cellsInt h with ⟨hcs,_⟩ | ⟨a,len,cap,zs,hcs,_,hl,hm,hmm,_,hel,hwf⟩
 ·simp at hcs
  exact ⟨none,0,0,0,[],hcs,Nat.zero_le _,IntS.nil _ _ _ _,fun n hn=>absurd hn (by simp)⟩
 ·simp at hcs
  obtain ⟨gb,go,gs⟩:=a
  have hlm:len≤zs.length:=by rw [hmm];split<;>omega
  have hlen:(zs.take len).length=len:=by simp;omega
  rcases Nat.eq_zero_or_pos len with h0 | hpos
  ·subst h0
   exact ⟨_,0,0,cap,[],hcs,Nat.zero_le _,IntS.nil _ _ _ _,fun n hn=>absurd hn (by simp)⟩
  ·have hgs:gs=none:=by simpa [Addr.add] using World.cell?_spot (hel 0 (by omega))
   subst hgs
   refine ⟨_,gb,go,cap,zs.take len,by rw [hlen];exact hcs,by rw [hlen];omega,⟨fun _=>rfl,fun i hi=>?_⟩,fun n hn=>hwf n (List.mem_of_mem_take hn)⟩
   rw [hlen] at hi
   have:=hel i (by omega)
   rw [add_plain] at this
   rw [this,List.getElem_take,List.getD_eq_getElem?_getD,List.getElem?_eq_getElem (by omega)]
   rfl
end
end
end Go.Proofs.Ytnddmlgnngdaoaa
