/- Lines, plainly: all events one behind the other; both ways to find one tell the same. No condition. What the laws ask of a line, plainly: it has all events, each once, none behind what it must be ahead of; and who waits goes on when no reader is in that was there before. No condition. Who waits, and readers, in line: what the law asks of each two, plainly. No condition. -/
import Derived.Deep.OwnRows
import Derived.Test.YtmhpgdliaclokaaGreatRows
import Derived.Test.YtmhpgdliaclokaaGreatQzbq
namespace Go.Proofs.YtmhpgdliaclokaaGreat
section
namespace M
theorem setA_has (A:Nat→Nat→Bool) (l:Lk):setA A l l.1 l.2=true:=by simp [setA]
theorem found_has (n:Nat):∀ (cs:List Ch) (A:Nat→Nat→Bool),(foundA n A cs).2=true→∀ c∈cs,(foundA n A cs).1 c.1.1 c.1.2=true∨(foundA n A cs).1 c.2.1 c.2.2=true:=by
 intro cs
 induction cs with
 | nil=>intro A _ c hc;cases hc
 | cons d cs ih =>
  intro A h c hc
  rw [foundA] at h ⊢
  split at h
  ·rename_i hh
   rw [if_pos hh]
   split at h
   ·rename_i h1
    rw [if_pos h1]
    rcases List.mem_cons.1 hc with rfl | hc
    ·exact .inl (found_sub n cs _ (setA_has A c.1))
    ·exact ih _ h c hc
   ·rename_i h1
    rw [if_neg h1]
    rcases List.mem_cons.1 hc with rfl | hc
    ·exact .inr (found_sub n cs _ (setA_has A c.2))
    ·exact ih _ h c hc
  ·cases h
end M
end
section
namespace M
theorem nodup_leN:∀ {l m:List Nat},l.Nodup→(∀ x∈l,x∈m)→l.length≤m.length:=by
 intro l
 induction l with
 | nil=>intro m _ _;exact Nat.zero_le _
 | cons x l ih =>
  intro m hn hs
  have hx:x∈m:=hs x (List.mem_cons_self ..)
  have h1:∀ y∈l,y∈m.erase x:=fun y hy=>by
   have:y≠x:=fun e=>by subst e;exact (List.nodup_cons.1 hn).1 hy
   exact (List.mem_erase_of_ne this).2 (hs y (List.mem_cons_of_mem _ hy))
  have h2:=ih (List.nodup_cons.1 hn).2 h1
  rw [List.length_erase_of_mem hx] at h2
  have:0 < m.length:=List.length_pos_of_mem hx
  simp only [List.length_cons]
  omega
theorem all_inN {r:List Nat} {n:Nat} (hn:r.Nodup) (hl:∀ x∈r,x < n) (he:r.length=n) {y:Nat} (hy:y < n):y∈r:=by
 apply Classical.byContradiction
 intro hny
 have:=nodup_leN (l:=y::r) (m:=List.range n) (List.nodup_cons.2 ⟨hny,hn⟩) (fun x hx=>by
  rcases List.mem_cons.1 hx with rfl | hx
  ·exact List.mem_range.2 hy
  ·exact List.mem_range.2 (hl x hx))
 simp at this
 omega
def placeI:List Int→Int→Int
 | [],_=>-1
 | x::l,e=>if x=e then 0 else if placeI l e < 0 then -1 else placeI l e+1
theorem placeI_at:∀ {l:List Int} {e:Int} {i:Nat} (hi:i < l.length),l[i]=e→(∀ j (hj:j < i),l[j]'(by omega)≠e)→placeI l e=i
 | x::l,e,0,_,h,_=>by simp at h;simp [placeI,h]
 | x::l,e,i+1,hi,h,hn=>by
  have h0:x≠e:=by simpa using hn 0 (by omega)
  have ih:=placeI_at (l:=l) (e:=e) (i:=i) (by simpa using hi) (by simpa using h) (fun j hj=>by simpa using hn (j+1) (by omega))
  rw [placeI,if_neg h0,ih,if_neg (by omega)]
  push_cast;rfl
theorem placeI_none:∀ {l:List Int} {e:Int},(∀ j (hj:j < l.length),l[j]≠e)→placeI l e=-1
 | [],_,_=>rfl
 | x::l,e,h=>by
  have h0:x≠e:=h 0 (by simp)
  rw [placeI,if_neg h0,placeI_none (fun j hj=>h (j+1) (by simpa using hj))]
  rfl
theorem placeI_bound:∀ (l:List Int) (e:Int),-1≤placeI l e∧placeI l e < l.length
 | [],_=>by simp [placeI]
 | x::l,e=>by
  have:=placeI_bound l e
  rw [placeI,List.length_cons]
  push_cast
  split
  ·omega
  ·split<;>omega
theorem placeI_mem {l:List Int} {e:Int} (h:e∈l):∃ (i:Nat) (hi:i < l.length),placeI l e=i∧l[i]=e:=by
 induction l with
 | nil=>cases h
 | cons x l ih =>
  rw [placeI]
  by_cases h0:x=e
  ·exact ⟨0,by simp,by simp [h0],by simpa using h0⟩
  ·obtain ⟨i,hi,h1,h2⟩:=ih ((List.mem_cons.1 h).resolve_left fun e'=>h0 e'.symm)
   refine ⟨i+1,by simpa using hi,?_,by simpa using h2⟩
   rw [if_neg h0,h1,if_neg (by omega)]
   push_cast;rfl
theorem line_wait {ll:List (List D)} {l:List Int} {rows:List (List Int)} {kind:Int} {r:List Nat} (h:orderLine ll l rows kind=some r) {w n:Nat} (hw:w < (deeds ll).length) (hw9:(deeds ll)[w].d.k=9) (hwl:(deeds ll)[w].last=false) (hn:n < (deeds ll).length) (hn7:(deeds ll)[n].d.k=7) :
  (decide (placeI (ints r) n < placeI (ints r) w)&&decide (placeI (ints r) (w+1:Nat) < placeI (ints r) (outOf (deeds ll) n)))=false:=by
 obtain ⟨hh,hlen,L⟩:=line_parts h
 have hh':=hh
 unfold orderHolds at hh'
 simp only [Bool.and_eq_true] at hh'
 have hp:prog ll=true:=by
  have:=hh'.2.1
  unfold execOk at this
  simp only [Bool.and_eq_true] at this
  exact this.1
 have hf:(foundA (deeds ll).length (netOf (deeds ll) l rows kind.toNat) (choices (deeds ll))).2=true:=by rw [found_waits];exact hh'.2.2.2
 have hc:((outOf (deeds ll) n,w+1),(w,n))∈choices (deeds ll):=by
  simp only [choices,List.mem_flatMap,choicesAt,List.mem_map,List.mem_filter,List.mem_range]
  exact ⟨w,⟨hw,by unfold waitsAt;rw [List.getElem?_eq_getElem hw];simp [hw9,hwl]⟩,n,⟨hn,by rw [kAt_eq hn,hn7];rfl⟩,rfl⟩
 obtain ⟨⟨⟨q1,q2⟩,_,_⟩,_⟩:=choices_ok (run_of hp) _ hc
 simp only at q1 q2
 have place:∀ x,x < (deeds ll).length→∃ (i:Nat) (hi:i < r.length),placeI (ints r) (x:Int)=i∧r[i]=x:=fun x hx=>by
  have hm:=all_inN L.nodup L.lt hlen hx
  obtain ⟨i,hi,h1,h2⟩:=placeI_mem (l:=ints r) (e:=(x:Int)) (by unfold ints;exact List.mem_map.2 ⟨x,hm,rfl⟩)
  have hi':i < r.length:=by simpa [ints] using hi
  exact ⟨i,hi',h1,by simp [ints] at h2;exact Int.ofNat.inj h2⟩
 obtain ⟨i1,hi1,e1,f1⟩:=place n hn
 obtain ⟨i2,hi2,e2,f2⟩:=place w hw
 obtain ⟨i3,hi3,e3,f3⟩:=place _ q2
 obtain ⟨i4,hi4,e4,f4⟩:=place _ q1
 rw [e1,e2,e3,e4,Bool.and_eq_false_iff]
 rcases found_has _ _ _ hf _ hc with hA | hA
 ·right
  rw [decide_eq_false_iff_not]
  intro hlt
  have:=L.ahead i4 i3 hi4 (by omega)
  rw [f3,f4] at this
  simp only at hA
  rw [hA] at this
  cases this
 ·left
  rw [decide_eq_false_iff_not]
  intro hlt
  have:=L.ahead i2 i1 hi2 (by omega)
  rw [f1,f2] at this
  simp only at hA
  rw [hA] at this
  cases this
end M
end
section
namespace M
theorem out_fact {ds:List De} {n:Nat} (h:run false ds=some false) (hn:n < ds.length) (hk:ds[n].d.k=7):n≤outOf ds n∧outOf ds n < ds.length∧∀ q (hq:q < ds.length),n≤q→q≤outOf ds n→(ds[q].d.k=8↔q=outOf ds n):=by
 obtain ⟨hm,h8⟩:=out_at h hn hk
 refine ⟨(le_outOf (by omega) (by omega)).2 fun q _ h1 h2=>by omega,hm,fun q hq h1 h2=>⟨fun hk8=>?_,fun e=>by subst e;exact h8⟩⟩
 rcases Nat.lt_or_ge q (outOf ds n) with h3 | h3
 ·exact absurd hk8 ((le_outOf (a:=n) (b:=q+1) (by omega) (by omega)).1 (by omega) q hq h1 (by omega))
 ·omega
theorem wait_law {ll:List (List D)} {l:List Int} {rows:List (List Int)} {kind:Int} {r:List Nat} (h:orderLine ll l rows kind=some r) (w:Nat) (hw:w < (deeds ll).length) (hw9:(deeds ll)[w].d.k=9) (hwl:(deeds ll)[w].last=false) (n:Nat) (hn:n < (deeds ll).length) (hn7:(deeds ll)[n].d.k=7) :
  ∃ o,n≤o∧o < (deeds ll).length∧(∀ q (hq:q < (deeds ll).length),n≤q→q≤o→((deeds ll)[q].d.k=8↔q=o))∧(decide (placeI (ints r) n < placeI (ints r) w)&&decide (placeI (ints r) ((w:Int)+1) < placeI (ints r) o))=false:=by
 have hp:prog ll=true:=by
  have:=(holds_parts_of (line_parts h).1).2
  simp only [execOk,Bool.and_eq_true] at this
  exact this.1
 obtain ⟨a,b,c⟩:=out_fact (run_of hp) hn hn7
 exact ⟨_,a,b,c,by have:=line_wait h hw hw9 hwl hn hn7;push_cast at this;exact this⟩
end M
end
end Go.Proofs.YtmhpgdliaclokaaGreat
