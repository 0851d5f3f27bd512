/- A list of ways in rows of their own: memory. No condition. A way that was drawn, in memory, and what is written into one. No condition. -/
import Derived.Test.YtmhpgdliaclokaaGreatRows
import Derived.Test.YtmhpgdliaclokaaGreatQzbh
namespace Go.Proofs.YtmhpgdliaclokaaGreat
section
open Go.RowKit
theorem RX.zero {W:World} {base g:Nat} (h:W.heap[g]?=some (.cells #[] 29 (0,0))) (hb:base≤g):RX W base (.slice (some ⟨g,0,none⟩) 0 0) [] 0 :=
 ⟨⟨by simp,.inr ⟨g,0,#[],rfl,hb,h,Nat.le_refl _,Nat.zero_le _,by simp,by simp⟩⟩,fun _ hi=>absurd hi (Nat.not_lt_zero _)⟩
theorem RX.below {w w':World} {base n:Nat} {v:Value} {cs:List Value} (h:RX w base v cs n) (hb:Below w.heap.size w w'):RX w' base v cs n :=
 ⟨ownsRow_below h.own hb,fun i hi=>by
  obtain ⟨fv,ov,l,rc,rows,e1,e2,e3,e4⟩:=h.row i hi
  exact ⟨fv,ov,l,rc,rows,e1,e2,e3.below hb,e4⟩⟩
theorem RX.snoc {w W w':World} {base n:Nat} {v:Value} {cs:List Value} (h:RX w base v cs n) (hb:Below w.heap.size w W) {fv ov:Value} {l:List Int} {rc:List Value} {rows:List (List Int)} {g cap:Nat} (hx:Xw W base fv ov l rc rows) (hl:l.length≤42) (hr:rows.length=3) (hrs:∀ r∈rows,r.length≤6) (ho:Xoff fv ov rc v.ownBlock)
  (hown:w'.ownsRow base 29 2 (.slice (some ⟨g,0,none⟩) (n+1) cap) (n+1) (cs++[fv,ov])) (hg:W.grownBy w' v.ownBlock) (hat:v.ownBlock=some g∨g=W.heap.size):RX w' base (.slice (some ⟨g,0,none⟩) (n+1) cap) (cs++[fv,ov]) (n+1):=by
 have hcl:cs.length=n * 2:=h.own.1
 have hW:=h.below hb
 refine ⟨hown,fun i hi=>?_⟩
 rcases Nat.lt_or_ge i n with h1 | h1
 ·obtain ⟨fv',ov',l',rc',rows',e1,e2,e3,e4,e5,e6,e7⟩:=hW.row i h1
  exact ⟨fv',ov',l',rc',rows',by rw [List.getElem?_append_left (by omega)];exact e1,by rw [List.getElem?_append_left (by omega)];exact e2,e3.grown hg e7,e4,e5,e6,e7.turn e3 hat⟩
 ·have hie:i=n:=by omega
  subst hie
  refine ⟨fv,ov,l,rc,rows,?_,?_,hx.grown hg ho,hl,hr,hrs,ho.turn hx hat⟩
  ·rw [List.getElem?_append_right (by omega),hcl];simp
  ·rw [List.getElem?_append_right (by omega),hcl];simp
end
section
open Go.RowKit
theorem But.grows {rb:Nat} {w w':World} (h:But rb w w'):w.grownBy w' (some rb):=⟨h.os,h.tape,h.output,h.size,fun k hk hne=>h.block k hk (fun e=>hne (by rw [e]))⟩
theorem Off1.symm {u v:Value} (h:Off1 u v.ownBlock):Off1 v u.ownBlock:=fun k hk e=>h k e hk
theorem Xw.but {w w':World} {base rb:Nat} {fv ov:Value} {l:List Int} {cs:List Value} {rows:List (List Int)} (h:Xw w base fv ov l cs rows) (hb:But rb w w') (hr:rb < base):Xw w' base fv ov l cs rows :=
 h.grown hb.grows (h.off (fun k hk=>by have:rb=k:=Option.some.inj hk;omega))
structure WyP (P:Nat→Prop) (w:World) (fv ov:Value) (l:List Int) (rows:List (List Int)):Prop where
 f:∃ fa fb fc,fv=.slice fa l.length fc∧IntS w fa fb 0 l∧(0 < l.length→P fb)
 o:∃ ra rb rc,ov=.slice ra rows.length rc∧(0 < rows.length→ra=some ⟨rb,0,none⟩∧P rb)∧∀ i (h:i < rows.length),∃ a' b' c',w.cell? ⟨rb,i,none⟩=some (.slice a' rows[i].length c')∧IntS w a' b' 0 rows[i]∧(0 < rows[i].length→P b')
theorem WyP.keep {P P':Nat→Prop} {w w':World} {fv ov:Value} {l:List Int} {rows:List (List Int)} (h:WyP P w fv ov l rows) (hP:∀ b,P b→P' b) (k:∀ p u,P p.block→w.cell? p=some u→w'.cell? p=some u):WyP P' w' fv ov l rows:=by
 obtain ⟨⟨fa,fb,fc,e1,e2,e3⟩,⟨ra,rb,rc,d1,d2,d3⟩⟩:=h
 refine ⟨⟨fa,fb,fc,e1,⟨e2.addr,fun i hi=>k _ _ (e3 (by omega)) (e2.row i hi)⟩,fun h=>hP _ (e3 h)⟩,⟨ra,rb,rc,d1,fun h=>⟨(d2 h).1,hP _ (d2 h).2⟩,fun i hi=>?_⟩⟩
 obtain ⟨a',b',c',g1,g2,g3⟩:=d3 i hi
 exact ⟨a',b',c',k _ _ (d2 (by omega)).2 g1,⟨g2.addr,fun j hj=>k _ _ (g3 (by omega)) (g2.row j hj)⟩,fun h=>hP _ (g3 h)⟩
theorem WyP.set {P P':Nat→Prop} {w:World} {fv ov:Value} {l:List Int} {rows:List (List Int)} {B i:Nat} {u:Value} (h:WyP P w fv ov l rows) (hP:∀ b,P b→P' b∧b≠B):WyP P' (w.setCell ⟨B,i,none⟩ u) fv ov l rows :=
 h.keep (fun b hb=>(hP b hb).1) (fun p _ hp hc=>(World.cell?_setCell_other _ _ _ _ (fun e=>(hP _ hp).2 (by rw [← e]))).trans hc)
theorem WyP.ss {P:Nat→Prop} {w:World} {fv ov:Value} {l:List Int} {rows:List (List Int)} (h:WyP P w fv ov l rows):∃ fa fb fc ra rb rc,fv=.slice fa l.length fc∧ov=.slice ra rows.length rc∧IntS w fa fb 0 l∧IntSS w ra rb 0 rows:=by
 obtain ⟨⟨fa,fb,fc,e1,e2,e3⟩,⟨ra,rb,rc,d1,d2,d3⟩⟩:=h
 exact ⟨fa,fb,fc,ra,rb,rc,e1,d1,e2,⟨fun h=>(d2 h).1,fun i hi=>by
  obtain ⟨a',b',c',g1,g2,g3⟩:=d3 i hi
  exact ⟨a',b',0,c',by rw [Nat.zero_add];exact g1,g2⟩⟩⟩
theorem own_where {w:World} {base n:Nat} {e:TypeId} {v:Value} {xs:List Value} (h:w.ownsRow base e 1 v n xs):∃ a g c,v=.slice a n c∧(0 < n→a=some ⟨g,0,none⟩∧v.ownBlock=some g)∧∀ j u,xs[j]?=some u→w.cell? ⟨g,j,none⟩=some u:=by
 rcases h.2 with ⟨hv,hn⟩ | ⟨g,cap,cur,hv,hg,hh,hc,r⟩
 ·have hx:xs=[]:=List.length_eq_zero_iff.1 (by rw [h.1,hn])
  subst hx
  exact ⟨none,0,0,by rw [hv,hn],fun h=>absurd h (by omega),fun j u hj=>(by simp at hj)⟩
 ·refine ⟨_,g,cap,hv,fun _=>⟨rfl,by rw [hv];rfl⟩,fun j u hj=>?_⟩
  have:=h.cells (g:=g) (by rw [hv];rfl) j u hj
  rwa [Go.WideShapes.add_plain,Nat.zero_add] at this
theorem own_ints2 {w:World} {base:Nat} {e:TypeId} {v:Value} {l:List Int} (h:w.ownsRow base e 1 v l.length (nums l)):∃ a g c,v=.slice a l.length c∧IntS w a g 0 l∧(0 < l.length→v.ownBlock=some g):=by
 obtain ⟨a,g,c,e1,e2,e3⟩:=own_where h
 exact ⟨a,g,c,e1,⟨fun h=>(e2 h).1,fun i hi=>by rw [Nat.zero_add];exact e3 i _ (by simp [nums,hi])⟩,fun h=>(e2 h).2⟩
theorem Xw.wy {w:World} {base X:Nat} {fv ov:Value} {l:List Int} {cs:List Value} {rows:List (List Int)} (h:Xw w base fv ov l cs rows) (ho:Xoff fv ov cs (some X)):WyP (fun b=>base≤b∧b≠X) w fv ov l rows:=by
 obtain ⟨fa,fb,fc,e1,e2,e3⟩:=own_ints2 h.from_
 obtain ⟨ra,rb,rc,d1,d2,d3⟩:=own_where h.ord
 have key:∀ {v:Value} {g:Nat} {e:TypeId} {n:Nat} {xs:List Value},w.ownsRow base e 1 v n xs→Off1 v (some X)→v.ownBlock=some g→base≤g∧g≠X:=fun hv hof hb=>⟨(hv.lt _ hb).1,fun e=>hof _ hb (by rw [e])⟩
 refine ⟨⟨fa,fb,fc,e1,e2,fun hl=>key h.from_ ho.from_ (e3 hl)⟩,⟨ra,rb,rc,d1,fun hl=>⟨(d2 hl).1,key h.ord ho.ord (d2 hl).2⟩,fun i hi=>?_⟩⟩
 obtain ⟨u,g1,g2,_,_⟩:=h.row i hi
 obtain ⟨a',b',c',f1,f2,f3⟩:=own_ints2 g2
 exact ⟨a',b',c',by rw [← f1];exact d3 i u g1,f2,fun hl=>key g2 (ho.row u (List.mem_of_getElem? g1)) (f3 hl)⟩
theorem Xw.setFrom {w:World} {base X fb fc n k:Nat} {ov:Value} {l:List Int} {cs:List Value} {rows:List (List Int)} {v:Int} (h:Xw w base (.slice (some ⟨fb,0,none⟩) n fc) ov l cs rows) (ho:Xoff (.slice (some ⟨fb,0,none⟩) n fc) ov cs (some X)) (hk:k < l.length):WyP (fun b=>base≤b∧b≠X) (w.setCell ⟨fb,k,none⟩ (.int .i64 v)) (.slice (some ⟨fb,0,none⟩) n fc) ov (l.set k v) rows:=by
 obtain ⟨⟨fa,fb',fc',e1,e2,e3⟩,_⟩:=h.wy ho
 simp only [Value.slice.injEq] at e1
 obtain ⟨rfl,rfl,rfl⟩:=e1
 have e4:=e2.addr (by omega)
 obtain ⟨rfl⟩:fb=fb':=by simpa using e4
 have hg:=grown_set w fb k (.int .i64 v)
 have hord:Off1 ov (some fb):=fun q hq e=>h.apart fb rfl (by rw [hq];exact e.symm)
 have ord':=hord.kept h.ord hg
 obtain ⟨ra,rb,rc,d1,d2,d3⟩:=own_where ord'
 have key:∀ {v:Value} {g:Nat} {e:TypeId} {n:Nat} {xs:List Value},w.ownsRow base e 1 v n xs→Off1 v (some X)→v.ownBlock=some g→base≤g∧g≠X:=fun hv hof hb=>⟨(hv.lt _ hb).1,fun e=>hof _ hb (by rw [e])⟩
 refine ⟨⟨some ⟨fb,0,none⟩,fb,fc,by rw [List.length_set],⟨fun _=>rfl,fun i hi=>?_⟩,fun hl=>e3 (by simpa using hl)⟩,⟨ra,rb,rc,d1,fun hl=>⟨(d2 hl).1,key h.ord ho.ord (d2 hl).2⟩,fun i hi=>?_⟩⟩
 ·have hi':i < l.length:=by simpa using hi
  have c0:=e2.row i hi'
  rw [List.getElem_set]
  by_cases hik:k=i
  ·subst hik
   rw [if_pos rfl,Nat.zero_add] at *
   exact World.cell?_setCell_same _ _ _ c0
  ·rw [if_neg hik,World.cell?_setCell_other _ _ _ _ (fun e=>by have:=congrArg Addr.off e;simp at this;omega)]
   exact c0
 ·obtain ⟨u,g1,g2,_,g4⟩:=h.row i hi
  have g5:Off1 u (some fb):=g4
  have g2':=g5.kept g2 hg
  obtain ⟨a',b',c',f1,f2,f3⟩:=own_ints2 g2'
  exact ⟨a',b',c',by rw [← f1];exact d3 i u g1,f2,fun hl=>key g2 (ho.row u (List.mem_of_getElem? g1)) (f3 hl)⟩
theorem Xw.addFrom {w W w':World} {base X g cap:Nat} {fv ov:Value} {l:List Int} {cs:List Value} {rows:List (List Int)} {v:Int} (h:Xw w base fv ov l cs rows) (ho:Xoff fv ov cs (some X)) (hX:X < w.heap.size) (hb:Below w.heap.size w W) (hown:w'.ownsRow base 3 1 (.slice (some ⟨g,0,none⟩) (l.length+1) cap) (l.length+1) (nums l++[.int .i64 v])) (hg:W.grownBy w' fv.ownBlock) (hat:fv.ownBlock=some g∨g=W.heap.size):WyP (fun b=>base≤b∧b≠X) w' (.slice (some ⟨g,0,none⟩) (l.length+1) cap) ov (l++[v]) rows:=by
 have hW:=h.below hb
 have ord':=h.apart.symm.kept hW.ord hg
 obtain ⟨ra,rb,rc,d1,d2,d3⟩:=own_where ord'
 have key:∀ {v:Value} {g:Nat} {e:TypeId} {n:Nat} {xs:List Value},w.ownsRow base e 1 v n xs→Off1 v (some X)→v.ownBlock=some g→base≤g∧g≠X:=fun hv hof hb=>⟨(hv.lt _ hb).1,fun e=>hof _ hb (by rw [e])⟩
 obtain ⟨hI,hge⟩:=own_at (l:=l++[v]) hown (by simp [nums])
 refine ⟨⟨_,g,cap,by rw [List.length_append];rfl,hI,fun _=>⟨hge,?_⟩⟩,⟨ra,rb,rc,d1,fun hl=>⟨(d2 hl).1,key h.ord ho.ord (d2 hl).2⟩,fun i hi=>?_⟩⟩
 ·intro e
  rcases hat with e1 | e1
  ·exact ho.from_ g e1 (by rw [e])
  ·have:=hb.size;omega
 ·obtain ⟨u,g1,g2,_,g4⟩:=hW.row i hi
  obtain ⟨u',h1,h2,_,_⟩:=h.row i hi
  rw [g1] at h1
  obtain ⟨rfl⟩:=h1
  have g2':=g4.kept g2 hg
  obtain ⟨a',b',c',f1,f2,f3⟩:=own_ints2 g2'
  exact ⟨a',b',c',by rw [← f1];exact d3 i u g1,f2,fun hl=>key h2 (ho.row u (List.mem_of_getElem? g1)) (f3 hl)⟩
theorem Xw.addOrder {w W w':World} {base X g cap ob oc m:Nat} {fv u0:Value} {l r0:List Int} {us:List Value} {rs:List (List Int)} {v:Int} (h:Xw w base fv (.slice (some ⟨ob,0,none⟩) m oc) l (u0::us) (r0::rs)) (ho:Xoff fv (.slice (some ⟨ob,0,none⟩) m oc) (u0::us) (some X)) (hX:X < w.heap.size) (hb:Below w.heap.size w W) (hown:w'.ownsRow base 3 1 (.slice (some ⟨g,0,none⟩) (r0.length+1) cap) (r0.length+1) (nums r0++[.int .i64 v])) (hg:W.grownBy w' u0.ownBlock) (hat:u0.ownBlock=some g∨g=W.heap.size) :
  WyP (fun b=>base≤b∧b≠X) (w'.setCell ⟨ob,0,none⟩ (.slice (some ⟨g,0,none⟩) (r0.length+1) cap)) fv (.slice (some ⟨ob,0,none⟩) m oc) l ((r0++[v])::rs):=by
 have hW:=h.below hb
 have key:∀ {v:Value} {g:Nat} {e:TypeId} {n:Nat} {xs:List Value},w.ownsRow base e 1 v n xs→Off1 v (some X)→v.ownBlock=some g→base≤g∧g≠X:=fun hv hof hb=>⟨(hv.lt _ hb).1,fun e=>hof _ hb (by rw [e])⟩
 obtain ⟨u1,p1,p2,p3,p4⟩:=h.row 0 (by simp)
 obtain ⟨rfl⟩:u0=u1:=by simpa using p1
 have hobl:ob < w.heap.size:=(h.ord.lt ob rfl).2
 have ord':=(Off1.symm p3).kept hW.ord hg
 have from':=(Off1.symm p4).kept hW.from_ hg
 have hs:=grown_set w' ob 0 (.slice (some ⟨g,0,none⟩) (r0.length+1) cap)
 have from'':=(show Off1 fv (some ob) from h.apart).kept from' hs
 obtain ⟨fa,fb,fc,e1,e2,e3⟩:=own_ints2 from''
 obtain ⟨ra,rb,rc,d1,d2,d3⟩:=own_where ord'
 have ed:=(d2 (by simp)).1
 simp only [Value.slice.injEq] at d1
 obtain ⟨rfl,hm,rfl⟩:=d1
 obtain ⟨rfl⟩:ob=rb:=by simpa using ed
 have hgo:g≠ob:=fun e=>by
  rcases hat with e1 | e1
  ·exact p3 g e1 (by rw [e];rfl)
  ·have:=hb.size;omega
 have hgX:g≠X:=fun e=>by
  rcases hat with e1 | e1
  ·exact ho.row u0 (by simp) g e1 (by rw [e])
  ·have:=hb.size;omega
 obtain ⟨hI,hge⟩:=own_at (l:=r0++[v]) hown (by simp [nums])
 refine ⟨⟨fa,fb,fc,e1,e2,fun hl=>key h.from_ ho.from_ (e3 hl)⟩,⟨_,ob,oc,by rw [hm];rfl,fun _=>⟨rfl,key h.ord ho.ord rfl⟩,fun i hi=>?_⟩⟩
 rcases i with _ | i
 ·refine ⟨some ⟨g,0,none⟩,g,cap,?_,hI.far (fun _=>hgo),fun _=>⟨hge,hgX⟩⟩
  rw [World.cell?_setCell_same _ _ _ (d3 0 u0 (by simp))]
  simp
 ·obtain ⟨u,g1,g2,g3,_⟩:=hW.row (i+1) (by simpa using hi)
  obtain ⟨u',h1,h2,_,_⟩:=h.row (i+1) (by simpa using hi)
  rw [g1] at h1
  obtain ⟨rfl⟩:=h1
  have o1:Off1 u u0.ownBlock:=h.each (i+1) 0 u u0 (by omega) g1 (by simp)
  have g2':=(show Off1 u (some ob) from g3).kept (o1.kept g2 hg) hs
  obtain ⟨a',b',c',f1,f2,f3⟩:=own_ints2 g2'
  refine ⟨a',b',c',?_,f2,fun hl=>key h2 (ho.row u (List.mem_of_getElem? g1)) (f3 hl)⟩
  rw [World.cell?_setCell_other _ _ _ _ (fun e=>by have:=congrArg Addr.off e;simp at this),d3 (i+1) u g1,f1]
  rfl
end
end Go.Proofs.YtmhpgdliaclokaaGreat
