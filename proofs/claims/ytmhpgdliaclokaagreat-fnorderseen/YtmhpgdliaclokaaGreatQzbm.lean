/- spec.l71Exec: a drawn program, and one way in which all may have been, mostly. -/
import Derived.Test.YtmhpgdliaclokaaGreatRows
import Derived.Test.YtmhpgdliaclokaaGreatQzay
import Derived.Test.YtmhpgdliaclokaaGreatQzbk
namespace Go.Proofs.YtmhpgdliaclokaaGreat
section
open Go.RowKit
structure BxX (w:World) (b:Nat) (x y:Value):Prop where
 c0:w.cell? ⟨b,0,none⟩=some x
 c1:w.cell? ⟨b,1,none⟩=some y
 fz:∀ i,w.frozen? ⟨b,i,none⟩=false
theorem BxX.lt {w:World} {b:Nat} {x y:Value} (h:BxX w b x y):b < w.heap.size:=World.block_lt_of_cell? _ _ h.c0
theorem BxX.of {w w':World} {b:Nat} {x y:Value} (h:BxX w b x y) (hb:w'.heap[b]?=w.heap[b]?):BxX w' b x y :=
 ⟨(World.cell?_of_block (a:=⟨b,0,none⟩) hb).trans h.c0,(World.cell?_of_block (a:=⟨b,1,none⟩) hb).trans h.c1,fun i=>(World.frozen?_of_block (a:=⟨b,i,none⟩) hb).trans (h.fz i)⟩
theorem BxX.but {w w':World} {b rb:Nat} {x y:Value} (h:BxX w b x y) (hb:But rb w w') (hne:b≠rb):BxX w' b x y:=h.of (hb.block b h.lt hne)
theorem BxX.bel {w w':World} {b B:Nat} {x y:Value} (h:BxX w b x y) (hb:Below B w w') (hB:b < B):BxX w' b x y:=h.of (hb.block b hB)
theorem BxX.apart {w w':World} {b:Nat} {x y:Value} {row:Option Nat} (h:BxX w b x y) (hg:w.grownBy w' row) (hne:row≠some b):BxX w' b x y:=h.of (hg.block b h.lt (fun e=>hne e.symm))
theorem BxX.far {w:World} {b b' i:Nat} {x y:Value} (h:BxX w b x y) (hne:b'≠b) (u:Value):BxX (w.setCell ⟨b',i,none⟩ u) b x y:=h.of (Below.heap_setCell _ _ _ _ (fun e=>hne e.symm))
theorem BxX.set0 {w:World} {b:Nat} {x y:Value} (h:BxX w b x y) (u:Value):BxX (w.setCell ⟨b,0,none⟩ u) b u y :=
 ⟨World.cell?_setCell_same _ _ _ h.c0,(World.cell?_setCell_other _ _ _ _ (fun e=>by have:=congrArg Addr.off e;simp at this)).trans h.c1,fun i=>by rw [World.frozen?_setCell];exact h.fz i⟩
theorem BxX.new (w:World) (x y:Value) (t:TypeId):BxX (w.alloc (.cells #[x,y] t)) w.heap.size x y:=⟨by simp,by simp,fun i=>by simp⟩
def ExDrawn (N:Nat) (w:World) (v:Value):Prop:=∃ (a:Option Addr) (g c:Nat) (mm:List (List M.D)) (fv ov:Value) (l:List Int) (rows:List (List Int)),v=.tuple #[.agg #[.slice a mm.length c],.agg #[fv,ov]]∧DoSN N w a g 0 mm∧Small mm c∧WyP (fun b=>N≤b) w fv ov l rows∧l.length≤43∧rows.length=3∧∀ r∈rows,r.length≤7
theorem ex_end {w We:World} {B rb p' Q:Nat} {a:Option Addr} {g c:Nat} {mm:List (List M.D)} {fv ov:Value} {l:List Int} {rows:List (List Int)} (hQ:w.heap.size+1=Q) (hB:B≤rb) (hlt:rb < w.heap.size) (sn:DoSN (w.heap.size+2) We a g 0 mm) (hsm:Small mm c) (wy:WyP (fun b=>w.heap.size+2≤b) We fv ov l rows) (h1:l.length≤43) (h2:rows.length=3) (h3:∀ r∈rows,r.length≤7) (rd:Rdr We B rb p') (but:But rb w We) :
  ExDrawn (w.heap.size+2) (((We.setCell ⟨w.heap.size,0,none⟩ (.slice a mm.length c)).setCell ⟨Q,0,none⟩ fv).setCell ⟨Q,1,none⟩ ov) (.tuple #[.agg #[.slice a mm.length c],.agg #[fv,ov]])∧Rdr (((We.setCell ⟨w.heap.size,0,none⟩ (.slice a mm.length c)).setCell ⟨Q,0,none⟩ fv).setCell ⟨Q,1,none⟩ ov) B rb p'∧But rb w (((We.setCell ⟨w.heap.size,0,none⟩ (.slice a mm.length c)).setCell ⟨Q,0,none⟩ fv).setCell ⟨Q,1,none⟩ ov) :=
 ⟨⟨a,g,c,mm,fv,ov,l,rows,rfl,((sn.far (by omega)).far (by omega)).far (by omega),hsm,((wy.set (P':=fun b=>w.heap.size+2≤b) (fun b hb=>⟨hb,by omega⟩)).set (P':=fun b=>w.heap.size+2≤b) (fun b hb=>⟨hb,by omega⟩)).set (fun b hb=>⟨hb,by omega⟩),h1,h2,h3⟩,
  ((rd.setCell (by omega) (by omega) _).setCell (by omega) (by omega) _).setCell (by omega) (by omega) _,
  ((but.setCell (Or.inl (Nat.le_refl _)) _).setCell (Or.inl (by show w.heap.size≤Q;omega)) _).setCell (Or.inl (by show w.heap.size≤Q;omega)) _⟩
theorem ExDrawn.drew {N:Nat} {w:World} {v:Value} (h:ExDrawn N w v):ExDrawn N w.drew v:=by
 obtain ⟨a,g,c,mm,fv,ov,l,rows,e,h1,h2,h3,h4⟩:=h
 exact ⟨a,g,c,mm,fv,ov,l,rows,e,⟨h1.addr,h1.ge,fun i hi=>by obtain ⟨a',b',o',c',q1,q2,q3⟩:=h1.row i hi;exact ⟨a',b',o',c',q1,⟨q2.addr,fun j hj=>⟨(q2.row j hj).k,(q2.row j hj).p,(q2.row j hj).v⟩⟩,q3⟩⟩,h2,h3.keep (fun _ h=>h) (fun p u _ hc=>hc),h4⟩
theorem ex_fin {w We:World} {B rb p' Q:Nat} {a:Option Addr} {g c:Nat} {mm:List (List M.D)} {fv ov x y z:Value} {l:List Int} {rows:List (List Int)} (hQ:w.heap.size+1=Q) (hB:B≤rb) (hlt:rb < w.heap.size) (R:Slot1 We w.heap.size x) (q:BxX We Q y z) (sn:DoSN (w.heap.size+2) We a g 0 mm) (hsm:Small mm c) (wy:WyP (fun b=>w.heap.size+2≤b) We fv ov l rows) (h1:l.length≤43) (h2:rows.length=3) (h3:∀ r∈rows,r.length≤7) (rd:Rdr We B rb p') (but:But rb w We) :
  ((((We.setCell ⟨w.heap.size,0,none⟩ (.slice a mm.length c)).setCell ⟨Q,0,none⟩ fv).setCell ⟨Q,1,none⟩ ov).cell? ⟨w.heap.size,0,none⟩=some (.slice a mm.length c)∧(((We.setCell ⟨w.heap.size,0,none⟩ (.slice a mm.length c)).setCell ⟨Q,0,none⟩ fv).setCell ⟨Q,1,none⟩ ov).cell? ⟨Q,0,none⟩=some fv∧(((We.setCell ⟨w.heap.size,0,none⟩ (.slice a mm.length c)).setCell ⟨Q,0,none⟩ fv).setCell ⟨Q,1,none⟩ ov).cell? ⟨Q,1,none⟩=some ov)∧ExDrawn (w.heap.size+2) (((We.setCell ⟨w.heap.size,0,none⟩ (.slice a mm.length c)).setCell ⟨Q,0,none⟩ fv).setCell ⟨Q,1,none⟩ ov).drew (.tuple #[.agg #[.slice a mm.length c],.agg #[fv,ov]])∧Rdr (((We.setCell ⟨w.heap.size,0,none⟩ (.slice a mm.length c)).setCell ⟨Q,0,none⟩ fv).setCell ⟨Q,1,none⟩ ov).drew B rb p'∧But rb w (((We.setCell ⟨w.heap.size,0,none⟩ (.slice a mm.length c)).setCell ⟨Q,0,none⟩ fv).setCell ⟨Q,1,none⟩ ov).drew:=by
 have q6:=(q.far (i:=0) (b':=w.heap.size) (by omega) (.slice a mm.length c)).set0 fv
 obtain ⟨E1,E2,E3⟩:=ex_end hQ hB hlt sn hsm wy h1 h2 h3 rd but
 exact ⟨⟨(((R.set (.slice a mm.length c)).far (i:=0) (b':=Q) (by omega) fv).far (i:=1) (b':=Q) (by omega) ov).c,(World.cell?_setCell_other _ ⟨Q,1,none⟩ ⟨Q,0,none⟩ ov (fun e=>by have:=congrArg Addr.off e;simp at this)).trans q6.c0,World.cell?_setCell_same _ ⟨Q,1,none⟩ ov q6.c1⟩,E1.drew,E2.drew,E3.drew⟩
theorem Rdr.belE {w w':World} {B rb p E:Nat} (h:Rdr w B rb p) (hb:Below E w w') (h1:rb < E) (h2:B≤E):Rdr w' B rb p:=by
 obtain ⟨ca,cb,co,L,C,x,h⟩:=h
 exact ⟨ca,cb,co,L,C,x,(hb.cell (p:=⟨rb,0,none⟩) h1).trans h.s,(hb.cell (p:=⟨rb,1,none⟩) h1).trans h.p,(hb.frozen (p:=⟨rb,1,none⟩) h1).trans h.fz,h.ad,h.le,
  fun i hi=>⟨(hb.cell (p:=⟨cb,co+i,none⟩) (by have:=h.ne (by omega);show cb < E;omega)).trans (h.cells i hi).1,(h.cells i hi).2⟩,h.ne,h.ge⟩
theorem But.belE {w w1 w':World} {rb E:Nat} (h:But rb w w1) (hb:Below E w1 w') (hE:w.heap.size≤E):But rb w w' :=
 ⟨hb.os.trans h.os,hb.tape.trans h.tape,hb.output.trans h.output,Nat.le_trans h.size hb.size,fun k hk hne=>(hb.block k (by omega)).trans (h.block k hk hne)⟩
theorem list_three {α:Type}:∀ {l:List α},l.length=3→∃ a b c,l=[a,b,c]
 | [a,b,c],_=>⟨a,b,c,rfl⟩
theorem RX.form {w:World} {base n:Nat} {v:Value} {cs:List Value} (h:RX w base v cs n):∃ va gl cl,v=.slice va n cl∧(0 < n→va=some ⟨gl,0,none⟩∧base≤gl)∧∀ j u,cs[j]?=some u→w.cell? ⟨gl,j,none⟩=some u:=by
 rcases h.own.2 with ⟨hv,hn⟩ | ⟨g,cap,cur,hv,hg,hh,hc,r⟩
 ·have hx:cs=[]:=List.length_eq_zero_iff.1 (by rw [h.own.1,hn])
  subst hx
  exact ⟨none,0,0,by rw [hv,hn],fun h=>absurd h (by omega),fun j u hj=>(by simp at hj)⟩
 ·refine ⟨_,g,cap,hv,fun _=>⟨rfl,hg⟩,fun j u hj=>?_⟩
  have:=h.own.cells (g:=g) (by rw [hv];rfl) j u hj
  rwa [Go.WideShapes.add_plain,Nat.zero_add] at this
set_option maxHeartbeats 4000000 in
set_option maxRecDepth 100000 in
theorem l71Exec_any (B rb p:Nat) (w:World) (hp:p≤400000) (h:Rdr w B rb p) :
  Calls Tryz.prog 74 #[.pointer (some ⟨rb,0,none⟩)] w fun e w'=>∃ v,e=.returned v∧ExDrawn (w.heap.size+2) w' v∧∃ p':Nat,p'≤p+10200∧Rdr w' B rb p'∧But rb w w':=by
 obtain ⟨i0,hi,hz0,hz1,hz2⟩:=info_parts Tryz.infoInt
 have hlt:=h.lt
 have hge:=h.ge
 have hb0:=below2 w (.cells #[.slice none 0 0] 25) (.cells #[.slice none 0 0,.slice none 0 0] 29)
 have hR0:Slot1 ((w.alloc (.cells #[.slice none 0 0] 25)).alloc (.cells #[.slice none 0 0,.slice none 0 0] 29)) w.heap.size (.slice none 0 0):=(Slot1.new w _ _).ofB (alloc_old _ _ _ (by simp))
 have hQ0:BxX ((w.alloc (.cells #[.slice none 0 0] 25)).alloc (.cells #[.slice none 0 0,.slice none 0 0] 29)) (w.heap.size+1) (.slice none 0 0) (.slice none 0 0):=by
  have:=BxX.new (w.alloc (.cells #[.slice none 0 0] 25)) (.slice none 0 0) (.slice none 0 0) 29
  rwa [World.size_alloc] at this
 have hsz0:((w.alloc (.cells #[.slice none 0 0] 25)).alloc (.cells #[.slice none 0 0,.slice none 0 0] 29)).heap.size=w.heap.size+2:=by simp
 have hr0:=h.below hb0 (Nat.le_refl _)
 go_enter Tryz.func74,Tryz.ntmps74
 go_wp2_with fail
 generalize (w.alloc (.cells #[.slice none 0 0] 25)).alloc (.cells #[.slice none 0 0,.slice none 0 0] 29)=W0 at *
 obtain ⟨Q,hQe⟩:∃ Q,w.heap.size+1=Q:=⟨_,rfl⟩
 rw [hQe] at hQ0 ⊢
 refine (l71Any_any B rb p W0 hp hr0).mono ?_
 rintro e w1 ⟨a,g,c,mm,rfl,hsn1,hsm,p1,hp1,hr1,hb1⟩
 have hR1:=hR0.but hb1 (by omega)
 have hQ1:=hQ0.but hb1 (by omega)
 have hbw1:But rb w w1:=(But.of hb0).trans hb1
 have hsz1:=hb1.size
 have hsn1':=hsn1.mono (N':=w.heap.size+2) (by omega)
 clear hR0 hQ0 hb0 hr0 hb1 hsn1
 have hal:=below1 w1 (.cells #[.slice a mm.length c] 25)
 have hP2:=Slot1.new w1 (.slice a mm.length c) 25
 have hR2:=hR1.but (But.of (rb:=rb) hal) (by omega)
 have hQ2:=hQ1.but (But.of (rb:=rb) hal) (by omega)
 have hsn2:=hsn1'.but (But.of (rb:=rb) hal) (by omega)
 have hr2:=hr1.below hal (Nat.le_refl _)
 have hbw2:=hbw1.trans (But.of hal)
 have lP:=hP2.lt
 clear hR1 hQ1 hsn1' hr1 hbw1 hal
 go_wp2_with fail
 generalize w1.alloc (.cells #[.slice a mm.length c] 25)=w2 at *
 generalize w1.heap.size=P at *
 have hl3:mm.length≤1048576:=by have:=hsm.three;omega
 have hls3:∀ t∈mm,t.length≤1048576:=fun t ht=>by have:=hsm.steps t ht;omega
 refine (sexecAll_any a g 0 c mm w2 hl3 hls3 hsn2.ss).mono ?_
 rintro e w3 ⟨v,cs,n,rfl,hRX,hn,hb3⟩
 have hP3:=hP2.but (But.of (rb:=rb) hb3) (by omega)
 have hR3:=hR2.but (But.of (rb:=rb) hb3) (by omega)
 have hQ3:=hQ2.but (But.of (rb:=rb) hb3) (by omega)
 have hsn3:=hsn2.but (But.of (rb:=rb) hb3) (by omega)
 have hr3:=hr2.below hb3 (Nat.le_refl _)
 have hbw3:=hbw2.trans (But.of hb3)
 have hbt3:But rb w2 w3:=But.of hb3
 have hsz3:=hb3.size
 obtain ⟨va,gl,cl,rfl,hva,hcells⟩:=hRX.form
 clear hP2 hR2 hQ2 hr2 hbw2 hb3 hl3 hls3
 by_cases hn0:n=0
 ·subst hn0
  have P3:=hP3.c
  have R3:=hR3.c
  have R3f:=hR3.fz
  have Q30:=hQ3.c0
  have Q31:=hQ3.c1
  have Q3f:=hQ3.fz
  have lR:=hR3.lt
  have lQ:=hQ3.lt
  have lP3:=hP3.lt
  have nRQ:w.heap.size≠Q:=by omega
  have nQR:Q≠w.heap.size:=by omega
  have hb5:Below w3.heap.size w3 (((((w3.alloc (.cells #[.int .i64 (-2)] 3)).alloc (.cells #[] 3)).alloc (.cells #[] 3)).alloc (.cells #[] 3)).alloc (.cells #[.slice (some ⟨w3.heap.size+1,0,none⟩) 0 0,.slice (some ⟨w3.heap.size+1+1,0,none⟩) 0 0,.slice (some ⟨w3.heap.size+1+1+1,0,none⟩) 0 0] 26)):=bel_al (bel_al (bel_al (bel_al (bel_al (Below.refl _ _) _) _) _) _) _
  have hR5:=hR3.ofB (hb5.block _ lR)
  have hQ5:=hQ3.bel hb5 lQ
  have R5:=hR5.c
  have R5f:=hR5.fz
  have Q50:=hQ5.c0
  have Q51:=hQ5.c1
  have Q5f:=hQ5.fz
  have hsn5:=hsn3.but (But.of (rb:=rb) hb5) (by omega)
  have hr5:=hr3.below hb5 (Nat.le_refl _)
  have hbw5:=hbw3.trans (But.of hb5)
  have hwy5:WyP (fun b=>w.heap.size+2≤b) (((((w3.alloc (.cells #[.int .i64 (-2)] 3)).alloc (.cells #[] 3)).alloc (.cells #[] 3)).alloc (.cells #[] 3)).alloc (.cells #[.slice (some ⟨w3.heap.size+1,0,none⟩) 0 0,.slice (some ⟨w3.heap.size+1+1,0,none⟩) 0 0,.slice (some ⟨w3.heap.size+1+1+1,0,none⟩) 0 0] 26)) (.slice (some ⟨w3.heap.size,0,none⟩) 1 1) (.slice (some ⟨w3.heap.size+1+1+1+1,0,none⟩) 3 3) [-2] [[],[],[]]:=by
   have c5:(((((w3.alloc (.cells #[.int .i64 (-2)] 3)).alloc (.cells #[] 3)).alloc (.cells #[] 3)).alloc (.cells #[] 3)).alloc (.cells #[.slice (some ⟨w3.heap.size+1,0,none⟩) 0 0,.slice (some ⟨w3.heap.size+1+1,0,none⟩) 0 0,.slice (some ⟨w3.heap.size+1+1+1,0,none⟩) 0 0] 26)).cell? ⟨w3.heap.size,0,none⟩=some (.int .i64 (-2)):=((below1 _ _).cell (p:=⟨w3.heap.size,0,none⟩) (by simp;omega)).trans (((below1 _ _).cell (p:=⟨w3.heap.size,0,none⟩) (by simp;omega)).trans (((below1 _ _).cell (p:=⟨w3.heap.size,0,none⟩) (by simp;omega)).trans (((below1 _ _).cell (p:=⟨w3.heap.size,0,none⟩) (by simp)).trans (by simp))))
   refine ⟨⟨_,w3.heap.size,1,rfl,⟨fun _=>rfl,fun i hi=>?_⟩,fun _=>by omega⟩,⟨_,w3.heap.size+1+1+1+1,3,rfl,fun _=>⟨rfl,by omega⟩,fun i hi=>?_⟩⟩
   ·obtain ⟨rfl⟩:i=0:=by simp at hi;omega
    exact c5
   ·have h5:=alloc_new ((((w3.alloc (.cells #[.int .i64 (-2)] 3)).alloc (.cells #[] 3)).alloc (.cells #[] 3)).alloc (.cells #[] 3)) (.cells #[.slice (some ⟨w3.heap.size+1,0,none⟩) 0 0,.slice (some ⟨w3.heap.size+1+1,0,none⟩) 0 0,.slice (some ⟨w3.heap.size+1+1+1,0,none⟩) 0 0] 26) (w3.heap.size+1+1+1+1) (by simp)
    have hi3:i=0∨i=1∨i=2:=by simp at hi;omega
    rcases hi3 with rfl | rfl | rfl
    ·exact ⟨_,0,0,(by unfold World.cell?;rw [h5];rfl),IntS.nil _ _ _ _,fun h=>absurd h (Nat.lt_irrefl _)⟩
    ·exact ⟨_,0,0,(by unfold World.cell?;rw [h5];rfl),IntS.nil _ _ _ _,fun h=>absurd h (Nat.lt_irrefl _)⟩
    ·exact ⟨_,0,0,(by unfold World.cell?;rw [h5];rfl),IntS.nil _ _ _ _,fun h=>absurd h (Nat.lt_irrefl _)⟩
  have E5:=ex_end hQe hge hlt hsn5 hsm hwy5 (by simp) rfl (by intro r hr;simp at hr;rw [hr];simp) hr5 hbw5
  clear hsn5 hr5 hbw5 hwy5 hRX hcells
  go_wp2_with fail
  have R6:=(((hR5.set (.slice a mm.length c)).far (i:=0) (b':=Q) (by omega) (.slice (some ⟨w3.heap.size,0,none⟩) 1 1)).far (i:=1) (b':=Q) (by omega) (.slice (some ⟨w3.heap.size+1+1+1+1,0,none⟩) 3 3)).c
  have hQ6:=(hQ5.far (i:=0) (b':=w.heap.size) (by omega) (.slice a mm.length c)).set0 (.slice (some ⟨w3.heap.size,0,none⟩) 1 1)
  have Q60:=(World.cell?_setCell_other _ ⟨Q,1,none⟩ ⟨Q,0,none⟩ (.slice (some ⟨w3.heap.size+1+1+1+1,0,none⟩) 3 3) (fun e=>by have:=congrArg Addr.off e;simp at this)).trans hQ6.c0
  have Q61:=World.cell?_setCell_same _ ⟨Q,1,none⟩ (.slice (some ⟨w3.heap.size+1+1+1+1,0,none⟩) 3 3) hQ6.c1
  obtain ⟨E1,E2,E3⟩:=E5
  refine bodyPost_ret (v:=.tuple #[.agg #[.slice a mm.length c],.agg #[.slice (some ⟨w3.heap.size,0,none⟩) 1 1,.slice (some ⟨w3.heap.size+1+1+1+1,0,none⟩) 3 3]]) (by simp [results,Tryz.results74,go_sem,R6,Q60,Q61]) rfl ⟨_,rfl,E1,p1,by omega,E2,E3⟩
 ·have hnp:0 < n:=by omega
  have hnb:((n:Int)==0)=false:=by simp [hn0]
  obtain ⟨rfl,hgl⟩:=hva hnp
  go_wp2_with fail
  refine (pick_big B rb p1 n _ (by omega) (by omega) (by omega) hr3).mono ?_
  rintro e w4 ⟨r4,rfl,r40,r41,hr4,hb4⟩
  obtain ⟨k,rfl⟩:=Int.eq_ofNat_of_zero_le r40
  have hk:k < n:=by omega
  obtain ⟨fv,ov,l,rc,rows,e1,e2,hX,hl42,h3,h6,hoff⟩:=hRX.row k hk
  have lgl:=World.block_lt_of_cell? _ _ (hcells _ _ e1)
  have c0:=(hb4.cell (p:=⟨gl,k * 2,none⟩) lgl (by show gl≠rb;omega)).trans (hcells _ _ e1)
  have c1:=(hb4.cell (p:=⟨gl,k * 2+1,none⟩) lgl (by show gl≠rb;omega)).trans (hcells _ _ e2)
  have hX4:=hX.but hb4 (by omega)
  have hP4:=hP3.but hb4 (by omega)
  have hR4:=hR3.but hb4 (by omega)
  have hQ4:=hQ3.but hb4 (by omega)
  have hsn4:=hsn3.but hb4 (by omega)
  have hbw4:=hbw3.trans hb4
  have hbt4:=hbt3.trans hb4
  have hsz4:=hb4.size
  have i4:(k:Int) < n:=by omega
  clear hRX hcells hX hP3 hR3 hQ3 hsn3 hr3 hbw3 hb4 r40 r41 e1 e2 hoff hva
  obtain ⟨r0,r1,r2,rfl⟩:=list_three h3
  obtain ⟨u0,u1,u2,rfl⟩:=list_three (show rc.length=3 by have:=hX4.ord.1;simp at this;omega)
  have hord:w4.ownsRow w2.heap.size 26 1 ov 3 [u0,u1,u2]:=hX4.ord
  obtain ⟨fa,fb,fc,rfl,hfI,hfo⟩:=own_ints2 hX4.from_
  obtain ⟨oa,ob,oc,rfl,hoo,hocell⟩:=own_where hord
  obtain ⟨rfl,-⟩:=hoo (by omega)
  have k0:=hocell 0 u0 rfl
  clear hocell hord hoo h3
  have hoffX:=hX4.new (Nat.le_refl w4.heap.size)
  have hbX:=below1 w4 (.cells #[.slice fa l.length fc,.slice (some ⟨ob,0,none⟩) 3 oc] 29)
  have hB5:=BxX.new w4 (.slice fa l.length fc) (.slice (some ⟨ob,0,none⟩) 3 oc) 29
  have hX5:=hX4.below hbX
  have hP5:=hP4.but (But.of (rb:=rb) hbX) (by omega)
  have hR5:=hR4.but (But.of (rb:=rb) hbX) (by omega)
  have hQ5:=hQ4.but (But.of (rb:=rb) hbX) (by omega)
  have hsn5:=hsn4.but (But.of (rb:=rb) hbX) (by omega)
  have hr5:=hr4.below hbX (Nat.le_refl _)
  have hbw5:=hbw4.trans (But.of hbX)
  have hbt5:=hbt4.trans (But.of hbX)
  have hobX:=(hX4.ord.lt ob rfl).2
  have hsz5:=hbX.size
  go_wp2_with fail
  clear hX4 hP4 hR4 hQ4 hsn4 hr4 hbw4 c0 c1 k0 hbX hfI
  generalize w4.alloc (.cells #[.slice fa l.length fc,.slice (some ⟨ob,0,none⟩) 3 oc] 29)=w5 at *
  generalize w4.heap.size=X at *
  refine (pick_rdr B rb (p1+1) 12 _ (by omega) (by omega) (by omega) hr5).mono ?_
  rintro e w6 ⟨r6,rfl,r60,r61,hr6,hb6⟩
  have hX6:=hX5.but hb6 (by omega)
  have hP6:=hP5.but hb6 (by omega)
  have hR6:=hR5.but hb6 (by omega)
  have hQ6:=hQ5.but hb6 (by omega)
  have hB6:=hB5.but hb6 (by omega)
  have hsn6:=hsn5.but hb6 (by omega)
  have hbw6:=hbw5.trans hb6
  have hbt6:=hbt5.trans hb6
  have hsz6:=hb6.size
  have lX:=hB6.lt
  clear hX5 hP5 hR5 hQ5 hB5 hsn5 hr5 hbw5 hb6
  have P6:=hP6.c
  have R6:=hR6.c
  have R6f:=hR6.fz
  have Q60:=hQ6.c0
  have Q61:=hQ6.c1
  have Q6f:=hQ6.fz
  have X60:=hB6.c0
  have X61:=hB6.c1
  have X6f:=hB6.fz
  have nRQ:w.heap.size≠Q:=by omega
  have nQR:Q≠w.heap.size:=by omega
  by_cases h60:r6=0
  ·subst h60
   rcases Nat.eq_zero_or_pos l.length with hl0 | hl0
   ·have i0':¬ (0:Int) < l.length:=by omega
    clear hl0
    go_wp2_with fail
    go_region
    go_wp2_with fail
    obtain ⟨⟨F1,F2,F3⟩,E1,E2,E3⟩:=ex_fin hQe hge hlt hR6 hQ6 hsn6 hsm ((hX6.wy hoffX).keep (fun b hb=>by have:=hb.1;omega) (fun _ _ _ hc=>hc)) (by omega) rfl (fun r hr=>by have:=h6 r hr;omega) hr6 hbw6
    refine bodyPost_ret (v:=.tuple #[.agg #[.slice a mm.length c],.agg #[.slice fa l.length fc,.slice (some ⟨ob,0,none⟩) 3 oc]]) (by simp [results,Tryz.results74,go_sem,F1,F2,F3]) rfl ⟨_,rfl,E1,p1+1+1,by omega,E2,E3⟩
   ·have i0':(0:Int) < l.length:=by omega
    obtain ⟨fa',fb',fc',ef,hfI,hfo'⟩:=own_ints2 hX6.from_
    simp only [Value.slice.injEq] at ef
    obtain ⟨rfl,-,rfl⟩:=ef
    obtain ⟨rfl⟩:=hfI.addr hl0
    have hfge:w2.heap.size≤fb':=(hX6.from_.lt fb' rfl).1
    have hnX:fb'≠X:=fun e=>hoffX.from_ fb' rfl (by rw [e])
    clear hfo hfo'
    go_wp2_with fail
    go_region_held3 (fun z=>z.cell? ⟨X,0,none⟩=some (.slice (some ⟨fb',0,none⟩) l.length fc)) (go_keep) (first
     | (go_at_call_of 65 (Value.int IntKind.i64 (l.length:Int));refine (pick_rdr B rb (p1+1+1) l.length _ (by omega) (by omega) (by omega) hr6.drew).mono ?_;rintro e w7 ⟨r7,rfl,r70,r71,hr7,hb7⟩;(obtain ⟨k7,rfl⟩:=Int.eq_ofNat_of_zero_le r70);(have b7:But rb w6 w7:=(But.refl rb w6).drew.trans hb7);have Y7:=(hB6.but b7 (by omega)).c0;(have hk7:k7 < l.length:=by omega))
     | (go_at_call_of 65 (Value.int IntKind.i64 7);refine (pick_rdr B rb (p1+1+1+1) 7 _ (by omega) (by omega) (by omega) hr7).mono ?_;rintro e w8 ⟨r8,rfl,r80,r81,hr8,hb8⟩;(have b8:But rb w6 w8:=b7.trans hb8);have hB8:=hB6.but b8 (by omega);have Y8:=hB8.c0;have hX8:=hX6.but b8 (by omega);(have K8:w8.cell? ⟨fb',k7,none⟩=some (.int .i64 l[k7]):=by rw [b8.cell (p:=⟨fb',k7,none⟩) (hfI.lt hl0) (by show fb'≠rb;omega)];have:=hfI.row k7 hk7;rwa [Nat.zero_add] at this);have F8:=own_fz hX8.from_ k7))
    all_goals
     have hR8:=hR6.but b8 (by omega)
     have hQ8:=hQ6.but b8 (by omega)
     have hP8:=hP6.but b8 (by omega)
     have b28:=hbt6.trans b8
     have bw8:=hbw6.trans b8
     go_wp2_with fail
     have hbe:Below w2.heap.size w8 (w8.setCell ⟨fb',k7,none⟩ (.int .i64 (IntKind.i64.wrap (r8 - 3)))):=(Below.refl _ _).setCell (p:=⟨fb',k7,none⟩) hfge _
     have hRe:=hR8.ofB (hbe.block w.heap.size (by omega))
     have hQe':=hQ8.bel hbe (by omega)
     have hPe:=hP8.ofB (hbe.block P (by omega))
     have hBe:=(hB8.far (b':=fb') (i:=k7) hnX (.int .i64 (IntKind.i64.wrap (r8 - 3))))
     have hwye:=((hX8.setFrom (v:=IntKind.i64.wrap (r8 - 3)) hoffX hk7).keep (fun b hb=>by have:=hb.1;omega) (fun _ _ _ hc=>hc):WyP (fun b=>w.heap.size+2≤b) _ _ _ _ _)
     have hsne:=hsn2.but (b28.belE hbe (Nat.le_refl _)) (by omega)
     have hrde:=hr8.belE hbe (by omega) (by omega)
     have hbwe:=bw8.belE hbe (by omega)
     have e1:=hPe.c
     have e2:=hRe.c
     have e3:=hRe.fz
     have e4:=hQe'.c0
     have e5:=hQe'.c1
     have e6:=hQe'.fz
     have e7:=hBe.c0
     have e8:=hBe.c1
     generalize (w8.setCell ⟨fb',k7,none⟩ (.int .i64 (IntKind.i64.wrap (r8 - 3))))=We at *
     go_region
     go_wp2_with fail
     obtain ⟨⟨F1,F2,F3⟩,E1,E2,E3⟩:=ex_fin hQe hge hlt hRe hQe' hsne hsm hwye (by rw [List.length_set];omega) rfl (fun r hr=>by have:=h6 r hr;omega) hrde hbwe
     refine bodyPost_ret (v:=.tuple #[.agg #[.slice a mm.length c],.agg #[.slice (some ⟨fb',0,none⟩) l.length fc,.slice (some ⟨ob,0,none⟩) 3 oc]]) (by simp [results,Tryz.results74,go_sem,F1,F2,F3]) rfl ⟨_,rfl,E1,p1+1+1+1+1,by omega,E2,E3⟩
  ·have b60:(r6==0)=false:=by simp [h60]
   by_cases h61:r6=1
   ·subst h61
    obtain ⟨u0',e0',hrow0,hu0o,hu0f⟩:=hX6.row 0 (by simp)
    obtain ⟨rfl⟩:u0=u0':=by simpa using e0'
    have hrow0':w6.ownsRow w2.heap.size 3 1 u0 r0.length (nums r0):=hrow0
    obtain ⟨a0,b0,cc0,rfl,-,-⟩:=own_ints2 hrow0'
    obtain ⟨_,ob',_,eo,hoo,hocell⟩:=own_where hX6.ord
    obtain ⟨rfl⟩:ob=ob':=by have:=(hoo (by simp)).2;simpa [Value.ownBlock] using this
    have k06:=hocell 0 _ rfl
    have f06:=fun j=>own_fz hX6.ord j
    have hr06:r0.length≤6:=h6 r0 (by simp)
    have hal:=below1 w6 (.cells #[.int .i64 0] 3)
    have hu0ge:∀ q,(Value.slice a0 r0.length cc0).ownBlock=some q→w2.heap.size≤q:=own_ge hrow0'
    have hobge:w2.heap.size≤ob:=(hX6.ord.lt ob rfl).1
    have hobl:ob < w6.heap.size:=(hX6.ord.lt ob rfl).2
    have hnX:(Value.slice a0 r0.length cc0).ownBlock≠some X:=fun e=>hoffX.row _ (by simp) X e rfl
    have hnO:(Value.slice a0 r0.length cc0).ownBlock≠some ob:=fun e=>hu0o ob e rfl
    have hobX':ob≠X:=by omega
    have k0a:=(hal.cell (p:=⟨ob,0,none⟩) hobl).trans k06
    have x1a:=(hal.cell (p:=⟨X,1,none⟩) lX).trans X61
    have h7r:∀ r∈[r0++[0],r1,r2],r.length≤7:=fun r hr=>by
     simp only [List.mem_cons,List.not_mem_nil,or_false] at hr
     rcases hr with e | e | e
     ·rw [e];simp;omega
     ·rw [e];have:=h6 r1 (by simp);omega
     ·rw [e];have:=h6 r2 (by simp);omega
    clear hocell hoo eo
    go_wp2_with fail
    go_region_law (first
     | (refine step_append_lies _ (by rfl) (.tmp 54) (.tmp 55) 26 (by rfl) w2.heap.size 3 i0 _ 1 8 Tryz.underlying26 hi hz0 hz1 hz2 rfl (by omega) (.slice a0 r0.length cc0) r0.length (nums r0) (by rfl) (hrow0'.alloc _) ⟨w6.heap.size,0,none⟩ 1 1 [.int .i64 0] (by rfl) (by rfl) (World.news_of_block (cs:=#[.int .i64 0]) (t:=3) (fr:=(0,0)) (heap_alloc_new w6 _)) (by simp [Value.oneCell']) (by omega) (by unfold maxLen;omega) (by omega) (by (try simp);omega) (w6.heap.size+1) (by simp) ?_;intro g7 cap7 w7 hown7 hgd hat7 hlt7;(have hg7:(w6.alloc (.cells #[.int .i64 0] 3)).grownBy w7 (Value.slice a0 r0.length cc0).ownBlock:=⟨hgd.os,hgd.tape,hgd.output,hgd.size,hgd.block⟩);have hwy7:=hX6.addOrder hoffX lX hal hown7 hg7 (by simpa using hat7);have k07:=(hg7.cell_far ⟨ob,0,none⟩ (Nat.lt_of_lt_of_le hobl hal.size) (fun e=>hnO e.symm)).trans k0a;have x17:=(hg7.cell_far ⟨X,1,none⟩ (Nat.lt_of_lt_of_le lX hal.size) (fun e=>hnX e.symm)).trans x1a;have f07:=fun j=>(World.frozen?_of_block (a:=⟨ob,j,none⟩) (hg7.block ob (Nat.lt_of_lt_of_le hobl hal.size) (fun e=>hnO e.symm))).trans ((hal.frozen (p:=⟨ob,j,none⟩) hobl).trans (f06 j))))
    all_goals
     go_wp2_with fail
     have hbe:Below w2.heap.size w6 (w7.setCell ⟨ob,0,none⟩ (.slice (some ⟨g7,0,none⟩) (r0.length+1) cap7)):=((below_grown (hal.mono (by omega)) hg7 hu0ge (by simp;omega)).setCell (p:=⟨ob,0,none⟩) hobge _)
     have hRe:=hR6.ofB (hbe.block w.heap.size (by omega))
     have hQe':=hQ6.bel hbe (by omega)
     have hPe:=hP6.ofB (hbe.block P (by omega))
     have hBe:=(((hB6.of (hal.block X lX)).apart hg7 hnX).far (b':=ob) (i:=0) hobX' (.slice (some ⟨g7,0,none⟩) (r0.length+1) cap7))
     have hwye:=(hwy7.keep (fun b hb=>by have:=hb.1;omega) (fun _ _ _ hc=>hc):WyP (fun b=>w.heap.size+2≤b) _ _ _ _ _)
     have hsne:=hsn2.but (hbt6.belE hbe (Nat.le_refl _)) (by omega)
     have hrde:=hr6.belE hbe (by omega) (by omega)
     have hbwe:=hbw6.belE hbe (by omega)
     have e1:=hPe.c
     have e2:=hRe.c
     have e3:=hRe.fz
     have e4:=hQe'.c0
     have e5:=hQe'.c1
     have e6:=hQe'.fz
     have e7:=hBe.c0
     have e8:=hBe.c1
     generalize (w7.setCell ⟨ob,0,none⟩ (.slice (some ⟨g7,0,none⟩) (r0.length+1) cap7))=We at *
     go_region
     go_wp2_with fail
     obtain ⟨⟨F1,F2,F3⟩,E1,E2,E3⟩:=ex_fin hQe hge hlt hRe hQe' hsne hsm hwye (by omega) rfl h7r hrde hbwe
     refine bodyPost_ret (v:=.tuple #[.agg #[.slice a mm.length c],.agg #[.slice fa l.length fc,.slice (some ⟨ob,0,none⟩) 3 oc]]) (by simp [results,Tryz.results74,go_sem,F1,F2,F3]) rfl ⟨_,rfl,E1,p1+1+1,by omega,E2,E3⟩
   ·have b61:(r6==1)=false:=by simp [h61]
    by_cases h62:r6=2
    ·subst h62
     have hal:=below1 w6 (.cells #[.int .i64 (-2)] 3)
     have hfge:∀ q,(Value.slice fa l.length fc).ownBlock=some q→w2.heap.size≤q:=own_ge hX6.from_
     have hnX:(Value.slice fa l.length fc).ownBlock≠some X:=fun e=>hoffX.from_ X e rfl
     go_wp2_with (at_builtin;refine wpList_append_lies _ rfl (.tmp 61) (.tmp 62) 26 rfl w2.heap.size 3 i0 _ 1 8 Tryz.underlying26 hi hz0 hz1 hz2 rfl (by decide) (.slice fa l.length fc) l.length (nums l) rfl (hX6.from_.alloc _) ⟨w6.heap.size,0,none⟩ 1 1 [.int .i64 (-2)] rfl rfl (World.news_of_block (cs:=#[.int .i64 (-2)]) (t:=3) (fr:=(0,0)) (heap_alloc_new w6 _)) (by simp [Value.oneCell']) (by omega) (by unfold maxLen;omega) (by omega) (by simp;omega) (w6.heap.size+1) (by simp) ?_)
     intro g7 cap7 w7 hown7 hg7 hat7 hlt7
     have hwy7:=hX6.addFrom hoffX lX hal hown7 hg7 (by simpa using hat7)
     have hB7:=(hB6.of (hal.block X lX)).apart hg7 hnX
     have x70:=hB7.c0
     have x7f:=hB7.fz
     go_wp2_with fail
     have hbe:Below w2.heap.size w6 (w7.setCell ⟨X,0,none⟩ (.slice (some ⟨g7,0,none⟩) (l.length+1) cap7)):=((below_grown (hal.mono (by omega)) hg7 hfge (by simp;omega)).setCell (p:=⟨X,0,none⟩) (by show w2.heap.size≤X;omega) _)
     have hRe:=hR6.ofB (hbe.block w.heap.size (by omega))
     have hQe':=hQ6.bel hbe (by omega)
     have hPe:=hP6.ofB (hbe.block P (by omega))
     have hBe:=((hB6.of (hal.block X lX)).apart hg7 hnX).set0 (.slice (some ⟨g7,0,none⟩) (l.length+1) cap7)
     have hwye:=(hwy7.set (P':=fun b=>w.heap.size+2≤b) (B:=X) (i:=0) (u:=.slice (some ⟨g7,0,none⟩) (l.length+1) cap7) (fun b hb=>⟨by have:=hb.1;omega,hb.2⟩))
     have hsne:=hsn2.but (hbt6.belE hbe (Nat.le_refl _)) (by omega)
     have hrde:=hr6.belE hbe (by omega) (by omega)
     have hbwe:=hbw6.belE hbe (by omega)
     have e1:=hPe.c
     have e2:=hRe.c
     have e3:=hRe.fz
     have e4:=hQe'.c0
     have e5:=hQe'.c1
     have e6:=hQe'.fz
     have e7:=hBe.c0
     have e8:=hBe.c1
     generalize (w7.setCell ⟨X,0,none⟩ (.slice (some ⟨g7,0,none⟩) (l.length+1) cap7))=We at *
     go_region
     go_wp2_with fail
     obtain ⟨⟨F1,F2,F3⟩,E1,E2,E3⟩:=ex_fin hQe hge hlt hRe hQe' hsne hsm hwye (by simp;omega) rfl (fun r hr=>by have:=h6 r hr;omega) hrde hbwe
     refine bodyPost_ret (v:=.tuple #[.agg #[.slice a mm.length c],.agg #[.slice (some ⟨g7,0,none⟩) (l.length+1) cap7,.slice (some ⟨ob,0,none⟩) 3 oc]]) (by simp [results,Tryz.results74,go_sem,F1,F2,F3]) rfl ⟨_,rfl,E1,p1+1+1,by omega,E2,E3⟩
    ·have b62:(r6==2)=false:=by simp [h62]
     go_wp2_with fail
     go_region
     go_wp2_with fail
     obtain ⟨⟨F1,F2,F3⟩,E1,E2,E3⟩:=ex_fin hQe hge hlt hR6 hQ6 hsn6 hsm ((hX6.wy hoffX).keep (fun b hb=>by have:=hb.1;omega) (fun _ _ _ hc=>hc)) (by omega) rfl (fun r hr=>by have:=h6 r hr;omega) hr6 hbw6
     refine bodyPost_ret (v:=.tuple #[.agg #[.slice a mm.length c],.agg #[.slice fa l.length fc,.slice (some ⟨ob,0,none⟩) 3 oc]]) (by simp [results,Tryz.results74,go_sem,F1,F2,F3]) rfl ⟨_,rfl,E1,p1+1+1,by omega,E2,E3⟩
end
end Go.Proofs.YtmhpgdliaclokaaGreat
