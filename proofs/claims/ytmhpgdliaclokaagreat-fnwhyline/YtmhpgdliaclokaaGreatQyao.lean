/- More on rows of the call's own, and boxes of one cell. No condition. And what goes with it: RowMore, WaCp, WaMath, WaPut, WaFw, WaCop, WaFull, ArrOp, OrMath, OrImpl, OsEq, OsOk, OrImp3, SxVal, TsMath, LpXe, RgJ, RgS, Front0. -/
import Derived.Handy
import Derived.Laws.EntriesVeiled
import Derived.LoopIn
import Derived.LoopNIn
import Derived.OwnWalkIn
import Derived.RangeFuncBound
import Derived.RangeFuncNested
import Derived.TacticsInMore
import Derived.Deep.OwnRows
import Derived.Test.YtmhpgdliaclokaaGreatRows
import Derived.Test.YtmhpgdliaclokaaGreatQyan
namespace Go.Proofs.YtmhpgdliaclokaaGreat
section
open Go.RowKit
theorem Slot1.apart {w w':World} {b:Nat} {x:Value} {row:Option Nat} (h:Slot1 w b x) (hg:w.grownBy w' row) (hr:row≠some b):Slot1 w' b x:=by
 have hne:some b≠row:=fun e=>hr e.symm
 exact ⟨hg.cell h.c hne,(World.frozen?_of_block (w:=w) (hg.block b h.lt hne)).trans h.fz⟩
end
section
open Go.RowKit
structure WyAns (w w':World) (fv ov:Value) (l:List Int) (rows:List (List Int)):Prop where
 ex:∃ cs,Xw w' w.heap.size fv ov l cs rows
 bel:Below w.heap.size w w'
structure SlotX (w:World) (b:Nat) (x y:Value):Prop where
 blk:w.heap[b]?=some (.cells #[x,y] 29)
theorem SlotX.lt {w:World} {b:Nat} {x y:Value} (h:SlotX w b x y):b < w.heap.size:=(Array.getElem?_eq_some_iff.1 h.blk).1
theorem SlotX.c0 {w:World} {b:Nat} {x y:Value} (h:SlotX w b x y):w.cell? ⟨b,0,none⟩=some x:=by simp [World.cell?,h.blk]
theorem SlotX.c1 {w:World} {b:Nat} {x y:Value} (h:SlotX w b x y):w.cell? ⟨b,1,none⟩=some y:=by simp [World.cell?,h.blk]
theorem SlotX.fz {w:World} {b:Nat} {x y:Value} (h:SlotX w b x y) (i:Nat):w.frozen? ⟨b,i,none⟩=false:=by simp [World.frozen?,h.blk]
theorem SlotX.of {w w':World} {b:Nat} {x y:Value} (h:SlotX w b x y) (hb:w'.heap[b]?=w.heap[b]?):SlotX w' b x y:=⟨hb.trans h.blk⟩
theorem SlotX.far {w:World} {b b' i:Nat} {x y:Value} (h:SlotX w b x y) (hne:b'≠b) (u:Value):SlotX (w.setCell ⟨b',i,none⟩ u) b x y:=h.of (Below.heap_setCell _ _ _ _ (fun e=>hne e.symm))
theorem SlotX.set0 {w:World} {b:Nat} {x y:Value} (h:SlotX w b x y) (u:Value):SlotX (w.setCell ⟨b,0,none⟩ u) b u y:=⟨heap_setCell_same w b 0 #[x,y] _ u h.blk⟩
theorem SlotX.set1 {w:World} {b:Nat} {x y:Value} (h:SlotX w b x y) (u:Value):SlotX (w.setCell ⟨b,1,none⟩ u) b x u:=⟨heap_setCell_same w b 1 #[x,y] _ u h.blk⟩
set_option maxHeartbeats 4000000 in
set_option maxRecDepth 100000 in
set_option linter.unusedSimpArgs false in
theorem copyExec_any (a1:Option Addr) (b1 o1 c1:Nat) (l:List Int) (a:Option Addr) (b o c:Nat) (ll:List (List Int)) (w:World) (hl1:l.length≤1048576) (hl:ll.length≤1048576) (hls:∀ t∈ll,t.length≤1048576) (hF:IntS w a1 b1 o1 l) (h:IntSS w a b o ll) :
  Calls Tryz.prog 199 #[.agg #[.slice a1 l.length c1,.slice a ll.length c]] w fun e w'=>∃ fv ov,e=.returned (.agg #[fv,ov])∧WyAns w w' fv ov l ll:=by
 obtain ⟨i0,hi,hz0,hz1,hz2⟩:=info_parts Tryz.infoRs
 have b2:=below2 w (.cells #[.slice a1 l.length c1,.slice a ll.length c] 29) (.cells #[.slice none 0 0,.slice none 0 0] 29)
 have hQ0:SlotX ((w.alloc (.cells #[.slice a1 l.length c1,.slice a ll.length c] 29)).alloc (.cells #[.slice none 0 0,.slice none 0 0] 29)) (w.heap.size+1) (.slice none 0 0) (.slice none 0 0):=⟨by have:=heap_alloc_new (w.alloc (.cells #[.slice a1 l.length c1,.slice a ll.length c] 29)) (.cells #[.slice none 0 0,.slice none 0 0] 29);rwa [World.size_alloc] at this⟩
 have hP0:SlotX ((w.alloc (.cells #[.slice a1 l.length c1,.slice a ll.length c] 29)).alloc (.cells #[.slice none 0 0,.slice none 0 0] 29)) w.heap.size (.slice a1 l.length c1) (.slice a ll.length c):=⟨(Below.heap_alloc _ _ _ (by simp)).trans (heap_alloc_new w _)⟩
 have sz0:((w.alloc (.cells #[.slice a1 l.length c1,.slice a ll.length c] 29)).alloc (.cells #[.slice none 0 0,.slice none 0 0] 29)).heap.size=w.heap.size+2:=by simp
 go_enter Tryz.func199,Tryz.ntmps199
 go_wp2_with fail
 generalize (w.alloc (.cells #[.slice a1 l.length c1,.slice a ll.length c] 29)).alloc (.cells #[.slice none 0 0,.slice none 0 0] 29)=W0 at *
 refine (newListO_any a1 b1 o1 c1 l W0 hl1 (hF.below b2 (Nat.le_refl _))).mono ?_
 rintro e W1 ⟨fv,rfl,hown,bW1⟩
 obtain ⟨fa,fc,rfl⟩:=own_slx hown
 have XB:=Xb.start bW1 hown
 rw [sz0] at XB
 have p1:=(hP0.of (bW1.block _ hP0.lt))
 have p2:=(p1.of ((below1 W1 (.cells #[.slice fa l.length fc,.slice none 0 0] 29)).block _ p1.lt))
 have y1:=p2.c1
 clear hown bW1
 go_wp2_with fail
 generalize W1.alloc (.cells #[.slice fa l.length fc,.slice none 0 0] 29)=W2 at *
 generalize W1.heap.size=X at *
 clear p1 y1 p2
 go_loopw [13] (fun s13 wr=>∃ (n:Nat) (v:Value) (cs:List Value),s13=.int .i64 n∧n≤ll.length∧Xb (w.heap.size+2) W0 wr X (.slice fa l.length fc) v l cs (ll.take n)) (fun s13 _=>ll.length - (intOf s13).toNat)
 case atStart=>exact ⟨0,_,_,rfl,Nat.zero_le _,by simpa using XB⟩
 case round =>
  obtain ⟨n,v,cs,rfl,hn,hX⟩:=hrel
  clear XB
  have hgeX:=hX.ge
  have HB:Below w.heap.size w wr:=b2.trans (hX.bel.mono (by omega))
  by_cases hlt:n < ll.length
  ·obtain ⟨rfl⟩:=h.addr (by omega)
   obtain ⟨a',b',o',c',hc,hd⟩:=(h.below HB (Nat.le_refl _)).row n hlt
   have ht:=hls _ (List.getElem_mem hlt)
   have HW:Hid (ll.take (n+1)=ll.take n++[ll[n]]):=List.take_succ_eq_append_getElem hlt
   have hmm:(ll.take n).length≤1048576:=by simp;omega
   generalize ll[n]=t at *
   generalize ll.take n=mm at *
   have i1:(n:Int) < ll.length:=by omega
   obtain ⟨av,cv,rfl⟩:=own_slx hX.xw.ord
   have x0:=hX.c1
   have lP:=hX.lt
   have F4:Hid (∀ (w4:World) (v4:Value),w4.ownsRow wr.heap.size 3 1 v4 t.length (nums t)→Below wr.heap.size wr.drew w4→∃ a4 c4,v4=.slice a4 t.length c4∧Below wr.heap.size wr w4∧Xb (w.heap.size+2) W0 w4 X (.slice fa l.length fc) (.slice av mm.length cv) l cs mm∧w4.ownsRow (w.heap.size+2) 26 1 (.slice av mm.length cv) mm.length cs):=by
    intro w4 v4 ho hb
    obtain ⟨a4,c4,e⟩:=own_slx ho
    have b4:Below wr.heap.size wr w4:=(Below.refl _ _).drew.trans hb
    exact ⟨a4,c4,e,b4,hX.below b4,(hX.below b4).xw.ord⟩
   have F5:Hid (∀ (w4:World) (a4:Option Addr) (c4:Nat),Below wr.heap.size wr w4→w4.ownsRow wr.heap.size 3 1 (.slice a4 t.length c4) t.length (nums t)→∀ (g5 cap5:Nat) (w5:World),w5.ownsRow (w.heap.size+2) 26 1 (.slice (some ⟨g5,0,none⟩) (mm.length+1) cap5) (mm.length+1) (cs++[.slice a4 t.length c4])→(w4.alloc (.cells #[.slice a4 t.length c4] 26)).grownBy w5 (Value.slice av mm.length cv).ownBlock→((Value.slice av mm.length cv).ownBlock=some g5∨g5=w4.heap.size+1) →
     Xb (w.heap.size+2) W0 (w5.setCell ⟨X,1,none⟩ (.slice (some ⟨g5,0,none⟩) (mm.length+1) cap5)) X (.slice fa l.length fc) (.slice (some ⟨g5,0,none⟩) (mm.length+1) cap5) l (cs++[.slice a4 t.length c4]) (mm++[t])∧Below w.heap.size w w5∧w5.cell? ⟨X,1,none⟩=some (.slice av mm.length cv)∧w5.frozen? ⟨X,1,none⟩=false):=by
    intro w4 a4 c4 b4 hx4 g5 cap5 w5 ho hg hat
    have hal:=below1 w4 (.cells #[.slice a4 t.length c4] 26)
    have b4a:=b4.trans (hal.mono b4.size)
    have hge:=own_ge hX.xw.ord
    have hne:some X≠(Value.slice av mm.length cv).ownBlock:=fun e=>hX.off.ord X e.symm rfl
    have hXa:=hX.below b4a
    refine ⟨hX.snoc b4a (ownsRow_below hx4 hal) ho hg (by simpa using hat),below_grown (HB.trans (b4a.mono HB.size)) hg (fun j hj=>by have:=hge j hj;omega) (Nat.le_trans HB.size b4a.size),(hg.cell_far ⟨X,1,none⟩ hXa.lt hne).trans hXa.c1,(World.frozen?_of_block (w:=w4.alloc (.cells #[.slice a4 t.length c4] 26)) (a:=⟨X,1,none⟩) (hg.block X hXa.lt hne)).trans (hXa.fz 1)⟩
   have CN:=newListO_any a' b' o' c' t wr.drew ht (hd.below (Below.refl wr.heap.size wr).drew (Nat.le_refl _))
   go_wp2_with fail
   refine wp_region_held_drew (S:=fun w'=>Below w.heap.size w w') (by kernel_rfl) HB.drew (fun hH=>?_)
   refine tk 0 17 (.pointer (some ⟨X,1,none⟩)) hH rfl rfl (by intro w' hSw;go_simp) ?_
   simp only [Act.put,zqa,zqb,zqc]
   refine tk 2 19 (.slice a' t.length c') hH rfl rfl (by intro w' hSw;go_simp) ?_
   simp only [Act.put,zqa,zqb,zqc]
   refine wpAnyH_ready (rs:=[1,3]) (by kernel_rfl) (by simp) ?_
   refine AllReadyH.cons rfl (fun K' hK=>?_) (AllReadyH.cons rfl (fun K' hK=>?_) AllReadyH.nil)
   ·have xx:=x0
    rw [if_pos (by rfl)]
    go_simp
    refine hK.out _ _ hH (fun _=>?_)
    clear hK K' xx
    refine ry 3 rfl (fun K' hK=>?_)
    refine sg 20 rfl 73 #[.tmp 19] rfl #[.slice a' t.length c'] (fun _ _=>rfl) CN ?_
    rintro e w4 ⟨v4,rfl,ho4,hb4⟩
    obtain ⟨a4,c4,rfl,b4,hS4,hR4⟩:=F4.out w4 v4 ho4 hb4
    refine ⟨_,rfl,?_⟩
    simp only [Act.put,zqa,zqb,zqc]
    refine hK.out _ _ (HB.trans (b4.mono HB.size)) (fun hH4=>?_)
    clear hK K'
    have hS4a:=(hS4.below (below1 w4 (.cells #[.slice a4 t.length c4] 26)))
    have S4a:Below w.heap.size w (w4.alloc (.cells #[.slice a4 t.length c4] 26)):=hH4.alloc hH4.size _
    refine ry 4 rfl (fun K' hK=>?_)
    rw [if_pos (by rfl)]
    go_simp
    refine hK.out _ _ S4a (fun _=>?_)
    clear hK K'
    refine ry 5 rfl (fun K' hK=>?_)
    refine step_append_lies _ (by rfl) (.tmp 18) (.tmp 21) 27 (by rfl) (w.heap.size+2) 26 i0 _ 1 24 Tryz.underlying27 hi hz0 hz1 hz2 rfl (by decide) (.slice av mm.length cv) mm.length cs (by rfl) (hR4.alloc _) ⟨w4.heap.size,0,none⟩ 1 1 [.slice a4 t.length c4] (by rfl) (by rfl) (World.news_of_block (cs:=#[.slice a4 t.length c4]) (t:=26) (fr:=(0,0)) (heap_alloc_new w4 _)) (by simp [Value.oneCell']) (by omega) (by unfold maxLen;omega) (by omega) (by have:=b4.size;simp;omega) (w4.heap.size+1) (by simp) ?_
    intro g5 cap5 w5 hown5 hg5 hat5 hlt5
    obtain ⟨hx5,b5,xc,xz⟩:=F5.out w4 a4 c4 b4 ho4 g5 cap5 w5 hown5 hg5 hat5
    simp only [Act.put,zqa,zqb,zqc]
    refine hK.out _ _ b5 (fun hH5=>?_)
    clear hK K'
    refine tk 6 23 (.pointer (some ⟨X,1,none⟩)) hH5 rfl rfl (by intro w' hSw;go_simp) ?_
    simp only [Act.put,zqa,zqb,zqc]
    refine ry 7 rfl (fun K' hK=>?_)
    rw [if_pos (by rfl)]
    go_simp
    refine hK.out _ _ (b5.setCell (by show w.heap.size≤X;omega) _) (fun _=>?_)
    clear hK K'
    refine wpAnyH_done (by kernel_rfl) ?_ _
    clear xc xz
    go_wp2_with fail
    exact ⟨⟨n+1,_,_,by go_num,by omega,by rw [HW.out];exact hx5⟩,by simp [intOf];omega⟩
   ·refine sg 20 rfl 73 #[.tmp 19] rfl #[.slice a' t.length c'] (fun _ _=>rfl) CN ?_
    rintro e w4 ⟨v4,rfl,ho4,hb4⟩
    obtain ⟨a4,c4,rfl,b4,hS4,hR4⟩:=F4.out w4 v4 ho4 hb4
    refine ⟨_,rfl,?_⟩
    simp only [Act.put,zqa,zqb,zqc]
    refine hK.out _ _ (HB.trans (b4.mono HB.size)) (fun hH4=>?_)
    clear hK K'
    have hS4a:=(hS4.below (below1 w4 (.cells #[.slice a4 t.length c4] 26)))
    have S4a:Below w.heap.size w (w4.alloc (.cells #[.slice a4 t.length c4] 26)):=hH4.alloc hH4.size _
    refine wpAnyH_ready (rs:=[1,4]) (by kernel_rfl) (by simp) ?_
    refine AllReadyH.cons rfl (fun K' hK=>?_) (AllReadyH.cons rfl (fun K' hK=>?_) AllReadyH.nil)
    ·have xx:=hS4.c1
     rw [if_pos (by rfl)]
     go_simp
     refine hK.out _ _ hH4 (fun _=>?_)
     clear hK K' xx
     refine ry 4 rfl (fun K' hK=>?_)
     rw [if_pos (by rfl)]
     go_simp
     refine hK.out _ _ S4a (fun _=>?_)
     clear hK K'
     refine ry 5 rfl (fun K' hK=>?_)
     refine step_append_lies _ (by rfl) (.tmp 18) (.tmp 21) 27 (by rfl) (w.heap.size+2) 26 i0 _ 1 24 Tryz.underlying27 hi hz0 hz1 hz2 rfl (by decide) (.slice av mm.length cv) mm.length cs (by rfl) (hR4.alloc _) ⟨w4.heap.size,0,none⟩ 1 1 [.slice a4 t.length c4] (by rfl) (by rfl) (World.news_of_block (cs:=#[.slice a4 t.length c4]) (t:=26) (fr:=(0,0)) (heap_alloc_new w4 _)) (by simp [Value.oneCell']) (by omega) (by unfold maxLen;omega) (by omega) (by have:=b4.size;simp;omega) (w4.heap.size+1) (by simp) ?_
     intro g5 cap5 w5 hown5 hg5 hat5 hlt5
     obtain ⟨hx5,b5,xc,xz⟩:=F5.out w4 a4 c4 b4 ho4 g5 cap5 w5 hown5 hg5 hat5
     simp only [Act.put,zqa,zqb,zqc]
     refine hK.out _ _ b5 (fun hH5=>?_)
     clear hK K'
     refine tk 6 23 (.pointer (some ⟨X,1,none⟩)) hH5 rfl rfl (by intro w' hSw;go_simp) ?_
     simp only [Act.put,zqa,zqb,zqc]
     refine ry 7 rfl (fun K' hK=>?_)
     rw [if_pos (by rfl)]
     go_simp
     refine hK.out _ _ (b5.setCell (by show w.heap.size≤X;omega) _) (fun _=>?_)
     clear hK K'
     refine wpAnyH_done (by kernel_rfl) ?_ _
     clear xc xz
     go_wp2_with fail
     exact ⟨⟨n+1,_,_,by go_num,by omega,by rw [HW.out];exact hx5⟩,by simp [intOf];omega⟩
    ·rw [if_pos (by rfl)]
     go_simp
     refine hK.out _ _ S4a (fun _=>?_)
     clear hK K'
     refine ry 1 rfl (fun K' hK=>?_)
     have xx:=hS4a.c1
     rw [if_pos (by rfl)]
     go_simp
     refine hK.out _ _ S4a (fun _=>?_)
     clear hK K' xx
     refine ry 5 rfl (fun K' hK=>?_)
     refine step_append_lies _ (by rfl) (.tmp 18) (.tmp 21) 27 (by rfl) (w.heap.size+2) 26 i0 _ 1 24 Tryz.underlying27 hi hz0 hz1 hz2 rfl (by decide) (.slice av mm.length cv) mm.length cs (by rfl) (hR4.alloc _) ⟨w4.heap.size,0,none⟩ 1 1 [.slice a4 t.length c4] (by rfl) (by rfl) (World.news_of_block (cs:=#[.slice a4 t.length c4]) (t:=26) (fr:=(0,0)) (heap_alloc_new w4 _)) (by simp [Value.oneCell']) (by omega) (by unfold maxLen;omega) (by omega) (by have:=b4.size;simp;omega) (w4.heap.size+1) (by simp) ?_
     intro g5 cap5 w5 hown5 hg5 hat5 hlt5
     obtain ⟨hx5,b5,xc,xz⟩:=F5.out w4 a4 c4 b4 ho4 g5 cap5 w5 hown5 hg5 hat5
     simp only [Act.put,zqa,zqb,zqc]
     refine hK.out _ _ b5 (fun hH5=>?_)
     clear hK K'
     refine tk 6 23 (.pointer (some ⟨X,1,none⟩)) hH5 rfl rfl (by intro w' hSw;go_simp) ?_
     simp only [Act.put,zqa,zqb,zqc]
     refine ry 7 rfl (fun K' hK=>?_)
     rw [if_pos (by rfl)]
     go_simp
     refine hK.out _ _ (b5.setCell (by show w.heap.size≤X;omega) _) (fun _=>?_)
     clear hK K'
     refine wpAnyH_done (by kernel_rfl) ?_ _
     clear xc xz
     go_wp2_with fail
     exact ⟨⟨n+1,_,_,by go_num,by omega,by rw [HW.out];exact hx5⟩,by simp [intOf];omega⟩
  ·have htk:ll.take n=ll:=List.take_of_length_le (by omega)
   rw [htk] at hX
   obtain ⟨av,cv,rfl⟩:=own_slx hX.xw.ord
   have hkn':¬ (n:Int) < ll.length:=by omega
   have p0:=hX.c0
   have p1:=hX.c1
   have hQ1:SlotX wr (w.heap.size+1) (.slice none 0 0) (.slice none 0 0):=hQ0.of (hX.bel.block _ (by omega))
   have q0:=hQ1.c0
   have q1:=hQ1.c1
   have qf:=hQ1.fz
   have lQ:=hQ1.lt
   have hne:X≠w.heap.size+1:=by omega
   have Q2:=(hQ1.set0 (.slice fa l.length fc)).set1 (.slice av ll.length cv)
   have r0:=Q2.c0
   have r1:=Q2.c1
   have hxo:Xoff (.slice fa l.length fc) (.slice av ll.length cv) cs (some (w.heap.size+1)):=hX.xw.off (fun k hk=>by have:w.heap.size+1=k:=Option.some.inj hk;omega)
   go_wp2_with fail
   exact bodyPost_ret (v:=.agg #[.slice fa l.length fc,.slice av ll.length cv]) (by simp [results,Tryz.results199,go_sem,r0,r1]) rfl ⟨_,_,rfl,⟨cs,((hX.xw.grown (grown_set _ _ _ _) hxo).grown (grown_set _ _ _ _) hxo).mono (by omega)⟩,(HB.setCell (by show w.heap.size≤w.heap.size+1;omega) _).setCell (by show w.heap.size≤w.heap.size+1;omega) _⟩
end
section
namespace M
abbrev Wy:=List Int × List (List Int)
def runC {α:Type}:List (α→List α)→α→List α
 | [],x=>[x]
 | c::cs,x=>(c x).flatMap (runC cs)
theorem runC_append {α:Type} (cs es:List (α→List α)) (x:α):runC (cs++es) x=(runC cs x).flatMap (runC es):=by
 induction cs generalizing x with
 | nil=>simp [runC]
 | cons c cs ih =>
  simp only [List.cons_append,runC,List.flatMap_assoc]
  congr 1
  funext y
  exact ih y
theorem runC_snoc {α:Type} (cs:List (α→List α)) (c:α→List α) (x:α):runC (cs++[c]) x=(runC cs x).flatMap c:=by
 rw [runC_append]
 congr 1
 funext y
 simp [runC]
def srcs (ds:List De) (at_:Nat):List Int:=-1::wrs (((ds[at_]?).map fun x=>x.d.p).getD 0) 0 ds
def chF (ds:List De) (at_:Nat) (x:Wy):List Wy:=(srcs ds at_).flatMap fun f=>if ends ds (x.1.set at_ f) then [(x.1.set at_ f,x.2)] else []
def chN (p:Nat) (ws:List Int) (x:Wy):List Wy:=ws.flatMap fun a=>if has (x.2.getD p []) a then [] else [(x.1,x.2.set p (x.2.getD p []++[a]))]
def init (ds:List De):List Int:=ds.map fun x=>if x.reads then -1 else -2
theorem init_cons (x:De) (xs:List De):init (x::xs)=(if x.reads then -1 else -2)::init xs:=rfl
def firstW (ds:List De):Wy:=(init ds,[[],[],[]])
def chFs (ds:List De):Nat→List De→List (Wy→List Wy)
 | _,[]=>[]
 | n,x::xs=>if x.reads then chF ds n::chFs ds (n+1) xs else chFs ds (n+1) xs
def chNs (ds:List De) (p:Nat):List (Wy→List Wy):=(wrs p 0 ds).map fun _=>chN p (wrs p 0 ds)
def wchoices (ds:List De):List (Wy→List Wy):=chFs ds 0 ds++(chNs ds 0++(chNs ds 1++chNs ds 2))
def ways (ds:List De):List Wy:=runC (wchoices ds) (firstW ds)
def allWays (ds:List De):List Wy:=(fromsOf ds ds.length []).flatMap fun f=>if ends ds f then (ordersOf ds).map fun o=>(f,o) else []
theorem endsAt_iff (ds:List De) (l:List Int):∀ (n:Nat) (xs:List De),endsAt ds l n xs=true↔∀ i,i < xs.length→(orig ds l ds.length (n+i)).isSome=true:=by
 intro n xs
 induction xs generalizing n with
 | nil=>simp [endsAt]
 | cons x xs ih =>
  simp only [endsAt,Bool.and_eq_true,ih,List.length_cons]
  constructor
  ·rintro ⟨h1,h2⟩ i hi
   cases i with
   | zero=>exact h1
   | succ i=>have:=h2 i (by omega);rwa [show n+1+i=n+(i+1) by omega] at this
  ·intro h
   exact ⟨h 0 (by omega),fun i hi=>by have:=h (i+1) (by omega);rwa [show n+(i+1)=n+1+i by omega] at this⟩
theorem ends_iff (ds:List De) (l:List Int):ends ds l=true↔∀ i,i < ds.length→(orig ds l ds.length i).isSome=true:=by
 have:=endsAt_iff ds l 0 ds
 simpa [ends] using this
theorem valFrom_undo {ds:List De} {g:List Int} {j:Nat} (hg:g.length=ds.length) (at_:Nat):valFrom ds (g.take j++init (ds.drop j)) at_=valFrom ds g at_∨valFrom ds (g.take j++init (ds.drop j)) at_ < 0:=by
 unfold valFrom
 cases hx:ds[at_]? with
 | none=>exact Or.inl rfl
 | some x =>
  have hlt:at_ < ds.length:=by
   rw [List.getElem?_eq_some_iff] at hx;exact hx.1
  dsimp only
  by_cases hr:x.reads=true
  ·simp only [hr,if_true]
   by_cases hj:at_ < j
   ·left
    rw [List.getD_eq_getElem?_getD,List.getD_eq_getElem?_getD,List.getElem?_append_left (by rw [List.length_take];omega),List.getElem?_take_of_lt hj]
   ·right
    have hl:(g.take j).length=j:=by rw [List.length_take];omega
    rw [List.getD_eq_getElem?_getD,List.getElem?_append_right (by omega),hl]
    have e:(init (ds.drop j))[at_ - j]?=some (-1):=by
     simp only [init,List.getElem?_map,List.getElem?_drop]
     rw [show j+(at_ - j)=at_ by omega,hx]
     simp [hr]
    rw [e]
    decide
  ·rw [if_neg hr,if_neg hr]
   exact Or.inl rfl
theorem orig_undo {ds:List De} {g:List Int} {j:Nat} (hg:g.length=ds.length):∀ (n at_:Nat),(orig ds g n at_).isSome=true→(orig ds (g.take j++init (ds.drop j)) n at_).isSome=true
 | 0,_,h=>h
 | n+1,at_,h=>by
  simp only [orig] at h ⊢
  rcases valFrom_undo (j:=j) hg at_ with e | e
  ·rw [e]
   split
   ·rfl
   ·rename_i hn
    rw [if_neg hn] at h
    exact orig_undo hg n _ h
  ·rw [if_pos e];rfl
theorem ends_undo {ds:List De} {g:List Int} {j:Nat} (hg:g.length=ds.length) (h:ends ds g=true):ends ds (g.take j++init (ds.drop j))=true:=by
 rw [ends_iff] at h ⊢
 exact fun i hi=>orig_undo hg _ _ (h i hi)
theorem fromsOf_pre (ds:List De):∀ (n:Nat) (f r:List Int),r∈fromsOf ds n f→r.take f.length=f
 | 0,f,r,hr=>by simp [fromsOf] at hr;simp [hr]
 | n+1,f,r,hr=>by
  have key:∀ v:Int,r∈fromsOf ds n (f++[v])→r.take f.length=f:=fun v hv=>by
   have:=fromsOf_pre ds n (f++[v]) r hv
   have e:=congrArg (List.take f.length) this
   rw [List.take_take,List.length_append] at e
   simpa using e
  rw [fromsOf] at hr
  by_cases hc:((ds[f.length]?).map De.reads).getD false=true
  ·rw [if_pos hc,List.mem_append,List.mem_flatMap] at hr
   rcases hr with hv | ⟨v,_,hv⟩
   ·exact key _ hv
   ·exact key _ hv
  ·rw [if_neg hc] at hr
   exact key _ hr
theorem run_from (ds:List De) (o:List (List Int)):∀ (n:Nat) (f:List Int),f.length+n=ds.length→ends ds (f++init (ds.drop f.length))=true →
  runC (chFs ds f.length (ds.drop f.length)) (f++init (ds.drop f.length),o)=(fromsOf ds n f).flatMap fun g=>if ends ds g then [(g,o)] else []
 | 0,f,hl,he=>by
  have e:ds.drop f.length=[]:=List.drop_eq_nil_of_le (by omega)
  rw [e] at he ⊢
  simp only [init,List.map_nil,List.append_nil] at he
  simp [chFs,runC,fromsOf,init,he]
 | n+1,f,hl,he=>by
  have hlt:f.length < ds.length:=by omega
  have e:ds.drop f.length=ds[f.length]::ds.drop (f.length+1):=(List.getElem_cons_drop hlt).symm
  have hx:ds[f.length]?=some ds[f.length]:=List.getElem?_eq_getElem hlt
  have hap:∀ v:Int,(f++[v]).length=f.length+1:=fun v=>by simp
  rw [e] at he ⊢
  cases hr:De.reads ds[f.length]
  ·rw [froms_no hlt rfl hr]
   have ei:f++init (ds[f.length]::ds.drop (f.length+1))=(f++[-2])++init (ds.drop (f++[-2]).length):=by
    rw [hap,init_cons,hr];simp
   rw [ei] at he ⊢
   have ih:=run_from ds o n (f++[-2]) (by rw [hap];omega) he
   rw [hap] at ih
   simp only [chFs,hr,Bool.false_eq_true,if_false,hap]
   exact ih
  ·rw [froms_yes hlt rfl hr]
   simp only [chFs,hr,if_true,runC]
   have hs:srcs ds f.length=-1::wrs (ds[f.length]).d.p 0 ds:=by simp [srcs,hx]
   have step:∀ v:Int,(if ends ds ((f++init (ds[f.length]::ds.drop (f.length+1))).set f.length v) then [((f++init (ds[f.length]::ds.drop (f.length+1))).set f.length v,o)] else []).flatMap (runC (chFs ds (f.length+1) (ds.drop (f.length+1))))=(fromsOf ds n (f++[v])).flatMap fun g=>if ends ds g then [(g,o)] else []:=by
    intro v
    have ei:(f++init (ds[f.length]::ds.drop (f.length+1))).set f.length v=(f++[v])++init (ds.drop (f++[v]).length):=by
     rw [hap,init_cons,List.set_append_right _ _ (Nat.le_refl _)]
     simp
    rw [ei]
    by_cases hE:ends ds ((f++[v])++init (ds.drop (f++[v]).length))=true
    ·rw [if_pos hE,List.flatMap_cons,List.flatMap_nil,List.append_nil]
     have ih:=run_from ds o n (f++[v]) (by rw [hap];omega) hE
     rw [hap] at ih ⊢
     exact ih
    ·rw [if_neg hE,List.flatMap_nil]
     symm
     rw [List.flatMap_eq_nil_iff]
     intro g hg
     rw [if_neg]
     intro hgE
     have hlen:=fromsOf_each ds n _ g hg
     have hpre:=fromsOf_pre ds n _ g hg
     have:=ends_undo (j:=(f++[v]).length) (by rw [hlen,hap];omega) hgE
     rw [hpre] at this
     exact hE this
   unfold chF
   simp only []
   rw [hs,List.flatMap_cons,List.flatMap_append,step (-1),List.flatMap_assoc,List.flatMap_append]
   congr 1
   rw [List.flatMap_assoc]
   congr 1
   funext v
   exact step v
theorem run_rows (p:Nat) (ws:List Int) (g:List Int):∀ (n:Nat) (o:List (List Int)),p < o.length→runC (List.replicate n (chN p ws)) (g,o)=(rowsOf ws n (o.getD p [])).map fun r=>(g,o.set p r)
 | 0,o,hp=>by
  simp only [List.replicate_zero,runC,rowsOf,List.map_cons,List.map_nil]
  rw [List.getD_eq_getElem?_getD,List.getElem?_eq_getElem hp,Option.getD_some,List.set_getElem_self]
 | n+1,o,hp=>by
  simp only [List.replicate_succ,runC,rowsOf,chN]
  rw [List.flatMap_assoc,List.map_flatMap]
  congr 1
  funext v
  by_cases hh:has (o.getD p []) v=true
  ·rw [if_pos hh,if_pos hh];rfl
  ·rw [if_neg hh,if_neg hh,List.flatMap_cons,List.flatMap_nil,List.append_nil]
   rw [run_rows p ws g n _ (by simpa using hp)]
   have e1:(o.set p (o.getD p []++[v])).getD p []=o.getD p []++[v]:=by
    rw [List.getD_eq_getElem?_getD,List.getElem?_set_self hp];rfl
   rw [e1]
   congr 1
   funext r
   rw [List.set_set]
theorem chNs_rep (ds:List De) (p:Nat):chNs ds p=List.replicate (wrs p 0 ds).length (chN p (wrs p 0 ds)):=by
 unfold chNs
 rw [List.map_const']
theorem run_orders (ds:List De) (g:List Int):runC (chNs ds 0++(chNs ds 1++chNs ds 2)) (g,[[],[],[]])=(ordersOf ds).map fun o=>(g,o):=by
 rw [runC_append,chNs_rep ds 0,run_rows 0 _ g _ _ (by simp)]
 unfold ordersOf addPlace
 simp only [List.flatMap_cons,List.flatMap_nil,List.append_nil,List.nil_append,List.flatMap_map,List.map_flatMap,List.map_map,List.flatMap_assoc]
 congr 1
 funext r0
 have e0:([[],[],[]]:List (List Int)).set 0 r0=[r0,[],[]]:=rfl
 rw [e0,runC_append,chNs_rep ds 1,run_rows 1 _ g _ _ (by simp)]
 simp only [List.flatMap_map]
 congr 1
 funext r1
 have e1:([r0,[],[]]:List (List Int)).set 1 r1=[r0,r1,[]]:=rfl
 rw [e1,chNs_rep ds 2,run_rows 2 _ g _ _ (by simp)]
 rfl
def Cop (ds:List De):Prop:=∀ (n:Nat) (x:De),ds[n]?=some x→x.d.k=3→x.reads=false→0≤x.lr→(x.lr.toNat < n∧∃ y:De,ds[x.lr.toNat]?=some y∧y.reads=true)
theorem ends_init {ds:List De} (hc:Cop ds):ends ds (init ds)=true:=by
 rw [ends_iff]
 intro i hi
 have hv:∀ j x,ds[j]?=some x→x.reads=true→valFrom ds (init ds) j=-1:=fun j x hx hr=>by
  simp [valFrom,hx,hr,init,List.getD_eq_getElem?_getD]
 have hx:ds[i]?=some ds[i]:=List.getElem?_eq_getElem hi
 obtain ⟨n,hn⟩:∃ n,ds.length=n+1:=⟨ds.length - 1,by omega⟩
 rw [hn]
 simp only [orig]
 by_cases hneg:valFrom ds (init ds) i < 0
 ·rw [if_pos hneg];rfl
 ·rw [if_neg hneg]
  have hr:ds[i].reads=false:=by
   cases hr:ds[i].reads
   ·rfl
   ·rw [hv i _ hx hr] at hneg;exact absurd (by decide) hneg
  have hk:ds[i].d.k=3:=by
   by_cases hk:ds[i].d.k=3
   ·exact hk
   ·have:valFrom ds (init ds) i=-1:=by simp [valFrom,hx,hr,hk]
    rw [this] at hneg;exact absurd (by decide) hneg
  have he:valFrom ds (init ds) i=ds[i].lr:=by simp [valFrom,hx,hr,hk]
  rw [he] at hneg ⊢
  obtain ⟨hlt,y,hy,hyr⟩:=hc i _ hx hk hr (by omega)
  obtain ⟨m,rfl⟩:∃ m,n=m+1:=⟨n - 1,by omega⟩
  simp only [orig]
  rw [if_pos (by rw [hv _ y hy hyr];decide)]
  rfl
theorem ways_eq {ds:List De} (hc:Cop ds):ways ds=allWays ds:=by
 unfold ways wchoices firstW allWays
 rw [runC_append]
 have h:=run_from ds [[],[],[]] ds.length [] (by simp) (by simpa using ends_init hc)
 simp only [List.length_nil,List.drop_zero,List.nil_append] at h
 rw [h,List.flatMap_assoc]
 congr 1
 funext f
 by_cases hE:ends ds f=true
 ·simp only [hE,if_true,List.flatMap_cons,List.flatMap_nil,List.append_nil]
  exact run_orders ds f
 ·simp [hE]
end M
end
section
open Go.RowKit
theorem Xw.putRow {W w':World} {B ob n oc p g cap:Nat} {fv u:Value} {l r:List Int} {cs:List Value} {rows:List (List Int)} (h:Xw W B fv (.slice (some ⟨ob,0,none⟩) n oc) l cs rows) (hp:p < rows.length) (hu:cs[p]?=some u)
  (ho:w'.ownsRow B 3 1 (.slice (some ⟨g,0,none⟩) r.length cap) r.length (nums r)) (hg:W.grownBy w' u.ownBlock) (hat:u.ownBlock=some g∨g=W.heap.size) :
  Xw (w'.setCell ⟨ob,p,none⟩ (.slice (some ⟨g,0,none⟩) r.length cap)) B fv (.slice (some ⟨ob,0,none⟩) n oc) l (cs.set p (.slice (some ⟨g,0,none⟩) r.length cap)) (rows.set p r):=by
 have hl:cs.length=rows.length:=by have:=h.ord.1;omega
 obtain ⟨on,oc',eo⟩:=own_slx h.ord
 simp only [Value.slice.injEq] at eo
 obtain ⟨_,rfl,_⟩:=eo
 obtain ⟨u0,e1,e2,e3,e4⟩:=h.row p hp
 rw [hu] at e1
 obtain rfl:=Option.some.inj e1
 have turn:∀ {v:Value} {e:TypeId} {m:Nat} {xs:List Value},W.ownsRow B e 1 v m xs→Off1 v u.ownBlock→Off1 v (some g):=fun hv hoff=>by
  rcases hat with e | e
  ·rw [← e];exact hoff
  ·exact Off1.new hv (by omega)
 have sym:∀ {v:Value} {k:Option Nat},Off1 v k→∀ j,k=some j→v.ownBlock≠some j:=fun hoff j hj e=>hoff j e hj
 have offo:Off1 (.slice (some ⟨ob,0,none⟩) rows.length oc) u.ownBlock:=fun k hk e=>e3 k e hk
 have offf:Off1 fv u.ownBlock:=fun k hk e=>e4 k e hk
 have ho':=offo.kept h.ord hg
 have hf':=offf.kept h.from_ hg
 have gno:g≠ob:=fun e=>turn h.ord offo ob rfl (by rw [e])
 obtain ⟨st,_⟩:=ho'.stored p (.slice (some ⟨g,0,none⟩) r.length cap)
 have hs:=grown_set w' ob p (.slice (some ⟨g,0,none⟩) r.length cap)
 have keep:∀ {v:Value} {m:Nat} {xs:List Value},w'.ownsRow B 3 1 v m xs→Off1 v (some ob)→(w'.setCell ⟨ob,p,none⟩ (.slice (some ⟨g,0,none⟩) r.length cap)).ownsRow B 3 1 v m xs:=fun hv hoff=>hoff.kept hv hs
 have hfo:Off1 fv (some ob):=fun k hk e=>h.apart k hk (by rw [← e];rfl)
 refine ⟨keep hf' hfo,?_,fun i hi=>?_,h.apart,fun i j v v' hij h1 h2=>?_⟩
 ·rw [List.length_set]
  exact st
 ·rw [List.length_set] at hi
  by_cases e:i=p
  ·subst e
   refine ⟨_,List.getElem?_set_self (by omega),?_,fun k hk e=>gno ?_,fun k hk e=>?_⟩
   ·rw [List.getElem_set_self]
    exact keep ho (fun k hk e=>gno (by have h1:g=k:=Option.some.inj hk;have h2:ob=k:=Option.some.inj e;omega))
   ·have h1:g=k:=Option.some.inj hk
    have h2:ob=k:=Option.some.inj e
    omega
   ·have h1:g=k:=Option.some.inj hk
    exact turn h.from_ offf k e (by rw [h1])
  ·obtain ⟨v,f1,f2,f3,f4⟩:=h.row i hi
   have hoff:Off1 v u.ownBlock:=h.each i p v u e f1 hu
   refine ⟨v,by rw [List.getElem?_set_ne (fun h=>e h.symm)];exact f1,?_,f3,f4⟩
   rw [List.getElem_set_ne (fun h=>e h.symm)]
   exact keep (hoff.kept f2 hg) (fun k hk e=>f3 k hk (by rw [← e];rfl))
 ·have old:∀ (a:Nat) (x:Value),cs[a]?=some x→∃ t,W.ownsRow B 3 1 x (List.length t) (nums t):=fun a x hx=>by
   have ha:=(List.getElem?_eq_some_iff.1 hx).1
   obtain ⟨v0,f1,f2,_⟩:=h.row a (by omega)
   rw [hx] at f1
   obtain rfl:=Option.some.inj f1
   exact ⟨_,f2⟩
  by_cases ei:i=p
  ·subst ei
   rw [List.getElem?_set_self (by omega)] at h1
   obtain rfl:=Option.some.inj h1
   rw [List.getElem?_set_ne (fun h=>hij h)] at h2
   obtain ⟨t,ht⟩:=old j v' h2
   have:=turn ht (h.each j i v' u (fun h=>hij h.symm) h2 hu)
   exact fun k hk e=>this k e (by have h3:g=k:=Option.some.inj hk;rw [h3])
  ·rw [List.getElem?_set_ne (fun h=>ei h.symm)] at h1
   by_cases ej:j=p
   ·subst ej
    rw [List.getElem?_set_self (by omega)] at h2
    obtain rfl:=Option.some.inj h2
    obtain ⟨t,ht⟩:=old i v h1
    exact turn ht (h.each i j v u ei h1 hu)
   ·rw [List.getElem?_set_ne (fun h=>ej h.symm)] at h2
    exact h.each i j v v' hij h1 h2
end
section
open Go.RowKit
theorem own_farW {w:World} {b i B n:Nat} {v:Value} {xs:List Value} (ho:w.ownsRow B 3 1 v n xs) (hb:b < B) (u:Value):(w.setCell ⟨b,i,none⟩ u).ownsRow B 3 1 v n xs:=by
 refine ⟨ho.1,?_⟩
 rcases ho.2 with h | ⟨g,cap,cur,hv,hg,hh,r⟩
 ·exact .inl h
 ·exact .inr ⟨g,cap,cur,hv,hg,(Below.heap_setCell _ _ _ _ (by show g≠b;omega)).trans hh,r⟩
structure FwI (w wr:World) (fv:Value) (l:List Int):Prop where
 bel:Below w.heap.size w wr
 res:SlotX wr w.heap.size (.slice none 0 0) (.slice none 0 0)
 row:wr.heap[w.heap.size+1]?=some (.cells #[.slice none 0 0,.slice none 0 0,.slice none 0 0] 26)
 x:SlotX wr (w.heap.size+1+1) fv (.slice (some ⟨w.heap.size+1,0,none⟩) 3 3)
 own:wr.ownsRow (w.heap.size+1+1+1) 3 1 fv l.length (nums l)
theorem FwI.lt {w wr:World} {fv:Value} {l:List Int} (h:FwI w wr fv l):w.heap.size+1+1 < wr.heap.size:=h.x.lt
theorem FwI.below {w wr w1:World} {fv:Value} {l:List Int} (h:FwI w wr fv l) (hb:Below wr.heap.size wr w1):FwI w w1 fv l:=by
 have hl:=h.lt
 exact ⟨h.bel.trans (hb.mono h.bel.size),h.res.of (hb.block _ (by omega)),(hb.block _ (by omega)).trans h.row,h.x.of (hb.block _ hl),ownsRow_below h.own hb⟩
theorem FwI.snoc {w wr w3:World} {fv v':Value} {l l':List Int} {o:Obj} (h:FwI w wr fv l) (hg:(wr.alloc o).grownBy w3 fv.ownBlock) (ho:w3.ownsRow (w.heap.size+1+1+1) 3 1 v' l'.length (nums l')) :
  FwI w (w3.setCell ⟨w.heap.size+1+1,0,none⟩ v') v' l':=by
 have h1:=h.below (below1 wr o)
 have hl:=h1.lt
 have hge:=own_ge h.own
 have blk:∀ k,k < w.heap.size+1+1+1→w3.heap[k]?=(wr.alloc o).heap[k]?:=fun k hk=>hg.block k (by omega) (fun e=>by have:=hge k e.symm;omega)
 have hs:=h1.x.of (blk _ (by omega))
 exact ⟨(below_grown h1.bel hg (fun k hk=>by have:=hge k hk;omega) (by omega)).setCell (by show w.heap.size≤w.heap.size+1+1;omega) _,(h1.res.of (blk _ (by omega))).far (by omega) _,(Below.heap_setCell _ _ _ _ (by show w.heap.size+1≠w.heap.size+1+1;omega)).trans ((blk _ (by omega)).trans h1.row),hs.set0 _,own_farW ho (by omega) _⟩
theorem FwI.ans {w wr:World} {fv:Value} {l:List Int} (h:FwI w wr fv l):WyAns w ((wr.setCell ⟨w.heap.size,0,none⟩ fv).setCell ⟨w.heap.size,1,none⟩ (.slice (some ⟨w.heap.size+1,0,none⟩) 3 3)) fv (.slice (some ⟨w.heap.size+1,0,none⟩) 3 3) l [[],[],[]]:=by
 have hn:∀ (W:World),W.ownsRow w.heap.size 3 1 (.slice none 0 0) ([]:List Int).length (nums []):=fun W=>World.ownsRow_nil _ _ _ _
 have hge:=own_ge h.own
 have hlt:=h.lt
 have ho:∀ row,Off1 (.slice none 0 0) row:=fun row k hk=>by cases hk
 refine ⟨⟨[.slice none 0 0,.slice none 0 0,.slice none 0 0],own_mono (own_farW (own_farW h.own (by omega) _) (by omega) _) (by omega),⟨rfl,Or.inr ⟨w.heap.size+1,3,#[.slice none 0 0,.slice none 0 0,.slice none 0 0],rfl,by omega,?_,by show 3≤3;omega,by unfold maxLen;omega,rfl,rfl⟩⟩,fun i hi=>⟨.slice none 0 0,?_,?_,ho _,ho _⟩,fun k hk e=>?_,fun i j u u' _ hu _=>?_⟩,?_⟩
 ·rw [Below.heap_setCell _ _ _ _ (by show w.heap.size+1≠w.heap.size;omega),Below.heap_setCell _ _ _ _ (by show w.heap.size+1≠w.heap.size;omega)]
  exact h.row
 ·match i,hi with
  | 0,_=>rfl
  | 1,_=>rfl
  | 2,_=>rfl
 ·match i,hi with
  | 0,_=>exact hn _
  | 1,_=>exact hn _
  | 2,_=>exact hn _
 ·have h1:=hge k hk
  have h2:w.heap.size+1=k:=Option.some.inj e
  omega
 ·have:u=.slice none 0 0:=by
   have:=List.mem_of_getElem? hu
   simpa using this
  rw [this];exact ho _
 ·exact (h.bel.setCell (Nat.le_refl _) _).setCell (Nat.le_refl _) _
theorem M.init_step {ds:List M.De} {n:Nat} (h:n < ds.length):M.init (ds.take (n+1))=M.init (ds.take n)++[if ds[n].reads then -1 else -2]:=by
 rw [List.take_succ_eq_append_getElem h];unfold M.init;rw [List.map_append];rfl
set_option maxHeartbeats 1000000 in
set_option maxRecDepth 100000 in
theorem firstWay_any (va:Option Addr) (g c:Nat) (ds:List M.De) (w:World) (hl:ds.length≤1000) (h:DeS w va g ds) :
  Calls Tryz.prog 118 #[.slice va ds.length c] w fun e w'=>∃ fv ov,e=.returned (.agg #[fv,ov])∧WyAns w w' fv ov (M.init ds) [[],[],[]]:=by
 have hmk:∀ w:World,(Instr.makeSlice 27 (.int .i64 3) (.int .i64 3)).run Tryz.prog w=.ok (.slice (some ⟨w.heap.size,0,none⟩) 3 3) (w.alloc (.cells #[.slice none 0 0,.slice none 0 0,.slice none 0 0] 26)):=fun w=>by
  have:=run_make_row' (P:=Tryz.prog) 27 26 (.slice none 0 0) 24 Tryz.underlying27 Tryz.infoRs rfl .i64 .i64 3 (by omega) (by omega) w
  rw [show madeCells #[Value.slice none 0 0] 3=#[.slice none 0 0,.slice none 0 0,.slice none 0 0] from by kernel_rfl] at this
  exact this
 obtain ⟨i0,hi,hz0,hz1,hz2⟩:=info_parts Tryz.infoInt
 go_enter Tryz.func118,Tryz.ntmps118
 go_wp2_with fail
 have A0:FwI w (((w.alloc (.cells #[.slice none 0 0,.slice none 0 0] 29)).alloc (.cells #[.slice none 0 0,.slice none 0 0,.slice none 0 0] 26)).alloc (.cells #[.slice none 0 0,.slice (some ⟨w.heap.size+1,0,none⟩) 3 3] 29)) (.slice none 0 0) []:=by
  refine ⟨below3 w _ _ _,⟨?_⟩,?_,⟨alloc_new _ _ _ (by simp)⟩,World.ownsRow_nil _ _ _ _⟩
  ·rw [alloc_old _ _ _ (by simp;omega),alloc_old _ _ _ (by simp)];exact alloc_new _ _ _ (by simp)
  ·rw [alloc_old _ _ _ (by simp)];exact alloc_new _ _ _ (by simp)
 generalize ((w.alloc (.cells #[.slice none 0 0,.slice none 0 0] 29)).alloc (.cells #[.slice none 0 0,.slice none 0 0,.slice none 0 0] 26)).alloc (.cells #[.slice none 0 0,.slice (some ⟨w.heap.size+1,0,none⟩) 3 3] 29)=W0 at *
 clear hmk
 go_loopw [11] (fun s11 wr=>∃ (n:Nat) (acc:List Int) (v:Value),s11=.int .i64 n∧n≤ds.length∧acc.length≤n∧Hid (M.init (ds.take n)=acc)∧FwI w wr v acc) (fun s11 _=>ds.length - (intOf s11).toNat)
 case atStart=>exact ⟨0,[],_,rfl,Nat.zero_le _,Nat.le_refl _,by show _=_;rfl,A0⟩
 case round =>
  clear A0
  obtain ⟨n,acc,v,rfl,hn,hacc,HW,A⟩:=hrel
  by_cases hlt:n < ds.length
  ·obtain ⟨rfl⟩:=h.addr (by omega)
   have hx:=DeS.at (h.bel A.bel (Nat.le_refl _)) hlt
   have HW2:Hid (M.init (ds.take (n+1))=acc++[if (ds[n]).reads then -1 else -2]):=by show _=_;rw [M.init_step hlt,HW.out]
   clear HW
   generalize ds[n]=x at *
   obtain ⟨c0,c1,c2,c3,c4,c5,c6⟩:=hx
   have i1:(n:Int) < ds.length:=by omega
   have lg:g < wr.heap.size:=World.block_lt_of_cell? _ _ c0
   have A2:=A.below (below2 wr (.cells #[.int .i64 (x.t:Int),.int .i64 (x.i:Int),.bool x.last,.int .i64 x.d.k,.int .i64 x.d.p,.int .i64 x.d.v,.int .i64 x.lr] 96) (.cells #[.int .i64 (x.t:Int),.int .i64 (x.i:Int),.bool x.last,.int .i64 x.d.k,.int .i64 x.d.p,.int .i64 x.d.v,.int .i64 x.lr] 96))
   obtain ⟨av,cv,hav⟩:=own_slx A2.own
   subst hav
   have cS:=A2.x.c0
   have lS:=A.lt
   cases ht:x.reads
   ·go_wp2_with (first | (go_at_call 123;refine (deReads_any x _).mono ?_;rw [ht];rintro e w' ⟨rfl,rfl⟩) | (at_builtin;refine wpList_append_lies _ rfl (.tmp 18) (.tmp 20) 26 rfl (w.heap.size+1+1+1) 3 i0 _ 1 8 Tryz.underlying26 hi hz0 hz1 hz2 rfl (by decide) _ _ _ rfl (A2.own.alloc _) ⟨wr.heap.size+1+1,0,none⟩ 1 1 [.int .i64 (-2)] rfl rfl (World.news_of_block (cs:=#[.int .i64 (-2)]) (t:=3) (fr:=(0,0)) (by have:=heap_alloc_new ((wr.alloc (.cells #[.int .i64 (x.t:Int),.int .i64 (x.i:Int),.bool x.last,.int .i64 x.d.k,.int .i64 x.d.p,.int .i64 x.d.v,.int .i64 x.lr] 96)).alloc (.cells #[.int .i64 (x.t:Int),.int .i64 (x.i:Int),.bool x.last,.int .i64 x.d.k,.int .i64 x.d.p,.int .i64 x.d.v,.int .i64 x.lr] 96)) (.cells #[.int .i64 (-2)] 3);simpa using this)) (by simp [Value.oneCell']) (by omega) (by unfold maxLen;omega) (by omega) (by simp;omega) (wr.heap.size+1+1+1) (by simp) ?_))
    intro g6 cap6 w6 hown6 hg6 hat6 hlt6
    have hown6':w6.ownsRow (w.heap.size+1+1+1) 3 1 (.slice (some ⟨g6,0,none⟩) (acc.length+1) cap6) (acc++[(-2:Int)]).length (nums (acc++[(-2:Int)])):=by rw [List.length_append];simpa [nums] using hown6
    have A4:=A2.snoc hg6 hown6'
    have hge:=own_ge A2.own
    have lX:w.heap.size+1+1 < wr.heap.size+1+1+1:=by omega
    have cS6:w6.cell? ⟨w.heap.size+1+1,0,none⟩=some (.slice av acc.length cv):=(hg6.cell_far ⟨w.heap.size+1+1,0,none⟩ (by simp;omega) (fun e=>by have:w.heap.size+1+1+1≤w.heap.size+1+1:=hge _ e.symm;omega)).trans (((A2.below (below1 _ _)).x).c0)
    have fS6:∀ i,w6.frozen? ⟨w.heap.size+1+1,i,none⟩=false:=fun i=>(hg6.frozen_far ⟨w.heap.size+1+1,i,none⟩ (by simp;omega) (fun e=>by have:w.heap.size+1+1+1≤w.heap.size+1+1:=hge _ e.symm;omega)).trans (((A2.below (below1 _ _)).x).fz i)
    clear hown6 hg6 hat6 hlt6 hown6' hge cS
    go_wp2_with fail
    exact ⟨⟨n+1,acc++[(-2:Int)],_,by go_num,by omega,by simp;omega,by show _=_;have:=HW2.out;rw [ht] at this;exact this,A4⟩,by simp [intOf];omega⟩
   ·go_wp2_with (first | (go_at_call 123;refine (deReads_any x _).mono ?_;rw [ht];rintro e w' ⟨rfl,rfl⟩) | (at_builtin;refine wpList_append_lies _ rfl (.tmp 18) (.tmp 20) 26 rfl (w.heap.size+1+1+1) 3 i0 _ 1 8 Tryz.underlying26 hi hz0 hz1 hz2 rfl (by decide) _ _ _ rfl (A2.own.alloc _) ⟨wr.heap.size+1+1,0,none⟩ 1 1 [.int .i64 (-1)] rfl rfl (World.news_of_block (cs:=#[.int .i64 (-1)]) (t:=3) (fr:=(0,0)) (by have:=heap_alloc_new ((wr.alloc (.cells #[.int .i64 (x.t:Int),.int .i64 (x.i:Int),.bool x.last,.int .i64 x.d.k,.int .i64 x.d.p,.int .i64 x.d.v,.int .i64 x.lr] 96)).alloc (.cells #[.int .i64 (x.t:Int),.int .i64 (x.i:Int),.bool x.last,.int .i64 x.d.k,.int .i64 x.d.p,.int .i64 x.d.v,.int .i64 x.lr] 96)) (.cells #[.int .i64 (-1)] 3);simpa using this)) (by simp [Value.oneCell']) (by omega) (by unfold maxLen;omega) (by omega) (by simp;omega) (wr.heap.size+1+1+1) (by simp) ?_))
    intro g6 cap6 w6 hown6 hg6 hat6 hlt6
    have hown6':w6.ownsRow (w.heap.size+1+1+1) 3 1 (.slice (some ⟨g6,0,none⟩) (acc.length+1) cap6) (acc++[(-1:Int)]).length (nums (acc++[(-1:Int)])):=by rw [List.length_append];simpa [nums] using hown6
    have A4:=A2.snoc hg6 hown6'
    have hge:=own_ge A2.own
    have lX:w.heap.size+1+1 < wr.heap.size+1+1+1:=by omega
    have cS6:w6.cell? ⟨w.heap.size+1+1,0,none⟩=some (.slice av acc.length cv):=(hg6.cell_far ⟨w.heap.size+1+1,0,none⟩ (by simp;omega) (fun e=>by have:w.heap.size+1+1+1≤w.heap.size+1+1:=hge _ e.symm;omega)).trans (((A2.below (below1 _ _)).x).c0)
    have fS6:∀ i,w6.frozen? ⟨w.heap.size+1+1,i,none⟩=false:=fun i=>(hg6.frozen_far ⟨w.heap.size+1+1,i,none⟩ (by simp;omega) (fun e=>by have:w.heap.size+1+1+1≤w.heap.size+1+1:=hge _ e.symm;omega)).trans (((A2.below (below1 _ _)).x).fz i)
    clear hown6 hg6 hat6 hlt6 hown6' hge cS
    go_wp2_with fail
    exact ⟨⟨n+1,acc++[(-1:Int)],_,by go_num,by omega,by simp;omega,by show _=_;have:=HW2.out;rw [ht] at this;exact this,A4⟩,by simp [intOf];omega⟩
  ·have HF:M.init ds=acc:=by have:=HW.out;rwa [List.take_of_length_le (by omega)] at this
   obtain ⟨av,cv,rfl⟩:=own_slx A.own
   have x0:=A.x.c0
   have x1:=A.x.c1
   have y0:=A.res.c0
   have y1:=A.res.c1
   have yf:=A.res.fz
   have hlt:=A.lt
   have hans:=A.ans
   clear HW
   go_wp2_with fail
   refine bodyPost_ret (v:=.agg #[.slice av acc.length cv,.slice (some ⟨w.heap.size+1,0,none⟩) 3 3]) (by simp [results,Tryz.results118,go_sem,y0,y1]) rfl ⟨_,_,rfl,?_⟩
   rw [HF];exact hans
end
section
namespace M
def LrOk (xs:List De) (lr:Int):Prop:=0≤lr→∃ y:De,xs[lr.toNat]?=some y∧y.reads=true
def LrAll (ds:List De):Prop:=∀ (n:Nat) (x:De),ds[n]?=some x→x.lr≤n∧(x.reads=false→LrOk (ds.take n) x.lr)
theorem LrOk.append {xs:List De} {lr:Int} (h:LrOk xs lr) (ys:List De):LrOk (xs++ys) lr:=fun h0=>by
 obtain ⟨y,h1,h2⟩:=h h0
 exact ⟨y,by rw [List.getElem?_append_left (List.getElem?_eq_some_iff.1 h1).1];exact h1,h2⟩
theorem LrOk.le {xs:List De} {lr:Int} (h:LrOk xs lr):lr≤xs.length:=by
 by_cases h0:0≤lr
 ·obtain ⟨y,h1,_⟩:=h h0
  have:=(List.getElem?_eq_some_iff.1 h1).1
  omega
 ·omega
theorem LrAll.snoc {xs:List De} {x:De} (h:LrAll xs) (hx:x.lr≤xs.length∧(x.reads=false→LrOk xs x.lr)):LrAll (xs++[x]):=fun n y hy=>by
 by_cases hn:n < xs.length
 ·rw [List.getElem?_append_left hn] at hy
  rw [List.take_append_of_le_length (by omega)]
  exact h n y hy
 ·have hlt:=(List.getElem?_eq_some_iff.1 hy).1
  simp at hlt
  have e:n=xs.length:=by omega
  subst e
  rw [List.getElem?_append_right (Nat.le_refl _)] at hy
  simp at hy
  subst hy
  rw [List.take_left']
  ·exact hx
  ·rfl
theorem lrOf_ok {xs:List De} {lr:Int} (h:LrOk xs lr) (t i:Nat) (b:Bool) (d:D):(lrOf lr xs.length d≤xs.length∧((⟨t,i,b,d,lrOf lr xs.length d⟩:De).reads=false→LrOk xs (lrOf lr xs.length d)))∧LrOk (xs++[⟨t,i,b,d,lrOf lr xs.length d⟩]) (lrOf lr xs.length d):=by
 unfold lrOf
 cases hr:reads d.k
 ·simp only [Bool.false_eq_true,if_false]
  exact ⟨⟨h.le,fun _=>h⟩,h.append _⟩
 ·simp only [if_true]
  refine ⟨⟨Int.le_refl _,fun e=>?_⟩,fun _=>⟨⟨t,i,b,d,xs.length⟩,by simp,?_⟩⟩
  ·simp [De.reads,hr] at e
  ·simp [De.reads,hr]
theorem LrAll.deD {xs:List De} {lr:Int} (h:LrAll xs) (hl:LrOk xs lr) (t i:Nat) (d:D):LrAll (xs++deD t i lr xs.length d)∧LrOk (xs++deD t i lr xs.length d) (lrOf lr xs.length d):=by
 obtain ⟨h1,h2⟩:=lrOf_ok hl t i false d
 have a1:=h.snoc (x:=⟨t,i,false,d,lrOf lr xs.length d⟩) h1
 unfold M.deD
 split
 ·rename_i hk
  have hr:reads d.k=false:=by
   have:d.k=9:=by simpa using hk
   simp [reads,this]
  have e:lrOf lr xs.length d=lr:=by simp [lrOf,hr]
  rw [e] at h1 h2 a1 ⊢
  have a2:=a1.snoc (x:=⟨t,i,true,d,lr⟩) ⟨h2.le,fun _=>h2⟩
  rw [List.append_assoc] at a2
  exact ⟨a2,hl.append _⟩
 ·exact ⟨a1,h2⟩
theorem LrAll.deT (t:Nat):∀ (l:List D) (i:Nat) (lr:Int) (xs:List De),LrAll xs→LrOk xs lr→LrAll (xs++deT t i lr xs.length l)
 | [],i,lr,xs,h,hl=>by simpa [M.deT] using h
 | d::l,i,lr,xs,h,hl=>by
  obtain ⟨h1,h2⟩:=h.deD hl t i d
  have:=LrAll.deT t l (i+1) _ _ h1 h2
  rw [List.length_append,List.append_assoc] at this
  exact this
theorem LrAll.deF:∀ (ll:List (List D)) (t:Nat) (xs:List De),LrAll xs→LrAll (xs++deF t xs.length ll)
 | [],t,xs,h=>by simpa [M.deF] using h
 | l::ll,t,xs,h=>by
  have h1:=LrAll.deT t l 0 (-1) xs h (fun h0=>absurd h0 (by decide))
  have:=LrAll.deF ll (t+1) _ h1
  rw [List.length_append,List.append_assoc] at this
  exact this
theorem lr_all (ll:List (List D)):LrAll (deeds ll):=by
 have:=LrAll.deF ll 0 [] (fun n x h=>by simp at h)
 simpa [deeds] using this
theorem cop_deeds (ll:List (List D)):Cop (deeds ll):=fun n x hx _ hr h0=>by
 obtain ⟨y,h1,h2⟩:=(lr_all ll n x hx).2 hr h0
 have hlt:=(List.getElem?_eq_some_iff.1 h1).1
 rw [List.length_take] at hlt
 refine ⟨by omega,y,?_,h2⟩
 rw [List.getElem?_take_of_lt (by omega)] at h1
 exact h1
theorem lr_lt2 (ll:List (List D)) (n:Nat) (x:De) (hx:(deeds ll)[n]?=some x):x.lr < (deeds ll).length:=by
 have h1:=(lr_all ll n x hx).1
 have h2:=(List.getElem?_eq_some_iff.1 hx).1
 omega
end M
end
section
namespace M
theorem perm_of:∀ (a b:List Int),a.Nodup→(∀ v∈a,v∈b)→b.length≤a.length→a.Perm b
 | [],b,_,_,hl=>by
  have:b=[]:=List.length_eq_zero_iff.1 (by simpa using hl)
  rw [this]
 | x::a,b,hn,hs,hl=>by
  have hx:=hs x (by simp)
  have hp:=List.perm_cons_erase hx
  have hn':=List.nodup_cons.1 hn
  have ih:=perm_of a (b.erase x) hn'.2 (fun v hv=>(List.mem_erase_of_ne (fun (e:v=x)=>hn'.1 (e▸hv))).2 (hs v (List.mem_cons_of_mem _ hv))) (by rw [List.length_erase_of_mem hx];simp at hl;omega)
  exact (ih.cons x).trans hp.symm
theorem mayTell_iff {ds:List De} {x:De} {f:Int}:mayTell ds x f=true↔if x.reads then f=-1∨f∈wrs x.d.p 0 ds else f=-2:=by
 unfold mayTell
 cases hr:x.reads
 ·simp
 ·simp only [if_true,Bool.or_eq_true,beq_iff_eq]
  refine or_congr Iff.rfl ?_
  rw [mem_wrs]
  constructor
  ·intro h
   simp only [Bool.and_eq_true,decide_eq_true_eq] at h
   obtain ⟨h0,h1,h2⟩:=h
   have hlt:f.toNat < ds.length:=by omega
   rw [List.getElem?_eq_getElem hlt] at h2
   exact ⟨f.toNat,hlt,by omega,h2⟩
  ·rintro ⟨i,hi,rfl,ht⟩
   simp only [Bool.and_eq_true,decide_eq_true_eq]
   refine ⟨by omega,by omega,?_⟩
   have e:(((0+i:Nat):Int)).toNat=i:=by omega
   rw [e,List.getElem?_eq_getElem hi]
   exact ht
theorem fromsW_succ {ds:List De} {n:Nat} {f r:List Int} (h:f.length < ds.length):r∈fromsOf ds (n+1) f↔∃ v,mayTell ds ds[f.length] v=true∧r∈fromsOf ds n (f++[v]):=by
 cases hr:De.reads ds[f.length]
 ·rw [froms_no h rfl hr]
  constructor
  ·exact fun h=>⟨-2,by rw [mayTell_iff,hr];rfl,h⟩
  ·rintro ⟨v,hv,hm⟩
   rw [mayTell_iff,hr] at hv
   have:v=-2:=hv
   rw [← this];exact hm
 ·rw [froms_yes h rfl hr,List.mem_append,List.mem_flatMap]
  constructor
  ·rintro (h | ⟨v,hv,hm⟩)
   ·exact ⟨-1,by rw [mayTell_iff,hr];exact Or.inl rfl,h⟩
   ·exact ⟨v,by rw [mayTell_iff,hr];exact Or.inr hv,hm⟩
  ·rintro ⟨v,hv,hm⟩
   rw [mayTell_iff,hr] at hv
   rcases hv with rfl | hv
   ·exact Or.inl hm
   ·exact Or.inr ⟨v,hv,hm⟩
theorem take_succ_snoc {r f:List Int} {v:Int} (h:f.length < r.length):r.take (f.length+1)=f++[v]↔r.take f.length=f∧r.getD f.length 0=v:=by
 rw [List.take_succ_eq_append_getElem h]
 have hl:(r.take f.length).length=f.length:=by rw [List.length_take];omega
 constructor
 ·intro e
  have e1:=List.append_inj e hl
  refine ⟨e1.1,?_⟩
  have:=e1.2
  simp at this
  rw [List.getD_eq_getElem?_getD,List.getElem?_eq_getElem h]
  exact this
 ·rintro ⟨e1,e2⟩
  rw [List.getD_eq_getElem?_getD,List.getElem?_eq_getElem h] at e2
  rw [e1]
  congr 1
  simp at e2
  rw [e2]
theorem mem_froms {ds:List De}:∀ (n:Nat) (f r:List Int),f.length+n=ds.length→(r∈fromsOf ds n f↔r.length=ds.length∧r.take f.length=f∧∀ i (h:i < ds.length),f.length≤i→mayTell ds ds[i] (r.getD i 0)=true)
 | 0,f,r,h=>by
  simp only [fromsOf,List.mem_singleton]
  constructor
  ·rintro rfl
   exact ⟨by omega,List.take_of_length_le (Nat.le_refl _),fun i hi hf=>by omega⟩
  ·rintro ⟨h1,h2,_⟩
   rw [List.take_of_length_le (by omega)] at h2
   exact h2
 | n+1,f,r,h=>by
  have hlt:f.length < ds.length:=by omega
  rw [fromsW_succ hlt]
  constructor
  ·rintro ⟨v,hv,hm⟩
   rw [mem_froms n _ r (by simp;omega)] at hm
   obtain ⟨h1,h2,h3⟩:=hm
   rw [List.length_append,List.length_singleton] at h2 h3
   obtain ⟨e1,e2⟩:=(take_succ_snoc (by omega)).1 h2
   refine ⟨h1,e1,fun i hi hf=>?_⟩
   by_cases e:i=f.length
   ·subst e;rw [e2];exact hv
   ·exact h3 i hi (by omega)
  ·rintro ⟨h1,h2,h3⟩
   refine ⟨r.getD f.length 0,h3 _ hlt (Nat.le_refl _),?_⟩
   rw [mem_froms n _ r (by simp;omega)]
   rw [List.length_append,List.length_singleton]
   exact ⟨h1,(take_succ_snoc (by omega)).2 ⟨h2,rfl⟩,fun i hi hf=>h3 i hi (by omega)⟩
theorem fromAt_iff {ds:List De}:∀ (xs:List De) (l:List Int),l.length=xs.length→(fromAt ds xs l=true↔∀ i (h:i < xs.length),mayTell ds xs[i] (l.getD i 0)=true)
 | [],l,h=>by simp [fromAt]
 | x::xs,[],h=>by simp at h
 | x::xs,f::l,h=>by
  simp only [fromAt,Bool.and_eq_true,fromAt_iff xs l (by simpa using h)]
  constructor
  ·rintro ⟨h1,h2⟩ i hi
   cases i with
   | zero=>exact h1
   | succ i=>exact h2 i (by simpa using hi)
  ·intro h
   exact ⟨h 0 (by simp),fun i hi=>h (i+1) (by simpa using hi)⟩
theorem mem_from {ds:List De} {l:List Int}:l∈fromsOf ds ds.length []↔fromOk ds l=true:=by
 rw [mem_froms _ _ _ (by simp),fromOk,Bool.and_eq_true,decide_eq_true_eq]
 constructor
 ·rintro ⟨h1,_,h3⟩
  exact ⟨h1,(fromAt_iff ds l h1).2 fun i hi=>h3 i hi (Nat.zero_le _)⟩
 ·rintro ⟨h1,h2⟩
  exact ⟨h1,by simp,fun i hi _=>(fromAt_iff ds l h1).1 h2 i hi⟩
theorem mem_rows {ws:List Int}:∀ (n:Nat) (h r:List Int),r∈rowsOf ws n h↔∃ t,r=h++t∧t.length=n∧(∀ v∈t,v∈ws∧v∉h)∧t.Nodup
 | 0,h,r=>by
  simp only [rowsOf,List.mem_singleton]
  constructor
  ·rintro rfl
   exact ⟨[],by simp,rfl,(fun v hv=>by cases hv),List.nodup_nil⟩
  ·rintro ⟨t,rfl,ht,_⟩
   rw [List.length_eq_zero_iff.1 ht,List.append_nil]
 | n+1,h,r=>by
  rw [rowsOf,List.mem_flatMap]
  constructor
  ·rintro ⟨v,hv,hm⟩
   by_cases hh:has h v=true
   ·rw [if_pos hh] at hm;cases hm
   ·rw [if_neg hh] at hm
    obtain ⟨t,rfl,h1,h2,h3⟩:=(mem_rows n _ r).1 hm
    have hvh:v∉h:=fun e=>hh (by simpa [has] using e)
    refine ⟨v::t,by simp,by simp [h1],fun u hu=>?_,List.nodup_cons.2 ⟨fun e=>(h2 v e).2 (by simp),h3⟩⟩
    rcases List.mem_cons.1 hu with rfl | hu
    ·exact ⟨hv,hvh⟩
    ·exact ⟨(h2 u hu).1,fun e=>(h2 u hu).2 (List.mem_append_left _ e)⟩
  ·rintro ⟨t,rfl,h1,h2,h3⟩
   cases t with
   | nil=>simp at h1
   | cons v t =>
    have hv:=h2 v (by simp)
    have hn:=List.nodup_cons.1 h3
    refine ⟨v,hv.1,?_⟩
    rw [if_neg (by simpa [has] using hv.2)]
    refine (mem_rows n _ _).2 ⟨t,by simp,by simpa using h1,fun u hu=>⟨(h2 u (List.mem_cons_of_mem _ hu)).1,fun e=>?_⟩,hn.2⟩
    rcases List.mem_append.1 e with e | e
    ·exact (h2 u (List.mem_cons_of_mem _ hu)).2 e
    ·rw [List.mem_singleton.1 e] at hu;exact hn.1 hu
theorem mem_row {ws r:List Int} (hw:ws.Nodup):r∈rowsOf ws ws.length []↔isRow r ws=true:=by
 rw [mem_rows,isRow,Bool.and_eq_true,decide_eq_true_eq,List.all_eq_true]
 constructor
 ·rintro ⟨t,e,h1,h2,h3⟩
  rw [List.nil_append] at e
  subst e
  have hp:=perm_of r ws h3 (fun v hv=>(h2 v hv).1) (by omega)
  exact ⟨h1,fun v hv=>by simpa using hp.mem_iff.2 hv⟩
 ·rintro ⟨h1,h2⟩
  have hp:=perm_of ws r hw (fun v hv=>by simpa using h2 v hv) (by omega)
  exact ⟨r,by simp,h1,fun v hv=>⟨hp.mem_iff.2 hv,by simp⟩,hp.nodup_iff.1 hw⟩
theorem mem_order {ds:List De} {o:List (List Int)}:o∈ordersOf ds↔orderOk ds o=true:=by
 have key:o∈ordersOf ds↔∃ r0 r1 r2,o=[r0,r1,r2]∧isRow r0 (wrs 0 0 ds)=true∧isRow r1 (wrs 1 0 ds)=true∧isRow r2 (wrs 2 0 ds)=true:=by
  unfold ordersOf addPlace
  simp only [List.mem_flatMap,List.mem_map,List.flatMap_cons,List.flatMap_nil,List.append_nil,List.nil_append]
  constructor
  ·rintro ⟨o2,⟨o1,⟨r0,h0,rfl⟩,r1,h1,rfl⟩,r2,h2,rfl⟩
   exact ⟨r0,r1,r2,rfl,(mem_row (nodup_wrs _ _ _)).1 h0,(mem_row (nodup_wrs _ _ _)).1 h1,(mem_row (nodup_wrs _ _ _)).1 h2⟩
  ·rintro ⟨r0,r1,r2,rfl,h0,h1,h2⟩
   exact ⟨[r0,r1],⟨[r0],⟨r0,(mem_row (nodup_wrs _ _ _)).2 h0,rfl⟩,r1,(mem_row (nodup_wrs _ _ _)).2 h1,rfl⟩,r2,(mem_row (nodup_wrs _ _ _)).2 h2,rfl⟩
 rw [key,orderOk,Bool.and_eq_true,decide_eq_true_eq]
 constructor
 ·rintro ⟨r0,r1,r2,rfl,h0,h1,h2⟩
  refine ⟨rfl,?_⟩
  simp only [orderAt,Bool.and_eq_true,and_true]
  exact ⟨h0,h1,h2⟩
 ·rintro ⟨h1,h2⟩
  match o,h1,h2 with
  | [r0,r1,r2],_,h2 =>
   simp only [orderAt,Bool.and_eq_true,and_true] at h2
   exact ⟨r0,r1,r2,rfl,h2.1,h2.2.1,h2.2.2⟩
theorem mem_all {ds:List De} {f:List Int} {o:List (List Int)}:(f,o)∈allWays ds↔wayOk ds f o=true:=by
 unfold allWays wayOk
 rw [List.mem_flatMap,Bool.and_eq_true,Bool.and_eq_true,← mem_from,← mem_order]
 constructor
 ·rintro ⟨g,hg,hm⟩
  by_cases he:ends ds g=true
  ·rw [if_pos he,List.mem_map] at hm
   obtain ⟨o',ho,e⟩:=hm
   cases e
   exact ⟨hg,ho,he⟩
  ·rw [if_neg he] at hm;cases hm
 ·rintro ⟨h1,h2,h3⟩
  exact ⟨f,h1,by rw [if_pos h3,List.mem_map];exact ⟨o,h2,rfl⟩⟩
end M
end
section
open Go.RowKit
theorem wpList_index_one {P:Program} {w:World} {ops:Array Oper} {rest:List Oper} {op:Oper} {a:Act} {Q:Exit→Act→World→Prop} (hgd:op.guard=none) (ty:TypeId) (x y:Operand) (ho:op.op=.index ty x y)
  (c:Array Value) (i n:Nat) (e:TypeId) (d:TypeDesc) (v:Value) (hx:a.eval x=.agg c) (hy:a.eval y=.int .i64 i) (hu:P.underlying ty=some (.array n e)) (hin:i < n) (hue:P.underlying e=some d) (hd:d.isRow=false) (hi:(P.info? e).map (·.size)=some 1) (hv:c[i]?=some v)
  (h:wpList P ops Q rest (a.put op.dst v) w):wpList P ops Q (op::rest) a w:=by
 refine wpList_plain hgd fun _ hK=>?_
 have hagg:(isAgg e).run P w=.ok false w:=by
  unfold isAgg
  rw [Sem.run_bind,run_underlying hue w]
  cases d<;>simp_all
 cases hq:P.info? e with
 | none=>simp [hq] at hi
 | some j =>
  have hs:j.size=1:=by simpa [hq] using hi
  unfold Oper.wp execOp
  simp [ho,hx,hy,Instr.index,asIntOf,run_underlying hu,part,hagg,sizeOf,typeInfo,hq,hs,hin,hv]
  exact hK _ _ h
end
section
namespace M
def De.uses (x:De):Bool:=M.uses x.d.k
def isWall (k:Int):Bool:=k==4||k==9
def own (a b:Nat) (x y:De):Bool:=decide (a < b)&&x.t==y.t
def onePl (x y:De):Bool:=x.uses&&(y.uses&&x.d.p==y.d.p)
def late (a b:Nat) (x y:De):Bool:=own a b x y&&!(writes x.d.k&&reads y.d.k)
def outFrom:Nat→List De→Nat
 | n,[]=>n
 | n,x::l=>if x.d.k==8 then n else outFrom (n+1) l
def outOf (ds:List De) (a:Nat):Nat:=outFrom a (ds.drop a)
def kAt (ds:List De) (n:Nat):Int:=match ds[n]? with | some x=>x.d.k | none=>0
def inOf (ds:List De):Nat→Nat
 | 0=>0
 | n+1=>if kAt ds (n+1)==7 then n+1 else inOf ds n
def goesIn (ds:List De) (a b:Nat) (x:De):Bool:=x.d.k==7&&decide (b≤outOf ds a)
def goesOut (ds:List De) (a b:Nat) (y:De):Bool:=y.d.k==8&&decide (inOf ds b≤a)
def copyOf (a:Nat) (y:De):Bool:=y.d.k==3&&y.lr==(a:Int)
def keeps (ds:List De) (a b:Nat) (x y:De):Bool:=(isWall x.d.k||isWall y.d.k)||(x.d.k==5||(y.d.k==6||(goesIn ds a b x||(goesOut ds a b y||copyOf a y))))
def loose (ds:List De) (a b:Nat) (x y:De):Bool:=own a b x y&&keeps ds a b x y
def idx (row:List Int) (v:Int):Int:=match row.findIdx? (·==v) with | some i=>(i:Int) | none=>-1
def read (l:List Int) (a b:Nat):Bool:=l.getD b 0==(a:Int)
def wrote (l:List Int) (a:Nat) (x:De):Int:=if M.reads x.d.k then l.getD a 0 else (a:Int)
def over (l:List Int) (rows:List (List Int)) (a b:Nat) (x y:De):Bool:=onePl x y&&(writes y.d.k&&decide (idx (rows.getD y.d.p.toNat []) (wrote l a x) < idx (rows.getD y.d.p.toNat []) (b:Int)))
def two (x y:De):Bool:=!(x.t==y.t)
def must (ds:List De) (l:List Int) (rows:List (List Int)) (kind:Nat) (a b:Nat) (x y:De):Bool :=
 match kind with
 | 0=>(own a b x y&&onePl x y)||(read l a b||over l rows a b x y)
 | 1=>own a b x y||(read l a b||over l rows a b x y)
 | 2=>late a b x y||((two x y&&read l a b)||over l rows a b x y)
 | _=>loose ds a b x y||((two x y&&read l a b)||(two x y&&over l rows a b x y))
def run:Bool→List De→Option Bool
 | i,[]=>some i
 | i,x::l=>if x.d.k==7 then (if i then none else run true l) else if x.d.k==8 then (if i then run false l else none) else run i l
theorem run_append:∀ (l m:List De) (i:Bool),run i (l++m)=(run i l).bind fun j=>run j m:=by
 intro l m
 induction l with
 | nil=>intro i;rfl
 | cons x l ih =>
  intro i
  simp only [List.cons_append,run]
  split
  ·cases i
   ·exact ih true
   ·rfl
  ·split
   ·cases i
    ·rfl
    ·exact ih false
   ·exact ih i
theorem run_T (t:Nat):∀ (l:List D) (i:Nat) (lr:Int) (n:Nat) (b:Bool),readers b l=true→run b (deT t i lr n l)=some false:=by
 intro l
 induction l with
 | nil =>
  intro i lr n b h
  simp only [readers] at h
  cases b
  ·rfl
  ·simp at h
 | cons d l ih =>
  intro i lr n b h
  rw [deT,run_append]
  simp only [readers] at h
  by_cases h7:(d.k==7)=true
  ·have h9:(d.k==9)=false:=by simp at h7 ⊢;omega
   rw [if_pos h7] at h
   cases b
   ·rw [deD_one h9]
    have e:run false [(⟨t,i,false,d,lrOf lr n d⟩:De)]=some true:=by
     show (if (d.k==7)=true then _ else _)=_
     rw [if_pos h7];rfl
    rw [e]
    exact ih _ _ _ true h
   ·simp at h
  ·rw [if_neg h7] at h
   by_cases h8:(d.k==8)=true
   ·have h9:(d.k==9)=false:=by simp at h8 ⊢;omega
    rw [if_pos h8] at h
    cases b
    ·simp at h
    ·rw [deD_one h9]
     have e:run true [(⟨t,i,false,d,lrOf lr n d⟩:De)]=some false:=by
      show (if (d.k==7)=true then _ else _)=_
      rw [if_neg h7,if_pos h8];rfl
     rw [e]
     exact ih _ _ _ false h
   ·rw [if_neg h8] at h
    have e:run b (deD t i lr n d)=some b:=by
     unfold deD
     split
     ·show (if (d.k==7)=true then _ else _)=_
      rw [if_neg h7,if_neg h8]
      show (if (d.k==7)=true then _ else _)=_
      rw [if_neg h7,if_neg h8];rfl
     ·show (if (d.k==7)=true then _ else _)=_
      rw [if_neg h7,if_neg h8];rfl
    rw [e]
    refine ih _ _ _ b ?_
    by_cases h9:(d.k==9)=true
    ·rw [if_pos h9] at h
     cases b
     ·exact h
     ·simp at h
    ·rw [if_neg h9] at h
     exact h
theorem run_F:∀ (ll:List (List D)) (t n:Nat),(∀ l∈ll,readers false l=true)→run false (deF t n ll)=some false:=by
 intro ll
 induction ll with
 | nil=>intro t n _;rfl
 | cons l ll ih =>
  intro t n h
  rw [deF,run_append,run_T t l 0 (-1) n false (h l (List.mem_cons_self ..))]
  exact ih _ _ (fun x hx=>h x (List.mem_cons_of_mem _ hx))
theorem run_ok {ll:List (List D)} (h:∀ l∈ll,thread l=true):run false (deeds ll)=some false :=
 run_F ll 0 0 fun l hl=>by
  have:=h l hl
  simp only [thread,Bool.and_eq_true] at this
  exact this.2
theorem run_no8:∀ (l:List De) (i j:Bool),run i l=some j→(∀ x∈l,x.d.k≠8)→i=true→j=true∧∀ x∈l,x.d.k≠7:=by
 intro l
 induction l with
 | nil=>intro i j h _ hi;simp only [run] at h;exact ⟨(Option.some.inj h)▸hi,fun x hx=>by cases hx⟩
 | cons x l ih =>
  intro i j h h8 hi
  subst hi
  have hx8:=h8 x (List.mem_cons_self ..)
  simp only [run] at h
  by_cases h7:(x.d.k==7)=true
  ·rw [if_pos h7] at h;simp at h
  ·rw [if_neg h7,if_neg (by simpa using hx8)] at h
   obtain ⟨e1,e2⟩:=ih true j h (fun y hy=>h8 y (List.mem_cons_of_mem _ hy)) rfl
   refine ⟨e1,fun y hy=>?_⟩
   rcases List.mem_cons.1 hy with rfl | hy
   ·simpa using h7
   ·exact e2 y hy
theorem run_no7:∀ (l:List De) (i j:Bool),run i l=some j→(∀ x∈l,x.d.k≠7)→j=true→i=true∧∀ x∈l,x.d.k≠8:=by
 intro l
 induction l with
 | nil=>intro i j h _ hj;simp only [run] at h;exact ⟨(Option.some.inj h).symm▸hj,fun x hx=>by cases hx⟩
 | cons x l ih =>
  intro i j h h7 hj
  have hx7:=h7 x (List.mem_cons_self ..)
  simp only [run] at h
  rw [if_neg (by simpa using hx7)] at h
  by_cases h8:(x.d.k==8)=true
  ·rw [if_pos h8] at h
   cases i
   ·simp at h
   ·have:=(ih false j h (fun y hy=>h7 y (List.mem_cons_of_mem _ hy)) hj).1
    cases this
  ·rw [if_neg h8] at h
   obtain ⟨e1,e2⟩:=ih i j h (fun y hy=>h7 y (List.mem_cons_of_mem _ hy)) hj
   refine ⟨e1,fun y hy=>?_⟩
   rcases List.mem_cons.1 hy with rfl | hy
   ·simpa using h8
   ·exact e2 y hy
theorem run_at {ds:List De} {n:Nat} (h:run false ds=some false) (hn:n < ds.length):∃ i j,run false (ds.take n)=some i∧run i [ds[n]]=some j∧run j (ds.drop (n+1))=some false:=by
 have e:ds=ds.take n++([ds[n]]++ds.drop (n+1)):=by
  rw [List.singleton_append,List.getElem_cons_drop hn,List.take_append_drop]
 rw [e,run_append] at h
 cases h1:run false (ds.take n) with
 | none=>rw [h1] at h;simp at h
 | some i =>
  rw [h1] at h
  simp only [Option.bind_some] at h
  rw [run_append] at h
  cases h2:run i [ds[n]] with
  | none=>rw [h2] at h;simp at h
  | some j =>
   rw [h2] at h
   exact ⟨i,j,rfl,h2,h⟩
theorem run_one7 {x:De} {i j:Bool} (h:run i [x]=some j) (hx:x.d.k=7):i=false∧j=true:=by
 simp only [run] at h
 rw [if_pos (by simpa using hx)] at h
 cases i
 ·exact ⟨rfl,(Option.some.inj h).symm⟩
 ·simp at h
theorem run_one8 {x:De} {i j:Bool} (h:run i [x]=some j) (hx:x.d.k=8):i=true∧j=false:=by
 simp only [run] at h
 rw [if_neg (by simp;omega),if_pos (by simpa using hx)] at h
 cases i
 ·simp at h
 ·exact ⟨rfl,(Option.some.inj h).symm⟩
theorem has_out {ds:List De} {n:Nat} (h:run false ds=some false) (hn:n < ds.length) (hk:ds[n].d.k=7):∃ m,n < m∧∃ hm:m < ds.length,ds[m].d.k=8:=by
 obtain ⟨i,j,_,h2,h3⟩:=run_at h hn
 obtain ⟨_,rfl⟩:=run_one7 h2 hk
 refine Classical.byContradiction fun hno=>?_
 have:=(run_no8 _ _ _ h3 (fun x hx e=>hno ?_) rfl).1
 ·cases this
 ·obtain ⟨q,hq,rfl⟩:=List.getElem_of_mem hx
  rw [List.length_drop] at hq
  rw [List.getElem_drop] at e
  exact ⟨n+1+q,by omega,by omega,e⟩
theorem has_in {ds:List De} {n:Nat} (h:run false ds=some false) (hn:n < ds.length) (hk:ds[n].d.k=8):∃ m,m < n∧∃ hm:m < ds.length,ds[m].d.k=7:=by
 obtain ⟨i,j,h1,h2,_⟩:=run_at h hn
 obtain ⟨rfl,_⟩:=run_one8 h2 hk
 refine Classical.byContradiction fun hno=>?_
 have:=(run_no7 _ _ _ h1 (fun x hx e=>hno ?_) rfl).1
 ·cases this
 ·obtain ⟨q,hq,rfl⟩:=List.getElem_of_mem hx
  rw [List.length_take] at hq
  rw [List.getElem_take] at e
  exact ⟨q,by omega,by omega,e⟩
theorem mid_eq {ds:List De} {a b:Nat} (h:run false ds=some false) (hab:a < b) (hb:b < ds.length) (ha7:ds[a].d.k=7) (hb8:ds[b].d.k=8):(∀ q (hq:q < ds.length),a < q→q < b→ds[q].d.k≠8)↔(∀ q (hq:q < ds.length),a < q→q < b→ds[q].d.k≠7):=by
 have hb8':(ds.drop (a+1))[b - (a+1)]'(by rw [List.length_drop];omega)=ds[b]:=by
  rw [List.getElem_drop];congr 1;omega
 obtain ⟨i,j,_,h2,h3⟩:=run_at h (show a < ds.length by omega)
 obtain ⟨_,rfl⟩:=run_one7 h2 ha7
 have hlen:b - (a+1) < (ds.drop (a+1)).length:=by rw [List.length_drop];omega
 have e:ds.drop (a+1)=(ds.drop (a+1)).take (b - (a+1))++([ds[b]]++(ds.drop (a+1)).drop (b - (a+1)+1)):=by
  rw [List.singleton_append,← hb8',List.getElem_cons_drop hlen,List.take_append_drop]
 rw [e,run_append] at h3
 cases h1:run true ((ds.drop (a+1)).take (b - (a+1))) with
 | none=>rw [h1] at h3;simp at h3
 | some i' =>
  rw [h1] at h3
  simp only [Option.bind_some] at h3
  rw [run_append] at h3
  cases h4:run i' [ds[b]] with
  | none=>rw [h4] at h3;simp at h3
  | some j' =>
   obtain ⟨rfl,_⟩:=run_one8 h4 hb8
   have get:∀ x∈(ds.drop (a+1)).take (b - (a+1)),∃ q,∃ hq:q < ds.length,a < q∧q < b∧ds[q]=x:=fun x hx=>by
    obtain ⟨q,hq,rfl⟩:=List.getElem_of_mem hx
    rw [List.length_take,List.length_drop] at hq
    exact ⟨a+1+q,by omega,by omega,by omega,by rw [List.getElem_take,List.getElem_drop]⟩
   have put:∀ q (hq:q < ds.length),a < q→q < b→ds[q]∈(ds.drop (a+1)).take (b - (a+1)):=fun q hq h1 h2=>by
    have hl:q - (a+1) < ((ds.drop (a+1)).take (b - (a+1))).length:=by rw [List.length_take,List.length_drop];omega
    have:((ds.drop (a+1)).take (b - (a+1)))[q - (a+1)]=ds[q]:=by
     rw [List.getElem_take,List.getElem_drop];congr 1;omega
    rw [← this];exact List.getElem_mem hl
   constructor
   ·intro h8 q hq ha hb' e7
    exact (run_no8 _ _ _ h1 (fun x hx e=>by obtain ⟨p,hp,p1,p2,rfl⟩:=get x hx;exact h8 p hp p1 p2 e) rfl).2 _ (put q hq ha hb') e7
   ·intro h7 q hq ha hb' e8
    exact (run_no7 _ _ _ h1 (fun x hx e=>by obtain ⟨p,hp,p1,p2,rfl⟩:=get x hx;exact h7 p hp p1 p2 e) rfl).2 _ (put q hq ha hb') e8
theorem kAt_eq {ds:List De} {n:Nat} (h:n < ds.length):kAt ds n=ds[n].d.k:=by simp [kAt,List.getElem?_eq_getElem h]
theorem outFrom_ge:∀ (l:List De) (n:Nat),n≤outFrom n l:=by
 intro l
 induction l with
 | nil=>intro n;exact Nat.le_refl _
 | cons x l ih =>
  intro n
  unfold outFrom
  split
  ·exact Nat.le_refl _
  ·have:=ih (n+1);omega
theorem le_outFrom:∀ (l:List De) (n b:Nat),b≤n+l.length→(b≤outFrom n l↔∀ q (hq:q < l.length),n+q < b→l[q].d.k≠8):=by
 intro l
 induction l with
 | nil =>
  intro n b hb
  exact ⟨fun _ q hq=>absurd hq (Nat.not_lt_zero _),fun _=>by simpa [outFrom] using hb⟩
 | cons x l ih =>
  intro n b hb
  unfold outFrom
  by_cases h8:(x.d.k==8)=true
  ·rw [if_pos h8]
   constructor
   ·intro h q hq hqb;omega
   ·intro h
    refine Classical.byContradiction fun hno=>?_
    exact h 0 (by simp) (by omega) (by simpa using h8)
  ·rw [if_neg h8,ih (n+1) b (by simp only [List.length_cons] at hb;omega)]
   constructor
   ·intro h q hq hqb
    cases q with
    | zero=>simpa using h8
    | succ q=>exact h q (by simpa using hq) (by omega)
   ·intro h q hq hqb
    exact h (q+1) (by simpa using hq) (by omega)
theorem le_outOf {ds:List De} {a b:Nat} (ha:a≤ds.length) (hb:b≤ds.length):b≤outOf ds a↔∀ q (hq:q < ds.length),a≤q→q < b→ds[q].d.k≠8:=by
 rw [outOf,le_outFrom _ _ _ (by rw [List.length_drop];omega)]
 constructor
 ·intro h q hq h1 h2
  have:=h (q - a) (by rw [List.length_drop];omega) (by omega)
  rw [List.getElem_drop] at this
  simpa [show a+(q - a)=q from by omega] using this
 ·intro h q hq h2
  rw [List.length_drop] at hq
  rw [List.getElem_drop]
  exact h (a+q) (by omega) (by omega) h2
theorem inOf_le {ds:List De} {a:Nat}:∀ {b:Nat},b < ds.length→(inOf ds b≤a↔∀ q (hq:q < ds.length),a < q→q≤b→ds[q].d.k≠7):=by
 intro b
 induction b with
 | zero=>intro hb;exact ⟨fun _ q hq h1 h2=>by omega,fun _=>Nat.zero_le _⟩
 | succ b ih =>
  intro hb
  unfold inOf
  rw [kAt_eq hb]
  by_cases h7:(ds[b+1].d.k==7)=true
  ·rw [if_pos h7]
   constructor
   ·intro h q hq h1 h2;omega
   ·intro h
    refine Classical.byContradiction fun hno=>?_
    exact h (b+1) hb (by omega) (Nat.le_refl _) (by simpa using h7)
  ·rw [if_neg h7,ih (by omega)]
   constructor
   ·intro h q hq h1 h2
    by_cases e:q=b+1
    ·subst e;simpa using h7
    ·exact h q hq h1 (by omega)
   ·intro h q hq h1 h2
    exact h q hq h1 (by omega)
def midFrom (ds:List De) (fr to_:Bool):Nat→Nat→Bool
 | 0,_=>true
 | n+1,k=>if (fr&&kAt ds k==8)||(to_&&kAt ds k==7) then false else midFrom ds fr to_ n (k+1)
theorem mid_iff {ds:List De} {fr to_:Bool}:∀ (n k:Nat),k+n≤ds.length→(midFrom ds fr to_ n k=true↔∀ q (hq:q < ds.length),k≤q→q < k+n→¬ (fr=true∧ds[q].d.k=8)∧¬ (to_=true∧ds[q].d.k=7)):=by
 intro n
 induction n with
 | zero=>intro k _;exact ⟨fun _ q hq h1 h2=>by omega,fun _=>rfl⟩
 | succ n ih =>
  intro k hk
  unfold midFrom
  rw [kAt_eq (show k < ds.length by omega)]
  have step:((fr&&ds[k].d.k==8)||(to_&&ds[k].d.k==7))=true↔((fr=true∧ds[k].d.k=8)∨(to_=true∧ds[k].d.k=7)):=by simp
  by_cases h:((fr&&ds[k].d.k==8)||(to_&&ds[k].d.k==7))=true
  ·rw [if_pos h]
   refine ⟨fun h=>(by cases h),fun hall=>?_⟩
   have:=hall k (by omega) (Nat.le_refl _) (by omega)
   rcases step.1 h with h | h
   ·exact absurd h this.1
   ·exact absurd h this.2
  ·rw [if_neg h,ih (k+1) (by omega)]
   have h':=fun x=>h (step.2 x)
   constructor
   ·intro hall q hq h1 h2
    by_cases e:q=k
    ·subst e;exact ⟨fun x=>h' (Or.inl x),fun x=>h' (Or.inr x)⟩
    ·exact hall q hq (by omega) (by omega)
   ·intro hall q hq h1 h2
    exact hall q hq (by omega) (by omega)
def inside (ds:List De) (a b:Nat) (x y:De):Bool:=(x.d.k==7||y.d.k==8)&&midFrom ds (x.d.k==7) (y.d.k==8) (b - (a+1)) (a+1)
theorem in_out_eq {ds:List De} {a b:Nat} (h:run false ds=some false) (hab:a < b) (hb:b < ds.length):(goesIn ds a b ds[a]||goesOut ds a b ds[b])=inside ds a b ds[a] ds[b]:=by
 have hm:=mid_iff (ds:=ds) (fr:=ds[a].d.k==7) (to_:=ds[b].d.k==8) (b - (a+1)) (a+1) (by omega)
 rw [show a+1+(b - (a+1))=b from by omega] at hm
 have ho:=le_outOf (ds:=ds) (a:=a) (b:=b) (by omega) (by omega)
 have hi:=inOf_le (ds:=ds) (a:=a) (b:=b) hb
 unfold goesIn goesOut inside
 by_cases h7:ds[a].d.k=7
 ·have e7:(ds[a].d.k==7)=true:=by simpa using h7
  rw [e7] at hm ⊢
  have ho':b≤outOf ds a↔∀ q (hq:q < ds.length),a < q→q < b→ds[q].d.k≠8:=by
   rw [ho]
   constructor
   ·intro h q hq h1 h2;exact h q hq (by omega) h2
   ·intro h q hq h1 h2
    by_cases e:q=a
    ·subst e;omega
    ·exact h q hq (by omega) h2
  by_cases h8:ds[b].d.k=8
  ·have e8:(ds[b].d.k==8)=true:=by simpa using h8
   rw [e8] at hm ⊢
   have hmid:=mid_eq h hab hb h7 h8
   have hi':inOf ds b≤a↔∀ q (hq:q < ds.length),a < q→q < b→ds[q].d.k≠7:=by
    rw [hi]
    constructor
    ·intro h q hq h1 h2;exact h q hq h1 (by omega)
    ·intro h q hq h1 h2
     by_cases e:q=b
     ·subst e;omega
     ·exact h q hq h1 (by omega)
   rw [Bool.eq_iff_iff]
   simp only [Bool.true_and,Bool.true_or,Bool.or_eq_true,decide_eq_true_eq]
   rw [hm,ho',hi',← hmid]
   constructor
   ·intro hx q hq h1 h2
    have hx:=hx.elim id id
    exact ⟨fun y=>hx q hq (by omega) h2 y.2,fun y=>hmid.1 hx q hq (by omega) h2 y.2⟩
   ·intro hx
    exact Or.inl fun q hq h1 h2 e=>(hx q hq (by omega) h2).1 ⟨rfl,e⟩
  ·have e8:(ds[b].d.k==8)=false:=by simpa using h8
   rw [e8] at hm ⊢
   rw [Bool.eq_iff_iff]
   simp only [Bool.true_and,Bool.false_and,Bool.or_false,decide_eq_true_eq]
   rw [hm,ho']
   constructor
   ·intro hx q hq h1 h2
    exact ⟨fun y=>hx q hq (by omega) h2 y.2,fun y=>by cases y.1⟩
   ·intro hx q hq h1 h2 e
    exact (hx q hq (by omega) h2).1 ⟨rfl,e⟩
 ·have e7:(ds[a].d.k==7)=false:=by simpa using h7
  rw [e7] at hm ⊢
  by_cases h8:ds[b].d.k=8
  ·have e8:(ds[b].d.k==8)=true:=by simpa using h8
   rw [e8] at hm ⊢
   have hi':inOf ds b≤a↔∀ q (hq:q < ds.length),a < q→q < b→ds[q].d.k≠7:=by
    rw [hi]
    constructor
    ·intro h q hq h1 h2;exact h q hq h1 (by omega)
    ·intro h q hq h1 h2
     by_cases e:q=b
     ·subst e;omega
     ·exact h q hq h1 (by omega)
   rw [Bool.eq_iff_iff]
   simp only [Bool.true_and,Bool.false_and,Bool.false_or,decide_eq_true_eq]
   rw [hm,hi']
   constructor
   ·intro hx q hq h1 h2
    exact ⟨fun y=>(by cases y.1),fun y=>hx q hq (by omega) h2 y.2⟩
   ·intro hx q hq h1 h2 e
    exact (hx q hq (by omega) h2).2 ⟨rfl,e⟩
  ·have e8:(ds[b].d.k==8)=false:=by simpa using h8
   rw [e8]
   simp
def sRead (l:List Int) (a b:Nat) (x y:De):Bool:=writes x.d.k&&(reads y.d.k&&l.getD b 0==(a:Int))
def rankAt (l:List Int) (rows:List (List Int)) (i:Nat) (x:De):Int:=if writes x.d.k then idx (rows.getD x.d.p.toNat []) (i:Int) else if reads x.d.k then idx (rows.getD x.d.p.toNat []) (l.getD i 0) else 0
def sOver (l:List Int) (rows:List (List Int)) (a b:Nat) (x y:De):Bool:=writes y.d.k&&(!((a:Int)==(b:Int))&&(onePl x y&&decide (rankAt l rows a x < rankAt l rows b y)))
def sKeeps (ds:List De) (a b:Nat) (x y:De):Bool:=(isWall x.d.k||(isWall y.d.k||(x.d.k==5||(y.d.k==6||inside ds a b x y))))||copyOf a y
def stays (ds:List De) (kind:Nat) (a b:Nat) (x y:De):Bool :=
 match kind with
 | 0=>own a b x y&&onePl x y
 | 1=>own a b x y
 | 2=>late a b x y
 | _=>own a b x y&&sKeeps ds a b x y
def told (l:List Int) (rows:List (List Int)) (kind:Nat) (a b:Nat) (x y:De):Bool :=
 match kind with
 | 0=>sRead l a b x y||sOver l rows a b x y
 | 1=>sRead l a b x y||sOver l rows a b x y
 | 2=>(two x y&&sRead l a b x y)||sOver l rows a b x y
 | _=>two x y&&(sRead l a b x y||sOver l rows a b x y)
theorem wr_rd {k:Int} (h:writes k=true):reads k=false:=by
 simp only [writes,stores,Bool.or_eq_true,beq_iff_eq] at h
 rcases h with (h | h) | h<;>subst h<;>rfl
theorem read_eq {ds:List De} {l:List Int} (hf:fromOk ds l=true) {a b:Nat} (ha:a < ds.length) (hb:b < ds.length):sRead l a b ds[a] ds[b]=read l a b:=by
 simp only [fromOk,Bool.and_eq_true,decide_eq_true_eq] at hf
 obtain ⟨hb2,ht⟩:=fromAt_get hf.2 b hb
 have hg:l.getD b 0=l[b]:=by simp [hb2]
 unfold sRead read
 rw [hg]
 by_cases e:l[b]=(a:Int)
 ·rw [e] at ht ⊢
  cases hr:ds[b].reads
  ·rw [tell_no hr] at ht;simp at ht
  ·rw [tell_at hr ha] at ht
   have hw:writes ds[a].d.k=true:=by
    simp only [De.to,Bool.and_eq_true] at ht;exact ht.1
   rw [hw,show reads ds[b].d.k=true from hr]
   simp
 ·have:(l[b]==(a:Int))=false:=by simpa using e
  rw [this];simp
theorem over_eq (l:List Int) (rows:List (List Int)) (a b:Nat) {ds:List De} (ha:a < ds.length) (hb:b < ds.length):sOver l rows a b ds[a] ds[b]=over l rows a b ds[a] ds[b]:=by
 unfold sOver over
 cases hw:writes ds[b].d.k
 ·simp
 ·cases ho:onePl ds[a] ds[b]
  ·simp
  ·have ho':=ho
   simp only [onePl,De.uses,M.uses,Bool.and_eq_true,beq_iff_eq] at ho'
   have hrb:rankAt l rows b ds[b]=idx (rows.getD ds[b].d.p.toNat []) (b:Int):=by rw [rankAt,if_pos hw]
   have hra:rankAt l rows a ds[a]=idx (rows.getD ds[b].d.p.toNat []) (wrote l a ds[a]):=by
    rw [rankAt,wrote,ho'.2.2]
    cases hr:reads ds[a].d.k
    ·have:writes ds[a].d.k=true:=by have:=ho'.1;rw [hr] at this;simpa using this
     rw [if_pos this];rfl
    ·have:writes ds[a].d.k=false:=by
      cases hwa:writes ds[a].d.k
      ·rfl
      ·rw [wr_rd hwa] at hr;cases hr
     rw [if_neg (by rw [this];simp)];rfl
   rw [hra,hrb]
   by_cases e:a=b
   ·subst e
    have:wrote l a ds[a]=(a:Int):=by rw [wrote,wr_rd hw];rfl
    rw [this];simp
   ·have:((a:Int)==(b:Int))=false:=by simp;omega
    rw [this];simp
theorem keeps_eq {ds:List De} {a b:Nat} (h:run false ds=some false) (hab:a < b) (hb:b < ds.length):sKeeps ds a b ds[a] ds[b]=keeps ds a b ds[a] ds[b]:=by
 unfold sKeeps keeps
 rw [← in_out_eq h hab hb]
 simp only [Bool.or_assoc]
theorem must_eq {ds : List De} {l : List Int} {rows : List (List Int)} (hf : fromOk ds l = true) (h : run false ds = some false) (kind : Nat) {a b : Nat} (ha : a < ds.length) (hb : b < ds.length) : (stays ds kind a b ds[a] ds[b] || told l rows kind a b ds[a] ds[b]) = must ds l rows kind a b ds[a] ds[b] := by
  have hl : (own a b ds[a] ds[b] && sKeeps ds a b ds[a] ds[b]) = loose ds a b ds[a] ds[b] := by
    unfold loose
    by_cases hab : a < b
    · rw [keeps_eq h hab hb]
    · have : own a b ds[a] ds[b] = false := by simp [own, hab]
      rw [this]; rfl
  unfold stays told must
  rw [read_eq hf ha hb, over_eq l rows a b ha hb]
  split
  · rfl
  · rfl
  · rfl
  · first
    | (rw [hl, Bool.and_or_distrib_left]; done)
    | (rw [hl]; repeat' split
       all_goals first | contradiction | (rw [Bool.and_or_distrib_left]) | (exfalso; simp_all; done) | rfl)
end M
end
section
open Go.RowKit
structure Wx where
 g:Nat
 c:Nat
 ds:List M.De
 fb:Nat
 fo:Nat
 fc:Nat
 l:List Int
 rb:Nat
 ro:Nat
 rc:Nat
 rows:List (List Int)
structure Wx.At (t:Wx) (w:World):Prop where
 d:DeS w (some ⟨t.g,0,none⟩) t.g t.ds
 f:IntS w (some ⟨t.fb,t.fo,none⟩) t.fb t.fo t.l
 r:IntSS w (some ⟨t.rb,t.ro,none⟩) t.rb t.ro t.rows
structure Wx.Ok (t:Wx):Prop where
 dl:t.ds.length≤1048576
 len:Hid (t.l.length=t.ds.length)
 three:Hid (t.rows.length=3)
 rl:∀ r∈t.rows,r.length≤1048576
 run:M.run false t.ds=some false
 pl:∀ x∈t.ds,x.uses=true→0≤x.d.p∧x.d.p < 3
theorem Wx.At.below {t:Wx} {w w':World} {B:Nat} (h:t.At w) (hb:Below B w w') (hB:w.heap.size≤B):t.At w':=⟨h.d.bel hb hB,h.f.below hb hB,h.r.below hb hB⟩
theorem Wx.lt {t:Wx} {n:Nat} {x:M.De} (hx:t.ds[n]?=some x):n < t.ds.length:=by
 rcases Nat.lt_or_ge n t.ds.length with h | h
 ·exact h
 ·rw [List.getElem?_eq_none h] at hx;cases hx
theorem Wx.At.el {t:Wx} {w:World} (h:t.At w) {n:Nat} {x:M.De} (hx:t.ds[n]?=some x):DeAt w t.g (n * 7) x:=by
 have hn:=Wx.lt hx
 rw [List.getElem?_eq_getElem hn] at hx
 obtain rfl:=Option.some.inj hx
 exact DeS.at h.d hn
structure Wx.Bx (t:Wx) (w W:World) (K:Nat):Prop where
 bel:Below w.heap.size w W
 c0:W.cell? ⟨K,0,none⟩=some (.slice (some ⟨t.g,0,none⟩) t.ds.length t.c)
 c1:W.cell? ⟨K,1,none⟩=some (.slice (some ⟨t.fb,t.fo,none⟩) t.l.length t.fc)
 c2:W.cell? ⟨K,2,none⟩=some (.slice (some ⟨t.rb,t.ro,none⟩) t.rows.length t.rc)
 at_:t.At W
theorem Wx.Bx.new {t:Wx} {w:World} (h:t.At w):t.Bx w (w.alloc (.cells #[.slice (some ⟨t.g,0,none⟩) t.ds.length t.c,.slice (some ⟨t.fb,t.fo,none⟩) t.l.length t.fc,.slice (some ⟨t.rb,t.ro,none⟩) t.rows.length t.rc] 78)) w.heap.size :=
 ⟨below1 _ _,by simp,by simp,by simp,h.below (below1 _ _) (Nat.le_refl _)⟩
theorem Wx.Bx.below {t:Wx} {w W W':World} {K:Nat} (h:t.Bx w W K) (hb:Below W.heap.size W W'):t.Bx w W' K:=by
 have hl:K < W.heap.size:=World.block_lt_of_cell? _ _ h.c0
 exact ⟨h.bel.trans (hb.mono h.bel.size),(hb.cell (p:=⟨K,0,none⟩) hl).trans h.c0,(hb.cell (p:=⟨K,1,none⟩) hl).trans h.c1,(hb.cell (p:=⟨K,2,none⟩) hl).trans h.c2,h.at_.below hb (Nat.le_refl _)⟩
theorem isWall_any (k:Int) (w:World):Calls Tryz.prog 185 #[.int .i64 k] w fun e w'=>e=.returned (.bool (M.isWall k))∧w'=w:=by
 cases h:(k==4)
 all_goals
  go_enter Tryz.func185,Tryz.ntmps185
  go_wp2_with fail
  go_ret
  exact ⟨ret_bool (by simp [M.isWall,h]),rfl⟩
theorem kind_any (t:Wx) (a:Nat) (x:M.De) (w:World) (_hl:t.Ok) (ht:t.At w) (hx:t.ds[a]?=some x) :
  Calls Tryz.prog 147 #[.agg #[.slice (some ⟨t.g,0,none⟩) t.ds.length t.c,.slice (some ⟨t.fb,t.fo,none⟩) t.l.length t.fc,.slice (some ⟨t.rb,t.ro,none⟩) t.rows.length t.rc],.int .i64 (a:Int)] w fun e w'=>e=.returned (.int .i64 x.d.k)∧Below w.heap.size w w':=by
 have ha:=Wx.lt hx
 obtain ⟨c0,c1,c2,c3,c4,c5,c6⟩:=ht.el hx
 have lg:t.g < w.heap.size:=World.block_lt_of_cell? _ _ c0
 have i1:(a:Int) < t.ds.length:=by omega
 go_enter Tryz.func147,Tryz.ntmps147
 go_wp2_with fail
 go_ret
 exact ⟨rfl,below1 _ _⟩
theorem oneThread_any (t:Wx) (a b:Nat) (x y:M.De) (w:World) (_hl:t.Ok) (ht:t.At w) (hx:t.ds[a]?=some x) (hy:t.ds[b]?=some y) :
  Calls Tryz.prog 150 #[.agg #[.slice (some ⟨t.g,0,none⟩) t.ds.length t.c,.slice (some ⟨t.fb,t.fo,none⟩) t.l.length t.fc,.slice (some ⟨t.rb,t.ro,none⟩) t.rows.length t.rc],.int .i64 (a:Int),.int .i64 (b:Int)] w fun e w'=>e=.returned (.bool (x.t==y.t))∧Below w.heap.size w w':=by
 have ha:=Wx.lt hx
 have hb:=Wx.lt hy
 have B0:=Wx.Bx.new ht
 obtain ⟨c0,_,_,_,_,_,_⟩:=B0.at_.el hx
 obtain ⟨d0,_,_,_,_,_,_⟩:=B0.at_.el hy
 have i1:(a:Int) < t.ds.length:=by omega
 have i2:(b:Int) < t.ds.length:=by omega
 go_enter Tryz.func150,Tryz.ntmps150
 go_wp2_with fail
 have K0:=BelowOf.cell B0.c0
 have bel:=B0.bel
 have C0:=BelowOf.cell c0
 have D0:=BelowOf.cell d0
 generalize w.alloc (.cells #[.slice (some ⟨t.g,0,none⟩) t.ds.length t.c,.slice (some ⟨t.fb,t.fo,none⟩) t.l.length t.fc,.slice (some ⟨t.rb,t.ro,none⟩) t.rows.length t.rc] 78)=W at *
 haveI:Inhabited (BelowOf W):=⟨belOf W⟩
 refine wp_region_quiet_bel (by kernel_rfl) (by kernel_rfl) ?_
 repeat (quiet_step (fail))
 refine wpQuiet_nil ?_
 rintro _ ⟨⟨wq,hwq⟩,rfl⟩
 go_wp2_with fail
 go_ret
 exact ⟨ret_bool (by rw [Bool.eq_iff_iff];simp;omega),bel.trans (hwq.mono bel.size)⟩
theorem own_any (t:Wx) (a b:Nat) (x y:M.De) (w:World) (hl:t.Ok) (ht:t.At w) (hx:t.ds[a]?=some x) (hy:t.ds[b]?=some y) :
  Calls Tryz.prog 97 #[.agg #[.slice (some ⟨t.g,0,none⟩) t.ds.length t.c,.slice (some ⟨t.fb,t.fo,none⟩) t.l.length t.fc,.slice (some ⟨t.rb,t.ro,none⟩) t.rows.length t.rc],.int .i64 (a:Int),.int .i64 (b:Int)] w fun e w'=>e=.returned (.bool (M.own a b x y))∧Below w.heap.size w w':=by
 have B0:=Wx.Bx.new ht
 have C:=oneThread_any t a b x y _ hl B0.at_ hx hy
 by_cases hab:a < b
 ·have i1:(a:Int) < b:=by omega
  go_enter Tryz.func97,Tryz.ntmps97
  go_wp2_with fail
  refine C.mono ?_
  rintro e w1 ⟨rfl,hb1⟩
  go_wp2_with fail
  go_ret
  exact ⟨ret_bool (by simp [M.own,hab]),(B0.below hb1).bel⟩
 ·have i1:decide ((a:Int) < b)=false:=by simp;omega
  go_enter Tryz.func97,Tryz.ntmps97
  go_wp2_with fail
  go_ret
  exact ⟨ret_bool (by simp [M.own,hab]),B0.bel⟩
set_option maxHeartbeats 1000000 in
set_option maxRecDepth 100000 in
theorem onePl_any (t:Wx) (a b:Nat) (x y:M.De) (w:World) (hl:t.Ok) (ht:t.At w) (hx:t.ds[a]?=some x) (hy:t.ds[b]?=some y) :
  Calls Tryz.prog 146 #[.agg #[.slice (some ⟨t.g,0,none⟩) t.ds.length t.c,.slice (some ⟨t.fb,t.fo,none⟩) t.l.length t.fc,.slice (some ⟨t.rb,t.ro,none⟩) t.rows.length t.rc],.int .i64 (a:Int),.int .i64 (b:Int)] w fun e w'=>e=.returned (.bool (M.onePl x y))∧Below w.heap.size w w':=by
 have ha:=Wx.lt hx
 have hb:=Wx.lt hy
 have B0:=Wx.Bx.new ht
 obtain ⟨_,_,_,_,c4,_,_⟩:=B0.at_.el hx
 obtain ⟨_,_,_,_,d4,_,_⟩:=B0.at_.el hy
 have i1:(a:Int) < t.ds.length:=by omega
 have i2:(b:Int) < t.ds.length:=by omega
 go_enter Tryz.func146,Tryz.ntmps146
 go_wp2_with fail
 have K0:=BelowOf.cell B0.c0
 have K1:=BelowOf.cell B0.c1
 have K2:=BelowOf.cell B0.c2
 have bel:=B0.bel
 have C4:=BelowOf.cell c4
 have D4:=BelowOf.cell d4
 have at_:=B0.at_
 clear B0 c4 d4
 generalize w.alloc (.cells #[.slice (some ⟨t.g,0,none⟩) t.ds.length t.c,.slice (some ⟨t.fb,t.fo,none⟩) t.l.length t.fc,.slice (some ⟨t.rb,t.ro,none⟩) t.rows.length t.rc] 78)=W at *
 have CA:=fun q:BelowOf W=>kind_any t a x q.x hl (at_.below q.h (Nat.le_refl _)) hx
 have CB:=fun q:BelowOf W=>kind_any t b y q.x hl (at_.below q.h (Nat.le_refl _)) hy
 have UA:=fun q:BelowOf W=>(uses_any x.d.k q.x).mono (R':=fun e w'=>e=.returned (.bool (M.uses x.d.k))∧Below q.x.heap.size q.x w') (fun _ _ ⟨h1,h2⟩=>⟨h1,h2▸Below.refl _ _⟩)
 have UB:=fun q:BelowOf W=>(uses_any y.d.k q.x).mono (R':=fun e w'=>e=.returned (.bool (M.uses y.d.k))∧Below q.x.heap.size q.x w') (fun _ _ ⟨h1,h2⟩=>⟨h1,h2▸Below.refl _ _⟩)
 haveI:Inhabited (BelowOf W):=⟨belOf W⟩
 cases hu:M.uses x.d.k
 ·rw [hu] at UA
  refine wp_region_quiet_bel (by kernel_rfl) (by kernel_rfl) ?_
  iterate 5 (quiet_step (first | (go_at_call 147;exact Calls.bel_of (CA _)) | (go_at_call 104;exact Calls.bel_of (UA _))))
  iterate 4 go_big_quiet_skip
  iterate 2 (quiet_step (fail))
  iterate 15 go_big_quiet_skip
  iterate 2 (quiet_step (fail))
  refine wpQuiet_nil ?_
  rintro _ ⟨⟨wq,hwq⟩,rfl⟩
  go_wp2_with fail
  go_ret
  exact ⟨ret_bool (by simp [M.onePl,M.De.uses,hu]),bel.trans (hwq.mono bel.size)⟩
 ·rw [hu] at UA
  cases hv:M.uses y.d.k
  ·rw [hv] at UB
   refine wp_region_quiet_bel (by kernel_rfl) (by kernel_rfl) ?_
   iterate 5 (quiet_step (first | (go_at_call 147;exact Calls.bel_of (CA _)) | (go_at_call 104;exact Calls.bel_of (UA _))))
   iterate 6 (quiet_step (first | (go_at_call 147;exact Calls.bel_of (CB _)) | (go_at_call 104;exact Calls.bel_of (UB _))))
   iterate 15 go_big_quiet_skip
   iterate 2 (quiet_step (fail))
   refine wpQuiet_nil ?_
   rintro _ ⟨⟨wq,hwq⟩,rfl⟩
   go_wp2_with fail
   go_ret
   exact ⟨ret_bool (by simp [M.onePl,M.De.uses,hu,hv]),bel.trans (hwq.mono bel.size)⟩
  ·rw [hv] at UB
   refine wp_region_quiet_bel (by kernel_rfl) (by kernel_rfl) ?_
   iterate 5 (quiet_step (first | (go_at_call 147;exact Calls.bel_of (CA _)) | (go_at_call 104;exact Calls.bel_of (UA _))))
   iterate 6 (quiet_step (first | (go_at_call 147;exact Calls.bel_of (CB _)) | (go_at_call 104;exact Calls.bel_of (UB _))))
   repeat (quiet_step (fail))
   refine wpQuiet_nil ?_
   rintro _ ⟨⟨wq,hwq⟩,rfl⟩
   go_wp2_with fail
   go_ret
   exact ⟨ret_bool (by simp [M.onePl,M.De.uses,hu,hv]),bel.trans (hwq.mono bel.size)⟩
theorem wall_any (t:Wx) (a b:Nat) (x y:M.De) (w:World) (hl:t.Ok) (ht:t.At w) (hx:t.ds[a]?=some x) (hy:t.ds[b]?=some y) :
  Calls Tryz.prog 151 #[.agg #[.slice (some ⟨t.g,0,none⟩) t.ds.length t.c,.slice (some ⟨t.fb,t.fo,none⟩) t.l.length t.fc,.slice (some ⟨t.rb,t.ro,none⟩) t.rows.length t.rc],.int .i64 (a:Int),.int .i64 (b:Int)] w fun e w'=>e=.returned (.bool (M.isWall x.d.k||M.isWall y.d.k))∧Below w.heap.size w w':=by
 have B0:=Wx.Bx.new ht
 cases hw:M.isWall x.d.k
 ·go_enter Tryz.func151,Tryz.ntmps151
  go_wp2_with fail
  refine (kind_any t a x _ hl B0.at_ hx).mono ?_
  rintro e w1 ⟨rfl,hb1⟩
  have B1:=B0.below hb1
  have k0:=B1.c0;have k1:=B1.c1;have k2:=B1.c2
  go_wp2_with (go_at_call 185;refine (isWall_any _ _).mono ?_;rw [hw];rintro e w' ⟨rfl,rfl⟩)
  refine (kind_any t b y _ hl B1.at_ hy).mono ?_
  rintro e w2 ⟨rfl,hb2⟩
  go_wp2_with (go_at_call 185;refine (isWall_any _ _).mono ?_;rintro e w' ⟨rfl,rfl⟩)
  go_ret
  exact ⟨rfl,(B1.below hb2).bel⟩
 ·go_enter Tryz.func151,Tryz.ntmps151
  go_wp2_with fail
  refine (kind_any t a x _ hl B0.at_ hx).mono ?_
  rintro e w1 ⟨rfl,hb1⟩
  go_wp2_with (go_at_call 185;refine (isWall_any _ _).mono ?_;rw [hw];rintro e w' ⟨rfl,rfl⟩)
  go_ret
  exact ⟨rfl,(B0.below hb1).bel⟩
theorem takes_any (t:Wx) (a b:Nat) (x y:M.De) (w:World) (hl:t.Ok) (ht:t.At w) (hx:t.ds[a]?=some x) (_hy:t.ds[b]?=some y) :
  Calls Tryz.prog 152 #[.agg #[.slice (some ⟨t.g,0,none⟩) t.ds.length t.c,.slice (some ⟨t.fb,t.fo,none⟩) t.l.length t.fc,.slice (some ⟨t.rb,t.ro,none⟩) t.rows.length t.rc],.int .i64 (a:Int),.int .i64 (b:Int)] w fun e w'=>e=.returned (.bool (x.d.k==5))∧Below w.heap.size w w':=by
 have B0:=Wx.Bx.new ht
 go_enter Tryz.func152,Tryz.ntmps152
 go_wp2_with fail
 refine (kind_any t a x _ hl B0.at_ hx).mono ?_
 rintro e w1 ⟨rfl,hb1⟩
 go_wp2_with fail
 go_ret
 exact ⟨rfl,(B0.below hb1).bel⟩
theorem gives_any (t:Wx) (a b:Nat) (x y:M.De) (w:World) (hl:t.Ok) (ht:t.At w) (_hx:t.ds[a]?=some x) (hy:t.ds[b]?=some y) :
  Calls Tryz.prog 153 #[.agg #[.slice (some ⟨t.g,0,none⟩) t.ds.length t.c,.slice (some ⟨t.fb,t.fo,none⟩) t.l.length t.fc,.slice (some ⟨t.rb,t.ro,none⟩) t.rows.length t.rc],.int .i64 (a:Int),.int .i64 (b:Int)] w fun e w'=>e=.returned (.bool (y.d.k==6))∧Below w.heap.size w w':=by
 have B0:=Wx.Bx.new ht
 go_enter Tryz.func153,Tryz.ntmps153
 go_wp2_with fail
 refine (kind_any t b y _ hl B0.at_ hy).mono ?_
 rintro e w1 ⟨rfl,hb1⟩
 go_wp2_with fail
 go_ret
 exact ⟨rfl,(B0.below hb1).bel⟩
theorem M.out_step {ds:List M.De} {n:Nat} (hn:n < ds.length):M.outOf ds n=if ds[n].d.k==8 then n else M.outOf ds (n+1):=by
 unfold M.outOf
 rw [← List.getElem_cons_drop hn,M.outFrom]
theorem M.in_step {ds:List M.De} {n:Nat} (hn:n+1 < ds.length):M.inOf ds (n+1)=if ds[n+1].d.k==7 then n+1 else M.inOf ds n:=by
 rw [M.inOf,M.kAt_eq hn]
set_option maxHeartbeats 400000 in
theorem outOf_any (g c:Nat) (ds:List M.De) (a:Nat) (w:World) (hl:ds.length≤1048576) (hex:∃ m,a≤m∧∃ hm:m < ds.length,ds[m].d.k=8) (h:DeS w (some ⟨g,0,none⟩) g ds) :
  Calls Tryz.prog 140 #[.slice (some ⟨g,0,none⟩) ds.length c,.int .i64 (a:Int)] w fun e w'=>e=.returned (.int .i64 (M.outOf ds a:Nat))∧w'=w:=by
 obtain ⟨m,ham,hm,hm8⟩:=hex
 have HM:Hid (ds[m].d.k=8):=hm8
 clear hm8
 go_enter Tryz.func140,Tryz.ntmps140
 go_wp2_with fail
 go_loopw [5] (fun s5 wr=>∃ n:Nat,s5=.int .i64 n∧n≤m∧Hid (M.outOf ds a=M.outOf ds n)∧wr=w) (fun s5 _=>m - (intOf s5).toNat)
 case atStart=>exact ⟨a,rfl,ham,by show _=_;rfl,rfl⟩
 case round =>
  obtain ⟨n,rfl,hn,HO,rfl⟩:=hrel
  have hlt:n < ds.length:=by omega
  obtain ⟨_,_,_,c3,_,_,_⟩:=DeS.at h hlt
  have HS:Hid (M.outOf ds a=if ds[n].d.k==8 then n else M.outOf ds (n+1)):=by show _=_;rw [HO.out,M.out_step hlt]
  have HN:Hid (n=m→ds[n].d.k=8):=fun e=>by subst e;exact HM.out
  clear HO
  generalize ds[n].d.k=k at *
  have i1:(n:Int) < ds.length:=by omega
  by_cases h8:k=8
  ·subst h8
   go_wp2_with fail
   go_ret
   exact ⟨by rw [HS.out];rfl,rfl⟩
  ·have h8':(k != 8)=true:=by simpa using h8
   have h8'':(k==8)=false:=by simpa using h8
   have hne:n≠m:=fun e=>h8 (HN.out e)
   go_wp2_with fail
   exact ⟨⟨n+1,by go_num,by omega,by show _=_;rw [HS.out,h8''];rfl,trivial⟩,by simp [intOf];omega⟩
set_option maxHeartbeats 400000 in
theorem inOf_any (g c:Nat) (ds:List M.De) (a:Nat) (w:World) (hl:ds.length≤1048576) (ha:a < ds.length) (hex:∃ m,m≤a∧∃ hm:m < ds.length,ds[m].d.k=7) (h:DeS w (some ⟨g,0,none⟩) g ds) :
  Calls Tryz.prog 186 #[.slice (some ⟨g,0,none⟩) ds.length c,.int .i64 (a:Int)] w fun e w'=>e=.returned (.int .i64 (M.inOf ds a:Nat))∧w'=w:=by
 obtain ⟨m,ham,hm,hm7⟩:=hex
 have HM:Hid (ds[m].d.k=7):=hm7
 clear hm7
 go_enter Tryz.func186,Tryz.ntmps186
 go_wp2_with fail
 go_loopw [5] (fun s5 wr=>∃ n:Nat,s5=.int .i64 n∧m≤n∧n < ds.length∧Hid (M.inOf ds a=M.inOf ds n)∧wr=w) (fun s5 _=>(intOf s5).toNat)
 case atStart=>exact ⟨a,rfl,ham,ha,by show _=_;rfl,rfl⟩
 case round =>
  obtain ⟨n,rfl,hn,hlt,HO,rfl⟩:=hrel
  obtain ⟨_,_,_,c3,_,_,_⟩:=DeS.at h hlt
  have HN:Hid (n=m→ds[n].d.k=7):=fun e=>by subst e;exact HM.out
  have i1:(n:Int) < ds.length:=by omega
  by_cases h7:ds[n].d.k=7
  ·have HS:Hid (M.inOf ds n=n):=by
    show _=_
    cases n with
    | zero=>rfl
    | succ n=>rw [M.in_step hlt,h7];rfl
   rw [h7] at c3
   go_wp2_with fail
   go_ret
   exact ⟨by rw [HO.out,HS.out];rfl,rfl⟩
  ·have hne:n≠m:=fun e=>h7 (HN.out e)
   obtain ⟨n',rfl⟩:∃ n',n=n'+1:=⟨n - 1,by omega⟩
   have HS:Hid (M.inOf ds (n'+1)=M.inOf ds n'):=by
    show _=_
    rw [M.in_step hlt,if_neg (by simpa using h7)]
   generalize ds[n'+1].d.k=k at *
   have h7':(k != 7)=true:=by simpa using h7
   have e1:IntKind.i64.wrap (n':Int)=n':=by rw [IntKind.wrap_i64];omega
   go_wp2_with fail
   exact ⟨⟨n',by go_num,by omega,by omega,by show _=_;rw [HO.out,HS.out],trivial⟩,by simp [intOf]⟩
theorem goesIn_any (t:Wx) (a b:Nat) (x y:M.De) (w:World) (hl:t.Ok) (ht:t.At w) (hx:t.ds[a]?=some x) (_hy:t.ds[b]?=some y) :
  Calls Tryz.prog 154 #[.agg #[.slice (some ⟨t.g,0,none⟩) t.ds.length t.c,.slice (some ⟨t.fb,t.fo,none⟩) t.l.length t.fc,.slice (some ⟨t.rb,t.ro,none⟩) t.rows.length t.rc],.int .i64 (a:Int),.int .i64 (b:Int)] w fun e w'=>e=.returned (.bool (M.goesIn t.ds a b x))∧Below w.heap.size w w':=by
 have ha:=Wx.lt hx
 have B0:=Wx.Bx.new ht
 have hxa:t.ds[a]=x:=by rw [List.getElem?_eq_getElem ha] at hx;exact Option.some.inj hx
 by_cases h7:x.d.k=7
 ·obtain ⟨m,hm,hml,h8⟩:=M.has_out hl.run ha (by rw [hxa];exact h7)
  go_enter Tryz.func154,Tryz.ntmps154
  go_wp2_with fail
  refine (kind_any t a x _ hl B0.at_ hx).mono ?_
  rintro e w1 ⟨rfl,hb1⟩
  have B1:=B0.below hb1
  have k0:=B1.c0
  rw [h7]
  go_wp2_with (go_at_call 140;refine (outOf_any t.g t.c t.ds a _ hl.dl ⟨m,by omega,hml,h8⟩ B1.at_.d).mono ?_;rintro e w' ⟨rfl,rfl⟩)
  go_ret
  exact ⟨ret_bool (by simp [M.goesIn,h7]),B1.bel⟩
 ·have h7':(x.d.k==7)=false:=by simpa using h7
  go_enter Tryz.func154,Tryz.ntmps154
  go_wp2_with fail
  refine (kind_any t a x _ hl B0.at_ hx).mono ?_
  rintro e w1 ⟨rfl,hb1⟩
  go_wp2_with fail
  go_ret
  exact ⟨ret_bool (by simp [M.goesIn,h7]),(B0.below hb1).bel⟩
theorem goesOut_any (t:Wx) (a b:Nat) (x y:M.De) (w:World) (hl:t.Ok) (ht:t.At w) (_hx:t.ds[a]?=some x) (hy:t.ds[b]?=some y) :
  Calls Tryz.prog 155 #[.agg #[.slice (some ⟨t.g,0,none⟩) t.ds.length t.c,.slice (some ⟨t.fb,t.fo,none⟩) t.l.length t.fc,.slice (some ⟨t.rb,t.ro,none⟩) t.rows.length t.rc],.int .i64 (a:Int),.int .i64 (b:Int)] w fun e w'=>e=.returned (.bool (M.goesOut t.ds a b y))∧Below w.heap.size w w':=by
 have hb:=Wx.lt hy
 have B0:=Wx.Bx.new ht
 have hya:t.ds[b]=y:=by rw [List.getElem?_eq_getElem hb] at hy;exact Option.some.inj hy
 by_cases h8:y.d.k=8
 ·obtain ⟨m,hm,hml,h7⟩:=M.has_in hl.run hb (by rw [hya];exact h8)
  go_enter Tryz.func155,Tryz.ntmps155
  go_wp2_with fail
  refine (kind_any t b y _ hl B0.at_ hy).mono ?_
  rintro e w1 ⟨rfl,hb1⟩
  have B1:=B0.below hb1
  have k0:=B1.c0
  rw [h8]
  go_wp2_with (go_at_call 186;refine (inOf_any t.g t.c t.ds b _ hl.dl hb ⟨m,by omega,hml,h7⟩ B1.at_.d).mono ?_;rintro e w' ⟨rfl,rfl⟩)
  go_ret
  exact ⟨ret_bool (by simp [M.goesOut,h8]),B1.bel⟩
 ·have h8':(y.d.k==8)=false:=by simpa using h8
  go_enter Tryz.func155,Tryz.ntmps155
  go_wp2_with fail
  refine (kind_any t b y _ hl B0.at_ hy).mono ?_
  rintro e w1 ⟨rfl,hb1⟩
  go_wp2_with fail
  go_ret
  exact ⟨ret_bool (by simp [M.goesOut,h8]),(B0.below hb1).bel⟩
theorem copyOf_any (t:Wx) (a b:Nat) (x y:M.De) (w:World) (hl:t.Ok) (ht:t.At w) (_hx:t.ds[a]?=some x) (hy:t.ds[b]?=some y) :
  Calls Tryz.prog 156 #[.agg #[.slice (some ⟨t.g,0,none⟩) t.ds.length t.c,.slice (some ⟨t.fb,t.fo,none⟩) t.l.length t.fc,.slice (some ⟨t.rb,t.ro,none⟩) t.rows.length t.rc],.int .i64 (a:Int),.int .i64 (b:Int)] w fun e w'=>e=.returned (.bool (M.copyOf a y))∧Below w.heap.size w w':=by
 have hb:=Wx.lt hy
 have B0:=Wx.Bx.new ht
 have i2:(b:Int) < t.ds.length:=by omega
 by_cases h3:y.d.k=3
 ·go_enter Tryz.func156,Tryz.ntmps156
  go_wp2_with fail
  refine (kind_any t b y _ hl B0.at_ hy).mono ?_
  rintro e w1 ⟨rfl,hb1⟩
  have B1:=B0.below hb1
  have k0:=B1.c0
  obtain ⟨_,_,_,_,_,_,c6⟩:=B1.at_.el hy
  rw [h3]
  go_wp2_with fail
  go_ret
  exact ⟨ret_bool (by simp [M.copyOf,h3]),B1.bel⟩
 ·have h3':(y.d.k==3)=false:=by simpa using h3
  go_enter Tryz.func156,Tryz.ntmps156
  go_wp2_with fail
  refine (kind_any t b y _ hl B0.at_ hy).mono ?_
  rintro e w1 ⟨rfl,hb1⟩
  go_wp2_with fail
  go_ret
  exact ⟨ret_bool (by simp [M.copyOf,h3]),(B0.below hb1).bel⟩
theorem read_any (t:Wx) (a b:Nat) (x y:M.De) (w:World) (hl:t.Ok) (ht:t.At w) (_hx:t.ds[a]?=some x) (hy:t.ds[b]?=some y) :
  Calls Tryz.prog 95 #[.agg #[.slice (some ⟨t.g,0,none⟩) t.ds.length t.c,.slice (some ⟨t.fb,t.fo,none⟩) t.l.length t.fc,.slice (some ⟨t.rb,t.ro,none⟩) t.rows.length t.rc],.int .i64 (a:Int),.int .i64 (b:Int)] w fun e w'=>e=.returned (.bool (M.read t.l a b))∧Below w.heap.size w w':=by
 have hb:=Wx.lt hy
 have hb2:b < t.l.length:=by rw [hl.len.out];exact hb
 have c0:=ht.f.row b hb2
 have HG:Hid (t.l.getD b 0=t.l[b]):=by show _=_;simp [hb2]
 generalize t.l[b]=f at *
 have lf:t.fb < w.heap.size:=World.block_lt_of_cell? _ _ c0
 have i2:(b:Int) < t.l.length:=by omega
 go_enter Tryz.func95,Tryz.ntmps95
 go_wp2_with fail
 go_ret
 exact ⟨ret_bool (by rw [M.read,HG.out]),below1 _ _⟩
theorem late_any (t:Wx) (a b:Nat) (x y:M.De) (w:World) (hl:t.Ok) (ht:t.At w) (hx:t.ds[a]?=some x) (hy:t.ds[b]?=some y) :
  Calls Tryz.prog 98 #[.agg #[.slice (some ⟨t.g,0,none⟩) t.ds.length t.c,.slice (some ⟨t.fb,t.fo,none⟩) t.l.length t.fc,.slice (some ⟨t.rb,t.ro,none⟩) t.rows.length t.rc],.int .i64 (a:Int),.int .i64 (b:Int)] w fun e w'=>e=.returned (.bool (M.late a b x y))∧Below w.heap.size w w':=by
 have B0:=Wx.Bx.new ht
 have C:=own_any t a b x y _ hl B0.at_ hx hy
 cases ho:M.own a b x y
 ·rw [ho] at C
  go_enter Tryz.func98,Tryz.ntmps98
  go_wp2_with fail
  refine C.mono ?_
  rintro e w1 ⟨rfl,hb1⟩
  go_wp2_with fail
  go_ret
  exact ⟨ret_bool (by simp [M.late,ho]),(B0.below hb1).bel⟩
 ·rw [ho] at C
  cases hw:M.writes x.d.k
  ·go_enter Tryz.func98,Tryz.ntmps98
   go_wp2_with fail
   refine C.mono ?_
   rintro e w1 ⟨rfl,hb1⟩
   have B1:=B0.below hb1
   have k0:=B1.c0;have k1:=B1.c1;have k2:=B1.c2
   go_wp2_with fail
   refine (kind_any t a x _ hl B1.at_ hx).mono ?_
   rintro e w2 ⟨rfl,hb2⟩
   go_wp2_with (go_at_call 148;refine (writes_any _ _).mono ?_;rw [hw];rintro e w' ⟨rfl,rfl⟩)
   go_ret
   exact ⟨ret_bool (by simp [M.late,ho,hw]),(B1.below hb2).bel⟩
  ·go_enter Tryz.func98,Tryz.ntmps98
   go_wp2_with fail
   refine C.mono ?_
   rintro e w1 ⟨rfl,hb1⟩
   have B1:=B0.below hb1
   have k0:=B1.c0;have k1:=B1.c1;have k2:=B1.c2
   go_wp2_with fail
   refine (kind_any t a x _ hl B1.at_ hx).mono ?_
   rintro e w2 ⟨rfl,hb2⟩
   have B2:=B1.below hb2
   have k0:=B2.c0;have k1:=B2.c1;have k2:=B2.c2
   go_wp2_with (go_at_call 148;refine (writes_any _ _).mono ?_;rw [hw];rintro e w' ⟨rfl,rfl⟩)
   refine (kind_any t b y _ hl B2.at_ hy).mono ?_
   rintro e w3 ⟨rfl,hb3⟩
   go_wp2_with (go_at_call 86;refine (reads_any _ _).mono ?_;rintro e w' ⟨rfl,rfl⟩)
   go_ret
   exact ⟨ret_bool (by simp [M.late,ho,hw]),(B2.below hb3).bel⟩
theorem readTwo_any (t:Wx) (a b:Nat) (x y:M.De) (w:World) (hl:t.Ok) (ht:t.At w) (hx:t.ds[a]?=some x) (hy:t.ds[b]?=some y) :
  Calls Tryz.prog 99 #[.agg #[.slice (some ⟨t.g,0,none⟩) t.ds.length t.c,.slice (some ⟨t.fb,t.fo,none⟩) t.l.length t.fc,.slice (some ⟨t.rb,t.ro,none⟩) t.rows.length t.rc],.int .i64 (a:Int),.int .i64 (b:Int)] w fun e w'=>e=.returned (.bool (M.two x y&&M.read t.l a b))∧Below w.heap.size w w':=by
 have B0:=Wx.Bx.new ht
 have C:=oneThread_any t a b x y _ hl B0.at_ hx hy
 cases ho:(x.t==y.t)
 ·rw [ho] at C
  go_enter Tryz.func99,Tryz.ntmps99
  go_wp2_with fail
  refine C.mono ?_
  rintro e w1 ⟨rfl,hb1⟩
  have B1:=B0.below hb1
  have k0:=B1.c0;have k1:=B1.c1;have k2:=B1.c2
  go_wp2_with fail
  refine (read_any t a b x y _ hl B1.at_ hx hy).mono ?_
  rintro e w2 ⟨rfl,hb2⟩
  go_wp2_with fail
  go_ret
  exact ⟨ret_bool (by simp [M.two,ho]),(B1.below hb2).bel⟩
 ·rw [ho] at C
  go_enter Tryz.func99,Tryz.ntmps99
  go_wp2_with fail
  refine C.mono ?_
  rintro e w1 ⟨rfl,hb1⟩
  go_wp2_with fail
  go_ret
  exact ⟨ret_bool (by simp [M.two,ho]),(B0.below hb1).bel⟩
namespace M
theorem idx_hit {l:List Int} {v:Int} {n:Nat} (hn:n < l.length) (h:l[n]=v) (hb:∀ i (_:i < n) (hi:i < l.length),l[i]≠v):idx l v=n:=by
 have:l.findIdx? (·==v)=some n:=by
  rw [List.findIdx?_eq_some_iff_getElem]
  exact ⟨hn,by simpa using h,fun j hj=>by simpa using hb j hj (by omega)⟩
 simp [idx,this]
theorem idx_none {l:List Int} {v:Int} (h:∀ i (_:i < l.length),l[i]≠v):idx l v=-1:=by
 have:l.findIdx? (·==v)=none:=by
  rw [List.findIdx?_eq_none_iff]
  intro x hx
  obtain ⟨i,hi,rfl⟩:=List.getElem_of_mem hx
  simpa using h i hi
 simp [idx,this]
end M
set_option maxHeartbeats 400000 in
theorem index_any (a:Option Addr) (b o c:Nat) (l:List Int) (v:Int) (w:World) (hl:l.length≤1048576) (h:IntS w a b o l) :
  Calls Tryz.prog 149 #[.slice a l.length c,.int .i64 v] w fun e w'=>e=.returned (.int .i64 (M.idx l v))∧w'=w:=by
 go_enter Tryz.func149,Tryz.ntmps149
 go_wp2_with fail
 go_loopw [8] (fun s8 wr=>∃ n:Nat,s8=.int .i64 n∧n≤l.length∧Hid (∀ i (_:i < n) (h:i < l.length),l[i]≠v)∧wr=w) (fun s8 _=>l.length - (intOf s8).toNat)
 case atStart=>exact ⟨0,rfl,Nat.zero_le _,fun i hi=>absurd hi (Nat.not_lt_zero _),rfl⟩
 case round =>
  obtain ⟨n,rfl,hn,HA,rfl⟩:=hrel
  by_cases hlt:n < l.length
  ·obtain ⟨rfl⟩:=h.addr (by omega)
   have hx:=h.row n hlt
   obtain ⟨y,hy⟩:∃ y,l[n]=y:=⟨_,rfl⟩
   have HY:Hid (l[n]=y):=hy
   rw [hy] at hx
   clear hy
   have i1:(n:Int) < l.length:=by omega
   by_cases e:v=y
   ·subst e
    go_wp2_with fail
    go_ret
    exact ⟨by rw [M.idx_hit hlt HY.out HA.out];rfl,rfl⟩
   ·have e':(v==y)=false:=by simpa using e
    go_wp2_with fail
    exact ⟨⟨n+1,by go_num,by omega,fun i hi hl=>by
     by_cases ei:i=n
     ·subst ei;rw [HY.out];exact fun h=>e h.symm
     ·exact HA.out i (by omega) hl,trivial⟩,by simp [intOf];omega⟩
  ·go_wp2_with fail
   go_ret
   exact ⟨by rw [M.idx_none (fun i hi=>HA.out i (by omega) hi)];rfl,rfl⟩
set_option maxHeartbeats 1000000 in
set_option maxRecDepth 100000 in
theorem over_any (t:Wx) (a b:Nat) (x y:M.De) (w:World) (hl:t.Ok) (ht:t.At w) (hx:t.ds[a]?=some x) (hy:t.ds[b]?=some y) :
  Calls Tryz.prog 96 #[.agg #[.slice (some ⟨t.g,0,none⟩) t.ds.length t.c,.slice (some ⟨t.fb,t.fo,none⟩) t.l.length t.fc,.slice (some ⟨t.rb,t.ro,none⟩) t.rows.length t.rc],.int .i64 (a:Int),.int .i64 (b:Int)] w fun e w'=>e=.returned (.bool (M.over t.l t.rows a b x y))∧Below w.heap.size w w':=by
 have ha:=Wx.lt hx
 have hb:=Wx.lt hy
 have B0:=Wx.Bx.new ht
 have C:=onePl_any t a b x y _ hl B0.at_ hx hy
 have i1:(a:Int) < t.ds.length:=by omega
 have i2:(b:Int) < t.ds.length:=by omega
 cases ho:M.onePl x y
 ·rw [ho] at C
  go_enter Tryz.func96,Tryz.ntmps96
  go_wp2_with fail
  refine C.mono ?_
  rintro e w1 ⟨rfl,hb1⟩
  go_wp2_with fail
  go_ret
  exact ⟨ret_bool (by simp [M.over,ho]),(B0.below hb1).bel⟩
 ·rw [ho] at C
  cases hw:M.writes y.d.k
  ·go_enter Tryz.func96,Tryz.ntmps96
   go_wp2_with fail
   refine C.mono ?_
   rintro e w1 ⟨rfl,hb1⟩
   have B1:=B0.below hb1
   have k0:=B1.c0;have k1:=B1.c1;have k2:=B1.c2
   go_wp2_with fail
   refine (kind_any t b y _ hl B1.at_ hy).mono ?_
   rintro e w2 ⟨rfl,hb2⟩
   go_wp2_with (go_at_call 148;refine (writes_any _ _).mono ?_;rw [hw];rintro e w' ⟨rfl,rfl⟩)
   go_ret
   exact ⟨ret_bool (by simp [M.over,hw]),(B1.below hb2).bel⟩
  ·have hpl:0≤y.d.p∧y.d.p < 3:=hl.pl y (List.mem_of_getElem? hy) (by simp [M.De.uses,M.uses,hw])
   obtain ⟨p,hp⟩:∃ p:Nat,y.d.p=p:=⟨y.d.p.toNat,by omega⟩
   have hpr:p < t.rows.length:=by have:=hl.three.out;omega
   have hrl:=hl.rl _ (List.getElem_mem hpr)
   have HM:Hid (M.over t.l t.rows a b x y=decide (M.idx t.rows[p] (M.wrote t.l a x) < M.idx t.rows[p] (b:Int))):=by
    show _=_
    rw [M.over,ho,hw,hp,Int.toNat_natCast,List.getD_eq_getElem?_getD,List.getElem?_eq_getElem hpr]
    rfl
   have i3:(p:Int) < t.rows.length:=by omega
   go_enter Tryz.func96,Tryz.ntmps96
   go_wp2_with fail
   refine C.mono ?_
   rintro e w1 ⟨rfl,hb1⟩
   have B1:=B0.below hb1
   have k0:=B1.c0;have k1:=B1.c1;have k2:=B1.c2
   go_wp2_with fail
   refine (kind_any t b y _ hl B1.at_ hy).mono ?_
   rintro e w2 ⟨rfl,hb2⟩
   have B2:=B1.below hb2
   go_wp2_with (go_at_call 148;refine (writes_any _ _).mono ?_;rw [hw];rintro e w2x ⟨rfl,rfl⟩)
   obtain ⟨_,_,_,_,d4,_,_⟩:=B2.at_.el hy
   rw [hp] at d4
   obtain ⟨a',b',o',c',hc,hrow⟩:=B2.at_.r.row p hpr
   have K0:=BelowOf.cell B2.c0
   have K2:=BelowOf.cell B2.c2
   have KP:=BelowOf.cell d4
   have KR:=BelowOf.cell hc
   clear k0 k1 k2 C B0 B1 hb1 hb2 hc d4
   haveI:Inhabited (BelowOf w2x):=⟨belOf w2x⟩
   refine wp_region_quiet_bel (by kernel_rfl) (by kernel_rfl) ?_
   repeat (quiet_step (fail))
   refine wpQuiet_nil ?_
   rintro _ ⟨⟨wq,hwq⟩,rfl⟩
   have B3:=B2.below hwq
   have hrow3:=hrow.below hwq (Nat.le_refl _)
   generalize t.rows[p]=row at *
   clear K0 K2 KP KR hrow B2
   have k0:=B3.c0;have k1:=B3.c1;have k2:=B3.c2
   go_wp2_with fail
   refine (kind_any t a x _ hl B3.at_ hx).mono ?_
   rintro e w4 ⟨rfl,hb4⟩
   have B4:=B3.below hb4
   have hrow4:=hrow3.below hb4 (Nat.le_refl _)
   have hal:a < t.l.length:=by rw [hl.len.out];exact ha
   have cl:=B4.at_.f.row a hal
   have i4:(a:Int) < t.l.length:=by omega
   have q1:=B4.c1
   cases hr:M.reads x.d.k
   ·have HW:Hid (M.wrote t.l a x=(a:Int)):=by show _=_;simp [M.wrote,hr]
    go_wp2_with (first | (go_at_call 86;refine (reads_any _ _).mono ?_;rw [hr];rintro e w' ⟨rfl,rfl⟩) | (go_at_call 149;refine (index_any a' b' o' c' row _ _ hrl hrow4).mono ?_;rintro e w' ⟨rfl,rfl⟩))
    go_ret
    exact ⟨ret_bool (by rw [HM.out,HW.out]),B4.bel⟩
   ·have HW:Hid (M.wrote t.l a x=t.l[a]):=by show _=_;simp [M.wrote,hr,hal]
    generalize t.l[a]=f at *
    go_wp2_with (first | (go_at_call 86;refine (reads_any _ _).mono ?_;rw [hr];rintro e w' ⟨rfl,rfl⟩) | (go_at_call 149;refine (index_any a' b' o' c' row _ _ hrl hrow4).mono ?_;rintro e w' ⟨rfl,rfl⟩))
    go_ret
    exact ⟨ret_bool (by rw [HM.out,HW.out]),B4.bel⟩
theorem overTwo_any (t:Wx) (a b:Nat) (x y:M.De) (w:World) (hl:t.Ok) (ht:t.At w) (hx:t.ds[a]?=some x) (hy:t.ds[b]?=some y) :
  Calls Tryz.prog 101 #[.agg #[.slice (some ⟨t.g,0,none⟩) t.ds.length t.c,.slice (some ⟨t.fb,t.fo,none⟩) t.l.length t.fc,.slice (some ⟨t.rb,t.ro,none⟩) t.rows.length t.rc],.int .i64 (a:Int),.int .i64 (b:Int)] w fun e w'=>e=.returned (.bool (M.two x y&&M.over t.l t.rows a b x y))∧Below w.heap.size w w':=by
 have B0:=Wx.Bx.new ht
 have C:=oneThread_any t a b x y _ hl B0.at_ hx hy
 cases ho:(x.t==y.t)
 ·rw [ho] at C
  go_enter Tryz.func101,Tryz.ntmps101
  go_wp2_with fail
  refine C.mono ?_
  rintro e w1 ⟨rfl,hb1⟩
  have B1:=B0.below hb1
  have k0:=B1.c0;have k1:=B1.c1;have k2:=B1.c2
  go_wp2_with fail
  refine (over_any t a b x y _ hl B1.at_ hx hy).mono ?_
  rintro e w2 ⟨rfl,hb2⟩
  go_wp2_with fail
  go_ret
  exact ⟨ret_bool (by simp [M.two,ho]),(B1.below hb2).bel⟩
 ·rw [ho] at C
  go_enter Tryz.func101,Tryz.ntmps101
  go_wp2_with fail
  refine C.mono ?_
  rintro e w1 ⟨rfl,hb1⟩
  go_wp2_with fail
  go_ret
  exact ⟨ret_bool (by simp [M.two,ho]),(B0.below hb1).bel⟩
end
section
theorem nodup_le:∀ {l m:List Int},l.Nodup→(∀ x∈l,x∈m)→l.length≤m.length:=by
 intro l
 induction l with
 | nil=>intro m _ _;exact Nat.zero_le _
 | cons x l ih =>
  intro m hn hs
  obtain ⟨hx,hl⟩:=List.nodup_cons.1 hn
  have hm:=hs x (List.mem_cons_self ..)
  have:=ih (m:=m.erase x) hl (fun y hy=>by
   have hne:y≠x:=fun e=>hx (e▸hy)
   exact (List.mem_erase_of_ne hne).2 (hs y (List.mem_cons_of_mem _ hy)))
  rw [List.length_erase_of_mem hm] at this
  have hpos:0 < m.length:=List.length_pos_of_mem hm
  simp only [List.length_cons]
  omega
theorem nodup_all {l m:List Int} (hn:l.Nodup) (hs:∀ x∈l,x∈m) (hlen:m.length=l.length):∀ y∈m,y∈l:=by
 intro y hy
 rcases Classical.em (y∈l) with h | h
 ·exact h
 ·have:=nodup_le (l:=y::l) (m:=m) (List.nodup_cons.2 ⟨h,hn⟩) (fun x hx=>by
   rcases List.mem_cons.1 hx with rfl | hx
   ·exact hy
   ·exact hs x hx)
  simp only [List.length_cons] at this
  omega
theorem M.isRow_mem {ds:List M.De} {p:Int} {row:List Int} (h:M.isRow row (M.wrs p 0 ds)=true) (f:Int):f∈row↔f∈M.wrs p 0 ds:=by
 simp only [M.isRow,Bool.and_eq_true,decide_eq_true_eq,List.all_eq_true] at h
 obtain ⟨hlen,hall⟩:=h
 have hs:∀ x∈M.wrs p 0 ds,x∈row:=fun x hx=>by simpa using hall x hx
 exact ⟨nodup_all (M.nodup_wrs p ds 0) hs hlen f,hs f⟩
theorem M.orderAt_get {ds:List M.De}:∀ {rows:List (List Int)} {p:Nat},M.orderAt ds p rows=true→∀ n (h:n < rows.length),M.isRow rows[n] (M.wrs ((p+n:Nat):Int) 0 ds)=true:=by
 intro rows
 induction rows with
 | nil=>intro p _ n h;exact absurd h (Nat.not_lt_zero _)
 | cons row rows ih =>
  intro p h n hn
  simp only [M.orderAt,Bool.and_eq_true] at h
  cases n with
  | zero=>exact h.1
  | succ n =>
   have:=ih h.2 n (by simpa using hn)
   rw [show p+1+n=p+(n+1) from by omega] at this
   simpa using this
theorem M.tell_wrs {ds:List M.De} {x:M.De} {f:Int} (h:x.reads=true):M.mayTell ds x f=(f==-1||decide (f∈M.wrs x.d.p 0 ds)):=by
 by_cases h1:f=-1
 ·subst h1;rw [M.mayTell,if_pos h];simp
 ·have h1':(f==-1)=false:=by simpa using h1
  rw [h1',Bool.false_or]
  by_cases h0:0≤f∧f < ds.length
  ·obtain ⟨n,rfl⟩:∃ n:Nat,f=n:=⟨f.toNat,by omega⟩
   have hn:n < ds.length:=by omega
   rw [M.tell_at h hn]
   have:((n:Int)∈M.wrs x.d.p 0 ds)↔(ds[n]).to x.d.p=true:=by
    rw [M.mem_wrs]
    constructor
    ·rintro ⟨i,hi,e,t⟩
     have:i=n:=by omega
     subst this;exact t
    ·intro t;exact ⟨n,hn,by simp,t⟩
   cases ht:(ds[n]).to x.d.p
   ·rw [ht] at this;exact (decide_eq_false (fun h=>by have:=this.1 h;cases this)).symm
   ·rw [ht] at this;exact (decide_eq_true (this.2 rfl)).symm
  ·have:f∉M.wrs x.d.p 0 ds:=fun h=>by
    obtain ⟨i,hi,e,_⟩:=M.mem_wrs.1 h
    omega
   rw [decide_eq_false this]
   rcases Int.lt_or_le f 0 with hl | hl
   ·exact M.tell_low h h1 (by omega)
   ·exact M.tell_high h h1 (by omega)
def M.backQ (ds:List M.De) (l:List Int) (n:Nat):Nat→Nat
 | 0=>n
 | k+1=>(M.valFrom ds l (M.backQ ds l n k)).toNat
theorem M.backQ_succ (ds:List M.De) (l:List Int) (n:Nat):∀ k,M.backQ ds l n (k+1)=M.backQ ds l (M.valFrom ds l n).toNat k:=by
 intro k
 induction k with
 | zero=>rfl
 | succ k ih=>rw [M.backQ,ih,M.backQ]
theorem M.backQ_add (ds:List M.De) (l:List Int) (n a:Nat):∀ k,M.backQ ds l n (a+k)=M.backQ ds l (M.backQ ds l n a) k:=by
 intro k
 induction k with
 | zero=>rfl
 | succ k ih=>rw [← Nat.add_assoc,M.backQ,ih,M.backQ]
theorem M.orig_iff (ds:List M.De) (l:List Int):∀ (m n:Nat),(M.orig ds l m n).isSome=true↔∃ k,k < m∧M.valFrom ds l (M.backQ ds l n k) < 0:=by
 intro m
 induction m with
 | zero=>intro n;simp [M.orig]
 | succ m ih =>
  intro n
  rw [M.orig]
  by_cases h:M.valFrom ds l n < 0
  ·rw [if_pos h];exact ⟨fun _=>⟨0,by omega,h⟩,fun _=>rfl⟩
  ·rw [if_neg h,ih]
   constructor
   ·rintro ⟨k,hk,h2⟩;exact ⟨k+1,by omega,by rw [M.backQ_succ];exact h2⟩
   ·rintro ⟨k,hk,h2⟩
    cases k with
    | zero=>exact absurd h2 h
    | succ k=>rw [M.backQ_succ] at h2;exact ⟨k,by omega,h2⟩
theorem M.backQ_short {ds:List M.De} {l:List Int} (hin:M.In ds l) {n:Nat} (hn:n < ds.length):∀ k,M.valFrom ds l (M.backQ ds l n k) < 0→∃ j,j < ds.length∧M.valFrom ds l (M.backQ ds l n j) < 0:=by
 intro k
 induction k using Nat.strongRecOn with
 | ind k ih =>
  intro hk
  by_cases hlt:k < ds.length
  ·exact ⟨k,hlt,hk⟩
  ·by_cases hex:∃ j,j < k∧M.valFrom ds l (M.backQ ds l n j) < 0
   ·obtain ⟨j,hj,h2⟩:=hex
    exact ih j hj h2
   ·have hall:∀ j,j≤k→M.backQ ds l n j < ds.length:=by
     intro j
     induction j with
     | zero=>intro _;exact hn
     | succ j ihj =>
      intro hj
      have h1:=hin _ (ihj (by omega))
      have h2:¬ M.valFrom ds l (M.backQ ds l n j) < 0:=fun h=>hex ⟨j,by omega,h⟩
      rw [M.backQ];omega
    have hpg:∃ a b,a < b∧b≤ds.length∧M.backQ ds l n a=M.backQ ds l n b:=by
     refine Classical.byContradiction fun hno=>?_
     have hnd:((List.range (ds.length+1)).map (fun j=>(M.backQ ds l n j:Int))).Nodup:=by
      unfold List.Nodup
      rw [List.pairwise_map]
      refine List.Pairwise.imp_of_mem ?_ List.pairwise_lt_range
      intro a b ha hb hab e
      rw [List.mem_range] at ha hb
      exact hno ⟨a,b,hab,by omega,by omega⟩
     have:=nodup_le (m:=(List.range ds.length).map (fun j:Nat=>(j:Int))) hnd (by
      intro x hx
      obtain ⟨j,hj,rfl⟩:=List.mem_map.1 hx
      rw [List.mem_range] at hj
      exact List.mem_map.2 ⟨_,List.mem_range.2 (hall j (by omega)),rfl⟩)
     simp at this
     omega
    obtain ⟨a,b,hab,hb,e⟩:=hpg
    refine ih (a+(k - b)) (by omega) ?_
    rw [M.backQ_add,e,← M.backQ_add,show b+(k - b)=k from by omega]
    exact hk
theorem M.orig_more {ds:List M.De} {l:List Int} (hin:M.In ds l) {n:Nat} (hn:n < ds.length):(M.orig ds l (2 * ds.length+2) n).isSome=(M.orig ds l ds.length n).isSome:=by
 rw [Bool.eq_iff_iff,M.orig_iff,M.orig_iff]
 constructor
 ·rintro ⟨k,_,h⟩;exact M.backQ_short hin hn k h
 ·rintro ⟨k,hk,h⟩;exact ⟨k,by omega,h⟩
theorem M.vEnds_eq {ds:List M.De} {l:List Int} (hin:M.In ds l) (hv:∀ x∈ds,0≤x.d.v) (hll:l.length=ds.length):M.vEnds ds l 0 ds=M.ends ds l:=by
 have key:∀ (xs:List M.De) (n:Nat),n+xs.length=ds.length→M.vEnds ds l n xs=M.endsAt ds l n xs:=by
  intro xs
  induction xs with
  | nil=>intro n _;rfl
  | cons x xs ih =>
   intro n hn
   simp only [List.length_cons] at hn
   rw [M.vEnds,M.endsAt,ih (n+1) (by omega),M.val_orig hin hv hll _ n (by omega),M.orig_more hin (by omega)]
 exact key ds 0 (by omega)
theorem M.sFrom_eq {ds:List M.De} {rows:List (List Int)} (hrow:rows.length=3) (ho:M.orderAt ds 0 rows=true):∀ (xs:List M.De) (l:List Int),(∀ x∈xs,x.reads=true→0≤x.d.p∧x.d.p < 3)→M.sFrom rows xs l=M.fromAt ds xs l:=by
 intro xs
 induction xs with
 | nil=>intro l _;cases l<;>rfl
 | cons x xs ih =>
  intro l hp
  cases l with
  | nil=>rfl
  | cons f l =>
   rw [M.sFrom,M.fromAt,ih l (fun y hy=>hp y (List.mem_cons_of_mem _ hy))]
   congr 1
   cases hr:x.reads
   ·rw [M.tell_no hr,M.sTell,if_neg (by rw [hr];simp)]
   ·obtain ⟨h0,h3⟩:=hp x (List.mem_cons_self ..) hr
    have hlt:x.d.p.toNat < rows.length:=by omega
    rw [M.tell_wrs hr,M.sTell,if_pos hr,List.getD_eq_getElem?_getD,List.getElem?_eq_getElem hlt]
    congr 1
    have hg:=M.orderAt_get ho _ hlt
    rw [show ((0+x.d.p.toNat:Nat):Int)=x.d.p from by omega] at hg
    have:=M.isRow_mem hg f
    show M.has rows[x.d.p.toNat] f=_
    rw [Bool.eq_iff_iff,decide_eq_true_eq,← this]
    simp [M.has]
theorem M.way_eq {ds:List M.De} {l:List Int} {rows:List (List Int)} (hp:∀ x∈ds,x.reads=true→0≤x.d.p∧x.d.p < 3):M.sForm ds l rows=(M.fromOk ds l&&M.orderOk ds rows):=by
 unfold M.sForm M.fromOk M.orderOk
 by_cases h1:l.length=ds.length
 ·by_cases h2:rows.length=3
  ·cases h3:M.orderAt ds 0 rows
   ·simp
   ·rw [M.sFrom_eq h2 h3 ds l hp]
    simp [h1,h2]
  ·simp [h2]
 ·simp [h1]
end
section
open Go.RowKit
theorem M.prog_do {ll:List (List M.D)} (h:M.prog ll=true):∀ l∈ll,∀ d∈l,M.doOk d=true:=by
 simp only [M.prog,Bool.and_eq_true,decide_eq_true_eq] at h
 have key:∀ (ll:List (List M.D)) (a u:Nat),M.progFrom a u ll=true→∀ l∈ll,∀ d∈l,M.doOk d=true:=by
  intro ll
  induction ll with
  | nil=>intro a u _ l hl;cases hl
  | cons x ll ih =>
   intro a u hp l hl
   simp only [M.progFrom] at hp
   split at hp
   ·rename_i hx
    rcases List.mem_cons.1 hl with rfl | hl
    ·simp only [M.thread,Bool.and_eq_true,M.form,List.all_eq_true] at hx
     exact hx.1.1.2
    ·exact ih _ _ hp l hl
   ·cases hp
 exact key ll 0 0 h.2
theorem M.deed_do {ll:List (List M.D)} (h:M.prog ll=true):∀ x∈M.deeds ll,M.doOk x.d=true:=by
 intro x hx
 obtain ⟨ht,hi,e⟩:=M.ofEv x hx
 rw [← e]
 exact M.prog_do h _ (List.getElem_mem ht) _ (List.getElem_mem hi)
theorem M.deed_v {ll:List (List M.D)} (h:M.prog ll=true):∀ x∈M.deeds ll,0≤x.d.v:=by
 intro x hx
 have:=M.deed_do h x hx
 simp only [M.doOk,Bool.and_eq_true,M.valOk] at this
 have hv:=this.2
 split at hv
 ·simp at hv;omega
 ·simp at hv;omega
theorem M.deed_p {ll:List (List M.D)} (h:M.prog ll=true):∀ x∈M.deeds ll,x.reads=true→0≤x.d.p∧x.d.p < 3:=by
 intro x hx hr
 have:=M.deed_do h x hx
 simp only [M.doOk,Bool.and_eq_true,M.placeOk] at this
 have hv:=this.1.2
 rw [if_pos (by rw [M.uses,show M.reads x.d.k=true from hr];rfl)] at hv
 simpa using hv
set_option maxHeartbeats 1000000 in
set_option maxRecDepth 100000 in
theorem sexecOk_any (a:Option Addr) (b o c:Nat) (ll:List (List M.D)) (fa:Option Addr) (fb fo fc:Nat) (l:List Int) (ra:Option Addr) (rb ro rc:Nat) (rows:List (List Int)) (w:World) (hl:ll.length≤1048576) (hls:∀ t∈ll,t.length≤1048576) (hl1:l.length≤1048576) (hrs:∀ r∈rows,r.length≤1048576) (h:DoSS w a b o ll) (hf:IntS w fa fb fo l) (hr:IntSS w ra rb ro rows) :
  Calls Tryz.prog 58 #[.agg #[.slice a ll.length c],.agg #[.slice fa l.length fc,.slice ra rows.length rc]] w fun e w'=>e=.returned (.bool (M.execOk ll l rows))∧Below w.heap.size w w':=by
 have hb2:=below2 w (.cells #[.slice a ll.length c] 25) (.cells #[.slice fa l.length fc,.slice ra rows.length rc] 29)
 have kp:((w.alloc (.cells #[.slice a ll.length c] 25)).alloc (.cells #[.slice fa l.length fc,.slice ra rows.length rc] 29)).cell? ⟨w.heap.size,0,none⟩=some (.slice a ll.length c):=by simp
 have k0:((w.alloc (.cells #[.slice a ll.length c] 25)).alloc (.cells #[.slice fa l.length fc,.slice ra rows.length rc] 29)).cell? ⟨w.heap.size+1,0,none⟩=some (.slice fa l.length fc):=by simp
 have k1:((w.alloc (.cells #[.slice a ll.length c] 25)).alloc (.cells #[.slice fa l.length fc,.slice ra rows.length rc] 29)).cell? ⟨w.heap.size+1,1,none⟩=some (.slice ra rows.length rc):=by simp
 replace h:=h.below hb2 (Nat.le_refl _)
 replace hf:=hf.below hb2 (Nat.le_refl _)
 replace hr:=hr.below hb2 (Nat.le_refl _)
 go_enter Tryz.func58,Tryz.ntmps58
 go_wp2_with fail
 generalize (w.alloc (.cells #[.slice a ll.length c] 25)).alloc (.cells #[.slice fa l.length fc,.slice ra rows.length rc] 29)=W at *
 have lw1:w.heap.size+1 < W.heap.size:=World.block_lt_of_cell? _ _ k0
 have lw:w.heap.size < W.heap.size:=World.block_lt_of_cell? _ _ kp
 have C1:=sprog_any a b o c ll W hl hls h
 cases hp:M.prog ll
 ·rw [hp] at C1
  refine C1.mono ?_
  rintro e w1 ⟨rfl,hb1⟩
  go_wp2_with fail
  go_ret
  exact ⟨ret_bool (by simp [M.execOk,hp]),hb2.trans (hb1.mono hb2.size)⟩
 ·rw [hp] at C1
  obtain ⟨h3,h7⟩:=M.prog_bounds hp
  have hdl:=M.deeds_len h3 h7
  have HE:Hid (M.evAll ll=(M.deeds ll).map M.De.ev):=by show _=_;simp [M.evAll,hp,M.events]
  have HX:Hid (M.execOk ll l rows=((M.fromOk (M.deeds ll) l&&M.orderOk (M.deeds ll) rows)&&M.ends (M.deeds ll) l)):=by show _=_;simp [M.execOk,hp,M.wayOk,Bool.and_assoc]
  refine C1.mono ?_
  rintro e w1 ⟨rfl,hb1⟩
  have kp1:=(hb1.cell (p:=⟨w.heap.size,0,none⟩) lw).trans kp
  go_wp2_with fail
  refine (sexecEvents_any a b o c ll w1 hl hls (h.below hb1 (Nat.le_refl _))).mono ?_
  rintro e w2 ⟨v2,rfl,hown2,hb3⟩
  obtain ⟨va,g,cap,rfl,hev,_,_⟩:=own_rs M.Ev.len hown2
  rw [HE.out] at hev
  have hd:=DvS.of hev
  have hle:(M.evAll ll).length=(M.deeds ll).length:=by rw [HE.out,List.length_map]
  rw [hle]
  have hb12:=hb1.trans (hb3.mono hb1.size)
  have kp2:=(hb12.cell (p:=⟨w.heap.size,0,none⟩) lw).trans kp
  have k02:=(hb12.cell (p:=⟨w.heap.size+1,0,none⟩) lw1).trans k0
  have k12:=(hb12.cell (p:=⟨w.heap.size+1,1,none⟩) lw1).trans k1
  have h2:=h.below hb12 (Nat.le_refl _)
  have hf2:=hf.below hb12 (Nat.le_refl _)
  have hr2:=hr.below hb12 (Nat.le_refl _)
  have hbZ:=hb2.trans (hb12.mono hb2.size)
  have lw12:=Nat.lt_of_lt_of_le lw1 hb12.size
  have lw2:=Nat.lt_of_lt_of_le lw hb12.size
  have C4:=l12Form_any a b o c ll va g cap fa fb fo fc l ra rb ro rc rows w2 hl hls hdl (M.deed_p hp) hl1 hrs h2 hd hf2 hr2
  rw [M.way_eq (M.deed_p hp)] at C4
  clear hle hown2 hev kp k0 k1 kp1 HE C1
  cases hw:(M.fromOk (M.deeds ll) l&&M.orderOk (M.deeds ll) rows)
  ·rw [hw] at C4
   go_wp2_with fail
   refine C4.mono ?_
   rintro e w3 ⟨rfl,hb4⟩
   go_wp2_with fail
   go_ret
   exact ⟨ret_bool (by rw [HX.out,hw];rfl),hbZ.trans (hb4.mono hbZ.size)⟩
  ·rw [hw] at C4
   have hfo:M.fromOk (M.deeds ll) l=true:=by
    simp only [Bool.and_eq_true] at hw;exact hw.1
   have HIN:=M.in_of hfo
   have HLN:Hid (l.length=(M.deeds ll).length):=by
    show _=_
    simp only [M.fromOk,Bool.and_eq_true,decide_eq_true_eq] at hfo
    exact hfo.1
   go_wp2_with fail
   refine C4.mono ?_
   rintro e w3 ⟨rfl,hb4⟩
   have kp3:=(hb4.cell (p:=⟨w.heap.size,0,none⟩) lw2).trans kp2
   have k03:=(hb4.cell (p:=⟨w.heap.size+1,0,none⟩) lw12).trans k02
   have k13:=(hb4.cell (p:=⟨w.heap.size+1,1,none⟩) lw12).trans k12
   have C5:=l12Ends_any a b o c ll va g cap fa fb fo fc l (.slice ra rows.length rc) w3 hl hls hdl HLN HIN (h2.below hb4 (Nat.le_refl _)) (hd.bel hb4 (Nat.le_refl _)) (hf2.below hb4 (Nat.le_refl _))
   rw [M.vEnds_eq HIN (M.deed_v hp) HLN.out] at C5
   have hbY:=hbZ.trans (hb4.mono hbZ.size)
   clear kp2 k02 k12 hfo
   go_wp2_with fail
   refine C5.mono ?_
   rintro e w4 ⟨rfl,hb5⟩
   go_wp2_with fail
   go_ret
   exact ⟨ret_bool (by rw [HX.out,hw];rfl),hbY.trans (hb5.mono hbY.size)⟩
end
section
open Go.RowKit
set_option maxHeartbeats 400000 in
theorem reasons0_any (w:World):Calls Tryz.prog 46 #[.int .i64 0] w fun e w'=>e=.returned (.agg #[.func (.func 94) #[] #[],.func (.func 95) #[] #[],.func (.func 96) #[] #[]])∧Below w.heap.size w w':=by
 go_enter Tryz.func46,Tryz.ntmps46
 go_wp2_with fail
 refine bodyPost_ret (v:=.agg #[.func (.func 94) #[] #[],.func (.func 95) #[] #[],.func (.func 96) #[] #[]]) (by simp [results,Tryz.results46,go_sem]) rfl ⟨rfl,?_⟩
 exact below2 _ _ _
set_option maxHeartbeats 400000 in
theorem reasons1_any (w:World):Calls Tryz.prog 46 #[.int .i64 1] w fun e w'=>e=.returned (.agg #[.func (.func 97) #[] #[],.func (.func 95) #[] #[],.func (.func 96) #[] #[]])∧Below w.heap.size w w':=by
 go_enter Tryz.func46,Tryz.ntmps46
 go_wp2_with fail
 refine bodyPost_ret (v:=.agg #[.func (.func 97) #[] #[],.func (.func 95) #[] #[],.func (.func 96) #[] #[]]) (by simp [results,Tryz.results46,go_sem]) rfl ⟨rfl,?_⟩
 exact below2 _ _ _
set_option maxHeartbeats 400000 in
theorem reasons2_any (w:World):Calls Tryz.prog 46 #[.int .i64 2] w fun e w'=>e=.returned (.agg #[.func (.func 98) #[] #[],.func (.func 99) #[] #[],.func (.func 96) #[] #[]])∧Below w.heap.size w w':=by
 go_enter Tryz.func46,Tryz.ntmps46
 go_wp2_with fail
 refine bodyPost_ret (v:=.agg #[.func (.func 98) #[] #[],.func (.func 99) #[] #[],.func (.func 96) #[] #[]]) (by simp [results,Tryz.results46,go_sem]) rfl ⟨rfl,?_⟩
 exact below2 _ _ _
set_option maxHeartbeats 400000 in
theorem reasons3_any (w:World):Calls Tryz.prog 46 #[.int .i64 3] w fun e w'=>e=.returned (.agg #[.func (.func 100) #[] #[],.func (.func 99) #[] #[],.func (.func 101) #[] #[]])∧Below w.heap.size w w':=by
 go_enter Tryz.func46,Tryz.ntmps46
 go_wp2_with fail
 refine bodyPost_ret (v:=.agg #[.func (.func 100) #[] #[],.func (.func 99) #[] #[],.func (.func 101) #[] #[]]) (by simp [results,Tryz.results46,go_sem]) rfl ⟨rfl,?_⟩
 exact below2 _ _ _
theorem isOrder_any (k:Int) (w:World):Calls Tryz.prog 42 #[.int .i64 k] w fun e w'=>e=.returned (.bool (decide (1≤k)&&decide (k≤3)))∧w'=w:=by
 by_cases h1:1≤k
 ·go_enter Tryz.func42,Tryz.ntmps42
  go_wp2_with fail
  go_ret
  exact ⟨ret_bool (by simp [h1]),rfl⟩
 ·have h1':decide (1≤k)=false:=by simpa using h1
  go_enter Tryz.func42,Tryz.ntmps42
  go_wp2_with fail
  go_ret
  exact ⟨ret_bool (by simp),rfl⟩
namespace M
def mustAt (ds:List De) (l:List Int) (rows:List (List Int)) (kind a b:Nat):Bool:=match ds[a]?,ds[b]? with | some x,some y=>must ds l rows kind a b x y | _,_=>false
end M
theorem M.from_thr:∀ (l:List (List M.D)) (a u:Nat),M.progFrom a u l=true→∀ t∈l,M.thread t=true:=by
 intro l
 induction l with
 | nil=>intro a u _ t ht;cases ht
 | cons x l ih =>
  intro a u h t ht
  rw [M.progFrom] at h
  split at h
  ·rename_i hx
   rcases List.mem_cons.1 ht with rfl | ht
   ·exact hx
   ·exact ih _ _ h t ht
  ·cases h
theorem M.deed_u {ll:List (List M.D)} (h:M.prog ll=true):∀ x∈M.deeds ll,x.uses=true→0≤x.d.p∧x.d.p < 3:=by
 intro x hx hr
 have:=M.deed_do h x hx
 simp only [M.doOk,Bool.and_eq_true,M.placeOk] at this
 have hv:=this.1.2
 rw [if_pos (show M.uses x.d.k=true from hr)] at hv
 simpa using hv
structure M.Wok (ll:List (List M.D)) (l:List Int) (rows:List (List Int)):Prop where
 prog:M.prog ll=true
 fro:M.fromOk (M.deeds ll) l=true
 len:Hid (l.length=(M.deeds ll).length)
 three:Hid (rows.length=3)
 run:M.run false (M.deeds ll)=some false
 pl:∀ x∈M.deeds ll,x.uses=true→0≤x.d.p∧x.d.p < 3
theorem M.wok_of {ll:List (List M.D)} {l:List Int} {rows:List (List Int)} (h:M.execOk ll l rows=true):M.Wok ll l rows:=by
 simp only [M.execOk,M.wayOk,Bool.and_eq_true] at h
 obtain ⟨hp,hf,ho,_⟩:=h
 have hlen:l.length=(M.deeds ll).length:=by
  have:=hf
  simp only [M.fromOk,Bool.and_eq_true,decide_eq_true_eq] at this
  exact this.1
 simp only [M.orderOk,Bool.and_eq_true,decide_eq_true_eq] at ho
 exact ⟨hp,hf,hlen,ho.1,M.run_ok (M.from_thr ll 0 0 (by have:=hp;simp only [M.prog,Bool.and_eq_true] at this;exact this.2)),M.deed_u hp⟩
theorem cellB {W W':World} {p:Addr} {v:Value} (hb:Below W.heap.size W W') (h:W.cell? p=some v):W'.cell? p=some v:=(hb.cell (p:=p) (World.block_lt_of_cell? _ _ h)).trans h
structure SlotE (w:World) (b:Nat) (x y z:Value):Prop where
 blk:w.heap[b]?=some (.cells #[x,y,z] 78 (0,0))
theorem SlotE.c0 {w:World} {b:Nat} {x y z:Value} (h:SlotE w b x y z):w.cell? ⟨b,0,none⟩=some x:=by simp [World.cell?,h.blk]
theorem SlotE.c1 {w:World} {b:Nat} {x y z:Value} (h:SlotE w b x y z):w.cell? ⟨b,1,none⟩=some y:=by simp [World.cell?,h.blk]
theorem SlotE.c2 {w:World} {b:Nat} {x y z:Value} (h:SlotE w b x y z):w.cell? ⟨b,2,none⟩=some z:=by simp [World.cell?,h.blk]
theorem SlotE.fz {w:World} {b:Nat} {x y z:Value} (h:SlotE w b x y z) (i:Nat):w.frozen? ⟨b,i,none⟩=false:=by simp [World.frozen?,h.blk]
theorem slot3_drew {v2 v3:World} (hb:Below (v2.alloc (.cells #[.slice none 0 0,.slice none 0 0,.slice none 0 0] 78)).drew.heap.size (v2.alloc (.cells #[.slice none 0 0,.slice none 0 0,.slice none 0 0] 78)).drew v3):SlotE v3 v2.heap.size (.slice none 0 0) (.slice none 0 0) (.slice none 0 0) :=
 ⟨(hb.block v2.heap.size (show v2.heap.size < (v2.alloc (.cells #[.slice none 0 0,.slice none 0 0,.slice none 0 0] 78)).heap.size by simp)).trans (alloc_new _ _ _ rfl)⟩
structure Wb (w W:World) (X:Nat) (va:Option Addr) (g c:Nat) (ds:List M.De) (fa:Option Addr) (fb fo fc:Nat) (l:List Int) (ra:Option Addr) (rb ro rc:Nat) (rows:List (List Int)):Prop where
 bel:Below w.heap.size w W
 c0:W.cell? ⟨X,0,none⟩=some (.slice va ds.length c)
 c1:W.cell? ⟨X,1,none⟩=some (.slice fa l.length fc)
 c2:W.cell? ⟨X,2,none⟩=some (.slice ra rows.length rc)
 d:DeS W va g ds
 f:IntS W fa fb fo l
 r:IntSS W ra rb ro rows
theorem Wb.first {w w1 w2:World} {va:Option Addr} {g c:Nat} {ds:List M.De} {fa:Option Addr} {fb fo fc:Nat} {l:List Int} {ra:Option Addr} {rb ro rc:Nat} {rows:List (List Int)} {u1 u2 u3:Value} (h12:Below w.heap.size w w1) (hb:Below w1.heap.size w1 w2) (hV:SlotE w2 w1.heap.size u1 u2 u3) (hd:DeS w2 va g ds) (hf1:IntS w1 fa fb fo l) (hr1:IntSS w1 ra rb ro rows) (hg:0 < ds.length→w1.heap.size < g) :
  Wb w (((w2.setCell ⟨w1.heap.size,0,none⟩ (.slice va ds.length c)).setCell ⟨w1.heap.size,1,none⟩ (.slice fa l.length fc)).setCell ⟨w1.heap.size,2,none⟩ (.slice ra rows.length rc)) w1.heap.size va g c ds fa fb fo fc l ra rb ro rc rows:=by
 have k1:=heap_setCell_same w2 w1.heap.size 0 _ _ (.slice va ds.length c) hV.blk
 have k2:=heap_setCell_same _ w1.heap.size 1 _ _ (.slice fa l.length fc) k1
 have k3:=heap_setCell_same _ w1.heap.size 2 _ _ (.slice ra rows.length rc) k2
 have hbf:=((hb.setCell (p:=⟨w1.heap.size,0,none⟩) (Nat.le_refl _) (.slice va ds.length c)).setCell (p:=⟨w1.heap.size,1,none⟩) (Nat.le_refl _) (.slice fa l.length fc)).setCell (p:=⟨w1.heap.size,2,none⟩) (Nat.le_refl _) (.slice ra rows.length rc)
 refine ⟨h12.trans (hbf.mono h12.size),by simp [World.cell?,k3],by simp [World.cell?,k3],by simp [World.cell?,k3],⟨hd.addr,fun i hi j hj=>?_⟩,hf1.below hbf (Nat.le_refl _),hr1.below hbf (Nat.le_refl _)⟩
 have hk:g≠w1.heap.size:=by have:=hg (by omega);omega
 rw [← hd.row i hi j hj]
 refine World.cell?_of_block ?_
 rw [Below.heap_setCell _ _ _ _ hk,Below.heap_setCell _ _ _ _ hk,Below.heap_setCell _ _ _ _ hk]
end
section
open Go.RowKit
theorem M.orig_lt {ds:List M.De} {l:List Int} (hin:M.In ds l):∀ (m n q:Nat),n < ds.length→M.orig ds l m n=some q→q < ds.length:=by
 intro m
 induction m with
 | zero=>intro n q _ h;simp [M.orig] at h
 | succ m ih =>
  intro n q hn h
  rw [M.orig] at h
  split at h
  ·obtain rfl:=Option.some.inj h;exact hn
  ·have:=hin n hn
   exact ih _ q (by omega) h
set_option maxHeartbeats 400000 in
theorem value_any (va:Option Addr) (g c:Nat) (ds:List M.De) (a:Option Addr) (b o c2:Nat) (l:List Int) (n q:Nat) (w:World) (hn:n < ds.length) (HLL:Hid (l.length=ds.length)) (hin:M.In ds l) (ho:M.orig ds l ds.length n=some q) (hq:q < ds.length) (hl:ds.length≤1048576) (h:DeS w va g ds) (h2:IntS w a b o l) :
  Calls Tryz.prog 124 #[.slice va ds.length c,.slice a l.length c2,.int .i64 n] w fun e w'=>e=.returned (.int .i64 ds[q].d.v)∧Below w.heap.size w w':=by
 have C:=origin_any va g c ds a b o c2 l n w hn HLL.out hin hl h h2
 rw [ho] at C
 change Calls _ _ _ _ fun e w'=>e=.returned (.tuple #[.int .i64 q,.bool true])∧_ at C
 obtain ⟨rfl⟩:=h.addr (by omega)
 have i1:(q:Int) < ds.length:=by omega
 go_enter Tryz.func124,Tryz.ntmps124
 go_wp2_with (go_at_call 173;refine C.mono ?_;rintro e w1 ⟨rfl,hb1⟩;obtain ⟨_,_,_,_,_,c5,_⟩:=DeS.at (h.bel hb1 (Nat.le_refl _)) hq)
 go_ret
 exact ⟨rfl,hb1⟩
theorem M.val_of_orig {ds:List M.De} {l:List Int} (hin:M.In ds l) (hll:l.length=ds.length) (hz:∀ x∈ds,x.reads=true∨x.d.k=3→x.d.v=0):∀ (m n q:Nat),n < ds.length→(hq:q < ds.length)→M.orig ds l m n=some q→M.val ds l m n=ds[q].d.v:=by
 intro m
 induction m with
 | zero=>intro n q _ _ h;simp [M.orig] at h
 | succ m ih =>
  intro n q hn hq h
  have hi:=hin n hn
  have hvf:M.valFrom ds l n=if ds[n].reads then l[n] else if ds[n].d.k==3 then ds[n].lr else -1:=by
   simp [M.valFrom,hn,show n < l.length by omega]
  rw [M.val_at ds l m n hn (by omega)]
  rw [M.orig] at h
  have step:∀ f:Int,M.valFrom ds l n=f→(ds[n].reads=true∨ds[n].d.k=3)→M.val ds l m f=ds[q].d.v:=by
   intro f hf hk
   rw [hf] at h hi
   by_cases h0:f < 0
   ·rw [if_pos h0] at h
    obtain rfl:=Option.some.inj h
    rw [M.val_neg _ _ _ h0,hz _ (List.getElem_mem hn) hk]
   ·rw [if_neg h0] at h
    obtain ⟨k,rfl⟩:∃ k:Nat,f=k:=⟨f.toNat,by omega⟩
    rw [Int.toNat_natCast] at h
    exact ih k q (by omega) hq h
  by_cases hr:ds[n].reads=true
  ·rw [if_pos hr]
   rw [if_pos hr] at hvf
   exact step _ hvf (Or.inl hr)
  ·rw [if_neg hr]
   rw [if_neg hr] at hvf
   by_cases h3:(ds[n].d.k==3)=true
   ·rw [if_pos h3]
    rw [if_pos h3] at hvf
    exact step _ hvf (Or.inr (by simpa using h3))
   ·rw [if_neg h3]
    rw [if_neg h3] at hvf
    rw [hvf,if_pos (by omega)] at h
    obtain rfl:=Option.some.inj h
    rfl
end
section
namespace M
theorem seenOk_len {ll:List (List D)} {l1 l2:List Int} (h:seenOk ll l1 l2=true):prog ll=true∧l1.length=tot reads ll∧l2.length=3:=by
 by_cases h1:(l1.length:Int)=nreads ll
 ·by_cases h2:l2.length=3
  ·cases hp:prog ll
   ·rw [nreads_no hp] at h1;omega
   ·rw [nreads_ok hp] at h1;exact ⟨rfl,by omega,h2⟩
  ·rw [seenOk_2 h2] at h;cases h
 ·rw [seenOk_1 h1] at h;cases h
end M
end
section
open Go.RowKit Go.Shelf
set_option maxHeartbeats 400000 in
theorem lpIntsX_any (a:Option Addr) (b o c:Nat) (l:List Int) (a2:Option Addr) (b2 o2 c2:Nat) (m:List Int) (w:World) (hl:l.length≤1048576) (h:IntS w a b o l) (h2:IntS w a2 b2 o2 m) :
  Calls Tryz.prog 12 #[.slice a l.length c,.slice a2 m.length c2] w fun e w'=>e=.returned (.bool (M.same l m))∧Grown w w':=by
 by_cases hlm:l.length=m.length
 ·have hlm':((l.length:Int)==m.length)=true:=by simp;omega
  have hlm2:(l.length:Int)=m.length:=by omega
  go_enter Tryz.func12,Tryz.ntmps12
  go_wp2_with fail
  go_loopw [5] (fun s5 wr=>∃ n:Nat,s5=.int .i64 n∧n≤l.length∧(∀ q (_:q < n) (h1:q < l.length) (h2:q < m.length),l[q]=m[q])∧Grown w wr) (fun s5 _=>l.length - (intOf s5).toNat)
  case atStart=>exact ⟨0,rfl,Nat.zero_le _,fun _ hq _ _=>absurd hq (Nat.not_lt_zero _),Grown.refl _⟩
  case round =>
   obtain ⟨n,rfl,hn,hall,hg⟩:=hrel
   have HA:Hid (∀ q (_:q < n) (h1:q < l.length) (h2:q < m.length),l[q]=m[q]):=hall
   clear hall
   by_cases hlt:n < l.length
   ·have hmt:n < m.length:=by omega
    obtain ⟨rfl⟩:=h.addr (by omega)
    obtain ⟨rfl⟩:=h2.addr (by omega)
    have hc:=(h.below hg.bel (Nat.le_refl _)).row n hlt
    have hc2:=(h2.below hg.bel (Nat.le_refl _)).row n hmt
    have HD:Hid (l.drop n=l[n]::l.drop (n+1)):=M.drop_int l n hlt
    have HD2:Hid (m.drop n=m[n]::m.drop (n+1)):=M.drop_int m n hmt
    have i1:(n:Int) < l.length:=by omega
    have i2:(n:Int) < m.length:=by omega
    by_cases hxy:l[n]=m[n]
    ·have HX:Hid (l[n]=m[n]):=hxy
     rw [← hxy] at hc2
     clear hxy HD HD2
     generalize l[n]=x at hc hc2
     go_wp2_with fail
     go_quiet (fail)
     go_wp2_with fail
     exact ⟨⟨n+1,by go_num,by omega,fun q hq h1 h2=>by
      by_cases e:q=n
      ·subst e;exact HX.out
      ·exact HA.out q (by omega) h1 h2,hg.drewN _⟩,by simp [intOf];omega⟩
    ·generalize l[n]=x at hc hxy HD
     generalize m[n]=y at hc2 hxy HD2
     have hxy':(x==y)=false:=by simpa using hxy
     go_wp2_with fail
     go_quiet (fail)
     go_wp2_with fail
     go_ret
     exact ⟨ret_bool (M.same_bad HD.out HD2.out hxy).symm,hg.drewN _⟩
   ·go_wp2_with fail
    go_ret
    exact ⟨ret_bool (M.same_fin hlm fun q h1 h2=>HA.out q (by omega) h1 h2).symm,hg⟩
 ·have hlm':((l.length:Int)==m.length)=false:=by simp;omega
  have hlm2:¬ (l.length:Int)=m.length:=by omega
  go_enter Tryz.func12,Tryz.ntmps12
  go_wp2_with fail
  go_ret
  exact ⟨ret_bool (M.same_len hlm).symm,Grown.refl _⟩
structure LW (w:World) (a:Option Addr) (g:Nat) (xs:List M.Wy):Prop where
 addr:0 < xs.length→a=some ⟨g,0,none⟩
 row:∀ i (h:i < xs.length),∃ fa fb fc ra rb rc,w.cell? ⟨g,i * 2,none⟩=some (.slice fa xs[i].1.length fc)∧w.cell? ⟨g,i * 2+1,none⟩=some (.slice ra xs[i].2.length rc)∧IntS w fa fb 0 xs[i].1∧IntSS w ra rb 0 xs[i].2
theorem LW.below {w w':World} {a:Option Addr} {g:Nat} {xs:List M.Wy} (h:LW w a g xs) (hb:Below w.heap.size w w'):LW w' a g xs :=
 ⟨h.addr,fun i hi=>by
  obtain ⟨fa,fb,fc,ra,rb,rc,h1,h2,h3,h4⟩:=h.row i hi
  exact ⟨fa,fb,fc,ra,rb,rc,(hb.cell (p:=⟨g,i * 2,none⟩) (World.block_lt_of_cell? _ _ h1)).trans h1,(hb.cell (p:=⟨g,i * 2+1,none⟩) (World.block_lt_of_cell? _ _ h2)).trans h2,h3.below hb (Nat.le_refl _),h4.below hb (Nat.le_refl _)⟩⟩
def M.eqWy (x y:M.Wy):Bool:=decide (x=y)
theorem M.eqWy_no1 {x y:M.Wy} (h:M.same x.1 y.1=false):M.eqWy x y=false:=by
 have:¬ x=y:=fun e=>by rw [e,(M.same_eq y.1 y.1).2 rfl] at h;cases h
 simp [M.eqWy,this]
theorem M.eqWy_no2 {x y:M.Wy} (h:x.2.length≠y.2.length):M.eqWy x y=false:=by
 have:¬ x=y:=fun e=>h (by rw [e])
 simp [M.eqWy,this]
theorem M.eqWy_no3 {x y:M.Wy} {n:Nat} (h1:n < x.2.length) (h2:n < y.2.length) (h:M.same x.2[n] y.2[n]=false):M.eqWy x y=false:=by
 have:¬ x=y:=fun e=>by
  subst e
  rw [(M.same_eq x.2[n] x.2[n]).2 rfl] at h;cases h
 simp [M.eqWy,this]
theorem M.eqWy_yes {x y:M.Wy} (h1:M.same x.1 y.1=true) (h2:x.2.length=y.2.length) (h:∀ q (h1:q < x.2.length) (h2:q < y.2.length),x.2[q]=y.2[q]):M.eqWy x y=true:=by
 have:x=y:=Prod.ext ((M.same_eq _ _).1 h1) (List.ext_getElem h2 h)
 simp [M.eqWy,this]
set_option maxHeartbeats 1000000 in
set_option maxRecDepth 100000 in
theorem lpExec_any (x y:M.Wy) (fa:Option Addr) (fb fc:Nat) (ra:Option Addr) (rb rc:Nat) (fa2:Option Addr) (fb2 fc2:Nat) (ra2:Option Addr) (rb2 rc2:Nat) (w:World) (hl1:x.1.length≤1048576) (hl2:x.2.length≤1048576) (hl3:∀ r∈x.2,r.length≤1048576) (h1:IntS w fa fb 0 x.1) (h2:IntSS w ra rb 0 x.2) (h3:IntS w fa2 fb2 0 y.1) (h4:IntSS w ra2 rb2 0 y.2) :
  Calls Tryz.prog 21 #[.agg #[.slice fa x.1.length fc,.slice ra x.2.length rc],.agg #[.slice fa2 y.1.length fc2,.slice ra2 y.2.length rc2]] w fun e w'=>e=.returned (.bool (M.eqWy x y))∧Below w.heap.size w w':=by
 have b2:=below2 w (.cells #[.slice fa x.1.length fc,.slice ra x.2.length rc] 29) (.cells #[.slice fa2 y.1.length fc2,.slice ra2 y.2.length rc2] 29)
 have ka0:((w.alloc (.cells #[.slice fa x.1.length fc,.slice ra x.2.length rc] 29)).alloc (.cells #[.slice fa2 y.1.length fc2,.slice ra2 y.2.length rc2] 29)).cell? ⟨w.heap.size,0,none⟩=some (.slice fa x.1.length fc):=by simp [go_sem]
 have ka1:((w.alloc (.cells #[.slice fa x.1.length fc,.slice ra x.2.length rc] 29)).alloc (.cells #[.slice fa2 y.1.length fc2,.slice ra2 y.2.length rc2] 29)).cell? ⟨w.heap.size,1,none⟩=some (.slice ra x.2.length rc):=by simp [go_sem]
 have kb0:((w.alloc (.cells #[.slice fa x.1.length fc,.slice ra x.2.length rc] 29)).alloc (.cells #[.slice fa2 y.1.length fc2,.slice ra2 y.2.length rc2] 29)).cell? ⟨w.heap.size+1,0,none⟩=some (.slice fa2 y.1.length fc2):=by simp [go_sem]
 have kb1:((w.alloc (.cells #[.slice fa x.1.length fc,.slice ra x.2.length rc] 29)).alloc (.cells #[.slice fa2 y.1.length fc2,.slice ra2 y.2.length rc2] 29)).cell? ⟨w.heap.size+1,1,none⟩=some (.slice ra2 y.2.length rc2):=by simp [go_sem]
 have sz0:((w.alloc (.cells #[.slice fa x.1.length fc,.slice ra x.2.length rc] 29)).alloc (.cells #[.slice fa2 y.1.length fc2,.slice ra2 y.2.length rc2] 29)).heap.size=w.heap.size+2:=by simp
 go_enter Tryz.func21,Tryz.ntmps21
 go_wp2_with fail
 generalize (w.alloc (.cells #[.slice fa x.1.length fc,.slice ra x.2.length rc] 29)).alloc (.cells #[.slice fa2 y.1.length fc2,.slice ra2 y.2.length rc2] 29)=W0 at *
 have C1:=lpIntsX_any fa fb 0 fc x.1 fa2 fb2 0 fc2 y.1 W0 hl1 (h1.below b2 (Nat.le_refl _)) (h3.below b2 (Nat.le_refl _))
 have lw:w.heap.size < W0.heap.size:=by omega
 have lw1:w.heap.size+1 < W0.heap.size:=by omega
 cases hs:M.same x.1 y.1
 ·rw [hs] at C1
  refine C1.mono ?_
  rintro e W1 ⟨rfl,g1⟩
  have HR:Hid (M.eqWy x y=false):=M.eqWy_no1 hs
  clear hs C1
  go_wp2_with fail
  go_ret
  exact ⟨ret_bool HR.out.symm,b2.trans (g1.bel.mono b2.size)⟩
 ·rw [hs] at C1
  refine C1.mono ?_
  rintro e W1 ⟨rfl,g1⟩
  have q0:=(g1.bel.cell (p:=⟨w.heap.size,1,none⟩) lw).trans ka1
  have q1:=(g1.bel.cell (p:=⟨w.heap.size+1,1,none⟩) lw1).trans kb1
  have bw1:=b2.trans (g1.bel.mono b2.size)
  by_cases hln:x.2.length=y.2.length
  ·have HL:Hid (x.2.length=y.2.length):=hln
   have hn1:((x.2.length:Int) != y.2.length)=false:=by simp;omega
   have HS:Hid (M.same x.1 y.1=true):=hs
   have hly:y.2.length≤1048576:=by omega
   clear hln hs C1
   go_wp2_with fail
   go_loopw [5] (fun s5 wr=>∃ n:Nat,s5=.int .i64 n∧n≤x.2.length∧Hid (∀ q (_:q < n) (h1:q < x.2.length) (h2:q < y.2.length),x.2[q]=y.2[q])∧Below W1.heap.size W1 wr) (fun s5 _=>x.2.length - (intOf s5).toNat)
   case atStart=>exact ⟨0,rfl,Nat.zero_le _,(fun _ hq _ _=>absurd hq (Nat.not_lt_zero _)),Below.refl _ _⟩
   case round =>
    obtain ⟨n,rfl,hn,HA,hb⟩:=hrel
    have s1:=g1.bel.size
    have r0:=(hb.cell (p:=⟨w.heap.size,1,none⟩) (by show w.heap.size < _;omega)).trans q0
    have r1:=(hb.cell (p:=⟨w.heap.size+1,1,none⟩) (by show w.heap.size+1 < _;omega)).trans q1
    have hbw:=bw1.trans (hb.mono bw1.size)
    by_cases hlt:n < x.2.length
    ·have hmt:n < y.2.length:=by have:=HL.out;omega
     obtain rfl:=h2.addr (by omega)
     obtain rfl:=h4.addr (by omega)
     obtain ⟨a',b',o',c',hc,hd⟩:=(h2.below hbw (Nat.le_refl _)).row n hlt
     obtain ⟨a3,b3,o3,c3,hc3,hd3⟩:=(h4.below hbw (Nat.le_refl _)).row n hmt
     rw [Nat.zero_add] at hc hc3
     have i1:(n:Int) < x.2.length:=by omega
     have i2:(n:Int) < y.2.length:=by omega
     have i0:¬ (n:Int) < 0:=by omega
     have hrl:=hl3 _ (List.getElem_mem hlt)
     have lb:rb < wr.heap.size:=World.block_lt_of_cell? _ _ hc
     have lb3:rb2 < wr.heap.size:=World.block_lt_of_cell? _ _ hc3
     have HSM:Hid (M.same x.2[n] y.2[n]=false→M.eqWy x y=false):=fun h=>M.eqWy_no3 hlt hmt h
     have HSY:Hid (M.same x.2[n] y.2[n]=true→x.2[n]=y.2[n]):=fun h=>(M.same_eq _ _).1 h
     have HN:Hid (∀ q (_:q < n+1) (h1:q < x.2.length) (h2:q < y.2.length),x.2[n]=y.2[n]→x.2[q]=y.2[q]):=fun q hq h1 h2 e=>by
      by_cases eq:q=n
      ·subst eq;exact e
      ·exact HA.out q (by omega) h1 h2
     generalize x.2[n]=r at *
     generalize y.2[n]=r2 at *
     have CL:=fun (W:World) (hb:Below wr.heap.size wr W)=>lpIntsX_any a' b' o' c' r a3 b3 o3 c3 r2 W hrl (hd.below hb (Nat.le_refl _)) (hd3.below hb (Nat.le_refl _))
     have CC:∀ W:World,Below wr.heap.size wr W→W.cell? ⟨w.heap.size,1,none⟩=some (.slice (some ⟨rb,0,none⟩) x.2.length rc)∧W.cell? ⟨w.heap.size+1,1,none⟩=some (.slice (some ⟨rb2,0,none⟩) y.2.length rc2)∧W.cell? ⟨rb,n,none⟩=some (.slice a' r.length c')∧W.cell? ⟨rb2,n,none⟩=some (.slice a3 r2.length c3):=fun W hbW=>⟨(hbW.cell (p:=⟨w.heap.size,1,none⟩) (World.block_lt_of_cell? _ _ r0)).trans r0,(hbW.cell (p:=⟨w.heap.size+1,1,none⟩) (World.block_lt_of_cell? _ _ r1)).trans r1,(hbW.cell (p:=⟨rb,n,none⟩) lb).trans hc,(hbW.cell (p:=⟨rb2,n,none⟩) lb3).trans hc3⟩
     go_wp2_with fail
     refine wp_region_held_drew (S:=fun w'=>Below wr.heap.size wr w') (by kernel_rfl) (Below.refl _ _).drew (fun hH=>?_)
     refine tk 0 28 (.pointer (some ⟨w.heap.size,1,none⟩)) hH rfl rfl (by intro w' hSw;obtain ⟨q1,q2,q3,q4⟩:=CC w' hSw;go_simp) ?_
     simp only [Act.put,zqa,zqb,zqc]
     refine tk 1 29 (.slice (some ⟨rb,0,none⟩) x.2.length rc) hH rfl rfl (by intro w' hSw;obtain ⟨q1,q2,q3,q4⟩:=CC w' hSw;go_simp) ?_
     simp only [Act.put,zqa,zqb,zqc]
     refine tk 2 30 (.int .i64 n) hH rfl rfl (by intro w' hSw;obtain ⟨q1,q2,q3,q4⟩:=CC w' hSw;go_simp) ?_
     simp only [Act.put,zqa,zqb,zqc]
     refine tk 3 31 (.pointer (some ⟨rb,n,none⟩)) hH rfl rfl (by intro w' hSw;obtain ⟨q1,q2,q3,q4⟩:=CC w' hSw;go_simp) ?_
     simp only [Act.put,zqa,zqb,zqc]
     refine tk 4 32 (.slice a' r.length c') hH rfl rfl (by intro w' hSw;obtain ⟨q1,q2,q3,q4⟩:=CC w' hSw;go_simp) ?_
     simp only [Act.put,zqa,zqb,zqc]
     refine tk 5 33 (.pointer (some ⟨w.heap.size+1,1,none⟩)) hH rfl rfl (by intro w' hSw;obtain ⟨q1,q2,q3,q4⟩:=CC w' hSw;go_simp) ?_
     simp only [Act.put,zqa,zqb,zqc]
     refine tk 6 34 (.slice (some ⟨rb2,0,none⟩) y.2.length rc2) hH rfl rfl (by intro w' hSw;obtain ⟨q1,q2,q3,q4⟩:=CC w' hSw;go_simp) ?_
     simp only [Act.put,zqa,zqb,zqc]
     refine tk 7 35 (.int .i64 n) hH rfl rfl (by intro w' hSw;obtain ⟨q1,q2,q3,q4⟩:=CC w' hSw;go_simp) ?_
     simp only [Act.put,zqa,zqb,zqc]
     refine tk 8 36 (.pointer (some ⟨rb2,n,none⟩)) hH rfl rfl (by intro w' hSw;obtain ⟨q1,q2,q3,q4⟩:=CC w' hSw;go_simp) ?_
     simp only [Act.put,zqa,zqb,zqc]
     refine tk 9 37 (.slice a3 r2.length c3) hH rfl rfl (by intro w' hSw;obtain ⟨q1,q2,q3,q4⟩:=CC w' hSw;go_simp) ?_
     simp only [Act.put,zqa,zqb,zqc]
     cases hsm:M.same r r2
     ·have CM:=CL wr.drew hH
      rw [hsm] at CM
      refine ry 10 rfl (fun K' hK=>?_)
      refine sg 38 rfl 12 #[.tmp 32,.tmp 37] rfl #[.slice a' r.length c',.slice a3 r2.length c3] (enters_of Tryz.func12 (by kernel_rfl) rfl) CM ?_
      rintro e W5 ⟨rfl,g5⟩
      refine ⟨_,rfl,?_⟩
      simp only [Act.put,zqa,zqb,zqc]
      have bL:Below wr.heap.size wr W5:=(Below.refl _ wr).drew.trans g5.bel
      refine hK.out _ _ bL (fun hH5=>?_)
      clear hK K' CM
      refine tk 11 39 (.bool true) hH5 rfl rfl (by intro w' hSw;go_simp) ?_
      simp only [Act.put,zqa,zqb,zqc]
      refine wpAnyH_done (by kernel_rfl) ?_ _
      clear CC CL hc hc3 r0 r1
      go_wp2_with fail
      go_ret
      exact ⟨ret_bool (HSM.out hsm).symm,hbw.trans (bL.mono hbw.size)⟩
     ·have CM:=CL wr.drew hH
      rw [hsm] at CM
      refine ry 10 rfl (fun K' hK=>?_)
      refine sg 38 rfl 12 #[.tmp 32,.tmp 37] rfl #[.slice a' r.length c',.slice a3 r2.length c3] (enters_of Tryz.func12 (by kernel_rfl) rfl) CM ?_
      rintro e W5 ⟨rfl,g5⟩
      refine ⟨_,rfl,?_⟩
      simp only [Act.put,zqa,zqb,zqc]
      have bL:Below wr.heap.size wr W5:=(Below.refl _ wr).drew.trans g5.bel
      refine hK.out _ _ bL (fun hH5=>?_)
      clear hK K' CM
      refine tk 11 39 (.bool false) hH5 rfl rfl (by intro w' hSw;go_simp) ?_
      simp only [Act.put,zqa,zqb,zqc]
      refine wpAnyH_done (by kernel_rfl) ?_ _
      clear CC CL hc hc3 r0 r1
      go_wp2_with fail
      exact ⟨⟨n+1,by go_num,by omega,(fun q hq h1 h2=>HN.out q hq h1 h2 (HSY.out hsm)),hb.trans (bL.mono hb.size)⟩,by simp [intOf];omega⟩
    ·have hne:¬ (n:Int) < x.2.length:=by omega
     have HR:Hid (M.eqWy x y=true):=M.eqWy_yes HS.out HL.out (fun q h1 h2=>HA.out q (by omega) h1 h2)
     go_wp2_with fail
     go_ret
     exact ⟨ret_bool HR.out.symm,hbw⟩
  ·have HR:Hid (M.eqWy x y=false):=M.eqWy_no2 hln
   have hn1:((x.2.length:Int) != y.2.length)=true:=by simp;omega
   clear hln hs C1
   go_wp2_with fail
   go_ret
   exact ⟨ret_bool HR.out.symm,bw1⟩
end
section
open Go.RowKit
theorem own_low {w:World} {B B':Nat} {e:TypeId} {size:Nat} {v:Value} {n:Nat} {xs:List Value} (h:w.ownsRow B e size v n xs) (hB:B'≤B):w.ownsRow B' e size v n xs:=by
 obtain ⟨h1,h2⟩:=h
 refine ⟨h1,?_⟩
 rcases h2 with h2 | ⟨g,cap,cur,hv,hg,r⟩
 ·exact Or.inl h2
 ·exact Or.inr ⟨g,cap,cur,hv,Nat.le_trans hB hg,r⟩
theorem cellJ {W W':World} {p:Addr} {v:Value} {B:Nat} (hb:Below B W W') (h:W.cell? p=some v) (hB:W.heap.size≤B:=by exact Nat.le_refl _):W'.cell? p=some v:=(hb.cell (p:=p) (Nat.lt_of_lt_of_le (World.block_lt_of_cell? _ _ h) hB)).trans h
def M.ints (r:List Nat):List Int:=r.map fun (x:Nat)=>(x:Int)
theorem M.ints_len (r:List Nat):(M.ints r).length=r.length:=by simp [M.ints]
theorem M.ints_snoc (r:List Nat) (x:Nat):M.ints (r++[x])=M.ints r++[(x:Int)]:=by simp [M.ints]
abbrev OwnI (w:World) (B:Nat) (v:Value) (r:List Nat):Prop:=w.ownsRow B 3 1 v r.length (nums (M.ints r))
theorem M.find_step {p:Nat→Bool} {i:Nat} (h:∀ j,j < i→p j=false) (hp:p i=false):∀ j,j < i+1→p j=false:=fun j hj=>by
 by_cases e:j=i
 ·rw [e];exact hp
 ·exact h j (by omega)
theorem M.find_hit {p:Nat→Bool} {i n:Nat} (h:∀ j,j < i→p j=false) (hi:i < n) (hp:p i=true):(List.range n).find? p=some i:=by
 rw [List.find?_eq_some_iff_getElem]
 refine ⟨hp,i,by simpa using hi,by simp,fun j hj=>?_⟩
 simp only [List.getElem_range]
 rw [h j hj];rfl
theorem M.find_miss {p:Nat→Bool} {n:Nat} (h:∀ j,j < n→p j=false):(List.range n).find? p=none:=by
 rw [List.find?_eq_none]
 intro x hx
 rw [h x (List.mem_range.1 hx)];simp
end
section
open Go.RowKit
theorem own_intsR {w:World} {base:Nat} {e:TypeId} {v:Value} {l:List Int} (h:w.ownsRow base e 1 v l.length (nums l)):∃ a g c,v=.slice a l.length c∧IntS w a g 0 l∧(a=none→c=0)∧(0 < l.length→base≤g):=by
 rcases h.2 with ⟨hv,hn⟩ | ⟨g,cap,cur,hv,hg,hh,hc,r⟩
 ·have:l=[]:=List.length_eq_zero_iff.1 hn
  subst this
  exact ⟨none,0,0,hv,IntS.nil _ _ _ _,fun _=>rfl,fun h=>absurd h (Nat.lt_irrefl _)⟩
 ·refine ⟨_,g,cap,hv,⟨fun _=>rfl,fun i hi=>?_⟩,fun e=>(by cases e),fun _=>hg⟩
  have:=h.cells (g:=g) (by rw [hv];rfl) i (.int .i64 l[i]) (by simp [nums,hi])
  rwa [Go.WideShapes.add_plain] at this
end
section
open Go.ChangeShapes Go.WideShapes Go.ChangeAt Go.RowKit Go.Deep
theorem Tryz.own:ownKnob Tryz.prog.godebug=none:=by kernel_rfl
theorem Tryz.laidOut:laidOutB Tryz.prog=true:=by kernel_rfl
end
end Go.Proofs.YtmhpgdliaclokaaGreat
