/- impl.copyExec: a way in rows of its own. Of ways of at most 1048576 events, and 1048576 rows of as many numbers. And what goes with it: WaCp, WaMath, WaPut, WaFw, WaCop, WaFull. -/
import Derived.Handy
import Derived.LoopIn
import Derived.LoopNIn
import Derived.OwnWalkIn
import Derived.RangeFuncBound
import Derived.RangeFuncNested
import Derived.TacticsInMore
import Derived.Deep.OwnRows
import Derived.Test.YtnddmlgnngdaoaaGreatDoorRows
import Derived.Test.YtnddmlgnngdaoaaGreatDoorQsam
import Derived.Test.YtnddmlgnngdaoaaGreatDoorQsao
import Derived.Test.YtnddmlgnngdaoaaGreatDoorQsau
namespace Go.Proofs.YtnddmlgnngdaoaaGreatDoor
section
open Go.RowKit
structure WyAns (w w':World) (fv ov:Value) (l:List Int) (rows:List (List Int)):Prop where
 ex:∃ cs,Xw w' w.heap.size fv ov l cs rows
 bel:Below w.heap.size w w'
structure SlotX (w:World) (b:Nat) (x y:Value):Prop where
 blk:w.heap[b]?=some (.cells #[x,y] 122)
theorem SlotX.lt {w:World} {b:Nat} {x y:Value} (h:SlotX w b x y):b < w.heap.size:=(Array.getElem?_eq_some_iff.1 h.blk).1
theorem SlotX.c0 {w:World} {b:Nat} {x y:Value} (h:SlotX w b x y):w.cell? ⟨b,0,none⟩=some x:=by simp [World.cell?,h.blk]
theorem SlotX.c1 {w:World} {b:Nat} {x y:Value} (h:SlotX w b x y):w.cell? ⟨b,1,none⟩=some y:=by simp [World.cell?,h.blk]
theorem SlotX.fz {w:World} {b:Nat} {x y:Value} (h:SlotX w b x y) (i:Nat):w.frozen? ⟨b,i,none⟩=false:=by simp [World.frozen?,h.blk]
theorem SlotX.of {w w':World} {b:Nat} {x y:Value} (h:SlotX w b x y) (hb:w'.heap[b]?=w.heap[b]?):SlotX w' b x y:=⟨hb.trans h.blk⟩
theorem SlotX.far {w:World} {b b' i:Nat} {x y:Value} (h:SlotX w b x y) (hne:b'≠b) (u:Value):SlotX (w.setCell ⟨b',i,none⟩ u) b x y:=h.of (Below.heap_setCell _ _ _ _ (fun e=>hne e.symm))
theorem SlotX.set0 {w:World} {b:Nat} {x y:Value} (h:SlotX w b x y) (u:Value):SlotX (w.setCell ⟨b,0,none⟩ u) b u y:=⟨heap_setCell_same w b 0 #[x,y] _ u h.blk⟩
theorem SlotX.set1 {w:World} {b:Nat} {x y:Value} (h:SlotX w b x y) (u:Value):SlotX (w.setCell ⟨b,1,none⟩ u) b x u:=⟨heap_setCell_same w b 1 #[x,y] _ u h.blk⟩
set_option maxHeartbeats 4000000 in
set_option maxRecDepth 100000 in
set_option linter.unusedSimpArgs false in
theorem copyExec_any (a1:Option Addr) (b1 o1 c1:Nat) (l:List Int) (a:Option Addr) (b o c:Nat) (ll:List (List Int)) (w:World) (hl1:l.length≤1048576) (hl:ll.length≤1048576) (hls:∀ t∈ll,t.length≤1048576) (hF:IntS w a1 b1 o1 l) (h:IntSS w a b o ll) :
  Calls Tryz.prog 164 #[.agg #[.slice a1 l.length c1,.slice a ll.length c]] w fun e w'=>∃ fv ov,e=.returned (.agg #[fv,ov])∧WyAns w w' fv ov l ll:=by
 obtain ⟨i0,hi,hz0,hz1,hz2⟩:=info_parts Tryz.infoRs
 have b2:=below2 w (.cells #[.slice a1 l.length c1,.slice a ll.length c] 122) (.cells #[.slice none 0 0,.slice none 0 0] 122)
 have hQ0:SlotX ((w.alloc (.cells #[.slice a1 l.length c1,.slice a ll.length c] 122)).alloc (.cells #[.slice none 0 0,.slice none 0 0] 122)) (w.heap.size+1) (.slice none 0 0) (.slice none 0 0):=⟨by have:=heap_alloc_new (w.alloc (.cells #[.slice a1 l.length c1,.slice a ll.length c] 122)) (.cells #[.slice none 0 0,.slice none 0 0] 122);rwa [World.size_alloc] at this⟩
 have hP0:SlotX ((w.alloc (.cells #[.slice a1 l.length c1,.slice a ll.length c] 122)).alloc (.cells #[.slice none 0 0,.slice none 0 0] 122)) w.heap.size (.slice a1 l.length c1) (.slice a ll.length c):=⟨(Below.heap_alloc _ _ _ (by simp)).trans (heap_alloc_new w _)⟩
 have sz0:((w.alloc (.cells #[.slice a1 l.length c1,.slice a ll.length c] 122)).alloc (.cells #[.slice none 0 0,.slice none 0 0] 122)).heap.size=w.heap.size+2:=by simp
 go_enter Tryz.func164,Tryz.ntmps164
 go_wp2_with fail
 generalize (w.alloc (.cells #[.slice a1 l.length c1,.slice a ll.length c] 122)).alloc (.cells #[.slice none 0 0,.slice none 0 0] 122)=W0 at *
 refine (newListO_any a1 b1 o1 c1 l W0 hl1 (hF.below b2 (Nat.le_refl _))).mono ?_
 rintro e W1 ⟨fv,rfl,hown,bW1⟩
 obtain ⟨fa,fc,rfl⟩:=own_slx hown
 have XB:=Xb.start bW1 hown
 rw [sz0] at XB
 have p1:=(hP0.of (bW1.block _ hP0.lt))
 have p2:=(p1.of ((below1 W1 (.cells #[.slice fa l.length fc,.slice none 0 0] 122)).block _ p1.lt))
 have y1:=p2.c1
 clear hown bW1
 go_wp2_with fail
 generalize W1.alloc (.cells #[.slice fa l.length fc,.slice none 0 0] 122)=W2 at *
 generalize W1.heap.size=X at *
 clear p1 y1 p2
 go_loopw [13] (fun s13 wr=>∃ (n:Nat) (v:Value) (cs:List Value),s13=.int .i64 n∧n≤ll.length∧Xb (w.heap.size+2) W0 wr X (.slice fa l.length fc) v l cs (ll.take n)) (fun s13 _=>ll.length - (intOf s13).toNat)
 case atStart=>exact ⟨0,_,_,rfl,Nat.zero_le _,by simpa using XB⟩
 case round =>
  obtain ⟨n,v,cs,rfl,hn,hX⟩:=hrel
  clear XB
  have hgeX:=hX.ge
  have HB:Below w.heap.size w wr:=b2.trans (hX.bel.mono (by omega))
  by_cases hlt:n < ll.length
  ·obtain ⟨rfl⟩:=h.addr (by omega)
   obtain ⟨a',b',o',c',hc,hd⟩:=(h.below HB (Nat.le_refl _)).row n hlt
   have ht:=hls _ (List.getElem_mem hlt)
   have HW:Hid (ll.take (n+1)=ll.take n++[ll[n]]):=List.take_succ_eq_append_getElem hlt
   have hmm:(ll.take n).length≤1048576:=by simp;omega
   generalize ll[n]=t at *
   generalize ll.take n=mm at *
   have i1:(n:Int) < ll.length:=by omega
   obtain ⟨av,cv,rfl⟩:=own_slx hX.xw.ord
   have x0:=hX.c1
   have lP:=hX.lt
   have F4:Hid (∀ (w4:World) (v4:Value),w4.ownsRow wr.heap.size 3 1 v4 t.length (nums t)→Below wr.heap.size wr.drew w4→∃ a4 c4,v4=.slice a4 t.length c4∧Below wr.heap.size wr w4∧Xb (w.heap.size+2) W0 w4 X (.slice fa l.length fc) (.slice av mm.length cv) l cs mm∧w4.ownsRow (w.heap.size+2) 31 1 (.slice av mm.length cv) mm.length cs):=by
    intro w4 v4 ho hb
    obtain ⟨a4,c4,e⟩:=own_slx ho
    have b4:Below wr.heap.size wr w4:=(Below.refl _ _).drew.trans hb
    exact ⟨a4,c4,e,b4,hX.below b4,(hX.below b4).xw.ord⟩
   have F5:Hid (∀ (w4:World) (a4:Option Addr) (c4:Nat),Below wr.heap.size wr w4→w4.ownsRow wr.heap.size 3 1 (.slice a4 t.length c4) t.length (nums t)→∀ (g5 cap5:Nat) (w5:World),w5.ownsRow (w.heap.size+2) 31 1 (.slice (some ⟨g5,0,none⟩) (mm.length+1) cap5) (mm.length+1) (cs++[.slice a4 t.length c4])→(w4.alloc (.cells #[.slice a4 t.length c4] 31)).grownBy w5 (Value.slice av mm.length cv).ownBlock→((Value.slice av mm.length cv).ownBlock=some g5∨g5=w4.heap.size+1) →
     Xb (w.heap.size+2) W0 (w5.setCell ⟨X,1,none⟩ (.slice (some ⟨g5,0,none⟩) (mm.length+1) cap5)) X (.slice fa l.length fc) (.slice (some ⟨g5,0,none⟩) (mm.length+1) cap5) l (cs++[.slice a4 t.length c4]) (mm++[t])∧Below w.heap.size w w5∧w5.cell? ⟨X,1,none⟩=some (.slice av mm.length cv)∧w5.frozen? ⟨X,1,none⟩=false):=by
    intro w4 a4 c4 b4 hx4 g5 cap5 w5 ho hg hat
    have hal:=below1 w4 (.cells #[.slice a4 t.length c4] 31)
    have b4a:=b4.trans (hal.mono b4.size)
    have hge:=own_ge hX.xw.ord
    have hne:some X≠(Value.slice av mm.length cv).ownBlock:=fun e=>hX.off.ord X e.symm rfl
    have hXa:=hX.below b4a
    refine ⟨hX.snoc b4a (ownsRow_below hx4 hal) ho hg (by simpa using hat),below_grown (HB.trans (b4a.mono HB.size)) hg (fun j hj=>by have:=hge j hj;omega) (Nat.le_trans HB.size b4a.size),(hg.cell_far ⟨X,1,none⟩ hXa.lt hne).trans hXa.c1,(World.frozen?_of_block (w:=w4.alloc (.cells #[.slice a4 t.length c4] 31)) (a:=⟨X,1,none⟩) (hg.block X hXa.lt hne)).trans (hXa.fz 1)⟩
   have CN:=newListO_any a' b' o' c' t wr.drew ht (hd.below (Below.refl wr.heap.size wr).drew (Nat.le_refl _))
   go_wp2_with fail
   refine wp_region_held_drew (S:=fun w'=>Below w.heap.size w w') (by kernel_rfl) HB.drew (fun hH=>?_)
   refine tk 0 17 (.pointer (some ⟨X,1,none⟩)) hH rfl rfl (by intro w' hSw;go_simp) ?_
   simp only [Act.put,zqa,zqb,zqc]
   refine tk 2 19 (.slice a' t.length c') hH rfl rfl (by intro w' hSw;go_simp) ?_
   simp only [Act.put,zqa,zqb,zqc]
   refine wpAnyH_ready (rs:=[1,3]) (by kernel_rfl) (by simp) ?_
   refine AllReadyH.cons rfl (fun K' hK=>?_) (AllReadyH.cons rfl (fun K' hK=>?_) AllReadyH.nil)
   ·have xx:=x0
    rw [if_pos (by rfl)]
    go_simp
    refine hK.out _ _ hH (fun _=>?_)
    clear hK K' xx
    refine ry 3 rfl (fun K' hK=>?_)
    refine sg 20 rfl 77 #[.tmp 19] rfl #[.slice a' t.length c'] (fun _ _=>rfl) CN ?_
    rintro e w4 ⟨v4,rfl,ho4,hb4⟩
    obtain ⟨a4,c4,rfl,b4,hS4,hR4⟩:=F4.out w4 v4 ho4 hb4
    refine ⟨_,rfl,?_⟩
    simp only [Act.put,zqa,zqb,zqc]
    refine hK.out _ _ (HB.trans (b4.mono HB.size)) (fun hH4=>?_)
    clear hK K'
    have hS4a:=(hS4.below (below1 w4 (.cells #[.slice a4 t.length c4] 31)))
    have S4a:Below w.heap.size w (w4.alloc (.cells #[.slice a4 t.length c4] 31)):=hH4.alloc hH4.size _
    refine ry 4 rfl (fun K' hK=>?_)
    rw [if_pos (by rfl)]
    go_simp
    refine hK.out _ _ S4a (fun _=>?_)
    clear hK K'
    refine ry 5 rfl (fun K' hK=>?_)
    refine step_append_lies _ (by rfl) (.tmp 18) (.tmp 21) 113 (by rfl) (w.heap.size+2) 31 i0 _ 1 24 Tryz.underlying113 hi hz0 hz1 hz2 rfl (by decide) (.slice av mm.length cv) mm.length cs (by rfl) (hR4.alloc _) ⟨w4.heap.size,0,none⟩ 1 1 [.slice a4 t.length c4] (by rfl) (by rfl) (World.news_of_block (cs:=#[.slice a4 t.length c4]) (t:=31) (fr:=(0,0)) (heap_alloc_new w4 _)) (by simp [Value.oneCell']) (by omega) (by unfold maxLen;omega) (by omega) (by have:=b4.size;simp;omega) (w4.heap.size+1) (by simp) ?_
    intro g5 cap5 w5 hown5 hg5 hat5 hlt5
    obtain ⟨hx5,b5,xc,xz⟩:=F5.out w4 a4 c4 b4 ho4 g5 cap5 w5 hown5 hg5 hat5
    simp only [Act.put,zqa,zqb,zqc]
    refine hK.out _ _ b5 (fun hH5=>?_)
    clear hK K'
    refine tk 6 23 (.pointer (some ⟨X,1,none⟩)) hH5 rfl rfl (by intro w' hSw;go_simp) ?_
    simp only [Act.put,zqa,zqb,zqc]
    refine ry 7 rfl (fun K' hK=>?_)
    rw [if_pos (by rfl)]
    go_simp
    refine hK.out _ _ (b5.setCell (by show w.heap.size≤X;omega) _) (fun _=>?_)
    clear hK K'
    refine wpAnyH_done (by kernel_rfl) ?_ _
    clear xc xz
    go_wp2_with fail
    exact ⟨⟨n+1,_,_,by go_num,by omega,by rw [HW.out];exact hx5⟩,by simp [intOf];omega⟩
   ·refine sg 20 rfl 77 #[.tmp 19] rfl #[.slice a' t.length c'] (fun _ _=>rfl) CN ?_
    rintro e w4 ⟨v4,rfl,ho4,hb4⟩
    obtain ⟨a4,c4,rfl,b4,hS4,hR4⟩:=F4.out w4 v4 ho4 hb4
    refine ⟨_,rfl,?_⟩
    simp only [Act.put,zqa,zqb,zqc]
    refine hK.out _ _ (HB.trans (b4.mono HB.size)) (fun hH4=>?_)
    clear hK K'
    have hS4a:=(hS4.below (below1 w4 (.cells #[.slice a4 t.length c4] 31)))
    have S4a:Below w.heap.size w (w4.alloc (.cells #[.slice a4 t.length c4] 31)):=hH4.alloc hH4.size _
    refine wpAnyH_ready (rs:=[1,4]) (by kernel_rfl) (by simp) ?_
    refine AllReadyH.cons rfl (fun K' hK=>?_) (AllReadyH.cons rfl (fun K' hK=>?_) AllReadyH.nil)
    ·have xx:=hS4.c1
     rw [if_pos (by rfl)]
     go_simp
     refine hK.out _ _ hH4 (fun _=>?_)
     clear hK K' xx
     refine ry 4 rfl (fun K' hK=>?_)
     rw [if_pos (by rfl)]
     go_simp
     refine hK.out _ _ S4a (fun _=>?_)
     clear hK K'
     refine ry 5 rfl (fun K' hK=>?_)
     refine step_append_lies _ (by rfl) (.tmp 18) (.tmp 21) 113 (by rfl) (w.heap.size+2) 31 i0 _ 1 24 Tryz.underlying113 hi hz0 hz1 hz2 rfl (by decide) (.slice av mm.length cv) mm.length cs (by rfl) (hR4.alloc _) ⟨w4.heap.size,0,none⟩ 1 1 [.slice a4 t.length c4] (by rfl) (by rfl) (World.news_of_block (cs:=#[.slice a4 t.length c4]) (t:=31) (fr:=(0,0)) (heap_alloc_new w4 _)) (by simp [Value.oneCell']) (by omega) (by unfold maxLen;omega) (by omega) (by have:=b4.size;simp;omega) (w4.heap.size+1) (by simp) ?_
     intro g5 cap5 w5 hown5 hg5 hat5 hlt5
     obtain ⟨hx5,b5,xc,xz⟩:=F5.out w4 a4 c4 b4 ho4 g5 cap5 w5 hown5 hg5 hat5
     simp only [Act.put,zqa,zqb,zqc]
     refine hK.out _ _ b5 (fun hH5=>?_)
     clear hK K'
     refine tk 6 23 (.pointer (some ⟨X,1,none⟩)) hH5 rfl rfl (by intro w' hSw;go_simp) ?_
     simp only [Act.put,zqa,zqb,zqc]
     refine ry 7 rfl (fun K' hK=>?_)
     rw [if_pos (by rfl)]
     go_simp
     refine hK.out _ _ (b5.setCell (by show w.heap.size≤X;omega) _) (fun _=>?_)
     clear hK K'
     refine wpAnyH_done (by kernel_rfl) ?_ _
     clear xc xz
     go_wp2_with fail
     exact ⟨⟨n+1,_,_,by go_num,by omega,by rw [HW.out];exact hx5⟩,by simp [intOf];omega⟩
    ·rw [if_pos (by rfl)]
     go_simp
     refine hK.out _ _ S4a (fun _=>?_)
     clear hK K'
     refine ry 1 rfl (fun K' hK=>?_)
     have xx:=hS4a.c1
     rw [if_pos (by rfl)]
     go_simp
     refine hK.out _ _ S4a (fun _=>?_)
     clear hK K' xx
     refine ry 5 rfl (fun K' hK=>?_)
     refine step_append_lies _ (by rfl) (.tmp 18) (.tmp 21) 113 (by rfl) (w.heap.size+2) 31 i0 _ 1 24 Tryz.underlying113 hi hz0 hz1 hz2 rfl (by decide) (.slice av mm.length cv) mm.length cs (by rfl) (hR4.alloc _) ⟨w4.heap.size,0,none⟩ 1 1 [.slice a4 t.length c4] (by rfl) (by rfl) (World.news_of_block (cs:=#[.slice a4 t.length c4]) (t:=31) (fr:=(0,0)) (heap_alloc_new w4 _)) (by simp [Value.oneCell']) (by omega) (by unfold maxLen;omega) (by omega) (by have:=b4.size;simp;omega) (w4.heap.size+1) (by simp) ?_
     intro g5 cap5 w5 hown5 hg5 hat5 hlt5
     obtain ⟨hx5,b5,xc,xz⟩:=F5.out w4 a4 c4 b4 ho4 g5 cap5 w5 hown5 hg5 hat5
     simp only [Act.put,zqa,zqb,zqc]
     refine hK.out _ _ b5 (fun hH5=>?_)
     clear hK K'
     refine tk 6 23 (.pointer (some ⟨X,1,none⟩)) hH5 rfl rfl (by intro w' hSw;go_simp) ?_
     simp only [Act.put,zqa,zqb,zqc]
     refine ry 7 rfl (fun K' hK=>?_)
     rw [if_pos (by rfl)]
     go_simp
     refine hK.out _ _ (b5.setCell (by show w.heap.size≤X;omega) _) (fun _=>?_)
     clear hK K'
     refine wpAnyH_done (by kernel_rfl) ?_ _
     clear xc xz
     go_wp2_with fail
     exact ⟨⟨n+1,_,_,by go_num,by omega,by rw [HW.out];exact hx5⟩,by simp [intOf];omega⟩
  ·have htk:ll.take n=ll:=List.take_of_length_le (by omega)
   rw [htk] at hX
   obtain ⟨av,cv,rfl⟩:=own_slx hX.xw.ord
   have hkn':¬ (n:Int) < ll.length:=by omega
   have p0:=hX.c0
   have p1:=hX.c1
   have hQ1:SlotX wr (w.heap.size+1) (.slice none 0 0) (.slice none 0 0):=hQ0.of (hX.bel.block _ (by omega))
   have q0:=hQ1.c0
   have q1:=hQ1.c1
   have qf:=hQ1.fz
   have lQ:=hQ1.lt
   have hne:X≠w.heap.size+1:=by omega
   have Q2:=(hQ1.set0 (.slice fa l.length fc)).set1 (.slice av ll.length cv)
   have r0:=Q2.c0
   have r1:=Q2.c1
   have hxo:Xoff (.slice fa l.length fc) (.slice av ll.length cv) cs (some (w.heap.size+1)):=hX.xw.off (fun k hk=>by have:w.heap.size+1=k:=Option.some.inj hk;omega)
   go_wp2_with fail
   exact bodyPost_ret (v:=.agg #[.slice fa l.length fc,.slice av ll.length cv]) (by simp [results,Tryz.results164,go_sem,r0,r1]) rfl ⟨_,_,rfl,⟨cs,((hX.xw.grown (grown_set _ _ _ _) hxo).grown (grown_set _ _ _ _) hxo).mono (by omega)⟩,(HB.setCell (by show w.heap.size≤w.heap.size+1;omega) _).setCell (by show w.heap.size≤w.heap.size+1;omega) _⟩
end
section
namespace M
abbrev Wy:=List Int × List (List Int)
def runC {α:Type}:List (α→List α)→α→List α
 | [],x=>[x]
 | c::cs,x=>(c x).flatMap (runC cs)
theorem runC_append {α:Type} (cs es:List (α→List α)) (x:α):runC (cs++es) x=(runC cs x).flatMap (runC es):=by
 induction cs generalizing x with
 | nil=>simp [runC]
 | cons c cs ih =>
  simp only [List.cons_append,runC,List.flatMap_assoc]
  congr 1
  funext y
  exact ih y
theorem runC_snoc {α:Type} (cs:List (α→List α)) (c:α→List α) (x:α):runC (cs++[c]) x=(runC cs x).flatMap c:=by
 rw [runC_append]
 congr 1
 funext y
 simp [runC]
def srcs (ds:List De) (at_:Nat):List Int:=-1::wrs (((ds[at_]?).map fun x=>x.d.p).getD 0) 0 ds
def chF (ds:List De) (at_:Nat) (x:Wy):List Wy:=(srcs ds at_).flatMap fun f=>if ends ds (x.1.set at_ f) then [(x.1.set at_ f,x.2)] else []
def chN (p:Nat) (ws:List Int) (x:Wy):List Wy:=ws.flatMap fun a=>if has (x.2.getD p []) a then [] else [(x.1,x.2.set p (x.2.getD p []++[a]))]
def init (ds:List De):List Int:=ds.map fun x=>if x.reads then -1 else -2
theorem init_cons (x:De) (xs:List De):init (x::xs)=(if x.reads then -1 else -2)::init xs:=rfl
def firstW (ds:List De):Wy:=(init ds,[[],[],[]])
def chFs (ds:List De):Nat→List De→List (Wy→List Wy)
 | _,[]=>[]
 | n,x::xs=>if x.reads then chF ds n::chFs ds (n+1) xs else chFs ds (n+1) xs
def chNs (ds:List De) (p:Nat):List (Wy→List Wy):=(wrs p 0 ds).map fun _=>chN p (wrs p 0 ds)
def wchoices (ds:List De):List (Wy→List Wy):=chFs ds 0 ds++(chNs ds 0++(chNs ds 1++chNs ds 2))
def ways (ds:List De):List Wy:=runC (wchoices ds) (firstW ds)
def allWays (ds:List De):List Wy:=(fromsOf ds ds.length []).flatMap fun f=>if ends ds f then (ordersOf ds).map fun o=>(f,o) else []
theorem endsAt_iff (ds:List De) (l:List Int):∀ (n:Nat) (xs:List De),endsAt ds l n xs=true↔∀ i,i < xs.length→(orig ds l ds.length (n+i)).isSome=true:=by
 intro n xs
 induction xs generalizing n with
 | nil=>simp [endsAt]
 | cons x xs ih =>
  simp only [endsAt,Bool.and_eq_true,ih,List.length_cons]
  constructor
  ·rintro ⟨h1,h2⟩ i hi
   cases i with
   | zero=>exact h1
   | succ i=>have:=h2 i (by omega);rwa [show n+1+i=n+(i+1) by omega] at this
  ·intro h
   exact ⟨h 0 (by omega),fun i hi=>by have:=h (i+1) (by omega);rwa [show n+(i+1)=n+1+i by omega] at this⟩
theorem ends_iff (ds:List De) (l:List Int):ends ds l=true↔∀ i,i < ds.length→(orig ds l ds.length i).isSome=true:=by
 have:=endsAt_iff ds l 0 ds
 simpa [ends] using this
theorem valFrom_undo {ds:List De} {g:List Int} {j:Nat} (hg:g.length=ds.length) (at_:Nat):valFrom ds (g.take j++init (ds.drop j)) at_=valFrom ds g at_∨valFrom ds (g.take j++init (ds.drop j)) at_ < 0:=by
 unfold valFrom
 cases hx:ds[at_]? with
 | none=>exact Or.inl rfl
 | some x =>
  have hlt:at_ < ds.length:=by
   rw [List.getElem?_eq_some_iff] at hx;exact hx.1
  dsimp only
  by_cases hr:x.reads=true
  ·simp only [hr,if_true]
   by_cases hj:at_ < j
   ·left
    rw [List.getD_eq_getElem?_getD,List.getD_eq_getElem?_getD,List.getElem?_append_left (by rw [List.length_take];omega),List.getElem?_take_of_lt hj]
   ·right
    have hl:(g.take j).length=j:=by rw [List.length_take];omega
    rw [List.getD_eq_getElem?_getD,List.getElem?_append_right (by omega),hl]
    have e:(init (ds.drop j))[at_ - j]?=some (-1):=by
     simp only [init,List.getElem?_map,List.getElem?_drop]
     rw [show j+(at_ - j)=at_ by omega,hx]
     simp [hr]
    rw [e]
    decide
  ·rw [if_neg hr,if_neg hr]
   exact Or.inl rfl
theorem orig_undo {ds:List De} {g:List Int} {j:Nat} (hg:g.length=ds.length):∀ (n at_:Nat),(orig ds g n at_).isSome=true→(orig ds (g.take j++init (ds.drop j)) n at_).isSome=true
 | 0,_,h=>h
 | n+1,at_,h=>by
  simp only [orig] at h ⊢
  rcases valFrom_undo (j:=j) hg at_ with e | e
  ·rw [e]
   split
   ·rfl
   ·rename_i hn
    rw [if_neg hn] at h
    exact orig_undo hg n _ h
  ·rw [if_pos e];rfl
theorem ends_undo {ds:List De} {g:List Int} {j:Nat} (hg:g.length=ds.length) (h:ends ds g=true):ends ds (g.take j++init (ds.drop j))=true:=by
 rw [ends_iff] at h ⊢
 exact fun i hi=>orig_undo hg _ _ (h i hi)
theorem fromsOf_pre (ds:List De):∀ (n:Nat) (f r:List Int),r∈fromsOf ds n f→r.take f.length=f
 | 0,f,r,hr=>by simp [fromsOf] at hr;simp [hr]
 | n+1,f,r,hr=>by
  have key:∀ v:Int,r∈fromsOf ds n (f++[v])→r.take f.length=f:=fun v hv=>by
   have:=fromsOf_pre ds n (f++[v]) r hv
   have e:=congrArg (List.take f.length) this
   rw [List.take_take,List.length_append] at e
   simpa using e
  rw [fromsOf] at hr
  by_cases hc:((ds[f.length]?).map De.reads).getD false=true
  ·rw [if_pos hc,List.mem_append,List.mem_flatMap] at hr
   rcases hr with hv | ⟨v,_,hv⟩
   ·exact key _ hv
   ·exact key _ hv
  ·rw [if_neg hc] at hr
   exact key _ hr
theorem run_from (ds:List De) (o:List (List Int)):∀ (n:Nat) (f:List Int),f.length+n=ds.length→ends ds (f++init (ds.drop f.length))=true →
  runC (chFs ds f.length (ds.drop f.length)) (f++init (ds.drop f.length),o)=(fromsOf ds n f).flatMap fun g=>if ends ds g then [(g,o)] else []
 | 0,f,hl,he=>by
  have e:ds.drop f.length=[]:=List.drop_eq_nil_of_le (by omega)
  rw [e] at he ⊢
  simp only [init,List.map_nil,List.append_nil] at he
  simp [chFs,runC,fromsOf,init,he]
 | n+1,f,hl,he=>by
  have hlt:f.length < ds.length:=by omega
  have e:ds.drop f.length=ds[f.length]::ds.drop (f.length+1):=(List.getElem_cons_drop hlt).symm
  have hx:ds[f.length]?=some ds[f.length]:=List.getElem?_eq_getElem hlt
  have hap:∀ v:Int,(f++[v]).length=f.length+1:=fun v=>by simp
  rw [e] at he ⊢
  cases hr:De.reads ds[f.length]
  ·rw [froms_no hlt rfl hr]
   have ei:f++init (ds[f.length]::ds.drop (f.length+1))=(f++[-2])++init (ds.drop (f++[-2]).length):=by
    rw [hap,init_cons,hr];simp
   rw [ei] at he ⊢
   have ih:=run_from ds o n (f++[-2]) (by rw [hap];omega) he
   rw [hap] at ih
   simp only [chFs,hr,Bool.false_eq_true,if_false,hap]
   exact ih
  ·rw [froms_yes hlt rfl hr]
   simp only [chFs,hr,if_true,runC]
   have hs:srcs ds f.length=-1::wrs (ds[f.length]).d.p 0 ds:=by simp [srcs,hx]
   have step:∀ v:Int,(if ends ds ((f++init (ds[f.length]::ds.drop (f.length+1))).set f.length v) then [((f++init (ds[f.length]::ds.drop (f.length+1))).set f.length v,o)] else []).flatMap (runC (chFs ds (f.length+1) (ds.drop (f.length+1))))=(fromsOf ds n (f++[v])).flatMap fun g=>if ends ds g then [(g,o)] else []:=by
    intro v
    have ei:(f++init (ds[f.length]::ds.drop (f.length+1))).set f.length v=(f++[v])++init (ds.drop (f++[v]).length):=by
     rw [hap,init_cons,List.set_append_right _ _ (Nat.le_refl _)]
     simp
    rw [ei]
    by_cases hE:ends ds ((f++[v])++init (ds.drop (f++[v]).length))=true
    ·rw [if_pos hE,List.flatMap_cons,List.flatMap_nil,List.append_nil]
     have ih:=run_from ds o n (f++[v]) (by rw [hap];omega) hE
     rw [hap] at ih ⊢
     exact ih
    ·rw [if_neg hE,List.flatMap_nil]
     symm
     rw [List.flatMap_eq_nil_iff]
     intro g hg
     rw [if_neg]
     intro hgE
     have hlen:=fromsOf_each ds n _ g hg
     have hpre:=fromsOf_pre ds n _ g hg
     have:=ends_undo (j:=(f++[v]).length) (by rw [hlen,hap];omega) hgE
     rw [hpre] at this
     exact hE this
   unfold chF
   simp only []
   rw [hs,List.flatMap_cons,List.flatMap_append,step (-1),List.flatMap_assoc,List.flatMap_append]
   congr 1
   rw [List.flatMap_assoc]
   congr 1
   funext v
   exact step v
theorem run_rows (p:Nat) (ws:List Int) (g:List Int):∀ (n:Nat) (o:List (List Int)),p < o.length→runC (List.replicate n (chN p ws)) (g,o)=(rowsOf ws n (o.getD p [])).map fun r=>(g,o.set p r)
 | 0,o,hp=>by
  simp only [List.replicate_zero,runC,rowsOf,List.map_cons,List.map_nil]
  rw [List.getD_eq_getElem?_getD,List.getElem?_eq_getElem hp,Option.getD_some,List.set_getElem_self]
 | n+1,o,hp=>by
  simp only [List.replicate_succ,runC,rowsOf,chN]
  rw [List.flatMap_assoc,List.map_flatMap]
  congr 1
  funext v
  by_cases hh:has (o.getD p []) v=true
  ·rw [if_pos hh,if_pos hh];rfl
  ·rw [if_neg hh,if_neg hh,List.flatMap_cons,List.flatMap_nil,List.append_nil]
   rw [run_rows p ws g n _ (by simpa using hp)]
   have e1:(o.set p (o.getD p []++[v])).getD p []=o.getD p []++[v]:=by
    rw [List.getD_eq_getElem?_getD,List.getElem?_set_self hp];rfl
   rw [e1]
   congr 1
   funext r
   rw [List.set_set]
theorem chNs_rep (ds:List De) (p:Nat):chNs ds p=List.replicate (wrs p 0 ds).length (chN p (wrs p 0 ds)):=by
 unfold chNs
 rw [List.map_const']
theorem run_orders (ds:List De) (g:List Int):runC (chNs ds 0++(chNs ds 1++chNs ds 2)) (g,[[],[],[]])=(ordersOf ds).map fun o=>(g,o):=by
 rw [runC_append,chNs_rep ds 0,run_rows 0 _ g _ _ (by simp)]
 unfold ordersOf addPlace
 simp only [List.flatMap_cons,List.flatMap_nil,List.append_nil,List.nil_append,List.flatMap_map,List.map_flatMap,List.map_map,List.flatMap_assoc]
 congr 1
 funext r0
 have e0:([[],[],[]]:List (List Int)).set 0 r0=[r0,[],[]]:=rfl
 rw [e0,runC_append,chNs_rep ds 1,run_rows 1 _ g _ _ (by simp)]
 simp only [List.flatMap_map]
 congr 1
 funext r1
 have e1:([r0,[],[]]:List (List Int)).set 1 r1=[r0,r1,[]]:=rfl
 rw [e1,chNs_rep ds 2,run_rows 2 _ g _ _ (by simp)]
 rfl
def Cop (ds:List De):Prop:=∀ (n:Nat) (x:De),ds[n]?=some x→x.d.k=3→x.reads=false→0≤x.lr→(x.lr.toNat < n∧∃ y:De,ds[x.lr.toNat]?=some y∧y.reads=true)
theorem ends_init {ds:List De} (hc:Cop ds):ends ds (init ds)=true:=by
 rw [ends_iff]
 intro i hi
 have hv:∀ j x,ds[j]?=some x→x.reads=true→valFrom ds (init ds) j=-1:=fun j x hx hr=>by
  simp [valFrom,hx,hr,init,List.getD_eq_getElem?_getD]
 have hx:ds[i]?=some ds[i]:=List.getElem?_eq_getElem hi
 obtain ⟨n,hn⟩:∃ n,ds.length=n+1:=⟨ds.length - 1,by omega⟩
 rw [hn]
 simp only [orig]
 by_cases hneg:valFrom ds (init ds) i < 0
 ·rw [if_pos hneg];rfl
 ·rw [if_neg hneg]
  have hr:ds[i].reads=false:=by
   cases hr:ds[i].reads
   ·rfl
   ·rw [hv i _ hx hr] at hneg;exact absurd (by decide) hneg
  have hk:ds[i].d.k=3:=by
   by_cases hk:ds[i].d.k=3
   ·exact hk
   ·have:valFrom ds (init ds) i=-1:=by simp [valFrom,hx,hr,hk]
    rw [this] at hneg;exact absurd (by decide) hneg
  have he:valFrom ds (init ds) i=ds[i].lr:=by simp [valFrom,hx,hr,hk]
  rw [he] at hneg ⊢
  obtain ⟨hlt,y,hy,hyr⟩:=hc i _ hx hk hr (by omega)
  obtain ⟨m,rfl⟩:∃ m,n=m+1:=⟨n - 1,by omega⟩
  simp only [orig]
  rw [if_pos (by rw [hv _ y hy hyr];decide)]
  rfl
theorem ways_eq {ds:List De} (hc:Cop ds):ways ds=allWays ds:=by
 unfold ways wchoices firstW allWays
 rw [runC_append]
 have h:=run_from ds [[],[],[]] ds.length [] (by simp) (by simpa using ends_init hc)
 simp only [List.length_nil,List.drop_zero,List.nil_append] at h
 rw [h,List.flatMap_assoc]
 congr 1
 funext f
 by_cases hE:ends ds f=true
 ·simp only [hE,if_true,List.flatMap_cons,List.flatMap_nil,List.append_nil]
  exact run_orders ds f
 ·simp [hE]
end M
end
section
open Go.RowKit
theorem Xw.putRow {W w':World} {B ob n oc p g cap:Nat} {fv u:Value} {l r:List Int} {cs:List Value} {rows:List (List Int)} (h:Xw W B fv (.slice (some ⟨ob,0,none⟩) n oc) l cs rows) (hp:p < rows.length) (hu:cs[p]?=some u)
  (ho:w'.ownsRow B 3 1 (.slice (some ⟨g,0,none⟩) r.length cap) r.length (nums r)) (hg:W.grownBy w' u.ownBlock) (hat:u.ownBlock=some g∨g=W.heap.size) :
  Xw (w'.setCell ⟨ob,p,none⟩ (.slice (some ⟨g,0,none⟩) r.length cap)) B fv (.slice (some ⟨ob,0,none⟩) n oc) l (cs.set p (.slice (some ⟨g,0,none⟩) r.length cap)) (rows.set p r):=by
 have hl:cs.length=rows.length:=by have:=h.ord.1;omega
 obtain ⟨on,oc',eo⟩:=own_slx h.ord
 simp only [Value.slice.injEq] at eo
 obtain ⟨_,rfl,_⟩:=eo
 obtain ⟨u0,e1,e2,e3,e4⟩:=h.row p hp
 rw [hu] at e1
 obtain rfl:=Option.some.inj e1
 have turn:∀ {v:Value} {e:TypeId} {m:Nat} {xs:List Value},W.ownsRow B e 1 v m xs→Off1 v u.ownBlock→Off1 v (some g):=fun hv hoff=>by
  rcases hat with e | e
  ·rw [← e];exact hoff
  ·exact Off1.new hv (by omega)
 have sym:∀ {v:Value} {k:Option Nat},Off1 v k→∀ j,k=some j→v.ownBlock≠some j:=fun hoff j hj e=>hoff j e hj
 have offo:Off1 (.slice (some ⟨ob,0,none⟩) rows.length oc) u.ownBlock:=fun k hk e=>e3 k e hk
 have offf:Off1 fv u.ownBlock:=fun k hk e=>e4 k e hk
 have ho':=offo.kept h.ord hg
 have hf':=offf.kept h.from_ hg
 have gno:g≠ob:=fun e=>turn h.ord offo ob rfl (by rw [e])
 obtain ⟨st,_⟩:=ho'.stored p (.slice (some ⟨g,0,none⟩) r.length cap)
 have hs:=grown_set w' ob p (.slice (some ⟨g,0,none⟩) r.length cap)
 have keep:∀ {v:Value} {m:Nat} {xs:List Value},w'.ownsRow B 3 1 v m xs→Off1 v (some ob)→(w'.setCell ⟨ob,p,none⟩ (.slice (some ⟨g,0,none⟩) r.length cap)).ownsRow B 3 1 v m xs:=fun hv hoff=>hoff.kept hv hs
 have hfo:Off1 fv (some ob):=fun k hk e=>h.apart k hk (by rw [← e];rfl)
 refine ⟨keep hf' hfo,?_,fun i hi=>?_,h.apart,fun i j v v' hij h1 h2=>?_⟩
 ·rw [List.length_set]
  exact st
 ·rw [List.length_set] at hi
  by_cases e:i=p
  ·subst e
   refine ⟨_,List.getElem?_set_self (by omega),?_,fun k hk e=>gno ?_,fun k hk e=>?_⟩
   ·rw [List.getElem_set_self]
    exact keep ho (fun k hk e=>gno (by have h1:g=k:=Option.some.inj hk;have h2:ob=k:=Option.some.inj e;omega))
   ·have h1:g=k:=Option.some.inj hk
    have h2:ob=k:=Option.some.inj e
    omega
   ·have h1:g=k:=Option.some.inj hk
    exact turn h.from_ offf k e (by rw [h1])
  ·obtain ⟨v,f1,f2,f3,f4⟩:=h.row i hi
   have hoff:Off1 v u.ownBlock:=h.each i p v u e f1 hu
   refine ⟨v,by rw [List.getElem?_set_ne (fun h=>e h.symm)];exact f1,?_,f3,f4⟩
   rw [List.getElem_set_ne (fun h=>e h.symm)]
   exact keep (hoff.kept f2 hg) (fun k hk e=>f3 k hk (by rw [← e];rfl))
 ·have old:∀ (a:Nat) (x:Value),cs[a]?=some x→∃ t,W.ownsRow B 3 1 x (List.length t) (nums t):=fun a x hx=>by
   have ha:=(List.getElem?_eq_some_iff.1 hx).1
   obtain ⟨v0,f1,f2,_⟩:=h.row a (by omega)
   rw [hx] at f1
   obtain rfl:=Option.some.inj f1
   exact ⟨_,f2⟩
  by_cases ei:i=p
  ·subst ei
   rw [List.getElem?_set_self (by omega)] at h1
   obtain rfl:=Option.some.inj h1
   rw [List.getElem?_set_ne (fun h=>hij h)] at h2
   obtain ⟨t,ht⟩:=old j v' h2
   have:=turn ht (h.each j i v' u (fun h=>hij h.symm) h2 hu)
   exact fun k hk e=>this k e (by have h3:g=k:=Option.some.inj hk;rw [h3])
  ·rw [List.getElem?_set_ne (fun h=>ei h.symm)] at h1
   by_cases ej:j=p
   ·subst ej
    rw [List.getElem?_set_self (by omega)] at h2
    obtain rfl:=Option.some.inj h2
    obtain ⟨t,ht⟩:=old i v h1
    exact turn ht (h.each i j v u ei h1 hu)
   ·rw [List.getElem?_set_ne (fun h=>ej h.symm)] at h2
    exact h.each i j v v' hij h1 h2
end
section
open Go.RowKit
theorem own_farW {w:World} {b i B n:Nat} {v:Value} {xs:List Value} (ho:w.ownsRow B 3 1 v n xs) (hb:b < B) (u:Value):(w.setCell ⟨b,i,none⟩ u).ownsRow B 3 1 v n xs:=by
 refine ⟨ho.1,?_⟩
 rcases ho.2 with h | ⟨g,cap,cur,hv,hg,hh,r⟩
 ·exact .inl h
 ·exact .inr ⟨g,cap,cur,hv,hg,(Below.heap_setCell _ _ _ _ (by show g≠b;omega)).trans hh,r⟩
structure FwI (w wr:World) (fv:Value) (l:List Int):Prop where
 bel:Below w.heap.size w wr
 res:SlotX wr w.heap.size (.slice none 0 0) (.slice none 0 0)
 row:wr.heap[w.heap.size+1]?=some (.cells #[.slice none 0 0,.slice none 0 0,.slice none 0 0] 31)
 x:SlotX wr (w.heap.size+1+1) fv (.slice (some ⟨w.heap.size+1,0,none⟩) 3 3)
 own:wr.ownsRow (w.heap.size+1+1+1) 3 1 fv l.length (nums l)
theorem FwI.lt {w wr:World} {fv:Value} {l:List Int} (h:FwI w wr fv l):w.heap.size+1+1 < wr.heap.size:=h.x.lt
theorem FwI.below {w wr w1:World} {fv:Value} {l:List Int} (h:FwI w wr fv l) (hb:Below wr.heap.size wr w1):FwI w w1 fv l:=by
 have hl:=h.lt
 exact ⟨h.bel.trans (hb.mono h.bel.size),h.res.of (hb.block _ (by omega)),(hb.block _ (by omega)).trans h.row,h.x.of (hb.block _ hl),ownsRow_below h.own hb⟩
theorem FwI.snoc {w wr w3:World} {fv v':Value} {l l':List Int} {o:Obj} (h:FwI w wr fv l) (hg:(wr.alloc o).grownBy w3 fv.ownBlock) (ho:w3.ownsRow (w.heap.size+1+1+1) 3 1 v' l'.length (nums l')) :
  FwI w (w3.setCell ⟨w.heap.size+1+1,0,none⟩ v') v' l':=by
 have h1:=h.below (below1 wr o)
 have hl:=h1.lt
 have hge:=own_ge h.own
 have blk:∀ k,k < w.heap.size+1+1+1→w3.heap[k]?=(wr.alloc o).heap[k]?:=fun k hk=>hg.block k (by omega) (fun e=>by have:=hge k e.symm;omega)
 have hs:=h1.x.of (blk _ (by omega))
 exact ⟨(below_grown h1.bel hg (fun k hk=>by have:=hge k hk;omega) (by omega)).setCell (by show w.heap.size≤w.heap.size+1+1;omega) _,(h1.res.of (blk _ (by omega))).far (by omega) _,(Below.heap_setCell _ _ _ _ (by show w.heap.size+1≠w.heap.size+1+1;omega)).trans ((blk _ (by omega)).trans h1.row),hs.set0 _,own_farW ho (by omega) _⟩
theorem FwI.ans {w wr:World} {fv:Value} {l:List Int} (h:FwI w wr fv l):WyAns w ((wr.setCell ⟨w.heap.size,0,none⟩ fv).setCell ⟨w.heap.size,1,none⟩ (.slice (some ⟨w.heap.size+1,0,none⟩) 3 3)) fv (.slice (some ⟨w.heap.size+1,0,none⟩) 3 3) l [[],[],[]]:=by
 have hn:∀ (W:World),W.ownsRow w.heap.size 3 1 (.slice none 0 0) ([]:List Int).length (nums []):=fun W=>World.ownsRow_nil _ _ _ _
 have hge:=own_ge h.own
 have hlt:=h.lt
 have ho:∀ row,Off1 (.slice none 0 0) row:=fun row k hk=>by cases hk
 refine ⟨⟨[.slice none 0 0,.slice none 0 0,.slice none 0 0],own_mono (own_farW (own_farW h.own (by omega) _) (by omega) _) (by omega),⟨rfl,Or.inr ⟨w.heap.size+1,3,#[.slice none 0 0,.slice none 0 0,.slice none 0 0],rfl,by omega,?_,by show 3≤3;omega,by unfold maxLen;omega,rfl,rfl⟩⟩,fun i hi=>⟨.slice none 0 0,?_,?_,ho _,ho _⟩,fun k hk e=>?_,fun i j u u' _ hu _=>?_⟩,?_⟩
 ·rw [Below.heap_setCell _ _ _ _ (by show w.heap.size+1≠w.heap.size;omega),Below.heap_setCell _ _ _ _ (by show w.heap.size+1≠w.heap.size;omega)]
  exact h.row
 ·match i,hi with
  | 0,_=>rfl
  | 1,_=>rfl
  | 2,_=>rfl
 ·match i,hi with
  | 0,_=>exact hn _
  | 1,_=>exact hn _
  | 2,_=>exact hn _
 ·have h1:=hge k hk
  have h2:w.heap.size+1=k:=Option.some.inj e
  omega
 ·have:u=.slice none 0 0:=by
   have:=List.mem_of_getElem? hu
   simpa using this
  rw [this];exact ho _
 ·exact (h.bel.setCell (Nat.le_refl _) _).setCell (Nat.le_refl _) _
theorem M.init_step {ds:List M.De} {n:Nat} (h:n < ds.length):M.init (ds.take (n+1))=M.init (ds.take n)++[if ds[n].reads then -1 else -2]:=by
 rw [List.take_succ_eq_append_getElem h];unfold M.init;rw [List.map_append];rfl
set_option maxHeartbeats 1000000 in
set_option maxRecDepth 100000 in
theorem firstWay_any (va:Option Addr) (g c:Nat) (ds:List M.De) (w:World) (hl:ds.length≤1000) (h:DeS w va g ds) :
  Calls Tryz.prog 79 #[.slice va ds.length c] w fun e w'=>∃ fv ov,e=.returned (.agg #[fv,ov])∧WyAns w w' fv ov (M.init ds) [[],[],[]]:=by
 have hmk:∀ w:World,(Instr.makeSlice 113 (.int .i64 3) (.int .i64 3)).run Tryz.prog w=.ok (.slice (some ⟨w.heap.size,0,none⟩) 3 3) (w.alloc (.cells #[.slice none 0 0,.slice none 0 0,.slice none 0 0] 31)):=fun w=>by
  have:=run_make_row' (P:=Tryz.prog) 113 31 (.slice none 0 0) 24 Tryz.underlying113 Tryz.infoRs rfl .i64 .i64 3 (by omega) (by omega) w
  rw [show madeCells #[Value.slice none 0 0] 3=#[.slice none 0 0,.slice none 0 0,.slice none 0 0] from by kernel_rfl] at this
  exact this
 obtain ⟨i0,hi,hz0,hz1,hz2⟩:=info_parts Tryz.infoInt
 go_enter Tryz.func79,Tryz.ntmps79
 go_wp2_with fail
 have A0:FwI w (((w.alloc (.cells #[.slice none 0 0,.slice none 0 0] 122)).alloc (.cells #[.slice none 0 0,.slice none 0 0,.slice none 0 0] 31)).alloc (.cells #[.slice none 0 0,.slice (some ⟨w.heap.size+1,0,none⟩) 3 3] 122)) (.slice none 0 0) []:=by
  refine ⟨below3 w _ _ _,⟨?_⟩,?_,⟨alloc_new _ _ _ (by simp)⟩,World.ownsRow_nil _ _ _ _⟩
  ·rw [alloc_old _ _ _ (by simp;omega),alloc_old _ _ _ (by simp)];exact alloc_new _ _ _ (by simp)
  ·rw [alloc_old _ _ _ (by simp)];exact alloc_new _ _ _ (by simp)
 generalize ((w.alloc (.cells #[.slice none 0 0,.slice none 0 0] 122)).alloc (.cells #[.slice none 0 0,.slice none 0 0,.slice none 0 0] 31)).alloc (.cells #[.slice none 0 0,.slice (some ⟨w.heap.size+1,0,none⟩) 3 3] 122)=W0 at *
 clear hmk
 go_loopw [11] (fun s11 wr=>∃ (n:Nat) (acc:List Int) (v:Value),s11=.int .i64 n∧n≤ds.length∧acc.length≤n∧Hid (M.init (ds.take n)=acc)∧FwI w wr v acc) (fun s11 _=>ds.length - (intOf s11).toNat)
 case atStart=>exact ⟨0,[],_,rfl,Nat.zero_le _,Nat.le_refl _,by show _=_;rfl,A0⟩
 case round =>
  clear A0
  obtain ⟨n,acc,v,rfl,hn,hacc,HW,A⟩:=hrel
  by_cases hlt:n < ds.length
  ·obtain ⟨rfl⟩:=h.addr (by omega)
   have hx:=DeS.at (h.bel A.bel (Nat.le_refl _)) hlt
   have HW2:Hid (M.init (ds.take (n+1))=acc++[if (ds[n]).reads then -1 else -2]):=by show _=_;rw [M.init_step hlt,HW.out]
   clear HW
   generalize ds[n]=x at *
   obtain ⟨c0,c1,c2,c3,c4,c5,c6⟩:=hx
   have i1:(n:Int) < ds.length:=by omega
   have lg:g < wr.heap.size:=World.block_lt_of_cell? _ _ c0
   have A2:=A.below (below2 wr (.cells #[.int .i64 (x.t:Int),.int .i64 (x.i:Int),.bool x.last,.int .i64 x.d.k,.int .i64 x.d.p,.int .i64 x.d.v,.int .i64 x.lr] 167) (.cells #[.int .i64 (x.t:Int),.int .i64 (x.i:Int),.bool x.last,.int .i64 x.d.k,.int .i64 x.d.p,.int .i64 x.d.v,.int .i64 x.lr] 167))
   obtain ⟨av,cv,hav⟩:=own_slx A2.own
   subst hav
   have cS:=A2.x.c0
   have lS:=A.lt
   cases ht:x.reads
   ·go_wp2_with (first | (go_at_call 86;refine (deReads_any x _).mono ?_;rw [ht];rintro e w' ⟨rfl,rfl⟩) | (at_builtin;refine wpList_append_lies _ rfl (.tmp 18) (.tmp 20) 31 rfl (w.heap.size+1+1+1) 3 i0 _ 1 8 Tryz.underlying31 hi hz0 hz1 hz2 rfl (by decide) _ _ _ rfl (A2.own.alloc _) ⟨wr.heap.size+1+1,0,none⟩ 1 1 [.int .i64 (-2)] rfl rfl (World.news_of_block (cs:=#[.int .i64 (-2)]) (t:=3) (fr:=(0,0)) (by have:=heap_alloc_new ((wr.alloc (.cells #[.int .i64 (x.t:Int),.int .i64 (x.i:Int),.bool x.last,.int .i64 x.d.k,.int .i64 x.d.p,.int .i64 x.d.v,.int .i64 x.lr] 167)).alloc (.cells #[.int .i64 (x.t:Int),.int .i64 (x.i:Int),.bool x.last,.int .i64 x.d.k,.int .i64 x.d.p,.int .i64 x.d.v,.int .i64 x.lr] 167)) (.cells #[.int .i64 (-2)] 3);simpa using this)) (by simp [Value.oneCell']) (by omega) (by unfold maxLen;omega) (by omega) (by simp;omega) (wr.heap.size+1+1+1) (by simp) ?_))
    intro g6 cap6 w6 hown6 hg6 hat6 hlt6
    have hown6':w6.ownsRow (w.heap.size+1+1+1) 3 1 (.slice (some ⟨g6,0,none⟩) (acc.length+1) cap6) (acc++[(-2:Int)]).length (nums (acc++[(-2:Int)])):=by rw [List.length_append];simpa [nums] using hown6
    have A4:=A2.snoc hg6 hown6'
    have hge:=own_ge A2.own
    have lX:w.heap.size+1+1 < wr.heap.size+1+1+1:=by omega
    have cS6:w6.cell? ⟨w.heap.size+1+1,0,none⟩=some (.slice av acc.length cv):=(hg6.cell_far ⟨w.heap.size+1+1,0,none⟩ (by simp;omega) (fun e=>by have:w.heap.size+1+1+1≤w.heap.size+1+1:=hge _ e.symm;omega)).trans (((A2.below (below1 _ _)).x).c0)
    have fS6:∀ i,w6.frozen? ⟨w.heap.size+1+1,i,none⟩=false:=fun i=>(hg6.frozen_far ⟨w.heap.size+1+1,i,none⟩ (by simp;omega) (fun e=>by have:w.heap.size+1+1+1≤w.heap.size+1+1:=hge _ e.symm;omega)).trans (((A2.below (below1 _ _)).x).fz i)
    clear hown6 hg6 hat6 hlt6 hown6' hge cS
    go_wp2_with fail
    exact ⟨⟨n+1,acc++[(-2:Int)],_,by go_num,by omega,by simp;omega,by show _=_;have:=HW2.out;rw [ht] at this;exact this,A4⟩,by simp [intOf];omega⟩
   ·go_wp2_with (first | (go_at_call 86;refine (deReads_any x _).mono ?_;rw [ht];rintro e w' ⟨rfl,rfl⟩) | (at_builtin;refine wpList_append_lies _ rfl (.tmp 18) (.tmp 20) 31 rfl (w.heap.size+1+1+1) 3 i0 _ 1 8 Tryz.underlying31 hi hz0 hz1 hz2 rfl (by decide) _ _ _ rfl (A2.own.alloc _) ⟨wr.heap.size+1+1,0,none⟩ 1 1 [.int .i64 (-1)] rfl rfl (World.news_of_block (cs:=#[.int .i64 (-1)]) (t:=3) (fr:=(0,0)) (by have:=heap_alloc_new ((wr.alloc (.cells #[.int .i64 (x.t:Int),.int .i64 (x.i:Int),.bool x.last,.int .i64 x.d.k,.int .i64 x.d.p,.int .i64 x.d.v,.int .i64 x.lr] 167)).alloc (.cells #[.int .i64 (x.t:Int),.int .i64 (x.i:Int),.bool x.last,.int .i64 x.d.k,.int .i64 x.d.p,.int .i64 x.d.v,.int .i64 x.lr] 167)) (.cells #[.int .i64 (-1)] 3);simpa using this)) (by simp [Value.oneCell']) (by omega) (by unfold maxLen;omega) (by omega) (by simp;omega) (wr.heap.size+1+1+1) (by simp) ?_))
    intro g6 cap6 w6 hown6 hg6 hat6 hlt6
    have hown6':w6.ownsRow (w.heap.size+1+1+1) 3 1 (.slice (some ⟨g6,0,none⟩) (acc.length+1) cap6) (acc++[(-1:Int)]).length (nums (acc++[(-1:Int)])):=by rw [List.length_append];simpa [nums] using hown6
    have A4:=A2.snoc hg6 hown6'
    have hge:=own_ge A2.own
    have lX:w.heap.size+1+1 < wr.heap.size+1+1+1:=by omega
    have cS6:w6.cell? ⟨w.heap.size+1+1,0,none⟩=some (.slice av acc.length cv):=(hg6.cell_far ⟨w.heap.size+1+1,0,none⟩ (by simp;omega) (fun e=>by have:w.heap.size+1+1+1≤w.heap.size+1+1:=hge _ e.symm;omega)).trans (((A2.below (below1 _ _)).x).c0)
    have fS6:∀ i,w6.frozen? ⟨w.heap.size+1+1,i,none⟩=false:=fun i=>(hg6.frozen_far ⟨w.heap.size+1+1,i,none⟩ (by simp;omega) (fun e=>by have:w.heap.size+1+1+1≤w.heap.size+1+1:=hge _ e.symm;omega)).trans (((A2.below (below1 _ _)).x).fz i)
    clear hown6 hg6 hat6 hlt6 hown6' hge cS
    go_wp2_with fail
    exact ⟨⟨n+1,acc++[(-1:Int)],_,by go_num,by omega,by simp;omega,by show _=_;have:=HW2.out;rw [ht] at this;exact this,A4⟩,by simp [intOf];omega⟩
  ·have HF:M.init ds=acc:=by have:=HW.out;rwa [List.take_of_length_le (by omega)] at this
   obtain ⟨av,cv,rfl⟩:=own_slx A.own
   have x0:=A.x.c0
   have x1:=A.x.c1
   have y0:=A.res.c0
   have y1:=A.res.c1
   have yf:=A.res.fz
   have hlt:=A.lt
   have hans:=A.ans
   clear HW
   go_wp2_with fail
   refine bodyPost_ret (v:=.agg #[.slice av acc.length cv,.slice (some ⟨w.heap.size+1,0,none⟩) 3 3]) (by simp [results,Tryz.results79,go_sem,y0,y1]) rfl ⟨_,_,rfl,?_⟩
   rw [HF];exact hans
end
section
namespace M
def LrOk (xs:List De) (lr:Int):Prop:=0≤lr→∃ y:De,xs[lr.toNat]?=some y∧y.reads=true
def LrAll (ds:List De):Prop:=∀ (n:Nat) (x:De),ds[n]?=some x→x.lr≤n∧(x.reads=false→LrOk (ds.take n) x.lr)
theorem LrOk.append {xs:List De} {lr:Int} (h:LrOk xs lr) (ys:List De):LrOk (xs++ys) lr:=fun h0=>by
 obtain ⟨y,h1,h2⟩:=h h0
 exact ⟨y,by rw [List.getElem?_append_left (List.getElem?_eq_some_iff.1 h1).1];exact h1,h2⟩
theorem LrOk.le {xs:List De} {lr:Int} (h:LrOk xs lr):lr≤xs.length:=by
 by_cases h0:0≤lr
 ·obtain ⟨y,h1,_⟩:=h h0
  have:=(List.getElem?_eq_some_iff.1 h1).1
  omega
 ·omega
theorem LrAll.snoc {xs:List De} {x:De} (h:LrAll xs) (hx:x.lr≤xs.length∧(x.reads=false→LrOk xs x.lr)):LrAll (xs++[x]):=fun n y hy=>by
 by_cases hn:n < xs.length
 ·rw [List.getElem?_append_left hn] at hy
  rw [List.take_append_of_le_length (by omega)]
  exact h n y hy
 ·have hlt:=(List.getElem?_eq_some_iff.1 hy).1
  simp at hlt
  have e:n=xs.length:=by omega
  subst e
  rw [List.getElem?_append_right (Nat.le_refl _)] at hy
  simp at hy
  subst hy
  rw [List.take_left']
  ·exact hx
  ·rfl
theorem lrOf_ok {xs:List De} {lr:Int} (h:LrOk xs lr) (t i:Nat) (b:Bool) (d:D):(lrOf lr xs.length d≤xs.length∧((⟨t,i,b,d,lrOf lr xs.length d⟩:De).reads=false→LrOk xs (lrOf lr xs.length d)))∧LrOk (xs++[⟨t,i,b,d,lrOf lr xs.length d⟩]) (lrOf lr xs.length d):=by
 unfold lrOf
 cases hr:reads d.k
 ·simp only [Bool.false_eq_true,if_false]
  exact ⟨⟨h.le,fun _=>h⟩,h.append _⟩
 ·simp only [if_true]
  refine ⟨⟨Int.le_refl _,fun e=>?_⟩,fun _=>⟨⟨t,i,b,d,xs.length⟩,by simp,?_⟩⟩
  ·simp [De.reads,hr] at e
  ·simp [De.reads,hr]
theorem LrAll.deD {xs:List De} {lr:Int} (h:LrAll xs) (hl:LrOk xs lr) (t i:Nat) (d:D):LrAll (xs++deD t i lr xs.length d)∧LrOk (xs++deD t i lr xs.length d) (lrOf lr xs.length d):=by
 obtain ⟨h1,h2⟩:=lrOf_ok hl t i false d
 have a1:=h.snoc (x:=⟨t,i,false,d,lrOf lr xs.length d⟩) h1
 unfold M.deD
 split
 ·rename_i hk
  have hr:reads d.k=false:=by
   have:d.k=9:=by simpa using hk
   simp [reads,this]
  have e:lrOf lr xs.length d=lr:=by simp [lrOf,hr]
  rw [e] at h1 h2 a1 ⊢
  have a2:=a1.snoc (x:=⟨t,i,true,d,lr⟩) ⟨h2.le,fun _=>h2⟩
  rw [List.append_assoc] at a2
  exact ⟨a2,hl.append _⟩
 ·exact ⟨a1,h2⟩
theorem LrAll.deT (t:Nat):∀ (l:List D) (i:Nat) (lr:Int) (xs:List De),LrAll xs→LrOk xs lr→LrAll (xs++deT t i lr xs.length l)
 | [],i,lr,xs,h,hl=>by simpa [M.deT] using h
 | d::l,i,lr,xs,h,hl=>by
  obtain ⟨h1,h2⟩:=h.deD hl t i d
  have:=LrAll.deT t l (i+1) _ _ h1 h2
  rw [List.length_append,List.append_assoc] at this
  exact this
theorem LrAll.deF:∀ (ll:List (List D)) (t:Nat) (xs:List De),LrAll xs→LrAll (xs++deF t xs.length ll)
 | [],t,xs,h=>by simpa [M.deF] using h
 | l::ll,t,xs,h=>by
  have h1:=LrAll.deT t l 0 (-1) xs h (fun h0=>absurd h0 (by decide))
  have:=LrAll.deF ll (t+1) _ h1
  rw [List.length_append,List.append_assoc] at this
  exact this
theorem lr_all (ll:List (List D)):LrAll (deeds ll):=by
 have:=LrAll.deF ll 0 [] (fun n x h=>by simp at h)
 simpa [deeds] using this
theorem cop_deeds (ll:List (List D)):Cop (deeds ll):=fun n x hx _ hr h0=>by
 obtain ⟨y,h1,h2⟩:=(lr_all ll n x hx).2 hr h0
 have hlt:=(List.getElem?_eq_some_iff.1 h1).1
 rw [List.length_take] at hlt
 refine ⟨by omega,y,?_,h2⟩
 rw [List.getElem?_take_of_lt (by omega)] at h1
 exact h1
theorem lr_lt2 (ll:List (List D)) (n:Nat) (x:De) (hx:(deeds ll)[n]?=some x):x.lr < (deeds ll).length:=by
 have h1:=(lr_all ll n x hx).1
 have h2:=(List.getElem?_eq_some_iff.1 hx).1
 omega
end M
end
section
namespace M
theorem perm_of:∀ (a b:List Int),a.Nodup→(∀ v∈a,v∈b)→b.length≤a.length→a.Perm b
 | [],b,_,_,hl=>by
  have:b=[]:=List.length_eq_zero_iff.1 (by simpa using hl)
  rw [this]
 | x::a,b,hn,hs,hl=>by
  have hx:=hs x (by simp)
  have hp:=List.perm_cons_erase hx
  have hn':=List.nodup_cons.1 hn
  have ih:=perm_of a (b.erase x) hn'.2 (fun v hv=>(List.mem_erase_of_ne (fun (e:v=x)=>hn'.1 (e▸hv))).2 (hs v (List.mem_cons_of_mem _ hv))) (by rw [List.length_erase_of_mem hx];simp at hl;omega)
  exact (ih.cons x).trans hp.symm
theorem mayTell_iff {ds:List De} {x:De} {f:Int}:mayTell ds x f=true↔if x.reads then f=-1∨f∈wrs x.d.p 0 ds else f=-2:=by
 unfold mayTell
 cases hr:x.reads
 ·simp
 ·simp only [if_true,Bool.or_eq_true,beq_iff_eq]
  refine or_congr Iff.rfl ?_
  rw [mem_wrs]
  constructor
  ·intro h
   simp only [Bool.and_eq_true,decide_eq_true_eq] at h
   obtain ⟨h0,h1,h2⟩:=h
   have hlt:f.toNat < ds.length:=by omega
   rw [List.getElem?_eq_getElem hlt] at h2
   exact ⟨f.toNat,hlt,by omega,h2⟩
  ·rintro ⟨i,hi,rfl,ht⟩
   simp only [Bool.and_eq_true,decide_eq_true_eq]
   refine ⟨by omega,by omega,?_⟩
   have e:(((0+i:Nat):Int)).toNat=i:=by omega
   rw [e,List.getElem?_eq_getElem hi]
   exact ht
theorem fromsW_succ {ds:List De} {n:Nat} {f r:List Int} (h:f.length < ds.length):r∈fromsOf ds (n+1) f↔∃ v,mayTell ds ds[f.length] v=true∧r∈fromsOf ds n (f++[v]):=by
 cases hr:De.reads ds[f.length]
 ·rw [froms_no h rfl hr]
  constructor
  ·exact fun h=>⟨-2,by rw [mayTell_iff,hr];rfl,h⟩
  ·rintro ⟨v,hv,hm⟩
   rw [mayTell_iff,hr] at hv
   have:v=-2:=hv
   rw [← this];exact hm
 ·rw [froms_yes h rfl hr,List.mem_append,List.mem_flatMap]
  constructor
  ·rintro (h | ⟨v,hv,hm⟩)
   ·exact ⟨-1,by rw [mayTell_iff,hr];exact Or.inl rfl,h⟩
   ·exact ⟨v,by rw [mayTell_iff,hr];exact Or.inr hv,hm⟩
  ·rintro ⟨v,hv,hm⟩
   rw [mayTell_iff,hr] at hv
   rcases hv with rfl | hv
   ·exact Or.inl hm
   ·exact Or.inr ⟨v,hv,hm⟩
theorem take_succ_snoc {r f:List Int} {v:Int} (h:f.length < r.length):r.take (f.length+1)=f++[v]↔r.take f.length=f∧r.getD f.length 0=v:=by
 rw [List.take_succ_eq_append_getElem h]
 have hl:(r.take f.length).length=f.length:=by rw [List.length_take];omega
 constructor
 ·intro e
  have e1:=List.append_inj e hl
  refine ⟨e1.1,?_⟩
  have:=e1.2
  simp at this
  rw [List.getD_eq_getElem?_getD,List.getElem?_eq_getElem h]
  exact this
 ·rintro ⟨e1,e2⟩
  rw [List.getD_eq_getElem?_getD,List.getElem?_eq_getElem h] at e2
  rw [e1]
  congr 1
  simp at e2
  rw [e2]
theorem mem_froms {ds:List De}:∀ (n:Nat) (f r:List Int),f.length+n=ds.length→(r∈fromsOf ds n f↔r.length=ds.length∧r.take f.length=f∧∀ i (h:i < ds.length),f.length≤i→mayTell ds ds[i] (r.getD i 0)=true)
 | 0,f,r,h=>by
  simp only [fromsOf,List.mem_singleton]
  constructor
  ·rintro rfl
   exact ⟨by omega,List.take_of_length_le (Nat.le_refl _),fun i hi hf=>by omega⟩
  ·rintro ⟨h1,h2,_⟩
   rw [List.take_of_length_le (by omega)] at h2
   exact h2
 | n+1,f,r,h=>by
  have hlt:f.length < ds.length:=by omega
  rw [fromsW_succ hlt]
  constructor
  ·rintro ⟨v,hv,hm⟩
   rw [mem_froms n _ r (by simp;omega)] at hm
   obtain ⟨h1,h2,h3⟩:=hm
   rw [List.length_append,List.length_singleton] at h2 h3
   obtain ⟨e1,e2⟩:=(take_succ_snoc (by omega)).1 h2
   refine ⟨h1,e1,fun i hi hf=>?_⟩
   by_cases e:i=f.length
   ·subst e;rw [e2];exact hv
   ·exact h3 i hi (by omega)
  ·rintro ⟨h1,h2,h3⟩
   refine ⟨r.getD f.length 0,h3 _ hlt (Nat.le_refl _),?_⟩
   rw [mem_froms n _ r (by simp;omega)]
   rw [List.length_append,List.length_singleton]
   exact ⟨h1,(take_succ_snoc (by omega)).2 ⟨h2,rfl⟩,fun i hi hf=>h3 i hi (by omega)⟩
theorem fromAt_iff {ds:List De}:∀ (xs:List De) (l:List Int),l.length=xs.length→(fromAt ds xs l=true↔∀ i (h:i < xs.length),mayTell ds xs[i] (l.getD i 0)=true)
 | [],l,h=>by simp [fromAt]
 | x::xs,[],h=>by simp at h
 | x::xs,f::l,h=>by
  simp only [fromAt,Bool.and_eq_true,fromAt_iff xs l (by simpa using h)]
  constructor
  ·rintro ⟨h1,h2⟩ i hi
   cases i with
   | zero=>exact h1
   | succ i=>exact h2 i (by simpa using hi)
  ·intro h
   exact ⟨h 0 (by simp),fun i hi=>h (i+1) (by simpa using hi)⟩
theorem mem_from {ds:List De} {l:List Int}:l∈fromsOf ds ds.length []↔fromOk ds l=true:=by
 rw [mem_froms _ _ _ (by simp),fromOk,Bool.and_eq_true,decide_eq_true_eq]
 constructor
 ·rintro ⟨h1,_,h3⟩
  exact ⟨h1,(fromAt_iff ds l h1).2 fun i hi=>h3 i hi (Nat.zero_le _)⟩
 ·rintro ⟨h1,h2⟩
  exact ⟨h1,by simp,fun i hi _=>(fromAt_iff ds l h1).1 h2 i hi⟩
theorem mem_rows {ws:List Int}:∀ (n:Nat) (h r:List Int),r∈rowsOf ws n h↔∃ t,r=h++t∧t.length=n∧(∀ v∈t,v∈ws∧v∉h)∧t.Nodup
 | 0,h,r=>by
  simp only [rowsOf,List.mem_singleton]
  constructor
  ·rintro rfl
   exact ⟨[],by simp,rfl,(fun v hv=>by cases hv),List.nodup_nil⟩
  ·rintro ⟨t,rfl,ht,_⟩
   rw [List.length_eq_zero_iff.1 ht,List.append_nil]
 | n+1,h,r=>by
  rw [rowsOf,List.mem_flatMap]
  constructor
  ·rintro ⟨v,hv,hm⟩
   by_cases hh:has h v=true
   ·rw [if_pos hh] at hm;cases hm
   ·rw [if_neg hh] at hm
    obtain ⟨t,rfl,h1,h2,h3⟩:=(mem_rows n _ r).1 hm
    have hvh:v∉h:=fun e=>hh (by simpa [has] using e)
    refine ⟨v::t,by simp,by simp [h1],fun u hu=>?_,List.nodup_cons.2 ⟨fun e=>(h2 v e).2 (by simp),h3⟩⟩
    rcases List.mem_cons.1 hu with rfl | hu
    ·exact ⟨hv,hvh⟩
    ·exact ⟨(h2 u hu).1,fun e=>(h2 u hu).2 (List.mem_append_left _ e)⟩
  ·rintro ⟨t,rfl,h1,h2,h3⟩
   cases t with
   | nil=>simp at h1
   | cons v t =>
    have hv:=h2 v (by simp)
    have hn:=List.nodup_cons.1 h3
    refine ⟨v,hv.1,?_⟩
    rw [if_neg (by simpa [has] using hv.2)]
    refine (mem_rows n _ _).2 ⟨t,by simp,by simpa using h1,fun u hu=>⟨(h2 u (List.mem_cons_of_mem _ hu)).1,fun e=>?_⟩,hn.2⟩
    rcases List.mem_append.1 e with e | e
    ·exact (h2 u (List.mem_cons_of_mem _ hu)).2 e
    ·rw [List.mem_singleton.1 e] at hu;exact hn.1 hu
theorem mem_row {ws r:List Int} (hw:ws.Nodup):r∈rowsOf ws ws.length []↔isRow r ws=true:=by
 rw [mem_rows,isRow,Bool.and_eq_true,decide_eq_true_eq,List.all_eq_true]
 constructor
 ·rintro ⟨t,e,h1,h2,h3⟩
  rw [List.nil_append] at e
  subst e
  have hp:=perm_of r ws h3 (fun v hv=>(h2 v hv).1) (by omega)
  exact ⟨h1,fun v hv=>by simpa using hp.mem_iff.2 hv⟩
 ·rintro ⟨h1,h2⟩
  have hp:=perm_of ws r hw (fun v hv=>by simpa using h2 v hv) (by omega)
  exact ⟨r,by simp,h1,fun v hv=>⟨hp.mem_iff.2 hv,by simp⟩,hp.nodup_iff.1 hw⟩
theorem mem_order {ds:List De} {o:List (List Int)}:o∈ordersOf ds↔orderOk ds o=true:=by
 have key:o∈ordersOf ds↔∃ r0 r1 r2,o=[r0,r1,r2]∧isRow r0 (wrs 0 0 ds)=true∧isRow r1 (wrs 1 0 ds)=true∧isRow r2 (wrs 2 0 ds)=true:=by
  unfold ordersOf addPlace
  simp only [List.mem_flatMap,List.mem_map,List.flatMap_cons,List.flatMap_nil,List.append_nil,List.nil_append]
  constructor
  ·rintro ⟨o2,⟨o1,⟨r0,h0,rfl⟩,r1,h1,rfl⟩,r2,h2,rfl⟩
   exact ⟨r0,r1,r2,rfl,(mem_row (nodup_wrs _ _ _)).1 h0,(mem_row (nodup_wrs _ _ _)).1 h1,(mem_row (nodup_wrs _ _ _)).1 h2⟩
  ·rintro ⟨r0,r1,r2,rfl,h0,h1,h2⟩
   exact ⟨[r0,r1],⟨[r0],⟨r0,(mem_row (nodup_wrs _ _ _)).2 h0,rfl⟩,r1,(mem_row (nodup_wrs _ _ _)).2 h1,rfl⟩,r2,(mem_row (nodup_wrs _ _ _)).2 h2,rfl⟩
 rw [key,orderOk,Bool.and_eq_true,decide_eq_true_eq]
 constructor
 ·rintro ⟨r0,r1,r2,rfl,h0,h1,h2⟩
  refine ⟨rfl,?_⟩
  simp only [orderAt,Bool.and_eq_true,and_true]
  exact ⟨h0,h1,h2⟩
 ·rintro ⟨h1,h2⟩
  match o,h1,h2 with
  | [r0,r1,r2],_,h2 =>
   simp only [orderAt,Bool.and_eq_true,and_true] at h2
   exact ⟨r0,r1,r2,rfl,h2.1,h2.2.1,h2.2.2⟩
theorem mem_all {ds:List De} {f:List Int} {o:List (List Int)}:(f,o)∈allWays ds↔wayOk ds f o=true:=by
 unfold allWays wayOk
 rw [List.mem_flatMap,Bool.and_eq_true,Bool.and_eq_true,← mem_from,← mem_order]
 constructor
 ·rintro ⟨g,hg,hm⟩
  by_cases he:ends ds g=true
  ·rw [if_pos he,List.mem_map] at hm
   obtain ⟨o',ho,e⟩:=hm
   cases e
   exact ⟨hg,ho,he⟩
  ·rw [if_neg he] at hm;cases hm
 ·rintro ⟨h1,h2,h3⟩
  exact ⟨f,h1,by rw [if_pos h3,List.mem_map];exact ⟨o,h2,rfl⟩⟩
end M
end
end Go.Proofs.YtnddmlgnngdaoaaGreatDoor
