/- spec.DrawTurnBeside: two drawn programs. Of codes of at most 1048576 bytes. -/
import Derived.BigQuiet
import Derived.Deep.AppendLies
import Derived.Deep.CutRange
import Derived.Deep.MidRow
import Derived.Deep.QuietTactic
import Derived.Deep.RegionHeld3
import Derived.Deep.RegionLaw
import Derived.Deep.RegionWith
import Derived.Deep.WholeRow
import Derived.Laws.AppendOwn
import Derived.Laws.AppendOwnNone
import Derived.Laws.OwnMore
import Derived.Shelf.Abstract
import Derived.Sort.Grow
import Derived.WalkKit
import Derived.WalkLawsBesides
import Derived.WalkSpells
import Derived.Test.YtihfibjckkmmbaaGreatRows
import Derived.Test.YtihfibjckkmmbaaGreatQhaf
namespace Go.Proofs.YtihfibjckkmmbaaGreat
open Go.RowKit
set_option maxHeartbeats 8000000 in
set_option maxRecDepth 100000 in
set_option linter.unusedSimpArgs false in
theorem DrawTurnBeside_any (ca:Option Addr) (cb co L C:Nat) (x:Nat→Int) (w:World) (hL:L≤C) (had:0 < L→ca=some ⟨cb,co,none⟩) (hc:∀ i,i < L→w.cell? ⟨cb,co+i,none⟩=some (.int .u8 (x i))∧0≤x i∧x i≤255) (hLb:L≤1048576) :
  Calls Tryz.prog 22 #[.slice ca L C] w fun e w'=>∃ (a:Option Addr) (g c:Nat) (mm:List (List M.D)) (a2:Option Addr) (g2 c2:Nat) (nn:List (List M.D)),e=.returned (.tuple #[.agg #[.slice a mm.length c],.agg #[.slice a2 nn.length c2]])∧TbDrawn w w' a g mm a2 g2 nn:=by
 obtain ⟨i0,hi,hz0,hz1,hz2⟩:=info_parts Tryz.info53
 go_enter Tryz.func22,Tryz.ntmps22
 go_wp2_with fail
 have hb0:=below2 w (.cells #[.slice none 0 0] 25) (.cells #[.slice none 0 0] 25)
 refine (l6Open_any ca cb co L C x _ hL had (fun i hi=>⟨by rw [hb0.cell (p:=⟨cb,co+i,none⟩) (World.block_lt_of_cell? _ _ (hc i hi).1)];exact (hc i hi).1,(hc i hi).2⟩) hLb).mono ?_
 rintro e w1 ⟨rfl,hr1,hb1⟩
 simp only [World.size_alloc] at hr1 hb1 ⊢
 have hb1w:Below w.heap.size w w1:=hb0.trans (hb1.mono (by omega))
 have hbt:=But.of (rb:=w.heap.size+1+1) (w:=(w.alloc (.cells #[.slice none 0 0] 25)).alloc (.cells #[.slice none 0 0] 25)) (by simpa only [World.size_alloc] using hb1)
 have hS1:=((Slot1.new w (.slice none 0 0) 25).bl' (below1 _ (.cells #[.slice none 0 0] 25))).but hbt (by omega)
 have hT1:=(Slot1.new (w.alloc (.cells #[.slice none 0 0] 25)) (.slice none 0 0) 25).but hbt (by simp)
 rw [World.size_alloc] at hT1
 have hlt1:=hr1.lt
 clear hc had hb0 hb1 hbt
 go_wp2_with fail
 obtain ⟨pE,hpE⟩:∃ pE,0=pE:=⟨_,rfl⟩
 rw [hpE] at hr1
 have hpE':pE≤1000:=by omega
 clear hpE
 obtain ⟨E,hE⟩:∃ E,E=w1:=⟨_,rfl⟩
 subst hE
 have hrE:=hr1
 have hsE:w.heap.size+3≤E.heap.size:=by omega
 refine (l71Thread_any _ _ pE 3 1 E (by omega) (by omega) (by omega) (by omega) (by omega) hrE).mono ?_
 rintro e u1 ⟨l,v,rfl,ho1,hl1,p1,hp1,hr1,hb1⟩
 obtain ⟨a1_,c1_,rfl⟩:=own_slx ho1
 have hsz1:=hb1.size
 have hRN:=Rdg.lit u1 E.heap.size (.slice a1_ l.length c1_) l ho1 hsz1
 have bN:=(But.refl (w.heap.size+1+1) u1).alloc (.cells #[.slice a1_ l.length c1_] 53)
 have bP:=bN.alloc (.cells #[.slice (some ⟨u1.heap.size,0,none⟩) 1 1] 25)
 have hRU:=hRN.but ((But.refl (w.heap.size+1+1) _).alloc (.cells #[.slice (some ⟨u1.heap.size,0,none⟩) 1 1] 25)) (by omega)
 have hPU:=PBox.new (u1.alloc (.cells #[.slice a1_ l.length c1_] 53)) (.slice (some ⟨u1.heap.size,0,none⟩) 1 1)
 rw [World.size_alloc] at hPU
 have hrU:=(hr1.alloc (.cells #[.slice a1_ l.length c1_] 53)).alloc (.cells #[.slice (some ⟨u1.heap.size,0,none⟩) 1 1] 25)
 have bEU:=hb1.trans bP
 clear ho1 hr1 hb1 hRN bN bP
 go_wp2_with fail
 generalize (u1.alloc (.cells #[.slice a1_ l.length c1_] 53)).alloc (.cells #[.slice (some ⟨u1.heap.size,0,none⟩) 1 1] 25)=U at *
 obtain ⟨N,hN⟩:∃ N,u1.heap.size=N:=⟨_,rfl⟩
 rw [hN] at hRU hPU hsz1 ⊢
 clear hN
 obtain ⟨P,hPe⟩:∃ P,N+1=P:=⟨_,rfl⟩
 have hPge:E.heap.size≤P:=by omega
 have hPne:P≠w.heap.size+1+1:=by omega
 rw [hPe] at hPU ⊢
 clear hPe
 generalize Value.slice a1_ l.length c1_=v at *
 refine (pick_rdr _ _ p1 2 U (by omega) (by omega) (by omega) hrU).mono ?_
 rintro e U1 ⟨q,rfl,q0,q1,hrU1,hbU1⟩
 have hRU1:=hRU.but hbU1 (by omega)
 have hPU1:=hPU.but hbU1 hPne
 have bEU1:=bEU.trans hbU1
 clear hRU hPU hrU bEU hbU1
 obtain ⟨U,hU⟩:∃ U,U=U1:=⟨_,rfl⟩
 subst hU
 have hRU:=hRU1
 have hPU:=hPU1
 have hrU:=hrU1
 have bEU:=bEU1
 obtain ⟨pU,hpU⟩:∃ pU,p1+1=pU:=⟨_,rfl⟩
 rw [hpU] at hrU
 have hpU':pU≤pE+100:=by omega
 clear hRU1 hPU1 hrU1 bEU1 hpU
 have hsU:E.heap.size≤U.heap.size:=bEU.size
 by_cases hq:q=0
 ·subst hq
  have F5:Hid (∀ (u2:World) (l2:List M.D) (a2_:Option Addr) (c2_ p2:Nat),u2.ownsRow U.drew.heap.size 56 3 (.slice a2_ l2.length c2_) l2.length (flat l2)→Rdr u2 (w.heap.size+1+1) (w.heap.size+1+1) p2→But (w.heap.size+1+1) U u2→∀ (g5 cap5:Nat) (u5:World),u5.ownsRow E.heap.size 53 1 (.slice (some ⟨g5,0,none⟩) (1+1) cap5) (1+1) ([v]++[.slice a2_ l2.length c2_])→(u2.alloc (.cells #[.slice a2_ l2.length c2_] 53)).grownBy u5 (Value.slice (some ⟨N,0,none⟩) 1 1).ownBlock→Rdg u5 E.heap.size (.slice (some ⟨g5,0,none⟩) (1+1) cap5) ([l]++[l2]) ([v]++[.slice a2_ l2.length c2_])∧PBox u5 P (.slice (some ⟨N,0,none⟩) 1 1)∧Rdr u5 (w.heap.size+1+1) (w.heap.size+1+1) p2∧But (w.heap.size+1+1) E u5):=by
   intro u2 l2 a2_ c2_ p2 ho hr hb g5 cap5 u5 ho5 hg5
   have hal:=below1 u2 (.cells #[.slice a2_ l2.length c2_] 53)
   have hsz2:=hb.size
   have hR2:=(hRU.but hb (by omega)).below hal
   have hge:=own_ge hRU.b.outer
   have hPa:=(hPU.but hb hPne).below hal
   have hne:=hPa.ne hR2.b.outer (by decide)
   refine ⟨hR2.snocT (ownsRow_mono (ownsRow_below ho hal) (by show E.heap.size≤U.heap.size;omega)) (fun i hi j hj e=>?_) ho5 hg5,hPa.grown hg5 hne,(hr.below hal (Nat.le_refl _)).grown hg5 (fun k hk=>by have:=hge k hk;omega),((bEU.trans hb).alloc _).grown hg5 (fun k hk=>by have:=hge k hk;omega)⟩
   have h1:=((hRU.b.inner i (by have:=hRU.b.len;omega) hi).lt j hj).2
   have h2:U.heap.size≤j:=own_ge ho j e
   omega
  go_wp2_with fail
  go_cut [4] from 18 (fun s4 wc=>s4=.pointer (some ⟨w.heap.size+1+1,0,none⟩)∧∃ l2 v' c' vs' p',p'≤pU+61∧l2.length≤20∧Rdg wc E.heap.size (.slice (some ⟨v',0,none⟩) (1+1) c') ([l]++[l2]) vs'∧PBox wc P (.slice (some ⟨v',0,none⟩) (1+1) c')∧Rdr wc (w.heap.size+1+1) (w.heap.size+1+1) p'∧But (w.heap.size+1+1) E wc)
  case first =>
   refine wp_region_held_drew (S:=fun _=>True) (by kernel_rfl) trivial (fun hH=>?_)
   refine takeD 0 (some 18) (.pointer (some ⟨P,0,none⟩)) hH rfl rfl (by kernel_rfl) (by kernel_rfl) (by kernel_rfl) (fun _ _ _ h=>h) (Or.inl ⟨by rfl,by intro w' hSw;go_simp⟩) ?_
   simp only [Act.put,List.setIfInBounds_toArray,List.set_cons_zero,List.set_cons_succ]
   refine takeD 2 (some 20) (.pointer (some ⟨w.heap.size+1+1,0,none⟩)) hH rfl rfl (by kernel_rfl) (by kernel_rfl) (by kernel_rfl) (fun _ _ _ h=>h) (Or.inl ⟨by rfl,by intro w' hSw;go_simp⟩) ?_
   simp only [Act.put,List.setIfInBounds_toArray,List.set_cons_zero,List.set_cons_succ]
   refine wpAnyH_ready (rs:=[1,3]) (by kernel_rfl) (by simp) ?_
   refine AllReadyH.cons rfl (fun K' hK=>?_) (AllReadyH.cons rfl (fun K' hK=>?_) AllReadyH.nil)
   ·have xx:=hPU.s.c
    rw [if_pos (by rfl)]
    go_simp
    refine hK.out _ _ trivial (fun _=>?_)
    clear hK K' xx
    refine wpAnyH_ready (rs:=[3]) (by kernel_rfl) (by simp) ?_
    refine AllReadyH.cons rfl (fun K' hK=>?_) AllReadyH.nil
    refine step_goV (by rfl) (some 21) rfl 61 #[.tmp 20,.const (.int .i64 2),.const (.int .i64 1)] _ rfl #[.pointer (some ⟨w.heap.size+1+1,0,none⟩),.int .i64 2,.int .i64 1] (by simp [Act.eval]) (fun _ _=>rfl) (l71Thread_any _ _ pU 2 1 U.drew (by omega) (by omega) (by omega) (by omega) (by omega) hrU.drew) ?_
    rintro e u2 ⟨l2,v2,rfl,ho2,hl2,p2,hp2,hr2,hb2⟩
    obtain ⟨a2_,c2_,rfl⟩:=own_slx ho2
    have hb2':But (w.heap.size+1+1) U u2:=(But.refl _ _).drew.trans hb2
    have hP2:=hPU.but hb2' hPne
    have hR2:=hRU.but hb2' (by omega)
    refine ⟨_,rfl,?_⟩
    simp only [Act.put,List.setIfInBounds_toArray,List.set_cons_zero,List.set_cons_succ]
    refine hK.out _ _ trivial (fun _=>?_)
    clear hK K'
    have hP2a:=hP2.below (below1 u2 (.cells #[.slice a2_ l2.length c2_] 53))
    refine wpAnyH_ready (rs:=[4]) (by kernel_rfl) (by simp) ?_
    refine AllReadyH.cons rfl (fun K' hK=>?_) AllReadyH.nil
    rw [if_pos (by rfl)]
    go_simp
    refine hK.out _ _ trivial (fun _=>?_)
    clear hK K'
    refine wpAnyH_ready (rs:=[5]) (by kernel_rfl) (by simp) ?_
    refine AllReadyH.cons rfl (fun K' hK=>?_) AllReadyH.nil
    refine step_append_lies _ (by rfl) (.tmp 19) (.tmp 22) 23 (by rfl) E.heap.size 53 i0 _ 1 24 Tryz.underlying23 hi hz0 hz1 hz2 rfl (by decide) (.slice (some ⟨N,0,none⟩) 1 1) 1 [v] (by rfl) ((hR2.b.outer).alloc _) ⟨u2.heap.size,0,none⟩ 1 1 [.slice a2_ l2.length c2_] (by rfl) (by rfl) (World.news_of_block (cs:=#[.slice a2_ l2.length c2_]) (t:=53) (fr:=(0,0)) (heap_alloc_new u2 _)) (by simp [Value.oneCell']) (by omega) (by unfold maxLen;omega) (by omega) (by have:=hb2'.size;simp;omega) (u2.heap.size+1) (by simp) ?_
    intro g5 cap5 u5 hown5 hg5 hat5 hlt5
    obtain ⟨hR5,hP5,hr5,hb5⟩:=F5.out u2 l2 a2_ c2_ p2 ho2 hr2 hb2' g5 cap5 u5 hown5 hg5
    simp only [Act.put,List.setIfInBounds_toArray,List.set_cons_zero,List.set_cons_succ]
    refine hK.out _ _ trivial (fun hH5=>?_)
    clear hK K'
    refine takeD 6 (some 24) (.pointer (some ⟨P,0,none⟩)) hH5 rfl rfl (by kernel_rfl) (by kernel_rfl) (by kernel_rfl) (fun _ _ _ h=>h) (Or.inl ⟨by rfl,by intro w' hSw;go_simp⟩) ?_
    simp only [Act.put,List.setIfInBounds_toArray,List.set_cons_zero,List.set_cons_succ]
    refine wpAnyH_ready (rs:=[7]) (by kernel_rfl) (by simp) ?_
    refine AllReadyH.cons rfl (fun K' hK=>?_) AllReadyH.nil
    have xc:=hP5.s.c
    have xz:=hP5.s.fz
    rw [if_pos (by rfl)]
    go_simp
    refine hK.out _ _ trivial (fun _=>?_)
    clear hK K'
    refine wpAnyH_done (by kernel_rfl) ?_ _
    clear xc xz
    go_wp2_with fail
    go_meet
    case rel=>exact ⟨rfl,l2,_,_,_,p2,hp2,hl2,hR5.box hP5 _,hP5.set _,hr5.setCell (by omega) (by omega) _,hb5.setCell (Or.inl (by omega)) _⟩
   ·refine step_goV (by rfl) (some 21) rfl 61 #[.tmp 20,.const (.int .i64 2),.const (.int .i64 1)] _ rfl #[.pointer (some ⟨w.heap.size+1+1,0,none⟩),.int .i64 2,.int .i64 1] (by simp [Act.eval]) (fun _ _=>rfl) (l71Thread_any _ _ pU 2 1 U.drew (by omega) (by omega) (by omega) (by omega) (by omega) hrU.drew) ?_
    rintro e u2 ⟨l2,v2,rfl,ho2,hl2,p2,hp2,hr2,hb2⟩
    obtain ⟨a2_,c2_,rfl⟩:=own_slx ho2
    have hb2':But (w.heap.size+1+1) U u2:=(But.refl _ _).drew.trans hb2
    have hP2:=hPU.but hb2' hPne
    have hR2:=hRU.but hb2' (by omega)
    refine ⟨_,rfl,?_⟩
    simp only [Act.put,List.setIfInBounds_toArray,List.set_cons_zero,List.set_cons_succ]
    refine hK.out _ _ trivial (fun _=>?_)
    clear hK K'
    have hP2a:=hP2.below (below1 u2 (.cells #[.slice a2_ l2.length c2_] 53))
    refine wpAnyH_ready (rs:=[1,4]) (by kernel_rfl) (by simp) ?_
    refine AllReadyH.cons rfl (fun K' hK=>?_) (AllReadyH.cons rfl (fun K' hK=>?_) AllReadyH.nil)
    ·have xx:=hP2.s.c
     rw [if_pos (by rfl)]
     go_simp
     refine hK.out _ _ trivial (fun _=>?_)
     clear hK K' xx
     refine wpAnyH_ready (rs:=[4]) (by kernel_rfl) (by simp) ?_
     refine AllReadyH.cons rfl (fun K' hK=>?_) AllReadyH.nil
     rw [if_pos (by rfl)]
     go_simp
     refine hK.out _ _ trivial (fun _=>?_)
     clear hK K'
     refine wpAnyH_ready (rs:=[5]) (by kernel_rfl) (by simp) ?_
     refine AllReadyH.cons rfl (fun K' hK=>?_) AllReadyH.nil
     refine step_append_lies _ (by rfl) (.tmp 19) (.tmp 22) 23 (by rfl) E.heap.size 53 i0 _ 1 24 Tryz.underlying23 hi hz0 hz1 hz2 rfl (by decide) (.slice (some ⟨N,0,none⟩) 1 1) 1 [v] (by rfl) ((hR2.b.outer).alloc _) ⟨u2.heap.size,0,none⟩ 1 1 [.slice a2_ l2.length c2_] (by rfl) (by rfl) (World.news_of_block (cs:=#[.slice a2_ l2.length c2_]) (t:=53) (fr:=(0,0)) (heap_alloc_new u2 _)) (by simp [Value.oneCell']) (by omega) (by unfold maxLen;omega) (by omega) (by have:=hb2'.size;simp;omega) (u2.heap.size+1) (by simp) ?_
     intro g5 cap5 u5 hown5 hg5 hat5 hlt5
     obtain ⟨hR5,hP5,hr5,hb5⟩:=F5.out u2 l2 a2_ c2_ p2 ho2 hr2 hb2' g5 cap5 u5 hown5 hg5
     simp only [Act.put,List.setIfInBounds_toArray,List.set_cons_zero,List.set_cons_succ]
     refine hK.out _ _ trivial (fun hH5=>?_)
     clear hK K'
     refine takeD 6 (some 24) (.pointer (some ⟨P,0,none⟩)) hH5 rfl rfl (by kernel_rfl) (by kernel_rfl) (by kernel_rfl) (fun _ _ _ h=>h) (Or.inl ⟨by rfl,by intro w' hSw;go_simp⟩) ?_
     simp only [Act.put,List.setIfInBounds_toArray,List.set_cons_zero,List.set_cons_succ]
     refine wpAnyH_ready (rs:=[7]) (by kernel_rfl) (by simp) ?_
     refine AllReadyH.cons rfl (fun K' hK=>?_) AllReadyH.nil
     have xc:=hP5.s.c
     have xz:=hP5.s.fz
     rw [if_pos (by rfl)]
     go_simp
     refine hK.out _ _ trivial (fun _=>?_)
     clear hK K'
     refine wpAnyH_done (by kernel_rfl) ?_ _
     clear xc xz
     go_wp2_with fail
     go_meet
     case rel=>exact ⟨rfl,l2,_,_,_,p2,hp2,hl2,hR5.box hP5 _,hP5.set _,hr5.setCell (by omega) (by omega) _,hb5.setCell (Or.inl (by omega)) _⟩
    ·rw [if_pos (by rfl)]
     go_simp
     refine hK.out _ _ trivial (fun _=>?_)
     clear hK K'
     refine wpAnyH_ready (rs:=[1]) (by kernel_rfl) (by simp) ?_
     refine AllReadyH.cons rfl (fun K' hK=>?_) AllReadyH.nil
     have xx:=hP2a.s.c
     rw [if_pos (by rfl)]
     go_simp
     refine hK.out _ _ trivial (fun _=>?_)
     clear hK K' xx
     refine wpAnyH_ready (rs:=[5]) (by kernel_rfl) (by simp) ?_
     refine AllReadyH.cons rfl (fun K' hK=>?_) AllReadyH.nil
     refine step_append_lies _ (by rfl) (.tmp 19) (.tmp 22) 23 (by rfl) E.heap.size 53 i0 _ 1 24 Tryz.underlying23 hi hz0 hz1 hz2 rfl (by decide) (.slice (some ⟨N,0,none⟩) 1 1) 1 [v] (by rfl) ((hR2.b.outer).alloc _) ⟨u2.heap.size,0,none⟩ 1 1 [.slice a2_ l2.length c2_] (by rfl) (by rfl) (World.news_of_block (cs:=#[.slice a2_ l2.length c2_]) (t:=53) (fr:=(0,0)) (heap_alloc_new u2 _)) (by simp [Value.oneCell']) (by omega) (by unfold maxLen;omega) (by omega) (by have:=hb2'.size;simp;omega) (u2.heap.size+1) (by simp) ?_
     intro g5 cap5 u5 hown5 hg5 hat5 hlt5
     obtain ⟨hR5,hP5,hr5,hb5⟩:=F5.out u2 l2 a2_ c2_ p2 ho2 hr2 hb2' g5 cap5 u5 hown5 hg5
     simp only [Act.put,List.setIfInBounds_toArray,List.set_cons_zero,List.set_cons_succ]
     refine hK.out _ _ trivial (fun hH5=>?_)
     clear hK K'
     refine takeD 6 (some 24) (.pointer (some ⟨P,0,none⟩)) hH5 rfl rfl (by kernel_rfl) (by kernel_rfl) (by kernel_rfl) (fun _ _ _ h=>h) (Or.inl ⟨by rfl,by intro w' hSw;go_simp⟩) ?_
     simp only [Act.put,List.setIfInBounds_toArray,List.set_cons_zero,List.set_cons_succ]
     refine wpAnyH_ready (rs:=[7]) (by kernel_rfl) (by simp) ?_
     refine AllReadyH.cons rfl (fun K' hK=>?_) AllReadyH.nil
     have xc:=hP5.s.c
     have xz:=hP5.s.fz
     rw [if_pos (by rfl)]
     go_simp
     refine hK.out _ _ trivial (fun _=>?_)
     clear hK K'
     refine wpAnyH_done (by kernel_rfl) ?_ _
     clear xc xz
     go_wp2_with fail
     go_meet
     case rel=>exact ⟨rfl,l2,_,_,_,p2,hp2,hl2,hR5.box hP5 _,hP5.set _,hr5.setCell (by omega) (by omega) _,hb5.setCell (Or.inl (by omega)) _⟩
  case rest =>
   obtain ⟨rfl,l2,g5,cap5,vs,pF,hpF,hl2,hRF,hPF,hrF,bEF⟩:=hcut
   generalize wc=F at *
   have hmF:([l]++[l2]).length≤2:=by simp
   have hsF:∀ t∈[l]++[l2],t.length≤20:=by
    intro t ht
    simp at ht
    rcases ht with rfl | rfl
    ·exact hl1
    ·exact hl2
   have hpF':pF≤pE+200:=by omega
   clear F5 hRU hPU hrU bEU
   have HEQ:Hid (([l]++[l2]).length=1+1):=rfl
   generalize [l]++[l2]=mm at *
   rw [← HEQ.out] at hRF hPF
   obtain ⟨vF,hvF⟩:∃ vF,Value.slice (some ⟨g5,0,none⟩) mm.length cap5=vF:=⟨_,rfl⟩
   rw [hvF] at hRF hPF
   clear hvF HEQ
   obtain ⟨aP,gP,cP,rfl,snF⟩:=hRF.sn
   clear hRF
   obtain ⟨P1,hP1e⟩:∃ P1,P1=P:=⟨_,rfl⟩
   subst hP1e
   obtain ⟨mp,hmp⟩:∃ mp,mp=mm:=⟨_,rfl⟩
   subst hmp
   have hS:=hS1.but bEF (by omega)
   have hT:=hT1.but bEF (by omega)
   have bwF:=But.below hb1w bEF (by omega)
   have snP:=snF.mono (show w.heap.size+3≤E.heap.size by omega)
   have hP1:=hPF
   have hsP:=hsF
   have hmP:=hmF
   have hP1ge:w.heap.size+3≤P1:=by omega
   have hP1ne:=hPne
   have hsEF:=bEF.size
   obtain ⟨pE2,hpE2⟩:∃ q,q=pF:=⟨_,rfl⟩
   subst hpE2
   have hpE2':pE2≤1200:=by omega
   have hrE2:=hrF
   clear hS1 hT1 hb1w snF hPF hsF hmF hrF bEF hr1 hpE' hpF' hPne hPge hsU hpU'
   obtain ⟨E2,hE2⟩:∃ E2,E2=F:=⟨_,rfl⟩
   subst hE2
   have hsE2:w.heap.size+3≤E2.heap.size:=by omega
   go_wp2_with fail
   refine (l71Thread_any _ _ pE2 3 2 E2 (by omega) (by omega) (by omega) (by omega) (by omega) hrE2).mono ?_
   rintro e u1 ⟨l,v,rfl,ho1,hl1,p1,hp1,hr1,hb1⟩
   obtain ⟨a1_,c1_,rfl⟩:=own_slx ho1
   have hsz1:=hb1.size
   have hRN:=Rdg.lit u1 E2.heap.size (.slice a1_ l.length c1_) l ho1 hsz1
   have bN:=(But.refl (w.heap.size+1+1) u1).alloc (.cells #[.slice a1_ l.length c1_] 53)
   have bP:=bN.alloc (.cells #[.slice (some ⟨u1.heap.size,0,none⟩) 1 1] 25)
   have hRU:=hRN.but ((But.refl (w.heap.size+1+1) _).alloc (.cells #[.slice (some ⟨u1.heap.size,0,none⟩) 1 1] 25)) (by omega)
   have hPU:=PBox.new (u1.alloc (.cells #[.slice a1_ l.length c1_] 53)) (.slice (some ⟨u1.heap.size,0,none⟩) 1 1)
   rw [World.size_alloc] at hPU
   have hrU:=(hr1.alloc (.cells #[.slice a1_ l.length c1_] 53)).alloc (.cells #[.slice (some ⟨u1.heap.size,0,none⟩) 1 1] 25)
   have bEU:=hb1.trans bP
   clear ho1 hr1 hb1 hRN bN bP
   go_wp2_with fail
   generalize (u1.alloc (.cells #[.slice a1_ l.length c1_] 53)).alloc (.cells #[.slice (some ⟨u1.heap.size,0,none⟩) 1 1] 25)=U at *
   obtain ⟨N,hN⟩:∃ N,u1.heap.size=N:=⟨_,rfl⟩
   rw [hN] at hRU hPU hsz1 ⊢
   clear hN
   obtain ⟨P,hPe⟩:∃ P,N+1=P:=⟨_,rfl⟩
   have hPge:E2.heap.size≤P:=by omega
   have hPne:P≠w.heap.size+1+1:=by omega
   rw [hPe] at hPU ⊢
   clear hPe
   generalize Value.slice a1_ l.length c1_=v at *
   refine (pick_rdr _ _ p1 3 U (by omega) (by omega) (by omega) hrU).mono ?_
   rintro e U1 ⟨q,rfl,q0,q1,hrU1,hbU1⟩
   have hRU1:=hRU.but hbU1 (by omega)
   have hPU1:=hPU.but hbU1 hPne
   have bEU1:=bEU.trans hbU1
   clear hRU hPU hrU bEU hbU1
   obtain ⟨U,hU⟩:∃ U,U=U1:=⟨_,rfl⟩
   subst hU
   have hRU:=hRU1
   have hPU:=hPU1
   have hrU:=hrU1
   have bEU:=bEU1
   obtain ⟨pU,hpU⟩:∃ pU,p1+1=pU:=⟨_,rfl⟩
   rw [hpU] at hrU
   have hpU':pU≤pE2+100:=by omega
   clear hRU1 hPU1 hrU1 bEU1 hpU
   have hsU:E2.heap.size≤U.heap.size:=bEU.size
   by_cases hq:q=0
   ·subst hq
    have F5:Hid (∀ (u2:World) (l2:List M.D) (a2_:Option Addr) (c2_ p2:Nat),u2.ownsRow U.drew.heap.size 56 3 (.slice a2_ l2.length c2_) l2.length (flat l2)→Rdr u2 (w.heap.size+1+1) (w.heap.size+1+1) p2→But (w.heap.size+1+1) U u2→∀ (g5 cap5:Nat) (u5:World),u5.ownsRow E2.heap.size 53 1 (.slice (some ⟨g5,0,none⟩) (1+1) cap5) (1+1) ([v]++[.slice a2_ l2.length c2_])→(u2.alloc (.cells #[.slice a2_ l2.length c2_] 53)).grownBy u5 (Value.slice (some ⟨N,0,none⟩) 1 1).ownBlock→Rdg u5 E2.heap.size (.slice (some ⟨g5,0,none⟩) (1+1) cap5) ([l]++[l2]) ([v]++[.slice a2_ l2.length c2_])∧PBox u5 P (.slice (some ⟨N,0,none⟩) 1 1)∧Rdr u5 (w.heap.size+1+1) (w.heap.size+1+1) p2∧But (w.heap.size+1+1) E2 u5):=by
     intro u2 l2 a2_ c2_ p2 ho hr hb g5 cap5 u5 ho5 hg5
     have hal:=below1 u2 (.cells #[.slice a2_ l2.length c2_] 53)
     have hsz2:=hb.size
     have hR2:=(hRU.but hb (by omega)).below hal
     have hge:=own_ge hRU.b.outer
     have hPa:=(hPU.but hb hPne).below hal
     have hne:=hPa.ne hR2.b.outer (by decide)
     refine ⟨hR2.snocT (ownsRow_mono (ownsRow_below ho hal) (by show E2.heap.size≤U.heap.size;omega)) (fun i hi j hj e=>?_) ho5 hg5,hPa.grown hg5 hne,(hr.below hal (Nat.le_refl _)).grown hg5 (fun k hk=>by have:=hge k hk;omega),((bEU.trans hb).alloc _).grown hg5 (fun k hk=>by have:=hge k hk;omega)⟩
     have h1:=((hRU.b.inner i (by have:=hRU.b.len;omega) hi).lt j hj).2
     have h2:U.heap.size≤j:=own_ge ho j e
     omega
    go_wp2_with fail
    go_cut [4] from 32 (fun s4 wc=>s4=.pointer (some ⟨w.heap.size+1+1,0,none⟩)∧∃ l2 v' c' vs' p',p'≤pU+61∧l2.length≤20∧Rdg wc E2.heap.size (.slice (some ⟨v',0,none⟩) (1+1) c') ([l]++[l2]) vs'∧PBox wc P (.slice (some ⟨v',0,none⟩) (1+1) c')∧Rdr wc (w.heap.size+1+1) (w.heap.size+1+1) p'∧But (w.heap.size+1+1) E2 wc)
    case first =>
     refine wp_region_held_drew (S:=fun _=>True) (by kernel_rfl) trivial (fun hH=>?_)
     refine takeD 0 (some 32) (.pointer (some ⟨P,0,none⟩)) hH rfl rfl (by kernel_rfl) (by kernel_rfl) (by kernel_rfl) (fun _ _ _ h=>h) (Or.inl ⟨by rfl,by intro w' hSw;go_simp⟩) ?_
     simp only [Act.put,List.setIfInBounds_toArray,List.set_cons_zero,List.set_cons_succ]
     refine takeD 2 (some 34) (.pointer (some ⟨w.heap.size+1+1,0,none⟩)) hH rfl rfl (by kernel_rfl) (by kernel_rfl) (by kernel_rfl) (fun _ _ _ h=>h) (Or.inl ⟨by rfl,by intro w' hSw;go_simp⟩) ?_
     simp only [Act.put,List.setIfInBounds_toArray,List.set_cons_zero,List.set_cons_succ]
     refine wpAnyH_ready (rs:=[1,3]) (by kernel_rfl) (by simp) ?_
     refine AllReadyH.cons rfl (fun K' hK=>?_) (AllReadyH.cons rfl (fun K' hK=>?_) AllReadyH.nil)
     ·have xx:=hPU.s.c
      rw [if_pos (by rfl)]
      go_simp
      refine hK.out _ _ trivial (fun _=>?_)
      clear hK K' xx
      refine wpAnyH_ready (rs:=[3]) (by kernel_rfl) (by simp) ?_
      refine AllReadyH.cons rfl (fun K' hK=>?_) AllReadyH.nil
      refine step_goV (by rfl) (some 35) rfl 61 #[.tmp 34,.const (.int .i64 2),.const (.int .i64 2)] _ rfl #[.pointer (some ⟨w.heap.size+1+1,0,none⟩),.int .i64 2,.int .i64 2] (by simp [Act.eval]) (fun _ _=>rfl) (l71Thread_any _ _ pU 2 2 U.drew (by omega) (by omega) (by omega) (by omega) (by omega) hrU.drew) ?_
      rintro e u2 ⟨l2,v2,rfl,ho2,hl2,p2,hp2,hr2,hb2⟩
      obtain ⟨a2_,c2_,rfl⟩:=own_slx ho2
      have hb2':But (w.heap.size+1+1) U u2:=(But.refl _ _).drew.trans hb2
      have hP2:=hPU.but hb2' hPne
      have hR2:=hRU.but hb2' (by omega)
      refine ⟨_,rfl,?_⟩
      simp only [Act.put,List.setIfInBounds_toArray,List.set_cons_zero,List.set_cons_succ]
      refine hK.out _ _ trivial (fun _=>?_)
      clear hK K'
      have hP2a:=hP2.below (below1 u2 (.cells #[.slice a2_ l2.length c2_] 53))
      refine wpAnyH_ready (rs:=[4]) (by kernel_rfl) (by simp) ?_
      refine AllReadyH.cons rfl (fun K' hK=>?_) AllReadyH.nil
      rw [if_pos (by rfl)]
      go_simp
      refine hK.out _ _ trivial (fun _=>?_)
      clear hK K'
      refine wpAnyH_ready (rs:=[5]) (by kernel_rfl) (by simp) ?_
      refine AllReadyH.cons rfl (fun K' hK=>?_) AllReadyH.nil
      refine step_append_lies _ (by rfl) (.tmp 33) (.tmp 36) 23 (by rfl) E2.heap.size 53 i0 _ 1 24 Tryz.underlying23 hi hz0 hz1 hz2 rfl (by decide) (.slice (some ⟨N,0,none⟩) 1 1) 1 [v] (by rfl) ((hR2.b.outer).alloc _) ⟨u2.heap.size,0,none⟩ 1 1 [.slice a2_ l2.length c2_] (by rfl) (by rfl) (World.news_of_block (cs:=#[.slice a2_ l2.length c2_]) (t:=53) (fr:=(0,0)) (heap_alloc_new u2 _)) (by simp [Value.oneCell']) (by omega) (by unfold maxLen;omega) (by omega) (by have:=hb2'.size;simp;omega) (u2.heap.size+1) (by simp) ?_
      intro g5 cap5 u5 hown5 hg5 hat5 hlt5
      obtain ⟨hR5,hP5,hr5,hb5⟩:=F5.out u2 l2 a2_ c2_ p2 ho2 hr2 hb2' g5 cap5 u5 hown5 hg5
      simp only [Act.put,List.setIfInBounds_toArray,List.set_cons_zero,List.set_cons_succ]
      refine hK.out _ _ trivial (fun hH5=>?_)
      clear hK K'
      refine takeD 6 (some 38) (.pointer (some ⟨P,0,none⟩)) hH5 rfl rfl (by kernel_rfl) (by kernel_rfl) (by kernel_rfl) (fun _ _ _ h=>h) (Or.inl ⟨by rfl,by intro w' hSw;go_simp⟩) ?_
      simp only [Act.put,List.setIfInBounds_toArray,List.set_cons_zero,List.set_cons_succ]
      refine wpAnyH_ready (rs:=[7]) (by kernel_rfl) (by simp) ?_
      refine AllReadyH.cons rfl (fun K' hK=>?_) AllReadyH.nil
      have xc:=hP5.s.c
      have xz:=hP5.s.fz
      rw [if_pos (by rfl)]
      go_simp
      refine hK.out _ _ trivial (fun _=>?_)
      clear hK K'
      refine wpAnyH_done (by kernel_rfl) ?_ _
      clear xc xz
      go_wp2_with fail
      go_meet
      case rel=>exact ⟨rfl,l2,_,_,_,p2,hp2,hl2,hR5.box hP5 _,hP5.set _,hr5.setCell (by omega) (by omega) _,hb5.setCell (Or.inl (by omega)) _⟩
     ·refine step_goV (by rfl) (some 35) rfl 61 #[.tmp 34,.const (.int .i64 2),.const (.int .i64 2)] _ rfl #[.pointer (some ⟨w.heap.size+1+1,0,none⟩),.int .i64 2,.int .i64 2] (by simp [Act.eval]) (fun _ _=>rfl) (l71Thread_any _ _ pU 2 2 U.drew (by omega) (by omega) (by omega) (by omega) (by omega) hrU.drew) ?_
      rintro e u2 ⟨l2,v2,rfl,ho2,hl2,p2,hp2,hr2,hb2⟩
      obtain ⟨a2_,c2_,rfl⟩:=own_slx ho2
      have hb2':But (w.heap.size+1+1) U u2:=(But.refl _ _).drew.trans hb2
      have hP2:=hPU.but hb2' hPne
      have hR2:=hRU.but hb2' (by omega)
      refine ⟨_,rfl,?_⟩
      simp only [Act.put,List.setIfInBounds_toArray,List.set_cons_zero,List.set_cons_succ]
      refine hK.out _ _ trivial (fun _=>?_)
      clear hK K'
      have hP2a:=hP2.below (below1 u2 (.cells #[.slice a2_ l2.length c2_] 53))
      refine wpAnyH_ready (rs:=[1,4]) (by kernel_rfl) (by simp) ?_
      refine AllReadyH.cons rfl (fun K' hK=>?_) (AllReadyH.cons rfl (fun K' hK=>?_) AllReadyH.nil)
      ·have xx:=hP2.s.c
       rw [if_pos (by rfl)]
       go_simp
       refine hK.out _ _ trivial (fun _=>?_)
       clear hK K' xx
       refine wpAnyH_ready (rs:=[4]) (by kernel_rfl) (by simp) ?_
       refine AllReadyH.cons rfl (fun K' hK=>?_) AllReadyH.nil
       rw [if_pos (by rfl)]
       go_simp
       refine hK.out _ _ trivial (fun _=>?_)
       clear hK K'
       refine wpAnyH_ready (rs:=[5]) (by kernel_rfl) (by simp) ?_
       refine AllReadyH.cons rfl (fun K' hK=>?_) AllReadyH.nil
       refine step_append_lies _ (by rfl) (.tmp 33) (.tmp 36) 23 (by rfl) E2.heap.size 53 i0 _ 1 24 Tryz.underlying23 hi hz0 hz1 hz2 rfl (by decide) (.slice (some ⟨N,0,none⟩) 1 1) 1 [v] (by rfl) ((hR2.b.outer).alloc _) ⟨u2.heap.size,0,none⟩ 1 1 [.slice a2_ l2.length c2_] (by rfl) (by rfl) (World.news_of_block (cs:=#[.slice a2_ l2.length c2_]) (t:=53) (fr:=(0,0)) (heap_alloc_new u2 _)) (by simp [Value.oneCell']) (by omega) (by unfold maxLen;omega) (by omega) (by have:=hb2'.size;simp;omega) (u2.heap.size+1) (by simp) ?_
       intro g5 cap5 u5 hown5 hg5 hat5 hlt5
       obtain ⟨hR5,hP5,hr5,hb5⟩:=F5.out u2 l2 a2_ c2_ p2 ho2 hr2 hb2' g5 cap5 u5 hown5 hg5
       simp only [Act.put,List.setIfInBounds_toArray,List.set_cons_zero,List.set_cons_succ]
       refine hK.out _ _ trivial (fun hH5=>?_)
       clear hK K'
       refine takeD 6 (some 38) (.pointer (some ⟨P,0,none⟩)) hH5 rfl rfl (by kernel_rfl) (by kernel_rfl) (by kernel_rfl) (fun _ _ _ h=>h) (Or.inl ⟨by rfl,by intro w' hSw;go_simp⟩) ?_
       simp only [Act.put,List.setIfInBounds_toArray,List.set_cons_zero,List.set_cons_succ]
       refine wpAnyH_ready (rs:=[7]) (by kernel_rfl) (by simp) ?_
       refine AllReadyH.cons rfl (fun K' hK=>?_) AllReadyH.nil
       have xc:=hP5.s.c
       have xz:=hP5.s.fz
       rw [if_pos (by rfl)]
       go_simp
       refine hK.out _ _ trivial (fun _=>?_)
       clear hK K'
       refine wpAnyH_done (by kernel_rfl) ?_ _
       clear xc xz
       go_wp2_with fail
       go_meet
       case rel=>exact ⟨rfl,l2,_,_,_,p2,hp2,hl2,hR5.box hP5 _,hP5.set _,hr5.setCell (by omega) (by omega) _,hb5.setCell (Or.inl (by omega)) _⟩
      ·rw [if_pos (by rfl)]
       go_simp
       refine hK.out _ _ trivial (fun _=>?_)
       clear hK K'
       refine wpAnyH_ready (rs:=[1]) (by kernel_rfl) (by simp) ?_
       refine AllReadyH.cons rfl (fun K' hK=>?_) AllReadyH.nil
       have xx:=hP2a.s.c
       rw [if_pos (by rfl)]
       go_simp
       refine hK.out _ _ trivial (fun _=>?_)
       clear hK K' xx
       refine wpAnyH_ready (rs:=[5]) (by kernel_rfl) (by simp) ?_
       refine AllReadyH.cons rfl (fun K' hK=>?_) AllReadyH.nil
       refine step_append_lies _ (by rfl) (.tmp 33) (.tmp 36) 23 (by rfl) E2.heap.size 53 i0 _ 1 24 Tryz.underlying23 hi hz0 hz1 hz2 rfl (by decide) (.slice (some ⟨N,0,none⟩) 1 1) 1 [v] (by rfl) ((hR2.b.outer).alloc _) ⟨u2.heap.size,0,none⟩ 1 1 [.slice a2_ l2.length c2_] (by rfl) (by rfl) (World.news_of_block (cs:=#[.slice a2_ l2.length c2_]) (t:=53) (fr:=(0,0)) (heap_alloc_new u2 _)) (by simp [Value.oneCell']) (by omega) (by unfold maxLen;omega) (by omega) (by have:=hb2'.size;simp;omega) (u2.heap.size+1) (by simp) ?_
       intro g5 cap5 u5 hown5 hg5 hat5 hlt5
       obtain ⟨hR5,hP5,hr5,hb5⟩:=F5.out u2 l2 a2_ c2_ p2 ho2 hr2 hb2' g5 cap5 u5 hown5 hg5
       simp only [Act.put,List.setIfInBounds_toArray,List.set_cons_zero,List.set_cons_succ]
       refine hK.out _ _ trivial (fun hH5=>?_)
       clear hK K'
       refine takeD 6 (some 38) (.pointer (some ⟨P,0,none⟩)) hH5 rfl rfl (by kernel_rfl) (by kernel_rfl) (by kernel_rfl) (fun _ _ _ h=>h) (Or.inl ⟨by rfl,by intro w' hSw;go_simp⟩) ?_
       simp only [Act.put,List.setIfInBounds_toArray,List.set_cons_zero,List.set_cons_succ]
       refine wpAnyH_ready (rs:=[7]) (by kernel_rfl) (by simp) ?_
       refine AllReadyH.cons rfl (fun K' hK=>?_) AllReadyH.nil
       have xc:=hP5.s.c
       have xz:=hP5.s.fz
       rw [if_pos (by rfl)]
       go_simp
       refine hK.out _ _ trivial (fun _=>?_)
       clear hK K'
       refine wpAnyH_done (by kernel_rfl) ?_ _
       clear xc xz
       go_wp2_with fail
       go_meet
       case rel=>exact ⟨rfl,l2,_,_,_,p2,hp2,hl2,hR5.box hP5 _,hP5.set _,hr5.setCell (by omega) (by omega) _,hb5.setCell (Or.inl (by omega)) _⟩
    case rest =>
     obtain ⟨rfl,l2,g5,cap5,vs,pF,hpF,hl2,hRF,hPF,hrF,bEF⟩:=hcut
     generalize wc=F at *
     have hmF:([l]++[l2]).length≤2:=by simp
     have hsF:∀ t∈[l]++[l2],t.length≤20:=by
      intro t ht
      simp at ht
      rcases ht with rfl | rfl
      ·exact hl1
      ·exact hl2
     have hpF':pF≤pE2+200:=by omega
     clear F5 hRU hPU hrU bEU
     have HEQ:Hid (([l]++[l2]).length=1+1):=rfl
     generalize [l]++[l2]=mm at *
     rw [← HEQ.out] at hRF hPF
     obtain ⟨vF,hvF⟩:∃ vF,Value.slice (some ⟨g5,0,none⟩) mm.length cap5=vF:=⟨_,rfl⟩
     rw [hvF] at hRF hPF
     clear hvF HEQ
     obtain ⟨av,gv0,cv,rfl,_⟩:=hRF.b.ss
     obtain ⟨Q,hQe⟩:∃ Q,Q=P:=⟨_,rfl⟩
     subst hQe
     go_wp2_with fail
     refine (pick_rdr _ _ pF 6 F (by omega) (by omega) (by omega) hrF).mono ?_
     rintro e G ⟨u,rfl,u0,u1,hrG,hbG⟩
     have hRG:=hRF.but hbG (by omega)
     have hQG:=hPF.but hbG (by omega)
     have bEG:=bEF.trans hbG
     have hmS:=hsF
     have hsQ:E2.heap.size≤Q:=by omega
     clear hRF hPF bEF hbG hrG hrF hsF
     by_cases hu:0 < u
     ·have hu0:(0:Int) < u:=by omega
      go_wp2_with fail
      go_loopw [7] (fun s7 wr=>∃ n:Nat,s7=.int .i64 n∧n≤mm.length∧Rdg wr E2.heap.size (.slice av mm.length cv) (M.cur M.incF n 0 mm) vs∧PBox wr Q (.slice av mm.length cv)∧But (w.heap.size+1+1) E2 wr) (fun s7 _=>mm.length - (intOf s7).toNat)
      case atStart=>exact ⟨0,rfl,Nat.zero_le _,by rw [M.cur_zero];exact hRG,hQG,bEG⟩
      case round =>
       clear hRG hQG bEG
       obtain ⟨n,rfl,hn,hR,hQ,bE1⟩:=hrel
       have xq:=hQ.s.c
       by_cases hlt:n < mm.length
       ·have hR':=hR
        rw [← M.cur_len M.incF n 0 mm] at hR'
        obtain ⟨gv,rfl,hv,hc⟩:=hR'.outer_at (n:=n) (by rw [M.cur_len];exact hlt)
        obtain ⟨a',c',e1,hin⟩:=hR.cur_at hlt hv
        have i1:(n:Int) < mm.length:=by omega
        have hmm3:mm.length≤3:=by omega
        have HO:Hid (∀ (k:Nat) (W:World),Rdg W E2.heap.size (.slice (some ⟨gv,0,none⟩) mm.length cv) (M.cur M.incF n k mm) vs→W.cell? ⟨gv,n,none⟩=some (.slice a' mm[n].length c')):=by
         intro k W hr
         have hr':=hr
         rw [← M.cur_len M.incF n k mm] at hr'
         obtain ⟨gv2,e2,hv2,hc2⟩:=hr'.outer_at (n:=n) (by rw [M.cur_len];exact hlt)
         obtain rfl:gv=gv2:=by simpa using e2
         rw [hc2,e1]
        have HS:Hid (∀ (k g:Nat) (W W':World) (hk:k < mm[n].length),a'=some ⟨g,0,none⟩→Rdg W E2.heap.size (.slice (some ⟨gv,0,none⟩) mm.length cv) (M.cur M.incF n k mm) vs→Chg W W' g (k * 3) mm[n][k] (M.incF mm[n][k])→Rdg W' E2.heap.size (.slice (some ⟨gv,0,none⟩) mm.length cv) (M.cur M.incF n (k+1) mm) vs∧W.grownBy W' (some g)∧E2.heap.size≤g):=by
         intro k g W W' hk ha hr hch
         subst ha
         exact hr.step hlt hk hv e1 hch
        have HA:Hid (∀ (k:Nat) (W:World),Rdg W E2.heap.size (.slice (some ⟨gv,0,none⟩) mm.length cv) (M.cur M.incF n k mm) vs→∀ hk:k < mm[n].length,∃ g,a'=some ⟨g,0,none⟩∧E2.heap.size≤g∧DoAt W g (k * 3) mm[n][k]∧∀ i,W.frozen? ⟨g,i,none⟩=false):=by
         intro k W hr hk
         obtain ⟨a2,c2,e2,h2⟩:=hr.cur_at hlt hv
         rw [e1] at e2
         obtain ⟨rfl,_,rfl⟩:=Value.slice.inj e2
         exact h2 hk
        have HQN:Hid (∀ (k g:Nat) (W:World),a'=some ⟨g,0,none⟩→Rdg W E2.heap.size (.slice (some ⟨gv,0,none⟩) mm.length cv) (M.cur M.incF n k mm) vs→PBox W Q (.slice (some ⟨gv,0,none⟩) mm.length cv)→g≠Q∧g≠gv):=by
         intro k g W ha hr hq
         subst ha
         have hi:=hr.b.inner n (by rw [M.cur_len];exact hlt) hv
         refine ⟨fun e=>?_,fun e=>?_⟩
         ·exact hq.ne hi (by decide) (by rw [e1,e];rfl)
         ·rcases own_apart hi hr.b.outer (by decide) with e2 | e2
          ·rw [e1] at e2;simp [Value.ownBlock] at e2
          ·rw [e1] at e2;simp [Value.ownBlock] at e2;exact e2 e
        have HN:Hid (∀ k,mm[n].length≤k→M.cur M.incF n k mm=M.cur M.incF (n+1) 0 mm):=fun k hk=>M.cur_next M.incF n k mm hlt hk
        have ht20:=hmS _ (List.getElem_mem hlt)
        clear hin e1 hR' hc
        generalize mm[n]=t at *
        go_wp2_with fail
        clear xq
        go_loopw [8] (fun s8 wi=>∃ k:Nat,s8=.int .i64 k∧k≤t.length∧Rdg wi E2.heap.size (.slice (some ⟨gv,0,none⟩) mm.length cv) (M.cur M.incF n k mm) vs∧PBox wi Q (.slice (some ⟨gv,0,none⟩) mm.length cv)∧But (w.heap.size+1+1) E2 wi) (fun s8 _=>t.length - (intOf s8).toNat)
        case atStart=>exact ⟨0,rfl,Nat.zero_le _,hR,hQ,bE1⟩
        case round =>
         clear hR hQ bE1
         obtain ⟨k,rfl,hk,hR,hQ,bE1⟩:=hrel
         have xq:=hQ.s.c
         have xo:=HO.out k _ hR
         have lQ:=hQ.s.lt
         have lo:gv < wr.heap.size:=World.block_lt_of_cell? _ _ xo
         by_cases hkt:k < t.length
         ·obtain ⟨g,rfl,hg,hd,hf⟩:=HA.out k _ hR hkt
          obtain ⟨hgQ,hggv⟩:=HQN.out k g _ rfl hR hQ
          have j1:(k:Int) < t.length:=by omega
          have HS1:Hid (∀ W W',Rdg W E2.heap.size (.slice (some ⟨gv,0,none⟩) mm.length cv) (M.cur M.incF n k mm) vs→Chg W W' g (k * 3) t[k] (M.incF t[k])→Rdg W' E2.heap.size (.slice (some ⟨gv,0,none⟩) mm.length cv) (M.cur M.incF n (k+1) mm) vs∧W.grownBy W' (some g)∧E2.heap.size≤g):=fun W W' hr hch=>HS.out k g W W' hkt rfl hr hch
          generalize t[k]=dd at *
          obtain ⟨kk,pp,vv⟩:=dd
          obtain ⟨ck,cp,cv'⟩:=hd
          have lg:g < wr.heap.size:=World.block_lt_of_cell? _ _ ck
          have hRD:M.uses kk=(M.reads kk||M.writes kk):=rfl
          cases hu1:M.reads kk
          ·cases hu2:M.writes kk
           ·have hu:M.uses kk=false:=by rw [hRD,hu1,hu2];rfl
            have r:=HS1.out wr wr hR ⟨0,Or.inl ⟨rfl,by unfold M.incF;rw [show M.uses (M.D.mk kk pp vv).k=false from hu];rfl⟩⟩
            clear HS1 hRD hu
            go_wp2_with (first | (go_at_call 34;refine (l1Reads_any ⟨_,_,_⟩ _).mono ?_;rw [hu1];rintro e W5 ⟨rfl,rfl⟩) | (go_at_call 35;refine (l1Writes_any ⟨_,_,_⟩ _).mono ?_;rw [hu2];rintro e W6 ⟨rfl,rfl⟩))
            exact ⟨⟨k+1,by go_num,by omega,r.1.below (below2 _ _ _),hQ.below (below2 _ _ _),(bE1.alloc _).alloc _⟩,by simp [intOf];omega⟩
           ·have hu:M.uses kk=true:=by rw [hRD,hu1,hu2];rfl
            clear hRD
            go_wp2_with (first | (go_at_call 34;refine (l1Reads_any ⟨_,_,_⟩ _).mono ?_;rw [hu1];rintro e W5 ⟨rfl,rfl⟩) | (go_at_call 35;refine (l1Writes_any ⟨_,_,_⟩ _).mono ?_;rw [hu2];rintro e W6 ⟨rfl,rfl⟩))
            have b5:=below2 wr (.cells #[.int .i64 kk,.int .i64 pp,.int .i64 vv] 56) (.cells #[.int .i64 kk,.int .i64 pp,.int .i64 vv] 56)
            have bE5:=(bE1.alloc (.cells #[.int .i64 kk,.int .i64 pp,.int .i64 vv] 56)).alloc (.cells #[.int .i64 kk,.int .i64 pp,.int .i64 vv] 56)
            generalize (wr.alloc (.cells #[.int .i64 kk,.int .i64 pp,.int .i64 vv] 56)).alloc (.cells #[.int .i64 kk,.int .i64 pp,.int .i64 vv] 56)=W5 at *
            have hR5:=hR.below b5
            have hQ5:=hQ.below b5
            have q5:=hQ5.s.c
            have o5:=(b5.cell (p:=⟨gv,n,none⟩) lo).trans xo
            have p5:=(b5.cell (p:=⟨g,k * 3+1,none⟩) lg).trans cp
            have f5:∀ i,W5.frozen? ⟨g,i,none⟩=false:=fun i=>(b5.frozen (p:=⟨g,i,none⟩) lg).trans (hf i)
            have r:=HS1.out W5 ((W5.setCell ⟨g,k * 3+1,none⟩ (.int .i64 (wrap64 (pp+1)))).drew) hR5 ⟨1,Or.inr (Or.inr (Or.inl ⟨by unfold M.incF;rw [if_pos (show M.uses (M.D.mk kk pp vv).k=true from hu)];rfl,by unfold M.incF;rw [if_pos (show M.uses (M.D.mk kk pp vv).k=true from hu)],by unfold M.incF;rw [if_pos (show M.uses (M.D.mk kk pp vv).k=true from hu)]⟩))⟩
            have hQ6:=hQ5.grown r.2.1 (fun e=>hgQ (Option.some.inj e))
            have bE6:=bE5.grown r.2.1 (fun j hj=>by have:g=j:=Option.some.inj hj;omega)
            obtain ⟨r1,_,_⟩:=r
            clear xq xo ck cp cv' HS1 hR hQ bE1 hf lo lg lQ
            refine wp_region_held_drew (S:=fun w'=>w'.cell? ⟨Q,0,none⟩=some (.slice (some ⟨gv,0,none⟩) mm.length cv)∧w'.cell? ⟨gv,n,none⟩=some (.slice (some ⟨g,0,none⟩) t.length c')) (by kernel_rfl) (by exact ⟨q5,o5⟩) (fun hH=>?_)
            refine takeD 0 (some 79) (.pointer (some ⟨Q,0,none⟩)) hH rfl rfl (by kernel_rfl) (by kernel_rfl) (by kernel_rfl) (fun _ _ _ h=>h) (Or.inl ⟨by rfl,by intro w' hSw;go_simp⟩) ?_
            simp only [Act.put,List.setIfInBounds_toArray,List.set_cons_zero,List.set_cons_succ]
            refine takeD 1 (some 80) (.slice (some ⟨gv,0,none⟩) mm.length cv) hH rfl rfl (by kernel_rfl) (by kernel_rfl) (by kernel_rfl) (fun _ _ _ h=>h) (Or.inl ⟨by rfl,by intro w' hSw;have hc:=hSw.1;go_simp⟩) ?_
            simp only [Act.put,List.setIfInBounds_toArray,List.set_cons_zero,List.set_cons_succ]
            refine takeD 2 (some 81) (.int .i64 n) hH rfl rfl (by kernel_rfl) (by kernel_rfl) (by kernel_rfl) (fun _ _ _ h=>h) (Or.inl ⟨by rfl,by intro w' hSw;go_simp⟩) ?_
            simp only [Act.put,List.setIfInBounds_toArray,List.set_cons_zero,List.set_cons_succ]
            refine takeD 3 (some 82) (.pointer (some ⟨gv,n,none⟩)) hH rfl rfl (by kernel_rfl) (by kernel_rfl) (by kernel_rfl) (fun _ _ _ h=>h) (Or.inl ⟨by rfl,by intro w' hSw;go_simp⟩) ?_
            simp only [Act.put,List.setIfInBounds_toArray,List.set_cons_zero,List.set_cons_succ]
            refine takeD 4 (some 83) (.slice (some ⟨g,0,none⟩) t.length c') hH rfl rfl (by kernel_rfl) (by kernel_rfl) (by kernel_rfl) (fun _ _ _ h=>h) (Or.inl ⟨by rfl,by intro w' hSw;have hc:=hSw.2;go_simp⟩) ?_
            simp only [Act.put,List.setIfInBounds_toArray,List.set_cons_zero,List.set_cons_succ]
            refine takeD 5 (some 84) (.int .i64 k) hH rfl rfl (by kernel_rfl) (by kernel_rfl) (by kernel_rfl) (fun _ _ _ h=>h) (Or.inl ⟨by rfl,by intro w' hSw;go_simp⟩) ?_
            simp only [Act.put,List.setIfInBounds_toArray,List.set_cons_zero,List.set_cons_succ]
            refine takeD 6 (some 85) (.pointer (some ⟨Q,0,none⟩)) hH rfl rfl (by kernel_rfl) (by kernel_rfl) (by kernel_rfl) (fun _ _ _ h=>h) (Or.inl ⟨by rfl,by intro w' hSw;go_simp⟩) ?_
            simp only [Act.put,List.setIfInBounds_toArray,List.set_cons_zero,List.set_cons_succ]
            refine takeD 7 (some 86) (.slice (some ⟨gv,0,none⟩) mm.length cv) hH rfl rfl (by kernel_rfl) (by kernel_rfl) (by kernel_rfl) (fun _ _ _ h=>h) (Or.inl ⟨by rfl,by intro w' hSw;have hc:=hSw.1;go_simp⟩) ?_
            simp only [Act.put,List.setIfInBounds_toArray,List.set_cons_zero,List.set_cons_succ]
            refine takeD 8 (some 87) (.int .i64 n) hH rfl rfl (by kernel_rfl) (by kernel_rfl) (by kernel_rfl) (fun _ _ _ h=>h) (Or.inl ⟨by rfl,by intro w' hSw;go_simp⟩) ?_
            simp only [Act.put,List.setIfInBounds_toArray,List.set_cons_zero,List.set_cons_succ]
            refine takeD 9 (some 88) (.pointer (some ⟨gv,n,none⟩)) hH rfl rfl (by kernel_rfl) (by kernel_rfl) (by kernel_rfl) (fun _ _ _ h=>h) (Or.inl ⟨by rfl,by intro w' hSw;go_simp⟩) ?_
            simp only [Act.put,List.setIfInBounds_toArray,List.set_cons_zero,List.set_cons_succ]
            refine takeD 10 (some 89) (.slice (some ⟨g,0,none⟩) t.length c') hH rfl rfl (by kernel_rfl) (by kernel_rfl) (by kernel_rfl) (fun _ _ _ h=>h) (Or.inl ⟨by rfl,by intro w' hSw;have hc:=hSw.2;go_simp⟩) ?_
            simp only [Act.put,List.setIfInBounds_toArray,List.set_cons_zero,List.set_cons_succ]
            refine takeD 11 (some 90) (.int .i64 k) hH rfl rfl (by kernel_rfl) (by kernel_rfl) (by kernel_rfl) (fun _ _ _ h=>h) (Or.inl ⟨by rfl,by intro w' hSw;go_simp⟩) ?_
            simp only [Act.put,List.setIfInBounds_toArray,List.set_cons_zero,List.set_cons_succ]
            refine takeD 12 (some 91) (.pointer (some ⟨g,k * 3,none⟩)) hH rfl rfl (by kernel_rfl) (by kernel_rfl) (by kernel_rfl) (fun _ _ _ h=>h) (Or.inl ⟨by rfl,by intro w' hSw;go_simp⟩) ?_
            simp only [Act.put,List.setIfInBounds_toArray,List.set_cons_zero,List.set_cons_succ]
            refine takeD 13 (some 92) (.pointer (some ⟨g,k * 3+1,none⟩)) hH rfl rfl (by kernel_rfl) (by kernel_rfl) (by kernel_rfl) (fun _ _ _ h=>h) (Or.inl ⟨by rfl,by intro w' hSw;go_simp⟩) ?_
            simp only [Act.put,List.setIfInBounds_toArray,List.set_cons_zero,List.set_cons_succ]
            refine wpAnyH_ready (rs:=[14]) (by kernel_rfl) (by simp) ?_
            refine AllReadyH.cons rfl (fun K' hK=>?_) AllReadyH.nil
            have xx:=p5
            rw [if_pos (by rfl)]
            go_simp
            refine hK.out _ _ hH (fun _=>?_)
            clear hK K' xx
            refine takeD 15 (some 94) (.int .i64 (wrap64 (pp+1))) hH rfl rfl (by kernel_rfl) (by kernel_rfl) (by kernel_rfl) (fun _ _ _ h=>h) (Or.inl ⟨by rfl,by intro w' hSw;go_simp;exact wrap_eq64 _⟩) ?_
            simp only [Act.put,List.setIfInBounds_toArray,List.set_cons_zero,List.set_cons_succ]
            refine takeD 16 (some 95) (.pointer (some ⟨g,k * 3,none⟩)) hH rfl rfl (by kernel_rfl) (by kernel_rfl) (by kernel_rfl) (fun _ _ _ h=>h) (Or.inl ⟨by rfl,by intro w' hSw;go_simp⟩) ?_
            simp only [Act.put,List.setIfInBounds_toArray,List.set_cons_zero,List.set_cons_succ]
            refine takeD 17 (some 96) (.pointer (some ⟨g,k * 3+1,none⟩)) hH rfl rfl (by kernel_rfl) (by kernel_rfl) (by kernel_rfl) (fun _ _ _ h=>h) (Or.inl ⟨by rfl,by intro w' hSw;go_simp⟩) ?_
            simp only [Act.put,List.setIfInBounds_toArray,List.set_cons_zero,List.set_cons_succ]
            refine wpAnyH_ready (rs:=[18]) (by kernel_rfl) (by simp) ?_
            refine AllReadyH.cons rfl (fun K' hK=>?_) AllReadyH.nil
            have xc:=p5
            have xz:=f5 (k * 3+1)
            rw [if_pos (by rfl)]
            go_simp
            refine hK.out _ _ ⟨(World.cell?_setCell_other _ _ _ _ (fun e=>hgQ (congrArg Addr.block e))).trans hH.1,(World.cell?_setCell_other _ _ _ _ (fun e=>hggv (congrArg Addr.block e))).trans hH.2⟩ (fun _=>?_)
            clear hK K'
            refine wpAnyH_done (by kernel_rfl) ?_ _
            clear xc xz
            go_wp2_with fail
            exact ⟨⟨k+1,by go_num,by omega,r1,hQ6,bE6⟩,by simp [intOf];omega⟩
          ·have hu:M.uses kk=true:=by rw [hRD,hu1];rfl
           clear hRD
           go_wp2_with (first | (go_at_call 34;refine (l1Reads_any ⟨_,_,_⟩ _).mono ?_;rw [hu1];rintro e W5 ⟨rfl,rfl⟩))
           have b5:=below1 wr (.cells #[.int .i64 kk,.int .i64 pp,.int .i64 vv] 56)
           have bE5:=bE1.alloc (.cells #[.int .i64 kk,.int .i64 pp,.int .i64 vv] 56)
           generalize wr.alloc (.cells #[.int .i64 kk,.int .i64 pp,.int .i64 vv] 56)=W5 at *
           have hR5:=hR.below b5
           have hQ5:=hQ.below b5
           have q5:=hQ5.s.c
           have o5:=(b5.cell (p:=⟨gv,n,none⟩) lo).trans xo
           have p5:=(b5.cell (p:=⟨g,k * 3+1,none⟩) lg).trans cp
           have f5:∀ i,W5.frozen? ⟨g,i,none⟩=false:=fun i=>(b5.frozen (p:=⟨g,i,none⟩) lg).trans (hf i)
           have r:=HS1.out W5 ((W5.setCell ⟨g,k * 3+1,none⟩ (.int .i64 (wrap64 (pp+1)))).drew) hR5 ⟨1,Or.inr (Or.inr (Or.inl ⟨by unfold M.incF;rw [if_pos (show M.uses (M.D.mk kk pp vv).k=true from hu)];rfl,by unfold M.incF;rw [if_pos (show M.uses (M.D.mk kk pp vv).k=true from hu)],by unfold M.incF;rw [if_pos (show M.uses (M.D.mk kk pp vv).k=true from hu)]⟩))⟩
           have hQ6:=hQ5.grown r.2.1 (fun e=>hgQ (Option.some.inj e))
           have bE6:=bE5.grown r.2.1 (fun j hj=>by have:g=j:=Option.some.inj hj;omega)
           obtain ⟨r1,_,_⟩:=r
           clear xq xo ck cp cv' HS1 hR hQ bE1 hf lo lg lQ
           refine wp_region_held_drew (S:=fun w'=>w'.cell? ⟨Q,0,none⟩=some (.slice (some ⟨gv,0,none⟩) mm.length cv)∧w'.cell? ⟨gv,n,none⟩=some (.slice (some ⟨g,0,none⟩) t.length c')) (by kernel_rfl) (by exact ⟨q5,o5⟩) (fun hH=>?_)
           refine takeD 0 (some 79) (.pointer (some ⟨Q,0,none⟩)) hH rfl rfl (by kernel_rfl) (by kernel_rfl) (by kernel_rfl) (fun _ _ _ h=>h) (Or.inl ⟨by rfl,by intro w' hSw;go_simp⟩) ?_
           simp only [Act.put,List.setIfInBounds_toArray,List.set_cons_zero,List.set_cons_succ]
           refine takeD 1 (some 80) (.slice (some ⟨gv,0,none⟩) mm.length cv) hH rfl rfl (by kernel_rfl) (by kernel_rfl) (by kernel_rfl) (fun _ _ _ h=>h) (Or.inl ⟨by rfl,by intro w' hSw;have hc:=hSw.1;go_simp⟩) ?_
           simp only [Act.put,List.setIfInBounds_toArray,List.set_cons_zero,List.set_cons_succ]
           refine takeD 2 (some 81) (.int .i64 n) hH rfl rfl (by kernel_rfl) (by kernel_rfl) (by kernel_rfl) (fun _ _ _ h=>h) (Or.inl ⟨by rfl,by intro w' hSw;go_simp⟩) ?_
           simp only [Act.put,List.setIfInBounds_toArray,List.set_cons_zero,List.set_cons_succ]
           refine takeD 3 (some 82) (.pointer (some ⟨gv,n,none⟩)) hH rfl rfl (by kernel_rfl) (by kernel_rfl) (by kernel_rfl) (fun _ _ _ h=>h) (Or.inl ⟨by rfl,by intro w' hSw;go_simp⟩) ?_
           simp only [Act.put,List.setIfInBounds_toArray,List.set_cons_zero,List.set_cons_succ]
           refine takeD 4 (some 83) (.slice (some ⟨g,0,none⟩) t.length c') hH rfl rfl (by kernel_rfl) (by kernel_rfl) (by kernel_rfl) (fun _ _ _ h=>h) (Or.inl ⟨by rfl,by intro w' hSw;have hc:=hSw.2;go_simp⟩) ?_
           simp only [Act.put,List.setIfInBounds_toArray,List.set_cons_zero,List.set_cons_succ]
           refine takeD 5 (some 84) (.int .i64 k) hH rfl rfl (by kernel_rfl) (by kernel_rfl) (by kernel_rfl) (fun _ _ _ h=>h) (Or.inl ⟨by rfl,by intro w' hSw;go_simp⟩) ?_
           simp only [Act.put,List.setIfInBounds_toArray,List.set_cons_zero,List.set_cons_succ]
           refine takeD 6 (some 85) (.pointer (some ⟨Q,0,none⟩)) hH rfl rfl (by kernel_rfl) (by kernel_rfl) (by kernel_rfl) (fun _ _ _ h=>h) (Or.inl ⟨by rfl,by intro w' hSw;go_simp⟩) ?_
           simp only [Act.put,List.setIfInBounds_toArray,List.set_cons_zero,List.set_cons_succ]
           refine takeD 7 (some 86) (.slice (some ⟨gv,0,none⟩) mm.length cv) hH rfl rfl (by kernel_rfl) (by kernel_rfl) (by kernel_rfl) (fun _ _ _ h=>h) (Or.inl ⟨by rfl,by intro w' hSw;have hc:=hSw.1;go_simp⟩) ?_
           simp only [Act.put,List.setIfInBounds_toArray,List.set_cons_zero,List.set_cons_succ]
           refine takeD 8 (some 87) (.int .i64 n) hH rfl rfl (by kernel_rfl) (by kernel_rfl) (by kernel_rfl) (fun _ _ _ h=>h) (Or.inl ⟨by rfl,by intro w' hSw;go_simp⟩) ?_
           simp only [Act.put,List.setIfInBounds_toArray,List.set_cons_zero,List.set_cons_succ]
           refine takeD 9 (some 88) (.pointer (some ⟨gv,n,none⟩)) hH rfl rfl (by kernel_rfl) (by kernel_rfl) (by kernel_rfl) (fun _ _ _ h=>h) (Or.inl ⟨by rfl,by intro w' hSw;go_simp⟩) ?_
           simp only [Act.put,List.setIfInBounds_toArray,List.set_cons_zero,List.set_cons_succ]
           refine takeD 10 (some 89) (.slice (some ⟨g,0,none⟩) t.length c') hH rfl rfl (by kernel_rfl) (by kernel_rfl) (by kernel_rfl) (fun _ _ _ h=>h) (Or.inl ⟨by rfl,by intro w' hSw;have hc:=hSw.2;go_simp⟩) ?_
           simp only [Act.put,List.setIfInBounds_toArray,List.set_cons_zero,List.set_cons_succ]
           refine takeD 11 (some 90) (.int .i64 k) hH rfl rfl (by kernel_rfl) (by kernel_rfl) (by kernel_rfl) (fun _ _ _ h=>h) (Or.inl ⟨by rfl,by intro w' hSw;go_simp⟩) ?_
           simp only [Act.put,List.setIfInBounds_toArray,List.set_cons_zero,List.set_cons_succ]
           refine takeD 12 (some 91) (.pointer (some ⟨g,k * 3,none⟩)) hH rfl rfl (by kernel_rfl) (by kernel_rfl) (by kernel_rfl) (fun _ _ _ h=>h) (Or.inl ⟨by rfl,by intro w' hSw;go_simp⟩) ?_
           simp only [Act.put,List.setIfInBounds_toArray,List.set_cons_zero,List.set_cons_succ]
           refine takeD 13 (some 92) (.pointer (some ⟨g,k * 3+1,none⟩)) hH rfl rfl (by kernel_rfl) (by kernel_rfl) (by kernel_rfl) (fun _ _ _ h=>h) (Or.inl ⟨by rfl,by intro w' hSw;go_simp⟩) ?_
           simp only [Act.put,List.setIfInBounds_toArray,List.set_cons_zero,List.set_cons_succ]
           refine wpAnyH_ready (rs:=[14]) (by kernel_rfl) (by simp) ?_
           refine AllReadyH.cons rfl (fun K' hK=>?_) AllReadyH.nil
           have xx:=p5
           rw [if_pos (by rfl)]
           go_simp
           refine hK.out _ _ hH (fun _=>?_)
           clear hK K' xx
           refine takeD 15 (some 94) (.int .i64 (wrap64 (pp+1))) hH rfl rfl (by kernel_rfl) (by kernel_rfl) (by kernel_rfl) (fun _ _ _ h=>h) (Or.inl ⟨by rfl,by intro w' hSw;go_simp;exact wrap_eq64 _⟩) ?_
           simp only [Act.put,List.setIfInBounds_toArray,List.set_cons_zero,List.set_cons_succ]
           refine takeD 16 (some 95) (.pointer (some ⟨g,k * 3,none⟩)) hH rfl rfl (by kernel_rfl) (by kernel_rfl) (by kernel_rfl) (fun _ _ _ h=>h) (Or.inl ⟨by rfl,by intro w' hSw;go_simp⟩) ?_
           simp only [Act.put,List.setIfInBounds_toArray,List.set_cons_zero,List.set_cons_succ]
           refine takeD 17 (some 96) (.pointer (some ⟨g,k * 3+1,none⟩)) hH rfl rfl (by kernel_rfl) (by kernel_rfl) (by kernel_rfl) (fun _ _ _ h=>h) (Or.inl ⟨by rfl,by intro w' hSw;go_simp⟩) ?_
           simp only [Act.put,List.setIfInBounds_toArray,List.set_cons_zero,List.set_cons_succ]
           refine wpAnyH_ready (rs:=[18]) (by kernel_rfl) (by simp) ?_
           refine AllReadyH.cons rfl (fun K' hK=>?_) AllReadyH.nil
           have xc:=p5
           have xz:=f5 (k * 3+1)
           rw [if_pos (by rfl)]
           go_simp
           refine hK.out _ _ ⟨(World.cell?_setCell_other _ _ _ _ (fun e=>hgQ (congrArg Addr.block e))).trans hH.1,(World.cell?_setCell_other _ _ _ _ (fun e=>hggv (congrArg Addr.block e))).trans hH.2⟩ (fun _=>?_)
           clear hK K'
           refine wpAnyH_done (by kernel_rfl) ?_ _
           clear xc xz
           go_wp2_with fail
           exact ⟨⟨k+1,by go_num,by omega,r1,hQ6,bE6⟩,by simp [intOf];omega⟩
         ·have j1:¬ (k:Int) < t.length:=by omega
          rw [HN.out k (by omega)] at hR
          go_wp2_with fail
          exact ⟨⟨n+1,by go_num,by omega,hR,hQ,bE1⟩,by simp [intOf];omega⟩
       ·have i1:¬ (n:Int) < mm.length:=by omega
        rw [M.cur_all M.incF n 0 mm (by omega)] at hR
        have hnl:(M.mapS M.incF mm).length≤3:=by rw [M.mapS_len];omega
        have hns:∀ t∈M.mapS M.incF mm,t.length≤20:=by
         intro t ht
         simp only [M.mapS,List.mem_map] at ht
         obtain ⟨u,hu,rfl⟩:=ht
         rw [List.length_map];exact hmS u hu
        have HL:Hid (mm.length=(M.mapS M.incF mm).length):=(M.mapS_len _ _).symm
        go_wp2_with fail
        rw [HL.out] at hR hQ
        have hRn:=hR
        have bEG:=bE1
        clear hR bE1
        generalize M.mapS M.incF mm=nn at *
        have hsG:=bEG.size
        have hSG:=hS.but bEG (by omega)
        have hTG:=hT.but bEG (by omega)
        have hPG:=hP1.but bEG hP1ne
        have snG:=snP.but bEG (by omega)
        have bwG:=But.below bwF bEG (by omega)
        have x5:=hPG.s.c
        have x6:=hQ.s.c
        have hq1:Q≠w.heap.size:=by omega
        have hq2:Q≠w.heap.size+1:=by omega
        have hp1':P1≠w.heap.size:=by omega
        have hp2':P1≠w.heap.size+1:=by omega
        go_wp2_with fail
        refine wp_region_held_drew (S:=fun w'=>w'.cell? ⟨P1,0,none⟩=some (.slice aP mp.length cP)∧w'.cell? ⟨Q,0,none⟩=some (.slice av nn.length cv)) (by kernel_rfl) (by exact ⟨x5,x6⟩) (fun hH=>?_)
        refine takeD 0 (some 97) (.agg #[.slice aP mp.length cP]) hH rfl rfl (by kernel_rfl) (by kernel_rfl) (by kernel_rfl) (fun _ _ _ h=>h) (Or.inl ⟨by rfl,by intro w' hSw;have hc:=hSw.1;go_simp⟩) ?_
        simp only [Act.put,List.setIfInBounds_toArray,List.set_cons_zero,List.set_cons_succ]
        refine takeD 1 (some 98) (.agg #[.slice av nn.length cv]) hH rfl rfl (by kernel_rfl) (by kernel_rfl) (by kernel_rfl) (fun _ _ _ h=>h) (Or.inl ⟨by rfl,by intro w' hSw;have hc:=hSw.2;go_simp⟩) ?_
        simp only [Act.put,List.setIfInBounds_toArray,List.set_cons_zero,List.set_cons_succ]
        refine wpAnyH_ready (rs:=[2]) (by kernel_rfl) (by simp) ?_
        refine AllReadyH.cons rfl (fun K' hK=>?_) AllReadyH.nil
        have xc:=hSG.c
        have xz:=hSG.fz
        rw [if_pos (by rfl)]
        go_simp
        refine hK.out _ _ ⟨(hPG.s.far (fun e=>hp1' e.symm) _).c,(hQ.s.far (fun e=>hq1 e.symm) _).c⟩ (fun hHa=>?_)
        clear hK K' xc xz
        refine wpAnyH_ready (rs:=[3]) (by kernel_rfl) (by simp) ?_
        refine AllReadyH.cons rfl (fun K' hK=>?_) AllReadyH.nil
        have hTG':=hTG.far (b':=w.heap.size) (i:=0) (by omega) (.slice aP mp.length cP)
        have xc:=hTG'.c
        have xz:=hTG'.fz
        rw [if_pos (by rfl)]
        go_simp
        refine hK.out _ _ ⟨((hPG.s.far (fun e=>hp1' e.symm) _).far (fun e=>hp2' e.symm) _).c,((hQ.s.far (fun e=>hq1 e.symm) _).far (fun e=>hq2 e.symm) _).c⟩ (fun hHb=>?_)
        clear hK K' xc xz
        refine wpAnyH_done (by kernel_rfl) ?_ _
        go_wp2_with fail
        have s1:=(hSG.set (.slice aP mp.length cP)).far (b':=w.heap.size+1) (by omega) (i:=0) (.slice av nn.length cv)
        have s2:=(hTG.far (b':=w.heap.size) (by omega) (i:=0) (.slice aP mp.length cP)).set (.slice av nn.length cv)
        have e1:=s1.c
        have e2:=s2.c
        obtain ⟨ay,gy,cy,ey,ssQ⟩:=((hRn.far (b:=w.heap.size) (i:=0) (by omega) (.slice aP mp.length cP)).far (b:=w.heap.size+1) (i:=0) (by omega) (.slice av nn.length cv)).b.ss
        obtain ⟨rfl,_,rfl⟩:=Value.slice.inj ey
        have ssP:=((snG.far (B:=w.heap.size) (i:=0) (u:=.slice aP mp.length cP) (by omega)).far (B:=w.heap.size+1) (i:=0) (u:=.slice av nn.length cv) (by omega)).ss
        have bF:=(bwG.setCell (p:=⟨w.heap.size,0,none⟩) (Nat.le_refl _) (.slice aP mp.length cP)).setCell (p:=⟨w.heap.size+1,0,none⟩) (by show w.heap.size≤w.heap.size+1;omega) (.slice av nn.length cv)
        exact bodyPost_ret (v:=.tuple #[.agg #[.slice aP mp.length cP],.agg #[.slice av nn.length cv]]) (by simp [results,Tryz.results22,go_sem,e1,e2]) rfl ⟨aP,gP,cP,mp,av,gy,cv,nn,rfl,ssP.below (Below.refl _ _).drew (Nat.le_refl _),ssQ.below (Below.refl _ _).drew (Nat.le_refl _),by omega,by omega,hsP,hns,bF.drew⟩
     ·have hu0:¬ (0:Int) < u:=by omega
      have hRn:=hRG
      have hQ:=hQG
      have hnl:mm.length≤3:=by omega
      have hns:=hmS
      clear hRG hQG hmS
      obtain ⟨nn,hnn⟩:∃ nn,nn=mm:=⟨_,rfl⟩
      subst hnn
      have hsG:=bEG.size
      have hSG:=hS.but bEG (by omega)
      have hTG:=hT.but bEG (by omega)
      have hPG:=hP1.but bEG hP1ne
      have snG:=snP.but bEG (by omega)
      have bwG:=But.below bwF bEG (by omega)
      have x5:=hPG.s.c
      have x6:=hQ.s.c
      have hq1:Q≠w.heap.size:=by omega
      have hq2:Q≠w.heap.size+1:=by omega
      have hp1':P1≠w.heap.size:=by omega
      have hp2':P1≠w.heap.size+1:=by omega
      go_wp2_with fail
      refine wp_region_held_drew (S:=fun w'=>w'.cell? ⟨P1,0,none⟩=some (.slice aP mp.length cP)∧w'.cell? ⟨Q,0,none⟩=some (.slice av nn.length cv)) (by kernel_rfl) (by exact ⟨x5,x6⟩) (fun hH=>?_)
      refine takeD 0 (some 97) (.agg #[.slice aP mp.length cP]) hH rfl rfl (by kernel_rfl) (by kernel_rfl) (by kernel_rfl) (fun _ _ _ h=>h) (Or.inl ⟨by rfl,by intro w' hSw;have hc:=hSw.1;go_simp⟩) ?_
      simp only [Act.put,List.setIfInBounds_toArray,List.set_cons_zero,List.set_cons_succ]
      refine takeD 1 (some 98) (.agg #[.slice av nn.length cv]) hH rfl rfl (by kernel_rfl) (by kernel_rfl) (by kernel_rfl) (fun _ _ _ h=>h) (Or.inl ⟨by rfl,by intro w' hSw;have hc:=hSw.2;go_simp⟩) ?_
      simp only [Act.put,List.setIfInBounds_toArray,List.set_cons_zero,List.set_cons_succ]
      refine wpAnyH_ready (rs:=[2]) (by kernel_rfl) (by simp) ?_
      refine AllReadyH.cons rfl (fun K' hK=>?_) AllReadyH.nil
      have xc:=hSG.c
      have xz:=hSG.fz
      rw [if_pos (by rfl)]
      go_simp
      refine hK.out _ _ ⟨(hPG.s.far (fun e=>hp1' e.symm) _).c,(hQ.s.far (fun e=>hq1 e.symm) _).c⟩ (fun hHa=>?_)
      clear hK K' xc xz
      refine wpAnyH_ready (rs:=[3]) (by kernel_rfl) (by simp) ?_
      refine AllReadyH.cons rfl (fun K' hK=>?_) AllReadyH.nil
      have hTG':=hTG.far (b':=w.heap.size) (i:=0) (by omega) (.slice aP mp.length cP)
      have xc:=hTG'.c
      have xz:=hTG'.fz
      rw [if_pos (by rfl)]
      go_simp
      refine hK.out _ _ ⟨((hPG.s.far (fun e=>hp1' e.symm) _).far (fun e=>hp2' e.symm) _).c,((hQ.s.far (fun e=>hq1 e.symm) _).far (fun e=>hq2 e.symm) _).c⟩ (fun hHb=>?_)
      clear hK K' xc xz
      refine wpAnyH_done (by kernel_rfl) ?_ _
      go_wp2_with fail
      have s1:=(hSG.set (.slice aP mp.length cP)).far (b':=w.heap.size+1) (by omega) (i:=0) (.slice av nn.length cv)
      have s2:=(hTG.far (b':=w.heap.size) (by omega) (i:=0) (.slice aP mp.length cP)).set (.slice av nn.length cv)
      have e1:=s1.c
      have e2:=s2.c
      obtain ⟨ay,gy,cy,ey,ssQ⟩:=((hRn.far (b:=w.heap.size) (i:=0) (by omega) (.slice aP mp.length cP)).far (b:=w.heap.size+1) (i:=0) (by omega) (.slice av nn.length cv)).b.ss
      obtain ⟨rfl,_,rfl⟩:=Value.slice.inj ey
      have ssP:=((snG.far (B:=w.heap.size) (i:=0) (u:=.slice aP mp.length cP) (by omega)).far (B:=w.heap.size+1) (i:=0) (u:=.slice av nn.length cv) (by omega)).ss
      have bF:=(bwG.setCell (p:=⟨w.heap.size,0,none⟩) (Nat.le_refl _) (.slice aP mp.length cP)).setCell (p:=⟨w.heap.size+1,0,none⟩) (by show w.heap.size≤w.heap.size+1;omega) (.slice av nn.length cv)
      exact bodyPost_ret (v:=.tuple #[.agg #[.slice aP mp.length cP],.agg #[.slice av nn.length cv]]) (by simp [results,Tryz.results22,go_sem,e1,e2]) rfl ⟨aP,gP,cP,mp,av,gy,cv,nn,rfl,ssP.below (Below.refl _ _).drew (Nat.le_refl _),ssQ.below (Below.refl _ _).drew (Nat.le_refl _),by omega,by omega,hsP,hns,bF.drew⟩
   ·have hq':(q==0)=false:=by simpa using hq
    have hRF:=hRU
    have hPF:=hPU
    have hrF:=hrU
    have bEF:=bEU
    have hmF:[l].length≤2:=by simp
    have hsF:∀ t∈[l],t.length≤20:=by
     intro t ht
     simp at ht
     rw [ht];exact hl1
    obtain ⟨pF,hpF⟩:∃ pF,pU=pF:=⟨_,rfl⟩
    rw [hpF] at hrF
    have hpF':pF≤pE2+200:=by omega
    clear hRU hPU hrU bEU hpF
    have HEQ:Hid ([l].length=1):=rfl
    obtain ⟨vs,hvs⟩:∃ vs,[v]=vs:=⟨_,rfl⟩
    rw [hvs] at hRF
    generalize [l]=mm at *
    rw [← HEQ.out] at hRF hPF
    obtain ⟨vF,hvF⟩:∃ vF,Value.slice (some ⟨N,0,none⟩) mm.length mm.length=vF:=⟨_,rfl⟩
    rw [hvF] at hRF hPF
    obtain ⟨F,hF⟩:∃ F,F=U:=⟨_,rfl⟩
    subst hF
    clear hvF HEQ hvs
    obtain ⟨av,gv0,cv,rfl,_⟩:=hRF.b.ss
    obtain ⟨Q,hQe⟩:∃ Q,Q=P:=⟨_,rfl⟩
    subst hQe
    go_wp2_with fail
    refine (pick_rdr _ _ pF 6 F (by omega) (by omega) (by omega) hrF).mono ?_
    rintro e G ⟨u,rfl,u0,u1,hrG,hbG⟩
    have hRG:=hRF.but hbG (by omega)
    have hQG:=hPF.but hbG (by omega)
    have bEG:=bEF.trans hbG
    have hmS:=hsF
    have hsQ:E2.heap.size≤Q:=by omega
    clear hRF hPF bEF hbG hrG hrF hsF
    by_cases hu:0 < u
    ·have hu0:(0:Int) < u:=by omega
     go_wp2_with fail
     go_loopw [7] (fun s7 wr=>∃ n:Nat,s7=.int .i64 n∧n≤mm.length∧Rdg wr E2.heap.size (.slice av mm.length cv) (M.cur M.incF n 0 mm) vs∧PBox wr Q (.slice av mm.length cv)∧But (w.heap.size+1+1) E2 wr) (fun s7 _=>mm.length - (intOf s7).toNat)
     case atStart=>exact ⟨0,rfl,Nat.zero_le _,by rw [M.cur_zero];exact hRG,hQG,bEG⟩
     case round =>
      clear hRG hQG bEG
      obtain ⟨n,rfl,hn,hR,hQ,bE1⟩:=hrel
      have xq:=hQ.s.c
      by_cases hlt:n < mm.length
      ·have hR':=hR
       rw [← M.cur_len M.incF n 0 mm] at hR'
       obtain ⟨gv,rfl,hv,hc⟩:=hR'.outer_at (n:=n) (by rw [M.cur_len];exact hlt)
       obtain ⟨a',c',e1,hin⟩:=hR.cur_at hlt hv
       have i1:(n:Int) < mm.length:=by omega
       have hmm3:mm.length≤3:=by omega
       have HO:Hid (∀ (k:Nat) (W:World),Rdg W E2.heap.size (.slice (some ⟨gv,0,none⟩) mm.length cv) (M.cur M.incF n k mm) vs→W.cell? ⟨gv,n,none⟩=some (.slice a' mm[n].length c')):=by
        intro k W hr
        have hr':=hr
        rw [← M.cur_len M.incF n k mm] at hr'
        obtain ⟨gv2,e2,hv2,hc2⟩:=hr'.outer_at (n:=n) (by rw [M.cur_len];exact hlt)
        obtain rfl:gv=gv2:=by simpa using e2
        rw [hc2,e1]
       have HS:Hid (∀ (k g:Nat) (W W':World) (hk:k < mm[n].length),a'=some ⟨g,0,none⟩→Rdg W E2.heap.size (.slice (some ⟨gv,0,none⟩) mm.length cv) (M.cur M.incF n k mm) vs→Chg W W' g (k * 3) mm[n][k] (M.incF mm[n][k])→Rdg W' E2.heap.size (.slice (some ⟨gv,0,none⟩) mm.length cv) (M.cur M.incF n (k+1) mm) vs∧W.grownBy W' (some g)∧E2.heap.size≤g):=by
        intro k g W W' hk ha hr hch
        subst ha
        exact hr.step hlt hk hv e1 hch
       have HA:Hid (∀ (k:Nat) (W:World),Rdg W E2.heap.size (.slice (some ⟨gv,0,none⟩) mm.length cv) (M.cur M.incF n k mm) vs→∀ hk:k < mm[n].length,∃ g,a'=some ⟨g,0,none⟩∧E2.heap.size≤g∧DoAt W g (k * 3) mm[n][k]∧∀ i,W.frozen? ⟨g,i,none⟩=false):=by
        intro k W hr hk
        obtain ⟨a2,c2,e2,h2⟩:=hr.cur_at hlt hv
        rw [e1] at e2
        obtain ⟨rfl,_,rfl⟩:=Value.slice.inj e2
        exact h2 hk
       have HQN:Hid (∀ (k g:Nat) (W:World),a'=some ⟨g,0,none⟩→Rdg W E2.heap.size (.slice (some ⟨gv,0,none⟩) mm.length cv) (M.cur M.incF n k mm) vs→PBox W Q (.slice (some ⟨gv,0,none⟩) mm.length cv)→g≠Q∧g≠gv):=by
        intro k g W ha hr hq
        subst ha
        have hi:=hr.b.inner n (by rw [M.cur_len];exact hlt) hv
        refine ⟨fun e=>?_,fun e=>?_⟩
        ·exact hq.ne hi (by decide) (by rw [e1,e];rfl)
        ·rcases own_apart hi hr.b.outer (by decide) with e2 | e2
         ·rw [e1] at e2;simp [Value.ownBlock] at e2
         ·rw [e1] at e2;simp [Value.ownBlock] at e2;exact e2 e
       have HN:Hid (∀ k,mm[n].length≤k→M.cur M.incF n k mm=M.cur M.incF (n+1) 0 mm):=fun k hk=>M.cur_next M.incF n k mm hlt hk
       have ht20:=hmS _ (List.getElem_mem hlt)
       clear hin e1 hR' hc
       generalize mm[n]=t at *
       go_wp2_with fail
       clear xq
       go_loopw [8] (fun s8 wi=>∃ k:Nat,s8=.int .i64 k∧k≤t.length∧Rdg wi E2.heap.size (.slice (some ⟨gv,0,none⟩) mm.length cv) (M.cur M.incF n k mm) vs∧PBox wi Q (.slice (some ⟨gv,0,none⟩) mm.length cv)∧But (w.heap.size+1+1) E2 wi) (fun s8 _=>t.length - (intOf s8).toNat)
       case atStart=>exact ⟨0,rfl,Nat.zero_le _,hR,hQ,bE1⟩
       case round =>
        clear hR hQ bE1
        obtain ⟨k,rfl,hk,hR,hQ,bE1⟩:=hrel
        have xq:=hQ.s.c
        have xo:=HO.out k _ hR
        have lQ:=hQ.s.lt
        have lo:gv < wr.heap.size:=World.block_lt_of_cell? _ _ xo
        by_cases hkt:k < t.length
        ·obtain ⟨g,rfl,hg,hd,hf⟩:=HA.out k _ hR hkt
         obtain ⟨hgQ,hggv⟩:=HQN.out k g _ rfl hR hQ
         have j1:(k:Int) < t.length:=by omega
         have HS1:Hid (∀ W W',Rdg W E2.heap.size (.slice (some ⟨gv,0,none⟩) mm.length cv) (M.cur M.incF n k mm) vs→Chg W W' g (k * 3) t[k] (M.incF t[k])→Rdg W' E2.heap.size (.slice (some ⟨gv,0,none⟩) mm.length cv) (M.cur M.incF n (k+1) mm) vs∧W.grownBy W' (some g)∧E2.heap.size≤g):=fun W W' hr hch=>HS.out k g W W' hkt rfl hr hch
         generalize t[k]=dd at *
         obtain ⟨kk,pp,vv⟩:=dd
         obtain ⟨ck,cp,cv'⟩:=hd
         have lg:g < wr.heap.size:=World.block_lt_of_cell? _ _ ck
         have hRD:M.uses kk=(M.reads kk||M.writes kk):=rfl
         cases hu1:M.reads kk
         ·cases hu2:M.writes kk
          ·have hu:M.uses kk=false:=by rw [hRD,hu1,hu2];rfl
           have r:=HS1.out wr wr hR ⟨0,Or.inl ⟨rfl,by unfold M.incF;rw [show M.uses (M.D.mk kk pp vv).k=false from hu];rfl⟩⟩
           clear HS1 hRD hu
           go_wp2_with (first | (go_at_call 34;refine (l1Reads_any ⟨_,_,_⟩ _).mono ?_;rw [hu1];rintro e W5 ⟨rfl,rfl⟩) | (go_at_call 35;refine (l1Writes_any ⟨_,_,_⟩ _).mono ?_;rw [hu2];rintro e W6 ⟨rfl,rfl⟩))
           exact ⟨⟨k+1,by go_num,by omega,r.1.below (below2 _ _ _),hQ.below (below2 _ _ _),(bE1.alloc _).alloc _⟩,by simp [intOf];omega⟩
          ·have hu:M.uses kk=true:=by rw [hRD,hu1,hu2];rfl
           clear hRD
           go_wp2_with (first | (go_at_call 34;refine (l1Reads_any ⟨_,_,_⟩ _).mono ?_;rw [hu1];rintro e W5 ⟨rfl,rfl⟩) | (go_at_call 35;refine (l1Writes_any ⟨_,_,_⟩ _).mono ?_;rw [hu2];rintro e W6 ⟨rfl,rfl⟩))
           have b5:=below2 wr (.cells #[.int .i64 kk,.int .i64 pp,.int .i64 vv] 56) (.cells #[.int .i64 kk,.int .i64 pp,.int .i64 vv] 56)
           have bE5:=(bE1.alloc (.cells #[.int .i64 kk,.int .i64 pp,.int .i64 vv] 56)).alloc (.cells #[.int .i64 kk,.int .i64 pp,.int .i64 vv] 56)
           generalize (wr.alloc (.cells #[.int .i64 kk,.int .i64 pp,.int .i64 vv] 56)).alloc (.cells #[.int .i64 kk,.int .i64 pp,.int .i64 vv] 56)=W5 at *
           have hR5:=hR.below b5
           have hQ5:=hQ.below b5
           have q5:=hQ5.s.c
           have o5:=(b5.cell (p:=⟨gv,n,none⟩) lo).trans xo
           have p5:=(b5.cell (p:=⟨g,k * 3+1,none⟩) lg).trans cp
           have f5:∀ i,W5.frozen? ⟨g,i,none⟩=false:=fun i=>(b5.frozen (p:=⟨g,i,none⟩) lg).trans (hf i)
           have r:=HS1.out W5 ((W5.setCell ⟨g,k * 3+1,none⟩ (.int .i64 (wrap64 (pp+1)))).drew) hR5 ⟨1,Or.inr (Or.inr (Or.inl ⟨by unfold M.incF;rw [if_pos (show M.uses (M.D.mk kk pp vv).k=true from hu)];rfl,by unfold M.incF;rw [if_pos (show M.uses (M.D.mk kk pp vv).k=true from hu)],by unfold M.incF;rw [if_pos (show M.uses (M.D.mk kk pp vv).k=true from hu)]⟩))⟩
           have hQ6:=hQ5.grown r.2.1 (fun e=>hgQ (Option.some.inj e))
           have bE6:=bE5.grown r.2.1 (fun j hj=>by have:g=j:=Option.some.inj hj;omega)
           obtain ⟨r1,_,_⟩:=r
           clear xq xo ck cp cv' HS1 hR hQ bE1 hf lo lg lQ
           refine wp_region_held_drew (S:=fun w'=>w'.cell? ⟨Q,0,none⟩=some (.slice (some ⟨gv,0,none⟩) mm.length cv)∧w'.cell? ⟨gv,n,none⟩=some (.slice (some ⟨g,0,none⟩) t.length c')) (by kernel_rfl) (by exact ⟨q5,o5⟩) (fun hH=>?_)
           refine takeD 0 (some 79) (.pointer (some ⟨Q,0,none⟩)) hH rfl rfl (by kernel_rfl) (by kernel_rfl) (by kernel_rfl) (fun _ _ _ h=>h) (Or.inl ⟨by rfl,by intro w' hSw;go_simp⟩) ?_
           simp only [Act.put,List.setIfInBounds_toArray,List.set_cons_zero,List.set_cons_succ]
           refine takeD 1 (some 80) (.slice (some ⟨gv,0,none⟩) mm.length cv) hH rfl rfl (by kernel_rfl) (by kernel_rfl) (by kernel_rfl) (fun _ _ _ h=>h) (Or.inl ⟨by rfl,by intro w' hSw;have hc:=hSw.1;go_simp⟩) ?_
           simp only [Act.put,List.setIfInBounds_toArray,List.set_cons_zero,List.set_cons_succ]
           refine takeD 2 (some 81) (.int .i64 n) hH rfl rfl (by kernel_rfl) (by kernel_rfl) (by kernel_rfl) (fun _ _ _ h=>h) (Or.inl ⟨by rfl,by intro w' hSw;go_simp⟩) ?_
           simp only [Act.put,List.setIfInBounds_toArray,List.set_cons_zero,List.set_cons_succ]
           refine takeD 3 (some 82) (.pointer (some ⟨gv,n,none⟩)) hH rfl rfl (by kernel_rfl) (by kernel_rfl) (by kernel_rfl) (fun _ _ _ h=>h) (Or.inl ⟨by rfl,by intro w' hSw;go_simp⟩) ?_
           simp only [Act.put,List.setIfInBounds_toArray,List.set_cons_zero,List.set_cons_succ]
           refine takeD 4 (some 83) (.slice (some ⟨g,0,none⟩) t.length c') hH rfl rfl (by kernel_rfl) (by kernel_rfl) (by kernel_rfl) (fun _ _ _ h=>h) (Or.inl ⟨by rfl,by intro w' hSw;have hc:=hSw.2;go_simp⟩) ?_
           simp only [Act.put,List.setIfInBounds_toArray,List.set_cons_zero,List.set_cons_succ]
           refine takeD 5 (some 84) (.int .i64 k) hH rfl rfl (by kernel_rfl) (by kernel_rfl) (by kernel_rfl) (fun _ _ _ h=>h) (Or.inl ⟨by rfl,by intro w' hSw;go_simp⟩) ?_
           simp only [Act.put,List.setIfInBounds_toArray,List.set_cons_zero,List.set_cons_succ]
           refine takeD 6 (some 85) (.pointer (some ⟨Q,0,none⟩)) hH rfl rfl (by kernel_rfl) (by kernel_rfl) (by kernel_rfl) (fun _ _ _ h=>h) (Or.inl ⟨by rfl,by intro w' hSw;go_simp⟩) ?_
           simp only [Act.put,List.setIfInBounds_toArray,List.set_cons_zero,List.set_cons_succ]
           refine takeD 7 (some 86) (.slice (some ⟨gv,0,none⟩) mm.length cv) hH rfl rfl (by kernel_rfl) (by kernel_rfl) (by kernel_rfl) (fun _ _ _ h=>h) (Or.inl ⟨by rfl,by intro w' hSw;have hc:=hSw.1;go_simp⟩) ?_
           simp only [Act.put,List.setIfInBounds_toArray,List.set_cons_zero,List.set_cons_succ]
           refine takeD 8 (some 87) (.int .i64 n) hH rfl rfl (by kernel_rfl) (by kernel_rfl) (by kernel_rfl) (fun _ _ _ h=>h) (Or.inl ⟨by rfl,by intro w' hSw;go_simp⟩) ?_
           simp only [Act.put,List.setIfInBounds_toArray,List.set_cons_zero,List.set_cons_succ]
           refine takeD 9 (some 88) (.pointer (some ⟨gv,n,none⟩)) hH rfl rfl (by kernel_rfl) (by kernel_rfl) (by kernel_rfl) (fun _ _ _ h=>h) (Or.inl ⟨by rfl,by intro w' hSw;go_simp⟩) ?_
           simp only [Act.put,List.setIfInBounds_toArray,List.set_cons_zero,List.set_cons_succ]
           refine takeD 10 (some 89) (.slice (some ⟨g,0,none⟩) t.length c') hH rfl rfl (by kernel_rfl) (by kernel_rfl) (by kernel_rfl) (fun _ _ _ h=>h) (Or.inl ⟨by rfl,by intro w' hSw;have hc:=hSw.2;go_simp⟩) ?_
           simp only [Act.put,List.setIfInBounds_toArray,List.set_cons_zero,List.set_cons_succ]
           refine takeD 11 (some 90) (.int .i64 k) hH rfl rfl (by kernel_rfl) (by kernel_rfl) (by kernel_rfl) (fun _ _ _ h=>h) (Or.inl ⟨by rfl,by intro w' hSw;go_simp⟩) ?_
           simp only [Act.put,List.setIfInBounds_toArray,List.set_cons_zero,List.set_cons_succ]
           refine takeD 12 (some 91) (.pointer (some ⟨g,k * 3,none⟩)) hH rfl rfl (by kernel_rfl) (by kernel_rfl) (by kernel_rfl) (fun _ _ _ h=>h) (Or.inl ⟨by rfl,by intro w' hSw;go_simp⟩) ?_
           simp only [Act.put,List.setIfInBounds_toArray,List.set_cons_zero,List.set_cons_succ]
           refine takeD 13 (some 92) (.pointer (some ⟨g,k * 3+1,none⟩)) hH rfl rfl (by kernel_rfl) (by kernel_rfl) (by kernel_rfl) (fun _ _ _ h=>h) (Or.inl ⟨by rfl,by intro w' hSw;go_simp⟩) ?_
           simp only [Act.put,List.setIfInBounds_toArray,List.set_cons_zero,List.set_cons_succ]
           refine wpAnyH_ready (rs:=[14]) (by kernel_rfl) (by simp) ?_
           refine AllReadyH.cons rfl (fun K' hK=>?_) AllReadyH.nil
           have xx:=p5
           rw [if_pos (by rfl)]
           go_simp
           refine hK.out _ _ hH (fun _=>?_)
           clear hK K' xx
           refine takeD 15 (some 94) (.int .i64 (wrap64 (pp+1))) hH rfl rfl (by kernel_rfl) (by kernel_rfl) (by kernel_rfl) (fun _ _ _ h=>h) (Or.inl ⟨by rfl,by intro w' hSw;go_simp;exact wrap_eq64 _⟩) ?_
           simp only [Act.put,List.setIfInBounds_toArray,List.set_cons_zero,List.set_cons_succ]
           refine takeD 16 (some 95) (.pointer (some ⟨g,k * 3,none⟩)) hH rfl rfl (by kernel_rfl) (by kernel_rfl) (by kernel_rfl) (fun _ _ _ h=>h) (Or.inl ⟨by rfl,by intro w' hSw;go_simp⟩) ?_
           simp only [Act.put,List.setIfInBounds_toArray,List.set_cons_zero,List.set_cons_succ]
           refine takeD 17 (some 96) (.pointer (some ⟨g,k * 3+1,none⟩)) hH rfl rfl (by kernel_rfl) (by kernel_rfl) (by kernel_rfl) (fun _ _ _ h=>h) (Or.inl ⟨by rfl,by intro w' hSw;go_simp⟩) ?_
           simp only [Act.put,List.setIfInBounds_toArray,List.set_cons_zero,List.set_cons_succ]
           refine wpAnyH_ready (rs:=[18]) (by kernel_rfl) (by simp) ?_
           refine AllReadyH.cons rfl (fun K' hK=>?_) AllReadyH.nil
           have xc:=p5
           have xz:=f5 (k * 3+1)
           rw [if_pos (by rfl)]
           go_simp
           refine hK.out _ _ ⟨(World.cell?_setCell_other _ _ _ _ (fun e=>hgQ (congrArg Addr.block e))).trans hH.1,(World.cell?_setCell_other _ _ _ _ (fun e=>hggv (congrArg Addr.block e))).trans hH.2⟩ (fun _=>?_)
           clear hK K'
           refine wpAnyH_done (by kernel_rfl) ?_ _
           clear xc xz
           go_wp2_with fail
           exact ⟨⟨k+1,by go_num,by omega,r1,hQ6,bE6⟩,by simp [intOf];omega⟩
         ·have hu:M.uses kk=true:=by rw [hRD,hu1];rfl
          clear hRD
          go_wp2_with (first | (go_at_call 34;refine (l1Reads_any ⟨_,_,_⟩ _).mono ?_;rw [hu1];rintro e W5 ⟨rfl,rfl⟩))
          have b5:=below1 wr (.cells #[.int .i64 kk,.int .i64 pp,.int .i64 vv] 56)
          have bE5:=bE1.alloc (.cells #[.int .i64 kk,.int .i64 pp,.int .i64 vv] 56)
          generalize wr.alloc (.cells #[.int .i64 kk,.int .i64 pp,.int .i64 vv] 56)=W5 at *
          have hR5:=hR.below b5
          have hQ5:=hQ.below b5
          have q5:=hQ5.s.c
          have o5:=(b5.cell (p:=⟨gv,n,none⟩) lo).trans xo
          have p5:=(b5.cell (p:=⟨g,k * 3+1,none⟩) lg).trans cp
          have f5:∀ i,W5.frozen? ⟨g,i,none⟩=false:=fun i=>(b5.frozen (p:=⟨g,i,none⟩) lg).trans (hf i)
          have r:=HS1.out W5 ((W5.setCell ⟨g,k * 3+1,none⟩ (.int .i64 (wrap64 (pp+1)))).drew) hR5 ⟨1,Or.inr (Or.inr (Or.inl ⟨by unfold M.incF;rw [if_pos (show M.uses (M.D.mk kk pp vv).k=true from hu)];rfl,by unfold M.incF;rw [if_pos (show M.uses (M.D.mk kk pp vv).k=true from hu)],by unfold M.incF;rw [if_pos (show M.uses (M.D.mk kk pp vv).k=true from hu)]⟩))⟩
          have hQ6:=hQ5.grown r.2.1 (fun e=>hgQ (Option.some.inj e))
          have bE6:=bE5.grown r.2.1 (fun j hj=>by have:g=j:=Option.some.inj hj;omega)
          obtain ⟨r1,_,_⟩:=r
          clear xq xo ck cp cv' HS1 hR hQ bE1 hf lo lg lQ
          refine wp_region_held_drew (S:=fun w'=>w'.cell? ⟨Q,0,none⟩=some (.slice (some ⟨gv,0,none⟩) mm.length cv)∧w'.cell? ⟨gv,n,none⟩=some (.slice (some ⟨g,0,none⟩) t.length c')) (by kernel_rfl) (by exact ⟨q5,o5⟩) (fun hH=>?_)
          refine takeD 0 (some 79) (.pointer (some ⟨Q,0,none⟩)) hH rfl rfl (by kernel_rfl) (by kernel_rfl) (by kernel_rfl) (fun _ _ _ h=>h) (Or.inl ⟨by rfl,by intro w' hSw;go_simp⟩) ?_
          simp only [Act.put,List.setIfInBounds_toArray,List.set_cons_zero,List.set_cons_succ]
          refine takeD 1 (some 80) (.slice (some ⟨gv,0,none⟩) mm.length cv) hH rfl rfl (by kernel_rfl) (by kernel_rfl) (by kernel_rfl) (fun _ _ _ h=>h) (Or.inl ⟨by rfl,by intro w' hSw;have hc:=hSw.1;go_simp⟩) ?_
          simp only [Act.put,List.setIfInBounds_toArray,List.set_cons_zero,List.set_cons_succ]
          refine takeD 2 (some 81) (.int .i64 n) hH rfl rfl (by kernel_rfl) (by kernel_rfl) (by kernel_rfl) (fun _ _ _ h=>h) (Or.inl ⟨by rfl,by intro w' hSw;go_simp⟩) ?_
          simp only [Act.put,List.setIfInBounds_toArray,List.set_cons_zero,List.set_cons_succ]
          refine takeD 3 (some 82) (.pointer (some ⟨gv,n,none⟩)) hH rfl rfl (by kernel_rfl) (by kernel_rfl) (by kernel_rfl) (fun _ _ _ h=>h) (Or.inl ⟨by rfl,by intro w' hSw;go_simp⟩) ?_
          simp only [Act.put,List.setIfInBounds_toArray,List.set_cons_zero,List.set_cons_succ]
          refine takeD 4 (some 83) (.slice (some ⟨g,0,none⟩) t.length c') hH rfl rfl (by kernel_rfl) (by kernel_rfl) (by kernel_rfl) (fun _ _ _ h=>h) (Or.inl ⟨by rfl,by intro w' hSw;have hc:=hSw.2;go_simp⟩) ?_
          simp only [Act.put,List.setIfInBounds_toArray,List.set_cons_zero,List.set_cons_succ]
          refine takeD 5 (some 84) (.int .i64 k) hH rfl rfl (by kernel_rfl) (by kernel_rfl) (by kernel_rfl) (fun _ _ _ h=>h) (Or.inl ⟨by rfl,by intro w' hSw;go_simp⟩) ?_
          simp only [Act.put,List.setIfInBounds_toArray,List.set_cons_zero,List.set_cons_succ]
          refine takeD 6 (some 85) (.pointer (some ⟨Q,0,none⟩)) hH rfl rfl (by kernel_rfl) (by kernel_rfl) (by kernel_rfl) (fun _ _ _ h=>h) (Or.inl ⟨by rfl,by intro w' hSw;go_simp⟩) ?_
          simp only [Act.put,List.setIfInBounds_toArray,List.set_cons_zero,List.set_cons_succ]
          refine takeD 7 (some 86) (.slice (some ⟨gv,0,none⟩) mm.length cv) hH rfl rfl (by kernel_rfl) (by kernel_rfl) (by kernel_rfl) (fun _ _ _ h=>h) (Or.inl ⟨by rfl,by intro w' hSw;have hc:=hSw.1;go_simp⟩) ?_
          simp only [Act.put,List.setIfInBounds_toArray,List.set_cons_zero,List.set_cons_succ]
          refine takeD 8 (some 87) (.int .i64 n) hH rfl rfl (by kernel_rfl) (by kernel_rfl) (by kernel_rfl) (fun _ _ _ h=>h) (Or.inl ⟨by rfl,by intro w' hSw;go_simp⟩) ?_
          simp only [Act.put,List.setIfInBounds_toArray,List.set_cons_zero,List.set_cons_succ]
          refine takeD 9 (some 88) (.pointer (some ⟨gv,n,none⟩)) hH rfl rfl (by kernel_rfl) (by kernel_rfl) (by kernel_rfl) (fun _ _ _ h=>h) (Or.inl ⟨by rfl,by intro w' hSw;go_simp⟩) ?_
          simp only [Act.put,List.setIfInBounds_toArray,List.set_cons_zero,List.set_cons_succ]
          refine takeD 10 (some 89) (.slice (some ⟨g,0,none⟩) t.length c') hH rfl rfl (by kernel_rfl) (by kernel_rfl) (by kernel_rfl) (fun _ _ _ h=>h) (Or.inl ⟨by rfl,by intro w' hSw;have hc:=hSw.2;go_simp⟩) ?_
          simp only [Act.put,List.setIfInBounds_toArray,List.set_cons_zero,List.set_cons_succ]
          refine takeD 11 (some 90) (.int .i64 k) hH rfl rfl (by kernel_rfl) (by kernel_rfl) (by kernel_rfl) (fun _ _ _ h=>h) (Or.inl ⟨by rfl,by intro w' hSw;go_simp⟩) ?_
          simp only [Act.put,List.setIfInBounds_toArray,List.set_cons_zero,List.set_cons_succ]
          refine takeD 12 (some 91) (.pointer (some ⟨g,k * 3,none⟩)) hH rfl rfl (by kernel_rfl) (by kernel_rfl) (by kernel_rfl) (fun _ _ _ h=>h) (Or.inl ⟨by rfl,by intro w' hSw;go_simp⟩) ?_
          simp only [Act.put,List.setIfInBounds_toArray,List.set_cons_zero,List.set_cons_succ]
          refine takeD 13 (some 92) (.pointer (some ⟨g,k * 3+1,none⟩)) hH rfl rfl (by kernel_rfl) (by kernel_rfl) (by kernel_rfl) (fun _ _ _ h=>h) (Or.inl ⟨by rfl,by intro w' hSw;go_simp⟩) ?_
          simp only [Act.put,List.setIfInBounds_toArray,List.set_cons_zero,List.set_cons_succ]
          refine wpAnyH_ready (rs:=[14]) (by kernel_rfl) (by simp) ?_
          refine AllReadyH.cons rfl (fun K' hK=>?_) AllReadyH.nil
          have xx:=p5
          rw [if_pos (by rfl)]
          go_simp
          refine hK.out _ _ hH (fun _=>?_)
          clear hK K' xx
          refine takeD 15 (some 94) (.int .i64 (wrap64 (pp+1))) hH rfl rfl (by kernel_rfl) (by kernel_rfl) (by kernel_rfl) (fun _ _ _ h=>h) (Or.inl ⟨by rfl,by intro w' hSw;go_simp;exact wrap_eq64 _⟩) ?_
          simp only [Act.put,List.setIfInBounds_toArray,List.set_cons_zero,List.set_cons_succ]
          refine takeD 16 (some 95) (.pointer (some ⟨g,k * 3,none⟩)) hH rfl rfl (by kernel_rfl) (by kernel_rfl) (by kernel_rfl) (fun _ _ _ h=>h) (Or.inl ⟨by rfl,by intro w' hSw;go_simp⟩) ?_
          simp only [Act.put,List.setIfInBounds_toArray,List.set_cons_zero,List.set_cons_succ]
          refine takeD 17 (some 96) (.pointer (some ⟨g,k * 3+1,none⟩)) hH rfl rfl (by kernel_rfl) (by kernel_rfl) (by kernel_rfl) (fun _ _ _ h=>h) (Or.inl ⟨by rfl,by intro w' hSw;go_simp⟩) ?_
          simp only [Act.put,List.setIfInBounds_toArray,List.set_cons_zero,List.set_cons_succ]
          refine wpAnyH_ready (rs:=[18]) (by kernel_rfl) (by simp) ?_
          refine AllReadyH.cons rfl (fun K' hK=>?_) AllReadyH.nil
          have xc:=p5
          have xz:=f5 (k * 3+1)
          rw [if_pos (by rfl)]
          go_simp
          refine hK.out _ _ ⟨(World.cell?_setCell_other _ _ _ _ (fun e=>hgQ (congrArg Addr.block e))).trans hH.1,(World.cell?_setCell_other _ _ _ _ (fun e=>hggv (congrArg Addr.block e))).trans hH.2⟩ (fun _=>?_)
          clear hK K'
          refine wpAnyH_done (by kernel_rfl) ?_ _
          clear xc xz
          go_wp2_with fail
          exact ⟨⟨k+1,by go_num,by omega,r1,hQ6,bE6⟩,by simp [intOf];omega⟩
        ·have j1:¬ (k:Int) < t.length:=by omega
         rw [HN.out k (by omega)] at hR
         go_wp2_with fail
         exact ⟨⟨n+1,by go_num,by omega,hR,hQ,bE1⟩,by simp [intOf];omega⟩
      ·have i1:¬ (n:Int) < mm.length:=by omega
       rw [M.cur_all M.incF n 0 mm (by omega)] at hR
       have hnl:(M.mapS M.incF mm).length≤3:=by rw [M.mapS_len];omega
       have hns:∀ t∈M.mapS M.incF mm,t.length≤20:=by
        intro t ht
        simp only [M.mapS,List.mem_map] at ht
        obtain ⟨u,hu,rfl⟩:=ht
        rw [List.length_map];exact hmS u hu
       have HL:Hid (mm.length=(M.mapS M.incF mm).length):=(M.mapS_len _ _).symm
       go_wp2_with fail
       rw [HL.out] at hR hQ
       have hRn:=hR
       have bEG:=bE1
       clear hR bE1
       generalize M.mapS M.incF mm=nn at *
       have hsG:=bEG.size
       have hSG:=hS.but bEG (by omega)
       have hTG:=hT.but bEG (by omega)
       have hPG:=hP1.but bEG hP1ne
       have snG:=snP.but bEG (by omega)
       have bwG:=But.below bwF bEG (by omega)
       have x5:=hPG.s.c
       have x6:=hQ.s.c
       have hq1:Q≠w.heap.size:=by omega
       have hq2:Q≠w.heap.size+1:=by omega
       have hp1':P1≠w.heap.size:=by omega
       have hp2':P1≠w.heap.size+1:=by omega
       go_wp2_with fail
       refine wp_region_held_drew (S:=fun w'=>w'.cell? ⟨P1,0,none⟩=some (.slice aP mp.length cP)∧w'.cell? ⟨Q,0,none⟩=some (.slice av nn.length cv)) (by kernel_rfl) (by exact ⟨x5,x6⟩) (fun hH=>?_)
       refine takeD 0 (some 97) (.agg #[.slice aP mp.length cP]) hH rfl rfl (by kernel_rfl) (by kernel_rfl) (by kernel_rfl) (fun _ _ _ h=>h) (Or.inl ⟨by rfl,by intro w' hSw;have hc:=hSw.1;go_simp⟩) ?_
       simp only [Act.put,List.setIfInBounds_toArray,List.set_cons_zero,List.set_cons_succ]
       refine takeD 1 (some 98) (.agg #[.slice av nn.length cv]) hH rfl rfl (by kernel_rfl) (by kernel_rfl) (by kernel_rfl) (fun _ _ _ h=>h) (Or.inl ⟨by rfl,by intro w' hSw;have hc:=hSw.2;go_simp⟩) ?_
       simp only [Act.put,List.setIfInBounds_toArray,List.set_cons_zero,List.set_cons_succ]
       refine wpAnyH_ready (rs:=[2]) (by kernel_rfl) (by simp) ?_
       refine AllReadyH.cons rfl (fun K' hK=>?_) AllReadyH.nil
       have xc:=hSG.c
       have xz:=hSG.fz
       rw [if_pos (by rfl)]
       go_simp
       refine hK.out _ _ ⟨(hPG.s.far (fun e=>hp1' e.symm) _).c,(hQ.s.far (fun e=>hq1 e.symm) _).c⟩ (fun hHa=>?_)
       clear hK K' xc xz
       refine wpAnyH_ready (rs:=[3]) (by kernel_rfl) (by simp) ?_
       refine AllReadyH.cons rfl (fun K' hK=>?_) AllReadyH.nil
       have hTG':=hTG.far (b':=w.heap.size) (i:=0) (by omega) (.slice aP mp.length cP)
       have xc:=hTG'.c
       have xz:=hTG'.fz
       rw [if_pos (by rfl)]
       go_simp
       refine hK.out _ _ ⟨((hPG.s.far (fun e=>hp1' e.symm) _).far (fun e=>hp2' e.symm) _).c,((hQ.s.far (fun e=>hq1 e.symm) _).far (fun e=>hq2 e.symm) _).c⟩ (fun hHb=>?_)
       clear hK K' xc xz
       refine wpAnyH_done (by kernel_rfl) ?_ _
       go_wp2_with fail
       have s1:=(hSG.set (.slice aP mp.length cP)).far (b':=w.heap.size+1) (by omega) (i:=0) (.slice av nn.length cv)
       have s2:=(hTG.far (b':=w.heap.size) (by omega) (i:=0) (.slice aP mp.length cP)).set (.slice av nn.length cv)
       have e1:=s1.c
       have e2:=s2.c
       obtain ⟨ay,gy,cy,ey,ssQ⟩:=((hRn.far (b:=w.heap.size) (i:=0) (by omega) (.slice aP mp.length cP)).far (b:=w.heap.size+1) (i:=0) (by omega) (.slice av nn.length cv)).b.ss
       obtain ⟨rfl,_,rfl⟩:=Value.slice.inj ey
       have ssP:=((snG.far (B:=w.heap.size) (i:=0) (u:=.slice aP mp.length cP) (by omega)).far (B:=w.heap.size+1) (i:=0) (u:=.slice av nn.length cv) (by omega)).ss
       have bF:=(bwG.setCell (p:=⟨w.heap.size,0,none⟩) (Nat.le_refl _) (.slice aP mp.length cP)).setCell (p:=⟨w.heap.size+1,0,none⟩) (by show w.heap.size≤w.heap.size+1;omega) (.slice av nn.length cv)
       exact bodyPost_ret (v:=.tuple #[.agg #[.slice aP mp.length cP],.agg #[.slice av nn.length cv]]) (by simp [results,Tryz.results22,go_sem,e1,e2]) rfl ⟨aP,gP,cP,mp,av,gy,cv,nn,rfl,ssP.below (Below.refl _ _).drew (Nat.le_refl _),ssQ.below (Below.refl _ _).drew (Nat.le_refl _),by omega,by omega,hsP,hns,bF.drew⟩
    ·have hu0:¬ (0:Int) < u:=by omega
     have hRn:=hRG
     have hQ:=hQG
     have hnl:mm.length≤3:=by omega
     have hns:=hmS
     clear hRG hQG hmS
     obtain ⟨nn,hnn⟩:∃ nn,nn=mm:=⟨_,rfl⟩
     subst hnn
     have hsG:=bEG.size
     have hSG:=hS.but bEG (by omega)
     have hTG:=hT.but bEG (by omega)
     have hPG:=hP1.but bEG hP1ne
     have snG:=snP.but bEG (by omega)
     have bwG:=But.below bwF bEG (by omega)
     have x5:=hPG.s.c
     have x6:=hQ.s.c
     have hq1:Q≠w.heap.size:=by omega
     have hq2:Q≠w.heap.size+1:=by omega
     have hp1':P1≠w.heap.size:=by omega
     have hp2':P1≠w.heap.size+1:=by omega
     go_wp2_with fail
     refine wp_region_held_drew (S:=fun w'=>w'.cell? ⟨P1,0,none⟩=some (.slice aP mp.length cP)∧w'.cell? ⟨Q,0,none⟩=some (.slice av nn.length cv)) (by kernel_rfl) (by exact ⟨x5,x6⟩) (fun hH=>?_)
     refine takeD 0 (some 97) (.agg #[.slice aP mp.length cP]) hH rfl rfl (by kernel_rfl) (by kernel_rfl) (by kernel_rfl) (fun _ _ _ h=>h) (Or.inl ⟨by rfl,by intro w' hSw;have hc:=hSw.1;go_simp⟩) ?_
     simp only [Act.put,List.setIfInBounds_toArray,List.set_cons_zero,List.set_cons_succ]
     refine takeD 1 (some 98) (.agg #[.slice av nn.length cv]) hH rfl rfl (by kernel_rfl) (by kernel_rfl) (by kernel_rfl) (fun _ _ _ h=>h) (Or.inl ⟨by rfl,by intro w' hSw;have hc:=hSw.2;go_simp⟩) ?_
     simp only [Act.put,List.setIfInBounds_toArray,List.set_cons_zero,List.set_cons_succ]
     refine wpAnyH_ready (rs:=[2]) (by kernel_rfl) (by simp) ?_
     refine AllReadyH.cons rfl (fun K' hK=>?_) AllReadyH.nil
     have xc:=hSG.c
     have xz:=hSG.fz
     rw [if_pos (by rfl)]
     go_simp
     refine hK.out _ _ ⟨(hPG.s.far (fun e=>hp1' e.symm) _).c,(hQ.s.far (fun e=>hq1 e.symm) _).c⟩ (fun hHa=>?_)
     clear hK K' xc xz
     refine wpAnyH_ready (rs:=[3]) (by kernel_rfl) (by simp) ?_
     refine AllReadyH.cons rfl (fun K' hK=>?_) AllReadyH.nil
     have hTG':=hTG.far (b':=w.heap.size) (i:=0) (by omega) (.slice aP mp.length cP)
     have xc:=hTG'.c
     have xz:=hTG'.fz
     rw [if_pos (by rfl)]
     go_simp
     refine hK.out _ _ ⟨((hPG.s.far (fun e=>hp1' e.symm) _).far (fun e=>hp2' e.symm) _).c,((hQ.s.far (fun e=>hq1 e.symm) _).far (fun e=>hq2 e.symm) _).c⟩ (fun hHb=>?_)
     clear hK K' xc xz
     refine wpAnyH_done (by kernel_rfl) ?_ _
     go_wp2_with fail
     have s1:=(hSG.set (.slice aP mp.length cP)).far (b':=w.heap.size+1) (by omega) (i:=0) (.slice av nn.length cv)
     have s2:=(hTG.far (b':=w.heap.size) (by omega) (i:=0) (.slice aP mp.length cP)).set (.slice av nn.length cv)
     have e1:=s1.c
     have e2:=s2.c
     obtain ⟨ay,gy,cy,ey,ssQ⟩:=((hRn.far (b:=w.heap.size) (i:=0) (by omega) (.slice aP mp.length cP)).far (b:=w.heap.size+1) (i:=0) (by omega) (.slice av nn.length cv)).b.ss
     obtain ⟨rfl,_,rfl⟩:=Value.slice.inj ey
     have ssP:=((snG.far (B:=w.heap.size) (i:=0) (u:=.slice aP mp.length cP) (by omega)).far (B:=w.heap.size+1) (i:=0) (u:=.slice av nn.length cv) (by omega)).ss
     have bF:=(bwG.setCell (p:=⟨w.heap.size,0,none⟩) (Nat.le_refl _) (.slice aP mp.length cP)).setCell (p:=⟨w.heap.size+1,0,none⟩) (by show w.heap.size≤w.heap.size+1;omega) (.slice av nn.length cv)
     exact bodyPost_ret (v:=.tuple #[.agg #[.slice aP mp.length cP],.agg #[.slice av nn.length cv]]) (by simp [results,Tryz.results22,go_sem,e1,e2]) rfl ⟨aP,gP,cP,mp,av,gy,cv,nn,rfl,ssP.below (Below.refl _ _).drew (Nat.le_refl _),ssQ.below (Below.refl _ _).drew (Nat.le_refl _),by omega,by omega,hsP,hns,bF.drew⟩
 ·have hq':(q==0)=false:=by simpa using hq
  have hRF:=hRU
  have hPF:=hPU
  have hrF:=hrU
  have bEF:=bEU
  have hmF:[l].length≤2:=by simp
  have hsF:∀ t∈[l],t.length≤20:=by
   intro t ht
   simp at ht
   rw [ht];exact hl1
  obtain ⟨pF,hpF⟩:∃ pF,pU=pF:=⟨_,rfl⟩
  rw [hpF] at hrF
  have hpF':pF≤pE+200:=by omega
  clear hRU hPU hrU bEU hpF
  have HEQ:Hid ([l].length=1):=rfl
  obtain ⟨vs,hvs⟩:∃ vs,[v]=vs:=⟨_,rfl⟩
  rw [hvs] at hRF
  generalize [l]=mm at *
  rw [← HEQ.out] at hRF hPF
  obtain ⟨vF,hvF⟩:∃ vF,Value.slice (some ⟨N,0,none⟩) mm.length mm.length=vF:=⟨_,rfl⟩
  rw [hvF] at hRF hPF
  obtain ⟨F,hF⟩:∃ F,F=U:=⟨_,rfl⟩
  subst hF
  clear hvF HEQ hvs
  obtain ⟨aP,gP,cP,rfl,snF⟩:=hRF.sn
  clear hRF
  obtain ⟨P1,hP1e⟩:∃ P1,P1=P:=⟨_,rfl⟩
  subst hP1e
  obtain ⟨mp,hmp⟩:∃ mp,mp=mm:=⟨_,rfl⟩
  subst hmp
  have hS:=hS1.but bEF (by omega)
  have hT:=hT1.but bEF (by omega)
  have bwF:=But.below hb1w bEF (by omega)
  have snP:=snF.mono (show w.heap.size+3≤E.heap.size by omega)
  have hP1:=hPF
  have hsP:=hsF
  have hmP:=hmF
  have hP1ge:w.heap.size+3≤P1:=by omega
  have hP1ne:=hPne
  have hsEF:=bEF.size
  obtain ⟨pE2,hpE2⟩:∃ q,q=pF:=⟨_,rfl⟩
  subst hpE2
  have hpE2':pE2≤1200:=by omega
  have hrE2:=hrF
  clear hS1 hT1 hb1w snF hPF hsF hmF hrF bEF hr1 hpE' hpF' hPne hPge hsU hpU'
  obtain ⟨E2,hE2⟩:∃ E2,E2=F:=⟨_,rfl⟩
  subst hE2
  have hsE2:w.heap.size+3≤E2.heap.size:=by omega
  go_wp2_with fail
  refine (l71Thread_any _ _ pE2 3 2 E2 (by omega) (by omega) (by omega) (by omega) (by omega) hrE2).mono ?_
  rintro e u1 ⟨l,v,rfl,ho1,hl1,p1,hp1,hr1,hb1⟩
  obtain ⟨a1_,c1_,rfl⟩:=own_slx ho1
  have hsz1:=hb1.size
  have hRN:=Rdg.lit u1 E2.heap.size (.slice a1_ l.length c1_) l ho1 hsz1
  have bN:=(But.refl (w.heap.size+1+1) u1).alloc (.cells #[.slice a1_ l.length c1_] 53)
  have bP:=bN.alloc (.cells #[.slice (some ⟨u1.heap.size,0,none⟩) 1 1] 25)
  have hRU:=hRN.but ((But.refl (w.heap.size+1+1) _).alloc (.cells #[.slice (some ⟨u1.heap.size,0,none⟩) 1 1] 25)) (by omega)
  have hPU:=PBox.new (u1.alloc (.cells #[.slice a1_ l.length c1_] 53)) (.slice (some ⟨u1.heap.size,0,none⟩) 1 1)
  rw [World.size_alloc] at hPU
  have hrU:=(hr1.alloc (.cells #[.slice a1_ l.length c1_] 53)).alloc (.cells #[.slice (some ⟨u1.heap.size,0,none⟩) 1 1] 25)
  have bEU:=hb1.trans bP
  clear ho1 hr1 hb1 hRN bN bP
  go_wp2_with fail
  generalize (u1.alloc (.cells #[.slice a1_ l.length c1_] 53)).alloc (.cells #[.slice (some ⟨u1.heap.size,0,none⟩) 1 1] 25)=U at *
  obtain ⟨N,hN⟩:∃ N,u1.heap.size=N:=⟨_,rfl⟩
  rw [hN] at hRU hPU hsz1 ⊢
  clear hN
  obtain ⟨P,hPe⟩:∃ P,N+1=P:=⟨_,rfl⟩
  have hPge:E2.heap.size≤P:=by omega
  have hPne:P≠w.heap.size+1+1:=by omega
  rw [hPe] at hPU ⊢
  clear hPe
  generalize Value.slice a1_ l.length c1_=v at *
  refine (pick_rdr _ _ p1 3 U (by omega) (by omega) (by omega) hrU).mono ?_
  rintro e U1 ⟨q,rfl,q0,q1,hrU1,hbU1⟩
  have hRU1:=hRU.but hbU1 (by omega)
  have hPU1:=hPU.but hbU1 hPne
  have bEU1:=bEU.trans hbU1
  clear hRU hPU hrU bEU hbU1
  obtain ⟨U,hU⟩:∃ U,U=U1:=⟨_,rfl⟩
  subst hU
  have hRU:=hRU1
  have hPU:=hPU1
  have hrU:=hrU1
  have bEU:=bEU1
  obtain ⟨pU,hpU⟩:∃ pU,p1+1=pU:=⟨_,rfl⟩
  rw [hpU] at hrU
  have hpU':pU≤pE2+100:=by omega
  clear hRU1 hPU1 hrU1 bEU1 hpU
  have hsU:E2.heap.size≤U.heap.size:=bEU.size
  by_cases hq:q=0
  ·subst hq
   have F5:Hid (∀ (u2:World) (l2:List M.D) (a2_:Option Addr) (c2_ p2:Nat),u2.ownsRow U.drew.heap.size 56 3 (.slice a2_ l2.length c2_) l2.length (flat l2)→Rdr u2 (w.heap.size+1+1) (w.heap.size+1+1) p2→But (w.heap.size+1+1) U u2→∀ (g5 cap5:Nat) (u5:World),u5.ownsRow E2.heap.size 53 1 (.slice (some ⟨g5,0,none⟩) (1+1) cap5) (1+1) ([v]++[.slice a2_ l2.length c2_])→(u2.alloc (.cells #[.slice a2_ l2.length c2_] 53)).grownBy u5 (Value.slice (some ⟨N,0,none⟩) 1 1).ownBlock→Rdg u5 E2.heap.size (.slice (some ⟨g5,0,none⟩) (1+1) cap5) ([l]++[l2]) ([v]++[.slice a2_ l2.length c2_])∧PBox u5 P (.slice (some ⟨N,0,none⟩) 1 1)∧Rdr u5 (w.heap.size+1+1) (w.heap.size+1+1) p2∧But (w.heap.size+1+1) E2 u5):=by
    intro u2 l2 a2_ c2_ p2 ho hr hb g5 cap5 u5 ho5 hg5
    have hal:=below1 u2 (.cells #[.slice a2_ l2.length c2_] 53)
    have hsz2:=hb.size
    have hR2:=(hRU.but hb (by omega)).below hal
    have hge:=own_ge hRU.b.outer
    have hPa:=(hPU.but hb hPne).below hal
    have hne:=hPa.ne hR2.b.outer (by decide)
    refine ⟨hR2.snocT (ownsRow_mono (ownsRow_below ho hal) (by show E2.heap.size≤U.heap.size;omega)) (fun i hi j hj e=>?_) ho5 hg5,hPa.grown hg5 hne,(hr.below hal (Nat.le_refl _)).grown hg5 (fun k hk=>by have:=hge k hk;omega),((bEU.trans hb).alloc _).grown hg5 (fun k hk=>by have:=hge k hk;omega)⟩
    have h1:=((hRU.b.inner i (by have:=hRU.b.len;omega) hi).lt j hj).2
    have h2:U.heap.size≤j:=own_ge ho j e
    omega
   go_wp2_with fail
   go_cut [4] from 32 (fun s4 wc=>s4=.pointer (some ⟨w.heap.size+1+1,0,none⟩)∧∃ l2 v' c' vs' p',p'≤pU+61∧l2.length≤20∧Rdg wc E2.heap.size (.slice (some ⟨v',0,none⟩) (1+1) c') ([l]++[l2]) vs'∧PBox wc P (.slice (some ⟨v',0,none⟩) (1+1) c')∧Rdr wc (w.heap.size+1+1) (w.heap.size+1+1) p'∧But (w.heap.size+1+1) E2 wc)
   case first =>
    refine wp_region_held_drew (S:=fun _=>True) (by kernel_rfl) trivial (fun hH=>?_)
    refine takeD 0 (some 32) (.pointer (some ⟨P,0,none⟩)) hH rfl rfl (by kernel_rfl) (by kernel_rfl) (by kernel_rfl) (fun _ _ _ h=>h) (Or.inl ⟨by rfl,by intro w' hSw;go_simp⟩) ?_
    simp only [Act.put,List.setIfInBounds_toArray,List.set_cons_zero,List.set_cons_succ]
    refine takeD 2 (some 34) (.pointer (some ⟨w.heap.size+1+1,0,none⟩)) hH rfl rfl (by kernel_rfl) (by kernel_rfl) (by kernel_rfl) (fun _ _ _ h=>h) (Or.inl ⟨by rfl,by intro w' hSw;go_simp⟩) ?_
    simp only [Act.put,List.setIfInBounds_toArray,List.set_cons_zero,List.set_cons_succ]
    refine wpAnyH_ready (rs:=[1,3]) (by kernel_rfl) (by simp) ?_
    refine AllReadyH.cons rfl (fun K' hK=>?_) (AllReadyH.cons rfl (fun K' hK=>?_) AllReadyH.nil)
    ·have xx:=hPU.s.c
     rw [if_pos (by rfl)]
     go_simp
     refine hK.out _ _ trivial (fun _=>?_)
     clear hK K' xx
     refine wpAnyH_ready (rs:=[3]) (by kernel_rfl) (by simp) ?_
     refine AllReadyH.cons rfl (fun K' hK=>?_) AllReadyH.nil
     refine step_goV (by rfl) (some 35) rfl 61 #[.tmp 34,.const (.int .i64 2),.const (.int .i64 2)] _ rfl #[.pointer (some ⟨w.heap.size+1+1,0,none⟩),.int .i64 2,.int .i64 2] (by simp [Act.eval]) (fun _ _=>rfl) (l71Thread_any _ _ pU 2 2 U.drew (by omega) (by omega) (by omega) (by omega) (by omega) hrU.drew) ?_
     rintro e u2 ⟨l2,v2,rfl,ho2,hl2,p2,hp2,hr2,hb2⟩
     obtain ⟨a2_,c2_,rfl⟩:=own_slx ho2
     have hb2':But (w.heap.size+1+1) U u2:=(But.refl _ _).drew.trans hb2
     have hP2:=hPU.but hb2' hPne
     have hR2:=hRU.but hb2' (by omega)
     refine ⟨_,rfl,?_⟩
     simp only [Act.put,List.setIfInBounds_toArray,List.set_cons_zero,List.set_cons_succ]
     refine hK.out _ _ trivial (fun _=>?_)
     clear hK K'
     have hP2a:=hP2.below (below1 u2 (.cells #[.slice a2_ l2.length c2_] 53))
     refine wpAnyH_ready (rs:=[4]) (by kernel_rfl) (by simp) ?_
     refine AllReadyH.cons rfl (fun K' hK=>?_) AllReadyH.nil
     rw [if_pos (by rfl)]
     go_simp
     refine hK.out _ _ trivial (fun _=>?_)
     clear hK K'
     refine wpAnyH_ready (rs:=[5]) (by kernel_rfl) (by simp) ?_
     refine AllReadyH.cons rfl (fun K' hK=>?_) AllReadyH.nil
     refine step_append_lies _ (by rfl) (.tmp 33) (.tmp 36) 23 (by rfl) E2.heap.size 53 i0 _ 1 24 Tryz.underlying23 hi hz0 hz1 hz2 rfl (by decide) (.slice (some ⟨N,0,none⟩) 1 1) 1 [v] (by rfl) ((hR2.b.outer).alloc _) ⟨u2.heap.size,0,none⟩ 1 1 [.slice a2_ l2.length c2_] (by rfl) (by rfl) (World.news_of_block (cs:=#[.slice a2_ l2.length c2_]) (t:=53) (fr:=(0,0)) (heap_alloc_new u2 _)) (by simp [Value.oneCell']) (by omega) (by unfold maxLen;omega) (by omega) (by have:=hb2'.size;simp;omega) (u2.heap.size+1) (by simp) ?_
     intro g5 cap5 u5 hown5 hg5 hat5 hlt5
     obtain ⟨hR5,hP5,hr5,hb5⟩:=F5.out u2 l2 a2_ c2_ p2 ho2 hr2 hb2' g5 cap5 u5 hown5 hg5
     simp only [Act.put,List.setIfInBounds_toArray,List.set_cons_zero,List.set_cons_succ]
     refine hK.out _ _ trivial (fun hH5=>?_)
     clear hK K'
     refine takeD 6 (some 38) (.pointer (some ⟨P,0,none⟩)) hH5 rfl rfl (by kernel_rfl) (by kernel_rfl) (by kernel_rfl) (fun _ _ _ h=>h) (Or.inl ⟨by rfl,by intro w' hSw;go_simp⟩) ?_
     simp only [Act.put,List.setIfInBounds_toArray,List.set_cons_zero,List.set_cons_succ]
     refine wpAnyH_ready (rs:=[7]) (by kernel_rfl) (by simp) ?_
     refine AllReadyH.cons rfl (fun K' hK=>?_) AllReadyH.nil
     have xc:=hP5.s.c
     have xz:=hP5.s.fz
     rw [if_pos (by rfl)]
     go_simp
     refine hK.out _ _ trivial (fun _=>?_)
     clear hK K'
     refine wpAnyH_done (by kernel_rfl) ?_ _
     clear xc xz
     go_wp2_with fail
     go_meet
     case rel=>exact ⟨rfl,l2,_,_,_,p2,hp2,hl2,hR5.box hP5 _,hP5.set _,hr5.setCell (by omega) (by omega) _,hb5.setCell (Or.inl (by omega)) _⟩
    ·refine step_goV (by rfl) (some 35) rfl 61 #[.tmp 34,.const (.int .i64 2),.const (.int .i64 2)] _ rfl #[.pointer (some ⟨w.heap.size+1+1,0,none⟩),.int .i64 2,.int .i64 2] (by simp [Act.eval]) (fun _ _=>rfl) (l71Thread_any _ _ pU 2 2 U.drew (by omega) (by omega) (by omega) (by omega) (by omega) hrU.drew) ?_
     rintro e u2 ⟨l2,v2,rfl,ho2,hl2,p2,hp2,hr2,hb2⟩
     obtain ⟨a2_,c2_,rfl⟩:=own_slx ho2
     have hb2':But (w.heap.size+1+1) U u2:=(But.refl _ _).drew.trans hb2
     have hP2:=hPU.but hb2' hPne
     have hR2:=hRU.but hb2' (by omega)
     refine ⟨_,rfl,?_⟩
     simp only [Act.put,List.setIfInBounds_toArray,List.set_cons_zero,List.set_cons_succ]
     refine hK.out _ _ trivial (fun _=>?_)
     clear hK K'
     have hP2a:=hP2.below (below1 u2 (.cells #[.slice a2_ l2.length c2_] 53))
     refine wpAnyH_ready (rs:=[1,4]) (by kernel_rfl) (by simp) ?_
     refine AllReadyH.cons rfl (fun K' hK=>?_) (AllReadyH.cons rfl (fun K' hK=>?_) AllReadyH.nil)
     ·have xx:=hP2.s.c
      rw [if_pos (by rfl)]
      go_simp
      refine hK.out _ _ trivial (fun _=>?_)
      clear hK K' xx
      refine wpAnyH_ready (rs:=[4]) (by kernel_rfl) (by simp) ?_
      refine AllReadyH.cons rfl (fun K' hK=>?_) AllReadyH.nil
      rw [if_pos (by rfl)]
      go_simp
      refine hK.out _ _ trivial (fun _=>?_)
      clear hK K'
      refine wpAnyH_ready (rs:=[5]) (by kernel_rfl) (by simp) ?_
      refine AllReadyH.cons rfl (fun K' hK=>?_) AllReadyH.nil
      refine step_append_lies _ (by rfl) (.tmp 33) (.tmp 36) 23 (by rfl) E2.heap.size 53 i0 _ 1 24 Tryz.underlying23 hi hz0 hz1 hz2 rfl (by decide) (.slice (some ⟨N,0,none⟩) 1 1) 1 [v] (by rfl) ((hR2.b.outer).alloc _) ⟨u2.heap.size,0,none⟩ 1 1 [.slice a2_ l2.length c2_] (by rfl) (by rfl) (World.news_of_block (cs:=#[.slice a2_ l2.length c2_]) (t:=53) (fr:=(0,0)) (heap_alloc_new u2 _)) (by simp [Value.oneCell']) (by omega) (by unfold maxLen;omega) (by omega) (by have:=hb2'.size;simp;omega) (u2.heap.size+1) (by simp) ?_
      intro g5 cap5 u5 hown5 hg5 hat5 hlt5
      obtain ⟨hR5,hP5,hr5,hb5⟩:=F5.out u2 l2 a2_ c2_ p2 ho2 hr2 hb2' g5 cap5 u5 hown5 hg5
      simp only [Act.put,List.setIfInBounds_toArray,List.set_cons_zero,List.set_cons_succ]
      refine hK.out _ _ trivial (fun hH5=>?_)
      clear hK K'
      refine takeD 6 (some 38) (.pointer (some ⟨P,0,none⟩)) hH5 rfl rfl (by kernel_rfl) (by kernel_rfl) (by kernel_rfl) (fun _ _ _ h=>h) (Or.inl ⟨by rfl,by intro w' hSw;go_simp⟩) ?_
      simp only [Act.put,List.setIfInBounds_toArray,List.set_cons_zero,List.set_cons_succ]
      refine wpAnyH_ready (rs:=[7]) (by kernel_rfl) (by simp) ?_
      refine AllReadyH.cons rfl (fun K' hK=>?_) AllReadyH.nil
      have xc:=hP5.s.c
      have xz:=hP5.s.fz
      rw [if_pos (by rfl)]
      go_simp
      refine hK.out _ _ trivial (fun _=>?_)
      clear hK K'
      refine wpAnyH_done (by kernel_rfl) ?_ _
      clear xc xz
      go_wp2_with fail
      go_meet
      case rel=>exact ⟨rfl,l2,_,_,_,p2,hp2,hl2,hR5.box hP5 _,hP5.set _,hr5.setCell (by omega) (by omega) _,hb5.setCell (Or.inl (by omega)) _⟩
     ·rw [if_pos (by rfl)]
      go_simp
      refine hK.out _ _ trivial (fun _=>?_)
      clear hK K'
      refine wpAnyH_ready (rs:=[1]) (by kernel_rfl) (by simp) ?_
      refine AllReadyH.cons rfl (fun K' hK=>?_) AllReadyH.nil
      have xx:=hP2a.s.c
      rw [if_pos (by rfl)]
      go_simp
      refine hK.out _ _ trivial (fun _=>?_)
      clear hK K' xx
      refine wpAnyH_ready (rs:=[5]) (by kernel_rfl) (by simp) ?_
      refine AllReadyH.cons rfl (fun K' hK=>?_) AllReadyH.nil
      refine step_append_lies _ (by rfl) (.tmp 33) (.tmp 36) 23 (by rfl) E2.heap.size 53 i0 _ 1 24 Tryz.underlying23 hi hz0 hz1 hz2 rfl (by decide) (.slice (some ⟨N,0,none⟩) 1 1) 1 [v] (by rfl) ((hR2.b.outer).alloc _) ⟨u2.heap.size,0,none⟩ 1 1 [.slice a2_ l2.length c2_] (by rfl) (by rfl) (World.news_of_block (cs:=#[.slice a2_ l2.length c2_]) (t:=53) (fr:=(0,0)) (heap_alloc_new u2 _)) (by simp [Value.oneCell']) (by omega) (by unfold maxLen;omega) (by omega) (by have:=hb2'.size;simp;omega) (u2.heap.size+1) (by simp) ?_
      intro g5 cap5 u5 hown5 hg5 hat5 hlt5
      obtain ⟨hR5,hP5,hr5,hb5⟩:=F5.out u2 l2 a2_ c2_ p2 ho2 hr2 hb2' g5 cap5 u5 hown5 hg5
      simp only [Act.put,List.setIfInBounds_toArray,List.set_cons_zero,List.set_cons_succ]
      refine hK.out _ _ trivial (fun hH5=>?_)
      clear hK K'
      refine takeD 6 (some 38) (.pointer (some ⟨P,0,none⟩)) hH5 rfl rfl (by kernel_rfl) (by kernel_rfl) (by kernel_rfl) (fun _ _ _ h=>h) (Or.inl ⟨by rfl,by intro w' hSw;go_simp⟩) ?_
      simp only [Act.put,List.setIfInBounds_toArray,List.set_cons_zero,List.set_cons_succ]
      refine wpAnyH_ready (rs:=[7]) (by kernel_rfl) (by simp) ?_
      refine AllReadyH.cons rfl (fun K' hK=>?_) AllReadyH.nil
      have xc:=hP5.s.c
      have xz:=hP5.s.fz
      rw [if_pos (by rfl)]
      go_simp
      refine hK.out _ _ trivial (fun _=>?_)
      clear hK K'
      refine wpAnyH_done (by kernel_rfl) ?_ _
      clear xc xz
      go_wp2_with fail
      go_meet
      case rel=>exact ⟨rfl,l2,_,_,_,p2,hp2,hl2,hR5.box hP5 _,hP5.set _,hr5.setCell (by omega) (by omega) _,hb5.setCell (Or.inl (by omega)) _⟩
   case rest =>
    obtain ⟨rfl,l2,g5,cap5,vs,pF,hpF,hl2,hRF,hPF,hrF,bEF⟩:=hcut
    generalize wc=F at *
    have hmF:([l]++[l2]).length≤2:=by simp
    have hsF:∀ t∈[l]++[l2],t.length≤20:=by
     intro t ht
     simp at ht
     rcases ht with rfl | rfl
     ·exact hl1
     ·exact hl2
    have hpF':pF≤pE2+200:=by omega
    clear F5 hRU hPU hrU bEU
    have HEQ:Hid (([l]++[l2]).length=1+1):=rfl
    generalize [l]++[l2]=mm at *
    rw [← HEQ.out] at hRF hPF
    obtain ⟨vF,hvF⟩:∃ vF,Value.slice (some ⟨g5,0,none⟩) mm.length cap5=vF:=⟨_,rfl⟩
    rw [hvF] at hRF hPF
    clear hvF HEQ
    obtain ⟨av,gv0,cv,rfl,_⟩:=hRF.b.ss
    obtain ⟨Q,hQe⟩:∃ Q,Q=P:=⟨_,rfl⟩
    subst hQe
    go_wp2_with fail
    refine (pick_rdr _ _ pF 6 F (by omega) (by omega) (by omega) hrF).mono ?_
    rintro e G ⟨u,rfl,u0,u1,hrG,hbG⟩
    have hRG:=hRF.but hbG (by omega)
    have hQG:=hPF.but hbG (by omega)
    have bEG:=bEF.trans hbG
    have hmS:=hsF
    have hsQ:E2.heap.size≤Q:=by omega
    clear hRF hPF bEF hbG hrG hrF hsF
    by_cases hu:0 < u
    ·have hu0:(0:Int) < u:=by omega
     go_wp2_with fail
     go_loopw [7] (fun s7 wr=>∃ n:Nat,s7=.int .i64 n∧n≤mm.length∧Rdg wr E2.heap.size (.slice av mm.length cv) (M.cur M.incF n 0 mm) vs∧PBox wr Q (.slice av mm.length cv)∧But (w.heap.size+1+1) E2 wr) (fun s7 _=>mm.length - (intOf s7).toNat)
     case atStart=>exact ⟨0,rfl,Nat.zero_le _,by rw [M.cur_zero];exact hRG,hQG,bEG⟩
     case round =>
      clear hRG hQG bEG
      obtain ⟨n,rfl,hn,hR,hQ,bE1⟩:=hrel
      have xq:=hQ.s.c
      by_cases hlt:n < mm.length
      ·have hR':=hR
       rw [← M.cur_len M.incF n 0 mm] at hR'
       obtain ⟨gv,rfl,hv,hc⟩:=hR'.outer_at (n:=n) (by rw [M.cur_len];exact hlt)
       obtain ⟨a',c',e1,hin⟩:=hR.cur_at hlt hv
       have i1:(n:Int) < mm.length:=by omega
       have hmm3:mm.length≤3:=by omega
       have HO:Hid (∀ (k:Nat) (W:World),Rdg W E2.heap.size (.slice (some ⟨gv,0,none⟩) mm.length cv) (M.cur M.incF n k mm) vs→W.cell? ⟨gv,n,none⟩=some (.slice a' mm[n].length c')):=by
        intro k W hr
        have hr':=hr
        rw [← M.cur_len M.incF n k mm] at hr'
        obtain ⟨gv2,e2,hv2,hc2⟩:=hr'.outer_at (n:=n) (by rw [M.cur_len];exact hlt)
        obtain rfl:gv=gv2:=by simpa using e2
        rw [hc2,e1]
       have HS:Hid (∀ (k g:Nat) (W W':World) (hk:k < mm[n].length),a'=some ⟨g,0,none⟩→Rdg W E2.heap.size (.slice (some ⟨gv,0,none⟩) mm.length cv) (M.cur M.incF n k mm) vs→Chg W W' g (k * 3) mm[n][k] (M.incF mm[n][k])→Rdg W' E2.heap.size (.slice (some ⟨gv,0,none⟩) mm.length cv) (M.cur M.incF n (k+1) mm) vs∧W.grownBy W' (some g)∧E2.heap.size≤g):=by
        intro k g W W' hk ha hr hch
        subst ha
        exact hr.step hlt hk hv e1 hch
       have HA:Hid (∀ (k:Nat) (W:World),Rdg W E2.heap.size (.slice (some ⟨gv,0,none⟩) mm.length cv) (M.cur M.incF n k mm) vs→∀ hk:k < mm[n].length,∃ g,a'=some ⟨g,0,none⟩∧E2.heap.size≤g∧DoAt W g (k * 3) mm[n][k]∧∀ i,W.frozen? ⟨g,i,none⟩=false):=by
        intro k W hr hk
        obtain ⟨a2,c2,e2,h2⟩:=hr.cur_at hlt hv
        rw [e1] at e2
        obtain ⟨rfl,_,rfl⟩:=Value.slice.inj e2
        exact h2 hk
       have HQN:Hid (∀ (k g:Nat) (W:World),a'=some ⟨g,0,none⟩→Rdg W E2.heap.size (.slice (some ⟨gv,0,none⟩) mm.length cv) (M.cur M.incF n k mm) vs→PBox W Q (.slice (some ⟨gv,0,none⟩) mm.length cv)→g≠Q∧g≠gv):=by
        intro k g W ha hr hq
        subst ha
        have hi:=hr.b.inner n (by rw [M.cur_len];exact hlt) hv
        refine ⟨fun e=>?_,fun e=>?_⟩
        ·exact hq.ne hi (by decide) (by rw [e1,e];rfl)
        ·rcases own_apart hi hr.b.outer (by decide) with e2 | e2
         ·rw [e1] at e2;simp [Value.ownBlock] at e2
         ·rw [e1] at e2;simp [Value.ownBlock] at e2;exact e2 e
       have HN:Hid (∀ k,mm[n].length≤k→M.cur M.incF n k mm=M.cur M.incF (n+1) 0 mm):=fun k hk=>M.cur_next M.incF n k mm hlt hk
       have ht20:=hmS _ (List.getElem_mem hlt)
       clear hin e1 hR' hc
       generalize mm[n]=t at *
       go_wp2_with fail
       clear xq
       go_loopw [8] (fun s8 wi=>∃ k:Nat,s8=.int .i64 k∧k≤t.length∧Rdg wi E2.heap.size (.slice (some ⟨gv,0,none⟩) mm.length cv) (M.cur M.incF n k mm) vs∧PBox wi Q (.slice (some ⟨gv,0,none⟩) mm.length cv)∧But (w.heap.size+1+1) E2 wi) (fun s8 _=>t.length - (intOf s8).toNat)
       case atStart=>exact ⟨0,rfl,Nat.zero_le _,hR,hQ,bE1⟩
       case round =>
        clear hR hQ bE1
        obtain ⟨k,rfl,hk,hR,hQ,bE1⟩:=hrel
        have xq:=hQ.s.c
        have xo:=HO.out k _ hR
        have lQ:=hQ.s.lt
        have lo:gv < wr.heap.size:=World.block_lt_of_cell? _ _ xo
        by_cases hkt:k < t.length
        ·obtain ⟨g,rfl,hg,hd,hf⟩:=HA.out k _ hR hkt
         obtain ⟨hgQ,hggv⟩:=HQN.out k g _ rfl hR hQ
         have j1:(k:Int) < t.length:=by omega
         have HS1:Hid (∀ W W',Rdg W E2.heap.size (.slice (some ⟨gv,0,none⟩) mm.length cv) (M.cur M.incF n k mm) vs→Chg W W' g (k * 3) t[k] (M.incF t[k])→Rdg W' E2.heap.size (.slice (some ⟨gv,0,none⟩) mm.length cv) (M.cur M.incF n (k+1) mm) vs∧W.grownBy W' (some g)∧E2.heap.size≤g):=fun W W' hr hch=>HS.out k g W W' hkt rfl hr hch
         generalize t[k]=dd at *
         obtain ⟨kk,pp,vv⟩:=dd
         obtain ⟨ck,cp,cv'⟩:=hd
         have lg:g < wr.heap.size:=World.block_lt_of_cell? _ _ ck
         have hRD:M.uses kk=(M.reads kk||M.writes kk):=rfl
         cases hu1:M.reads kk
         ·cases hu2:M.writes kk
          ·have hu:M.uses kk=false:=by rw [hRD,hu1,hu2];rfl
           have r:=HS1.out wr wr hR ⟨0,Or.inl ⟨rfl,by unfold M.incF;rw [show M.uses (M.D.mk kk pp vv).k=false from hu];rfl⟩⟩
           clear HS1 hRD hu
           go_wp2_with (first | (go_at_call 34;refine (l1Reads_any ⟨_,_,_⟩ _).mono ?_;rw [hu1];rintro e W5 ⟨rfl,rfl⟩) | (go_at_call 35;refine (l1Writes_any ⟨_,_,_⟩ _).mono ?_;rw [hu2];rintro e W6 ⟨rfl,rfl⟩))
           exact ⟨⟨k+1,by go_num,by omega,r.1.below (below2 _ _ _),hQ.below (below2 _ _ _),(bE1.alloc _).alloc _⟩,by simp [intOf];omega⟩
          ·have hu:M.uses kk=true:=by rw [hRD,hu1,hu2];rfl
           clear hRD
           go_wp2_with (first | (go_at_call 34;refine (l1Reads_any ⟨_,_,_⟩ _).mono ?_;rw [hu1];rintro e W5 ⟨rfl,rfl⟩) | (go_at_call 35;refine (l1Writes_any ⟨_,_,_⟩ _).mono ?_;rw [hu2];rintro e W6 ⟨rfl,rfl⟩))
           have b5:=below2 wr (.cells #[.int .i64 kk,.int .i64 pp,.int .i64 vv] 56) (.cells #[.int .i64 kk,.int .i64 pp,.int .i64 vv] 56)
           have bE5:=(bE1.alloc (.cells #[.int .i64 kk,.int .i64 pp,.int .i64 vv] 56)).alloc (.cells #[.int .i64 kk,.int .i64 pp,.int .i64 vv] 56)
           generalize (wr.alloc (.cells #[.int .i64 kk,.int .i64 pp,.int .i64 vv] 56)).alloc (.cells #[.int .i64 kk,.int .i64 pp,.int .i64 vv] 56)=W5 at *
           have hR5:=hR.below b5
           have hQ5:=hQ.below b5
           have q5:=hQ5.s.c
           have o5:=(b5.cell (p:=⟨gv,n,none⟩) lo).trans xo
           have p5:=(b5.cell (p:=⟨g,k * 3+1,none⟩) lg).trans cp
           have f5:∀ i,W5.frozen? ⟨g,i,none⟩=false:=fun i=>(b5.frozen (p:=⟨g,i,none⟩) lg).trans (hf i)
           have r:=HS1.out W5 ((W5.setCell ⟨g,k * 3+1,none⟩ (.int .i64 (wrap64 (pp+1)))).drew) hR5 ⟨1,Or.inr (Or.inr (Or.inl ⟨by unfold M.incF;rw [if_pos (show M.uses (M.D.mk kk pp vv).k=true from hu)];rfl,by unfold M.incF;rw [if_pos (show M.uses (M.D.mk kk pp vv).k=true from hu)],by unfold M.incF;rw [if_pos (show M.uses (M.D.mk kk pp vv).k=true from hu)]⟩))⟩
           have hQ6:=hQ5.grown r.2.1 (fun e=>hgQ (Option.some.inj e))
           have bE6:=bE5.grown r.2.1 (fun j hj=>by have:g=j:=Option.some.inj hj;omega)
           obtain ⟨r1,_,_⟩:=r
           clear xq xo ck cp cv' HS1 hR hQ bE1 hf lo lg lQ
           refine wp_region_held_drew (S:=fun w'=>w'.cell? ⟨Q,0,none⟩=some (.slice (some ⟨gv,0,none⟩) mm.length cv)∧w'.cell? ⟨gv,n,none⟩=some (.slice (some ⟨g,0,none⟩) t.length c')) (by kernel_rfl) (by exact ⟨q5,o5⟩) (fun hH=>?_)
           refine takeD 0 (some 79) (.pointer (some ⟨Q,0,none⟩)) hH rfl rfl (by kernel_rfl) (by kernel_rfl) (by kernel_rfl) (fun _ _ _ h=>h) (Or.inl ⟨by rfl,by intro w' hSw;go_simp⟩) ?_
           simp only [Act.put,List.setIfInBounds_toArray,List.set_cons_zero,List.set_cons_succ]
           refine takeD 1 (some 80) (.slice (some ⟨gv,0,none⟩) mm.length cv) hH rfl rfl (by kernel_rfl) (by kernel_rfl) (by kernel_rfl) (fun _ _ _ h=>h) (Or.inl ⟨by rfl,by intro w' hSw;have hc:=hSw.1;go_simp⟩) ?_
           simp only [Act.put,List.setIfInBounds_toArray,List.set_cons_zero,List.set_cons_succ]
           refine takeD 2 (some 81) (.int .i64 n) hH rfl rfl (by kernel_rfl) (by kernel_rfl) (by kernel_rfl) (fun _ _ _ h=>h) (Or.inl ⟨by rfl,by intro w' hSw;go_simp⟩) ?_
           simp only [Act.put,List.setIfInBounds_toArray,List.set_cons_zero,List.set_cons_succ]
           refine takeD 3 (some 82) (.pointer (some ⟨gv,n,none⟩)) hH rfl rfl (by kernel_rfl) (by kernel_rfl) (by kernel_rfl) (fun _ _ _ h=>h) (Or.inl ⟨by rfl,by intro w' hSw;go_simp⟩) ?_
           simp only [Act.put,List.setIfInBounds_toArray,List.set_cons_zero,List.set_cons_succ]
           refine takeD 4 (some 83) (.slice (some ⟨g,0,none⟩) t.length c') hH rfl rfl (by kernel_rfl) (by kernel_rfl) (by kernel_rfl) (fun _ _ _ h=>h) (Or.inl ⟨by rfl,by intro w' hSw;have hc:=hSw.2;go_simp⟩) ?_
           simp only [Act.put,List.setIfInBounds_toArray,List.set_cons_zero,List.set_cons_succ]
           refine takeD 5 (some 84) (.int .i64 k) hH rfl rfl (by kernel_rfl) (by kernel_rfl) (by kernel_rfl) (fun _ _ _ h=>h) (Or.inl ⟨by rfl,by intro w' hSw;go_simp⟩) ?_
           simp only [Act.put,List.setIfInBounds_toArray,List.set_cons_zero,List.set_cons_succ]
           refine takeD 6 (some 85) (.pointer (some ⟨Q,0,none⟩)) hH rfl rfl (by kernel_rfl) (by kernel_rfl) (by kernel_rfl) (fun _ _ _ h=>h) (Or.inl ⟨by rfl,by intro w' hSw;go_simp⟩) ?_
           simp only [Act.put,List.setIfInBounds_toArray,List.set_cons_zero,List.set_cons_succ]
           refine takeD 7 (some 86) (.slice (some ⟨gv,0,none⟩) mm.length cv) hH rfl rfl (by kernel_rfl) (by kernel_rfl) (by kernel_rfl) (fun _ _ _ h=>h) (Or.inl ⟨by rfl,by intro w' hSw;have hc:=hSw.1;go_simp⟩) ?_
           simp only [Act.put,List.setIfInBounds_toArray,List.set_cons_zero,List.set_cons_succ]
           refine takeD 8 (some 87) (.int .i64 n) hH rfl rfl (by kernel_rfl) (by kernel_rfl) (by kernel_rfl) (fun _ _ _ h=>h) (Or.inl ⟨by rfl,by intro w' hSw;go_simp⟩) ?_
           simp only [Act.put,List.setIfInBounds_toArray,List.set_cons_zero,List.set_cons_succ]
           refine takeD 9 (some 88) (.pointer (some ⟨gv,n,none⟩)) hH rfl rfl (by kernel_rfl) (by kernel_rfl) (by kernel_rfl) (fun _ _ _ h=>h) (Or.inl ⟨by rfl,by intro w' hSw;go_simp⟩) ?_
           simp only [Act.put,List.setIfInBounds_toArray,List.set_cons_zero,List.set_cons_succ]
           refine takeD 10 (some 89) (.slice (some ⟨g,0,none⟩) t.length c') hH rfl rfl (by kernel_rfl) (by kernel_rfl) (by kernel_rfl) (fun _ _ _ h=>h) (Or.inl ⟨by rfl,by intro w' hSw;have hc:=hSw.2;go_simp⟩) ?_
           simp only [Act.put,List.setIfInBounds_toArray,List.set_cons_zero,List.set_cons_succ]
           refine takeD 11 (some 90) (.int .i64 k) hH rfl rfl (by kernel_rfl) (by kernel_rfl) (by kernel_rfl) (fun _ _ _ h=>h) (Or.inl ⟨by rfl,by intro w' hSw;go_simp⟩) ?_
           simp only [Act.put,List.setIfInBounds_toArray,List.set_cons_zero,List.set_cons_succ]
           refine takeD 12 (some 91) (.pointer (some ⟨g,k * 3,none⟩)) hH rfl rfl (by kernel_rfl) (by kernel_rfl) (by kernel_rfl) (fun _ _ _ h=>h) (Or.inl ⟨by rfl,by intro w' hSw;go_simp⟩) ?_
           simp only [Act.put,List.setIfInBounds_toArray,List.set_cons_zero,List.set_cons_succ]
           refine takeD 13 (some 92) (.pointer (some ⟨g,k * 3+1,none⟩)) hH rfl rfl (by kernel_rfl) (by kernel_rfl) (by kernel_rfl) (fun _ _ _ h=>h) (Or.inl ⟨by rfl,by intro w' hSw;go_simp⟩) ?_
           simp only [Act.put,List.setIfInBounds_toArray,List.set_cons_zero,List.set_cons_succ]
           refine wpAnyH_ready (rs:=[14]) (by kernel_rfl) (by simp) ?_
           refine AllReadyH.cons rfl (fun K' hK=>?_) AllReadyH.nil
           have xx:=p5
           rw [if_pos (by rfl)]
           go_simp
           refine hK.out _ _ hH (fun _=>?_)
           clear hK K' xx
           refine takeD 15 (some 94) (.int .i64 (wrap64 (pp+1))) hH rfl rfl (by kernel_rfl) (by kernel_rfl) (by kernel_rfl) (fun _ _ _ h=>h) (Or.inl ⟨by rfl,by intro w' hSw;go_simp;exact wrap_eq64 _⟩) ?_
           simp only [Act.put,List.setIfInBounds_toArray,List.set_cons_zero,List.set_cons_succ]
           refine takeD 16 (some 95) (.pointer (some ⟨g,k * 3,none⟩)) hH rfl rfl (by kernel_rfl) (by kernel_rfl) (by kernel_rfl) (fun _ _ _ h=>h) (Or.inl ⟨by rfl,by intro w' hSw;go_simp⟩) ?_
           simp only [Act.put,List.setIfInBounds_toArray,List.set_cons_zero,List.set_cons_succ]
           refine takeD 17 (some 96) (.pointer (some ⟨g,k * 3+1,none⟩)) hH rfl rfl (by kernel_rfl) (by kernel_rfl) (by kernel_rfl) (fun _ _ _ h=>h) (Or.inl ⟨by rfl,by intro w' hSw;go_simp⟩) ?_
           simp only [Act.put,List.setIfInBounds_toArray,List.set_cons_zero,List.set_cons_succ]
           refine wpAnyH_ready (rs:=[18]) (by kernel_rfl) (by simp) ?_
           refine AllReadyH.cons rfl (fun K' hK=>?_) AllReadyH.nil
           have xc:=p5
           have xz:=f5 (k * 3+1)
           rw [if_pos (by rfl)]
           go_simp
           refine hK.out _ _ ⟨(World.cell?_setCell_other _ _ _ _ (fun e=>hgQ (congrArg Addr.block e))).trans hH.1,(World.cell?_setCell_other _ _ _ _ (fun e=>hggv (congrArg Addr.block e))).trans hH.2⟩ (fun _=>?_)
           clear hK K'
           refine wpAnyH_done (by kernel_rfl) ?_ _
           clear xc xz
           go_wp2_with fail
           exact ⟨⟨k+1,by go_num,by omega,r1,hQ6,bE6⟩,by simp [intOf];omega⟩
         ·have hu:M.uses kk=true:=by rw [hRD,hu1];rfl
          clear hRD
          go_wp2_with (first | (go_at_call 34;refine (l1Reads_any ⟨_,_,_⟩ _).mono ?_;rw [hu1];rintro e W5 ⟨rfl,rfl⟩))
          have b5:=below1 wr (.cells #[.int .i64 kk,.int .i64 pp,.int .i64 vv] 56)
          have bE5:=bE1.alloc (.cells #[.int .i64 kk,.int .i64 pp,.int .i64 vv] 56)
          generalize wr.alloc (.cells #[.int .i64 kk,.int .i64 pp,.int .i64 vv] 56)=W5 at *
          have hR5:=hR.below b5
          have hQ5:=hQ.below b5
          have q5:=hQ5.s.c
          have o5:=(b5.cell (p:=⟨gv,n,none⟩) lo).trans xo
          have p5:=(b5.cell (p:=⟨g,k * 3+1,none⟩) lg).trans cp
          have f5:∀ i,W5.frozen? ⟨g,i,none⟩=false:=fun i=>(b5.frozen (p:=⟨g,i,none⟩) lg).trans (hf i)
          have r:=HS1.out W5 ((W5.setCell ⟨g,k * 3+1,none⟩ (.int .i64 (wrap64 (pp+1)))).drew) hR5 ⟨1,Or.inr (Or.inr (Or.inl ⟨by unfold M.incF;rw [if_pos (show M.uses (M.D.mk kk pp vv).k=true from hu)];rfl,by unfold M.incF;rw [if_pos (show M.uses (M.D.mk kk pp vv).k=true from hu)],by unfold M.incF;rw [if_pos (show M.uses (M.D.mk kk pp vv).k=true from hu)]⟩))⟩
          have hQ6:=hQ5.grown r.2.1 (fun e=>hgQ (Option.some.inj e))
          have bE6:=bE5.grown r.2.1 (fun j hj=>by have:g=j:=Option.some.inj hj;omega)
          obtain ⟨r1,_,_⟩:=r
          clear xq xo ck cp cv' HS1 hR hQ bE1 hf lo lg lQ
          refine wp_region_held_drew (S:=fun w'=>w'.cell? ⟨Q,0,none⟩=some (.slice (some ⟨gv,0,none⟩) mm.length cv)∧w'.cell? ⟨gv,n,none⟩=some (.slice (some ⟨g,0,none⟩) t.length c')) (by kernel_rfl) (by exact ⟨q5,o5⟩) (fun hH=>?_)
          refine takeD 0 (some 79) (.pointer (some ⟨Q,0,none⟩)) hH rfl rfl (by kernel_rfl) (by kernel_rfl) (by kernel_rfl) (fun _ _ _ h=>h) (Or.inl ⟨by rfl,by intro w' hSw;go_simp⟩) ?_
          simp only [Act.put,List.setIfInBounds_toArray,List.set_cons_zero,List.set_cons_succ]
          refine takeD 1 (some 80) (.slice (some ⟨gv,0,none⟩) mm.length cv) hH rfl rfl (by kernel_rfl) (by kernel_rfl) (by kernel_rfl) (fun _ _ _ h=>h) (Or.inl ⟨by rfl,by intro w' hSw;have hc:=hSw.1;go_simp⟩) ?_
          simp only [Act.put,List.setIfInBounds_toArray,List.set_cons_zero,List.set_cons_succ]
          refine takeD 2 (some 81) (.int .i64 n) hH rfl rfl (by kernel_rfl) (by kernel_rfl) (by kernel_rfl) (fun _ _ _ h=>h) (Or.inl ⟨by rfl,by intro w' hSw;go_simp⟩) ?_
          simp only [Act.put,List.setIfInBounds_toArray,List.set_cons_zero,List.set_cons_succ]
          refine takeD 3 (some 82) (.pointer (some ⟨gv,n,none⟩)) hH rfl rfl (by kernel_rfl) (by kernel_rfl) (by kernel_rfl) (fun _ _ _ h=>h) (Or.inl ⟨by rfl,by intro w' hSw;go_simp⟩) ?_
          simp only [Act.put,List.setIfInBounds_toArray,List.set_cons_zero,List.set_cons_succ]
          refine takeD 4 (some 83) (.slice (some ⟨g,0,none⟩) t.length c') hH rfl rfl (by kernel_rfl) (by kernel_rfl) (by kernel_rfl) (fun _ _ _ h=>h) (Or.inl ⟨by rfl,by intro w' hSw;have hc:=hSw.2;go_simp⟩) ?_
          simp only [Act.put,List.setIfInBounds_toArray,List.set_cons_zero,List.set_cons_succ]
          refine takeD 5 (some 84) (.int .i64 k) hH rfl rfl (by kernel_rfl) (by kernel_rfl) (by kernel_rfl) (fun _ _ _ h=>h) (Or.inl ⟨by rfl,by intro w' hSw;go_simp⟩) ?_
          simp only [Act.put,List.setIfInBounds_toArray,List.set_cons_zero,List.set_cons_succ]
          refine takeD 6 (some 85) (.pointer (some ⟨Q,0,none⟩)) hH rfl rfl (by kernel_rfl) (by kernel_rfl) (by kernel_rfl) (fun _ _ _ h=>h) (Or.inl ⟨by rfl,by intro w' hSw;go_simp⟩) ?_
          simp only [Act.put,List.setIfInBounds_toArray,List.set_cons_zero,List.set_cons_succ]
          refine takeD 7 (some 86) (.slice (some ⟨gv,0,none⟩) mm.length cv) hH rfl rfl (by kernel_rfl) (by kernel_rfl) (by kernel_rfl) (fun _ _ _ h=>h) (Or.inl ⟨by rfl,by intro w' hSw;have hc:=hSw.1;go_simp⟩) ?_
          simp only [Act.put,List.setIfInBounds_toArray,List.set_cons_zero,List.set_cons_succ]
          refine takeD 8 (some 87) (.int .i64 n) hH rfl rfl (by kernel_rfl) (by kernel_rfl) (by kernel_rfl) (fun _ _ _ h=>h) (Or.inl ⟨by rfl,by intro w' hSw;go_simp⟩) ?_
          simp only [Act.put,List.setIfInBounds_toArray,List.set_cons_zero,List.set_cons_succ]
          refine takeD 9 (some 88) (.pointer (some ⟨gv,n,none⟩)) hH rfl rfl (by kernel_rfl) (by kernel_rfl) (by kernel_rfl) (fun _ _ _ h=>h) (Or.inl ⟨by rfl,by intro w' hSw;go_simp⟩) ?_
          simp only [Act.put,List.setIfInBounds_toArray,List.set_cons_zero,List.set_cons_succ]
          refine takeD 10 (some 89) (.slice (some ⟨g,0,none⟩) t.length c') hH rfl rfl (by kernel_rfl) (by kernel_rfl) (by kernel_rfl) (fun _ _ _ h=>h) (Or.inl ⟨by rfl,by intro w' hSw;have hc:=hSw.2;go_simp⟩) ?_
          simp only [Act.put,List.setIfInBounds_toArray,List.set_cons_zero,List.set_cons_succ]
          refine takeD 11 (some 90) (.int .i64 k) hH rfl rfl (by kernel_rfl) (by kernel_rfl) (by kernel_rfl) (fun _ _ _ h=>h) (Or.inl ⟨by rfl,by intro w' hSw;go_simp⟩) ?_
          simp only [Act.put,List.setIfInBounds_toArray,List.set_cons_zero,List.set_cons_succ]
          refine takeD 12 (some 91) (.pointer (some ⟨g,k * 3,none⟩)) hH rfl rfl (by kernel_rfl) (by kernel_rfl) (by kernel_rfl) (fun _ _ _ h=>h) (Or.inl ⟨by rfl,by intro w' hSw;go_simp⟩) ?_
          simp only [Act.put,List.setIfInBounds_toArray,List.set_cons_zero,List.set_cons_succ]
          refine takeD 13 (some 92) (.pointer (some ⟨g,k * 3+1,none⟩)) hH rfl rfl (by kernel_rfl) (by kernel_rfl) (by kernel_rfl) (fun _ _ _ h=>h) (Or.inl ⟨by rfl,by intro w' hSw;go_simp⟩) ?_
          simp only [Act.put,List.setIfInBounds_toArray,List.set_cons_zero,List.set_cons_succ]
          refine wpAnyH_ready (rs:=[14]) (by kernel_rfl) (by simp) ?_
          refine AllReadyH.cons rfl (fun K' hK=>?_) AllReadyH.nil
          have xx:=p5
          rw [if_pos (by rfl)]
          go_simp
          refine hK.out _ _ hH (fun _=>?_)
          clear hK K' xx
          refine takeD 15 (some 94) (.int .i64 (wrap64 (pp+1))) hH rfl rfl (by kernel_rfl) (by kernel_rfl) (by kernel_rfl) (fun _ _ _ h=>h) (Or.inl ⟨by rfl,by intro w' hSw;go_simp;exact wrap_eq64 _⟩) ?_
          simp only [Act.put,List.setIfInBounds_toArray,List.set_cons_zero,List.set_cons_succ]
          refine takeD 16 (some 95) (.pointer (some ⟨g,k * 3,none⟩)) hH rfl rfl (by kernel_rfl) (by kernel_rfl) (by kernel_rfl) (fun _ _ _ h=>h) (Or.inl ⟨by rfl,by intro w' hSw;go_simp⟩) ?_
          simp only [Act.put,List.setIfInBounds_toArray,List.set_cons_zero,List.set_cons_succ]
          refine takeD 17 (some 96) (.pointer (some ⟨g,k * 3+1,none⟩)) hH rfl rfl (by kernel_rfl) (by kernel_rfl) (by kernel_rfl) (fun _ _ _ h=>h) (Or.inl ⟨by rfl,by intro w' hSw;go_simp⟩) ?_
          simp only [Act.put,List.setIfInBounds_toArray,List.set_cons_zero,List.set_cons_succ]
          refine wpAnyH_ready (rs:=[18]) (by kernel_rfl) (by simp) ?_
          refine AllReadyH.cons rfl (fun K' hK=>?_) AllReadyH.nil
          have xc:=p5
          have xz:=f5 (k * 3+1)
          rw [if_pos (by rfl)]
          go_simp
          refine hK.out _ _ ⟨(World.cell?_setCell_other _ _ _ _ (fun e=>hgQ (congrArg Addr.block e))).trans hH.1,(World.cell?_setCell_other _ _ _ _ (fun e=>hggv (congrArg Addr.block e))).trans hH.2⟩ (fun _=>?_)
          clear hK K'
          refine wpAnyH_done (by kernel_rfl) ?_ _
          clear xc xz
          go_wp2_with fail
          exact ⟨⟨k+1,by go_num,by omega,r1,hQ6,bE6⟩,by simp [intOf];omega⟩
        ·have j1:¬ (k:Int) < t.length:=by omega
         rw [HN.out k (by omega)] at hR
         go_wp2_with fail
         exact ⟨⟨n+1,by go_num,by omega,hR,hQ,bE1⟩,by simp [intOf];omega⟩
      ·have i1:¬ (n:Int) < mm.length:=by omega
       rw [M.cur_all M.incF n 0 mm (by omega)] at hR
       have hnl:(M.mapS M.incF mm).length≤3:=by rw [M.mapS_len];omega
       have hns:∀ t∈M.mapS M.incF mm,t.length≤20:=by
        intro t ht
        simp only [M.mapS,List.mem_map] at ht
        obtain ⟨u,hu,rfl⟩:=ht
        rw [List.length_map];exact hmS u hu
       have HL:Hid (mm.length=(M.mapS M.incF mm).length):=(M.mapS_len _ _).symm
       go_wp2_with fail
       rw [HL.out] at hR hQ
       have hRn:=hR
       have bEG:=bE1
       clear hR bE1
       generalize M.mapS M.incF mm=nn at *
       have hsG:=bEG.size
       have hSG:=hS.but bEG (by omega)
       have hTG:=hT.but bEG (by omega)
       have hPG:=hP1.but bEG hP1ne
       have snG:=snP.but bEG (by omega)
       have bwG:=But.below bwF bEG (by omega)
       have x5:=hPG.s.c
       have x6:=hQ.s.c
       have hq1:Q≠w.heap.size:=by omega
       have hq2:Q≠w.heap.size+1:=by omega
       have hp1':P1≠w.heap.size:=by omega
       have hp2':P1≠w.heap.size+1:=by omega
       go_wp2_with fail
       refine wp_region_held_drew (S:=fun w'=>w'.cell? ⟨P1,0,none⟩=some (.slice aP mp.length cP)∧w'.cell? ⟨Q,0,none⟩=some (.slice av nn.length cv)) (by kernel_rfl) (by exact ⟨x5,x6⟩) (fun hH=>?_)
       refine takeD 0 (some 97) (.agg #[.slice aP mp.length cP]) hH rfl rfl (by kernel_rfl) (by kernel_rfl) (by kernel_rfl) (fun _ _ _ h=>h) (Or.inl ⟨by rfl,by intro w' hSw;have hc:=hSw.1;go_simp⟩) ?_
       simp only [Act.put,List.setIfInBounds_toArray,List.set_cons_zero,List.set_cons_succ]
       refine takeD 1 (some 98) (.agg #[.slice av nn.length cv]) hH rfl rfl (by kernel_rfl) (by kernel_rfl) (by kernel_rfl) (fun _ _ _ h=>h) (Or.inl ⟨by rfl,by intro w' hSw;have hc:=hSw.2;go_simp⟩) ?_
       simp only [Act.put,List.setIfInBounds_toArray,List.set_cons_zero,List.set_cons_succ]
       refine wpAnyH_ready (rs:=[2]) (by kernel_rfl) (by simp) ?_
       refine AllReadyH.cons rfl (fun K' hK=>?_) AllReadyH.nil
       have xc:=hSG.c
       have xz:=hSG.fz
       rw [if_pos (by rfl)]
       go_simp
       refine hK.out _ _ ⟨(hPG.s.far (fun e=>hp1' e.symm) _).c,(hQ.s.far (fun e=>hq1 e.symm) _).c⟩ (fun hHa=>?_)
       clear hK K' xc xz
       refine wpAnyH_ready (rs:=[3]) (by kernel_rfl) (by simp) ?_
       refine AllReadyH.cons rfl (fun K' hK=>?_) AllReadyH.nil
       have hTG':=hTG.far (b':=w.heap.size) (i:=0) (by omega) (.slice aP mp.length cP)
       have xc:=hTG'.c
       have xz:=hTG'.fz
       rw [if_pos (by rfl)]
       go_simp
       refine hK.out _ _ ⟨((hPG.s.far (fun e=>hp1' e.symm) _).far (fun e=>hp2' e.symm) _).c,((hQ.s.far (fun e=>hq1 e.symm) _).far (fun e=>hq2 e.symm) _).c⟩ (fun hHb=>?_)
       clear hK K' xc xz
       refine wpAnyH_done (by kernel_rfl) ?_ _
       go_wp2_with fail
       have s1:=(hSG.set (.slice aP mp.length cP)).far (b':=w.heap.size+1) (by omega) (i:=0) (.slice av nn.length cv)
       have s2:=(hTG.far (b':=w.heap.size) (by omega) (i:=0) (.slice aP mp.length cP)).set (.slice av nn.length cv)
       have e1:=s1.c
       have e2:=s2.c
       obtain ⟨ay,gy,cy,ey,ssQ⟩:=((hRn.far (b:=w.heap.size) (i:=0) (by omega) (.slice aP mp.length cP)).far (b:=w.heap.size+1) (i:=0) (by omega) (.slice av nn.length cv)).b.ss
       obtain ⟨rfl,_,rfl⟩:=Value.slice.inj ey
       have ssP:=((snG.far (B:=w.heap.size) (i:=0) (u:=.slice aP mp.length cP) (by omega)).far (B:=w.heap.size+1) (i:=0) (u:=.slice av nn.length cv) (by omega)).ss
       have bF:=(bwG.setCell (p:=⟨w.heap.size,0,none⟩) (Nat.le_refl _) (.slice aP mp.length cP)).setCell (p:=⟨w.heap.size+1,0,none⟩) (by show w.heap.size≤w.heap.size+1;omega) (.slice av nn.length cv)
       exact bodyPost_ret (v:=.tuple #[.agg #[.slice aP mp.length cP],.agg #[.slice av nn.length cv]]) (by simp [results,Tryz.results22,go_sem,e1,e2]) rfl ⟨aP,gP,cP,mp,av,gy,cv,nn,rfl,ssP.below (Below.refl _ _).drew (Nat.le_refl _),ssQ.below (Below.refl _ _).drew (Nat.le_refl _),by omega,by omega,hsP,hns,bF.drew⟩
    ·have hu0:¬ (0:Int) < u:=by omega
     have hRn:=hRG
     have hQ:=hQG
     have hnl:mm.length≤3:=by omega
     have hns:=hmS
     clear hRG hQG hmS
     obtain ⟨nn,hnn⟩:∃ nn,nn=mm:=⟨_,rfl⟩
     subst hnn
     have hsG:=bEG.size
     have hSG:=hS.but bEG (by omega)
     have hTG:=hT.but bEG (by omega)
     have hPG:=hP1.but bEG hP1ne
     have snG:=snP.but bEG (by omega)
     have bwG:=But.below bwF bEG (by omega)
     have x5:=hPG.s.c
     have x6:=hQ.s.c
     have hq1:Q≠w.heap.size:=by omega
     have hq2:Q≠w.heap.size+1:=by omega
     have hp1':P1≠w.heap.size:=by omega
     have hp2':P1≠w.heap.size+1:=by omega
     go_wp2_with fail
     refine wp_region_held_drew (S:=fun w'=>w'.cell? ⟨P1,0,none⟩=some (.slice aP mp.length cP)∧w'.cell? ⟨Q,0,none⟩=some (.slice av nn.length cv)) (by kernel_rfl) (by exact ⟨x5,x6⟩) (fun hH=>?_)
     refine takeD 0 (some 97) (.agg #[.slice aP mp.length cP]) hH rfl rfl (by kernel_rfl) (by kernel_rfl) (by kernel_rfl) (fun _ _ _ h=>h) (Or.inl ⟨by rfl,by intro w' hSw;have hc:=hSw.1;go_simp⟩) ?_
     simp only [Act.put,List.setIfInBounds_toArray,List.set_cons_zero,List.set_cons_succ]
     refine takeD 1 (some 98) (.agg #[.slice av nn.length cv]) hH rfl rfl (by kernel_rfl) (by kernel_rfl) (by kernel_rfl) (fun _ _ _ h=>h) (Or.inl ⟨by rfl,by intro w' hSw;have hc:=hSw.2;go_simp⟩) ?_
     simp only [Act.put,List.setIfInBounds_toArray,List.set_cons_zero,List.set_cons_succ]
     refine wpAnyH_ready (rs:=[2]) (by kernel_rfl) (by simp) ?_
     refine AllReadyH.cons rfl (fun K' hK=>?_) AllReadyH.nil
     have xc:=hSG.c
     have xz:=hSG.fz
     rw [if_pos (by rfl)]
     go_simp
     refine hK.out _ _ ⟨(hPG.s.far (fun e=>hp1' e.symm) _).c,(hQ.s.far (fun e=>hq1 e.symm) _).c⟩ (fun hHa=>?_)
     clear hK K' xc xz
     refine wpAnyH_ready (rs:=[3]) (by kernel_rfl) (by simp) ?_
     refine AllReadyH.cons rfl (fun K' hK=>?_) AllReadyH.nil
     have hTG':=hTG.far (b':=w.heap.size) (i:=0) (by omega) (.slice aP mp.length cP)
     have xc:=hTG'.c
     have xz:=hTG'.fz
     rw [if_pos (by rfl)]
     go_simp
     refine hK.out _ _ ⟨((hPG.s.far (fun e=>hp1' e.symm) _).far (fun e=>hp2' e.symm) _).c,((hQ.s.far (fun e=>hq1 e.symm) _).far (fun e=>hq2 e.symm) _).c⟩ (fun hHb=>?_)
     clear hK K' xc xz
     refine wpAnyH_done (by kernel_rfl) ?_ _
     go_wp2_with fail
     have s1:=(hSG.set (.slice aP mp.length cP)).far (b':=w.heap.size+1) (by omega) (i:=0) (.slice av nn.length cv)
     have s2:=(hTG.far (b':=w.heap.size) (by omega) (i:=0) (.slice aP mp.length cP)).set (.slice av nn.length cv)
     have e1:=s1.c
     have e2:=s2.c
     obtain ⟨ay,gy,cy,ey,ssQ⟩:=((hRn.far (b:=w.heap.size) (i:=0) (by omega) (.slice aP mp.length cP)).far (b:=w.heap.size+1) (i:=0) (by omega) (.slice av nn.length cv)).b.ss
     obtain ⟨rfl,_,rfl⟩:=Value.slice.inj ey
     have ssP:=((snG.far (B:=w.heap.size) (i:=0) (u:=.slice aP mp.length cP) (by omega)).far (B:=w.heap.size+1) (i:=0) (u:=.slice av nn.length cv) (by omega)).ss
     have bF:=(bwG.setCell (p:=⟨w.heap.size,0,none⟩) (Nat.le_refl _) (.slice aP mp.length cP)).setCell (p:=⟨w.heap.size+1,0,none⟩) (by show w.heap.size≤w.heap.size+1;omega) (.slice av nn.length cv)
     exact bodyPost_ret (v:=.tuple #[.agg #[.slice aP mp.length cP],.agg #[.slice av nn.length cv]]) (by simp [results,Tryz.results22,go_sem,e1,e2]) rfl ⟨aP,gP,cP,mp,av,gy,cv,nn,rfl,ssP.below (Below.refl _ _).drew (Nat.le_refl _),ssQ.below (Below.refl _ _).drew (Nat.le_refl _),by omega,by omega,hsP,hns,bF.drew⟩
  ·have hq':(q==0)=false:=by simpa using hq
   have hRF:=hRU
   have hPF:=hPU
   have hrF:=hrU
   have bEF:=bEU
   have hmF:[l].length≤2:=by simp
   have hsF:∀ t∈[l],t.length≤20:=by
    intro t ht
    simp at ht
    rw [ht];exact hl1
   obtain ⟨pF,hpF⟩:∃ pF,pU=pF:=⟨_,rfl⟩
   rw [hpF] at hrF
   have hpF':pF≤pE2+200:=by omega
   clear hRU hPU hrU bEU hpF
   have HEQ:Hid ([l].length=1):=rfl
   obtain ⟨vs,hvs⟩:∃ vs,[v]=vs:=⟨_,rfl⟩
   rw [hvs] at hRF
   generalize [l]=mm at *
   rw [← HEQ.out] at hRF hPF
   obtain ⟨vF,hvF⟩:∃ vF,Value.slice (some ⟨N,0,none⟩) mm.length mm.length=vF:=⟨_,rfl⟩
   rw [hvF] at hRF hPF
   obtain ⟨F,hF⟩:∃ F,F=U:=⟨_,rfl⟩
   subst hF
   clear hvF HEQ hvs
   obtain ⟨av,gv0,cv,rfl,_⟩:=hRF.b.ss
   obtain ⟨Q,hQe⟩:∃ Q,Q=P:=⟨_,rfl⟩
   subst hQe
   go_wp2_with fail
   refine (pick_rdr _ _ pF 6 F (by omega) (by omega) (by omega) hrF).mono ?_
   rintro e G ⟨u,rfl,u0,u1,hrG,hbG⟩
   have hRG:=hRF.but hbG (by omega)
   have hQG:=hPF.but hbG (by omega)
   have bEG:=bEF.trans hbG
   have hmS:=hsF
   have hsQ:E2.heap.size≤Q:=by omega
   clear hRF hPF bEF hbG hrG hrF hsF
   by_cases hu:0 < u
   ·have hu0:(0:Int) < u:=by omega
    go_wp2_with fail
    go_loopw [7] (fun s7 wr=>∃ n:Nat,s7=.int .i64 n∧n≤mm.length∧Rdg wr E2.heap.size (.slice av mm.length cv) (M.cur M.incF n 0 mm) vs∧PBox wr Q (.slice av mm.length cv)∧But (w.heap.size+1+1) E2 wr) (fun s7 _=>mm.length - (intOf s7).toNat)
    case atStart=>exact ⟨0,rfl,Nat.zero_le _,by rw [M.cur_zero];exact hRG,hQG,bEG⟩
    case round =>
     clear hRG hQG bEG
     obtain ⟨n,rfl,hn,hR,hQ,bE1⟩:=hrel
     have xq:=hQ.s.c
     by_cases hlt:n < mm.length
     ·have hR':=hR
      rw [← M.cur_len M.incF n 0 mm] at hR'
      obtain ⟨gv,rfl,hv,hc⟩:=hR'.outer_at (n:=n) (by rw [M.cur_len];exact hlt)
      obtain ⟨a',c',e1,hin⟩:=hR.cur_at hlt hv
      have i1:(n:Int) < mm.length:=by omega
      have hmm3:mm.length≤3:=by omega
      have HO:Hid (∀ (k:Nat) (W:World),Rdg W E2.heap.size (.slice (some ⟨gv,0,none⟩) mm.length cv) (M.cur M.incF n k mm) vs→W.cell? ⟨gv,n,none⟩=some (.slice a' mm[n].length c')):=by
       intro k W hr
       have hr':=hr
       rw [← M.cur_len M.incF n k mm] at hr'
       obtain ⟨gv2,e2,hv2,hc2⟩:=hr'.outer_at (n:=n) (by rw [M.cur_len];exact hlt)
       obtain rfl:gv=gv2:=by simpa using e2
       rw [hc2,e1]
      have HS:Hid (∀ (k g:Nat) (W W':World) (hk:k < mm[n].length),a'=some ⟨g,0,none⟩→Rdg W E2.heap.size (.slice (some ⟨gv,0,none⟩) mm.length cv) (M.cur M.incF n k mm) vs→Chg W W' g (k * 3) mm[n][k] (M.incF mm[n][k])→Rdg W' E2.heap.size (.slice (some ⟨gv,0,none⟩) mm.length cv) (M.cur M.incF n (k+1) mm) vs∧W.grownBy W' (some g)∧E2.heap.size≤g):=by
       intro k g W W' hk ha hr hch
       subst ha
       exact hr.step hlt hk hv e1 hch
      have HA:Hid (∀ (k:Nat) (W:World),Rdg W E2.heap.size (.slice (some ⟨gv,0,none⟩) mm.length cv) (M.cur M.incF n k mm) vs→∀ hk:k < mm[n].length,∃ g,a'=some ⟨g,0,none⟩∧E2.heap.size≤g∧DoAt W g (k * 3) mm[n][k]∧∀ i,W.frozen? ⟨g,i,none⟩=false):=by
       intro k W hr hk
       obtain ⟨a2,c2,e2,h2⟩:=hr.cur_at hlt hv
       rw [e1] at e2
       obtain ⟨rfl,_,rfl⟩:=Value.slice.inj e2
       exact h2 hk
      have HQN:Hid (∀ (k g:Nat) (W:World),a'=some ⟨g,0,none⟩→Rdg W E2.heap.size (.slice (some ⟨gv,0,none⟩) mm.length cv) (M.cur M.incF n k mm) vs→PBox W Q (.slice (some ⟨gv,0,none⟩) mm.length cv)→g≠Q∧g≠gv):=by
       intro k g W ha hr hq
       subst ha
       have hi:=hr.b.inner n (by rw [M.cur_len];exact hlt) hv
       refine ⟨fun e=>?_,fun e=>?_⟩
       ·exact hq.ne hi (by decide) (by rw [e1,e];rfl)
       ·rcases own_apart hi hr.b.outer (by decide) with e2 | e2
        ·rw [e1] at e2;simp [Value.ownBlock] at e2
        ·rw [e1] at e2;simp [Value.ownBlock] at e2;exact e2 e
      have HN:Hid (∀ k,mm[n].length≤k→M.cur M.incF n k mm=M.cur M.incF (n+1) 0 mm):=fun k hk=>M.cur_next M.incF n k mm hlt hk
      have ht20:=hmS _ (List.getElem_mem hlt)
      clear hin e1 hR' hc
      generalize mm[n]=t at *
      go_wp2_with fail
      clear xq
      go_loopw [8] (fun s8 wi=>∃ k:Nat,s8=.int .i64 k∧k≤t.length∧Rdg wi E2.heap.size (.slice (some ⟨gv,0,none⟩) mm.length cv) (M.cur M.incF n k mm) vs∧PBox wi Q (.slice (some ⟨gv,0,none⟩) mm.length cv)∧But (w.heap.size+1+1) E2 wi) (fun s8 _=>t.length - (intOf s8).toNat)
      case atStart=>exact ⟨0,rfl,Nat.zero_le _,hR,hQ,bE1⟩
      case round =>
       clear hR hQ bE1
       obtain ⟨k,rfl,hk,hR,hQ,bE1⟩:=hrel
       have xq:=hQ.s.c
       have xo:=HO.out k _ hR
       have lQ:=hQ.s.lt
       have lo:gv < wr.heap.size:=World.block_lt_of_cell? _ _ xo
       by_cases hkt:k < t.length
       ·obtain ⟨g,rfl,hg,hd,hf⟩:=HA.out k _ hR hkt
        obtain ⟨hgQ,hggv⟩:=HQN.out k g _ rfl hR hQ
        have j1:(k:Int) < t.length:=by omega
        have HS1:Hid (∀ W W',Rdg W E2.heap.size (.slice (some ⟨gv,0,none⟩) mm.length cv) (M.cur M.incF n k mm) vs→Chg W W' g (k * 3) t[k] (M.incF t[k])→Rdg W' E2.heap.size (.slice (some ⟨gv,0,none⟩) mm.length cv) (M.cur M.incF n (k+1) mm) vs∧W.grownBy W' (some g)∧E2.heap.size≤g):=fun W W' hr hch=>HS.out k g W W' hkt rfl hr hch
        generalize t[k]=dd at *
        obtain ⟨kk,pp,vv⟩:=dd
        obtain ⟨ck,cp,cv'⟩:=hd
        have lg:g < wr.heap.size:=World.block_lt_of_cell? _ _ ck
        have hRD:M.uses kk=(M.reads kk||M.writes kk):=rfl
        cases hu1:M.reads kk
        ·cases hu2:M.writes kk
         ·have hu:M.uses kk=false:=by rw [hRD,hu1,hu2];rfl
          have r:=HS1.out wr wr hR ⟨0,Or.inl ⟨rfl,by unfold M.incF;rw [show M.uses (M.D.mk kk pp vv).k=false from hu];rfl⟩⟩
          clear HS1 hRD hu
          go_wp2_with (first | (go_at_call 34;refine (l1Reads_any ⟨_,_,_⟩ _).mono ?_;rw [hu1];rintro e W5 ⟨rfl,rfl⟩) | (go_at_call 35;refine (l1Writes_any ⟨_,_,_⟩ _).mono ?_;rw [hu2];rintro e W6 ⟨rfl,rfl⟩))
          exact ⟨⟨k+1,by go_num,by omega,r.1.below (below2 _ _ _),hQ.below (below2 _ _ _),(bE1.alloc _).alloc _⟩,by simp [intOf];omega⟩
         ·have hu:M.uses kk=true:=by rw [hRD,hu1,hu2];rfl
          clear hRD
          go_wp2_with (first | (go_at_call 34;refine (l1Reads_any ⟨_,_,_⟩ _).mono ?_;rw [hu1];rintro e W5 ⟨rfl,rfl⟩) | (go_at_call 35;refine (l1Writes_any ⟨_,_,_⟩ _).mono ?_;rw [hu2];rintro e W6 ⟨rfl,rfl⟩))
          have b5:=below2 wr (.cells #[.int .i64 kk,.int .i64 pp,.int .i64 vv] 56) (.cells #[.int .i64 kk,.int .i64 pp,.int .i64 vv] 56)
          have bE5:=(bE1.alloc (.cells #[.int .i64 kk,.int .i64 pp,.int .i64 vv] 56)).alloc (.cells #[.int .i64 kk,.int .i64 pp,.int .i64 vv] 56)
          generalize (wr.alloc (.cells #[.int .i64 kk,.int .i64 pp,.int .i64 vv] 56)).alloc (.cells #[.int .i64 kk,.int .i64 pp,.int .i64 vv] 56)=W5 at *
          have hR5:=hR.below b5
          have hQ5:=hQ.below b5
          have q5:=hQ5.s.c
          have o5:=(b5.cell (p:=⟨gv,n,none⟩) lo).trans xo
          have p5:=(b5.cell (p:=⟨g,k * 3+1,none⟩) lg).trans cp
          have f5:∀ i,W5.frozen? ⟨g,i,none⟩=false:=fun i=>(b5.frozen (p:=⟨g,i,none⟩) lg).trans (hf i)
          have r:=HS1.out W5 ((W5.setCell ⟨g,k * 3+1,none⟩ (.int .i64 (wrap64 (pp+1)))).drew) hR5 ⟨1,Or.inr (Or.inr (Or.inl ⟨by unfold M.incF;rw [if_pos (show M.uses (M.D.mk kk pp vv).k=true from hu)];rfl,by unfold M.incF;rw [if_pos (show M.uses (M.D.mk kk pp vv).k=true from hu)],by unfold M.incF;rw [if_pos (show M.uses (M.D.mk kk pp vv).k=true from hu)]⟩))⟩
          have hQ6:=hQ5.grown r.2.1 (fun e=>hgQ (Option.some.inj e))
          have bE6:=bE5.grown r.2.1 (fun j hj=>by have:g=j:=Option.some.inj hj;omega)
          obtain ⟨r1,_,_⟩:=r
          clear xq xo ck cp cv' HS1 hR hQ bE1 hf lo lg lQ
          refine wp_region_held_drew (S:=fun w'=>w'.cell? ⟨Q,0,none⟩=some (.slice (some ⟨gv,0,none⟩) mm.length cv)∧w'.cell? ⟨gv,n,none⟩=some (.slice (some ⟨g,0,none⟩) t.length c')) (by kernel_rfl) (by exact ⟨q5,o5⟩) (fun hH=>?_)
          refine takeD 0 (some 79) (.pointer (some ⟨Q,0,none⟩)) hH rfl rfl (by kernel_rfl) (by kernel_rfl) (by kernel_rfl) (fun _ _ _ h=>h) (Or.inl ⟨by rfl,by intro w' hSw;go_simp⟩) ?_
          simp only [Act.put,List.setIfInBounds_toArray,List.set_cons_zero,List.set_cons_succ]
          refine takeD 1 (some 80) (.slice (some ⟨gv,0,none⟩) mm.length cv) hH rfl rfl (by kernel_rfl) (by kernel_rfl) (by kernel_rfl) (fun _ _ _ h=>h) (Or.inl ⟨by rfl,by intro w' hSw;have hc:=hSw.1;go_simp⟩) ?_
          simp only [Act.put,List.setIfInBounds_toArray,List.set_cons_zero,List.set_cons_succ]
          refine takeD 2 (some 81) (.int .i64 n) hH rfl rfl (by kernel_rfl) (by kernel_rfl) (by kernel_rfl) (fun _ _ _ h=>h) (Or.inl ⟨by rfl,by intro w' hSw;go_simp⟩) ?_
          simp only [Act.put,List.setIfInBounds_toArray,List.set_cons_zero,List.set_cons_succ]
          refine takeD 3 (some 82) (.pointer (some ⟨gv,n,none⟩)) hH rfl rfl (by kernel_rfl) (by kernel_rfl) (by kernel_rfl) (fun _ _ _ h=>h) (Or.inl ⟨by rfl,by intro w' hSw;go_simp⟩) ?_
          simp only [Act.put,List.setIfInBounds_toArray,List.set_cons_zero,List.set_cons_succ]
          refine takeD 4 (some 83) (.slice (some ⟨g,0,none⟩) t.length c') hH rfl rfl (by kernel_rfl) (by kernel_rfl) (by kernel_rfl) (fun _ _ _ h=>h) (Or.inl ⟨by rfl,by intro w' hSw;have hc:=hSw.2;go_simp⟩) ?_
          simp only [Act.put,List.setIfInBounds_toArray,List.set_cons_zero,List.set_cons_succ]
          refine takeD 5 (some 84) (.int .i64 k) hH rfl rfl (by kernel_rfl) (by kernel_rfl) (by kernel_rfl) (fun _ _ _ h=>h) (Or.inl ⟨by rfl,by intro w' hSw;go_simp⟩) ?_
          simp only [Act.put,List.setIfInBounds_toArray,List.set_cons_zero,List.set_cons_succ]
          refine takeD 6 (some 85) (.pointer (some ⟨Q,0,none⟩)) hH rfl rfl (by kernel_rfl) (by kernel_rfl) (by kernel_rfl) (fun _ _ _ h=>h) (Or.inl ⟨by rfl,by intro w' hSw;go_simp⟩) ?_
          simp only [Act.put,List.setIfInBounds_toArray,List.set_cons_zero,List.set_cons_succ]
          refine takeD 7 (some 86) (.slice (some ⟨gv,0,none⟩) mm.length cv) hH rfl rfl (by kernel_rfl) (by kernel_rfl) (by kernel_rfl) (fun _ _ _ h=>h) (Or.inl ⟨by rfl,by intro w' hSw;have hc:=hSw.1;go_simp⟩) ?_
          simp only [Act.put,List.setIfInBounds_toArray,List.set_cons_zero,List.set_cons_succ]
          refine takeD 8 (some 87) (.int .i64 n) hH rfl rfl (by kernel_rfl) (by kernel_rfl) (by kernel_rfl) (fun _ _ _ h=>h) (Or.inl ⟨by rfl,by intro w' hSw;go_simp⟩) ?_
          simp only [Act.put,List.setIfInBounds_toArray,List.set_cons_zero,List.set_cons_succ]
          refine takeD 9 (some 88) (.pointer (some ⟨gv,n,none⟩)) hH rfl rfl (by kernel_rfl) (by kernel_rfl) (by kernel_rfl) (fun _ _ _ h=>h) (Or.inl ⟨by rfl,by intro w' hSw;go_simp⟩) ?_
          simp only [Act.put,List.setIfInBounds_toArray,List.set_cons_zero,List.set_cons_succ]
          refine takeD 10 (some 89) (.slice (some ⟨g,0,none⟩) t.length c') hH rfl rfl (by kernel_rfl) (by kernel_rfl) (by kernel_rfl) (fun _ _ _ h=>h) (Or.inl ⟨by rfl,by intro w' hSw;have hc:=hSw.2;go_simp⟩) ?_
          simp only [Act.put,List.setIfInBounds_toArray,List.set_cons_zero,List.set_cons_succ]
          refine takeD 11 (some 90) (.int .i64 k) hH rfl rfl (by kernel_rfl) (by kernel_rfl) (by kernel_rfl) (fun _ _ _ h=>h) (Or.inl ⟨by rfl,by intro w' hSw;go_simp⟩) ?_
          simp only [Act.put,List.setIfInBounds_toArray,List.set_cons_zero,List.set_cons_succ]
          refine takeD 12 (some 91) (.pointer (some ⟨g,k * 3,none⟩)) hH rfl rfl (by kernel_rfl) (by kernel_rfl) (by kernel_rfl) (fun _ _ _ h=>h) (Or.inl ⟨by rfl,by intro w' hSw;go_simp⟩) ?_
          simp only [Act.put,List.setIfInBounds_toArray,List.set_cons_zero,List.set_cons_succ]
          refine takeD 13 (some 92) (.pointer (some ⟨g,k * 3+1,none⟩)) hH rfl rfl (by kernel_rfl) (by kernel_rfl) (by kernel_rfl) (fun _ _ _ h=>h) (Or.inl ⟨by rfl,by intro w' hSw;go_simp⟩) ?_
          simp only [Act.put,List.setIfInBounds_toArray,List.set_cons_zero,List.set_cons_succ]
          refine wpAnyH_ready (rs:=[14]) (by kernel_rfl) (by simp) ?_
          refine AllReadyH.cons rfl (fun K' hK=>?_) AllReadyH.nil
          have xx:=p5
          rw [if_pos (by rfl)]
          go_simp
          refine hK.out _ _ hH (fun _=>?_)
          clear hK K' xx
          refine takeD 15 (some 94) (.int .i64 (wrap64 (pp+1))) hH rfl rfl (by kernel_rfl) (by kernel_rfl) (by kernel_rfl) (fun _ _ _ h=>h) (Or.inl ⟨by rfl,by intro w' hSw;go_simp;exact wrap_eq64 _⟩) ?_
          simp only [Act.put,List.setIfInBounds_toArray,List.set_cons_zero,List.set_cons_succ]
          refine takeD 16 (some 95) (.pointer (some ⟨g,k * 3,none⟩)) hH rfl rfl (by kernel_rfl) (by kernel_rfl) (by kernel_rfl) (fun _ _ _ h=>h) (Or.inl ⟨by rfl,by intro w' hSw;go_simp⟩) ?_
          simp only [Act.put,List.setIfInBounds_toArray,List.set_cons_zero,List.set_cons_succ]
          refine takeD 17 (some 96) (.pointer (some ⟨g,k * 3+1,none⟩)) hH rfl rfl (by kernel_rfl) (by kernel_rfl) (by kernel_rfl) (fun _ _ _ h=>h) (Or.inl ⟨by rfl,by intro w' hSw;go_simp⟩) ?_
          simp only [Act.put,List.setIfInBounds_toArray,List.set_cons_zero,List.set_cons_succ]
          refine wpAnyH_ready (rs:=[18]) (by kernel_rfl) (by simp) ?_
          refine AllReadyH.cons rfl (fun K' hK=>?_) AllReadyH.nil
          have xc:=p5
          have xz:=f5 (k * 3+1)
          rw [if_pos (by rfl)]
          go_simp
          refine hK.out _ _ ⟨(World.cell?_setCell_other _ _ _ _ (fun e=>hgQ (congrArg Addr.block e))).trans hH.1,(World.cell?_setCell_other _ _ _ _ (fun e=>hggv (congrArg Addr.block e))).trans hH.2⟩ (fun _=>?_)
          clear hK K'
          refine wpAnyH_done (by kernel_rfl) ?_ _
          clear xc xz
          go_wp2_with fail
          exact ⟨⟨k+1,by go_num,by omega,r1,hQ6,bE6⟩,by simp [intOf];omega⟩
        ·have hu:M.uses kk=true:=by rw [hRD,hu1];rfl
         clear hRD
         go_wp2_with (first | (go_at_call 34;refine (l1Reads_any ⟨_,_,_⟩ _).mono ?_;rw [hu1];rintro e W5 ⟨rfl,rfl⟩))
         have b5:=below1 wr (.cells #[.int .i64 kk,.int .i64 pp,.int .i64 vv] 56)
         have bE5:=bE1.alloc (.cells #[.int .i64 kk,.int .i64 pp,.int .i64 vv] 56)
         generalize wr.alloc (.cells #[.int .i64 kk,.int .i64 pp,.int .i64 vv] 56)=W5 at *
         have hR5:=hR.below b5
         have hQ5:=hQ.below b5
         have q5:=hQ5.s.c
         have o5:=(b5.cell (p:=⟨gv,n,none⟩) lo).trans xo
         have p5:=(b5.cell (p:=⟨g,k * 3+1,none⟩) lg).trans cp
         have f5:∀ i,W5.frozen? ⟨g,i,none⟩=false:=fun i=>(b5.frozen (p:=⟨g,i,none⟩) lg).trans (hf i)
         have r:=HS1.out W5 ((W5.setCell ⟨g,k * 3+1,none⟩ (.int .i64 (wrap64 (pp+1)))).drew) hR5 ⟨1,Or.inr (Or.inr (Or.inl ⟨by unfold M.incF;rw [if_pos (show M.uses (M.D.mk kk pp vv).k=true from hu)];rfl,by unfold M.incF;rw [if_pos (show M.uses (M.D.mk kk pp vv).k=true from hu)],by unfold M.incF;rw [if_pos (show M.uses (M.D.mk kk pp vv).k=true from hu)]⟩))⟩
         have hQ6:=hQ5.grown r.2.1 (fun e=>hgQ (Option.some.inj e))
         have bE6:=bE5.grown r.2.1 (fun j hj=>by have:g=j:=Option.some.inj hj;omega)
         obtain ⟨r1,_,_⟩:=r
         clear xq xo ck cp cv' HS1 hR hQ bE1 hf lo lg lQ
         refine wp_region_held_drew (S:=fun w'=>w'.cell? ⟨Q,0,none⟩=some (.slice (some ⟨gv,0,none⟩) mm.length cv)∧w'.cell? ⟨gv,n,none⟩=some (.slice (some ⟨g,0,none⟩) t.length c')) (by kernel_rfl) (by exact ⟨q5,o5⟩) (fun hH=>?_)
         refine takeD 0 (some 79) (.pointer (some ⟨Q,0,none⟩)) hH rfl rfl (by kernel_rfl) (by kernel_rfl) (by kernel_rfl) (fun _ _ _ h=>h) (Or.inl ⟨by rfl,by intro w' hSw;go_simp⟩) ?_
         simp only [Act.put,List.setIfInBounds_toArray,List.set_cons_zero,List.set_cons_succ]
         refine takeD 1 (some 80) (.slice (some ⟨gv,0,none⟩) mm.length cv) hH rfl rfl (by kernel_rfl) (by kernel_rfl) (by kernel_rfl) (fun _ _ _ h=>h) (Or.inl ⟨by rfl,by intro w' hSw;have hc:=hSw.1;go_simp⟩) ?_
         simp only [Act.put,List.setIfInBounds_toArray,List.set_cons_zero,List.set_cons_succ]
         refine takeD 2 (some 81) (.int .i64 n) hH rfl rfl (by kernel_rfl) (by kernel_rfl) (by kernel_rfl) (fun _ _ _ h=>h) (Or.inl ⟨by rfl,by intro w' hSw;go_simp⟩) ?_
         simp only [Act.put,List.setIfInBounds_toArray,List.set_cons_zero,List.set_cons_succ]
         refine takeD 3 (some 82) (.pointer (some ⟨gv,n,none⟩)) hH rfl rfl (by kernel_rfl) (by kernel_rfl) (by kernel_rfl) (fun _ _ _ h=>h) (Or.inl ⟨by rfl,by intro w' hSw;go_simp⟩) ?_
         simp only [Act.put,List.setIfInBounds_toArray,List.set_cons_zero,List.set_cons_succ]
         refine takeD 4 (some 83) (.slice (some ⟨g,0,none⟩) t.length c') hH rfl rfl (by kernel_rfl) (by kernel_rfl) (by kernel_rfl) (fun _ _ _ h=>h) (Or.inl ⟨by rfl,by intro w' hSw;have hc:=hSw.2;go_simp⟩) ?_
         simp only [Act.put,List.setIfInBounds_toArray,List.set_cons_zero,List.set_cons_succ]
         refine takeD 5 (some 84) (.int .i64 k) hH rfl rfl (by kernel_rfl) (by kernel_rfl) (by kernel_rfl) (fun _ _ _ h=>h) (Or.inl ⟨by rfl,by intro w' hSw;go_simp⟩) ?_
         simp only [Act.put,List.setIfInBounds_toArray,List.set_cons_zero,List.set_cons_succ]
         refine takeD 6 (some 85) (.pointer (some ⟨Q,0,none⟩)) hH rfl rfl (by kernel_rfl) (by kernel_rfl) (by kernel_rfl) (fun _ _ _ h=>h) (Or.inl ⟨by rfl,by intro w' hSw;go_simp⟩) ?_
         simp only [Act.put,List.setIfInBounds_toArray,List.set_cons_zero,List.set_cons_succ]
         refine takeD 7 (some 86) (.slice (some ⟨gv,0,none⟩) mm.length cv) hH rfl rfl (by kernel_rfl) (by kernel_rfl) (by kernel_rfl) (fun _ _ _ h=>h) (Or.inl ⟨by rfl,by intro w' hSw;have hc:=hSw.1;go_simp⟩) ?_
         simp only [Act.put,List.setIfInBounds_toArray,List.set_cons_zero,List.set_cons_succ]
         refine takeD 8 (some 87) (.int .i64 n) hH rfl rfl (by kernel_rfl) (by kernel_rfl) (by kernel_rfl) (fun _ _ _ h=>h) (Or.inl ⟨by rfl,by intro w' hSw;go_simp⟩) ?_
         simp only [Act.put,List.setIfInBounds_toArray,List.set_cons_zero,List.set_cons_succ]
         refine takeD 9 (some 88) (.pointer (some ⟨gv,n,none⟩)) hH rfl rfl (by kernel_rfl) (by kernel_rfl) (by kernel_rfl) (fun _ _ _ h=>h) (Or.inl ⟨by rfl,by intro w' hSw;go_simp⟩) ?_
         simp only [Act.put,List.setIfInBounds_toArray,List.set_cons_zero,List.set_cons_succ]
         refine takeD 10 (some 89) (.slice (some ⟨g,0,none⟩) t.length c') hH rfl rfl (by kernel_rfl) (by kernel_rfl) (by kernel_rfl) (fun _ _ _ h=>h) (Or.inl ⟨by rfl,by intro w' hSw;have hc:=hSw.2;go_simp⟩) ?_
         simp only [Act.put,List.setIfInBounds_toArray,List.set_cons_zero,List.set_cons_succ]
         refine takeD 11 (some 90) (.int .i64 k) hH rfl rfl (by kernel_rfl) (by kernel_rfl) (by kernel_rfl) (fun _ _ _ h=>h) (Or.inl ⟨by rfl,by intro w' hSw;go_simp⟩) ?_
         simp only [Act.put,List.setIfInBounds_toArray,List.set_cons_zero,List.set_cons_succ]
         refine takeD 12 (some 91) (.pointer (some ⟨g,k * 3,none⟩)) hH rfl rfl (by kernel_rfl) (by kernel_rfl) (by kernel_rfl) (fun _ _ _ h=>h) (Or.inl ⟨by rfl,by intro w' hSw;go_simp⟩) ?_
         simp only [Act.put,List.setIfInBounds_toArray,List.set_cons_zero,List.set_cons_succ]
         refine takeD 13 (some 92) (.pointer (some ⟨g,k * 3+1,none⟩)) hH rfl rfl (by kernel_rfl) (by kernel_rfl) (by kernel_rfl) (fun _ _ _ h=>h) (Or.inl ⟨by rfl,by intro w' hSw;go_simp⟩) ?_
         simp only [Act.put,List.setIfInBounds_toArray,List.set_cons_zero,List.set_cons_succ]
         refine wpAnyH_ready (rs:=[14]) (by kernel_rfl) (by simp) ?_
         refine AllReadyH.cons rfl (fun K' hK=>?_) AllReadyH.nil
         have xx:=p5
         rw [if_pos (by rfl)]
         go_simp
         refine hK.out _ _ hH (fun _=>?_)
         clear hK K' xx
         refine takeD 15 (some 94) (.int .i64 (wrap64 (pp+1))) hH rfl rfl (by kernel_rfl) (by kernel_rfl) (by kernel_rfl) (fun _ _ _ h=>h) (Or.inl ⟨by rfl,by intro w' hSw;go_simp;exact wrap_eq64 _⟩) ?_
         simp only [Act.put,List.setIfInBounds_toArray,List.set_cons_zero,List.set_cons_succ]
         refine takeD 16 (some 95) (.pointer (some ⟨g,k * 3,none⟩)) hH rfl rfl (by kernel_rfl) (by kernel_rfl) (by kernel_rfl) (fun _ _ _ h=>h) (Or.inl ⟨by rfl,by intro w' hSw;go_simp⟩) ?_
         simp only [Act.put,List.setIfInBounds_toArray,List.set_cons_zero,List.set_cons_succ]
         refine takeD 17 (some 96) (.pointer (some ⟨g,k * 3+1,none⟩)) hH rfl rfl (by kernel_rfl) (by kernel_rfl) (by kernel_rfl) (fun _ _ _ h=>h) (Or.inl ⟨by rfl,by intro w' hSw;go_simp⟩) ?_
         simp only [Act.put,List.setIfInBounds_toArray,List.set_cons_zero,List.set_cons_succ]
         refine wpAnyH_ready (rs:=[18]) (by kernel_rfl) (by simp) ?_
         refine AllReadyH.cons rfl (fun K' hK=>?_) AllReadyH.nil
         have xc:=p5
         have xz:=f5 (k * 3+1)
         rw [if_pos (by rfl)]
         go_simp
         refine hK.out _ _ ⟨(World.cell?_setCell_other _ _ _ _ (fun e=>hgQ (congrArg Addr.block e))).trans hH.1,(World.cell?_setCell_other _ _ _ _ (fun e=>hggv (congrArg Addr.block e))).trans hH.2⟩ (fun _=>?_)
         clear hK K'
         refine wpAnyH_done (by kernel_rfl) ?_ _
         clear xc xz
         go_wp2_with fail
         exact ⟨⟨k+1,by go_num,by omega,r1,hQ6,bE6⟩,by simp [intOf];omega⟩
       ·have j1:¬ (k:Int) < t.length:=by omega
        rw [HN.out k (by omega)] at hR
        go_wp2_with fail
        exact ⟨⟨n+1,by go_num,by omega,hR,hQ,bE1⟩,by simp [intOf];omega⟩
     ·have i1:¬ (n:Int) < mm.length:=by omega
      rw [M.cur_all M.incF n 0 mm (by omega)] at hR
      have hnl:(M.mapS M.incF mm).length≤3:=by rw [M.mapS_len];omega
      have hns:∀ t∈M.mapS M.incF mm,t.length≤20:=by
       intro t ht
       simp only [M.mapS,List.mem_map] at ht
       obtain ⟨u,hu,rfl⟩:=ht
       rw [List.length_map];exact hmS u hu
      have HL:Hid (mm.length=(M.mapS M.incF mm).length):=(M.mapS_len _ _).symm
      go_wp2_with fail
      rw [HL.out] at hR hQ
      have hRn:=hR
      have bEG:=bE1
      clear hR bE1
      generalize M.mapS M.incF mm=nn at *
      have hsG:=bEG.size
      have hSG:=hS.but bEG (by omega)
      have hTG:=hT.but bEG (by omega)
      have hPG:=hP1.but bEG hP1ne
      have snG:=snP.but bEG (by omega)
      have bwG:=But.below bwF bEG (by omega)
      have x5:=hPG.s.c
      have x6:=hQ.s.c
      have hq1:Q≠w.heap.size:=by omega
      have hq2:Q≠w.heap.size+1:=by omega
      have hp1':P1≠w.heap.size:=by omega
      have hp2':P1≠w.heap.size+1:=by omega
      go_wp2_with fail
      refine wp_region_held_drew (S:=fun w'=>w'.cell? ⟨P1,0,none⟩=some (.slice aP mp.length cP)∧w'.cell? ⟨Q,0,none⟩=some (.slice av nn.length cv)) (by kernel_rfl) (by exact ⟨x5,x6⟩) (fun hH=>?_)
      refine takeD 0 (some 97) (.agg #[.slice aP mp.length cP]) hH rfl rfl (by kernel_rfl) (by kernel_rfl) (by kernel_rfl) (fun _ _ _ h=>h) (Or.inl ⟨by rfl,by intro w' hSw;have hc:=hSw.1;go_simp⟩) ?_
      simp only [Act.put,List.setIfInBounds_toArray,List.set_cons_zero,List.set_cons_succ]
      refine takeD 1 (some 98) (.agg #[.slice av nn.length cv]) hH rfl rfl (by kernel_rfl) (by kernel_rfl) (by kernel_rfl) (fun _ _ _ h=>h) (Or.inl ⟨by rfl,by intro w' hSw;have hc:=hSw.2;go_simp⟩) ?_
      simp only [Act.put,List.setIfInBounds_toArray,List.set_cons_zero,List.set_cons_succ]
      refine wpAnyH_ready (rs:=[2]) (by kernel_rfl) (by simp) ?_
      refine AllReadyH.cons rfl (fun K' hK=>?_) AllReadyH.nil
      have xc:=hSG.c
      have xz:=hSG.fz
      rw [if_pos (by rfl)]
      go_simp
      refine hK.out _ _ ⟨(hPG.s.far (fun e=>hp1' e.symm) _).c,(hQ.s.far (fun e=>hq1 e.symm) _).c⟩ (fun hHa=>?_)
      clear hK K' xc xz
      refine wpAnyH_ready (rs:=[3]) (by kernel_rfl) (by simp) ?_
      refine AllReadyH.cons rfl (fun K' hK=>?_) AllReadyH.nil
      have hTG':=hTG.far (b':=w.heap.size) (i:=0) (by omega) (.slice aP mp.length cP)
      have xc:=hTG'.c
      have xz:=hTG'.fz
      rw [if_pos (by rfl)]
      go_simp
      refine hK.out _ _ ⟨((hPG.s.far (fun e=>hp1' e.symm) _).far (fun e=>hp2' e.symm) _).c,((hQ.s.far (fun e=>hq1 e.symm) _).far (fun e=>hq2 e.symm) _).c⟩ (fun hHb=>?_)
      clear hK K' xc xz
      refine wpAnyH_done (by kernel_rfl) ?_ _
      go_wp2_with fail
      have s1:=(hSG.set (.slice aP mp.length cP)).far (b':=w.heap.size+1) (by omega) (i:=0) (.slice av nn.length cv)
      have s2:=(hTG.far (b':=w.heap.size) (by omega) (i:=0) (.slice aP mp.length cP)).set (.slice av nn.length cv)
      have e1:=s1.c
      have e2:=s2.c
      obtain ⟨ay,gy,cy,ey,ssQ⟩:=((hRn.far (b:=w.heap.size) (i:=0) (by omega) (.slice aP mp.length cP)).far (b:=w.heap.size+1) (i:=0) (by omega) (.slice av nn.length cv)).b.ss
      obtain ⟨rfl,_,rfl⟩:=Value.slice.inj ey
      have ssP:=((snG.far (B:=w.heap.size) (i:=0) (u:=.slice aP mp.length cP) (by omega)).far (B:=w.heap.size+1) (i:=0) (u:=.slice av nn.length cv) (by omega)).ss
      have bF:=(bwG.setCell (p:=⟨w.heap.size,0,none⟩) (Nat.le_refl _) (.slice aP mp.length cP)).setCell (p:=⟨w.heap.size+1,0,none⟩) (by show w.heap.size≤w.heap.size+1;omega) (.slice av nn.length cv)
      exact bodyPost_ret (v:=.tuple #[.agg #[.slice aP mp.length cP],.agg #[.slice av nn.length cv]]) (by simp [results,Tryz.results22,go_sem,e1,e2]) rfl ⟨aP,gP,cP,mp,av,gy,cv,nn,rfl,ssP.below (Below.refl _ _).drew (Nat.le_refl _),ssQ.below (Below.refl _ _).drew (Nat.le_refl _),by omega,by omega,hsP,hns,bF.drew⟩
   ·have hu0:¬ (0:Int) < u:=by omega
    have hRn:=hRG
    have hQ:=hQG
    have hnl:mm.length≤3:=by omega
    have hns:=hmS
    clear hRG hQG hmS
    obtain ⟨nn,hnn⟩:∃ nn,nn=mm:=⟨_,rfl⟩
    subst hnn
    have hsG:=bEG.size
    have hSG:=hS.but bEG (by omega)
    have hTG:=hT.but bEG (by omega)
    have hPG:=hP1.but bEG hP1ne
    have snG:=snP.but bEG (by omega)
    have bwG:=But.below bwF bEG (by omega)
    have x5:=hPG.s.c
    have x6:=hQ.s.c
    have hq1:Q≠w.heap.size:=by omega
    have hq2:Q≠w.heap.size+1:=by omega
    have hp1':P1≠w.heap.size:=by omega
    have hp2':P1≠w.heap.size+1:=by omega
    go_wp2_with fail
    refine wp_region_held_drew (S:=fun w'=>w'.cell? ⟨P1,0,none⟩=some (.slice aP mp.length cP)∧w'.cell? ⟨Q,0,none⟩=some (.slice av nn.length cv)) (by kernel_rfl) (by exact ⟨x5,x6⟩) (fun hH=>?_)
    refine takeD 0 (some 97) (.agg #[.slice aP mp.length cP]) hH rfl rfl (by kernel_rfl) (by kernel_rfl) (by kernel_rfl) (fun _ _ _ h=>h) (Or.inl ⟨by rfl,by intro w' hSw;have hc:=hSw.1;go_simp⟩) ?_
    simp only [Act.put,List.setIfInBounds_toArray,List.set_cons_zero,List.set_cons_succ]
    refine takeD 1 (some 98) (.agg #[.slice av nn.length cv]) hH rfl rfl (by kernel_rfl) (by kernel_rfl) (by kernel_rfl) (fun _ _ _ h=>h) (Or.inl ⟨by rfl,by intro w' hSw;have hc:=hSw.2;go_simp⟩) ?_
    simp only [Act.put,List.setIfInBounds_toArray,List.set_cons_zero,List.set_cons_succ]
    refine wpAnyH_ready (rs:=[2]) (by kernel_rfl) (by simp) ?_
    refine AllReadyH.cons rfl (fun K' hK=>?_) AllReadyH.nil
    have xc:=hSG.c
    have xz:=hSG.fz
    rw [if_pos (by rfl)]
    go_simp
    refine hK.out _ _ ⟨(hPG.s.far (fun e=>hp1' e.symm) _).c,(hQ.s.far (fun e=>hq1 e.symm) _).c⟩ (fun hHa=>?_)
    clear hK K' xc xz
    refine wpAnyH_ready (rs:=[3]) (by kernel_rfl) (by simp) ?_
    refine AllReadyH.cons rfl (fun K' hK=>?_) AllReadyH.nil
    have hTG':=hTG.far (b':=w.heap.size) (i:=0) (by omega) (.slice aP mp.length cP)
    have xc:=hTG'.c
    have xz:=hTG'.fz
    rw [if_pos (by rfl)]
    go_simp
    refine hK.out _ _ ⟨((hPG.s.far (fun e=>hp1' e.symm) _).far (fun e=>hp2' e.symm) _).c,((hQ.s.far (fun e=>hq1 e.symm) _).far (fun e=>hq2 e.symm) _).c⟩ (fun hHb=>?_)
    clear hK K' xc xz
    refine wpAnyH_done (by kernel_rfl) ?_ _
    go_wp2_with fail
    have s1:=(hSG.set (.slice aP mp.length cP)).far (b':=w.heap.size+1) (by omega) (i:=0) (.slice av nn.length cv)
    have s2:=(hTG.far (b':=w.heap.size) (by omega) (i:=0) (.slice aP mp.length cP)).set (.slice av nn.length cv)
    have e1:=s1.c
    have e2:=s2.c
    obtain ⟨ay,gy,cy,ey,ssQ⟩:=((hRn.far (b:=w.heap.size) (i:=0) (by omega) (.slice aP mp.length cP)).far (b:=w.heap.size+1) (i:=0) (by omega) (.slice av nn.length cv)).b.ss
    obtain ⟨rfl,_,rfl⟩:=Value.slice.inj ey
    have ssP:=((snG.far (B:=w.heap.size) (i:=0) (u:=.slice aP mp.length cP) (by omega)).far (B:=w.heap.size+1) (i:=0) (u:=.slice av nn.length cv) (by omega)).ss
    have bF:=(bwG.setCell (p:=⟨w.heap.size,0,none⟩) (Nat.le_refl _) (.slice aP mp.length cP)).setCell (p:=⟨w.heap.size+1,0,none⟩) (by show w.heap.size≤w.heap.size+1;omega) (.slice av nn.length cv)
    exact bodyPost_ret (v:=.tuple #[.agg #[.slice aP mp.length cP],.agg #[.slice av nn.length cv]]) (by simp [results,Tryz.results22,go_sem,e1,e2]) rfl ⟨aP,gP,cP,mp,av,gy,cv,nn,rfl,ssP.below (Below.refl _ _).drew (Nat.le_refl _),ssQ.below (Below.refl _ _).drew (Nat.le_refl _),by omega,by omega,hsP,hns,bF.drew⟩
end Go.Proofs.YtihfibjckkmmbaaGreat
