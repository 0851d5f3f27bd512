/- spec.DrawTurnPlaces, spec.DrawTurnThreads: a drawn program, and a row. Of codes of at most 1048576 bytes. -/
import Derived.BigQuiet
import Derived.Deep.AppendLies
import Derived.Deep.MidRow
import Derived.Deep.QuietTactic
import Derived.Deep.RegionHeld3
import Derived.Deep.RegionLaw
import Derived.Deep.RegionWith
import Derived.Deep.WholeRow
import Derived.Laws.AppendOwn
import Derived.Laws.AppendOwnNone
import Derived.Laws.OwnMore
import Derived.Shelf.Abstract
import Derived.Sort.Grow
import Derived.WalkKit
import Derived.WalkLawsBesides
import Derived.WalkSpells
import Derived.Test.YtihfibjckkmmbaaGreatRows
import Derived.Test.YtihfibjckkmmbaaGreatOebp
namespace Go.Proofs.YtihfibjckkmmbaaGreat
open Go.RowKit
set_option maxHeartbeats 1000000 in
set_option maxRecDepth 100000 in
set_option linter.unusedSimpArgs false in
theorem DrawTurnThreads_any (ca:Option Addr) (cb co L C:Nat) (x:Nat→Int) (w:World) (hL:L≤C) (had:0 < L→ca=some ⟨cb,co,none⟩) (hc:∀ i,i < L→w.cell? ⟨cb,co+i,none⟩=some (.int .u8 (x i))∧0≤x i∧x i≤255) (hLb:L≤1048576) :
  Calls Tryz.prog 18 #[.slice ca L C] w fun e w'=>∃ (a:Option Addr) (g c:Nat) (mm:List (List M.D)) (ga:Option Addr) (gg gc:Nat) (gs:List Int),e=.returned (.tuple #[.agg #[.slice a mm.length c],.slice ga gs.length gc])∧TnDrawn w w' a g c mm ga gg gs:=by
 go_enter Tryz.func18,Tryz.ntmps18
 go_wp2_with fail
 have hb0:=below1 w (.cells #[.slice none 0 0] 25)
 refine (l6Open_any ca cb co L C x _ hL had (fun i hi=>⟨by rw [hb0.cell (p:=⟨cb,co+i,none⟩) (World.block_lt_of_cell? _ _ (hc i hi).1)];exact (hc i hi).1,(hc i hi).2⟩) hLb).mono ?_
 rintro e w1 ⟨rfl,hr1,hb1⟩
 simp only [World.size_alloc] at hr1 hb1 ⊢
 have hb1w:Below w.heap.size w w1:=hb0.trans (hb1.mono (by omega))
 have hS1:=(Slot1.new w (.slice none 0 0) 25).but (But.of (rb:=w.heap.size+1) (by simpa only [World.size_alloc] using hb1)) (by omega)
 have hlt1:=hr1.lt
 clear hc had hb0 hb1
 go_wp2_with fail
 refine (l71Any_any _ (w.heap.size+1) 0 _ (by omega) hr1).mono ?_
 rintro e w2 ⟨a,g,c,mm,rfl,hsn,hsm,p2,hp2,hr2,hb2⟩
 have hS2:=hS1.but hb2 (by omega)
 have bw2:=But.below hb1w hb2 (by omega)
 have hl2:w1.heap.size≤w2.heap.size:=hb2.size
 have hsn2:=hsn.mono (show w.heap.size+1+1≤w1.heap.size+1 by omega)
 have bA:=(But.refl (w.heap.size+1) w2).alloc (.cells #[.slice a mm.length c] 25)
 have hSA:=hS2.but bA (by omega)
 have hrA:=hr2.alloc (.cells #[.slice a mm.length c] 25)
 have hPA:=Slot1.new w2 (.slice a mm.length c) 25
 have hsnA:=hsn2.but bA (by omega)
 have bwA:Below w.heap.size w (w2.alloc (.cells #[.slice a mm.length c] 25)):=But.below bw2 bA (by omega)
 have hszA:(w2.alloc (.cells #[.slice a mm.length c] 25)).heap.size=w2.heap.size+1:=by simp
 clear hS1 hS2 hb2 bA hr1 hr2 hsn hsn2 hb1w bw2
 go_wp2_with fail
 generalize w2.alloc (.cells #[.slice a mm.length c] 25)=WA at *
 obtain ⟨P,hP⟩:∃ P,w2.heap.size=P:=⟨_,rfl⟩
 rw [hP] at hPA hl2 hszA ⊢
 have HW:Hid (WA.heap.size=P+1):=hszA
 clear hP hszA
 have CR:=l71Row_any _ (w.heap.size+1) p2 mm.length WA.drew hsm.pos hsm.three (by omega) hrA.drew
 have p0:=hPA.c
 refine wp_region_held_drew (S:=fun w'=>w'.cell? ⟨P,0,none⟩=some (.slice a mm.length c)) (by kernel_rfl) (by exact p0) (fun hH=>?_)
 refine takeD 0 (some 10) (.agg #[.slice a mm.length c]) hH rfl rfl (by kernel_rfl) (by kernel_rfl) (by kernel_rfl) (fun _ _ _ h=>h) (Or.inl ⟨by rfl,by intro w' hSw;have hc:=hSw;go_simp⟩) ?_
 simp only [Act.put,List.setIfInBounds_toArray,List.set_cons_zero,List.set_cons_succ]
 refine takeD 1 (some 11) (.pointer (some ⟨w.heap.size+1,0,none⟩)) hH rfl rfl (by kernel_rfl) (by kernel_rfl) (by kernel_rfl) (fun _ _ _ h=>h) (Or.inl ⟨by rfl,by intro w' hSw;go_simp⟩) ?_
 simp only [Act.put,List.setIfInBounds_toArray,List.set_cons_zero,List.set_cons_succ]
 refine takeD 2 (some 12) (.pointer (some ⟨P,0,none⟩)) hH rfl rfl (by kernel_rfl) (by kernel_rfl) (by kernel_rfl) (fun _ _ _ h=>h) (Or.inl ⟨by rfl,by intro w' hSw;go_simp⟩) ?_
 simp only [Act.put,List.setIfInBounds_toArray,List.set_cons_zero,List.set_cons_succ]
 refine takeD 3 (some 13) (.slice a mm.length c) hH rfl rfl (by kernel_rfl) (by kernel_rfl) (by kernel_rfl) (fun _ _ _ h=>h) (Or.inl ⟨by rfl,by intro w' hSw;have hc:=hSw;go_simp⟩) ?_
 simp only [Act.put,List.setIfInBounds_toArray,List.set_cons_zero,List.set_cons_succ]
 refine takeD 4 (some 14) (.int .i64 mm.length) hH rfl rfl (by kernel_rfl) (by kernel_rfl) (by kernel_rfl) (fun _ _ _ h=>h) (Or.inl ⟨by rfl,by intro w' hSw;go_simp⟩) ?_
 simp only [Act.put,List.setIfInBounds_toArray,List.set_cons_zero,List.set_cons_succ]
 refine wpAnyH_ready (rs:=[5]) (by kernel_rfl) (by simp) ?_
 refine AllReadyH.cons rfl (fun K' hK=>?_) AllReadyH.nil
 refine step_goV (by rfl) (some 15) rfl 31 #[.tmp 11,.tmp 14] _ rfl #[.pointer (some ⟨w.heap.size+1,0,none⟩),.int .i64 mm.length] (by simp [Act.eval]) (fun _ _=>rfl) CR ?_
 rintro e w3 ⟨v3,rfl,gs,hown,hgl,p3,hp3,hr3,hb3⟩
 obtain ⟨ga,gg,gc,rfl,hI,hgg,_⟩:=own_nums hown
 have hb3':But (w.heap.size+1) WA w3:=(But.refl _ _).drew.trans hb3
 have hP3:=hPA.but hb3' (by omega)
 have hS3:=hSA.but hb3' (by omega)
 have bw3:=But.below bwA hb3' (by omega)
 have hgg':P+1≤gg:=by have:=HW.out;have e:WA.drew.heap.size=WA.heap.size:=rfl;omega
 have hne:gg≠w.heap.size:=by omega
 have hnP:P≠w.heap.size:=by omega
 refine ⟨_,rfl,?_⟩
 simp only [Act.put,List.setIfInBounds_toArray,List.set_cons_zero,List.set_cons_succ]
 refine hK.out _ _ hP3.c (fun hH3=>?_)
 clear hK K'
 refine wpAnyH_ready (rs:=[6]) (by kernel_rfl) (by simp) ?_
 refine AllReadyH.cons rfl (fun K' hK=>?_) AllReadyH.nil
 have xc:=hS3.c
 have xz:=hS3.fz
 rw [if_pos (by rfl)]
 go_simp
 refine hK.out _ _ (hP3.far (fun e=>hnP e.symm) _).c (fun hH4=>?_)
 clear hK K'
 refine takeD 7 (some 3) (.slice ga gs.length gc) hH4 rfl rfl (by kernel_rfl) (by kernel_rfl) (by kernel_rfl) (fun _ _ _ h=>h) (Or.inl ⟨by rfl,by intro w' hSw;go_simp⟩) ?_
 simp only [Act.put,List.setIfInBounds_toArray,List.set_cons_zero,List.set_cons_succ]
 refine wpAnyH_done (by kernel_rfl) ?_ _
 clear xc xz
 go_wp2_with fail
 have q1:=(hS3.set (.slice a mm.length c)).c
 exact bodyPost_ret (v:=.tuple #[.agg #[.slice a mm.length c],.slice ga gs.length gc]) (by simp [results,Tryz.results18,go_sem,q1]) rfl ⟨a,g,c,mm,ga,gg,gc,gs,rfl,⟨((hsnA.but hb3' (by omega)).mono (by omega)).far (by omega),hsm,hI.farx hne,by omega,bw3.setCell (Nat.le_refl _) _⟩⟩
end Go.Proofs.YtihfibjckkmmbaaGreat
