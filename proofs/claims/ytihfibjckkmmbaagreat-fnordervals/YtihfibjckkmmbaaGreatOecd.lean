/- spec.DrawTurnVals: a drawn program, and a row of four values. Of codes of at most 1048576 bytes. -/
import Derived.BigQuiet
import Derived.Deep.AppendLies
import Derived.Deep.MidRow
import Derived.Deep.QuietTactic
import Derived.Deep.RegionHeld3
import Derived.Deep.RegionLaw
import Derived.Deep.RegionWith
import Derived.Deep.WholeRow
import Derived.Laws.AppendOwn
import Derived.Laws.AppendOwnNone
import Derived.Laws.OwnMore
import Derived.Shelf.Abstract
import Derived.Sort.Grow
import Derived.WalkKit
import Derived.WalkLawsBesides
import Derived.WalkSpells
import Derived.Test.YtihfibjckkmmbaaGreatRows
import Derived.Test.YtihfibjckkmmbaaGreatOebd
namespace Go.Proofs.YtihfibjckkmmbaaGreat
open Go.RowKit
theorem M.vals_full {i:Nat} {gs:List Int} (h0:(0:Int)∈gs) (h:∀ j,21≤j→j < i→((1+j % 3:Nat):Int)∈gs) (hl:gs.length≤3):i < 24:=by
 apply Classical.byContradiction
 intro hi
 have:=M.nodupI_le (M.bel_nodup 4) (m:=gs) (fun x hx=>by
  obtain ⟨hx0,hx1⟩:=M.bel_mem.1 hx
  rcases (show x=0∨x=1∨x=2∨x=3 by omega) with rfl | rfl | rfl | rfl
  ·exact h0
  ·exact h 21 (by omega) (by omega)
  ·exact h 22 (by omega) (by omega)
  ·exact h 23 (by omega) (by omega))
 rw [M.bel_len] at this
 omega
theorem nums_set (l:List Int) (j:Nat) (x:Int):(nums l).set j (.int .i64 x)=nums (l.set j x):=by
 unfold nums;rw [List.map_set]
set_option maxHeartbeats 1000000 in
set_option maxRecDepth 100000 in
set_option linter.unusedSimpArgs false in
theorem DrawTurnVals_any (ca:Option Addr) (cb co L C:Nat) (x:Nat→Int) (w:World) (hL:L≤C) (had:0 < L→ca=some ⟨cb,co,none⟩) (hc:∀ i,i < L→w.cell? ⟨cb,co+i,none⟩=some (.int .u8 (x i))∧0≤x i∧x i≤255) (hLb:L≤1048576) :
  Calls Tryz.prog 15 #[.slice ca L C] w fun e w'=>∃ (a:Option Addr) (g c:Nat) (mm:List (List M.D)) (ga:Option Addr) (gg gc:Nat) (gs:List Int),e=.returned (.tuple #[.agg #[.slice a mm.length c],.slice ga gs.length gc])∧TnDrawn w w' a g c mm ga gg gs:=by
 obtain ⟨i0,hi,hz0,hz1,hz2⟩:=info_parts Tryz.infoInt
 go_enter Tryz.func15,Tryz.ntmps15
 go_wp2_with fail
 have hb0:=below1 w (.cells #[.slice none 0 0] 25)
 refine (l6Open_any ca cb co L C x _ hL had (fun i hi=>⟨by rw [hb0.cell (p:=⟨cb,co+i,none⟩) (World.block_lt_of_cell? _ _ (hc i hi).1)];exact (hc i hi).1,(hc i hi).2⟩) hLb).mono ?_
 rintro e w1 ⟨rfl,hr1,hb1⟩
 simp only [World.size_alloc] at hr1 hb1 ⊢
 have hb1w:Below w.heap.size w w1:=hb0.trans (hb1.mono (by omega))
 have hS1:=(Slot1.new w (.slice none 0 0) 25).but (But.of (rb:=w.heap.size+1) (by simpa only [World.size_alloc] using hb1)) (by omega)
 have hlt1:=hr1.lt
 clear hc had hb0 hb1
 go_wp2_with fail
 refine (l71Any_any _ (w.heap.size+1) 0 _ (by omega) hr1).mono ?_
 rintro e w2 ⟨a,g,c,mm,rfl,hsn,hsm,p2,hp2,hr2,hb2⟩
 have hS2:=hS1.but hb2 (by omega)
 have bw2:=But.below hb1w hb2 (by omega)
 have hl2:w1.heap.size≤w2.heap.size:=hb2.size
 have hsn2:=hsn.mono (show w.heap.size+1+1≤w1.heap.size+1 by omega)
 have bA:=(But.refl (w.heap.size+1) w2).alloc (.cells #[.slice a mm.length c] 25)
 have hSA:=hS2.but bA (by omega)
 have hrA:=hr2.alloc (.cells #[.slice a mm.length c] 25)
 have hPA:=Slot1.new w2 (.slice a mm.length c) 25
 have hsnA:=hsn2.but bA (by omega)
 have bwA:Below w.heap.size w (w2.alloc (.cells #[.slice a mm.length c] 25)):=But.below bw2 bA (by omega)
 have hszA:(w2.alloc (.cells #[.slice a mm.length c] 25)).heap.size=w2.heap.size+1:=by simp
 clear hS1 hS2 hb2 bA hr1 hr2 hsn hsn2 hb1w bw2
 go_wp2_with fail
 generalize w2.alloc (.cells #[.slice a mm.length c] 25)=WA at *
 obtain ⟨P,hP⟩:∃ P,w2.heap.size=P:=⟨_,rfl⟩
 rw [hP] at hPA hl2 hszA ⊢
 have HW:Hid (WA.heap.size=P+1):=hszA
 clear hP hszA
 have hE:(WA.alloc (.cells #[.int .i64 0] 3)).ownsRow WA.heap.size 3 1 (.slice (some ⟨WA.heap.size,0,none⟩) 1 1) 1 (nums [0]):=World.ownsRow_lit WA _ 1 (Nat.le_refl _) (by decide) rfl
 rw [HW.out] at hE
 have bE:=(But.refl (w.heap.size+1) WA).alloc (.cells #[.int .i64 0] 3)
 have hrE:=hrA.alloc (.cells #[.int .i64 0] 3)
 go_loopw [6,7] (fun s6 s7 wr=>∃ (i:Nat) (gs:List Int),s7=.int .i64 i∧i≤24∧gs.length≤4∧Hid ((0:Int)∈gs∧∀ j,21≤j→j < i→((1+j % 3:Nat):Int)∈gs)∧wr.ownsRow (P+1) 3 1 s6 gs.length (nums gs)∧Rdr wr (w.heap.size+1) (w.heap.size+1) (p2+i)∧But (w.heap.size+1) WA wr) (fun _ s7 _=>30 - (intOf s7).toNat)
 case atStart=>exact ⟨0,[0],rfl,Nat.zero_le _,by simp,⟨by simp,fun j h1 h2=>by omega⟩,hE,hrE,bE⟩
 case round =>
  obtain ⟨i,gs,rfl,hi24,hgn,HJ,hown,hr,hbut⟩:=hrel
  clear hE hrE bE
  have hbs:P+1≤wr.heap.size:=by have:=hbut.size;have:=HW.out;omega
  have hge:=own_ge hown
  obtain ⟨ga,gg,gc,rfl,hI,hgg,_⟩:=own_nums hown
  by_cases hlt2:gs.length≤3
  ·have hi21:=M.vals_full HJ.out.1 HJ.out.2 hlt2
   have hlt':(gs.length:Int)≤3:=by omega
   go_wp2_with fail
   refine (pick_rdr (w.heap.size+1) (w.heap.size+1) (p2+i) 3 wr (by omega) (by omega) (by omega) hr).mono ?_
   rintro e w4 ⟨q,rfl,q0,q1,hr4,hb4⟩
   have hb34:=hbut.trans hb4
   have hown4:=ownsRow_but hown hb4 (by omega)
   have hI4:IntS w4 ga gg 0 gs:=by
    obtain ⟨a2,g2,c2,e2,i2,_,_⟩:=own_nums hown4
    obtain ⟨rfl,_,rfl⟩:=Value.slice.inj e2
    refine ⟨hI.addr,fun k hk=>?_⟩
    have e3:=hI.addr (by omega)
    have e4:=i2.addr (by omega)
    rw [e3] at e4
    simp at e4
    rw [e4]
    exact i2.row k hk
   have hbs4:P+1≤w4.heap.size:=by have:=hb4.size;omega
   have CH:=fun k=>l12Has_any ga gg 0 gc gs k w4 (by omega) hI4
   have FIN:Hid (∀ (k:Int),(21≤i→k=((1+i % 3:Nat):Int))→(M.has gs k=true→(0:Int)∈gs∧∀ j,21≤j→j < i+1→((1+j % 3:Nat):Int)∈gs)∧((0:Int)∈gs++[k]∧∀ j,21≤j→j < i+1→((1+j % 3:Nat):Int)∈gs++[k])):=by
    intro k hk
    refine ⟨fun hh=>⟨HJ.out.1,fun j h1 h2=>?_⟩,⟨List.mem_append_left _ HJ.out.1,fun j h1 h2=>?_⟩⟩
    ·by_cases e:j=i
     ·subst e;rw [← hk h1];exact M.has_mem hh
     ·exact HJ.out.2 j h1 (by omega)
    ·by_cases e:j=i
     ·subst e;rw [← hk h1];simp
     ·exact List.mem_append_left _ (HJ.out.2 j h1 (by omega))
   clear HJ hown hI hr hbut hb4
   by_cases h20:20 < i
   ·have h20':(20:Int) < i:=by omega
    have htm:Int.tmod (i:Int) 3=((i % 3:Nat):Int):=by rw [Int.tmod_eq_emod_of_nonneg (by omega)];exact (Int.natCast_emod _ _).symm
    have hmod:i % 3 < 3:=Nat.mod_lt _ (by omega)
    obtain ⟨f1,f2⟩:=FIN.out ((1+i % 3:Nat):Int) (fun _=>rfl)
    generalize i % 3=m at htm hmod f1 f2
    have F1:Hid _:=f1
    have F2:Hid _:=f2
    have hq0:IntKind.i64.wrap (1+q)=1+q:=IntWalk.i64_in _ (by omega)
    have hm0:IntKind.i64.wrap (1+(m:Int))=((1+m:Nat):Int):=by rw [show (1:Int)+m=((1+m:Nat):Int) by omega];exact IntWalk.i64_in _ (by omega)
    clear f1 f2 FIN
    have CHm:=CH ((1+m:Nat):Int)
    clear CH
    have hM3:1+m≤3:=by omega
    generalize 1+m=mm1 at *
    cases hh:M.has gs (mm1:Int)
    ·rw [hh] at CHm
     go_wp2_with (first | (go_at_call 52;refine CHm.mono ?_;rintro e w5 ⟨rfl,rfl⟩) | (at_builtin;refine wpList_append_own _ rfl (.tmp 31) (.tmp 33) 26 rfl _ 3 i0 _ 1 8 Tryz.underlying26 hi hz0 hz1 hz2 rfl (by decide) _ _ _ rfl (hown4.alloc _) ⟨w5.heap.size,0,none⟩ 1 1 [.int .i64 mm1] rfl rfl (cells_new1 _ _ _ _ (by simp)) (one1 _) (by unfold maxLen;omega) (by omega) (by simp;omega) ?_))
     intro v6 w6 hown6 hg6 _
     have hb6:=(hb34.alloc _).grown hg6 (fun k hk=>by have:=hge k hk;have:=HW.out;omega)
     have hr6:=((hr4.alloc (.cells #[.int .i64 mm1] 3)).grown hg6 (fun k hk=>by have:=hge k hk;omega))
     have hown7:w6.ownsRow (P+1) 3 1 v6 (gs++[(mm1:Int)]).length (nums (gs++[(mm1:Int)])):=by rw [nums_snoc,List.length_append];exact hown6
     clear hown6 hg6
     go_wp2_with fail
     exact ⟨⟨i+1,gs++[(mm1:Int)],by go_num,by omega,by simp;omega,F2.out,hown7,hr6,hb6⟩,by simp [intOf];omega⟩
    ·rw [hh] at CHm
     go_wp2_with (first | (go_at_call 52;refine CHm.mono ?_;rintro e w5 ⟨rfl,rfl⟩))
     exact ⟨⟨i+1,gs,by go_num,by omega,hgn,F1.out hh,hown4,hr4,hb34⟩,by simp [intOf];omega⟩
   ·have h20':¬ (20:Int) < i:=by omega
    obtain ⟨qq,hqq⟩:∃ qq,1+q=qq:=⟨_,rfl⟩
    obtain ⟨f1,f2⟩:=FIN.out qq (fun h=>by omega)
    have F1:Hid _:=f1
    have F2:Hid _:=f2
    have hq0:IntKind.i64.wrap (1+q)=qq:=by rw [hqq];exact IntWalk.i64_in _ (by omega)
    clear f1 f2 FIN
    have CHm:=CH qq
    clear CH
    have hq1:0≤qq∧qq≤3:=by omega
    clear hqq
    cases hh:M.has gs qq
    ·rw [hh] at CHm
     go_wp2_with (first | (go_at_call 52;refine CHm.mono ?_;rintro e w5 ⟨rfl,rfl⟩) | (at_builtin;refine wpList_append_own _ rfl (.tmp 31) (.tmp 33) 26 rfl _ 3 i0 _ 1 8 Tryz.underlying26 hi hz0 hz1 hz2 rfl (by decide) _ _ _ rfl (hown4.alloc _) ⟨w5.heap.size,0,none⟩ 1 1 [.int .i64 qq] rfl rfl (cells_new1 _ _ _ _ (by simp)) (one1 _) (by unfold maxLen;omega) (by omega) (by simp;omega) ?_))
     intro v6 w6 hown6 hg6 _
     have hb6:=(hb34.alloc _).grown hg6 (fun k hk=>by have:=hge k hk;have:=HW.out;omega)
     have hr6:=((hr4.alloc (.cells #[.int .i64 qq] 3)).grown hg6 (fun k hk=>by have:=hge k hk;omega))
     have hown7:w6.ownsRow (P+1) 3 1 v6 (gs++[(qq:Int)]).length (nums (gs++[(qq:Int)])):=by rw [nums_snoc,List.length_append];exact hown6
     clear hown6 hg6
     go_wp2_with fail
     exact ⟨⟨i+1,gs++[(qq:Int)],by go_num,by omega,by simp;omega,F2.out,hown7,hr6,hb6⟩,by simp [intOf];omega⟩
    ·rw [hh] at CHm
     go_wp2_with (first | (go_at_call 52;refine CHm.mono ?_;rintro e w5 ⟨rfl,rfl⟩))
     exact ⟨⟨i+1,gs,by go_num,by omega,hgn,F1.out hh,hown4,hr4,hb34⟩,by simp [intOf];omega⟩
  ·have hlt':¬ (gs.length:Int)≤3:=by omega
   have hpos:0 < gs.length:=by omega
   obtain ⟨rfl⟩:=hI.addr hpos
   clear HJ
   go_wp2_with fail
   refine (pick_rdr (w.heap.size+1) (w.heap.size+1) (p2+i) 16 wr (by omega) (by omega) (by omega) hr).mono ?_
   rintro e w4 ⟨q,rfl,q0,q1,hr4,hb4⟩
   have hb34:=hbut.trans hb4
   have hown4:=ownsRow_but hown hb4 (by omega)
   have FIN:Hid (∀ (W:World) (gs:List Int) (n:Nat),gs.length=n→n≤20→W.ownsRow (P+1) 3 1 (.slice (some ⟨gg,0,none⟩) n gc) n (nums gs)→But (w.heap.size+1) WA W→Slot1 W P (.slice a mm.length c)∧Slot1 W w.heap.size (.slice none 0 0)∧w.heap.size < W.heap.size∧TnDrawn w (W.setCell ⟨w.heap.size,0,none⟩ (.slice a mm.length c)) a g c mm (some ⟨gg,0,none⟩) gg gs):=by
    intro W gs n hn hl ho hb
    subst hn
    obtain ⟨ga2,gg2,gc2,e2,hI2,hgg2,_⟩:=own_nums ho
    have e3:=(Value.slice.inj e2).1
    have hS:=hSA.but hb (by omega)
    have hI3:IntS W (some ⟨gg,0,none⟩) gg 0 gs:=by
     refine ⟨fun _=>rfl,fun k hk=>?_⟩
     have e4:=hI2.addr (by omega)
     rw [← e3] at e4
     simp at e4
     rw [e4]
     exact hI2.row k hk
    exact ⟨hPA.but hb (by omega),hS,hS.lt,(hsnA.but hb (by omega)).mono (by omega) |>.far (by omega),hsm,hI3.farx (by omega),hl,(But.below bwA hb (by omega)).setCell (Nat.le_refl _) _⟩
   clear hown hr hbut hb4 hI
   by_cases hq:q=0
   ·subst hq
    go_wp2_with fail
    refine (pick_rdr (w.heap.size+1) (w.heap.size+1) (p2+i+1) gs.length w4 (by omega) (by omega) (by omega) hr4).mono ?_
    rintro e w5 ⟨r,rfl,r0,r1,hr5,hb5⟩
    have hb45:=hb34.trans hb5
    have hown5:=ownsRow_but hown4 hb5 (by omega)
    clear hown4 hb34 hb5 hr4
    go_wp2_with fail
    refine (pick_rdr (w.heap.size+1) (w.heap.size+1) (p2+i+1+1) 4 w5 (by omega) (by omega) (by omega) hr5).mono ?_
    rintro e w6 ⟨s,rfl,s0,s1,hr6,hb6⟩
    have hb46:=hb45.trans hb6
    have hown6:=ownsRow_but hown5 hb6 (by omega)
    clear hown5 hb45 hb6 hr5
    obtain ⟨j,rfl⟩:∃ j:Nat,r=j:=⟨r.toNat,by omega⟩
    have hj:j < gs.length:=by omega
    have c6:=hown6.cells (g:=gg) rfl j (.int .i64 gs[j]) (by simp [nums,hj])
    rw [Go.WideShapes.add_plain,Nat.zero_add] at c6
    have f6:=own_fzS hown6 j
    obtain ⟨hown7,hg7⟩:=hown6.stored j (.int .i64 s)
    rw [nums_set] at hown7
    have hb7:=hb46.grown hg7 (fun k hk=>by have:gg=k:=Option.some.inj hk;have:=HW.out;omega)
    obtain ⟨hPf,hSf,lf,hD⟩:=FIN.out _ (gs.set j s) gs.length (by simp) (by omega) hown7 hb7
    have hP6:=hPA.but hb46 (by omega)
    have hS6:=hSA.but hb46 (by omega)
    have p0:=hP6.c
    have s0:=hS6.c
    have sf:=hS6.fz
    have lP6:=hP6.lt
    have lS6:=hS6.lt
    have hn1:P≠gg:=by omega
    have hn2:w.heap.size≠gg:=by omega
    have hn3:gg≠P:=by omega
    have hn4:gg≠w.heap.size:=by omega
    clear hown6 hown7 hg7
    go_wp2_with fail
    have s4:=(hSf.set (.slice a mm.length c)).c
    exact bodyPost_ret (v:=.tuple #[.agg #[.slice a mm.length c],.slice (some ⟨gg,0,none⟩) gs.length gc]) (by simp [results,Tryz.results15,go_sem,s4]) rfl ⟨a,g,c,mm,some ⟨gg,0,none⟩,gg,gc,gs.set j s,by rw [List.length_set],hD⟩
   ·have hq':(q==0)=false:=by simpa using hq
    obtain ⟨hPf,hSf,lf,hD⟩:=FIN.out w4 gs gs.length rfl (by omega) hown4 hb34
    have p0:=hPf.c
    have s0:=hSf.c
    have sf:=hSf.fz
    go_wp2_with fail
    have s4:=(hSf.set (.slice a mm.length c)).c
    exact bodyPost_ret (v:=.tuple #[.agg #[.slice a mm.length c],.slice (some ⟨gg,0,none⟩) gs.length gc]) (by simp [results,Tryz.results15,go_sem,s4]) rfl ⟨a,g,c,mm,some ⟨gg,0,none⟩,gg,gc,gs,rfl,hD⟩
end Go.Proofs.YtihfibjckkmmbaaGreat
