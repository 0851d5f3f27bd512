/- spec.l71Row: a drawn row of one to three numbers (mostly); laws.lpBack: where the numbers of a row stand. spec.DrawTurnPlaces, spec.DrawTurnThreads: a drawn program, and a row. Of codes of at most 1048576 bytes. -/
import Derived.BigQuiet
import Derived.Deep.AppendLies
import Derived.Deep.MidRow
import Derived.Deep.QuietTactic
import Derived.Deep.RegionHeld3
import Derived.Deep.RegionLaw
import Derived.Deep.RegionWith
import Derived.Deep.WholeRow
import Derived.Laws.AppendOwn
import Derived.Laws.AppendOwnNone
import Derived.Laws.OwnMore
import Derived.Shelf.Abstract
import Derived.Sort.Grow
import Derived.WalkKit
import Derived.WalkLawsBesides
import Derived.WalkSpells
import Derived.Test.YtihfibjckkmmbaaGreatRows
import Derived.Test.YtihfibjckkmmbaaGreatOebd
namespace Go.Proofs.YtihfibjckkmmbaaGreat
open Go.RowKit
theorem M.mod_hit (n:Nat) (h1:1≤n) (h3:n≤3) (x:Nat) (hx:x < n):∃ j,21≤j∧j < 21+n∧j % n=x:=by
 match n,h1,h3 with
 | 1,_,_=>exact ⟨21,by omega,by omega,by omega⟩
 | 2,_,_ =>
  rcases (show x=0∨x=1 by omega) with rfl | rfl
  ·exact ⟨22,by omega,by omega,rfl⟩
  ·exact ⟨21,by omega,by omega,rfl⟩
 | 3,_,_ =>
  rcases (show x=0∨x=1∨x=2 by omega) with rfl | rfl | rfl
  ·exact ⟨21,by omega,by omega,rfl⟩
  ·exact ⟨22,by omega,by omega,rfl⟩
  ·exact ⟨23,by omega,by omega,rfl⟩
theorem M.row_full {n i:Nat} {gs:List Int} (h1:1≤n) (h3:n≤3) (h:∀ j,21≤j→j < i→((j % n:Nat):Int)∈gs) (hl:gs.length < n):i < 21+n:=by
 apply Classical.byContradiction
 intro hi
 have:=M.nodupI_le (M.bel_nodup n) (m:=gs) (fun x hx=>by
  obtain ⟨hx0,hx1⟩:=M.bel_mem.1 hx
  obtain ⟨j,j1,j2,j3⟩:=M.mod_hit n h1 h3 x.toNat (by omega)
  have:=h j j1 (by omega)
  rw [j3] at this
  rw [show ((x.toNat:Nat):Int)=x by omega] at this
  exact this)
 rw [M.bel_len] at this
 omega
set_option maxHeartbeats 1000000 in
set_option maxRecDepth 100000 in
theorem l71Row_any (B rb p n:Nat) (w:World) (hn1:1≤n) (hn3:n≤3) (hp:p≤100000) (h:Rdr w B rb p) :
  Calls Tryz.prog 31 #[.pointer (some ⟨rb,0,none⟩),.int .i64 n] w fun e w'=>∃ v,e=.returned v∧∃ gs:List Int,w'.ownsRow w.heap.size 3 1 v gs.length (nums gs)∧gs.length≤4∧∃ p':Nat,p'≤p+40∧Rdr w' B rb p'∧But rb w w':=by
 obtain ⟨i0,hi,hz0,hz1,hz2⟩:=info_parts Tryz.infoInt
 have hlt:=h.lt
 have hE:=World.ownsRow_made (base:=w.heap.size) (e:=3) (size:=1) w #[] 0 (Nat.le_refl _) (Nat.zero_le _) rfl
 have hgeB:=h.ge
 have hn0:¬ ((n:Int)=0):=by omega
 go_enter Tryz.func31,Tryz.ntmps31
 go_wp2_with fail
 go_loopw [5,6] (fun s5 s6 wr=>∃ (i:Nat) (gs:List Int),s6=.int .i64 i∧i≤24∧gs.length≤n∧Hid (∀ j,21≤j→j < i→((j % n:Nat):Int)∈gs)∧wr.ownsRow w.heap.size 3 1 s5 gs.length (nums gs)∧Rdr wr B rb (p+i)∧But rb w wr) (fun _ s6 _=>30 - (intOf s6).toNat)
 case atStart=>exact ⟨0,[],rfl,Nat.zero_le _,Nat.zero_le _,fun j h1 h2=>by omega,hE,h.alloc _,(But.refl _ _).alloc _⟩
 case round =>
  obtain ⟨i,gs,rfl,hi24,hgn,HJ,hown,hr,hbut⟩:=hrel
  clear hE
  have hbs:=hbut.size
  have hge:=own_ge hown
  obtain ⟨ga,gg,gc,rfl,hI,hgg,_⟩:=own_nums hown
  by_cases hlt2:gs.length < n
  ·have hi21:=M.row_full hn1 hn3 HJ.out hlt2
   have hlt':(gs.length:Int) < n:=by omega
   go_wp2_with fail
   refine (pick_rdr B rb (p+i) n wr (by omega) (by omega) (by omega) hr).mono ?_
   rintro e w4 ⟨q,rfl,q0,q1,hr4,hb4⟩
   have hb34:=hbut.trans hb4
   have hown4:=ownsRow_but hown hb4 hlt
   have hI4:IntS w4 ga gg 0 gs:=by
    obtain ⟨a2,g2,c2,e2,i2,_,_⟩:=own_nums hown4
    obtain ⟨rfl,_,rfl⟩:=Value.slice.inj e2
    refine ⟨hI.addr,fun k hk=>?_⟩
    have e3:=hI.addr (by omega)
    have e4:=i2.addr (by omega)
    rw [e3] at e4
    simp at e4
    rw [e4]
    exact i2.row k hk
   have hbs4:=hb34.size
   have CH:=fun k=>l12Has_any ga gg 0 gc gs k w4 (by omega) hI4
   have FIN:Hid (∀ (k:Int),(21≤i→k=((i % n:Nat):Int))→(M.has gs k=true→∀ j,21≤j→j < i+1→((j % n:Nat):Int)∈gs)∧(∀ j,21≤j→j < i+1→((j % n:Nat):Int)∈gs++[k])):=by
    intro k hk
    refine ⟨fun hh j h1 h2=>?_,fun j h1 h2=>?_⟩
    ·by_cases e:j=i
     ·subst e;rw [← hk h1];exact M.has_mem hh
     ·exact HJ.out j h1 (by omega)
    ·by_cases e:j=i
     ·subst e;rw [← hk h1];simp
     ·exact List.mem_append_left _ (HJ.out j h1 (by omega))
   clear HJ hown hI hr hbut hb4
   by_cases h20:20 < i
   ·have h20':(20:Int) < i:=by omega
    have htm:Int.tmod (i:Int) n=((i % n:Nat):Int):=by rw [Int.tmod_eq_emod_of_nonneg (by omega)];exact (Int.natCast_emod _ _).symm
    have hmod:i % n < n:=Nat.mod_lt _ (by omega)
    obtain ⟨f1,f2⟩:=FIN.out ((i % n:Nat):Int) (fun _=>rfl)
    have F1:Hid (M.has gs ((i % n:Nat):Int)=true→∀ j,21≤j→j < i+1→((j % n:Nat):Int)∈gs):=f1
    have F2:Hid (∀ j,21≤j→j < i+1→((j % n:Nat):Int)∈gs++[((i % n:Nat):Int)]):=f2
    clear f1 f2 FIN
    generalize i % n=m at *
    have CHm:=CH (m:Int)
    clear CH
    cases hh:M.has gs (m:Int)
    ·rw [hh] at CHm
     go_wp2_with (first | (go_at_call 52;refine CHm.mono ?_;rintro e w5 ⟨rfl,rfl⟩) | (at_builtin;refine wpList_append_own _ rfl (.tmp 27) (.tmp 29) 26 rfl _ 3 i0 _ 1 8 Tryz.underlying26 hi hz0 hz1 hz2 rfl (by decide) _ _ _ rfl (hown4.alloc _) ⟨w5.heap.size,0,none⟩ 1 1 [.int .i64 m] rfl rfl (cells_new1 _ _ _ _ (by simp)) (one1 _) (by unfold maxLen;omega) (by omega) (by simp;omega) ?_))
     intro v6 w6 hown6 hg6 _
     have hb6:=(hb34.alloc _).grown hg6 (fun k hk=>by have:=hge k hk;omega)
     have hr6:=((hr4.alloc (.cells #[.int .i64 m] 3)).grown hg6 (fun k hk=>by have:=hge k hk;omega))
     have hown7:w6.ownsRow w.heap.size 3 1 v6 (gs++[(m:Int)]).length (nums (gs++[(m:Int)])):=by rw [nums_snoc,List.length_append];exact hown6
     clear hown6 hg6
     go_wp2_with fail
     exact ⟨⟨i+1,gs++[(m:Int)],by go_num,by omega,by simp;omega,F2,hown7,hr6,hb6⟩,by simp [intOf];omega⟩
    ·rw [hh] at CHm
     go_wp2_with (first | (go_at_call 52;refine CHm.mono ?_;rintro e w5 ⟨rfl,rfl⟩))
     exact ⟨⟨i+1,gs,by go_num,by omega,hgn,F1.out hh,hown4,hr4,hb34⟩,by simp [intOf];omega⟩
   ·have h20':¬ (20:Int) < i:=by omega
    obtain ⟨f1,f2⟩:=FIN.out q (fun h=>by omega)
    have F1:Hid (M.has gs q=true→∀ j,21≤j→j < i+1→((j % n:Nat):Int)∈gs):=f1
    have F2:Hid (∀ j,21≤j→j < i+1→((j % n:Nat):Int)∈gs++[q]):=f2
    clear f1 f2 FIN
    have CHm:=CH q
    clear CH
    cases hh:M.has gs q
    ·rw [hh] at CHm
     go_wp2_with (first | (go_at_call 52;refine CHm.mono ?_;rintro e w5 ⟨rfl,rfl⟩) | (at_builtin;refine wpList_append_own _ rfl (.tmp 27) (.tmp 29) 26 rfl _ 3 i0 _ 1 8 Tryz.underlying26 hi hz0 hz1 hz2 rfl (by decide) _ _ _ rfl (hown4.alloc _) ⟨w5.heap.size,0,none⟩ 1 1 [.int .i64 q] rfl rfl (cells_new1 _ _ _ _ (by simp)) (one1 _) (by unfold maxLen;omega) (by omega) (by simp;omega) ?_))
     intro v6 w6 hown6 hg6 _
     have hb6:=(hb34.alloc _).grown hg6 (fun k hk=>by have:=hge k hk;omega)
     have hr6:=((hr4.alloc (.cells #[.int .i64 q] 3)).grown hg6 (fun k hk=>by have:=hge k hk;omega))
     have hown7:w6.ownsRow w.heap.size 3 1 v6 (gs++[q]).length (nums (gs++[q])):=by rw [nums_snoc,List.length_append];exact hown6
     clear hown6 hg6
     go_wp2_with fail
     exact ⟨⟨i+1,gs++[q],by go_num,by omega,by simp;omega,F2,hown7,hr6,hb6⟩,by simp [intOf];omega⟩
    ·rw [hh] at CHm
     go_wp2_with (first | (go_at_call 52;refine CHm.mono ?_;rintro e w5 ⟨rfl,rfl⟩))
     exact ⟨⟨i+1,gs,by go_num,by omega,hgn,F1.out hh,hown4,hr4,hb34⟩,by simp [intOf];omega⟩
  ·have hlt':¬ (gs.length:Int) < n:=by omega
   clear HJ
   go_wp2_with fail
   refine (pick_rdr B rb (p+i) 20 wr (by omega) (by omega) (by omega) hr).mono ?_
   rintro e w4 ⟨q,rfl,q0,q1,hr4,hb4⟩
   have hb34:=hbut.trans hb4
   have hown4:=ownsRow_but hown hb4 hlt
   have hbs4:=hb34.size
   clear hown hr hbut hb4 hI
   by_cases hq:q=0
   ·subst hq
    go_wp2_with fail
    refine (pick_rdr B rb (p+i+1) 3 w4 (by omega) (by omega) (by omega) hr4).mono ?_
    rintro e w5 ⟨r,rfl,r0,r1,hr5,hb5⟩
    have hb45:=hb34.trans hb5
    have hown5:=ownsRow_but hown4 hb5 hlt
    have hbs5:=hb45.size
    clear hown4 hb34 hb5 hr4
    go_wp2_with (at_builtin;refine wpList_append_own _ rfl (.tmp 34) (.tmp 37) 26 rfl _ 3 i0 _ 1 8 Tryz.underlying26 hi hz0 hz1 hz2 rfl (by decide) _ _ _ rfl (hown5.alloc _) ⟨w5.heap.size,0,none⟩ 1 1 [.int .i64 r] rfl rfl (cells_new1 _ _ _ _ (by simp)) (one1 _) (by unfold maxLen;omega) (by omega) (by simp;omega) ?_)
    intro v6 w6 hown6 hg6 _
    have hb6:=(hb45.alloc _).grown hg6 (fun k hk=>by have:=hge k hk;omega)
    have hr6:=((hr5.alloc (.cells #[.int .i64 r] 3)).grown hg6 (fun k hk=>by have:=hge k hk;omega))
    have hown7:w6.ownsRow w.heap.size 3 1 v6 (gs++[r]).length (nums (gs++[r])):=by rw [nums_snoc,List.length_append];exact hown6
    clear hown6 hg6
    go_wp2_with fail
    go_ret
    exact ⟨_,rfl,gs++[r],hown7,by simp;omega,p+i+1+1,by omega,hr6,hb6⟩
   ·have hq':(q==0)=false:=by simpa using hq
    go_wp2_with fail
    go_ret
    exact ⟨_,rfl,gs,hown4,by omega,p+i+1,by omega,hr4,hb34⟩
end Go.Proofs.YtihfibjckkmmbaaGreat
namespace Go.Proofs.YtihfibjckkmmbaaGreat
open Go.RowKit
set_option maxHeartbeats 1000000 in
set_option maxRecDepth 100000 in
set_option linter.unusedSimpArgs false in
theorem DrawTurnPlaces_any (ca:Option Addr) (cb co L C:Nat) (x:Nat→Int) (w:World) (hL:L≤C) (had:0 < L→ca=some ⟨cb,co,none⟩) (hc:∀ i,i < L→w.cell? ⟨cb,co+i,none⟩=some (.int .u8 (x i))∧0≤x i∧x i≤255) (hLb:L≤1048576) :
  Calls Tryz.prog 8 #[.slice ca L C] w fun e w'=>∃ (a:Option Addr) (g c:Nat) (mm:List (List M.D)) (ga:Option Addr) (gg gc:Nat) (gs:List Int),e=.returned (.tuple #[.agg #[.slice a mm.length c],.slice ga gs.length gc])∧TnDrawn w w' a g c mm ga gg gs:=by
 go_enter Tryz.func8,Tryz.ntmps8
 go_wp2_with fail
 have hb0:=below1 w (.cells #[.slice none 0 0] 25)
 refine (l6Open_any ca cb co L C x _ hL had (fun i hi=>⟨by rw [hb0.cell (p:=⟨cb,co+i,none⟩) (World.block_lt_of_cell? _ _ (hc i hi).1)];exact (hc i hi).1,(hc i hi).2⟩) hLb).mono ?_
 rintro e w1 ⟨rfl,hr1,hb1⟩
 simp only [World.size_alloc] at hr1 hb1 ⊢
 have hb1w:Below w.heap.size w w1:=hb0.trans (hb1.mono (by omega))
 have hS1:=(Slot1.new w (.slice none 0 0) 25).but (But.of (rb:=w.heap.size+1) (by simpa only [World.size_alloc] using hb1)) (by omega)
 have hlt1:=hr1.lt
 clear hc had hb0 hb1
 go_wp2_with fail
 refine (l71Any_any _ (w.heap.size+1) 0 _ (by omega) hr1).mono ?_
 rintro e w2 ⟨a,g,c,mm,rfl,hsn,hsm,p2,hp2,hr2,hb2⟩
 have hS2:=hS1.but hb2 (by omega)
 have bw2:=But.below hb1w hb2 (by omega)
 have hl2:w1.heap.size≤w2.heap.size:=hb2.size
 have hsn2:=hsn.mono (show w.heap.size+1+1≤w1.heap.size+1 by omega)
 clear hS1 hb2 hr1 hsn hb1w
 go_wp2_with fail
 refine (l71Row_any _ (w.heap.size+1) p2 3 w2 (by omega) (by omega) (by omega) hr2).mono ?_
 rintro e w3 ⟨v3,rfl,gs,hown,hgl,p3,hp3,hr3,hb3⟩
 obtain ⟨ga,gg,gc,rfl,hI,hgg,_⟩:=own_nums hown
 have hS3:=hS2.but hb3 (by omega)
 have bw3:=But.below bw2 hb3 (by omega)
 have y0:=hS3.c
 have yf:=hS3.fz
 have ly:=hS3.lt
 have hne:gg≠w.heap.size:=by have:=hS2.lt;omega
 go_wp2_with fail
 have q1:=(hS3.set (.slice a mm.length c)).c
 exact bodyPost_ret (v:=.tuple #[.agg #[.slice a mm.length c],.slice ga gs.length gc]) (by simp [results,Tryz.results8,go_sem,q1]) rfl ⟨a,g,c,mm,ga,gg,gc,gs,rfl,⟨((hsn2.but hb3 (by omega)).mono (by omega)).far (by omega),hsm,hI.farx hne,by omega,bw3.setCell (Nat.le_refl _) _⟩⟩
end Go.Proofs.YtihfibjckkmmbaaGreat
