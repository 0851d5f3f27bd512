/- Turning about, plainly: rows of numbers, threads, places and values turned, programs side by side, plain ones. No condition. And what goes with it: TnMath, TnFact, TnPl, TnSp. -/
import Derived.BigQuiet
import Derived.Deep.AppendLies
import Derived.Deep.MidRow
import Derived.Deep.QuietTactic
import Derived.Deep.RegionHeld3
import Derived.Deep.RegionLaw
import Derived.Deep.RegionWith
import Derived.Deep.WholeRow
import Derived.Laws.OwnMore
import Derived.Maps.AppendAt
import Derived.Sort.Grow
import Derived.WalkKit
import Derived.WalkLawsBesides
import Derived.WalkSpells
import Derived.Test.YtihfibjckkmmbaaGreatRows
import Derived.Test.YtihfibjckkmmbaaGreatOebm
namespace Go.Proofs.YtihfibjckkmmbaaGreat
namespace M
def turnPlaces (ll:List (List D)) (row:List Int):Option (List (List D)):=if prog ll&&rowN row 3 then some (mapS (placeF row) ll) else none
theorem turnPlaces_bad {ll:List (List D)} {row:List Int} (h:prog ll=false):turnPlaces ll row=none:=by simp [turnPlaces,h]
theorem turnPlaces_row {ll:List (List D)} {row:List Int} (h:rowN row 3=false):turnPlaces ll row=none:=by simp [turnPlaces,h]
theorem turnPlaces_yes {ll:List (List D)} {row:List Int} (h:prog ll=true) (h2:rowN row 3=true):turnPlaces ll row=some (mapS (placeF row) ll):=by simp [turnPlaces,h,h2]
theorem turnPlaces_some {ll mm:List (List D)} {row:List Int} (h:turnPlaces ll row=some mm):prog ll=true∧rowN row 3=true∧mm=mapS (placeF row) ll:=by
 unfold turnPlaces at h
 split at h
 ·rename_i hc
  simp only [Bool.and_eq_true] at hc
  exact ⟨hc.1,hc.2,(Option.some.inj h).symm⟩
 ·cases h
theorem turnPlaces_small {ll mm:List (List D)} {row:List Int} (e:(turnPlaces ll row).getD []=mm):mm.length≤3∧∀ t∈mm,t.length≤7:=by
 cases h:turnPlaces ll row with
 | none=>rw [h] at e;subst e;simp
 | some x =>
  rw [h] at e
  obtain rfl:x=mm:=e
  obtain ⟨h1,h2,rfl⟩:=turnPlaces_some h
  obtain ⟨h3,h7⟩:=prog_le h1
  exact ⟨by rw [mapS_len];exact h3,mapS_small h7⟩
end M
end Go.Proofs.YtihfibjckkmmbaaGreat
namespace Go.Proofs.YtihfibjckkmmbaaGreat
namespace M
theorem place_kept {row:List Int} (hr:rowN row 3=true):Kept (placeF row) (fun _=>True):=by
 have hk:∀ d,(placeF row d).k=d.k:=fun d=>by unfold placeF;split<;>rfl
 refine ⟨fun d _ hd=>?_,fun d=>by rw [hk],fun d=>by rw [hk],fun d=>by rw [hk],fun d=>by rw [hk],fun d=>by rw [hk],fun d=>by rw [hk]⟩
 unfold placeF
 cases hu:uses d.k
 ·simpa using hd
 ·simp only [if_true]
  simp only [doOk,placeOk,hu,if_true,Bool.and_eq_true,decide_eq_true_eq] at hd ⊢
  refine ⟨⟨hd.1.1,?_⟩,hd.2⟩
  have hl:=rowN_len hr
  rw [getD_get (by omega)]
  exact rowN_get hr _ (by omega)
theorem place_back {row:List Int} (hr:rowN row 3=true) {d:D} (hd:doOk d=true):placeF (back row) (placeF row d)=d:=by
 obtain ⟨k,p,v⟩:=d
 unfold placeF
 cases hu:uses k
 ·simp [hu]
 ·simp only [if_true,hu]
  simp only [doOk,placeOk,hu,if_true,Bool.and_eq_true,decide_eq_true_eq] at hd
  have hp:=three_of hd.1.2
  clear hd
  rcases row3 hr with rfl | rfl | rfl | rfl | rfl | rfl<;>rcases hp with rfl | rfl | rfl<;>rfl
theorem back_row3 {row:List Int} (hr:rowN row 3=true):rowN (back row) 3=true:=by
 rcases row3 hr with rfl | rfl | rfl | rfl | rfl | rfl<;>decide
theorem places_back {ll:List (List D)} {row:List Int} (h:prog ll=true) (hr:rowN row 3=true):prog (mapS (placeF row) ll)=true∧rowN (back row) 3=true∧mapS (placeF (back row)) (mapS (placeF row) ll)=ll :=
 ⟨(place_kept hr).prog h (fun _ _ _ _=>trivial),back_row3 hr,mapS_back fun t ht d hd=>place_back hr (prog_dos h t ht d hd)⟩
end M
end Go.Proofs.YtihfibjckkmmbaaGreat
namespace Go.Proofs.YtihfibjckkmmbaaGreat
open Go.RowKit
namespace M
theorem prog_place {ll:List (List D)} (h:prog ll=true) {d:D} (hd:∃ t∈ll,d∈t) (hu:uses d.k=true):0≤d.p∧d.p < 3:=by
 obtain ⟨t,ht,hd⟩:=hd
 have:=prog_does h ht hd
 simp only [doOk,placeOk,hu,if_true,Bool.and_eq_true,decide_eq_true_eq] at this
 exact this.1.2
end M
set_option maxHeartbeats 2000000 in
theorem iturnPlaces_any (a:Option Addr) (b o c:Nat) (ll:List (List M.D)) (hl:ll.length≤1048576) (hls:∀ t∈ll,t.length≤1048576) (ga:Option Addr) (gb go gc:Nat) (gs:List Int) (hgl:gs.length≤1048576) (w:World) (h:DoSS w a b o ll) (hG:IntS w ga gb go gs) :
  Calls Tryz.prog 10 #[.agg #[.slice a ll.length c],.slice ga gs.length gc] w fun e w'=>∃ v,e=.returned (.tuple #[.agg #[v],.bool (M.turnPlaces ll gs).isSome])∧(∃ vs,Rdg w' w.heap.size v ((M.turnPlaces ll gs).getD []) vs)∧Below w.heap.size w w':=by
 have hmf:∀ (fn:Fn) (first cap:Array Value) (w:World),(Instr.makeFunc fn first cap).run Tryz.prog w=.ok (.func fn first cap) w:=fun _ _ _ _=>rfl
 have b2:=below2 w (.cells #[.slice a ll.length c] 25) (.cells #[.slice none 0 0] 25)
 have h2:=h.below b2 (Nat.le_refl _)
 have hG2:=hG.below b2 (Nat.le_refl _)
 have hX:=(Slot1.new w (.slice a ll.length c) 25).bl' (below1 _ (.cells #[.slice none 0 0] 25))
 have hY:=Slot1.new (w.alloc (.cells #[.slice a ll.length c] 25)) (.slice none 0 0) 25
 rw [World.size_alloc] at hY
 go_enter Tryz.func10,Tryz.ntmps10
 go_wp2_with fail
 generalize (w.alloc (.cells #[.slice a ll.length c] 25)).alloc (.cells #[.slice none 0 0] 25)=W at *
 refine (numbersBelow_any 3 W (by omega)).mono ?_
 rintro e W1 ⟨v1,rfl,hown1,b1⟩
 obtain ⟨a1,g1,c1,rfl,hI1,_,_⟩:=own_nums hown1
 have CT:=turnI_any ga gb go gc gs a1 g1 0 c1 (M.bel 3) W1 hgl (by rw [M.bel_len];omega) (hG2.below b1 (Nat.le_refl _)) hI1
 have e3:(M.bel 3).length=3:=M.bel_len 3
 rw [e3] at CT ⊢
 clear hown1 hI1 e3
 go_wp2_with fail
 refine CT.mono ?_
 rintro e W2 ⟨v2,rfl,hown2,b2'⟩
 obtain ⟨pa,pb,pc,rfl,hI2,_,_⟩:=own_nums hown2
 obtain ⟨rw_,hrw⟩:∃ r,M.turned 0 gs (M.bel 3)=r:=⟨_,rfl⟩
 rw [hrw] at hI2 ⊢
 have HRW:Hid (M.turned 0 gs (M.bel 3)=rw_):=hrw
 clear hrw hown2 CT
 have bA:=below1 W2 (.cells #[.slice pa rw_.length pc] 26)
 have b12:=b1.trans (b2'.mono b1.size)
 have b1A:=b12.trans (bA.mono b12.size)
 have bwA:=b2.trans (b1A.mono b2.size)
 have hX2:=hX.bl' b12
 have hY2:=hY.bl' b12
 have hXA:=hX.bl' b1A
 have hYA:=hY.bl' b1A
 have y0:=hY2.c
 have yf:=hY2.fz
 have ly:=hY2.lt
 have lx:=hX2.lt
 have hDA:=h2.below b1A (Nat.le_refl _)
 have hCA:=Slot1.new W2 (.slice pa rw_.length pc) 26
 have hIA:=hI2.below bA (Nat.le_refl _)
 have hpb:0 < rw_.length→pb < W2.heap.size:=fun h=>hI2.lt h
 have bw2:=b2.trans (b12.mono b2.size)
 have hb2s:w.heap.size+1 < W2.heap.size:=Nat.lt_of_lt_of_le hY.lt b12.size
 clear b1 b2' b12 b1A bA hX hY h2 hG2 hI2
 cases hr:M.rowN gs 3
 ·have hno:=M.turnPlaces_row (ll:=ll) hr
  go_wp2_with fail
  have q1:=((hY2.set (.slice none 0 0)).bl' (below1 _ (.cells #[.slice pa rw_.length pc] 26))).c
  exact bodyPost_ret (v:=.tuple #[.agg #[.slice none 0 0],.bool false]) (by simp [results,Tryz.results10,go_sem,q1]) rfl ⟨_,by rw [hno];rfl,⟨[],by rw [hno];exact Rdg.nil _ _⟩,(bw2.setCell (by show w.heap.size≤w.heap.size+1;omega) _).alloc (by simp;omega) _⟩
 ·obtain rfl:gs=rw_:=by have:=HRW.out;rw [M.turned_row hr] at this;exact this
  have CP:=iprog_any a b o c ll _ hl hls hDA
  have x0:=hX2.c
  have hg3:Hid (gs.length=3):=M.rowN_len hr
  clear y0 yf
  cases hp:M.prog ll
  ·have hno:=M.turnPlaces_bad (row:=gs) hp
   rw [hp] at CP
   go_wp2_with (first | (go_at_call 38;refine CP.mono ?_;rintro e W3 ⟨rfl,b3⟩;have hY3:=hYA.bl' b3;have y0:=hY3.c;have yf:=hY3.fz;have ly:=hY3.lt))
   have bw3:=bwA.trans (b3.mono bwA.size)
   have q1:=(hY3.set (.slice none 0 0)).c
   exact bodyPost_ret (v:=.tuple #[.agg #[.slice none 0 0],.bool false]) (by simp [results,Tryz.results10,go_sem,q1]) rfl ⟨_,by rw [hno];rfl,⟨[],by rw [hno];exact Rdg.nil _ _⟩,bw3.setCell (by show w.heap.size≤w.heap.size+1;omega) _⟩
  ·have hyes:=M.turnPlaces_yes hp hr
   have HY1:Hid ((M.turnPlaces ll gs).isSome=true):=by show _=_;rw [hyes];rfl
   have HY2:Hid ((M.turnPlaces ll gs).getD []=M.mapS (M.placeF gs) ll):=by show _=_;rw [hyes];rfl
   obtain ⟨h3,h7⟩:=M.prog_le hp
   have HP:Hid (M.prog ll=true):=hp
   have HG3:=hg3
   rw [hp] at CP
   clear hyes hr hp hg3
   go_wp2_with (first | (go_at_call 38;refine CP.mono ?_;rintro e W3 ⟨rfl,b3⟩;have hY3:=hYA.bl' b3;have hX3:=hXA.bl' b3;have x3:=hX3.c))
   have hC3:=hCA.bl' b3
   have hI3:=hIA.below b3 (Nat.le_refl _)
   have hD3:=hDA.below b3 (Nat.le_refl _)
   have bw3:=bwA.trans (b3.mono bwA.size)
   have hlt3:W2.heap.size < W3.heap.size:=hC3.lt
   have lY3:=hY3.lt
   refine (changeP_any a b o c ll W2.heap.size (M.placeF gs) W3 h3 h7 hD3 (fun Wx g off d hb hge hd hda hf=>placeC_any g off W2.heap.size d pa pb 0 pc gs Wx (by have:=HG3.out;omega) ((hC3.bl' hb).c) (hI3.below hb (Nat.le_refl _)) hda hf (fun hu=>by have:=M.prog_place HP.out hd hu;have:=HG3.out;omega) (by omega) (by have:=hpb (by have:=HG3.out;omega);omega))).mono ?_
   rintro e W4 ⟨v4,rfl,⟨vs,hR4⟩,b4⟩
   have hY4:=hY3.bl' b4
   have y0:=hY4.c
   have yf:=hY4.fz
   have ly:=hY4.lt
   have bw4:=bw3.trans (b4.mono bw3.size)
   obtain ⟨av,gv,cv,rfl,_⟩:=hR4.b.ss
   rw [M.mapS_len] at hR4 ⊢
   go_wp2_with fail
   have q1:=(hY4.set (.slice av ll.length cv)).c
   exact bodyPost_ret (v:=.tuple #[.agg #[.slice av ll.length cv],.bool true]) (by simp [results,Tryz.results10,go_sem,q1]) rfl ⟨_,by rw [HY1.out],⟨vs,by rw [HY2.out];exact (hR4.far (by omega) _).mono (by have:=bw3.size;omega)⟩,bw4.setCell (by show w.heap.size≤w.heap.size+1;omega) _⟩
end Go.Proofs.YtihfibjckkmmbaaGreat
namespace Go.Proofs.YtihfibjckkmmbaaGreat
open Go.RowKit
set_option maxHeartbeats 4000000 in
set_option maxRecDepth 100000 in
set_option linter.unusedSimpArgs false in
theorem sturnPlaces_any (a:Option Addr) (b o c:Nat) (ll:List (List M.D)) (hl:ll.length≤1048576) (hls:∀ t∈ll,t.length≤1048576) (ga:Option Addr) (gb go gc:Nat) (gs:List Int) (hgl:gs.length≤1048576) (w:World) (h:DoSS w a b o ll) (hG:IntS w ga gb go gs) :
  Calls Tryz.prog 9 #[.agg #[.slice a ll.length c],.slice ga gs.length gc] w fun e w'=>∃ v,e=.returned (.tuple #[.agg #[v],.bool (M.turnPlaces ll gs).isSome])∧(∃ vs,Rdg w' w.heap.size v ((M.turnPlaces ll gs).getD []) vs)∧Below w.heap.size w w':=by
 obtain ⟨i0,hi,hz0,hz1,hz2⟩:=info_parts Tryz.info53
 obtain ⟨j0,hj,hy0,hy1,hy2⟩:=info_parts Tryz.info56
 have b2:=below2 w (.cells #[.slice a ll.length c] 25) (.cells #[.slice none 0 0] 25)
 have h2:=h.below b2 (Nat.le_refl _)
 have hG2:=hG.below b2 (Nat.le_refl _)
 have hX:=(Slot1.new w (.slice a ll.length c) 25).bl' (below1 _ (.cells #[.slice none 0 0] 25))
 have hY:=Slot1.new (w.alloc (.cells #[.slice a ll.length c] 25)) (.slice none 0 0) 25
 rw [World.size_alloc] at hY
 go_enter Tryz.func9,Tryz.ntmps9
 cases hp:M.prog ll
 ·have hno:=M.turnPlaces_bad (row:=gs) hp
  have CP:=sprog_any a b o c ll _ hl hls h2
  rw [hp] at CP
  go_wp2_with (first | (go_at_call 32;refine CP.mono ?_;rintro e W1 ⟨rfl,b1⟩;have hY1:=hY.bl' b1;have y0:=hY1.c;have yf:=hY1.fz;have ly:=hY1.lt))
  have bw1:=b2.trans (b1.mono b2.size)
  have q1:=(hY1.set (.slice none 0 0)).c
  exact bodyPost_ret (v:=.tuple #[.agg #[.slice none 0 0],.bool false]) (by simp [results,Tryz.results9,go_sem,q1]) rfl ⟨_,by rw [hno];rfl,⟨[],by rw [hno];exact Rdg.nil _ _⟩,bw1.setCell (by show w.heap.size≤w.heap.size+1;omega) _⟩
 ·obtain ⟨h3,h7⟩:=M.prog_le hp
  have CP:=sprog_any a b o c ll _ hl hls h2
  rw [hp] at CP
  have CO:=fun W hW=>l22Row_any ga gb go gc gs 3 W hgl (by omega) hW
  cases hok:M.rowN gs 3
  ·have hno:=M.turnPlaces_row (ll:=ll) hok
   rw [hok] at CO
   go_wp2_with (first | (go_at_call 32;refine CP.mono ?_;rintro e W1 ⟨rfl,b1⟩;have hX1:=hX.bl' b1;have x0:=hX1.c;have hG1:=hG2.below b1 (Nat.le_refl _);have hY1:=hY.bl' b1;have y0:=hY1.c;have yf:=hY1.fz;have ly:=hY1.lt) | (go_at_call 33;refine (CO _ hG1).mono ?_;rintro e W2 ⟨rfl,rfl⟩))
   have bw1:=b2.trans (b1.mono b2.size)
   have q1:=(hY1.set (.slice none 0 0)).c
   exact bodyPost_ret (v:=.tuple #[.agg #[.slice none 0 0],.bool false]) (by simp [results,Tryz.results9,go_sem,q1]) rfl ⟨_,by rw [hno];rfl,⟨[],by rw [hno];exact Rdg.nil _ _⟩,bw1.setCell (by show w.heap.size≤w.heap.size+1;omega) _⟩
  ·rw [hok] at CO
   have hyes:=M.turnPlaces_yes hp hok
   have HY1:Hid ((M.turnPlaces ll gs).isSome=true):=by show _=_;rw [hyes];rfl
   have HY2:Hid ((M.turnPlaces ll gs).getD []=M.mapS (M.placeF gs) ll):=by show _=_;rw [hyes];rfl
   have HR:Hid (M.rowN gs 3=true):=hok
   have HL:Hid (gs.length=3):=M.rowN_len hok
   have HPq:Hid (M.prog ll=true):=hp
   clear hyes hok hp
   go_wp2_with (first | (go_at_call 32;refine CP.mono ?_;rintro e W1 ⟨rfl,b1⟩;have hX1:=hX.bl' b1;have x0:=hX1.c;have hG1:=hG2.below b1 (Nat.le_refl _);have hY1:=hY.bl' b1) | (go_at_call 33;refine (CO _ hG1).mono ?_;rintro e W2 ⟨rfl,rfl⟩))
   have bw1:=b2.trans (b1.mono b2.size)
   have bA:=below1 W2 (.cells #[.slice none 0 0] 25)
   have hXA:=hX1.bl' bA
   have hYA:=hY1.bl' bA
   have hZA:=Slot1.new W2 (.slice none 0 0) 25
   have lX:=hX1.lt
   have lY:=hY1.lt
   have hD:=h.below bw1 (Nat.le_refl _)
   generalize W2.alloc (.cells #[.slice none 0 0] 25)=WA at *
   have hX1c:=hX1.c
   clear CP CO x0 hX hY h2 hG2 b2 b1 hX1
   go_loopw [7] (fun s7 wr=>∃ (n:Nat) (v:Value) (vs:List Value),s7=.int .i64 n∧n≤ll.length∧Rdg wr (W2.heap.size+1) v (M.mapS (M.placeF gs) (ll.take n)) vs∧Slot1 wr W2.heap.size v∧Slot1 wr (w.heap.size+1) (.slice none 0 0)∧Below W2.heap.size W2 wr) (fun s7 _=>ll.length - (intOf s7).toNat)
   case atStart=>exact ⟨0,.slice none 0 0,[],rfl,Nat.zero_le _,by simpa [M.mapS] using Rdg.nil _ _,hZA,hYA,bA⟩
   case round =>
    obtain ⟨n,v,vs,rfl,hn,hR,hP,hY,hbel⟩:=hrel
    clear hZA hXA hYA bA
    by_cases hlt:n < ll.length
    ·obtain ⟨rfl⟩:=h.addr (by omega)
     obtain ⟨a',b',o',c',hc0,hd0⟩:=hD.row n hlt
     have hc:=(hbel.cell (p:=⟨b,o+n,none⟩) (World.block_lt_of_cell? _ _ hc0)).trans hc0
     have xx0:=(hbel.cell (p:=⟨w.heap.size,0,none⟩) lX).trans hX1c
     have HW:Hid (M.mapS (M.placeF gs) (ll.take (n+1))=M.mapS (M.placeF gs) (ll.take n)++[ll[n].map (M.placeF gs)]):=M.mapS_take _ ll n hlt
     have hmm:(M.mapS (M.placeF gs) (ll.take n)).length≤3:=by rw [M.mapS_len];simp;omega
     have ht7:=h7 _ (List.getElem_mem hlt)
     have HDo:Hid (∀ d∈ll[n],∃ t∈ll,d∈t):=fun d hd=>⟨_,List.getElem_mem hlt,hd⟩
     generalize ll[n]=t at *
     generalize M.mapS (M.placeF gs) (ll.take n)=mm at *
     have i1:(n:Int) < ll.length:=by omega
     obtain ⟨av,gv,cv,rfl,_⟩:=hR.b.ss
     have lP:=hP.lt
     have lXr:=Nat.lt_trans lX lP
     have lcr:b < wr.heap.size:=World.block_lt_of_cell? _ _ hc
     have bE:Below wr.heap.size wr (wr.alloc (.cells #[] 56)):=below1 _ _
     have OA:(wr.alloc (.cells #[] 56)).ownsRow wr.heap.size 56 3 (.slice (some ⟨wr.heap.size,0,none⟩) 0 0) 0 []:=own_emp (heap_alloc_new wr _) (Nat.le_refl _)
     have DA:DoS (wr.alloc (.cells #[] 56)) a' b' o' t:=(hd0.below hbel (Nat.le_refl _)).below bE (Nat.le_refl _)
     go_wp2_with (at_builtin;refine wpList_append_does rfl (.tmp 27) (.tmp 32) 53 rfl (some 33) rfl wr.heap.size 56 j0 Tryz.underlying53 hj hy0 hy1 hy2 wr.heap.size rfl OA (by simp) a' b' o' c' t rfl DA (by omega) ?_)
     intro v4 w4 ho4 hg4 _
     obtain ⟨a4,c4,rfl⟩:=own_slx ho4
     have b4:Below wr.heap.size wr w4:=below_grown bE hg4 (fun j hj=>by have:wr.heap.size=j:=Option.some.inj hj;omega) bE.size
     clear hg4 OA DA bE
     go_wp2_with fail
     obtain ⟨wo,hwo⟩:∃ wo,wo=wr:=⟨_,rfl⟩
     subst hwo
     go_loopw [9] (fun s9 wi=>∃ k:Nat,s9=.int .i64 k∧k≤t.length∧wi.ownsRow wo.heap.size 56 3 (.slice a4 t.length c4) t.length (flat (M.curT (M.placeF gs) k t))∧Below wo.heap.size wo wi) (fun s9 _=>t.length - (intOf s9).toNat)
     case atStart=>exact ⟨0,rfl,Nat.zero_le _,by rw [M.curT_zero];exact ho4,b4⟩
     case round =>
      obtain ⟨k,rfl,hk,ho,hbi⟩:=hrel
      have hbs:=hbi.size
      have hbw2:Below W2.heap.size W2 wr:=hbel.trans (hbi.mono hbel.size)
      have xx1:=(hbw2.cell (p:=⟨w.heap.size,0,none⟩) lX).trans hX1c
      by_cases hkt:k < t.length
      ·have hkk:k < (M.curT (M.placeF gs) k t).length:=by rw [M.curT_len];exact hkt
       have HG:∃ g,a4=some ⟨g,0,none⟩∧wo.heap.size≤g:=by
        rcases ho.2 with ⟨e,_⟩ | ⟨g,cap,cur,e,hg,_⟩
        ·simp only [Value.slice.injEq] at e;omega
        ·simp only [Value.slice.injEq] at e;exact ⟨g,e.1,hg⟩
       obtain ⟨g,rfl,hgg⟩:=HG
       have hfz:=own_fzS ho
       have hat:DoAt wr g (k * 3) t[k]:=by
        have ho':=ho
        rw [← M.curT_len (M.placeF gs) k t] at ho'
        obtain ⟨a5,g5,c5,e5,hd5,_⟩:=own_steps ho'
        simp only [Value.slice.injEq] at e5
        have e6:=hd5.addr (by omega)
        rw [← e5.1] at e6
        simp at e6
        have:=hd5.row k hkk
        rw [← e6,Nat.zero_add,M.curT_get _ k t hkt] at this
        exact this
       have HCH:Hid (∀ W',Chg wr W' g (k * 3) t[k] (M.placeF gs t[k])→W'.ownsRow wo.heap.size 56 3 (.slice (some ⟨g,0,none⟩) t.length c4) t.length (flat (M.curT (M.placeF gs) (k+1) t))∧wr.grownBy W' (some g)):=by
        intro W' hch
        have e:=M.curT_get (M.placeF gs) k t hkt hkk
        have r:=own_chg ho hkk (by rw [e];exact hch)
        rw [M.curT_set (M.placeF gs) k t hkt] at r
        exact r
       have hdo:=HDo.out _ (List.getElem_mem hkt)
       have hgn:=hgg
       generalize t[k]=d at *
       have j1:(k:Int) < t.length:=by omega
       obtain ⟨kk,pp,vv⟩:=d
       obtain ⟨ck,cp,cv'⟩:=hat
       have lg:g < wr.heap.size:=World.block_lt_of_cell? _ _ ck
       have hgW:W2.heap.size≤g:=by omega
       have hRD:M.uses kk=(M.reads kk||M.writes kk):=rfl
       have HU:Hid (M.uses kk=true→∃ (j:Nat) (y:Int),pp=j∧(j:Int) < gs.length∧W2.cell? ⟨gb,go+j,none⟩=some (.int .i64 y)∧ga=some ⟨gb,go,none⟩∧(wr.setCell ⟨g,k * 3+1,none⟩ (.int .i64 y)).ownsRow wo.heap.size 56 3 (.slice (some ⟨g,0,none⟩) t.length c4) t.length (flat (M.curT (M.placeF gs) (k+1) t))∧Below wo.heap.size wo (wr.setCell ⟨g,k * 3+1,none⟩ (.int .i64 y))):=by
        intro hu
        obtain ⟨r0,r1⟩:=M.prog_place HPq.out hdo hu
        obtain ⟨j,rfl⟩:∃ j:Nat,pp=j:=⟨pp.toNat,by simp only at r0;omega⟩
        have hj':j < gs.length:=by have:=HL.out;simp only at r1;omega
        have e:M.placeF gs ⟨kk,j,vv⟩=⟨kk,gs[j],vv⟩:=by
         unfold M.placeF
         rw [if_pos (show M.uses (M.D.mk kk j vv).k=true from hu)]
         congr 1
         exact M.getD_get hj'
        have r:=HCH.out (wr.setCell ⟨g,k * 3+1,none⟩ (.int .i64 gs[j])) ⟨0,Or.inr (Or.inr (Or.inl ⟨by rw [e];rfl,by rw [e],by rw [e]⟩))⟩
        exact ⟨j,gs[j],rfl,by omega,hG1.row j hj',hG1.addr (by omega),r.1,hbi.setCell hgg _⟩
       cases hu1:M.reads kk
       ·cases hu2:M.writes kk
        ·have hu:M.uses kk=false:=by rw [hRD,hu1,hu2];rfl
         have r:=HCH.out wr ⟨0,Or.inl ⟨rfl,by unfold M.placeF;rw [show M.uses (M.D.mk kk pp vv).k=false from hu];rfl⟩⟩
         clear HU HCH hRD hu ho
         go_wp2_with (first | (go_at_call 34;refine (l1Reads_any ⟨_,_,_⟩ _).mono ?_;rw [hu1];rintro e W5 ⟨rfl,rfl⟩) | (go_at_call 35;refine (l1Writes_any ⟨_,_,_⟩ _).mono ?_;rw [hu2];rintro e W6 ⟨rfl,rfl⟩))
         exact ⟨⟨k+1,by go_num,by omega,(r.1.alloc _).alloc _,(hbi.alloc hbi.size _).alloc (by have:=hbi.size;simp;omega) _⟩,by simp [intOf];omega⟩
        ·obtain ⟨j,y,rfl,jl,cy,rfl,r1,r2⟩:=HU.out (by rw [hRD,hu1,hu2];rfl)
         have cyr:=(hbw2.cell (p:=⟨gb,go+j,none⟩) (World.block_lt_of_cell? _ _ cy)).trans cy
         have lgb:gb < wr.heap.size:=World.block_lt_of_cell? _ _ cyr
         have hfz1:=hfz (k * 3+1)
         clear HU HCH hRD ho cy
         go_wp2_with (first | (go_at_call 34;refine (l1Reads_any ⟨_,_,_⟩ _).mono ?_;rw [hu1];rintro e W5 ⟨rfl,rfl⟩) | (go_at_call 35;refine (l1Writes_any ⟨_,_,_⟩ _).mono ?_;rw [hu2];rintro e W6 ⟨rfl,rfl⟩))
         exact ⟨⟨k+1,by go_num,by omega,(r1.alloc _).alloc _,(r2.alloc r2.size _).alloc (by have:=r2.size;simp at this ⊢;omega) _⟩,by simp [intOf];omega⟩
       ·obtain ⟨j,y,rfl,jl,cy,rfl,r1,r2⟩:=HU.out (by rw [hRD,hu1];rfl)
        have cyr:=(hbw2.cell (p:=⟨gb,go+j,none⟩) (World.block_lt_of_cell? _ _ cy)).trans cy
        have lgb:gb < wr.heap.size:=World.block_lt_of_cell? _ _ cyr
        have hfz1:=hfz (k * 3+1)
        clear HU HCH hRD ho cy
        go_wp2_with (first | (go_at_call 34;refine (l1Reads_any ⟨_,_,_⟩ _).mono ?_;rw [hu1];rintro e W5 ⟨rfl,rfl⟩))
        exact ⟨⟨k+1,by go_num,by omega,r1.alloc _,r2.alloc r2.size _⟩,by simp [intOf];omega⟩
      ·have htk:k=t.length:=by omega
       rw [M.curT_all _ k t (by omega)] at ho
       have j1:¬ (k:Int) < t.length:=by omega
       have hRi:=hR.below hbi
       have hPi:=hP.bl' hbi
       have hYi:=hY.bl' hbi
       have hlap:∀ i (hi:i < vs.length) k,vs[i].ownBlock=some k→(Value.slice a4 t.length c4).ownBlock≠some k:=fun i hi j hj e=>by
        have h1:=(hR.b.inner i (by have:=hR.b.len;omega) hi).lt j hj
        have h2:=own_ge ho j e
        omega
       have hol:wr.ownsRow wo.heap.size 56 3 (.slice a4 t.length c4) (t.map (M.placeF gs)).length (flat (t.map (M.placeF gs))):=by rw [List.length_map];exact ho
       have hown':=ownsRow_mono hol (show W2.heap.size+1≤_ from by omega)
       have p0:=hPi.c
       have pf:=hPi.fz
       have lPi:=hPi.lt
       have hout:=hRi.b.outer
       have hRE:Hid (Rdg wr (W2.heap.size+1) (.slice av mm.length cv) mm vs):=hRi
       have hPE:Hid (Slot1 wr W2.heap.size (.slice av mm.length cv)):=hPi
       have hYE:Hid (Slot1 wr (w.heap.size+1) (.slice none 0 0)):=hYi
       have hbW:Below W2.heap.size W2 wr:=hbel.trans (hbi.mono hbel.size)
       generalize t.map (M.placeF gs)=tt at *
       clear hol ho htk hR hP hY hPi hYi hRi xx0 hc
       go_wp2_with (at_builtin;refine wpList_append_lies _ rfl (.tmp 65) (.tmp 67) 23 rfl (W2.heap.size+1) 53 i0 _ 1 24 Tryz.underlying23 hi hz0 hz1 hz2 rfl (by decide) _ _ vs rfl (hout.alloc _) ⟨wr.heap.size,0,none⟩ 1 1 [.slice a4 t.length c4] rfl rfl (World.news_of_block (cs:=#[.slice a4 t.length c4]) (t:=53) (fr:=(0,0)) (heap_alloc_new wr _)) (by simp [Value.oneCell']) (by omega) (by unfold maxLen;omega) (by omega) (by simp;omega) (wr.heap.size+1) (by simp) ?_)
       intro g2 cap2 w3 hown3 hg3 hat hlt3
       have hge:=own_ge hout
       have bA:=below1 wr (.cells #[.slice a4 t.length c4] 53)
       have hP3:=(hPE.out.bl' bA).apart hg3 (fun e=>by have:=hge _ e;omega)
       have hY3:=(hYE.out.bl' bA).apart hg3 (fun e=>by have:=hge _ e;omega)
       have hR3:=(hRE.out.below bA).snocT (ownsRow_below hown' bA) hlap hown3 hg3
       have hb3:Below W2.heap.size W2 w3:=below_grown (hbW.trans (bA.mono hbW.size)) hg3 (fun k hk=>by have:=hge k hk;omega) (by have:=hbW.size;simp;omega)
       rw [← HW.out] at hR3
       clear hown3 hg3 hat hout hown' p0 pf
       have p0:=hP3.c
       have pf:=hP3.fz
       go_wp2_with fail
       have hP4:=hP3.set (.slice (some ⟨g2,0,none⟩) (mm.length+1) cap2)
       exact ⟨⟨n+1,_,_,by go_num,by omega,hR3.far (by omega) _,hP4,hY3.far (by omega) _,hb3.setCell (Nat.le_refl _) _⟩,by simp [intOf];omega⟩
    ·have htk:ll.take n=ll:=List.take_of_length_le (by omega)
     rw [htk] at hR
     have hkn':¬ (n:Int) < ll.length:=by omega
     have xx0:=(hbel.cell (p:=⟨w.heap.size,0,none⟩) lX).trans hX1c
     obtain ⟨av,gv,cv,rfl,_⟩:=hR.b.ss
     generalize M.mapS (M.placeF gs) ll=mm at *
     have p0:=hP.c
     have pf:=hP.fz
     have q0:=hY.c
     have qf:=hY.fz
     have lP:=hP.lt
     have lQ:=hY.lt
     have hne:w.heap.size+1≠W2.heap.size:=by omega
     have hbw:=bw1.trans (hbel.mono bw1.size)
     have hsz:=bw1.size
     go_wp2_with fail
     have q1:=(hY.set (.slice av mm.length cv)).c
     exact bodyPost_ret (v:=.tuple #[.agg #[.slice av mm.length cv],.bool true]) (by simp [results,Tryz.results9,go_sem,q1]) rfl ⟨_,by rw [HY1.out],⟨vs,by rw [HY2.out];exact (hR.far (by omega) _).mono (by omega)⟩,hbw.setCell (by show w.heap.size≤w.heap.size+1;omega) _⟩
end Go.Proofs.YtihfibjckkmmbaaGreat
