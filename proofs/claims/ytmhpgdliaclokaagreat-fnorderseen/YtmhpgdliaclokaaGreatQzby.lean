/- What is seen in a way: plainly, and impl.ExecSeen. Of at most 1048576 threads, steps, numbers and rows. -/
import Derived.Deep.OwnRows
import Derived.Test.YtmhpgdliaclokaaGreatRows
import Derived.Test.YtmhpgdliaclokaaGreatQzbf
import Derived.Test.YtmhpgdliaclokaaGreatQzbv
namespace Go.Proofs.YtmhpgdliaclokaaGreat
section
open Go.RowKit
namespace M
end M
namespace M
end M
set_option maxHeartbeats 1000000 in
set_option maxRecDepth 100000 in
theorem iexecSeen_any (a:Option Addr) (b o c:Nat) (ll:List (List M.D)) (fa:Option Addr) (fb fo fc:Nat) (l:List Int) (ra:Option Addr) (rb ro rc:Nat) (rows:List (List Int)) (w:World) (hl:ll.length≤1048576) (hls:∀ t∈ll,t.length≤1048576) (hl1:l.length≤1048576) (hl2:rows.length≤1048576) (hrs:∀ r∈rows,r.length≤1048576) (h:DoSS w a b o ll) (hf:IntS w fa fb fo l) (hr:IntSS w ra rb ro rows) :
  Calls Tryz.prog 23 #[.agg #[.slice a ll.length c],.agg #[.slice fa l.length fc,.slice ra rows.length rc]] w fun e w'=>∃ s:Sn,e=.returned (.tuple #[.agg #[.slice s.a1 s.l1.length s.c1,.slice s.a2 s.l2.length s.c2],.bool (M.execOk ll l rows)])∧s.l1=(M.execSeen ll l rows).1∧s.l2=(M.execSeen ll l rows).2∧NewS w.heap.size w' s∧Below w.heap.size w w':=by
 have hb1:=below3 w (.cells #[.slice a ll.length c] 25) (.cells #[.slice fa l.length fc,.slice ra rows.length rc] 29) (.cells #[.slice none 0 0,.slice none 0 0] 45)
 have kp:(((w.alloc (.cells #[.slice a ll.length c] 25)).alloc (.cells #[.slice fa l.length fc,.slice ra rows.length rc] 29)).alloc (.cells #[.slice none 0 0,.slice none 0 0] 45)).cell? ⟨w.heap.size,0,none⟩=some (.slice a ll.length c):=by simp [go_sem]
 have k0:(((w.alloc (.cells #[.slice a ll.length c] 25)).alloc (.cells #[.slice fa l.length fc,.slice ra rows.length rc] 29)).alloc (.cells #[.slice none 0 0,.slice none 0 0] 45)).cell? ⟨w.heap.size+1,0,none⟩=some (.slice fa l.length fc):=by simp [go_sem]
 have k1:(((w.alloc (.cells #[.slice a ll.length c] 25)).alloc (.cells #[.slice fa l.length fc,.slice ra rows.length rc] 29)).alloc (.cells #[.slice none 0 0,.slice none 0 0] 45)).cell? ⟨w.heap.size+1,1,none⟩=some (.slice ra rows.length rc):=by simp [go_sem]
 have r0:Slot2 (((w.alloc (.cells #[.slice a ll.length c] 25)).alloc (.cells #[.slice fa l.length fc,.slice ra rows.length rc] 29)).alloc (.cells #[.slice none 0 0,.slice none 0 0] 45)) (w.heap.size+1+1) (.slice none 0 0) (.slice none 0 0):=⟨alloc_new _ _ _ (by simp)⟩
 have hp1:=h.below hb1 (Nat.le_refl _)
 have hf1:=hf.below hb1 (Nat.le_refl _)
 have hr1:=hr.below hb1 (Nat.le_refl _)
 obtain ⟨ok,hok⟩:∃ r,M.execOk ll l rows=r:=⟨_,rfl⟩
 have HOK:Hid (M.execOk ll l rows=ok):=hok
 have HES:Hid (M.execSeen ll l rows=if ok then (M.seenR (M.deeds ll) l,M.seenL (M.deeds ll) l rows) else ([],[])):=by show _=_;rw [M.execSeen,hok]
 rw [hok]
 clear hok
 go_enter Tryz.func23,Tryz.ntmps23
 go_wp2_with fail
 generalize (((w.alloc (.cells #[.slice a ll.length c] 25)).alloc (.cells #[.slice fa l.length fc,.slice ra rows.length rc] 29)).alloc (.cells #[.slice none 0 0,.slice none 0 0] 45))=W at *
 have lt0:=r0.lt
 clear h hf hr
 have C1:=iexecOk_any a b o c ll fa fb fo fc l ra rb ro rc rows W hl hls hl1 hl2 hrs hp1 hf1 hr1
 rw [HOK.out] at C1
 cases ok
 ·refine C1.mono ?_
  rintro e w1 ⟨rfl,hb2⟩
  have r1:=r0.of (hb2.block _ lt0)
  have y0:=r1.c0
  have y1:=r1.c1
  have yf:=r1.fz
  go_wp2_with fail
  have hb12:=hb1.trans (hb2.mono hb1.size)
  refine bodyPost_ret (v:=.tuple #[.agg #[.slice none 0 0,.slice none 0 0],.bool false]) (by simp [results,Tryz.results23,go_sem,y0,y1]) rfl ⟨⟨none,w.heap.size,0,0,[],none,w.heap.size,0,0,[]⟩,rfl,by rw [HES.out];rfl,by rw [HES.out];rfl,⟨⟨IntS.nil _ _ _ _,IntS.nil _ _ _ _⟩,Nat.le_refl _,Nat.le_refl _,⟨fun h=>absurd h (Nat.lt_irrefl _),fun b hb=>?_⟩⟩,?_⟩
  ·rcases hb with ⟨h0,_⟩ | ⟨h0,_⟩<;>exact absurd h0 (Nat.lt_irrefl _)
  ·exact (hb12.setCell (by show w.heap.size≤w.heap.size+1+1;omega) _).setCell (by show w.heap.size≤w.heap.size+1+1;omega) _
 ·have hW:=M.way_of HOK.out
  obtain ⟨h3,h7⟩:=M.prog_bounds hW.prog
  have hdl:=M.deeds_len h3 h7
  refine C1.mono ?_
  rintro e w1 ⟨rfl,hb2⟩
  have kp1:=(hb2.cell (p:=⟨w.heap.size,0,none⟩) (by show w.heap.size < _;omega)).trans kp
  have k01:=(hb2.cell (p:=⟨w.heap.size+1,0,none⟩) (by show w.heap.size+1 < _;omega)).trans k0
  have k11:=(hb2.cell (p:=⟨w.heap.size+1,1,none⟩) (by show w.heap.size+1 < _;omega)).trans k1
  have r1:=r0.of (hb2.block _ lt0)
  have lt1:=r1.lt
  have hb12:=hb1.trans (hb2.mono hb1.size)
  have hp2:=(hp1.below hb2 (Nat.le_refl _)).below (Below.refl w1.heap.size w1).drew (Nat.le_refl _)
  have hf2:=(hf1.below hb2 (Nat.le_refl _)).below (Below.refl w1.heap.size w1).drew (Nat.le_refl _)
  have hr2:=(hr1.below hb2 (Nat.le_refl _)).below (Below.refl w1.heap.size w1).drew (Nat.le_refl _)
  clear kp k0 k1 r0 lt0 C1 hp1 hf1 hr1 hb2 hb1
  go_wp2_with fail
  have N0:w.heap.size+1+1≠w.heap.size:=by omega
  have N1:w.heap.size+1+1≠w.heap.size+1:=by omega
  have C2:=deedsOf_any a b o c ll w1.drew h3 h7 hp2
  go_region_held3 (fun w'=>w'.cell? ⟨w.heap.size,0,none⟩=some (.slice a ll.length c)∧w'.cell? ⟨w.heap.size+1,0,none⟩=some (.slice fa l.length fc)∧w'.cell? ⟨w.heap.size+1,1,none⟩=some (.slice ra rows.length rc)) (go_keep) (first
   | (go_at_call 39;refine C2.mono ?_;rintro e w2 ⟨v2,rfl,hown,hb3⟩;obtain ⟨va,g,cap,rfl,hrs2,_,_⟩:=own_rs M.De.len hown;have Z0:=(hb3.cell (p:=⟨w.heap.size,0,none⟩) (show w.heap.size < w1.heap.size by omega)).trans kp1;have Z1:=(hb3.cell (p:=⟨w.heap.size+1,0,none⟩) (show w.heap.size+1 < w1.heap.size by omega)).trans k01;have Z2:=(hb3.cell (p:=⟨w.heap.size+1,1,none⟩) (show w.heap.size+1 < w1.heap.size by omega)).trans k11;have r2:=r1.of (hb3.block _ lt1);have lt2:=r2.lt)
   | (go_at_call 57;refine (iseen_any va g cap (M.deeds ll) fa fb fo fc l ra rb ro rc rows w2 hW.len hW.inn hW.zero hW.fin (by omega) hW.three hrs hW.mem hrs2 (hf2.below hb3 (Nat.le_refl _)) (hr2.below hb3 (Nat.le_refl _))).mono ?_;rintro e w3 ⟨s,rfl,hs1,hs2,hnew,hb4⟩;have HS1:Hid (s.l1=M.seenR (M.deeds ll) l):=hs1;have HS2:Hid (s.l2=M.seenL (M.deeds ll) l rows):=hs2;clear hs1 hs2;have X0:=(hb4.cell (p:=⟨w.heap.size,0,none⟩) (show w.heap.size < w2.heap.size by omega)).trans Z0;have X1:=(hb4.cell (p:=⟨w.heap.size+1,0,none⟩) (show w.heap.size+1 < w2.heap.size by omega)).trans Z1;have X2:=(hb4.cell (p:=⟨w.heap.size+1,1,none⟩) (show w.heap.size+1 < w2.heap.size by omega)).trans Z2;have r3:=r2.of (hb4.block _ lt2);have y0:=r3.c0;have y1:=r3.c1;have yf:=r3.fz))
  go_wp2_with fail
  have hlt3:=r3.lt
  have hne:∀ bb,w2.heap.size≤bb→bb≠w.heap.size+1+1:=fun bb hb=>by omega
  have hb3':Below w.heap.size w w2:=hb12.trans (((Below.refl _ _).drew.trans hb3).mono hb12.size)
  have hb4':=hb3'.trans (hb4.mono hb3'.size)
  have hg1:=hnew.ge1
  have hg2:=hnew.ge2
  have hsz:=hb3'.size
  refine bodyPost_ret (v:=.tuple #[.agg #[.slice s.a1 s.l1.length s.c1,.slice s.a2 s.l2.length s.c2],.bool true]) (by simp [results,Tryz.results23,go_sem,y0,y1]) rfl ⟨s,rfl,by rw [HES.out];exact HS1.out,by rw [HES.out];exact HS2.out,⟨⟨?_,?_⟩,by omega,by omega,hnew.own.far.far⟩,?_⟩
  ·exact (hnew.at_.reads.far (fun _=>hne _ hg1)).far (fun _=>hne _ hg1)
  ·exact (hnew.at_.last.far (fun _=>hne _ hg2)).far (fun _=>hne _ hg2)
  ·exact (hb4'.setCell (by show w.heap.size≤w.heap.size+1+1;omega) _).setCell (by show w.heap.size≤w.heap.size+1+1;omega) _
end
end Go.Proofs.YtmhpgdliaclokaaGreat
