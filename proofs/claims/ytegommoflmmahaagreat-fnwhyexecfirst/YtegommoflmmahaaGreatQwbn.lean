/- impl's ways: whether Order tells just so. Of at most 1048576 events, rows and numbers of a row. impl's ways: whether From tells just so. Of at most 1048576 events. impl's ExecOk: whether a way is told just so. Of at most 1048576 threads, steps, numbers and rows. -/
import Derived.Test.YtegommoflmmahaaGreatRows
import Derived.Test.YtegommoflmmahaaGreatQwbm
namespace Go.Proofs.YtegommoflmmahaaGreat
section
open Go.RowKit
set_option maxHeartbeats 400000 in
theorem isRowOf_any (a:Option Addr) (b o c:Nat) (row:List Int) (a2:Option Addr) (b2 o2 c2:Nat) (evs:List Int) (w:World) (hl:row.length≤1048576) (hl2:evs.length≤1048576) (h:IntS w a b o row) (h2:IntS w a2 b2 o2 evs) :
  Calls Tryz.prog 117 #[.slice a row.length c,.slice a2 evs.length c2] w fun e w'=>e=.returned (.bool (M.isRow row evs))∧w'=w:=by
 by_cases hln:row.length=evs.length
 ·have HF:Hid (M.isRow row evs=evs.all (row.contains ·)):=by show _=_;simp [M.isRow,hln]
  have hq:((row.length:Int) != evs.length)=false:=by simp;omega
  have HL:Hid (row.length=evs.length):=hln
  clear hln
  go_enter Tryz.func117,Tryz.ntmps117
  go_wp2_with fail
  go_loopw [14] (fun s14 wr=>∃ n:Nat,s14=.int .i64 n∧n≤evs.length∧Hid (evs.all (row.contains ·)=(evs.drop n).all (row.contains ·))∧wr=w) (fun s14 _=>evs.length - (intOf s14).toNat)
  case atStart=>exact ⟨0,rfl,Nat.zero_le _,by show _=_;rfl,rfl⟩
  case round =>
   obtain ⟨n,rfl,hn,HA,rfl⟩:=hrel
   by_cases hlt:n < evs.length
   ·obtain ⟨rfl⟩:=h2.addr (by omega)
    have hx:=h2.row n hlt
    have HS:Hid (evs.all (row.contains ·)=(M.has row evs[n]&&(evs.drop (n+1)).all (row.contains ·))):=M.all_step HA.out hlt
    clear HA
    generalize evs[n]=y at *
    have i1:(n:Int) < evs.length:=by omega
    cases hh:M.has row y
    ·go_wp2_with (go_at_call 168;refine (containsI_any a b o c row y _ hl h).mono ?_;rw [hh];rintro e w' ⟨rfl,rfl⟩)
     go_ret
     exact ⟨ret_bool (by rw [HF.out,HS.out,hh];rfl),rfl⟩
    ·go_wp2_with (go_at_call 168;refine (containsI_any a b o c row y _ hl h).mono ?_;rw [hh];rintro e w' ⟨rfl,rfl⟩)
     exact ⟨⟨n+1,by go_num,by omega,by show _=_;rw [HS.out,hh];rfl,trivial⟩,by simp [intOf];omega⟩
   ·go_wp2_with fail
    go_ret
    exact ⟨ret_bool (by rw [HF.out,HA.out,List.drop_eq_nil_of_le (by omega)];rfl),rfl⟩
 ·have hln':((row.length:Int)==evs.length)=false:=by simp;omega
  go_enter Tryz.func117,Tryz.ntmps117
  go_wp2_with fail
  go_ret
  exact ⟨ret_bool (by simp [M.isRow,hln]),rfl⟩
set_option maxHeartbeats 400000 in
theorem orderOk_any (va:Option Addr) (g c:Nat) (ds:List M.De) (a:Option Addr) (b o c2:Nat) (rows:List (List Int)) (w:World) (hl:ds.length≤1048576) (hl2:rows.length≤1048576) (hls:∀ r∈rows,r.length≤1048576) (h:DeS w va g ds) (h2:IntSS w a b o rows) :
  Calls Tryz.prog 157 #[.slice va ds.length c,.slice a rows.length c2] w fun e w'=>e=.returned (.bool (M.orderOk ds rows))∧Below w.heap.size w w':=by
 by_cases hln:rows.length=3
 ·have HF:Hid (M.orderOk ds rows=M.orderAt ds 0 rows):=by show _=_;simp [M.orderOk,hln]
  have hl3:((rows.length:Int) != 3)=false:=by simp;omega
  clear hln
  go_enter Tryz.func157,Tryz.ntmps157
  go_wp2_with fail
  go_loopw [12] (fun s12 wr=>∃ n:Nat,s12=.int .i64 n∧n≤rows.length∧Hid (M.orderAt ds 0 rows=M.orderAt ds n (rows.drop n))∧Below w.heap.size w wr) (fun s12 _=>rows.length - (intOf s12).toNat)
  case atStart=>exact ⟨0,rfl,Nat.zero_le _,by show _=_;rfl,Below.refl _ _⟩
  case round =>
   obtain ⟨n,rfl,hn,HA,hb⟩:=hrel
   by_cases hlt:n < rows.length
   ·have HS:Hid (M.orderAt ds 0 rows=(M.isRow rows[n] (M.wrs n 0 ds)&&M.orderAt ds (n+1) (rows.drop (n+1)))):=M.order_step HA.out hlt
    clear HA
    obtain ⟨rfl⟩:=h2.addr (by omega)
    obtain ⟨a',b',o',c',hc,hr⟩:=(h2.below hb (Nat.le_refl _)).row n hlt
    have hle:=hls _ (List.getElem_mem hlt)
    generalize rows[n]=row at *
    have i1:(n:Int) < rows.length:=by omega
    have hwl:(M.wrs (n:Int) 0 ds).length≤1048576:=Nat.le_trans (M.wrs_len _ _ _) hl
    go_wp2_with fail
    refine (writers_any va g c ds n wr hl (h.bel hb (Nat.le_refl _))).mono ?_
    rintro e w1 ⟨v1,rfl,hown1,hb1⟩
    obtain ⟨va1,g1,c1,rfl,hi1,_⟩:=own_nums hown1
    have hbb:=hb.trans (hb1.mono hb.size)
    cases hh:M.isRow row (M.wrs n 0 ds)
    ·go_wp2_with (go_at_call 117;refine (isRowOf_any a' b' o' c' row va1 g1 0 c1 _ _ hle hwl (hr.below hb1 (Nat.le_refl _)) hi1).mono ?_;rw [hh];rintro e w' ⟨rfl,rfl⟩)
     go_ret
     exact ⟨ret_bool (by rw [HF.out,HS.out,hh];rfl),hbb⟩
    ·go_wp2_with (go_at_call 117;refine (isRowOf_any a' b' o' c' row va1 g1 0 c1 _ _ hle hwl (hr.below hb1 (Nat.le_refl _)) hi1).mono ?_;rw [hh];rintro e w' ⟨rfl,rfl⟩)
     exact ⟨⟨n+1,by go_num,by omega,by show _=_;rw [HS.out,hh];rfl,hbb⟩,by simp [intOf];omega⟩
   ·go_wp2_with fail
    go_ret
    exact ⟨ret_bool (by rw [HF.out,HA.out,List.drop_eq_nil_of_le (by omega)];rfl),hb⟩
 ·have hln':((rows.length:Int)==3)=false:=by simp;omega
  go_enter Tryz.func157,Tryz.ntmps157
  go_wp2_with fail
  go_ret
  exact ⟨ret_bool (by simp [M.orderOk,hln]),Below.refl _ _⟩
end
section
open Go.RowKit
namespace M
theorem tell_nobody {ds:List De} {x:De} (h:x.reads=true):mayTell ds x (-1)=true:=by simp [mayTell,h]
theorem from_step {ds:List De} {l:List Int} {n:Nat} (h:fromAt ds ds l=fromAt ds (ds.drop n) (l.drop n)) (hn:n < ds.length) (hl:n < l.length):fromAt ds ds l=(mayTell ds ds[n] l[n]&&fromAt ds (ds.drop (n+1)) (l.drop (n+1))):=by
 rw [h,← List.getElem_cons_drop hn,← List.getElem_cons_drop hl,fromAt]
end M
theorem writesTo_bel (x:M.De) (p:Int) (w:World):Calls Tryz.prog 187 #[x.agg,.int .i64 p] w fun e w'=>e=.returned (.bool (x.to p))∧Below w.heap.size w w' :=
 (writesTo_any x p w).mono fun e w' ⟨he,hw⟩=>⟨he,by rw [hw];exact below1 _ _⟩
set_option maxHeartbeats 1000000 in
set_option maxRecDepth 100000 in
theorem mayTell_any (va:Option Addr) (g c:Nat) (ds:List M.De) (x:M.De) (f:Int) (w:World) (hl:ds.length≤1048576) (h:DeS w va g ds) :
  Calls Tryz.prog 202 #[.slice va ds.length c,x.agg,.int .i64 f] w fun e w'=>e=.returned (.bool (M.mayTell ds x f))∧Below w.heap.size w w':=by
 have hb2:=below2 w (.cells #[.int .i64 (x.t:Int),.int .i64 (x.i:Int),.bool x.last,.int .i64 x.d.k,.int .i64 x.d.p,.int .i64 x.d.v,.int .i64 x.lr] 137) (.cells #[.int .i64 (x.t:Int),.int .i64 (x.i:Int),.bool x.last,.int .i64 x.d.k,.int .i64 x.d.p,.int .i64 x.d.v,.int .i64 x.lr] 137)
 cases hr:x.reads
 ·go_enter Tryz.func202,Tryz.ntmps202
  go_wp2_with (go_at_call 103;refine (deReads_any x _).mono ?_;rw [hr];rintro e w' ⟨rfl,rfl⟩)
  go_ret
  exact ⟨ret_bool (M.tell_no hr).symm,hb2⟩
 ·have k4:((w.alloc (.cells #[.int .i64 (x.t:Int),.int .i64 (x.i:Int),.bool x.last,.int .i64 x.d.k,.int .i64 x.d.p,.int .i64 x.d.v,.int .i64 x.lr] 137)).alloc (.cells #[.int .i64 (x.t:Int),.int .i64 (x.i:Int),.bool x.last,.int .i64 x.d.k,.int .i64 x.d.p,.int .i64 x.d.v,.int .i64 x.lr] 137)).cell? ⟨w.heap.size,4,none⟩=some (.int .i64 x.d.p):=by simp
  go_enter Tryz.func202,Tryz.ntmps202
  go_wp2_with (go_at_call 103;refine (deReads_any x _).mono ?_;rw [hr];rintro e w' ⟨rfl,rfl⟩)
  have hds:=h.bel hb2 (Nat.le_refl _)
  generalize (w.alloc (.cells #[.int .i64 (x.t:Int),.int .i64 (x.i:Int),.bool x.last,.int .i64 x.d.k,.int .i64 x.d.p,.int .i64 x.d.v,.int .i64 x.lr] 137)).alloc (.cells #[.int .i64 (x.t:Int),.int .i64 (x.i:Int),.bool x.last,.int .i64 x.d.k,.int .i64 x.d.p,.int .i64 x.d.v,.int .i64 x.lr] 137)=W at *
  have K4:=BelowOf.cell k4
  have lt0:w.heap.size < W.heap.size:=World.block_lt_of_cell? _ _ k4
  clear h k4
  haveI:Inhabited (BelowOf W):=⟨belOf W⟩
  by_cases h1:f=-1
  ·subst h1
   refine wp_region_quiet_bel (by kernel_rfl) (by kernel_rfl) ?_
   iterate 3 (quiet_step (fail))
   iterate 18 go_big_quiet_skip
   iterate 2 (quiet_step (fail))
   refine wpQuiet_nil ?_
   rintro _ ⟨⟨wq,hwq⟩,rfl⟩
   go_wp2_with fail
   go_ret
   exact ⟨ret_bool (M.tell_nobody hr).symm,hb2.trans (hwq.mono hb2.size)⟩
  ·have h1':(f==-1)=false:=by simpa using h1
   by_cases h0:0≤f
   ·by_cases hlt:f < ds.length
    ·obtain ⟨n,rfl⟩:∃ n:Nat,f=n:=⟨f.toNat,by omega⟩
     have hn:n < ds.length:=by omega
     obtain ⟨rfl⟩:=hds.addr (by omega)
     have HM:Hid (M.mayTell ds x (n:Int)=(ds[n]).to x.d.p):=M.tell_at hr hn
     obtain ⟨c0,c1,c2,c3,c4,c5,c6⟩:=DeS.at hds hn
     generalize ds[n]=y at *
     have Y0:=BelowOf.cell c0
     have Y1:=BelowOf.cell c1
     have Y2:=BelowOf.cell c2
     have Y3:=BelowOf.cell c3
     have Y4:=BelowOf.cell c4
     have Y5:=BelowOf.cell c5
     have Y6:=BelowOf.cell c6
     have C:=fun q:BelowOf W=>writesTo_bel y x.d.p q.x
     clear c0 c1 c2 c3 c4 c5 c6
     refine wp_region_quiet_bel (by kernel_rfl) (by kernel_rfl) ?_
     repeat (quiet_step (first | (go_at_call 187;exact Calls.bel_of (C _))))
     refine wpQuiet_nil ?_
     rintro _ ⟨⟨wq,hwq⟩,rfl⟩
     go_wp2_with fail
     go_ret
     exact ⟨ret_bool HM.out.symm,hb2.trans (hwq.mono hb2.size)⟩
    ·have hlt':decide (f < ds.length)=false:=by simpa using hlt
     refine wp_region_quiet_bel (by kernel_rfl) (by kernel_rfl) ?_
     iterate 12 (quiet_step (fail))
     iterate 8 go_big_quiet_skip
     iterate 3 (quiet_step (fail))
     refine wpQuiet_nil ?_
     rintro _ ⟨⟨wq,hwq⟩,rfl⟩
     go_wp2_with fail
     go_ret
     exact ⟨ret_bool (M.tell_high hr h1 (by omega)).symm,hb2.trans (hwq.mono hb2.size)⟩
   ·have h0':decide (0≤f)=false:=by simpa using h0
    refine wp_region_quiet_bel (by kernel_rfl) (by kernel_rfl) ?_
    iterate 6 (quiet_step (fail))
    iterate 4 go_big_quiet_skip
    iterate 2 (quiet_step (fail))
    iterate 8 go_big_quiet_skip
    iterate 3 (quiet_step (fail))
    refine wpQuiet_nil ?_
    rintro _ ⟨⟨wq,hwq⟩,rfl⟩
    go_wp2_with fail
    go_ret
    exact ⟨ret_bool (M.tell_low hr h1 (by omega)).symm,hb2.trans (hwq.mono hb2.size)⟩
set_option maxHeartbeats 1000000 in
set_option maxRecDepth 100000 in
theorem fromOk_any (va:Option Addr) (g c:Nat) (ds:List M.De) (a:Option Addr) (b o c2:Nat) (l:List Int) (w:World) (hl:ds.length≤1048576) (hl2:l.length≤1048576) (h:DeS w va g ds) (h2:IntS w a b o l) :
  Calls Tryz.prog 156 #[.slice va ds.length c,.slice a l.length c2] w fun e w'=>e=.returned (.bool (M.fromOk ds l))∧Below w.heap.size w w':=by
 by_cases hln:l.length=ds.length
 ·have HF:Hid (M.fromOk ds l=M.fromAt ds ds l):=by show _=_;simp [M.fromOk,hln]
  have hq:((l.length:Int) != ds.length)=false:=by simp;omega
  have HL:Hid (l.length=ds.length):=hln
  clear hln
  go_enter Tryz.func156,Tryz.ntmps156
  go_wp2_with fail
  go_loopw [14] (fun s14 wr=>∃ n:Nat,s14=.int .i64 n∧n≤ds.length∧Hid (M.fromAt ds ds l=M.fromAt ds (ds.drop n) (l.drop n))∧Below w.heap.size w wr) (fun s14 _=>ds.length - (intOf s14).toNat)
  case atStart=>exact ⟨0,rfl,Nat.zero_le _,by show _=_;rfl,Below.refl _ _⟩
  case round =>
   obtain ⟨n,rfl,hn,HA,hb⟩:=hrel
   by_cases hlt:n < ds.length
   ·have hltl:n < l.length:=by rw [HL.out];exact hlt
    have HS:Hid (M.fromAt ds ds l=(M.mayTell ds ds[n] l[n]&&M.fromAt ds (ds.drop (n+1)) (l.drop (n+1)))):=M.from_step HA.out hlt hltl
    clear HA
    have hdr:=h.bel hb (Nat.le_refl _)
    obtain ⟨rfl⟩:=h.addr (by omega)
    obtain ⟨rfl⟩:=h2.addr (by omega)
    have hx:=DeS.at hdr hlt
    have hf:=(h2.below hb (Nat.le_refl _)).row n hltl
    generalize ds[n]=x at *
    generalize l[n]=f at *
    obtain ⟨c0,c1,c2',c3,c4,c5,c6⟩:=hx
    have i1:(n:Int) < ds.length:=by omega
    have i2:(n:Int) < l.length:=by omega
    have hbx:=below1 wr (.cells #[.int .i64 (x.t:Int),.int .i64 (x.i:Int),.bool x.last,.int .i64 x.d.k,.int .i64 x.d.p,.int .i64 x.d.v,.int .i64 x.lr] 137)
    have hbx2:=hb.trans (hbx.mono hb.size)
    have hfx:=(hbx.cell (p:=⟨b,o+n,none⟩) (World.block_lt_of_cell? _ _ hf)).trans hf
    have hdx:=hdr.bel hbx (Nat.le_refl _)
    have k0:(wr.alloc (.cells #[.int .i64 (x.t:Int),.int .i64 (x.i:Int),.bool x.last,.int .i64 x.d.k,.int .i64 x.d.p,.int .i64 x.d.v,.int .i64 x.lr] 137)).cell? ⟨wr.heap.size,0,none⟩=some (.int .i64 x.t):=by simp
    have k1:(wr.alloc (.cells #[.int .i64 (x.t:Int),.int .i64 (x.i:Int),.bool x.last,.int .i64 x.d.k,.int .i64 x.d.p,.int .i64 x.d.v,.int .i64 x.lr] 137)).cell? ⟨wr.heap.size,1,none⟩=some (.int .i64 x.i):=by simp
    have k2:(wr.alloc (.cells #[.int .i64 (x.t:Int),.int .i64 (x.i:Int),.bool x.last,.int .i64 x.d.k,.int .i64 x.d.p,.int .i64 x.d.v,.int .i64 x.lr] 137)).cell? ⟨wr.heap.size,2,none⟩=some (.bool x.last):=by simp
    have k3:(wr.alloc (.cells #[.int .i64 (x.t:Int),.int .i64 (x.i:Int),.bool x.last,.int .i64 x.d.k,.int .i64 x.d.p,.int .i64 x.d.v,.int .i64 x.lr] 137)).cell? ⟨wr.heap.size,3,none⟩=some (.int .i64 x.d.k):=by simp
    have k4:(wr.alloc (.cells #[.int .i64 (x.t:Int),.int .i64 (x.i:Int),.bool x.last,.int .i64 x.d.k,.int .i64 x.d.p,.int .i64 x.d.v,.int .i64 x.lr] 137)).cell? ⟨wr.heap.size,4,none⟩=some (.int .i64 x.d.p):=by simp
    have k5:(wr.alloc (.cells #[.int .i64 (x.t:Int),.int .i64 (x.i:Int),.bool x.last,.int .i64 x.d.k,.int .i64 x.d.p,.int .i64 x.d.v,.int .i64 x.lr] 137)).cell? ⟨wr.heap.size,5,none⟩=some (.int .i64 x.d.v):=by simp
    have k6:(wr.alloc (.cells #[.int .i64 (x.t:Int),.int .i64 (x.i:Int),.bool x.last,.int .i64 x.d.k,.int .i64 x.d.p,.int .i64 x.d.v,.int .i64 x.lr] 137)).cell? ⟨wr.heap.size,6,none⟩=some (.int .i64 x.lr):=by simp
    go_wp2_with fail
    generalize wr.alloc (.cells #[.int .i64 (x.t:Int),.int .i64 (x.i:Int),.bool x.last,.int .i64 x.d.k,.int .i64 x.d.p,.int .i64 x.d.v,.int .i64 x.lr] 137)=W at *
    generalize wr.heap.size=K at *
    have K0:=BelowOf.cell k0
    have K1:=BelowOf.cell k1
    have K2:=BelowOf.cell k2
    have K3:=BelowOf.cell k3
    have K4:=BelowOf.cell k4
    have K5:=BelowOf.cell k5
    have K6:=BelowOf.cell k6
    have KF:=BelowOf.cell hfx
    have C:=fun q:BelowOf W=>mayTell_any (some ⟨g,0,none⟩) g c ds x f q.x hl (hdx.bel q.h (Nat.le_refl _))
    clear k0 k1 k2 k3 k4 k5 k6 c0 c1 c2' c3 c4 c5 c6 hf hfx
    haveI:Inhabited (BelowOf W):=⟨belOf W⟩
    cases ht:M.mayTell ds x f
    ·rw [ht] at C
     refine wp_region_quiet_bel (by kernel_rfl) (by kernel_rfl) ?_
     repeat (quiet_step (first | (go_at_call 202;exact Calls.bel_of (C _))))
     refine wpQuiet_nil ?_
     rintro _ ⟨⟨wq,hwq⟩,rfl⟩
     go_wp2_with fail
     go_ret
     exact ⟨ret_bool (by rw [HF.out,HS.out,ht];rfl),hbx2.trans (hwq.mono hbx2.size)⟩
    ·rw [ht] at C
     refine wp_region_quiet_bel (by kernel_rfl) (by kernel_rfl) ?_
     repeat (quiet_step (first | (go_at_call 202;exact Calls.bel_of (C _))))
     refine wpQuiet_nil ?_
     rintro _ ⟨⟨wq,hwq⟩,rfl⟩
     go_wp2_with fail
     exact ⟨⟨n+1,by go_num,by omega,by show _=_;rw [HS.out,ht];rfl,hbx2.trans (hwq.mono hbx2.size)⟩,by simp [intOf];omega⟩
   ·go_wp2_with fail
    go_ret
    exact ⟨ret_bool (by rw [HF.out,HA.out,List.drop_eq_nil_of_le (by omega)];rfl),hb⟩
 ·have hln':((l.length:Int)==ds.length)=false:=by simp;omega
  go_enter Tryz.func156,Tryz.ntmps156
  go_wp2_with fail
  go_ret
  exact ⟨ret_bool (by simp [M.fromOk,hln]),Below.refl _ _⟩
end
section
open Go.RowKit
set_option maxHeartbeats 1000000 in
theorem wayOk_any (va:Option Addr) (g c:Nat) (ll:List (List M.D)) (fa:Option Addr) (fb fo fc:Nat) (l:List Int) (ra:Option Addr) (rb ro rc:Nat) (rows:List (List Int)) (w:World) (hl:(M.deeds ll).length≤1048576) (hl1:l.length≤1048576) (hl2:rows.length≤1048576) (hls:∀ r∈rows,r.length≤1048576) (h:DeS w va g (M.deeds ll)) (hf:IntS w fa fb fo l) (hr:IntSS w ra rb ro rows) :
  Calls Tryz.prog 109 #[.slice va (M.deeds ll).length c,.agg #[.slice fa l.length fc,.slice ra rows.length rc]] w fun e w'=>e=.returned (.bool (M.wayOk (M.deeds ll) l rows))∧Below w.heap.size w w':=by
 have hb1:=below1 w (.cells #[.slice fa l.length fc,.slice ra rows.length rc] 33)
 have k0:(w.alloc (.cells #[.slice fa l.length fc,.slice ra rows.length rc] 33)).cell? ⟨w.heap.size,0,none⟩=some (.slice fa l.length fc):=by simp
 have k1:(w.alloc (.cells #[.slice fa l.length fc,.slice ra rows.length rc] 33)).cell? ⟨w.heap.size,1,none⟩=some (.slice ra rows.length rc):=by simp
 have hd1:=h.bel hb1 (Nat.le_refl _)
 have hf1:=hf.below hb1 (Nat.le_refl _)
 have hr1:=hr.below hb1 (Nat.le_refl _)
 go_enter Tryz.func109,Tryz.ntmps109
 go_wp2_with fail
 generalize w.alloc (.cells #[.slice fa l.length fc,.slice ra rows.length rc] 33)=W at *
 have lt0:w.heap.size < W.heap.size:=World.block_lt_of_cell? _ _ k0
 clear h hf hr
 have C1:=fromOk_any va g c (M.deeds ll) fa fb fo fc l W hl hl1 hd1 hf1
 cases h1:M.fromOk (M.deeds ll) l
 ·rw [h1] at C1
  refine C1.mono ?_
  rintro e w1 ⟨rfl,hb2⟩
  go_wp2_with fail
  go_ret
  exact ⟨ret_bool (by simp [M.wayOk,h1]),hb1.trans (hb2.mono hb1.size)⟩
 ·rw [h1] at C1
  have HIN:M.In (M.deeds ll) l:=M.in_of h1
  have HLN:Hid (l.length=(M.deeds ll).length):=by
   show _=_
   simp only [M.fromOk,Bool.and_eq_true,decide_eq_true_eq] at h1
   exact h1.1
  refine C1.mono ?_
  rintro e w1 ⟨rfl,hb2⟩
  have k0':=(hb2.cell (p:=⟨w.heap.size,0,none⟩) lt0).trans k0
  have k1':=(hb2.cell (p:=⟨w.heap.size,1,none⟩) lt0).trans k1
  have lt1:=Nat.lt_of_lt_of_le lt0 hb2.size
  go_wp2_with fail
  have C2:=orderOk_any va g c (M.deeds ll) ra rb ro rc rows w1 hl hl2 hls (hd1.bel hb2 (Nat.le_refl _)) (hr1.below hb2 (Nat.le_refl _))
  have hb12:=hb1.trans (hb2.mono hb1.size)
  clear k0 k1 C1
  cases h2:M.orderOk (M.deeds ll) rows
  ·rw [h2] at C2
   refine C2.mono ?_
   rintro e w2 ⟨rfl,hb3⟩
   go_wp2_with fail
   go_ret
   exact ⟨ret_bool (by simp [M.wayOk,h1,h2]),hb12.trans (hb3.mono hb12.size)⟩
  ·rw [h2] at C2
   refine C2.mono ?_
   rintro e w2 ⟨rfl,hb3⟩
   have k0'':=(hb3.cell (p:=⟨w.heap.size,0,none⟩) lt1).trans k0'
   have hb123:=hb12.trans (hb3.mono hb12.size)
   have C3:=copiesEnd_any va g c (M.deeds ll) fa fb fo fc l w2 HLN.out HIN hl ((hd1.bel hb2 (Nat.le_refl _)).bel hb3 (Nat.le_refl _)) ((hf1.below hb2 (Nat.le_refl _)).below hb3 (Nat.le_refl _))
   clear k0' k1'
   go_wp2_with fail
   refine C3.mono ?_
   rintro e w3 ⟨rfl,hb4⟩
   go_wp2_with fail
   go_ret
   exact ⟨ret_bool (by simp [M.wayOk,h1,h2]),hb123.trans (hb4.mono hb123.size)⟩
set_option maxHeartbeats 1000000 in
set_option maxRecDepth 100000 in
theorem iexecOk_any (a:Option Addr) (b o c:Nat) (ll:List (List M.D)) (fa:Option Addr) (fb fo fc:Nat) (l:List Int) (ra:Option Addr) (rb ro rc:Nat) (rows:List (List Int)) (w:World) (hl:ll.length≤1048576) (hls:∀ t∈ll,t.length≤1048576) (hl1:l.length≤1048576) (hl2:rows.length≤1048576) (hrs:∀ r∈rows,r.length≤1048576) (h:DoSS w a b o ll) (hf:IntS w fa fb fo l) (hr:IntSS w ra rb ro rows) :
  Calls Tryz.prog 51 #[.agg #[.slice a ll.length c],.agg #[.slice fa l.length fc,.slice ra rows.length rc]] w fun e w'=>e=.returned (.bool (M.execOk ll l rows))∧Below w.heap.size w w':=by
 have hb1:=below2 w (.cells #[.slice a ll.length c] 25) (.cells #[.slice fa l.length fc,.slice ra rows.length rc] 33)
 have kp:((w.alloc (.cells #[.slice a ll.length c] 25)).alloc (.cells #[.slice fa l.length fc,.slice ra rows.length rc] 33)).cell? ⟨w.heap.size,0,none⟩=some (.slice a ll.length c):=by simp
 have k0:((w.alloc (.cells #[.slice a ll.length c] 25)).alloc (.cells #[.slice fa l.length fc,.slice ra rows.length rc] 33)).cell? ⟨w.heap.size+1,0,none⟩=some (.slice fa l.length fc):=by simp
 have k1:((w.alloc (.cells #[.slice a ll.length c] 25)).alloc (.cells #[.slice fa l.length fc,.slice ra rows.length rc] 33)).cell? ⟨w.heap.size+1,1,none⟩=some (.slice ra rows.length rc):=by simp
 have hp1:=h.below hb1 (Nat.le_refl _)
 have hf1:=hf.below hb1 (Nat.le_refl _)
 have hr1:=hr.below hb1 (Nat.le_refl _)
 go_enter Tryz.func51,Tryz.ntmps51
 go_wp2_with fail
 generalize (w.alloc (.cells #[.slice a ll.length c] 25)).alloc (.cells #[.slice fa l.length fc,.slice ra rows.length rc] 33)=W at *
 have lt0:w.heap.size+1 < W.heap.size:=World.block_lt_of_cell? _ _ k0
 clear h hf hr
 cases hp:M.prog ll
 ·have KP:=BelowOf.cell kp
  have C:=fun q:BelowOf W=>iprog_any a b o c ll q.x hl hls (hp1.below q.h (Nat.le_refl _))
  rw [hp] at C
  haveI:Inhabited (BelowOf W):=⟨belOf W⟩
  refine wp_region_quiet_bel (by kernel_rfl) (by kernel_rfl) ?_
  iterate 3 (quiet_step (first | (go_at_call 54;exact Calls.bel_of (C _))))
  iterate 4 go_big_quiet_skip
  iterate 2 (quiet_step (fail))
  refine wpQuiet_nil ?_
  rintro _ ⟨⟨wq,hwq⟩,rfl⟩
  go_wp2_with fail
  go_ret
  exact ⟨ret_bool (by simp [M.execOk,hp]),hb1.trans (hwq.mono hb1.size)⟩
 ·obtain ⟨h3,h7⟩:=M.prog_bounds hp
  have hdl:=M.deeds_len h3 h7
  have hp2:=hp1.below (Below.refl W.heap.size W).drew (Nat.le_refl _)
  have C1:=iprog_any a b o c ll W.drew hl hls hp2
  rw [hp] at C1
  go_region_held3 (fun w'=>w'.cell? ⟨w.heap.size,0,none⟩=some (.slice a ll.length c)∧w'.cell? ⟨w.heap.size+1,0,none⟩=some (.slice fa l.length fc)∧w'.cell? ⟨w.heap.size+1,1,none⟩=some (.slice ra rows.length rc)) (go_keep) (first
   | (go_at_call 54;refine C1.mono ?_;rintro e w1 ⟨rfl,hb2⟩;have Y0:=(hb2.cell (p:=⟨w.heap.size,0,none⟩) (Nat.lt_of_succ_lt lt0)).trans kp;have Y1:=(hb2.cell (p:=⟨w.heap.size+1,0,none⟩) lt0).trans k0;have Y2:=(hb2.cell (p:=⟨w.heap.size+1,1,none⟩) lt0).trans k1;have ltY:=Nat.lt_of_lt_of_le lt0 hb2.size)
   | (go_at_call 45;refine (deedsOf_any a b o c ll _ h3 h7 (hp2.below hb2 (Nat.le_refl _))).mono ?_;rintro e w2 ⟨v2,rfl,hown,hb3⟩;obtain ⟨va,g,cap,rfl,hrs2,_,_⟩:=own_rs M.De.len hown;have Z0:=(hb3.cell (p:=⟨w.heap.size,0,none⟩) (Nat.lt_of_succ_lt ltY)).trans Y0;have Z1:=(hb3.cell (p:=⟨w.heap.size+1,0,none⟩) ltY).trans Y1;have Z2:=(hb3.cell (p:=⟨w.heap.size+1,1,none⟩) ltY).trans Y2;have ltZ:=Nat.lt_of_lt_of_le ltY hb3.size)
   | (go_at_call 109;refine (wayOk_any va g cap ll fa fb fo fc l ra rb ro rc rows w2 (by omega) hl1 hl2 hrs hrs2 (((hf1.below (Below.refl _ _).drew (Nat.le_refl _)).below hb2 (Nat.le_refl _)).below hb3 (Nat.le_refl _)) (((hr1.below (Below.refl _ _).drew (Nat.le_refl _)).below hb2 (Nat.le_refl _)).below hb3 (Nat.le_refl _))).mono ?_;rintro e w3 ⟨rfl,hb4⟩;have X0:=(hb4.cell (p:=⟨w.heap.size,0,none⟩) (Nat.lt_of_succ_lt ltZ)).trans Z0;have X1:=(hb4.cell (p:=⟨w.heap.size+1,0,none⟩) ltZ).trans Z1;have X2:=(hb4.cell (p:=⟨w.heap.size+1,1,none⟩) ltZ).trans Z2))
  go_wp2_with fail
  go_ret
  have hb5:=((Below.refl W.heap.size W).drew.trans hb2).trans (hb3.mono hb2.size)
  exact ⟨ret_bool (by simp [M.execOk,hp]),hb1.trans ((hb5.trans (hb4.mono hb5.size)).mono hb1.size)⟩
end
end Go.Proofs.YtegommoflmmahaaGreat
