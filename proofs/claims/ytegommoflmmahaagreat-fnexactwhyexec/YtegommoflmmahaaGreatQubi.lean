/- impl's ways: whether Order tells just so. Of at most 1048576 events, rows and numbers of a row. And what goes with it: OkOrd, OkFrom, RvWl, XoSz, TsMk. -/
import Derived.Deep.OwnRows
import Derived.Test.YtegommoflmmahaaGreatRows
import Derived.Test.YtegommoflmmahaaGreatQubg
import Derived.Test.YtegommoflmmahaaGreatQubh
namespace Go.Proofs.YtegommoflmmahaaGreat
section
open Go.RowKit
theorem M.all_step {row evs:List Int} {n:Nat} (h:evs.all (row.contains ·)=(evs.drop n).all (row.contains ·)) (hn:n < evs.length):evs.all (row.contains ·)=(M.has row evs[n]&&(evs.drop (n+1)).all (row.contains ·)):=by
 rw [h,← List.getElem_cons_drop hn,List.all_cons];rfl
theorem M.order_step {ds:List M.De} {rows:List (List Int)} {n:Nat} (h:M.orderAt ds 0 rows=M.orderAt ds n (rows.drop n)) (hn:n < rows.length):M.orderAt ds 0 rows=(M.isRow rows[n] (M.wrs n 0 ds)&&M.orderAt ds (n+1) (rows.drop (n+1))):=by
 rw [h,← List.getElem_cons_drop hn,M.orderAt]
end
section
open Go.RowKit
namespace M
theorem tell_low {ds:List De} {x:De} {f:Int} (h:x.reads=true) (h1:f≠-1) (h0:¬ 0≤f):mayTell ds x f=false:=by simp [mayTell,h,h1,h0]
theorem tell_high {ds:List De} {x:De} {f:Int} (h:x.reads=true) (h1:f≠-1) (h0:¬ f < ds.length):mayTell ds x f=false:=by simp [mayTell,h,h1,h0]
end M
end
section
open Go.RowKit
def BlkY (y:Y3) (k:Nat):Prop:=Blks y.1 y.2.1 y.2.2 k
end
section
open Go.RowKit
theorem eqIntS_bel (a:Option Addr) (b o c:Nat) (a2:Option Addr) (b2 o2 c2:Nat) (l:List Int) (w:World) (hl:l.length≤1048576) (h:IntS w a b o l) (h2:IntS w a2 b2 o2 l) :
  Calls Tryz.prog 69 #[.slice a l.length c,.slice a2 l.length c2] w fun e w'=>e=.returned (.bool true)∧Below w.heap.size w w' :=
 (eqIntS_same a b o c a2 b2 o2 c2 l w hl h h2).mono fun _ _ ⟨he,hg⟩=>⟨he,hg.bel⟩
set_option maxHeartbeats 400000 in
theorem eqIntSS_same (a:Option Addr) (b o c:Nat) (a2:Option Addr) (b2 o2 c2:Nat) (rows:List (List Int)) (w:World) (hl:rows.length≤1048576) (hrs:∀ r∈rows,r.length≤1048576) (h:IntSS w a b o rows) (h2:IntSS w a2 b2 o2 rows) :
  Calls Tryz.prog 70 #[.slice a rows.length c,.slice a2 rows.length c2] w fun e w'=>e=.returned (.bool true)∧Below w.heap.size w w':=by
 go_enter Tryz.func70,Tryz.ntmps70
 go_wp2_with fail
 go_loopw [5] (fun s5 wr=>∃ n:Nat,s5=.int .i64 n∧n≤rows.length∧Below w.heap.size w wr) (fun s5 _=>rows.length - (intOf s5).toNat)
 case atStart=>exact ⟨0,rfl,Nat.zero_le _,Below.refl _ _⟩
 case round =>
  obtain ⟨n,rfl,hn,hb⟩:=hrel
  by_cases hlt:n < rows.length
  ·obtain ⟨rfl⟩:=h.addr (by omega)
   obtain ⟨rfl⟩:=h2.addr (by omega)
   obtain ⟨a',b',o',c',hc,hrow⟩:=(h.below hb (Nat.le_refl _)).row n hlt
   obtain ⟨a3,b3,o3,c3,hc3,hrow3⟩:=(h2.below hb (Nat.le_refl _)).row n hlt
   have hle:=hrs _ (List.getElem_mem hlt)
   generalize rows[n]=row at *
   have i1:(n:Int) < rows.length:=by omega
   have K1:=BelowOf.cell hc
   have K2:=BelowOf.cell hc3
   have C:=fun q:BelowOf wr=>eqIntS_bel a' b' o' c' a3 b3 o3 c3 row q.x hle (hrow.below q.h (Nat.le_refl _)) (hrow3.below q.h (Nat.le_refl _))
   haveI:Inhabited (BelowOf wr):=⟨belOf wr⟩
   go_wp2_with fail
   refine wp_region_quiet_bel (by kernel_rfl) (by kernel_rfl) ?_
   repeat (quiet_step (first | (go_at_call 69;exact Calls.bel_of (C _))))
   refine wpQuiet_nil ?_
   rintro _ ⟨⟨wq,hwq⟩,rfl⟩
   go_wp2_with fail
   exact ⟨⟨n+1,by go_num,by omega,hb.trans (hwq.mono hb.size)⟩,by simp [intOf];omega⟩
  ·go_wp2_with fail
   go_ret
   exact ⟨rfl,hb⟩
set_option maxHeartbeats 400000 in
theorem eqExec_same (fa:Option Addr) (fb fo fc:Nat) (ra:Option Addr) (rb ro rc:Nat) (fa2:Option Addr) (fb2 fo2 fc2:Nat) (ra2:Option Addr) (rb2 ro2 rc2:Nat) (l:List Int) (rows:List (List Int)) (w:World) (hl1:l.length≤1048576) (hl:rows.length≤1048576) (hrs:∀ r∈rows,r.length≤1048576) (hf:IntS w fa fb fo l) (h:IntSS w ra rb ro rows) (hf2:IntS w fa2 fb2 fo2 l) (h2:IntSS w ra2 rb2 ro2 rows) :
  Calls Tryz.prog 29 #[.agg #[.slice fa l.length fc,.slice ra rows.length rc],.agg #[.slice fa2 l.length fc2,.slice ra2 rows.length rc2]] w fun e w'=>e=.returned (.bool true)∧Below w.heap.size w w':=by
 have hb2:=below2 w (.cells #[.slice fa l.length fc,.slice ra rows.length rc] 33) (.cells #[.slice fa2 l.length fc2,.slice ra2 rows.length rc2] 33)
 have hfa:=hf.below hb2 (Nat.le_refl _)
 have hfb:=hf2.below hb2 (Nat.le_refl _)
 have ha:=h.below hb2 (Nat.le_refl _)
 have hb:=h2.below hb2 (Nat.le_refl _)
 go_enter Tryz.func29,Tryz.ntmps29
 go_wp2_with fail
 refine (eqIntS_same fa fb fo fc fa2 fb2 fo2 fc2 l _ hl1 hfa hfb).mono ?_
 rintro e w1 ⟨rfl,hg1⟩
 obtain ⟨hc1,hf1⟩:=bcell hg1.bel
 go_wp2_with fail
 refine (eqIntSS_same ra rb ro rc ra2 rb2 ro2 rc2 rows _ hl hrs (ha.below hg1.bel (Nat.le_refl _)) (hb.below hg1.bel (Nat.le_refl _))).mono ?_
 rintro e w2 ⟨rfl,hb3⟩
 go_wp2_with fail
 go_ret
 have hbw:=hb2.trans (hg1.bel.mono hb2.size)
 exact ⟨rfl,hbw.trans (hb3.mono hbw.size)⟩
end
section
open Go.RowKit
theorem IntC.below {w w':World} {a:Option Addr} {b o n:Nat} (hc:IntC w a b o n) (hb:Below w.heap.size w w'):IntC w' a b o n:=by
 refine ⟨hc.addr,fun i hi=>?_,fun hn j=>?_⟩
 ·obtain ⟨x,hx⟩:=hc.row i hi
  exact ⟨x,(hb.cell (p:=⟨b,o+i,none⟩) (World.block_lt_of_cell? _ _ hx)).trans hx⟩
 ·obtain ⟨x,hx⟩:=hc.row 0 hn
  have hlt:b < w.heap.size:=World.block_lt_of_cell? _ _ hx
  exact (hb.frozen (p:=⟨b,j,none⟩) hlt).trans (hc.fz hn j)
structure SnC (w:World) (s:Sn):Prop where
 reads:IntC w s.a1 s.b1 s.o1 s.l1.length
 last:IntC w s.a2 s.b2 s.o2 s.l2.length
theorem SnC.below {w w':World} {s:Sn} (h:SnC w s) (hb:Below w.heap.size w w'):SnC w' s:=⟨h.reads.below hb,h.last.below hb⟩
set_option maxHeartbeats 400000 in
theorem markSeenK_any (s:Sn) (k:Int) (w:World) (hk0:0≤k) (hk1:k≤4611686018400000000) (hl:s.Le 1048576) (h:SnC w s) :
  Calls Tryz.prog 33 #[.agg #[.slice s.a1 s.l1.length s.c1,.slice s.a2 s.l2.length s.c2],.int .i64 k] w fun e w'=>∃ wa:World,e=.returned (.int .i64 (k+s.l1.length+s.l2.length))∧wa=w.alloc (.cells #[.slice s.a1 s.l1.length s.c1,.slice s.a2 s.l2.length s.c2] 28)∧Mk s.blk wa w':=by
 have hb1:=below1 w (.cells #[.slice s.a1 s.l1.length s.c1,.slice s.a2 s.l2.length s.c2] 28)
 have k1:(w.alloc (.cells #[.slice s.a1 s.l1.length s.c1,.slice s.a2 s.l2.length s.c2] 28)).cell? ⟨w.heap.size,1,none⟩=some (.slice s.a2 s.l2.length s.c2):=by simp
 have h1:=h.below hb1
 have hl1:=hl.reads
 have hl2:=hl.last
 have C:=markIntS_any s.a1 s.b1 s.o1 s.l1.length s.c1 k _ hl.reads (by omega) (by omega) h1.reads
 go_enter Tryz.func33,Tryz.ntmps33
 go_wp2_with fail
 refine C.mono ?_
 rintro e w1 ⟨rfl,n1,mk1⟩
 have k1':=mk1.rest _ _ k1 (fun _ e=>by cases e)
 go_wp2_with fail
 refine (markIntS_any s.a2 s.b2 s.o2 s.l2.length s.c2 (k+s.l1.length) w1 hl.last (by omega) (by omega) (h1.last.mk_ mk1)).mono ?_
 rintro e w2 ⟨rfl,n2,mk2⟩
 go_wp2_with fail
 go_ret
 exact ⟨_,rfl,rfl,(mk1.mono (fun j hj=>Or.inl ⟨hj.2,hj.1⟩)).trans (mk2.mono (fun j hj=>Or.inr ⟨hj.2,hj.1⟩))⟩
end
end Go.Proofs.YtegommoflmmahaaGreat
