/- The law's own sizing and comparing of ways: laws.szIntSS, szExec, eqIntSS, eqExec. Of rows of at most 1048576 numbers (sizing: of at most 9223372036854775807). The law's own copying of ways: laws.toIntSS, toExec. Of rows of at most 1048576 numbers. -/
import Derived.Deep.OwnRows
import Derived.Test.YtdningnhbplfiaaGreatRows
import Derived.Test.YtdningnhbplfiaaGreatQrap
import Derived.Test.YtdningnhbplfiaaGreatQrba
import Derived.Test.YtdningnhbplfiaaGreatQrbl
namespace Go.Proofs.YtdningnhbplfiaaGreat
section
open Go.RowKit
set_option maxHeartbeats 400000 in
theorem szIntSS_any (a:Option Addr) (b o c:Nat) (rows:List (List Int)) (left:Int) (w:World) (h0:0≤left) (h1:left≤1048576) (hn:rows.length≤9223372036854775807) (hrs:∀ r∈rows,r.length≤9223372036854775807) (h:IntSS w a b o rows) :
  Calls Tryz.prog 47 #[.slice a rows.length c,.int .i64 left] w fun e w'=>∃ r:Int,e=.returned (.int .i64 r)∧w'=w∧r≤1048576∧(r < 0∨(0≤r∧rows.length≤1048576∧∀ r∈rows,r.length≤1048576)):=by
 by_cases hs:left - rows.length < 0
 ·go_enter Tryz.func47,Tryz.ntmps47
  go_wp2_with fail
  go_ret
  exact ⟨-1,rfl,rfl,by omega,Or.inl (by omega)⟩
 ·go_enter Tryz.func47,Tryz.ntmps47
  go_wp2_with fail
  have hr:rows.length≤1048576:=by omega
  go_loopw [1,5] (fun s1 s5 wr=>∃ (n:Nat) (lf:Int),s5=.int .i64 n∧s1=.int .i64 lf∧0≤lf∧lf≤1048576∧n≤rows.length∧Hid (∀ i (_:i < n) (h:i < rows.length),rows[i].length≤1048576)∧wr=w) (fun _ s5 _=>rows.length - (intOf s5).toNat)
  case atStart=>exact ⟨0,left - rows.length,rfl,rfl,by omega,by omega,Nat.zero_le _,fun i hi=>absurd hi (Nat.not_lt_zero _),rfl⟩
  case round =>
   obtain ⟨n,lf,rfl,rfl,hlf0,hlf1,hn',HA,rfl⟩:=hrel
   by_cases hlt:n < rows.length
   ·obtain ⟨rfl⟩:=h.addr (by omega)
    obtain ⟨a',b',o',c',hc,hrow⟩:=h.row n hlt
    have hle:=hrs _ (List.getElem_mem hlt)
    obtain ⟨row,hrw⟩:∃ row,rows[n]=row:=⟨_,rfl⟩
    have HW:Hid (rows[n]=row):=hrw
    rw [hrw] at hc hrow hle
    clear hrw
    have i1:(n:Int) < rows.length:=by omega
    go_wp2_with fail
    refine (szIntS_any a' row.length c' lf _ hlf0 hlf1 hle).mono ?_
    rintro e w1 ⟨r,rfl,rfl,hr1,hor⟩
    by_cases hneg:r < 0
    ·go_wp2_with fail
     go_ret
     exact ⟨-1,rfl,rfl,by omega,Or.inl (by omega)⟩
    ·obtain ⟨hr0,hrl⟩:=hor.resolve_left hneg
     have hneg':decide (r < 0)=false:=by simpa using hneg
     go_wp2_with fail
     exact ⟨⟨n+1,r,by go_num,rfl,hr0,hr1,by omega,fun i hi hil=>by
      by_cases ei:i=n
      ·subst ei;rw [HW.out];exact hrl
      ·exact HA.out i (by omega) hil,trivial⟩,by simp [intOf];omega⟩
   ·go_wp2_with fail
    go_ret
    exact ⟨lf,rfl,rfl,hlf1,Or.inr ⟨hlf0,hr,fun r hr=>by
     obtain ⟨i,hi,rfl⟩:=List.getElem_of_mem hr
     exact HA.out i (by omega) hi⟩⟩
set_option maxHeartbeats 400000 in
theorem szExec_any (fa:Option Addr) (fc:Nat) (l:List Int) (ra:Option Addr) (rb ro rc:Nat) (rows:List (List Int)) (left:Int) (w:World) (h0:0≤left) (h1:left≤1048576) (hl:l.length≤9223372036854775807) (hn:rows.length≤9223372036854775807) (hrs:∀ r∈rows,r.length≤9223372036854775807) (h:IntSS w ra rb ro rows) :
  Calls Tryz.prog 13 #[.agg #[.slice fa l.length fc,.slice ra rows.length rc],.int .i64 left] w fun e w'=>∃ r:Int,e=.returned (.int .i64 r)∧w'=w.alloc (.cells #[.slice fa l.length fc,.slice ra rows.length rc] 28)∧r≤1048576∧(r < 0∨(0≤r∧l.length≤1048576∧rows.length≤1048576∧∀ r∈rows,r.length≤1048576)):=by
 go_enter Tryz.func13,Tryz.ntmps13
 go_wp2_with fail
 refine (szIntS_any _ _ _ _ _ h0 h1 hl).mono ?_
 rintro e w1 ⟨r1,rfl,rfl,hr1,hor1⟩
 by_cases hn1:r1 < 0
 ·go_wp2_with fail
  go_ret
  exact ⟨-1,rfl,rfl,by omega,Or.inl (by omega)⟩
 ·go_wp2_with fail
  refine (szIntSS_any ra rb ro rc rows r1 _ (by omega) hr1 hn hrs (h.below (below1 w _) (Nat.le_refl _))).mono ?_
  rintro e w2 ⟨r2,rfl,rfl,hr2,hor2⟩
  by_cases hn2:r2 < 0
  ·go_wp2_with fail
   go_ret
   exact ⟨-1,rfl,rfl,by omega,Or.inl (by omega)⟩
  ·go_wp2_with fail
   go_ret
   exact ⟨r2,rfl,rfl,hr2,Or.inr ⟨by omega,(hor1.resolve_left (by omega)).2,(hor2.resolve_left (by omega)).2⟩⟩
theorem eqIntS_bel (a:Option Addr) (b o c:Nat) (a2:Option Addr) (b2 o2 c2:Nat) (l:List Int) (w:World) (hl:l.length≤1048576) (h:IntS w a b o l) (h2:IntS w a2 b2 o2 l) :
  Calls Tryz.prog 18 #[.slice a l.length c,.slice a2 l.length c2] w fun e w'=>e=.returned (.bool true)∧Below w.heap.size w w' :=
 (eqIntS_same a b o c a2 b2 o2 c2 l w hl h h2).mono fun _ _ ⟨he,hg⟩=>⟨he,hg.bel⟩
set_option maxHeartbeats 400000 in
theorem eqIntSS_same (a:Option Addr) (b o c:Nat) (a2:Option Addr) (b2 o2 c2:Nat) (rows:List (List Int)) (w:World) (hl:rows.length≤1048576) (hrs:∀ r∈rows,r.length≤1048576) (h:IntSS w a b o rows) (h2:IntSS w a2 b2 o2 rows) :
  Calls Tryz.prog 63 #[.slice a rows.length c,.slice a2 rows.length c2] w fun e w'=>e=.returned (.bool true)∧Below w.heap.size w w':=by
 go_enter Tryz.func63,Tryz.ntmps63
 go_wp2_with fail
 go_loopw [5] (fun s5 wr=>∃ n:Nat,s5=.int .i64 n∧n≤rows.length∧Below w.heap.size w wr) (fun s5 _=>rows.length - (intOf s5).toNat)
 case atStart=>exact ⟨0,rfl,Nat.zero_le _,Below.refl _ _⟩
 case round =>
  obtain ⟨n,rfl,hn,hb⟩:=hrel
  by_cases hlt:n < rows.length
  ·obtain ⟨rfl⟩:=h.addr (by omega)
   obtain ⟨rfl⟩:=h2.addr (by omega)
   obtain ⟨a',b',o',c',hc,hrow⟩:=(h.below hb (Nat.le_refl _)).row n hlt
   obtain ⟨a3,b3,o3,c3,hc3,hrow3⟩:=(h2.below hb (Nat.le_refl _)).row n hlt
   have hle:=hrs _ (List.getElem_mem hlt)
   generalize rows[n]=row at *
   have i1:(n:Int) < rows.length:=by omega
   have K1:=BelowOf.cell hc
   have K2:=BelowOf.cell hc3
   have C:=fun q:BelowOf wr=>eqIntS_bel a' b' o' c' a3 b3 o3 c3 row q.x hle (hrow.below q.h (Nat.le_refl _)) (hrow3.below q.h (Nat.le_refl _))
   haveI:Inhabited (BelowOf wr):=⟨belOf wr⟩
   go_wp2_with fail
   refine wp_region_quiet_bel (by kernel_rfl) (by kernel_rfl) ?_
   repeat (quiet_step (first | (go_at_call 18;exact Calls.bel_of (C _))))
   refine wpQuiet_nil ?_
   rintro _ ⟨⟨wq,hwq⟩,rfl⟩
   go_wp2_with fail
   exact ⟨⟨n+1,by go_num,by omega,hb.trans (hwq.mono hb.size)⟩,by simp [intOf];omega⟩
  ·go_wp2_with fail
   go_ret
   exact ⟨rfl,hb⟩
set_option maxHeartbeats 400000 in
theorem eqExec_same (fa:Option Addr) (fb fo fc:Nat) (ra:Option Addr) (rb ro rc:Nat) (fa2:Option Addr) (fb2 fo2 fc2:Nat) (ra2:Option Addr) (rb2 ro2 rc2:Nat) (l:List Int) (rows:List (List Int)) (w:World) (hl1:l.length≤1048576) (hl:rows.length≤1048576) (hrs:∀ r∈rows,r.length≤1048576) (hf:IntS w fa fb fo l) (h:IntSS w ra rb ro rows) (hf2:IntS w fa2 fb2 fo2 l) (h2:IntSS w ra2 rb2 ro2 rows) :
  Calls Tryz.prog 20 #[.agg #[.slice fa l.length fc,.slice ra rows.length rc],.agg #[.slice fa2 l.length fc2,.slice ra2 rows.length rc2]] w fun e w'=>e=.returned (.bool true)∧Below w.heap.size w w':=by
 have hb2:=below2 w (.cells #[.slice fa l.length fc,.slice ra rows.length rc] 37) (.cells #[.slice fa2 l.length fc2,.slice ra2 rows.length rc2] 37)
 have hfa:=hf.below hb2 (Nat.le_refl _)
 have hfb:=hf2.below hb2 (Nat.le_refl _)
 have ha:=h.below hb2 (Nat.le_refl _)
 have hb:=h2.below hb2 (Nat.le_refl _)
 go_enter Tryz.func20,Tryz.ntmps20
 go_wp2_with fail
 refine (eqIntS_same fa fb fo fc fa2 fb2 fo2 fc2 l _ hl1 hfa hfb).mono ?_
 rintro e w1 ⟨rfl,hg1⟩
 obtain ⟨hc1,hf1⟩:=bcell hg1.bel
 go_wp2_with fail
 refine (eqIntSS_same ra rb ro rc ra2 rb2 ro2 rc2 rows _ hl hrs (ha.below hg1.bel (Nat.le_refl _)) (hb.below hg1.bel (Nat.le_refl _))).mono ?_
 rintro e w2 ⟨rfl,hb3⟩
 go_wp2_with fail
 go_ret
 have hbw:=hb2.trans (hg1.bel.mono hb2.size)
 exact ⟨rfl,hbw.trans (hb3.mono hbw.size)⟩
end
section
open Go.RowKit
theorem Tryz.infoRow:(Tryz.prog.info? 25).map (fun i=>(i.zero,i.size,i.bytes))=some (some (.slice none 0 0),1,24):=by kernel_rfl
structure PartR (w wr:World) (rows:List (List Int)) (n:Nat):Prop where
 bel:Below w.heap.size w wr
 own:∃ f,wr.rowIs w.heap.size 25 rows.length f
 done:∀ q (_:q < n) (h:q < rows.length),∃ a' b' o' c',wr.cell? ⟨w.heap.size,q,none⟩=some (.slice a' rows[q].length c')∧IntS wr a' b' o' rows[q]∧w.heap.size < b'∧Fz wr b'∧b' < wr.heap.size
theorem partR_step {w wr w1:World} {rows:List (List Int)} {n:Nat} {t:List Int} {a':Option Addr} {b' o' c':Nat} (hp:PartR w wr rows n) (hb1:Below wr.heap.size wr w1) (hd:∀ h:n < rows.length,rows[n]=t)
  (hs:IntS w1 a' b' o' t) (hb':w.heap.size < b') (hz:Fz w1 b'∧b' < w1.heap.size):PartR w (w1.setCell ⟨w.heap.size,n,none⟩ (.slice a' t.length c')) rows (n+1):=by
 obtain ⟨f,hf⟩:=hp.own
 have hlb:=hf.lt
 have hf1:w1.rowIs w.heap.size 25 rows.length f:=hf.of_block (hb1.block _ hlb)
 have hr:=hf1.set n (.slice a' t.length c')
 refine ⟨(hp.bel.trans (hb1.mono hp.bel.size)).setCell (Nat.le_refl _) _,⟨_,hr⟩,fun q hq hql=>?_⟩
 by_cases e:q=n
 ·subst e
  rw [hd hql]
  exact ⟨a',b',o',c',by rw [hr.cell hql];simp,hs.other (by omega),hb',hz.1.set _ _,by simpa [World.setCell] using hz.2⟩
 ·obtain ⟨a2,b2,o2,c2,hc2,hd2,hb2,hz2,hl2⟩:=hp.done q (by omega) hql
  refine ⟨a2,b2,o2,c2,?_,(hd2.below hb1 (Nat.le_refl _)).other (by omega),hb2,(hz2.below hb1 hl2).set _ _,by have:=hb1.size;simp [World.setCell];omega⟩
  rw [World.cell?_setCell_other _ _ _ _ (fun e'=>e (by have:=congrArg Addr.off e';simp at this;omega)),hb1.cell (p:=⟨w.heap.size,q,none⟩) hlb]
  exact hc2
structure NewRR (w:World) (B N g:Nat) (rows:List (List Int)):Prop where
 ge:B≤g
 row:∀ i (h:i < rows.length),∃ a' b' o' c',w.cell? ⟨g,i,none⟩=some (.slice a' rows[i].length c')∧IntS w a' b' o' rows[i]∧B≤b'∧Fz w b'∧b' < N
 le:N≤w.heap.size
theorem NewRR.old {w:World} {B N g:Nat} {rows:List (List Int)} (h:NewRR w B N g rows):IntSS w (some ⟨g,0,none⟩) g 0 rows :=
 ⟨fun _=>rfl,fun i hi=>by
  obtain ⟨a',b',o',c',hc,hd,_⟩:=h.row i hi
  exact ⟨a',b',o',c',by rw [Nat.zero_add];exact hc,hd⟩⟩
theorem NewRR.other {w:World} {B N g:Nat} {rows:List (List Int)} (h:NewRR w B N g rows) {b i:Nat} (hb:b < B) (u:Value):NewRR (w.setCell ⟨b,i,none⟩ u) B N g rows :=
 ⟨h.ge,fun j hj=>by
  obtain ⟨a',b',o',c',hc,hd,hb',hz,hl2⟩:=h.row j hj
  have hg:=h.ge
  exact ⟨a',b',o',c',by rw [World.cell?_setCell_other _ _ _ _ (fun e=>by have:=congrArg Addr.block e;simp at this;omega)];exact hc,hd.other (by omega),hb',hz.set _ _,hl2⟩,by have:=h.le;simpa [World.setCell] using this⟩
theorem NewRR.below {w w':World} {B C N g:Nat} {rows:List (List Int)} (h:NewRR w B N g rows) (hb:Below C w w') (hC:w.heap.size≤C):NewRR w' B N g rows :=
 ⟨h.ge,fun i hi=>by
  obtain ⟨a',b',o',c',hc,hd,hb',hz,hl2⟩:=h.row i hi
  have hl:=World.block_lt_of_cell? _ _ hc
  exact ⟨a',b',o',c',by rw [hb.cell (p:=⟨g,i,none⟩) (Nat.lt_of_lt_of_le hl hC)];exact hc,hd.below hb hC,hb',hz.below hb (Nat.lt_of_lt_of_le (Nat.lt_of_lt_of_le hl2 h.le) hC),hl2⟩,Nat.le_trans h.le hb.size⟩
theorem NewRR.mono {w:World} {B B' N g:Nat} {rows:List (List Int)} (h:NewRR w B N g rows) (hB:B'≤B):NewRR w B' N g rows :=
 ⟨Nat.le_trans hB h.ge,fun i hi=>by
  obtain ⟨a',b',o',c',hc,hd,hb,hz⟩:=h.row i hi
  exact ⟨a',b',o',c',hc,hd,Nat.le_trans hB hb,hz⟩,h.le⟩
structure NewX (w:World) (B N g1 g2:Nat) (l:List Int) (rows:List (List Int)):Prop where
 f:IntS w (some ⟨g1,0,none⟩) g1 0 l
 fz:Fz w g1
 ge:B≤g1
 lt:g1 < N
 r:NewRR w B N g2 rows
theorem NewX.below {w w':World} {B C N g1 g2:Nat} {l:List Int} {rows:List (List Int)} (h:NewX w B N g1 g2 l rows) (hb:Below C w w') (hC:w.heap.size≤C):NewX w' B N g1 g2 l rows :=
 ⟨h.f.below hb hC,h.fz.below hb (Nat.lt_of_lt_of_le (Nat.lt_of_lt_of_le h.lt h.r.le) hC),h.ge,h.lt,h.r.below hb hC⟩
set_option maxHeartbeats 400000 in
theorem toIntSS_any (a:Option Addr) (b o c:Nat) (rows:List (List Int)) (w:World) (hl:rows.length≤1048576) (hrs:∀ r∈rows,r.length≤1048576) (h:IntSS w a b o rows) :
  Calls Tryz.prog 57 #[.slice a rows.length c] w fun e w'=>e=.returned (.slice (some ⟨w.heap.size,0,none⟩) rows.length rows.length)∧NewRR w' w.heap.size w'.heap.size w.heap.size rows∧Below w.heap.size w w':=by
 have hmk:=run_make_row' (P:=Tryz.prog) 26 25 (.slice none 0 0) 24 Tryz.underlying26 Tryz.infoRow rfl .i64 .i64 rows.length (by omega) (by omega)
 go_enter Tryz.func57,Tryz.ntmps57
 go_wp2_with fail
 clear hmk
 go_loopw [4] (fun s4 wr=>∃ n:Nat,s4=.int .i64 n∧n≤rows.length∧PartR w wr rows n) (fun s4 _=>rows.length - (intOf s4).toNat)
 case atStart=>exact ⟨0,rfl,Nat.zero_le _,⟨below1 _ _,⟨_,World.rowIs_made w (.slice none 0 0) rows.length 25⟩,fun _ hq _=>absurd hq (Nat.not_lt_zero _)⟩⟩
 case round =>
  obtain ⟨n,rfl,hn,hpart⟩:=hrel
  by_cases hlt:n < rows.length
  ·obtain ⟨rfl⟩:=h.addr (by omega)
   obtain ⟨a',b',o',c',hc,hd⟩:=(h.below hpart.bel (Nat.le_refl _)).row n hlt
   have hlt':=hrs _ (List.getElem_mem hlt)
   generalize hln:rows[n]=t at hd hc hlt'
   have HL:Hid (∀ h:n < rows.length,rows[n]=t):=fun _=>hln
   clear hln
   obtain ⟨f,hf⟩:=hpart.own
   have hlb:=hf.lt
   go_wp2_with (go_at_call 56;refine (toIntS_any a' b' o' c' t _ hlt' hd).mono ?_;rintro e w1 ⟨rfl,hs1,⟨f1,hf1⟩,hb1⟩;have c0:w1.cell? ⟨w.heap.size,n,none⟩=some (f n):=(hb1.cell (p:=⟨w.heap.size,n,none⟩) hlb).trans (hf.cell hlt);have f0:∀ i,w1.frozen? ⟨w.heap.size,i,none⟩=false:=fun i=>(hb1.frozen (p:=⟨w.heap.size,i,none⟩) hlb).trans (hf.frozen i))
   exact ⟨⟨n+1,by go_num,by omega,partR_step hpart hb1 HL.out hs1 hlb ⟨fun j=>hf1.frozen j,hf1.lt⟩⟩,by simp [intOf];omega⟩
  ·go_wp2_with fail
   go_ret
   refine ⟨rfl,⟨Nat.le_refl _,fun i hi=>?_,Nat.le_refl _⟩,hpart.bel⟩
   obtain ⟨a',b',o',c',hc,hd,hb',hz⟩:=hpart.done i (by omega) hi
   exact ⟨a',b',o',c',hc,hd,Nat.le_of_lt hb',hz⟩
set_option maxHeartbeats 1000000 in
theorem toExec_any (fa:Option Addr) (fb fo fc:Nat) (l:List Int) (ra:Option Addr) (rb ro rc:Nat) (rows:List (List Int)) (w:World) (hl1:l.length≤1048576) (hl:rows.length≤1048576) (hrs:∀ r∈rows,r.length≤1048576) (as1:IntS w fa fb fo l) (as2:IntSS w ra rb ro rows) :
  Calls Tryz.prog 16 #[.agg #[.slice fa l.length fc,.slice ra rows.length rc]] w fun e w'=>∃ g1 g2,e=.returned (.agg #[.slice (some ⟨g1,0,none⟩) l.length l.length,.slice (some ⟨g2,0,none⟩) rows.length rows.length])∧NewX w' w.heap.size w'.heap.size g1 g2 l rows∧Below w.heap.size w w':=by
 go_enter Tryz.func16,Tryz.ntmps16
 go_wp2_with fail
 have hb3:=below3 w (.cells #[.slice fa l.length fc,.slice ra rows.length rc] 28) (.cells #[.slice none 0 0,.slice none 0 0] 37) (.cells #[.slice none 0 0,.slice none 0 0] 37)
 refine (toIntS_any fa fb fo fc l _ hl1 (as1.below hb3 (Nat.le_refl _))).mono ?_
 rintro e w1 ⟨rfl,hn1,⟨f1,hr1⟩,hb1⟩
 obtain ⟨hc1,hf1⟩:=bcell hb1
 simp only [World.size_alloc] at hn1 hr1 hb1 hc1 hf1
 have hlt1:=hr1.lt
 go_wp2_with fail
 have hb1':Below w.heap.size w (w1.setCell ⟨w.heap.size+1+1,0,none⟩ (.slice (some ⟨w.heap.size+1+1+1,0,none⟩) l.length l.length)):=(hb3.trans (hb1.mono (by omega))).setCell (by show w.heap.size≤w.heap.size+1+1;omega) _
 refine (toIntSS_any ra rb ro rc rows _ hl hrs (as2.below hb1' (Nat.le_refl _))).mono ?_
 rintro e w2 ⟨rfl,hn2,hb2⟩
 obtain ⟨hc2,hf2⟩:=bcell hb2
 have hs2:(w1.setCell ⟨w.heap.size+1+1,0,none⟩ (.slice (some ⟨w.heap.size+1+1+1,0,none⟩) l.length l.length)).heap.size=w1.heap.size:=World.size_setCell _ _ _
 rw [hs2] at hn2 hb2 hc2 hf2
 have d0:w1.cell? ⟨w.heap.size+1+1,0,none⟩=some (.slice none 0 0):=by
  have h:=hc1 (w.heap.size+1+1) 0 (by omega)
  rw [h]
  simp [go_sem]
 have d1:w1.cell? ⟨w.heap.size+1+1,1,none⟩=some (.slice none 0 0):=by
  have h:=hc1 (w.heap.size+1+1) 1 (by omega)
  rw [h]
  simp [go_sem]
 have d2:w1.cell? ⟨w.heap.size+1,0,none⟩=some (.slice none 0 0):=by
  have h:=hc1 (w.heap.size+1) 0 (by omega)
  rw [h]
  simp [go_sem]
 have d3:w1.cell? ⟨w.heap.size+1,1,none⟩=some (.slice none 0 0):=by
  have h:=hc1 (w.heap.size+1) 1 (by omega)
  rw [h]
  simp [go_sem]
 have e0:w2.cell? ⟨w.heap.size+1+1,0,none⟩=some (.slice (some ⟨w.heap.size+1+1+1,0,none⟩) l.length l.length):=by
  rw [hc2 _ _ (by omega)]
  exact World.cell?_setCell_same _ _ _ d0
 have e1:w2.cell? ⟨w.heap.size+1+1,1,none⟩=some (.slice none 0 0):=by
  rw [hc2 _ _ (by omega),World.cell?_setCell_other _ _ _ _ (by simp)];exact d1
 have e2:w2.cell? ⟨w.heap.size+1,0,none⟩=some (.slice none 0 0):=by
  rw [hc2 _ _ (by omega),World.cell?_setCell_other _ _ _ _ (by simp)];exact d2
 have e3:w2.cell? ⟨w.heap.size+1,1,none⟩=some (.slice none 0 0):=by
  rw [hc2 _ _ (by omega),World.cell?_setCell_other _ _ _ _ (by simp)];exact d3
 have z0:w2.frozen? ⟨w.heap.size+1+1,1,none⟩=false:=by
  rw [hf2 _ _ (by omega),World.frozen?_setCell,hf1 _ _ (by omega)];simp [go_sem]
 have z1:w2.frozen? ⟨w.heap.size+1,0,none⟩=false:=by
  rw [hf2 _ _ (by omega),World.frozen?_setCell,hf1 _ _ (by omega)];simp [go_sem]
 have z2:w2.frozen? ⟨w.heap.size+1,1,none⟩=false:=by
  rw [hf2 _ _ (by omega),World.frozen?_setCell,hf1 _ _ (by omega)];simp [go_sem]
 have hn1':=(hn1.other (B:=w.heap.size+1+1) (i:=0) (u:=.slice (some ⟨w.heap.size+1+1+1,0,none⟩) l.length l.length) (by omega)).below hb2 (by rw [hs2];exact Nat.le_refl _)
 have hz1:Fz w2 (w.heap.size+1+1+1):=fun j=>by rw [hf2 _ _ (by omega),World.frozen?_setCell];exact hr1.frozen j
 clear hc1 hf1 hc2 hf2 d0 d1 d2 d3
 rw [hs2]
 go_wp2_with fail
 have hbw2:Below w.heap.size w w2:=hb1'.trans (hb2.mono (by omega))
 refine bodyPost_ret (v:=.agg #[.slice (some ⟨w.heap.size+1+1+1,0,none⟩) l.length l.length,.slice (some ⟨w1.heap.size,0,none⟩) rows.length rows.length]) (by simp [results,Tryz.results16,go_sem,e2,e3]) rfl ⟨_,_,rfl,?_,?_⟩
 ·rw [show ∀ p q r u v x,(((w2.setCell p u).setCell q v).setCell r x).heap.size=w2.heap.size from fun p q r u v x=>by simp [World.setCell]]
  exact ⟨((hn1'.other (by omega)).other (by omega)).other (by omega),(((hz1.set _ _).set _ _).set _ _),by omega,by have:=hb2.size;omega,(((hn2.mono (by omega)).other (B:=w1.heap.size) (by omega) _).other (by omega) _).other (by omega) _ |>.mono (by omega)⟩
 ·exact ((hbw2.setCell (by show w.heap.size≤w.heap.size+1+1;omega) _).setCell (by show w.heap.size≤w.heap.size+1;omega) _).setCell (by show w.heap.size≤w.heap.size+1;omega) _
end
end Go.Proofs.YtdningnhbplfiaaGreat
