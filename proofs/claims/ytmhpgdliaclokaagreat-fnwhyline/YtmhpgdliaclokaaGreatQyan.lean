/- spec's ways: whether all is told that must be. Of at most 1048576 threads, steps, numbers, rows. -/
import Derived.Test.YtmhpgdliaclokaaGreatRows
import Derived.Test.YtmhpgdliaclokaaGreatQyam
namespace Go.Proofs.YtmhpgdliaclokaaGreat
section
open Go.RowKit
def M.sTell (rows:List (List Int)) (x:M.De) (f:Int):Bool:=if x.reads then f==-1||M.has (rows.getD x.d.p.toNat []) f else f==-2
def M.sFrom (rows:List (List Int)):List M.De→List Int→Bool
 | [],_=>true
 | x::xs,f::fs=>M.sTell rows x f&&M.sFrom rows xs fs
 | _::_,[]=>false
theorem M.sFrom_step {rows:List (List Int)} {ds:List M.De} {l:List Int} {n:Nat} (h:M.sFrom rows ds l=M.sFrom rows (ds.drop n) (l.drop n)) (hn:n < ds.length) (hl:n < l.length):M.sFrom rows ds l=(M.sTell rows ds[n] l[n]&&M.sFrom rows (ds.drop (n+1)) (l.drop (n+1))):=by
 rw [h,← List.getElem_cons_drop hn,← List.getElem_cons_drop hl,M.sFrom]
def M.sForm (ds:List M.De) (l:List Int) (rows:List (List Int)):Bool:=decide (l.length=ds.length)&&(decide (rows.length=3)&&(M.orderAt ds 0 rows&&M.sFrom rows ds l))
set_option maxHeartbeats 8000000 in
set_option maxRecDepth 100000 in
theorem l12Form_any (a:Option Addr) (b o c:Nat) (ll:List (List M.D)) (va:Option Addr) (g cc:Nat) (fa:Option Addr) (fb fo fc:Nat) (l:List Int) (ra:Option Addr) (rb ro rc:Nat) (rows:List (List Int)) (w:World) (hl:ll.length≤1048576) (hls:∀ t∈ll,t.length≤1048576) (hdl:(M.deeds ll).length≤42) (hpl:∀ x∈M.deeds ll,x.reads=true→0≤x.d.p∧x.d.p < 3) (hl1:l.length≤1048576) (hrs:∀ r∈rows,r.length≤1048576) (h:DoSS w a b o ll) (hd:DvS w va g (M.deeds ll)) (hf:IntS w fa fb fo l) (hr:IntSS w ra rb ro rows) :
  Calls Tryz.prog 125 #[.agg #[.slice a ll.length c],.slice va (M.deeds ll).length cc,.agg #[.slice fa l.length fc,.slice ra rows.length rc]] w fun e w'=>e=.returned (.bool (M.sForm (M.deeds ll) l rows))∧Below w.heap.size w w':=by
 have hof:=M.ofEv (ll:=ll)
 have CW:=fun (p:Int) W=>l12Writes_any a b o c ll va g cc p W hl hls hdl
 generalize M.deeds ll=ds at *
 have hb2:=below2 w (.cells #[.slice a ll.length c] 25) (.cells #[.slice fa l.length fc,.slice ra rows.length rc] 29)
 by_cases hln:l.length=ds.length
 ·by_cases hl3:rows.length=3
  ·have HF:Hid (M.sForm ds l rows=(M.orderAt ds 0 rows&&M.sFrom rows ds l)):=by show _=_;simp [M.sForm,hln,hl3]
   have hq:((l.length:Int) != ds.length)=false:=by simp;omega
   have hq3:((rows.length:Int) != 3)=false:=by simp;omega
   have HL:Hid (l.length=ds.length):=hln
   have HR:Hid (rows.length=3):=hl3
   have kp:((w.alloc (.cells #[.slice a ll.length c] 25)).alloc (.cells #[.slice fa l.length fc,.slice ra rows.length rc] 29)).cell? ⟨w.heap.size,0,none⟩=some (.slice a ll.length c):=by simp
   have k0:((w.alloc (.cells #[.slice a ll.length c] 25)).alloc (.cells #[.slice fa l.length fc,.slice ra rows.length rc] 29)).cell? ⟨w.heap.size+1,0,none⟩=some (.slice fa l.length fc):=by simp
   have k1:((w.alloc (.cells #[.slice a ll.length c] 25)).alloc (.cells #[.slice fa l.length fc,.slice ra rows.length rc] 29)).cell? ⟨w.heap.size+1,1,none⟩=some (.slice ra rows.length rc):=by simp
   obtain ⟨rfl⟩:=hr.addr (by omega)
   clear hln hl3
   replace h:=h.below hb2 (Nat.le_refl _)
   replace hd:=hd.bel hb2 (Nat.le_refl _)
   replace hf:=hf.below hb2 (Nat.le_refl _)
   replace hr:=hr.below hb2 (Nat.le_refl _)
   go_enter Tryz.func125,Tryz.ntmps125
   go_wp2_with fail
   generalize (w.alloc (.cells #[.slice a ll.length c] 25)).alloc (.cells #[.slice fa l.length fc,.slice (some ⟨rb,ro,none⟩) rows.length rc] 29)=WB at *
   have lw1:w.heap.size+1 < WB.heap.size:=World.block_lt_of_cell? _ _ k0
   have lw:w.heap.size < WB.heap.size:=World.block_lt_of_cell? _ _ kp
   go_loopw [7] (fun s7 wr=>∃ n:Nat,s7=.int .i64 n∧n≤3∧Hid (M.orderAt ds 0 rows=M.orderAt ds n (rows.drop n))∧Below WB.heap.size WB wr) (fun s7 _=>3 - (intOf s7).toNat)
   case atStart=>exact ⟨0,rfl,Nat.zero_le _,by show _=_;rfl,Below.refl _ _⟩
   case round =>
    obtain ⟨n,rfl,hn,HA,hb⟩:=hrel
    have hbw:=hb2.trans (hb.mono hb2.size)
    have kp':=(hb.cell (p:=⟨w.heap.size,0,none⟩) lw).trans kp
    by_cases hlt:n < 3
    ·have hlr:n < rows.length:=by rw [HR.out];exact hlt
     have HS:Hid (M.orderAt ds 0 rows=(M.isRow rows[n] (M.wrs n 0 ds)&&M.orderAt ds (n+1) (rows.drop (n+1)))):=M.order_step HA.out hlr
     clear HA
     obtain ⟨a',b',o',c',hc,hrow⟩:=hr.row n hlr
     have hle:=hrs _ (List.getElem_mem hlr)
     generalize rows[n]=row at *
     have i1:(n:Int) < rows.length:=by omega
     have i3:(n:Int) < 3:=by omega
     have hwl:(M.wrs (n:Int) 0 ds).length≤42:=Nat.le_trans (M.wrs_len _ _ _) hdl
     go_wp2_with fail
     refine (CW n wr (h.below hb (Nat.le_refl _)) (hd.bel hb (Nat.le_refl _))).mono ?_
     rintro e w1 ⟨v1,rfl,hown1,hb1⟩
     obtain ⟨va1,g1,c1,rfl,hi1,_⟩:=own_nums hown1
     have hb':=hb.trans (hb1.mono hb.size)
     have hbb:=hb2.trans (hb'.mono hb2.size)
     have k1':=(hb'.cell (p:=⟨w.heap.size+1,1,none⟩) lw1).trans k1
     have hc':=(hb'.cell (p:=⟨rb,ro+n,none⟩) (World.block_lt_of_cell? _ _ hc)).trans hc
     have hrow':=hrow.below hb' (Nat.le_refl _)
     obtain ⟨evs,hevs⟩:∃ evs,M.wrs (n:Int) 0 ds=evs:=⟨_,rfl⟩
     rw [hevs] at hi1 hwl HS ⊢
     clear hevs hown1 CW
     by_cases hlen:row.length=evs.length
     ·have HI:Hid (M.isRow row evs=evs.all (row.contains ·)):=by show _=_;simp [M.isRow,hlen]
      have hq5:((evs.length:Int) != row.length)=false:=by simp;omega
      clear hlen
      go_wp2_with fail
      go_loopw [9] (fun s9 wr'=>∃ i:Nat,s9=.int .i64 i∧i≤evs.length∧Hid (evs.all (row.contains ·)=(evs.drop i).all (row.contains ·))∧Below w1.heap.size w1 wr') (fun s9 _=>evs.length - (intOf s9).toNat)
      case atStart=>exact ⟨0,rfl,Nat.zero_le _,by show _=_;rfl,Below.refl _ _⟩
      case round =>
       obtain ⟨i,rfl,hi,HB,hb3⟩:=hrel
       have hb'':=hb'.trans (hb3.mono hb'.size)
       have hbb3:=hb2.trans (hb''.mono hb2.size)
       by_cases hlt2:i < evs.length
       ·have HS2:Hid (evs.all (row.contains ·)=(M.has row evs[i]&&(evs.drop (i+1)).all (row.contains ·))):=M.all_step HB.out hlt2
        clear HB
        obtain ⟨rfl⟩:=hi1.addr (by omega)
        have hev:=hi1.row i hlt2
        rw [Nat.zero_add] at hev
        generalize evs[i]=ev at *
        have K1:=BelowOf.cell ((hb3.cell (p:=⟨w.heap.size+1,1,none⟩) (World.block_lt_of_cell? _ _ k1')).trans k1')
        have KC:=BelowOf.cell ((hb3.cell (p:=⟨rb,ro+n,none⟩) (World.block_lt_of_cell? _ _ hc')).trans hc')
        have KE:=BelowOf.cell ((hb3.cell (p:=⟨g1,i,none⟩) (World.block_lt_of_cell? _ _ hev)).trans hev)
        have C:=fun q:BelowOf wr=>l12Has_any a' b' o' c' row ev q.x hle ((hrow'.below hb3 (Nat.le_refl _)).below q.h (Nat.le_refl _))
        haveI:Inhabited (BelowOf wr):=⟨belOf wr⟩
        have i4:(i:Int) < evs.length:=by omega
        go_wp2_with fail
        cases hh:M.has row ev
        ·have HT:Hid (M.sForm ds l rows=false):=by show _=_;rw [HF.out,HS.out,HI.out,HS2.out,hh];rfl
         rw [hh] at C
         refine wp_region_quiet_bel (by kernel_rfl) (by kernel_rfl) ?_
         repeat (quiet_step (first | (go_at_call 85;exact Calls.bel_of_same (C _))))
         refine wpQuiet_nil ?_
         rintro _ ⟨⟨wq,hwq⟩,rfl⟩
         go_wp2_with fail
         go_ret
         exact ⟨ret_bool HT.out.symm,hbb3.trans (hwq.mono hbb3.size)⟩
        ·have HT:Hid (evs.all (row.contains ·)=(evs.drop (i+1)).all (row.contains ·)):=by show _=_;rw [HS2.out,hh];rfl
         rw [hh] at C
         refine wp_region_quiet_bel (by kernel_rfl) (by kernel_rfl) ?_
         repeat (quiet_step (first | (go_at_call 85;exact Calls.bel_of_same (C _))))
         refine wpQuiet_nil ?_
         rintro _ ⟨⟨wq,hwq⟩,rfl⟩
         go_wp2_with fail
         exact ⟨⟨i+1,by go_num,by omega,HT,hb3.trans (hwq.mono hb3.size)⟩,by simp [intOf];omega⟩
       ·have HT:Hid (M.orderAt ds 0 rows=M.orderAt ds (n+1) (rows.drop (n+1))):=by show _=_;rw [HS.out,HI.out,HB.out,List.drop_eq_nil_of_le (by omega)];rfl
        go_wp2_with fail
        exact ⟨⟨n+1,by go_num,by omega,HT,hb''⟩,by simp [intOf];omega⟩
     ·have HT:Hid (M.sForm ds l rows=false):=by show _=_;rw [HF.out,HS.out];simp [M.isRow,hlen]
      have hq5:((evs.length:Int)==row.length)=false:=by simp;omega
      go_wp2_with fail
      go_ret
      exact ⟨ret_bool HT.out.symm,hbb⟩
    ·have HO:Hid (M.orderAt ds 0 rows=true):=by show _=_;rw [HA.out,List.drop_eq_nil_of_le (by rw [HR.out];omega)];rfl
     have HF2:Hid (M.sForm ds l rows=M.sFrom rows ds l):=by show _=_;rw [HF.out,HO.out];rfl
     clear HF HO HA CW
     have i3:¬ ((n:Int) < 3):=by omega
     go_wp2_with fail
     go_loopw [10] (fun s10 wr=>∃ n:Nat,s10=.int .i64 n∧n≤ds.length∧Hid (M.sFrom rows ds l=M.sFrom rows (ds.drop n) (l.drop n))∧Below WB.heap.size WB wr) (fun s10 _=>ds.length - (intOf s10).toNat)
     case atStart=>exact ⟨0,rfl,Nat.zero_le _,by show _=_;rfl,hb⟩
     case round =>
      clear hb hbw kp' i3 hlt hn
      obtain ⟨n,rfl,hn,HA,hb⟩:=hrel
      have hbw:=hb2.trans (hb.mono hb2.size)
      have kp':=(hb.cell (p:=⟨w.heap.size,0,none⟩) lw).trans kp
      by_cases hlt:n < ds.length
      ·have hltl:n < l.length:=by rw [HL.out];exact hlt
       have HS:Hid (M.sFrom rows ds l=(M.sTell rows ds[n] l[n]&&M.sFrom rows (ds.drop (n+1)) (l.drop (n+1)))):=M.sFrom_step HA.out hlt hltl
       have hox:=hof _ (List.getElem_mem hlt)
       have HPX:Hid (ds[n].reads=true→0≤ds[n].d.p∧ds[n].d.p < 3):=hpl _ (List.getElem_mem hlt)
       clear HA
       obtain ⟨rfl⟩:=hd.addr (by omega)
       obtain ⟨rfl⟩:=hf.addr (by omega)
       obtain ⟨c0,c1,c2⟩:=(hd.bel hb (Nat.le_refl _)).at hlt
       have hfc:=hf.row n hltl
       generalize ds[n]=x at *
       generalize l[n]=f at *
       have i1:(n:Int) < ds.length:=by omega
       have i2:(n:Int) < l.length:=by omega
       have lg:g < wr.heap.size:=World.block_lt_of_cell? _ _ c0
       have lww:w.heap.size < wr.heap.size:=World.block_lt_of_cell? _ _ kp'
       have C:=fun W (hb':Below wr.heap.size wr W)=>l12Do_ev a b o c ll x W hox hl hls ((h.below hb (Nat.le_refl _)).below hb' (Nat.le_refl _))
       have hbA:=below1 wr (.cells #[.int .i64 0,.int .i64 0,.int .i64 0] 94)
       have A0:(wr.alloc (.cells #[.int .i64 0,.int .i64 0,.int .i64 0] 94)).cell? ⟨wr.heap.size,0,none⟩=some (.int .i64 0):=by simp
       have A1:(wr.alloc (.cells #[.int .i64 0,.int .i64 0,.int .i64 0] 94)).cell? ⟨wr.heap.size,1,none⟩=some (.int .i64 0):=by simp
       have A2:(wr.alloc (.cells #[.int .i64 0,.int .i64 0,.int .i64 0] 94)).cell? ⟨wr.heap.size,2,none⟩=some (.int .i64 0):=by simp
       have Af:∀ j,(wr.alloc (.cells #[.int .i64 0,.int .i64 0,.int .i64 0] 94)).frozen? ⟨wr.heap.size,j,none⟩=false:=by intro j;simp
       have Asz:wr.heap.size < (wr.alloc (.cells #[.int .i64 0,.int .i64 0,.int .i64 0] 94)).heap.size:=by simp
       have N0:wr.heap.size≠w.heap.size:=Nat.ne_of_gt lww
       have N1:wr.heap.size≠g:=Nat.ne_of_gt lg
       have B0:=(hbA.cell (p:=⟨w.heap.size,0,none⟩) lww).trans kp'
       have B1:=(hbA.cell (p:=⟨g,n * 3,none⟩) lg).trans c0
       have B2:=(hbA.cell (p:=⟨g,n * 3+1,none⟩) lg).trans c1
       have B3:=(hbA.cell (p:=⟨g,n * 3+2,none⟩) lg).trans c2
       go_wp2_with fail
       go_region_held3 (fun w'=>w'.cell? ⟨w.heap.size,0,none⟩=some (.slice a ll.length c)∧w'.cell? ⟨g,n * 3,none⟩=some (.int .i64 x.t)∧w'.cell? ⟨g,n * 3+1,none⟩=some (.int .i64 x.i)∧w'.cell? ⟨g,n * 3+2,none⟩=some (.bool x.last)) (go_keep) (first
        | (go_at_call 134;refine (C _ ((Below.refl _ _).drew)).mono ?_;rintro e w1 ⟨rfl,hb1⟩;have Y0:=(hb1.cell (p:=⟨w.heap.size,0,none⟩) lww).trans kp';have Y1:=(hb1.cell (p:=⟨g,n * 3,none⟩) lg).trans c0;have Y2:=(hb1.cell (p:=⟨g,n * 3+1,none⟩) lg).trans c1;have Y3:=(hb1.cell (p:=⟨g,n * 3+2,none⟩) lg).trans c2)
        | (go_at_call 134;refine (C _ ((below1 _ _).drew)).mono ?_;rintro e w1 ⟨rfl,hb1⟩;have Y0:=(hb1.cell (p:=⟨w.heap.size,0,none⟩) (Nat.lt_trans lww Asz)).trans B0;have Y1:=(hb1.cell (p:=⟨g,n * 3,none⟩) (Nat.lt_trans lg Asz)).trans B1;have Y2:=(hb1.cell (p:=⟨g,n * 3+1,none⟩) (Nat.lt_trans lg Asz)).trans B2;have Y3:=(hb1.cell (p:=⟨g,n * 3+2,none⟩) (Nat.lt_trans lg Asz)).trans B3;have Z0:=(hb1.cell (p:=⟨wr.heap.size,0,none⟩) Asz).trans A0;have Z1:=(hb1.cell (p:=⟨wr.heap.size,1,none⟩) Asz).trans A1;have Z2:=(hb1.cell (p:=⟨wr.heap.size,2,none⟩) Asz).trans A2;have Zf:=fun j=>(hb1.frozen (p:=⟨wr.heap.size,j,none⟩) Asz).trans (Af j)))
       ·have F:DoIn wr _ _ x.d:=DoIn.behind (d:=x.d) ((Below.refl wr.heap.size wr).drew.trans hb1)
        generalize w1.alloc (.cells #[.int .i64 x.d.k,.int .i64 x.d.p,.int .i64 x.d.v] 94)=W1 at F ⊢
        generalize w1.heap.size=X at F ⊢
        clear hb1 A0 A1 A2 Af B0 B1 B2 B3 N0 N1 Y0 Y1 Y2 Y3 C hbA
        obtain ⟨hbF,hgF,d0,d1,d2⟩:=F
        have hbG:=hb.trans (hbF.mono hb.size)
        have hbZ:=hb2.trans (hbG.mono hb2.size)
        have K0:=BelowOf.cell ((hbG.cell (p:=⟨w.heap.size+1,0,none⟩) lw1).trans k0)
        have K1:=BelowOf.cell ((hbG.cell (p:=⟨w.heap.size+1,1,none⟩) lw1).trans k1)
        have KF:=BelowOf.cell ((hbG.cell (p:=⟨fb,fo+n,none⟩) (World.block_lt_of_cell? _ _ hfc)).trans hfc)
        have D0:=BelowOf.cell d0
        have D1:=BelowOf.cell d1
        have D2:=BelowOf.cell d2
        have CR:=fun q:BelowOf W1=>l1Reads_bel x.d q.x
        haveI:Inhabited (BelowOf W1):=⟨belOf W1⟩
        clear d0 d1 d2 kp' k0 k1 hfc c0 c1 c2
        go_wp2_with fail
        cases hrd:M.reads x.d.k
        ·have HS3:Hid (M.sFrom rows ds l=((f==-2)&&M.sFrom rows (ds.drop (n+1)) (l.drop (n+1)))):=by show _=_;rw [HS.out,M.sTell,show x.reads=false from hrd];rfl
         rw [hrd] at CR
         by_cases hf2:f=-2
         ·subst hf2
          have HT:Hid (M.sFrom rows ds l=M.sFrom rows (ds.drop (n+1)) (l.drop (n+1))):=by show _=_;rw [HS3.out];rfl
          refine wp_region_quiet_bel (by kernel_rfl) (by kernel_rfl) ?_
          iterate 12 (quiet_step (first | (go_at_call 76;exact Calls.bel_of (CR _))))
          iterate 3 (quiet_step (first | (go_at_call 76;exact Calls.bel_of (CR _))))
          iterate 6 go_big_quiet_skip
          iterate 2 (quiet_step (fail))
          iterate 13 go_big_quiet_skip
          iterate 2 (quiet_step (fail))
          refine wpQuiet_nil ?_
          rintro _ ⟨⟨wq,hwq⟩,rfl⟩
          go_wp2_with fail
          exact ⟨⟨n+1,by go_num,by omega,HT,hbG.trans (hwq.mono hbG.size)⟩,by simp [intOf];omega⟩
         ·have hf2':(f==-2)=false:=by simpa using hf2
          have hf2n:(f != -2)=true:=by simpa using hf2
          have HT:Hid (M.sForm ds l rows=false):=by show _=_;rw [HF2.out,HS3.out,hf2'];rfl
          refine wp_region_quiet_bel (by kernel_rfl) (by kernel_rfl) ?_
          iterate 12 (quiet_step (first | (go_at_call 76;exact Calls.bel_of (CR _))))
          iterate 25 go_big_quiet_skip
          iterate 1 (quiet_step (fail))
          refine wpQuiet_nil ?_
          rintro _ ⟨⟨wq,hwq⟩,rfl⟩
          go_wp2_with fail
          go_ret
          exact ⟨ret_bool HT.out.symm,hbZ.trans (hwq.mono hbZ.size)⟩
        ·have HS3:Hid (M.sFrom rows ds l=((f==-1||M.has (rows.getD x.d.p.toNat []) f)&&M.sFrom rows (ds.drop (n+1)) (l.drop (n+1)))):=by show _=_;rw [HS.out,M.sTell,show x.reads=true from hrd];rfl
         rw [hrd] at CR
         by_cases hf1:f=-1
         ·subst hf1
          have HT:Hid (M.sFrom rows ds l=M.sFrom rows (ds.drop (n+1)) (l.drop (n+1))):=by show _=_;rw [HS3.out];rfl
          refine wp_region_quiet_bel (by kernel_rfl) (by kernel_rfl) ?_
          iterate 4 (quiet_step (first | (go_at_call 76;exact Calls.bel_of (CR _))))
          iterate 6 go_big_quiet_skip
          iterate 13 (quiet_step (first | (go_at_call 76;exact Calls.bel_of (CR _))))
          iterate 13 go_big_quiet_skip
          iterate 2 (quiet_step (fail))
          refine wpQuiet_nil ?_
          rintro _ ⟨⟨wq,hwq⟩,rfl⟩
          go_wp2_with fail
          exact ⟨⟨n+1,by go_num,by omega,HT,hbG.trans (hwq.mono hbG.size)⟩,by simp [intOf];omega⟩
         ·have hf1':(f==-1)=false:=by simpa using hf1
          have hf1n:(f != -1)=true:=by simpa using hf1
          obtain ⟨hp0,hp3⟩:=HPX.out hrd
          obtain ⟨pn,hpn⟩:∃ pn:Nat,x.d.p=pn:=⟨x.d.p.toNat,by omega⟩
          have hpr:pn < rows.length:=by rw [HR.out];omega
          have HS4:Hid (M.sFrom rows ds l=(M.has rows[pn] f&&M.sFrom rows (ds.drop (n+1)) (l.drop (n+1)))):=by
           show _=_
           rw [HS3.out,hf1',hpn,Int.toNat_natCast,List.getD_eq_getElem?_getD,List.getElem?_eq_getElem hpr];rfl
          rw [hpn] at D1
          obtain ⟨a',b',o',c',hc,hrow⟩:=hr.row pn hpr
          have hle:=hrs _ (List.getElem_mem hpr)
          generalize rows[pn]=row at *
          have KC:=BelowOf.cell ((hbG.cell (p:=⟨rb,ro+pn,none⟩) (World.block_lt_of_cell? _ _ hc)).trans hc)
          have CH:=fun q:BelowOf W1=>l12Has_any a' b' o' c' row f q.x hle ((hrow.below hbG (Nat.le_refl _)).below q.h (Nat.le_refl _))
          have i5:(pn:Int) < rows.length:=by omega
          have CR:=fun q:BelowOf W1=>l1Reads_bel ⟨x.d.k,pn,x.d.v⟩ q.x
          rw [show M.reads (⟨x.d.k,pn,x.d.v⟩:M.D).k=true from hrd] at CR
          clear hpn hp0 hp3 hc
          cases hh:M.has row f
          ·have HT:Hid (M.sForm ds l rows=false):=by show _=_;rw [HF2.out,HS4.out,hh];rfl
           rw [hh] at CH
           refine wp_region_quiet_bel (by kernel_rfl) (by kernel_rfl) ?_
           iterate 4 (quiet_step (first | (go_at_call 76;exact Calls.bel_of (CR _))))
           iterate 6 go_big_quiet_skip
           iterate 28 (quiet_step (first | (go_at_call 76;exact Calls.bel_of (CR _)) | (go_at_call 85;exact Calls.bel_of_same (CH _))))
           refine wpQuiet_nil ?_
           rintro _ ⟨⟨wq,hwq⟩,rfl⟩
           go_wp2_with fail
           go_ret
           exact ⟨ret_bool HT.out.symm,hbZ.trans (hwq.mono hbZ.size)⟩
          ·have HT:Hid (M.sFrom rows ds l=M.sFrom rows (ds.drop (n+1)) (l.drop (n+1))):=by show _=_;rw [HS4.out,hh];rfl
           rw [hh] at CH
           refine wp_region_quiet_bel (by kernel_rfl) (by kernel_rfl) ?_
           iterate 4 (quiet_step (first | (go_at_call 76;exact Calls.bel_of (CR _))))
           iterate 6 go_big_quiet_skip
           iterate 28 (quiet_step (first | (go_at_call 76;exact Calls.bel_of (CR _)) | (go_at_call 85;exact Calls.bel_of_same (CH _))))
           refine wpQuiet_nil ?_
           rintro _ ⟨⟨wq,hwq⟩,rfl⟩
           go_wp2_with fail
           exact ⟨⟨n+1,by go_num,by omega,HT,hbG.trans (hwq.mono hbG.size)⟩,by simp [intOf];omega⟩
       ·have F:DoIn wr _ _ x.d:=DoIn.ahead (d:=x.d) (hbA.drew.trans (hb1.mono (Nat.le_of_lt Asz))) Z0 Z1 Z2
        generalize ((w1.setCell ⟨wr.heap.size,0,none⟩ (.int .i64 x.d.k)).setCell ⟨wr.heap.size,1,none⟩ (.int .i64 x.d.p)).setCell ⟨wr.heap.size,2,none⟩ (.int .i64 x.d.v)=W1 at F ⊢
        obtain ⟨X,hX,F⟩:∃ X,X=wr.heap.size∧DoIn wr W1 X x.d:=⟨_,rfl,F⟩
        rw [← hX]
        clear hX
        clear hb1 A0 A1 A2 Af B0 B1 B2 B3 N0 N1 Y0 Y1 Y2 Y3 C hbA
        obtain ⟨hbF,hgF,d0,d1,d2⟩:=F
        have hbG:=hb.trans (hbF.mono hb.size)
        have hbZ:=hb2.trans (hbG.mono hb2.size)
        have K0:=BelowOf.cell ((hbG.cell (p:=⟨w.heap.size+1,0,none⟩) lw1).trans k0)
        have K1:=BelowOf.cell ((hbG.cell (p:=⟨w.heap.size+1,1,none⟩) lw1).trans k1)
        have KF:=BelowOf.cell ((hbG.cell (p:=⟨fb,fo+n,none⟩) (World.block_lt_of_cell? _ _ hfc)).trans hfc)
        have D0:=BelowOf.cell d0
        have D1:=BelowOf.cell d1
        have D2:=BelowOf.cell d2
        have CR:=fun q:BelowOf W1=>l1Reads_bel x.d q.x
        haveI:Inhabited (BelowOf W1):=⟨belOf W1⟩
        clear d0 d1 d2 kp' k0 k1 hfc c0 c1 c2
        go_wp2_with fail
        cases hrd:M.reads x.d.k
        ·have HS3:Hid (M.sFrom rows ds l=((f==-2)&&M.sFrom rows (ds.drop (n+1)) (l.drop (n+1)))):=by show _=_;rw [HS.out,M.sTell,show x.reads=false from hrd];rfl
         rw [hrd] at CR
         by_cases hf2:f=-2
         ·subst hf2
          have HT:Hid (M.sFrom rows ds l=M.sFrom rows (ds.drop (n+1)) (l.drop (n+1))):=by show _=_;rw [HS3.out];rfl
          refine wp_region_quiet_bel (by kernel_rfl) (by kernel_rfl) ?_
          iterate 12 (quiet_step (first | (go_at_call 76;exact Calls.bel_of (CR _))))
          iterate 3 (quiet_step (first | (go_at_call 76;exact Calls.bel_of (CR _))))
          iterate 6 go_big_quiet_skip
          iterate 2 (quiet_step (fail))
          iterate 13 go_big_quiet_skip
          iterate 2 (quiet_step (fail))
          refine wpQuiet_nil ?_
          rintro _ ⟨⟨wq,hwq⟩,rfl⟩
          go_wp2_with fail
          exact ⟨⟨n+1,by go_num,by omega,HT,hbG.trans (hwq.mono hbG.size)⟩,by simp [intOf];omega⟩
         ·have hf2':(f==-2)=false:=by simpa using hf2
          have hf2n:(f != -2)=true:=by simpa using hf2
          have HT:Hid (M.sForm ds l rows=false):=by show _=_;rw [HF2.out,HS3.out,hf2'];rfl
          refine wp_region_quiet_bel (by kernel_rfl) (by kernel_rfl) ?_
          iterate 12 (quiet_step (first | (go_at_call 76;exact Calls.bel_of (CR _))))
          iterate 25 go_big_quiet_skip
          iterate 1 (quiet_step (fail))
          refine wpQuiet_nil ?_
          rintro _ ⟨⟨wq,hwq⟩,rfl⟩
          go_wp2_with fail
          go_ret
          exact ⟨ret_bool HT.out.symm,hbZ.trans (hwq.mono hbZ.size)⟩
        ·have HS3:Hid (M.sFrom rows ds l=((f==-1||M.has (rows.getD x.d.p.toNat []) f)&&M.sFrom rows (ds.drop (n+1)) (l.drop (n+1)))):=by show _=_;rw [HS.out,M.sTell,show x.reads=true from hrd];rfl
         rw [hrd] at CR
         by_cases hf1:f=-1
         ·subst hf1
          have HT:Hid (M.sFrom rows ds l=M.sFrom rows (ds.drop (n+1)) (l.drop (n+1))):=by show _=_;rw [HS3.out];rfl
          refine wp_region_quiet_bel (by kernel_rfl) (by kernel_rfl) ?_
          iterate 4 (quiet_step (first | (go_at_call 76;exact Calls.bel_of (CR _))))
          iterate 6 go_big_quiet_skip
          iterate 13 (quiet_step (first | (go_at_call 76;exact Calls.bel_of (CR _))))
          iterate 13 go_big_quiet_skip
          iterate 2 (quiet_step (fail))
          refine wpQuiet_nil ?_
          rintro _ ⟨⟨wq,hwq⟩,rfl⟩
          go_wp2_with fail
          exact ⟨⟨n+1,by go_num,by omega,HT,hbG.trans (hwq.mono hbG.size)⟩,by simp [intOf];omega⟩
         ·have hf1':(f==-1)=false:=by simpa using hf1
          have hf1n:(f != -1)=true:=by simpa using hf1
          obtain ⟨hp0,hp3⟩:=HPX.out hrd
          obtain ⟨pn,hpn⟩:∃ pn:Nat,x.d.p=pn:=⟨x.d.p.toNat,by omega⟩
          have hpr:pn < rows.length:=by rw [HR.out];omega
          have HS4:Hid (M.sFrom rows ds l=(M.has rows[pn] f&&M.sFrom rows (ds.drop (n+1)) (l.drop (n+1)))):=by
           show _=_
           rw [HS3.out,hf1',hpn,Int.toNat_natCast,List.getD_eq_getElem?_getD,List.getElem?_eq_getElem hpr];rfl
          rw [hpn] at D1
          obtain ⟨a',b',o',c',hc,hrow⟩:=hr.row pn hpr
          have hle:=hrs _ (List.getElem_mem hpr)
          generalize rows[pn]=row at *
          have KC:=BelowOf.cell ((hbG.cell (p:=⟨rb,ro+pn,none⟩) (World.block_lt_of_cell? _ _ hc)).trans hc)
          have CH:=fun q:BelowOf W1=>l12Has_any a' b' o' c' row f q.x hle ((hrow.below hbG (Nat.le_refl _)).below q.h (Nat.le_refl _))
          have i5:(pn:Int) < rows.length:=by omega
          have CR:=fun q:BelowOf W1=>l1Reads_bel ⟨x.d.k,pn,x.d.v⟩ q.x
          rw [show M.reads (⟨x.d.k,pn,x.d.v⟩:M.D).k=true from hrd] at CR
          clear hpn hp0 hp3 hc
          cases hh:M.has row f
          ·have HT:Hid (M.sForm ds l rows=false):=by show _=_;rw [HF2.out,HS4.out,hh];rfl
           rw [hh] at CH
           refine wp_region_quiet_bel (by kernel_rfl) (by kernel_rfl) ?_
           iterate 4 (quiet_step (first | (go_at_call 76;exact Calls.bel_of (CR _))))
           iterate 6 go_big_quiet_skip
           iterate 28 (quiet_step (first | (go_at_call 76;exact Calls.bel_of (CR _)) | (go_at_call 85;exact Calls.bel_of_same (CH _))))
           refine wpQuiet_nil ?_
           rintro _ ⟨⟨wq,hwq⟩,rfl⟩
           go_wp2_with fail
           go_ret
           exact ⟨ret_bool HT.out.symm,hbZ.trans (hwq.mono hbZ.size)⟩
          ·have HT:Hid (M.sFrom rows ds l=M.sFrom rows (ds.drop (n+1)) (l.drop (n+1))):=by show _=_;rw [HS4.out,hh];rfl
           rw [hh] at CH
           refine wp_region_quiet_bel (by kernel_rfl) (by kernel_rfl) ?_
           iterate 4 (quiet_step (first | (go_at_call 76;exact Calls.bel_of (CR _))))
           iterate 6 go_big_quiet_skip
           iterate 28 (quiet_step (first | (go_at_call 76;exact Calls.bel_of (CR _)) | (go_at_call 85;exact Calls.bel_of_same (CH _))))
           refine wpQuiet_nil ?_
           rintro _ ⟨⟨wq,hwq⟩,rfl⟩
           go_wp2_with fail
           exact ⟨⟨n+1,by go_num,by omega,HT,hbG.trans (hwq.mono hbG.size)⟩,by simp [intOf];omega⟩
      ·go_wp2_with fail
       go_ret
       exact ⟨ret_bool (by rw [HF2.out,HA.out,List.drop_eq_nil_of_le (by omega)];rfl),hbw⟩
  ·have hq:((l.length:Int) != ds.length)=false:=by simp;omega
   have hq3:((rows.length:Int)==3)=false:=by simp;omega
   have HT:Hid (M.sForm ds l rows=false):=by show _=_;simp [M.sForm,hl3]
   clear hln hl3
   go_enter Tryz.func125,Tryz.ntmps125
   go_wp2_with fail
   go_ret
   exact ⟨ret_bool HT.out.symm,hb2⟩
 ·have hq:((l.length:Int)==ds.length)=false:=by simp;omega
  have HT:Hid (M.sForm ds l rows=false):=by show _=_;simp [M.sForm,hln]
  go_enter Tryz.func125,Tryz.ntmps125
  go_wp2_with fail
  go_ret
  exact ⟨ret_bool HT.out.symm,hb2⟩
end
end Go.Proofs.YtmhpgdliaclokaaGreat
