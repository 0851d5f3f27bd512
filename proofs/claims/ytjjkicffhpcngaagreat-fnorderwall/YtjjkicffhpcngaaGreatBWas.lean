/- spec's ways: what an event reads or writes. Of at most 1048576 threads, steps. And what goes with it: OsVal, SxVal, TnB0, TnBase, TnGo, XaXw. -/
import Derived.Deep.AppendLies
import Derived.Test.YtjjkicffhpcngaaGreatBWaq
import Derived.Test.YtjjkicffhpcngaaGreatBWar
namespace Go.Proofs.YtjjkicffhpcngaaGreat
open Go.RowKit
def M.val (ds:List M.De) (l:List Int):Nat→Int→Int
 | 0,i=>if i < 0 then 0 else -1
 | m+1,i=>if i < 0 then 0 else match ds[i.toNat]? with
  | none=>0
  | some x=>if x.reads then M.val ds l m (l.getD i.toNat 0) else if x.d.k==3 then M.val ds l m x.lr else x.d.v
theorem M.val_neg (ds:List M.De) (l:List Int) (m:Nat) {i:Int} (h:i < 0):M.val ds l m i=0:=by
 cases m<;>simp [M.val,h]
theorem M.val_at (ds:List M.De) (l:List Int) (m n:Nat) (h:n < ds.length) (h2:n < l.length):M.val ds l (m+1) n=if ds[n].reads then M.val ds l m l[n] else if ds[n].d.k==3 then M.val ds l m ds[n].lr else ds[n].d.v:=by
 rw [M.val,if_neg (by omega),Int.toNat_natCast,List.getElem?_eq_getElem h,List.getD_eq_getElem?_getD,List.getElem?_eq_getElem h2]
 rfl
theorem M.val_orig {ds:List M.De} {l:List Int} (hin:M.In ds l) (hv:∀ x∈ds,0≤x.d.v) (hll:l.length=ds.length):∀ (m n:Nat),n < ds.length→(decide (0≤M.val ds l m n)=(M.orig ds l m n).isSome):=by
 intro m
 induction m with
 | zero=>intro n _;rw [M.val,if_neg (by omega)];rfl
 | succ m ih =>
  intro n hn
  have hi:=hin n hn
  rw [M.val_at ds l m n hn (by omega),M.orig]
  have hvf:M.valFrom ds l n=if ds[n].reads then l[n] else if ds[n].d.k==3 then ds[n].lr else -1:=by
   simp [M.valFrom,hn,show n < l.length by omega]
  have step:∀ f:Int,f < ds.length→decide (0≤M.val ds l m f)=(if f < 0 then some n else M.orig ds l m f.toNat).isSome:=by
   intro f hf
   by_cases h0:f < 0
   ·rw [M.val_neg _ _ _ h0,if_pos h0];rfl
   ·rw [if_neg h0]
    obtain ⟨k,rfl⟩:∃ k:Nat,f=k:=⟨f.toNat,by omega⟩
    rw [Int.toNat_natCast]
    exact ih k (by omega)
  rw [hvf] at hi ⊢
  by_cases hr:ds[n].reads=true
  ·rw [if_pos hr] at hi ⊢
   rw [if_pos hr]
   exact step _ hi
  ·rw [if_neg hr] at hi ⊢
   rw [if_neg hr]
   by_cases h3:(ds[n].d.k==3)=true
   ·rw [if_pos h3] at hi ⊢
    rw [if_pos h3]
    exact step _ hi
   ·rw [if_neg h3,if_neg h3,if_pos (by omega)]
    simp [hv _ (List.getElem_mem hn)]
set_option maxHeartbeats 2000000 in
set_option maxRecDepth 100000 in
theorem l12Val_any (a:Option Addr) (b o c:Nat) (ll:List (List M.D)) (va:Option Addr) (g cc:Nat) (fa:Option Addr) (fb fo fc:Nat) (l:List Int) (ra:Value) (hl:ll.length≤1048576) (hls:∀ t∈ll,t.length≤1048576) (hdl:(M.deeds ll).length≤42) (HLL:Hid (l.length=(M.deeds ll).length)) (hin:M.In (M.deeds ll) l) :
  ∀ (m:Nat) (i:Int) (w:World),m≤1048576→i < (M.deeds ll).length→DoSS w a b o ll→DvS w va g (M.deeds ll)→IntS w fa fb fo l →
  Calls Tryz.prog 136 #[.agg #[.slice a ll.length c],.slice va (M.deeds ll).length cc,.agg #[.slice fa l.length fc,ra],.int .i64 i,.int .i64 m] w fun e w'=>e=.returned (.int .i64 (M.val (M.deeds ll) l m i))∧Below w.heap.size w w':=by
 intro m
 induction m with
 | zero =>
  intro i w _ hi h hd hf
  have hb2:=below2 w (.cells #[.slice a ll.length c] 25) (.cells #[.slice fa l.length fc,ra] 63)
  by_cases h0:i < 0
  ·go_enter Tryz.func136,Tryz.ntmps136
   go_wp2_with fail
   go_ret
   exact ⟨by rw [M.val_neg _ _ _ h0];rfl,hb2⟩
  ·have h0':decide (i < 0)=false:=by simpa using h0
   go_enter Tryz.func136,Tryz.ntmps136
   go_wp2_with fail
   go_ret
   exact ⟨by rw [M.val,if_neg (by omega)];rfl,hb2⟩
 | succ m ih =>
  intro i w hm hi h hd hf
  have hb2:=below2 w (.cells #[.slice a ll.length c] 25) (.cells #[.slice fa l.length fc,ra] 63)
  by_cases h0:i < 0
  ·go_enter Tryz.func136,Tryz.ntmps136
   go_wp2_with fail
   go_ret
   exact ⟨by rw [M.val_neg _ _ _ h0];rfl,hb2⟩
  ·obtain ⟨n,rfl⟩:∃ n:Nat,i=n:=⟨i.toNat,by omega⟩
   have hn:n < (M.deeds ll).length:=by omega
   have hnl:n < l.length:=by rw [HLL.out];exact hn
   have HV:Hid (M.val (M.deeds ll) l (m+1) n=if (M.deeds ll)[n].reads then M.val (M.deeds ll) l m l[n] else if (M.deeds ll)[n].d.k==3 then M.val (M.deeds ll) l m (M.deeds ll)[n].lr else (M.deeds ll)[n].d.v):=M.val_at _ _ _ _ hn hnl
   have hox:=M.ofEv _ (List.getElem_mem hn)
   have hfr:=hin n hn
   have hvf:M.valFrom (M.deeds ll) l n=if (M.deeds ll)[n].reads then l[n] else if (M.deeds ll)[n].d.k==3 then (M.deeds ll)[n].lr else -1:=by
    simp [M.valFrom,hn,hnl]
   rw [hvf] at hfr
   have HFR:Hid ((if (M.deeds ll)[n].reads then l[n] else if (M.deeds ll)[n].d.k==3 then (M.deeds ll)[n].lr else -1) < ((M.deeds ll).length:Int)):=hfr
   have HSR:Hid ((M.deeds ll)[n].reads=false→M.src (M.deeds ll) (M.deeds ll)[n].t n=(M.deeds ll)[n].lr):=M.src_ok ll n hn
   clear hvf hfr
   obtain ⟨rfl⟩:=hd.addr (by omega)
   obtain ⟨rfl⟩:=hf.addr (by omega)
   obtain ⟨f,hfe⟩:∃ f,l[n]=f:=⟨_,rfl⟩
   have hfc:=hf.row n hnl
   rw [hfe] at hfc HV HFR
   clear hfe
   obtain ⟨x,hxe⟩:∃ x,(M.deeds ll)[n]=x:=⟨_,rfl⟩
   have HXT:Hid ((M.deeds ll)[n].t=x.t):=by show _=_;rw [hxe]
   obtain ⟨c0,c1,c2⟩:=hd.at hn
   rw [hxe] at HV HFR HSR hox c0 c1 c2
   clear hxe
   have i1:(n:Int) < (M.deeds ll).length:=by omega
   have i2:(n:Int) < l.length:=by omega
   have kp:((w.alloc (.cells #[.slice a ll.length c] 25)).alloc (.cells #[.slice (some ⟨fb,fo,none⟩) l.length fc,ra] 63)).cell? ⟨w.heap.size,0,none⟩=some (.slice a ll.length c):=by simp
   have k0:((w.alloc (.cells #[.slice a ll.length c] 25)).alloc (.cells #[.slice (some ⟨fb,fo,none⟩) l.length fc,ra] 63)).cell? ⟨w.heap.size+1,0,none⟩=some (.slice (some ⟨fb,fo,none⟩) l.length fc):=by simp
   have k1:((w.alloc (.cells #[.slice a ll.length c] 25)).alloc (.cells #[.slice (some ⟨fb,fo,none⟩) l.length fc,ra] 63)).cell? ⟨w.heap.size+1,1,none⟩=some ra:=by simp
   have c0:=(hb2.cell (p:=⟨g,n * 3,none⟩) (World.block_lt_of_cell? _ _ c0)).trans c0
   have c1:=(hb2.cell (p:=⟨g,n * 3+1,none⟩) (World.block_lt_of_cell? _ _ c1)).trans c1
   have c2:=(hb2.cell (p:=⟨g,n * 3+2,none⟩) (World.block_lt_of_cell? _ _ c2)).trans c2
   have hfc:=(hb2.cell (p:=⟨fb,fo+n,none⟩) (World.block_lt_of_cell? _ _ hfc)).trans hfc
   replace h:=h.below hb2 (Nat.le_refl _)
   replace hd:=hd.bel hb2 (Nat.le_refl _)
   replace hf:=hf.below hb2 (Nat.le_refl _)
   go_enter Tryz.func136,Tryz.ntmps136
   go_wp2_with fail
   generalize (w.alloc (.cells #[.slice a ll.length c] 25)).alloc (.cells #[.slice (some ⟨fb,fo,none⟩) l.length fc,ra] 63)=wr at *
   have lg:g < wr.heap.size:=World.block_lt_of_cell? _ _ c0
   have lf:fb < wr.heap.size:=World.block_lt_of_cell? _ _ hfc
   have lw1:w.heap.size+1 < wr.heap.size:=World.block_lt_of_cell? _ _ k0
   have lw:w.heap.size < wr.heap.size:=World.block_lt_of_cell? _ _ kp
   have C:=fun W (hb:Below wr.heap.size wr W)=>l12Do_ev a b o c ll x W hox hl hls (h.below hb (Nat.le_refl _))
   have hbA:=below1 wr (.cells #[.int .i64 0,.int .i64 0,.int .i64 0] 43)
   have A0:(wr.alloc (.cells #[.int .i64 0,.int .i64 0,.int .i64 0] 43)).cell? ⟨wr.heap.size,0,none⟩=some (.int .i64 0):=by simp
   have A1:(wr.alloc (.cells #[.int .i64 0,.int .i64 0,.int .i64 0] 43)).cell? ⟨wr.heap.size,1,none⟩=some (.int .i64 0):=by simp
   have A2:(wr.alloc (.cells #[.int .i64 0,.int .i64 0,.int .i64 0] 43)).cell? ⟨wr.heap.size,2,none⟩=some (.int .i64 0):=by simp
   have Af:∀ j,(wr.alloc (.cells #[.int .i64 0,.int .i64 0,.int .i64 0] 43)).frozen? ⟨wr.heap.size,j,none⟩=false:=by intro j;simp
   have Asz:wr.heap.size < (wr.alloc (.cells #[.int .i64 0,.int .i64 0,.int .i64 0] 43)).heap.size:=by simp
   have N0:wr.heap.size≠w.heap.size:=Nat.ne_of_gt lw
   have N1:wr.heap.size≠g:=Nat.ne_of_gt lg
   have B0:=(hbA.cell (p:=⟨w.heap.size,0,none⟩) lw).trans kp
   have B1:=(hbA.cell (p:=⟨g,n * 3,none⟩) lg).trans c0
   have B2:=(hbA.cell (p:=⟨g,n * 3+1,none⟩) lg).trans c1
   have B3:=(hbA.cell (p:=⟨g,n * 3+2,none⟩) lg).trans c2
   go_region_held3 (fun w'=>w'.cell? ⟨w.heap.size,0,none⟩=some (.slice a ll.length c)∧w'.cell? ⟨g,n * 3,none⟩=some (.int .i64 x.t)∧w'.cell? ⟨g,n * 3+1,none⟩=some (.int .i64 x.i)∧w'.cell? ⟨g,n * 3+2,none⟩=some (.bool x.last)) (go_keep) (first
    | (go_at_call 135;refine (C _ ((Below.refl _ _).drew)).mono ?_;rintro e w1 ⟨rfl,hb1⟩;have Y0:=(hb1.cell (p:=⟨w.heap.size,0,none⟩) lw).trans kp;have Y1:=(hb1.cell (p:=⟨g,n * 3,none⟩) lg).trans c0;have Y2:=(hb1.cell (p:=⟨g,n * 3+1,none⟩) lg).trans c1;have Y3:=(hb1.cell (p:=⟨g,n * 3+2,none⟩) lg).trans c2)
    | (go_at_call 135;refine (C _ ((below1 _ _).drew)).mono ?_;rintro e w1 ⟨rfl,hb1⟩;have Y0:=(hb1.cell (p:=⟨w.heap.size,0,none⟩) (Nat.lt_trans lw Asz)).trans B0;have Y1:=(hb1.cell (p:=⟨g,n * 3,none⟩) (Nat.lt_trans lg Asz)).trans B1;have Y2:=(hb1.cell (p:=⟨g,n * 3+1,none⟩) (Nat.lt_trans lg Asz)).trans B2;have Y3:=(hb1.cell (p:=⟨g,n * 3+2,none⟩) (Nat.lt_trans lg Asz)).trans B3;have Z0:=(hb1.cell (p:=⟨wr.heap.size,0,none⟩) Asz).trans A0;have Z1:=(hb1.cell (p:=⟨wr.heap.size,1,none⟩) Asz).trans A1;have Z2:=(hb1.cell (p:=⟨wr.heap.size,2,none⟩) Asz).trans A2;have Zf:=fun j=>(hb1.frozen (p:=⟨wr.heap.size,j,none⟩) Asz).trans (Af j)))
   ·have F:DoIn wr _ _ x.d:=DoIn.behind (d:=x.d) ((Below.refl wr.heap.size wr).drew.trans hb1)
    generalize w1.alloc (.cells #[.int .i64 x.d.k,.int .i64 x.d.p,.int .i64 x.d.v] 43)=W1 at F ⊢
    generalize w1.heap.size=X at F ⊢
    clear hb1 A0 A1 A2 Af B0 B1 B2 B3 N0 N1 Y0 Y1 Y2 Y3 C hbA
    obtain ⟨hbF,hgF,d0,d1,d2⟩:=F
    have lX:X < W1.heap.size:=World.block_lt_of_cell? _ _ d0
    have hbG:=hbF.trans ((below1 W1 (.cells #[.int .i64 x.d.k,.int .i64 x.d.p,.int .i64 x.d.v] 43)).mono hbF.size)
    have D0:=((below1 W1 (.cells #[.int .i64 x.d.k,.int .i64 x.d.p,.int .i64 x.d.v] 43)).cell (p:=⟨X,0,none⟩) lX).trans d0
    have D2:=((below1 W1 (.cells #[.int .i64 x.d.k,.int .i64 x.d.p,.int .i64 x.d.v] 43)).cell (p:=⟨X,2,none⟩) lX).trans d2
    have hbZ:=hb2.trans (hbG.mono hb2.size)
    cases hr:M.reads x.d.k
    ·have HV2:Hid (M.val (M.deeds ll) l (m+1) n=if x.d.k==3 then M.val (M.deeds ll) l m x.lr else x.d.v):=by show _=_;rw [HV.out,show x.reads=false from hr];rfl
     cases h3:(x.d.k==3)
     ·go_wp2_with (go_at_call 56;refine (l1Reads_any x.d _).mono ?_;rw [hr];rintro e w' ⟨rfl,rfl⟩)
      go_ret
      exact ⟨by rw [HV2.out,h3];rfl,hbZ⟩
     ·have HL:Hid (x.lr < ((M.deeds ll).length:Int)):=by
       have:=HFR.out
       rw [show x.reads=false from hr,h3] at this
       exact this
      have HS:Hid (M.src (M.deeds ll) x.t n=x.lr):=HSR.out hr
      go_wp2_with (go_at_call 56;refine (l1Reads_any x.d _).mono ?_;rw [hr];rintro e w' ⟨rfl,rfl⟩)
      replace h:=h.below hbG (Nat.le_refl _)
      replace hd:=hd.bel hbG (Nat.le_refl _)
      replace hf:=hf.below hbG (Nat.le_refl _)
      replace kp:=(hbG.cell (p:=⟨w.heap.size,0,none⟩) lw).trans kp
      replace k0:=(hbG.cell (p:=⟨w.heap.size+1,0,none⟩) lw1).trans k0
      replace k1:=(hbG.cell (p:=⟨w.heap.size+1,1,none⟩) lw1).trans k1
      generalize W1.alloc (.cells #[.int .i64 x.d.k,.int .i64 x.d.p,.int .i64 x.d.v] 43)=W2 at *
      have KP:=BelowOf.cell kp
      have K0:=BelowOf.cell k0
      have K1:=BelowOf.cell k1
      have C1:=fun q:BelowOf W2=>l12Source_any a b o c ll (some ⟨g,0,none⟩) g cc n x.t q.x hn HXT.out hl hls hdl (h.below q.h (Nat.le_refl _)) (hd.bel q.h (Nat.le_refl _))
      have C2:=fun q:BelowOf W2=>ih x.lr q.x (by omega) HL.out (h.below q.h (Nat.le_refl _)) (hd.bel q.h (Nat.le_refl _)) (hf.below q.h (Nat.le_refl _))
      rw [HS.out] at C1
      haveI:Inhabited (BelowOf W2):=⟨belOf W2⟩
      clear ih
      have em:IntKind.i64.wrap (m:Int)=m:=by rw [IntKind.wrap_i64];omega
      refine wp_region_quiet_bel (by kernel_rfl) (by kernel_rfl) ?_
      repeat (quiet_step (first | (go_at_call 172;exact Calls.bel_of (C1 _)) | (go_at_call 136;exact Calls.bel_of (C2 _))))
      refine wpQuiet_nil ?_
      rintro _ ⟨⟨wq,hwq⟩,rfl⟩
      go_wp2_with fail
      go_ret
      exact ⟨by rw [HV2.out,h3];rfl,hbZ.trans (hwq.mono hbZ.size)⟩
    ·have HV2:Hid (M.val (M.deeds ll) l (m+1) n=M.val (M.deeds ll) l m f):=by show _=_;rw [HV.out,show x.reads=true from hr];rfl
     have HL:Hid (f < ((M.deeds ll).length:Int)):=by
      have:=HFR.out
      rw [show x.reads=true from hr] at this
      exact this
     go_wp2_with (go_at_call 56;refine (l1Reads_any x.d _).mono ?_;rw [hr];rintro e w' ⟨rfl,rfl⟩)
     replace h:=h.below hbG (Nat.le_refl _)
     replace hd:=hd.bel hbG (Nat.le_refl _)
     replace hf:=hf.below hbG (Nat.le_refl _)
     replace kp:=(hbG.cell (p:=⟨w.heap.size,0,none⟩) lw).trans kp
     replace k0:=(hbG.cell (p:=⟨w.heap.size+1,0,none⟩) lw1).trans k0
     replace k1:=(hbG.cell (p:=⟨w.heap.size+1,1,none⟩) lw1).trans k1
     replace hfc:=(hbG.cell (p:=⟨fb,fo+n,none⟩) lf).trans hfc
     generalize W1.alloc (.cells #[.int .i64 x.d.k,.int .i64 x.d.p,.int .i64 x.d.v] 43)=W2 at *
     have KP:=BelowOf.cell kp
     have K0:=BelowOf.cell k0
     have K1:=BelowOf.cell k1
     have KF:=BelowOf.cell hfc
     have C2:=fun q:BelowOf W2=>ih f q.x (by omega) HL.out (h.below q.h (Nat.le_refl _)) (hd.bel q.h (Nat.le_refl _)) (hf.below q.h (Nat.le_refl _))
     haveI:Inhabited (BelowOf W2):=⟨belOf W2⟩
     clear ih
     have em:IntKind.i64.wrap (m:Int)=m:=by rw [IntKind.wrap_i64];omega
     refine wp_region_quiet_bel (by kernel_rfl) (by kernel_rfl) ?_
     repeat (quiet_step (first | (go_at_call 136;exact Calls.bel_of (C2 _))))
     refine wpQuiet_nil ?_
     rintro _ ⟨⟨wq,hwq⟩,rfl⟩
     go_wp2_with fail
     go_ret
     exact ⟨by rw [HV2.out];rfl,hbZ.trans (hwq.mono hbZ.size)⟩
   ·have F:DoIn wr _ _ x.d:=DoIn.ahead (d:=x.d) (hbA.drew.trans (hb1.mono (Nat.le_of_lt Asz))) Z0 Z1 Z2
    generalize ((w1.setCell ⟨wr.heap.size,0,none⟩ (.int .i64 x.d.k)).setCell ⟨wr.heap.size,1,none⟩ (.int .i64 x.d.p)).setCell ⟨wr.heap.size,2,none⟩ (.int .i64 x.d.v)=W1 at F ⊢
    obtain ⟨X,hX,F⟩:∃ X,X=wr.heap.size∧DoIn wr W1 X x.d:=⟨_,rfl,F⟩
    rw [← hX]
    clear hX
    clear hb1 A0 A1 A2 Af B0 B1 B2 B3 N0 N1 Y0 Y1 Y2 Y3 C hbA
    obtain ⟨hbF,hgF,d0,d1,d2⟩:=F
    have lX:X < W1.heap.size:=World.block_lt_of_cell? _ _ d0
    have hbG:=hbF.trans ((below1 W1 (.cells #[.int .i64 x.d.k,.int .i64 x.d.p,.int .i64 x.d.v] 43)).mono hbF.size)
    have D0:=((below1 W1 (.cells #[.int .i64 x.d.k,.int .i64 x.d.p,.int .i64 x.d.v] 43)).cell (p:=⟨X,0,none⟩) lX).trans d0
    have D2:=((below1 W1 (.cells #[.int .i64 x.d.k,.int .i64 x.d.p,.int .i64 x.d.v] 43)).cell (p:=⟨X,2,none⟩) lX).trans d2
    have hbZ:=hb2.trans (hbG.mono hb2.size)
    cases hr:M.reads x.d.k
    ·have HV2:Hid (M.val (M.deeds ll) l (m+1) n=if x.d.k==3 then M.val (M.deeds ll) l m x.lr else x.d.v):=by show _=_;rw [HV.out,show x.reads=false from hr];rfl
     cases h3:(x.d.k==3)
     ·go_wp2_with (go_at_call 56;refine (l1Reads_any x.d _).mono ?_;rw [hr];rintro e w' ⟨rfl,rfl⟩)
      go_ret
      exact ⟨by rw [HV2.out,h3];rfl,hbZ⟩
     ·have HL:Hid (x.lr < ((M.deeds ll).length:Int)):=by
       have:=HFR.out
       rw [show x.reads=false from hr,h3] at this
       exact this
      have HS:Hid (M.src (M.deeds ll) x.t n=x.lr):=HSR.out hr
      go_wp2_with (go_at_call 56;refine (l1Reads_any x.d _).mono ?_;rw [hr];rintro e w' ⟨rfl,rfl⟩)
      replace h:=h.below hbG (Nat.le_refl _)
      replace hd:=hd.bel hbG (Nat.le_refl _)
      replace hf:=hf.below hbG (Nat.le_refl _)
      replace kp:=(hbG.cell (p:=⟨w.heap.size,0,none⟩) lw).trans kp
      replace k0:=(hbG.cell (p:=⟨w.heap.size+1,0,none⟩) lw1).trans k0
      replace k1:=(hbG.cell (p:=⟨w.heap.size+1,1,none⟩) lw1).trans k1
      generalize W1.alloc (.cells #[.int .i64 x.d.k,.int .i64 x.d.p,.int .i64 x.d.v] 43)=W2 at *
      have KP:=BelowOf.cell kp
      have K0:=BelowOf.cell k0
      have K1:=BelowOf.cell k1
      have C1:=fun q:BelowOf W2=>l12Source_any a b o c ll (some ⟨g,0,none⟩) g cc n x.t q.x hn HXT.out hl hls hdl (h.below q.h (Nat.le_refl _)) (hd.bel q.h (Nat.le_refl _))
      have C2:=fun q:BelowOf W2=>ih x.lr q.x (by omega) HL.out (h.below q.h (Nat.le_refl _)) (hd.bel q.h (Nat.le_refl _)) (hf.below q.h (Nat.le_refl _))
      rw [HS.out] at C1
      haveI:Inhabited (BelowOf W2):=⟨belOf W2⟩
      clear ih
      have em:IntKind.i64.wrap (m:Int)=m:=by rw [IntKind.wrap_i64];omega
      refine wp_region_quiet_bel (by kernel_rfl) (by kernel_rfl) ?_
      repeat (quiet_step (first | (go_at_call 172;exact Calls.bel_of (C1 _)) | (go_at_call 136;exact Calls.bel_of (C2 _))))
      refine wpQuiet_nil ?_
      rintro _ ⟨⟨wq,hwq⟩,rfl⟩
      go_wp2_with fail
      go_ret
      exact ⟨by rw [HV2.out,h3];rfl,hbZ.trans (hwq.mono hbZ.size)⟩
    ·have HV2:Hid (M.val (M.deeds ll) l (m+1) n=M.val (M.deeds ll) l m f):=by show _=_;rw [HV.out,show x.reads=true from hr];rfl
     have HL:Hid (f < ((M.deeds ll).length:Int)):=by
      have:=HFR.out
      rw [show x.reads=true from hr] at this
      exact this
     go_wp2_with (go_at_call 56;refine (l1Reads_any x.d _).mono ?_;rw [hr];rintro e w' ⟨rfl,rfl⟩)
     replace h:=h.below hbG (Nat.le_refl _)
     replace hd:=hd.bel hbG (Nat.le_refl _)
     replace hf:=hf.below hbG (Nat.le_refl _)
     replace kp:=(hbG.cell (p:=⟨w.heap.size,0,none⟩) lw).trans kp
     replace k0:=(hbG.cell (p:=⟨w.heap.size+1,0,none⟩) lw1).trans k0
     replace k1:=(hbG.cell (p:=⟨w.heap.size+1,1,none⟩) lw1).trans k1
     replace hfc:=(hbG.cell (p:=⟨fb,fo+n,none⟩) lf).trans hfc
     generalize W1.alloc (.cells #[.int .i64 x.d.k,.int .i64 x.d.p,.int .i64 x.d.v] 43)=W2 at *
     have KP:=BelowOf.cell kp
     have K0:=BelowOf.cell k0
     have K1:=BelowOf.cell k1
     have KF:=BelowOf.cell hfc
     have C2:=fun q:BelowOf W2=>ih f q.x (by omega) HL.out (h.below q.h (Nat.le_refl _)) (hd.bel q.h (Nat.le_refl _)) (hf.below q.h (Nat.le_refl _))
     haveI:Inhabited (BelowOf W2):=⟨belOf W2⟩
     clear ih
     have em:IntKind.i64.wrap (m:Int)=m:=by rw [IntKind.wrap_i64];omega
     refine wp_region_quiet_bel (by kernel_rfl) (by kernel_rfl) ?_
     repeat (quiet_step (first | (go_at_call 136;exact Calls.bel_of (C2 _))))
     refine wpQuiet_nil ?_
     rintro _ ⟨⟨wq,hwq⟩,rfl⟩
     go_wp2_with fail
     go_ret
     exact ⟨by rw [HV2.out];rfl,hbZ.trans (hwq.mono hbZ.size)⟩
end Go.Proofs.YtjjkicffhpcngaaGreat
namespace Go.Proofs.YtjjkicffhpcngaaGreat
open Go.RowKit
theorem M.orig_lt {ds:List M.De} {l:List Int} (hin:M.In ds l):∀ (m n q:Nat),n < ds.length→M.orig ds l m n=some q→q < ds.length:=by
 intro m
 induction m with
 | zero=>intro n q _ h;simp [M.orig] at h
 | succ m ih =>
  intro n q hn h
  rw [M.orig] at h
  split at h
  ·obtain rfl:=Option.some.inj h;exact hn
  ·have:=hin n hn
   exact ih _ q (by omega) h
set_option maxHeartbeats 400000 in
theorem value_any (va:Option Addr) (g c:Nat) (ds:List M.De) (a:Option Addr) (b o c2:Nat) (l:List Int) (n q:Nat) (w:World) (hn:n < ds.length) (HLL:Hid (l.length=ds.length)) (hin:M.In ds l) (ho:M.orig ds l ds.length n=some q) (hq:q < ds.length) (hl:ds.length≤1048576) (h:DeS w va g ds) (h2:IntS w a b o l) :
  Calls Tryz.prog 81 #[.slice va ds.length c,.slice a l.length c2,.int .i64 n] w fun e w'=>e=.returned (.int .i64 ds[q].d.v)∧Below w.heap.size w w':=by
 have C:=origin_any va g c ds a b o c2 l n w hn HLL.out hin hl h h2
 rw [ho] at C
 change Calls _ _ _ _ fun e w'=>e=.returned (.tuple #[.int .i64 q,.bool true])∧_ at C
 obtain ⟨rfl⟩:=h.addr (by omega)
 have i1:(q:Int) < ds.length:=by omega
 go_enter Tryz.func81,Tryz.ntmps81
 go_wp2_with (go_at_call 127;refine C.mono ?_;rintro e w1 ⟨rfl,hb1⟩;obtain ⟨_,_,_,_,_,c5,_⟩:=DeS.at (h.bel hb1 (Nat.le_refl _)) hq)
 go_ret
 exact ⟨rfl,hb1⟩
theorem M.val_of_orig {ds:List M.De} {l:List Int} (hin:M.In ds l) (hll:l.length=ds.length) (hz:∀ x∈ds,x.reads=true∨x.d.k=3→x.d.v=0):∀ (m n q:Nat),n < ds.length→(hq:q < ds.length)→M.orig ds l m n=some q→M.val ds l m n=ds[q].d.v:=by
 intro m
 induction m with
 | zero=>intro n q _ _ h;simp [M.orig] at h
 | succ m ih =>
  intro n q hn hq h
  have hi:=hin n hn
  have hvf:M.valFrom ds l n=if ds[n].reads then l[n] else if ds[n].d.k==3 then ds[n].lr else -1:=by
   simp [M.valFrom,hn,show n < l.length by omega]
  rw [M.val_at ds l m n hn (by omega)]
  rw [M.orig] at h
  have step:∀ f:Int,M.valFrom ds l n=f→(ds[n].reads=true∨ds[n].d.k=3)→M.val ds l m f=ds[q].d.v:=by
   intro f hf hk
   rw [hf] at h hi
   by_cases h0:f < 0
   ·rw [if_pos h0] at h
    obtain rfl:=Option.some.inj h
    rw [M.val_neg _ _ _ h0,hz _ (List.getElem_mem hn) hk]
   ·rw [if_neg h0] at h
    obtain ⟨k,rfl⟩:∃ k:Nat,f=k:=⟨f.toNat,by omega⟩
    rw [Int.toNat_natCast] at h
    exact ih k q (by omega) hq h
  by_cases hr:ds[n].reads=true
  ·rw [if_pos hr]
   rw [if_pos hr] at hvf
   exact step _ hvf (Or.inl hr)
  ·rw [if_neg hr]
   rw [if_neg hr] at hvf
   by_cases h3:(ds[n].d.k==3)=true
   ·rw [if_pos h3]
    rw [if_pos h3] at hvf
    exact step _ hvf (Or.inr (by simpa using h3))
   ·rw [if_neg h3]
    rw [if_neg h3] at hvf
    rw [hvf,if_pos (by omega)] at h
    obtain rfl:=Option.some.inj h
    rfl
end Go.Proofs.YtjjkicffhpcngaaGreat
namespace Go.Proofs.YtjjkicffhpcngaaGreat
open Go.RowKit
theorem own_more {w:World} {B:Nat} {v:Value} {l m:List M.D} {d:M.D} (hm:m=l++[d]) (h:w.ownsRow B 43 3 v (l.length+1) (flat l++[.int .i64 d.k,.int .i64 d.p,.int .i64 d.v])):w.ownsRow B 43 3 v m.length (flat m):=by
 subst hm;rw [flat_append,List.length_append];exact h
theorem cells_new3 (w:World) (x y z:Value) (t:TypeId) (N:Nat) (hN:N=w.heap.size):∀ (j:Nat) (u:Value),[x,y,z][j]?=some u→(w.alloc (.cells #[x,y,z] t)).cell? ((⟨N,0,none⟩:Addr).add j)=some u:=by
 subst hN
 intro j u hj
 match j,hj with
 | 0,hj=>simp at hj;subst hj;simp [Addr.add]
 | 1,hj=>simp at hj;subst hj;simp [Addr.add]
 | 2,hj=>simp at hj;subst hj;simp [Addr.add]
theorem one3 (x y z:Int):∀ u∈[Value.int .i64 x,Value.int .i64 y,Value.int .i64 z],u.oneCell'=true:=by
 intro u hu;simp at hu;rcases hu with rfl | rfl | rfl<;>rfl
theorem nums_snoc (l:List Int) (x:Int):nums (l++[x])=nums l++[.int .i64 x]:=by simp [nums]
theorem cells_new1 (w:World) (x:Value) (t:TypeId) (N:Nat) (hN:N=w.heap.size):∀ (j:Nat) (u:Value),[x][j]?=some u→(w.alloc (.cells #[x] t)).cell? ((⟨N,0,none⟩:Addr).add j)=some u:=by
 subst hN
 intro j u hj
 match j,hj with
 | 0,hj=>simp at hj;subst hj;simp [Addr.add]
theorem one1 (x:Int):∀ u∈[Value.int .i64 x],u.oneCell'=true:=by intro u hu;simp at hu;subst hu;rfl
end Go.Proofs.YtjjkicffhpcngaaGreat
namespace Go.Proofs.YtjjkicffhpcngaaGreat
open Go.RowKit
theorem Slot1.bl' {w w':World} {b:Nat} {x:Value} (h:Slot1 w b x) (hb:Below w.heap.size w w'):Slot1 w' b x :=
 ⟨(hb.cell (p:=⟨b,0,none⟩) h.lt).trans h.c,(hb.frozen (p:=⟨b,0,none⟩) h.lt).trans h.fz⟩
end Go.Proofs.YtjjkicffhpcngaaGreat
namespace Go.Proofs.YtjjkicffhpcngaaGreat
open Go.RowKit
theorem step_goV {P:Program} {ops:Array Oper} {o:Oper} {a:Act} {w:World} {K:Act→World→Prop} {Q:Exit→Act→World→Prop} {E:Prop}
  (hw:Region.wanted o (yielded ops a.tmps)=true) (d:Option Tmp) (hd:o.dst=d) (f:FuncId) (os:Array Operand) (ts:Array TypeId) (hop:o.op=Op.call { callee:=Callee.value (Operand.func f),args:=os,argTypes:=ts })
  (vals:Array Value) (hv:os.map a.eval=vals) (he:∀ args w,(callFunc f args).run P w=.ok (.enter f args) w) {R:Ending→World→Prop} (hc:Calls P f vals w R)
  (hK:∀ e w',R e w'→∃ v,e=.returned v∧K (a.put d v) w') :
  if Region.wanted o (yielded ops a.tmps)=true then Oper.wp P o a w K Q else E:=by
 subst hd
 rw [if_pos hw]
 subst hv
 have hr:(execOp a.eval o).run P w=.ok (.enter f (os.map a.eval)) w:=by
  simp [execOp,hop,resolve,invoke,Act.eval,Deferred.ofValue,he]
 unfold Oper.wp
 rw [hr,Oper.upon_enter]
 refine hc.mono fun e w' h=>?_
 obtain ⟨v,rfl,hk⟩:=hK e w' h
 exact hk
theorem run_append_nilT {P:Program} (w:World) (t ty e:TypeId) (i:TypeInfo) (ht:P.underlying t=some (.slice e)) (hi:P.info? e=some i) (a:Option Addr) (c:Nat) :
  (Builtin.append_ #[t,t] ty #[.slice none 0 0,.slice a 0 c]).run P w=.ok (.slice none 0 0) w:=by
 cases a
 ·simp [Builtin.append_,run_underlying ht,sizeOf,typeInfo,hi,Builtin.lenOf,Builtin.firstCells]
 ·simp [Builtin.append_,run_underlying ht,sizeOf,typeInfo,hi,Builtin.lenOf,Builtin.firstCells,loadCells,loadCellsFrom]
theorem wpList_append_nilT {P:Program} {w:World} {ops:Array Oper} {rest:List Oper} {o:Oper} {a:Act} {Q:Exit→Act→World→Prop} (hgd:o.guard=none) (s x:Operand) (t:TypeId)
  (ho:o.op=.call { callee:=.builtin .append,args:=#[s,x],argTypes:=#[t,t] }) (e:TypeId) (i:TypeInfo) (ht:P.underlying t=some (.slice e)) (hi:P.info? e=some i)
  (hs:a.eval s=.slice none 0 0) (b:Option Addr) (c:Nat) (hx:a.eval x=.slice b 0 c)
  (h:wpList P ops Q rest (a.put o.dst (.slice none 0 0)) w):wpList P ops Q (o::rest) a w:=by
 refine wpList_plain hgd fun K hK=>?_
 have hrun:=run_append_nilT (P:=P) w t o.type e i ht hi b c
 unfold Oper.wp
 simp [execOp,ho,resolve,invoke,builtin,hs,hx,hrun,Result.andThen]
 exact hK _ _ h
theorem own_slx {w:World} {B:Nat} {e:TypeId} {size:Nat} {v:Value} {n:Nat} {xs:List Value} (h:w.ownsRow B e size v n xs):∃ a c,v=.slice a n c:=by
 rcases h.2 with ⟨hv,h0⟩ | ⟨g,cap,cur,hv,_⟩
 ·exact ⟨none,0,by rw [hv,h0]⟩
 ·exact ⟨_,cap,hv⟩
end Go.Proofs.YtjjkicffhpcngaaGreat
namespace Go.Proofs.YtjjkicffhpcngaaGreat
open Go.RowKit
def Off1 (v:Value) (row:Option Nat):Prop:=∀ k,v.ownBlock=some k→row≠some k
theorem Off1.kept {w w':World} {base n:Nat} {e:TypeId} {size:Nat} {v:Value} {xs:List Value} {row:Option Nat} (h:w.ownsRow base e size v n xs) (hg:w.grownBy w' row) (ho:Off1 v row):w'.ownsRow base e size v n xs :=
 h.kept hg (by
  cases hv:v.ownBlock with
  | none=>exact .inl rfl
  | some k=>exact .inr (fun e=>ho k hv e.symm))
theorem Off1.new {w:World} {base n:Nat} {e:TypeId} {size:Nat} {v:Value} {xs:List Value} (h:w.ownsRow base e size v n xs) {g:Nat} (hg:w.heap.size≤g):Off1 v (some g):=fun k hk e=>by
 have h1:=(h.lt k hk).2
 have h2:g=k:=Option.some.inj e
 omega
theorem Off1.old {w:World} {v:Value} {row:Option Nat} (hv:∀ k,v.ownBlock=some k→w.heap.size≤k) (hr:∀ k,row=some k→k < w.heap.size):Off1 v row:=fun k hk e=>by
 have h1:=hv k hk
 have h2:=hr k e
 omega
structure Xw (w:World) (base:Nat) (fv ov:Value) (l:List Int) (cs:List Value) (rows:List (List Int)):Prop where
 from_:w.ownsRow base 3 1 fv l.length (nums l)
 ord:w.ownsRow base 47 1 ov rows.length cs
 row:∀ i (h:i < rows.length),∃ u,cs[i]?=some u∧w.ownsRow base 3 1 u rows[i].length (nums rows[i])∧Off1 u ov.ownBlock∧Off1 u fv.ownBlock
 apart:Off1 fv ov.ownBlock
 each:∀ (i j:Nat) (u u':Value),i≠j→cs[i]?=some u→cs[j]?=some u'→Off1 u u'.ownBlock
structure Xoff (fv ov:Value) (cs:List Value) (row:Option Nat):Prop where
 from_:Off1 fv row
 ord:Off1 ov row
 row:∀ u∈cs,Off1 u row
theorem Xw.grown {w w':World} {base:Nat} {fv ov:Value} {l:List Int} {cs:List Value} {rows:List (List Int)} {row:Option Nat} (h:Xw w base fv ov l cs rows) (hg:w.grownBy w' row) (ho:Xoff fv ov cs row):Xw w' base fv ov l cs rows :=
 ⟨ho.from_.kept h.from_ hg,ho.ord.kept h.ord hg,fun i hi=>by
  obtain ⟨u,e1,e2,e3,e4⟩:=h.row i hi
  exact ⟨u,e1,(ho.row u (List.mem_of_getElem? e1)).kept e2 hg,e3,e4⟩,h.apart,h.each⟩
theorem Xoff.none (fv ov:Value) (cs:List Value):Xoff fv ov cs none:=⟨fun _ _ e=>(by cases e),fun _ _ e=>(by cases e),fun _ _ _ _ e=>(by cases e)⟩
theorem Xw.below {w w':World} {base:Nat} {fv ov:Value} {l:List Int} {cs:List Value} {rows:List (List Int)} (h:Xw w base fv ov l cs rows) (hb:Below w.heap.size w w'):Xw w' base fv ov l cs rows:=h.grown (grown_of hb none) (Xoff.none _ _ _)
theorem Xw.new {w:World} {base:Nat} {fv ov:Value} {l:List Int} {cs:List Value} {rows:List (List Int)} (h:Xw w base fv ov l cs rows) {g:Nat} (hg:w.heap.size≤g):Xoff fv ov cs (some g) :=
 ⟨Off1.new h.from_ hg,Off1.new h.ord hg,fun u hu=>by
  obtain ⟨i,hi,e⟩:=List.mem_iff_getElem.1 hu
  have hl:cs.length=rows.length:=by have:=h.ord.1;omega
  obtain ⟨u',e1,e2,_⟩:=h.row i (by omega)
  rw [List.getElem?_eq_getElem hi,e] at e1
  rw [Option.some.inj e1]
  exact Off1.new e2 hg⟩
theorem Xw.start {w:World} {base:Nat} {fv:Value} {l:List Int} (h:w.ownsRow base 3 1 fv l.length (nums l)):Xw w base fv (.slice none 0 0) l [] [] :=
 ⟨h,World.ownsRow_nil _ _ _ _,fun _ hi=>absurd hi (Nat.not_lt_zero _),fun _ _ e=>(by cases e),fun _ _ _ _ _ e=>(by simp at e)⟩
theorem Xw.snoc {w W w':World} {base:Nat} {fv ov u:Value} {l r:List Int} {cs:List Value} {rows:List (List Int)} {g cap:Nat} (h:Xw w base fv ov l cs rows) (hb:Below w.heap.size w W) (hu:W.ownsRow base 3 1 u r.length (nums r)) (hnew:∀ k,u.ownBlock=some k→w.heap.size≤k)
  (ho:w'.ownsRow base 47 1 (.slice (some ⟨g,0,none⟩) (rows.length+1) cap) (rows.length+1) (cs++[u])) (hg:W.grownBy w' ov.ownBlock) (hat:ov.ownBlock=some g∨g=W.heap.size):Xw w' base fv (.slice (some ⟨g,0,none⟩) (rows.length+1) cap) l (cs++[u]) (rows++[r]):=by
 have hl:cs.length=rows.length:=by have:=h.ord.1;omega
 have hW:=h.below hb
 have hol:∀ k,ov.ownBlock=some k→k < w.heap.size:=fun k hk=>(h.ord.lt k hk).2
 have huo:Off1 u ov.ownBlock:=Off1.old hnew hol
 have huf:Off1 u fv.ownBlock:=Off1.old hnew (fun k hk=>(h.from_.lt k hk).2)
 have turn:∀ {v:Value} {e:TypeId} {n:Nat} {xs:List Value},W.ownsRow base e 1 v n xs→Off1 v ov.ownBlock→Off1 v (some g):=fun hv ho=>by
  rcases hat with e | e
  ·rw [← e];exact ho
  ·exact Off1.new hv (by omega)
 have hold:∀ (i:Nat) (u':Value),cs[i]?=some u'→∀ k,u'.ownBlock=some k→k < w.heap.size:=fun i u' hi k hk=>by
  have hil:=(List.getElem?_eq_some_iff.1 hi).1
  obtain ⟨u2,e1,e2,_⟩:=h.row i (by omega)
  rw [hi] at e1
  rw [← Option.some.inj e1] at e2
  exact (e2.lt k hk).2
 refine ⟨h.apart.kept hW.from_ hg,by rw [List.length_append];exact ho,fun i hi=>?_,turn hW.from_ h.apart,fun i j u1 u2 hij h1 h2=>?_⟩
 ·rcases Nat.lt_or_ge i rows.length with h1 | h1
  ·obtain ⟨u',e1,e2,e3,e4⟩:=hW.row i h1
   rw [List.getElem_append_left h1]
   exact ⟨u',by rw [List.getElem?_append_left (by omega)];exact e1,e3.kept e2 hg,turn e2 e3,e4⟩
  ·have hie:i=rows.length:=by simp at hi;omega
   subst hie
   have e0:(rows++[r])[rows.length]=r:=by simp
   rw [e0]
   exact ⟨u,by rw [List.getElem?_append_right (by omega),hl];simp,huo.kept hu hg,turn hu huo,huf⟩
 ·have c1:=(List.getElem?_eq_some_iff.1 h1).1
  have c2:=(List.getElem?_eq_some_iff.1 h2).1
  simp only [List.length_append,List.length_singleton] at c1 c2
  rcases Nat.lt_or_ge i cs.length with i1 | i1
  ·rw [List.getElem?_append_left i1] at h1
   rcases Nat.lt_or_ge j cs.length with j1 | j1
   ·rw [List.getElem?_append_left j1] at h2
    exact h.each i j u1 u2 hij h1 h2
   ·have hj:j=cs.length:=by omega
    subst hj
    have e2:u=u2:=by simpa using h2
    subst e2
    intro k hk e
    have a1:=hold i u1 h1 k hk
    have a2:=hnew k e
    omega
  ·have hi:i=cs.length:=by omega
   subst hi
   have e1:u=u1:=by simpa using h1
   subst e1
   rw [List.getElem?_append_left (by omega)] at h2
   exact Off1.old hnew (hold j u2 h2)
end Go.Proofs.YtjjkicffhpcngaaGreat
