/- impl's ways: what an event reads or writes. Of at most 1048576 events. And what goes with it: SxVal, DrAn, DrOp, DrKi, DrOa, BxP, WjMath. -/
import Derived.Below
import Derived.BigQuiet
import Derived.Deep.AppendLies
import Derived.Deep.CutRange
import Derived.Deep.MidRow
import Derived.Deep.Quiet
import Derived.Deep.QuietTactic
import Derived.Deep.RegionHeld3
import Derived.Deep.RegionLaw
import Derived.Deep.RegionWith
import Derived.Deep.Slices
import Derived.Deep.WholeRow
import Derived.Handy
import Derived.Laws.AppendOwn
import Derived.Laws.AppendOwnNone
import Derived.Laws.EntriesVeiled
import Derived.Laws.IdiomCopy
import Derived.Laws.OwnMore
import Derived.LoopIn
import Derived.LoopN
import Derived.LoopNIn
import Derived.Maps.OwnIn
import Derived.OwnWalkIn
import Derived.RangeFuncBound
import Derived.RangeFuncLeaves
import Derived.RangeFuncNested
import Derived.Shelf.Abstract
import Derived.Shelf.SlSortCmp.NoneTotal
import Derived.Sort.Grow
import Derived.TacticsInMore
import Derived.WalkKit
import Derived.WalkLawsBesides
import Derived.WalkSpells
import Derived.Deep.OwnRows
import Derived.Test.YtjjkicffhpcngaaGreatRows
import Derived.Test.YtjjkicffhpcngaaGreatBVbc
import Derived.Test.YtjjkicffhpcngaaGreatBVbd
import Derived.Test.YtjjkicffhpcngaaGreatBVbe
namespace Go.Proofs.YtjjkicffhpcngaaGreat
open Go.RowKit
theorem M.orig_lt {ds:List M.De} {l:List Int} (hin:M.In ds l):∀ (m n q:Nat),n < ds.length→M.orig ds l m n=some q→q < ds.length:=by
 intro m
 induction m with
 | zero=>intro n q _ h;simp [M.orig] at h
 | succ m ih =>
  intro n q hn h
  rw [M.orig] at h
  split at h
  ·obtain rfl:=Option.some.inj h;exact hn
  ·have:=hin n hn
   exact ih _ q (by omega) h
set_option maxHeartbeats 400000 in
theorem value_any (va:Option Addr) (g c:Nat) (ds:List M.De) (a:Option Addr) (b o c2:Nat) (l:List Int) (n q:Nat) (w:World) (hn:n < ds.length) (HLL:Hid (l.length=ds.length)) (hin:M.In ds l) (ho:M.orig ds l ds.length n=some q) (hq:q < ds.length) (hl:ds.length≤1048576) (h:DeS w va g ds) (h2:IntS w a b o l) :
  Calls Tryz.prog 81 #[.slice va ds.length c,.slice a l.length c2,.int .i64 n] w fun e w'=>e=.returned (.int .i64 ds[q].d.v)∧Below w.heap.size w w':=by
 have C:=origin_any va g c ds a b o c2 l n w hn HLL.out hin hl h h2
 rw [ho] at C
 change Calls _ _ _ _ fun e w'=>e=.returned (.tuple #[.int .i64 q,.bool true])∧_ at C
 obtain ⟨rfl⟩:=h.addr (by omega)
 have i1:(q:Int) < ds.length:=by omega
 go_enter Tryz.func81,Tryz.ntmps81
 go_wp2_with (go_at_call 127;refine C.mono ?_;rintro e w1 ⟨rfl,hb1⟩;obtain ⟨_,_,_,_,_,c5,_⟩:=DeS.at (h.bel hb1 (Nat.le_refl _)) hq)
 go_ret
 exact ⟨rfl,hb1⟩
theorem M.val_of_orig {ds:List M.De} {l:List Int} (hin:M.In ds l) (hll:l.length=ds.length) (hz:∀ x∈ds,x.reads=true∨x.d.k=3→x.d.v=0):∀ (m n q:Nat),n < ds.length→(hq:q < ds.length)→M.orig ds l m n=some q→M.val ds l m n=ds[q].d.v:=by
 intro m
 induction m with
 | zero=>intro n q _ _ h;simp [M.orig] at h
 | succ m ih =>
  intro n q hn hq h
  have hi:=hin n hn
  have hvf:M.valFrom ds l n=if ds[n].reads then l[n] else if ds[n].d.k==3 then ds[n].lr else -1:=by
   simp [M.valFrom,hn,show n < l.length by omega]
  rw [M.val_at ds l m n hn (by omega)]
  rw [M.orig] at h
  have step:∀ f:Int,M.valFrom ds l n=f→(ds[n].reads=true∨ds[n].d.k=3)→M.val ds l m f=ds[q].d.v:=by
   intro f hf hk
   rw [hf] at h hi
   by_cases h0:f < 0
   ·rw [if_pos h0] at h
    obtain rfl:=Option.some.inj h
    rw [M.val_neg _ _ _ h0,hz _ (List.getElem_mem hn) hk]
   ·rw [if_neg h0] at h
    obtain ⟨k,rfl⟩:∃ k:Nat,f=k:=⟨f.toNat,by omega⟩
    rw [Int.toNat_natCast] at h
    exact ih k q (by omega) hq h
  by_cases hr:ds[n].reads=true
  ·rw [if_pos hr]
   rw [if_pos hr] at hvf
   exact step _ hvf (Or.inl hr)
  ·rw [if_neg hr]
   rw [if_neg hr] at hvf
   by_cases h3:(ds[n].d.k==3)=true
   ·rw [if_pos h3]
    rw [if_pos h3] at hvf
    exact step _ hvf (Or.inr (by simpa using h3))
   ·rw [if_neg h3]
    rw [if_neg h3] at hvf
    rw [hvf,if_pos (by omega)] at h
    obtain rfl:=Option.some.inj h
    rfl
end Go.Proofs.YtjjkicffhpcngaaGreat
namespace Go.Proofs.YtjjkicffhpcngaaGreat
open Go.RowKit
structure Small (mm:List (List M.D)) (c:Nat):Prop where
 cap:mm.length≤c
 pos:0 < mm.length
 three:mm.length≤3
 steps:∀ t∈mm,t.length≤14
set_option maxHeartbeats 1000000 in
set_option maxRecDepth 100000 in
theorem l71Any_any (B rb p:Nat) (w:World) (hp:p≤1000) (h:Rdr w B rb p) :
  Calls Tryz.prog 37 #[.pointer (some ⟨rb,0,none⟩)] w fun e w'=>∃ (a:Option Addr) (g c:Nat) (mm:List (List M.D)),e=.returned (.agg #[.slice a mm.length c])∧DoSN (w.heap.size+1) w' a g 0 mm∧Small mm c∧∃ p':Nat,p'≤p+10100∧Rdr w' B rb p'∧But rb w w':=by
 have hlt:=h.lt
 have hge:=h.ge
 go_enter Tryz.func37,Tryz.ntmps37
 go_wp2_with fail
 refine (l71Prog_any B rb p _ hp (h.alloc _)).mono ?_
 rintro e w1 ⟨ll,vs,v,rfl,hB1,hprog,_,hlen,p1,hp1,hr1,hb1⟩
 obtain ⟨h3,h7⟩:=M.prog_le hprog
 have hS1:=(Slot1.new w (.slice none 0 0) 25).but hb1 (by omega)
 have hb1':=((But.refl rb w).alloc (.cells #[.slice none 0 0] 25)).trans hb1
 simp only [World.size_alloc] at hB1
 obtain ⟨a,g,c,rfl,_⟩:=hB1.sn
 have hlt1:=hr1.lt
 clear hb1
 go_wp2_with fail
 refine (pick_rdr B rb p1 _ _ (by omega) (by omega) (by omega) (hr1.alloc _)).mono ?_
 rintro e w2 ⟨r2,rfl,r20,r21,hr2,hb2⟩
 have hal:=(But.refl rb w1).alloc (.cells #[.slice a ll.length c] 25)
 have hX2:=(Slot1.new w1 (.slice a ll.length c) 25).but hb2 (by omega)
 have hS2:=(hS1.but hal (by omega)).but hb2 (by omega)
 have hB2:=(hB1.but hal (by omega)).but hb2 (by omega)
 have hb2':=(hb1'.trans hal).trans hb2
 clear hb2 hal hS1 hB1 hb1' hr1
 by_cases h0:r2=0
 ·subst h0
  have x0:=hX2.c
  go_wp2_with fail
  refine (l71Bad_any B (w.heap.size+1+1) rb (p1+1) _ ll vs _ (by omega) hlen h3 h7 hB2 (by omega) hr2).mono ?_
  rintro e w3 ⟨a',g',c',mm,rfl,hsn,hml,hmc,hm14,p3,hp3,hr3,hb3⟩
  have hm0:0 < mm.length:=by omega
  have hm3:mm.length≤3:=by omega
  clear hml
  have hS3:=hS2.but hb3 (by omega)
  have s0:=hS3.c
  have sf:=hS3.fz
  have hsl:=hS3.lt
  go_wp2_with fail
  have s4:=(hS3.set (.slice a' mm.length c')).c
  refine bodyPost_ret (v:=.agg #[.slice a' mm.length c']) (by simp [results,Tryz.results37,go_sem,s4]) rfl ⟨a',g',c',mm,rfl,(hsn.far (by omega)).mono (by omega),⟨hmc,hm0,hm3,hm14⟩,p3,by omega,hr3.setCell (by omega) (by omega) _,(hb2'.trans hb3).setCell (Or.inl (Nat.le_refl _)) _⟩
 ·have h0':(r2==0)=false:=by simpa using h0
  obtain ⟨a',g',c',e',hsn⟩:=hB2.sn
  simp only [Value.slice.injEq] at e'
  obtain ⟨rfl,_,rfl⟩:=e'
  have x0:=hX2.c
  have s0:=hS2.c
  have sf:=hS2.fz
  have hsl:=hS2.lt
  go_wp2_with fail
  have s4:=(hS2.set (.slice a ll.length c)).c
  refine bodyPost_ret (v:=.agg #[.slice a ll.length c]) (by simp [results,Tryz.results37,go_sem,s4]) rfl ⟨a,g',c,ll,rfl,(hsn.far (by omega)).mono (by omega),⟨hB2.cap,hlen,h3,fun t ht=>by have:=h7 t ht;omega⟩,p1+1,by omega,hr2.setCell (by omega) (by omega) _,hb2'.setCell (Or.inl (Nat.le_refl _)) _⟩
end Go.Proofs.YtjjkicffhpcngaaGreat
namespace Go.Proofs.YtjjkicffhpcngaaGreat
open Go.RowKit
set_option maxHeartbeats 400000 in
theorem l6Open_any (ca:Option Addr) (cb co L C:Nat) (x:Nat→Int) (w:World) (hL:L≤C) (had:0 < L→ca=some ⟨cb,co,none⟩) (hc:∀ i,i < L→w.cell? ⟨cb,co+i,none⟩=some (.int .u8 (x i))∧0≤x i∧x i≤255) (hLb:L≤1048576) :
  Calls Tryz.prog 38 #[.slice ca L C] w fun e w'=>e=.returned (.pointer (some ⟨w.heap.size,0,none⟩))∧Rdr w' w.heap.size w.heap.size 0∧Below w.heap.size w w':=by
 by_cases h2:L≤2000
 ·have h2':¬ (2000:Int) < L:=by omega
  go_enter Tryz.func38,Tryz.ntmps38
  go_wp2_with fail
  go_ret
  refine ⟨rfl,⟨ca,cb,co,L,C,x,by simp,by simp,by simp,had,h2,fun i hi=>⟨?_,(hc i hi).2⟩,fun h0=>World.block_lt_of_cell? _ _ (hc 0 h0).1,Nat.le_refl _⟩,below1 _ _⟩
  rw [World.cell?_alloc_past _ _ _ (World.block_lt_of_cell? _ _ (hc i hi).1)]
  exact (hc i hi).1
 ·have h2':(2000:Int) < L:=by omega
  obtain ⟨rfl⟩:=had (by omega)
  go_enter Tryz.func38,Tryz.ntmps38
  go_wp2_with fail
  go_ret
  refine ⟨rfl,⟨_,cb,co,2000,C,x,by simp,by simp,by simp,fun _=>rfl,by omega,fun i hi=>⟨?_,(hc i (by omega)).2⟩,fun h0=>World.block_lt_of_cell? _ _ (hc 0 (by omega)).1,Nat.le_refl _⟩,below1 _ _⟩
  rw [World.cell?_alloc_past _ _ _ (World.block_lt_of_cell? _ _ (hc i (by omega)).1)]
  exact (hc i (by omega)).1
end Go.Proofs.YtjjkicffhpcngaaGreat
namespace Go.Proofs.YtjjkicffhpcngaaGreat
open Go.RowKit
set_option maxHeartbeats 1000000 in
set_option maxRecDepth 100000 in
theorem l71Kind_any (B rb p:Nat) (w:World) (hp:p≤900000) (h:Rdr w B rb p) :
  Calls Tryz.prog 48 #[.pointer (some ⟨rb,0,none⟩)] w fun e w'=>∃ r:Int,e=.returned (.int .i64 r)∧-1≤r∧r≤4∧Rdr w' B rb (p+2)∧But rb w w':=by
 have hlt:=h.lt
 go_enter Tryz.func48,Tryz.ntmps48
 go_wp2_with fail
 refine (pick_rdr B rb p 24 _ (by omega) (by omega) (by omega) h).mono ?_
 rintro e w1 ⟨r1,rfl,r10,r11,hr1,hb1⟩
 by_cases h0:r1=0
 ·subst h0
  have hal:=below1 w1 (.cells #[.int .i64 0,.int .i64 4,.int .i64 (-1)] 3)
  have hr2:=hr1.below hal (Nat.le_refl _)
  have hl1:=hb1.size
  go_wp2_with fail
  refine (pick_rdr B rb (p+1) 3 _ (by omega) (by omega) (by omega) hr2).mono ?_
  rintro e w2 ⟨r2,rfl,r20,r21,hr3,hb2⟩
  have c0:(w1.alloc (.cells #[.int .i64 0,.int .i64 4,.int .i64 (-1)] 3)).cell? ⟨w1.heap.size,0,none⟩=some (.int .i64 0):=by simp
  have c1:(w1.alloc (.cells #[.int .i64 0,.int .i64 4,.int .i64 (-1)] 3)).cell? ⟨w1.heap.size,1,none⟩=some (.int .i64 4):=by simp
  have c2:(w1.alloc (.cells #[.int .i64 0,.int .i64 4,.int .i64 (-1)] 3)).cell? ⟨w1.heap.size,2,none⟩=some (.int .i64 (-1)):=by simp
  have d0:=(hb2.cell (p:=⟨w1.heap.size,0,none⟩) (by simp) (by show w1.heap.size≠rb;omega)).trans c0
  have d1:=(hb2.cell (p:=⟨w1.heap.size,1,none⟩) (by simp) (by show w1.heap.size≠rb;omega)).trans c1
  have d2:=(hb2.cell (p:=⟨w1.heap.size,2,none⟩) (by simp) (by show w1.heap.size≠rb;omega)).trans c2
  have hbw:=(hb1.trans (But.of hal)).trans hb2
  clear c0 c1 c2 hal
  have hr:r2=0∨r2=1∨r2=2:=by omega
  rcases hr with rfl | rfl | rfl
  ·go_wp2_with fail
   go_ret
   exact ⟨_,rfl,by omega,by omega,hr3,hbw⟩
  ·go_wp2_with fail
   go_ret
   exact ⟨_,rfl,by omega,by omega,hr3,hbw⟩
  ·go_wp2_with fail
   go_ret
   exact ⟨_,rfl,by omega,by omega,hr3,hbw⟩
 ·have b0:(r1==0)=false:=by simp [h0]
  go_wp2_with fail
  refine (pick_rdr B rb (p+1) 3 _ (by omega) (by omega) (by omega) hr1).mono ?_
  rintro e w2 ⟨r2,rfl,r20,r21,hr3,hb2⟩
  go_wp2_with fail
  go_ret
  exact ⟨_,rfl,by (try rw [IntKind.wrap_i64]);omega,by (try rw [IntKind.wrap_i64]);omega,hr3,hb1.trans hb2⟩
end Go.Proofs.YtjjkicffhpcngaaGreat
namespace Go.Proofs.YtjjkicffhpcngaaGreat
open Go.RowKit
set_option maxHeartbeats 1000000 in
set_option maxRecDepth 100000 in
theorem DrawOrderAll_any (ca:Option Addr) (cb co L C:Nat) (x:Nat→Int) (w:World) (hL:L≤C) (had:0 < L→ca=some ⟨cb,co,none⟩) (hc:∀ i,i < L→w.cell? ⟨cb,co+i,none⟩=some (.int .u8 (x i))∧0≤x i∧x i≤255) (hLb:L≤1048576) :
  Calls Tryz.prog 19 #[.slice ca L C] w fun e w'=>∃ (a:Option Addr) (g c:Nat) (mm:List (List M.D)) (kind:Int),e=.returned (.tuple #[.agg #[.slice a mm.length c],.int .i64 kind])∧DoSN (w.heap.size+1) w' a g 0 mm∧Small mm c∧-1≤kind∧kind≤4∧Below w.heap.size w w':=by
 go_enter Tryz.func19,Tryz.ntmps19
 go_wp2_with fail
 have hb0:=below1 w (.cells #[.slice none 0 0] 25)
 refine (l6Open_any ca cb co L C x _ hL had (fun i hi=>⟨by rw [hb0.cell (p:=⟨cb,co+i,none⟩) (World.block_lt_of_cell? _ _ (hc i hi).1)];exact (hc i hi).1,(hc i hi).2⟩) hLb).mono ?_
 rintro e w1 ⟨rfl,hr1,hb1⟩
 simp only [World.size_alloc] at hr1 hb1 ⊢
 have hb1w:Below w.heap.size w w1:=hb0.trans (hb1.mono (by omega))
 have hS1:=(Slot1.new w (.slice none 0 0) 25).but (But.of (rb:=w.heap.size+1) (by simpa only [World.size_alloc] using hb1)) (by omega)
 have hlt1:=hr1.lt
 clear hc had hb0 hb1
 go_wp2_with fail
 refine (l71Any_any _ (w.heap.size+1) 0 _ (by omega) hr1).mono ?_
 rintro e w2 ⟨a,g,c,mm,rfl,hsn,hsm,p2,hp2,hr2,hb2⟩
 have hS2:=hS1.but hb2 (by omega)
 have hbw:Below w.heap.size w w2:=But.below hb1w hb2 (by omega)
 have hl2:=hr2.lt
 go_wp2_with fail
 refine (l71Kind_any _ (w.heap.size+1) p2 _ (by omega) hr2).mono ?_
 rintro e w3 ⟨kind,rfl,k0,k1,hr3,hb3⟩
 have hS3:=hS2.but hb3 (by omega)
 have s0:=hS3.c
 have sf:=hS3.fz
 have hsl:=hS3.lt
 have hsn3:=(hsn.mono (N':=w.heap.size+1+1) (by omega)).but hb3 (by omega)
 have hbw3:Below w.heap.size w w3:=But.below hbw hb3 (by omega)
 go_wp2_with fail
 have s4:=(hS3.set (.slice a mm.length c)).c
 refine bodyPost_ret (v:=.tuple #[.agg #[.slice a mm.length c],.int .i64 kind]) (by simp [results,Tryz.results19,go_sem,s4]) rfl ⟨a,g,c,mm,kind,rfl,(hsn3.far (by omega)).mono (by omega),hsm,k0,k1,hbw3.setCell (Nat.le_refl _) _⟩
end Go.Proofs.YtjjkicffhpcngaaGreat
namespace Go.Proofs.YtjjkicffhpcngaaGreat
open Go.RowKit
theorem Slot1.bel {w w':World} {b:Nat} {x:Value} (h:Slot1 w b x) (hb:Below w.heap.size w w'):Slot1 w' b x :=
 ⟨(hb.cell (p:=⟨b,0,none⟩) h.lt).trans h.c,(hb.frozen (p:=⟨b,0,none⟩) h.lt).trans h.fz⟩
structure BoxP (w W:World) (P:Nat) (a:Option Addr) (g c:Nat) (mm:List (List M.D)):Prop where
 bel:Below w.heap.size w W
 p:Slot1 W P (.slice a mm.length c)
 ss:DoSS W a g 0 mm
theorem BoxP.below {w W W':World} {P:Nat} {a:Option Addr} {g c:Nat} {mm:List (List M.D)} (h:BoxP w W P a g c mm) (hb:Below W.heap.size W W'):BoxP w W' P a g c mm :=
 ⟨h.bel.trans (hb.mono h.bel.size),h.p.bel hb,h.ss.below hb (Nat.le_refl _)⟩
theorem BoxP.new {w w1:World} {a:Option Addr} {g c:Nat} {mm:List (List M.D)} (hb1:Below w.heap.size w w1) (hs:DoSS w1 a g 0 mm):BoxP w (w1.alloc (.cells #[.slice a mm.length c] 25)) w1.heap.size a g c mm :=
 ⟨hb1.alloc hb1.size _,Slot1.new w1 _ _,hs.below (below1 w1 _) (Nat.le_refl _)⟩
theorem Small.le {mm:List (List M.D)} {c:Nat} (h:Small mm c):∀ t∈mm,t.length≤1048576:=fun t ht=>by have:=h.steps t ht;omega
end Go.Proofs.YtjjkicffhpcngaaGreat
namespace Go.Proofs.YtjjkicffhpcngaaGreat
namespace M
section
variable {ds es : List De} {pos back : List Nat}
theorem mem_choices {ds:List De} {c:Ch}:c∈choices ds↔∃ (w r:Nat) (x y:De),ds[w]?=some x∧x.d.k=9∧x.last=false∧ds[r]?=some y∧y.d.k=7∧c=((outOf ds r,w+1),(w,r)):=by
 simp only [choices,List.mem_flatMap,choicesAt,List.mem_map,List.mem_filter,List.mem_range]
 constructor
 ·rintro ⟨w,⟨hw,hwt⟩,r,⟨hr,hk⟩,rfl⟩
  unfold waitsAt at hwt
  rw [List.getElem?_eq_getElem hw] at hwt
  rw [kAt_eq hr] at hk
  simp only [Bool.and_eq_true,beq_iff_eq,Bool.not_eq_true'] at hwt
  exact ⟨w,r,ds[w],ds[r],List.getElem?_eq_getElem hw,hwt.1,hwt.2,List.getElem?_eq_getElem hr,by simpa using hk,rfl⟩
 ·rintro ⟨w,r,x,y,hx,h9,hf,hy,h7,rfl⟩
  refine ⟨w,⟨lt_of_get hx,?_⟩,r,⟨lt_of_get hy,?_⟩,rfl⟩
  ·unfold waitsAt;rw [hx];simp [h9,hf]
  ·unfold kAt;rw [hy];simp [h7]
end
end M
end Go.Proofs.YtjjkicffhpcngaaGreat
