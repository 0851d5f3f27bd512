/- impl.OrderHas: what must be ahead of what by itself. Of at most 1048576 threads, steps, numbers and rows. -/
import Derived.BigQuiet
import Derived.Deep.AppendLies
import Derived.Deep.RegionHeld3
import Derived.Laws.EntriesVeiled
import Derived.Shelf.Abstract
import Derived.Sort.Grow
import Derived.WalkLawsBesides
import Derived.WalkSpells
import Derived.Test.YtdningnhbplfiaaGreatRows
import Derived.Test.YtdningnhbplfiaaGreatQrax
namespace Go.Proofs.YtdningnhbplfiaaGreat
section
open Go.RowKit
theorem ownPl_any (t:Wx) (a b:Nat) (x y:M.De) (w:World) (hl:t.Ok) (ht:t.At w) (hx:t.ds[a]?=some x) (hy:t.ds[b]?=some y) :
  Calls Tryz.prog 117 #[.agg #[.slice (some ⟨t.g,0,none⟩) t.ds.length t.c,.slice (some ⟨t.fb,t.fo,none⟩) t.l.length t.fc,.slice (some ⟨t.rb,t.ro,none⟩) t.rows.length t.rc],.int .i64 (a:Int),.int .i64 (b:Int)] w fun e w'=>e=.returned (.bool (M.own a b x y&&M.onePl x y))∧Below w.heap.size w w':=by
 have B0:=Wx.Bx.new ht
 have C:=own_any t a b x y _ hl B0.at_ hx hy
 cases ho:M.own a b x y
 ·rw [ho] at C
  go_enter Tryz.func117,Tryz.ntmps117
  go_wp2_with fail
  refine C.mono ?_
  rintro e w1 ⟨rfl,hb1⟩
  go_wp2_with fail
  go_ret
  exact ⟨ret_bool (by simp),(B0.below hb1).bel⟩
 ·rw [ho] at C
  go_enter Tryz.func117,Tryz.ntmps117
  go_wp2_with fail
  refine C.mono ?_
  rintro e w1 ⟨rfl,hb1⟩
  have B1:=B0.below hb1
  have k0:=B1.c0;have k1:=B1.c1;have k2:=B1.c2
  go_wp2_with fail
  refine (onePl_any t a b x y _ hl B1.at_ hx hy).mono ?_
  rintro e w2 ⟨rfl,hb2⟩
  go_wp2_with fail
  go_ret
  exact ⟨ret_bool (by simp),(B1.below hb2).bel⟩
set_option maxHeartbeats 1000000 in
set_option maxRecDepth 100000 in
theorem must0_any (t:Wx) (a b:Nat) (x y:M.De) (w:World) (hl:t.Ok) (ht:t.At w) (hx:t.ds[a]?=some x) (hy:t.ds[b]?=some y) :
  Calls Tryz.prog 72 #[.agg #[.slice (some ⟨t.g,0,none⟩) t.ds.length t.c,.slice (some ⟨t.fb,t.fo,none⟩) t.l.length t.fc,.slice (some ⟨t.rb,t.ro,none⟩) t.rows.length t.rc],.agg #[.func (.func 117) #[] #[],.func (.func 118) #[] #[],.func (.func 119) #[] #[]],.int .i64 (a:Int),.int .i64 (b:Int)] w fun e w'=>e=.returned (.bool (M.must t.ds t.l t.rows 0 a b x y))∧Below w.heap.size w w':=by
 obtain ⟨dR,hd1,hd2⟩:=Tryz.undR
 have B1:=(Wx.Bx.new ht).below (below1 _ (.cells #[.func (.func 117) #[] #[],.func (.func 118) #[] #[],.func (.func 119) #[] #[]] 110))
 have k0:=B1.c0;have k1:=B1.c1;have k2:=B1.c2
 go_enter Tryz.func72,Tryz.ntmps72
 go_wp2_with fail
 refine wp_loop_rounds 4 ?_
 rw [rounds_succ]
 go_wp2_with (refine wpList_index_one rfl 110 (.tmp 11) (.tmp 12) rfl #[.func (.func 117) #[] #[],.func (.func 118) #[] #[],.func (.func 119) #[] #[]] 0 3 109 dR _ rfl rfl Tryz.und3 (by decide) hd1 hd2 Tryz.infR rfl ?_)
 have C1:=ownPl_any t a b x y _ hl B1.at_ hx hy
 cases h1:(M.own a b x y&&M.onePl x y)
 case true =>
  rw [h1] at C1
  refine C1.mono ?_
  rintro e v1 ⟨rfl,hv1⟩
  go_wp2_with fail
  go_ret
  exact ⟨ret_bool (by simp only [M.must,h1,Bool.true_or]),(B1.below hv1).bel⟩
 rw [h1] at C1
 refine C1.mono ?_
 rintro e v1 ⟨rfl,hv1⟩
 have D1:=B1.below hv1
 have m01:=D1.c0;have m11:=D1.c1;have m21:=D1.c2
 clear C1
 go_wp2_with fail
 rw [rounds_succ]
 go_wp2_with (refine wpList_index_one rfl 110 (.tmp 11) (.tmp 12) rfl #[.func (.func 117) #[] #[],.func (.func 118) #[] #[],.func (.func 119) #[] #[]] 1 3 109 dR _ rfl rfl Tryz.und3 (by decide) hd1 hd2 Tryz.infR rfl ?_)
 have C2:=read_any t a b x y _ hl D1.at_ hx hy
 cases h2:(M.read t.l a b)
 case true =>
  rw [h2] at C2
  refine C2.mono ?_
  rintro e v2 ⟨rfl,hv2⟩
  go_wp2_with fail
  go_ret
  exact ⟨ret_bool (by simp only [M.must,h1,h2,Bool.true_or,Bool.or_true]),(D1.below hv2).bel⟩
 rw [h2] at C2
 refine C2.mono ?_
 rintro e v2 ⟨rfl,hv2⟩
 have D2:=D1.below hv2
 have m02:=D2.c0;have m12:=D2.c1;have m22:=D2.c2
 clear C2
 go_wp2_with fail
 rw [rounds_succ]
 go_wp2_with (refine wpList_index_one rfl 110 (.tmp 11) (.tmp 12) rfl #[.func (.func 117) #[] #[],.func (.func 118) #[] #[],.func (.func 119) #[] #[]] 2 3 109 dR _ rfl rfl Tryz.und3 (by decide) hd1 hd2 Tryz.infR rfl ?_)
 have C3:=over_any t a b x y _ hl D2.at_ hx hy
 cases h3:(M.over t.l t.rows a b x y)
 case true =>
  rw [h3] at C3
  refine C3.mono ?_
  rintro e v3 ⟨rfl,hv3⟩
  go_wp2_with fail
  go_ret
  exact ⟨ret_bool (by simp only [M.must,h1,h2,h3,Bool.or_true]),(D2.below hv3).bel⟩
 rw [h3] at C3
 refine C3.mono ?_
 rintro e v3 ⟨rfl,hv3⟩
 have D3:=D2.below hv3
 have m03:=D3.c0;have m13:=D3.c1;have m23:=D3.c2
 clear C3
 go_wp2_with fail
 rw [rounds_succ]
 go_wp2_with fail
 go_ret
 exact ⟨ret_bool (by simp only [M.must,h1,h2,h3,Bool.or_false]),D3.bel⟩
end
section
open Go.RowKit
set_option maxHeartbeats 400000 in
theorem reasons0_any (w:World):Calls Tryz.prog 73 #[.int .i64 0] w fun e w'=>e=.returned (.agg #[.func (.func 117) #[] #[],.func (.func 118) #[] #[],.func (.func 119) #[] #[]])∧Below w.heap.size w w':=by
 go_enter Tryz.func73,Tryz.ntmps73
 go_wp2_with fail
 refine bodyPost_ret (v:=.agg #[.func (.func 117) #[] #[],.func (.func 118) #[] #[],.func (.func 119) #[] #[]]) (by simp [results,Tryz.results73,go_sem]) rfl ⟨rfl,?_⟩
 exact below2 _ _ _
namespace M
end M
theorem cellB {W W':World} {p:Addr} {v:Value} (hb:Below W.heap.size W W') (h:W.cell? p=some v):W'.cell? p=some v:=(hb.cell (p:=p) (World.block_lt_of_cell? _ _ h)).trans h
structure SlotE (w:World) (b:Nat) (x y z:Value):Prop where
 blk:w.heap[b]?=some (.cells #[x,y,z] 93 (0,0))
theorem SlotE.c0 {w:World} {b:Nat} {x y z:Value} (h:SlotE w b x y z):w.cell? ⟨b,0,none⟩=some x:=by simp [World.cell?,h.blk]
theorem SlotE.c1 {w:World} {b:Nat} {x y z:Value} (h:SlotE w b x y z):w.cell? ⟨b,1,none⟩=some y:=by simp [World.cell?,h.blk]
theorem SlotE.c2 {w:World} {b:Nat} {x y z:Value} (h:SlotE w b x y z):w.cell? ⟨b,2,none⟩=some z:=by simp [World.cell?,h.blk]
theorem SlotE.fz {w:World} {b:Nat} {x y z:Value} (h:SlotE w b x y z) (i:Nat):w.frozen? ⟨b,i,none⟩=false:=by simp [World.frozen?,h.blk]
theorem slot3_drew {v2 v3:World} (hb:Below (v2.alloc (.cells #[.slice none 0 0,.slice none 0 0,.slice none 0 0] 93)).drew.heap.size (v2.alloc (.cells #[.slice none 0 0,.slice none 0 0,.slice none 0 0] 93)).drew v3):SlotE v3 v2.heap.size (.slice none 0 0) (.slice none 0 0) (.slice none 0 0) :=
 ⟨(hb.block v2.heap.size (show v2.heap.size < (v2.alloc (.cells #[.slice none 0 0,.slice none 0 0,.slice none 0 0] 93)).heap.size by simp)).trans (alloc_new _ _ _ rfl)⟩
structure Wb (w W:World) (X:Nat) (va:Option Addr) (g c:Nat) (ds:List M.De) (fa:Option Addr) (fb fo fc:Nat) (l:List Int) (ra:Option Addr) (rb ro rc:Nat) (rows:List (List Int)):Prop where
 bel:Below w.heap.size w W
 c0:W.cell? ⟨X,0,none⟩=some (.slice va ds.length c)
 c1:W.cell? ⟨X,1,none⟩=some (.slice fa l.length fc)
 c2:W.cell? ⟨X,2,none⟩=some (.slice ra rows.length rc)
 d:DeS W va g ds
 f:IntS W fa fb fo l
 r:IntSS W ra rb ro rows
theorem Wb.first {w w1 w2:World} {va:Option Addr} {g c:Nat} {ds:List M.De} {fa:Option Addr} {fb fo fc:Nat} {l:List Int} {ra:Option Addr} {rb ro rc:Nat} {rows:List (List Int)} {u1 u2 u3:Value} (h12:Below w.heap.size w w1) (hb:Below w1.heap.size w1 w2) (hV:SlotE w2 w1.heap.size u1 u2 u3) (hd:DeS w2 va g ds) (hf1:IntS w1 fa fb fo l) (hr1:IntSS w1 ra rb ro rows) (hg:0 < ds.length→w1.heap.size < g) :
  Wb w (((w2.setCell ⟨w1.heap.size,0,none⟩ (.slice va ds.length c)).setCell ⟨w1.heap.size,1,none⟩ (.slice fa l.length fc)).setCell ⟨w1.heap.size,2,none⟩ (.slice ra rows.length rc)) w1.heap.size va g c ds fa fb fo fc l ra rb ro rc rows:=by
 have k1:=heap_setCell_same w2 w1.heap.size 0 _ _ (.slice va ds.length c) hV.blk
 have k2:=heap_setCell_same _ w1.heap.size 1 _ _ (.slice fa l.length fc) k1
 have k3:=heap_setCell_same _ w1.heap.size 2 _ _ (.slice ra rows.length rc) k2
 have hbf:=((hb.setCell (p:=⟨w1.heap.size,0,none⟩) (Nat.le_refl _) (.slice va ds.length c)).setCell (p:=⟨w1.heap.size,1,none⟩) (Nat.le_refl _) (.slice fa l.length fc)).setCell (p:=⟨w1.heap.size,2,none⟩) (Nat.le_refl _) (.slice ra rows.length rc)
 refine ⟨h12.trans (hbf.mono h12.size),by simp [World.cell?,k3],by simp [World.cell?,k3],by simp [World.cell?,k3],⟨hd.addr,fun i hi j hj=>?_⟩,hf1.below hbf (Nat.le_refl _),hr1.below hbf (Nat.le_refl _)⟩
 have hk:g≠w1.heap.size:=by have:=hg (by omega);omega
 rw [← hd.row i hi j hj]
 refine World.cell?_of_block ?_
 rw [Below.heap_setCell _ _ _ _ hk,Below.heap_setCell _ _ _ _ hk,Below.heap_setCell _ _ _ _ hk]
end
end Go.Proofs.YtdningnhbplfiaaGreat
