/- spec.l71Any: a drawn program, some spoilt. spec.l6Open: a reader of a code. -/
import Derived.Test.YtmhpgdliaclokaaGreatRows
import Derived.Test.YtmhpgdliaclokaaGreatQyai
import Derived.Test.YtmhpgdliaclokaaGreatQyaj
namespace Go.Proofs.YtmhpgdliaclokaaGreat
section
open Go.RowKit
structure Small (mm:List (List M.D)) (c:Nat):Prop where
 cap:mm.length≤c
 pos:0 < mm.length
 three:mm.length≤3
 steps:∀ t∈mm,t.length≤14
set_option maxHeartbeats 1000000 in
set_option maxRecDepth 100000 in
theorem l71Any_any (B rb p:Nat) (w:World) (hp:p≤400000) (h:Rdr w B rb p) :
  Calls Tryz.prog 107 #[.pointer (some ⟨rb,0,none⟩)] w fun e w'=>∃ (a:Option Addr) (g c:Nat) (mm:List (List M.D)),e=.returned (.agg #[.slice a mm.length c])∧DoSN (w.heap.size+1) w' a g 0 mm∧Small mm c∧∃ p':Nat,p'≤p+10100∧Rdr w' B rb p'∧But rb w w':=by
 have hlt:=h.lt
 have hge:=h.ge
 go_enter Tryz.func107,Tryz.ntmps107
 go_wp2_with fail
 refine (l71Prog_any B rb p _ hp (h.alloc _)).mono ?_
 rintro e w1 ⟨ll,vs,v,rfl,hB1,hprog,_,hlen,p1,hp1,hr1,hb1⟩
 obtain ⟨h3,h7⟩:=M.prog_le hprog
 have hS1:=(Slot1.new w (.slice none 0 0) 25).but hb1 (by omega)
 have hb1':=((But.refl rb w).alloc (.cells #[.slice none 0 0] 25)).trans hb1
 simp only [World.size_alloc] at hB1
 obtain ⟨a,g,c,rfl,_⟩:=hB1.sn
 have hlt1:=hr1.lt
 clear hb1
 go_wp2_with fail
 refine (pick_rdr B rb p1 _ _ (by omega) (by omega) (by omega) (hr1.alloc _)).mono ?_
 rintro e w2 ⟨r2,rfl,r20,r21,hr2,hb2⟩
 have hal:=(But.refl rb w1).alloc (.cells #[.slice a ll.length c] 25)
 have hX2:=(Slot1.new w1 (.slice a ll.length c) 25).but hb2 (by omega)
 have hS2:=(hS1.but hal (by omega)).but hb2 (by omega)
 have hB2:=(hB1.but hal (by omega)).but hb2 (by omega)
 have hb2':=(hb1'.trans hal).trans hb2
 clear hb2 hal hS1 hB1 hb1' hr1
 by_cases h0:r2=0
 ·subst h0
  have x0:=hX2.c
  go_wp2_with fail
  refine (l71Bad_any B (w.heap.size+1+1) rb (p1+1) _ ll vs _ (by omega) hlen h3 h7 hB2 (by omega) hr2).mono ?_
  rintro e w3 ⟨a',g',c',mm,rfl,hsn,hml,hmc,hm14,p3,hp3,hr3,hb3⟩
  have hm0:0 < mm.length:=by omega
  have hm3:mm.length≤3:=by omega
  clear hml
  have hS3:=hS2.but hb3 (by omega)
  have s0:=hS3.c
  have sf:=hS3.fz
  have hsl:=hS3.lt
  go_wp2_with fail
  have s4:=(hS3.set (.slice a' mm.length c')).c
  refine bodyPost_ret (v:=.agg #[.slice a' mm.length c']) (by simp [results,Tryz.results107,go_sem,s4]) rfl ⟨a',g',c',mm,rfl,(hsn.far (by omega)).mono (by omega),⟨hmc,hm0,hm3,hm14⟩,p3,by omega,hr3.setCell (by omega) (by omega) _,(hb2'.trans hb3).setCell (Or.inl (Nat.le_refl _)) _⟩
 ·have h0':(r2==0)=false:=by simpa using h0
  obtain ⟨a',g',c',e',hsn⟩:=hB2.sn
  simp only [Value.slice.injEq] at e'
  obtain ⟨rfl,_,rfl⟩:=e'
  have x0:=hX2.c
  have s0:=hS2.c
  have sf:=hS2.fz
  have hsl:=hS2.lt
  go_wp2_with fail
  have s4:=(hS2.set (.slice a ll.length c)).c
  refine bodyPost_ret (v:=.agg #[.slice a ll.length c]) (by simp [results,Tryz.results107,go_sem,s4]) rfl ⟨a,g',c,ll,rfl,(hsn.far (by omega)).mono (by omega),⟨hB2.cap,hlen,h3,fun t ht=>by have:=h7 t ht;omega⟩,p1+1,by omega,hr2.setCell (by omega) (by omega) _,hb2'.setCell (Or.inl (Nat.le_refl _)) _⟩
end
section
open Go.RowKit
set_option maxHeartbeats 400000 in
theorem l6Open_any (ca:Option Addr) (cb co L C:Nat) (x:Nat→Int) (w:World) (hL:L≤C) (had:0 < L→ca=some ⟨cb,co,none⟩) (hc:∀ i,i < L→w.cell? ⟨cb,co+i,none⟩=some (.int .u8 (x i))∧0≤x i∧x i≤255) (hLb:L≤1048576) :
  Calls Tryz.prog 32 #[.slice ca L C] w fun e w'=>e=.returned (.pointer (some ⟨w.heap.size,0,none⟩))∧Rdr w' w.heap.size w.heap.size 0∧Below w.heap.size w w':=by
 by_cases h2:L≤2000
 ·have h2':¬ (2000:Int) < L:=by omega
  go_enter Tryz.func32,Tryz.ntmps32
  go_wp2_with fail
  go_ret
  refine ⟨rfl,⟨ca,cb,co,L,C,x,by simp,by simp,by simp,had,h2,fun i hi=>⟨?_,(hc i hi).2⟩,fun h0=>World.block_lt_of_cell? _ _ (hc 0 h0).1,Nat.le_refl _⟩,below1 _ _⟩
  rw [World.cell?_alloc_past _ _ _ (World.block_lt_of_cell? _ _ (hc i hi).1)]
  exact (hc i hi).1
 ·have h2':(2000:Int) < L:=by omega
  obtain ⟨rfl⟩:=had (by omega)
  go_enter Tryz.func32,Tryz.ntmps32
  go_wp2_with fail
  go_ret
  refine ⟨rfl,⟨_,cb,co,2000,C,x,by simp,by simp,by simp,fun _=>rfl,by omega,fun i hi=>⟨?_,(hc i (by omega)).2⟩,fun h0=>World.block_lt_of_cell? _ _ (hc 0 (by omega)).1,Nat.le_refl _⟩,below1 _ _⟩
  rw [World.cell?_alloc_past _ _ _ (World.block_lt_of_cell? _ _ (hc i (by omega)).1)]
  exact (hc i (by omega)).1
end
end Go.Proofs.YtmhpgdliaclokaaGreat
