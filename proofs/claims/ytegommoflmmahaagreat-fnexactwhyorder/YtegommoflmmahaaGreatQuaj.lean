/- The law's own sizing, copying and comparing of what was seen: laws.szSeen, toSeen, eqSeen. Of lists of at most 1048576 numbers (sizing: of at most 9223372036854775807). And what goes with it: SnConv, SnOk, SnFar, SnOrd, SnIn. -/
import Derived.Deep.OwnRows
import Derived.Test.YtegommoflmmahaaGreatRows
import Derived.Test.YtegommoflmmahaaGreatQuai
namespace Go.Proofs.YtegommoflmmahaaGreat
section
open Go.RowKit
set_option maxHeartbeats 400000 in
theorem szSeen_any (s:Sn) (left:Int) (w:World) (h0:0≤left) (h1:left≤1048576) (hl:s.Le 9223372036854775807) :
  Calls Tryz.prog 26 #[.agg #[.slice s.a1 s.l1.length s.c1,.slice s.a2 s.l2.length s.c2],.int .i64 left] w fun e w'=>∃ r:Int,e=.returned (.int .i64 r)∧w'=w.alloc (.cells #[.slice s.a1 s.l1.length s.c1,.slice s.a2 s.l2.length s.c2] 56)∧r≤1048576∧(r < 0∨(0≤r∧s.Le 1048576)):=by
 obtain ⟨a1,b1,o1,c1,l1,a2,b2,o2,c2,l2⟩:=s
 obtain ⟨hl1,hl2⟩:=hl
 simp only at hl1 hl2
 go_enter Tryz.func26,Tryz.ntmps26
 go_wp2_with fail
 refine (szIntS_any _ _ _ _ _ h0 h1 hl1).mono ?_
 rintro e w1 ⟨r1,rfl,rfl,hr1,hor1⟩
 by_cases hn1:r1 < 0
 ·go_wp2_with fail
  go_ret
  exact ⟨-1,rfl,rfl,by omega,Or.inl (by omega)⟩
 ·go_wp2_with fail
  refine (szIntS_any _ _ _ _ _ (by omega) hr1 hl2).mono ?_
  rintro e w2 ⟨r2,rfl,rfl,hr2,hor2⟩
  by_cases hn2:r2 < 0
  ·go_wp2_with fail
   go_ret
   exact ⟨-1,rfl,rfl,by omega,Or.inl (by omega)⟩
  ·go_wp2_with fail
   go_ret
   exact ⟨r2,rfl,rfl,hr2,Or.inr ⟨by omega,⟨by show l1.length≤_;omega,by show l2.length≤_;omega⟩⟩⟩
structure NewSn (w:World) (B g1 g2:Nat) (l1 l2:List Int):Prop where
 ge:B≤g1
 lt:g1 < g2
 reads:IntS w (some ⟨g1,0,none⟩) g1 0 l1
 last:IntS w (some ⟨g2,0,none⟩) g2 0 l2
 own1:∃ f,w.rowIs g1 3 l1.length f
 own2:∃ f,w.rowIs g2 3 l2.length f
def newSn (g1 g2:Nat) (l1 l2:List Int):Sn:=⟨some ⟨g1,0,none⟩,g1,0,l1.length,l1,some ⟨g2,0,none⟩,g2,0,l2.length,l2⟩
theorem NewSn.at {w:World} {B g1 g2:Nat} {l1 l2:List Int} (h:NewSn w B g1 g2 l1 l2):(newSn g1 g2 l1 l2).At w:=⟨h.reads,h.last⟩
theorem NewSn.below {w w':World} {B C g1 g2:Nat} {l1 l2:List Int} (h:NewSn w B g1 g2 l1 l2) (hb:Below C w w') (hC:w.heap.size≤C):NewSn w' B g1 g2 l1 l2:=by
 obtain ⟨f1,h1⟩:=h.own1
 obtain ⟨f2,h2⟩:=h.own2
 exact ⟨h.ge,h.lt,h.reads.below hb hC,h.last.below hb hC,⟨f1,h1.of_block (hb.block _ (Nat.lt_of_lt_of_le h1.lt hC))⟩,⟨f2,h2.of_block (hb.block _ (Nat.lt_of_lt_of_le h2.lt hC))⟩⟩
theorem NewSn.other {w:World} {B g1 g2:Nat} {l1 l2:List Int} (h:NewSn w B g1 g2 l1 l2) {b i:Nat} (hb:b < g1) (u:Value):NewSn (w.setCell ⟨b,i,none⟩ u) B g1 g2 l1 l2:=by
 obtain ⟨f1,h1⟩:=h.own1
 obtain ⟨f2,h2⟩:=h.own2
 have:=h.lt
 exact ⟨h.ge,h.lt,h.reads.other (by omega),h.last.other (by omega),⟨f1,h1.of_block (Below.heap_setCell _ _ _ _ (by simp;omega))⟩,⟨f2,h2.of_block (Below.heap_setCell _ _ _ _ (by simp;omega))⟩⟩
set_option maxHeartbeats 1000000 in
theorem toSeen_any (s:Sn) (w:World) (hl:s.Le 1048576) (h:s.At w) :
  Calls Tryz.prog 28 #[.agg #[.slice s.a1 s.l1.length s.c1,.slice s.a2 s.l2.length s.c2]] w fun e w'=>∃ g1 g2,e=.returned (.agg #[.slice (some ⟨g1,0,none⟩) s.l1.length s.l1.length,.slice (some ⟨g2,0,none⟩) s.l2.length s.l2.length])∧NewSn w' w.heap.size g1 g2 s.l1 s.l2∧Below w.heap.size w w':=by
 obtain ⟨a1,b1,o1,c1,l1,a2,b2,o2,c2,l2⟩:=s
 obtain ⟨hl1,hl2⟩:=hl
 obtain ⟨as1,as2⟩:=h
 simp only at hl1 hl2 as1 as2
 go_enter Tryz.func28,Tryz.ntmps28
 go_wp2_with fail
 have hb3:=below3 w (.cells #[.slice a1 l1.length c1,.slice a2 l2.length c2] 56) (.cells #[.slice none 0 0,.slice none 0 0] 28) (.cells #[.slice none 0 0,.slice none 0 0] 28)
 refine (toIntS_any a1 b1 o1 c1 l1 _ hl1 (as1.below hb3 (Nat.le_refl _))).mono ?_
 rintro e w1 ⟨rfl,hn1,⟨f1,hr1⟩,hb1⟩
 obtain ⟨hc1,hf1⟩:=bcell hb1
 simp only [World.size_alloc] at hn1 hr1 hb1 hc1 hf1
 have hlt1:=hr1.lt
 go_wp2_with fail
 have hb1':Below w.heap.size w (w1.setCell ⟨w.heap.size+1+1,0,none⟩ (.slice (some ⟨w.heap.size+1+1+1,0,none⟩) l1.length l1.length)):=(hb3.trans (hb1.mono (by omega))).setCell (by show w.heap.size≤w.heap.size+1+1;omega) _
 refine (toIntS_any a2 b2 o2 c2 l2 _ hl2 (as2.below hb1' (Nat.le_refl _))).mono ?_
 rintro e w2 ⟨rfl,hn2,⟨f2,hr2⟩,hb2⟩
 obtain ⟨hc2,hf2⟩:=bcell hb2
 have hs2:(w1.setCell ⟨w.heap.size+1+1,0,none⟩ (.slice (some ⟨w.heap.size+1+1+1,0,none⟩) l1.length l1.length)).heap.size=w1.heap.size:=World.size_setCell _ _ _
 rw [hs2] at hn2 hr2 hb2 hc2 hf2
 have d0:w1.cell? ⟨w.heap.size+1+1,0,none⟩=some (.slice none 0 0):=by
  have h:=hc1 (w.heap.size+1+1) 0 (by omega)
  rw [h]
  simp [go_sem]
 have d1:w1.cell? ⟨w.heap.size+1+1,1,none⟩=some (.slice none 0 0):=by
  have h:=hc1 (w.heap.size+1+1) 1 (by omega)
  rw [h]
  simp [go_sem]
 have d2:w1.cell? ⟨w.heap.size+1,0,none⟩=some (.slice none 0 0):=by
  have h:=hc1 (w.heap.size+1) 0 (by omega)
  rw [h]
  simp [go_sem]
 have d3:w1.cell? ⟨w.heap.size+1,1,none⟩=some (.slice none 0 0):=by
  have h:=hc1 (w.heap.size+1) 1 (by omega)
  rw [h]
  simp [go_sem]
 have e0:w2.cell? ⟨w.heap.size+1+1,0,none⟩=some (.slice (some ⟨w.heap.size+1+1+1,0,none⟩) l1.length l1.length):=by
  rw [hc2 _ _ (by omega)]
  exact World.cell?_setCell_same _ _ _ d0
 have e1:w2.cell? ⟨w.heap.size+1+1,1,none⟩=some (.slice none 0 0):=by
  rw [hc2 _ _ (by omega),World.cell?_setCell_other _ _ _ _ (by simp)];exact d1
 have e2:w2.cell? ⟨w.heap.size+1,0,none⟩=some (.slice none 0 0):=by
  rw [hc2 _ _ (by omega),World.cell?_setCell_other _ _ _ _ (by simp)];exact d2
 have e3:w2.cell? ⟨w.heap.size+1,1,none⟩=some (.slice none 0 0):=by
  rw [hc2 _ _ (by omega),World.cell?_setCell_other _ _ _ _ (by simp)];exact d3
 have z0:w2.frozen? ⟨w.heap.size+1+1,1,none⟩=false:=by
  rw [hf2 _ _ (by omega),World.frozen?_setCell,hf1 _ _ (by omega)];simp [go_sem]
 have z1:w2.frozen? ⟨w.heap.size+1,0,none⟩=false:=by
  rw [hf2 _ _ (by omega),World.frozen?_setCell,hf1 _ _ (by omega)];simp [go_sem]
 have z2:w2.frozen? ⟨w.heap.size+1,1,none⟩=false:=by
  rw [hf2 _ _ (by omega),World.frozen?_setCell,hf1 _ _ (by omega)];simp [go_sem]
 have hn1':NewSn w2 w.heap.size (w.heap.size+1+1+1) w1.heap.size l1 l2 :=
  ⟨by omega,hlt1,(hn1.other (by omega)).below hb2 (by rw [hs2];exact Nat.le_refl _),hn2,⟨f1,(hr1.of_block (by rw [hb2.block _ hlt1];exact Below.heap_setCell _ _ _ _ (by simp))).of_block rfl⟩,⟨f2,hr2⟩⟩
 clear hc1 hf1 hc2 hf2 d0 d1 d2 d3
 rw [hs2]
 go_wp2_with fail
 have hbw2:Below w.heap.size w w2:=hb1'.trans (hb2.mono (by omega))
 refine bodyPost_ret (v:=.agg #[.slice (some ⟨w.heap.size+1+1+1,0,none⟩) l1.length l1.length,.slice (some ⟨w1.heap.size,0,none⟩) l2.length l2.length]) (by simp [results,Tryz.results28,go_sem,e2,e3]) rfl ⟨_,_,rfl,?_,?_⟩
 ·exact ((hn1'.other (by omega) _).other (by omega) _).other (by omega) _
 ·exact ((hbw2.setCell (by show w.heap.size≤w.heap.size+1+1;omega) _).setCell (by show w.heap.size≤w.heap.size+1;omega) _).setCell (by show w.heap.size≤w.heap.size+1;omega) _
set_option maxHeartbeats 400000 in
theorem eqSeen_same (s t:Sn) (w:World) (hl:s.Le 1048576) (h1:t.l1=s.l1) (h2:t.l2=s.l2) (hs:s.At w) (ht:t.At w) :
  Calls Tryz.prog 31 #[.agg #[.slice s.a1 s.l1.length s.c1,.slice s.a2 s.l2.length s.c2],.agg #[.slice t.a1 t.l1.length t.c1,.slice t.a2 t.l2.length t.c2]] w fun e w'=>e=.returned (.bool true)∧Grown w w':=by
 obtain ⟨a1,b1,o1,c1,l1,a2,b2,o2,c2,l2⟩:=s
 obtain ⟨d1,e1,f1,g1,m1,d2,e2,f2,g2,m2⟩:=t
 simp only at h1 h2
 subst h1;subst h2
 have hga:=hs.grown (alloc2 w (.cells #[.slice a1 m1.length c1,.slice a2 m2.length c2] 28) (.cells #[.slice d1 m1.length g1,.slice d2 m2.length g2] 28))
 have hgb:=ht.grown (alloc2 w (.cells #[.slice a1 m1.length c1,.slice a2 m2.length c2] 28) (.cells #[.slice d1 m1.length g1,.slice d2 m2.length g2] 28))
 obtain ⟨as1,as2⟩:=hga
 obtain ⟨at1,at2⟩:=hgb
 obtain ⟨hl1,hl2⟩:=hl
 simp only at as1 as2 at1 at2 hl1 hl2
 go_enter Tryz.func31,Tryz.ntmps31
 go_wp2_with fail
 refine (eqIntS_same a1 b1 o1 c1 d1 e1 f1 g1 m1 _ hl1 as1 at1).mono ?_
 rintro e w1 ⟨rfl,hg1⟩
 obtain ⟨hc1,hf1⟩:=bcell hg1.bel
 go_wp2_with fail
 refine (eqIntS_same a2 b2 o2 c2 d2 e2 f2 g2 m2 _ hl2 (as2.below hg1.bel (Nat.le_refl _)) (at2.below hg1.bel (Nat.le_refl _))).mono ?_
 rintro e w2 ⟨rfl,hg2⟩
 go_wp2_with fail
 go_ret
 exact ⟨rfl,((alloc2 w _ _).trans hg1).trans hg2⟩
end
section
open Go.RowKit
set_option maxHeartbeats 400000 in
theorem valsOk_any (a:Option Addr) (b o c:Nat) (l:List Int) (w:World) (hl:l.length≤1048576) (h:IntS w a b o l) :
  Calls Tryz.prog 95 #[.slice a l.length c] w fun e w'=>e=.returned (.bool (M.vals l))∧w'=w:=by
 go_enter Tryz.func95,Tryz.ntmps95
 go_wp2_with fail
 go_loopw [7] (fun s7 wr=>∃ n:Nat,s7=.int .i64 n∧n≤l.length∧M.vals l=M.vals (l.drop n)∧wr=w) (fun s7 _=>l.length - (intOf s7).toNat)
 case atStart=>exact ⟨0,rfl,Nat.zero_le _,rfl,rfl⟩
 case round =>
  obtain ⟨n,rfl,hn,hpass,rfl⟩:=hrel
  have HP:Hid (M.vals l=M.vals (l.drop n)):=hpass
  clear hpass
  by_cases hlt:n < l.length
  ·obtain ⟨rfl⟩:=h.addr (by omega)
   have HD:Hid (l.drop n=l[n]::l.drop (n+1)):=M.drop_int l n hlt
   have hc:=h.row n hlt
   generalize l[n]=x at HD hc
   by_cases h0:x < 0
   ·go_wp2_with fail
    go_ret
    exact ⟨ret_bool (M.vals_bad HP.out HD.out (by omega)).symm,rfl⟩
   ·have h0':decide (x < 0)=false:=by simpa using h0
    by_cases h3:3 < x
    ·go_wp2_with fail
     go_ret
     exact ⟨ret_bool (M.vals_bad HP.out HD.out (by omega)).symm,rfl⟩
    ·go_wp2_with fail
     exact ⟨⟨n+1,by go_num,by omega,M.vals_ok HP.out HD.out (by omega) (by omega),trivial⟩,by simp [intOf];omega⟩
  ·go_wp2_with fail
   go_ret
   exact ⟨ret_bool (M.vals_fin HP.out (by omega)).symm,rfl⟩
namespace M
def seenOk (ll:List (List D)) (l1 l2:List Int):Bool:=decide ((l1.length:Int)=nreads ll)&&(decide (l2.length=3)&&(vals l1&&vals l2))
theorem seenOk_1 {ll:List (List D)} {l1 l2:List Int} (h:¬ (l1.length:Int)=nreads ll):seenOk ll l1 l2=false:=by simp [seenOk,h]
theorem seenOk_2 {ll:List (List D)} {l1 l2:List Int} (h:¬ l2.length=3):seenOk ll l1 l2=false:=by simp [seenOk,h]
theorem seenOk_3 {ll:List (List D)} {l1 l2:List Int} (h:vals l1=false):seenOk ll l1 l2=false:=by simp [seenOk,h]
theorem seenOk_4 {ll:List (List D)} {l1 l2:List Int} (h:(l1.length:Int)=nreads ll) (h2:l2.length=3) (h3:vals l1=true):seenOk ll l1 l2=vals l2:=by simp [seenOk,h,h2,h3]
end M
set_option maxHeartbeats 1000000 in
set_option maxRecDepth 100000 in
theorem iseenOk_any (a:Option Addr) (b o c:Nat) (ll:List (List M.D)) (s:Sn) (w:World) (hl:ll.length≤1048576) (hls:∀ t∈ll,t.length≤1048576) (hs:s.Le 1048576) (h:DoSS w a b o ll) (sa:s.At w) :
  Calls Tryz.prog 44 #[.agg #[.slice a ll.length c],.agg #[.slice s.a1 s.l1.length s.c1,.slice s.a2 s.l2.length s.c2]] w fun e w'=>e=.returned (.bool (M.seenOk ll s.l1 s.l2))∧Below w.heap.size w w':=by
 have hb2:=below2 w (.cells #[.slice a ll.length c] 25) (.cells #[.slice s.a1 s.l1.length s.c1,.slice s.a2 s.l2.length s.c2] 28)
 obtain ⟨hs1,hs2⟩:=hs
 obtain ⟨r,hr⟩:∃ r,M.nreads ll=r:=⟨_,rfl⟩
 go_enter Tryz.func44,Tryz.ntmps44
 go_wp2_with fail
 have k0:((w.alloc (.cells #[.slice a ll.length c] 25)).alloc (.cells #[.slice s.a1 s.l1.length s.c1,.slice s.a2 s.l2.length s.c2] 28)).cell? ⟨w.heap.size,0,none⟩=some (.slice a ll.length c):=by simp
 have k1:((w.alloc (.cells #[.slice a ll.length c] 25)).alloc (.cells #[.slice s.a1 s.l1.length s.c1,.slice s.a2 s.l2.length s.c2] 28)).cell? ⟨w.heap.size+1,0,none⟩=some (.slice s.a1 s.l1.length s.c1):=by simp
 have k2:((w.alloc (.cells #[.slice a ll.length c] 25)).alloc (.cells #[.slice s.a1 s.l1.length s.c1,.slice s.a2 s.l2.length s.c2] 28)).cell? ⟨w.heap.size+1,1,none⟩=some (.slice s.a2 s.l2.length s.c2):=by simp
 generalize (w.alloc (.cells #[.slice a ll.length c] 25)).alloc (.cells #[.slice s.a1 s.l1.length s.c1,.slice s.a2 s.l2.length s.c2] 28)=W at *
 have hlt:w.heap.size+1 < W.heap.size:=World.block_lt_of_cell? _ _ k1
 have C1:=fun p:BelowOf W=>ireads_any a b o c ll p.x hl hls ((h.below hb2 (Nat.le_refl _)).below p.h (Nat.le_refl _))
 rw [hr] at C1
 have saW:=sa.below hb2 (Nat.le_refl _)
 have C2:=fun p:BelowOf W=>valsOk_any s.a1 s.b1 s.o1 s.c1 s.l1 p.x hs1 (saW.below p.h (Nat.le_refl _)).reads
 have C3:=fun p:BelowOf W=>valsOk_any s.a2 s.b2 s.o2 s.c2 s.l2 p.x hs2 (saW.below p.h (Nat.le_refl _)).last
 have K0:=BelowOf.cell k0
 have K1:=BelowOf.cell k1
 have K2:=BelowOf.cell k2
 clear k0 k1 k2 h sa saW
 by_cases g1:(s.l1.length:Int)=r
 ·by_cases g2:s.l2.length=3
  ·cases g3:M.vals s.l1
   ·rw [g3] at C2
    rw [g2] at K2 C3
    haveI:Inhabited (BelowOf W):=⟨belOf W⟩
    refine wp_region_quiet_bel (by kernel_rfl) (by kernel_rfl) ?_
    repeat (quiet_step (first | (go_at_call 94;exact Calls.bel_of (C1 _)) | (go_at_call_of 95 (Value.slice s.a1 s.l1.length s.c1);exact Calls.bel_of_same (C2 _))))
    refine wpQuiet_nil ?_
    rintro _ ⟨⟨wq,hwq⟩,rfl⟩
    go_wp2_with fail
    go_ret
    exact ⟨ret_bool (M.seenOk_3 g3).symm,hb2.trans (hwq.mono hb2.size)⟩
   ·rw [g3] at C2
    rw [g2] at K2 C3
    generalize hv:M.vals s.l2=v at C3
    haveI:Inhabited (BelowOf W):=⟨belOf W⟩
    refine wp_region_quiet_bel (by kernel_rfl) (by kernel_rfl) ?_
    repeat (quiet_step (first | (go_at_call 94;exact Calls.bel_of (C1 _)) | (go_at_call_of 95 (Value.slice s.a1 s.l1.length s.c1);exact Calls.bel_of_same (C2 _)) | (go_at_call_of 95 (Value.slice s.a2 3 s.c2);exact Calls.bel_of_same (C3 _))))
    refine wpQuiet_nil ?_
    rintro _ ⟨⟨wq,hwq⟩,rfl⟩
    go_wp2_with fail
    go_ret
    exact ⟨ret_bool (by rw [M.seenOk_4 (by rw [hr];exact g1) g2 g3,hv]),hb2.trans (hwq.mono hb2.size)⟩
  ·have g2':((s.l2.length:Int)==3)=false:=by simp;omega
   haveI:Inhabited (BelowOf W):=⟨belOf W⟩
   refine wp_region_quiet_bel (by kernel_rfl) (by kernel_rfl) ?_
   repeat (quiet_step (first | (go_at_call 94;exact Calls.bel_of (C1 _))))
   refine wpQuiet_nil ?_
   rintro _ ⟨⟨wq,hwq⟩,rfl⟩
   go_wp2_with fail
   go_ret
   exact ⟨ret_bool (M.seenOk_2 g2).symm,hb2.trans (hwq.mono hb2.size)⟩
 ·have g1':((s.l1.length:Int)==r)=false:=by simpa using g1
  haveI:Inhabited (BelowOf W):=⟨belOf W⟩
  refine wp_region_quiet_bel (by kernel_rfl) (by kernel_rfl) ?_
  repeat (quiet_step (first | (go_at_call 94;exact Calls.bel_of (C1 _))))
  refine wpQuiet_nil ?_
  rintro _ ⟨⟨wq,hwq⟩,rfl⟩
  go_wp2_with fail
  go_ret
  exact ⟨ret_bool (M.seenOk_1 (by rw [hr];exact g1)).symm,hb2.trans (hwq.mono hb2.size)⟩
end
section
open Go.RowKit
theorem own_ge {w:World} {base:Nat} {e:TypeId} {size:Nat} {v:Value} {n:Nat} {xs:List Value} (h:w.ownsRow base e size v n xs):∀ k,v.ownBlock=some k→base≤k:=fun k hk=>(h.lt k hk).1
theorem below_grown {B:Nat} {w0 w w':World} {row:Option Nat} (h:Below B w0 w) (hg:w.grownBy w' row) (hr:∀ k,row=some k→B≤k) (hB:B≤w.heap.size:=by simp):Below B w0 w' :=
 ⟨hg.os.trans h.os,hg.tape.trans h.tape,hg.output.trans h.output,Nat.le_trans h.size hg.size,fun k hk=>(hg.block k (by omega) (fun e=>by have:=hr k e.symm;omega)).trans (h.block k hk)⟩
theorem ownsRow_below {w w':World} {base:Nat} {e:TypeId} {size:Nat} {v:Value} {n:Nat} {xs:List Value} (h:w.ownsRow base e size v n xs) (hb:Below w.heap.size w w'):w'.ownsRow base e size v n xs:=by
 obtain ⟨h1,h2⟩:=h
 refine ⟨h1,?_⟩
 rcases h2 with h2 | ⟨g,cap,cur,hv,hg,hh,r⟩
 ·exact Or.inl h2
 ·refine Or.inr ⟨g,cap,cur,hv,hg,?_,r⟩
  rw [hb.block g (by by_cases hlt:g < w.heap.size;exact hlt;rw [Array.getElem?_eq_none (by omega)] at hh;cases hh)]
  exact hh
def nums (l:List Int):List Value:=l.map (.int .i64)
structure Slot2 (w:World) (b:Nat) (x y:Value):Prop where
 blk:w.heap[b]?=some (.cells #[x,y] 28 (0,0))
theorem Slot2.lt {w:World} {b:Nat} {x y:Value} (h:Slot2 w b x y):b < w.heap.size:=by
 by_cases hb:b < w.heap.size
 ·exact hb
 ·have:=h.blk;rw [Array.getElem?_eq_none (by omega)] at this;cases this
theorem Slot2.c0 {w:World} {b:Nat} {x y:Value} (h:Slot2 w b x y):w.cell? ⟨b,0,none⟩=some x:=by simp [World.cell?,h.blk]
theorem Slot2.c1 {w:World} {b:Nat} {x y:Value} (h:Slot2 w b x y):w.cell? ⟨b,1,none⟩=some y:=by simp [World.cell?,h.blk]
theorem Slot2.fz {w:World} {b:Nat} {x y:Value} (h:Slot2 w b x y) (i:Nat):w.frozen? ⟨b,i,none⟩=false:=by simp [World.frozen?,h.blk]
theorem Slot2.of {w w':World} {b:Nat} {x y:Value} (h:Slot2 w b x y) (hb:w'.heap[b]?=w.heap[b]?):Slot2 w' b x y:=⟨hb.trans h.blk⟩
theorem Slot2.grown {w w':World} {b B n:Nat} {x y v:Value} {xs:List Value} (h:Slot2 w b x y) (hg:w.grownBy w' v.ownBlock) (ho:w.ownsRow B 3 1 v n xs):Slot2 w' b x y:=by
 refine h.of (hg.block b h.lt fun e=>?_)
 rcases ho.2 with ⟨hv,_⟩ | ⟨g,cap,cur,hv,_,hh,_⟩
 ·rw [hv] at e;simp [Value.ownBlock] at e
 ·rw [hv] at e
  simp [Value.ownBlock] at e
  subst e
  rw [h.blk] at hh
  simp at hh
theorem Slot2.far {w:World} {b b' i:Nat} {x y:Value} (h:Slot2 w b x y) (hne:b'≠b) (u:Value):Slot2 (w.setCell ⟨b',i,none⟩ u) b x y:=h.of (Below.heap_setCell _ _ _ _ (fun e=>hne e.symm))
theorem Slot2.set0 {w:World} {b:Nat} {x y:Value} (h:Slot2 w b x y) (u:Value):Slot2 (w.setCell ⟨b,0,none⟩ u) b u y:=⟨heap_setCell_same w b 0 #[x,y] _ u h.blk⟩
theorem Slot2.set1 {w:World} {b:Nat} {x y:Value} (h:Slot2 w b x y) (u:Value):Slot2 (w.setCell ⟨b,1,none⟩ u) b x u:=⟨heap_setCell_same w b 1 #[x,y] _ u h.blk⟩
theorem own_slot {w:World} {b i B n:Nat} {x y v:Value} {xs:List Value} (ho:w.ownsRow B 3 1 v n xs) (h:Slot2 w b x y) (u:Value):(w.setCell ⟨b,i,none⟩ u).ownsRow B 3 1 v n xs:=by
 refine ⟨ho.1,?_⟩
 rcases ho.2 with h0 | ⟨g,cap,cur,hv,hg,hh,r⟩
 ·exact Or.inl h0
 ·refine Or.inr ⟨g,cap,cur,hv,hg,?_,r⟩
  rw [Below.heap_setCell _ _ _ _ (fun e=>?_)]
  ·exact hh
  ·simp at e
   subst e
   rw [h.blk] at hh
   simp at hh
theorem own_nums {w:World} {base:Nat} {v:Value} {l:List Int} (h:w.ownsRow base 3 1 v l.length (nums l)):∃ a g c,v=.slice a l.length c∧IntS w a g 0 l∧base≤g∧(a=none→c=0):=by
 rcases h.2 with ⟨hv,hn⟩ | ⟨g,cap,cur,hv,hg,hh,r⟩
 ·have:l=[]:=List.length_eq_zero_iff.1 hn
  subst this
  exact ⟨none,base,0,hv,IntS.nil _ _ _ _,Nat.le_refl _,fun _=>rfl⟩
 ·refine ⟨_,g,cap,hv,⟨fun _=>rfl,fun i hi=>?_⟩,hg,fun h=>by cases h⟩
  have hc:=h.cells (g:=g) (by rw [hv];rfl) i (.int .i64 l[i]) (by simp [nums,hi])
  rwa [Go.WideShapes.add_plain] at hc
theorem own_below {v v':Value} {B2:Nat} (h:∀ k,v.ownBlock=some k→k < B2) (h':∀ k,v'.ownBlock=some k→B2≤k):v.ownBlock=none∨v.ownBlock≠v'.ownBlock:=by
 cases hv:v.ownBlock with
 | none=>exact Or.inl rfl
 | some k =>
  refine Or.inr fun e=>?_
  have h1:=h k hv
  have h2:=h' k e.symm
  omega
theorem three {m:List Int} (h:m.length=3):∃ x y z,m=[x,y,z]:=by
 match m,h with
 | [x,y,z],_=>exact ⟨x,y,z,rfl⟩
theorem alloc_new (w:World) (o:Obj) (n:Nat) (hn:n=w.heap.size):(w.alloc o).heap[n]?=some o:=by subst hn;exact heap_alloc_new w o
theorem alloc_old (w:World) (o:Obj) (k:Nat) (hk:k < w.heap.size):(w.alloc o).heap[k]?=w.heap[k]?:=(below1 w o).block k hk
theorem Tryz.infoInt:(Tryz.prog.info? 3).map (fun i=>(i.zero,i.size,i.bytes))=some (some (.int .i64 0),1,8):=by kernel_rfl
theorem IntS.but {w w':World} {a:Option Addr} {rb b o:Nat} {l:List Int} (h:IntS w a b o l) (hb:But rb w w') (hne:b≠rb):IntS w' a b o l :=
 ⟨h.addr,fun i hi=>by rw [hb.cell (p:=⟨b,o+i,none⟩) (h.lt (by omega)) hne];exact h.row i hi⟩
theorem IntS.far {w:World} {a:Option Addr} {b o B i:Nat} {l:List Int} {u:Value} (h:IntS w a b o l) (hb:0 < l.length→b≠B):IntS (w.setCell ⟨B,i,none⟩ u) a b o l :=
 ⟨h.addr,fun j hj=>by rw [World.cell?_setCell_other _ _ _ _ (fun e=>hb (by omega) (congrArg Addr.block e).symm)];exact h.row j hj⟩
theorem own_fzS {w:World} {B g n cap:Nat} {e:TypeId} {size:Nat} {xs:List Value} (h:w.ownsRow B e size (.slice (some ⟨g,0,none⟩) n cap) n xs) (i:Nat):w.frozen? ⟨g,i,none⟩=false:=by
 rcases h.2 with ⟨hv,_⟩ | ⟨g',cap',cur,hv,_,hh,_⟩
 ·simp at hv
 ·simp at hv
  obtain ⟨rfl,_⟩:=hv
  simp [World.frozen?,hh]
def Sn.blk (s:Sn) (b:Nat):Prop:=(0 < s.l1.length∧b=s.b1)∨(0 < s.l2.length∧b=s.b2)
structure Own2 (w:World) (s:Sn):Prop where
 ne:0 < s.l1.length→0 < s.l2.length→s.b1≠s.b2
 fz:∀ b,s.blk b→∀ j,w.frozen? ⟨b,j,none⟩=false
end
section
namespace M
theorem comp_self (l:List Int):comp l l=0:=by
 induction l with
 | nil=>rfl
 | cons x l ih=>rw [comp,if_neg (by omega),if_neg (by omega)];exact ih
theorem comp_zero:∀ l m:List Int,comp l m=0→l=m
 | [],[],_=>rfl
 | [],_::_,h=>by rw [comp] at h;cases h
 | _::_,[],h=>by rw [comp] at h;cases h
 | x::l,y::m,h=>by
  rw [comp] at h
  by_cases h1:x < y
  ·rw [if_pos h1] at h;cases h
  ·rw [if_neg h1] at h
   by_cases h2:y < x
   ·rw [if_pos h2] at h;cases h
   ·rw [if_neg h2] at h
    rw [comp_zero l m h,show x=y by omega]
theorem comp_neg:∀ l m:List Int,comp m l=- comp l m
 | [],[]=>rfl
 | [],_::_=>rfl
 | _::_,[]=>rfl
 | x::l,y::m=>by
  rw [comp,comp]
  by_cases h1:x < y
  ·rw [if_pos h1,if_neg (by omega),if_pos h1];rfl
  ·by_cases h2:y < x
   ·rw [if_pos h2,if_neg h1,if_pos h2]
   ·rw [if_neg h2,if_neg h1,if_neg h1,if_neg h2];exact comp_neg l m
theorem cmpS_self (a b:List Int):cmpS a b a b=0:=by rw [cmpS,comp_self,if_pos rfl,comp_self]
theorem cmpS_zero {a1 a2 b1 b2:List Int} (h:cmpS a1 a2 b1 b2=0):a1=b1∧a2=b2:=by
 unfold cmpS at h
 by_cases h0:comp a1 b1=0
 ·rw [if_pos h0] at h;exact ⟨comp_zero _ _ h0,comp_zero _ _ h⟩
 ·rw [if_neg h0] at h;exact absurd h h0
theorem cmpS_neg (a1 a2 b1 b2:List Int):cmpS b1 b2 a1 a2=- cmpS a1 a2 b1 b2:=by
 unfold cmpS
 rw [comp_neg a1 b1,comp_neg a2 b2]
 by_cases h0:comp a1 b1=0
 ·rw [if_pos h0,if_pos (by omega)]
 ·rw [if_neg h0,if_neg (by omega)]
def same:List Int→List Int→Bool
 | [],[]=>true
 | x::l,y::m=>x==y&&same l m
 | _,_=>false
theorem same_eq:∀ l m:List Int,same l m=true↔l=m
 | [],[]=>by simp [same]
 | [],_::_=>by simp [same]
 | _::_,[]=>by simp [same]
 | x::l,y::m=>by simp [same,same_eq l m]
def sameS (a1 a2 b1 b2:List Int):Bool:=same a1 b1&&same a2 b2
theorem sameS_eq (a1 a2 b1 b2:List Int):sameS a1 a2 b1 b2=decide (cmpS a1 a2 b1 b2=0):=by
 by_cases h:cmpS a1 a2 b1 b2=0
 ·obtain ⟨rfl,rfl⟩:=cmpS_zero h
  simp [sameS,h,(same_eq _ _).2]
 ·rw [decide_eq_false h]
  by_cases h1:a1=b1
  ·by_cases h2:a2=b2
   ·subst h1;subst h2;exact absurd (cmpS_self _ _) h
   ·have:same a2 b2=false:=by
     cases e:same a2 b2
     ·rfl
     ·exact absurd ((same_eq _ _).1 e) h2
    rw [sameS,this,Bool.and_false]
  ·have:same a1 b1=false:=by
    cases e:same a1 b1
    ·rfl
    ·exact absurd ((same_eq _ _).1 e) h1
   rw [sameS,this,Bool.false_and]
end M
end
section
open Go.RowKit
abbrev Key:=List Int × List Int
namespace M
end M
end
end Go.Proofs.YtegommoflmmahaaGreat
