/- spec.l71Prog: a drawn program that is ok. -/
import Derived.Test.YtmhpgdliaclokaaGreatRows
import Derived.Test.YtmhpgdliaclokaaGreatQyag
namespace Go.Proofs.YtmhpgdliaclokaaGreat
section
open Go.RowKit
theorem own_one {w:World} {B:Nat} {e:TypeId} {size:Nat} {v:Value} {n:Nat} {xs:List Value} (h:w.ownsRow B e size v n xs):v.oneCell'=true:=by
 rcases h.2 with ⟨hv,_⟩ | ⟨g,cap,cur,hv,_⟩<;>rw [hv]<;>rfl
theorem wrap_small (x:Int) (h0:0≤x) (h1:x≤1000000):IntKind.i64.wrap x=x:=by rw [IntKind.wrap_i64];omega
theorem build_lit (W:World) (B:Nat) (hB:B≤W.heap.size) :
  Build (((W.alloc (.cells #[.int .i64 1,.int .i64 0,.int .i64 1] 94)).alloc (.cells #[.int .i64 2,.int .i64 0,.int .i64 0] 94)).alloc (.cells #[.slice (some ⟨W.heap.size,0,none⟩) 1 1,.slice (some ⟨W.heap.size+1,0,none⟩) 1 1] 97)) B
   (.slice (some ⟨W.heap.size+1+1,0,none⟩) 2 2) [[⟨1,0,1⟩],[⟨2,0,0⟩]] [.slice (some ⟨W.heap.size,0,none⟩) 1 1,.slice (some ⟨W.heap.size+1,0,none⟩) 1 1]:=by
 have h1:(W.alloc (.cells #[.int .i64 1,.int .i64 0,.int .i64 1] 94)).ownsRow B 94 3 (.slice (some ⟨W.heap.size,0,none⟩) 1 1) 1 (flat [⟨1,0,1⟩]):=World.ownsRow_lit W _ 1 hB (by decide) rfl
 have h2:((W.alloc (.cells #[.int .i64 1,.int .i64 0,.int .i64 1] 94)).alloc (.cells #[.int .i64 2,.int .i64 0,.int .i64 0] 94)).ownsRow B 94 3 (.slice (some ⟨W.heap.size+1,0,none⟩) 1 1) 1 (flat [⟨2,0,0⟩]):=by
  have:=World.ownsRow_lit (base:=B) (e:=94) (size:=3) (W.alloc (.cells #[.int .i64 1,.int .i64 0,.int .i64 1] 94)) #[.int .i64 2,.int .i64 0,.int .i64 0] 1 (by simp;omega) (by decide) rfl
  simp only [World.size_alloc] at this
  exact this
 have h3:=World.ownsRow_lit (base:=B) (e:=97) (size:=1) ((W.alloc (.cells #[.int .i64 1,.int .i64 0,.int .i64 1] 94)).alloc (.cells #[.int .i64 2,.int .i64 0,.int .i64 0] 94)) #[.slice (some ⟨W.heap.size,0,none⟩) 1 1,.slice (some ⟨W.heap.size+1,0,none⟩) 1 1] 2 (by simp;omega) (by decide) rfl
 simp only [World.size_alloc] at h3
 refine ⟨h3,rfl,fun i hi _=>?_⟩
 match i,hi with
 | 0,_=>exact (h1.alloc _).alloc _
 | 1,_=>exact h2.alloc _
theorem build_two (W:World) (B H:Nat) (x1 x2:Value) (l1 l2:List M.D) (h1:W.ownsRow B 94 3 x1 l1.length (flat l1)) (h2:W.ownsRow B 94 3 x2 l2.length (flat l2)) (hB:B≤W.heap.size) (hH:W.heap.size=H) :
  Build (W.alloc (.cells #[x1,x2] 97)) B (.slice (some ⟨H,0,none⟩) 2 2) [l1,l2] [x1,x2]:=by
 subst hH
 have h3:=World.ownsRow_lit (base:=B) (e:=97) (size:=1) W #[x1,x2] 2 hB (by decide) rfl
 refine ⟨h3,rfl,fun i hi _=>?_⟩
 match i,hi with
 | 0,_=>exact h1.alloc _
 | 1,_=>exact h2.alloc _
theorem build_first {w w7:World} {B G g cap:Nat} {x1 x2:Value} {l1 l2:List M.D} {d:M.D} (hB:Build w B (.slice (some ⟨G,0,none⟩) 2 2) [l1,l2] [x1,x2]) (hne:x2.ownBlock=none∨x2.ownBlock≠x1.ownBlock)
  (ho:w7.ownsRow B 94 3 (.slice (some ⟨g,0,none⟩) (l1.length+1) cap) (l1.length+1) (flat l1++flat [d])) (hg:w.grownBy w7 x1.ownBlock) :
  Build (w7.setCell ⟨G,0,none⟩ (.slice (some ⟨g,0,none⟩) (l1.length+1) cap)) B (.slice (some ⟨G,0,none⟩) 2 2) [l1++[d],l2] [.slice (some ⟨g,0,none⟩) (l1.length+1) cap,x2]:=by
 have h1:=hB.inner 0 (by simp) (by simp)
 have h2:=hB.inner 1 (by simp) (by simp)
 have ho7:=hB.outer.kept hg (own_apart hB.outer h1 (by decide))
 have h27:w7.ownsRow B 94 3 x2 l2.length (flat l2):=World.ownsRow.kept h2 hg hne
 obtain ⟨s1,s2⟩:=World.ownsRow.stored ho7 0 (.slice (some ⟨g,0,none⟩) (l1.length+1) cap)
 refine ⟨s1,rfl,fun i hi _=>?_⟩
 match i,hi with
 | 0,_ =>
  have:w7.ownsRow B 94 3 (.slice (some ⟨g,0,none⟩) (l1.length+1) cap) (l1++[d]).length (flat (l1++[d])):=by rw [flat_append,List.length_append];exact ho
  exact this.kept s2 (own_apart this ho7 (by decide))
 | 1,_=>exact h27.kept s2 (own_apart h27 ho7 (by decide))
set_option maxHeartbeats 4000000 in
set_option maxRecDepth 100000 in
theorem l71Prog_any (B rb p:Nat) (w:World) (hp:p≤400000) (h:Rdr w B rb p) :
  Calls Tryz.prog 161 #[.pointer (some ⟨rb,0,none⟩)] w fun e w'=>∃ (ll:List (List M.D)) (vs:List Value) (v:Value),e=.returned (.agg #[v])∧Build w' (w.heap.size+1) v ll vs∧M.prog ll=true∧M.steps ll≤8∧0 < ll.length∧∃ p':Nat,p'≤p+10000∧Rdr w' B rb p'∧But rb w w':=by
 have hlt:=h.lt
 have hge:=h.ge
 obtain ⟨i0,hi,hz0,hz1,hz2⟩:=info_parts Tryz.info97
 obtain ⟨i1,hi1,hz01,hz11,hz21⟩:=info_parts Tryz.info94
 go_enter Tryz.func161,Tryz.ntmps161
 go_wp2_with fail
 go_loopw [3] (fun s3 wr=>∃ k p':Nat,s3=.int .i64 k∧k≤12∧p'≤p+300 * k∧Rdr wr B rb p'∧But rb w wr∧Slot1 wr w.heap.size (.slice none 0 0)) (fun s3 _=>12 - (intOf s3).toNat)
 case atStart=>exact ⟨0,p,rfl,by omega,by omega,h.alloc _,(But.refl rb w).alloc _,Slot1.new w _ _⟩
 case round =>
  obtain ⟨k,p',rfl,hk,hp',hr,hb,hR⟩:=hrel
  obtain ⟨W0,hW0⟩:∃ W0:World,W0=wr:=⟨_,rfl⟩
  subst hW0
  by_cases hlk:k < 12
  ·have hlk':(k:Int) < 12:=by omega
   go_wp2_with fail
   refine (pick_rdr B rb p' _ _ (by omega) (by omega) (by omega) (hr.alloc _)).mono ?_
   rintro e w1 ⟨r1,rfl,r10,r11,hr1,hb1⟩
   have hP1:=(Slot1.new W0 _ _).but hb1 (by have:=hr.lt;omega)
   have hR1:=(hR.but ((But.refl rb _).alloc _) (by omega)).but hb1 (by omega)
   have hb1':=(hb.alloc _).trans hb1
   have hsz:=hb.size
   have hRlt:=hR.lt
   have hrlt:=hr.lt
   clear hb1 hR hb hr
   go_wp2_with fail
   refine (pick_rdr B rb (p'+1) _ _ (by omega) (by omega) (by omega) hr1).mono ?_
   rintro e w2 ⟨r2,rfl,r20,r21,hr2,hb2⟩
   have hP2:=hP1.but hb2 (by omega)
   have hR2:=hR1.but hb2 (by omega)
   have hb2':=hb1'.trans hb2
   clear hb2 hR1 hb1' hr1 hP1
   by_cases h0:r2=0
   ·subst h0
    go_wp2_with fail
    refine (l71Reader_any B rb (p'+1+1) 2 _ (by omega) (by omega) (by omega) hr2).mono ?_
    rintro e w3 ⟨l1,v1,rfl,ho1,hl1,p3,hp3,hr3,hb3⟩
    have hP3:=hP2.but hb3 (by omega)
    have hR3:=hR2.but hb3 (by omega)
    have hb3':=hb2'.trans hb3
    have hltw2:W0.heap.size < w2.heap.size:=hP2.lt
    clear hb3 hR2 hb2' hr2 hP2
    go_wp2_with fail
    refine (l71Waiter_any B rb p3 2 _ (by omega) (by omega) (by omega) hr3).mono ?_
    rintro e w4 ⟨l2,v2,rfl,ho2,hl2,p4,hp4,hr4,hb4⟩
    have hltw3:W0.heap.size < w3.heap.size:=hP3.lt
    have hP4:=hP3.but hb4 (by omega)
    have hR4:=hR3.but hb4 (by omega)
    have hb4':=hb3'.trans hb4
    have ho1':=ownsRow_but ho1 hb4 (by omega)
    have hbk:∀ k,v1.ownBlock=some k→k < w3.heap.size:=fun k hk=>(ho1.lt k hk).2
    clear hb4 hR3 hb3' hr3 hP3 ho1
    obtain ⟨a1,g1,c1,rfl,_,_⟩:=own_steps ho1'
    obtain ⟨a2,g2,c2,rfl,_,_⟩:=own_steps ho2
    have hne12:(Value.slice a2 l2.length c2).ownBlock=none∨(Value.slice a2 l2.length c2).ownBlock≠(Value.slice a1 l1.length c1).ownBlock:=by
     cases e2:(Value.slice a2 l2.length c2).ownBlock with
     | none=>exact Or.inl rfl
     | some k2 =>
      right
      intro e
      have h1:=hbk k2 e.symm
      have h2:=own_ge ho2 k2 e2
      omega
    have HN:Hid ((Value.slice a2 l2.length c2).ownBlock=none∨(Value.slice a2 l2.length c2).ownBlock≠(Value.slice a1 l1.length c1).ownBlock):=hne12
    have HL1:Hid (l1.length=4):=hl1
    have HL2:Hid (l2.length=3):=hl2
    have h1b:l1.length≤4:=by omega
    have h2b:l2.length≤3:=by omega
    clear hl1 hl2 hne12 hbk
    have cP:=hP4.c
    have fP:=hP4.fz
    have hltP:=hP4.lt
    have hsz4:=hb4'.size
    go_wp2_with fail
    have hB5:=build_two (w4.setCell ⟨W0.heap.size,0,none⟩ (.slice (some ⟨w4.heap.size,0,none⟩) 2 2)) (W0.heap.size+1) w4.heap.size _ _ l1 l2 (ownsRow_far (ownsRow_mono ho1' hltw2) (Nat.lt_succ_self _) _) (ownsRow_far (ownsRow_mono ho2 hltw3) (Nat.lt_succ_self _) _) (by simp [World.setCell];omega) (by simp [World.setCell])
    have hP5:=(hP4.set (.slice (some ⟨w4.heap.size,0,none⟩) 2 2)).but (rb:=rb) ((But.refl rb _).alloc (.cells #[.slice a1 l1.length c1,.slice a2 l2.length c2] 97)) (by omega)
    have hR5:=(hR4.far (b':=W0.heap.size) (i:=0) (by omega) (.slice (some ⟨w4.heap.size,0,none⟩) 2 2)).but (rb:=rb) ((But.refl rb _).alloc (.cells #[.slice a1 l1.length c1,.slice a2 l2.length c2] 97)) (by omega)
    have hb5:=(hb4'.setCell (p:=⟨W0.heap.size,0,none⟩) (Or.inl hsz) (.slice (some ⟨w4.heap.size,0,none⟩) 2 2)).alloc (.cells #[.slice a1 l1.length c1,.slice a2 l2.length c2] 97)
    refine (pick_rdr B rb p4 _ _ (by omega) (by omega) (by omega) ((hr4.setCell (b:=W0.heap.size) (by omega) (by omega) _).alloc _)).mono ?_
    rintro e w5 ⟨r5,rfl,r50,r51,hr6,hb6⟩
    have hB6:=hB5.but hb6 (by omega)
    have hP6:=hP5.but hb6 (by omega)
    have hR6:=hR5.but hb6 (by omega)
    have hb6':=hb5.trans hb6
    clear hB5 hP5 hR5 hb5 hb6 hr4 hP4 hR4 hb4' cP fP hltP ho1' ho2
    by_cases h5:r5=0
    ·subst h5
     have cP:=hP6.c
     have hltP:=hP6.lt
     have hltR:=hR6.lt
     have hge6:=own_ge hB6.outer
     have hG:W0.heap.size+1≤w4.heap.size:=hge6 _ rfl
     have hGlt:w4.heap.size < w5.heap.size:=(hB6.outer.lt _ rfl).2
     have o0:w5.cell? ⟨w4.heap.size,0,none⟩=some (.slice a1 l1.length c1):=(World.ownsRow.cellAt hB6.outer 0 (by decide))
     have hin:=hB6.inner 0 (by simp) (by simp)
     have hgei:=own_ge hin
     have he35:∀ args w,(callFunc 193 args).run Tryz.prog w=.ok (.enter 193 args) w:=enters_of Tryz.func193 (by kernel_rfl) rfl
     have hsz5:=hb6'.size
     go_wp2_with fail
     go_region_law (first | (refine step_go2 (by rfl) 193 _ _ _ (by rfl) _ _ (by rfl) (by rfl) he35 (l71Do_any B rb (p4+1) 2 _ (by omega) (by omega) (by omega) hr6.drew) ?_;rintro e w6 ⟨⟨dk,dp,dv⟩,p7,rfl,hp7,hr7,hb7⟩;have hb7d:=(But.refl rb _).drew.trans hb7;have hP7:=hP6.but hb7d (by omega);have cP7:=hP7.c;have hR7:=hR6.but hb7d (by omega);have hB7:=hB6.but hb7d (by omega);have o7:w6.cell? ⟨w4.heap.size,0,none⟩=some (.slice a1 l1.length c1):=(World.ownsRow.cellAt hB7.outer 0 (by decide));have f7:=World.ownsRow.frozenAt hB7.outer 0;have hb7':=hb6'.trans hb7d;have hin7:w6.ownsRow (W0.heap.size+1) 94 3 (.slice a1 l1.length c1) l1.length (flat l1):=hB7.inner 0 (by simp) (by simp);have hG7:w4.heap.size < w6.heap.size:=Nat.lt_of_lt_of_le hGlt hb7d.size;have hsz7:=hb7d.size;have hltP7:=hP7.lt;refine ⟨_,rfl,?_⟩) | (refine step_append_lies _ (by rfl) _ _ _ (by rfl) (W0.heap.size+1) 94 i1 _ 3 24 Tryz.underlying97 hi1 hz01 hz11 hz21 rfl (by omega) (.slice a1 l1.length c1) l1.length (flat l1) (by rfl) (hin7.alloc _) ⟨w6.heap.size,0,none⟩ 1 1 [.int .i64 dk,.int .i64 dp,.int .i64 dv] (by rfl) (by rfl) (World.news_of_block (cs:=#[.int .i64 dk,.int .i64 dp,.int .i64 dv]) (t:=94) (fr:=(0,0)) (heap_alloc_new w6 _)) (by simp [Value.oneCell']) (by omega) (by unfold maxLen;omega) (by omega) (by simp;omega) (w6.heap.size+1) (by simp) ?_;intro g cap w7 hown8 hgr hat hltg;have hap:=own_apart (hB7.outer.alloc (.cells #[.int .i64 dk,.int .i64 dp,.int .i64 dv] 94)) (hin7.alloc (.cells #[.int .i64 dk,.int .i64 dp,.int .i64 dv] 94)) (Nat.ne_of_beq_eq_false rfl);have hou8:=World.ownsRow.kept (hB7.outer.alloc (.cells #[.int .i64 dk,.int .i64 dp,.int .i64 dv] 94)) hgr hap;have o8:w7.cell? ⟨w4.heap.size,0,none⟩=some (.slice a1 l1.length c1):=World.ownsRow.cellAt hou8 0 (Nat.lt_of_sub_eq_succ rfl);have f8:=World.ownsRow.frozenAt hou8 0;have hP8:=(hP7.but (rb:=rb) ((But.refl rb _).alloc (.cells #[.int .i64 dk,.int .i64 dp,.int .i64 dv] 94)) (by omega)).grown hgr (fun k hk=>own_ge hin7 k hk);have cP8:=hP8.c))
     all_goals
      have hgi:=own_ge hin7
      have hB9:=build_first (d:=⟨dk,dp,dv⟩) (hB7.but (rb:=rb) ((But.refl rb _).alloc (.cells #[.int .i64 dk,.int .i64 dp,.int .i64 dv] 94)) (by omega)) HN.out hown8 hgr
      have hP9:=hP8.far (b':=w4.heap.size) (i:=0) (by omega) (.slice (some ⟨g,0,none⟩) (l1.length+1) cap)
      have hR9:=(((hR7.but (rb:=rb) ((But.refl rb _).alloc (.cells #[.int .i64 dk,.int .i64 dp,.int .i64 dv] 94)) (by omega)).grown hgr (fun k hk=>by have:=hgi k hk;omega)).far (b':=w4.heap.size) (i:=0) (by omega) (.slice (some ⟨g,0,none⟩) (l1.length+1) cap))
      have hr9:=((hr7.alloc (.cells #[.int .i64 dk,.int .i64 dp,.int .i64 dv] 94)).grown hgr (fun k hk=>⟨by have:=hgi k hk;omega,by have:=hgi k hk;omega⟩)).setCell (b:=w4.heap.size) (i:=0) (by omega) (by omega) (.slice (some ⟨g,0,none⟩) (l1.length+1) cap)
      have hb9:=((hb7'.alloc (.cells #[.int .i64 dk,.int .i64 dp,.int .i64 dv] 94)).grown hgr (fun k hk=>by have:=hgi k hk;omega)).setCell (p:=⟨w4.heap.size,0,none⟩) (Or.inl (by show w.heap.size≤w4.heap.size;omega)) (.slice (some ⟨g,0,none⟩) (l1.length+1) cap)
      clear hgi hgr hown8 hou8 o8 f8 hP8 cP8 hap hat hltg hP7 cP7 hR7 hB7 o7 f7 hb7' hin7 hG7 hsz7 hltP7 hb7 hb7d hr7 cP hltP hltR hge6 hG hGlt o0 hin hgei he35 hsz5 hB6 hP6 hR6 hb6' hr6
      generalize w7.setCell ⟨w4.heap.size,0,none⟩ (.slice (some ⟨g,0,none⟩) (l1.length+1) cap)=w9 at *
      obtain ⟨ll,vs,v,hB4,hP4,hj0,hj,h20⟩:∃ ll vs v,Build w9 (W0.heap.size+1) v ll vs∧Slot1 w9 W0.heap.size v∧0 < ll.length∧ll.length≤3∧∀ t∈ll,t.length≤20 :=
       ⟨_,_,_,hB9,hP9,by simp,by simp,fun t ht=>by simp at ht;rcases ht with rfl | rfl<;>(try simp)<;>omega⟩
      have hR4:=hR9
      have hb4:=hb9
      obtain ⟨pj,hpj,hr4⟩:∃ pj,pj≤p'+100∧Rdr w9 B rb pj:=⟨_,by omega,hr9⟩
      clear hB9 hP9 hR9 hb9 hr9
      have hRX:=hR4
      obtain ⟨aX,gX,cX,rfl,hsX⟩:=hB4.ss
      have hPX:=hP4
      obtain ⟨cP,fP⟩:=hP4
      have hltR:=hR4.lt
      go_wp2_with fail
      refine (sprog_any aX gX 0 cX ll _ (by omega) (fun t ht=>by have:=h20 t ht;omega) hsX).mono ?_
      rintro e w5 ⟨rfl,hb5⟩
      have hB5:=hB4.but (rb:=rb) (But.of hb5) (by omega)
      have hR5:=hRX.but (rb:=rb) (But.of hb5) (by omega)
      have hP5:=hPX.but (rb:=rb) (But.of hb5) (by omega)
      have hr5:=hr4.below hb5 (Nat.le_refl _)
      have hb5':=hb4.trans (But.of hb5)
      have hs5:=hsX.below hb5 (Nat.le_refl _)
      clear hB4 hRX hPX hr4 hb4 hsX hb5 cP fP hR4
      cases hok:M.prog ll
      ·obtain ⟨cP,fP⟩:=hP5
       go_wp2_with fail
       exact ⟨⟨k+1,pj,by go_num,by omega,by omega,hr5,hb5',hR5⟩,by simp [intOf];omega⟩
      ·have hPX:=hP5
       obtain ⟨cP,fP⟩:=hP5
       go_wp2_with fail
       refine (l71Steps_any aX gX 0 cX ll _ (by omega) (fun t ht=>by have:=h20 t ht;omega) hs5).mono ?_
       rintro e w6 ⟨rfl,hb6⟩
       have hB6:=hB5.but (rb:=rb) (But.of hb6) (by omega)
       have hR6:=hR5.but (rb:=rb) (But.of hb6) (by omega)
       obtain ⟨cP6,fP6⟩:=hPX.but (rb:=rb) (But.of hb6) (by omega)
       have hr6:=hr5.below hb6 (Nat.le_refl _)
       have hb6':=hb5'.trans (But.of hb6)
       clear hB5 hR5 hPX hr5 hb5' hs5 hb6 cP fP
       by_cases hst:(M.steps ll:Int)≤8
       ·obtain ⟨cR,fR⟩:=hR6
        go_wp2_with fail
        refine bodyPost_ret (v:=.agg #[.slice aX ll.length cX]) (by simp [results,Tryz.results161,go_sem,World.cell?_setCell_same _ _ _ cR]) rfl ⟨ll,vs,_,rfl,?_,hok,by omega,by omega,pj,by omega,?_,?_⟩
        ·exact (hB6.mono (by omega)).far (Nat.lt_succ_self _) _
        ·exact hr6.setCell (by omega) (by omega) _
        ·exact hb6'.setCell (Or.inl (Nat.le_refl _)) _
       ·have hst':decide ((M.steps ll:Int)≤8)=false:=by simpa using hst
        go_wp2_with fail
        exact ⟨⟨k+1,pj,by go_num,by omega,by omega,hr6,hb6',hR6⟩,by simp [intOf];omega⟩
    ·have h5':(r5==0)=false:=by simpa using h5
     obtain ⟨ll,vs,v,hB4,hP4,hj0,hj,h20⟩:∃ ll vs v,Build w5 (W0.heap.size+1) v ll vs∧Slot1 w5 W0.heap.size v∧0 < ll.length∧ll.length≤3∧∀ t∈ll,t.length≤20 :=
      ⟨_,_,_,hB6,hP6,by simp,by simp,fun t ht=>by simp at ht;rcases ht with rfl | rfl<;>omega⟩
     have hR4:=hR6
     have hb4:=hb6'
     have hr4:=hr6
     obtain ⟨pj,hpj,hr4⟩:∃ pj,pj≤p'+100∧Rdr w5 B rb pj:=⟨_,by omega,hr6⟩
     clear hB6 hP6 hR6 hb6' hr6
     have hRX:=hR4
     obtain ⟨aX,gX,cX,rfl,hsX⟩:=hB4.ss
     have hPX:=hP4
     obtain ⟨cP,fP⟩:=hP4
     have hltR:=hR4.lt
     go_wp2_with fail
     refine (sprog_any aX gX 0 cX ll _ (by omega) (fun t ht=>by have:=h20 t ht;omega) hsX).mono ?_
     rintro e w5 ⟨rfl,hb5⟩
     have hB5:=hB4.but (rb:=rb) (But.of hb5) (by omega)
     have hR5:=hRX.but (rb:=rb) (But.of hb5) (by omega)
     have hP5:=hPX.but (rb:=rb) (But.of hb5) (by omega)
     have hr5:=hr4.below hb5 (Nat.le_refl _)
     have hb5':=hb4.trans (But.of hb5)
     have hs5:=hsX.below hb5 (Nat.le_refl _)
     clear hB4 hRX hPX hr4 hb4 hsX hb5 cP fP hR4
     cases hok:M.prog ll
     ·obtain ⟨cP,fP⟩:=hP5
      go_wp2_with fail
      exact ⟨⟨k+1,pj,by go_num,by omega,by omega,hr5,hb5',hR5⟩,by simp [intOf];omega⟩
     ·have hPX:=hP5
      obtain ⟨cP,fP⟩:=hP5
      go_wp2_with fail
      refine (l71Steps_any aX gX 0 cX ll _ (by omega) (fun t ht=>by have:=h20 t ht;omega) hs5).mono ?_
      rintro e w6 ⟨rfl,hb6⟩
      have hB6:=hB5.but (rb:=rb) (But.of hb6) (by omega)
      have hR6:=hR5.but (rb:=rb) (But.of hb6) (by omega)
      obtain ⟨cP6,fP6⟩:=hPX.but (rb:=rb) (But.of hb6) (by omega)
      have hr6:=hr5.below hb6 (Nat.le_refl _)
      have hb6':=hb5'.trans (But.of hb6)
      clear hB5 hR5 hPX hr5 hb5' hs5 hb6 cP fP
      by_cases hst:(M.steps ll:Int)≤8
      ·obtain ⟨cR,fR⟩:=hR6
       go_wp2_with fail
       refine bodyPost_ret (v:=.agg #[.slice aX ll.length cX]) (by simp [results,Tryz.results161,go_sem,World.cell?_setCell_same _ _ _ cR]) rfl ⟨ll,vs,_,rfl,?_,hok,by omega,by omega,pj,by omega,?_,?_⟩
       ·exact (hB6.mono (by omega)).far (Nat.lt_succ_self _) _
       ·exact hr6.setCell (by omega) (by omega) _
       ·exact hb6'.setCell (Or.inl (Nat.le_refl _)) _
      ·have hst':decide ((M.steps ll:Int)≤8)=false:=by simpa using hst
       go_wp2_with fail
       exact ⟨⟨k+1,pj,by go_num,by omega,by omega,hr6,hb6',hR6⟩,by simp [intOf];omega⟩
   ·have h0':(r2==0)=false:=by simpa using h0
    go_wp2_with fail
    refine (pick_rdr B rb (p'+1+1) _ _ (by omega) (by omega) (by omega) hr2).mono ?_
    rintro e w3 ⟨r3,rfl,r30,r31,hr3,hb3⟩
    have hP3:=hP2.but hb3 (by omega)
    have hR3:=hR2.but hb3 (by omega)
    have hb3':=hb2'.trans hb3
    clear hb3 hR2 hb2' hr2 hP2
    have hr01:r3=0∨r3=1:=by omega
    rcases hr01 with rfl | rfl
    ·go_wp2_with fail
     go_loopw [7] (fun s7 wi=>∃ (j pj:Nat) (ll:List (List M.D)) (vs:List Value) (v:Value),s7=.int .i64 j∧j≤2∧ll.length=j∧(∀ t∈ll,t.length≤20)∧pj≤p'+3+62 * j∧Rdr wi B rb pj∧But rb w wi∧Slot1 wi w.heap.size (.slice none 0 0)∧Slot1 wi W0.heap.size v∧Build wi (W0.heap.size+1) v ll vs) (fun s7 _=>2 - (intOf s7).toNat)
     case atStart=>exact ⟨0,p'+1+1+1,[],[],_,rfl,by omega,rfl,fun t ht=>absurd ht (by simp),by omega,hr3,hb3',hR3,hP3,Build.nil _ _⟩
     case round =>
      clear hr3 hb3' hR3 hP3
      obtain ⟨_,pj,ll,vs,v,rfl,hj,rfl,h20,hpj,hr4,hb4,hR4,hP4,hB4⟩:=hrel
      by_cases hjN:ll.length < 2
      ·have hjN':(ll.length:Int) < 2:=by omega
       have cP:=hP4.c
       have hltP:=hP4.lt
       have hltR:=hR4.lt
       have hsz4:=hb4.size
       have hw3:IntKind.i64.wrap 3=3:=wrap_small 3 (by decide) (by decide)
       go_wp2_with fail
       have he22:∀ args w,(callFunc 65 args).run Tryz.prog w=.ok (.enter 65 args) w:=enters_of Tryz.func65 (by kernel_rfl) rfl
       have he36:∀ args w,(callFunc 194 args).run Tryz.prog w=.ok (.enter 194 args) w:=enters_of Tryz.func194 (by kernel_rfl) rfl
       go_region_law (first | (refine step_go2 (by rfl) 65 _ _ _ (by rfl) _ _ (by rfl) (by rfl) he22 (pick_rdr B rb pj 2 _ (by omega) (by omega) (by omega) hr4.drew) ?_;rintro e w4 ⟨r4,rfl,r40,r41,hr5,hb5⟩;have hb5d:=(But.refl rb _).drew.trans hb5;have hP5:=hP4.but hb5d (by omega);have cP5:=hP5.c;have hR5:=hR4.but hb5d (by omega);have hB5:=hB4.but hb5d (by omega);have hb5':=hb4.trans hb5d;have hw4:=wrap_small (3+r4) (by omega) (by omega);refine ⟨_,rfl,?_⟩) | (refine step_go3 (by rfl) 194 _ _ _ _ (by rfl) _ _ _ (by rfl) (by rfl) (by rfl) he36 (l71Thread_any B rb (pj+1) (3+r4) (1+r1) _ (by omega) (by omega) (by omega) (by omega) (by omega) hr5) ?_;rintro e w5 ⟨l,x,rfl,hown6,hl6,p6,hp6,hr6,hb6⟩;obtain ⟨ax,gx,cx,rfl,hdx,_⟩:=own_steps hown6;have hP6:=hP5.but hb6 (by omega);have cP6:=hP6.c;have hltP6:=hP6.lt;have hB6:=hB5.but hb6 (by omega);have hsz6:=hb6.size;refine ⟨_,rfl,?_⟩) | (refine step_append_lies _ (by rfl) _ _ _ (by rfl) (W0.heap.size+1) 97 i0 _ 1 24 Tryz.underlying23 hi hz0 hz1 hz2 rfl (by omega) v ll.length vs (by rfl) (hB6.outer.alloc _) ⟨w5.heap.size,0,none⟩ 1 1 [.slice ax l.length cx] (by rfl) (by rfl) (World.news_of_block (cs:=#[.slice ax l.length cx]) (t:=97) (fr:=(0,0)) (heap_alloc_new w5 _)) (fun u hu=>by simp at hu;rw [hu];exact own_one hown6) (by omega) (by unfold maxLen;omega) (by omega) (by simp;omega) (w5.heap.size+1) (by simp) ?_;intro g cap w6 hown7 hgr hat hltg;have hP7:=(hP6.but (rb:=rb) ((But.refl rb _).alloc _) (by omega)).grown hgr (fun k hk=>own_ge hB6.outer k hk);have cP7:=hP7.c;have fP7:=hP7.fz))
       all_goals
        have hgek:=own_ge hB6.outer
        have hltw:W0.heap.size < w4.heap.size:=hP5.lt
        have hr7:=(hr6.alloc _).grown hgr (fun k hk=>⟨by have:=hgek k hk;omega,by have:=hgek k hk;omega⟩)
        have hb7:=((hb5'.trans hb6).alloc _).grown hgr (fun k hk=>by have:=hgek k hk;omega)
        have hR7:=((hR5.but hb6 (by omega)).but (rb:=rb) ((But.refl rb _).alloc _) (by omega)).grown hgr (fun k hk=>by have:=hgek k hk;omega)
        have hB7:=Build.snoc (hB6.but (rb:=rb) ((But.refl rb _).alloc _) (by omega)) ((ownsRow_mono hown6 hltw).alloc _) hown7 hgr
        have hP8:=hP7.set (.slice (some ⟨g,0,none⟩) (ll.length+1) cap)
        have hr8:=hr7.setCell (b:=W0.heap.size) (i:=0) (by omega) (by omega) (.slice (some ⟨g,0,none⟩) (ll.length+1) cap)
        have hb8:=hb7.setCell (p:=⟨W0.heap.size,0,none⟩) (Or.inl hsz) (.slice (some ⟨g,0,none⟩) (ll.length+1) cap)
        have hR8:=hR7.far (b':=W0.heap.size) (i:=0) (by omega) (.slice (some ⟨g,0,none⟩) (ll.length+1) cap)
        have hB8:=hB7.far (b:=W0.heap.size) (i:=0) (by omega) (.slice (some ⟨g,0,none⟩) (ll.length+1) cap)
        have h20':∀ t∈ll++[l],t.length≤20:=fun t ht=>by
         rcases List.mem_append.1 ht with h | h
         ·exact h20 t h
         ·simp at h;rw [h];exact hl6
        clear hr7 hb7 hR7 hB7 hgr hown7 hP7 hP6 hB6 hB5 hP5 hR5 hb5' hb6 hr6 hr5 hgek
        go_wp2_with fail
        exact ⟨⟨ll.length+1,p6,ll++[l],vs++[.slice ax l.length cx],_,by go_num,by omega,by simp,h20',by omega,hr8,hb8,hR8,hP8,hB8⟩,by simp [intOf];omega⟩
      ·have hjN':¬ (ll.length:Int) < 2:=by omega
       have hRX:=hR4
       obtain ⟨aX,gX,cX,rfl,hsX⟩:=hB4.ss
       have hPX:=hP4
       obtain ⟨cP,fP⟩:=hP4
       have hltR:=hR4.lt
       go_wp2_with fail
       refine (sprog_any aX gX 0 cX ll _ (by omega) (fun t ht=>by have:=h20 t ht;omega) hsX).mono ?_
       rintro e w5 ⟨rfl,hb5⟩
       have hB5:=hB4.but (rb:=rb) (But.of hb5) (by omega)
       have hR5:=hRX.but (rb:=rb) (But.of hb5) (by omega)
       have hP5:=hPX.but (rb:=rb) (But.of hb5) (by omega)
       have hr5:=hr4.below hb5 (Nat.le_refl _)
       have hb5':=hb4.trans (But.of hb5)
       have hs5:=hsX.below hb5 (Nat.le_refl _)
       clear hB4 hRX hPX hr4 hb4 hsX hb5 cP fP hR4
       cases hok:M.prog ll
       ·obtain ⟨cP,fP⟩:=hP5
        go_wp2_with fail
        exact ⟨⟨k+1,pj,by go_num,by omega,by omega,hr5,hb5',hR5⟩,by simp [intOf];omega⟩
       ·have hPX:=hP5
        obtain ⟨cP,fP⟩:=hP5
        go_wp2_with fail
        refine (l71Steps_any aX gX 0 cX ll _ (by omega) (fun t ht=>by have:=h20 t ht;omega) hs5).mono ?_
        rintro e w6 ⟨rfl,hb6⟩
        have hB6:=hB5.but (rb:=rb) (But.of hb6) (by omega)
        have hR6:=hR5.but (rb:=rb) (But.of hb6) (by omega)
        obtain ⟨cP6,fP6⟩:=hPX.but (rb:=rb) (But.of hb6) (by omega)
        have hr6:=hr5.below hb6 (Nat.le_refl _)
        have hb6':=hb5'.trans (But.of hb6)
        clear hB5 hR5 hPX hr5 hb5' hs5 hb6 cP fP
        by_cases hst:(M.steps ll:Int)≤8
        ·obtain ⟨cR,fR⟩:=hR6
         go_wp2_with fail
         refine bodyPost_ret (v:=.agg #[.slice aX ll.length cX]) (by simp [results,Tryz.results161,go_sem,World.cell?_setCell_same _ _ _ cR]) rfl ⟨ll,vs,_,rfl,?_,hok,by omega,by omega,pj,by omega,?_,?_⟩
         ·exact (hB6.mono (by omega)).far (Nat.lt_succ_self _) _
         ·exact hr6.setCell (by omega) (by omega) _
         ·exact hb6'.setCell (Or.inl (Nat.le_refl _)) _
        ·have hst':decide ((M.steps ll:Int)≤8)=false:=by simpa using hst
         go_wp2_with fail
         exact ⟨⟨k+1,pj,by go_num,by omega,by omega,hr6,hb6',hR6⟩,by simp [intOf];omega⟩
    ·go_wp2_with fail
     go_loopw [7] (fun s7 wi=>∃ (j pj:Nat) (ll:List (List M.D)) (vs:List Value) (v:Value),s7=.int .i64 j∧j≤3∧ll.length=j∧(∀ t∈ll,t.length≤20)∧pj≤p'+3+62 * j∧Rdr wi B rb pj∧But rb w wi∧Slot1 wi w.heap.size (.slice none 0 0)∧Slot1 wi W0.heap.size v∧Build wi (W0.heap.size+1) v ll vs) (fun s7 _=>3 - (intOf s7).toNat)
     case atStart=>exact ⟨0,p'+1+1+1,[],[],_,rfl,by omega,rfl,fun t ht=>absurd ht (by simp),by omega,hr3,hb3',hR3,hP3,Build.nil _ _⟩
     case round =>
      clear hr3 hb3' hR3 hP3
      obtain ⟨_,pj,ll,vs,v,rfl,hj,rfl,h20,hpj,hr4,hb4,hR4,hP4,hB4⟩:=hrel
      by_cases hjN:ll.length < 3
      ·have hjN':(ll.length:Int) < 3:=by omega
       have cP:=hP4.c
       have hltP:=hP4.lt
       have hltR:=hR4.lt
       have hsz4:=hb4.size
       have hw3:IntKind.i64.wrap 2=2:=wrap_small 2 (by decide) (by decide)
       go_wp2_with fail
       have he22:∀ args w,(callFunc 65 args).run Tryz.prog w=.ok (.enter 65 args) w:=enters_of Tryz.func65 (by kernel_rfl) rfl
       have he36:∀ args w,(callFunc 194 args).run Tryz.prog w=.ok (.enter 194 args) w:=enters_of Tryz.func194 (by kernel_rfl) rfl
       go_region_law (first | (refine step_go2 (by rfl) 65 _ _ _ (by rfl) _ _ (by rfl) (by rfl) he22 (pick_rdr B rb pj 2 _ (by omega) (by omega) (by omega) hr4.drew) ?_;rintro e w4 ⟨r4,rfl,r40,r41,hr5,hb5⟩;have hb5d:=(But.refl rb _).drew.trans hb5;have hP5:=hP4.but hb5d (by omega);have cP5:=hP5.c;have hR5:=hR4.but hb5d (by omega);have hB5:=hB4.but hb5d (by omega);have hb5':=hb4.trans hb5d;have hw4:=wrap_small (2+r4) (by omega) (by omega);refine ⟨_,rfl,?_⟩) | (refine step_go3 (by rfl) 194 _ _ _ _ (by rfl) _ _ _ (by rfl) (by rfl) (by rfl) he36 (l71Thread_any B rb (pj+1) (2+r4) (1+r1) _ (by omega) (by omega) (by omega) (by omega) (by omega) hr5) ?_;rintro e w5 ⟨l,x,rfl,hown6,hl6,p6,hp6,hr6,hb6⟩;obtain ⟨ax,gx,cx,rfl,hdx,_⟩:=own_steps hown6;have hP6:=hP5.but hb6 (by omega);have cP6:=hP6.c;have hltP6:=hP6.lt;have hB6:=hB5.but hb6 (by omega);have hsz6:=hb6.size;refine ⟨_,rfl,?_⟩) | (refine step_append_lies _ (by rfl) _ _ _ (by rfl) (W0.heap.size+1) 97 i0 _ 1 24 Tryz.underlying23 hi hz0 hz1 hz2 rfl (by omega) v ll.length vs (by rfl) (hB6.outer.alloc _) ⟨w5.heap.size,0,none⟩ 1 1 [.slice ax l.length cx] (by rfl) (by rfl) (World.news_of_block (cs:=#[.slice ax l.length cx]) (t:=97) (fr:=(0,0)) (heap_alloc_new w5 _)) (fun u hu=>by simp at hu;rw [hu];exact own_one hown6) (by omega) (by unfold maxLen;omega) (by omega) (by simp;omega) (w5.heap.size+1) (by simp) ?_;intro g cap w6 hown7 hgr hat hltg;have hP7:=(hP6.but (rb:=rb) ((But.refl rb _).alloc _) (by omega)).grown hgr (fun k hk=>own_ge hB6.outer k hk);have cP7:=hP7.c;have fP7:=hP7.fz))
       all_goals
        have hgek:=own_ge hB6.outer
        have hltw:W0.heap.size < w4.heap.size:=hP5.lt
        have hr7:=(hr6.alloc _).grown hgr (fun k hk=>⟨by have:=hgek k hk;omega,by have:=hgek k hk;omega⟩)
        have hb7:=((hb5'.trans hb6).alloc _).grown hgr (fun k hk=>by have:=hgek k hk;omega)
        have hR7:=((hR5.but hb6 (by omega)).but (rb:=rb) ((But.refl rb _).alloc _) (by omega)).grown hgr (fun k hk=>by have:=hgek k hk;omega)
        have hB7:=Build.snoc (hB6.but (rb:=rb) ((But.refl rb _).alloc _) (by omega)) ((ownsRow_mono hown6 hltw).alloc _) hown7 hgr
        have hP8:=hP7.set (.slice (some ⟨g,0,none⟩) (ll.length+1) cap)
        have hr8:=hr7.setCell (b:=W0.heap.size) (i:=0) (by omega) (by omega) (.slice (some ⟨g,0,none⟩) (ll.length+1) cap)
        have hb8:=hb7.setCell (p:=⟨W0.heap.size,0,none⟩) (Or.inl hsz) (.slice (some ⟨g,0,none⟩) (ll.length+1) cap)
        have hR8:=hR7.far (b':=W0.heap.size) (i:=0) (by omega) (.slice (some ⟨g,0,none⟩) (ll.length+1) cap)
        have hB8:=hB7.far (b:=W0.heap.size) (i:=0) (by omega) (.slice (some ⟨g,0,none⟩) (ll.length+1) cap)
        have h20':∀ t∈ll++[l],t.length≤20:=fun t ht=>by
         rcases List.mem_append.1 ht with h | h
         ·exact h20 t h
         ·simp at h;rw [h];exact hl6
        clear hr7 hb7 hR7 hB7 hgr hown7 hP7 hP6 hB6 hB5 hP5 hR5 hb5' hb6 hr6 hr5 hgek
        go_wp2_with fail
        exact ⟨⟨ll.length+1,p6,ll++[l],vs++[.slice ax l.length cx],_,by go_num,by omega,by simp,h20',by omega,hr8,hb8,hR8,hP8,hB8⟩,by simp [intOf];omega⟩
      ·have hjN':¬ (ll.length:Int) < 3:=by omega
       have hRX:=hR4
       obtain ⟨aX,gX,cX,rfl,hsX⟩:=hB4.ss
       have hPX:=hP4
       obtain ⟨cP,fP⟩:=hP4
       have hltR:=hR4.lt
       go_wp2_with fail
       refine (sprog_any aX gX 0 cX ll _ (by omega) (fun t ht=>by have:=h20 t ht;omega) hsX).mono ?_
       rintro e w5 ⟨rfl,hb5⟩
       have hB5:=hB4.but (rb:=rb) (But.of hb5) (by omega)
       have hR5:=hRX.but (rb:=rb) (But.of hb5) (by omega)
       have hP5:=hPX.but (rb:=rb) (But.of hb5) (by omega)
       have hr5:=hr4.below hb5 (Nat.le_refl _)
       have hb5':=hb4.trans (But.of hb5)
       have hs5:=hsX.below hb5 (Nat.le_refl _)
       clear hB4 hRX hPX hr4 hb4 hsX hb5 cP fP hR4
       cases hok:M.prog ll
       ·obtain ⟨cP,fP⟩:=hP5
        go_wp2_with fail
        exact ⟨⟨k+1,pj,by go_num,by omega,by omega,hr5,hb5',hR5⟩,by simp [intOf];omega⟩
       ·have hPX:=hP5
        obtain ⟨cP,fP⟩:=hP5
        go_wp2_with fail
        refine (l71Steps_any aX gX 0 cX ll _ (by omega) (fun t ht=>by have:=h20 t ht;omega) hs5).mono ?_
        rintro e w6 ⟨rfl,hb6⟩
        have hB6:=hB5.but (rb:=rb) (But.of hb6) (by omega)
        have hR6:=hR5.but (rb:=rb) (But.of hb6) (by omega)
        obtain ⟨cP6,fP6⟩:=hPX.but (rb:=rb) (But.of hb6) (by omega)
        have hr6:=hr5.below hb6 (Nat.le_refl _)
        have hb6':=hb5'.trans (But.of hb6)
        clear hB5 hR5 hPX hr5 hb5' hs5 hb6 cP fP
        by_cases hst:(M.steps ll:Int)≤8
        ·obtain ⟨cR,fR⟩:=hR6
         go_wp2_with fail
         refine bodyPost_ret (v:=.agg #[.slice aX ll.length cX]) (by simp [results,Tryz.results161,go_sem,World.cell?_setCell_same _ _ _ cR]) rfl ⟨ll,vs,_,rfl,?_,hok,by omega,by omega,pj,by omega,?_,?_⟩
         ·exact (hB6.mono (by omega)).far (Nat.lt_succ_self _) _
         ·exact hr6.setCell (by omega) (by omega) _
         ·exact hb6'.setCell (Or.inl (Nat.le_refl _)) _
        ·have hst':decide ((M.steps ll:Int)≤8)=false:=by simpa using hst
         go_wp2_with fail
         exact ⟨⟨k+1,pj,by go_num,by omega,by omega,hr6,hb6',hR6⟩,by simp [intOf];omega⟩
  ·have hlk':¬ (k:Int) < 12:=by omega
   have c3:∀ x y z:Obj,(((W0.alloc x).alloc y).alloc z).cell? ⟨w.heap.size,0,none⟩=some (.slice none 0 0):=fun x y z=>(hR.but ((((But.refl rb _).alloc x).alloc y).alloc z) (by omega)).c
   have f3:∀ x y z:Obj,(((W0.alloc x).alloc y).alloc z).frozen? ⟨w.heap.size,0,none⟩=false:=fun x y z=>(hR.but ((((But.refl rb _).alloc x).alloc y).alloc z) (by omega)).fz
   have hRlt:=hR.lt
   have hc:=hR.c
   have hsz:=hb.size
   go_wp2_with fail
   refine bodyPost_ret (v:=.agg #[.slice (some ⟨W0.heap.size+1+1,0,none⟩) 2 2]) (by simp [results,Tryz.results161,go_sem,World.cell?_setCell_same _ _ _ (c3 _ _ _)]) rfl ⟨[[⟨1,0,1⟩],[⟨2,0,0⟩]],[.slice (some ⟨W0.heap.size,0,none⟩) 1 1,.slice (some ⟨W0.heap.size+1,0,none⟩) 1 1],.slice (some ⟨W0.heap.size+1+1,0,none⟩) 2 2,rfl,?_,by decide,by decide,by decide,p',by omega,?_,?_⟩
   ·exact (build_lit W0 (w.heap.size+1) hRlt).far (Nat.lt_succ_self _) _
   ·exact (((hr.alloc _).alloc _).alloc _).setCell (by omega) (by omega) _
   ·exact (((hb.alloc _).alloc _).alloc _).setCell (Or.inl (Nat.le_refl _)) _
end
end Go.Proofs.YtmhpgdliaclokaaGreat
