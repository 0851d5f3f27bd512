/- spec.l71Exec: a drawn program, and one way in which all may have been, mostly. And what goes with it: DrX, DrSn, DrWy, DrWx. -/
import Derived.Deep.OwnRows
import Derived.Test.YtmhpgdliaclokaaGreatRows
import Derived.Test.YtmhpgdliaclokaaGreatQtbi
namespace Go.Proofs.YtmhpgdliaclokaaGreat
section
open Go.RowKit
theorem Slot1.ofB {w w':World} {b:Nat} {x:Value} (h:Slot1 w b x) (hb:w'.heap[b]?=w.heap[b]?):Slot1 w' b x :=
 ⟨(World.cell?_of_block (a:=⟨b,0,none⟩) hb).trans h.c,(World.frozen?_of_block (a:=⟨b,0,none⟩) hb).trans h.fz⟩
end
section
open Go.RowKit
theorem own_numsC {w:World} {base:Nat} {v:Value} {l:List Int} (h:w.ownsRow base 3 1 v l.length (nums l)):∃ a g c,v=.slice a l.length c∧IntS w a g 0 l∧base≤g∧((a=none→c=0)∧l.length≤c):=by
 rcases h.2 with ⟨hv,hn⟩ | ⟨g,cap,cur,hv,hg,hh,hcp,r⟩
 ·have:l=[]:=List.length_eq_zero_iff.1 hn
  subst this
  exact ⟨none,base,0,hv,IntS.nil _ _ _ _,Nat.le_refl _,fun _=>rfl,Nat.le_refl _⟩
 ·refine ⟨_,g,cap,hv,⟨fun _=>rfl,fun i hi=>?_⟩,hg,(fun h=>by cases h),hcp⟩
  have hc:=h.cells (g:=g) (by rw [hv];rfl) i (.int .i64 l[i]) (by simp [nums,hi])
  rwa [Go.WideShapes.add_plain] at hc
set_option maxHeartbeats 2000000 in
set_option maxRecDepth 100000 in
theorem l71Seen_cap (B rb p:Nat) (a:Option Addr) (b o c:Nat) (ll:List (List M.D)) (w:World) (hp:p≤50000) (hl:ll.length≤1048576) (hls:∀ t∈ll,t.length≤1048576) (hn:M.nreads ll≤21) (h:Rdr w B rb p) (hd:DoSS w a b o ll) :
  Calls Tryz.prog 108 #[.pointer (some ⟨rb,0,none⟩),.agg #[.slice a ll.length c]] w fun e w'=>∃ s:Sn,e=.returned (.agg #[.slice s.a1 s.l1.length s.c1,.slice s.a2 s.l2.length s.c2])∧s.At w'∧s.Le 30∧w.heap.size≤s.b1∧w.heap.size≤s.b2∧((s.a1=none→s.c1=0)∧s.l1.length≤s.c1)∧∃ p':Nat,p'≤p+30∧Rdr w' B rb p'∧But rb w w':=by
 have hlt:=h.lt
 have hge:=h.ge
 obtain ⟨i0,hi,hz0,hz1,hz2⟩:=info_parts Tryz.infoInt
 go_enter Tryz.func108,Tryz.ntmps108
 go_wp2_with fail
 have hb4:=(below3 w (.cells #[.slice a ll.length c] 25) (.cells #[.slice none 0 0,.slice none 0 0] 45) (.cells #[] 3)).alloc (by simp;omega) (.cells #[.slice (some ⟨w.heap.size+1+1,0,none⟩) 0 0,.slice none 0 0] 45)
 have hS0:Slot2 ((((w.alloc (.cells #[.slice a ll.length c] 25)).alloc (.cells #[.slice none 0 0,.slice none 0 0] 45)).alloc (.cells #[] 3)).alloc (.cells #[.slice (some ⟨w.heap.size+1+1,0,none⟩) 0 0,.slice none 0 0] 45)) (w.heap.size+1+1+1) (.slice (some ⟨w.heap.size+1+1,0,none⟩) 0 0) (.slice none 0 0):=⟨alloc_new _ _ _ (by simp only [World.size_alloc])⟩
 have hR0:Slot2 ((((w.alloc (.cells #[.slice a ll.length c] 25)).alloc (.cells #[.slice none 0 0,.slice none 0 0] 45)).alloc (.cells #[] 3)).alloc (.cells #[.slice (some ⟨w.heap.size+1+1,0,none⟩) 0 0,.slice none 0 0] 45)) (w.heap.size+1) (.slice none 0 0) (.slice none 0 0):=⟨by rw [alloc_old _ _ _ (by simp only [World.size_alloc];omega),alloc_old _ _ _ (by simp only [World.size_alloc];omega)];exact alloc_new _ _ _ (by simp only [World.size_alloc])⟩
 have hE0:((((w.alloc (.cells #[.slice a ll.length c] 25)).alloc (.cells #[.slice none 0 0,.slice none 0 0] 45)).alloc (.cells #[] 3)).alloc (.cells #[.slice (some ⟨w.heap.size+1+1,0,none⟩) 0 0,.slice none 0 0] 45)).ownsRow w.heap.size 3 1 (.slice (some ⟨w.heap.size+1+1,0,none⟩) 0 0) 0 (nums []) :=
  ⟨rfl,Or.inr ⟨_,0,#[],rfl,by omega,by rw [alloc_old _ _ _ (by simp only [World.size_alloc];omega)];exact alloc_new _ _ _ (by simp only [World.size_alloc]),Nat.le_refl _,Nat.zero_le _,rfl,rfl⟩⟩
 have hr0:Rdr ((((w.alloc (.cells #[.slice a ll.length c] 25)).alloc (.cells #[.slice none 0 0,.slice none 0 0] 45)).alloc (.cells #[] 3)).alloc (.cells #[.slice (some ⟨w.heap.size+1+1,0,none⟩) 0 0,.slice none 0 0] 45)) B rb p:=(((h.alloc _).alloc _).alloc _).alloc _
 generalize ((((w.alloc (.cells #[.slice a ll.length c] 25)).alloc (.cells #[.slice none 0 0,.slice none 0 0] 45)).alloc (.cells #[] 3)).alloc (.cells #[.slice (some ⟨w.heap.size+1+1,0,none⟩) 0 0,.slice none 0 0] 45))=W at *
 refine (sreads_any a b o c ll _ hl hls (hd.below hb4 (Nat.le_refl _))).mono ?_
 rintro e w1 ⟨rfl,hb1⟩
 have hS1:=hS0.but (But.of (rb:=rb) hb1) (by omega)
 have hR1:=hR0.but (But.of (rb:=rb) hb1) (by omega)
 have hE1:=ownsRow_but hE0 (But.of (rb:=rb) hb1) hlt
 have hr1:=hr0.below hb1 (Nat.le_refl _)
 have hbw:But rb w w1:=(But.of hb4).trans (But.of hb1)
 generalize M.nreads ll=z0 at hn ⊢
 clear hS0 hR0 hE0 hr0 hb1 hb4 hd h hl hls
 obtain ⟨R,hRe⟩:∃ R,w.heap.size+1=R:=⟨_,rfl⟩
 obtain ⟨S,hSe⟩:∃ S,w.heap.size+1+1+1=S:=⟨_,rfl⟩
 rw [hSe] at hS1 ⊢
 rw [hRe] at hR1
 have he38:∀ args w,(callFunc 65 args).run Tryz.prog w=.ok (.enter 65 args) w:=enters_of Tryz.func65 (by kernel_rfl) rfl
 go_wp2_with fail
 go_loopw [6] (fun s6 wr=>∃ (l:List Int) (z:Int) (p':Nat) (v:Value),s6=.int .i64 z∧(l.length:Int)+z≤21∧l.length≤21∧p'≤p+l.length∧Slot2 wr S v (.slice none 0 0)∧Slot2 wr R (.slice none 0 0) (.slice none 0 0)∧wr.ownsRow w.heap.size 3 1 v l.length (nums l)∧Rdr wr B rb p'∧But rb w wr) (fun s6 _=>(intOf s6).toNat)
 case atStart=>exact ⟨[],z0,p,_,rfl,by simpa using hn,by simp,by simp,hS1,hR1,hE1,hr1,hbw⟩
 case round =>
  obtain ⟨l,z,p',v,rfl,hlz,hl21,hp',hS,hR,hE,hr,hb⟩:=hrel
  clear hS1 hR1 hE1 hr1 hbw
  have cS:=hS.c0
  have fS:=hS.fz
  have hSlt:=hS.lt
  have hsz:=hb.size
  by_cases hz:0 < z
  ·go_wp2_with fail
   go_region_law (first
    | (refine step_go2 (by rfl) 65 _ _ _ (by rfl) _ _ (by rfl) (by rfl) he38 (pick_rdr B rb p' 4 _ (by omega) (by omega) (by omega) hr.drew) ?_;rintro e w2 ⟨r2,rfl,r20,r21,hr2,hb2⟩;have hb2d:=(But.refl rb _).drew.trans hb2;have hS2:=hS.but hb2d (by omega);have cS2:=hS2.c0;have fS2:=hS2.fz;have hSlt2:=hS2.lt;have hsz2:=hb2d.size;have hE2:=ownsRow_but hE hb2d hlt;refine ⟨_,rfl,?_⟩)
    | (refine step_append_lies _ (by rfl) _ _ _ (by rfl) w.heap.size 3 i0 _ 1 8 Tryz.underlying26 hi hz0 hz1 hz2 rfl (by omega) v l.length (nums l) (by rfl) (hE2.alloc _) ⟨w2.heap.size,0,none⟩ 1 1 [.int .i64 r2] (by rfl) (by rfl) (World.news_of_block (cs:=#[.int .i64 r2]) (t:=3) (fr:=(0,0)) (heap_alloc_new w2 _)) (by simp [Value.oneCell']) (by omega) (by unfold maxLen;omega) (by omega) (by simp only [World.size_alloc];omega) (w2.heap.size+1) (by simp) ?_;intro g cap w3 hown3 hgr hat hltg;have hS3:=(hS2.but (rb:=rb) ((But.refl rb _).alloc (.cells #[.int .i64 r2] 3)) (by omega)).grown hgr (hE2.alloc _);have cS3:=hS3.c0;have fS3:=hS3.fz))
   all_goals
    have hge3:=own_ge hE2
    have hE3:w3.ownsRow w.heap.size 3 1 (.slice (some ⟨g,0,none⟩) (l.length+1) cap) (l++[r2]).length (nums (l++[r2])):=by
     rw [List.length_append];simpa [nums] using hown3
    have hS4:=hS3.set0 (.slice (some ⟨g,0,none⟩) (l.length+1) cap)
    have hE4:=own_slot (i:=0) hE3 hS3 (.slice (some ⟨g,0,none⟩) (l.length+1) cap)
    have hR4:=(((hR.but hb2d (by omega)).but (rb:=rb) ((But.refl rb _).alloc (.cells #[.int .i64 r2] 3)) (by omega)).grown hgr (hE2.alloc _)).far (b':=S) (i:=0) (by omega) (.slice (some ⟨g,0,none⟩) (l.length+1) cap)
    have hr4:=((hr2.alloc (.cells #[.int .i64 r2] 3)).grown hgr (fun k hk=>⟨by have:=hge3 k hk;omega,by have:=hge3 k hk;omega⟩)).setCell (b:=S) (i:=0) (by omega) (by omega) (.slice (some ⟨g,0,none⟩) (l.length+1) cap)
    have hb4:=(((hb.trans hb2d).alloc (.cells #[.int .i64 r2] 3)).grown hgr hge3).setCell (p:=⟨S,0,none⟩) (Or.inl (by show w.heap.size≤S;omega)) (.slice (some ⟨g,0,none⟩) (l.length+1) cap)
    clear hge3 hE3 hS3 cS3 fS3 hown3 hgr hat hltg hE2 hS2 cS2 fS2 hSlt2 hsz2 hb2d hb2 hr2 hS cS fS hSlt hR hE hr hb
    generalize w3.setCell ⟨S,0,none⟩ (.slice (some ⟨g,0,none⟩) (l.length+1) cap)=w4 at *
    go_wp2_with fail
    exact ⟨⟨l++[r2],z - 1,p'+1,_,rfl,by simp;omega,by simp;omega,by simp;omega,hS4,hR4,hE4,hr4,hb4⟩,by simp [intOf];omega⟩
  ·go_wp2_with fail
   have hvlt:∀ k,v.ownBlock=some k→k < wr.heap.size:=fun k hk=>(hE.lt k hk).2
   obtain ⟨B2,hB2⟩:∃ B2,wr.heap.size=B2:=⟨_,rfl⟩
   rw [hB2] at hvlt
   have hSB:S < B2:=by rw [← hB2];exact hSlt
   go_loopw [7] (fun s7 wr2=>∃ (m:List Int) (q':Nat) (v2:Value),s7=.int .i64 (m.length:Nat)∧m.length≤3∧q'≤p'+m.length∧Slot2 wr2 S v v2∧Slot2 wr2 R (.slice none 0 0) (.slice none 0 0)∧wr2.ownsRow w.heap.size 3 1 v l.length (nums l)∧wr2.ownsRow B2 3 1 v2 m.length (nums m)∧Rdr wr2 B rb q'∧But rb w wr2∧B2≤wr2.heap.size) (fun s7 _=>3 - (intOf s7).toNat)
   case atStart=>exact ⟨[],p',_,rfl,by simp,by simp,hS,hR,hE,World.ownsRow_nil _ _ _ _,hr,hb,by omega⟩
   case round =>
    obtain ⟨m,q',v2,rfl,hm3,hq',hS1,hR1,hE1,hF1,hr1,hb1,hBw⟩:=hrel
    clear hS hR hE hr hb cS fS hSlt hsz hB2
    have cS:=hS1.c1
    have fS:=hS1.fz
    have hSlt:=hS1.lt
    have hsz:=hb1.size
    by_cases hm:m.length < 3
    ·have hm':(m.length:Int) < 3:=by omega
     go_wp2_with fail
     go_region_law (first
      | (refine step_go2 (by rfl) 65 _ _ _ (by rfl) _ _ (by rfl) (by rfl) he38 (pick_rdr B rb q' 4 _ (by omega) (by omega) (by omega) hr1.drew) ?_;rintro e w2 ⟨r2,rfl,r20,r21,hr2,hb2⟩;have hb2d:=(But.refl rb _).drew.trans hb2;have hS2:=hS1.but hb2d (by omega);have cS2:=hS2.c1;have fS2:=hS2.fz;have hSlt2:=hS2.lt;have hsz2:=hb2d.size;have hE2:=ownsRow_but hE1 hb2d hlt;have hF2:=ownsRow_but hF1 hb2d (by omega);refine ⟨_,rfl,?_⟩)
      | (refine step_append_lies _ (by rfl) _ _ _ (by rfl) B2 3 i0 _ 1 8 Tryz.underlying26 hi hz0 hz1 hz2 rfl (by omega) v2 m.length (nums m) (by rfl) (hF2.alloc _) ⟨w2.heap.size,0,none⟩ 1 1 [.int .i64 r2] (by rfl) (by rfl) (World.news_of_block (cs:=#[.int .i64 r2]) (t:=3) (fr:=(0,0)) (heap_alloc_new w2 _)) (by simp [Value.oneCell']) (by omega) (by unfold maxLen;omega) (by omega) (by simp only [World.size_alloc];omega) (w2.heap.size+1) (by simp) ?_;intro g cap w3 hown3 hgr hat hltg;have hS3:=(hS2.but (rb:=rb) ((But.refl rb _).alloc (.cells #[.int .i64 r2] 3)) (by omega)).grown hgr (hF2.alloc _);have cS3:=hS3.c1;have fS3:=hS3.fz))
     all_goals
      have hge3:=own_ge hF2
      have hF3:w3.ownsRow B2 3 1 (.slice (some ⟨g,0,none⟩) (m.length+1) cap) (m++[r2]).length (nums (m++[r2])):=by
       rw [List.length_append];simpa [nums] using hown3
      have hE3:=(hE2.alloc (.cells #[.int .i64 r2] 3)).kept hgr (own_below hvlt hge3)
      have hS4:=hS3.set1 (.slice (some ⟨g,0,none⟩) (m.length+1) cap)
      have hE4:=own_slot (i:=1) hE3 hS3 (.slice (some ⟨g,0,none⟩) (m.length+1) cap)
      have hF4:=own_slot (i:=1) hF3 hS3 (.slice (some ⟨g,0,none⟩) (m.length+1) cap)
      have hR4:=(((hR1.but hb2d (by omega)).but (rb:=rb) ((But.refl rb _).alloc (.cells #[.int .i64 r2] 3)) (by omega)).grown hgr (hF2.alloc _)).far (b':=S) (i:=1) (by omega) (.slice (some ⟨g,0,none⟩) (m.length+1) cap)
      have hr4:=((hr2.alloc (.cells #[.int .i64 r2] 3)).grown hgr (fun k hk=>⟨by have:=hge3 k hk;omega,by have:=hge3 k hk;omega⟩)).setCell (b:=S) (i:=1) (by omega) (by omega) (.slice (some ⟨g,0,none⟩) (m.length+1) cap)
      have hb4:=(((hb1.trans hb2d).alloc (.cells #[.int .i64 r2] 3)).grown hgr (fun k hk=>by have:=hge3 k hk;omega)).setCell (p:=⟨S,1,none⟩) (Or.inl (by show w.heap.size≤S;omega)) (.slice (some ⟨g,0,none⟩) (m.length+1) cap)
      have hB4:B2≤(w3.setCell ⟨S,1,none⟩ (.slice (some ⟨g,0,none⟩) (m.length+1) cap)).heap.size:=by
       have:=hgr.size
       simp only [World.size_setCell,World.size_alloc] at *
       omega
      clear hge3 hE3 hF3 hS3 cS3 fS3 hown3 hgr hat hltg hE2 hF2 hS2 cS2 fS2 hSlt2 hsz2 hb2d hb2 hr2 hS1 cS fS hSlt hR1 hE1 hF1 hr1 hb1
      generalize w3.setCell ⟨S,1,none⟩ (.slice (some ⟨g,0,none⟩) (m.length+1) cap)=w4 at *
      go_wp2_with fail
      exact ⟨⟨m++[r2],q'+1,_,by simp,by simp;omega,by simp;omega,hS4,hR4,hE4,hF4,hr4,hb4,hB4⟩,by simp [intOf];omega⟩
    ·have hm':¬ (m.length:Int) < 3:=by omega
     go_wp2_with fail
     refine (pick_rdr B rb q' 16 _ (by omega) (by omega) (by omega) hr1).mono ?_
     rintro e w5 ⟨r5,rfl,r50,r51,hr5,hb5⟩
     have hS5:=hS1.but hb5 (by omega)
     have hR5:=hR1.but hb5 (by omega)
     have hE5:=ownsRow_but hE1 hb5 hlt
     have hF5:=ownsRow_but hF1 hb5 (by omega)
     have hb5':=hb1.trans hb5
     have hsz5:=hb5.size
     clear hS1 hR1 hE1 hF1 hb1 hb5 hr1 cS fS
     have hm3':Hid (m.length=3):=(by omega:m.length=3)
     by_cases h0:r5=0
     ·subst h0
      have cS:=hS5.c0
      have fS:=hS5.fz
      have hSlt5:=hS5.lt
      go_wp2_with (at_builtin;refine wpList_append_own _ rfl (.tmp 39) (.tmp 40) 26 rfl w.heap.size 3 i0 _ 1 8 Tryz.underlying26 hi hz0 hz1 hz2 rfl (by decide) _ _ _ rfl (hE5.alloc _) ⟨w5.heap.size,0,none⟩ 1 1 [.int .i64 0] rfl rfl ?c1 ?c2 ?c3 ?c4 ?c5 ?_)
      case c1 =>
       intro j u hj
       match j,hj with
       | 0,hj=>simp at hj;subst hj;simp [Addr.add]
      case c2=>intro u hu;simp at hu;subst hu;rfl
      case c3=>unfold maxLen;omega
      case c4=>omega
      case c5=>simp;omega
      intro v' w6 hown6 hg6 _
      have hE6:w6.ownsRow w.heap.size 3 1 v' (l++[0]).length (nums (l++[0])):=by
       rw [List.length_append];simpa [nums] using hown6
      obtain ⟨L,hLe,hLl⟩:∃ L:List Int,l++[0]=L∧L.length≤22:=⟨_,rfl,by simp;omega⟩
      rw [hLe] at hE6
      have hge6:=own_ge hE5
      have hF6:=(hF5.alloc (.cells #[.int .i64 0] 3)).kept hg6 (own_above hvlt (own_ge hF5))
      have hS6:=(hS5.but (rb:=rb) ((But.refl rb _).alloc (.cells #[.int .i64 0] 3)) (by omega)).grown hg6 (hE5.alloc _)
      have hR6:=(hR5.but (rb:=rb) ((But.refl rb _).alloc (.cells #[.int .i64 0] 3)) (by omega)).grown hg6 (hE5.alloc _)
      have hr6:=(hr5.alloc (.cells #[.int .i64 0] 3)).grown hg6 (fun k hk=>⟨by have:=hge6 k hk;omega,by have:=hge6 k hk;omega⟩)
      have hb6:=(hb5'.alloc (.cells #[.int .i64 0] 3)).grown hg6 hge6
      have cS6:=hS6.c0
      have fS6:=hS6.fz
      have hS7:=hS6.set0 v'
      have hR7:=hR6.far (b':=S) (i:=0) (by omega) v'
      have hE7:=own_slot (i:=0) hE6 hS6 v'
      have hF7:=own_slot (i:=0) hF6 hS6 v'
      have hr7:=hr6.setCell (b:=S) (i:=0) (by omega) (by omega) v'
      have hb7:=hb6.setCell (p:=⟨S,0,none⟩) (Or.inl (by show w.heap.size≤S;omega)) v'
      clear hge6 hE6 hF6 hown6 hg6 hr6 hb6 hR6 hS5 hR5 hE5 hF5 hr5 hb5' cS fS hSlt5
      have hR9:=hR7.set0 v'
      have hE9:=own_slot (i:=1) (own_slot (i:=0) hE7 hR7 v') hR9 v2
      have hF9:=own_slot (i:=1) (own_slot (i:=0) hF7 hR7 v') hR9 v2
      obtain ⟨a1,g1,c1,rfl,i1,ge1,nc1⟩:=own_numsC hE9
      obtain ⟨a2,g2,c2,rfl,i2,ge2,_⟩:=own_nums hF9
      have x0:=hS7.c0
      have x1:=hS7.c1
      have y0:=hR7.c0
      have y1:=hR7.c1
      have yf:=hR7.fz
      clear hE9 hF9 hR9
      go_wp2_with fail
      refine bodyPost_ret (v:=.agg #[.slice a1 L.length c1,.slice a2 m.length c2]) (by simp [results,Tryz.results108,go_sem,y0,y1]) rfl ⟨⟨a1,g1,0,c1,L,a2,g2,0,c2,m⟩,rfl,⟨i1,i2⟩,⟨by show L.length≤30;omega,by show m.length≤30;omega⟩,ge1,by show w.heap.size≤g2;omega,nc1,q'+1,by omega,?_,?_⟩
      ·exact (hr7.setCell (by omega) (by omega) _).setCell (by omega) (by omega) _
      ·exact (hb7.setCell (Or.inl (by show w.heap.size≤R;omega)) _).setCell (Or.inl (by show w.heap.size≤R;omega)) _
     have h0':(r5==0)=false:=by simpa using h0
     by_cases h1:r5=1
     ·subst h1
      obtain ⟨x,y,z',rfl⟩:=three hm3'.out
      obtain ⟨g2,cap2,rfl,gb2,glt2⟩:=hF5.form (by simp)
      have hcap:=own_cap hF5
      obtain ⟨n2,hn2⟩:∃ n2,[x,y,z'].length=n2:=⟨_,rfl⟩
      have hn3:n2=3:=by rw [← hn2];rfl
      rw [hn2] at hcap hF5 hS5
      subst hn3
      have x1:=hS5.c1
      have hSlt5:=hS5.lt
      have k0:=hF5.cellAt 0 (by decide)
      have kf:=hF5.frozenAt 0
      simp only [nums,List.map_cons,List.getElem?_cons_zero] at k0
      have e1:(0:Int) < 3:=by omega
      go_wp2_with fail
      go_region_law (first
       | (refine step_go2 (by rfl) 65 _ _ _ (by rfl) _ _ (by rfl) (by rfl) he38 (pick_rdr B rb (q'+1) 2 _ (by omega) (by omega) (by simp at hq';omega) (by first | exact hr5.drew | exact (hr5.alloc _).drew | exact hr5.drew.alloc _)) ?_;rintro e w6 ⟨r6,rfl,r60,r61,hr6,hb6⟩;obtain ⟨q6,rfl⟩:=Int.eq_ofNat_of_zero_le r60;obtain ⟨x6,hx6⟩:=pick2 q6 (by omega);have hb56:But rb w5 w6:=(by first | exact (But.refl rb _).drew.trans hb6 | exact ((But.refl rb _).alloc _).drew.trans hb6);have x6':=(hS5.but hb56 (by omega)).c1;have hSlt6:=(hS5.but hb56 (by omega)).lt;have k6:=(ownsRow_but hF5 hb56 (by omega)).cellAt 0 (by decide);have kf6:=(ownsRow_but hF5 hb56 (by omega)).frozenAt 0;simp only [nums,List.map_cons,List.getElem?_cons_zero] at k6;have gl6:g2 < w6.heap.size:=Nat.lt_of_lt_of_le glt2 hb56.size;have cA:=pick2_alloc w6 3 hx6;try (have cL:w6.cell? ⟨w5.heap.size,q6,none⟩=some (.int .i64 x6):=(hb6.cell (p:=⟨w5.heap.size,q6,none⟩) (by simp) (by show w5.heap.size≠rb;omega)).trans (pick2_alloc w5 3 hx6));clear hx6;refine ⟨_,rfl,?_⟩))
      all_goals
       have hF7:(w6.setCell ⟨g2,0,none⟩ (.int .i64 x6)).ownsRow B2 3 1 (.slice (some ⟨g2,0,none⟩) 3 cap2) 3 (nums [x6,y,z']):=((ownsRow_but hF5 hb56 (by omega)).stored 0 (.int .i64 x6)).1
       have hE7:=(ownsRow_but hE5 hb56 hlt).kept ((ownsRow_but hF5 hb56 (by omega)).stored 0 (.int .i64 x6)).2 (own_below (v':=.slice (some ⟨g2,0,none⟩) 3 cap2) hvlt (fun k hk=>by simp [Value.ownBlock] at hk;omega))
       have hS7:=(hS5.but hb56 (by omega)).far (b':=g2) (i:=0) (by omega) (.int .i64 x6)
       have hR7:=(hR5.but hb56 (by omega)).far (b':=g2) (i:=0) (by omega) (.int .i64 x6)
       have hr7:=hr6.setCell (b:=g2) (i:=0) (by omega) (by omega) (.int .i64 x6)
       have hb7:=(hb5'.trans hb56).setCell (p:=⟨g2,0,none⟩) (Or.inl (by show w.heap.size≤g2;omega)) (.int .i64 x6)
       obtain ⟨a1,g1,c1,rfl,_,_,nc1⟩:=own_numsC hE7
       clear k6 kf6 x6' hSlt6 cA hb6 hr6 hb56 hS5 hR5 hE5 hF5 hr5 hb5' x1 k0 kf
       generalize w6.setCell ⟨g2,0,none⟩ (.int .i64 x6)=W7 at *
       first
       | (
        have hR9:=hR7.set0 (.slice a1 l.length c1)
        have hE9:=own_slot (i:=1) (own_slot (i:=0) hE7 hR7 (.slice a1 l.length c1)) hR9 (.slice (some ⟨g2,0,none⟩) 3 cap2)
        have hF9:=own_slot (i:=1) (own_slot (i:=0) hF7 hR7 (.slice a1 l.length c1)) hR9 (.slice (some ⟨g2,0,none⟩) 3 cap2)
        have hr9:=(hr7.setCell (b:=R) (i:=0) (by omega) (by omega) (.slice a1 l.length c1)).setCell (b:=R) (i:=1) (by omega) (by omega) (.slice (some ⟨g2,0,none⟩) 3 cap2)
        have hb9:=(hb7.setCell (p:=⟨R,0,none⟩) (Or.inl (by show w.heap.size≤R;omega)) (.slice a1 l.length c1)).setCell (p:=⟨R,1,none⟩) (Or.inl (by show w.heap.size≤R;omega)) (.slice (some ⟨g2,0,none⟩) 3 cap2)
        obtain ⟨a1',g1',c1',ev,i1,ge1',_⟩:=own_nums hE9
        simp only [Value.slice.injEq] at ev
        obtain ⟨rfl,_,rfl⟩:=ev
        obtain ⟨a2',g2',c2',ev2,i2,ge2',_⟩:=own_nums (l:=[x6,y,z']) hF9
        simp only [Value.slice.injEq] at ev2
        obtain ⟨rfl,_,rfl⟩:=ev2
        have X0:=hS7.c0
        have X1:=hS7.c1
        have Y0:=hR7.c0
        have Y1:=hR7.c1
        have Yf:=hR7.fz
        clear hE9 hF9 hR9
        go_wp2_with fail
        refine bodyPost_ret (v:=.agg #[.slice a1 l.length c1,.slice (some ⟨g2,0,none⟩) 3 cap2]) (by simp [results,Tryz.results108,go_sem,Y0,Y1]) rfl ⟨⟨a1,g1',0,c1,l,some ⟨g2,0,none⟩,g2',0,cap2,[x6,y,z']⟩,rfl,⟨i1,i2⟩,⟨by show l.length≤30;omega,by show 3≤30;omega⟩,ge1',by show w.heap.size≤g2';omega,nc1,q'+2,by simp at hq' ⊢;omega,hr9,hb9⟩
        )
       | (
        have hE8:=hE7.alloc (.cells #[.int .i64 (-1),.int .i64 4] 3)
        have hF8:=hF7.alloc (.cells #[.int .i64 (-1),.int .i64 4] 3)
        have hS8:=hS7.but (rb:=rb) ((But.refl rb _).alloc (.cells #[.int .i64 (-1),.int .i64 4] 3)) (by omega)
        have hR8:=hR7.but (rb:=rb) ((But.refl rb _).alloc (.cells #[.int .i64 (-1),.int .i64 4] 3)) (by omega)
        have hr8:=hr7.alloc (.cells #[.int .i64 (-1),.int .i64 4] 3)
        have hb8:=hb7.alloc (.cells #[.int .i64 (-1),.int .i64 4] 3)
        clear hE7 hF7 hS7 hR7 hr7 hb7
        generalize W7.alloc (.cells #[.int .i64 (-1),.int .i64 4] 3)=W8 at *
        have hR9:=hR8.set0 (.slice a1 l.length c1)
        have hE9:=own_slot (i:=1) (own_slot (i:=0) hE8 hR8 (.slice a1 l.length c1)) hR9 (.slice (some ⟨g2,0,none⟩) 3 cap2)
        have hF9:=own_slot (i:=1) (own_slot (i:=0) hF8 hR8 (.slice a1 l.length c1)) hR9 (.slice (some ⟨g2,0,none⟩) 3 cap2)
        have hr9:=(hr8.setCell (b:=R) (i:=0) (by omega) (by omega) (.slice a1 l.length c1)).setCell (b:=R) (i:=1) (by omega) (by omega) (.slice (some ⟨g2,0,none⟩) 3 cap2)
        have hb9:=(hb8.setCell (p:=⟨R,0,none⟩) (Or.inl (by show w.heap.size≤R;omega)) (.slice a1 l.length c1)).setCell (p:=⟨R,1,none⟩) (Or.inl (by show w.heap.size≤R;omega)) (.slice (some ⟨g2,0,none⟩) 3 cap2)
        obtain ⟨a1',g1',c1',ev,i1,ge1',_⟩:=own_nums hE9
        simp only [Value.slice.injEq] at ev
        obtain ⟨rfl,_,rfl⟩:=ev
        obtain ⟨a2',g2',c2',ev2,i2,ge2',_⟩:=own_nums (l:=[x6,y,z']) hF9
        simp only [Value.slice.injEq] at ev2
        obtain ⟨rfl,_,rfl⟩:=ev2
        have X0:=hS8.c0
        have X1:=hS8.c1
        have Y0:=hR8.c0
        have Y1:=hR8.c1
        have Yf:=hR8.fz
        clear hE9 hF9 hR9
        go_wp2_with fail
        refine bodyPost_ret (v:=.agg #[.slice a1 l.length c1,.slice (some ⟨g2,0,none⟩) 3 cap2]) (by simp [results,Tryz.results108,go_sem,Y0,Y1]) rfl ⟨⟨a1,g1',0,c1,l,some ⟨g2,0,none⟩,g2',0,cap2,[x6,y,z']⟩,rfl,⟨i1,i2⟩,⟨by show l.length≤30;omega,by show 3≤30;omega⟩,ge1',by show w.heap.size≤g2';omega,nc1,q'+2,by simp at hq' ⊢;omega,hr9,hb9⟩
        )
     have h1':(r5==1)=false:=by simpa using h1
     by_cases h2:r5=2
     ·subst h2
      obtain ⟨x,y,z',rfl⟩:=three hm3'.out
      obtain ⟨g2,cap2,rfl,gb2,glt2⟩:=hF5.form (by simp)
      have hcap:=own_cap hF5
      obtain ⟨n2,hn2⟩:∃ n2,[x,y,z'].length=n2:=⟨_,rfl⟩
      have hn3:n2=3:=by rw [← hn2];rfl
      rw [hn2] at hcap hF5 hS5
      subst hn3
      have x0:=hS5.c0
      have x1:=hS5.c1
      have xf:=hS5.fz
      have k1:=hF5.cellAt 1 (by decide)
      have k2:=hF5.cellAt 2 (by decide)
      have e1:(3:Int)≤cap2:=by omega
      obtain ⟨a1,g1,c1,rfl,_,ge1,nc1⟩:=own_numsC hE5
      obtain ⟨u,hu⟩:∃ u,Value.slice (some ⟨g2,1,none⟩) 2 (cap2 - 1)=u:=⟨_,rfl⟩
      have hS6:=hS5.set1 u
      have hR6:=hR5.far (b':=S) (i:=1) (by omega) u
      have hR7:=hR6.set0 (.slice a1 l.length c1)
      have hE8:=own_slot (i:=1) (own_slot (i:=0) (own_slot (i:=1) hE5 hS5 u) hR6 (.slice a1 l.length c1)) hR7 u
      have hF8:=own_slot (i:=1) (own_slot (i:=0) (own_slot (i:=1) hF5 hS5 u) hR6 (.slice a1 l.length c1)) hR7 u
      have hr8:=((hr5.setCell (b:=S) (i:=1) (by omega) (by omega) u).setCell (b:=R) (i:=0) (by omega) (by omega) (.slice a1 l.length c1)).setCell (b:=R) (i:=1) (by omega) (by omega) u
      have hb8:=((hb5'.setCell (p:=⟨S,1,none⟩) (Or.inl (by show w.heap.size≤S;omega)) u).setCell (p:=⟨R,0,none⟩) (Or.inl (by show w.heap.size≤R;omega)) (.slice a1 l.length c1)).setCell (p:=⟨R,1,none⟩) (Or.inl (by show w.heap.size≤R;omega)) u
      subst hu
      have x6:=hS6.c0
      have y0:=hR6.c0
      have y1:=hR6.c1
      have yf:=hR6.fz
      have k1:=hF8.cellAt 1 (by decide)
      have k2:=hF8.cellAt 2 (by decide)
      obtain ⟨a1',g1',c1',ev,i1,ge1',_⟩:=own_nums hE8
      simp only [Value.slice.injEq] at ev
      obtain ⟨rfl,_,rfl⟩:=ev
      clear hE8 hF8 hR7
      go_wp2_with fail
      refine bodyPost_ret (v:=.agg #[.slice a1 l.length c1,.slice (some ⟨g2,1,none⟩) 2 (cap2 - 1)]) (by simp [results,Tryz.results108,go_sem,y0,y1]) rfl ⟨⟨a1,g1',0,c1,l,some ⟨g2,1,none⟩,g2,1,cap2 - 1,[y,z']⟩,rfl,⟨i1,⟨fun _=>rfl,fun i hi=>?_⟩⟩,⟨by show l.length≤30;omega,by show 2≤30;omega⟩,ge1',by show w.heap.size≤g2;omega,nc1,q'+1,by simp at hq' ⊢;omega,hr8,hb8⟩
      match i,hi with
      | 0,_=>exact k1
      | 1,_=>exact k2
     have h2':(r5==2)=false:=by simpa using h2
     have hR9:=hR5.set0 v
     have hE9:=own_slot (i:=1) (own_slot (i:=0) hE5 hR5 v) hR9 v2
     have hF9:=own_slot (i:=1) (own_slot (i:=0) hF5 hR5 v) hR9 v2
     obtain ⟨a1,g1,c1,rfl,i1,ge1,nc1⟩:=own_numsC hE9
     obtain ⟨a2,g2,c2,rfl,i2,ge2,_⟩:=own_nums hF9
     have x0:=hS5.c0
     have x1:=hS5.c1
     have y0:=hR5.c0
     have y1:=hR5.c1
     have yf:=hR5.fz
     clear hE9 hF9 hR9
     go_wp2_with fail
     refine bodyPost_ret (v:=.agg #[.slice a1 (l).length c1,.slice a2 m.length c2]) (by simp [results,Tryz.results108,go_sem,y0,y1]) rfl ⟨⟨a1,g1,0,c1,l,a2,g2,0,c2,m⟩,rfl,⟨i1,i2⟩,⟨by show (l).length≤30;omega,by show m.length≤30;omega⟩,ge1,by show w.heap.size≤g2;omega,nc1,q'+1,by omega,?_,?_⟩
     ·exact (hr5.setCell (by omega) (by omega) _).setCell (by omega) (by omega) _
     ·exact (hb5'.setCell (Or.inl (by show w.heap.size≤R;omega)) _).setCell (Or.inl (by show w.heap.size≤R;omega)) _
end
section
open Go.RowKit
theorem M.tot_21w {ll:List (List M.D)} (f:Int→Bool) (h3:ll.length≤3) (h7:∀ t∈ll,t.length≤7):M.tot f ll≤21:=by
 have key:∀ l:List (List M.D),(∀ t∈l,t.length≤7)→M.tot f l≤7 * l.length:=fun l=>by
  induction l with
  | nil=>intro _;simp [M.tot]
  | cons t l ih =>
   intro h
   have h1:=ih (fun t ht=>h t (by simp [ht]))
   have h2:=h t (by simp)
   have h3:=M.cnt_le f t
   simp only [M.tot,List.length_cons]
   omega
 have:=key ll h7
 omega
theorem M.nreads_21w (ll:List (List M.D)):M.nreads ll≤21:=by
 cases hp:M.prog ll
 ·rw [M.nreads_no hp];omega
 ·obtain ⟨h3,h7⟩:=M.prog_le hp
  rw [M.nreads_ok hp];have:=M.tot_21w M.reads h3 h7;omega
set_option maxHeartbeats 4000000 in
set_option maxRecDepth 100000 in
set_option linter.unusedSimpArgs false in
theorem l71Why_any (B rb p:Nat) (kind:Int) (w:World) (hp:p≤1000) (h:Rdr w B rb p) :
  Calls Tryz.prog 50 #[.pointer (some ⟨rb,0,none⟩),.int .i64 kind] w fun e w'=>∃ (a:Option Addr) (g c:Nat) (mm:List (List M.D)) (s:Sn),e=.returned (.tuple #[.agg #[.slice a mm.length c],.agg #[.slice s.a1 s.l1.length s.c1,.slice s.a2 s.l2.length s.c2]])∧DoSN (w.heap.size+2) w' a g 0 mm∧Small mm c∧s.At w'∧s.Le 1048576∧(w.heap.size+2≤s.b1∧w.heap.size+2≤s.b2∧s.l1.length≤s.c1)∧∃ p':Nat,p'≤p+10200∧Rdr w' B rb p'∧But rb w w':=by
 have hlt:=h.lt
 have hge:=h.ge
 have hb0:=below2 w (.cells #[.slice none 0 0] 25) (.cells #[.slice none 0 0,.slice none 0 0] 45)
 have hR0:Slot1 ((w.alloc (.cells #[.slice none 0 0] 25)).alloc (.cells #[.slice none 0 0,.slice none 0 0] 45)) w.heap.size (.slice none 0 0):=(Slot1.new w _ _).ofB (alloc_old _ _ _ (by simp))
 have hQ0:Slot2 ((w.alloc (.cells #[.slice none 0 0] 25)).alloc (.cells #[.slice none 0 0,.slice none 0 0] 45)) (w.heap.size+1) (.slice none 0 0) (.slice none 0 0):=⟨alloc_new _ _ _ (by simp)⟩
 have hsz0:((w.alloc (.cells #[.slice none 0 0] 25)).alloc (.cells #[.slice none 0 0,.slice none 0 0] 45)).heap.size=w.heap.size+2:=by simp
 have hr0:=h.below hb0 (Nat.le_refl _)
 go_enter Tryz.func50,Tryz.ntmps50
 go_wp2_with fail
 generalize (w.alloc (.cells #[.slice none 0 0] 25)).alloc (.cells #[.slice none 0 0,.slice none 0 0] 45)=W0 at *
 refine (l71Any_any B rb p W0 (by omega) hr0).mono ?_
 rintro e w1 ⟨a,g,c,mm,rfl,hsn,hsm,p1,hp1,hr1,hb1⟩
 have hls:∀ t∈mm,t.length≤1048576:=fun t ht=>by have:=hsm.steps t ht;omega
 have hl3:mm.length≤1048576:=by have:=hsm.three;omega
 have hR1:=hR0.but hb1 (by omega)
 have hQ1:=hQ0.but hb1 (by omega)
 have sz1:=hb1.size
 have hbw1:But rb w w1:=(But.of hb0).trans hb1
 have bA:=below1 w1 (.cells #[.slice a mm.length c] 25)
 have hP2:Slot1 (w1.alloc (.cells #[.slice a mm.length c] 25)) w1.heap.size (.slice a mm.length c):=Slot1.new w1 _ _
 have hR2:=hR1.but (But.of (rb:=rb) bA) (by omega)
 have hQ2:=hQ1.but (But.of (rb:=rb) bA) (by omega)
 have hd2:=hsn.but (But.of (rb:=rb) bA) (by omega)
 have hr2:=hr1.below bA (Nat.le_refl _)
 have hb2:But rb w (w1.alloc (.cells #[.slice a mm.length c] 25)):=hbw1.trans (But.of bA)
 clear hR0 hQ0 hR1 hQ1 hsn hr1 hb1 hbw1 bA hb0 hr0 h
 go_wp2_with fail
 generalize w1.alloc (.cells #[.slice a mm.length c] 25)=W2 at *
 obtain ⟨P,hPe⟩:∃ P,w1.heap.size=P:=⟨_,rfl⟩
 rw [hPe] at hP2 ⊢
 have hPlt:w.heap.size+2≤P:=by omega
 have hPW:P < W2.heap.size:=hP2.lt
 have FIN:∀ (Wz:World) (s:Sn) (pk:Nat),Slot1 Wz w.heap.size (.slice none 0 0)→Slot2 Wz (w.heap.size+1) (.slice none 0 0) (.slice none 0 0)→DoSN (w.heap.size+2) Wz a g 0 mm→s.At Wz→s.Le 1048576→(w.heap.size+2≤s.b1∧w.heap.size+2≤s.b2∧s.l1.length≤s.c1)→Rdr Wz B rb pk→pk≤p+10200→But rb w Wz→∀ tm:Array Value,tm.getD 4 undef=.pointer (some ⟨w.heap.size,0,none⟩)→tm.getD 5 undef=.pointer (some ⟨w.heap.size+1,0,none⟩) →
   bodyPost Tryz.prog Tryz.f50 (fun e w'=>∃ (a:Option Addr) (g c:Nat) (mm:List (List M.D)) (s:Sn),e=.returned (.tuple #[.agg #[.slice a mm.length c],.agg #[.slice s.a1 s.l1.length s.c1,.slice s.a2 s.l2.length s.c2]])∧DoSN (w.heap.size+2) w' a g 0 mm∧Small mm c∧s.At w'∧s.Le 1048576∧(w.heap.size+2≤s.b1∧w.heap.size+2≤s.b2∧s.l1.length≤s.c1)∧∃ p':Nat,p'≤p+10200∧Rdr w' B rb p'∧But rb w w') .ret { tmps:=tm,defers:=[] } (((Wz.setCell ⟨w.heap.size,0,none⟩ (.slice a mm.length c)).setCell ⟨w.heap.size+1,0,none⟩ (.slice s.a1 s.l1.length s.c1)).setCell ⟨w.heap.size+1,1,none⟩ (.slice s.a2 s.l2.length s.c2)):=by
  intro Wz s pk hR hQ hd hsA hsL hsb hr hpk hb tm h4 h5
  have e1:=(((hR.set (.slice a mm.length c)).far (b':=w.heap.size+1) (i:=0) (by omega) (.slice s.a1 s.l1.length s.c1)).far (b':=w.heap.size+1) (i:=1) (by omega) (.slice s.a2 s.l2.length s.c2)).c
  have q:=((hQ.far (b':=w.heap.size) (i:=0) (by omega) (.slice a mm.length c)).set0 (.slice s.a1 s.l1.length s.c1)).set1 (.slice s.a2 s.l2.length s.c2)
  have e2:=q.c0
  have e3:=q.c1
  have h4':tm[4]?.getD undef=.pointer (some ⟨w.heap.size,0,none⟩):=by simpa using h4
  have h5':tm[5]?.getD undef=.pointer (some ⟨w.heap.size+1,0,none⟩):=by simpa using h5
  refine bodyPost_ret (v:=.tuple #[.agg #[.slice a mm.length c],.agg #[.slice s.a1 s.l1.length s.c1,.slice s.a2 s.l2.length s.c2]]) (by simp [results,Tryz.results50,go_sem,h4',h5',e1,e2,e3]) rfl ⟨a,g,c,mm,s,rfl,((hd.far (by omega)).far (by omega)).far (by omega),hsm,?_,hsL,hsb,pk,hpk,?_,?_⟩
  ·exact hsA.fr (O:=fun k=>w.heap.size+2≤k) ((((Fr.refl _ Wz).setCell _ (by show ¬ w.heap.size+2≤w.heap.size;omega)).setCell _ (by show ¬ w.heap.size+2≤w.heap.size+1;omega)).setCell _ (by show ¬ w.heap.size+2≤w.heap.size+1;omega)) (fun k hk=>by rcases hk with ⟨_,rfl⟩ | ⟨_,rfl⟩<;>omega)
  ·exact ((hr.setCell (by omega) (by omega) _).setCell (by omega) (by omega) _).setCell (by omega) (by omega) _
  ·exact ((hb.setCell (p:=⟨w.heap.size,0,none⟩) (Or.inl (Nat.le_refl _)) _).setCell (p:=⟨w.heap.size+1,0,none⟩) (Or.inl (Nat.le_succ _)) _).setCell (p:=⟨w.heap.size+1,1,none⟩) (Or.inl (Nat.le_succ _)) _
 have nPR:w.heap.size≠P:=by omega
 have nQP:w.heap.size+1≠P:=by omega
 have nRQ:w.heap.size≠w.heap.size+1:=by omega
 have nQR:w.heap.size+1≠w.heap.size:=by omega
 have hsz2:w.heap.size+2≤W2.heap.size:=by omega
 refine (sorderAllN_any a g 0 c mm kind W2 hl3 hls hd2.ss).mono ?_
 rintro e w3 ⟨gl,cap,tt,rfl,hk,hS,htl,htc,hnw,hb3⟩
 have HK:Hid (kys tt=M.sorderAll mm kind):=hk
 have hP4:=hP2.but (But.of (rb:=rb) hb3) (by omega)
 have hR4:=hR2.but (But.of (rb:=rb) hb3) (by omega)
 have hQ4:=hQ2.but (But.of (rb:=rb) hb3) (by omega)
 have hd4:=(hd2.but (But.of (rb:=rb) hb3) (by omega)).mono (N':=w.heap.size+2) (by omega)
 have hr4:=hr2.below hb3 (Nat.le_refl _)
 have hb4:=hb2.trans (But.of (rb:=rb) hb3)
 have hsz4:w.heap.size+2≤w3.heap.size:=Nat.le_trans hsz2 hb3.size
 clear hk hP2 hR2 hQ2 hd2 hr2 hb2
 by_cases h0:tt.length=0
 ·rw [h0]
  go_wp2_with fail
  have P3:=hP4.c
  have hr4d:=hr4.below (Below.refl _ _).drew (Nat.le_refl _)
  go_region_held3 (fun w'=>w'.cell? ⟨P,0,none⟩=some (.slice a mm.length c)) (go_keep) (first
   | (go_at_call 108;refine (l71Seen_cap B rb p1 a g 0 c mm _ (by omega) hl3 hls (M.nreads_21w mm) hr4d (hd4.ss.below (Below.refl _ _).drew (Nat.le_refl _))).mono ?_;rintro e w5 ⟨s,rfl,hsA,hsL,hsb1,hsb2,hscc,p5,hp5,hr5,hb5⟩;have bt:But rb w3 w5:=(But.refl rb w3).drew.trans hb5;have hRz:=hR4.but bt (by omega);have hQz:=hQ4.but bt (by omega);have P4:=(hP4.but bt (by omega)).c;have R6:=hRz.c;have R6f:=hRz.fz;have Q60:=hQz.c0;have Q61:=hQz.c1;have Q6f:=hQz.fz))
  have hF:=FIN w5 s p5 hRz hQz (hd4.but bt (by omega)) hsA ⟨by have:=hsL.1;omega,by have:=hsL.2;omega⟩ ⟨Nat.le_trans hsz4 hsb1,Nat.le_trans hsz4 hsb2,hscc.2⟩ hr5 (by omega) (hb4.trans bt)
  go_wp2_with fail
  exact hF _ rfl rfl
 ·have i1:¬ (tt.length:Int)=0:=by omega
  go_wp2_with fail
  refine (pick_rdr B rb p1 4 _ (by omega) (by omega) (by omega) hr4).mono ?_
  rintro e w4 ⟨r,rfl,r0,r1,hr5,hb5⟩
  have hP5:=hP4.but hb5 (by omega)
  have hR5:=hR4.but hb5 (by omega)
  have hQ5:=hQ4.but hb5 (by omega)
  have hd5:=hd4.but hb5 (by omega)
  have hb45:=hb4.trans hb5
  have hsz5:w.heap.size+2≤w4.heap.size:=Nat.le_trans hsz4 hb5.size
  by_cases h1:r=0
  ·subst h1
   clear hr4 hP4 hR4 hQ4 hd4 hb4 hsz4
   have hr4:=hr5
   have hP4:=hP5
   have hR4:=hR5
   have hQ4:=hQ5
   have hd4:=hd5
   have hb4:=hb45
   have hsz4:=hsz5
   clear hr5 hP5 hR5 hQ5 hd5 hb45 hsz5
   go_wp2_with fail
   have P3:=hP4.c
   have hr4d:=hr4.below (Below.refl _ _).drew (Nat.le_refl _)
   go_region_held3 (fun w'=>w'.cell? ⟨P,0,none⟩=some (.slice a mm.length c)) (go_keep) (first
    | (go_at_call 108;refine (l71Seen_cap B rb (p1+1) a g 0 c mm _ (by omega) hl3 hls (M.nreads_21w mm) hr4d (hd4.ss.below (Below.refl _ _).drew (Nat.le_refl _))).mono ?_;rintro e w5 ⟨s,rfl,hsA,hsL,hsb1,hsb2,hscc,p5,hp5,hr5,hb5⟩;have bt:But rb w4 w5:=(But.refl rb w4).drew.trans hb5;have hRz:=hR4.but bt (by omega);have hQz:=hQ4.but bt (by omega);have P4:=(hP4.but bt (by omega)).c;have R6:=hRz.c;have R6f:=hRz.fz;have Q60:=hQz.c0;have Q61:=hQz.c1;have Q6f:=hQz.fz))
   have hF:=FIN w5 s p5 hRz hQz (hd4.but bt (by omega)) hsA ⟨by have:=hsL.1;omega,by have:=hsL.2;omega⟩ ⟨Nat.le_trans hsz4 hsb1,Nat.le_trans hsz4 hsb2,hscc.2⟩ hr5 (by omega) (hb4.trans bt)
   go_wp2_with fail
   exact hF _ rfl rfl
  ·have i3:((tt.length:Int)==0)=false:=by rw [beq_eq_false_iff_ne];omega
   have i4:(r==0)=false:=by rw [beq_eq_false_iff_ne];exact h1
   have i5:¬ (((tt.length:Int)==0)=true∨(r==0)=true):=by rw [i3,i4];simp
   go_wp2_with fail
   have P3:=hP5.c
   have hr5d:=hr5.below (Below.refl _ _).drew (Nat.le_refl _)
   have hgl:gl < w3.heap.size:=World.block_lt_of_cell? _ _ (hS.sr.c 0 (by omega)).1
   have HL:Hid (∀ k∈kys tt,k.1.length≤1048576∧k.2.length≤1048576):=by show _;rw [HK.out,M.sorder_same];exact M.orderAll_le mm kind
   have HEL:Hid (∀ (q:Nat) (_:q < tt.length),∃ s:Sn,(∀ W:World,Fr (fun k=>k≠rb∧k≠w.heap.size∧k≠w.heap.size+1) w4 W→W.cell? ⟨gl,q * 2,none⟩=some (.slice s.a1 s.l1.length s.c1)∧W.cell? ⟨gl,q * 2+1,none⟩=some (.slice s.a2 s.l2.length s.c2)∧s.At W)∧s.Le 1048576∧w.heap.size+2≤s.b1∧w.heap.size+2≤s.b2∧s.l1.length≤s.c1):=by
    intro q hq
    have hm:=List.getElem_mem hq
    have hn2:=hnw.2 _ hm
    have hn1:=hnw.1
    refine ⟨tt[q],fun W hbW=>?_,(hS.at_ _ hm).2,by omega,by omega,hn2.2.2⟩
    obtain ⟨u0,u1⟩:=hS.sr.c q hq
    exact ⟨hbW.cell (p:=⟨gl,q * 2,none⟩) ⟨by show gl≠rb;omega,by show gl≠w.heap.size;omega,by show gl≠w.heap.size+1;omega⟩ ((hb5.cell (p:=⟨gl,q * 2,none⟩) hgl (by show gl≠rb;omega)).trans u0),hbW.cell (p:=⟨gl,q * 2+1,none⟩) ⟨by show gl≠rb;omega,by show gl≠w.heap.size;omega,by show gl≠w.heap.size+1;omega⟩ ((hb5.cell (p:=⟨gl,q * 2+1,none⟩) hgl (by show gl≠rb;omega)).trans u1),((hS.at_ _ hm).1.butO hb5 (by omega) (by omega)).fr hbW (fun k hk=>by rcases hk with ⟨_,rfl⟩ | ⟨_,rfl⟩<;>exact ⟨by omega,by omega,by omega⟩)⟩
   clear HL
   refine wp_region_held_drew (S:=fun w'=>Fr (fun k=>k≠rb∧k≠w.heap.size∧k≠w.heap.size+1) w4 w') (by kernel_rfl) ⟨rfl,rfl,rfl,Nat.le_refl _,fun _ _ _=>rfl⟩ (fun hH=>?_)
   refine tk 0 25 (.agg #[.slice a mm.length c]) hH rfl rfl (by intro w' hSw;have P6:=hSw.cell (p:=⟨P,0,none⟩) ⟨by show P≠rb;omega,by show P≠w.heap.size;omega,by show P≠w.heap.size+1;omega⟩ P3;go_simp) ?_
   simp only [Act.put,zqa,zqb,zqc]
   refine tk 1 26 (.slice (some ⟨gl,0,none⟩) tt.length cap) hH rfl rfl (by intro w' hSw;go_simp) ?_
   simp only [Act.put,zqa,zqb,zqc]
   refine tk 2 27 (.pointer (some ⟨rb,0,none⟩)) hH rfl rfl (by intro w' hSw;go_simp) ?_
   simp only [Act.put,zqa,zqb,zqc]
   refine tk 3 28 (.slice (some ⟨gl,0,none⟩) tt.length cap) hH rfl rfl (by intro w' hSw;go_simp) ?_
   simp only [Act.put,zqa,zqb,zqc]
   refine tk 4 29 (.int .i64 tt.length) hH rfl rfl (by intro w' hSw;go_simp) ?_
   simp only [Act.put,zqa,zqb,zqc]
   refine ry 5 rfl (fun K' hK=>?_)
   refine sg 30 rfl 65 #[.tmp 27,.tmp 29] rfl #[.pointer (some ⟨rb,0,none⟩),.int .i64 tt.length] (enters_of Tryz.func65 (by kernel_rfl) rfl) (pick_big B rb (p1+1) tt.length _ (by omega) (by omega) (by omega) hr5d) ?_
   rintro e w6 ⟨r6,rfl,r60,r61,hr6,hb6⟩
   obtain ⟨q,rfl⟩:∃ q:Nat,r6=q:=⟨r6.toNat,by omega⟩
   have hq:q < tt.length:=by omega
   have bt:But rb w4 w6:=(But.refl rb w4).drew.trans hb6
   refine ⟨_,rfl,hK.out _ _ ⟨bt.os,bt.tape,bt.output,bt.size,fun k hk hk'=>bt.block k hk hk'.1⟩ (fun hH1=>?_)⟩
   clear hK K'
   simp only [Act.put,zqa,zqb,zqc]
   obtain ⟨s,hu,hsL,hsb1,hsb2,hscc⟩:=HEL.out q hq
   have HU:Hid (∀ W:World,Fr (fun k=>k≠rb∧k≠w.heap.size∧k≠w.heap.size+1) w4 W→W.cell? ⟨gl,q * 2,none⟩=some (.slice s.a1 s.l1.length s.c1)∧W.cell? ⟨gl,q * 2+1,none⟩=some (.slice s.a2 s.l2.length s.c2)∧s.At W):=hu
   clear hu HEL
   have hRz:=hR5.but bt (by omega)
   have hQz:=hQ5.but bt (by omega)
   have iq:(q:Int) < tt.length:=by omega
   refine tk 6 31 (.pointer (some ⟨gl,q * 2,none⟩)) hH1 rfl rfl (by intro w' hSw;go_simp) ?_
   simp only [Act.put,zqa,zqb,zqc]
   refine tk 7 32 (.agg #[.slice s.a1 s.l1.length s.c1,.slice s.a2 s.l2.length s.c2]) hH1 rfl rfl (by intro w' hSw;obtain ⟨u0,u1,_⟩:=HU.out w' hSw;go_simp) ?_
   simp only [Act.put,zqa,zqb,zqc]
   refine ry 8 rfl (fun K' hK=>?_)
   have R6:=hRz.c
   have R6f:=hRz.fz
   rw [if_pos (by rfl)]
   go_simp
   refine hK.out _ _ (hH1.setCell _ (fun h=>h.2.1 rfl)) (fun _=>?_)
   clear hK K' R6 R6f
   have hQz2:=hQz.far (b':=w.heap.size) (i:=0) (by omega) (.slice a mm.length c)
   have Q60:=hQz2.c0
   have Q61:=hQz2.c1
   have Q6f:=hQz2.fz
   refine ry 9 rfl (fun K' hK=>?_)
   rw [if_pos (by rfl)]
   go_simp
   refine hK.out _ _ (((hH1.setCell _ (fun h=>h.2.1 rfl)).setCell _ (fun h=>h.2.2 rfl)).setCell _ (fun h=>h.2.2 rfl)) (fun _=>?_)
   clear hK K' hQz2 Q60 Q61 Q6f
   refine wpAnyH_done (by kernel_rfl) ?_ _
   have hF:=FIN w6 s (p1+1+1) hRz hQz (hd5.but bt (by omega)) (HU.out w6 hH1).2.2 hsL ⟨hsb1,hsb2,hscc⟩ hr6 (by omega) (hb45.trans bt)
   go_wp2_with fail
   exact hF _ rfl rfl
end
section
open Go.RowKit
structure WyDrawn (w w':World) (a:Option Addr) (g c:Nat) (mm:List (List M.D)) (s:Sn):Prop where
 sn:DoSN (w.heap.size+2) w' a g 0 mm
 sm:Small mm c
 at_:s.At w'
 le:s.Le 1048576
 b:w.heap.size+2≤s.b1∧w.heap.size+2≤s.b2∧s.l1.length≤s.c1
 bel:Below w.heap.size w w'
theorem wx_store {w Wz:World} {a:Option Addr} {g c:Nat} {mm:List (List M.D)} {s:Sn} (hR:Slot1 Wz w.heap.size (.slice none 0 0)) (hQ:Slot2 Wz (w.heap.size+1) (.slice none 0 0) (.slice none 0 0)) (h:WyDrawn w Wz a g c mm s) :
  WyDrawn w (((Wz.setCell ⟨w.heap.size,0,none⟩ (.slice a mm.length c)).setCell ⟨w.heap.size+1,0,none⟩ (.slice s.a1 s.l1.length s.c1)).setCell ⟨w.heap.size+1,1,none⟩ (.slice s.a2 s.l2.length s.c2)) a g c mm s ∧
  (((Wz.setCell ⟨w.heap.size,0,none⟩ (.slice a mm.length c)).setCell ⟨w.heap.size+1,0,none⟩ (.slice s.a1 s.l1.length s.c1)).setCell ⟨w.heap.size+1,1,none⟩ (.slice s.a2 s.l2.length s.c2)).cell? ⟨w.heap.size,0,none⟩=some (.slice a mm.length c) ∧
  (((Wz.setCell ⟨w.heap.size,0,none⟩ (.slice a mm.length c)).setCell ⟨w.heap.size+1,0,none⟩ (.slice s.a1 s.l1.length s.c1)).setCell ⟨w.heap.size+1,1,none⟩ (.slice s.a2 s.l2.length s.c2)).cell? ⟨w.heap.size+1,0,none⟩=some (.slice s.a1 s.l1.length s.c1) ∧
  (((Wz.setCell ⟨w.heap.size,0,none⟩ (.slice a mm.length c)).setCell ⟨w.heap.size+1,0,none⟩ (.slice s.a1 s.l1.length s.c1)).setCell ⟨w.heap.size+1,1,none⟩ (.slice s.a2 s.l2.length s.c2)).cell? ⟨w.heap.size+1,1,none⟩=some (.slice s.a2 s.l2.length s.c2):=by
 have hb:=h.b
 have e1:=(((hR.set (.slice a mm.length c)).far (b':=w.heap.size+1) (i:=0) (by omega) (.slice s.a1 s.l1.length s.c1)).far (b':=w.heap.size+1) (i:=1) (by omega) (.slice s.a2 s.l2.length s.c2)).c
 have q:=((hQ.far (b':=w.heap.size) (i:=0) (by omega) (.slice a mm.length c)).set0 (.slice s.a1 s.l1.length s.c1)).set1 (.slice s.a2 s.l2.length s.c2)
 refine ⟨⟨((h.sn.far (by omega)).far (by omega)).far (by omega),h.sm,?_,h.le,hb,((h.bel.setCell (p:=⟨w.heap.size,0,none⟩) (Nat.le_refl _) _).setCell (p:=⟨w.heap.size+1,0,none⟩) (Nat.le_succ _) _).setCell (p:=⟨w.heap.size+1,1,none⟩) (Nat.le_succ _) _⟩,e1,q.c0,q.c1⟩
 exact h.at_.fr (O:=fun k=>w.heap.size+2≤k) ((((Fr.refl _ Wz).setCell _ (by show ¬ w.heap.size+2≤w.heap.size;omega)).setCell _ (by show ¬ w.heap.size+2≤w.heap.size+1;omega)).setCell _ (by show ¬ w.heap.size+2≤w.heap.size+1;omega)) (fun k hk=>by rcases hk with ⟨_,rfl⟩ | ⟨_,rfl⟩<;>omega)
set_option maxHeartbeats 4000000 in
set_option maxRecDepth 100000 in
set_option linter.unusedSimpArgs false in
theorem DrawWhyOrder_any (ca:Option Addr) (cb co L C:Nat) (x:Nat→Int) (w:World) (hL:L≤C) (had:0 < L→ca=some ⟨cb,co,none⟩) (hc:∀ i,i < L→w.cell? ⟨cb,co+i,none⟩=some (.int .u8 (x i))∧0≤x i∧x i≤255) (hLb:L≤1048576) :
  Calls Tryz.prog 26 #[.slice ca L C] w fun e w'=>∃ (a:Option Addr) (g c:Nat) (mm:List (List M.D)) (s:Sn),e=.returned (.tuple #[.agg #[.slice a mm.length c],.agg #[.slice s.a1 s.l1.length s.c1,.slice s.a2 s.l2.length s.c2]])∧WyDrawn w w' a g c mm s:=by
 have hb0:=below2 w (.cells #[.slice none 0 0] 25) (.cells #[.slice none 0 0,.slice none 0 0] 45)
 have hR0:Slot1 ((w.alloc (.cells #[.slice none 0 0] 25)).alloc (.cells #[.slice none 0 0,.slice none 0 0] 45)) w.heap.size (.slice none 0 0):=(Slot1.new w _ _).ofB (alloc_old _ _ _ (by simp))
 have hQ0:Slot2 ((w.alloc (.cells #[.slice none 0 0] 25)).alloc (.cells #[.slice none 0 0,.slice none 0 0] 45)) (w.heap.size+1) (.slice none 0 0) (.slice none 0 0):=⟨alloc_new _ _ _ (by simp)⟩
 have hsz0:((w.alloc (.cells #[.slice none 0 0] 25)).alloc (.cells #[.slice none 0 0,.slice none 0 0] 45)).heap.size=w.heap.size+2:=by simp
 go_enter Tryz.func26,Tryz.ntmps26
 go_wp2_with fail
 generalize (w.alloc (.cells #[.slice none 0 0] 25)).alloc (.cells #[.slice none 0 0,.slice none 0 0] 45)=W0 at *
 refine (l6Open_any ca cb co L C x _ hL had (fun i hi=>⟨by rw [hb0.cell (p:=⟨cb,co+i,none⟩) (World.block_lt_of_cell? _ _ (hc i hi).1)];exact (hc i hi).1,(hc i hi).2⟩) hLb).mono ?_
 rintro e w1 ⟨rfl,hr1,hb1⟩
 rw [hsz0] at hr1 ⊢
 obtain ⟨rb,hrb⟩:∃ rb,w.heap.size+2=rb:=⟨_,rfl⟩
 rw [hrb] at hr1 ⊢
 have hb1w:Below w.heap.size w w1:=hb0.trans (hb1.mono (by omega))
 have hR1:=hR0.but (But.of (rb:=rb) hb1) (by omega)
 have hQ1:=hQ0.but (But.of (rb:=rb) hb1) (by omega)
 have hlt1:=hr1.lt
 clear hc had hb0 hb1 hR0 hQ0
 go_wp2_with fail
 refine (pick_rdr _ rb 0 3 _ (by omega) (by omega) (by omega) hr1).mono ?_
 rintro e w2 ⟨r,rfl,r0,r1,hr2,hb2⟩
 have hR2:=hR1.but hb2 (by omega)
 have hQ2:=hQ1.but hb2 (by omega)
 have hb2w:Below w.heap.size w w2:=But.below hb1w hb2 (by omega)
 clear hR1 hQ1 hr1
 go_wp2_with fail
 refine (l71Why_any _ rb (0+1) (1+r) _ (by omega) hr2).mono ?_
 rintro e w3 ⟨a,g,c,mm,s,rfl,hsn,hsm,hsA,hsL,hsb,p3,hp3,hr3,hb3⟩
 have hR3:=hR2.but hb3 (by omega)
 have hQ3:=hQ2.but hb3 (by omega)
 have hlt2:=hb2w.size
 have hD:WyDrawn w w3 a g c mm s:=⟨hsn.mono (by omega),hsm,hsA,hsL,by omega,But.below hb2w hb3 (by omega)⟩
 obtain ⟨hF,e1,e2,e3⟩:=wx_store hR3 hQ3 hD
 have R6:=hR3.c
 have R6f:=hR3.fz
 have Q60:=hQ3.c0
 have Q61:=hQ3.c1
 have Q6f:=hQ3.fz
 have nRQ:w.heap.size≠w.heap.size+1:=by omega
 clear hR2 hQ2 hr2 hr3 hsn hsA hD
 go_wp2_with fail
 exact bodyPost_ret (v:=.tuple #[.agg #[.slice a mm.length c],.agg #[.slice s.a1 s.l1.length s.c1,.slice s.a2 s.l2.length s.c2]]) (by simp [results,Tryz.results26,go_sem,e1,e2,e3]) rfl ⟨a,g,c,mm,s,rfl,hF⟩
end
end Go.Proofs.YtmhpgdliaclokaaGreat
