/- The plain mathematics of spec's l2Put. No condition. spec.l2Put: one put in, if it is not there. Of at most 1048576, each of at most 1048576 numbers. spec.SeenSort: in order, each once. Of at most 1048576, each of at most 1048576 numbers. -/
import Derived.Deep.AppendSrc
import Derived.Test.YtegommoflmmahaaGreatRows
import Derived.Test.YtegommoflmmahaaGreatQubp
namespace Go.Proofs.YtegommoflmmahaaGreat
section
namespace M
structure Put (ks:List Ky) (k:Ky) (out:List Ky) (done:Bool) (n:Nat):Prop where
 le:n≤ks.length
 no:done=false→out=ks.take n∧putIn ks k=ks.take n++putIn (ks.drop n) k
 yes:done=true→putIn ks k=out++ks.drop n∧∀ y∈ks.drop n,0 < cmpK y k
theorem Put.start (ks:List Ky) (k:Ky):Put ks k [] false 0:=⟨Nat.zero_le _,fun _=>⟨rfl,rfl⟩,fun h=>by cases h⟩
theorem Put.less {ks:List Ky} {k:Ky} {out:List Ky} {n:Nat} (h:Put ks k out false n) (hn:n < ks.length) (hc:cmpK ks[n] k < 0):Put ks k (out++[ks[n]]) false (n+1):=by
 obtain ⟨h1,h2⟩:=h.no rfl
 refine ⟨by omega,fun _=>⟨?_,?_⟩,fun h=>by cases h⟩
 ·rw [h1,List.take_succ_eq_append_getElem hn]
 ·rw [h2,← List.getElem_cons_drop hn,putIn,if_neg (by omega),if_neg (by omega),List.take_succ_eq_append_getElem hn,List.append_assoc]
  rfl
theorem Put.more {ks:List Ky} {k:Ky} {out:List Ky} {n:Nat} (ha:Asc ks) (h:Put ks k out false n) (hn:n < ks.length) (hc:0 < cmpK ks[n] k):Put ks k (out++[k]++[ks[n]]) true (n+1):=by
 obtain ⟨h1,h2⟩:=h.no rfl
 refine ⟨by omega,fun h=>(by cases h),fun _=>⟨?_,fun y hy=>?_⟩⟩
 ·rw [h2,h1,← List.getElem_cons_drop hn,putIn,if_neg (by omega),if_pos hc]
  simp
 ·have hd:Asc (ks.drop n):=List.Pairwise.sublist (List.drop_sublist n ks) ha
  rw [← List.getElem_cons_drop hn] at hd
  have h3:=(List.pairwise_cons.1 hd).1 y hy
  have h4:cmpK k ks[n] < 0:=by have:=cmpK_neg ks[n] k;omega
  have h5:=cmpK_trans h4 h3
  have:=cmpK_neg k y
  omega
theorem Put.on {ks:List Ky} {k:Ky} {out:List Ky} {n:Nat} (h:Put ks k out true n) (hn:n < ks.length):Put ks k (out++[ks[n]]) true (n+1):=by
 obtain ⟨h1,h2⟩:=h.yes rfl
 refine ⟨by omega,fun h=>(by cases h),fun _=>⟨?_,fun y hy=>?_⟩⟩
 ·rw [h1,← List.getElem_cons_drop hn];simp
 ·exact h2 y (by rw [← List.getElem_cons_drop hn];exact List.mem_cons_of_mem _ hy)
theorem Put.ne {ks:List Ky} {k:Ky} {out:List Ky} {n:Nat} (h:Put ks k out true n) (hn:n < ks.length):0 < cmpK ks[n] k :=
 (h.yes rfl).2 _ (by rw [← List.getElem_cons_drop hn];exact List.mem_cons_self ..)
theorem Put.there {ks:List Ky} {k:Ky} {out:List Ky} {n:Nat} (h:Put ks k out false n) (hn:n < ks.length) (hc:cmpK ks[n] k=0):putIn ks k=ks:=by
 rw [(h.no rfl).2,← List.getElem_cons_drop hn,putIn,if_pos hc,List.getElem_cons_drop hn,List.take_append_drop]
theorem Put.fin {ks:List Ky} {k:Ky} {out:List Ky} {n:Nat} (h:Put ks k out true n) (hn:ks.length≤n):out=putIn ks k:=by
 rw [(h.yes rfl).1,List.drop_eq_nil_of_le hn,List.append_nil]
theorem Put.last {ks:List Ky} {k:Ky} {out:List Ky} {n:Nat} (h:Put ks k out false n) (hn:ks.length≤n):out++[k]=putIn ks k:=by
 obtain ⟨h1,h2⟩:=h.no rfl
 rw [h2,h1,List.drop_eq_nil_of_le hn];rfl
end M
end
section
open Go.RowKit
structure SL (w:World) (g:Nat) (ss:List Sn):Prop where
 sr:SR w g ss
 at_:∀ s∈ss,s.At w∧s.Le 1048576
theorem SL.below {w w':World} {g:Nat} {ss:List Sn} (h:SL w g ss) (hb:Below w.heap.size w w') (hl:g < w.heap.size):SL w' g ss :=
 ⟨h.sr.below hb hl,fun s hs=>⟨(h.at_ s hs).1.below hb (Nat.le_refl _),(h.at_ s hs).2⟩⟩
structure OwnS (w W:World) (g cap:Nat) (tt:List Sn) (s:Sn):Prop where
 own:W.ownsRow (w.heap.size+1) 28 2 (.slice (some ⟨g,0,none⟩) tt.length cap) tt.length (flatS tt)
 ge:w.heap.size+1≤g
 lt:g < W.heap.size
 box:Slot2 W w.heap.size (.slice s.a1 s.l1.length s.c1) (.slice s.a2 s.l2.length s.c2)
 bel:Below w.heap.size w W
theorem OwnS.below {w W W':World} {g cap:Nat} {tt:List Sn} {s:Sn} (h:OwnS w W g cap tt s) (hb:Below W.heap.size W W'):OwnS w W' g cap tt s :=
 ⟨ownsRow_below h.own hb,h.ge,Nat.lt_of_lt_of_le h.lt hb.size,h.box.of (hb.block _ h.box.lt),h.bel.trans (hb.mono h.bel.size)⟩
theorem OwnS.snoc {w W W':World} {g cap g' cap':Nat} {tt:List Sn} {s e:Sn} {o:Obj} (h:OwnS w W g cap tt s)
  (ho:W'.ownsRow (w.heap.size+1) 28 2 (.slice (some ⟨g',0,none⟩) (tt.length+1) cap') (tt.length+1) (flatS tt++[.slice e.a1 e.l1.length e.c1,.slice e.a2 e.l2.length e.c2])) (hg:(W.alloc o).grownBy W' (some g)) (hlt:g' < W'.heap.size):OwnS w W' g' cap' (tt++[e]) s:=by
 have hb:=h.bel.size
 have hge:=h.ge
 have hbl:=h.box.lt
 refine ⟨by rw [List.length_append,flatS_append];exact ho,own_ge ho g' rfl,hlt,h.box.of ?_,below_grown (h.bel.alloc hb o) hg (fun k hk=>by simp at hk;omega) (by simp;omega)⟩
 rw [hg.block w.heap.size (by simp;omega) (fun e=>by simp at e;omega)]
 exact alloc_old _ _ _ hbl
theorem OwnS.sl {w W:World} {g cap:Nat} {tt ss:List Sn} {s:Sn} (h:OwnS w W g cap tt s) (hss:∀ x∈ss,x.At w∧x.Le 1048576) (hsa:s.At w∧s.Le 1048576) (hin:∀ t∈tt,t∈ss∨t=s):SL W g tt :=
 ⟨⟨fun i hi=>by
  obtain ⟨f1,f2⟩:=flatS_get tt i hi
  have e1:=h.own.cells (g:=g) rfl _ _ f1
  have e2:=h.own.cells (g:=g) rfl _ _ f2
  rw [Go.WideShapes.add_plain,Nat.zero_add] at e1 e2
  exact ⟨e1,e2⟩,fun j=>own_fzS h.own j⟩,fun t ht=>by
  rcases hin t ht with hx | rfl
  ·exact ⟨(hss t hx).1.below h.bel (Nat.le_refl _),(hss t hx).2⟩
  ·exact ⟨hsa.1.below h.bel (Nat.le_refl _),hsa.2⟩⟩
set_option maxHeartbeats 4000000 in
set_option maxRecDepth 100000 in
theorem l2Put_any (g cap:Nat) (ss:List Sn) (s:Sn) (w:World) (hl:ss.length≤1048575) (h:SL w g ss) (hg:g < w.heap.size) (hsa:s.At w) (hsl:s.Le 1048576) (hasc:M.Asc (kys ss)) (hcap:ss.length≤cap) :
  Calls Tryz.prog 167 #[.slice (some ⟨g,0,none⟩) ss.length cap,.agg #[.slice s.a1 s.l1.length s.c1,.slice s.a2 s.l2.length s.c2]] w fun e w'=>∃ g' cap',∃ tt:List Sn,e=.returned (.slice (some ⟨g',0,none⟩) tt.length cap')∧kys tt=M.putIn (kys ss) s.ky∧SL w' g' tt∧g' < w'.heap.size∧tt.length≤ss.length+1∧tt.length≤cap'∧(∀ t∈tt,t∈ss∨t=s)∧(g'=g∨w.heap.size≤g')∧Below w.heap.size w w':=by
 obtain ⟨i0,hi,hz0,hz1,hz2⟩:=info_parts Tryz.infoSeen
 go_enter Tryz.func167,Tryz.ntmps167
 go_wp2_with fail
 have hb2:=below2 w (.cells #[.slice s.a1 s.l1.length s.c1,.slice s.a2 s.l2.length s.c2] 28) (.cells #[] 28)
 have hbx0:Slot2 ((w.alloc (.cells #[.slice s.a1 s.l1.length s.c1,.slice s.a2 s.l2.length s.c2] 28)).alloc (.cells #[] 28)) w.heap.size (.slice s.a1 s.l1.length s.c1) (.slice s.a2 s.l2.length s.c2):=⟨by rw [alloc_old _ _ _ (by simp only [World.size_alloc];omega)];exact alloc_new _ _ _ rfl⟩
 have hown0:((w.alloc (.cells #[.slice s.a1 s.l1.length s.c1,.slice s.a2 s.l2.length s.c2] 28)).alloc (.cells #[] 28)).ownsRow (w.heap.size+1) 28 2 (.slice (some ⟨w.heap.size+1,0,none⟩) 0 0) 0 (flatS []):=by
  have:=World.ownsRow_made (base:=w.heap.size+1) (e:=28) (size:=2) (w.alloc (.cells #[.slice s.a1 s.l1.length s.c1,.slice s.a2 s.l2.length s.c2] 28)) #[] 0 (by simp) (Nat.zero_le _) rfl
  simp only [World.size_alloc] at this
  exact this
 have hsz0:w.heap.size+1 < ((w.alloc (.cells #[.slice s.a1 s.l1.length s.c1,.slice s.a2 s.l2.length s.c2] 28)).alloc (.cells #[] 28)).heap.size:=by simp
 generalize (w.alloc (.cells #[.slice s.a1 s.l1.length s.c1,.slice s.a2 s.l2.length s.c2] 28)).alloc (.cells #[] 28)=W0 at *
 go_loopw [5,6,7] (fun s5 s6 s7 wr=>∃ (n:Nat) (done:Bool) (tt:List Sn) (g5 cap5:Nat),s5=.slice (some ⟨g5,0,none⟩) tt.length cap5∧s6=.bool done∧s7=.int .i64 n∧n≤ss.length∧tt.length≤n+1∧Hid (done=false→tt.length=n)∧Hid (M.Put (kys ss) s.ky (kys tt) done n)∧Hid (∀ t∈tt,t∈ss∨t=s)∧OwnS w wr g5 cap5 tt s) (fun _ _ s7 _=>ss.length - (intOf s7).toNat)
 case atStart=>exact ⟨0,false,[],w.heap.size+1,0,rfl,rfl,rfl,Nat.zero_le _,by simp,fun _=>rfl,M.Put.start _ _,fun t ht=>absurd ht (by simp),⟨hown0,Nat.le_refl _,hsz0,hbx0,hb2⟩⟩
 case round =>
  obtain ⟨n,done,tt,g5,cap5,rfl,rfl,rfl,hn,htl,Hd,HP,Hin,os⟩:=hrel
  clear hown0 hbx0 hb2 hsz0
  have hb:=os.bel
  have q0:=os.box.c0
  have q1:=os.box.c1
  have hL:=h.below hb hg
  have hgr:g < wr.heap.size:=Nat.lt_of_lt_of_le hg hb.size
  have hsr:=hsa.below hb (Nat.le_refl _)
  by_cases hlt:n < ss.length
  ·have i1:(n:Int) < ss.length:=by omega
   obtain ⟨c1,c2⟩:=hL.sr.c n hlt
   obtain ⟨ta,tl⟩:=hL.at_ _ (List.getElem_mem hlt)
   obtain ⟨t,ht⟩:∃ t,ss[n]=t:=⟨_,rfl⟩
   have HT:Hid (ss[n]=t):=ht
   rw [ht] at c1 c2 ta tl
   clear ht
   have HK:Hid ((kys ss)[n]'(by rw [kys_len];exact hlt)=t.ky):=by
    show (kys ss)[n]'(by rw [kys_len];exact hlt)=t.ky
    rw [kys_get ss hlt,HT.out]
   have C:=fun p:BelowOf wr=>calls_bel (l2Seen_any t s p.x tl hsl (ta.below p.h (Nat.le_refl _)) (hsr.below p.h (Nat.le_refl _)))
   obtain ⟨r,hr⟩:∃ r,M.cmpS t.l1 t.l2 s.l1 s.l2=r:=⟨_,rfl⟩
   rw [hr] at C
   have HR:Hid (M.cmpK t.ky s.ky=r):=hr
   clear hr
   have K1:=BelowOf.cell c1
   have K2:=BelowOf.cell c2
   have K3:=BelowOf.cell q0
   have K4:=BelowOf.cell q1
   go_wp2_with fail
   haveI:Inhabited (BelowOf wr):=⟨belOf wr⟩
   refine wp_region_quiet_bel (by kernel_rfl) (by kernel_rfl) ?_
   repeat (quiet_step (first | (go_at_call 41;exact Calls.bel_of (C _))))
   refine wpQuiet_nil ?_
   rintro wq ⟨⟨wx,hwq⟩,ew⟩
   change wq=wx at ew
   subst ew
   have osq:=os.below hwq
   have e1:wq.cell? ⟨g,n * 2,none⟩=some (.slice t.a1 t.l1.length t.c1):=K1 ⟨wq,hwq⟩
   have e2:wq.cell? ⟨g,n * 2+1,none⟩=some (.slice t.a2 t.l2.length t.c2):=K2 ⟨wq,hwq⟩
   have f1:=osq.box.c0
   have f2:=osq.box.c1
   have hgq:g < wq.heap.size:=Nat.lt_of_lt_of_le hgr hwq.size
   have fl:=osq.box.lt
   have hkl:n < (kys ss).length:=by rw [kys_len];exact hlt
   have tin:t∈ss:=by rw [← HT.out];exact List.getElem_mem hlt
   have hcm:M.cmpK ((kys ss)[n]'hkl) s.ky=r:=by rw [HK.out];exact HR.out
   have HC:Hid (M.cmpK ((kys ss)[n]'hkl) s.ky=r):=hcm
   clear hcm C K1 K2 K3 K4 q0 q1 os
   cases done
   ·have htn:=Hd.out rfl
    have HTN:Hid (tt.length=n):=htn
    clear htn
    rcases Int.lt_trichotomy r 0 with hr | hr | hr
    ·have hr0:(r==0)=false:=by simp;omega
     have hr1:¬ 0 < r:=by omega
     go_wp2_with (at_builtin;refine wpList_append_lies _ rfl (.tmp 35) (.tmp 40) 43 rfl (w.heap.size+1) 28 i0 _ 2 48 Tryz.underlying43 hi hz0 hz1 hz2 rfl (by decide) _ _ _ rfl (osq.own.alloc _) ⟨wq.heap.size,0,none⟩ 1 1 [.slice t.a1 t.l1.length t.c1,.slice t.a2 t.l2.length t.c2] rfl rfl (World.news_of_block (cs:=#[.slice t.a1 t.l1.length t.c1,.slice t.a2 t.l2.length t.c2]) (t:=28) (fr:=(0,0)) (heap_alloc_new wq _)) (by simp [Value.oneCell']) (by omega) (by unfold maxLen;omega) (by omega) (by simp;have:=osq.bel.size;have:=osq.lt;have:=osq.ge;omega) (wq.heap.size+1) (by simp) ?_)
     intro g6 cap6 w6 hown6 hg6 hat6 hlt6
     have os6:=osq.snoc hown6 hg6 hlt6
     clear hown6 hg6 hat6 hlt6
     go_wp2_with fail
     exact ⟨⟨n+1,false,tt++[t],g6,cap6,by simp,rfl,by go_num,by omega,by simp;omega,fun _=>by simp [HTN.out],by
      show M.Put _ _ _ _ _
      have:=HP.out.less hkl (by rw [HC.out];exact hr)
      rw [HK.out] at this
      simpa [kys] using this,fun x hx=>by
      rcases List.mem_append.1 hx with hx | hx
      ·exact Hin.out x hx
      ·simp at hx;subst hx;exact Or.inl tin,os6⟩,by simp [intOf];omega⟩
    ·subst hr
     go_wp2_with fail
     go_ret
     have:=HP.out.there hkl HC.out
     exact ⟨g,cap,ss,rfl,this.symm,hL.below hwq hgr,hgq,by omega,hcap,fun t ht=>Or.inl ht,Or.inl rfl,osq.bel⟩
    ·have hr0:(r==0)=false:=by simp;omega
     go_wp2_with (at_builtin;refine wpList_append_lies _ rfl (.tmp 31) (.tmp 33) 43 rfl (w.heap.size+1) 28 i0 _ 2 48 Tryz.underlying43 hi hz0 hz1 hz2 rfl (by decide) _ _ _ rfl (osq.own.alloc _) ⟨wq.heap.size,0,none⟩ 1 1 [.slice s.a1 s.l1.length s.c1,.slice s.a2 s.l2.length s.c2] rfl rfl (World.news_of_block (cs:=#[.slice s.a1 s.l1.length s.c1,.slice s.a2 s.l2.length s.c2]) (t:=28) (fr:=(0,0)) (heap_alloc_new wq _)) (by simp [Value.oneCell']) (by omega) (by unfold maxLen;omega) (by omega) (by simp;have:=osq.bel.size;have:=osq.lt;have:=osq.ge;omega) (wq.heap.size+1) (by simp) ?_)
     intro g6 cap6 w6 hown6 hg6 hat6 hlt6
     have os6:=osq.snoc hown6 hg6 hlt6
     clear hown6 hg6 hat6 hlt6
     have e3:w6.cell? ⟨g,n * 2,none⟩=some (.slice t.a1 t.l1.length t.c1):=((h.below os6.bel hg).sr.c n hlt).1.trans (by rw [HT.out])
     have e4:w6.cell? ⟨g,n * 2+1,none⟩=some (.slice t.a2 t.l2.length t.c2):=((h.below os6.bel hg).sr.c n hlt).2.trans (by rw [HT.out])
     obtain ⟨t2,ht2⟩:∃ t2,tt++[s]=t2:=⟨_,rfl⟩
     have ht2l:tt.length+1=t2.length:=by rw [← ht2];simp
     rw [ht2l]
     rw [ht2] at os6
     have HT2:Hid (tt++[s]=t2):=ht2
     have ht2b:t2.length≤n+1:=by rw [← ht2l,HTN.out];omega
     have hg6l:g < w6.heap.size:=World.block_lt_of_cell? _ _ e3
     clear ht2 ht2l
     go_wp2_with (at_builtin;refine wpList_append_lies _ rfl (.tmp 35) (.tmp 40) 43 rfl (w.heap.size+1) 28 i0 _ 2 48 Tryz.underlying43 hi hz0 hz1 hz2 rfl (by decide) _ _ _ rfl (os6.own.alloc _) ⟨w6.heap.size,0,none⟩ 1 1 [.slice t.a1 t.l1.length t.c1,.slice t.a2 t.l2.length t.c2] rfl rfl (World.news_of_block (cs:=#[.slice t.a1 t.l1.length t.c1,.slice t.a2 t.l2.length t.c2]) (t:=28) (fr:=(0,0)) (heap_alloc_new w6 _)) (by simp [Value.oneCell']) (by omega) (by unfold maxLen;omega) (by omega) (by simp;have:=os6.bel.size;have:=os6.lt;have:=os6.ge;omega) (w6.heap.size+1) (by simp) ?_)
     intro g7 cap7 w7 hown6 hg6 hat6 hlt6
     have os7:=os6.snoc hown6 hg6 hlt6
     clear hown6 hg6 hat6 hlt6
     go_wp2_with fail
     exact ⟨⟨n+1,true,t2++[t],g7,cap7,by simp,rfl,by go_num,by omega,by simp;omega,fun h=>(by cases h),by
      show M.Put _ _ _ _ _
      have:=HP.out.more hasc hkl (by rw [HC.out];exact hr)
      rw [HK.out] at this
      rw [← HT2.out]
      simpa [kys] using this,fun x hx=>by
      rcases List.mem_append.1 hx with hx | hx
      ·rw [← HT2.out] at hx
       rcases List.mem_append.1 hx with hx | hx
       ·exact Hin.out x hx
       ·simp at hx;exact Or.inr hx
      ·simp at hx;subst hx;exact Or.inl tin,os7⟩,by simp [intOf];omega⟩
   ·have hrp:0 < r:=by rw [← HC.out];exact HP.out.ne hkl
    have hr0:(r==0)=false:=by simp;omega
    go_wp2_with (at_builtin;refine wpList_append_lies _ rfl (.tmp 35) (.tmp 40) 43 rfl (w.heap.size+1) 28 i0 _ 2 48 Tryz.underlying43 hi hz0 hz1 hz2 rfl (by decide) _ _ _ rfl (osq.own.alloc _) ⟨wq.heap.size,0,none⟩ 1 1 [.slice t.a1 t.l1.length t.c1,.slice t.a2 t.l2.length t.c2] rfl rfl (World.news_of_block (cs:=#[.slice t.a1 t.l1.length t.c1,.slice t.a2 t.l2.length t.c2]) (t:=28) (fr:=(0,0)) (heap_alloc_new wq _)) (by simp [Value.oneCell']) (by omega) (by unfold maxLen;omega) (by omega) (by simp;have:=osq.bel.size;have:=osq.lt;have:=osq.ge;omega) (wq.heap.size+1) (by simp) ?_)
    intro g6 cap6 w6 hown6 hg6 hat6 hlt6
    have os6:=osq.snoc hown6 hg6 hlt6
    clear hown6 hg6 hat6 hlt6
    go_wp2_with fail
    exact ⟨⟨n+1,true,tt++[t],g6,cap6,by simp,rfl,by go_num,by omega,by simp;omega,fun h=>(by cases h),by
     show M.Put _ _ _ _ _
     have:=HP.out.on hkl
     rw [HK.out] at this
     simpa [kys] using this,fun x hx=>by
     rcases List.mem_append.1 hx with hx | hx
     ·exact Hin.out x hx
     ·simp at hx;subst hx;exact Or.inl tin,os6⟩,by simp [intOf];omega⟩
  ·have hke:(kys ss).length≤n:=by rw [kys_len];omega
   have fl:=os.box.lt
   cases done
   ·have HTN:Hid (tt.length=n):=Hd.out rfl
    have htn2:tt.length≤ss.length:=by rw [HTN.out];exact hn
    go_wp2_with (at_builtin;refine wpList_append_lies _ rfl (.tmp 44) (.tmp 46) 43 rfl (w.heap.size+1) 28 i0 _ 2 48 Tryz.underlying43 hi hz0 hz1 hz2 rfl (by decide) _ _ _ rfl (os.own.alloc _) ⟨wr.heap.size,0,none⟩ 1 1 [.slice s.a1 s.l1.length s.c1,.slice s.a2 s.l2.length s.c2] rfl rfl (World.news_of_block (cs:=#[.slice s.a1 s.l1.length s.c1,.slice s.a2 s.l2.length s.c2]) (t:=28) (fr:=(0,0)) (heap_alloc_new wr _)) (by simp [Value.oneCell']) (by omega) (by unfold maxLen;omega) (by omega) (by simp;have:=os.bel.size;have:=os.lt;have:=os.ge;omega) (wr.heap.size+1) (by simp) ?_)
    intro g6 cap6 w6 hown6 hg6 hat6 hlt6
    have os6:=os.snoc hown6 hg6 hlt6
    clear hown6 hg6 hat6 hlt6
    go_wp2_with fail
    go_ret
    refine ⟨g6,cap6,tt++[s],by simp,?_,os6.sl (fun x hx=>h.at_ x hx) ⟨hsa,hsl⟩ (fun x hx=>?_),os6.lt,by simp;omega,own_capP os6.own,fun x hx=>?_,Or.inr (by have:=os6.ge;omega),os6.bel⟩
    ·rw [← HP.out.last hke];simp [kys]
    ·rcases List.mem_append.1 hx with hx | hx
     ·exact Hin.out x hx
     ·simp at hx;exact Or.inr hx
    ·rcases List.mem_append.1 hx with hx | hx
     ·exact Hin.out x hx
     ·simp at hx;exact Or.inr hx
   ·go_wp2_with fail
    go_ret
    exact ⟨g5,cap5,tt,rfl,HP.out.fin hke,os.sl (fun x hx=>h.at_ x hx) ⟨hsa,hsl⟩ Hin.out,os.lt,by omega,own_capP os.own,Hin.out,Or.inr (by have:=os.ge;omega),os.bel⟩
end
section
open Go.RowKit
theorem SL.ks {w:World} {g:Nat} {ss:List Sn} (h:SL w g ss):KS w (some ⟨g,0,none⟩) g 0 (kys ss):=by
 refine ⟨fun _=>rfl,fun i hi=>?_⟩
 have hi':i < ss.length:=by simpa [kys] using hi
 obtain ⟨c1,c2⟩:=h.sr.c i hi'
 exact ⟨ss[i],by simp [kys,Sn.ky],by simp [kys,Sn.ky],by rw [Nat.zero_add];exact c1,by rw [Nat.zero_add];exact c2,(h.at_ _ (List.getElem_mem hi')).1⟩
end
end Go.Proofs.YtegommoflmmahaaGreat
