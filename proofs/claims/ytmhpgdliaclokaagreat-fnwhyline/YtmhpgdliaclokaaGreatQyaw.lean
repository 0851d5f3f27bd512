/- spec.l12Froms: all ways in which events may have read. Of at most 1048576 threads, steps and numbers. -/
import Derived.Test.YtmhpgdliaclokaaGreatRows
import Derived.Test.YtmhpgdliaclokaaGreatQyam
namespace Go.Proofs.YtmhpgdliaclokaaGreat
section
open Go.RowKit
set_option maxHeartbeats 4000000 in
set_option maxRecDepth 100000 in
theorem l12Froms_any (a:Option Addr) (b o c:Nat) (ll:List (List M.D)) (va:Option Addr) (g cc:Nat) (wB:World) (hl:ll.length≤1048576) (hls:∀ t∈ll,t.length≤1048576) (hdl:(M.deeds ll).length≤42) (hDo:DoSS wB a b o ll) (hDv:DvS wB va g (M.deeds ll)) :
  ∀ (n:Nat) (fa:Option Addr) (fb fo fc:Nat) (f:List Int) (v:Value) (cs:List Value) (rows:List (List Int)) (w:World),Hid (f.length+n=(M.deeds ll).length)→Hid (rows.length+(M.fromsOf (M.deeds ll) n f).length≤1099511627776)→Below wB.heap.size wB w→IntS w fa fb fo f→(fa=none→fc=0)→(0 < f.length→some fb≠v.ownBlock)→RR w wB.heap.size v cs rows →
  Calls Tryz.prog 110 #[.agg #[.slice a ll.length c],.slice va (M.deeds ll).length cc,.slice fa f.length fc,v] w fun e w'=>∃ v' cs',e=.returned v'∧More w w' wB.heap.size v v' cs' (rows++M.fromsOf (M.deeds ll) n f):=by
 obtain ⟨i0,hi,hz0,hz1,hz2⟩:=info_parts Tryz.infoInt
 obtain ⟨j0,hj,hy0,hy1,hy2⟩:=info_parts Tryz.infoRs
 intro n
 induction n with
 | zero =>
  intro fa fb fo fc f v cs rows w HL HN hB hF hac hfb hR
  have HLe:Hid ((f.length:Int)=(M.deeds ll).length):=by show _=_;have:=HL.out;omega
  have hle:¬ ((f.length:Int) < ((M.deeds ll).length:Int)):=by have:=HLe.out;omega
  have hge:((M.deeds ll).length:Int)≤(f.length:Int):=by have:=HLe.out;omega
  have hh1:f.length≤42:=by have:=HL.out;omega
  have hrl:rows.length+1≤1099511627776:=by have:=HN.out;simpa [M.fromsOf] using this
  have hbs:=hB.size
  have hb0:=below1 w (.cells #[.slice a ll.length c] 25)
  have hR0:=hR.below hb0
  have hF0:=hF.below hb0 (Nat.le_refl _)
  clear HL HN HLe
  go_enter Tryz.func110,Tryz.ntmps110
  go_wp2_with (at_builtin;refine wpList_append_ints rfl (.tmp 20) (.tmp 21) 26 rfl (w.heap.size+1) 3 i0 Tryz.underlying26 hi hz0 hz1 hz2 (.slice (some ⟨w.heap.size+1,0,none⟩) 0 0) 0 [] rfl (own_empty (alloc_new (w.alloc (.cells #[.slice a ll.length c] 25)) _ _ (by simp)) (Nat.le_refl _)) (by simp) fa fb fo fc f rfl (hF0.below (below1 _ _) (Nat.le_refl _)) (by omega) hac ?_)
  intro v1 w1 hown1 hg1 hat1
  have b1:Below (w.heap.size+1) (w.alloc (.cells #[.slice a ll.length c] 25)) w1:=below_grown ((below1 _ _).mono (by simp)) hg1 (fun k hk=>by have:w.heap.size+1=k:=Option.some.inj hk;omega) (by simp)
  obtain ⟨a1,g1,c1,rfl,hI1,hac1,hge1⟩:=own_ints hown1
  have hR1:=hR0.below (by simpa using b1)
  have b1s:=b1.size
  have bw1:Below w.heap.size w w1:=hb0.trans (b1.mono (by omega))
  have hvlt:∀ k,v.ownBlock=some k→k < w.heap.size:=fun k hk=>(hR.own.lt k hk).2
  have bws:=bw1.size
  clear hown1 hg1 hat1 b1
  have hb1n:=below1 w1 (.cells #[.slice a1 f.length c1] 26)
  go_wp2_with (at_builtin;refine wpList_append_lies _ rfl (.tmp 19) (.tmp 23) 27 rfl wB.heap.size 26 j0 _ 1 24 Tryz.underlying27 hj hy0 hy1 hy2 rfl (by decide) _ _ _ rfl (hR1.own.alloc _) ⟨w1.heap.size,0,none⟩ 1 1 [.slice a1 f.length c1] rfl rfl (World.news_of_block (cs:=#[.slice a1 f.length c1]) (t:=26) (fr:=(0,0)) (heap_alloc_new w1 _)) (by simp [Value.oneCell']) (by omega) (by unfold maxLen;omega) (by omega) (by simp;omega) (w1.heap.size+1) (by simp) ?_)
  intro g2 cap2 w2 hown2 hg2 hat2 hlt2
  have hR2:=hR1.snoc hb1n (hI1.below hb1n (Nat.le_refl _)) hac1 (fun hp e=>by have:=hge1 hp;have:=hvlt g1 e.symm;omega) hown2 hg2 (by simpa using hat2)
  have hG2:w.grownBy w2 v.ownBlock:=grown_then (grown_of (bw1.trans (hb1n.mono bw1.size)) _) hg2 (fun j hj=>.inr hj)
  clear hown2 hlt2 hg2
  go_wp2_with fail
  go_ret
  exact ⟨_,_,rfl,hR2,hG2,fun k hk=>by
   have hk':g2=k:=Option.some.inj hk
   rcases hat2 with e | e
   ·exact .inr (by rw [e,hk'])
   ·exact .inl (by omega)⟩
 | succ n ih =>
  intro fa fb fo fc f v cs rows w HL HN hB hF hac hfb hR
  have hll:f.length < (M.deeds ll).length:=by have:=HL.out;omega
  have hf42:f.length≤42:=by omega
  have HLn:∀ x:Int,Hid ((f++[x]).length+n=(M.deeds ll).length):=fun x=>by show _=_;have:=HL.out;simp;omega
  clear HL
  have hof:=M.ofEv (ll:=ll)
  have hb0:=below1 w (.cells #[.slice a ll.length c] 25)
  have kb:(w.alloc (.cells #[.slice a ll.length c] 25)).cell? ⟨w.heap.size,0,none⟩=some (.slice a ll.length c):=by simp
  have hW:=fun W (hb:Below wB.heap.size wB W)=>l12Writes_any a b o c ll va g cc
  have C:∀ (wr:World) (vv:Value) (cs':List Value) (rows':List (List Int)) (x:Int),Below wB.heap.size wB wr→RR wr wB.heap.size vv cs' rows'→Hid (rows'.length+(M.fromsOf (M.deeds ll) n (f++[x])).length≤1099511627776)→∀ (W2:World) (gg cap:Nat),Below wr.heap.size wr W2→IntS W2 (some ⟨gg,0,none⟩) gg 0 (f++[x])→wr.heap.size≤gg →
    Calls Tryz.prog 110 #[.agg #[.slice a ll.length c],.slice va (M.deeds ll).length cc,.slice (some ⟨gg,0,none⟩) (f.length+1) cap,vv] W2 fun e w'=>∃ v' cs',e=.returned v'∧More W2 w' wB.heap.size vv v' cs' (rows'++M.fromsOf (M.deeds ll) n (f++[x])):=by
   intro wr vv cs' rows' x hBr hRr HNr W2 gg cap hb2 hI3 hge
   have:=ih (some ⟨gg,0,none⟩) gg 0 cap (f++[x]) vv cs' rows' W2 (HLn x) HNr (hBr.trans (hb2.mono hBr.size)) hI3 (fun e=>by cases e) (fun _ e=>by have:=(hRr.own.lt gg e.symm).2;omega) (hRr.below hb2)
   rw [List.length_append,List.length_singleton] at this
   exact this
  have CW:∀ (W:World) (p:Int),Below wB.heap.size wB W→_:=fun W p hb=>l12Writes_any a b o c ll va g cc p W hl hls hdl (hDo.below hb (Nat.le_refl _)) (hDv.bel hb (Nat.le_refl _))
  clear ih HLn hW
  have hx0:=DvS.at (hDv.bel (hB.trans (hb0.mono hB.size)) (Nat.le_refl _)) hll
  have hD0:=hDo.below (hB.trans (hb0.mono hB.size)) (Nat.le_refl _)
  have hF0:=hF.below hb0 (Nat.le_refl _)
  have hvlt:∀ k,v.ownBlock=some k→k < w.heap.size:=fun k hk=>(hR.own.lt k hk).2
  have hfl:0 < f.length→fb < w.heap.size:=fun hp=>hF.lt hp
  have hox:=hof _ (List.getElem_mem hll)
  have HNo:=fun hr=>M.froms_no (n:=n) hll rfl hr
  have HYes:=fun hr=>M.froms_yes (n:=n) hll rfl hr
  clear hof
  generalize (M.deeds ll)[f.length]=x at *
  obtain ⟨c0,c1,c2⟩:=hx0
  have hlt':¬ (((M.deeds ll).length:Int)≤(f.length:Int)):=by omega
  have i1:(f.length:Int) < (M.deeds ll).length:=by omega
  obtain ⟨rfl⟩:=hDv.addr (by omega)
  generalize HDS:M.deeds ll=ds at *
  clear HDS
  go_enter Tryz.func110,Tryz.ntmps110
  go_wp2_with fail
  generalize w.alloc (.cells #[.slice a ll.length c] 25)=W0 at *
  have lg:g < W0.heap.size:=World.block_lt_of_cell? _ _ c0
  have lw:w.heap.size < W0.heap.size:=World.block_lt_of_cell? _ _ kb
  have CD:=fun W (hb:Below W0.heap.size W0 W)=>l12Do_ev a b o c ll x W hox hl hls (hD0.below hb (Nat.le_refl _))
  have hbA:=below1 W0 (.cells #[.int .i64 0,.int .i64 0,.int .i64 0] 94)
  have A0:(W0.alloc (.cells #[.int .i64 0,.int .i64 0,.int .i64 0] 94)).cell? ⟨W0.heap.size,0,none⟩=some (.int .i64 0):=by simp
  have A1:(W0.alloc (.cells #[.int .i64 0,.int .i64 0,.int .i64 0] 94)).cell? ⟨W0.heap.size,1,none⟩=some (.int .i64 0):=by simp
  have A2:(W0.alloc (.cells #[.int .i64 0,.int .i64 0,.int .i64 0] 94)).cell? ⟨W0.heap.size,2,none⟩=some (.int .i64 0):=by simp
  have Af:∀ j,(W0.alloc (.cells #[.int .i64 0,.int .i64 0,.int .i64 0] 94)).frozen? ⟨W0.heap.size,j,none⟩=false:=by intro j;simp
  have Asz:W0.heap.size < (W0.alloc (.cells #[.int .i64 0,.int .i64 0,.int .i64 0] 94)).heap.size:=by simp
  have N0:W0.heap.size≠w.heap.size:=Nat.ne_of_gt lw
  have N1:W0.heap.size≠g:=Nat.ne_of_gt lg
  have B0:=(hbA.cell (p:=⟨w.heap.size,0,none⟩) lw).trans kb
  have B1:=(hbA.cell (p:=⟨g,f.length * 3,none⟩) lg).trans c0
  have B2:=(hbA.cell (p:=⟨g,f.length * 3+1,none⟩) lg).trans c1
  have B3:=(hbA.cell (p:=⟨g,f.length * 3+2,none⟩) lg).trans c2
  go_cut [10] from 25 (fun s10 wc=>∃ X,s10=.pointer (some ⟨X,0,none⟩)∧DoIn W0 wc X x.d)
  case first =>
   go_region_held3 (fun w'=>w'.cell? ⟨w.heap.size,0,none⟩=some (.slice a ll.length c)∧w'.cell? ⟨g,f.length * 3,none⟩=some (.int .i64 x.t)∧w'.cell? ⟨g,f.length * 3+1,none⟩=some (.int .i64 x.i)∧w'.cell? ⟨g,f.length * 3+2,none⟩=some (.bool x.last)) (go_keep) (first
    | (go_at_call 134;refine (CD _ ((Below.refl _ _).drew)).mono ?_;rintro e w1 ⟨rfl,hb1⟩;have Y0:=(hb1.cell (p:=⟨w.heap.size,0,none⟩) lw).trans kb;have Y1:=(hb1.cell (p:=⟨g,f.length * 3,none⟩) lg).trans c0;have Y2:=(hb1.cell (p:=⟨g,f.length * 3+1,none⟩) lg).trans c1;have Y3:=(hb1.cell (p:=⟨g,f.length * 3+2,none⟩) lg).trans c2)
    | (go_at_call 134;refine (CD _ ((below1 _ _).drew)).mono ?_;rintro e w1 ⟨rfl,hb1⟩;have Y0:=(hb1.cell (p:=⟨w.heap.size,0,none⟩) (Nat.lt_trans lw Asz)).trans B0;have Y1:=(hb1.cell (p:=⟨g,f.length * 3,none⟩) (Nat.lt_trans lg Asz)).trans B1;have Y2:=(hb1.cell (p:=⟨g,f.length * 3+1,none⟩) (Nat.lt_trans lg Asz)).trans B2;have Y3:=(hb1.cell (p:=⟨g,f.length * 3+2,none⟩) (Nat.lt_trans lg Asz)).trans B3;have Z0:=(hb1.cell (p:=⟨W0.heap.size,0,none⟩) Asz).trans A0;have Z1:=(hb1.cell (p:=⟨W0.heap.size,1,none⟩) Asz).trans A1;have Z2:=(hb1.cell (p:=⟨W0.heap.size,2,none⟩) Asz).trans A2;have Zf:=fun j=>(hb1.frozen (p:=⟨W0.heap.size,j,none⟩) Asz).trans (Af j)))
   all_goals
    go_wp2_with fail
    go_meet
    case rel =>
     first
     | exact ⟨_,rfl,DoIn.behind (d:=x.d) ((Below.refl W0.heap.size W0).drew.trans hb1)⟩
     | exact ⟨_,rfl,DoIn.ahead (d:=x.d) (hbA.drew.trans (hb1.mono (Nat.le_of_lt Asz))) Z0 Z1 Z2⟩
  case rest =>
   obtain ⟨X,rfl,F⟩:=hcut
   generalize wc=W1 at *
   clear A0 A1 A2 Af B0 B1 B2 B3 N0 N1 CD hbA Asz c0 c1 c2 hD0 hox i1 lg
   obtain ⟨hbF,hgF,d0,d1,d2⟩:=F
   have lX:X < W1.heap.size:=World.block_lt_of_cell? _ _ d0
   have k1:=(hbF.cell (p:=⟨w.heap.size,0,none⟩) lw).trans kb
   have bw1:Below w.heap.size w W1:=hb0.trans (hbF.mono hb0.size)
   have hX0:X≠w.heap.size:=by omega
   have hws1:=hbF.size
   clear kb
   cases hr:M.reads x.d.k
   ·have HE:=HNo hr
    clear HNo HYes
    go_wp2_with (go_at_call 76;refine (l1Reads_bel x.d _).mono ?_;rw [hr];rintro e w5 ⟨rfl,b5⟩)
    have bw5:Below w.heap.size w w5:=bw1.trans (b5.mono bw1.size)
    have l5:w.heap.size < w5.heap.size:=by have:=b5.size;omega
    have k5:=(b5.cell (p:=⟨w.heap.size,0,none⟩) (Nat.lt_of_lt_of_le lw hws1)).trans k1
    have hF5:=hF.below bw5 (Nat.le_refl _)
    have hM:More w5 w5 wB.heap.size v v cs rows:=More.of (hR.below bw5)
    have hap:some w.heap.size≠v.ownBlock:=fun e=>by have:=hvlt _ e.symm;omega
    have HN5:Hid (rows.length+(M.fromsOf ds n (f++[-2])).length≤1099511627776):=by show _≤_;rw [← HE];exact HN.out
    have C5:=C w5 v cs rows (-2) (hB.trans (bw5.mono hB.size)) (hR.below bw5) HN5
    clear d0 d1 d2 C CW hDv hDo hlt' hF0 k1
    go_region_held3 (fun z=>z.cell? ⟨w.heap.size,0,none⟩=some (.slice a ll.length c)) (go_keep) (first
     | (refine step_append_ints (by rfl) (.tmp 36) (.tmp 37) 26 (by rfl) w5.heap.size 3 i0 Tryz.underlying26 hi hz0 hz1 hz2 (.slice (some ⟨w5.heap.size,0,none⟩) 0 0) 0 [] (by rfl) (by first | exact own_empty (alloc_new w5 _ _ rfl) (by simp) | exact own_empty ((alloc_old _ _ _ (by simp)).trans (alloc_new w5 _ _ rfl)) (by simp)) (by (try simp);(try omega)) fa fb fo fc f (by rfl) (hF5.below (B:=w5.heap.size) (by repeat (first | exact Below.refl _ _ | refine bel_al ?_ _ | refine Below.drew ?_)) (Nat.le_refl _)) (by omega) hac ?_;intro v1 w1 hown1 hg1 hat1;(have b1:Below w5.heap.size w5 w1:=below_grown (by repeat (first | exact Below.refl _ _ | refine bel_al ?_ _ | refine Below.drew ?_)) hg1 (fun j hj=>by have:=Option.some.inj hj;(try simp at this);omega) (by (try simp);(try omega)));have Y10:=(b1.cell (p:=⟨w.heap.size,0,none⟩) l5).trans k5;(try (have hB1:w1.heap[w5.heap.size+1]?=some (.cells #[.int .i64 (-2)] 3 (0,0)):=(hg1.block (w5.heap.size+1) (by simp) (by simp [Value.ownBlock])).trans (alloc_new (w5.alloc (.cells #[] 3)) _ _ (by simp)))))
     | (refine step_append_ints (by rfl) (.tmp 36) (.tmp 37) 26 (by rfl) w5.heap.size 3 i0 Tryz.underlying26 hi hz0 hz1 hz2 (.slice (some ⟨w5.heap.size+1,0,none⟩) 0 0) 0 [] (by rfl) (own_empty (alloc_new (w5.alloc (.cells #[.int .i64 (-2)] 3)) _ _ (by simp)) (by simp)) (by (try simp);(try omega)) fa fb fo fc f (by rfl) (hF5.below (B:=w5.heap.size) (by repeat (first | exact Below.refl _ _ | refine bel_al ?_ _ | refine Below.drew ?_)) (Nat.le_refl _)) (by omega) hac ?_;intro v1 w1 hown1 hg1 hat1;(have b1:Below w5.heap.size w5 w1:=below_grown (by repeat (first | exact Below.refl _ _ | refine bel_al ?_ _ | refine Below.drew ?_)) hg1 (fun j hj=>by have:=Option.some.inj hj;(try simp at this);omega) (by (try simp);(try omega)));have Y10:=(b1.cell (p:=⟨w.heap.size,0,none⟩) l5).trans k5;have hB1:w1.heap[w5.heap.size]?=some (.cells #[.int .i64 (-2)] 3 (0,0)):=(hg1.block w5.heap.size (by simp;try omega) (by simp [Value.ownBlock])).trans ((alloc_old (w5.alloc (.cells #[.int .i64 (-2)] 3)) _ _ (by simp)).trans (alloc_new w5 _ _ rfl)))
     | (refine step_append_lies _ (by rfl) (.tmp 38) (.tmp 39) 26 (by rfl) w5.heap.size 3 i0 _ 1 8 Tryz.underlying26 hi hz0 hz1 hz2 rfl (by omega) _ _ _ (by rfl) (by first | exact hown1 | exact hown1.alloc _) _ 1 1 [.int .i64 (-2)] (by rfl) (by rfl) (World.news_of_block (cs:=#[.int .i64 (-2)]) (t:=3) (fr:=(0,0)) (by first | exact hB1 | exact heap_alloc_new _ _)) (by simp [Value.oneCell']) (by omega) (by unfold maxLen;omega) (by omega) (by have:=b1.size;(try simp);omega) _ (by rfl) ?_;intro g2 cap2 w2 hown2 hg2 hat2 hlt2;(have b2:Below w5.heap.size w5 w2:=below_grown (by first | exact b1 | exact bel_al b1 _) hg2 (fun j hj=>(hown1.lt j hj).1) (by have:=b1.size;(try simp);omega));have Y20:=(b2.cell (p:=⟨w.heap.size,0,none⟩) l5).trans k5;(obtain ⟨hI3,hge3⟩:=own_at (l:=f++[(-2)]) hown2 (by simp [nums])))
     | (go_at_call 110;refine (C5 _ _ _ b2 hI3 hge3).mono ?_;rintro e w3 ⟨v3,cs3,rfl,hM3⟩;have Y30:=(hM3.grown.cell_far ⟨w.heap.size,0,none⟩ (Nat.lt_of_lt_of_le l5 b2.size) hap).trans Y20;have hM4:=(hM.below b2).trans hM3;clear hM3))
    all_goals
     have hM6:=((More.of hR).below bw5).trans hM4
     go_wp2_with fail
     go_ret
     exact ⟨_,_,rfl,by rw [HE];exact hM6⟩
   ·have HE:=HYes hr
    clear HNo HYes
    go_wp2_with (go_at_call 76;refine (l1Reads_bel x.d _).mono ?_;rw [hr];rintro e w5 ⟨rfl,b5⟩)
    have bw5:Below w.heap.size w w5:=bw1.trans (b5.mono bw1.size)
    have l5:w.heap.size < w5.heap.size:=by have:=b5.size;omega
    have lX5:X < w5.heap.size:=Nat.lt_of_lt_of_le lX b5.size
    have k5:=(b5.cell (p:=⟨w.heap.size,0,none⟩) (Nat.lt_of_lt_of_le lw hws1)).trans k1
    have d5:=(b5.cell (p:=⟨X,1,none⟩) lX).trans d1
    have hF5:=hF.below bw5 (Nat.le_refl _)
    have hM:More w5 w5 wB.heap.size v v cs rows:=More.of (hR.below bw5)
    have hap:some w.heap.size≠v.ownBlock:=fun e=>by have:=hvlt _ e.symm;omega
    have hapX:some X≠v.ownBlock:=fun e=>by have:=hvlt _ e.symm;omega
    have HN5:Hid (rows.length+(M.fromsOf ds n (f++[-1])).length≤1099511627776):=by show _≤_;have:=HN.out;rw [HE,List.length_append] at this;omega
    have C5:=C w5 v cs rows (-1) (hB.trans (bw5.mono hB.size)) (hR.below bw5) HN5
    clear d0 d1 d2 hDv hDo hlt' hF0 k1
    go_cut [3] from 43 (fun s3 wc=>∃ v3 cs3,v3=s3∧More w5 wc wB.heap.size v v3 cs3 (rows++M.fromsOf ds n (f++[-1]))∧wc.cell? ⟨w.heap.size,0,none⟩=some (.slice a ll.length c)∧wc.cell? ⟨X,1,none⟩=some (.int .i64 x.d.p))
    case first =>
     go_region_held3 (fun z=>z.cell? ⟨w.heap.size,0,none⟩=some (.slice a ll.length c)∧z.cell? ⟨X,1,none⟩=some (.int .i64 x.d.p)) (go_keep) (first
      | (refine step_append_ints (by rfl) (.tmp 45) (.tmp 46) 26 (by rfl) w5.heap.size 3 i0 Tryz.underlying26 hi hz0 hz1 hz2 (.slice (some ⟨w5.heap.size,0,none⟩) 0 0) 0 [] (by rfl) (by first | exact own_empty (alloc_new w5 _ _ rfl) (by simp) | exact own_empty ((alloc_old _ _ _ (by simp)).trans (alloc_new w5 _ _ rfl)) (by simp)) (by (try simp);(try omega)) fa fb fo fc f (by rfl) (hF5.below (B:=w5.heap.size) (by repeat (first | exact Below.refl _ _ | refine bel_al ?_ _ | refine Below.drew ?_)) (Nat.le_refl _)) (by omega) hac ?_;intro v1 w1 hown1 hg1 hat1;(have b1:Below w5.heap.size w5 w1:=below_grown (by repeat (first | exact Below.refl _ _ | refine bel_al ?_ _ | refine Below.drew ?_)) hg1 (fun j hj=>by have:=Option.some.inj hj;(try simp at this);omega) (by (try simp);(try omega)));have Y10:=(b1.cell (p:=⟨w.heap.size,0,none⟩) l5).trans k5;have Y11:=(b1.cell (p:=⟨X,1,none⟩) lX5).trans d5;(try (have hB1:w1.heap[w5.heap.size+1]?=some (.cells #[.int .i64 (-1)] 3 (0,0)):=(hg1.block (w5.heap.size+1) (by simp) (by simp [Value.ownBlock])).trans (alloc_new (w5.alloc (.cells #[] 3)) _ _ (by simp)))))
      | (refine step_append_ints (by rfl) (.tmp 45) (.tmp 46) 26 (by rfl) w5.heap.size 3 i0 Tryz.underlying26 hi hz0 hz1 hz2 (.slice (some ⟨w5.heap.size+1,0,none⟩) 0 0) 0 [] (by rfl) (own_empty (alloc_new (w5.alloc (.cells #[.int .i64 (-1)] 3)) _ _ (by simp)) (by simp)) (by (try simp);(try omega)) fa fb fo fc f (by rfl) (hF5.below (B:=w5.heap.size) (by repeat (first | exact Below.refl _ _ | refine bel_al ?_ _ | refine Below.drew ?_)) (Nat.le_refl _)) (by omega) hac ?_;intro v1 w1 hown1 hg1 hat1;(have b1:Below w5.heap.size w5 w1:=below_grown (by repeat (first | exact Below.refl _ _ | refine bel_al ?_ _ | refine Below.drew ?_)) hg1 (fun j hj=>by have:=Option.some.inj hj;(try simp at this);omega) (by (try simp);(try omega)));have Y10:=(b1.cell (p:=⟨w.heap.size,0,none⟩) l5).trans k5;have Y11:=(b1.cell (p:=⟨X,1,none⟩) lX5).trans d5;have hB1:w1.heap[w5.heap.size]?=some (.cells #[.int .i64 (-1)] 3 (0,0)):=(hg1.block w5.heap.size (by simp;try omega) (by simp [Value.ownBlock])).trans ((alloc_old (w5.alloc (.cells #[.int .i64 (-1)] 3)) _ _ (by simp)).trans (alloc_new w5 _ _ rfl)))
      | (refine step_append_lies _ (by rfl) (.tmp 47) (.tmp 48) 26 (by rfl) w5.heap.size 3 i0 _ 1 8 Tryz.underlying26 hi hz0 hz1 hz2 rfl (by omega) _ _ _ (by rfl) (by first | exact hown1 | exact hown1.alloc _) _ 1 1 [.int .i64 (-1)] (by rfl) (by rfl) (World.news_of_block (cs:=#[.int .i64 (-1)]) (t:=3) (fr:=(0,0)) (by first | exact hB1 | exact heap_alloc_new _ _)) (by simp [Value.oneCell']) (by omega) (by unfold maxLen;omega) (by omega) (by have:=b1.size;(try simp);omega) _ (by rfl) ?_;intro g2 cap2 w2 hown2 hg2 hat2 hlt2;(have b2:Below w5.heap.size w5 w2:=below_grown (by first | exact b1 | exact bel_al b1 _) hg2 (fun j hj=>(hown1.lt j hj).1) (by have:=b1.size;(try simp);omega));have Y20:=(b2.cell (p:=⟨w.heap.size,0,none⟩) l5).trans k5;have Y21:=(b2.cell (p:=⟨X,1,none⟩) lX5).trans d5;(obtain ⟨hI3,hge3⟩:=own_at (l:=f++[(-1)]) hown2 (by simp [nums])))
      | (go_at_call 110;refine (C5 _ _ _ b2 hI3 hge3).mono ?_;rintro e w3 ⟨v3,cs3,rfl,hM3⟩;have Y30:=(hM3.grown.cell_far ⟨w.heap.size,0,none⟩ (Nat.lt_of_lt_of_le l5 b2.size) hap).trans Y20;have Y31:=(hM3.grown.cell_far ⟨X,1,none⟩ (Nat.lt_of_lt_of_le lX5 b2.size) hapX).trans Y21;have hM4:=(hM.below b2).trans hM3;clear hM3))
     all_goals
      go_wp2_with fail
      go_meet
      case rel=>exact ⟨_,_,rfl,hM4,Y30,Y31⟩
    case rest =>
     obtain ⟨v3,cs3,rfl,hM5,Y30,Y31⟩:=hcut
     generalize wc=w3 at *
     clear hM C5 HN5
     have B5:Below wB.heap.size wB w5:=hB.trans (bw5.mono hB.size)
     have B3:Below wB.heap.size wB w3:=below_grown B5 hM5.grown (own_ge hR.own) B5.size
     have CW3:=CW w3 x.d.p B3
     clear CW
     go_wp2_with (go_at_call 165;refine CW3.mono ?_;rintro e w6 ⟨vw,rfl,hownw,b6⟩;obtain ⟨wa,wg,wc,rfl,hIw,hacw,hgew⟩:=own_ints hownw)
     have l3:w.heap.size < w3.heap.size:=Nat.lt_of_lt_of_le l5 hM5.grown.size
     have l6:w.heap.size < w6.heap.size:=Nat.lt_of_lt_of_le l3 b6.size
     have k6:=(b6.cell (p:=⟨w.heap.size,0,none⟩) l3).trans Y30
     have hap3:some w.heap.size≠v3.ownBlock:=hM5.apart l5 hap
     have hap3w:0 < (M.wrs x.d.p 0 ds).length→some wg≠v3.ownBlock:=fun hp e=>by have:=hgew hp;have:=(hM5.rr.own.lt wg e.symm).2;omega
     have hF6:IntS w6 fa fb fo f:=(hM5.ints hF5 hfb).below b6 (Nat.le_refl _)
     have hap3f:0 < f.length→some fb≠v3.ownBlock:=fun hp=>hM5.apart (Nat.lt_of_lt_of_le (hfl hp) bw5.size) (hfb hp)
     have hR6:=hM5.rr.below b6
     have B6:Below wB.heap.size wB w6:=B3.trans (b6.mono B3.size)
     have hMw:=((More.of hR).below bw5).trans (hM5.below b6)
     clear hownw hgew CW3
     have hwl:(M.wrs x.d.p 0 ds).length≤42:=Nat.le_trans (M.wrs_le x.d.p 0 ds) (Nat.le_trans (List.length_filter_le _ _) hdl)
     generalize M.wrs x.d.p 0 ds=ws at *
     go_loopw [3,12] (fun s3 s12 wr=>∃ (k:Nat) (cs':List Value) (rs:List (List Int)),s12=.int .i64 k∧k≤ws.length∧Hid (M.fromsOf ds (n+1) f=rs++(ws.drop k).flatMap fun y=>M.fromsOf ds n (f++[y]))∧More w6 wr wB.heap.size v3 s3 cs' (rows++rs)) (fun _ s12 _=>ws.length - (intOf s12).toNat)
     case atStart=>exact ⟨0,cs3,M.fromsOf ds n (f++[-1]),rfl,Nat.zero_le _,by show _=_;rw [HE];rfl,More.of hR6⟩
     case round =>
      obtain ⟨k,cs',rs,rfl,hk,HQ,hM⟩:=hrel
      by_cases hlt:k < ws.length
      ·have HQ2:Hid (M.fromsOf ds (n+1) f=(rs++M.fromsOf ds n (f++[ws[k]]))++(ws.drop (k+1)).flatMap fun y=>M.fromsOf ds n (f++[y])):=M.flat_step HQ.out hlt
       have hIr:=hM.ints hIw hap3w
       obtain ⟨rfl⟩:=hIw.addr (by omega)
       have lg6:wg < w6.heap.size:=hIw.lt (by omega)
       have hyw:=hIr.row k hlt
       rw [Nat.zero_add] at hyw
       generalize ws[k]=y at *
       have kr:=(hM.grown.cell_far ⟨w.heap.size,0,none⟩ l6 hap3).trans k6
       have lr:w.heap.size < wr.heap.size:=Nat.lt_of_lt_of_le l6 hM.grown.size
       have lgr:wg < wr.heap.size:=Nat.lt_of_lt_of_le lg6 hM.grown.size
       have hFr:=hM.ints hF6 hap3f
       have hapr:some w.heap.size≠u3.ownBlock:=hM.apart l6 hap3
       have hapw:some wg≠u3.ownBlock:=hM.apart lg6 (hap3w (by omega))
       have HNr:Hid ((rows++rs).length+(M.fromsOf ds n (f++[y])).length≤1099511627776):=by show _≤_;have h1:=HN.out;rw [HQ2.out] at h1;simp only [List.length_append] at h1 ⊢;omega
       have BR:Below wB.heap.size wB wr:=below_grown B6 hM.grown (own_ge hR6.own) B6.size
       have Cr:=C wr u3 cs' (rows++rs) y BR hM.rr HNr
       have i1:(k:Int) < ws.length:=by omega
       clear HQ k6 k5 d5 Y30 Y31 hap3w HNr
       go_wp2_with fail
       go_region_held3 (fun z=>z.cell? ⟨w.heap.size,0,none⟩=some (.slice a ll.length c)∧z.cell? ⟨wg,k,none⟩=some (.int .i64 y)) (go_keep) (first
        | (refine step_append_ints (by rfl) (.tmp 65) (.tmp 66) 26 (by rfl) wr.heap.size 3 i0 Tryz.underlying26 hi hz0 hz1 hz2 (.slice (some ⟨wr.heap.size,0,none⟩) 0 0) 0 [] (by rfl) (by first | exact own_empty (alloc_new wr _ _ rfl) (by simp) | exact own_empty ((alloc_old _ _ _ (by simp)).trans (alloc_new wr _ _ rfl)) (by simp)) (by (try simp);(try omega)) fa fb fo fc f (by rfl) (hFr.below (B:=wr.heap.size) (by repeat (first | exact Below.refl _ _ | refine bel_al ?_ _ | refine Below.drew ?_)) (Nat.le_refl _)) (by omega) hac ?_;intro v1 w1 hown1 hg1 hat1;(have b1:Below wr.heap.size wr w1:=below_grown (by repeat (first | exact Below.refl _ _ | refine bel_al ?_ _ | refine Below.drew ?_)) hg1 (fun j hj=>by have:=Option.some.inj hj;(try simp at this);omega) (by (try simp);(try omega)));have Y10:=(b1.cell (p:=⟨w.heap.size,0,none⟩) lr).trans kr;have Y11:=(b1.cell (p:=⟨wg,k,none⟩) lgr).trans hyw;(try (have hB1:w1.heap[wr.heap.size+1]?=some (.cells #[.int .i64 y] 3 (0,0)):=(hg1.block (wr.heap.size+1) (by simp) (by simp [Value.ownBlock])).trans (alloc_new (wr.alloc (.cells #[] 3)) _ _ (by simp)))))
        | (refine step_append_ints (by rfl) (.tmp 65) (.tmp 66) 26 (by rfl) wr.heap.size 3 i0 Tryz.underlying26 hi hz0 hz1 hz2 (.slice (some ⟨wr.heap.size+1,0,none⟩) 0 0) 0 [] (by rfl) (own_empty (alloc_new (wr.alloc (.cells #[.int .i64 y] 3)) _ _ (by simp)) (by simp)) (by (try simp);(try omega)) fa fb fo fc f (by rfl) (hFr.below (B:=wr.heap.size) (by repeat (first | exact Below.refl _ _ | refine bel_al ?_ _ | refine Below.drew ?_)) (Nat.le_refl _)) (by omega) hac ?_;intro v1 w1 hown1 hg1 hat1;(have b1:Below wr.heap.size wr w1:=below_grown (by repeat (first | exact Below.refl _ _ | refine bel_al ?_ _ | refine Below.drew ?_)) hg1 (fun j hj=>by have:=Option.some.inj hj;(try simp at this);omega) (by (try simp);(try omega)));have Y10:=(b1.cell (p:=⟨w.heap.size,0,none⟩) lr).trans kr;have Y11:=(b1.cell (p:=⟨wg,k,none⟩) lgr).trans hyw;have hB1:w1.heap[wr.heap.size]?=some (.cells #[.int .i64 y] 3 (0,0)):=(hg1.block wr.heap.size (by simp;try omega) (by simp [Value.ownBlock])).trans ((alloc_old (wr.alloc (.cells #[.int .i64 y] 3)) _ _ (by simp)).trans (alloc_new wr _ _ rfl)))
        | (refine step_append_lies _ (by rfl) (.tmp 67) (.tmp 72) 26 (by rfl) wr.heap.size 3 i0 _ 1 8 Tryz.underlying26 hi hz0 hz1 hz2 rfl (by omega) _ _ _ (by rfl) (by first | exact hown1 | exact hown1.alloc _) _ 1 1 [.int .i64 y] (by rfl) (by rfl) (World.news_of_block (cs:=#[.int .i64 y]) (t:=3) (fr:=(0,0)) (by first | exact hB1 | exact heap_alloc_new _ _)) (by simp [Value.oneCell']) (by omega) (by unfold maxLen;omega) (by omega) (by have:=b1.size;(try simp);omega) _ (by rfl) ?_;intro g2 cap2 w2 hown2 hg2 hat2 hlt2;(have b2:Below wr.heap.size wr w2:=below_grown (by first | exact b1 | exact bel_al b1 _) hg2 (fun j hj=>(hown1.lt j hj).1) (by have:=b1.size;(try simp);omega));have Y20:=(b2.cell (p:=⟨w.heap.size,0,none⟩) lr).trans kr;have Y21:=(b2.cell (p:=⟨wg,k,none⟩) lgr).trans hyw;(obtain ⟨hI3,hge3⟩:=own_at (l:=f++[y]) hown2 (by simp [nums])))
        | (go_at_call 110;refine (Cr _ _ _ b2 hI3 hge3).mono ?_;rintro e w3 ⟨v3,cs3,rfl,hM3⟩;have Y30:=(hM3.grown.cell_far ⟨w.heap.size,0,none⟩ (Nat.lt_of_lt_of_le lr b2.size) hapr).trans Y20;have Y31:=(hM3.grown.cell_far ⟨wg,k,none⟩ (Nat.lt_of_lt_of_le lgr b2.size) hapw).trans Y21;have hM4:=(hM.below b2).trans hM3;clear hM3))
       all_goals
        rw [List.append_assoc] at hM4
        go_wp2_with fail
        exact ⟨⟨k+1,_,_,by go_num,by omega,HQ2,hM4⟩,by simp [intOf];omega⟩
      ·have HQ3:Hid (M.fromsOf ds (n+1) f=rs):=by show _=_;have:=HQ.out;rw [List.drop_eq_nil_of_le (by omega)] at this;simpa using this
       have hMf:=hMw.trans hM
       go_wp2_with fail
       go_ret
       exact ⟨_,cs',rfl,by rw [HQ3.out];exact hMf⟩
end
end Go.Proofs.YtmhpgdliaclokaaGreat
