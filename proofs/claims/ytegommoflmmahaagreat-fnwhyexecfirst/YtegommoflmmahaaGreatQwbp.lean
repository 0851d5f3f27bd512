/- impl.OrderHolds: whether a way holds by an order. Of at most 1048576 threads, steps, numbers and rows. The laws' own comparing: laws.lpInts, lpSame. Of lists of at most 1048576 numbers. -/
import Derived.Test.YtegommoflmmahaaGreatRows
import Derived.Test.YtegommoflmmahaaGreatQwbn
namespace Go.Proofs.YtegommoflmmahaaGreat
section
open Go.RowKit
set_option maxHeartbeats 4000000 in
set_option maxRecDepth 100000 in
set_option linter.unusedSimpArgs false in
theorem iorderHolds_any (a:Option Addr) (b o c:Nat) (ll:List (List M.D)) (fa:Option Addr) (fb fo fc:Nat) (l:List Int) (ra:Option Addr) (rb ro rc:Nat) (rows:List (List Int)) (kind:Int) (w:World) (hl:ll.length≤1048576) (hls:∀ t∈ll,t.length≤1048576) (hl1:l.length≤1048576) (hl2:rows.length≤1048576) (hrs:∀ r∈rows,r.length≤1048576) (h:DoSS w a b o ll) (hf:IntS w fa fb fo l) (hr:IntSS w ra rb ro rows) :
  Calls Tryz.prog 16 #[.agg #[.slice a ll.length c],.agg #[.slice fa l.length fc,.slice ra rows.length rc],.int .i64 kind] w fun e w'=>e=.returned (.bool (M.orderHolds ll l rows kind))∧Below w.heap.size w w':=by
 have hb1:=below2 w (.cells #[.slice a ll.length c] 25) (.cells #[.slice fa l.length fc,.slice ra rows.length rc] 33)
 have kp:((w.alloc (.cells #[.slice a ll.length c] 25)).alloc (.cells #[.slice fa l.length fc,.slice ra rows.length rc] 33)).cell? ⟨w.heap.size,0,none⟩=some (.slice a ll.length c):=by simp
 have k0:((w.alloc (.cells #[.slice a ll.length c] 25)).alloc (.cells #[.slice fa l.length fc,.slice ra rows.length rc] 33)).cell? ⟨w.heap.size+1,0,none⟩=some (.slice fa l.length fc):=by simp
 have k1:((w.alloc (.cells #[.slice a ll.length c] 25)).alloc (.cells #[.slice fa l.length fc,.slice ra rows.length rc] 33)).cell? ⟨w.heap.size+1,1,none⟩=some (.slice ra rows.length rc):=by simp
 go_enter Tryz.func16,Tryz.ntmps16
 go_wp2_with fail
 generalize (w.alloc (.cells #[.slice a ll.length c] 25)).alloc (.cells #[.slice fa l.length fc,.slice ra rows.length rc] 33)=W at *
 have lP:w.heap.size < W.heap.size:=World.block_lt_of_cell? _ _ kp
 have lX:w.heap.size+1 < W.heap.size:=World.block_lt_of_cell? _ _ k0
 have CP:∀ w',Below W.heap.size W w'→w'.cell? ⟨w.heap.size,0,none⟩=some (.slice a ll.length c):=fun w' hw=>(hw.cell (p:=⟨w.heap.size,0,none⟩) lP).trans kp
 have CF:∀ w',Below W.heap.size W w'→w'.cell? ⟨w.heap.size+1,0,none⟩=some (.slice fa l.length fc):=fun w' hw=>(hw.cell (p:=⟨w.heap.size+1,0,none⟩) lX).trans k0
 have CR:∀ w',Below W.heap.size W w'→w'.cell? ⟨w.heap.size+1,1,none⟩=some (.slice ra rows.length rc):=fun w' hw=>(hw.cell (p:=⟨w.heap.size+1,1,none⟩) lX).trans k1
 have BW:∀ w',Below W.heap.size W w'→Below w.heap.size w w':=fun w' hw=>hb1.trans (hw.mono hb1.size)
 clear kp k0 k1
 have CI:=fun W=>isOrder_any kind W
 refine wp_region_held_drew (S:=fun w'=>Below W.heap.size W w') (by kernel_rfl) (Below.refl _ _).drew (fun hH=>?_)
 refine tk 0 7 (.int .i64 kind) hH rfl rfl (by intro w' hSw;go_simp) ?_
 simp only [Act.put,q1,q2,q3]
 refine ry 1 rfl (fun K' hK=>?_)
 refine step_goW (by rfl) (some 8) rfl 43 #[.tmp 7] _ rfl #[.int .i64 kind] (by simp [Act.eval]) (fun _ _=>rfl) (CI _) ?_
 rintro e W1 ⟨rfl,e1⟩
 subst e1
 refine ⟨_,rfl,hK.out _ _ hH (fun _=>?_)⟩
 clear hK K'
 simp only [Act.put,q1,q2,q3]
 cases hk:(decide (1≤kind)&&decide (kind≤3))
 ·refine tk 2 9 (.bool false) hH rfl rfl (by intro w' hSw;go_simp) ?_
  simp only [Act.put,q1,q2,q3]
  refine tz 3 10 hH rfl rfl ?_
  simp only [Act.put,q1,q2,q3]
  refine tz 4 11 hH rfl rfl ?_
  simp only [Act.put,q1,q2,q3]
  refine tz 5 12 hH rfl rfl ?_
  simp only [Act.put,q1,q2,q3]
  refine tk 6 13 (.bool false) hH rfl rfl (by intro w' hSw;go_simp) ?_
  simp only [Act.put,q1,q2,q3]
  refine tk 7 14 (.bool false) hH rfl rfl (by intro w' hSw;go_simp) ?_
  simp only [Act.put,q1,q2,q3]
  refine tz 8 15 hH rfl rfl ?_
  simp only [Act.put,q1,q2,q3]
  refine tz 9 16 hH rfl rfl ?_
  simp only [Act.put,q1,q2,q3]
  refine tz 10 17 hH rfl rfl ?_
  simp only [Act.put,q1,q2,q3]
  refine tz 11 18 hH rfl rfl ?_
  simp only [Act.put,q1,q2,q3]
  refine tz 12 19 hH rfl rfl ?_
  simp only [Act.put,q1,q2,q3]
  refine tz 13 20 hH rfl rfl ?_
  simp only [Act.put,q1,q2,q3]
  refine tk 14 21 (.bool false) hH rfl rfl (by intro w' hSw;go_simp) ?_
  simp only [Act.put,q1,q2,q3]
  refine tk 15 6 (.bool false) hH rfl rfl (by intro w' hSw;go_simp) ?_
  simp only [Act.put,q1,q2,q3]
  refine wpAnyH_done (by kernel_rfl) ?_ _
  have HF:Hid (M.orderHolds ll l rows kind=false):=by show _=_;unfold M.orderHolds;rw [hk];rfl
  clear hk
  go_wp2_with fail
  go_ret
  exact ⟨ret_bool HF.out.symm,BW _ hH⟩
 ·refine tk 2 9 (.bool true) hH rfl rfl (by intro w' hSw;go_simp) ?_
  simp only [Act.put,q1,q2,q3]
  refine tk 3 10 (.agg #[.slice a ll.length c]) hH rfl rfl (by intro w' hSw;have hc:=CP w' hSw;go_simp) ?_
  simp only [Act.put,q1,q2,q3]
  refine tk 4 11 (.agg #[.slice fa l.length fc,.slice ra rows.length rc]) hH rfl rfl (by intro w' hSw;have hc:=CF w' hSw;have hc2:=CR w' hSw;go_simp) ?_
  simp only [Act.put,q1,q2,q3]
  refine ry 5 rfl (fun K' hK=>?_)
  refine step_goW (by rfl) (some 12) rfl 51 #[.tmp 10,.tmp 11] _ rfl #[.agg #[.slice a ll.length c],.agg #[.slice fa l.length fc,.slice ra rows.length rc]] (by simp [Act.eval]) (fun _ _=>rfl) (iexecOk_any a b o c ll fa fb fo fc l ra rb ro rc rows _ hl hls hl1 hl2 hrs (h.below (BW _ hH) (Nat.le_refl _)) (hf.below (BW _ hH) (Nat.le_refl _)) (hr.below (BW _ hH) (Nat.le_refl _))) ?_
  rintro e W2 ⟨rfl,b2⟩
  refine ⟨_,rfl,hK.out _ _ (hH.trans (b2.mono hH.size)) (fun hH2=>?_)⟩
  clear hK K'
  simp only [Act.put,q1,q2,q3]
  cases hok:M.execOk ll l rows
  ·refine tk 6 13 (.bool false) hH2 rfl rfl (by intro w' hSw;go_simp) ?_
   simp only [Act.put,q1,q2,q3]
   refine tk 7 14 (.bool false) hH2 rfl rfl (by intro w' hSw;go_simp) ?_
   simp only [Act.put,q1,q2,q3]
   refine tz 8 15 hH2 rfl rfl ?_
   simp only [Act.put,q1,q2,q3]
   refine tz 9 16 hH2 rfl rfl ?_
   simp only [Act.put,q1,q2,q3]
   refine tz 10 17 hH2 rfl rfl ?_
   simp only [Act.put,q1,q2,q3]
   refine tz 11 18 hH2 rfl rfl ?_
   simp only [Act.put,q1,q2,q3]
   refine tz 12 19 hH2 rfl rfl ?_
   simp only [Act.put,q1,q2,q3]
   refine tz 13 20 hH2 rfl rfl ?_
   simp only [Act.put,q1,q2,q3]
   refine tk 14 21 (.bool false) hH2 rfl rfl (by intro w' hSw;go_simp) ?_
   simp only [Act.put,q1,q2,q3]
   refine tk 15 6 (.bool false) hH2 rfl rfl (by intro w' hSw;go_simp) ?_
   simp only [Act.put,q1,q2,q3]
   refine wpAnyH_done (by kernel_rfl) ?_ _
   have HF:Hid (M.orderHolds ll l rows kind=false):=by show _=_;unfold M.orderHolds;rw [hok,hk];rfl
   clear hk hok
   go_wp2_with fail
   go_ret
   exact ⟨ret_bool HF.out.symm,BW _ hH2⟩
  ·have hW:=M.wok_of hok
   obtain ⟨h3,h7⟩:=M.prog_bounds hW.prog
   obtain ⟨kn,rfl⟩:∃ kn:Nat,kind=kn:=⟨kind.toNat,by simp only [Bool.and_eq_true,decide_eq_true_eq] at hk;omega⟩
   have hk13:1≤kn∧kn≤3:=by simp only [Bool.and_eq_true,decide_eq_true_eq] at hk;omega
   refine tk 6 13 (.bool true) hH2 rfl rfl (by intro w' hSw;go_simp) ?_
   simp only [Act.put,q1,q2,q3]
   refine tk 7 14 (.bool true) hH2 rfl rfl (by intro w' hSw;go_simp) ?_
   simp only [Act.put,q1,q2,q3]
   refine tk 8 15 (.agg #[.slice a ll.length c]) hH2 rfl rfl (by intro w' hSw;have hc:=CP w' hSw;go_simp) ?_
   simp only [Act.put,q1,q2,q3]
   refine tk 10 17 (.agg #[.slice fa l.length fc,.slice ra rows.length rc]) hH2 rfl rfl (by intro w' hSw;have hc:=CF w' hSw;have hc2:=CR w' hSw;go_simp) ?_
   simp only [Act.put,q1,q2,q3]
   refine tk 12 19 (.int .i64 kn) hH2 rfl rfl (by intro w' hSw;go_simp) ?_
   simp only [Act.put,q1,q2,q3]
   refine ry 9 rfl (fun K' hK=>?_)
   refine step_goW (by rfl) (some 16) rfl 45 #[.tmp 15] _ rfl #[.agg #[.slice a ll.length c]] (by simp [Act.eval]) (fun _ _=>rfl) (deedsOf_any a b o c ll _ h3 h7 (h.below (BW _ hH2) (Nat.le_refl _))) ?_
   rintro e W3 ⟨v3,rfl,hown,b3⟩
   refine ⟨_,rfl,hK.out _ _ (hH2.trans (b3.mono hH2.size)) (fun hH3=>?_)⟩
   clear hK K'
   simp only [Act.put,q1,q2,q3]
   obtain ⟨va,g,cap,rfl,hds,_,_⟩:=own_rs M.De.len hown
   clear hown
   refine tk 11 18 (.agg #[.slice va (M.deeds ll).length cap,.slice fa l.length fc,.slice ra rows.length rc]) hH3 rfl rfl (by intro w' hSw;go_simp) ?_
   simp only [Act.put,q1,q2,q3]
   refine ry 13 rfl (fun K' hK=>?_)
   refine step_goW (by rfl) (some 20) rfl 49 #[.tmp 18,.tmp 19] _ rfl #[.agg #[.slice va (M.deeds ll).length cap,.slice fa l.length fc,.slice ra rows.length rc],.int .i64 kn] (by simp [Act.eval]) (fun _ _=>rfl) (wayHolds_any kn hk13.1 hk13.2 va g cap ll hW.prog fa fb fo fc l ra rb ro rc rows W3 ⟨hds,hf.below (BW _ hH3) (Nat.le_refl _),hr.below (BW _ hH3) (Nat.le_refl _),M.deeds28 hW.prog,hW.len,hW.three,hrs,hW.run,hW.pl⟩) ?_
   rintro e W4 ⟨rfl,b4⟩
   refine ⟨_,rfl,hK.out _ _ (hH3.trans (b4.mono hH3.size)) (fun hH4=>?_)⟩
   clear hK K'
   simp only [Act.put,q1,q2,q3]
   have HF:Hid (M.orderHolds ll l rows kn=(M.holdsA (M.netOf (M.deeds ll) l rows 0) (M.deeds ll).length&&M.waitsA (M.deeds ll).length (M.netOf (M.deeds ll) l rows kn) (M.choices (M.deeds ll)))):=by show _=_;unfold M.orderHolds;rw [hok,hk];simp
   generalize (M.holdsA (M.netOf (M.deeds ll) l rows 0) (M.deeds ll).length&&M.waitsA (M.deeds ll).length (M.netOf (M.deeds ll) l rows kn) (M.choices (M.deeds ll)))=r at *
   refine tk 14 21 (.bool r) hH4 rfl rfl (by intro w' hSw;go_simp) ?_
   simp only [Act.put,q1,q2,q3]
   refine tk 15 6 (.bool r) hH4 rfl rfl (by intro w' hSw;go_simp) ?_
   simp only [Act.put,q1,q2,q3]
   refine wpAnyH_done (by kernel_rfl) ?_ _
   clear hk hok
   go_wp2_with fail
   go_ret
   exact ⟨ret_bool HF.out.symm,BW _ hH4⟩
end
section
open Go.RowKit
set_option maxHeartbeats 400000 in
theorem lpInts_any (a:Option Addr) (b o c:Nat) (l:List Int) (a2:Option Addr) (b2 o2 c2:Nat) (m:List Int) (w:World) (hl:l.length≤1048576) (h:IntS w a b o l) (h2:IntS w a2 b2 o2 m) :
  Calls Tryz.prog 50 #[.slice a l.length c,.slice a2 m.length c2] w fun e w'=>e=.returned (.bool (M.same l m))∧Grown w w':=by
 by_cases hlm:l.length=m.length
 ·have hlm':((l.length:Int)==m.length)=true:=by simp;omega
  have hlm2:(l.length:Int)=m.length:=by omega
  go_enter Tryz.func50,Tryz.ntmps50
  go_wp2_with fail
  go_loopw [5] (fun s5 wr=>∃ n:Nat,s5=.int .i64 n∧n≤l.length∧(∀ q (_:q < n) (h1:q < l.length) (h2:q < m.length),l[q]=m[q])∧Grown w wr) (fun s5 _=>l.length - (intOf s5).toNat)
  case atStart=>exact ⟨0,rfl,Nat.zero_le _,fun _ hq _ _=>absurd hq (Nat.not_lt_zero _),Grown.refl _⟩
  case round =>
   obtain ⟨n,rfl,hn,hall,hg⟩:=hrel
   have HA:Hid (∀ q (_:q < n) (h1:q < l.length) (h2:q < m.length),l[q]=m[q]):=hall
   clear hall
   by_cases hlt:n < l.length
   ·have hmt:n < m.length:=by omega
    obtain ⟨rfl⟩:=h.addr (by omega)
    obtain ⟨rfl⟩:=h2.addr (by omega)
    have hc:=(h.below hg.bel (Nat.le_refl _)).row n hlt
    have hc2:=(h2.below hg.bel (Nat.le_refl _)).row n hmt
    have HD:Hid (l.drop n=l[n]::l.drop (n+1)):=M.drop_int l n hlt
    have HD2:Hid (m.drop n=m[n]::m.drop (n+1)):=M.drop_int m n hmt
    have i1:(n:Int) < l.length:=by omega
    have i2:(n:Int) < m.length:=by omega
    by_cases hxy:l[n]=m[n]
    ·have HX:Hid (l[n]=m[n]):=hxy
     rw [← hxy] at hc2
     clear hxy HD HD2
     generalize l[n]=x at hc hc2
     go_wp2_with fail
     go_quiet (fail)
     go_wp2_with fail
     exact ⟨⟨n+1,by go_num,by omega,fun q hq h1 h2=>by
      by_cases e:q=n
      ·subst e;exact HX.out
      ·exact HA.out q (by omega) h1 h2,hg.drewN _⟩,by simp [intOf];omega⟩
    ·generalize l[n]=x at hc hxy HD
     generalize m[n]=y at hc2 hxy HD2
     have hxy':(x==y)=false:=by simpa using hxy
     go_wp2_with fail
     go_quiet (fail)
     go_wp2_with fail
     go_ret
     exact ⟨ret_bool (M.same_bad HD.out HD2.out hxy).symm,hg.drewN _⟩
   ·go_wp2_with fail
    go_ret
    exact ⟨ret_bool (M.same_fin hlm fun q h1 h2=>HA.out q (by omega) h1 h2).symm,hg⟩
 ·have hlm':((l.length:Int)==m.length)=false:=by simp;omega
  have hlm2:¬ (l.length:Int)=m.length:=by omega
  go_enter Tryz.func50,Tryz.ntmps50
  go_wp2_with fail
  go_ret
  exact ⟨ret_bool (M.same_len hlm).symm,Grown.refl _⟩
set_option maxHeartbeats 400000 in
theorem lpSame_any (s t:Sn) (w:World) (hs:s.Le 1048576) (hsa:s.At w) (hta:t.At w) :
  Calls Tryz.prog 15 #[.agg #[.slice s.a1 s.l1.length s.c1,.slice s.a2 s.l2.length s.c2],.agg #[.slice t.a1 t.l1.length t.c1,.slice t.a2 t.l2.length t.c2]] w fun e w'=>e=.returned (.bool (M.sameS s.l1 s.l2 t.l1 t.l2))∧Grown w w':=by
 have hga:=hsa.grown (alloc2 w (.cells #[.slice s.a1 s.l1.length s.c1,.slice s.a2 s.l2.length s.c2] 28) (.cells #[.slice t.a1 t.l1.length t.c1,.slice t.a2 t.l2.length t.c2] 28))
 have hgb:=hta.grown (alloc2 w (.cells #[.slice s.a1 s.l1.length s.c1,.slice s.a2 s.l2.length s.c2] 28) (.cells #[.slice t.a1 t.l1.length t.c1,.slice t.a2 t.l2.length t.c2] 28))
 have C1:=lpInts_any s.a1 s.b1 s.o1 s.c1 s.l1 t.a1 t.b1 t.o1 t.c1 t.l1 _ hs.reads hga.reads hgb.reads
 obtain ⟨r1,hr1⟩:∃ r,M.same s.l1 t.l1=r:=⟨_,rfl⟩
 rw [hr1] at C1
 cases r1
 ·go_enter Tryz.func15,Tryz.ntmps15
  go_wp2_with fail
  refine C1.mono ?_
  rintro e w1 ⟨rfl,hg1⟩
  go_wp2_with fail
  go_ret
  exact ⟨ret_bool (by simp [M.sameS,hr1]),(alloc2 w _ _).trans hg1⟩
 ·go_enter Tryz.func15,Tryz.ntmps15
  go_wp2_with fail
  refine C1.mono ?_
  rintro e w1 ⟨rfl,hg1⟩
  obtain ⟨hc1,hf1⟩:=bcell hg1.bel
  have C2:=lpInts_any s.a2 s.b2 s.o2 s.c2 s.l2 t.a2 t.b2 t.o2 t.c2 t.l2 _ hs.last (hga.grown hg1).last (hgb.grown hg1).last
  go_wp2_with fail
  refine C2.mono ?_
  rintro e w2 ⟨rfl,hg2⟩
  go_wp2_with fail
  go_ret
  exact ⟨ret_bool (by simp [M.sameS,hr1]),((alloc2 w _ _).trans hg1).trans hg2⟩
end
end Go.Proofs.YtegommoflmmahaaGreat
