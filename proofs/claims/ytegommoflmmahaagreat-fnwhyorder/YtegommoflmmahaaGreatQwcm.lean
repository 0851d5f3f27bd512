/- The law FnWhyOrder, walked: it answers true, and leaves all as it was. Of whatever code. -/
import Derived.Deep.OwnRows
import Derived.Test.YtegommoflmmahaaGreatRows
import Derived.Test.YtegommoflmmahaaGreatQwcc
import Derived.Test.YtegommoflmmahaaGreatQwcd
import Derived.Test.YtegommoflmmahaaGreatQwcl
namespace Go.Proofs.YtegommoflmmahaaGreat
section
open Go.RowKit Go.Shelf
theorem M.why_late {ll:List (List M.D)}:∀ k∈M.orderAll ll 1,k∈M.orderAll ll 2:=fun k hk=>by
 obtain ⟨x,hx,e⟩:=M.mem_orderAll.1 hk
 exact M.mem_orderAll.2 ⟨x,M.holds_late hx,e⟩
theorem M.why_loose {ll:List (List M.D)}:∀ k∈M.orderAll ll 2,k∈M.orderAll ll 3:=fun k hk=>by
 obtain ⟨x,hx,e⟩:=M.mem_orderAll.1 hk
 exact M.mem_orderAll.2 ⟨x,M.holds_loose hx,e⟩
theorem M.why_from (ll:List (List M.D)) (t1 t2:List Int) (k:Nat) (h1:1≤k) (h3:k≤3):M.isIn (M.orderAll ll k) t1 t2=(decide (0 < M.whyOrder ll t1 t2)&&decide (M.whyOrder ll t1 t2≤(k:Int))):=by
 have e:∀ k,(M.whyExec ll t1 t2 k).isSome=M.isIn (M.orderAll ll k) t1 t2:=fun k=>M.whyExec_isIn ll t1 t2 k
 have g12:M.isIn (M.orderAll ll 1) t1 t2=true→M.isIn (M.orderAll ll 2) t1 t2=true:=fun h=>(M.isIn_iff _ _ _).2 (M.why_late _ ((M.isIn_iff _ _ _).1 h))
 have g23:M.isIn (M.orderAll ll 2) t1 t2=true→M.isIn (M.orderAll ll 3) t1 t2=true:=fun h=>(M.isIn_iff _ _ _).2 (M.why_loose _ ((M.isIn_iff _ _ _).1 h))
 unfold M.whyOrder M.firstOf
 simp only [e]
 have hk:k=1∨k=2∨k=3:=by omega
 rcases hk with rfl | rfl | rfl
 ·show M.isIn (M.orderAll ll 1) t1 t2=_
  cases h1:M.isIn (M.orderAll ll 1) t1 t2<;>cases h2:M.isIn (M.orderAll ll 2) t1 t2<;>cases h3:M.isIn (M.orderAll ll 3) t1 t2<;>simp_all
 ·show M.isIn (M.orderAll ll 2) t1 t2=_
  cases h1:M.isIn (M.orderAll ll 1) t1 t2<;>cases h2:M.isIn (M.orderAll ll 2) t1 t2<;>cases h3:M.isIn (M.orderAll ll 3) t1 t2<;>simp_all
 ·show M.isIn (M.orderAll ll 3) t1 t2=_
  cases h1:M.isIn (M.orderAll ll 1) t1 t2<;>cases h2:M.isIn (M.orderAll ll 2) t1 t2<;>cases h3:M.isIn (M.orderAll ll 3) t1 t2<;>simp_all
set_option maxHeartbeats 4000000 in
set_option maxRecDepth 100000 in
set_option linter.unusedSimpArgs false in
theorem lawYo_any (ca:Option Addr) (cb co L C:Nat) (x:Nat→Int) (w:World) (hL:L≤C) (had:0 < L→ca=some ⟨cb,co,none⟩) (hc:∀ i,i < L→w.cell? ⟨cb,co+i,none⟩=some (.int .u8 (x i))∧0≤x i∧x i≤255) :
  Calls Tryz.prog 6 #[.slice ca L C] w fun e w'=>e=.returned (.bool true)∧Below w.heap.size w w':=by
 by_cases hLb:L≤1048576
 ·go_enter Tryz.func6,Tryz.ntmps6
  go_wp2_with fail
  refine (DrawWhyOrder_any ca cb co L C x _ hL had hc hLb).mono ?_
  rintro e w1 ⟨a,g,c,mm,s,rfl,hD⟩
  have hls:=hD.sm.le
  have hl3:mm.length≤1048576:=by have:=hD.sm.three;omega
  have hsl:=hD.le
  have bx0:=BxY.new hD
  clear had hc hD
  go_wp2_with fail
  generalize (w1.alloc (.cells #[.slice a mm.length c] 25)).alloc (.cells #[.slice s.a1 s.l1.length s.c1,.slice s.a2 s.l2.length s.c2] 28)=W0 at *
  obtain ⟨S,hSe⟩:∃ S,w1.heap.size+1=S:=⟨_,rfl⟩
  rw [hSe] at bx0 ⊢
  clear hSe
  generalize w1.heap.size=P at *
  have CS:=fun (W:World) (h:BxY w W P S a g c mm s)=>swhyOrder_any a g 0 c mm s W hl3 hls hsl h.ss h.sa
  have CI:=fun (W:World) (h:BxY w W P S a g c mm s)=>iwhyOrder_any a g 0 c mm s W hl3 hls hsl h.ss h.sa
  have hfr:=M.why_from mm s.l1 s.l2
  rw [M.swhyOrder_same] at CS
  have hvr:M.whyOrder mm s.l1 s.l2≤3:=by unfold M.whyOrder M.firstOf;split<;>(try split)<;>(try split)<;>omega
  obtain ⟨v,hv⟩:∃ v,M.whyOrder mm s.l1 s.l2=v:=⟨_,rfl⟩
  rw [hv] at CS CI hfr hvr
  have HFR:Hid (∀ k:Nat,1≤k→k≤3→M.isIn (M.orderAll mm k) s.l1 s.l2=(decide (0 < v)&&decide (v≤(k:Int)))):=hfr
  clear hv hfr
  have p0:=bx0.p.c
  have q0:=bx0.sb.c0
  have q1:=bx0.sb.c1
  refine (CI W0 bx0).mono ?_
  rintro e W1 ⟨rfl,b1⟩
  have bx1:=bx0.below b1
  clear p0 q0 q1 bx0 b1
  have p0:=bx1.p.c
  have q0:=bx1.sb.c0
  have q1:=bx1.sb.c1
  go_wp2_with fail
  refine (CS W1 bx1).mono ?_
  rintro e W2 ⟨rfl,b2⟩
  have bx2:=bx1.below b2
  clear p0 q0 q1 bx1 b2 CI CS
  go_wp2_with fail
  go_loopw [6] (fun s6 wr=>∃ n:Nat,s6=.int .i64 n∧1≤n∧n≤4∧Below W2.heap.size W2 wr) (fun s6 _=>4 - (intOf s6).toNat)
  case atStart=>exact ⟨1,rfl,by omega,by omega,Below.refl _ _⟩
  case round =>
   obtain ⟨n,rfl,hn1,hn4,hb⟩:=hrel
   have bxr:=bx2.below hb
   by_cases h3:n≤3
   ·have i3:(n:Int)≤3:=by omega
    have hq:=HFR.out n hn1 h3
    have hkl:=M.orderAll_len mm n
    have hkk:=M.orderAll_le mm n
    obtain ⟨wo,rfl⟩:∃ wo:World,wo=wr:=⟨_,rfl⟩
    have CO:=fun (W:World) (h:Below wo.heap.size wo W)=>iorderAllK a g 0 c mm n W hl3 hls (bxr.below h).ss
    obtain ⟨ks,hks⟩:∃ ks,M.orderAll mm n=ks:=⟨_,rfl⟩
    rw [hks] at CO hkl hkk hq
    clear hks
    have CN:=fun (a1:Option Addr) (g1 c1:Nat) (W:World) (h:Below wo.heap.size wo W) (hS:KS W a1 g1 0 ks)=>iseenIn_any a1 g1 0 c1 ks s W (by omega) hkk hsl hS (bxr.below h).sa
    rw [hq] at CN
    clear hq
    have fp:∀ w',Below wo.heap.size wo w'→w'.cell? ⟨P,0,none⟩=some (.slice a mm.length c):=fun w' h=>(bxr.below h).p.c
    have fs0:∀ w',Below wo.heap.size wo w'→w'.cell? ⟨S,0,none⟩=some (.slice s.a1 s.l1.length s.c1):=fun w' h=>(bxr.below h).sb.c0
    have fs1:∀ w',Below wo.heap.size wo w'→w'.cell? ⟨S,1,none⟩=some (.slice s.a2 s.l2.length s.c2):=fun w' h=>(bxr.below h).sb.c1
    obtain ⟨d,hd⟩:∃ d,decide (v≤(n:Int))=d:=⟨_,rfl⟩
    rw [hd] at CN
    go_wp2_with fail
    refine wp_region_held_drew (S:=fun w'=>Below wo.heap.size wo w') (by kernel_rfl) (Below.refl _ _).drew (fun hH=>?_)
    refine tk 0 27 (.agg #[.slice a mm.length c]) hH rfl rfl (by intro w' hSw;have hc0:=fp w' hSw;go_simp) ?_
    simp only [Act.put,q1,q2,q3]
    refine tk 1 28 (.int .i64 n) hH rfl rfl (by intro w' hSw;go_simp) ?_
    simp only [Act.put,q1,q2,q3]
    refine tk 3 30 (.agg #[.slice s.a1 s.l1.length s.c1,.slice s.a2 s.l2.length s.c2]) hH rfl rfl (by intro w' hSw;have hc0:=fs0 w' hSw;have hc1:=fs1 w' hSw;go_simp) ?_
    simp only [Act.put,q1,q2,q3]
    refine tk 5 32 (.int .i64 v) hH rfl rfl (by intro w' hSw;go_simp) ?_
    simp only [Act.put,q1,q2,q3]
    by_cases hpos:0 < v
    ·have h0:0 < v:=hpos
     rw [show decide (0 < v)=true from by simpa using h0,Bool.true_and] at CN
     refine tk 6 33 (.bool true) hH rfl rfl (by intro w' hSw;go_simp) ?_
     simp only [Act.put,q1,q2,q3]
     refine ry 2 rfl (fun K' hK=>?_)
     refine sg 29 rfl 18 #[.tmp 27,.tmp 28] rfl #[.agg #[.slice a mm.length c],.int .i64 n] (enters_of Tryz.func18 (by kernel_rfl) rfl) (CO _ hH) ?_
     rintro e W6 ⟨v6,rfl,hA6⟩
     obtain ⟨a6,g6,c6,rfl,hS6⟩:=hA6.ex
     refine ⟨_,rfl,hK.out _ _ (hH.trans (hA6.bel.mono hH.size)) (fun hH1=>?_)⟩
     clear hK K'
     simp only [Act.put,q1,q2,q3]
     refine ry 4 rfl (fun K' hK=>?_)
     refine sg 31 rfl 17 #[.tmp 29,.tmp 30] rfl #[.slice a6 ks.length c6,.agg #[.slice s.a1 s.l1.length s.c1,.slice s.a2 s.l2.length s.c2]] (enters_of Tryz.func17 (by kernel_rfl) rfl) (CN a6 g6 c6 _ hH1 hS6) ?_
     rintro e W7 ⟨rfl,b7⟩
     refine ⟨_,rfl,hK.out _ _ (hH1.trans (b7.bel.mono hH1.size)) (fun hH2=>?_)⟩
     clear hK K'
     simp only [Act.put,q1,q2,q3]
     refine tk 7 34 (.bool true) hH2 rfl rfl (by intro w' hSw;go_simp) ?_
     simp only [Act.put,q1,q2,q3]
     refine tk 8 35 (.int .i64 n) hH2 rfl rfl (by intro w' hSw;go_simp) ?_
     simp only [Act.put,q1,q2,q3]
     refine tk 9 36 (.int .i64 v) hH2 rfl rfl (by intro w' hSw;go_simp) ?_
     simp only [Act.put,q1,q2,q3]
     refine tk 10 37 (.bool d) hH2 rfl rfl (by intro w' hSw;go_simp) ?_
     simp only [Act.put,q1,q2,q3]
     refine tk 11 38 (.bool d) hH2 rfl rfl (by intro w' hSw;go_simp) ?_
     simp only [Act.put,q1,q2,q3]
     refine tk 12 39 (.bool false) hH2 rfl rfl (by intro w' hSw;go_simp) ?_
     simp only [Act.put,q1,q2,q3]
     refine wpAnyH_done (by kernel_rfl) ?_ _
     clear CO CN fp fs0 fs1 hd
     go_wp2_with fail
     have bF:=hb.trans (hH2.mono hb.size)
     exact ⟨⟨n+1,by go_num,by omega,by omega,bF⟩,by simp [intOf];omega⟩
    ·have h0:¬ 0 < v:=hpos
     rw [show decide (0 < v)=false from by simpa using h0,Bool.false_and] at CN
     refine tk 6 33 (.bool false) hH rfl rfl (by intro w' hSw;go_simp) ?_
     simp only [Act.put,q1,q2,q3]
     refine ry 2 rfl (fun K' hK=>?_)
     refine sg 29 rfl 18 #[.tmp 27,.tmp 28] rfl #[.agg #[.slice a mm.length c],.int .i64 n] (enters_of Tryz.func18 (by kernel_rfl) rfl) (CO _ hH) ?_
     rintro e W6 ⟨v6,rfl,hA6⟩
     obtain ⟨a6,g6,c6,rfl,hS6⟩:=hA6.ex
     refine ⟨_,rfl,hK.out _ _ (hH.trans (hA6.bel.mono hH.size)) (fun hH1=>?_)⟩
     clear hK K'
     simp only [Act.put,q1,q2,q3]
     refine ry 4 rfl (fun K' hK=>?_)
     refine sg 31 rfl 17 #[.tmp 29,.tmp 30] rfl #[.slice a6 ks.length c6,.agg #[.slice s.a1 s.l1.length s.c1,.slice s.a2 s.l2.length s.c2]] (enters_of Tryz.func17 (by kernel_rfl) rfl) (CN a6 g6 c6 _ hH1 hS6) ?_
     rintro e W7 ⟨rfl,b7⟩
     refine ⟨_,rfl,hK.out _ _ (hH1.trans (b7.bel.mono hH1.size)) (fun hH2=>?_)⟩
     clear hK K'
     simp only [Act.put,q1,q2,q3]
     refine tk 7 34 (.bool false) hH2 rfl rfl (by intro w' hSw;go_simp) ?_
     simp only [Act.put,q1,q2,q3]
     refine tz 8 35 hH2 rfl rfl ?_
     simp only [Act.put,q1,q2,q3]
     refine tz 9 36 hH2 rfl rfl ?_
     simp only [Act.put,q1,q2,q3]
     refine tz 10 37 hH2 rfl rfl ?_
     simp only [Act.put,q1,q2,q3]
     refine tk 11 38 (.bool false) hH2 rfl rfl (by intro w' hSw;go_simp) ?_
     simp only [Act.put,q1,q2,q3]
     refine tk 12 39 (.bool false) hH2 rfl rfl (by intro w' hSw;go_simp) ?_
     simp only [Act.put,q1,q2,q3]
     refine wpAnyH_done (by kernel_rfl) ?_ _
     clear CO CN fp fs0 fs1 hd
     go_wp2_with fail
     have bF:=hb.trans (hH2.mono hb.size)
     exact ⟨⟨n+1,by go_num,by omega,by omega,bF⟩,by simp [intOf];omega⟩
   ·have hn:n=4:=by omega
    subst hn
    go_wp2_with fail
    go_ret
    exact ⟨rfl,bxr.bel⟩
 ·go_enter Tryz.func6,Tryz.ntmps6
  go_wp2_with fail
  go_ret
  exact ⟨rfl,Below.refl _ _⟩
end
end Go.Proofs.YtegommoflmmahaaGreat
