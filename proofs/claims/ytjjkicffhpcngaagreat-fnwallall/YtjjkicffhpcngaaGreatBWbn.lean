/- impl's and spec's WallAll: walls at all gaps. Of programs of at most 1048576 threads, each of at most 1048576 steps. spec.DrawWallAll: a drawn program. Of codes of at most 1048576 bytes. The law FnWallAll, walked: it answers true, and leaves all as it was. Of whatever code. -/
import Derived.Test.YtjjkicffhpcngaaGreatBWbm
namespace Go.Proofs.YtjjkicffhpcngaaGreat
open Go.RowKit
namespace M
def upto (n:Nat):List Int:=(List.range n).map fun (i:Nat)=>(i:Int)
theorem upto_len (n:Nat):(upto n).length=n:=by simp [upto]
theorem upto_succ (n:Nat):upto (n+1)=upto n++[(n:Int)]:=by simp [upto,List.range_succ]
def wallAll (ll:List (List D)):Option (List (List D)):=wallPut ll (upto (gaps ll).toNat)
theorem gaps_le (ll:List (List D)):-1≤gaps ll∧gaps ll≤18:=by
 unfold gaps
 split
 ·rename_i hp
  obtain ⟨h3,h7⟩:=prog_le hp
  have:=gapsN_le h7
  omega
 ·omega
end M
set_option maxHeartbeats 1000000 in
set_option maxRecDepth 100000 in
theorem iwallAll_any (a:Option Addr) (b o c:Nat) (ll:List (List M.D)) (hl:ll.length≤1048576) (hls:∀ t∈ll,t.length≤1048576) (w:World) (h:DoSS w a b o ll) :
  Calls Tryz.prog 15 #[.agg #[.slice a ll.length c]] w fun e w'=>∃ v,e=.returned (.tuple #[.agg #[v],.bool (M.wallAll ll).isSome])∧∃ vs,Rdg w' w.heap.size v ((M.wallAll ll).getD []) vs∧Below w.heap.size w w':=by
 obtain ⟨i0,hi,hz0,hz1,hz2⟩:=info_parts Tryz.infoInt
 have b2:=below2 w (.cells #[.slice a ll.length c] 25) (.cells #[.slice none 0 0] 25)
 have h2:=h.below b2 (Nat.le_refl _)
 have hX:=(Slot1.new w (.slice a ll.length c) 25).bl' (below1 _ (.cells #[.slice none 0 0] 25))
 have hY:=Slot1.new (w.alloc (.cells #[.slice a ll.length c] 25)) (.slice none 0 0) 25
 rw [World.size_alloc] at hY
 go_enter Tryz.func15,Tryz.ntmps15
 go_wp2_with fail
 generalize (w.alloc (.cells #[.slice a ll.length c] 25)).alloc (.cells #[.slice none 0 0] 25)=W at *
 refine (igaps_any a b o c ll W hl hls h2).mono ?_
 rintro e W1 ⟨rfl,b1⟩
 have hX1:=hX.bl' b1
 have hY1:=hY.bl' b1
 have bw1:=b2.trans (b1.mono b2.size)
 have CP:=fun ga gb go gc W h1 h2=>iwallPut_any a b o c ll hl hls ga gb go gc (M.upto (M.gaps ll).toNat) (by rw [M.upto_len];have:=M.gaps_le ll;omega) W h1 h2
 rw [show M.wallPut ll (M.upto (M.gaps ll).toNat)=M.wallAll ll from rfl,M.upto_len] at CP
 obtain ⟨hg1,hg2⟩:=M.gaps_le ll
 generalize M.gaps ll=G at *
 clear h2 hX hY b1 b2
 go_wp2_with fail
 go_loopw [4,8] (fun s4 s8 wr=>∃ n:Nat,s8=.int .i64 n∧n≤G.toNat∧wr.ownsRow W1.heap.size 3 1 s4 (M.upto n).length (nums (M.upto n))∧Below W1.heap.size W1 wr) (fun _ s8 _=>G.toNat - (intOf s8).toNat)
 case atStart=>exact ⟨0,rfl,Nat.zero_le _,World.ownsRow_nil _ _ _ _,Below.refl _ _⟩
 case round =>
  obtain ⟨n,rfl,hn,hown,hbel⟩:=hrel
  have hbs:=hbel.size
  by_cases hlt:(n:Int) < G
  ·have hun:(M.upto n).length=n:=M.upto_len n
   rw [hun] at hown
   clear hun
   go_wp2_with (at_builtin;refine wpList_append_own _ rfl (.tmp 11) (.tmp 13) 47 rfl _ 3 i0 _ 1 8 Tryz.underlying47 hi hz0 hz1 hz2 rfl (by decide) _ _ _ rfl (hown.alloc _) ⟨wr.heap.size,0,none⟩ 1 1 [.int .i64 n] rfl rfl (cells_new1 _ _ _ _ (by simp)) (one1 _) (by unfold maxLen;omega) (by omega) (by simp;omega) ?_)
   intro v3 w3 hown3 hg3 _
   have hb3:Below _ _ w3:=below_grown (hbel.trans ((below1 wr _).mono hbel.size)) hg3 (own_ge hown) (by simp;omega)
   have hown4:w3.ownsRow W1.heap.size 3 1 v3 (M.upto (n+1)).length (nums (M.upto (n+1))):=by
    rw [M.upto_len,M.upto_succ,nums_snoc];exact hown3
   clear hown3 hg3 hown
   go_wp2_with fail
   exact ⟨⟨n+1,by go_num,by omega,hown4,hb3⟩,by simp [intOf];omega⟩
  ·obtain rfl:n=G.toNat:=by omega
   obtain ⟨ga,gb,gc,rfl,hI,_,_⟩:=own_nums hown
   rw [M.upto_len]
   have hX3:=hX1.bl' hbel
   have hY3:=hY1.bl' hbel
   have bw3:=bw1.trans (hbel.mono bw1.size)
   have x0:=hX3.c
   have hC:=CP ga gb 0 gc wr (h.below bw3 (Nat.le_refl _)) hI
   go_wp2_with fail
   refine hC.mono ?_
   rintro e w4 ⟨v4,rfl,vs4,hR4,b4⟩
   obtain ⟨av,gv,cv,rfl,_⟩:=hR4.b.ss
   have hY4:=hY3.bl' b4
   have bw4:=bw3.trans (b4.mono bw3.size)
   have y0:=hY4.c
   have yf:=hY4.fz
   have ly:=hY3.lt
   go_wp2_with fail
   have q1:=(hY4.set (.slice av ((M.wallAll ll).getD []).length cv)).c
   exact bodyPost_ret (v:=.tuple #[.agg #[.slice av ((M.wallAll ll).getD []).length cv],.bool (M.wallAll ll).isSome]) (by simp [results,Tryz.results15,go_sem,q1]) rfl ⟨_,rfl,vs4,(hR4.far ly _).mono bw3.size,bw4.setCell (by show w.heap.size≤w.heap.size+1;omega) _⟩
set_option maxHeartbeats 1000000 in
set_option maxRecDepth 100000 in
theorem swallAll_any (a:Option Addr) (b o c:Nat) (ll:List (List M.D)) (hl:ll.length≤1048576) (hls:∀ t∈ll,t.length≤1048576) (w:World) (h:DoSS w a b o ll) :
  Calls Tryz.prog 16 #[.agg #[.slice a ll.length c]] w fun e w'=>∃ v,e=.returned (.tuple #[.agg #[v],.bool (M.wallAll ll).isSome])∧∃ vs,Rdg w' w.heap.size v ((M.wallAll ll).getD []) vs∧Below w.heap.size w w':=by
 obtain ⟨i0,hi,hz0,hz1,hz2⟩:=info_parts Tryz.infoInt
 have b2:=below2 w (.cells #[.slice a ll.length c] 25) (.cells #[.slice none 0 0] 25)
 have hX:=(Slot1.new w (.slice a ll.length c) 25).bl' (below1 _ (.cells #[.slice none 0 0] 25))
 have hY:=Slot1.new (w.alloc (.cells #[.slice a ll.length c] 25)) (.slice none 0 0) 25
 rw [World.size_alloc] at hY
 have CP:=fun ga gb go gc W h1 h2=>swallPut_any a b o c ll hl hls ga gb go gc (M.upto (M.gaps ll).toNat) (by rw [M.upto_len];have:=M.gaps_le ll;omega) W h1 h2
 rw [show M.wallPut ll (M.upto (M.gaps ll).toNat)=M.wallAll ll from rfl,M.upto_len] at CP
 have CG:=fun W hW=>sgaps_any a b o c ll W hl hls hW
 obtain ⟨hg1,hg2⟩:=M.gaps_le ll
 generalize M.gaps ll=G at *
 have hE:=World.ownsRow_made (base:=w.heap.size+1+1) (e:=3) (size:=1) ((w.alloc (.cells #[.slice a ll.length c] 25)).alloc (.cells #[.slice none 0 0] 25)) #[] 0 (by simp) (Nat.zero_le _) rfl
 have bE:=below1 ((w.alloc (.cells #[.slice a ll.length c] 25)).alloc (.cells #[.slice none 0 0] 25)) (.cells #[] 3)
 have HW:Hid (((w.alloc (.cells #[.slice a ll.length c] 25)).alloc (.cells #[.slice none 0 0] 25)).heap.size=w.heap.size+1+1):=by show _=_;simp
 go_enter Tryz.func16,Tryz.ntmps16
 go_wp2_with fail
 generalize (w.alloc (.cells #[.slice a ll.length c] 25)).alloc (.cells #[.slice none 0 0] 25)=W at *
 rw [HW.out] at hE bE
 go_loopw [4,5] (fun s4 s5 wr=>∃ n:Nat,s5=.int .i64 n∧n≤G.toNat∧wr.ownsRow (w.heap.size+1+1) 3 1 s4 (M.upto n).length (nums (M.upto n))∧Below (w.heap.size+1+1) W wr) (fun _ s5 _=>G.toNat - (intOf s5).toNat)
 case atStart=>exact ⟨0,rfl,Nat.zero_le _,hE,bE⟩
 case round =>
  obtain ⟨n,rfl,hn,hown,hbel⟩:=hrel
  have hbel':Below W.heap.size W wr:=by rw [HW.out];exact hbel
  have bwr:=b2.trans (hbel'.mono b2.size)
  have hXr:=hX.bl' hbel'
  have hYr:=hY.bl' hbel'
  have x0:=hXr.c
  have hbs:=hbel.size
  have hGC:=CG wr (h.below bwr (Nat.le_refl _))
  by_cases hlt:(n:Int) < G
  ·go_wp2_with (first | (go_at_call 34;refine hGC.mono ?_;rintro e w2 ⟨rfl,b2'⟩;have hown2:=ownsRow_below hown b2';rw [M.upto_len] at hown2;have hs2:=b2'.size) | (at_builtin;refine wpList_append_own _ rfl (.tmp 13) (.tmp 15) 47 rfl _ 3 i0 _ 1 8 Tryz.underlying47 hi hz0 hz1 hz2 rfl (by decide) _ _ _ rfl (hown2.alloc _) ⟨w2.heap.size,0,none⟩ 1 1 [.int .i64 n] rfl rfl (cells_new1 _ _ _ _ (by simp)) (one1 _) (by unfold maxLen;omega) (by omega) (by have:=HW.out;simp;omega) ?_))
   intro v3 w3 hown3 hg3 _
   have hb2:Below (w.heap.size+1+1) W w2:=hbel.trans (b2'.mono (by have:=HW.out;omega))
   have hb3:Below (w.heap.size+1+1) W w3:=below_grown (hb2.trans ((below1 w2 _).mono (by have:=HW.out;omega))) hg3 (own_ge hown2) (by have:=HW.out;simp;omega)
   have hown4:w3.ownsRow (w.heap.size+1+1) 3 1 v3 (M.upto (n+1)).length (nums (M.upto (n+1))):=by
    rw [M.upto_len,M.upto_succ,nums_snoc];exact hown3
   clear hown3 hg3 hown hown2
   go_wp2_with fail
   exact ⟨⟨n+1,by go_num,by omega,hown4,hb3⟩,by simp [intOf];omega⟩
  ·obtain rfl:n=G.toNat:=by omega
   have hnn:¬ ((G.toNat:Nat):Int) < G:=by omega
   obtain ⟨ga,gb,gc,rfl,hI,_,_⟩:=own_nums hown
   rw [M.upto_len]
   have hC:=fun w2 (b2':Below wr.heap.size wr w2)=>CP ga gb 0 gc w2 (h.below (bwr.trans (b2'.mono bwr.size)) (Nat.le_refl _)) (hI.below b2' (Nat.le_refl _))
   go_wp2_with (first | (go_at_call 34;refine hGC.mono ?_;rintro e w2 ⟨rfl,b2'⟩;have hX2:=hXr.bl' b2';have x2:=hX2.c))
   refine (hC w2 b2').mono ?_
   rintro e w4 ⟨v4,rfl,vs4,hR4,b4⟩
   obtain ⟨av,gv,cv,rfl,_⟩:=hR4.b.ss
   have bw2:=bwr.trans (b2'.mono bwr.size)
   have hY2:=hYr.bl' b2'
   have hY4:=hY2.bl' b4
   have bw4:=bw2.trans (b4.mono bw2.size)
   have y0:=hY4.c
   have yf:=hY4.fz
   have ly:=hY2.lt
   go_wp2_with fail
   have q1:=(hY4.set (.slice av ((M.wallAll ll).getD []).length cv)).c
   exact bodyPost_ret (v:=.tuple #[.agg #[.slice av ((M.wallAll ll).getD []).length cv],.bool (M.wallAll ll).isSome]) (by simp [results,Tryz.results16,go_sem,q1]) rfl ⟨_,rfl,vs4,(hR4.far ly _).mono bw2.size,bw4.setCell (by show w.heap.size≤w.heap.size+1;omega) _⟩
end Go.Proofs.YtjjkicffhpcngaaGreat
namespace Go.Proofs.YtjjkicffhpcngaaGreat
open Go.RowKit
set_option maxHeartbeats 1000000 in
set_option maxRecDepth 100000 in
theorem DrawWallAll_any (ca:Option Addr) (cb co L C:Nat) (x:Nat→Int) (w:World) (hL:L≤C) (had:0 < L→ca=some ⟨cb,co,none⟩) (hc:∀ i,i < L→w.cell? ⟨cb,co+i,none⟩=some (.int .u8 (x i))∧0≤x i∧x i≤255) (hLb:L≤1048576) :
  Calls Tryz.prog 14 #[.slice ca L C] w fun e w'=>∃ (a:Option Addr) (g c:Nat) (mm:List (List M.D)),e=.returned (.agg #[.slice a mm.length c])∧DoSN (w.heap.size+1) w' a g 0 mm∧Small mm c∧Below w.heap.size w w':=by
 go_enter Tryz.func14,Tryz.ntmps14
 go_wp2_with fail
 have hb0:=below1 w (.cells #[.slice none 0 0] 25)
 refine (l6Open_any ca cb co L C x _ hL had (fun i hi=>⟨by rw [hb0.cell (p:=⟨cb,co+i,none⟩) (World.block_lt_of_cell? _ _ (hc i hi).1)];exact (hc i hi).1,(hc i hi).2⟩) hLb).mono ?_
 rintro e w1 ⟨rfl,hr1,hb1⟩
 simp only [World.size_alloc] at hr1 hb1 ⊢
 have hb1w:Below w.heap.size w w1:=hb0.trans (hb1.mono (by omega))
 have hS1:=(Slot1.new w (.slice none 0 0) 25).but (But.of (rb:=w.heap.size+1) (by simpa only [World.size_alloc] using hb1)) (by omega)
 have hlt1:=hr1.lt
 clear hc had hb0 hb1
 go_wp2_with fail
 refine (l71Any_any _ (w.heap.size+1) 0 _ (by omega) hr1).mono ?_
 rintro e w2 ⟨a,g,c,mm,rfl,hsn,hsm,p2,hp2,hr2,hb2⟩
 have hS2:=hS1.but hb2 (by omega)
 have s0:=hS2.c
 have sf:=hS2.fz
 have hsl:=hS2.lt
 have hbw:Below w.heap.size w w2:=But.below hb1w hb2 (by omega)
 go_wp2_with fail
 have s4:=(hS2.set (.slice a mm.length c)).c
 refine bodyPost_ret (v:=.agg #[.slice a mm.length c]) (by simp [results,Tryz.results14,go_sem,s4]) rfl ⟨a,g,c,mm,rfl,(hsn.far (by omega)).mono (by omega),hsm,hbw.setCell (Nat.le_refl _) _⟩
end Go.Proofs.YtjjkicffhpcngaaGreat
namespace Go.Proofs.YtjjkicffhpcngaaGreat
open Go.RowKit
theorem M.has_upto {n q:Nat} (h:q < n):M.has (M.upto n) (q:Int)=true:=by
 unfold M.has M.upto
 rw [List.contains_iff_mem]
 exact List.mem_map.2 ⟨q,List.mem_range.2 h,rfl⟩
theorem M.wallAll_strict {ll mm:List (List M.D)} (h:M.wallAll ll=some mm) {k:Nat} (hk:1≤k∧k≤3):M.orderAll mm k=M.orderAll ll 1:=by
 obtain ⟨hp,_,hq,rfl⟩:=M.wallPut_some h
 refine M.all_walls hp hq (fun q hq'=>M.has_upto ?_) hk
 rw [M.gaps_ok hp]
 simpa using hq'
theorem M.wallAll_le {ll mm:List (List M.D)} (h:M.wallAll ll=some mm):mm.length≤1048576∧∀ t∈mm,t.length≤1048576:=by
 obtain ⟨_,_,hq,_⟩:=M.wallPut_some h
 obtain ⟨h1,h2⟩:=M.prog_le hq
 exact ⟨by omega,fun t ht=>by have:=h2 t ht;omega⟩
set_option maxHeartbeats 4000000 in
set_option maxRecDepth 100000 in
theorem lawWallAll_any (ca:Option Addr) (cb co L C:Nat) (x:Nat→Int) (w:World) (hL:L≤C) (had:0 < L→ca=some ⟨cb,co,none⟩) (hc:∀ i,i < L→w.cell? ⟨cb,co+i,none⟩=some (.int .u8 (x i))∧0≤x i∧x i≤255) :
  Calls Tryz.prog 3 #[.slice ca L C] w fun e w'=>e=.returned (.bool true)∧Below w.heap.size w w':=by
 by_cases hLb:L≤1048576
 ·go_enter Tryz.func3,Tryz.ntmps3
  go_wp2_with fail
  refine (DrawWallAll_any ca cb co L C x _ hL had hc hLb).mono ?_
  rintro e w1 ⟨a,g,c,mm,rfl,hsn,hsm,hb1⟩
  have hls:=hsm.le
  have hl3:mm.length≤1048576:=by have:=hsm.three;omega
  clear had hc
  have bx0:=BoxP.new (c:=c) hb1 hsn.ss
  go_wp2_with fail
  generalize w1.alloc (.cells #[.slice a mm.length c] 25)=W0 at *
  generalize w1.heap.size=P at *
  clear hsn hb1 hsm
  have CW:=iwallAll_any a g 0 c mm hl3 hls W0 bx0.ss
  have CS:=fun (W:World) (h:BoxP w W P a g c mm)=>swallAll_any a g 0 c mm hl3 hls W h.ss
  have HW:Hid (∀ qq,M.wallAll mm=some qq→(qq.length≤1048576∧∀ t∈qq,t.length≤1048576)∧M.orderAll qq 1=M.orderAll mm 1∧M.orderAll qq 2=M.orderAll mm 1∧M.orderAll qq 3=M.orderAll mm 1):=fun qq h=>⟨M.wallAll_le h,M.wallAll_strict h (k:=1) (by omega),M.wallAll_strict h (k:=2) (by omega),M.wallAll_strict h (k:=3) (by omega)⟩
  obtain ⟨ow,how⟩:∃ ow,M.wallAll mm=ow:=⟨_,rfl⟩
  rw [how] at CW CS HW
  clear how
  refine CW.mono ?_
  rintro e W1 ⟨v1,rfl,vs1,hR1,b1⟩
  obtain ⟨qa,qg,qc,rfl,hss1⟩:=hR1.b.ss
  obtain ⟨qq,hqq⟩:∃ qq,ow.getD []=qq:=⟨_,rfl⟩
  rw [hqq] at hss1 ⊢
  have bx1:=(bx0.below b1).below (below1 W1 (.cells #[.slice qa qq.length qc] 25))
  have hq1:=Slot1.new W1 (.slice qa qq.length qc) 25
  have ss1:=hss1.below (below1 W1 (.cells #[.slice qa qq.length qc] 25)) (Nat.le_refl _)
  have p1:=bx1.p.c
  clear hR1 hss1 b1 bx0 CW
  go_wp2_with fail
  generalize W1.alloc (.cells #[.slice qa qq.length qc] 25)=W2 at *
  generalize W1.heap.size=Q at *
  refine (CS W2 bx1).mono ?_
  rintro e V3 ⟨v3,rfl,vs3,hR3,b3⟩
  obtain ⟨sa,sg,sc,rfl,hs3⟩:=hR3.b.ss
  rw [hqq]
  have bz:=below1 V3 (.cells #[.slice sa qq.length sc] 25)
  have bx3:=(bx1.below b3).below bz
  have hq3:=(hq1.bel b3).bel bz
  have ss3:=(ss1.below b3 (Nat.le_refl _)).below bz (Nat.le_refl _)
  have p3:=bx3.p.c
  clear hR3 b3 bx1 hq1 ss1 p1 CS hs3 bz
  cases ow with
  | none =>
   clear HW hqq
   go_wp2_with fail
   go_ret
   exact ⟨rfl,bx3.bel⟩
  | some q0 =>
   obtain rfl:q0=qq:=hqq
   obtain ⟨⟨hql,hqs⟩,e1,e2,e3⟩:=HW.out q0 rfl
   have hl9:=M.orderAll_len mm 1
   have hk9:=M.orderAll_le mm 1
   have CP:=fun (W:World) (h:BoxP w W P a g c mm)=>iorderAllK a g 0 c mm 1 W hl3 hls h.ss
   have C1:=fun (W:World) (h:DoSS W qa qg 0 q0)=>iorderAllK qa qg 0 qc q0 1 W hql hqs h
   have C2:=fun (W:World) (h:DoSS W qa qg 0 q0)=>iorderAllK qa qg 0 qc q0 2 W hql hqs h
   have C3:=fun (W:World) (h:DoSS W qa qg 0 q0)=>iorderAllK qa qg 0 qc q0 3 W hql hqs h
   rw [e1] at C1
   rw [e2] at C2
   rw [e3] at C3
   generalize M.orderAll mm 1=ks at *
   clear HW e1 e2 e3 hqs
   go_wp2_with fail
   generalize V3.alloc (.cells #[.slice sa q0.length sc] 25)=W3 at *
   refine (CP W3 bx3).mono ?_
   rintro e W4 ⟨v4,rfl,hA⟩
   have bx4:=bx3.below hA.bel
   have hq4:=hq3.bel hA.bel
   have ss4:=ss3.below hA.bel (Nat.le_refl _)
   obtain ⟨a4,g4,c4,rfl,hS4⟩:=hA.ex
   have q4:=hq4.c
   clear hA bx3 hq3 ss3 p3
   go_wp2_with fail
   refine (C3 W4 ss4).mono ?_
   rintro e W5 ⟨v5,rfl,hA⟩
   have bx5:=bx4.below hA.bel
   have hq5:=hq4.bel hA.bel
   have ss5:=ss4.below hA.bel (Nat.le_refl _)
   have hS45:=hS4.below hA.bel (Nat.le_refl _)
   obtain ⟨a5,g5,c5,rfl,hS5⟩:=hA.ex
   clear hA bx4 hq4 ss4 hS4 q4
   go_wp2_with fail
   refine (lpList_same a5 g5 0 c5 a4 g4 0 c4 ks W5 (by omega) hk9 hS5 hS45).mono ?_
   rintro e W6 ⟨rfl,b6⟩
   have bx6:=bx5.below b6
   have hq6:=hq5.bel b6
   have ss6:=ss5.below b6 (Nat.le_refl _)
   have hS46:=hS45.below b6 (Nat.le_refl _)
   have q6:=hq6.c
   clear b6 bx5 hq5 ss5 hS45 hS5
   go_wp2_with fail
   refine (C2 W6 ss6).mono ?_
   rintro e W7 ⟨v7,rfl,hA⟩
   have bx7:=bx6.below hA.bel
   have hq7:=hq6.bel hA.bel
   have ss7:=ss6.below hA.bel (Nat.le_refl _)
   have hS47:=hS46.below hA.bel (Nat.le_refl _)
   obtain ⟨a7,g7,c7,rfl,hS7⟩:=hA.ex
   clear hA bx6 hq6 ss6 hS46 q6
   go_wp2_with fail
   refine (lpList_same a7 g7 0 c7 a4 g4 0 c4 ks W7 (by omega) hk9 hS7 hS47).mono ?_
   rintro e W8 ⟨rfl,b8⟩
   have bx8:=bx7.below b8
   have hq8:=hq7.bel b8
   have ss8:=ss7.below b8 (Nat.le_refl _)
   have hS48:=hS47.below b8 (Nat.le_refl _)
   have q8:=hq8.c
   clear b8 bx7 hq7 ss7 hS47 hS7
   go_wp2_with fail
   refine (C1 W8 ss8).mono ?_
   rintro e W9 ⟨v9,rfl,hA⟩
   have bx9:=bx8.below hA.bel
   have hS49:=hS48.below hA.bel (Nat.le_refl _)
   obtain ⟨a9,g9,c9,rfl,hS9⟩:=hA.ex
   clear hA bx8 hq8 ss8 hS48 q8
   go_wp2_with fail
   refine (lpList_same a9 g9 0 c9 a4 g4 0 c4 ks W9 (by omega) hk9 hS9 hS49).mono ?_
   rintro e WA ⟨rfl,bA⟩
   have bxA:=bx9.below bA
   go_wp2_with fail
   go_ret
   exact ⟨rfl,bxA.bel⟩
 ·go_enter Tryz.func3,Tryz.ntmps3
  go_wp2_with fail
  go_ret
  exact ⟨rfl,Below.refl _ _⟩
end Go.Proofs.YtjjkicffhpcngaaGreat
