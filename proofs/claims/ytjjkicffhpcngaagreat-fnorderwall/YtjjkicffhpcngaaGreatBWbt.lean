/- laws.lpWalled: a program with a wall put at one place. Of at most 1048576 threads and steps. The law FnOrderWall, walked: it answers true, and leaves all as it was. Of whatever code. -/
import Derived.Test.YtjjkicffhpcngaaGreatBWbm
import Derived.Test.YtjjkicffhpcngaaGreatBWbs
namespace Go.Proofs.YtjjkicffhpcngaaGreat
open Go.RowKit
structure WaldAns (w w':World) (ll:List (List M.D)) (n:Nat) (ok:Bool) (qa:Option Addr) (qn qc:Nat):Prop where
 yes:ok=true→∃ (qq:List (List M.D)) (gs:List Int) (g':Nat),qn=qq.length∧DoSS w' qa g' 0 qq∧M.wallPut ll gs=some qq
 at1:ok=true→∃ (qq:List (List M.D)) (g':Nat),qn=qq.length∧DoSS w' qa g' 0 qq∧M.wallPut ll [(n:Int).tmod (M.gaps ll)]=some qq∧1≤M.gaps ll
 bel:Below w.heap.size w w'
set_option maxHeartbeats 2000000 in
set_option maxRecDepth 100000 in
theorem lpWalled_any (a:Option Addr) (b o c:Nat) (ll:List (List M.D)) (n:Nat) (w:World) (hl:ll.length≤1048576) (hls:∀ t∈ll,t.length≤1048576) (h:DoSS w a b o ll) :
  Calls Tryz.prog 20 #[.agg #[.slice a ll.length c],.int .i64 n] w fun e w'=>∃ qa qn qc ok,e=.returned (.tuple #[.agg #[.slice qa qn qc],.bool ok])∧WaldAns w w' ll n ok qa qn qc:=by
 have b1:=below2 w (.cells #[.slice a ll.length c] 25) (.cells #[.slice none 0 0] 25)
 have hP:Slot1 ((w.alloc (.cells #[.slice a ll.length c] 25)).alloc (.cells #[.slice none 0 0] 25)) w.heap.size (.slice a ll.length c):=⟨by simp,by simp⟩
 have hR:Slot1 ((w.alloc (.cells #[.slice a ll.length c] 25)).alloc (.cells #[.slice none 0 0] 25)) (w.heap.size+1) (.slice none 0 0):=by
  have:=Slot1.new (w.alloc (.cells #[.slice a ll.length c] 25)) (.slice none 0 0) 25
  rwa [World.size_alloc] at this
 have hp1:=h.below b1 (Nat.le_refl _)
 have C1:=sgaps_any a b o c ll _ hl hls hp1
 have CW:=fun (G:Int) (A:Option Addr) (gb:Nat) (W:World) (h1:DoSS W a b o ll) (h2:IntS W A gb 0 [G])=>swallPut_any a b o c ll hl hls A gb 0 1 [G] (by simp) W h1 h2
 go_enter Tryz.func20,Tryz.ntmps20
 go_wp2_with fail
 generalize (w.alloc (.cells #[.slice a ll.length c] 25)).alloc (.cells #[.slice none 0 0] 25)=W0 at *
 obtain ⟨R,hRe⟩:∃ R,w.heap.size+1=R:=⟨_,rfl⟩
 rw [hRe] at hR ⊢
 obtain ⟨G,hG⟩:∃ G,M.gaps ll=G:=⟨_,rfl⟩
 rw [hG] at C1
 refine C1.mono ?_
 rintro e W1 ⟨rfl,b2⟩
 have hP1:=hP.bel b2
 have hR1:=hR.bel b2
 have hp2:=hp1.below b2 (Nat.le_refl _)
 have p0:=hP1.c
 have r0:=hR1.c
 have rf:=hR1.fz
 have bw:=b1.trans (b2.mono b1.size)
 have hRl:=hR1.lt
 have hPl:=hP1.lt
 have HG:Hid (M.gaps ll=G):=hG
 clear C1 hP hR hp1 hG
 by_cases h1:G < 1
 ·go_wp2_with fail
  have s4:=(hR1.set (.slice a ll.length c)).c
  refine bodyPost_ret (v:=.tuple #[.agg #[.slice a ll.length c],.bool false]) (by simp [results,Tryz.results20,go_sem,s4]) rfl ⟨_,_,_,_,rfl,⟨fun he=>(by cases he),fun he=>(by cases he),bw.setCell (by show w.heap.size≤R;omega) _⟩⟩
 ·obtain ⟨k,hk⟩:∃ k,(n:Int).tmod G=k:=⟨_,rfl⟩
  have HK:Hid ((n:Int).tmod G=k):=hk
  have e2:¬ (G=0):=by omega
  have bI:=below1 W1 (.cells #[.int .i64 k] 3)
  have hI:IntS (W1.alloc (.cells #[.int .i64 k] 3)) (some ⟨W1.heap.size,0,none⟩) W1.heap.size 0 [k]:=⟨fun _=>rfl,fun i hi=>by
   obtain rfl:i=0:=by simp at hi;omega
   simp⟩
  have bD:=(Below.refl (W1.alloc (.cells #[.int .i64 k] 3)).heap.size (W1.alloc (.cells #[.int .i64 k] 3))).drew
  have bI:=bI.trans (bD.mono bI.size)
  have CQ:=CW k (some ⟨W1.heap.size,0,none⟩) W1.heap.size _ (hp2.below bI (Nat.le_refl _)) (hI.below bD (Nat.le_refl _))
  obtain ⟨ow,how⟩:∃ ow,M.wallPut ll [k]=ow:=⟨_,rfl⟩
  have HOW:Hid (M.wallPut ll [k]=ow):=how
  rw [how] at CQ
  clear how CW
  go_wp2_with fail
  have hne:¬ w.heap.size=R:=by omega
  have hne2:¬ R=w.heap.size:=by omega
  go_region_held3 (fun z=>z.cell? ⟨w.heap.size,0,none⟩=some (.slice a ll.length c)) (go_keep) (first
   | (go_at_call 40;refine CQ.mono ?_;rintro e W3 ⟨v3,rfl,vs3,hR3,b3⟩;obtain ⟨qa,qg,qc,rfl,hss⟩:=hR3.b.ss;have b13:=bI.trans (b3.mono bI.size);have hRz:=hR1.bel b13;have r1:=hRz.c;have rf1:=hRz.fz;have p1:=(hP1.bel b13).c))
  have bw3:=bw.trans (b13.mono bw.size)
  have hRd:=hR3.far (b:=R) (i:=0) (by have:=bI.size;simp;omega) (.slice qa (ow.getD []).length qc)
  clear CQ r0 rf p0
  go_wp2_with fail
  have s4:=(hRz.set (.slice qa (ow.getD []).length qc)).c
  refine bodyPost_ret (v:=.tuple #[.agg #[.slice qa (ow.getD []).length qc],.bool ow.isSome]) (by simp [results,Tryz.results20,go_sem,s4]) rfl ⟨_,_,_,_,rfl,⟨fun he=>?_,fun he=>?_,bw3.setCell (by show w.heap.size≤R;omega) _⟩⟩
  ·obtain ⟨qq,rfl⟩:=Option.isSome_iff_exists.1 he
   obtain ⟨a9,g9,c9,e9,hss9⟩:=hRd.b.ss
   have e9':qa=a9:=by simpa using congrArg (fun v=>match v with | Value.slice q _ _=>q | _=>none) e9
   subst e9'
   exact ⟨qq,[k],g9,rfl,hss9,HOW.out⟩
  ·obtain ⟨qq,rfl⟩:=Option.isSome_iff_exists.1 he
   obtain ⟨a9,g9,c9,e9,hss9⟩:=hRd.b.ss
   have e9':qa=a9:=by simpa using congrArg (fun v=>match v with | Value.slice q _ _=>q | _=>none) e9
   subst e9'
   exact ⟨qq,g9,rfl,hss9,by rw [HG.out,HK.out];exact HOW.out,by rw [HG.out];omega⟩
end Go.Proofs.YtjjkicffhpcngaaGreat
namespace Go.Proofs.YtjjkicffhpcngaaGreat
open Go.RowKit
theorem M.wallPut_down {ll qq:List (List M.D)} {gs:List Int} (h:M.wallPut ll gs=some qq) {k:Int}:(qq.length≤1048576∧∀ t∈qq,t.length≤1048576)∧∀ z∈M.orderAll qq k,z∈M.orderAll ll k:=by
 obtain ⟨hp,_,hq,rfl⟩:=M.wallPut_some h
 obtain ⟨pos,back,hI⟩:=M.ins_walls gs ll
 obtain ⟨h1,h2⟩:=M.prog_le hq
 exact ⟨⟨by omega,fun t ht=>by have:=h2 t ht;omega⟩,M.all_down hI hp⟩
set_option maxHeartbeats 4000000 in
set_option maxRecDepth 100000 in
set_option linter.unusedSimpArgs false in
theorem lawWall_any (ca:Option Addr) (cb co L C:Nat) (x:Nat→Int) (ma:Option Addr) (ml C2:Nat) (w:World) (hL:L≤C) (had:0 < L→ca=some ⟨cb,co,none⟩) (hc:∀ i,i < L→w.cell? ⟨cb,co+i,none⟩=some (.int .u8 (x i))∧0≤x i∧x i≤255) :
  Calls Tryz.prog 4 #[.slice ca L C,.slice ma ml C2] w fun e w'=>e=.returned (.bool true)∧Below w.heap.size w w':=by
 by_cases hLb:L≤1048576∧ml≤1048576
 ·obtain ⟨hLa,hLm⟩:=hLb
  go_enter Tryz.func4,Tryz.ntmps4
  go_wp2_with fail
  refine (DrawOrderAll_any ca cb co L C x _ hL had hc hLa).mono ?_
  rintro e w1 ⟨a,g,c,mm,kind,rfl,hsn,hsm,hk0,hk1,hb1⟩
  have hls:=hsm.le
  have hl3:mm.length≤1048576:=by have:=hsm.three;omega
  clear had hc
  have bx0:=BoxP.new (c:=c) hb1 hsn.ss
  go_wp2_with fail
  generalize w1.alloc (.cells #[.slice a mm.length c] 25)=W0 at *
  generalize w1.heap.size=P at *
  clear hb1
  have hkl:=M.orderAll_len mm kind
  have hkk:=M.orderAll_le mm kind
  have CI:=fun (W:World) (h:BoxP w W P a g c mm)=>iorderAllK a g 0 c mm kind W hl3 hls h.ss
  have CS:=fun (W:World) (h:BoxP w W P a g c mm)=>sorderAllK a g 0 c mm kind W hl3 hls h.ss
  have HID:Hid (∀ qq gs,M.wallPut mm gs=some qq→(qq.length≤1048576∧∀ t∈qq,t.length≤1048576)∧∀ z∈M.orderAll qq kind,z∈M.orderAll mm kind):=fun qq gs h=>M.wallPut_down h
  obtain ⟨ks,hks⟩:∃ ks,M.orderAll mm kind=ks:=⟨_,rfl⟩
  rw [hks] at hkl hkk CI CS HID
  clear hks hsn hsm
  refine (CI W0 bx0).mono ?_
  rintro e W1 ⟨v1,rfl,hA⟩
  have bx1:=bx0.below hA.bel
  obtain ⟨av,gv,cv,rfl,hS1⟩:=hA.ex
  have p1:=bx1.p.c
  clear hA bx0
  go_wp2_with fail
  refine (lpWalled_any a g 0 c mm ml W1 hl3 hls bx1.ss).mono ?_
  rintro e W2 ⟨qa,qn,qc,ok,rfl,hQ⟩
  have HQ:=hQ.yes
  have bx2:=(bx1.below hQ.bel).below (below1 W2 (.cells #[.slice qa qn qc] 25))
  have hS2:=(hS1.below hQ.bel (Nat.le_refl _)).below (below1 W2 (.cells #[.slice qa qn qc] 25)) (Nat.le_refl _)
  have hq2:=Slot1.new W2 (.slice qa qn qc) 25
  have hss2:ok=true→∃ (qq:List (List M.D)) (gs:List Int) (g':Nat),qn=qq.length∧DoSS (W2.alloc (.cells #[.slice qa qn qc] 25)) qa g' 0 qq∧M.wallPut mm gs=some qq:=fun h=>by
   obtain ⟨qq,gs,g',e1,e2,e3⟩:=HQ h
   exact ⟨qq,gs,g',e1,e2.below (below1 W2 _) (Nat.le_refl _),e3⟩
  clear hQ HQ bx1 hS1 p1
  have p3:=bx2.p.c
  go_wp2_with fail
  generalize W2.alloc (.cells #[.slice qa qn qc] 25)=W3 at *
  generalize W2.heap.size=Q at *
  refine (CS W3 bx2).mono ?_
  rintro e W4 ⟨v2,rfl,hB⟩
  have bx4:=bx2.below hB.bel
  have hq4:=hq2.bel hB.bel
  have hS4:=hS2.below hB.bel (Nat.le_refl _)
  have hss4:ok=true→∃ (qq:List (List M.D)) (gs:List Int) (g':Nat),qn=qq.length∧DoSS W4 qa g' 0 qq∧M.wallPut mm gs=some qq:=fun h=>by
   obtain ⟨qq,gs,g',e1,e2,e3⟩:=hss2 h
   exact ⟨qq,gs,g',e1,e2.below hB.bel (Nat.le_refl _),e3⟩
  obtain ⟨aw,gw,cw,rfl,hT⟩:=hB.ex
  clear hB bx2 p3 hS2 hss2 hq2
  go_wp2_with fail
  refine (lpList_same av gv 0 cv aw gw 0 cw ks W4 (by omega) hkk hS4 hT).mono ?_
  rintro e W5 ⟨rfl,b5⟩
  have bx5:=bx4.below b5
  have hS5:=hS4.below b5 (Nat.le_refl _)
  have hq5:=hq4.bel b5
  have p5:=bx5.p.c
  cases ok
  ·clear hT b5 bx4 hS4 hq4 hss4
   go_wp2_with fail
   refine (CS W5 bx5).mono ?_
   rintro e W8 ⟨v8,rfl,hB⟩
   have bx8:=bx5.below hB.bel
   have hS8:=hS5.below hB.bel (Nat.le_refl _)
   obtain ⟨aw,gw,cw,rfl,hT⟩:=hB.ex
   clear hB p5
   go_wp2_with fail
   refine (lpList_same av gv 0 cv aw gw 0 cw ks W8 (by omega) hkk hS8 hT).mono ?_
   rintro e W9 ⟨rfl,b9⟩
   have bx9:=bx8.below b9
   go_wp2_with fail
   go_ret
   exact ⟨rfl,bx9.bel⟩
  ·obtain ⟨qq,gs,g',rfl,hss,hput⟩:=hss4 rfl
   have hss5:=hss.below b5 (Nat.le_refl _)
   obtain ⟨⟨hql,hqs⟩,hin⟩:=HID.out qq gs hput
   have CQ:=iorderAllK qa g' 0 qc qq kind W5 hql hqs hss5
   have hl9:=M.orderAll_len qq kind
   have hk9:=M.orderAll_le qq kind
   generalize M.orderAll qq kind=k9 at *
   have q5:=hq5.c
   clear HID hss4 hss hss5 CI CS hT b5 bx4 hS4 hq4 hq5 hput hqs
   go_wp2_with fail
   refine CQ.mono ?_
   rintro e W8 ⟨v8,rfl,hB⟩
   have bx8:=bx5.below hB.bel
   have hS8:=hS5.below hB.bel (Nat.le_refl _)
   obtain ⟨aw,gw,cw,rfl,hT⟩:=hB.ex
   clear hB p5
   go_wp2_with fail
   refine (lpWithin_yes aw gw 0 cw av gv 0 cv k9 ks W8 (by omega) hk9 (by omega) hkk hT hS8 hin).mono ?_
   rintro e W9 ⟨rfl,b9⟩
   have bx9:=bx8.below b9
   go_wp2_with fail
   go_ret
   exact ⟨rfl,bx9.bel⟩
 ·go_enter Tryz.func4,Tryz.ntmps4
  rcases (show 1048576 < L∨(L≤1048576∧1048576 < ml) by omega) with h1 | ⟨h1,h2⟩
  ·go_wp2_with fail
   go_ret
   exact ⟨rfl,Below.refl _ _⟩
  ·go_wp2_with fail
   go_ret
   exact ⟨rfl,Below.refl _ _⟩
end Go.Proofs.YtjjkicffhpcngaaGreat
