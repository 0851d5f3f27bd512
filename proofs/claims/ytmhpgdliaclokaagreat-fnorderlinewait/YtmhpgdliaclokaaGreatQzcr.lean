/- spec's found: what is added of who waits and readers. Of at most 28 events. And what goes with it: LiF, LiG, LiS, LiO. -/
import Derived.Deep.OwnRows
import Derived.Test.YtmhpgdliaclokaaGreatRows
import Derived.Test.YtmhpgdliaclokaaGreatQzbp
import Derived.Test.YtmhpgdliaclokaaGreatQzcp
import Derived.Test.YtmhpgdliaclokaaGreatQzcq
namespace Go.Proofs.YtmhpgdliaclokaaGreat
section
open Go.RowKit
def Fnd (w w':World) (n:Nat) (r:(Nat→Nat→Bool) × Bool) (v:Value):Prop:=∃ (X G c:Nat) (va:Option Addr) (rb rc:Nat→Nat),v=.tuple #[.pointer (some ⟨X,0,none⟩),.bool r.2]∧NtAt w' X G n c va rb rc r.1∧Below w.heap.size w w'
def FoundOk (t:Lp) (cs:List M.Ch):Prop:=∀ (A:Nat→Nat→Bool) (X G c:Nat) (va:Option Addr) (rb rc:Nat→Nat) (w:World) (fr:Nat),Hid ((M.choices (M.deeds t.ll)).drop fr=cs)→fr≤1000→t.At w→NtAt w X G (M.deeds t.ll).length c va rb rc A →
  Calls Tryz.prog 35 #[.pointer (some ⟨t.O,0,none⟩),.pointer (some ⟨X,0,none⟩),.int .i64 fr] w fun e w'=>∃ v,e=.returned v∧Fnd w w' (M.deeds t.ll).length (M.foundA (M.deeds t.ll).length A cs) v
set_option maxHeartbeats 4000000 in
set_option maxRecDepth 100000 in
theorem found_of (t:Lp) (hk:t.Ok) (hp:M.prog t.ll=true) (hn:(M.deeds t.ll).length≤28) (cs:List M.Ch) (ih:∀ ch cs',cs=ch::cs'→FoundOk t cs') (A:Nat→Nat→Bool) (X G c:Nat) (va:Option Addr) (rb rc:Nat→Nat) (w:World) (fr:Nat) (HC:Hid ((M.choices (M.deeds t.ll)).drop fr=cs)) (hfr:fr≤1000) (h:t.At w) (hN:NtAt w X G (M.deeds t.ll).length c va rb rc A) :
  Calls Tryz.prog 35 #[.pointer (some ⟨t.O,0,none⟩),.pointer (some ⟨X,0,none⟩),.int .i64 fr] w fun e w'=>∃ v,e=.returned v∧Fnd w w' (M.deeds t.ll).length (M.foundA (M.deeds t.ll).length A cs) v:=by
 have hcl:(M.choices (M.deeds t.ll)).length≤784:=by
  have h1:=M.chP_len (M.deeds t.ll) (M.deeds t.ll).length
  rw [M.chP_all] at h1
  have h2:=Nat.mul_le_mul hn hn
  omega
 cases hH:M.holdsA A (M.deeds t.ll).length
 ·have C:=netHolds_any X G _ c va rb rc A w hn hN
  rw [hH] at C
  go_enter Tryz.func35,Tryz.ntmps35
  go_wp2_with fail
  refine C.mono ?_
  rintro e W1 ⟨rfl,b1⟩
  go_wp2_with fail
  go_ret2
  have HE:M.foundA (M.deeds t.ll).length A cs=(A,false):=by cases cs<;>simp [M.foundA,hH]
  exact ⟨_,rfl,X,G,c,va,rb,rc,by rw [HE];rfl,by rw [HE];exact hN.below b1,b1⟩
 ·have C:=netHolds_any X G _ c va rb rc A w hn hN
  rw [hH] at C
  have HF0:Hid (cs=[]→M.foundA (M.deeds t.ll).length A cs=(A,true)):=fun e=>by rw [e,M.foundA,hH]
  have HF1:Hid (∀ ch cs',cs=ch::cs'→M.foundA (M.deeds t.ll).length A cs=(if (M.foundA (M.deeds t.ll).length (M.setA A ch.1) cs').2 then M.foundA (M.deeds t.ll).length (M.setA A ch.1) cs' else M.foundA (M.deeds t.ll).length (M.setA A ch.2) cs')):=fun ch cs' e=>by rw [e,M.foundA,if_pos hH]
  clear hH
  go_enter Tryz.func35,Tryz.ntmps35
  go_wp2_with fail
  refine C.mono ?_
  rintro e W1 ⟨rfl,b1⟩
  go_wp2_with fail
  go_loopw [8,9] (fun s7 s8 wr=>∃ m:Nat,s8=.int .i64 m∧s7=.int .i64 ((M.chP (M.deeds t.ll) m).length:Nat)∧m≤(M.deeds t.ll).length∧(M.chP (M.deeds t.ll) m).length≤fr∧Below w.heap.size w wr) (fun _ s8 _=>(M.deeds t.ll).length - (intOf s8).toNat)
  case atStart=>exact ⟨0,rfl,rfl,Nat.zero_le _,Nat.zero_le _,b1⟩
  case round =>
   obtain ⟨m,rfl,rfl,hm,hcm,hbel⟩:=hrel
   have hA:=h.below hbel
   have l0:=hA.l0
   by_cases hmn:m < (M.deeds t.ll).length
   ·have hmn':(m:Int) < (M.deeds t.ll).length:=by omega
    have hx:=List.getElem?_eq_getElem hmn
    have HP:Hid (M.chP (M.deeds t.ll) (m+1)=M.chP (M.deeds t.ll) m++(if M.waitsAt (M.deeds t.ll) m then M.choicesAt (M.deeds t.ll) m else [])):=M.chP_succ _ _
    have HW:Hid (M.waitsAt (M.deeds t.ll) m=((M.deeds t.ll)[m].d.k==9&&!(M.deeds t.ll)[m].last)):=M.waitsAt_of hx
    have C2:=fun W (hW:t.At W)=>do_any t m _ W hk hW hx
    have hel:=fun W (hW:t.At W)=>hW.el hx
    obtain ⟨x,hxx⟩:∃ x,(M.deeds t.ll)[m]=x:=⟨_,rfl⟩
    rw [hxx] at C2 HW
    have hel2:∀ W,t.At W→DvAt W t.g (m * 3) x:=fun W hW=>by have:=hel W hW;rwa [hxx] at this
    clear hel hxx hx
    obtain ⟨L,hL⟩:∃ L,M.chP (M.deeds t.ll) m=L:=⟨_,rfl⟩
    have HLe:Hid (M.chP (M.deeds t.ll) m=L):=hL
    rw [hL] at HP hcm ⊢
    clear hL
    have hF:=fun W=>Tryz.fld0 (.int .i64 x.d.k) (.int .i64 x.d.p) (.int .i64 x.d.v) W
    go_wp2_with fail
    refine (C2 wr hA).mono ?_
    rintro e W2 ⟨rfl,b2⟩
    have hA2:=hA.below b2
    have bw2:=hbel.trans (b2.mono hbel.size)
    obtain ⟨d0,d1,d2⟩:=hel2 W2 hA2
    clear l0
    have l0:=hA2.l0
    by_cases hk9:x.d.k=9
    ·have hk9':(x.d.k != 9)=false:=by simp [hk9]
     cases hla:x.last
     ·rw [hla] at d2
      have HWt:Hid (M.waitsAt (M.deeds t.ll) m=true):=by show _=_;rw [HW.out,hk9,hla];rfl
      clear hk9 HW
      go_wp2_with fail
      go_loopw [8,10] (fun s7 s9 wi=>∃ q:Nat,s9=.int .i64 q∧s7=.int .i64 ((L++M.chQ (M.deeds t.ll) m q).length:Nat)∧q≤(M.deeds t.ll).length∧(L++M.chQ (M.deeds t.ll) m q).length≤fr∧Below w.heap.size w wi) (fun _ s9 _=>(M.deeds t.ll).length - (intOf s9).toNat)
      case atStart=>exact ⟨0,rfl,by simp [M.chQ],Nat.zero_le _,by simpa [M.chQ] using hcm,bw2⟩
      case round =>
       obtain ⟨q,rfl,rfl,hq,hcq,hbi⟩:=hrel
       have hAi:=h.below hbi
       clear l0
       have l0:=hAi.l0
       by_cases hqn:q < (M.deeds t.ll).length
       ·have hqn':(q:Int) < (M.deeds t.ll).length:=by omega
        have hy:=List.getElem?_eq_getElem hqn
        have HQ:Hid (M.chQ (M.deeds t.ll) m (q+1)=M.chQ (M.deeds t.ll) m q++(if M.kAt (M.deeds t.ll) q==7 then [((M.outOf (M.deeds t.ll) q,m+1),(m,q))] else [])):=M.chQ_succ _ _ _
        have HKq:Hid (M.kAt (M.deeds t.ll) q=(M.deeds t.ll)[q].d.k):=M.kAt_of hy
        have C3:=fun W (hW:t.At W)=>do_any t q _ W hk hW hy
        have CO:=fun W (hW:t.At W) h7=>outs_any t q W hk hp hW hqn h7
        obtain ⟨y,hyy⟩:∃ y,(M.deeds t.ll)[q]=y:=⟨_,rfl⟩
        rw [hyy] at C3 HKq CO
        clear hyy hy
        obtain ⟨LL,hLL⟩:∃ LL,L++M.chQ (M.deeds t.ll) m q=LL:=⟨_,rfl⟩
        have HLL:Hid (L++M.chQ (M.deeds t.ll) m q=LL):=hLL
        rw [hLL] at hcq ⊢
        clear hLL
        have hF3:=fun W=>Tryz.fld0 (.int .i64 y.d.k) (.int .i64 y.d.p) (.int .i64 y.d.v) W
        go_wp2_with fail
        refine (C3 wr hAi).mono ?_
        rintro e W3 ⟨rfl,b3⟩
        have hA3:=hAi.below b3
        have bw3:=hbi.trans (b3.mono hbi.size)
        clear l0
        by_cases hk7:y.d.k=7
        ·have hk7':(y.d.k != 7)=false:=by simp [hk7]
         have HK7:Hid ((M.kAt (M.deeds t.ll) q==7)=true):=by show _=_;rw [HKq.out,hk7];rfl
         have CO3:=CO W3 hA3 hk7
         have HQ2:Hid (L++M.chQ (M.deeds t.ll) m (q+1)=LL++[((M.outOf (M.deeds t.ll) q,m+1),(m,q))]):=by show _=_;rw [HQ.out,HK7.out,if_pos rfl,← List.append_assoc,HLL.out]
         clear hk7 HKq HQ CO C3
         by_cases hfe:LL.length=fr
         ·have hfc:fr < (M.choices (M.deeds t.ll)).length:=by
           obtain ⟨tail,htl⟩:=M.choice_next hmn hqn HWt.out HK7.out
           rw [HLe.out,HLL.out,hfe] at htl
           have:=congrArg List.length htl
           simp at this
           omega
          obtain ⟨tail,htl⟩:=M.choice_next hmn hqn HWt.out HK7.out
          rw [HLe.out,HLL.out,hfe,HC.out] at htl
          have hmem:((M.outOf (M.deeds t.ll) q,m+1),(m,q))∈M.choices (M.deeds t.ll):=by
           have:((M.outOf (M.deeds t.ll) q,m+1),(m,q))∈(M.choices (M.deeds t.ll)).drop fr:=by rw [HC.out,htl];simp
           exact List.mem_of_mem_drop this
          obtain ⟨⟨e1,e2⟩,e3,e4⟩:=(M.choices_ok (M.run_of hp) _ hmem).1
          simp only at e1 e2 e3 e4
          have HFr:=HF1.out _ _ htl
          have HFR:Hid (M.foundA (M.deeds t.ll).length A cs=(if (M.foundA (M.deeds t.ll).length (M.setA A (M.outOf (M.deeds t.ll) q,m+1)) tail).2 then M.foundA (M.deeds t.ll).length (M.setA A (M.outOf (M.deeds t.ll) q,m+1)) tail else M.foundA (M.deeds t.ll).length (M.setA A (m,q)) tail)):=HFr
          have IH:=ih _ _ htl
          have HC2:Hid ((M.choices (M.deeds t.ll)).drop (fr+1)=tail):=by
           show _=_
           have:=congrArg (List.drop 1) (HC.out.trans htl)
           rw [List.drop_drop] at this
           simpa using this
          have CW1:=fun W hW=>withNet_any X G _ c va rb rc A (M.outOf (M.deeds t.ll) q) (m+1) W hn e1 e2 hW
          have CW2:=fun W hW=>withNet_any X G _ c va rb rc A m q W hn e3 e4 hW
          have EM:Hid (((m+1:Nat):Int)=(m:Int)+1):=by show _=_;omega
          have EF:Hid (((fr+1:Nat):Int)=(fr:Int)+1):=by show _=_;omega
          clear HFr hmem htl HQ2 HLe HLL HC
          generalize M.outOf (M.deeds t.ll) q=O at *
          generalize M.setA A (O,m+1)=A1 at *
          generalize M.setA A (m,q)=A2 at *
          have hfe':(fr:Int) < (LL.length:Int)+1:=by omega
          have hfr1:fr+1≤1000:=by omega
          clear hfe
          go_wp2_with fail
          refine CO3.mono ?_
          rintro e W4 ⟨rfl,b4⟩
          have bw4:=bw3.trans (b4.mono bw3.size)
          go_wp2_with fail
          have C4:=CW1 W4 (hN.below bw4)
          rw [EM.out] at C4
          refine C4.mono ?_
          rintro e W5 ⟨X5,rfl,⟨G5,c5,va5,rb5,rc5,hO5⟩,b5⟩
          have bw5:=bw4.trans (b5.mono bw4.size)
          go_wp2_with fail
          have C5:=IH A1 X5 G5 c5 va5 rb5 rc5 W5 (fr+1) HC2 hfr1 (h.below bw5) hO5.nt
          rw [EF.out] at C5
          refine C5.mono ?_
          rintro e W6 ⟨v6,rfl,X6,G6,c6,va6,rb6,rc6,rfl,hN6,b6⟩
          have bw6:=bw5.trans (b6.mono bw5.size)
          generalize M.foundA (M.deeds t.ll).length A1 tail=R1 at *
          obtain ⟨A6,r6⟩:=R1
          simp only at hN6 HFR ⊢
          cases r6
          ·have HFR2:Hid (M.foundA (M.deeds t.ll).length A cs=M.foundA (M.deeds t.ll).length A2 tail):=by show _=_;rw [HFR.out];rfl
           go_wp2_with fail
           refine (CW2 W6 (hN.below bw6)).mono ?_
           rintro e W7 ⟨X7,rfl,⟨G7,c7,va7,rb7,rc7,hO7⟩,b7⟩
           have bw7:=bw6.trans (b7.mono bw6.size)
           go_wp2_with fail
           have C7:=IH A2 X7 G7 c7 va7 rb7 rc7 W7 (fr+1) HC2 hfr1 (h.below bw7) hO7.nt
           rw [EF.out] at C7
           refine C7.mono ?_
           rintro e W8 ⟨v8,rfl,X8,G8,c8,va8,rb8,rc8,rfl,hN8,b8⟩
           go_wp2_with fail
           go_ret2
           exact ⟨_,rfl,X8,G8,c8,va8,rb8,rc8,by rw [HFR2.out];rfl,by rw [HFR2.out];exact hN8,bw7.trans (b8.mono bw7.size)⟩
          ·have HFR2:Hid (M.foundA (M.deeds t.ll).length A cs=(A6,true)):=by show _=_;rw [HFR.out];rfl
           go_wp2_with fail
           go_ret2
           exact ⟨_,rfl,X6,G6,c6,va6,rb6,rc6,by rw [HFR2.out];rfl,by rw [HFR2.out];exact hN6,bw6⟩
         ·have hlt2:LL.length+1≤fr:=by omega
          have hfe':¬ (fr:Int) < (LL.length:Int)+1:=by omega
          go_wp2_with fail
          exact ⟨⟨q+1,by go_num,by rw [HQ2.out];simp,by omega,by rw [HQ2.out];simpa using hlt2,bw3⟩,by simp [intOf];omega⟩
        ·have hk7':(y.d.k != 7)=true:=by simpa using hk7
         have hk72:(y.d.k==7)=false:=by simpa using hk7
         have HQ2:Hid (L++M.chQ (M.deeds t.ll) m (q+1)=LL):=by show _=_;rw [HQ.out,HKq.out,hk72,if_neg (by simp),List.append_nil,HLL.out]
         clear hk7 hk72 HKq HQ CO C3
         go_wp2_with fail
         exact ⟨⟨q+1,by go_num,by rw [HQ2.out],by omega,by rw [HQ2.out];exact hcq,bw3⟩,by simp [intOf];omega⟩
       ·have hqe:q=(M.deeds t.ll).length:=by omega
        have hqn':¬ (q:Int) < (M.deeds t.ll).length:=by omega
        have HP2:Hid (M.chP (M.deeds t.ll) (m+1)=L++M.chQ (M.deeds t.ll) m q):=by show _=_;rw [HP.out,HWt.out,if_pos rfl,hqe,M.chQ_all]
        clear hqe
        go_wp2_with fail
        exact ⟨⟨m+1,by go_num,by rw [HP2.out],by omega,by rw [HP2.out];exact hcq,hbi⟩,by simp [intOf];omega⟩
     ·rw [hla] at d2
      have HP2:Hid (M.chP (M.deeds t.ll) (m+1)=L):=by show _=_;rw [HP.out,HW.out,hla];simp
      clear hk9 HP HW
      go_wp2_with fail
      exact ⟨⟨m+1,by go_num,by rw [HP2.out],by omega,by rw [HP2.out];exact hcm,bw2⟩,by simp [intOf];omega⟩
    ·have hk9':(x.d.k != 9)=true:=by simpa using hk9
     have hk92:(x.d.k==9)=false:=by simpa using hk9
     have HP2:Hid (M.chP (M.deeds t.ll) (m+1)=L):=by show _=_;rw [HP.out,HW.out,hk92];simp
     clear hk9 hk92 HP HW
     go_wp2_with fail
     exact ⟨⟨m+1,by go_num,by rw [HP2.out],by omega,by rw [HP2.out];exact hcm,bw2⟩,by simp [intOf];omega⟩
   ·have hme:m=(M.deeds t.ll).length:=by omega
    have hmn':¬ (m:Int) < (M.deeds t.ll).length:=by omega
    have hcs:cs=[]:=by
     rw [hme,M.chP_all] at hcm
     rw [← HC.out,List.drop_eq_nil_of_le hcm]
    have hF:=HF0.out hcs
    have HF:Hid (M.foundA (M.deeds t.ll).length A cs=(A,true)):=hF
    clear hme hcs hF
    go_wp2_with fail
    go_ret2
    exact ⟨_,rfl,X,G,c,va,rb,rc,by rw [HF.out];rfl,by rw [HF.out];exact hN.below hbel,hbel⟩
theorem found_any (t:Lp) (hk:t.Ok) (hp:M.prog t.ll=true) (hn:(M.deeds t.ll).length≤28):∀ cs:List M.Ch,FoundOk t cs:=by
 intro cs
 induction cs with
 | nil=>exact fun A X G c va rb rc w fr HC hfr h hN=>found_of t hk hp hn [] (fun _ _ e=>by cases e) A X G c va rb rc w fr HC hfr h hN
 | cons ch cs ih=>exact fun A X G c va rb rc w fr HC hfr h hN=>found_of t hk hp hn (ch::cs) (fun _ _ e=>by cases e;exact ih) A X G c va rb rc w fr HC hfr h hN
end
section
open Go.RowKit
set_option maxHeartbeats 2000000 in
set_option maxRecDepth 100000 in
theorem foundE_any (O cc:Nat) (va:Option Addr) (A:Nat→Nat→Bool) (X G c:Nat) (va':Option Addr) (rb rc:Nat→Nat) (w:World) (h:w.cell? ⟨O,1,none⟩=some (.slice va 0 cc)) (hA:NtAt w X G 0 c va' rb rc A) :
  Calls Tryz.prog 35 #[.pointer (some ⟨O,0,none⟩),.pointer (some ⟨X,0,none⟩),.int .i64 0] w fun e w'=>∃ v,e=.returned v∧Fnd w w' 0 (M.foundA 0 A []) v:=by
 have C:=netHolds_any X G 0 c va' rb rc A w (by omega) hA
 rw [show M.holdsA A 0=true from rfl] at C
 go_enter Tryz.func35,Tryz.ntmps35
 go_wp2_with fail
 refine C.mono ?_
 rintro e W1 ⟨rfl,b1⟩
 go_wp2_with fail
 go_loopw [8,9] (fun s7 s8 wr=>s7=.int .i64 0∧s8=.int .i64 0∧Below w.heap.size w wr) (fun _ _ _=>0)
 case atStart=>exact ⟨rfl,rfl,b1⟩
 case round =>
  obtain ⟨rfl,rfl,hbel⟩:=hrel
  clear b1
  have l0:=cellC hbel h
  go_wp2_with fail
  go_ret2
  exact ⟨_,rfl,X,G,c,va',rb,rc,rfl,hA.below hbel,hbel⟩
structure HoldR (kn:Nat) (ds:List M.De) (l:List Int) (rows:List (List Int)) (O:Nat) (St:World→Prop):Prop where
 bel:∀ w w',St w→Below w.heap.size w w'→St w'
 whole:∀ k:Nat,k=0∨k=kn→∀ X G c va rb rc w,St w→NtAt w X G ds.length c va rb rc (M.staysAt ds k)→Calls Tryz.prog 36 #[.pointer (some ⟨O,0,none⟩),.pointer (some ⟨X,0,none⟩),.int .i64 k] w fun e w'=>∃ X',e=.returned (.pointer (some ⟨X',0,none⟩))∧(∃ G c va rb rc,NtAt w' X' G ds.length c va rb rc (M.netOf ds l rows k))∧Below w.heap.size w w'
 found:∀ X G c va rb rc A w,St w→NtAt w X G ds.length c va rb rc A→Calls Tryz.prog 35 #[.pointer (some ⟨O,0,none⟩),.pointer (some ⟨X,0,none⟩),.int .i64 0] w fun e w'=>∃ v,e=.returned v∧Fnd w w' ds.length (M.foundA ds.length A (M.choices ds)) v
theorem holdsF_parts (kn:Nat) (hk13:1≤kn∧kn≤3) (a:Option Addr) (b o c:Nat) (ll:List (List M.D)) (fa:Option Addr) (fb fo fc:Nat) (l:List Int) (ra:Option Addr) (rb ro rc:Nat) (rows:List (List Int)) (w2 w3:World) (O:Nat) (va:Option Addr) (g cc:Nat) (v1 v2:Value) (hl:ll.length≤1048576) (hls:∀ t∈ll,t.length≤1048576) (hrs:∀ r∈rows,r.length≤1048576) (hW:M.Wok ll l rows) (hdl:(M.deeds ll).length≤28) (hp2:DoSS w2 a b o ll) (hf2:IntS w2 fa fb fo l) (hr2:IntSS w2 ra rb ro rows) (hLk:LookedG w2 w3 O a c ll va g cc v1 v2) :
  ∃ St:World→Prop,Calls Tryz.prog 34 #[.pointer (some ⟨O,0,none⟩),.agg #[.slice fa l.length fc,.slice ra rows.length rc]] w3 (fun e w'=>e=.returned (.tuple #[])∧St w'∧LookedG w2 w' O a c ll va g cc v1 v2∧But O w3 w')∧HoldR kn (M.deeds ll) l rows O St:=by
 have hOl:=hLk.lt
 obtain ⟨f4,f5,hblk⟩:=hLk.blk
 rcases Nat.eq_zero_or_pos (M.deeds ll).length with h0 | hpos
 ·have hnil:M.deeds ll=[]:=List.eq_nil_of_length_eq_zero h0
  refine ⟨fun w=>w.cell? ⟨O,1,none⟩=some (.slice va 0 cc),?_,fun w w' h hb=>cellC hb h,?_,?_⟩
  ·have C:=wayEG_any O cc va _ v1 v2 fa ra l.length fc rows.length rc _ h0 w3 hOl hblk
   refine C.mono fun e w' ⟨he,hb,hbut⟩=>⟨he,?_,hLk.but hbut hb,hbut⟩
   show w'.cell? ⟨O,1,none⟩=some (.slice va 0 cc)
   rw [← h0];simp [World.cell?,hb]
  ·intro k _ X G c va' rb rc w hSt hN
   rw [hnil] at hN ⊢
   exact wholeE_any O cc va k _ _ X G c va' rb rc w hSt hN
  ·intro X G c va' rb rc A w hSt hN
   rw [hnil] at hN ⊢
   exact foundE_any O cc va A X G c va' rb rc w hSt hN
 ·obtain ⟨rfl⟩:=hLk.dv.addr hpos
  obtain ⟨rfl⟩:=hf2.addr (by have:=hW.len.out;omega)
  obtain ⟨rfl⟩:=hr2.addr (by have:=hW.three.out;omega)
  obtain ⟨ub,uc,rfl,_,_⟩:=hLk.own1.form hpos
  obtain ⟨wb,wc,rfl,_,_⟩:=hLk.own2.form hpos
  have rd:∀ n x,(M.deeds ll)[n]?=some x→w3.cell? ⟨ub,n,none⟩=some (.bool (M.reads x.d.k)):=fun n x hx=>by
   have hn:n < (M.deeds ll).length:=by
    rcases Nat.lt_or_ge n (M.deeds ll).length with h | h
    ·exact h
    ·rw [List.getElem?_eq_none h] at hx;cases hx
   have o1:=hLk.own1
   have:=own_bools (l:=(M.deeds ll).map fun x=>M.reads x.d.k) (by rw [List.length_map];exact o1) n (by simpa using hn)
   rw [List.getElem?_eq_getElem hn] at hx
   rw [this,List.getElem_map,Option.some.inj hx]
  have wrt:∀ n x,(M.deeds ll)[n]?=some x→w3.cell? ⟨wb,n,none⟩=some (.bool (M.writes x.d.k)):=fun n x hx=>by
   have hn:n < (M.deeds ll).length:=by
    rcases Nat.lt_or_ge n (M.deeds ll).length with h | h
    ·exact h
    ·rw [List.getElem?_eq_none h] at hx;cases hx
   have o1:=hLk.own2
   have:=own_bools (l:=(M.deeds ll).map fun x=>M.writes x.d.k) (by rw [List.length_map];exact o1) n (by simpa using hn)
   rw [List.getElem?_eq_getElem hn] at hx
   rw [this,List.getElem_map,Option.some.inj hx]
  have hkO:(⟨O,a,b,o,c,ll,g,cc⟩:Lp).Ok:=⟨hl,hls,by show (M.deeds ll).length≤42;omega⟩
  have CW:=wayG_any ⟨O,a,b,o,c,ll,g,cc⟩ ⟨ub,uc,wb,wc,fb,fo,fc,l,w3.heap.size+1,(M.deeds ll).length,rows⟩ _ w3 rc hkO hW.pl hpos hW.len hW.three hrs rb ro hLk.bel hLk.ge hOl hp2 hf2 hr2 hblk hLk.dv rd wrt rfl rfl
  refine ⟨_,CW.mono fun e w' ⟨he,hA,hbut,f4',f5',hb⟩=>⟨he,hA,hLk.but hbut hb,hbut⟩,fun w w' h hb=>h.below hb,?_,?_⟩
  ·intro k hk X G c' va' rb' rc' w hSt hN
   have C:=whole_of ⟨O,a,b,o,c,ll,g,cc⟩ _ k X G c' va' rb' rc' _ w hdl hSt hN (by
    intro p q x y w h hx hy
    rcases hk with rfl | rfl
    ·exact told0_any _ _ p q x y w hkO h hx hy
    ·rcases (show k=1∨k=2∨k=3 by omega) with rfl | rfl | rfl
     ·exact told1_any _ _ p q x y w hkO h hx hy
     ·exact told2_any _ _ p q x y w hkO h hx hy
     ·exact told3_any _ _ p q x y w hkO h hx hy)
   refine C.mono (fun e w' ⟨X',he,⟨G',c',va',rb',rc',hO⟩,hb⟩=>⟨X',he,⟨G',c',va',rb',rc',hO.nt.congr (fun p q hp hq=>?_)⟩,hb⟩)
   have hx:=List.getElem?_eq_getElem hp
   have hy:=List.getElem?_eq_getElem hq
   show (M.staysAt (M.deeds ll) k p q||M.toldAt (M.deeds ll) l rows k p q)=M.mustAt (M.deeds ll) l rows k p q
   rw [M.staysAt_of hx hy,M.toldAt_of hx hy,M.mustAt,hx,hy,M.must_eq hW.fro hW.run k hp hq]
  ·intro X G c' va' rb' rc' A w hSt hN
   exact found_any ⟨O,a,b,o,c,ll,g,cc⟩ hkO hW.prog hdl _ A X G c' va' rb' rc' w 0 (show Hid (_=_) from rfl) (by omega) hSt.p hN
end
section
open Go.RowKit
def slLen:Value→Nat
 | .slice _ n _=>n
 | _=>0
def M.freeK (A:Nat→Nat→Bool) (out:List Nat) (b k:Nat):Bool:=!out.contains b&&(List.range k).all fun a=>out.contains a||!A a b
theorem M.freeK_succ (A:Nat→Nat→Bool) (out:List Nat) (b k:Nat):M.freeK A out b (k+1)=(M.freeK A out b k&&(out.contains k||!A k b)):=by
 unfold M.freeK
 rw [List.range_succ,List.all_append,Bool.and_assoc]
 simp
theorem M.freeK_all (A:Nat→Nat→Bool) (out:List Nat) (b n:Nat):M.freeK A out b n=M.free A n (fun x=>out.contains x) b:=rfl
theorem M.freeK_no {A : Nat → Nat → Bool} {out : List Nat} {b k n : Nat} (hk : k ≤ n) (h : M.freeK A out b k = false) : M.freeK A out b n = false := by
  induction n with
  | zero => obtain rfl : k = 0 := by omega
            exact h
  | succ n ih =>
    by_cases e : k = n + 1
    · rw [← e]; exact h
    · rw [M.freeK_succ, ih (by omega)]; rfl
set_option maxHeartbeats 4000000 in
set_option maxRecDepth 100000 in
theorem lineS_any (X G c n:Nat) (va:Option Addr) (rb rc:Nat→Nat) (A:Nat→Nat→Bool) (w:World) (hn:n≤28) (hN:NtAt w X G n c va rb rc A) :
  Calls Tryz.prog 38 #[.pointer (some ⟨X,0,none⟩)] w fun e w'=>∃ q g k,e=.returned (.tuple #[.slice q ((M.lineA A n n []).getD []).length k,.bool (M.lineA A n n []).isSome])∧IntS w' q g 0 (M.ints ((M.lineA A n n []).getD []))∧Below w.heap.size w w':=by
 obtain ⟨i0,hi,hz0,hz1,hz2⟩:=info_parts Tryz.infoInt
 obtain ⟨res,hres⟩:∃ res,M.lineA A n n []=res:=⟨_,rfl⟩
 rw [hres]
 have HR:Hid (M.lineA A n n []=res):=hres
 clear hres
 have n0:=hN.box
 have hE:(w.alloc (.cells #[] 3)).ownsRow w.heap.size 3 1 (.slice (some ⟨w.heap.size,0,none⟩) 0 0) 0 []:=own_emp (heap_alloc_new w _) (Nat.le_refl _)
 have bE:=below1 w (.cells #[] 3)
 go_enter Tryz.func38,Tryz.ntmps38
 go_wp2_with fail
 go_loopw [4] (fun s4 wr=>∃ (out:List Nat) (v:Value),v=s4∧OwnI wr w.heap.size v out∧out.length≤n∧Hid (M.lineA A n (n - out.length) out=res)∧Below w.heap.size w wr) (fun s4 _=>n - slLen s4)
 case atStart=>exact ⟨[],_,rfl,hE,Nat.zero_le _,HR,bE⟩
 case round =>
  clear hE bE
  obtain ⟨out,v4,hv4,hO,hol,HL,hb⟩:=hrel
  subst hv4
  obtain ⟨a5,g5,c5,rfl,hI,hca,hge⟩:=own_intsR (l:=M.ints out) (by rw [M.ints_len];exact hO)
  rw [M.ints_len] at *
  have m0:=cellJ hb n0
  by_cases hlt:out.length < n
  ·have i1:(out.length:Int) < n:=by omega
   obtain ⟨k,hk⟩:∃ k,n - out.length=k+1:=⟨n - out.length - 1,by omega⟩
   have hk':n - (out.length+1)=k:=by omega
   rw [hk] at HL
   go_wp2_with fail
   go_loopw [5,6] (fun s5 s6 wi=>∃ i:Nat,s6=.int .i64 i∧i≤n∧((s5=.int .i64 (-1)∧Hid (∀ j,j < i→M.free A n (fun x=>out.contains x) j=false))∨(∃ b:Nat,s5=.int .i64 b∧b < n∧Hid ((List.range n).find? (M.free A n fun x=>out.contains x)=some b)))∧Below wr.heap.size wr wi) (fun _ s6 _=>n+1 - (intOf s6).toNat)
   case atStart=>exact ⟨0,rfl,Nat.zero_le _,.inl ⟨rfl,fun j hj=>absurd hj (Nat.not_lt_zero _)⟩,Below.refl _ _⟩
   case round =>
    obtain ⟨i,rfl,hin,hor,hbi⟩:=hrel
    have m1:=cellJ hbi m0
    have hbw:=hb.trans (hbi.mono hb.size)
    rcases hor with ⟨rfl,HN⟩ | ⟨b,rfl,hbn,HB⟩
    ·by_cases hit:i < n
     ·have j1:(i:Int) < n:=by omega
      have hIi:=hI.below hbi (Nat.le_refl _)
      have CH:=l12Has_any a5 g5 0 c5 (M.ints out) i wr (by rw [M.ints_len];omega) hIi
      rw [M.has_ints,M.ints_len] at CH
      have HK0:Hid (M.freeK A out i 0=!out.contains i):=by show _=_;simp [M.freeK]
      generalize out.contains i=ci at CH HK0
      go_wp2_with fail
      refine CH.mono ?_
      rintro e w2 ⟨rfl,rfl⟩
      clear CH
      go_wp2_with fail
      go_loopw [7,8] (fun s7 s8 wj=>∃ k':Nat,s8=.int .i64 k'∧k'≤n∧s7=.bool (M.freeK A out i k')∧Below w2.heap.size w2 wj) (fun _ s8 _=>n - (intOf s8).toNat)
      case atStart=>exact ⟨0,rfl,Nat.zero_le _,by rw [HK0.out],Below.refl _ _⟩
      case round =>
       clear HK0
       obtain ⟨k',rfl,hkn,rfl,hbj⟩:=hrel
       have hbij:=hbi.trans (hbj.mono hbi.size)
       have m2:=cellJ hbj m1
       have HFA:Hid (∀ f,M.freeK A out i k'=f→f=false→M.free A n (fun x=>out.contains x) i=false):=fun f h1 h2=>by rw [← M.freeK_all];exact M.freeK_no hkn (h1.trans h2)
       have HS:=M.freeK_succ A out i k'
       have HE:Hid (∀ f,M.freeK A out i k'=f→k'=n→M.free A n (fun x=>out.contains x) i=f):=fun f h1 h2=>by rw [← M.freeK_all,← h2];exact h1
       obtain ⟨f,hf⟩:∃ f,M.freeK A out i k'=f:=⟨_,rfl⟩
       rw [hf] at HS ⊢
       cases f
       ·have HF0:Hid (M.free A n (fun x=>out.contains x) i=false):=HFA.out _ hf rfl
        have HN2:Hid (∀ j,j < i+1→M.free A n (fun x=>out.contains x) j=false):=M.find_step (p:=M.free A n fun x=>out.contains x) HN.out HF0.out
        clear HFA HE HS hf HN HF0
        by_cases hkl:k' < n
        ·have k1:(k':Int) < n:=by omega
         go_wp2_with fail
         exact ⟨⟨i+1,by go_num,by omega,.inl ⟨rfl,HN2⟩,hbij⟩,by simp [intOf];omega⟩
        ·have k1:¬ (k':Int) < n:=by omega
         go_wp2_with fail
         exact ⟨⟨i+1,by go_num,by omega,.inl ⟨rfl,HN2⟩,hbij⟩,by simp [intOf];omega⟩
       ·by_cases hkl:k' < n
        ·have k1:(k':Int) < n:=by omega
         have CH:=l12Has_any a5 g5 0 c5 (M.ints out) k' wr (by rw [M.ints_len];omega) (hIi.below hbj (Nat.le_refl _))
         rw [M.has_ints,M.ints_len] at CH
         have h4:=(hN.below hbw).below hbj
         have n1:=h4.outer k' hkl
         have n2:=h4.row k' hkl i hit
         obtain ⟨rfl⟩:=hN.addr (by omega)
         have HS2:Hid (M.freeK A out i (k'+1)=(out.contains k'||!A k' i)):=by show _=_;rw [HS];rfl
         clear HFA HE HS hf
         generalize out.contains k'=ck at *
         generalize A k' i=q at *
         cases ck
         ·go_wp2_with fail
          refine CH.mono ?_
          rintro e w3 ⟨rfl,rfl⟩
          go_wp2_with fail
          exact ⟨⟨k'+1,by go_num,by omega,by rw [HS2.out];rfl,hbj⟩,by simp [intOf];omega⟩
         ·go_wp2_with fail
          refine CH.mono ?_
          rintro e w3 ⟨rfl,rfl⟩
          go_wp2_with fail
          exact ⟨⟨k'+1,by go_num,by omega,by rw [HS2.out];rfl,hbj⟩,by simp [intOf];omega⟩
        ·have k1:¬ (k':Int) < n:=by omega
         have hke:k'=n:=by omega
         have HB:Hid ((List.range n).find? (M.free A n fun x=>out.contains x)=some i):=M.find_hit (p:=M.free A n fun x=>out.contains x) HN.out hit (HE.out _ hf hke)
         clear HFA HE HS hf hke
         go_wp2_with fail
         exact ⟨⟨i+1,by go_num,by omega,.inr ⟨i,rfl,hit,HB⟩,hbij⟩,by simp [intOf];omega⟩
     ·have hie:i=n:=by omega
      have HF:Hid (none=res):=by
       show _=_
       rw [← HL.out,M.lineA,M.find_miss (p:=M.free A n fun x=>out.contains x) (fun j hj=>HN.out j (by omega))]
      have j1:¬ (i:Int) < n:=by omega
      clear hie HN HL
      go_wp2_with fail
      go_ret2
      exact ⟨_,⟨0,by rw [← HF.out];rfl⟩,⟨0,by rw [← HF.out];exact IntS.nil _ _ _ _⟩,hbw.trans ((below1 _ _).mono hbw.size)⟩
    ·have HL2:Hid (M.lineA A n k (out++[b])=res):=by show _=_;rw [← HL.out,M.lineA,HB.out]
     have j5:¬ (b:Int) < 0:=by omega
     have hO2:=ownsRow_below hO hbi
     have hbs:=hbw.size
     have hOA:=World.ownsRow.alloc hO2 (.cells #[.int .i64 (b:Int)] 3)
     clear HL HB
     by_cases hit:i < n
     all_goals
      go_wp2_with (at_builtin;refine wpList_append_own _ rfl (.tmp 68) (.tmp 70) 26 rfl _ 3 i0 _ 1 8 Tryz.underlying26 hi hz0 hz1 hz2 rfl (by decide) _ _ _ rfl hOA ⟨wr.heap.size,0,none⟩ 1 1 [.int .i64 (b:Int)] rfl rfl (cells_new1 _ _ _ _ (by simp)) (one1 _) (by unfold maxLen;omega) (by omega) (by simp;omega) ?_)
      intro v3 w4 hown3 hg3 _
      have hb3:Below w.heap.size w w4:=below_grown (hbw.trans ((below1 wr _).mono hbs)) hg3 (own_ge hO2) (by simp;omega)
      have hown4:OwnI w4 w.heap.size v3 (out++[b]):=by unfold OwnI;rw [M.ints_snoc,nums_snoc,List.length_append];exact hown3
      obtain ⟨a6,g6,c6,hv6,_⟩:=own_intsR (l:=M.ints (out++[b])) (by rw [M.ints_len];exact hown4)
      rw [M.ints_len] at hv6
      go_wp2_with fail
      exact ⟨⟨out++[b],v3,rfl,hown4,by simp;omega,by rw [show n - (out++[b]).length=k from by simp;omega];exact HL2,hb3⟩,by rw [hv6];simp [slLen];omega⟩
  ·have hle:out.length=n:=by omega
   have HF:Hid (some out=res):=by show _=_;rw [← HL.out,hle,Nat.sub_self];rfl
   have i1:¬ (out.length:Int) < n:=by omega
   clear hle
   go_wp2_with fail
   go_ret2
   exact ⟨a5,⟨c5,by rw [← HF.out];rfl⟩,⟨g5,by rw [← HF.out];exact hI⟩,hb⟩
end
section
open Go.RowKit
set_option maxHeartbeats 4000000 in
set_option maxRecDepth 100000 in
theorem sorderLine_any (a:Option Addr) (b o c:Nat) (ll:List (List M.D)) (fa:Option Addr) (fb fo fc:Nat) (l:List Int) (ra:Option Addr) (rb ro rc:Nat) (rows:List (List Int)) (kind:Int) (w:World) (hl:ll.length≤1048576) (hls:∀ t∈ll,t.length≤1048576) (hl1:l.length≤1048576) (hrs:∀ r∈rows,r.length≤1048576) (h:DoSS w a b o ll) (hf:IntS w fa fb fo l) (hr:IntSS w ra rb ro rows) :
  Calls Tryz.prog 10 #[.agg #[.slice a ll.length c],.agg #[.slice fa l.length fc,.slice ra rows.length rc],.int .i64 kind] w fun e w'=>∃ q g k,e=.returned (.tuple #[.slice q ((M.orderLine ll l rows kind).getD []).length k,.bool (M.orderLine ll l rows kind).isSome])∧IntS w' q g 0 (M.ints ((M.orderLine ll l rows kind).getD []))∧Below w.heap.size w w':=by
 have hb1:=below2 w (.cells #[.slice a ll.length c] 25) (.cells #[.slice fa l.length fc,.slice ra rows.length rc] 29)
 have kp:((w.alloc (.cells #[.slice a ll.length c] 25)).alloc (.cells #[.slice fa l.length fc,.slice ra rows.length rc] 29)).cell? ⟨w.heap.size,0,none⟩=some (.slice a ll.length c):=by simp
 have k0:((w.alloc (.cells #[.slice a ll.length c] 25)).alloc (.cells #[.slice fa l.length fc,.slice ra rows.length rc] 29)).cell? ⟨w.heap.size+1,0,none⟩=some (.slice fa l.length fc):=by simp
 have k1:((w.alloc (.cells #[.slice a ll.length c] 25)).alloc (.cells #[.slice fa l.length fc,.slice ra rows.length rc] 29)).cell? ⟨w.heap.size+1,1,none⟩=some (.slice ra rows.length rc):=by simp
 have hp1:=h.below hb1 (Nat.le_refl _)
 have hf1:=hf.below hb1 (Nat.le_refl _)
 have hr1:=hr.below hb1 (Nat.le_refl _)
 clear h hf hr
 have C1:=sorderHolds_any a b o c ll fa fb fo fc l ra rb ro rc rows kind _ hl hls hl1 hrs hp1 hf1 hr1
 obtain ⟨res,hres⟩:∃ res,M.orderLine ll l rows kind=res:=⟨_,rfl⟩
 rw [hres]
 have HR:Hid (M.orderLine ll l rows kind=res):=hres
 clear hres
 cases hok:M.orderHolds ll l rows kind
 ·rw [hok] at C1
  have HF:Hid (none=res):=by show _=_;rw [← HR.out];unfold M.orderLine;rw [hok];rfl
  clear HR hok
  go_enter Tryz.func10,Tryz.ntmps10
  go_wp2_with fail
  refine C1.mono ?_
  rintro e w1 ⟨rfl,hb2⟩
  go_wp2_with fail
  go_ret2
  exact ⟨_,0,0,by rw [← HF.out];rfl,by rw [← HF.out];exact IntS.nil _ _ _ _,(hb1.trans (hb2.mono hb1.size)).trans ((below1 w1 _).mono (hb1.trans (hb2.mono hb1.size)).size)⟩
 ·rw [hok] at C1
  obtain ⟨hex,hk13',hwt⟩:=M.holds_parts' hok
  have hW:=M.wok_of hex
  have hdl:=M.deeds28 hW.prog
  obtain ⟨kn,rfl⟩:∃ kn:Nat,kind=kn:=⟨kind.toNat,by omega⟩
  have hk13:1≤kn∧kn≤3:=by omega
  have HO:Hid (M.lineA (M.foundA (M.deeds ll).length (M.netOf (M.deeds ll) l rows kn) (M.choices (M.deeds ll))).1 (M.deeds ll).length (M.deeds ll).length []=res):=by show _=_;rw [← HR.out];unfold M.orderLine;rw [hok];rfl
  clear hok HR hex hwt hk13'
  go_enter Tryz.func10,Tryz.ntmps10
  go_wp2_with fail
  refine C1.mono ?_
  rintro e w1x ⟨rfl,hb2⟩
  have hb12:=hb1.trans (hb2.mono hb1.size)
  have kp1:=cellC hb2 kp
  have k01:=cellC hb2 k0
  have k11:=cellC hb2 k1
  have hp2:=hp1.below hb2 (Nat.le_refl _)
  have hf2:=hf1.below hb2 (Nat.le_refl _)
  have hr2:=hr1.below hb2 (Nat.le_refl _)
  clear kp k0 k1 hp1 hf1 hr1 C1 hb1 hb2
  go_wp2_with fail
  refine (l13Look_any a b o c ll _ hW.prog hl hls (by omega) hp2).mono ?_
  rintro e w3 ⟨O,va,g,cc,v1,v2,rfl,hLk0⟩
  have hLk:=hLk0.g
  have hb13:=hb12.trans (hLk.bel.mono hb12.size)
  have k03:=cellC hLk.bel k01
  have k13:=cellC hLk.bel k11
  obtain ⟨St,CW,hP⟩:=holdsF_parts kn hk13 a b o c ll fa fb fo fc l ra rb ro rc rows _ w3 O va g cc v1 v2 hl hls hrs hW hdl hp2 hf2 hr2 hLk
  have hge:w.heap.size≤O:=by have:=hLk.ge;have:=hb12.size;omega
  clear hLk hLk0 kp1 k01 k11 hf2 hr2 hW
  go_wp2_with fail
  refine CW.mono ?_
  rintro e w4 ⟨rfl,hSt,hLk,hBut⟩
  have hb14:Below w.heap.size w w4:=But.low hb13 hBut hge
  clear hb12 hb13 hBut CW k03 k13
  go_wp2_with fail
  refine (netG_any kn (by omega) a b o c ll _ w4 O va g cc v1 v2 hl hls hdl hp2 hLk).mono ?_
  rintro e w5 ⟨X1,rfl,⟨G1,c1,va1,rb1,rc1,hN1⟩,b5⟩
  have hSt5:=hP.bel _ _ hSt b5
  have hLk5:=hLk.below b5
  have hb15:=hb14.trans (b5.mono hb14.size)
  clear hSt hb14 b5 hLk hp2
  go_wp2_with fail
  refine (hP.whole kn (Or.inr rfl) X1 G1 c1 va1 rb1 rc1 w5 hSt5 hN1.nt).mono ?_
  rintro e w6 ⟨X2,rfl,⟨G2,c2,va2,rb2,rc2,hN2⟩,b6⟩
  have hb16:=hb15.trans (b6.mono hb15.size)
  have hSt6:=hP.bel _ _ hSt5 b6
  clear hSt5 hb15 b6 hN1 hLk5
  go_wp2_with fail
  refine (hP.found X2 G2 c2 va2 rb2 rc2 _ w6 hSt6 hN2).mono ?_
  rintro e w7 ⟨v7,rfl,X3,G3,c3,va3,rb3,rc3,rfl,hN3,b7⟩
  have hb17:=hb16.trans (b7.mono hb16.size)
  clear hSt6 hb16 b7 hN2 hP
  generalize M.foundA (M.deeds ll).length (M.netOf (M.deeds ll) l rows kn) (M.choices (M.deeds ll))=F at *
  obtain ⟨A3,f3⟩:=F
  simp only at hN3 HO ⊢
  have CL:=lineS_any X3 G3 c3 (M.deeds ll).length va3 rb3 rc3 A3 w7 hdl hN3
  rw [HO.out] at CL
  clear hN3
  go_wp2_with fail
  refine CL.mono ?_
  rintro e w8 ⟨q,gq,kq,rfl,hI,b8⟩
  obtain ⟨rr,hrr⟩:∃ rr,res.isSome=rr:=⟨_,rfl⟩
  obtain ⟨y,hy⟩:∃ y,res.getD []=y:=⟨_,rfl⟩
  have HRR:Hid (res.isSome=rr):=hrr
  have HY:Hid (res.getD []=y):=hy
  rw [hy] at hI
  rw [hrr,hy]
  clear hrr hy
  have hbF:=hb17.trans (b8.mono hb17.size)
  go_wp2_with fail
  go_ret2
  exact ⟨q,gq,kq,by rw [HRR.out,HY.out];rfl,by rw [HY.out];exact hI,hbF⟩
end
end Go.Proofs.YtmhpgdliaclokaaGreat
