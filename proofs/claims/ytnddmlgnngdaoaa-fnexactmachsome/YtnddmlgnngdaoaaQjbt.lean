/- spec's MachSome. Of programs of at most 1048576 threads, each of at most 1048576 steps, and of at most 1048576 turns. -/
import Derived.Deep.OwnRows
import Derived.Test.YtnddmlgnngdaoaaRows
import Derived.Test.YtnddmlgnngdaoaaQjaw
import Derived.Test.YtnddmlgnngdaoaaQjax
import Derived.Test.YtnddmlgnngdaoaaQjbh
namespace Go.Proofs.Ytnddmlgnngdaoaa
section
open Go.RowKit
set_option maxHeartbeats 8000000 in
set_option maxRecDepth 100000 in
theorem smachSome_any (a:Option Addr) (b o c:Nat) (ll:List (List M.D)) (ta:Option Addr) (tb to_ tc:Nat) (turns:List Int) (w:World) (hl:ll.length≤1048576) (hls:∀ t∈ll,t.length≤1048576) (hlt:turns.length≤1048576) (h0:DoSS w a b o ll) (hT:IntS w ta tb to_ turns) (hk:∀ k∈turns,-9223372036854775808≤k∧k < 9223372036854775808) :
  Calls Try.prog 8 #[.agg #[.slice a ll.length c],.slice ta turns.length tc] w fun e w'=>SAns w.heap.size (M.machQ false 28 ll turns) e w'∧Below w.heap.size w w':=by
 have b2:=below2 w (.cells #[.slice a ll.length c] 33) (.cells #[.slice none 0 0,.slice none 0 0] 28)
 have r0:Slot2 ((w.alloc (.cells #[.slice a ll.length c] 33)).alloc (.cells #[.slice none 0 0,.slice none 0 0] 28)) (w.heap.size+1) (.slice none 0 0) (.slice none 0 0):=⟨alloc_new _ _ _ (by simp)⟩
 have k0:((w.alloc (.cells #[.slice a ll.length c] 33)).alloc (.cells #[.slice none 0 0,.slice none 0 0] 28)).cell? ⟨w.heap.size,0,none⟩=some (.slice a ll.length c):=by simp
 have heS:∀ args w,(callFunc 31 args).run Try.prog w=.ok (.enter 31 args) w:=enters_of Try.func31 (by kernel_rfl) rfl
 have heL:∀ args w,(callFunc 30 args).run Try.prog w=.ok (.enter 30 args) w:=enters_of Try.func30 (by kernel_rfl) rfl
 go_enter Try.func8,Try.ntmps8
 go_wp2_with fail
 generalize (w.alloc (.cells #[.slice a ll.length c] 33)).alloc (.cells #[.slice none 0 0,.slice none 0 0] 28)=W at *
 have lt0:=r0.lt
 have hp1:=h0.below b2 (Nat.le_refl _)
 refine (sprog_any a b o c ll W hl hls hp1).mono ?_
 rintro e w1 ⟨rfl,hb1⟩
 have r1:=r0.of (hb1.block _ lt0)
 have q0:=(hb1.cell (p:=⟨w.heap.size,0,none⟩) (World.block_lt_of_cell? _ _ k0)).trans k0
 have bw1:=b2.trans (hb1.mono b2.size)
 have lt1:=r1.lt
 clear hp1 r0 k0 hb1 b2 lt0
 have none_end:∀ wx,Below w.heap.size w wx→Slot2 wx (w.heap.size+1) (.slice none 0 0) (.slice none 0 0)→Below w.heap.size w ((wx.setCell ⟨w.heap.size+1,0,none⟩ (.slice none 0 0)).setCell ⟨w.heap.size+1,1,none⟩ (.slice none 0 0)):=fun wx h _=>(h.setCell (by show w.heap.size≤w.heap.size+1;omega) _).setCell (by show w.heap.size≤w.heap.size+1;omega) _
 cases hpr:M.prog ll
 ·have y0:=r1.c0
  have y1:=r1.c1
  have yf:=r1.fz
  have HQ:Hid (M.machQ false 28 ll turns=none):=by show _=_;rw [M.machQ,M.runQ,hpr];simp
  go_wp2_with fail
  refine bodyPost_ret (v:=.tuple #[.agg #[.slice none 0 0,.slice none 0 0],.bool false]) (by simp [results,Try.results8,go_sem,y0,y1]) rfl ⟨?_,none_end _ bw1 r1⟩
  rw [HQ.out]
  exact ⟨_,_,rfl,World.ownsRow_nil _ _ _ _,World.ownsRow_nil _ _ _ _⟩
 ·obtain ⟨h3,h7⟩:=M.prog_le hpr
  by_cases hn:turns.length≤28
  ·have hn':¬ (28:Int) < turns.length:=by omega
   have HQ:Hid (M.machQ false 28 ll turns=(match M.runFrom false ll M.st0 turns with | some s=>if s.done ll then some s else none | none=>none)):=by show _=_;rw [M.machQ,if_pos hn,M.runQ,hpr];rfl
   go_wp2_with fail
   refine (snew_any a ll.length c w1 h3).mono ?_
   rintro e w2 ⟨X,rfl,hm2,hb2⟩
   have A0:RuS w w1 w2 w1.heap.size X a ll.length c M.st0:=⟨bw1.trans (hb2.mono bw1.size),(hb2.cell (p:=⟨w.heap.size,0,none⟩) (World.block_lt_of_cell? _ _ q0)).trans q0,r1.of (hb2.block _ lt1),lt1,hb2,hm2⟩
   obtain ⟨base,hB⟩:∃ base,w1.heap.size=base:=⟨_,rfl⟩
   have HB:Hid (w1.heap.size=base):=hB
   rw [hB] at A0
   clear hB hb2 hm2 r1 q0 lt1
   have hp2:=h0.below bw1 (Nat.le_refl _)
   have hT2:=hT.below bw1 (Nat.le_refl _)
   clear bw1
   go_wp2_with fail
   go_loopw [7] (fun s7 wr=>∃ (n:Nat) (s:M.St),s7=.int .i64 n∧n≤turns.length∧M.Inv ll s∧M.Edge ll.length s∧s.dry∧Hid (M.runFrom false ll M.st0 turns=M.runFrom false ll s (turns.drop n))∧RuS w w1 wr base X a ll.length c s) (fun s7 _=>turns.length - (intOf s7).toNat)
   case atStart=>exact ⟨0,M.st0,rfl,by omega,M.Inv.zero ll,M.Edge.zero _,M.St.dry0,rfl,A0⟩
   case round =>
    obtain ⟨n,s,rfl,hnn,I,E,hdry,HW,A⟩:=hrel
    clear A0
    obtain ⟨vs,hM⟩:=A.m
    by_cases hlt':n < turns.length
    ·have i2:(n:Int) < turns.length:=by omega
     have hTr:=hT2.below A.pb (Nat.le_of_eq HB.out)
     obtain ⟨rfl⟩:=hTr.addr (by omega)
     have ck:=hTr.row n hlt'
     have hki:=hk _ (List.getElem_mem hlt')
     have HW2:Hid (M.runFrom false ll M.st0 turns=(match s.turn? false ll turns[n] with | none=>none | some s'=>M.runFrom false ll s' (turns.drop (n+1)))):=by show _=_;rw [HW.out,M.run_step hlt'];rfl
     generalize turns[n]=k at *
     have RT:=M.St.turn_dry hdry h3 k
     have k0:=A.k0
     have bd:Below w.heap.size w wr.drew:=A.bel.trans (Below.refl _ _).drew
     have Ad:=A.next (Below.refl base wr).drew ⟨vs,hM.below (Below.refl _ _).drew⟩
     have hw1:IntKind.i64.wrap ((ll.length:Int) - 1)=(ll.length:Int) - 1:=by rw [IntKind.wrap_i64];omega
     by_cases hkt:0≤k∧k < ll.length
     ·obtain ⟨i,rfl⟩:∃ i:Nat,k=i:=⟨k.toNat,by omega⟩
      have htl:i < ll.length:=by omega
      have i1:(i:Int) < ll.length:=by omega
      have hin:M.rng 0 ((ll.length:Int) - 1) i=true:=by simp [M.rng];omega
      have hRT:s.turn? false ll i=s.step? false ll i:=by rw [RT,if_pos hkt];rfl
      have hpw:=hp2.below A.pb (Nat.le_of_eq HB.out)
      obtain ⟨g1,c1,hv1,_,_⟩:=hM.top (k:=1) (by omega) (by omega)
      have k1:=hM.ck (k:=1) (by omega)
      rw [hv1] at k1
      have kn:=hM.nextAt hv1 htl
      have haddr:=hpw.addr (by omega)
      obtain ⟨a',b',o',c',hc,_⟩:=hpw.row i htl
      have hg:ll.getD i []=ll[i]:=by simp [htl]
      have hln:ll[i].length≤7:=by have:=(M.thOk_of hpr i).len;rwa [hg] at this
      have CL:∀ W,Calls Try.prog 30 #[.int .i64 i,.int .i64 0,.int .i64 ((ll.length:Int) - 1)] W fun e w'=>e=.returned (.bool true)∧w'=W:=fun W=>by have:=l6In_any i 0 ((ll.length:Int) - 1) W;rwa [hin] at this
      have lK:w.heap.size < base:=by have:=A.lB;omega
      have lb:b < base:=by have h1:=(hp2.row i htl);obtain ⟨a9,b9,o9,c9,h9,_⟩:=h1;have h8:b < w1.heap.size:=World.block_lt_of_cell? _ _ h9;rw [HB.out] at h8;exact h8
      by_cases hlx:(s.t i).next < ll[i].length
      ·obtain ⟨d,hd⟩:∃ d,s.d? ll i=some d:=⟨_,by rw [M.St.d?,hg];exact List.getElem?_eq_getElem hlx⟩
       have hlx':((s.t i).next:Int) < ll[i].length:=by omega
       have hlx2:¬ ((ll[i].length:Int)≤((s.t i).next:Int)):=by omega
       have ST:=sstep_any base X i a b o c ll false vs s d w1 wr.drew hp2 (Nat.le_of_eq HB.out) (A.pb.trans (Below.refl _ _).drew) (hM.below (Below.refl _ _).drew) htl h3 hpr I E hd
       cases htn:s.step? false ll i with
       | none =>
        rw [htn] at ST
        have HQ2:Hid (M.machQ false 28 ll turns=none):=by show _=_;rw [HQ.out,HW2.out,hRT,htn]
        subst haddr
        generalize ll[i].length=ln at *
        generalize (s.t i).next=nx at *
        clear HW HW2 HQ hM hRT RT hd hg htn
        have hSd:=And.intro k0 hc
        go_wp2_with fail
        refine wp_region_held_drew (S:=fun w'=>w'.cell? ⟨w.heap.size,0,none⟩=some (.slice (some ⟨b,o,none⟩) ll.length c)∧w'.cell? ⟨b,o+i,none⟩=some (.slice a' ln c')) (by kernel_rfl) hSd (fun hH=>?_)
        refine tk 0 31 (.int .i64 i) hH rfl rfl (by intro w' hSw;go_simp) ?_
        try simp only [Act.put,zqa,zqb,zqc]
        refine tk 1 32 (.pointer (some ⟨w.heap.size,0,none⟩)) hH rfl rfl (by intro w' hSw;go_simp) ?_
        try simp only [Act.put,zqa,zqb,zqc]
        refine tk 2 33 (.slice (some ⟨b,o,none⟩) ll.length c) hH rfl rfl (by intro w' hSw;have hc9:=hSw.1;go_simp) ?_
        try simp only [Act.put,zqa,zqb,zqc]
        refine tk 3 34 (.int .i64 ll.length) hH rfl rfl (by intro w' hSw;go_simp) ?_
        try simp only [Act.put,zqa,zqb,zqc]
        refine tk 4 35 (.int .i64 ((ll.length:Int) - 1)) hH rfl rfl (by intro w' hSw;go_simp) ?_
        try simp only [Act.put,zqa,zqb,zqc]
        refine ry 5 rfl (fun K' hK=>?_)
        refine step_goV (by rfl) (some 36) rfl 30 #[.tmp 31,.const (.int .i64 0),.tmp 35] _ rfl #[.int .i64 i,.int .i64 0,.int .i64 ((ll.length:Int) - 1)] (by simp [Act.eval]) heL (CL _) ?_
        rintro e w6 ⟨rfl,rfl⟩
        refine ⟨_,rfl,hK.out _ _ hH (fun hHy=>?_)⟩
        clear hK K'
        try simp only [Act.put,zqa,zqb,zqc]
        refine tk 6 37 (.bool false) hHy rfl rfl (by intro w' hSw;go_simp) ?_
        try simp only [Act.put,zqa,zqb,zqc]
        refine tk 7 38 (.bool false) hHy rfl rfl (by intro w' hSw;go_simp) ?_
        try simp only [Act.put,zqa,zqb,zqc]
        refine tk 8 39 (.pointer (some ⟨X,0,none⟩)) hHy rfl rfl (by intro w' hSw;go_simp) ?_
        try simp only [Act.put,zqa,zqb,zqc]
        refine tk 9 40 (.pointer (some ⟨X,0,none⟩)) hHy rfl rfl (by intro w' hSw;go_simp) ?_
        try simp only [Act.put,zqa,zqb,zqc]
        refine tk 10 41 (.pointer (some ⟨X,1,none⟩)) hHy rfl rfl (by intro w' hSw;go_simp) ?_
        try simp only [Act.put,zqa,zqb,zqc]
        refine tk 15 46 (.pointer (some ⟨w.heap.size,0,none⟩)) hHy rfl rfl (by intro w' hSw;go_simp) ?_
        try simp only [Act.put,zqa,zqb,zqc]
        refine tk 16 47 (.slice (some ⟨b,o,none⟩) ll.length c) hHy rfl rfl (by intro w' hSw;have hc9:=hSw.1;go_simp) ?_
        try simp only [Act.put,zqa,zqb,zqc]
        refine tk 17 48 (.int .i64 i) hHy rfl rfl (by intro w' hSw;go_simp) ?_
        try simp only [Act.put,zqa,zqb,zqc]
        refine tk 18 49 (.pointer (some ⟨b,o+i,none⟩)) hHy rfl rfl (by intro w' hSw;go_simp) ?_
        try simp only [Act.put,zqa,zqb,zqc]
        refine tk 19 50 ((.slice a' ln c')) hHy rfl rfl (by intro w' hSw;have hc9:=hSw.2;go_simp) ?_
        try simp only [Act.put,zqa,zqb,zqc]
        refine tk 20 51 (.int .i64 ln) hHy rfl rfl (by intro w' hSw;go_simp) ?_
        try simp only [Act.put,zqa,zqb,zqc]
        refine tk 12 43 (.int .i64 i) hHy rfl rfl (by intro w' hSw;go_simp) ?_
        try simp only [Act.put,zqa,zqb,zqc]
        refine ry 11 rfl (fun K' hK=>?_)
        rw [if_pos (by rfl)]
        have hcx:=k1
        go_simp
        refine hK.out _ _ hHy (fun hHx=>?_)
        clear hK K' hcx
        try simp only [Act.put,zqa,zqb,zqc]
        refine tk 13 44 (.pointer (some ⟨g1,i,none⟩)) hHx rfl rfl (by intro w' hSw;go_simp) ?_
        try simp only [Act.put,zqa,zqb,zqc]
        refine ry 14 rfl (fun K' hK=>?_)
        rw [if_pos (by rfl)]
        have hcx:=kn
        go_simp
        refine hK.out _ _ hHx (fun hHx=>?_)
        clear hK K' hcx
        try simp only [Act.put,zqa,zqb,zqc]
        refine tk 21 52 (.bool false) hHx rfl rfl (by intro w' hSw;go_simp) ?_
        try simp only [Act.put,zqa,zqb,zqc]
        refine tk 22 53 (.bool false) hHx rfl rfl (by intro w' hSw;go_simp) ?_
        try simp only [Act.put,zqa,zqb,zqc]
        refine tk 23 54 (.bool false) hHx rfl rfl (by intro w' hSw;go_simp) ?_
        try simp only [Act.put,zqa,zqb,zqc]
        refine tk 24 55 (.pointer (some ⟨X,0,none⟩)) hHx rfl rfl (by intro w' hSw;go_simp) ?_
        try simp only [Act.put,zqa,zqb,zqc]
        refine tk 25 56 (.int .i64 i) hHx rfl rfl (by intro w' hSw;go_simp) ?_
        try simp only [Act.put,zqa,zqb,zqc]
        refine ry 26 rfl (fun K' hK=>?_)
        refine step_goV (by rfl) (some 57) rfl 31 #[.tmp 55,.tmp 56,.const (.bool false)] _ rfl #[.pointer (some ⟨X,0,none⟩),.int .i64 i,.bool false] (by simp [Act.eval]) heS ST ?_
        rintro e w7 ⟨rfl,hr3⟩
        refine ⟨_,rfl,hK.out _ _ ⟨(hr3.bel.cell (p:=⟨w.heap.size,0,none⟩) lK).trans hSd.1,(hr3.bel.cell (p:=⟨b,o+i,none⟩) lb).trans hSd.2⟩ (fun hHz=>?_)⟩
        clear hK K'
        try simp only [Act.put,zqa,zqb,zqc]
        refine tk 27 58 (.bool true) hHz rfl rfl (by intro w' hSw;go_simp) ?_
        try simp only [Act.put,zqa,zqb,zqc]
        refine tk 28 59 (.bool true) hHz rfl rfl (by intro w' hSw;go_simp) ?_
        try simp only [Act.put,zqa,zqb,zqc]
        refine wpAnyH_done (by kernel_rfl) ?_ _
        ·have r3:=Ad.res.of (hr3.bel.block _ Ad.lB)
         have y0:=r3.c0
         have y1:=r3.c1
         have yf:=r3.fz
         have b3:=Ad.bel.trans (hr3.bel.mono (Nat.le_trans (by omega) (Nat.le_of_lt Ad.lB)))
         go_wp2_with fail
         refine bodyPost_ret (v:=.tuple #[.agg #[.slice none 0 0,.slice none 0 0],.bool false]) (by simp [results,Try.results8,go_sem,y0,y1]) rfl ⟨?_,none_end _ b3 r3⟩
         rw [HQ2.out]
         exact ⟨_,_,rfl,World.ownsRow_nil _ _ _ _,World.ownsRow_nil _ _ _ _⟩
       | some s' =>
        rw [htn] at ST
        have htn':s.turn? false ll i=some s':=hRT.trans htn
        have I':=I.turn hpr h3 htn'
        have E':=E.turn I h3 htn'
        have D':=M.St.dry_turn hdry I h3 htn'
        have HW3:Hid (M.runFrom false ll M.st0 turns=M.runFrom false ll s' (turns.drop (n+1))):=by show _=_;rw [HW2.out,htn']
        subst haddr
        generalize ll[i].length=ln at *
        generalize (s.t i).next=nx at *
        clear HW HW2 hM hRT RT hd hg htn htn'
        have hSd:=And.intro k0 hc
        go_wp2_with fail
        refine wp_region_held_drew (S:=fun w'=>w'.cell? ⟨w.heap.size,0,none⟩=some (.slice (some ⟨b,o,none⟩) ll.length c)∧w'.cell? ⟨b,o+i,none⟩=some (.slice a' ln c')) (by kernel_rfl) hSd (fun hH=>?_)
        refine tk 0 31 (.int .i64 i) hH rfl rfl (by intro w' hSw;go_simp) ?_
        try simp only [Act.put,zqa,zqb,zqc]
        refine tk 1 32 (.pointer (some ⟨w.heap.size,0,none⟩)) hH rfl rfl (by intro w' hSw;go_simp) ?_
        try simp only [Act.put,zqa,zqb,zqc]
        refine tk 2 33 (.slice (some ⟨b,o,none⟩) ll.length c) hH rfl rfl (by intro w' hSw;have hc9:=hSw.1;go_simp) ?_
        try simp only [Act.put,zqa,zqb,zqc]
        refine tk 3 34 (.int .i64 ll.length) hH rfl rfl (by intro w' hSw;go_simp) ?_
        try simp only [Act.put,zqa,zqb,zqc]
        refine tk 4 35 (.int .i64 ((ll.length:Int) - 1)) hH rfl rfl (by intro w' hSw;go_simp) ?_
        try simp only [Act.put,zqa,zqb,zqc]
        refine ry 5 rfl (fun K' hK=>?_)
        refine step_goV (by rfl) (some 36) rfl 30 #[.tmp 31,.const (.int .i64 0),.tmp 35] _ rfl #[.int .i64 i,.int .i64 0,.int .i64 ((ll.length:Int) - 1)] (by simp [Act.eval]) heL (CL _) ?_
        rintro e w6 ⟨rfl,rfl⟩
        refine ⟨_,rfl,hK.out _ _ hH (fun hHy=>?_)⟩
        clear hK K'
        try simp only [Act.put,zqa,zqb,zqc]
        refine tk 6 37 (.bool false) hHy rfl rfl (by intro w' hSw;go_simp) ?_
        try simp only [Act.put,zqa,zqb,zqc]
        refine tk 7 38 (.bool false) hHy rfl rfl (by intro w' hSw;go_simp) ?_
        try simp only [Act.put,zqa,zqb,zqc]
        refine tk 8 39 (.pointer (some ⟨X,0,none⟩)) hHy rfl rfl (by intro w' hSw;go_simp) ?_
        try simp only [Act.put,zqa,zqb,zqc]
        refine tk 9 40 (.pointer (some ⟨X,0,none⟩)) hHy rfl rfl (by intro w' hSw;go_simp) ?_
        try simp only [Act.put,zqa,zqb,zqc]
        refine tk 10 41 (.pointer (some ⟨X,1,none⟩)) hHy rfl rfl (by intro w' hSw;go_simp) ?_
        try simp only [Act.put,zqa,zqb,zqc]
        refine tk 15 46 (.pointer (some ⟨w.heap.size,0,none⟩)) hHy rfl rfl (by intro w' hSw;go_simp) ?_
        try simp only [Act.put,zqa,zqb,zqc]
        refine tk 16 47 (.slice (some ⟨b,o,none⟩) ll.length c) hHy rfl rfl (by intro w' hSw;have hc9:=hSw.1;go_simp) ?_
        try simp only [Act.put,zqa,zqb,zqc]
        refine tk 17 48 (.int .i64 i) hHy rfl rfl (by intro w' hSw;go_simp) ?_
        try simp only [Act.put,zqa,zqb,zqc]
        refine tk 18 49 (.pointer (some ⟨b,o+i,none⟩)) hHy rfl rfl (by intro w' hSw;go_simp) ?_
        try simp only [Act.put,zqa,zqb,zqc]
        refine tk 19 50 ((.slice a' ln c')) hHy rfl rfl (by intro w' hSw;have hc9:=hSw.2;go_simp) ?_
        try simp only [Act.put,zqa,zqb,zqc]
        refine tk 20 51 (.int .i64 ln) hHy rfl rfl (by intro w' hSw;go_simp) ?_
        try simp only [Act.put,zqa,zqb,zqc]
        refine tk 12 43 (.int .i64 i) hHy rfl rfl (by intro w' hSw;go_simp) ?_
        try simp only [Act.put,zqa,zqb,zqc]
        refine ry 11 rfl (fun K' hK=>?_)
        rw [if_pos (by rfl)]
        have hcx:=k1
        go_simp
        refine hK.out _ _ hHy (fun hHx=>?_)
        clear hK K' hcx
        try simp only [Act.put,zqa,zqb,zqc]
        refine tk 13 44 (.pointer (some ⟨g1,i,none⟩)) hHx rfl rfl (by intro w' hSw;go_simp) ?_
        try simp only [Act.put,zqa,zqb,zqc]
        refine ry 14 rfl (fun K' hK=>?_)
        rw [if_pos (by rfl)]
        have hcx:=kn
        go_simp
        refine hK.out _ _ hHx (fun hHx=>?_)
        clear hK K' hcx
        try simp only [Act.put,zqa,zqb,zqc]
        refine tk 21 52 (.bool false) hHx rfl rfl (by intro w' hSw;go_simp) ?_
        try simp only [Act.put,zqa,zqb,zqc]
        refine tk 22 53 (.bool false) hHx rfl rfl (by intro w' hSw;go_simp) ?_
        try simp only [Act.put,zqa,zqb,zqc]
        refine tk 23 54 (.bool false) hHx rfl rfl (by intro w' hSw;go_simp) ?_
        try simp only [Act.put,zqa,zqb,zqc]
        refine tk 24 55 (.pointer (some ⟨X,0,none⟩)) hHx rfl rfl (by intro w' hSw;go_simp) ?_
        try simp only [Act.put,zqa,zqb,zqc]
        refine tk 25 56 (.int .i64 i) hHx rfl rfl (by intro w' hSw;go_simp) ?_
        try simp only [Act.put,zqa,zqb,zqc]
        refine ry 26 rfl (fun K' hK=>?_)
        refine step_goV (by rfl) (some 57) rfl 31 #[.tmp 55,.tmp 56,.const (.bool false)] _ rfl #[.pointer (some ⟨X,0,none⟩),.int .i64 i,.bool false] (by simp [Act.eval]) heS ST ?_
        rintro e w7 ⟨rfl,hr3⟩
        refine ⟨_,rfl,hK.out _ _ ⟨(hr3.bel.cell (p:=⟨w.heap.size,0,none⟩) lK).trans hSd.1,(hr3.bel.cell (p:=⟨b,o+i,none⟩) lb).trans hSd.2⟩ (fun hHz=>?_)⟩
        clear hK K'
        try simp only [Act.put,zqa,zqb,zqc]
        refine tk 27 58 (.bool false) hHz rfl rfl (by intro w' hSw;go_simp) ?_
        try simp only [Act.put,zqa,zqb,zqc]
        refine tk 28 59 (.bool false) hHz rfl rfl (by intro w' hSw;go_simp) ?_
        try simp only [Act.put,zqa,zqb,zqc]
        refine wpAnyH_done (by kernel_rfl) ?_ _
        ·have A3:=Ad.next hr3.bel (hr3.st s' rfl)
         go_wp2_with fail
         exact ⟨⟨n+1,s',by go_num,by omega,I',E',D',HW3,A3⟩,by simp [intOf];omega⟩
      ·have hd:s.d? ll i=none:=by rw [M.St.d?,hg];exact List.getElem?_eq_none (by omega)
       have HQ2:Hid (M.machQ false 28 ll turns=none):=by show _=_;rw [HQ.out,HW2.out,hRT,M.step_none false hd]
       have hlx':¬ ((s.t i).next:Int) < ll[i].length:=by omega
       have hlx2:(ll[i].length:Int)≤((s.t i).next:Int):=by omega
       have y0:=A.res.c0
       have y1:=A.res.c1
       have yf:=A.res.fz
       subst haddr
       generalize ll[i].length=ln at *
       generalize (s.t i).next=nx at *
       clear HW HW2 HQ hM hRT RT hd hg
       have hSd:=And.intro k0 hc
       go_wp2_with fail
       refine wp_region_held_drew (S:=fun w'=>w'.cell? ⟨w.heap.size,0,none⟩=some (.slice (some ⟨b,o,none⟩) ll.length c)∧w'.cell? ⟨b,o+i,none⟩=some (.slice a' ln c')) (by kernel_rfl) hSd (fun hH=>?_)
       refine tk 0 31 (.int .i64 i) hH rfl rfl (by intro w' hSw;go_simp) ?_
       try simp only [Act.put,zqa,zqb,zqc]
       refine tk 1 32 (.pointer (some ⟨w.heap.size,0,none⟩)) hH rfl rfl (by intro w' hSw;go_simp) ?_
       try simp only [Act.put,zqa,zqb,zqc]
       refine tk 2 33 (.slice (some ⟨b,o,none⟩) ll.length c) hH rfl rfl (by intro w' hSw;have hc9:=hSw.1;go_simp) ?_
       try simp only [Act.put,zqa,zqb,zqc]
       refine tk 3 34 (.int .i64 ll.length) hH rfl rfl (by intro w' hSw;go_simp) ?_
       try simp only [Act.put,zqa,zqb,zqc]
       refine tk 4 35 (.int .i64 ((ll.length:Int) - 1)) hH rfl rfl (by intro w' hSw;go_simp) ?_
       try simp only [Act.put,zqa,zqb,zqc]
       refine ry 5 rfl (fun K' hK=>?_)
       refine step_goV (by rfl) (some 36) rfl 30 #[.tmp 31,.const (.int .i64 0),.tmp 35] _ rfl #[.int .i64 i,.int .i64 0,.int .i64 ((ll.length:Int) - 1)] (by simp [Act.eval]) heL (CL _) ?_
       rintro e w6 ⟨rfl,rfl⟩
       refine ⟨_,rfl,hK.out _ _ hH (fun hHy=>?_)⟩
       clear hK K'
       try simp only [Act.put,zqa,zqb,zqc]
       refine tk 6 37 (.bool false) hHy rfl rfl (by intro w' hSw;go_simp) ?_
       try simp only [Act.put,zqa,zqb,zqc]
       refine tk 7 38 (.bool false) hHy rfl rfl (by intro w' hSw;go_simp) ?_
       try simp only [Act.put,zqa,zqb,zqc]
       refine tk 8 39 (.pointer (some ⟨X,0,none⟩)) hHy rfl rfl (by intro w' hSw;go_simp) ?_
       try simp only [Act.put,zqa,zqb,zqc]
       refine tk 9 40 (.pointer (some ⟨X,0,none⟩)) hHy rfl rfl (by intro w' hSw;go_simp) ?_
       try simp only [Act.put,zqa,zqb,zqc]
       refine tk 10 41 (.pointer (some ⟨X,1,none⟩)) hHy rfl rfl (by intro w' hSw;go_simp) ?_
       try simp only [Act.put,zqa,zqb,zqc]
       refine tk 15 46 (.pointer (some ⟨w.heap.size,0,none⟩)) hHy rfl rfl (by intro w' hSw;go_simp) ?_
       try simp only [Act.put,zqa,zqb,zqc]
       refine tk 16 47 (.slice (some ⟨b,o,none⟩) ll.length c) hHy rfl rfl (by intro w' hSw;have hc9:=hSw.1;go_simp) ?_
       try simp only [Act.put,zqa,zqb,zqc]
       refine tk 17 48 (.int .i64 i) hHy rfl rfl (by intro w' hSw;go_simp) ?_
       try simp only [Act.put,zqa,zqb,zqc]
       refine tk 18 49 (.pointer (some ⟨b,o+i,none⟩)) hHy rfl rfl (by intro w' hSw;go_simp) ?_
       try simp only [Act.put,zqa,zqb,zqc]
       refine tk 19 50 ((.slice a' ln c')) hHy rfl rfl (by intro w' hSw;have hc9:=hSw.2;go_simp) ?_
       try simp only [Act.put,zqa,zqb,zqc]
       refine tk 20 51 (.int .i64 ln) hHy rfl rfl (by intro w' hSw;go_simp) ?_
       try simp only [Act.put,zqa,zqb,zqc]
       refine tk 12 43 (.int .i64 i) hHy rfl rfl (by intro w' hSw;go_simp) ?_
       try simp only [Act.put,zqa,zqb,zqc]
       refine ry 11 rfl (fun K' hK=>?_)
       rw [if_pos (by rfl)]
       have hcx:=k1
       go_simp
       refine hK.out _ _ hHy (fun hHx=>?_)
       clear hK K' hcx
       try simp only [Act.put,zqa,zqb,zqc]
       refine tk 13 44 (.pointer (some ⟨g1,i,none⟩)) hHx rfl rfl (by intro w' hSw;go_simp) ?_
       try simp only [Act.put,zqa,zqb,zqc]
       refine ry 14 rfl (fun K' hK=>?_)
       rw [if_pos (by rfl)]
       have hcx:=kn
       go_simp
       refine hK.out _ _ hHx (fun hHx=>?_)
       clear hK K' hcx
       try simp only [Act.put,zqa,zqb,zqc]
       refine tk 21 52 (.bool true) hHx rfl rfl (by intro w' hSw;go_simp) ?_
       try simp only [Act.put,zqa,zqb,zqc]
       refine tk 22 53 (.bool true) hHx rfl rfl (by intro w' hSw;go_simp) ?_
       try simp only [Act.put,zqa,zqb,zqc]
       refine tk 23 54 (.bool true) hHx rfl rfl (by intro w' hSw;go_simp) ?_
       try simp only [Act.put,zqa,zqb,zqc]
       refine tz 24 55 hHx rfl rfl ?_
       try simp only [Act.put,zqa,zqb,zqc]
       refine tz 25 56 hHx rfl rfl ?_
       try simp only [Act.put,zqa,zqb,zqc]
       refine tz 26 57 hHx rfl rfl ?_
       try simp only [Act.put,zqa,zqb,zqc]
       refine tz 27 58 hHx rfl rfl ?_
       try simp only [Act.put,zqa,zqb,zqc]
       refine tk 28 59 (.bool true) hHx rfl rfl (by intro w' hSw;go_simp) ?_
       try simp only [Act.put,zqa,zqb,zqc]
       refine wpAnyH_done (by kernel_rfl) ?_ _
       ·go_wp2_with fail
        refine bodyPost_ret (v:=.tuple #[.agg #[.slice none 0 0,.slice none 0 0],.bool false]) (by simp [results,Try.results8,go_sem,y0,y1]) rfl ⟨?_,none_end _ bd Ad.res⟩
        rw [HQ2.out]
        exact ⟨_,_,rfl,World.ownsRow_nil _ _ _ _,World.ownsRow_nil _ _ _ _⟩
     ·have HQ2:Hid (M.machQ false 28 ll turns=none):=by show _=_;rw [HQ.out,HW2.out,RT,if_neg hkt]
      have hin:M.rng 0 ((ll.length:Int) - 1) k=false:=by
       simp only [M.rng,Bool.and_eq_false_iff,decide_eq_false_iff_not];omega
      have y0:=A.res.c0
      have y1:=A.res.c1
      have yf:=A.res.fz
      clear HW HW2 HQ hM RT
      have CL:∀ W,Calls Try.prog 30 #[.int .i64 k,.int .i64 0,.int .i64 ((ll.length:Int) - 1)] W fun e w'=>e=.returned (.bool false)∧w'=W:=fun W=>by have:=l6In_any k 0 ((ll.length:Int) - 1) W;rwa [hin] at this
      have hSd:=And.intro k0 True.intro
      go_wp2_with fail
      refine wp_region_held_drew (S:=fun w'=>w'.cell? ⟨w.heap.size,0,none⟩=some (.slice a ll.length c)∧True) (by kernel_rfl) hSd (fun hH=>?_)
      refine tk 0 31 (.int .i64 k) hH rfl rfl (by intro w' hSw;go_simp) ?_
      try simp only [Act.put,zqa,zqb,zqc]
      refine tk 1 32 (.pointer (some ⟨w.heap.size,0,none⟩)) hH rfl rfl (by intro w' hSw;go_simp) ?_
      try simp only [Act.put,zqa,zqb,zqc]
      refine tk 2 33 (.slice a ll.length c) hH rfl rfl (by intro w' hSw;have hc9:=hSw.1;go_simp) ?_
      try simp only [Act.put,zqa,zqb,zqc]
      refine tk 3 34 (.int .i64 ll.length) hH rfl rfl (by intro w' hSw;go_simp) ?_
      try simp only [Act.put,zqa,zqb,zqc]
      refine tk 4 35 (.int .i64 ((ll.length:Int) - 1)) hH rfl rfl (by intro w' hSw;go_simp) ?_
      try simp only [Act.put,zqa,zqb,zqc]
      refine ry 5 rfl (fun K' hK=>?_)
      refine step_goV (by rfl) (some 36) rfl 30 #[.tmp 31,.const (.int .i64 0),.tmp 35] _ rfl #[.int .i64 k,.int .i64 0,.int .i64 ((ll.length:Int) - 1)] (by simp [Act.eval]) heL (CL _) ?_
      rintro e w6 ⟨rfl,rfl⟩
      refine ⟨_,rfl,hK.out _ _ hH (fun hHy=>?_)⟩
      clear hK K'
      try simp only [Act.put,zqa,zqb,zqc]
      refine tk 6 37 (.bool true) hHy rfl rfl (by intro w' hSw;go_simp) ?_
      try simp only [Act.put,zqa,zqb,zqc]
      refine tk 7 38 (.bool true) hHy rfl rfl (by intro w' hSw;go_simp) ?_
      try simp only [Act.put,zqa,zqb,zqc]
      refine tz 8 39 hHy rfl rfl ?_
      try simp only [Act.put,zqa,zqb,zqc]
      refine tz 9 40 hHy rfl rfl ?_
      try simp only [Act.put,zqa,zqb,zqc]
      refine tz 10 41 hHy rfl rfl ?_
      try simp only [Act.put,zqa,zqb,zqc]
      refine tz 11 42 hHy rfl rfl ?_
      try simp only [Act.put,zqa,zqb,zqc]
      refine tz 12 43 hHy rfl rfl ?_
      try simp only [Act.put,zqa,zqb,zqc]
      refine tz 13 44 hHy rfl rfl ?_
      try simp only [Act.put,zqa,zqb,zqc]
      refine tz 14 45 hHy rfl rfl ?_
      try simp only [Act.put,zqa,zqb,zqc]
      refine tz 15 46 hHy rfl rfl ?_
      try simp only [Act.put,zqa,zqb,zqc]
      refine tz 16 47 hHy rfl rfl ?_
      try simp only [Act.put,zqa,zqb,zqc]
      refine tz 17 48 hHy rfl rfl ?_
      try simp only [Act.put,zqa,zqb,zqc]
      refine tz 18 49 hHy rfl rfl ?_
      try simp only [Act.put,zqa,zqb,zqc]
      refine tz 19 50 hHy rfl rfl ?_
      try simp only [Act.put,zqa,zqb,zqc]
      refine tz 20 51 hHy rfl rfl ?_
      try simp only [Act.put,zqa,zqb,zqc]
      refine tz 21 52 hHy rfl rfl ?_
      try simp only [Act.put,zqa,zqb,zqc]
      refine tk 22 53 (.bool true) hHy rfl rfl (by intro w' hSw;go_simp) ?_
      try simp only [Act.put,zqa,zqb,zqc]
      refine tk 23 54 (.bool true) hHy rfl rfl (by intro w' hSw;go_simp) ?_
      try simp only [Act.put,zqa,zqb,zqc]
      refine tz 24 55 hHy rfl rfl ?_
      try simp only [Act.put,zqa,zqb,zqc]
      refine tz 25 56 hHy rfl rfl ?_
      try simp only [Act.put,zqa,zqb,zqc]
      refine tz 26 57 hHy rfl rfl ?_
      try simp only [Act.put,zqa,zqb,zqc]
      refine tz 27 58 hHy rfl rfl ?_
      try simp only [Act.put,zqa,zqb,zqc]
      refine tk 28 59 (.bool true) hHy rfl rfl (by intro w' hSw;go_simp) ?_
      try simp only [Act.put,zqa,zqb,zqc]
      refine wpAnyH_done (by kernel_rfl) ?_ _
      ·go_wp2_with fail
       refine bodyPost_ret (v:=.tuple #[.agg #[.slice none 0 0,.slice none 0 0],.bool false]) (by simp [results,Try.results8,go_sem,y0,y1]) rfl ⟨?_,none_end _ bd Ad.res⟩
       rw [HQ2.out]
       exact ⟨_,_,rfl,World.ownsRow_nil _ _ _ _,World.ownsRow_nil _ _ _ _⟩
    ·have i2:¬ (n:Int) < turns.length:=by omega
     have HW4:Hid (M.runFrom false ll M.st0 turns=some s):=by show _=_;rw [HW.out,List.drop_eq_nil_of_le (by omega)];rfl
     clear HW
     go_wp2_with fail
     clear hT2 hT
     go_loopw [9] (fun s8 wr=>∃ i:Nat,s8=.int .i64 i∧i≤ll.length∧(∀ j,j < i→s.doneT ll j=true)∧RuS w w1 wr base X a ll.length c s∧SM wr base X a ll.length c vs s) (fun s8 _=>ll.length - (intOf s8).toNat)
     case atStart=>exact ⟨0,rfl,by omega,fun j hj=>by omega,A,hM⟩
     case round =>
      obtain ⟨i,rfl,hi,hdn,A,hM⟩:=hrel
      have k0:=A.k0
      have hpw:=hp2.below A.pb (Nat.le_of_eq HB.out)
      by_cases hlt2:i < ll.length
      ·have i3:(i:Int) < ll.length:=by omega
       have ht:i < 3:=by omega
       obtain ⟨rfl⟩:=hpw.addr (by omega)
       obtain ⟨a',b',o',c',hc,_⟩:=hpw.row i hlt2
       obtain ⟨g1,c1,hv1,_,_⟩:=hM.top (k:=1) (by omega) (by omega)
       have k1:=hM.ck (k:=1) (by omega)
       rw [hv1] at k1
       have kn:=hM.nextAt hv1 hlt2
       have hpd:=hdry i ht
       have hg:ll.getD i []=ll[i]:=by simp [hlt2]
       have HD:Hid (s.doneT ll i=(decide (ll[i].length≤(s.t i).next)&&decide ((s.t i).pend.length=0))):=by show _=_;rw [M.St.doneT,hg]
       have bd:Below w.heap.size w wr.drew:=A.bel.trans (Below.refl _ _).drew
       have y0:=A.res.c0
       have y1:=A.res.c1
       have yf:=A.res.fz
       have Ad:=A.next (Below.refl base wr).drew ⟨vs,hM.below (Below.refl _ _).drew⟩
       have hMd:=hM.below (Below.refl _ wr).drew
       rw [hpd] at HD
       clear hM hv1 hpd
       generalize (s.t i).next=nx at *
       generalize ll[i].length=ln at *
       by_cases hnx:nx < ln
       ·have hnx':(nx:Int) < ln:=by omega
        have HQ2:Hid (M.machQ false 28 ll turns=none):=by
         show _=_
         rw [HQ.out,HW4.out]
         show (if s.done ll=true then _ else _)=_
         rw [M.done_no hlt2 (by rw [HD.out,decide_eq_false (by omega)];rfl)]
         rfl
        go_wp2_with fail
        go_region
        go_wp2_with fail
        refine bodyPost_ret (v:=.tuple #[.agg #[.slice none 0 0,.slice none 0 0],.bool false]) (by simp [results,Try.results8,go_sem,y0,y1]) rfl ⟨?_,none_end _ bd Ad.res⟩
        rw [HQ2.out]
        exact ⟨_,_,rfl,World.ownsRow_nil _ _ _ _,World.ownsRow_nil _ _ _ _⟩
       ·have hnx':¬ (nx:Int) < ln:=by omega
        go_wp2_with fail
        go_region
        go_wp2_with fail
        exact ⟨⟨i+1,by go_num,by omega,fun j hj=>by
         rcases Nat.lt_succ_iff_lt_or_eq.1 hj with h | h
         ·exact hdn j h
         ·subst h;rw [HD.out,decide_eq_true (show ln≤nx by omega)];rfl,Ad,hMd⟩,by simp [intOf];omega⟩
      ·have i3:¬ (i:Int) < ll.length:=by omega
       have HQ2:Hid (M.machQ false 28 ll turns=some s):=by
        show _=_
        rw [HQ.out,HW4.out]
        show (if s.done ll=true then _ else _)=_
        rw [M.done_yes fun j hj=>hdn j (by omega)]
        rfl
       have h6:∀ j,j < ll.length→(s.t j).vals.length≤6:=fun j hj=>by
        rw [(I.each j (by omega)).vals]
        exact Nat.le_trans (M.cnt_take_le _ _ _) (M.thOk_of hpr j).rd
       have SN:=sseen_any base X a ll.length c vs s wr hM h3 I.at_ h6
       rw [M.rds_eq I h3] at SN
       have lw:w.heap.size≤wr.heap.size:=A.bel.size
       clear hM
       go_wp2_with (go_at_call 32;refine SN.mono ?_;rintro e w4 ⟨vv,uu,rfl,V,U,b4⟩;obtain ⟨va,vc,rfl,_⟩:=own_sl V;obtain ⟨ua,uc,rfl,_⟩:=own_sl U;have r4:=A.res.of (b4.block _ A.res.lt);have y0:=r4.c0;have y1:=r4.c1;have yf:=r4.fz;have V4:=own_slot (i:=1) (own_slot (i:=0) V r4 (.slice va s.reads.length vc)) (r4.set0 (.slice va s.reads.length vc)) (.slice ua s.at_.length uc);have U4:=own_slot (i:=1) (own_slot (i:=0) U r4 (.slice va s.reads.length vc)) (r4.set0 (.slice va s.reads.length vc)) (.slice ua s.at_.length uc);have b5:=A.bel.trans (b4.mono lw))
       refine bodyPost_ret (v:=.tuple #[.agg #[.slice va s.reads.length vc,.slice ua s.at_.length uc],.bool true]) (by simp [results,Try.results8,go_sem,y0,y1]) rfl ⟨?_,(b5.setCell (by show w.heap.size≤w.heap.size+1;omega) _).setCell (by show w.heap.size≤w.heap.size+1;omega) _⟩
       rw [HQ2.out]
       exact ⟨_,_,rfl,own_low V4 lw,own_low U4 lw⟩
  ·have hn':(28:Int) < turns.length:=by omega
   have y0:=r1.c0
   have y1:=r1.c1
   have yf:=r1.fz
   have HQ:Hid (M.machQ false 28 ll turns=none):=by show _=_;rw [M.machQ,if_neg hn]
   go_wp2_with fail
   refine bodyPost_ret (v:=.tuple #[.agg #[.slice none 0 0,.slice none 0 0],.bool false]) (by simp [results,Try.results8,go_sem,y0,y1]) rfl ⟨?_,none_end _ bw1 r1⟩
   rw [HQ.out]
   exact ⟨_,_,rfl,World.ownsRow_nil _ _ _ _,World.ownsRow_nil _ _ _ _⟩
end
end Go.Proofs.Ytnddmlgnngdaoaa
