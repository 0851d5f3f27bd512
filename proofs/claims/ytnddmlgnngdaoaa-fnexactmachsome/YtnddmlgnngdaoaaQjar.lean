/- impl's machine: whether a step can be done. No condition. And what goes with it: MaCan, MaStep, MathN, MathR, MaInv, MaTurn, MaDone, MaSeen, MaRun, MaAny, Mark, MarkP. -/
import Derived.Deep.RegionLaw
import Derived.Shelf.Abstract
import Derived.Deep.OwnRows
import Derived.Test.YtnddmlgnngdaoaaRows
import Derived.Test.YtnddmlgnngdaoaaQjap
import Derived.Test.YtnddmlgnngdaoaaQjaq
namespace Go.Proofs.Ytnddmlgnngdaoaa
section
open Go.RowKit
def M.St.arr (s:M.St):Array Value:=(M.cells s.c 0 81).toArray
theorem M.St.arr_size (s:M.St):s.arr.size=81:=by simp [M.St.arr,M.cells_len]
theorem M.St.arr_get (s:M.St) (j:Nat) (h:j < 81):s.arr[j]?=some (s.c j):=by
 rw [M.St.arr,List.getElem?_toArray,M.cells_get _ _ _ _ h,Nat.zero_add]
theorem M.St.arr_one (s:M.St):s.arr.all (·.oneCell')=true:=by
 rw [Array.all_eq_true_iff_forall_mem]
 intro v hv
 have hv':v∈M.cells s.c 0 81:=by simpa [M.St.arr] using hv
 obtain ⟨j,_,rfl⟩:=List.mem_map.1 hv'
 exact St_one s _
theorem MSC.of_block {w:World} {B:Nat} {s:M.St} {t:TypeId} (h:w.heap[B]?=some (.cells s.arr t (0,0))):MSC w B s.c :=
 ⟨fun j hj=>by rw [cell_of_row _ _ _ _ _ _ h];exact s.arr_get j hj,fun j=>frozen_of_row _ _ _ _ _ h⟩
theorem Try.eqNoted (n0 n1 n2:Bool) (w:World):(Op.equalIn 10000 93 (.agg #[.bool n0,.bool n1,.bool n2]) (.agg #[.bool false,.bool false,.bool false])).run Try.prog w=.ok (!n0&&!n1&&!n2) w:=by
 cases n0<;>cases n1<;>cases n2<;>kernel_rfl
def M.St.can (ll:List (List M.D)) (s:M.St) (t:Nat):Bool:=match s.d? ll t with | none=>false | some d=>M.canD (s.t t) d
set_option maxHeartbeats 1000000 in
set_option maxRecDepth 100000 in
set_option linter.unusedSimpArgs false in
theorem canStep_any (a:Option Addr) (b o c:Nat) (late:Bool) (ll:List (List M.D)) (t:Nat) (s:M.St) (w:World) (h:DoSS w a b o ll) (htl:t < ll.length) (ht:t < 3) (h7:(ll.getD t []).length≤7) (hn:(s.t t).noted.length=3) (hnx:(s.t t).next≤(ll.getD t []).length) :
  Calls Try.prog 76 #[.agg #[.slice a ll.length c,.bool late],.agg s.arr,.int .i64 t] w fun e w'=>e=.returned (.bool (s.can ll t))∧Below w.heap.size w w':=by
 have hb2:=below2 w (.cells #[.slice a ll.length c,.bool late] 65) (.cells s.arr 99)
 have hm:MSC ((w.alloc (.cells #[.slice a ll.length c,.bool late] 65)).alloc (.cells s.arr 99)) (w.heap.size+1) s.c:=MSC.of_block (t:=99) (heap_alloc2_new _ _ _)
 have i1:(t:Int) < 3:=by omega
 go_enter Try.func76,Try.ntmps76
 go_wp2_with fail
 have k0:((w.alloc (.cells #[.slice a ll.length c,.bool late] 65)).alloc (.cells s.arr 99)).cell? ⟨w.heap.size,0,none⟩=some (.slice a ll.length c):=by simp
 have hh:=h.below hb2 (Nat.le_refl _)
 generalize (w.alloc (.cells #[.slice a ll.length c,.bool late] 65)).alloc (.cells s.arr 99)=W at *
 obtain ⟨K,hK⟩:∃ K,w.heap.size=K:=⟨_,rfl⟩
 have HK:Hid (w.heap.size=K):=hK
 rw [hK] at k0 hm hb2 ⊢
 clear hK
 obtain ⟨rfl⟩:=h.addr (by omega)
 obtain ⟨a',b',o',c',hc,hd⟩:=hh.row t htl
 have hrg:=hm.range (t * 26) 26 (by omega)
 have hcl:=M.cells_len s.c (t * 26) 26
 have hc1:∀ v∈M.cells s.c (t * 26) 26,v.oneCell'=true:=fun v hv=>by
  obtain ⟨j,_,rfl⟩:=List.mem_map.1 hv
  exact St_one s _
 have e0:∀ j,j < 26→(M.cells s.c (t * 26) 26).toArray[j]?=some ((s.t t).c j):=fun j hj=>by rw [List.getElem?_toArray,M.cells_get _ _ _ _ hj,M.St.c_th _ _ _ ht hj]
 have f0:=e0 0 (by omega)
 have f20:=e0 20 (by omega)
 have f23:=e0 23 (by omega)
 have f24:=e0 24 (by omega)
 have f25:=e0 25 (by omega)
 rw [M.Th.c_next] at f0
 rw [M.Th.c_coming] at f20
 rw [show (s.t t).c 23=.bool ((s.t t).noted.getD 0 false) from M.Th.c_noted _ 0] at f23
 rw [show (s.t t).c 24=.bool ((s.t t).noted.getD 1 false) from M.Th.c_noted _ 1] at f24
 rw [show (s.t t).c 25=.bool ((s.t t).noted.getD 2 false) from M.Th.c_noted _ 2] at f25
 clear e0
 generalize M.cells s.c (t * 26) 26=cs at *
 have hi26:(Try.prog.info? 95).map (·.size)=some cs.length:=by rw [hcl];kernel_rfl
 obtain ⟨n0,n1,n2,hnn⟩:∃ n0 n1 n2,(s.t t).noted=[n0,n1,n2]:=by
  match (s.t t).noted,hn with
  | [x,y,z],_=>exact ⟨x,y,z,rfl⟩
 have hq:decide ((s.t t).noted=M.quiet)=(!n0&&!n1&&!n2):=by rw [hnn];unfold M.quiet;cases n0<;>cases n1<;>cases n2<;>rfl
 rw [hnn] at f23 f24 f25
 change cs.toArray[23]?=some (.bool n0) at f23
 change cs.toArray[24]?=some (.bool n1) at f24
 change cs.toArray[25]?=some (.bool n2) at f25
 have hg:ll.getD t []=ll[t]:=by simp [htl]
 have HDD:Hid (s.d? ll t=ll[t][(s.t t).next]?):=by show _=_;rw [M.St.d?,hg]
 rw [hg] at h7 hnx
 have HQ:Hid (decide ((s.t t).noted=M.quiet)=(!n0&&!n1&&!n2)):=hq
 have HX:Hid (∀ d,M.canD (s.t t) d=(M.uses d.k||(decide ((s.t t).pend.length=0)&&(!n0&&!n1&&!n2)))):=fun d=>by rw [M.canD,hq]
 clear hq hnn hm hg h
 generalize (s.t t).next=nx at *
 generalize (s.t t).pend.length=pl at *
 generalize ll[t]=l at *
 have lb:b < W.heap.size:=World.block_lt_of_cell? _ _ hc
 have lK0:K < W.heap.size:=World.block_lt_of_cell? _ _ k0
 obtain ⟨z,hz,hzv⟩:=Try.zeroTh_any
 refine wp_region_held_drew (S:=fun w'=>w'.rangeAt (K+1) (t * 26) cs∧w'.cell? ⟨K,0,none⟩=some (.slice (some ⟨b,o,none⟩) ll.length c)∧w'.cell? ⟨b,o+t,none⟩=some (.slice a' l.length c')) (by kernel_rfl) ⟨by simpa using hrg,by simpa using k0,by simpa using hc⟩ (fun hHeld=>?_)
 refine takeD 0 (some 10) (.int .i64 t) hHeld rfl rfl (by kernel_rfl) (by kernel_rfl) (by kernel_rfl) (fun _ _ _ h=>h) (Or.inl ⟨by rfl,by intro w hSw;go_simp⟩) ?_
 simp only [Act.put,zqa,zqb,zqc]
 refine takeD 1 (some 11) (.pointer (some ⟨K+1,0,none⟩)) hHeld rfl rfl (by kernel_rfl) (by kernel_rfl) (by kernel_rfl) (fun _ _ _ h=>h) (Or.inl ⟨by rfl,by intro w hSw;go_simp⟩) ?_
 simp only [Act.put,zqa,zqb,zqc]
 refine takeD 2 (some 12) (.pointer (some ⟨K+1,t * 26,none⟩)) hHeld rfl rfl (by kernel_rfl) (by kernel_rfl) (by kernel_rfl) (fun _ _ _ h=>h) (Or.inl ⟨by rfl,by intro w hSw;go_simp⟩) ?_
 simp only [Act.put,zqa,zqb,zqc]
 refine takeD 3 (some 13) (.agg cs.toArray) hHeld rfl rfl (by kernel_rfl) (by kernel_rfl) (by kernel_rfl) (fun _ _ _ h=>h) (yieldsIf_load_mid (by rfl) _ _ rfl (K+1) (t * 26) rfl cs _ (fun w hw=>hw.1) Try.underlying95 rfl hi26) ?_
 simp only [Act.put,zqa,zqb,zqc]
 refine takeD 4 (some 14) (.pointer (some ⟨K,0,none⟩)) hHeld rfl rfl (by kernel_rfl) (by kernel_rfl) (by kernel_rfl) (fun _ _ _ h=>h) (Or.inl ⟨by rfl,by intro w hSw;go_simp⟩) ?_
 simp only [Act.put,zqa,zqb,zqc]
 refine takeD 5 (some 15) (.pointer (some ⟨K,0,none⟩)) hHeld rfl rfl (by kernel_rfl) (by kernel_rfl) (by kernel_rfl) (fun _ _ _ h=>h) (Or.inl ⟨by rfl,by intro w hSw;go_simp⟩) ?_
 simp only [Act.put,zqa,zqb,zqc]
 refine takeD 6 (some 16) (.slice (some ⟨b,o,none⟩) ll.length c) hHeld rfl rfl (by kernel_rfl) (by kernel_rfl) (by kernel_rfl) (fun _ _ _ h=>h) (Or.inl ⟨by rfl,by intro w hSw;have hc:=hSw.2.1;go_simp⟩) ?_
 simp only [Act.put,zqa,zqb,zqc]
 refine takeD 7 (some 17) (.int .i64 t) hHeld rfl rfl (by kernel_rfl) (by kernel_rfl) (by kernel_rfl) (fun _ _ _ h=>h) (Or.inl ⟨by rfl,by intro w hSw;go_simp⟩) ?_
 simp only [Act.put,zqa,zqb,zqc]
 refine takeD 8 (some 18) (.pointer (some ⟨b,o+t,none⟩)) hHeld rfl rfl (by kernel_rfl) (by kernel_rfl) (by kernel_rfl) (fun _ _ _ h=>h) (Or.inl ⟨by rfl,by intro w hSw;go_simp⟩) ?_
 simp only [Act.put,zqa,zqb,zqc]
 refine takeD 9 (some 19) (.slice a' l.length c') hHeld rfl rfl (by kernel_rfl) (by kernel_rfl) (by kernel_rfl) (fun _ _ _ h=>h) (Or.inl ⟨by rfl,by intro w hSw;have hc:=hSw.2.2;go_simp⟩) ?_
 simp only [Act.put,zqa,zqb,zqc]
 refine ry 10 rfl (fun K' hK=>?_)
 rw [if_pos (by rfl)]
 refine wp_alloc_row 95 rfl (some 7) rfl z hzv W.heap.size rfl ?_
 refine hK.out _ _ ⟨World.rangeAt_alloc hHeld.1 _,by rw [World.cell?_alloc_lt _ _ _ (show K < W.drew.heap.size from lK0)];exact hHeld.2.1,by rw [World.cell?_alloc_lt _ _ _ (show b < W.drew.heap.size from lb)];exact hHeld.2.2⟩ (fun hHeld2=>?_)
 clear hK K'
 simp only [Act.put,zqa,zqb,zqc]
 refine ry 11 rfl (fun K' hK=>?_)
 rw [if_pos (by rfl)]
 refine wp_store_new (w:=W.drew) 95 (.tmp 7) (.tmp 13) rfl none rfl z cs.toArray rfl rfl (by rw [List.size_toArray];exact hi26) (by rw [hz,List.size_toArray,hcl]) (all_oneCell_toArray hc1) ?_
 refine hK.out _ _ ⟨World.rangeAt_alloc hHeld.1 _,by rw [World.cell?_alloc_lt _ _ _ (show K < W.drew.heap.size from lK0)];exact hHeld.2.1,by rw [World.cell?_alloc_lt _ _ _ (show b < W.drew.heap.size from lb)];exact hHeld.2.2⟩ (fun hHeld3=>?_)
 clear hK K'
 simp only [Act.put,zqa,zqb,zqc]
 refine takeD 12 (some 8) (.slice a' l.length c') hHeld3 rfl rfl (by kernel_rfl) (by kernel_rfl) (by kernel_rfl) (fun _ _ _ h=>h) (Or.inl ⟨by rfl,by intro w hSw;go_simp⟩) ?_
 simp only [Act.put,zqa,zqb,zqc]
 refine wpAnyH_done (by kernel_rfl) ?_ _
 change Exit.then _ _ _ _ (W.alloc (.cells cs.toArray 95)).drew
 have hb3:=hb2.alloc (by have:=hb2.size;rwa [HK.out] at this) (.cells cs.toArray 95)
 have hd3:=hd.below (below1 W (.cells cs.toArray 95)) (Nat.le_refl _)
 have cel:∀ j,(W.alloc (.cells cs.toArray 95)).cell? ⟨W.heap.size,j,none⟩=cs.toArray[j]?:=fun j=>cell_of_row _ _ _ _ _ _ (heap_alloc_new W _)
 have g0:=(cel 0).trans f0
 have g20:=(cel 20).trans f20
 have g23:=(cel 23).trans f23
 have g24:=(cel 24).trans f24
 have g25:=(cel 25).trans f25
 clear cel hHeld hHeld2 hHeld3 f0 f20 f23 f24 f25 hz hzv hc1 hrg hi26 lb lK0 hc k0
 generalize W.alloc (.cells cs.toArray 95)=W3 at *
 generalize W.heap.size=H at *
 by_cases hlt:nx < l.length
 ·have hne:((nx:Int)==l.length)=false:=by simp;omega
  obtain ⟨rfl⟩:=hd.addr (by omega)
  obtain ⟨ck,_,_⟩:=hd3.row nx hlt
  have HE:Hid (l[nx]?=some l[nx]):=by show _=_;simp [hlt]
  generalize l[nx]=d at *
  have i2:(nx:Int) < l.length:=by omega
  have HC:Hid (s.can ll t=(M.uses d.k||(decide (pl=0)&&(!n0&&!n1&&!n2)))):=by show _=_;rw [M.St.can,HDD.out,HE.out];exact HX.out d
  cases hu:M.uses d.k
  ·have HC:Hid (s.can ll t=(decide (pl=0)&&(!n0&&!n1&&!n2))):=by show _=_;rw [HC.out,hu];rfl
   by_cases hp:pl=0
   ·subst hp
    have HC:Hid (s.can ll t=(!n0&&!n1&&!n2)):=by show _=_;rw [HC.out];rfl
    have heq:=Try.eqNoted n0 n1 n2
    go_wp2_with (go_at_call 74;refine (uses_any _ _).mono ?_;rw [hu];rintro e w' ⟨rfl,rfl⟩)
    go_ret
    exact ⟨by rw [HC.out];rfl,HK.out▸hb3.drew⟩
   ·have hp':((pl:Int)==0)=false:=by simp;omega
    go_wp2_with (go_at_call 74;refine (uses_any _ _).mono ?_;rw [hu];rintro e w' ⟨rfl,rfl⟩)
    go_ret
    exact ⟨by rw [HC.out];simp [hp],HK.out▸hb3.drew⟩
  ·go_wp2_with (go_at_call 74;refine (uses_any _ _).mono ?_;rw [hu];rintro e w' ⟨rfl,rfl⟩)
   go_ret
   exact ⟨by rw [HC.out,hu];rfl,HK.out▸hb3.drew⟩
 ·obtain rfl:nx=l.length:=by omega
  have HC:Hid (s.can ll t=false):=by show _=_;rw [M.St.can,HDD.out,List.getElem?_eq_none (Nat.le_refl _)]
  go_wp2_with fail
  go_ret
  exact ⟨by rw [HC.out];rfl,HK.out▸hb3.drew⟩
end
section
open Go.RowKit
structure M.Fit (s:M.St) (t:Nat) (d:M.D):Prop where
 th:s.th.length=3
 at_:s.at_.length=3
 t3:t < 3
 rd:M.reads d.k=true→(s.t t).vals.length < 6
 wr:M.writes d.k=true→(s.t t).pend.length < 6
 cp:d.k=3→0 < (s.t t).vals.length∧(s.t t).vals.length≤6
 pl:(s.t t).pend.length≤6
 pr:∀ q∈(s.t t).pend,0≤q.1∧q.1 < 3
 nt:∀ i,i < 3→(s.t i).noted.length=3
 us:M.uses d.k=true→0≤d.p∧d.p < 3
 nx:(s.t t).next≤7
theorem M.keep_len (s:M.St) (t:Nat) (v:Int):(s.keep t v).th.length=s.th.length:=by simp [M.St.keep,M.St.put]
theorem M.come_len (s:M.St) (t:Nat):(s.come t).th.length=s.th.length:=by unfold M.St.come;split<;>simp
theorem M.write_len (late:Bool) (s:M.St) (t:Nat) (p v:Int):(s.write late t p v).th.length=s.th.length:=by
 unfold M.St.write;split
 ·simp [M.St.later,M.St.put]
 ·rw [M.come_len];simp [M.St.later,M.St.put]
theorem M.goIn_len (s:M.St) (t:Nat):(s.goIn t).th.length=s.th.length:=by simp [M.St.goIn,M.St.put]
theorem M.goOut_len (s:M.St) (t:Nat):(s.goOut t).th.length=s.th.length:=by simp [M.St.goOut,M.St.put]
theorem M.stop_len (s:M.St) (t:Nat):(s.stop t).th.length=s.th.length:=by simp [M.St.stop,M.St.put]
theorem M.come_next (s:M.St) (t i:Nat) (h:t < s.th.length):((s.come t).t i).next=(s.t i).next:=by
 unfold M.St.come
 split
 ·rfl
 ·rename_i q r hq
  show (M.St.t (s.put t { s.t t with pend:=r }) i).next=_
  rw [M.t_put _ _ _ _ h]
  split
  ·rename_i e;subst e;rfl
  ·rfl
theorem M.write_next (late:Bool) (s:M.St) (t i:Nat) (p v:Int) (h:t < s.th.length):((s.write late t p v).t i).next=(s.t i).next:=by
 have h1:((s.later t p v).t i).next=(s.t i).next:=by
  unfold M.St.later;rw [M.t_put _ _ _ _ h];split
  ·rename_i e;subst e;rfl
  ·rfl
 unfold M.St.write;split
 ·exact h1
 ·rw [M.come_next _ _ _ (by simp [M.St.later,M.St.put,h])];exact h1
theorem M.keep_next (s:M.St) (t i:Nat) (v:Int) (h:t < s.th.length):((s.keep t v).t i).next=(s.t i).next:=by
 unfold M.St.keep;rw [M.t_put _ _ _ _ h];split
 ·rename_i e;subst e;rfl
 ·rfl
theorem M.goIn_next (s:M.St) (t i:Nat) (h:t < s.th.length):((s.goIn t).t i).next=(s.t i).next:=by
 unfold M.St.goIn;rw [M.t_put _ _ _ _ h];split
 ·rename_i e;subst e;rfl
 ·rfl
theorem M.stop_next (s:M.St) (t i:Nat) (h:t < s.th.length):((s.stop t).t i).next=(s.t i).next:=by
 unfold M.St.stop;rw [M.t_put _ _ _ _ h];split
 ·rename_i e;subst e;rfl
 ·rfl
theorem M.goOut_next (s:M.St) (t i:Nat) (h:t < s.th.length) (hs:s.th.length=3) (hi:i < 3):((s.goOut t).t i).next=(s.t i).next:=by
 rw [M.goOut_t s t i hs hi]
 show (M.St.t (s.put t { s.t t with inn:=false }) i).next=_
 rw [M.t_put _ _ _ _ h];split
 ·rename_i e;subst e;rfl
 ·rfl
theorem bump_end {w:World} {B t n:Nat} {s:M.St} (h:MSC w B s.c) (hs:s.th.length=3) (ht:t < 3) (hn:(s.t t).next=n):w.cell? ⟨B,t * 26,none⟩=some (.int .i64 n)∧MSC (w.setCell ⟨B,t * 26,none⟩ (.int .i64 ((n:Int)+1))) B (s.bump t).c:=by
 subst hn
 exact ⟨h.th0 ht,(h.set (i:=t * 26) (by omega) _).congr (M.bump_c s t hs ht)⟩
set_option maxHeartbeats 2000000 in
set_option maxRecDepth 100000 in
theorem step_any (a:Option Addr) (b o c:Nat) (late:Bool) (ll:List (List M.D)) (B t:Nat) (s:M.St) (d:M.D) (w0 w:World) (h0:DoSS w0 a b o ll) (hb0:Below w0.heap.size w0 w) (htl:t < ll.length) (hd:s.d? ll t=some d) (F:M.Fit s t d) (h:MSC w B s.c) :
  Calls Try.prog 77 #[.agg #[.slice a ll.length c,.bool late],.pointer (some ⟨B,0,none⟩),.int .i64 t] w fun e w'=>e=.returned (.tuple #[])∧MSC w' B (s.stepD late t d).c∧But B w w':=by
 have hbx:=below1 w (.cells #[.slice a ll.length c,.bool late] 65)
 have k0:(w.alloc (.cells #[.slice a ll.length c,.bool late] 65)).cell? ⟨w.heap.size,0,none⟩=some (.slice a ll.length c):=by simp
 have k1:(w.alloc (.cells #[.slice a ll.length c,.bool late] 65)).cell? ⟨w.heap.size,1,none⟩=some (.bool late):=by simp
 have h1:=h.below hbx (Nat.le_refl _)
 have hb1:=But.of (rb:=B) hbx
 have hKB:w.heap.size≠B:=Nat.ne_of_gt h.lt
 have ht:=F.t3
 have i1:(t:Int) < 3:=by omega
 have hp1:=h0.below (hb0.trans (hbx.mono hb0.size)) (Nat.le_refl _)
 go_enter Try.func77,Try.ntmps77
 go_wp2_with fail
 generalize w.alloc (.cells #[.slice a ll.length c,.bool late] 65)=W at *
 generalize w.heap.size=K at *
 obtain ⟨rfl⟩:=h0.addr (by omega)
 obtain ⟨a',b',o',c',hc,hdd⟩:=hp1.row t htl
 have hnx:=h1.th0 ht
 have hg:ll.getD t []=ll[t]:=by simp [htl]
 rw [M.St.d?,hg] at hd
 have hlt:(s.t t).next < ll[t].length:=by
  rcases Nat.lt_or_ge (s.t t).next ll[t].length with h | h
  ·exact h
  ·rw [List.getElem?_eq_none h] at hd;cases hd
 have hde:ll[t][(s.t t).next]=d:=by rw [List.getElem?_eq_getElem hlt] at hd;exact Option.some.inj hd
 obtain ⟨rfl⟩:=hdd.addr (by omega)
 have hrow:=hdd.row _ hlt
 rw [hde] at hrow
 obtain ⟨ck,cp,cv⟩:=hrow
 have i2:((s.t t).next:Int) < ll[t].length:=by omega
 have i3:(t:Int) < ll.length:=by omega
 have lb:b < W.heap.size:=World.block_lt_of_cell? _ _ hc
 have lb':b' < W.heap.size:=World.block_lt_of_cell? _ _ ck
 have lK:K < W.heap.size:=World.block_lt_of_cell? _ _ k0
 have lB:B < W.heap.size:=h1.lt
 clear hd hde hp1 hdd hg hbx h0
 generalize ll[t]=l at *
 obtain ⟨nx,hnxe⟩:∃ nx,(s.t t).next=nx:=⟨_,rfl⟩
 have HNX:Hid ((s.t t).next=nx):=hnxe
 have nx7:=F.nx
 rw [hnxe] at ck cp cv i2 hlt hnx nx7
 clear hnxe
 go_region
 have hby:=below1 W (.cells #[.int .i64 d.k,.int .i64 d.p,.int .i64 d.v] 84)
 have h2:=(h1.below hby (Nat.le_refl _)).drew
 have hb2:=(hb1.trans (But.of (rb:=B) hby)).drew
 have q0:(W.alloc (.cells #[.int .i64 d.k,.int .i64 d.p,.int .i64 d.v] 84)).drew.cell? ⟨W.heap.size,0,none⟩=some (.int .i64 d.k):=by simp
 have q1:(W.alloc (.cells #[.int .i64 d.k,.int .i64 d.p,.int .i64 d.v] 84)).drew.cell? ⟨W.heap.size,1,none⟩=some (.int .i64 d.p):=by simp
 have q2:(W.alloc (.cells #[.int .i64 d.k,.int .i64 d.p,.int .i64 d.v] 84)).drew.cell? ⟨W.heap.size,2,none⟩=some (.int .i64 d.v):=by simp
 have k0':(W.alloc (.cells #[.int .i64 d.k,.int .i64 d.p,.int .i64 d.v] 84)).drew.cell? ⟨K,0,none⟩=some (.slice (some ⟨b,o,none⟩) ll.length c):=(hby.cell (p:=⟨K,0,none⟩) lK).trans k0
 have k1':(W.alloc (.cells #[.int .i64 d.k,.int .i64 d.p,.int .i64 d.v] 84)).drew.cell? ⟨K,1,none⟩=some (.bool late):=(hby.cell (p:=⟨K,1,none⟩) lK).trans k1
 have hHB:W.heap.size≠B:=Nat.ne_of_gt lB
 clear hby h1 hb1 k0 k1 hc ck cp cv hnx lb lb' lK lB
 generalize (W.alloc (.cells #[.int .i64 d.k,.int .i64 d.p,.int .i64 d.v] 84)).drew=W2 at *
 generalize W.heap.size=H at *
 have fz2:=h2.fz
 cases hr:M.reads d.k
 ·cases hst:M.stores d.k
  ·by_cases e3:d.k=3
   ·have HS:Hid (s.stepD late t d=(s.write late t d.p ((s.t t).vals.getD ((s.t t).vals.length - 1) 0)).bump t):=by show _=_;unfold M.St.stepD;rw [if_neg (by simp [hr]),if_neg (by simp [hst]),if_pos (by simp [e3])]
    obtain ⟨p0,p3⟩:=F.us (by simp [M.uses,M.writes,e3])
    obtain ⟨n0,n6⟩:=F.cp e3
    have c7:=h2.th ht (j:=7) (by omega)
    rw [M.Th.c_reads] at c7
    have cr:=h2.th ht (j:=1+((s.t t).vals.length - 1)) (by omega)
    rw [M.Th.c_val _ _ (by omega),← Nat.add_assoc] at cr
    have hwa:=fun v=>write_any (some ⟨b,o,none⟩) ll.length c late B t s d.p v W2.drew ht F.th F.at_ (F.wr (by simp [M.writes,e3])) F.pr p0 p3 h2.drew
    obtain ⟨n,hn⟩:∃ n,(s.t t).vals.length=n+1:=⟨(s.t t).vals.length - 1,by omega⟩
    rw [hn,Nat.add_sub_cancel] at cr HS
    rw [hn] at c7
    generalize (s.t t).vals.getD n 0=v at *
    have hwa:=hwa v
    have hnx3:=fun w3 (h3:MSC w3 B (s.write late t d.p v).c)=>bump_end (n:=nx) h3 (by rw [M.write_len];exact F.th) ht ((M.write_next late s t t d.p v (by rw [F.th];exact ht)).trans HNX.out)
    have n6':n < 6:=by omega
    have i5:(n:Int) < 6:=by omega
    have hwr:IntKind.i64.wrap (n:Int)=n:=by rw [IntKind.wrap_i64];omega
    have lK:K < W2.heap.size:=World.block_lt_of_cell? _ _ k0'
    have lH:H < W2.heap.size:=World.block_lt_of_cell? _ _ q1
    have lB:=h2.lt
    clear hn n0 n6 h2
    rw [e3] at q0 hr hst
    go_wp2_with (first | (go_at_call 91;refine (reads_any _ _).mono ?_;rw [hr];rintro e W3 ⟨rfl,rfl⟩) | (go_at_call 95;refine (stores_any _ _).mono ?_;rw [hst];rintro e W3 ⟨rfl,rfl⟩))
    have g0:∀ w',But B W3 w'→w'.cell? ⟨K,0,none⟩=some (.slice (some ⟨b,o,none⟩) ll.length c):=fun w' h=>(h.cell (p:=⟨K,0,none⟩) lK hKB).trans k0'
    have g1:∀ w',But B W3 w'→w'.cell? ⟨K,1,none⟩=some (.bool late):=fun w' h=>(h.cell (p:=⟨K,1,none⟩) lK hKB).trans k1'
    have g2:∀ w',But B W3 w'→w'.cell? ⟨H,1,none⟩=some (.int .i64 d.p):=fun w' h=>(h.cell (p:=⟨H,1,none⟩) lH hHB).trans q1
    refine wp_region_held_drew (S:=fun w'=>But B W3 w') (by kernel_rfl) (But.refl _ _).drew (fun hH=>?_)
    refine tk 0 53 (.agg #[.slice (some ⟨b,o,none⟩) ll.length c,.bool late]) hH rfl rfl (by intro w' hSw;have hc0:=g0 w' hSw;have hc1:=g1 w' hSw;go_simp) ?_
    try simp only [Act.put,zqa,zqb,zqc]
    refine tk 1 54 (.pointer (some ⟨B,0,none⟩)) hH rfl rfl (by intro w' hSw;go_simp) ?_
    try simp only [Act.put,zqa,zqb,zqc]
    refine tk 2 55 (.int .i64 t) hH rfl rfl (by intro w' hSw;go_simp) ?_
    try simp only [Act.put,zqa,zqb,zqc]
    refine tk 3 56 (.pointer (some ⟨H,1,none⟩)) hH rfl rfl (by intro w' hSw;go_simp) ?_
    try simp only [Act.put,zqa,zqb,zqc]
    refine tk 4 57 (.int .i64 d.p) hH rfl rfl (by intro w' hSw;have hc0:=g2 w' hSw;go_simp) ?_
    try simp only [Act.put,zqa,zqb,zqc]
    refine tk 5 58 (.pointer (some ⟨B,t * 26,none⟩)) hH rfl rfl (by intro w' hSw;go_simp) ?_
    try simp only [Act.put,zqa,zqb,zqc]
    refine tk 6 59 (.pointer (some ⟨B,t * 26,none⟩)) hH rfl rfl (by intro w' hSw;go_simp) ?_
    try simp only [Act.put,zqa,zqb,zqc]
    refine tk 7 60 (.pointer (some ⟨B,t * 26,none⟩)) hH rfl rfl (by intro w' hSw;go_simp) ?_
    try simp only [Act.put,zqa,zqb,zqc]
    refine tk 8 61 (.pointer (some ⟨B,t * 26+7,none⟩)) hH rfl rfl (by intro w' hSw;go_simp) ?_
    try simp only [Act.put,zqa,zqb,zqc]
    have d7:W3.drew.cell? ⟨B,t * 26+7,none⟩=some (.int .i64 ((n:Int)+1)):=c7
    have dr:W3.drew.cell? ⟨B,t * 26+1+n,none⟩=some (.int .i64 v):=cr
    refine tk 11 64 (.pointer (some ⟨B,t * 26,none⟩)) hH rfl rfl (by intro w' hSw;go_simp) ?_
    try simp only [Act.put,zqa,zqb,zqc]
    refine tk 12 65 (.pointer (some ⟨B,t * 26+1,none⟩)) hH rfl rfl (by intro w' hSw;go_simp) ?_
    try simp only [Act.put,zqa,zqb,zqc]
    refine ry 9 rfl (fun K' hK=>?_)
    rw [if_pos (by rfl)]
    have hcx:=d7
    go_simp
    refine hK.out _ _ hH (fun hH1=>?_)
    clear hK K' hcx
    try simp only [Act.put,zqa,zqb,zqc]
    refine tk 10 63 (.int .i64 n) hH1 rfl rfl (by intro w' hSw;go_simp) ?_
    try simp only [Act.put,zqa,zqb,zqc]
    refine tk 13 66 (.pointer (some ⟨B,t * 26+1+n,none⟩)) hH1 rfl rfl (by intro w' hSw;go_simp) ?_
    try simp only [Act.put,zqa,zqb,zqc]
    refine ry 14 rfl (fun K' hK=>?_)
    rw [if_pos (by rfl)]
    have hcx:=dr
    go_simp
    refine hK.out _ _ hH1 (fun hH2=>?_)
    clear hK K' hcx
    try simp only [Act.put,zqa,zqb,zqc]
    refine tk 15 68 (.agg #[.int .i64 d.p,.int .i64 v]) hH2 rfl rfl (by intro w' hSw;go_simp) ?_
    try simp only [Act.put,zqa,zqb,zqc]
    refine ry 16 rfl (fun K' hK=>?_)
    refine sg 69 rfl 96 #[.tmp 53,.tmp 54,.tmp 55,.tmp 68] rfl #[.agg #[.slice (some ⟨b,o,none⟩) ll.length c,.bool late],.pointer (some ⟨B,0,none⟩),.int .i64 t,.agg #[.int .i64 d.p,.int .i64 v]] (enters_of Try.func96 (by kernel_rfl) rfl) hwa ?_
    rintro e w3 ⟨rfl,h3,hb3⟩
    refine ⟨_,rfl,hK.out _ _ ((But.refl B W3).drew.trans hb3) (fun hHz=>?_)⟩
    clear hK K'
    try simp only [Act.put,zqa,zqb,zqc]
    refine wpAnyH_done (by kernel_rfl) ?_ _
    have fz3:=h3.fz
    obtain ⟨c0,h4⟩:=hnx3 w3 h3
    go_wp2_with fail
    exact bodyPost_end (v:=.tuple #[]) (results_none Try.results77 _ _ _) rfl ⟨rfl,by rw [HS.out];exact h4,(hb2.drew.trans hb3).setCell (Or.inr rfl) _⟩
   ·have e3':(d.k==3)=false:=by simp [e3]
    by_cases e7:d.k=7
    ·have HS:Hid (s.stepD late t d=(s.goIn t).bump t):=by show _=_;unfold M.St.stepD;rw [if_neg (by simp [hr]),if_neg (by simp [hst]),if_neg (by simp [e3]),if_pos (by simp [e7])]
     have c21:=h2.th ht (j:=21) (by omega)
     rw [M.Th.c_in] at c21
     have h3:=(h2.set (i:=t * 26+21) (by omega) (.bool true)).congr (M.goIn_c s t F.th ht)
     have hb3:=hb2.setCell (p:=⟨B,t * 26+21,none⟩) (Or.inr rfl) (.bool true)
     obtain ⟨c0,h4⟩:=bump_end (n:=nx) h3 (by rw [M.goIn_len];exact F.th) ht ((M.goIn_next s t t (by rw [F.th];exact ht)).trans HNX.out)
     rw [e7] at q0 hr hst
     clear h2 h3
     go_wp2_with (first | (go_at_call 91;refine (reads_any _ _).mono ?_;rw [hr];rintro e w' ⟨rfl,rfl⟩) | (go_at_call 95;refine (stores_any _ _).mono ?_;rw [hst];rintro e w' ⟨rfl,rfl⟩))
     exact bodyPost_end (v:=.tuple #[]) (results_none Try.results77 _ _ _) rfl ⟨rfl,by rw [HS.out];exact h4,(hb3).setCell (Or.inr rfl) _⟩
    ·have e7':(d.k==7)=false:=by simp [e7]
     by_cases e8:d.k=8
     ·have HS:Hid (s.stepD late t d=(s.goOut t).bump t):=by show _=_;unfold M.St.stepD;rw [if_neg (by simp [hr]),if_neg (by simp [hst]),if_neg (by simp [e3]),if_neg (by simp [e7]),if_pos (by simp [e8])]
      rw [e8] at q0 hr hst
      go_wp2_with (first | (go_at_call 91;refine (reads_any _ _).mono ?_;rw [hr];rintro e w' ⟨rfl,rfl⟩) | (go_at_call 95;refine (stores_any _ _).mono ?_;rw [hst];rintro e w' ⟨rfl,rfl⟩) | (go_at_call 97;refine (goOut_any B t s _ ht F.th F.nt h2).mono ?_;rintro e w3 ⟨rfl,h3,hb3⟩;have fz3:=h3.fz;obtain ⟨c0,h4⟩:=bump_end (n:=nx) h3 (by rw [M.goOut_len];exact F.th) ht ((M.goOut_next s t t (by rw [F.th];exact ht) F.th ht).trans HNX.out)))
      exact bodyPost_end (v:=.tuple #[]) (results_none Try.results77 _ _ _) rfl ⟨rfl,by rw [HS.out];exact h4,(hb2.trans hb3).setCell (Or.inr rfl) _⟩
     ·have e8':(d.k==8)=false:=by simp [e8]
      have c22:=h2.th ht (j:=22) (by omega)
      rw [M.Th.c_waits] at c22
      by_cases e9:d.k=9
      ·cases hw:(s.t t).waits
       ·have HS:Hid (s.stepD late t d=s.begin_ t):=by show _=_;unfold M.St.stepD;rw [if_neg (by simp [hr]),if_neg (by simp [hst]),if_neg (by simp [e3]),if_neg (by simp [e7]),if_neg (by simp [e8]),if_pos (by simp [e9]),if_neg (by simp [hw])]
        rw [e9] at q0 hr hst
        rw [hw] at c22
        go_wp2_with (first | (go_at_call 91;refine (reads_any _ _).mono ?_;rw [hr];rintro e w' ⟨rfl,rfl⟩) | (go_at_call 95;refine (stores_any _ _).mono ?_;rw [hst];rintro e w' ⟨rfl,rfl⟩) | (go_at_call 98;refine (beginWait_any B t s _ ht F.th h2).mono ?_;rintro e w3 ⟨rfl,h3,hb3⟩))
        exact bodyPost_ret (v:=.tuple #[]) (results_none Try.results77 _ _ _) rfl ⟨rfl,by rw [HS.out];exact h3,hb2.trans hb3⟩
       ·have HS:Hid (s.stepD late t d=(s.stop t).bump t):=by show _=_;unfold M.St.stepD;rw [if_neg (by simp [hr]),if_neg (by simp [hst]),if_neg (by simp [e3]),if_neg (by simp [e7]),if_neg (by simp [e8]),if_pos (by simp [e9]),if_pos (by simp [hw])]
        have h3:=(h2.set (i:=t * 26+22) (by omega) (.bool false)).congr (M.stop_c s t F.th ht)
        have hb3:=hb2.setCell (p:=⟨B,t * 26+22,none⟩) (Or.inr rfl) (.bool false)
        obtain ⟨c0,h4⟩:=bump_end (n:=nx) h3 (by rw [M.stop_len];exact F.th) ht ((M.stop_next s t t (by rw [F.th];exact ht)).trans HNX.out)
        rw [e9] at q0 hr hst
        rw [hw] at c22
        clear h2 h3
        go_wp2_with (first | (go_at_call 91;refine (reads_any _ _).mono ?_;rw [hr];rintro e w' ⟨rfl,rfl⟩) | (go_at_call 95;refine (stores_any _ _).mono ?_;rw [hst];rintro e w' ⟨rfl,rfl⟩))
        exact bodyPost_end (v:=.tuple #[]) (results_none Try.results77 _ _ _) rfl ⟨rfl,by rw [HS.out];exact h4,(hb3).setCell (Or.inr rfl) _⟩
      ·have e9':(d.k==9)=false:=by simp [e9]
       have HS:Hid (s.stepD late t d=s.bump t):=by show _=_;unfold M.St.stepD;rw [if_neg (by simp [hr]),if_neg (by simp [hst]),if_neg (by simp [e3]),if_neg (by simp [e7]),if_neg (by simp [e8]),if_neg (by simp [e9])]
       obtain ⟨c0,h4⟩:=bump_end (n:=nx) h2 F.th ht HNX.out
       go_wp2_with (first | (go_at_call 91;refine (reads_any _ _).mono ?_;rw [hr];rintro e w' ⟨rfl,rfl⟩) | (go_at_call 95;refine (stores_any _ _).mono ?_;rw [hst];rintro e w' ⟨rfl,rfl⟩))
       exact bodyPost_end (v:=.tuple #[]) (results_none Try.results77 _ _ _) rfl ⟨rfl,by rw [HS.out];exact h4,(hb2).setCell (Or.inr rfl) _⟩
  ·have HS:Hid (s.stepD late t d=(s.write late t d.p d.v).bump t):=by show _=_;unfold M.St.stepD;rw [if_neg (by simp [hr]),if_pos (by simp [hst])]
   obtain ⟨p0,p3⟩:=F.us (by simp [M.uses,M.writes,hst])
   go_wp2_with (first | (go_at_call 91;refine (reads_any _ _).mono ?_;rw [hr];rintro e w' ⟨rfl,rfl⟩) | (go_at_call 95;refine (stores_any _ _).mono ?_;rw [hst];rintro e w' ⟨rfl,rfl⟩) | (go_at_call 96;refine (write_any _ _ _ late B t s d.p d.v _ ht F.th F.at_ (F.wr (by simp [M.writes,hst])) F.pr p0 p3 h2).mono ?_;rintro e w3 ⟨rfl,h3,hb3⟩;have fz3:=h3.fz;obtain ⟨c0,h4⟩:=bump_end (n:=nx) h3 (by rw [M.write_len];exact F.th) ht ((M.write_next late s t t d.p d.v (by rw [F.th];exact ht)).trans HNX.out)))
   exact bodyPost_end (v:=.tuple #[]) (results_none Try.results77 _ _ _) rfl ⟨rfl,by rw [HS.out];exact h4,(hb2.trans hb3).setCell (Or.inr rfl) _⟩
 ·have HS:Hid (s.stepD late t d=(s.keep t (s.look t d.p)).bump t):=by show _=_;unfold M.St.stepD;rw [if_pos (by simp [hr])]
  obtain ⟨p0,p3⟩:=F.us (by simp [M.uses,hr])
  obtain ⟨pn,hpn⟩:∃ n:Nat,d.p=n:=⟨d.p.toNat,by omega⟩
  rw [hpn] at q1 p3 HS
  go_wp2_with (first | (go_at_call 91;refine (reads_any _ _).mono ?_;rw [hr];rintro e w' ⟨rfl,rfl⟩) | (go_at_call 94;refine (valueFor_any B t pn s _ ht (by omega) F.pl h2).mono ?_;rintro e w' ⟨rfl,rfl⟩) | (go_at_call 93;refine (keep_any B t s _ _ ht F.th (F.rd hr) h2).mono ?_;rintro e w3 ⟨rfl,h3,hb3⟩;have fz3:=h3.fz;obtain ⟨c0,h4⟩:=bump_end (n:=nx) h3 (by rw [M.keep_len];exact F.th) ht ((M.keep_next s t t _ (by rw [F.th];exact ht)).trans HNX.out)))
  exact bodyPost_end (v:=.tuple #[]) (results_none Try.results77 _ _ _) rfl ⟨rfl,by rw [HS.out];exact h4,(hb2.trans hb3).setCell (Or.inr rfl) _⟩
end
section
open Go.RowKit
def M.tot (f:Int→Bool):List (List M.D)→Nat
 | []=>0
 | t::l=>M.cnt f t+M.tot f l
theorem M.from_le {ll:List (List M.D)}:∀ {a u:Nat},M.progFrom a u ll=true→∀ t∈ll,t.length≤7:=by
 induction ll with
 | nil=>intro a u _ t ht;simp at ht
 | cons t l ih =>
  intro a u h t' ht'
  by_cases hb:M.thread t=true
  ·simp only [M.progFrom,hb,if_true] at h
   rcases List.mem_cons.1 ht' with rfl | hm
   ·exact M.thread_le hb
   ·exact ih h t' hm
  ·simp [M.progFrom,hb] at h
theorem M.prog_le {ll:List (List M.D)} (h:M.prog ll=true):ll.length≤3∧∀ t∈ll,t.length≤7:=by
 simp only [M.prog,Bool.and_eq_true,decide_eq_true_eq] at h
 exact ⟨h.1,M.from_le h.2⟩
end
section
namespace M
theorem cnt_mono {f g:Int→Bool} (h:∀ k,f k=true→g k=true) (l:List D):cnt f l≤cnt g l:=by
 induction l with
 | nil=>exact Nat.le_refl _
 | cons d l ih =>
  rw [cnt_cons,cnt_cons]
  cases hf:f d.k
  ·simp;omega
  ·rw [h _ hf];omega
theorem from_uses {l:List (List D)}:∀ {a u:Nat},progFrom a u l=true→u+tot uses l≤6∧∀ t∈l,thread t=true:=by
 induction l with
 | nil=>intro a u h;simp [progFrom] at h;exact ⟨by simp [tot];omega,fun t ht=>absurd ht (by simp)⟩
 | cons t l ih =>
  intro a u h
  by_cases hb:thread t=true
  ·simp only [progFrom,hb,if_true] at h
   obtain ⟨h1,h2⟩:=ih h
   refine ⟨by simp only [tot];omega,fun t' ht'=>?_⟩
   rcases List.mem_cons.1 ht' with rfl | hm
   ·exact hb
   ·exact h2 t' hm
  ·simp [progFrom,hb] at h
theorem cnt_tot {f:Int→Bool} {l:List (List D)} {t:List D} (h:t∈l):cnt f t≤tot f l:=by
 induction l with
 | nil=>simp at h
 | cons t' l ih =>
  simp only [tot]
  rcases List.mem_cons.1 h with rfl | hm
  ·omega
  ·have:=ih hm;omega
theorem prog_uses {l:List (List D)} (h:prog l=true):tot uses l≤6∧∀ t∈l,thread t=true:=by
 simp only [prog,Bool.and_eq_true,decide_eq_true_eq] at h
 have:=from_uses h.2
 exact ⟨by omega,this.2⟩
end M
end
section
namespace M
structure ThOk (l:List D):Prop where
 len:l.length≤7
 rd:cnt reads l≤6
 wr:cnt writes l≤6
 cp:∀ i d,l[i]?=some d→d.k=3→0 < cnt reads (l.take i)
 pl:∀ d∈l,uses d.k=true→0≤d.p∧d.p < 3
 vl:∀ d∈l,stores d.k=true→0≤d.v∧d.v≤3
theorem copies_at:∀ (l:List D) (r:Bool),copies r l=true→∀ i d,l[i]?=some d→d.k=3→r=true∨0 < cnt reads (l.take i)
 | [],_,_,_,_,h,_=>by simp at h
 | e::l,r,hc,0,d,h,hk=>by
  obtain rfl:e=d:=by simpa using h
  cases r
  ·simp [copies,hk] at hc
  ·exact Or.inl rfl
 | e::l,r,hc,i+1,d,h,hk=>by
  rw [copies] at hc
  split at hc
  ·cases hc
  ·rw [List.take_succ_cons,cnt_cons]
   rcases copies_at l _ hc i d (by simpa using h) hk with h | h
   ·cases r
    ·right
     have:reads e.k=true:=by simpa using h
     rw [if_pos this];omega
    ·exact Or.inl rfl
   ·right;omega
theorem thOk_of {ll:List (List D)} (h:prog ll=true) (t:Nat):ThOk (ll.getD t []):=by
 rcases Nat.lt_or_ge t ll.length with ht | ht
 ·have hg:ll.getD t []=ll[t]:=by simp [ht]
  rw [hg]
  have hm:ll[t]∈ll:=List.getElem_mem ht
  obtain ⟨hu,hth⟩:=prog_uses h
  have hT:=hth _ hm
  generalize ll[t]=l at *
  have hc:cnt uses l≤6:=Nat.le_trans (cnt_tot hm) hu
  simp only [thread,Bool.and_eq_true,decide_eq_true_eq] at hT
  obtain ⟨⟨⟨h7,hf⟩,hcp⟩,_⟩:=hT
  have hd:∀ d∈l,doOk d=true:=fun d hd=>(List.all_eq_true.1 hf) d hd
  refine ⟨h7,Nat.le_trans (cnt_mono (fun k hk=>by simp [uses,hk]) l) hc,Nat.le_trans (cnt_mono (fun k hk=>by simp [uses,hk]) l) hc,fun i d hi hk=>?_,fun d hm hk=>?_,fun d hm hk=>?_⟩
  ·rcases copies_at l false hcp i d hi hk with h | h
   ·cases h
   ·exact h
  ·have:=hd d hm
   simp only [doOk,placeOk,hk,Bool.and_eq_true,decide_eq_true_eq,if_true] at this
   omega
  ·have:=hd d hm
   simp only [doOk,valOk,hk,Bool.and_eq_true,decide_eq_true_eq,if_true] at this
   omega
 ·have hg:ll.getD t []=[]:=by simp [ht]
  rw [hg]
  exact ⟨by simp,by simp [cnt],by simp [cnt],by simp,by simp,by simp⟩
theorem cnt_take_succ (f:Int→Bool) {l:List D} {n:Nat} {d:D} (h:l[n]?=some d):cnt f (l.take (n+1))=cnt f (l.take n)+(if f d.k then 1 else 0):=by
 rw [List.take_add_one,h]
 simp only [cnt,List.filter_append,List.length_append]
 cases hf:f d.k<;>simp [hf]
theorem cnt_take_le (f:Int→Bool) (l:List D) (n:Nat):cnt f (l.take n)≤cnt f l:=by
 conv=>rhs;rw [← List.take_append_drop n l]
 simp only [cnt,List.filter_append,List.length_append];omega
theorem Inv.fit {ll:List (List D)} {s:St} {t:Nat} {d:D} (I:Inv ll s) (ok:ThOk (ll.getD t [])) (ht:t < 3) (hd:s.d? ll t=some d):Fit s t d:=by
 have e:=I.each t ht
 have hr:=cnt_take_succ reads hd
 have hw:=cnt_take_succ writes hd
 have hr':=cnt_take_le reads (ll.getD t []) ((s.t t).next+1)
 have hw':=cnt_take_le writes (ll.getD t []) ((s.t t).next+1)
 have o1:=ok.rd
 have o2:=ok.wr
 have hm:d∈ll.getD t []:=List.mem_of_getElem? hd
 have ev:=e.vals
 have ep:=e.pend
 refine ⟨I.th,I.at_,ht,fun h=>?_,fun h=>?_,fun h=>?_,by have:=cnt_take_le writes (ll.getD t []) (s.t t).next;omega,fun q hq=>⟨(e.pr q hq).1,(e.pr q hq).2.1⟩,fun i hi=>(I.each i hi).noted,ok.pl d hm,Nat.le_trans e.next ok.len⟩
 ·rw [if_pos h] at hr;omega
 ·rw [if_pos h] at hw;omega
 ·have:=ok.cp _ _ hd h
  have:=cnt_take_le reads (ll.getD t []) (s.t t).next
  omega
theorem Inv.zero (ll:List (List D)):Inv ll st0:=by
 refine ⟨rfl,rfl,by simp [st0],fun t ht=>?_⟩
 have:st0.t t=th0:=by
  match t,ht with
  | 0,_=>rfl
  | 1,_=>rfl
  | 2,_=>rfl
 rw [this]
 exact ⟨by simp [th0],by simp [th0,cnt],by simp [th0],by simp [th0],by simp [th0],rfl,by simp [th0],by simp [th0,quiet]⟩
theorem Inv.put {ll:List (List D)} {s:St} {t:Nat} {x:Th} (I:Inv ll s) (ht:t < 3) (h:InvT (ll.getD t []) x):Inv ll (s.put t x) :=
 ⟨by rw [put_len];exact I.th,I.at_,I.ar,fun i hi=>by
  rw [t_put _ _ _ _ (by rw [I.th];exact ht)]
  split
  ·rename_i e;subst e;exact h
  ·exact I.each i hi⟩
theorem find_in {P:Int→Prop} {p:Int}:∀ {l:List (Int × Int)} {u:Int},(∀ q∈l,P q.2)→find p l=some u→P u
 | [],_,_,h=>by cases h
 | q::l,u,hq,h=>by
  rw [find] at h
  split at h
  ·rename_i v hv
   obtain rfl:=Option.some.inj h
   exact find_in (fun q hq'=>hq q (List.mem_cons_of_mem _ hq')) hv
  ·split at h
   ·obtain rfl:=Option.some.inj h
    exact hq q (List.mem_cons_self ..)
   ·cases h
theorem getD_in {P:Int→Prop} {l:List Int} (h:∀ v∈l,P v) (h0:P 0) (i:Nat):P (l.getD i 0):=by
 rcases Nat.lt_or_ge i l.length with hi | hi
 ·rw [show l.getD i 0=l[i] from by simp [hi]];exact h _ (List.getElem_mem hi)
 ·rw [show l.getD i 0=0 from by simp [hi]];exact h0
theorem Inv.look {ll:List (List D)} {s:St} {t:Nat} (I:Inv ll s) (ht:t < 3) (p:Int):0≤s.look t p∧s.look t p≤3:=by
 unfold St.look
 cases h:find p (s.t t).pend with
 | none=>exact getD_in (P:=fun v=>0≤v∧v≤3) I.ar (by omega) _
 | some u=>exact find_in (P:=fun v=>0≤v∧v≤3) (fun q hq=>⟨((I.each t ht).pr q hq).2.2.1,((I.each t ht).pr q hq).2.2.2⟩) h
theorem set_in {P:Int→Prop} {l:List Int} (h:∀ v∈l,P v) {u:Int} (hu:P u) (i:Nat):∀ v∈l.set i u,P v:=fun v hv=>by
 rcases List.mem_or_eq_of_mem_set hv with h1 | h1
 ·exact h v h1
 ·subst h1;exact hu
theorem Inv.come {ll:List (List D)} {s:St} {t:Nat} (I:Inv ll s) (ht:t < 3):Inv ll (s.come t):=by
 unfold St.come
 split
 ·exact I
 ·rename_i q r hq
  have e:=I.each t ht
  have hp:=e.pend
  rw [hq,List.length_cons] at hp
  have I2:Inv ll (s.put t { s.t t with pend:=r }):=I.put ht ⟨e.next,e.vals,by show r.length≤cnt writes ((ll.getD t []).take (s.t t).next);omega,fun x hx=>e.pr x (by rw [hq];exact List.mem_cons_of_mem _ hx),e.vr,e.noted,e.waits,e.rest⟩
  have hqq:=e.pr q (by rw [hq];exact List.mem_cons_self ..)
  exact ⟨I2.th,by rw [List.length_set];exact I.at_,set_in I.ar ⟨hqq.2.2.1,hqq.2.2.2⟩ _,I2.each⟩
theorem InvT.free {l:List D} {x:Th} (h:InvT l x) (t:Nat):InvT l (x.free t) :=
 ⟨h.next,h.vals,h.pend,h.pr,h.vr,by show (x.noted.set t false).length=3;rw [List.length_set];exact h.noted,h.waits,fun hw=>by
  show x.noted.set t false=quiet
  rw [h.rest hw]
  match t with
  | 0=>rfl
  | 1=>rfl
  | 2=>rfl
  | n+3=>rfl⟩
theorem InvT.bump {l:List D} {x:Th} {d:D} (h:InvT l x) (hd:l[x.next]?=some d) {vals:List Int} {pend:List (Int × Int)} {inn wt:Bool}
  (hv:vals.length=x.vals.length+(if reads d.k then 1 else 0)) (hp:pend.length≤x.pend.length+(if writes d.k then 1 else 0))
  (hpr:∀ q∈pend,0≤q.1∧q.1 < 3∧0≤q.2∧q.2≤3) (hvr:∀ v∈vals,0≤v∧v≤3) (hq:x.noted=quiet) (hw:wt=false) :
  InvT l ⟨x.next+1,vals,pend,inn,wt,x.noted⟩:=by
 subst hw
 have h1:=cnt_take_succ reads hd
 have h2:=cnt_take_succ writes hd
 have h3:=h.vals
 have h4:=h.pend
 refine ⟨?_,by show vals.length=cnt reads (l.take (x.next+1));omega,by show pend.length≤cnt writes (l.take (x.next+1));omega,hpr,hvr,h.noted,(fun hw=>by cases hw),fun _=>hq⟩
 rcases Nat.lt_or_ge x.next l.length with hl | hl
 ·exact hl
 ·rw [List.getElem?_eq_none hl] at hd;cases hd
theorem put_bump (s:St) (t:Nat) (x:Th) (h:t < s.th.length):(s.put t x).bump t=s.put t { x with next:=x.next+1 }:=by
 unfold St.bump
 rw [t_put _ _ _ _ h,if_pos rfl]
 simp [St.put]
theorem come_bump (s:St) (t:Nat) (h:t < s.th.length):(s.come t).bump t=(s.bump t).come t:=by
 have e1:(s.bump t).t t={ s.t t with next:=(s.t t).next+1 }:=by unfold St.bump;rw [t_put _ _ _ _ h,if_pos rfl]
 unfold St.come
 rw [show ((s.bump t).t t).pend=(s.t t).pend from by rw [e1]]
 split
 ·rfl
 ·rename_i q r hq
  rw [e1]
  show St.mk ((s.th.set t { s.t t with pend:=r }).set t { (St.put s t { s.t t with pend:=r }).t t with next:=((St.put s t { s.t t with pend:=r }).t t).next+1 }) (s.at_.set q.1.toNat q.2)=St.mk ((s.th.set t { s.t t with next:=(s.t t).next+1 }).set t _) (s.at_.set q.1.toNat q.2)
  rw [t_put _ _ _ _ h,if_pos rfl,List.set_set,List.set_set]
theorem Inv.later_bump {ll:List (List D)} {s:St} {t:Nat} {d:D} (I:Inv ll s) (ht:t < 3) (hd:s.d? ll t=some d) (hw:writes d.k=true) (hr:reads d.k=false) (h9:d.k≠9) {p v:Int} (hp:0≤p∧p < 3) (hv:0≤v∧v≤3):Inv ll ((s.later t p v).bump t):=by
 have e:=I.each t ht
 have hnw:(s.t t).waits=false:=by
  cases h:(s.t t).waits
  ·rfl
  ·obtain ⟨d',h1,h2⟩:=e.waits h
   rw [show (ll.getD t [])[(s.t t).next]?=some d from hd] at h1
   obtain rfl:=Option.some.inj h1
   exact absurd h2 h9
 unfold St.later
 rw [put_bump _ _ _ (by rw [I.th];exact ht)]
 refine I.put ht (e.bump hd (by rw [hr];rfl) (by rw [hw];simp) (fun q hq=>?_) e.vr (e.rest hnw) hnw)
 rcases List.mem_append.1 hq with h | h
 ·exact e.pr q h
 ·obtain rfl:q=(p,v):=by simpa using h
  exact ⟨hp.1,hp.2,hv.1,hv.2⟩
theorem Inv.write_bump {ll:List (List D)} {s:St} {t:Nat} {d:D} (late:Bool) (I:Inv ll s) (ht:t < 3) (hd:s.d? ll t=some d) (hw:writes d.k=true) (hr:reads d.k=false) (h9:d.k≠9) {p v:Int} (hp:0≤p∧p < 3) (hv:0≤v∧v≤3):Inv ll ((s.write late t p v).bump t):=by
 have h:=I.later_bump ht hd hw hr h9 hp hv
 unfold St.write
 split
 ·exact h
 ·rw [come_bump _ _ (by unfold St.later;rw [put_len,I.th];exact ht)]
  exact h.come ht
theorem Inv.stepD {ll:List (List D)} {s:St} {t:Nat} {d:D} (late:Bool) (I:Inv ll s) (ok:ThOk (ll.getD t [])) (ht:t < 3) (hd:s.d? ll t=some d) (hc:canD (s.t t) d=true):Inv ll (s.stepD late t d):=by
 have e:=I.each t ht
 have hl:t < s.th.length:=by rw [I.th];exact ht
 have hd':(ll.getD t [])[(s.t t).next]?=some d:=hd
 have hm:d∈ll.getD t []:=List.mem_of_getElem? hd'
 have hnw:d.k≠9→(s.t t).waits=false:=fun h9=>by
  cases h:(s.t t).waits
  ·rfl
  ·obtain ⟨d',h1,h2⟩:=e.waits h
   rw [hd'] at h1
   obtain rfl:=Option.some.inj h1
   exact absurd h2 h9
 cases hr:reads d.k
 ·cases hs:stores d.k
  ·by_cases e3:d.k=3
   ·unfold St.stepD
    rw [if_neg (by simp [hr]),if_neg (by simp [hs]),if_pos (by simp [e3])]
    exact I.write_bump late ht hd (by simp [writes,e3]) hr (by omega) (ok.pl d hm (by simp [uses,writes,e3])) (getD_in (P:=fun v=>0≤v∧v≤3) e.vr (by omega) _)
   ·have hw:writes d.k=false:=by simp [writes,hs,e3]
    by_cases e7:d.k=7
    ·unfold St.stepD
     rw [if_neg (by simp [hr]),if_neg (by simp [hs]),if_neg (by simp [e3]),if_pos (by simp [e7])]
     unfold St.goIn
     rw [put_bump _ _ _ hl]
     exact I.put ht (e.bump hd' (by rw [hr];rfl) (by rw [hw];simp) e.pr e.vr (e.rest (hnw (by omega))) (hnw (by omega)))
    ·by_cases e8:d.k=8
     ·unfold St.stepD
      rw [if_neg (by simp [hr]),if_neg (by simp [hs]),if_neg (by simp [e3]),if_neg (by simp [e7]),if_pos (by simp [e8])]
      have hgl:=goOut_len s t
      refine ⟨by unfold St.bump;rw [put_len,hgl];exact I.th,I.at_,I.ar,fun i hi=>?_⟩
      unfold St.bump
      rw [t_put _ _ _ _ (by rw [hgl];exact hl)]
      split
      ·rename_i ei;subst ei
       rw [goOut_t _ _ _ I.th hi,t_put _ _ _ _ hl,if_pos rfl]
       have:=(e.bump (d:=d) (vals:=(s.t i).vals) (pend:=(s.t i).pend) (inn:=false) (wt:=(s.t i).waits) hd' (by rw [hr];rfl) (by rw [hw];simp) e.pr e.vr (e.rest (hnw (by omega))) (hnw (by omega))).free i
       exact this
      ·rename_i ei
       rw [goOut_t _ _ _ I.th hi,t_put _ _ _ _ hl,if_neg ei]
       exact (I.each i hi).free t
     ·by_cases e9:d.k=9
      ·have hn:(s.t t).noted=quiet:=by
        have hu:uses d.k=false:=by simp [uses,hr,hw]
        simp only [canD,hu,Bool.false_or,Bool.and_eq_true,decide_eq_true_eq] at hc
        exact hc.2
       unfold St.stepD
       rw [if_neg (by simp [hr]),if_neg (by simp [hs]),if_neg (by simp [e3]),if_neg (by simp [e7]),if_neg (by simp [e8]),if_pos (by simp [e9])]
       split
       ·unfold St.stop
        rw [put_bump _ _ _ hl]
        exact I.put ht (e.bump hd' (by rw [hr];rfl) (by rw [hw];simp) e.pr e.vr hn rfl)
       ·unfold St.begin_
        exact I.put ht ⟨e.next,e.vals,e.pend,e.pr,e.vr,by show (s.th.map Th.inn).length=3;rw [List.length_map];exact I.th,fun _=>⟨d,hd',e9⟩,fun h=>by cases h⟩
      ·unfold St.stepD
       rw [if_neg (by simp [hr]),if_neg (by simp [hs]),if_neg (by simp [e3]),if_neg (by simp [e7]),if_neg (by simp [e8]),if_neg (by simp [e9])]
       exact I.put ht (e.bump hd' (by rw [hr];rfl) (by rw [hw];simp) e.pr e.vr (e.rest (hnw e9)) (hnw e9))
  ·unfold St.stepD
   rw [if_neg (by simp [hr]),if_pos (by simp [hs])]
   have hw:writes d.k=true:=by simp [writes,hs]
   exact I.write_bump late ht hd hw hr (by intro h;rw [h] at hs;cases hs) (ok.pl d hm (by simp [uses,hw])) (ok.vl d hm hs)
 ·unfold St.stepD
  rw [if_pos (by simp [hr])]
  have h9:d.k≠9:=by intro h;rw [h] at hr;cases hr
  have hw:writes d.k=false:=by
   simp only [reads,Bool.or_eq_true,beq_iff_eq] at hr
   rcases hr with h | h<;>rw [h]<;>rfl
  unfold St.keep
  rw [put_bump _ _ _ hl]
  refine I.put ht (e.bump hd' (by rw [hr];simp) (by rw [hw];simp) e.pr (fun v hv=>?_) (e.rest (hnw h9)) (hnw h9))
  rcases List.mem_append.1 hv with h | h
  ·exact e.vr v h
  ·obtain rfl:v=_:=by simpa using h
   exact I.look ht _
theorem Inv.turn {ll:List (List D)} {s s':St} {late:Bool} {k:Int} (h:prog ll=true) (h3:ll.length≤3) (I:Inv ll s) (hs:s.turn? late ll k=some s'):Inv ll s':=by
 unfold St.turn? at hs
 split at hs
 ·rename_i hk
  unfold St.step? at hs
  split at hs
  ·cases hs
  ·rename_i d hd
   split at hs
   ·rename_i hc
    obtain rfl:=Option.some.inj hs
    exact I.stepD late (thOk_of h _) (by omega) hd hc
   ·cases hs
 ·split at hs
  ·rename_i hk
   unfold St.land? at hs
   split at hs
   ·cases hs
   ·obtain rfl:=Option.some.inj hs
    exact I.come (by omega)
  ·cases hs
end M
end
section
open Go.RowKit
theorem Try.zeroSt (w:World):(zeroValue 99).run Try.prog w=.ok (.agg M.st0.arr) w:=by kernel_rfl
theorem wpList_load_midG {P:Program} {ops:Array Oper} {rest:List Oper} {op:Oper} {a:Act} {w:World} {Q:Exit→Act→World→Prop} (hw:Region.wanted op (yielded ops a.tmps)=true) (ty:TypeId) (x:Operand) (ho:op.op=.load ty x)
  (b o:Nat) (hx:a.eval x=.pointer (some ⟨b,o,none⟩)) (cs:List Value) (d:TypeDesc) (hc:w.rangeAt b o cs)
  (hu:P.underlying ty=some d) (hd:d.isRow=true) (hi:(P.info? ty).map (·.size)=some cs.length)
  (h:wpList P ops Q rest (a.put op.dst (.agg cs.toArray)) w):wpList P ops Q (op::rest) a w :=
 wpList_step fun _ hK=>by rw [if_pos hw];exact wp_load_mid ty x ho b o hx cs d hc hu hd hi (hK _ _ h)
def M.St.l (s:M.St):List Value:=M.cells s.c 0 81
theorem M.St.l_len (s:M.St):s.l.length=81:=M.cells_len _ _ _
theorem M.St.l_arr (s:M.St):s.l.toArray=s.arr:=rfl
theorem M.St.l_one (s:M.St):∀ v∈s.l,v.oneCell'=true:=fun v hv=>by
 obtain ⟨j,_,rfl⟩:=List.mem_map.1 hv
 exact St_one s _
theorem MSC.l {w:World} {B:Nat} {s:M.St} (h:MSC w B s.c):w.rangeAt B 0 s.l:=h.range 0 81 (by omega)
theorem MSC.there {w:World} {B:Nat} {f:Nat→Value} (h:MSC w B f):w.there B 0 81:=fun j hj=>⟨by rw [Nat.zero_add,h.c j hj];rfl,h.fz _⟩
theorem MSC.stored {w:World} {B:Nat} {f:Nat→Value} (h:MSC w B f) (s:M.St):MSC (w.setCells B 0 s.l) B s.c :=
 ⟨fun j hj=>by
  have:=World.rangeAt_setCells_same w B 0 s.l (by rw [s.l_len];exact h.there) j (s.c j) (by rw [M.St.l,M.cells_get _ _ _ _ hj,Nat.zero_add])
  rwa [Nat.zero_add] at this,fun j=>by rw [World.frozen?_setCells];exact h.fz j⟩
theorem M.St.info (s:M.St):(Try.prog.info? 99).map (·.size)=some s.l.length:=by rw [s.l_len];kernel_rfl
theorem results_turn {tmps:Array Value} {w:World} {B:Nat} {s:M.St} {v:Value} (h6:tmps.getD 6 undef=.pointer (some ⟨B,0,none⟩)) (h7:tmps.getD 7 undef=v) (m:MSC w B s.c):(results Try.f58 tmps).run Try.prog w=.ok (.tuple #[.agg s.arr,v]) w:=by
 rw [results_cell_tmp Try.results58,h6,h7]
 simp [asAddr,run_loadVar_mid w B 0 _ s.l _ m.l Try.underlying99 rfl s.info,M.St.l_arr]
theorem Below.setCellsT {B:Nat} {a:World} {b:Nat} (hb:B≤b):∀ (vs:List Value) (o:Nat) (w:World),Below B a w→Below B a (w.setCells b o vs)
 | [],_,_,h=>h
 | v::r,o,_,h=>Below.setCellsT hb r (o+1) _ (h.setCell (p:=⟨b,o,none⟩) hb v)
structure TurnCtx (w0 W:World) (K:Nat) (a:Option Addr) (n c:Nat) (late:Bool) (s:M.St):Prop where
 k0:W.cell? ⟨K,0,none⟩=some (.slice a n c)
 k1:W.cell? ⟨K,1,none⟩=some (.bool late)
 m:MSC W (K+1) s.c
 z:MSC W (K+1+1) M.st0.c
 b:Below K w0 W
theorem TurnCtx.go {w0 W W':World} {K:Nat} {a:Option Addr} {n c:Nat} {late:Bool} {s:M.St} (h:TurnCtx w0 W K a n c late s) (hb:Below W.heap.size W W'):TurnCtx w0 W' K a n c late s :=
 ⟨(hb.cell (p:=⟨K,0,none⟩) (World.block_lt_of_cell? _ _ h.k0)).trans h.k0,(hb.cell (p:=⟨K,1,none⟩) (World.block_lt_of_cell? _ _ h.k1)).trans h.k1,h.m.below hb (Nat.le_refl _),h.z.below hb (Nat.le_refl _),h.b.trans (hb.mono (by have:=h.m.lt;omega))⟩
set_option maxHeartbeats 2000000 in
set_option maxRecDepth 100000 in
theorem turn_any (a:Option Addr) (b o c:Nat) (late:Bool) (ll:List (List M.D)) (s:M.St) (k:Int) (w:World) (hp:M.prog ll=true) (h3:ll.length≤3) (I:M.Inv ll s) (h0:DoSS w a b o ll) (hk:-9223372036854775808≤k∧k < 9223372036854775808) :
  Calls Try.prog 58 #[.agg #[.slice a ll.length c,.bool late],.agg s.arr,.int .i64 k] w fun e w'=>e=.returned (.tuple #[.agg ((s.turn? late ll k).getD M.st0).arr,.bool (s.turn? late ll k).isSome])∧Below w.heap.size w w':=by
 have hbx:=below2 w (.cells #[.slice a ll.length c,.bool late] 65) (.cells s.arr 99)
 have hzz:=Try.zeroSt
 go_enter Try.func58,Try.ntmps58
 go_wp2_with (first | (refine wpList_alloc_row rfl 99 rfl M.st0.arr hzz ?_))
 have b3:=below3 w (.cells #[.slice a ll.length c,.bool late] 65) (.cells s.arr 99) (.cells M.st0.arr 99)
 have kk:∀ i v,(#[Value.slice a ll.length c,.bool late]:Array Value)[i]?=some v→(((w.alloc (.cells #[.slice a ll.length c,.bool late] 65)).alloc (.cells s.arr 99)).alloc (.cells M.st0.arr 99)).cell? ⟨w.heap.size,i,none⟩=some v:=fun i v hv=>by
  refine ((below2 _ _ _).cell (p:=⟨w.heap.size,i,none⟩) (by simp)).trans ?_
  rw [cell_of_row _ _ _ _ _ _ (heap_alloc_new w _)];exact hv
 have X:TurnCtx w (((w.alloc (.cells #[.slice a ll.length c,.bool late] 65)).alloc (.cells s.arr 99)).alloc (.cells M.st0.arr 99)) w.heap.size a ll.length c late s :=
  ⟨(kk 0 _ rfl),(kk 1 _ rfl),(MSC.of_block (t:=99) (heap_alloc2_new w _ _)).below (below1 _ _) (Nat.le_refl _),MSC.of_block (t:=99) (alloc_new _ _ _ (by simp)),b3⟩
 have hd0:=h0.below b3 (Nat.le_refl _)
 generalize ((w.alloc (.cells #[.slice a ll.length c,.bool late] 65)).alloc (.cells s.arr 99)).alloc (.cells M.st0.arr 99)=W at *
 obtain ⟨K,hK⟩:∃ K,w.heap.size=K:=⟨_,rfl⟩
 have HK:Hid (w.heap.size=K):=hK
 rw [hK] at X b3 ⊢
 clear hK hbx
 refine (has_any _ _ _ _ _ _).mono ?_
 rintro e W1 ⟨rfl,hW1⟩
 have hb1:Below W.heap.size W W1:=by rw [hW1];exact below1 _ _
 have X1:=X.go hb1
 have hd1:=hd0.below hb1 (Nat.le_refl _)
 clear hW1 X hd0
 by_cases hkt:0≤k∧k < ll.length
 ·obtain ⟨t,rfl⟩:∃ t:Nat,k=t:=⟨k.toNat,by omega⟩
  have htl:t < ll.length:=by omega
  have ht:t < 3:=by omega
  rw [show decide (0≤(t:Int)∧(t:Int) < ll.length)=true from decide_eq_true hkt]
  obtain ⟨k0,k1⟩:=And.intro X1.k0 X1.k1
  go_wp2_with (first | (refine wpList_load_midG (by rfl) 99 _ rfl (K+1) 0 rfl s.l _ X1.m.l Try.underlying99 rfl s.info ?_;rw [M.St.l_arr]))
  have hg:ll.getD t []=ll[t]:=by simp [htl]
  have ok:=M.thOk_of hp t
  have e:=I.each t ht
  refine (canStep_any a b o c late ll t s _ hd1 htl ht ok.len e.noted e.next).mono ?_
  rintro e1 W2 ⟨rfl,hb2⟩
  have X2:=X1.go hb2
  have hd2:=hd1.below hb2 (Nat.le_refl _)
  have hb12:=hb2
  clear X1 k0 k1
  obtain ⟨k0,k1⟩:=And.intro X2.k0 X2.k1
  cases hc:s.can ll t
  ·have HR:Hid (s.turn? late ll t=none):=by
    show _=_
    unfold M.St.turn?
    rw [if_pos hkt]
    show s.step? late ll ((t:Int).toNat)=_
    rw [Int.toNat_natCast]
    unfold M.St.step?
    unfold M.St.can at hc
    split at hc
    ·rename_i hd;rw [hd]
    ·rename_i d hd
     rw [hd]
     show (if M.canD (s.t t) d=true then _ else _)=_
     rw [if_neg (by rw [hc];decide)]
   have hno:¬ (0≤wrap64 ((t:Int) - 3)∧wrap64 ((t:Int) - 3) < ll.length):=by
    have:wrap64 ((t:Int) - 3)=(t:Int) - 3:=(by unfold wrap64;omega)
    omega
   go_wp2_with (first | (go_at_call 75;refine (has_any _ _ _ _ _ _).mono ?_;rw [decide_eq_false hno];rintro e4 W5 ⟨rfl,hW5⟩;have hb5:Below W2.heap.size W2 W5:=(by rw [hW5];exact below1 _ _);have X5:=X2.go hb5;clear hW5) | (refine wpList_store_mid rfl 99 _ _ rfl (K+1+1) 0 M.st0.arr rfl rfl (by rw [M.St.arr_size];exact X5.z.there) (by rw [M.St.arr_size];kernel_rfl) M.st0.arr_one ?_))
   refine bodyPost_ret (v:=.tuple #[.agg M.st0.arr,.bool false]) (results_turn rfl rfl (X5.z.stored _)) rfl ⟨by rw [HR.out];rfl,(by have hK:=HK.out;subst hK;exact Below.setCellsT (by omega) _ _ _ (X5.b))⟩
  ·obtain ⟨d,hd,hcd⟩:∃ d,s.d? ll t=some d∧M.canD (s.t t) d=true:=by
    unfold M.St.can at hc
    split at hc
    ·cases hc
    ·rename_i d hd;exact ⟨d,hd,hc⟩
   have HR:Hid (s.turn? late ll t=some (s.stepD late t d)):=by
    show _=_
    unfold M.St.turn?
    rw [if_pos hkt]
    show s.step? late ll ((t:Int).toNat)=_
    rw [Int.toNat_natCast]
    unfold M.St.step?
    rw [hd]
    exact if_pos hcd
   have F:=I.fit ok ht hd
   go_wp2_with (first | (go_at_call 77;refine (step_any a b o c late ll (K+1) t s d W2 W2 hd2 (Below.refl _ _) htl hd F X2.m).mono ?_;rintro e3 W3 ⟨rfl,m3,hb3⟩;have z3:MSC W3 (K+1+1) M.st0.c:=⟨fun j hj=>(hb3.cell (p:=⟨K+1+1,j,none⟩) X2.z.lt (by simp)).trans (X2.z.c j hj),fun j=>(hb3.frozen (p:=⟨K+1+1,j,none⟩) X2.z.lt (by simp)).trans (X2.z.fz j)⟩) | (refine wpList_load_mid rfl 99 _ rfl (K+1) 0 rfl (s.stepD late t d).l _ m3.l Try.underlying99 rfl (M.St.info _) ?_) | (refine wpList_store_mid rfl 99 _ _ rfl (K+1+1) 0 (s.stepD late t d).l.toArray rfl rfl (by rw [List.size_toArray,M.St.l_len];exact z3.there) (by rw [List.size_toArray];exact M.St.info _) (all_oneCell_toArray (M.St.l_one _)) ?_))
   refine bodyPost_ret (v:=.tuple #[.agg (s.stepD late t d).arr,.bool true]) (results_turn rfl rfl (z3.stored _)) rfl ⟨by rw [HR.out];rfl,(by have hK:=HK.out;subst hK;exact Below.setCellsT (by omega) _ _ _ (But.below X2.b hb3 (by omega)))⟩
 ·rw [decide_eq_false hkt]
  obtain ⟨k0,k1⟩:=And.intro X1.k0 X1.k1
  have hwr:(0≤wrap64 (k - 3)∧wrap64 (k - 3) < ll.length)↔(3≤k∧k < ll.length+3):=by unfold wrap64;omega
  by_cases hkt2:3≤k∧k < ll.length+3
  ·obtain ⟨t,hkt3⟩:∃ t:Nat,k=t+3:=⟨k.toNat - 3,by omega⟩
   have htl:t < ll.length:=by omega
   have ht:t < 3:=by omega
   have i1:(t:Int) < 3:=by omega
   have hw3:wrap64 (k - 3)=t:=by unfold wrap64;omega
   have htt:k.toNat - 3=t:=by omega
   have hyes:0≤(t:Int)∧(t:Int) < ll.length:=by omega
   have HT:Hid (s.turn? late ll k=s.land? t):=by
    show _=_
    unfold M.St.turn?
    rw [if_neg hkt,if_pos hkt2,htt]
   rw [hw3]
   clear hkt hkt2 hwr hw3 htt hkt3 hk
   have e:=I.each t ht
   cases hpe:(s.t t).pend with
   | nil =>
    have HR:Hid (s.turn? late ll k=none):=by
     show _=_
     rw [HT.out,M.St.land?,hpe]
     rfl
    go_wp2_with (first | (go_at_call 75;refine (has_any _ _ _ _ _ _).mono ?_;rw [decide_eq_true hyes];rintro e4 W5 ⟨rfl,hW5⟩;have hb5:Below W1.heap.size W1 W5:=(by rw [hW5];exact below1 _ _);have X5:=X1.go hb5;have cc:=X5.m.th ht (j:=20) (by omega);rw [M.Th.c_coming,hpe] at cc;clear hW5) | (refine wpList_store_mid rfl 99 _ _ rfl (K+1+1) 0 M.st0.arr rfl rfl (by rw [M.St.arr_size];exact X5.z.there) (by rw [M.St.arr_size];kernel_rfl) M.st0.arr_one ?_))
    refine bodyPost_ret (v:=.tuple #[.agg M.st0.arr,.bool false]) (results_turn rfl rfl (X5.z.stored _)) rfl ⟨by rw [HR.out];rfl,(by have hK:=HK.out;subst hK;exact Below.setCellsT (by omega) _ _ _ (X5.b))⟩
   | cons q r =>
    have HR:Hid (s.turn? late ll k=some (s.come t)):=by
     show _=_
     rw [HT.out,M.St.land?,hpe]
     rfl
    have hr6:r.length < 6:=by
     have h1:=e.pend
     have h2:=M.cnt_take_le M.writes (ll.getD t []) (s.t t).next
     have h3:=(M.thOk_of hp t).wr
     rw [hpe,List.length_cons] at h1
     omega
    have hq:=e.pr q (by rw [hpe];exact List.mem_cons_self ..)
    have hpos:(0:Int) < (r.length:Int)+1:=by omega
    go_wp2_with (first | (go_at_call 75;refine (has_any _ _ _ _ _ _).mono ?_;rw [decide_eq_true hyes];rintro e4 W5 ⟨rfl,hW5⟩;have hb5:Below W1.heap.size W1 W5:=(by rw [hW5];exact below1 _ _);have X5:=X1.go hb5;have cc:=X5.m.th ht (j:=20) (by omega);rw [M.Th.c_coming,hpe,List.length_cons,Int.natCast_add,Int.natCast_one] at cc;clear hW5) | (go_at_call 78;refine (come_any (K+1) t s q r W5 ht I.th I.at_ hpe hr6 hq.1 hq.2.1 X5.m).mono ?_;rintro e3 W3 ⟨rfl,m3,hb3⟩;have z3:MSC W3 (K+1+1) M.st0.c:=⟨fun j hj=>(hb3.cell (p:=⟨K+1+1,j,none⟩) X5.z.lt (by simp)).trans (X5.z.c j hj),fun j=>(hb3.frozen (p:=⟨K+1+1,j,none⟩) X5.z.lt (by simp)).trans (X5.z.fz j)⟩) | (refine wpList_load_mid rfl 99 _ rfl (K+1) 0 rfl (s.come t).l _ m3.l Try.underlying99 rfl (M.St.info _) ?_) | (refine wpList_store_mid rfl 99 _ _ rfl (K+1+1) 0 (s.come t).l.toArray rfl rfl (by rw [List.size_toArray,M.St.l_len];exact z3.there) (by rw [List.size_toArray];exact M.St.info _) (all_oneCell_toArray (M.St.l_one _)) ?_))
    refine bodyPost_ret (v:=.tuple #[.agg (s.come t).arr,.bool true]) (results_turn rfl rfl (z3.stored _)) rfl ⟨by rw [HR.out];rfl,(by have hK:=HK.out;subst hK;exact Below.setCellsT (by omega) _ _ _ (But.below X5.b hb3 (by omega)))⟩
  ·have hno:=fun h=>hkt2 (hwr.1 h)
   have HR:Hid (s.turn? late ll k=none):=by
    show _=_
    unfold M.St.turn?
    rw [if_neg hkt,if_neg hkt2]
   go_wp2_with (first | (go_at_call 75;refine (has_any _ _ _ _ _ _).mono ?_;rw [decide_eq_false hno];rintro e4 W5 ⟨rfl,hW5⟩;have hb5:Below W1.heap.size W1 W5:=(by rw [hW5];exact below1 _ _);have X5:=X1.go hb5;clear hW5) | (refine wpList_store_mid rfl 99 _ _ rfl (K+1+1) 0 M.st0.arr rfl rfl (by rw [M.St.arr_size];exact X5.z.there) (by rw [M.St.arr_size];kernel_rfl) M.st0.arr_one ?_))
   refine bodyPost_ret (v:=.tuple #[.agg M.st0.arr,.bool false]) (results_turn rfl rfl (X5.z.stored _)) rfl ⟨by rw [HR.out];rfl,(by have hK:=HK.out;subst hK;exact Below.setCellsT (by omega) _ _ _ (X5.b))⟩
end
section
open Go.RowKit
theorem M.done_no {ll:List (List M.D)} {s:M.St} {i:Nat} (hi:i < ll.length) (h:s.doneT ll i=false):s.done ll=false:=by
 rw [M.St.done,List.all_eq_false]
 exact ⟨i,List.mem_range.2 hi,by rw [h];decide⟩
theorem M.done_yes {ll:List (List M.D)} {s:M.St} (h:∀ j,j < ll.length→s.doneT ll j=true):s.done ll=true:=by
 rw [M.St.done,List.all_eq_true]
 exact fun j hj=>h j (List.mem_range.1 hj)
set_option maxHeartbeats 1000000 in
set_option maxRecDepth 100000 in
theorem done_any (a:Option Addr) (b o c:Nat) (late:Bool) (ll:List (List M.D)) (s:M.St) (w:World) (h3:ll.length≤3) (h0:DoSS w a b o ll) :
  Calls Try.prog 59 #[.agg #[.slice a ll.length c,.bool late],.agg s.arr] w fun e w'=>e=.returned (.bool (s.done ll))∧Below w.heap.size w w':=by
 have b2:=below2 w (.cells #[.slice a ll.length c,.bool late] 65) (.cells s.arr 99)
 have m:MSC ((w.alloc (.cells #[.slice a ll.length c,.bool late] 65)).alloc (.cells s.arr 99)) (w.heap.size+1) s.c:=MSC.of_block (t:=99) (heap_alloc2_new _ _ _)
 have hd:=h0.below b2 (Nat.le_refl _)
 go_enter Try.func59,Try.ntmps59
 go_wp2_with fail
 generalize (w.alloc (.cells #[.slice a ll.length c,.bool late] 65)).alloc (.cells s.arr 99)=W at *
 go_loopw [11] (fun s11 wr=>∃ i:Nat,s11=.int .i64 i∧i≤ll.length∧(∀ j,j < i→s.doneT ll j=true)∧wr=W) (fun s11 _=>ll.length - (intOf s11).toNat)
 case atStart=>exact ⟨0,rfl,by omega,fun j hj=>by omega,rfl⟩
 case round =>
  obtain ⟨i,rfl,hi,hdn,rfl⟩:=hrel
  by_cases hlt:i < ll.length
  ·have i2:(i:Int) < ll.length:=by omega
   have i3:(i:Int) < 3:=by omega
   have ht:i < 3:=by omega
   obtain ⟨rfl⟩:=hd.addr (by omega)
   obtain ⟨a',b',o',c',hc,_⟩:=hd.row i hlt
   have c0:=m.th0 ht
   have c20:=m.th ht (j:=20) (by omega)
   rw [M.Th.c_coming] at c20
   have hg:ll.getD i []=ll[i]:=by simp [hlt]
   have HD:Hid (s.doneT ll i=(decide (ll[i].length≤(s.t i).next)&&decide ((s.t i).pend.length=0))):=by show _=_;rw [M.St.doneT,hg]
   generalize (s.t i).next=nx at *
   generalize (s.t i).pend.length=pl at *
   generalize ll[i].length=ln at *
   by_cases hn:nx < ln
   ·have hn':(nx:Int) < ln:=by omega
    go_wp2_with fail
    go_ret
    exact ⟨ret_bool (M.done_no hlt (by rw [HD.out,decide_eq_false (by omega)];rfl)).symm,b2⟩
   ·have hn':¬ (nx:Int) < ln:=by omega
    by_cases hp:0 < pl
    ·have hp':(0:Int) < pl:=by omega
     go_wp2_with fail
     go_ret
     exact ⟨ret_bool (M.done_no hlt (by rw [HD.out,decide_eq_false (show ¬ pl=0 by omega),Bool.and_false])).symm,b2⟩
    ·have hp':¬ (0:Int) < pl:=by omega
     go_wp2_with fail
     exact ⟨⟨i+1,by go_num,by omega,fun j hj=>by
      rcases Nat.lt_succ_iff_lt_or_eq.1 hj with h | h
      ·exact hdn j h
      ·subst h;rw [HD.out,decide_eq_true (show ln≤nx by omega),decide_eq_true (show pl=0 by omega)];rfl,trivial⟩,by simp [intOf];omega⟩
  ·have i2:¬ (i:Int) < ll.length:=by omega
   go_wp2_with fail
   go_ret
   exact ⟨ret_bool (M.done_yes fun j hj=>hdn j (by omega)).symm,b2⟩
end
section
open Go.RowKit
theorem run_append_any {P:Program} {ops:Array Oper} {o:Oper} {a:Act} {w:World} {K:Act→World→Prop} {Q:Exit→Act→World→Prop} {E:Prop} (hgd:o.guard=none) (s x:Operand) (t:TypeId)
  (ho:o.op=.call { callee:=.builtin .append,args:=#[s,x],argTypes:=#[t,t] }) (d:Option Tmp) (hd:o.dst=d) (base:Nat) (e:TypeId) (i:TypeInfo) (z:Value) (size bytes:Nat) (ht:P.underlying t=some (.slice e)) (hi:P.info? e=some i) (hz:i.zero=some z)
  (hsize:i.size=size) (hby:i.bytes=bytes) (hzs:z.cells.size=size) (hsz:0 < size)
  (v:Value) (n:Nat) (xs:List Value) (hs:a.eval s=v) (hown:w.ownsRow base e size v n xs)
  (ad:Addr) (m c:Nat) (news:List Value) (hx:a.eval x=.slice (some ad) m c) (hl:news.length=m * size) (hnews:∀ j u,news[j]?=some u→w.cell? (ad.add j)=some u) (h1:∀ u∈news,u.oneCell'=true)
  (h63:n+m≤maxLen) (hbytes:(n+m) * bytes≤140737488355328) (hbase:base≤w.heap.size)
  (h:∀ v' w',w'.ownsRow base e size v' (n+m) (xs++news)→w.grownBy w' v.ownBlock→K (a.put d v') w') :
  if Region.wanted o (yielded ops a.tmps)=true then Oper.wp P o a w K Q else E:=by
 subst hd
 have hw:Region.wanted o (yielded ops a.tmps)=true:=by simp [Region.wanted,hgd]
 rw [if_pos hw]
 obtain ⟨v',w',hrun,h2,h3,_⟩:=run_append_own (P:=P) w base t o.type e i z size bytes ht hi hz hsize hby hzs hsz v n xs hown ad m c news hl hnews h1 h63 hbytes hbase
 have hk:=h v' w' h2 h3
 unfold Oper.wp
 simp [execOp,ho,resolve,invoke,builtin,hs,hx,hrun,Result.andThen]
 exact hk
structure SeA (w wr:World) (s:M.St) (v:Value) (acc:List Int):Prop where
 bel:Below w.heap.size w wr
 m:MSC wr w.heap.size s.c
 res:Slot2 wr (w.heap.size+1) (.slice none 0 0) (.slice none 0 0)
 out:Slot2 wr (w.heap.size+1+1) v (.slice none 0 0)
 own:wr.ownsRow (w.heap.size+1+1+1) 3 1 v acc.length (nums acc)
theorem SeA.below {w wr w1:World} {s:M.St} {v:Value} {acc:List Int} (h:SeA w wr s v acc) (hb:Below wr.heap.size wr w1):SeA w w1 s v acc :=
 ⟨h.bel.trans (hb.mono h.bel.size),h.m.below hb (Nat.le_refl _),h.res.of (hb.block _ h.res.lt),h.out.of (hb.block _ h.out.lt),ownsRow_below h.own hb⟩
theorem SeA.snoc {w wr w3:World} {s:M.St} {v v':Value} {acc acc':List Int} (h:SeA w wr s v acc) (hg:wr.grownBy w3 v.ownBlock) (ho:w3.ownsRow (w.heap.size+1+1+1) 3 1 v' acc'.length (nums acc')) :
  SeA w (w3.setCell ⟨w.heap.size+1+1,0,none⟩ v') s v' acc':=by
 have hl:=h.out.lt
 have hge:=own_ge h.own
 have blk:∀ k,k < w.heap.size+1+1+1→w3.heap[k]?=wr.heap[k]?:=fun k hk=>hg.block k (by omega) (fun e=>by have:=hge k e.symm;omega)
 have hs:=h.out.of (blk _ (by omega))
 refine ⟨(below_grown h.bel hg (fun k hk=>by have:=hge k hk;omega) (by omega)).setCell (by show w.heap.size≤w.heap.size+1+1;omega) _,⟨fun j hj=>?_,fun j=>?_⟩,(h.res.of (blk _ (by omega))).far (by omega) _,hs.set0 _,own_slot ho hs _⟩
 ·rw [World.cell?_setCell_other _ _ _ _ (fun e=>by have:=congrArg Addr.block e;simp at this;omega)]
  exact (World.cell?_of_block (blk _ (by show w.heap.size < _;omega))).trans (h.m.c j hj)
 ·rw [World.frozen?_setCell]
  exact (World.frozen?_of_block (blk _ (by show w.heap.size < _;omega))).trans (h.m.fz j)
theorem own_low {w:World} {base base':Nat} {e:TypeId} {size:Nat} {v:Value} {n:Nat} {xs:List Value} (h:w.ownsRow base e size v n xs) (hb:base'≤base):w.ownsRow base' e size v n xs :=
 ⟨h.1,h.2.elim Or.inl (fun ⟨g,cap,cur,x,y,r⟩=>Or.inr ⟨g,cap,cur,x,Nat.le_trans hb y,r⟩)⟩
theorem nums_oneI (l:List Int):∀ u∈nums l,u.oneCell'=true:=fun u hu=>by
 obtain ⟨x,_,rfl⟩:=List.mem_map.1 hu
 rfl
theorem M.acc_step {s:M.St} {n:Nat} (h:n < s.th.length):((s.th.take (n+1)).map M.Th.vals).flatten=((s.th.take n).map M.Th.vals).flatten++(s.t n).vals:=by
 rw [List.take_add_one,List.getElem?_eq_getElem h,List.map_append,List.flatten_append,M.t_get _ _ h]
 congr 1
 simp
theorem M.Th.vals_c (x:M.Th) (i:Nat) (h:i < x.vals.length) (h6:x.vals.length≤6):x.c (1+i)=.int .i64 x.vals[i]:=by
 rw [M.Th.c_val _ _ (by omega)];simp [h]
set_option maxHeartbeats 2000000 in
set_option maxRecDepth 100000 in
theorem mseen_any (s:M.St) (w:World) (hs:s.th.length=3) (ha:s.at_.length=3) (hv:∀ i,i < 3→(s.t i).vals.length≤6) :
  Calls Try.prog 60 #[.agg s.arr] w fun e w'=>∃ (v u:Value),e=.returned (.agg #[v,u])∧w'.ownsRow w.heap.size 3 1 v s.reads.length (nums s.reads)∧w'.ownsRow w.heap.size 3 1 u 3 (nums s.at_)∧(∀ k,v.ownBlock=some k→u.ownBlock≠some k)∧Below w.heap.size w w':=by
 have b3:=below3 w (.cells s.arr 99) (.cells #[.slice none 0 0,.slice none 0 0] 28) (.cells #[.slice none 0 0,.slice none 0 0] 28)
 have A0:SeA w (((w.alloc (.cells s.arr 99)).alloc (.cells #[.slice none 0 0,.slice none 0 0] 28)).alloc (.cells #[.slice none 0 0,.slice none 0 0] 28)) s (.slice none 0 0) [] :=
  ⟨b3,(MSC.of_block (t:=99) (heap_alloc_new w _)).below (below2 _ _ _) (Nat.le_refl _),⟨by rw [alloc_old _ _ _ (by simp)];exact alloc_new _ _ _ (by simp)⟩,⟨alloc_new _ _ _ (by simp)⟩,World.ownsRow_nil _ _ _ _⟩
 have hr:=A0.m.range 0 78 (by omega)
 have hl:=M.cells_len s.c 0 78
 have hcs:∀ n,n < 3→∃ cs':Array Value,(M.cells s.c 0 78).toArray.extract (n * 26) (n * 26+26)=cs'∧cs'.size=26∧cs'.all (·.oneCell')=true∧∀ j,j < 26→cs'[j]?=some ((s.t n).c j):=fun n hn=>by
  refine ⟨_,rfl,by simp [hl];omega,?_,fun j hj=>?_⟩
  ·rw [Array.all_eq_true_iff_forall_mem]
   intro v hv
   have hv':v∈M.cells s.c 0 78:=by
    obtain ⟨j,hj,rfl⟩:=Array.getElem_of_mem hv
    rw [Array.getElem_extract,List.getElem_toArray]
    exact List.getElem_mem _
   obtain ⟨j,_,rfl⟩:=List.mem_map.1 hv'
   exact St_one s _
  ·rw [Array.getElem?_extract,if_pos (by simp [hl];omega),List.getElem?_toArray,M.cells_get _ _ _ _ (by omega),Nat.zero_add,M.St.c_th _ _ _ hn hj]
 generalize M.cells s.c 0 78=cs at hr hl hcs
 have hi:(Try.prog.info? 96).map (·.size)=some cs.length:=by rw [hl];kernel_rfl
 have hi2:(Try.prog.info? 95).map (·.size)=some 26:=by kernel_rfl
 obtain ⟨z,hz,hzv⟩:=Try.zeroTh_any
 obtain ⟨i0,hI,hz0,hz1,hz2⟩:=info_parts Try.infoInt
 go_enter Try.func60,Try.ntmps60
 go_wp2_with (refine wpList_load_mid rfl 96 (.tmp 6) rfl w.heap.size 0 rfl cs _ hr Try.underlying96 rfl hi ?_)
 generalize (((w.alloc (.cells s.arr 99)).alloc (.cells #[.slice none 0 0,.slice none 0 0] 28)).alloc (.cells #[.slice none 0 0,.slice none 0 0] 28))=W0 at *
 clear hr b3
 go_loopw [8] (fun s8 wr=>∃ (n:Nat) (v:Value) (acc:List Int),s8=.int .i64 n∧n≤3∧Hid (acc=((s.th.take n).map M.Th.vals).flatten)∧acc.length≤6 * n∧SeA w wr s v acc) (fun s8 _=>3 - (intOf s8).toNat)
 case atStart=>exact ⟨0,_,[],rfl,by omega,rfl,by simp,A0⟩
 case round =>
  obtain ⟨n,v,acc,rfl,hn3,HA,hac,A⟩:=hrel
  clear A0
  by_cases hlt:n < 3
  ·have i2:(n:Int) < 3:=by omega
   obtain ⟨cs',hx,hx26,hx1,hxc⟩:=hcs n hlt
   go_wp2_with (first | (refine wpList_index_row rfl 96 (.tmp 7) (.tmp 8) rfl cs.toArray n 3 26 95 _ rfl rfl Try.underlying96 hlt Try.underlying95 rfl hi2 ?_;rw [hx]) | (refine wpList_alloc_row rfl 95 rfl z hzv ?_) | (refine wpList_store_new rfl 95 (.tmp 5) (.tmp 10) rfl z cs' rfl rfl (by rw [hx26];exact hi2) (by rw [hz,hx26]) hx1 ?_))
   go_frame
   have h6:=hv n hlt
   have hbx:=below1 wr (.cells cs' 95)
   have A2:=A.below hbx
   have cel:∀ j,(wr.alloc (.cells cs' 95)).cell? ⟨wr.heap.size,j,none⟩=cs'[j]?:=fun j=>cell_of_row _ _ _ _ _ _ (heap_alloc_new wr _)
   have k7:=(cel 7).trans (hxc 7 (by omega))
   rw [M.Th.c_reads] at k7
   have kv:∀ i (h:i < (s.t n).vals.length),(wr.alloc (.cells cs' 95)).cell? ⟨wr.heap.size,1+i,none⟩=some (.int .i64 (s.t n).vals[i]):=fun i h=>by
    rw [cel,hxc _ (by omega),M.Th.vals_c _ _ h h6]
   have HA2:Hid (((s.th.take (n+1)).map M.Th.vals).flatten=acc++(s.t n).vals):=by show _=_;rw [M.acc_step (by omega),HA.out]
   have lHx:wr.heap.size < (wr.alloc (.cells cs' 95)).heap.size:=by simp
   clear cel A hcs hxc hx hx1 hx26 hi hi2 hl hz hzv HA hbx
   generalize wr.alloc (.cells cs' 95)=W2 at *
   generalize wr.heap.size=H at *
   generalize (s.t n).vals=vs at *
   have i3:(vs.length:Int)≤6:=by omega
   have A3:=A2.below (Below.refl _ _).drew
   have cO:=A3.out.c0
   have fO:=A3.out.fz
   have lO:=A3.out.lt
   have hge:=own_ge A3.own
   have own3:=A3.own
   have k7':W2.drew.cell? ⟨H,7,none⟩=some (.int .i64 vs.length):=k7
   have hnews:∀ j u,(nums vs)[j]?=some u→W2.drew.cell? ((⟨H,1,none⟩:Addr).add j)=some u:=fun j u hu=>by
    have hj:j < vs.length:=by have:=(List.getElem?_eq_some_iff.1 hu).1;rwa [nums_length] at this
    rw [Addr.add_mid]
    refine (kv j hj).trans ?_
    rw [← hu];simp [nums,hj]
   go_region_law (refine run_append_any rfl (.tmp 12) (.tmp 16) 25 rfl (some 17) rfl (w.heap.size+1+1+1) 3 i0 _ 1 8 Try.underlying25 hI hz0 hz1 hz2 rfl (by omega) v acc.length (nums acc) (by rfl) own3 ⟨H,1,none⟩ vs.length 6 (nums vs) (by rfl) (by rw [nums_length,Nat.mul_one]) hnews (nums_oneI vs) (by unfold maxLen;omega) (by omega) (by show _≤W2.heap.size;exact lO) ?_;intro v3 w3 hown3 hgr;have hown3':w3.ownsRow (w.heap.size+1+1+1) 3 1 v3 (acc++vs).length (nums (acc++vs)):=(by rw [List.length_append];simpa [nums] using hown3);obtain ⟨a3,g3,c3,rfl,_,_,_⟩:=own_nums hown3';have A4:=A3.snoc hgr hown3';have cS3:w3.cell? ⟨w.heap.size+1+1,0,none⟩=some v:=hgr.cell cO (fun e=>by have:w.heap.size+1+1+1≤w.heap.size+1+1:=hge _ e.symm;omega);have fS3:∀ i,w3.frozen? ⟨w.heap.size+1+1,i,none⟩=false:=fun i=>(hgr.frozen_far ⟨w.heap.size+1+1,i,none⟩ lO (fun e=>by have:w.heap.size+1+1+1≤w.heap.size+1+1:=hge _ e.symm;omega)).trans (fO i);clear hown3 hown3' hgr)
   all_goals
    go_wp2_with fail
    rw [List.length_append] at A4
    exact ⟨⟨n+1,_,acc++vs,by go_num,by omega,by show _=_;rw [HA2.out],by rw [List.length_append];omega,A4⟩,by simp [intOf];omega⟩
  ·obtain rfl:n=3:=by omega
   obtain rfl:acc=s.reads:=by rw [HA.out,M.St.reads,List.take_of_length_le (by omega)]
   have A3:=A.below (Below.refl _ _).drew
   obtain ⟨av,gv,cv,rfl,_,_,_⟩:=own_nums A3.own
   have lO:=A3.out.lt
   have hnews:∀ j u,(nums s.at_)[j]?=some u→wr.drew.cell? ((⟨w.heap.size,78,none⟩:Addr).add j)=some u:=fun j u hu=>by
    have hj:j < s.at_.length:=by have:=(List.getElem?_eq_some_iff.1 hu).1;rwa [nums_length] at this
    rw [Addr.add_mid,A3.m.c _ (by omega),M.St.c_at,← hu];simp [nums,hj]
   have cO:=A3.out.c1
   clear hcs hl hi hi2 hz hzv HA A
   go_wp2_with fail
   go_region_law (refine run_append_any rfl (.tmp 21) (.tmp 23) 25 rfl (some 24) rfl wr.heap.size 3 i0 _ 1 8 Try.underlying25 hI hz0 hz1 hz2 rfl (by omega) (.slice none 0 0) 0 [] (by rfl) (World.ownsRow_nil _ _ _ _) ⟨w.heap.size,78,none⟩ 3 3 (nums s.at_) (by rfl) (by rw [nums_length,ha]) hnews (nums_oneI _) (by unfold maxLen;omega) (by omega) (Nat.le_refl _) ?_;intro u3 w3 hown3 hgr;have hown4:w3.ownsRow wr.heap.size 3 1 u3 3 (nums s.at_):=(by simpa using hown3);have hb4:Below wr.heap.size wr.drew w3:=below_grown (Below.refl _ _) hgr (fun k hk=>by cases hk) (Nat.le_refl _);have hown5:w3.ownsRow wr.heap.size 3 1 u3 s.at_.length (nums s.at_):=(by rw [ha];exact hown4);obtain ⟨a3,g3,c3,rfl,_,_,_⟩:=own_nums hown5;have A4:=A3.below hb4;have x0:=A4.out.c0;have x1:=A4.out.c1;have xf:=A4.out.fz;have y0:=A4.res.c0;have y1:=A4.res.c1;have yf:=A4.res.fz;clear hown3 hgr hown5)
   all_goals
    go_wp2_with fail
    rw [ha] at hown4
    have R1:=A4.res.far (b':=w.heap.size+1+1) (i:=1) (by omega) (.slice a3 3 c3)
    have R2:=R1.set0 (.slice av s.reads.length cv)
    have U:=own_slot (i:=1) (own_slot (i:=0) (own_slot (i:=1) hown4 A4.out (.slice a3 3 c3)) R1 (.slice av s.reads.length cv)) R2 (.slice a3 3 c3)
    have V:=own_slot (i:=1) (own_slot (i:=0) (own_slot (i:=1) A4.own A4.out (.slice a3 3 c3)) R1 (.slice av s.reads.length cv)) R2 (.slice a3 3 c3)
    refine bodyPost_ret (v:=.agg #[.slice av s.reads.length cv,.slice a3 3 c3]) (by simp [results,Try.results60,go_sem,y0,y1]) rfl ⟨_,_,rfl,own_low V (by omega),own_low U (by have:w.heap.size≤wr.heap.size:=A3.bel.size;omega),fun k hk hk'=>?_,((A4.bel.setCell (by show w.heap.size≤w.heap.size+1+1;omega) _).setCell (by show w.heap.size≤w.heap.size+1;omega) _).setCell (by show w.heap.size≤w.heap.size+1;omega) _⟩
    have h1:k < wr.heap.size:=(A3.own.lt k hk).2
    have h2:wr.heap.size≤k:=own_ge hown4 k hk'
    omega
end
section
open Go.RowKit
def M.runQ (late:Bool) (ll:List (List M.D)) (turns:List Int):Option M.St :=
 if M.prog ll then (match M.runFrom late ll M.st0 turns with | some s=>if s.done ll then some s else none | none=>none) else none
def M.runR (r:Option M.St):List Int:=match r with | some s=>s.reads | none=>[]
def M.runL (r:Option M.St):List Int:=match r with | some s=>s.at_ | none=>[]
structure RuA (w wr:World) (B:Nat) (a:Option Addr) (n c:Nat) (late:Bool) (s:M.St):Prop where
 bel:Below w.heap.size w wr
 lB:w.heap.size+1 < B
 k0:wr.cell? ⟨w.heap.size,0,none⟩=some (.slice a n c)
 k1:wr.cell? ⟨w.heap.size,1,none⟩=some (.bool late)
 res:Slot2 wr (w.heap.size+1) (.slice none 0 0) (.slice none 0 0)
 m:MSC wr B s.c
theorem RuA.below {w wr w1:World} {B:Nat} {a:Option Addr} {n c:Nat} {late:Bool} {s:M.St} (h:RuA w wr B a n c late s) (hb:Below wr.heap.size wr w1):RuA w w1 B a n c late s :=
 ⟨h.bel.trans (hb.mono h.bel.size),h.lB,(hb.cell (p:=⟨w.heap.size,0,none⟩) (World.block_lt_of_cell? _ _ h.k0)).trans h.k0,(hb.cell (p:=⟨w.heap.size,1,none⟩) (World.block_lt_of_cell? _ _ h.k1)).trans h.k1,h.res.of (hb.block _ h.res.lt),h.m.below hb (Nat.le_refl _)⟩
theorem setCells_block (b b':Nat) (hne:b'≠b):∀ (vs:List Value) (o:Nat) (w:World),(w.setCells b o vs).heap[b']?=w.heap[b']?
 | [],_,_=>rfl
 | _::r,o,_=>(setCells_block b b' hne r (o+1) _).trans (Below.heap_setCell _ _ _ _ hne)
theorem RuA.put {w wr:World} {B:Nat} {a:Option Addr} {n c:Nat} {late:Bool} {s:M.St} (h:RuA w wr B a n c late s) (s':M.St):RuA w (wr.setCells B 0 s'.l) B a n c late s':=by
 have hl:=h.lB
 exact ⟨Below.setCellsT (by omega) _ _ _ h.bel,hl,(World.cell?_of_block (setCells_block _ _ (by show w.heap.size≠_;omega) _ _ _)).trans h.k0,(World.cell?_of_block (setCells_block _ _ (by show w.heap.size≠_;omega) _ _ _)).trans h.k1,h.res.of (setCells_block _ _ (by omega) _ _ _),h.m.stored s'⟩
theorem M.run_step {late:Bool} {ll:List (List M.D)} {turns:List Int} {s:M.St} {n:Nat} (h:n < turns.length):M.runFrom late ll s (turns.drop n)=match s.turn? late ll turns[n] with | none=>none | some s'=>M.runFrom late ll s' (turns.drop (n+1)):=by
 rw [← List.getElem_cons_drop h,M.runFrom]
 rfl
set_option maxHeartbeats 2000000 in
set_option maxRecDepth 100000 in
theorem run_any (a:Option Addr) (b o c:Nat) (late:Bool) (ll:List (List M.D)) (ta:Option Addr) (tb to_ tc:Nat) (turns:List Int) (w:World) (hl:ll.length≤1048576) (hls:∀ t∈ll,t.length≤1048576) (hlt:turns.length≤1048576) (h0:DoSS w a b o ll) (hT:IntS w ta tb to_ turns) (hk:∀ k∈turns,-9223372036854775808≤k∧k < 9223372036854775808) :
  Calls Try.prog 34 #[.agg #[.slice a ll.length c,.bool late],.slice ta turns.length tc] w fun e w'=>∃ (v u:Value),e=.returned (.tuple #[.agg #[v,u],.bool (M.runQ late ll turns).isSome])∧w'.ownsRow w.heap.size 3 1 v (M.runR (M.runQ late ll turns)).length (nums (M.runR (M.runQ late ll turns)))∧w'.ownsRow w.heap.size 3 1 u (M.runL (M.runQ late ll turns)).length (nums (M.runL (M.runQ late ll turns)))∧(∀ k,v.ownBlock=some k→u.ownBlock≠some k)∧Below w.heap.size w w':=by
 have b2:=below2 w (.cells #[.slice a ll.length c,.bool late] 65) (.cells #[.slice none 0 0,.slice none 0 0] 28)
 have r0:Slot2 ((w.alloc (.cells #[.slice a ll.length c,.bool late] 65)).alloc (.cells #[.slice none 0 0,.slice none 0 0] 28)) (w.heap.size+1) (.slice none 0 0) (.slice none 0 0):=⟨alloc_new _ _ _ (by simp)⟩
 have kk:∀ i v,(#[Value.slice a ll.length c,.bool late]:Array Value)[i]?=some v→((w.alloc (.cells #[.slice a ll.length c,.bool late] 65)).alloc (.cells #[.slice none 0 0,.slice none 0 0] 28)).cell? ⟨w.heap.size,i,none⟩=some v:=fun i v hv=>by
  refine ((below1 _ _).cell (p:=⟨w.heap.size,i,none⟩) (by simp)).trans ?_
  rw [cell_of_row _ _ _ _ _ _ (heap_alloc_new w _)];exact hv
 have k0:=kk 0 _ rfl
 have k1:=kk 1 _ rfl
 have hzz:=Try.zeroSt
 have hp1:=h0.below b2 (Nat.le_refl _)
 go_enter Try.func34,Try.ntmps34
 go_wp2_with fail
 clear kk
 generalize (w.alloc (.cells #[.slice a ll.length c,.bool late] 65)).alloc (.cells #[.slice none 0 0,.slice none 0 0] 28)=W at *
 have lt0:=r0.lt
 refine (iprog_any a b o c ll W hl hls hp1).mono ?_
 rintro e w1 ⟨rfl,hb1⟩
 have r1:=r0.of (hb1.block _ lt0)
 have q0:=(hb1.cell (p:=⟨w.heap.size,0,none⟩) (World.block_lt_of_cell? _ _ k0)).trans k0
 have q1:=(hb1.cell (p:=⟨w.heap.size,1,none⟩) (World.block_lt_of_cell? _ _ k1)).trans k1
 have bw1:=b2.trans (hb1.mono b2.size)
 cases hpr:M.prog ll
 ·have y0:=r1.c0
  have y1:=r1.c1
  have yf:=r1.fz
  have HQ:Hid (M.runQ late ll turns=none):=by show _=_;rw [M.runQ,hpr];rfl
  go_wp2_with fail
  refine bodyPost_ret (v:=.tuple #[.agg #[.slice none 0 0,.slice none 0 0],.bool false]) (by simp [results,Try.results34,go_sem,y0,y1]) rfl ⟨.slice none 0 0,.slice none 0 0,by rw [HQ.out];rfl,by rw [HQ.out];exact World.ownsRow_nil _ _ _ _,by rw [HQ.out];exact World.ownsRow_nil _ _ _ _,(fun k h=>by cases h),(bw1.setCell (by show w.heap.size≤w.heap.size+1;omega) _).setCell (by show w.heap.size≤w.heap.size+1;omega) _⟩
 ·obtain ⟨h3,h7⟩:=M.prog_le hpr
  have hp2:=hp1.below hb1 (Nat.le_refl _)
  have hT2:=hT.below bw1 (Nat.le_refl _)
  go_wp2_with (first | (refine wpList_alloc_row rfl 99 rfl M.st0.arr hzz ?_) | (refine wpList_store_new rfl 99 (.tmp 6) (.tmp 16) rfl M.st0.arr M.st0.arr rfl rfl (by rw [M.St.arr_size];kernel_rfl) rfl M.st0.arr_one ?_))
  have A0:RuA w (w1.alloc (.cells M.st0.arr 99)) w1.heap.size a ll.length c late M.st0:=by
   have hbx:=below1 w1 (.cells M.st0.arr 99)
   exact ⟨bw1.trans (hbx.mono bw1.size),r1.lt,(hbx.cell (p:=⟨w.heap.size,0,none⟩) (World.block_lt_of_cell? _ _ q0)).trans q0,(hbx.cell (p:=⟨w.heap.size,1,none⟩) (World.block_lt_of_cell? _ _ q1)).trans q1,r1.of (hbx.block _ r1.lt),MSC.of_block (t:=99) (heap_alloc_new w1 _)⟩
  have hp3:=hp2
  have hT3:=hT2
  have HQ:Hid (M.runQ late ll turns=(match M.runFrom late ll M.st0 turns with | some s=>if s.done ll then some s else none | none=>none)):=by show _=_;rw [M.runQ,hpr];rfl
  clear hp1 hp2 hT2 hb1 q0 q1 r0 r1 k0 k1 lt0 b2 bw1
  have hbB:Below w1.heap.size w1 (w1.alloc (.cells M.st0.arr 99)):=below1 _ _
  generalize w1.alloc (.cells M.st0.arr 99)=W1 at *
  obtain ⟨B,hB⟩:∃ B,w1.heap.size=B:=⟨_,rfl⟩
  have HB:Hid (w1.heap.size=B):=hB
  rw [hB] at hbB A0 ⊢
  clear hB
  go_loopw [19] (fun s19 wr=>∃ (n:Nat) (s:M.St),s19=.int .i64 n∧n≤turns.length∧M.Inv ll s∧Hid (M.runFrom late ll M.st0 turns=M.runFrom late ll s (turns.drop n))∧Below B w1 wr∧RuA w wr B a ll.length c late s) (fun s19 _=>turns.length - (intOf s19).toNat)
  case atStart=>exact ⟨0,M.st0,rfl,by omega,M.Inv.zero ll,rfl,hbB,A0⟩
  case round =>
   obtain ⟨n,s,rfl,hn,I,HW,hbw,A⟩:=hrel
   clear A0
   by_cases hlt':n < turns.length
   ·have i2:(n:Int) < turns.length:=by omega
    have hTr:=hT3.below hbw (Nat.le_of_eq HB.out)
    obtain ⟨rfl⟩:=hTr.addr (by omega)
    have ck:=hTr.row n hlt'
    have hki:=hk _ (List.getElem_mem hlt')
    have HW2:Hid (M.runFrom late ll M.st0 turns=(match s.turn? late ll turns[n] with | none=>none | some s'=>M.runFrom late ll s' (turns.drop (n+1)))):=by show _=_;rw [HW.out,M.run_step hlt']
    generalize turns[n]=k at *
    have hpw:=hp3.below hbw (Nat.le_of_eq HB.out)
    obtain ⟨k0,k1⟩:=And.intro A.k0 A.k1
    have TN:=turn_any a b o c late ll s k wr hpr h3 I hpw hki
    cases htn:s.turn? late ll k with
    | none =>
     rw [htn] at TN
     have HQ2:Hid (M.runQ late ll turns=none):=by show _=_;rw [HQ.out,HW2.out,htn]
     clear HW HW2 HQ
     go_wp2_with (first | (refine wpList_load_mid rfl 99 _ rfl B 0 rfl s.l _ A.m.l Try.underlying99 rfl s.info ?_;rw [M.St.l_arr]) | (go_at_call 58;refine TN.mono ?_;rintro e w2 ⟨rfl,hb2⟩;have A2:=A.below hb2) | (refine wpList_alloc_row rfl 99 rfl M.st0.arr hzz ?_) | (refine wpList_store_new rfl 99 _ _ rfl M.st0.arr M.st0.arr rfl rfl (by rw [M.St.arr_size];kernel_rfl) rfl M.st0.arr_one ?_;have A3:=A2.below (below1 w2 (.cells M.st0.arr 99));have y0:=A3.res.c0;have y1:=A3.res.c1;have yf:=A3.res.fz))
     refine bodyPost_ret (v:=.tuple #[.agg #[.slice none 0 0,.slice none 0 0],.bool false]) (by simp [results,Try.results34,go_sem,y0,y1]) rfl ⟨.slice none 0 0,.slice none 0 0,by rw [HQ2.out];rfl,by rw [HQ2.out];exact World.ownsRow_nil _ _ _ _,by rw [HQ2.out];exact World.ownsRow_nil _ _ _ _,(fun k h=>by cases h),(A3.bel.setCell (by show w.heap.size≤w.heap.size+1;omega) _).setCell (by show w.heap.size≤w.heap.size+1;omega) _⟩
    | some s' =>
     rw [htn] at TN
     have I':=I.turn hpr h3 htn
     have HW3:Hid (M.runFrom late ll M.st0 turns=M.runFrom late ll s' (turns.drop (n+1))):=by show _=_;rw [HW2.out,htn]
     clear HW HW2
     have hfin:∀ w2,Below wr.heap.size wr w2→Below B w1 ((w2.alloc (.cells s'.arr 99)).setCells B 0 s'.l):=fun w2 h=>Below.setCellsT (Nat.le_refl _) _ _ _ ((hbw.trans (h.mono (Nat.le_of_lt A.m.lt))).alloc (by have:=h.size;have:=A.m.lt;omega) _)
     go_wp2_with (first | (refine wpList_load_mid rfl 99 (.tmp 9) rfl w2.heap.size 0 rfl s'.l _ m3.l Try.underlying99 rfl s'.info ?_) | (refine wpList_load_mid rfl 99 (.tmp 6) rfl B 0 rfl s.l _ A.m.l Try.underlying99 rfl s.info ?_;rw [M.St.l_arr]) | (go_at_call 58;refine TN.mono ?_;rintro e w2 ⟨rfl,hb2⟩;have A2:=A.below hb2;clear A) | (refine wpList_alloc_row rfl 99 rfl M.st0.arr hzz ?_) | (refine wpList_store_new rfl 99 (.tmp 9) (.tmp 28) rfl M.st0.arr s'.arr rfl rfl (by rw [M.St.arr_size];kernel_rfl) (by rw [M.St.arr_size,M.St.arr_size]) s'.arr_one ?_;have A3:=A2.below (below1 w2 (.cells s'.arr 99));have m3:=(MSC.of_block (t:=99) (heap_alloc_new w2 (.cells s'.arr 99)))) | (refine wpList_store_mid rfl 99 (.tmp 6) (.tmp 33) rfl B 0 s'.l.toArray rfl rfl (by rw [List.size_toArray,M.St.l_len];exact A3.m.there) (by rw [List.size_toArray];exact M.St.info _) (all_oneCell_toArray (M.St.l_one _)) ?_;have A4:=A3.put s';have hb5:Below B w1 ((w2.alloc (.cells s'.arr 99)).setCells B 0 s'.l):=hfin _ hb2;clear m3 A3 A2 hb2;show wpList _ _ _ _ _ ((w2.alloc (.cells s'.arr 99)).setCells B 0 s'.l);generalize (w2.alloc (.cells s'.arr 99)).setCells B 0 s'.l=W5 at *))
     exact ⟨⟨n+1,s',by go_num,by omega,I',HW3,hb5,A4⟩,by simp [intOf];omega⟩
   ·have HW4:Hid (M.runFrom late ll M.st0 turns=some s):=by show _=_;rw [HW.out,List.drop_eq_nil_of_le (by omega)];rfl
    clear HW
    have i2:¬ (n:Int) < turns.length:=by omega
    have hpw:=hp3.below hbw (Nat.le_of_eq HB.out)
    obtain ⟨k0,k1⟩:=And.intro A.k0 A.k1
    have DN:=done_any a b o c late ll s wr h3 hpw
    cases hdn:s.done ll
    ·rw [hdn] at DN
     have HQ2:Hid (M.runQ late ll turns=none):=by show _=_;rw [HQ.out,HW4.out];show (if s.done ll=true then _ else _)=_;rw [hdn];rfl
     go_wp2_with (first | (refine wpList_load_mid rfl 99 (.tmp 6) rfl B 0 rfl s.l _ A.m.l Try.underlying99 rfl s.info ?_;rw [M.St.l_arr]) | (go_at_call 59;refine DN.mono ?_;rintro e w2 ⟨rfl,hb2⟩;have A3:=A.below hb2;have y0:=A3.res.c0;have y1:=A3.res.c1;have yf:=A3.res.fz))
     refine bodyPost_ret (v:=.tuple #[.agg #[.slice none 0 0,.slice none 0 0],.bool false]) (by simp [results,Try.results34,go_sem,y0,y1]) rfl ⟨.slice none 0 0,.slice none 0 0,by rw [HQ2.out];rfl,by rw [HQ2.out];exact World.ownsRow_nil _ _ _ _,by rw [HQ2.out];exact World.ownsRow_nil _ _ _ _,(fun k h=>by cases h),(A3.bel.setCell (by show w.heap.size≤w.heap.size+1;omega) _).setCell (by show w.heap.size≤w.heap.size+1;omega) _⟩
    ·rw [hdn] at DN
     have HQ2:Hid (M.runQ late ll turns=some s):=by show _=_;rw [HQ.out,HW4.out];show (if s.done ll=true then _ else _)=_;rw [hdn];rfl
     have h6:∀ i,i < 3→(s.t i).vals.length≤6:=fun i hi=>by
      rw [(I.each i hi).vals]
      exact Nat.le_trans (M.cnt_take_le _ _ _) (M.thOk_of hpr i).rd
     go_wp2_with (first | (go_at_call 60;refine (mseen_any s w2 I.th I.at_ h6).mono ?_;rintro e w3 ⟨vv,uu,rfl,V,U,hal,hb3⟩;have U':w3.ownsRow w2.heap.size 3 1 uu s.at_.length (nums s.at_):=(by rw [I.at_];exact U);obtain ⟨v1,v2,v3,rfl,_,_,_⟩:=own_nums V;obtain ⟨u1,u2,u3,rfl,_,_,_⟩:=own_nums U';clear U;have A3:=A2.below hb3;have y0:=A3.res.c0;have y1:=A3.res.c1;have yf:=A3.res.fz;have lww:=lw2;have V4:=own_slot (i:=1) (own_slot (i:=0) V A3.res (.slice v1 s.reads.length v3)) (A3.res.set0 (.slice v1 s.reads.length v3)) (.slice u1 s.at_.length u3);have U4:=own_slot (i:=1) (own_slot (i:=0) U' A3.res (.slice v1 s.reads.length v3)) (A3.res.set0 (.slice v1 s.reads.length v3)) (.slice u1 s.at_.length u3)) | (refine wpList_load_mid rfl 99 (.tmp 6) rfl B 0 rfl s.l _ A2.m.l Try.underlying99 rfl s.info ?_;rw [M.St.l_arr]) | (refine wpList_load_mid rfl 99 (.tmp 6) rfl B 0 rfl s.l _ A.m.l Try.underlying99 rfl s.info ?_;rw [M.St.l_arr]) | (go_at_call 59;refine DN.mono ?_;rintro e w2 ⟨rfl,hb2⟩;have A2:=A.below hb2;clear A;have lw2:w.heap.size < w2.heap.size:=(by have:=A2.res.lt;omega)))
     refine bodyPost_ret (v:=.tuple #[.agg #[.slice v1 s.reads.length v3,.slice u1 s.at_.length u3],.bool true]) (by simp [results,Try.results34,go_sem,y0,y1]) rfl ⟨_,_,by rw [HQ2.out];rfl,by rw [HQ2.out];exact own_low V4 (Nat.le_of_lt lww),by rw [HQ2.out];exact own_low U4 (Nat.le_of_lt lww),hal,(A3.bel.setCell (by show w.heap.size≤w.heap.size+1;omega) _).setCell (by show w.heap.size≤w.heap.size+1;omega) _⟩
end
section
open Go.RowKit
def M.machQ (late:Bool) (n:Nat) (ll:List (List M.D)) (turns:List Int):Option M.St:=if turns.length≤n then M.runQ late ll turns else none
def MAns (B:Nat) (r:Option M.St) (e:Ending) (w':World):Prop:=∃ (v u:Value),e=.returned (.tuple #[.agg #[v,u],.bool r.isSome])∧w'.ownsRow B 3 1 v (M.runR r).length (nums (M.runR r))∧w'.ownsRow B 3 1 u (M.runL r).length (nums (M.runL r))∧(∀ k,v.ownBlock=some k→u.ownBlock≠some k)
set_option maxHeartbeats 1000000 in
theorem imachSome_any (a:Option Addr) (b o c:Nat) (ll:List (List M.D)) (ta:Option Addr) (tb to_ tc:Nat) (turns:List Int) (w:World) (hl:ll.length≤1048576) (hls:∀ t∈ll,t.length≤1048576) (hlt:turns.length≤1048576) (h0:DoSS w a b o ll) (hT:IntS w ta tb to_ turns) (hk:∀ k∈turns,-9223372036854775808≤k∧k < 9223372036854775808) :
  Calls Try.prog 11 #[.agg #[.slice a ll.length c],.slice ta turns.length tc] w fun e w'=>MAns w.heap.size (M.machQ false 28 ll turns) e w'∧Below w.heap.size w w':=by
 have b2:=below2 w (.cells #[.slice a ll.length c] 33) (.cells #[.slice none 0 0,.slice none 0 0] 28)
 have r0:Slot2 ((w.alloc (.cells #[.slice a ll.length c] 33)).alloc (.cells #[.slice none 0 0,.slice none 0 0] 28)) (w.heap.size+1) (.slice none 0 0) (.slice none 0 0):=⟨alloc_new _ _ _ (by simp)⟩
 have hp1:=h0.below b2 (Nat.le_refl _)
 have hT1:=hT.below b2 (Nat.le_refl _)
 by_cases hn:turns.length≤28
 ·have hn':¬ (28:Int) < turns.length:=by omega
  have HQ:Hid (M.machQ false 28 ll turns=M.runQ false ll turns):=if_pos hn
  go_enter Try.func11,Try.ntmps11
  go_wp2_with fail
  generalize (w.alloc (.cells #[.slice a ll.length c] 33)).alloc (.cells #[.slice none 0 0,.slice none 0 0] 28)=W at *
  have lt0:=r0.lt
  refine (run_any a b o c false ll ta tb to_ tc turns W hl hls hlt hp1 hT1 hk).mono ?_
  rintro e w1 ⟨vv,uu,rfl,V,U,hal,hb1⟩
  obtain ⟨v1,v2,v3,rfl,_,_,_⟩:=own_nums V
  obtain ⟨u1,u2,u3,rfl,_,_,_⟩:=own_nums U
  have r1:=r0.of (hb1.block _ lt0)
  have y0:=r1.c0
  have y1:=r1.c1
  have yf:=r1.fz
  generalize M.runQ false ll turns=r at *
  have lww:w.heap.size≤W.heap.size:=b2.size
  have V4:=own_slot (i:=1) (own_slot (i:=0) V r1 (.slice v1 (M.runR r).length v3)) (r1.set0 (.slice v1 (M.runR r).length v3)) (.slice u1 (M.runL r).length u3)
  have U4:=own_slot (i:=1) (own_slot (i:=0) U r1 (.slice v1 (M.runR r).length v3)) (r1.set0 (.slice v1 (M.runR r).length v3)) (.slice u1 (M.runL r).length u3)
  go_wp2_with fail
  refine bodyPost_ret (v:=.tuple #[.agg #[.slice v1 (M.runR r).length v3,.slice u1 (M.runL r).length u3],.bool r.isSome]) (by simp [results,Try.results11,go_sem,y0,y1]) rfl ⟨?_,((b2.trans (hb1.mono b2.size)).setCell (by show w.heap.size≤w.heap.size+1;omega) _).setCell (by show w.heap.size≤w.heap.size+1;omega) _⟩
  rw [HQ.out]
  exact ⟨_,_,rfl,own_low V4 lww,own_low U4 lww,hal⟩
 ·have hn':(28:Int) < turns.length:=by omega
  have HQ:Hid (M.machQ false 28 ll turns=none):=if_neg hn
  go_enter Try.func11,Try.ntmps11
  go_wp2_with fail
  have y0:=r0.c0
  have y1:=r0.c1
  have yf:=r0.fz
  refine bodyPost_ret (v:=.tuple #[.agg #[.slice none 0 0,.slice none 0 0],.bool false]) (by simp [results,Try.results11,go_sem,y0,y1]) rfl ⟨?_,by first | exact b2 | exact (b2.setCell (p:=⟨w.heap.size+1,0,none⟩) (by show w.heap.size≤w.heap.size+1;omega) _).setCell (p:=⟨w.heap.size+1,1,none⟩) (by show w.heap.size≤w.heap.size+1;omega) _⟩
  rw [HQ.out]
  exact ⟨.slice none 0 0,.slice none 0 0,rfl,World.ownsRow_nil _ _ _ _,World.ownsRow_nil _ _ _ _,(fun k h=>by cases h)⟩
end
section
open Go.RowKit
structure Mk (P:Nat→Prop) (w w':World):Prop where
 os:w'.os=w.os
 tape:w'.tape=w.tape
 output:w'.output=w.output
 size:w'.heap.size=w.heap.size
 ints:∀ p x,w.cell? p=some (.int .i64 x)→∃ y,w'.cell? p=some (.int .i64 y)
 rest:∀ p v,w.cell? p=some v→(∀ x,v≠.int .i64 x)→w'.cell? p=some v
 fz:∀ p,w'.frozen? p=w.frozen? p
 block:∀ k,¬ P k→w'.heap[k]?=w.heap[k]?
theorem Mk.refl (P:Nat→Prop) (w:World):Mk P w w:=⟨rfl,rfl,rfl,rfl,fun _ x h=>⟨x,h⟩,fun _ _ h _=>h,fun _=>rfl,fun _ _=>rfl⟩
theorem Mk.trans {P:Nat→Prop} {a b c:World} (h:Mk P a b) (k:Mk P b c):Mk P a c :=
 ⟨k.os.trans h.os,k.tape.trans h.tape,k.output.trans h.output,k.size.trans h.size,fun p x hx=>(let ⟨y,hy⟩:=h.ints p x hx;k.ints p y hy),fun p v hv hn=>k.rest p v (h.rest p v hv hn) hn,fun p=>(k.fz p).trans (h.fz p),fun i hi=>(k.block i hi).trans (h.block i hi)⟩
theorem Mk.mono {P Q:Nat→Prop} {a b:World} (h:Mk P a b) (hPQ:∀ k,P k→Q k):Mk Q a b:=⟨h.os,h.tape,h.output,h.size,h.ints,h.rest,h.fz,fun i hi=>h.block i (fun hp=>hi (hPQ i hp))⟩
theorem Mk.setCell {P:Nat→Prop} {a w:World} (h:Mk P a w) {b i:Nat} {x y:Int} (hb:P b) (hx:w.cell? ⟨b,i,none⟩=some (.int .i64 x)):Mk P a (w.setCell ⟨b,i,none⟩ (.int .i64 y)):=by
 refine h.trans ⟨rfl,rfl,rfl,by simp [World.setCell],fun p z hz=>?_,fun p v hv hn=>?_,fun p=>World.frozen?_setCell _ _ _ _,fun k hk=>Below.heap_setCell _ _ _ _ (fun e=>hk (by have e':k=b:=e;rw [e'];exact hb))⟩
 ·by_cases e:p=⟨b,i,none⟩
  ·subst e;exact ⟨y,World.cell?_setCell_same _ _ _ hx⟩
  ·exact ⟨z,by rw [World.cell?_setCell_other _ _ _ _ (fun h=>e h.symm)];exact hz⟩
 ·by_cases e:p=⟨b,i,none⟩
  ·subst e;rw [hx] at hv;exact absurd (Option.some.inj hv).symm (hn x)
  ·rw [World.cell?_setCell_other _ _ _ _ (fun h=>e h.symm)];exact hv
theorem Mk.cell {P:Nat→Prop} {w w':World} (h:Mk P w w') {p:Addr} (hp:¬ P p.block):w'.cell? p=w.cell? p:=World.cell?_of_block (w:=w) (h.block p.block hp)
theorem Mk.below {P:Nat→Prop} {B:Nat} {w w1 w':World} (h:Below B w w1) (k:Mk P w1 w') (hr:∀ j,P j→B≤j):Below B w w' :=
 ⟨k.os.trans h.os,k.tape.trans h.tape,k.output.trans h.output,by rw [k.size];exact h.size,fun i hi=>(k.block i (fun hp=>by have:=hr i hp;omega)).trans (h.block i hi)⟩
structure IntC (w:World) (a:Option Addr) (b o n:Nat):Prop where
 addr:0 < n→a=some ⟨b,o,none⟩
 row:∀ i,i < n→∃ x,w.cell? ⟨b,o+i,none⟩=some (.int .i64 x)
 fz:0 < n→∀ j,w.frozen? ⟨b,j,none⟩=false
theorem IntC.mk_ {P:Nat→Prop} {w w':World} {a:Option Addr} {b o n:Nat} (h:IntC w a b o n) (hm:Mk P w w'):IntC w' a b o n :=
 ⟨h.addr,fun i hi=>(let ⟨x,hx⟩:=h.row i hi;hm.ints _ x hx),fun hn j=>(hm.fz _).trans (h.fz hn j)⟩
theorem IntS.toC {w:World} {a:Option Addr} {b o:Nat} {l:List Int} (h:IntS w a b o l) (fz:0 < l.length→∀ j,w.frozen? ⟨b,j,none⟩=false):IntC w a b o l.length :=
 ⟨h.addr,fun i hi=>⟨_,h.row i hi⟩,fz⟩
namespace M
def seq (k:Int) (n:Nat):List Int:=(List.range n).map fun (i:Nat)=>k+(i:Int)
theorem seq_len (k:Int) (n:Nat):(seq k n).length=n:=by simp [seq]
theorem seq_get (k:Int) (n i:Nat) (h:i < (seq k n).length):(seq k n)[i]=k+i:=by simp [seq]
end M
set_option maxHeartbeats 400000 in
theorem markIntS_any (a:Option Addr) (b o n c:Nat) (k:Int) (w:World) (hn:n≤1048576) (hk:0≤k) (hk2:k≤4611686018427387904) (h:IntC w a b o n) :
  Calls Try.prog 16 #[.slice a n c,.int .i64 k] w fun e w'=>e=.returned (.int .i64 (k+n))∧IntS w' a b o (M.seq k n)∧Mk (fun j=>j=b∧0 < n) w w':=by
 go_enter Try.func16,Try.ntmps16
 go_wp2_with fail
 go_loopw [1,5] (fun s1 s5 wr=>∃ m:Nat,s1=.int .i64 (k+m)∧s5=.int .i64 m∧m≤n∧(∀ i,i < m→wr.cell? ⟨b,o+i,none⟩=some (.int .i64 (k+i)))∧Mk (fun j=>j=b∧0 < n) w wr) (fun _ s5 _=>n - (intOf s5).toNat)
 case atStart=>exact ⟨0,by simp,rfl,Nat.zero_le _,fun i hi=>absurd hi (Nat.not_lt_zero _),Mk.refl _ _⟩
 case round =>
  obtain ⟨m,rfl,rfl,hm,hdone,hmk⟩:=hrel
  by_cases hlt:m < n
  ·obtain ⟨rfl⟩:=h.addr (by omega)
   obtain ⟨x,hx⟩:=(h.mk_ hmk).row m hlt
   have fz:=(h.mk_ hmk).fz (by omega)
   have i1:(m:Int) < n:=by omega
   have HD:Hid (∀ i,i < m→wr.cell? ⟨b,o+i,none⟩=some (.int .i64 (k+i))):=hdone
   clear hdone
   go_wp2_with fail
   refine ⟨⟨m+1,?_,by go_num,by omega,fun i hi=>?_,hmk.setCell ⟨rfl,by omega⟩ hx⟩,by simp [intOf];omega⟩
   ·rw [Int.natCast_add,← Int.add_assoc];rfl
   ·by_cases e:i=m
    ·subst e;exact World.cell?_setCell_same _ _ _ hx
    ·rw [World.cell?_setCell_other _ _ _ _ (fun h=>e (by have:=congrArg Addr.off h;simp at this;omega))]
     exact HD.out i (by omega)
  ·obtain rfl:m=n:=by omega
   go_wp2_with fail
   go_ret
   exact ⟨rfl,⟨fun hl=>h.addr (by rw [M.seq_len] at hl;exact hl),fun i hi=>by rw [M.seq_get];exact hdone i (by rw [M.seq_len] at hi;exact hi)⟩,hmk⟩
set_option maxHeartbeats 400000 in
theorem heldIntS_any (a:Option Addr) (b o n c:Nat) (k:Int) (w:World) (hn:n≤1048576) (hk:0≤k) (hk2:k≤4611686018427387904) (h:IntS w a b o (M.seq k n)) :
  Calls Try.prog 37 #[.slice a n c,.int .i64 k] w fun e w'=>e=.returned (.int .i64 (k+n))∧w'=w:=by
 go_enter Try.func37,Try.ntmps37
 go_wp2_with fail
 go_loopw [1,5] (fun s1 s5 wr=>∃ m:Nat,s1=.int .i64 (k+m)∧s5=.int .i64 m∧m≤n∧wr=w) (fun _ s5 _=>n - (intOf s5).toNat)
 case atStart=>exact ⟨0,by simp,rfl,Nat.zero_le _,rfl⟩
 case round =>
  obtain ⟨m,rfl,rfl,hm,rfl⟩:=hrel
  by_cases hlt:m < n
  ·obtain ⟨rfl⟩:=h.addr (by rw [M.seq_len];omega)
   have hx:=h.row m (by rw [M.seq_len];exact hlt)
   rw [M.seq_get] at hx
   have i1:(m:Int) < n:=by omega
   go_wp2_with fail
   exact ⟨⟨m+1,by rw [Int.natCast_add,← Int.add_assoc];rfl,by go_num,by omega,trivial⟩,by simp [intOf];omega⟩
  ·obtain rfl:m=n:=by omega
   go_wp2_with fail
   go_ret
   exact ⟨rfl,rfl⟩
end
section
open Go.RowKit
set_option maxHeartbeats 400000 in
theorem markDoS_any (a:Option Addr) (b o n c:Nat) (k:Int) (w:World) (hn:n≤1048576) (hk:0≤k) (hk2:k≤4611686018427387904) (had:0 < n→a=some ⟨b,o,none⟩) (hrow:∀ i,i < n * 3→∃ x,w.cell? ⟨b,o+i,none⟩=some (.int .i64 x)) (hfz:0 < n→Fz w b) :
  Calls Try.prog 62 #[.slice a n c,.int .i64 k] w fun e w'=>e=.returned (.int .i64 (k+n * 3))∧Mk (fun j=>j=b∧0 < n) w w':=by
 go_enter Try.func62,Try.ntmps62
 go_wp2_with fail
 go_loopw [1,5] (fun s1 s5 wr=>∃ m:Nat,s1=.int .i64 (k+m * 3)∧s5=.int .i64 m∧m≤n∧Mk (fun j=>j=b∧0 < n) w wr) (fun _ s5 _=>n - (intOf s5).toNat)
 case atStart=>exact ⟨0,by simp,rfl,Nat.zero_le _,Mk.refl _ _⟩
 case round =>
  obtain ⟨m,rfl,rfl,hm,hmk⟩:=hrel
  by_cases hlt:m < n
  ·obtain ⟨rfl⟩:=had (by omega)
   obtain ⟨x0,y0⟩:=hrow (m * 3) (by omega)
   obtain ⟨x1,y1⟩:=hrow (m * 3+1) (by omega)
   obtain ⟨x2,y2⟩:=hrow (m * 3+2) (by omega)
   obtain ⟨z0,c0⟩:=hmk.ints _ _ y0
   obtain ⟨z1,c1⟩:=hmk.ints _ _ y1
   obtain ⟨z2,c2⟩:=hmk.ints _ _ y2
   have fz:∀ j,wr.frozen? ⟨b,j,none⟩=false:=fun j=>(hmk.fz _).trans (hfz (by omega) j)
   rw [← Nat.add_assoc] at c1 c2
   have i1:(m:Int) < n:=by omega
   have hP:(fun j=>j=b∧0 < n) b:=⟨rfl,by omega⟩
   have m1:=hmk.setCell (y:=k+m * 3) hP c0
   have c1':(wr.setCell ⟨b,o+m * 3,none⟩ (.int .i64 (k+m * 3))).cell? ⟨b,o+m * 3+1,none⟩=some (.int .i64 z1):=by rw [World.cell?_setCell_other _ _ _ _ (fun e=>by have:=congrArg Addr.off e;simp at this)];exact c1
   have m2:=m1.setCell (y:=k+m * 3+1) hP c1'
   have c2':((wr.setCell ⟨b,o+m * 3,none⟩ (.int .i64 (k+m * 3))).setCell ⟨b,o+m * 3+1,none⟩ (.int .i64 (k+m * 3+1))).cell? ⟨b,o+m * 3+2,none⟩=some (.int .i64 z2):=by rw [World.cell?_setCell_other _ _ _ _ (fun e=>by have:=congrArg Addr.off e;simp at this),World.cell?_setCell_other _ _ _ _ (fun e=>by have:=congrArg Addr.off e;simp at this)];exact c2
   have m3:=m2.setCell (y:=k+m * 3+1+1) hP c2'
   clear c1' c2' m1 m2 y0 y1 y2
   go_wp2_with fail
   refine ⟨⟨m+1,?_,by go_num,by omega,m3⟩,by simp [intOf];omega⟩
   congr 1;omega
  ·obtain rfl:m=n:=by omega
   go_wp2_with fail
   go_ret
   exact ⟨rfl,hmk⟩
def tot3:List (List M.D)→Nat
 | []=>0
 | l::ll=>l.length+tot3 ll
theorem tot3_take (ll:List (List M.D)) (n:Nat) (h:n < ll.length):tot3 (ll.take (n+1))=tot3 (ll.take n)+ll[n].length:=by
 have app:∀ a b:List (List M.D),tot3 (a++b)=tot3 a+tot3 b:=fun a b=>by
  induction a with
  | nil=>simp [tot3]
  | cons x a ih=>simp only [List.cons_append,tot3,ih];omega
 rw [List.take_succ_eq_append_getElem h,app];simp [tot3]
theorem tot3_le {ll:List (List M.D)} (h:∀ l∈ll,l.length≤1048576):tot3 ll≤1048576 * ll.length:=by
 induction ll with
 | nil=>simp [tot3]
 | cons l ll ih =>
  have:=h l (by simp)
  have:=ih (fun x hx=>h x (List.mem_cons_of_mem _ hx))
  simp only [tot3,List.length_cons]
  omega
set_option maxHeartbeats 1000000 in
theorem markDoSS_any (g c B N:Nat) (ll:List (List M.D)) (w:World) (hl:ll.length≤1048576) (hls:∀ l∈ll,l.length≤1048576) (h:NewSS w B N g ll) :
  Calls Try.prog 36 #[.slice (some ⟨g,0,none⟩) ll.length c,.int .i64 1] w fun e w'=>∃ k:Int,e=.returned (.int .i64 k)∧(0≤k∧k≤4398046511104)∧Mk (fun j=>B≤j∧j < N) w w':=by
 go_enter Try.func36,Try.ntmps36
 go_wp2_with fail
 go_loopw [1,5] (fun s1 s5 wr=>∃ m:Nat,s1=.int .i64 (1+tot3 (ll.take m) * 3)∧s5=.int .i64 m∧m≤ll.length∧Mk (fun j=>B≤j∧j < N) w wr) (fun _ s5 _=>ll.length - (intOf s5).toNat)
 case atStart=>exact ⟨0,by simp [tot3],rfl,Nat.zero_le _,Mk.refl _ _⟩
 case round =>
  obtain ⟨m,rfl,rfl,hm,hmk⟩:=hrel
  by_cases hlt:m < ll.length
  ·obtain ⟨a',b',o',c',hc,hd,hb',hz,hl2⟩:=h.row m hlt
   have hc':=hmk.rest _ _ hc (fun _ e=>by cases e)
   have hle:=hls _ (List.getElem_mem hlt)
   have HT:Hid (tot3 (ll.take (m+1))=tot3 (ll.take m)+ll[m].length):=tot3_take ll m hlt
   have hb:=tot3_le (ll:=ll.take m) (fun s hs=>hls s (List.mem_of_mem_take hs))
   have hbl:(ll.take m).length≤1048576:=by simp;omega
   generalize ll[m]=l at *
   obtain ⟨T,hT⟩:∃ T,tot3 (ll.take m)=T:=⟨_,rfl⟩
   have HT2:Hid (tot3 (ll.take m)=T):=hT
   rw [hT] at hb ⊢
   clear hT hc
   have i1:(m:Int) < ll.length:=by omega
   have C:=markDoS_any a' b' o' l.length c' (1+T * 3) wr hle (by omega) (by omega) hd.addr (fun i hi=>by
    have hr:=hd.row (i / 3) (by omega)
    have key:∃ x,w.cell? ⟨b',o'+i,none⟩=some (.int .i64 x):=by
     rcases Nat.lt_or_ge (i % 3) 1 with h0 | h0
     ·exact ⟨_,by rw [show o'+i=o'+i / 3 * 3 from by omega];exact hr.k⟩
     ·rcases Nat.lt_or_ge (i % 3) 2 with h1 | h1
      ·exact ⟨_,by rw [show o'+i=o'+i / 3 * 3+1 from by omega];exact hr.p⟩
      ·exact ⟨_,by rw [show o'+i=o'+i / 3 * 3+2 from by omega];exact hr.v⟩
    obtain ⟨x,hx⟩:=key
    exact hmk.ints _ x hx) (fun _ j=>(hmk.fz _).trans (hz j))
   go_wp2_with fail
   refine C.mono ?_
   rintro e w1 ⟨rfl,mk1⟩
   go_wp2_with fail
   refine ⟨⟨m+1,?_,by go_num,by omega,hmk.trans (mk1.mono (fun j hj=>?_))⟩,by simp [intOf];omega⟩
   ·rw [HT.out,HT2.out];congr 1;omega
   ·obtain ⟨rfl,_⟩:=hj;exact ⟨hb',hl2⟩
  ·obtain rfl:m=ll.length:=by omega
   have hb:=tot3_le (ll:=ll.take ll.length) (fun s hs=>hls s (List.mem_of_mem_take hs))
   have hbl:(ll.take ll.length).length≤1048576:=by simp;omega
   go_wp2_with fail
   go_ret
   exact ⟨_,rfl,by omega,hmk⟩
set_option maxHeartbeats 400000 in
theorem markProg_any (g c B N:Nat) (ll:List (List M.D)) (w:World) (hl:ll.length≤1048576) (hls:∀ l∈ll,l.length≤1048576) (h:NewSS w B N g ll) :
  Calls Try.prog 15 #[.agg #[.slice (some ⟨g,0,none⟩) ll.length c],.int .i64 1] w fun e w'=>∃ (k:Int) (wa:World),e=.returned (.int .i64 k)∧(0≤k∧k≤4398046511104)∧wa=w.alloc (.cells #[.slice (some ⟨g,0,none⟩) ll.length c] 33)∧Mk (fun j=>B≤j∧j < N) wa w':=by
 have hb1:=below1 w (.cells #[.slice (some ⟨g,0,none⟩) ll.length c] 33)
 have C:=markDoSS_any g c B N ll _ hl hls (h.below hb1 (Nat.le_refl _))
 go_enter Try.func15,Try.ntmps15
 go_wp2_with fail
 refine C.mono ?_
 rintro e w1 ⟨k,rfl,hk,hmk⟩
 go_wp2_with fail
 go_ret
 exact ⟨k,_,rfl,hk,rfl,hmk⟩
end
end Go.Proofs.Ytnddmlgnngdaoaa
