/- spec's nets of an order: net, whole. Of at most 28 events. spec.OrderHolds: what its calls say, of a program with no event, and with some. spec.OrderHolds: whether a way holds by an order. Of at most 1048576 threads, steps, numbers and rows. -/
import Derived.Deep.OwnRows
import Derived.Test.YtdningnhbplfiaaGreatRows
import Derived.Test.YtdningnhbplfiaaGreatQrbh
import Derived.Test.YtdningnhbplfiaaGreatQmaa
import Derived.Test.YtdningnhbplfiaaGreatQmae
namespace Go.Proofs.YtdningnhbplfiaaGreat
section
open Go.RowKit
set_option maxHeartbeats 1000000 in
set_option maxRecDepth 100000 in
theorem stays0_any (t:Lp) (u:Lq) (a b:Nat) (x y:M.De) (w:World) (hk:t.Ok) (h:u.At t w) (hx:(M.deeds t.ll)[a]?=some x) (hy:(M.deeds t.ll)[b]?=some y) :
  Calls Tryz.prog 105 #[.pointer (some ⟨t.O,0,none⟩),.int .i64 0,.int .i64 (a:Int),.int .i64 (b:Int)] w fun e w'=>e=.returned (.bool (M.stays (M.deeds t.ll) 0 a b x y))∧Below w.heap.size w w':=by
 have C:=sown_any t a b x y w hk h.p hx hy
 cases ho:M.own a b x y
 ·rw [ho] at C
  go_enter Tryz.func105,Tryz.ntmps105
  go_wp2_with fail
  refine C.mono ?_
  rintro e w1 ⟨rfl,hb1⟩
  go_wp2_with fail
  go_ret
  exact ⟨ret_bool (by simp [M.stays,ho]),hb1⟩
 ·rw [ho] at C
  go_enter Tryz.func105,Tryz.ntmps105
  go_wp2_with fail
  refine C.mono ?_
  rintro e w1 ⟨rfl,hb1⟩
  go_wp2_with fail
  refine (same_any t u a b x y w1 hk (h.below hb1) hx hy).mono ?_
  rintro e w2 ⟨rfl,hb2⟩
  go_wp2_with fail
  go_ret
  exact ⟨ret_bool (by simp [M.stays,ho]),hb1.trans (hb2.mono hb1.size)⟩
set_option maxHeartbeats 4000000 in
set_option maxRecDepth 100000 in
theorem net_of (t:Lp) (u:Lq) (k:Nat) (w:World) (hn:(M.deeds t.ll).length≤28) (h:u.At t w)
  (hS:∀ (a b:Nat) (x y:M.De) (w:World),u.At t w→(M.deeds t.ll)[a]?=some x→(M.deeds t.ll)[b]?=some y→Calls Tryz.prog 105 #[.pointer (some ⟨t.O,0,none⟩),.int .i64 k,.int .i64 (a:Int),.int .i64 (b:Int)] w fun e w'=>e=.returned (.bool (M.stays (M.deeds t.ll) k a b x y))∧Below w.heap.size w w') :
  Calls Tryz.prog 53 #[.pointer (some ⟨t.O,0,none⟩),.int .i64 k] w fun e w'=>∃ X',e=.returned (.pointer (some ⟨X',0,none⟩))∧(∃ G' c' va' rb' rc',NtO w' w.heap.size X' G' (M.deeds t.ll).length c' va' rb' rc' (M.staysAt (M.deeds t.ll) k))∧Below w.heap.size w w':=by
 obtain ⟨j0,hj,hy0,hy1,hy2⟩:=info_parts Tryz.infoRb
 have HA:Hid (∀ a b x y,(M.deeds t.ll)[a]?=some x→(M.deeds t.ll)[b]?=some y→M.staysAt (M.deeds t.ll) k a b=M.stays (M.deeds t.ll) k a b x y):=fun a b x y hx hy=>M.staysAt_of hx hy
 generalize M.staysAt (M.deeds t.ll) k=A at *
 go_enter Tryz.func53,Tryz.ntmps53
 go_wp2_with fail
 go_loopw [6] (fun s6 wr=>∃ (m:Nat) (v:Value) (vs:List Value),s6=.int .i64 m∧m≤(M.deeds t.ll).length∧S1 wr w.heap.size v∧NB wr (w.heap.size+1) v (M.rowsB A (M.deeds t.ll).length m) vs∧Below w.heap.size w wr) (fun s6 _=>(M.deeds t.ll).length - (intOf s6).toNat)
 case atStart=>exact ⟨0,.slice none 0 0,[],rfl,Nat.zero_le _,⟨by simp,by simp⟩,NB.nil _ _,below1 _ _⟩
 case round =>
  obtain ⟨m,v,vs,rfl,hm,hS1,hNB,hbel⟩:=hrel
  have hU:=h.below hbel
  have l0:=hU.p.l0
  obtain ⟨n,hnn⟩:∃ n,(M.deeds t.ll).length=n:=⟨_,rfl⟩
  have HN:Hid ((M.deeds t.ll).length=n):=hnn
  by_cases hmn:m < (M.deeds t.ll).length
  ·have hx:=List.getElem?_eq_getElem hmn
   rw [hnn] at l0 hm hmn hn hNB ⊢
   have hmn':(m:Int) < n:=by omega
   have lO:t.O < wr.heap.size:=World.block_lt_of_cell? _ _ l0
   have hmk:=run_make_row' (P:=Tryz.prog) 79 4 (.bool false) 1 Tryz.underlying79 (by kernel_rfl) rfl .i64 .i64 n (by omega) (by omega)
   have hrow:=World.rowIs_made wr (.bool false) n 4
   have bR:=below1 wr (.cells (madeCells #[.bool false] n) 4)
   generalize (M.deeds t.ll)[m]=x at hx
   clear hnn
   go_wp2_with fail
   clear hmk
   generalize wr.alloc (.cells (madeCells #[.bool false] n) 4)=WR at *
   go_loopw [8] (fun s8 wi=>∃ q:Nat,s8=.int .i64 q∧q≤n∧wi.rowIs wr.heap.size 4 n (fun j=>.bool (((List.range q).map fun b=>A m b).getD j false))∧Below wr.heap.size wr wi) (fun s8 _=>n - (intOf s8).toNat)
   case atStart=>exact ⟨0,rfl,Nat.zero_le _,hrow.congr (fun i _=>by simp),bR⟩
   case round =>
    obtain ⟨q,rfl,hq,hrw,hbi⟩:=hrel
    clear hrow bR
    have hUi:=hU.below hbi
    have l1:=hUi.p.l0
    rw [HN.out] at l1
    by_cases hqn:q < n
    ·have hqn':(q:Int) < n:=by omega
     have hy:=List.getElem?_eq_getElem (l:=M.deeds t.ll) (i:=q) (by rw [HN.out];exact hqn)
     generalize (M.deeds t.ll)[q]'(by rw [HN.out];exact hqn)=y at hy
     have C:=hS m q x y wr hUi hx hy
     rw [← HA.out m q x y hx hy] at C
     go_wp2_with fail
     refine C.mono ?_
     rintro e W2 ⟨rfl,b2⟩
     have hrw2:=hrw.of_block (b2.block _ hrw.lt)
     have cq:=hrw2.cell hqn
     have fq:=hrw2.frozen q
     have bb:=hbi.trans (b2.mono hbi.size)
     have hrw3:=(hrw2.set q (.bool (A m q))).congr (g:=fun j=>.bool (((List.range (q+1)).map fun b=>A m b).getD j false)) (fun i hi=>by
      by_cases e:i=q
      ·subst e
       rw [if_pos rfl,List.getD_eq_getElem?_getD]
       simp
      ·rw [if_neg e,List.getD_eq_getElem?_getD,List.getD_eq_getElem?_getD,List.range_succ,List.map_append]
       rcases Nat.lt_or_ge i q with h1 | h1
       ·rw [List.getElem?_append_left (by simpa using h1)]
       ·rw [List.getElem?_append_right (by simpa using h1),List.getElem?_eq_none (by simpa using h1),List.getElem?_eq_none (by simp;omega)])
     clear l1
     generalize A m q=r at *
     go_wp2_with fail
     exact ⟨⟨q+1,by go_num,by omega,hrw3,bb.setCell (Nat.le_refl _) _⟩,by simp [intOf];omega⟩
    ·obtain rfl:q=n:=by omega
     have hqn':¬ ((q:Nat):Int) < q:=by omega
     have hown:=rowIs_own hrw (by simp) (by omega)
     have hNBi:=hNB.below hbi
     have hSi:=hS1.bl hbi
     have bwi:=hbel.trans (hbi.mono hbel.size)
     have hlen:=M.rowsB_len A q m
     have hout:=hNBi.outer
     rw [hlen] at hout
     obtain ⟨vo,co,rfl⟩:=own_sl hout
     have HRS:Hid (M.rowsB A q (m+1)=M.rowsB A q m++[(List.range q).map fun b=>A m b]):=M.rowsB_succ A q m
     have s0:=hSi.c
     have sf:=hSi.fz
     have lN:=hSi.lt
     go_wp2_with (at_builtin;refine wpList_append_lies _ rfl (.tmp 47) (.tmp 49) 146 rfl (w.heap.size+1) 79 j0 _ 1 24 Tryz.underlying146 hj hy0 hy1 hy2 rfl (by decide) _ _ vs rfl (hout.alloc _) ⟨_,0,none⟩ 1 1 _ rfl rfl (World.news_of_block (t:=79) (fr:=(0,0)) (heap_alloc_new _ _)) (by simp [Value.oneCell']) (by omega) (by unfold maxLen;omega) (by omega) (by simp;omega) _ rfl ?_)
     intro g5 cap5 w5 hown5 hg5 hat5 hlt5
     have hge:=own_ge hout
     have hS5:=(hSi.bl (below1 wr _)).grown hg5 (fun e=>by have:=hge _ e;omega)
     have hNB5:=(hNBi.below (below1 wr _)).snoc (l:=(List.range q).map fun b=>A m b) (own_mono2 (by simpa using ownsRow_below hown (below1 wr _)) (by have:=hS1.lt;omega)) (fun i hi j hj e=>by
      have h1:=((hNB.inner i (by have:=hNB.len;omega) hi).lt j hj).2
      have h2:=Option.some.inj e
      simp only at h2
      omega) (by rw [hlen];exact hown5) hg5
     have b5:Below w.heap.size w w5:=below_grown (bwi.alloc bwi.size _) hg5 (fun j hj=>by have:=hge j hj;omega) (by have:=bwi.size;simp;omega)
     clear hown5 hg5 s0 sf
     have s0:=hS5.c
     have sf:=hS5.fz
     go_wp2_with fail
     exact ⟨⟨m+1,_,_,by go_num,by first | omega | (rw [HN.out];omega),hS5.set _,by first | (rw [HN.out,HRS.out];exact hNB5.far (by omega) _) | (rw [HRS.out];exact hNB5.far (by omega) _),b5.setCell (Nat.le_refl _) _⟩,by simp [intOf];omega⟩
  ·have hme:m=(M.deeds t.ll).length:=by omega
   have hmn':¬ (m:Int) < (M.deeds t.ll).length:=by omega
   subst hme
   obtain ⟨vo,co,rfl⟩:=own_sl hNB.outer
   rw [M.rowsB_len] at hNB hS1
   obtain ⟨G',rb',rc',hO⟩:=hNB.net (B:=w.heap.size) hS1.c (Nat.le_refl _)
   clear hnn HN
   go_wp2_with fail
   go_ret
   exact ⟨_,rfl,⟨G',co,vo,rb',rc',hO⟩,hbel⟩
end
section
open Go.RowKit
structure HoldP (kn:Nat) (ds:List M.De) (l:List Int) (rows:List (List Int)) (O:Nat) (St:World→Prop):Prop where
 bel:∀ w w',St w→Below w.heap.size w w'→St w'
 net:∀ k:Nat,k=0∨k=kn→∀ w,St w→Calls Tryz.prog 53 #[.pointer (some ⟨O,0,none⟩),.int .i64 k] w fun e w'=>∃ X',e=.returned (.pointer (some ⟨X',0,none⟩))∧(∃ G c va rb rc,NtAt w' X' G ds.length c va rb rc (M.staysAt ds k))∧Below w.heap.size w w'
 whole:∀ k:Nat,k=0∨k=kn→∀ X G c va rb rc w,St w→NtAt w X G ds.length c va rb rc (M.staysAt ds k)→Calls Tryz.prog 52 #[.pointer (some ⟨O,0,none⟩),.pointer (some ⟨X,0,none⟩),.int .i64 k] w fun e w'=>∃ X',e=.returned (.pointer (some ⟨X',0,none⟩))∧(∃ G c va rb rc,NtAt w' X' G ds.length c va rb rc (M.netOf ds l rows k))∧Below w.heap.size w w'
 waits:∀ X G c va rb rc A w,St w→NtAt w X G ds.length c va rb rc A→Calls Tryz.prog 90 #[.pointer (some ⟨O,0,none⟩),.pointer (some ⟨X,0,none⟩),.int .i64 0] w fun e w'=>e=.returned (.bool (M.waitsA ds.length A (M.choices ds)))∧Below w.heap.size w w'
set_option maxHeartbeats 1000000 in
set_option maxRecDepth 100000 in
theorem netE_any (O cc:Nat) (va:Option Addr) (k:Nat) (A:Nat→Nat→Bool) (w:World) (h:w.cell? ⟨O,1,none⟩=some (.slice va 0 cc)) :
  Calls Tryz.prog 53 #[.pointer (some ⟨O,0,none⟩),.int .i64 k] w fun e w'=>∃ X',e=.returned (.pointer (some ⟨X',0,none⟩))∧(∃ G c va rb rc,NtAt w' X' G 0 c va rb rc A)∧Below w.heap.size w w':=by
 go_enter Tryz.func53,Tryz.ntmps53
 go_wp2_with fail
 go_loopw [6] (fun s6 wr=>s6=.int .i64 0∧S1 wr w.heap.size (.slice none 0 0)∧Below w.heap.size w wr) (fun _ _=>0)
 case atStart=>exact ⟨rfl,⟨by simp,by simp⟩,below1 _ _⟩
 case round =>
  obtain ⟨rfl,hS1,hbel⟩:=hrel
  have l0:=cellC hbel h
  have s0:=hS1.c
  go_wp2_with fail
  go_ret
  exact ⟨_,rfl,⟨0,0,none,fun _=>0,fun _=>0,⟨s0,fun h=>absurd h (Nat.lt_irrefl _),fun a ha=>absurd ha (Nat.not_lt_zero _),fun a ha=>absurd ha (Nat.not_lt_zero _)⟩⟩,hbel⟩
set_option maxHeartbeats 2000000 in
set_option maxRecDepth 100000 in
theorem wayE_any (O cc:Nat) (va:Option Addr) (v0 v1 v2:Value) (fa ra:Option Addr) (fl' fc rl rc:Nat) (n:Nat) (HN:Hid (n=0)) (w:World) (hO:O < w.heap.size) (blk:w.heap[O]?=some (.cells #[v0,.slice va n cc,v1,v2,.slice none 0 0,.slice none 0 0] 81 (0,0))) :
  Calls Tryz.prog 51 #[.pointer (some ⟨O,0,none⟩),.agg #[.slice fa fl' fc,.slice ra rl rc]] w fun e w'=>e=.returned (.tuple #[])∧w'.cell? ⟨O,1,none⟩=some (.slice va n cc)∧But O w w':=by
 have fl:=Tryz.fld1
 have hmk:=run_make_row' (P:=Tryz.prog) 25 3 (.int .i64 0) 8 Tryz.underlying25 Tryz.infoInt rfl .i64 .i64 n (by have:=HN.out;omega) (by have:=HN.out;omega)
 have b1:w.cell? ⟨O,1,none⟩=some (.slice va n cc):=by simp [World.cell?,blk]
 have b4:w.cell? ⟨O,4,none⟩=some (.slice none 0 0):=by simp [World.cell?,blk]
 have b5:w.cell? ⟨O,5,none⟩=some (.slice none 0 0):=by simp [World.cell?,blk]
 have bf:∀ i,w.frozen? ⟨O,i,none⟩=false:=fun i=>by simp [World.frozen?,blk]
 go_enter Tryz.func51,Tryz.ntmps51
 go_wp2_with fail
 have e1:=heap_setCell_same w O 4 _ _ (.slice fa fl' fc) blk
 have e2:=heap_setCell_same _ O 5 _ _ (.slice (some ⟨w.heap.size+1,0,none⟩) n n) e1
 have hbut:But O w ((((w.setCell ⟨O,4,none⟩ (.slice fa fl' fc)).setCell ⟨O,5,none⟩ (.slice (some ⟨w.heap.size+1,0,none⟩) n n)).alloc (.cells #[.slice fa fl' fc,.slice ra rl rc] 37)).alloc (.cells (madeCells #[.int .i64 0] n) 3)):=((((But.refl O w).setCell (Or.inr rfl) _).setCell (Or.inr rfl) _).alloc _).alloc _
 have hc1:((((w.setCell ⟨O,4,none⟩ (.slice fa fl' fc)).setCell ⟨O,5,none⟩ (.slice (some ⟨w.heap.size+1,0,none⟩) n n)).alloc (.cells #[.slice fa fl' fc,.slice ra rl rc] 37)).alloc (.cells (madeCells #[.int .i64 0] n) 3)).cell? ⟨O,1,none⟩=some (.slice va n cc):=by
  rw [World.cell?,alloc_old _ _ _ (by simp;omega),alloc_old _ _ _ (by simp;omega),e2]
  simp
 generalize ((((w.setCell ⟨O,4,none⟩ (.slice fa fl' fc)).setCell ⟨O,5,none⟩ (.slice (some ⟨w.heap.size+1,0,none⟩) n n)).alloc (.cells #[.slice fa fl' fc,.slice ra rl rc] 37)).alloc (.cells (madeCells #[.int .i64 0] n) 3))=W0 at hbut hc1 ⊢
 clear hmk b1 b4 b5 bf e1 e2 blk
 go_loopw [4] (fun s4 wq=>s4=.int .i64 0∧wq.cell? ⟨O,1,none⟩=some (.slice va n cc)∧But O w wq) (fun _ _=>0)
 case atStart=>exact ⟨rfl,hc1,hbut⟩
 case round =>
  clear hc1 hbut
  obtain ⟨rfl,q1,hbut⟩:=hrel
  have hz:¬ (0:Int) < n:=by have:=HN.out;omega
  go_wp2_with fail
  exact bodyPost_end (v:=.tuple #[]) (results_none Tryz.results51 _ _ _) rfl ⟨rfl,q1,hbut⟩
theorem holds_parts (kn:Nat) (hk13:1≤kn∧kn≤3) (a:Option Addr) (b o c:Nat) (ll:List (List M.D)) (fa:Option Addr) (fb fo fc:Nat) (l:List Int) (ra:Option Addr) (rb ro rc:Nat) (rows:List (List Int)) (w2 w3:World) (O:Nat) (va:Option Addr) (g cc:Nat) (v1 v2:Value) (hl:ll.length≤1048576) (hls:∀ t∈ll,t.length≤1048576) (hrs:∀ r∈rows,r.length≤1048576) (hW:M.Wok ll l rows) (hdl:(M.deeds ll).length≤28) (hp2:DoSS w2 a b o ll) (hf2:IntS w2 fa fb fo l) (hr2:IntSS w2 ra rb ro rows) (hLk:Looked w2 w3 O a c ll va g cc v1 v2) :
  ∃ St:World→Prop,Calls Tryz.prog 51 #[.pointer (some ⟨O,0,none⟩),.agg #[.slice fa l.length fc,.slice ra rows.length rc]] w3 (fun e w'=>e=.returned (.tuple #[])∧St w'∧But O w3 w')∧HoldP kn (M.deeds ll) l rows O St:=by
 have c1:w3.cell? ⟨O,1,none⟩=some (.slice va (M.deeds ll).length cc):=by simp [World.cell?,hLk.blk]
 have hOl:O < w3.heap.size:=World.block_lt_of_cell? _ _ c1
 rcases Nat.eq_zero_or_pos (M.deeds ll).length with h0 | hpos
 ·have hnil:M.deeds ll=[]:=List.eq_nil_of_length_eq_zero h0
  refine ⟨fun w=>w.cell? ⟨O,1,none⟩=some (.slice va 0 cc),?_,fun w w' h hb=>cellC hb h,?_,?_,?_⟩
  ·have C:=wayE_any O cc va _ v1 v2 fa ra l.length fc rows.length rc _ h0 w3 hOl hLk.blk
   rw [h0] at C
   exact C
  ·intro k _ w hSt
   rw [hnil]
   exact netE_any O cc va k _ w hSt
  ·intro k _ X G c va' rb rc w hSt hN
   rw [hnil] at hN ⊢
   exact wholeE_any O cc va k _ _ X G c va' rb rc w hSt hN
  ·intro X G c va' rb rc A w hSt hN
   rw [hnil] at hN ⊢
   exact waitsE_any O cc va A X G c va' rb rc w hSt hN
 ·obtain ⟨rfl⟩:=hLk.dv.addr hpos
  obtain ⟨rfl⟩:=hf2.addr (by have:=hW.len.out;omega)
  obtain ⟨rfl⟩:=hr2.addr (by have:=hW.three.out;omega)
  obtain ⟨ub,uc,rfl,_,_⟩:=hLk.own1.form hpos
  obtain ⟨wb,wc,rfl,_,_⟩:=hLk.own2.form hpos
  have rd:∀ n x,(M.deeds ll)[n]?=some x→w3.cell? ⟨ub,n,none⟩=some (.bool (M.reads x.d.k)):=fun n x hx=>by
   have hn:n < (M.deeds ll).length:=by
    rcases Nat.lt_or_ge n (M.deeds ll).length with h | h
    ·exact h
    ·rw [List.getElem?_eq_none h] at hx;cases hx
   have o1:=hLk.own1
   have:=own_bools (l:=(M.deeds ll).map fun x=>M.reads x.d.k) (by rw [List.length_map];exact o1) n (by simpa using hn)
   rw [List.getElem?_eq_getElem hn] at hx
   rw [this,List.getElem_map,Option.some.inj hx]
  have wrt:∀ n x,(M.deeds ll)[n]?=some x→w3.cell? ⟨wb,n,none⟩=some (.bool (M.writes x.d.k)):=fun n x hx=>by
   have hn:n < (M.deeds ll).length:=by
    rcases Nat.lt_or_ge n (M.deeds ll).length with h | h
    ·exact h
    ·rw [List.getElem?_eq_none h] at hx;cases hx
   have o1:=hLk.own2
   have:=own_bools (l:=(M.deeds ll).map fun x=>M.writes x.d.k) (by rw [List.length_map];exact o1) n (by simpa using hn)
   rw [List.getElem?_eq_getElem hn] at hx
   rw [this,List.getElem_map,Option.some.inj hx]
  have hkO:(⟨O,a,b,o,c,ll,g,cc⟩:Lp).Ok:=⟨hl,hls,by show (M.deeds ll).length≤42;omega⟩
  have CW:=way_any ⟨O,a,b,o,c,ll,g,cc⟩ ⟨ub,uc,wb,wc,fb,fo,fc,l,w3.heap.size+1,(M.deeds ll).length,rows⟩ _ w3 rc hkO hW.pl hpos hW.len hW.three hrs rb ro hLk.bel hLk.ge hOl hp2 hf2 hr2 hLk.blk hLk.dv rd wrt rfl rfl
  refine ⟨_,CW,fun w w' h hb=>h.below hb,?_,?_,?_⟩
  ·intro k hk w hSt
   have C:=net_of ⟨O,a,b,o,c,ll,g,cc⟩ _ k w hdl hSt (by
    intro p q x y w h hx hy
    rcases hk with rfl | rfl
    ·exact stays0_any _ _ p q x y w hkO h hx hy
    ·rcases (show k=1∨k=2∨k=3 by omega) with rfl | rfl | rfl
     ·exact stays1_any _ _ p q x y w hkO h hx hy
     ·exact stays2_any _ _ p q x y w hkO h hx hy
     ·exact stays3_any _ _ p q x y w hkO h hx hy)
   exact C.mono (fun e w' ⟨X',he,⟨G',c',va',rb',rc',hO⟩,hb⟩=>⟨X',he,⟨G',c',va',rb',rc',hO.nt⟩,hb⟩)
  ·intro k hk X G c' va' rb' rc' w hSt hN
   have C:=whole_of ⟨O,a,b,o,c,ll,g,cc⟩ _ k X G c' va' rb' rc' _ w hdl hSt hN (by
    intro p q x y w h hx hy
    rcases hk with rfl | rfl
    ·exact told0_any _ _ p q x y w hkO h hx hy
    ·rcases (show k=1∨k=2∨k=3 by omega) with rfl | rfl | rfl
     ·exact told1_any _ _ p q x y w hkO h hx hy
     ·exact told2_any _ _ p q x y w hkO h hx hy
     ·exact told3_any _ _ p q x y w hkO h hx hy)
   refine C.mono (fun e w' ⟨X',he,⟨G',c',va',rb',rc',hO⟩,hb⟩=>⟨X',he,⟨G',c',va',rb',rc',hO.nt.congr (fun p q hp hq=>?_)⟩,hb⟩)
   have hx:=List.getElem?_eq_getElem hp
   have hy:=List.getElem?_eq_getElem hq
   show (M.staysAt (M.deeds ll) k p q||M.toldAt (M.deeds ll) l rows k p q)=M.mustAt (M.deeds ll) l rows k p q
   rw [M.staysAt_of hx hy,M.toldAt_of hx hy,M.mustAt,hx,hy,M.must_eq hW.fro hW.run k hp hq]
  ·intro X G c' va' rb' rc' A w hSt hN
   exact waits_any ⟨O,a,b,o,c,ll,g,cc⟩ hkO hW.prog hdl _ A X G c' va' rb' rc' w 0 (show Hid (_=_) from rfl) (by omega) hSt.p hN
end
section
open Go.RowKit
set_option maxHeartbeats 4000000 in
set_option maxRecDepth 100000 in
theorem sorderHolds_any (a:Option Addr) (b o c:Nat) (ll:List (List M.D)) (fa:Option Addr) (fb fo fc:Nat) (l:List Int) (ra:Option Addr) (rb ro rc:Nat) (rows:List (List Int)) (kind:Int) (w:World) (hl:ll.length≤1048576) (hls:∀ t∈ll,t.length≤1048576) (hl1:l.length≤1048576) (hrs:∀ r∈rows,r.length≤1048576) (h:DoSS w a b o ll) (hf:IntS w fa fb fo l) (hr:IntSS w ra rb ro rows) :
  Calls Tryz.prog 41 #[.agg #[.slice a ll.length c],.agg #[.slice fa l.length fc,.slice ra rows.length rc],.int .i64 kind] w fun e w'=>e=.returned (.bool (M.orderHolds ll l rows kind))∧Below w.heap.size w w':=by
 have hb1:=below2 w (.cells #[.slice a ll.length c] 35) (.cells #[.slice fa l.length fc,.slice ra rows.length rc] 37)
 have kp:((w.alloc (.cells #[.slice a ll.length c] 35)).alloc (.cells #[.slice fa l.length fc,.slice ra rows.length rc] 37)).cell? ⟨w.heap.size,0,none⟩=some (.slice a ll.length c):=by simp
 have k0:((w.alloc (.cells #[.slice a ll.length c] 35)).alloc (.cells #[.slice fa l.length fc,.slice ra rows.length rc] 37)).cell? ⟨w.heap.size+1,0,none⟩=some (.slice fa l.length fc):=by simp
 have k1:((w.alloc (.cells #[.slice a ll.length c] 35)).alloc (.cells #[.slice fa l.length fc,.slice ra rows.length rc] 37)).cell? ⟨w.heap.size+1,1,none⟩=some (.slice ra rows.length rc):=by simp
 have hp1:=h.below hb1 (Nat.le_refl _)
 have hf1:=hf.below hb1 (Nat.le_refl _)
 have hr1:=hr.below hb1 (Nat.le_refl _)
 clear h hf hr
 have C1:=sexecOk_any a b o c ll fa fb fo fc l ra rb ro rc rows _ hl hls hl1 hrs hp1 hf1 hr1
 cases hok:M.execOk ll l rows
 ·rw [hok] at C1
  go_enter Tryz.func41,Tryz.ntmps41
  go_wp2_with fail
  refine C1.mono ?_
  rintro e w1 ⟨rfl,hb2⟩
  go_wp2_with fail
  go_ret
  exact ⟨ret_bool (by simp only [M.orderHolds,hok,Bool.false_and,Bool.and_false]),hb1.trans (hb2.mono hb1.size)⟩
 ·rw [hok] at C1
  cases hk:(decide (1≤kind)&&decide (kind≤3))
  ·go_enter Tryz.func41,Tryz.ntmps41
   go_wp2_with fail
   refine C1.mono ?_
   rintro e w1 ⟨rfl,hb2⟩
   have hk':M.rng 1 3 kind=false:=hk
   go_wp2_with (go_at_call 49;refine (l6In_any kind 1 3 _).mono ?_;rw [hk'];rintro e w' ⟨rfl,rfl⟩)
   go_ret
   exact ⟨ret_bool (by simp only [M.orderHolds,hk,Bool.false_and]),hb1.trans (hb2.mono hb1.size)⟩
  ·have hk':M.rng 1 3 kind=true:=hk
   have hW:=M.wok_of hok
   have hdl:=M.deeds28 hW.prog
   obtain ⟨kn,rfl⟩:∃ kn:Nat,kind=kn:=⟨kind.toNat,by simp only [Bool.and_eq_true,decide_eq_true_eq] at hk;omega⟩
   have hk13:1≤kn∧kn≤3:=by simp only [Bool.and_eq_true,decide_eq_true_eq] at hk;omega
   have HO:Hid (M.orderHolds ll l rows kn=(M.holdsA (M.netOf (M.deeds ll) l rows 0) (M.deeds ll).length&&M.waitsA (M.deeds ll).length (M.netOf (M.deeds ll) l rows kn) (M.choices (M.deeds ll)))):=by show _=_;unfold M.orderHolds;rw [hok,hk];simp
   clear hok hk
   go_enter Tryz.func41,Tryz.ntmps41
   go_wp2_with fail
   refine C1.mono ?_
   rintro e w1 ⟨rfl,hb2⟩
   have hb12:=hb1.trans (hb2.mono hb1.size)
   have kp1:=cellC hb2 kp
   have k01:=cellC hb2 k0
   have k11:=cellC hb2 k1
   have hp2:=hp1.below hb2 (Nat.le_refl _)
   have hf2:=hf1.below hb2 (Nat.le_refl _)
   have hr2:=hr1.below hb2 (Nat.le_refl _)
   clear kp k0 k1 hp1 hf1 hr1 C1 hb1 hb2
   go_wp2_with (go_at_call 49;refine (l6In_any kn 1 3 _).mono ?_;rw [hk'];rintro e w1x ⟨rfl,rfl⟩)
   refine (l13Look_any a b o c ll _ hW.prog hl hls (by omega) hp2).mono ?_
   rintro e w3 ⟨O,va,g,cc,v1,v2,rfl,hLk⟩
   have hb13:=hb12.trans (hLk.bel.mono hb12.size)
   have k03:=cellC hLk.bel k01
   have k13:=cellC hLk.bel k11
   obtain ⟨St,CW,hP⟩:=holds_parts kn hk13 a b o c ll fa fb fo fc l ra rb ro rc rows _ w3 O va g cc v1 v2 hl hls hrs hW hdl hp2 hf2 hr2 hLk
   have hge:w.heap.size≤O:=by have:=hLk.ge;have:=hb12.size;omega
   clear hLk kp1 k01 k11 hp2 hf2 hr2 hW
   go_wp2_with fail
   refine CW.mono ?_
   rintro e w4 ⟨rfl,hSt,hBut⟩
   have hb14:Below w.heap.size w w4:=But.low hb13 hBut hge
   clear hb12 hb13 hBut CW k03 k13
   go_wp2_with fail
   refine (hP.net 0 (Or.inl rfl) w4 hSt).mono ?_
   rintro e w5 ⟨X1,rfl,⟨G1,c1,va1,rb1,rc1,hN1⟩,b5⟩
   have hSt5:=hP.bel _ _ hSt b5
   have hb15:=hb14.trans (b5.mono hb14.size)
   clear hSt hb14 b5
   go_wp2_with fail
   refine (hP.whole 0 (Or.inl rfl) X1 G1 c1 va1 rb1 rc1 w5 hSt5 hN1).mono ?_
   rintro e w6 ⟨X2,rfl,⟨G2,c2,va2,rb2,rc2,hN2⟩,b6⟩
   have hSt6:=hP.bel _ _ hSt5 b6
   have hb16:=hb15.trans (b6.mono hb15.size)
   clear hSt5 hb15 b6 hN1
   have CH:=netHolds_any X2 G2 _ c2 va2 rb2 rc2 _ w6 hdl hN2
   cases hH:M.holdsA (M.netOf (M.deeds ll) l rows 0) (M.deeds ll).length
   ·rw [hH] at CH
    have HF:Hid (M.orderHolds ll l rows kn=false):=by show _=_;rw [HO.out,hH];rfl
    clear hH
    go_wp2_with fail
    refine CH.mono ?_
    rintro e w7 ⟨rfl,b7⟩
    go_wp2_with fail
    go_ret
    exact ⟨ret_bool HF.out.symm,hb16.trans (b7.mono hb16.size)⟩
   ·rw [hH] at CH
    have HF:Hid (M.orderHolds ll l rows kn=M.waitsA (M.deeds ll).length (M.netOf (M.deeds ll) l rows kn) (M.choices (M.deeds ll))):=by show _=_;rw [HO.out,hH];rfl
    clear hH
    go_wp2_with fail
    refine CH.mono ?_
    rintro e w7 ⟨rfl,b7⟩
    have hSt7:=hP.bel _ _ hSt6 b7
    have hb17:=hb16.trans (b7.mono hb16.size)
    clear hSt6 hb16 b7 hN2
    go_wp2_with fail
    refine (hP.net kn (Or.inr rfl) w7 hSt7).mono ?_
    rintro e w8 ⟨X1,rfl,⟨G1,c1,va1,rb1,rc1,hN1⟩,b5⟩
    have hSt8:=hP.bel _ _ hSt7 b5
    have hb18:=hb17.trans (b5.mono hb17.size)
    clear hSt7 hb17 b5
    go_wp2_with fail
    refine (hP.whole kn (Or.inr rfl) X1 G1 c1 va1 rb1 rc1 w8 hSt8 hN1).mono ?_
    rintro e w9 ⟨X2,rfl,⟨G2,c2,va2,rb2,rc2,hN2⟩,b6⟩
    have hSt9:=hP.bel _ _ hSt8 b6
    have hb19:=hb18.trans (b6.mono hb18.size)
    clear hSt8 hb18 b6 hN1
    have CT:=hP.waits X2 G2 c2 va2 rb2 rc2 _ w9 hSt9 hN2
    go_wp2_with fail
    refine CT.mono ?_
    rintro e w10 ⟨rfl,b10⟩
    generalize M.waitsA (M.deeds ll).length (M.netOf (M.deeds ll) l rows kn) (M.choices (M.deeds ll))=r at *
    go_wp2_with fail
    go_ret
    exact ⟨ret_bool HF.out.symm,hb19.trans (b10.mono hb19.size)⟩
end
end Go.Proofs.YtdningnhbplfiaaGreat
