/- What an order allows, plainly: who is among it. No condition. And what goes with it: OaM, OaI, OaNet, OaS, OaAn, OaSn. -/
import Derived.Deep.OwnRows
import Derived.Test.YtmhpgdliaclokaaGreatRows
import Derived.Test.YtmhpgdliaclokaaGreatQtbd
import Derived.Test.YtmhpgdliaclokaaGreatQtbg
import Derived.Test.YtmhpgdliaclokaaGreatQtbh
namespace Go.Proofs.YtmhpgdliaclokaaGreat
section
namespace M
theorem holds_parts_of {ll:List (List D)} {l:List Int} {rows:List (List Int)} {kind:Int} (h:orderHolds ll l rows kind=true):(decide (1≤kind)&&decide (kind≤3))=true∧execOk ll l rows=true:=by
 unfold orderHolds at h
 obtain ⟨h1,h2⟩:=Bool.and_eq_true_iff.1 h
 exact ⟨h1,(Bool.and_eq_true_iff.1 h2).1⟩
theorem exec_prog {ll:List (List D)} {l:List Int} {rows:List (List Int)} (h:execOk ll l rows=true):prog ll=true:=by
 simp only [execOk,Bool.and_eq_true] at h;exact h.1
theorem mem_ways {ll:List (List D)} {x:Wy} (h:execOk ll x.1 x.2=true):x∈ways (deeds ll):=by
 rw [ways_eq (cop_deeds ll)]
 simp only [execOk,Bool.and_eq_true] at h
 exact mem_all.2 h.2
theorem mem_orderAll {ll:List (List D)} {kind:Int} {k:Key}:k∈orderAll ll kind↔∃ x:Wy,orderHolds ll x.1 x.2 kind=true∧seenOf ll x=k:=by
 unfold orderAll
 cases hg:((decide (1≤kind)&&decide (kind≤3))&&prog ll)
 ·simp only [Bool.false_eq_true,if_false,List.not_mem_nil,false_iff]
  rintro ⟨x,hx,_⟩
  have h:=holds_parts_of hx
  rw [h.1,exec_prog h.2] at hg
  cases hg
 ·rw [if_pos rfl,mem_sortK,orderList,List.mem_map]
  constructor
  ·rintro ⟨x,hx,e⟩
   exact ⟨x,(List.mem_filter.1 hx).2,e⟩
  ·rintro ⟨x,hx,e⟩
   exact ⟨x,List.mem_filter.2 ⟨mem_ways (holds_parts_of hx).2,hx⟩,e⟩
theorem putIn_len (l:List Ky) (k:Ky):(putIn l k).length≤l.length+1:=by
 induction l with
 | nil=>simp [putIn]
 | cons x l ih =>
  rw [putIn]
  split
  ·simp
  ·split<;>simp<;>omega
theorem fold_len:∀ (l a:List Ky),(l.foldl putIn a).length≤a.length+l.length
 | [],a=>by simp
 | x::l,a=>by
  have h1:=fold_len l (putIn a x)
  have h2:=putIn_len a x
  simp only [List.foldl_cons,List.length_cons]
  omega
theorem orderAll_len (ll:List (List D)) (kind:Int):(orderAll ll kind).length≤117649:=by
 unfold orderAll
 cases hp:prog ll
 ·rw [Bool.and_false];simp
 ·split
  ·have h1:=fold_len (orderList ll kind) []
   have h2:(orderList ll kind).length≤(ways (deeds ll)).length:=by
    rw [orderList,List.length_map];exact List.length_filter_le _ _
   have h3:=ways_le2 hp
   have h4:(sortK (orderList ll kind)).length=((orderList ll kind).foldl putIn []).length:=rfl
   simp only [List.length_nil] at h1
   omega
  ·simp
theorem orderAll_le (ll:List (List D)) (kind:Int):KLe (orderAll ll kind) 1048576:=fun k hk=>by
 obtain ⟨x,hx,rfl⟩:=mem_orderAll.1 hk
 have h:=(holds_parts_of hx).2
 have hW:=wok_of h
 have hb:=prog_le hW.prog
 have hdl:=deeds_len hb.1 hb.2
 have h1:=seenR_len (deeds ll) x.1
 have h3:=hW.three.out
 exact ⟨by simp only [seenOf];omega,by simp only [seenOf,seenL,List.length_map];omega⟩
end M
end
section
open Go.RowKit
structure Tld (w w':World) (v:Value) (ks:List Key):Prop where
 ex:∃ a g c,v=.slice a ks.length c∧KS w' a g 0 ks
 bel:Below w.heap.size w w'
end
section
open Go.RowKit
structure NtB (w:World) (O X G n c:Nat) (va:Option Addr) (rb rc:Nat→Nat) (A:Nat→Nat→Bool):Prop where
 nt:NtAt w X G n c va rb rc A
 nX:X≠O
 nG:0 < n→G≠O
 nR:∀ a,a < n→rb a≠O
theorem NtB.but {w w':World} {O X G n c:Nat} {va:Option Addr} {rb rc:Nat→Nat} {A:Nat→Nat→Bool} (h:NtB w O X G n c va rb rc A) (hb:But O w w'):NtB w' O X G n c va rb rc A :=
 ⟨⟨(hb.cell (p:=⟨X,0,none⟩) (World.block_lt_of_cell? _ _ h.nt.box) h.nX).trans h.nt.box,h.nt.addr,fun a ha=>(hb.cell (p:=⟨G,a,none⟩) (World.block_lt_of_cell? _ _ (h.nt.outer a ha)) (h.nG (by omega))).trans (h.nt.outer a ha),fun a ha b hb'=>(hb.cell (p:=⟨rb a,b,none⟩) (World.block_lt_of_cell? _ _ (h.nt.row a ha b hb')) (h.nR a ha)).trans (h.nt.row a ha b hb')⟩,h.nX,h.nG,h.nR⟩
theorem NtB.below {w w':World} {O X G n c:Nat} {va:Option Addr} {rb rc:Nat→Nat} {A:Nat→Nat→Bool} (h:NtB w O X G n c va rb rc A) (hb:Below w.heap.size w w'):NtB w' O X G n c va rb rc A:=⟨h.nt.below hb,h.nX,h.nG,h.nR⟩
set_option maxHeartbeats 1000000 in
set_option maxRecDepth 100000 in
theorem netE2_any (O cc:Nat) (va:Option Addr) (k:Nat) (A:Nat→Nat→Bool) (w:World) (h:w.cell? ⟨O,1,none⟩=some (.slice va 0 cc)) :
  Calls Tryz.prog 37 #[.pointer (some ⟨O,0,none⟩),.int .i64 k] w fun e w'=>∃ X',e=.returned (.pointer (some ⟨X',0,none⟩))∧(∃ G c va rb rc,NtB w' O X' G 0 c va rb rc A)∧Below w.heap.size w w':=by
 have hO:O < w.heap.size:=World.block_lt_of_cell? _ _ h
 go_enter Tryz.func37,Tryz.ntmps37
 go_wp2_with fail
 go_loopw [6] (fun s6 wr=>s6=.int .i64 0∧S1 wr w.heap.size (.slice none 0 0)∧Below w.heap.size w wr) (fun _ _=>0)
 case atStart=>exact ⟨rfl,⟨by simp,by simp⟩,below1 _ _⟩
 case round =>
  obtain ⟨rfl,hS1,hbel⟩:=hrel
  have l0:=cellC hbel h
  have s0:=hS1.c
  go_wp2_with fail
  go_ret
  exact ⟨_,rfl,⟨0,0,none,fun _=>0,fun _=>0,⟨⟨s0,fun h=>absurd h (Nat.lt_irrefl _),fun a ha=>absurd ha (Nat.not_lt_zero _),fun a ha=>absurd ha (Nat.not_lt_zero _)⟩,by omega,fun h=>absurd h (Nat.lt_irrefl _),fun a ha=>absurd ha (Nat.not_lt_zero _)⟩⟩,hbel⟩
theorem netG_any (k:Nat) (hk:k≤3) (a:Option Addr) (b o c:Nat) (ll:List (List M.D)) (w2 w3:World) (O:Nat) (va:Option Addr) (g cc:Nat) (v1 v2:Value) (hl:ll.length≤1048576) (hls:∀ t∈ll,t.length≤1048576) (hdl:(M.deeds ll).length≤28) (hp2:DoSS w2 a b o ll) (hLk:LookedG w2 w3 O a c ll va g cc v1 v2) :
  Calls Tryz.prog 37 #[.pointer (some ⟨O,0,none⟩),.int .i64 k] w3 fun e w'=>∃ X',e=.returned (.pointer (some ⟨X',0,none⟩))∧(∃ G c va rb rc,NtB w' O X' G (M.deeds ll).length c va rb rc (M.staysAt (M.deeds ll) k))∧Below w3.heap.size w3 w':=by
 obtain ⟨f4,f5,hblk⟩:=hLk.blk
 have c0:w3.cell? ⟨O,0,none⟩=some (.slice a ll.length c):=by simp [World.cell?,hblk]
 have c1:w3.cell? ⟨O,1,none⟩=some (.slice va (M.deeds ll).length cc):=by simp [World.cell?,hblk]
 have c2:w3.cell? ⟨O,2,none⟩=some v1:=by simp [World.cell?,hblk]
 have c3:w3.cell? ⟨O,3,none⟩=some v2:=by simp [World.cell?,hblk]
 rcases Nat.eq_zero_or_pos (M.deeds ll).length with h0 | hpos
 ·have hnil:M.deeds ll=[]:=List.eq_nil_of_length_eq_zero h0
  rw [h0] at c1
  rw [hnil]
  exact netE2_any O cc va k _ w3 c1
 ·obtain ⟨rfl⟩:=hLk.dv.addr hpos
  obtain ⟨ub,uc,rfl,_,_⟩:=hLk.own1.form hpos
  obtain ⟨wb,wc,rfl,_,_⟩:=hLk.own2.form hpos
  have rd:∀ n x,(M.deeds ll)[n]?=some x→w3.cell? ⟨ub,n,none⟩=some (.bool (M.reads x.d.k)):=fun n x hx=>by
   have hn:n < (M.deeds ll).length:=by
    rcases Nat.lt_or_ge n (M.deeds ll).length with h | h
    ·exact h
    ·rw [List.getElem?_eq_none h] at hx;cases hx
   have o1:=hLk.own1
   have:=own_bools (l:=(M.deeds ll).map fun x=>M.reads x.d.k) (by rw [List.length_map];exact o1) n (by simpa using hn)
   rw [List.getElem?_eq_getElem hn] at hx
   rw [this,List.getElem_map,Option.some.inj hx]
  have wrt:∀ n x,(M.deeds ll)[n]?=some x→w3.cell? ⟨wb,n,none⟩=some (.bool (M.writes x.d.k)):=fun n x hx=>by
   have hn:n < (M.deeds ll).length:=by
    rcases Nat.lt_or_ge n (M.deeds ll).length with h | h
    ·exact h
    ·rw [List.getElem?_eq_none h] at hx;cases hx
   have o1:=hLk.own2
   have:=own_bools (l:=(M.deeds ll).map fun x=>M.writes x.d.k) (by rw [List.length_map];exact o1) n (by simpa using hn)
   rw [List.getElem?_eq_getElem hn] at hx
   rw [this,List.getElem_map,Option.some.inj hx]
  have hkO:(⟨O,a,b,o,c,ll,g,cc⟩:Lp).Ok:=⟨hl,hls,by show (M.deeds ll).length≤42;omega⟩
  have hA:(⟨ub,uc,wb,wc,0,0,0,[],0,0,[]⟩:Lq).Ar ⟨O,a,b,o,c,ll,g,cc⟩ w3:=⟨⟨c0,c1,hp2.below hLk.bel (Nat.le_refl _),hLk.dv⟩,c2,c3,rd,wrt⟩
  have C:=netR_of ⟨O,a,b,o,c,ll,g,cc⟩ _ k w3 hdl hA (by
   intro p q x y w h hx hy
   rcases (show k=0∨k=1∨k=2∨k=3 by omega) with rfl | rfl | rfl | rfl
   ·exact stays0R_any _ _ p q x y w hkO h hx hy
   ·exact stays1R_any _ _ p q x y w hkO h hx hy
   ·exact stays2R_any _ _ p q x y w hkO h hx hy
   ·exact stays3R_any _ _ p q x y w hkO h hx hy)
  have hOl:=hLk.lt
  refine C.mono (fun e w' ⟨X',he,⟨G',c',va',rb',rc',hO⟩,hb⟩=>⟨X',he,⟨G',c',va',rb',rc',hO.nt,?_,fun _ e1=>?_,fun i hi e1=>?_⟩,hb⟩)
  ·have:=hO.geX;omega
  ·subst e1
   have c0':=(hb.cell (p:=⟨G',0,none⟩) hOl).trans c0
   have h1:=hO.nt.outer 0 hpos
   rw [c0'] at h1
   have e2:a=some ⟨rb' 0,0,none⟩:=by simpa using congrArg (fun v=>match v with | some (Value.slice q _ _)=>q | _=>none) h1
   have hlp:0 < ll.length:=by
    cases ll with
    | nil=>simp [M.deeds,M.deF] at hpos
    | cons _ _=>simp
   have e3:=hp2.addr hlp
   rw [e2] at e3
   have e4:rb' 0=b:=by simpa using congrArg (fun v=>match v with | some (q:Addr)=>q.block | _=>0) e3
   have h5:=hO.ge 0 hpos
   obtain ⟨_,_,_,_,h6,_⟩:=hp2.row 0 hlp
   have h7:b < w2.heap.size:=World.block_lt_of_cell? _ _ h6
   have h8:=hLk.bel.size
   omega
  ·have:=hO.ge i hi;omega
end
section
open Go.RowKit
theorem Sn.At.butO {s:Sn} {w w':World} {O:Nat} (h:s.At w) (hb:But O w w') (h1:s.b1≠O) (h2:s.b2≠O):s.At w' :=
 ⟨⟨h.reads.addr,fun i hi=>(hb.cell (p:=⟨s.b1,_,none⟩) (World.block_lt_of_cell? _ _ (h.reads.row i hi)) h1).trans (h.reads.row i hi)⟩,⟨h.last.addr,fun i hi=>(hb.cell (p:=⟨s.b2,_,none⟩) (World.block_lt_of_cell? _ _ (h.last.row i hi)) h2).trans (h.last.row i hi)⟩⟩
theorem M.row_len {ds:List M.De} {rows:List (List Int)} (h:M.orderOk ds rows=true) (hd:ds.length≤42):∀ r∈rows,r.length≤1048576:=by
 have key:∀ (rows:List (List Int)) (p:Nat),M.orderAt ds p rows=true→∀ r∈rows,r.length≤ds.length:=by
  intro rows
  induction rows with
  | nil=>intro p _ r hr;cases hr
  | cons x rows ih =>
   intro p h r hr
   simp only [M.orderAt,M.isRow,Bool.and_eq_true,decide_eq_true_eq] at h
   rcases List.mem_cons.1 hr with rfl | hr
   ·have:=M.wrs_len p ds 0;omega
   ·exact ih _ h.2 r hr
 simp only [M.orderOk,Bool.and_eq_true] at h
 intro r hr
 have:=key rows 0 h.2 r hr
 omega
structure SLO (w:World) (O g:Nat) (tt:List Sn):Prop where
 sl:SL w g tt
 lt:g < w.heap.size
 ne:g≠O
 off:∀ t∈tt,t.b1≠O∧t.b2≠O
theorem SLO.but {w w':World} {O g:Nat} {tt:List Sn} (h:SLO w O g tt) (hb:But O w w'):SLO w' O g tt:=by
 refine ⟨⟨⟨fun i hi=>?_,fun j=>?_⟩,fun s hs=>⟨(h.sl.at_ s hs).1.butO hb (h.off s hs).1 (h.off s hs).2,(h.sl.at_ s hs).2⟩⟩,Nat.lt_of_lt_of_le h.lt hb.size,h.ne,h.off⟩
 ·obtain ⟨c1,c2⟩:=h.sl.sr.c i hi
  exact ⟨(hb.cell (p:=⟨g,i * 2,none⟩) h.lt h.ne).trans c1,(hb.cell (p:=⟨g,i * 2+1,none⟩) h.lt h.ne).trans c2⟩
 ·exact (hb.frozen (p:=⟨g,j,none⟩) h.lt h.ne).trans (h.sl.sr.fz j)
theorem SLO.below {w w':World} {O g:Nat} {tt:List Sn} (h:SLO w O g tt) (hb:Below w.heap.size w w'):SLO w' O g tt:=h.but (But.of hb)
namespace M
theorem step_no {ll:List (List D)} {kind:Int} {xs:List Wy} {n:Nat} (hn:n < xs.length) (h:orderHolds ll xs[n].1 xs[n].2 kind=false):((xs.take (n+1)).filter fun x=>orderHolds ll x.1 x.2 kind)=(xs.take n).filter fun x=>orderHolds ll x.1 x.2 kind:=by
 rw [List.take_succ_eq_append_getElem hn,List.filter_append];simp [h]
theorem step_yes {ll:List (List D)} {kind:Int} {xs:List Wy} {n:Nat} (hn:n < xs.length) (h:orderHolds ll xs[n].1 xs[n].2 kind=true):((xs.take (n+1)).filter fun x=>orderHolds ll x.1 x.2 kind)=((xs.take n).filter fun x=>orderHolds ll x.1 x.2 kind)++[xs[n]]:=by
 rw [List.take_succ_eq_append_getElem hn,List.filter_append];simp [h]
def heldOf (ll:List (List D)) (kind:Int) (xs:List Wy):List Ky:=(xs.filter fun x=>orderHolds ll x.1 x.2 kind).map fun x=>(seenR (deeds ll) x.1,seenL (deeds ll) x.1 x.2)
theorem held_no {ll:List (List D)} {kind:Int} {xs:List Wy} {n:Nat} (hn:n < xs.length) (h:orderHolds ll xs[n].1 xs[n].2 kind=false):heldOf ll kind (xs.take (n+1))=heldOf ll kind (xs.take n):=by
 rw [heldOf,step_no hn h];rfl
theorem held_yes {ll:List (List D)} {kind:Int} {xs:List Wy} {n:Nat} (hn:n < xs.length) (h:orderHolds ll xs[n].1 xs[n].2 kind=true):heldOf ll kind (xs.take (n+1))=heldOf ll kind (xs.take n)++[(seenR (deeds ll) xs[n].1,seenL (deeds ll) xs[n].1 xs[n].2)]:=by
 rw [heldOf,step_yes hn h,List.map_append];rfl
theorem seen_le {ll:List (List D)} {x:Wy} {s:Sn} (h1:Hid (s.l1=seenR (deeds ll) x.1)) (h2:Hid (s.l2=seenL (deeds ll) x.1 x.2)) (hd:(deeds ll).length≤28) (h3:Hid (x.2.length=3)):s.Le 1048576:=by
 have:=rd_len (deeds ll) x.1 (deeds ll) 0
 have e3:=h3.out
 exact ⟨by rw [h1.out,seenR];omega,by rw [h2.out,seenL,List.length_map];omega⟩
end M
structure OaR (w w2 wr:World) (a:Option Addr) (c:Nat) (ll:List (List M.D)) (kn:Nat) (O:Nat) (va:Option Addr) (g cc:Nat) (v1 v2:Value) (X1 X2:Nat) (g5:Nat) (tt:List Sn):Prop where
 lk:LookedG w2 wr O a c ll va g cc v1 v2
 n1:∃ G c va rb rc,NtB wr O X1 G (M.deeds ll).length c va rb rc (M.staysAt (M.deeds ll) 0)
 n2:∃ G c va rb rc,NtB wr O X2 G (M.deeds ll).length c va rb rc (M.staysAt (M.deeds ll) kn)
 sl:SLO wr O g5 tt
 pc:wr.cell? ⟨w.heap.size,0,none⟩=some (.slice a ll.length c)
 bel:Below w.heap.size w wr
theorem OaR.below {w w2 wr w':World} {a:Option Addr} {c:Nat} {ll:List (List M.D)} {kn O:Nat} {va:Option Addr} {g cc:Nat} {v1 v2:Value} {X1 X2 g5:Nat} {tt:List Sn} (h:OaR w w2 wr a c ll kn O va g cc v1 v2 X1 X2 g5 tt) (hb:Below wr.heap.size wr w'):OaR w w2 w' a c ll kn O va g cc v1 v2 X1 X2 g5 tt:=by
 obtain ⟨G,c',va',rb,rc,h1⟩:=h.n1
 obtain ⟨G2,c2,va2,rb2,rc2,h2⟩:=h.n2
 exact ⟨h.lk.below hb,⟨G,c',va',rb,rc,h1.below hb⟩,⟨G2,c2,va2,rb2,rc2,h2.below hb⟩,h.sl.below hb,(hb.cell (p:=⟨w.heap.size,0,none⟩) (World.block_lt_of_cell? _ _ h.pc)).trans h.pc,h.bel.trans (hb.mono h.bel.size)⟩
theorem OaR.but {w w2 wr w':World} {a:Option Addr} {c:Nat} {ll:List (List M.D)} {kn O:Nat} {va:Option Addr} {g cc:Nat} {v1 v2:Value} {X1 X2 g5:Nat} {tt:List Sn} (h:OaR w w2 wr a c ll kn O va g cc v1 v2 X1 X2 g5 tt) (hO:w.heap.size < O) (hl:LookedG w2 w' O a c ll va g cc v1 v2) (hb:But O wr w'):OaR w w2 w' a c ll kn O va g cc v1 v2 X1 X2 g5 tt:=by
 obtain ⟨G,c',va',rb,rc,h1⟩:=h.n1
 obtain ⟨G2,c2,va2,rb2,rc2,h2⟩:=h.n2
 exact ⟨hl,⟨G,c',va',rb,rc,h1.but hb⟩,⟨G2,c2,va2,rb2,rc2,h2.but hb⟩,h.sl.but hb,(hb.cell (p:=⟨w.heap.size,0,none⟩) (World.block_lt_of_cell? _ _ h.pc) (by show w.heap.size≠O;omega)).trans h.pc,But.low h.bel hb (by omega)⟩
set_option maxHeartbeats 4000000 in
set_option maxRecDepth 100000 in
theorem l13All_any (a:Option Addr) (b o c:Nat) (ll:List (List M.D)) (la:Option Addr) (lg lc:Nat) (xs:List M.Wy) (kind:Int) (w:World) (hl:ll.length≤1048576) (hls:∀ t∈ll,t.length≤1048576) (hxl:xs.length≤1048575) (hok:∀ x∈xs,M.execOk ll x.1 x.2=true) (hle:∀ x∈xs,WyLe x) (h:DoSS w a b o ll) (hL:LW w la lg xs) :
  Calls Tryz.prog 129 #[.agg #[.slice a ll.length c],.slice la xs.length lc,.int .i64 kind] w fun e w'=>∃ g cap,∃ tt:List Sn,e=.returned (.slice (some ⟨g,0,none⟩) tt.length cap)∧kys tt=(if (decide (1≤kind)&&decide (kind≤3))&&M.prog ll then M.sortK (M.heldOf ll kind xs) else [])∧SL w' g tt∧tt.length≤xs.length∧tt.length≤cap∧Below w.heap.size w w':=by
 have b1:=below2 w (.cells #[.slice a ll.length c] 25) (.cells #[] 45)
 have k1:((w.alloc (.cells #[.slice a ll.length c] 25)).alloc (.cells #[] 45)).cell? ⟨w.heap.size,0,none⟩=some (.slice a ll.length c):=by simp
 have z1:((w.alloc (.cells #[.slice a ll.length c] 25)).alloc (.cells #[] 45)).heap.size=w.heap.size+2:=by simp
 have sl0:SL ((w.alloc (.cells #[.slice a ll.length c] 25)).alloc (.cells #[] 45)) (w.heap.size+1) []:=⟨⟨fun i hi=>absurd hi (Nat.not_lt_zero _),fun j=>by simp⟩,fun s hs=>absurd hs (by simp)⟩
 have hp1:=h.below b1 (Nat.le_refl _)
 have hL1:=hL.below b1
 have C1:=sprog_any a b o c ll _ hl hls hp1
 obtain ⟨res,hres⟩:∃ res,(if (decide (1≤kind)&&decide (kind≤3))&&M.prog ll then M.sortK (M.heldOf ll kind xs) else [])=res:=⟨_,rfl⟩
 rw [hres]
 have HRES:Hid ((if (decide (1≤kind)&&decide (kind≤3))&&M.prog ll then M.sortK (M.heldOf ll kind xs) else [])=res):=hres
 clear hres
 go_enter Tryz.func129,Tryz.ntmps129
 go_wp2_with fail
 generalize (w.alloc (.cells #[.slice a ll.length c] 25)).alloc (.cells #[] 45)=W0 at *
 refine C1.mono ?_
 clear C1
 cases hp:M.prog ll
 ·rintro e W1 ⟨rfl,b2⟩
  have HR:Hid (([]:List Key)=res):=by show _=_;rw [← HRES.out,hp,Bool.and_false];rfl
  clear hok
  go_wp2_with fail
  go_ret
  exact ⟨_,_,[],rfl,HR.out,sl0.below b2 (by omega),by simp,by simp,b1.trans (b2.mono b1.size)⟩
 ·rintro e W1 ⟨rfl,b2⟩
  cases hk:(decide (1≤kind)&&decide (kind≤3))
  ·have hk':M.rng 1 3 kind=false:=hk
   have HR:Hid (([]:List Key)=res):=by show _=_;rw [← HRES.out,hk];rfl
   clear hok hk
   go_wp2_with (go_at_call 59;refine (l6In_any kind 1 3 _).mono ?_;rw [hk'];rintro e w' ⟨rfl,rfl⟩)
   go_ret
   exact ⟨_,_,[],rfl,HR.out,sl0.below b2 (by omega),by simp,by simp,b1.trans (b2.mono b1.size)⟩
  ·have hk':M.rng 1 3 kind=true:=hk
   obtain ⟨kn,rfl⟩:∃ kn:Nat,kind=kn:=⟨kind.toNat,by simp only [Bool.and_eq_true,decide_eq_true_eq] at hk;omega⟩
   have hk13:1≤kn∧kn≤3:=by simp only [Bool.and_eq_true,decide_eq_true_eq] at hk;omega
   have HO:Hid (∀ l rows,M.execOk ll l rows=true→M.orderHolds ll l rows kn=(M.holdsA (M.netOf (M.deeds ll) l rows 0) (M.deeds ll).length&&M.waitsA (M.deeds ll).length (M.netOf (M.deeds ll) l rows kn) (M.choices (M.deeds ll)))):=by intro l rows he;unfold M.orderHolds;rw [he,hk];simp
   have HZ:Hid ((M.heldOf ll kn xs).foldl M.putIn []=res):=by show _=_;rw [← HRES.out,hk,hp];rfl
   have hdl:=M.deeds28 hp
   have HOK:Hid (∀ x∈xs,M.execOk ll x.1 x.2=true):=hok
   have HPR:Hid (M.prog ll=true):=hp
   clear hok hk hp
   have b12:=b1.trans (b2.mono b1.size)
   have pc1:=(b2.cell (p:=⟨w.heap.size,0,none⟩) (World.block_lt_of_cell? _ _ k1)).trans k1
   have hp2:=hp1.below b2 (Nat.le_refl _)
   have hL2:=hL1.below b2
   have sl1:=sl0.below b2 (by omega)
   have s12:=b2.size
   clear k1 hp1 hL1 sl0 b1 b2
   go_wp2_with (go_at_call 59;refine (l6In_any kn 1 3 _).mono ?_;rw [hk'];rintro e w1x ⟨rfl,rfl⟩)
   refine (l13Look_any a b o c ll _ HPR.out hl hls (by omega) hp2).mono ?_
   rintro e w3 ⟨O,va,g,cc,v1,v2,rfl,hLk0⟩
   have hLk:=hLk0.g
   have hOge:w.heap.size+2≤O:=by have:=hLk.ge;omega
   have b13:=b12.trans (hLk.bel.mono b12.size)
   have pc3:=cellC hLk.bel pc1
   have sl3:SLO w3 O (w.heap.size+1) []:=⟨sl1.below hLk.bel (by omega),by have:=hLk.bel.size;omega,by omega,fun t ht=>by cases ht⟩
   clear hLk0 sl1 pc1
   go_wp2_with fail
   refine (netG_any 0 (by omega) a b o c ll _ w3 O va g cc v1 v2 hl hls hdl hp2 hLk).mono ?_
   rintro e w4 ⟨X1,rfl,⟨G1,c1,va1,rb1,rc1,hN1⟩,b4⟩
   have hLk4:=hLk.below b4
   have b14:=b13.trans (b4.mono b13.size)
   have pc4:=cellC b4 pc3
   have sl4:=sl3.below b4
   clear hLk pc3 sl3
   go_wp2_with fail
   refine (netG_any kn (by omega) a b o c ll _ w4 O va g cc v1 v2 hl hls hdl hp2 hLk4).mono ?_
   rintro e w5 ⟨X2,rfl,⟨G2,c2,va2,rb2,rc2,hN2⟩,b5⟩
   have OR0:OaR w _ w5 a c ll kn O va g cc v1 v2 X1 X2 (w.heap.size+1) []:=⟨hLk4.below b5,⟨G1,c1,va1,rb1,rc1,hN1.below b5⟩,⟨G2,c2,va2,rb2,rc2,hN2⟩,sl4.below b5,cellC b5 pc4,b14.trans (b5.mono b14.size)⟩
   clear hLk4 pc4 sl4 b4 b5 hN1 hN2 b14 b13 b12
   go_wp2_with fail
   go_loopw [7,11] (fun s7 s11 wr=>∃ (n g5 cap5:Nat) (tt:List Sn),s7=.slice (some ⟨g5,0,none⟩) tt.length cap5∧s11=.int .i64 n∧n≤xs.length∧tt.length≤n∧tt.length≤cap5∧Hid (kys tt=(M.heldOf ll kn (xs.take n)).foldl M.putIn [])∧OaR w w1x wr a c ll kn O va g cc v1 v2 X1 X2 g5 tt) (fun _ s11 _=>xs.length - (intOf s11).toNat)
   case atStart=>exact ⟨0,_,0,[],rfl,rfl,Nat.zero_le _,by simp,by simp,rfl,OR0⟩
   case round =>
    clear OR0
    obtain ⟨n,g5,cap5,tt,rfl,rfl,hn,htn,htc,HK,R⟩:=hrel
    by_cases hlt:n < xs.length
    ·have i1:(n:Int) < xs.length:=by omega
     obtain ⟨rfl⟩:=hL2.addr (by omega)
     obtain ⟨fa,fb,fc,ra,rb,rc,f1,f2,hF,hR⟩:=hL2.row n hlt
     have hxo:=HOK.out _ (List.getElem_mem hlt)
     have hxl':=hle _ (List.getElem_mem hlt)
     obtain ⟨x,hx⟩:∃ x,xs[n]=x:=⟨_,rfl⟩
     rw [hx] at f1 f2 hF hR hxo hxl'
     have HX:Hid (xs[n]=x):=hx
     clear hx
     have hW:=M.wok_of hxo
     have hY:=M.way_of hxo
     have q1:=cellC R.lk.bel f1
     have q2:=cellC R.lk.bel f2
     obtain ⟨St,CW,hP⟩:=holdsG_parts kn hk13 a b o c ll fa fb 0 fc x.1 ra rb 0 rc x.2 _ wr O va g cc v1 v2 hl hls hxl'.c hW hdl hp2 hF hR R.lk
     have HOX:=HO.out x.1 x.2 hxo
     go_wp2_with fail
     refine CW.mono ?_
     rintro e w4 ⟨rfl,hSt,hLkw,hBut⟩
     have R4:=R.but (by omega) hLkw hBut
     clear R hBut hLkw CW q1 q2
     obtain ⟨G1,c1,va1,rb1,rc1,hN1⟩:=R4.n1
     go_wp2_with fail
     refine (hP.whole 0 (Or.inl rfl) X1 G1 c1 va1 rb1 rc1 w4 hSt hN1.nt).mono ?_
     rintro e w6 ⟨X3,rfl,⟨G3,c3,va3,rb3,rc3,hN3⟩,b6⟩
     have hSt6:=hP.bel _ _ hSt b6
     have R6:=R4.below b6
     clear R4 hSt b6 hN1
     have CH:=netHolds_any X3 G3 _ c3 va3 rb3 rc3 _ w6 hdl hN3
     cases hH:M.holdsA (M.netOf (M.deeds ll) x.1 x.2 0) (M.deeds ll).length
     ·rw [hH] at CH
      have HN:Hid (M.heldOf ll kn (xs.take (n+1))=M.heldOf ll kn (xs.take n)):=by
       show _=_
       refine M.held_no hlt ?_
       rw [HX.out,HOX,hH];rfl
      clear hH HOX HX
      go_wp2_with fail
      refine CH.mono ?_
      rintro e w7 ⟨rfl,b7⟩
      have R7:=R6.below b7
      clear R6 CH b7 hP
      go_wp2_with fail
      exact ⟨⟨n+1,g5,cap5,tt,rfl,by go_num,by omega,by omega,htc,by show _=_;rw [HN.out];exact HK.out,R7⟩,by simp [intOf];omega⟩
     ·rw [hH] at CH
      go_wp2_with fail
      refine CH.mono ?_
      rintro e w7 ⟨rfl,b7⟩
      have R7:=R6.below b7
      have hSt7:=hP.bel _ _ hSt6 b7
      clear R6 CH b7 hSt6 hN3
      obtain ⟨G2,c2,va2,rb2,rc2,hN2⟩:=R7.n2
      go_wp2_with fail
      refine (hP.whole kn (Or.inr rfl) X2 G2 c2 va2 rb2 rc2 w7 hSt7 hN2.nt).mono ?_
      rintro e w9 ⟨X4,rfl,⟨G4,c4,va4,rb4,rc4,hN4⟩,b9⟩
      have hSt9:=hP.bel _ _ hSt7 b9
      have R9:=R7.below b9
      clear R7 hSt7 b9 hN2
      have CT:=hP.waits X4 G4 c4 va4 rb4 rc4 _ w9 hSt9 hN4
      cases hV:M.waitsA (M.deeds ll).length (M.netOf (M.deeds ll) x.1 x.2 kn) (M.choices (M.deeds ll))
      ·rw [hV] at CT
       have HN:Hid (M.heldOf ll kn (xs.take (n+1))=M.heldOf ll kn (xs.take n)):=by
        show _=_
        refine M.held_no hlt ?_
        rw [HX.out,HOX,hH,hV];rfl
       clear hH HOX HX hV
       go_wp2_with fail
       refine CT.mono ?_
       rintro e w10 ⟨rfl,b10⟩
       have R10:=R9.below b10
       clear R9 CT b10 hP
       go_wp2_with fail
       exact ⟨⟨n+1,g5,cap5,tt,rfl,by go_num,by omega,by omega,htc,by show _=_;rw [HN.out];exact HK.out,R10⟩,by simp [intOf];omega⟩
      ·rw [hV] at CT
       have HN:Hid (M.heldOf ll kn (xs.take (n+1))=M.heldOf ll kn (xs.take n)++[(M.seenR (M.deeds ll) x.1,M.seenL (M.deeds ll) x.1 x.2)]):=by
        show _=_
        have:=M.held_yes (ll:=ll) (kind:=kn) hlt (by rw [HX.out,HOX,hH,hV];rfl)
        rw [HX.out] at this
        exact this
       clear hH HOX HX hV
       go_wp2_with fail
       refine CT.mono ?_
       rintro e w10 ⟨rfl,b10⟩
       have R10:=R9.below b10
       clear R9 CT b10 hP hSt9 hN4
       have R11:=R10.below (Below.refl _ _).drew
       clear R10
       have hbL:=R11.lk.bel
       have hOl:=R11.lk.lt
       obtain ⟨f4,f5,hblk⟩:=R11.lk.blk
       have cO:w10.cell? ⟨O,1,none⟩=some (.slice va (M.deeds ll).length cc):=by
        have:w10.drew.cell? ⟨O,1,none⟩=some (.slice va (M.deeds ll).length cc):=by simp [World.cell?,hblk]
        exact this
       have cP:w10.cell? ⟨w.heap.size,0,none⟩=some (.slice a ll.length c):=R11.pc
       have q1d:=cellC hbL f1
       have q1:w10.cell? ⟨lg,n * 2,none⟩=some (.slice fa x.1.length fc):=q1d
       have q2d:=cellC hbL f2
       have q2:w10.cell? ⟨lg,n * 2+1,none⟩=some (.slice ra x.2.length rc):=q2d
       clear q1d q2d
       have CS:=l12Seen_any a b o c ll va g cc fa fb 0 fc x.1 ra rb 0 rc x.2 w10.drew hl hls (by omega) hY.len hY.inn hY.three hxl'.c hY.mem (hp2.below hbL (Nat.le_refl _)) R11.lk.dv (hF.below hbL (Nat.le_refl _)) (hR.below hbL (Nat.le_refl _))
       have HASC:Hid (M.Asc (kys tt)):=by show M.Asc (kys tt);rw [HK.out];exact M.foldl_asc _ [] List.Pairwise.nil
       clear hblk
       go_wp2_with fail
       go_region_held3 (fun z=>z.cell? ⟨w.heap.size,0,none⟩=some (.slice a ll.length c)∧z.cell? ⟨O,1,none⟩=some (.slice va (M.deeds ll).length cc)∧z.cell? ⟨lg,n * 2,none⟩=some (.slice fa x.1.length fc)∧z.cell? ⟨lg,n * 2+1,none⟩=some (.slice ra x.2.length rc)) (go_keep) (first
        | (go_at_call 113;refine CS.mono ?_;rintro e w12 ⟨s,rfl,hs1,hs2,hsA,hsb1,hsb2,hscc,b12⟩;have HS1:Hid (s.l1=_):=hs1;have HS2:Hid (s.l2=_):=hs2;clear hs1 hs2;have R12:=R11.below b12;have Y1:=R12.pc;have Y2:=cellC b12 cO;have Y3:=cellC b12 q1;have Y4:=cellC b12 q2;have hsl:=M.seen_le (ll:=ll) (x:=x) HS1 HS2 hdl hY.three)
        | (go_at_call 178;refine (l2Put_any g5 cap5 tt s _ (by omega) R12.sl.sl R12.sl.lt hsA hsl HASC.out htc).mono ?_;rintro e w13 ⟨g6,cap6,uu,rfl,hku,hSu,hgu,hul,huc,hin,hgg,b13⟩;have HKU:Hid (kys uu=_):=hku;clear hku;have R13:=R12.below b13;have U1:=R13.pc;have U2:=cellC b13 Y2;have U3:=cellC b13 Y3;have U4:=cellC b13 Y4))
       have s12':=b12.size
       have hOd:O < w10.heap.size:=hOl
       have hsd:w10.heap.size≤s.b1∧w10.heap.size≤s.b2:=⟨hsb1,hsb2⟩
       have hwd:w10.heap.size≤w12.heap.size:=s12'
       have SF:SLO w13 O g6 uu:=⟨hSu,hgu,by have:=R12.sl.ne;have:=R12.sl.lt;omega,fun t ht=>by
        rcases hin t ht with h1 | rfl
        ·exact R12.sl.off t h1
        ·omega⟩
       have RF:OaR w w1x w13 a c ll kn O va g cc v1 v2 X1 X2 g6 uu:=⟨R13.lk,R13.n1,R13.n2,SF,R13.pc,R13.bel⟩
       have HF:Hid (kys uu=(M.heldOf ll kn (xs.take (n+1))).foldl M.putIn []):=by
        show _=_
        rw [HN.out,List.foldl_append,← HK.out,HKU.out]
        simp only [List.foldl_cons,List.foldl_nil,Sn.ky,HS1.out,HS2.out]
       clear R11 R12 R13 U1 U2 U3 U4 Y1 Y2 Y3 Y4 HKU HN HK CS
       go_wp2_with fail
       exact ⟨⟨n+1,g6,cap6,uu,rfl,by go_num,by omega,by omega,huc,HF,RF⟩,by simp [intOf];omega⟩
    ·have i1:¬ (n:Int) < xs.length:=by omega
     have e1:xs.take n=xs:=List.take_of_length_le (by omega)
     rw [e1] at HK
     go_wp2_with fail
     go_ret
     exact ⟨g5,cap5,tt,rfl,HK.out.trans HZ.out,R.sl.sl,by omega,htc,R.bel⟩
def M.sorderAll (ll:List (List M.D)) (kind:Int):List Key:=if (decide (1≤kind)&&decide (kind≤3))&&M.prog ll then M.sortK (M.heldOf ll kind (M.specAll ll)) else []
set_option maxHeartbeats 2000000 in
set_option maxRecDepth 100000 in
theorem sorderAll_any (a:Option Addr) (b o c:Nat) (ll:List (List M.D)) (kind:Int) (w:World) (hl:ll.length≤1048576) (hls:∀ t∈ll,t.length≤1048576) (h:DoSS w a b o ll) :
  Calls Tryz.prog 67 #[.agg #[.slice a ll.length c],.int .i64 kind] w fun e w'=>∃ g cap,∃ tt:List Sn,e=.returned (.slice (some ⟨g,0,none⟩) tt.length cap)∧kys tt=M.sorderAll ll kind∧SL w' g tt∧tt.length≤117649∧tt.length≤cap∧Below w.heap.size w w':=by
 have b1:=below1 w (.cells #[.slice a ll.length c] 25)
 have k1:(w.alloc (.cells #[.slice a ll.length c] 25)).cell? ⟨w.heap.size,0,none⟩=some (.slice a ll.length c):=by simp
 have hle:∀ x∈M.specAll ll,WyLe x:=fun x hx=>by
  have ho:=M.mem_execAll.1 hx
  have hW:=M.wok_of ho
  have hb:=M.prog_le hW.prog
  have hdl:=M.deeds_len hb.1 hb.2
  refine ⟨by have:=hW.len.out;omega,by have:=hW.three.out;omega,fun r hr=>?_⟩
  simp only [M.execOk,M.wayOk,Bool.and_eq_true] at ho
  exact M.row_len ho.2.2.1 hdl r hr
 have hok:∀ x∈M.specAll ll,M.execOk ll x.1 x.2=true:=fun x hx=>M.mem_execAll.1 hx
 have hxl:(M.specAll ll).length≤117649:=by
  unfold M.specAll
  cases hp:M.prog ll
  ·simp
  ·rw [if_pos rfl,← M.ways_eq (M.cop_deeds ll)]
   exact M.ways_le2 hp
 have hp1:=h.below b1 (Nat.le_refl _)
 go_enter Tryz.func67,Tryz.ntmps67
 go_wp2_with fail
 generalize w.alloc (.cells #[.slice a ll.length c] 25)=W0 at *
 have hp1d:=hp1.below (Below.refl _ _).drew (Nat.le_refl _)
 have CX:=sexecAllW_any a b o c ll W0.drew hl hls hp1d
 go_region_held3 (fun z=>z.cell? ⟨w.heap.size,0,none⟩=some (.slice a ll.length c)) (go_keep) (first
  | (go_at_call 51;refine CX.mono ?_;rintro e w2 ⟨v,rfl,hA⟩;obtain ⟨la,lg,lc,rfl,hLW⟩:=hA.lw;have hA2:=hA.bel;have Y1:=cellC hA2 k1)
  | (go_at_call 129;refine (l13All_any a b o c ll la lg lc _ kind _ hl hls (by omega) hok hle (hp1d.below hA2 (Nat.le_refl _)) hLW).mono ?_;rintro e w3 ⟨g,cap,tt,rfl,hk,hS,h1,h2,h3⟩;have HK:Hid (kys tt=_):=hk;clear hk;have U1:=cellC h3 Y1))
 have bF:Below w.heap.size w w3:=(b1.trans ((Below.refl _ _).drew.mono b1.size)).trans ((hA2.trans (h3.mono hA2.size)).mono b1.size)
 go_wp2_with fail
 go_ret
 exact ⟨g,cap,tt,rfl,HK.out,hS,by omega,h2,bF⟩
end
section
open Go.RowKit
theorem M.sorder_same (ll:List (List M.D)) (kind:Int):M.sorderAll ll kind=M.orderAll ll kind:=by
 unfold M.sorderAll M.orderAll
 cases hp:M.prog ll
 ·rw [Bool.and_false];rfl
 ·congr 1
  unfold M.heldOf M.orderList M.specAll
  rw [if_pos hp,M.ways_eq (M.cop_deeds ll)]
  rfl
theorem sorderAllK (a:Option Addr) (b o c:Nat) (ll:List (List M.D)) (kind:Int) (w:World) (hl:ll.length≤1048576) (hls:∀ t∈ll,t.length≤1048576) (h:DoSS w a b o ll) :
  Calls Tryz.prog 67 #[.agg #[.slice a ll.length c],.int .i64 kind] w fun e w'=>∃ v,e=.returned v∧Tld w w' v (M.orderAll ll kind):=by
 refine (sorderAll_any a b o c ll kind w hl hls h).mono fun e w' ⟨g,cap,tt,he,hk,hS,_,_,hb⟩=>⟨_,he,?_,hb⟩
 rw [M.sorder_same] at hk
 have:=hS.ks
 rw [hk] at this
 exact ⟨some ⟨g,0,none⟩,g,cap,by rw [← hk,kys_len],this⟩
end
section
open Go.RowKit
set_option maxHeartbeats 4000000 in
set_option maxRecDepth 100000 in
theorem l13AllN_any (a:Option Addr) (b o c:Nat) (ll:List (List M.D)) (la:Option Addr) (lg lc:Nat) (xs:List M.Wy) (kind:Int) (w:World) (hl:ll.length≤1048576) (hls:∀ t∈ll,t.length≤1048576) (hxl:xs.length≤1048575) (hok:∀ x∈xs,M.execOk ll x.1 x.2=true) (hle:∀ x∈xs,WyLe x) (h:DoSS w a b o ll) (hL:LW w la lg xs) :
  Calls Tryz.prog 129 #[.agg #[.slice a ll.length c],.slice la xs.length lc,.int .i64 kind] w fun e w'=>∃ g cap,∃ tt:List Sn,e=.returned (.slice (some ⟨g,0,none⟩) tt.length cap)∧kys tt=(if (decide (1≤kind)&&decide (kind≤3))&&M.prog ll then M.sortK (M.heldOf ll kind xs) else [])∧SL w' g tt∧tt.length≤xs.length∧tt.length≤cap∧(w.heap.size≤g∧∀ s∈tt,w.heap.size≤s.b1∧w.heap.size≤s.b2∧s.l1.length≤s.c1)∧Below w.heap.size w w':=by
 have b1:=below2 w (.cells #[.slice a ll.length c] 25) (.cells #[] 45)
 have k1:((w.alloc (.cells #[.slice a ll.length c] 25)).alloc (.cells #[] 45)).cell? ⟨w.heap.size,0,none⟩=some (.slice a ll.length c):=by simp
 have z1:((w.alloc (.cells #[.slice a ll.length c] 25)).alloc (.cells #[] 45)).heap.size=w.heap.size+2:=by simp
 have sl0:SL ((w.alloc (.cells #[.slice a ll.length c] 25)).alloc (.cells #[] 45)) (w.heap.size+1) []:=⟨⟨fun i hi=>absurd hi (Nat.not_lt_zero _),fun j=>by simp⟩,fun s hs=>absurd hs (by simp)⟩
 have hp1:=h.below b1 (Nat.le_refl _)
 have hL1:=hL.below b1
 have C1:=sprog_any a b o c ll _ hl hls hp1
 obtain ⟨res,hres⟩:∃ res,(if (decide (1≤kind)&&decide (kind≤3))&&M.prog ll then M.sortK (M.heldOf ll kind xs) else [])=res:=⟨_,rfl⟩
 rw [hres]
 have HRES:Hid ((if (decide (1≤kind)&&decide (kind≤3))&&M.prog ll then M.sortK (M.heldOf ll kind xs) else [])=res):=hres
 clear hres
 go_enter Tryz.func129,Tryz.ntmps129
 go_wp2_with fail
 generalize (w.alloc (.cells #[.slice a ll.length c] 25)).alloc (.cells #[] 45)=W0 at *
 refine C1.mono ?_
 clear C1
 cases hp:M.prog ll
 ·rintro e W1 ⟨rfl,b2⟩
  have HR:Hid (([]:List Key)=res):=by show _=_;rw [← HRES.out,hp,Bool.and_false];rfl
  clear hok
  go_wp2_with fail
  go_ret
  exact ⟨_,_,[],rfl,HR.out,sl0.below b2 (by omega),by simp,by simp,⟨by omega,fun s hs=>(by cases hs)⟩,b1.trans (b2.mono b1.size)⟩
 ·rintro e W1 ⟨rfl,b2⟩
  cases hk:(decide (1≤kind)&&decide (kind≤3))
  ·have hk':M.rng 1 3 kind=false:=hk
   have HR:Hid (([]:List Key)=res):=by show _=_;rw [← HRES.out,hk];rfl
   clear hok hk
   go_wp2_with (go_at_call 59;refine (l6In_any kind 1 3 _).mono ?_;rw [hk'];rintro e w' ⟨rfl,rfl⟩)
   go_ret
   exact ⟨_,_,[],rfl,HR.out,sl0.below b2 (by omega),by simp,by simp,⟨by omega,fun s hs=>(by cases hs)⟩,b1.trans (b2.mono b1.size)⟩
  ·have hk':M.rng 1 3 kind=true:=hk
   obtain ⟨kn,rfl⟩:∃ kn:Nat,kind=kn:=⟨kind.toNat,by simp only [Bool.and_eq_true,decide_eq_true_eq] at hk;omega⟩
   have hk13:1≤kn∧kn≤3:=by simp only [Bool.and_eq_true,decide_eq_true_eq] at hk;omega
   have HO:Hid (∀ l rows,M.execOk ll l rows=true→M.orderHolds ll l rows kn=(M.holdsA (M.netOf (M.deeds ll) l rows 0) (M.deeds ll).length&&M.waitsA (M.deeds ll).length (M.netOf (M.deeds ll) l rows kn) (M.choices (M.deeds ll)))):=by intro l rows he;unfold M.orderHolds;rw [he,hk];simp
   have HZ:Hid ((M.heldOf ll kn xs).foldl M.putIn []=res):=by show _=_;rw [← HRES.out,hk,hp];rfl
   have hdl:=M.deeds28 hp
   have HOK:Hid (∀ x∈xs,M.execOk ll x.1 x.2=true):=hok
   have HPR:Hid (M.prog ll=true):=hp
   clear hok hk hp
   have b12:=b1.trans (b2.mono b1.size)
   have pc1:=(b2.cell (p:=⟨w.heap.size,0,none⟩) (World.block_lt_of_cell? _ _ k1)).trans k1
   have hp2:=hp1.below b2 (Nat.le_refl _)
   have hL2:=hL1.below b2
   have sl1:=sl0.below b2 (by omega)
   have s12:=b2.size
   clear k1 hp1 hL1 sl0 b1 b2
   go_wp2_with (go_at_call 59;refine (l6In_any kn 1 3 _).mono ?_;rw [hk'];rintro e w1x ⟨rfl,rfl⟩)
   refine (l13Look_any a b o c ll _ HPR.out hl hls (by omega) hp2).mono ?_
   rintro e w3 ⟨O,va,g,cc,v1,v2,rfl,hLk0⟩
   have hLk:=hLk0.g
   have hOge:w.heap.size+2≤O:=by have:=hLk.ge;omega
   have b13:=b12.trans (hLk.bel.mono b12.size)
   have pc3:=cellC hLk.bel pc1
   have sl3:SLO w3 O (w.heap.size+1) []:=⟨sl1.below hLk.bel (by omega),by have:=hLk.bel.size;omega,by omega,fun t ht=>by cases ht⟩
   clear hLk0 sl1 pc1
   go_wp2_with fail
   refine (netG_any 0 (by omega) a b o c ll _ w3 O va g cc v1 v2 hl hls hdl hp2 hLk).mono ?_
   rintro e w4 ⟨X1,rfl,⟨G1,c1,va1,rb1,rc1,hN1⟩,b4⟩
   have hLk4:=hLk.below b4
   have b14:=b13.trans (b4.mono b13.size)
   have pc4:=cellC b4 pc3
   have sl4:=sl3.below b4
   clear hLk pc3 sl3
   go_wp2_with fail
   refine (netG_any kn (by omega) a b o c ll _ w4 O va g cc v1 v2 hl hls hdl hp2 hLk4).mono ?_
   rintro e w5 ⟨X2,rfl,⟨G2,c2,va2,rb2,rc2,hN2⟩,b5⟩
   have OR0:OaR w _ w5 a c ll kn O va g cc v1 v2 X1 X2 (w.heap.size+1) []:=⟨hLk4.below b5,⟨G1,c1,va1,rb1,rc1,hN1.below b5⟩,⟨G2,c2,va2,rb2,rc2,hN2⟩,sl4.below b5,cellC b5 pc4,b14.trans (b5.mono b14.size)⟩
   clear hLk4 pc4 sl4 b4 b5 hN1 hN2 b14 b13 b12
   go_wp2_with fail
   go_loopw [7,11] (fun s7 s11 wr=>∃ (n g5 cap5:Nat) (tt:List Sn),s7=.slice (some ⟨g5,0,none⟩) tt.length cap5∧s11=.int .i64 n∧n≤xs.length∧tt.length≤n∧tt.length≤cap5∧Hid (kys tt=(M.heldOf ll kn (xs.take n)).foldl M.putIn [])∧Hid (w.heap.size≤g5∧∀ s∈tt,w.heap.size≤s.b1∧w.heap.size≤s.b2∧s.l1.length≤s.c1)∧OaR w w1x wr a c ll kn O va g cc v1 v2 X1 X2 g5 tt) (fun _ s11 _=>xs.length - (intOf s11).toNat)
   case atStart=>exact ⟨0,_,0,[],rfl,rfl,Nat.zero_le _,by simp,by simp,rfl,⟨by omega,fun s hs=>(by cases hs)⟩,OR0⟩
   case round =>
    clear OR0
    obtain ⟨n,g5,cap5,tt,rfl,rfl,hn,htn,htc,HK,HNW,R⟩:=hrel
    by_cases hlt:n < xs.length
    ·have i1:(n:Int) < xs.length:=by omega
     obtain ⟨rfl⟩:=hL2.addr (by omega)
     obtain ⟨fa,fb,fc,ra,rb,rc,f1,f2,hF,hR⟩:=hL2.row n hlt
     have hxo:=HOK.out _ (List.getElem_mem hlt)
     have hxl':=hle _ (List.getElem_mem hlt)
     obtain ⟨x,hx⟩:∃ x,xs[n]=x:=⟨_,rfl⟩
     rw [hx] at f1 f2 hF hR hxo hxl'
     have HX:Hid (xs[n]=x):=hx
     clear hx
     have hW:=M.wok_of hxo
     have hY:=M.way_of hxo
     have q1:=cellC R.lk.bel f1
     have q2:=cellC R.lk.bel f2
     obtain ⟨St,CW,hP⟩:=holdsG_parts kn hk13 a b o c ll fa fb 0 fc x.1 ra rb 0 rc x.2 _ wr O va g cc v1 v2 hl hls hxl'.c hW hdl hp2 hF hR R.lk
     have HOX:=HO.out x.1 x.2 hxo
     go_wp2_with fail
     refine CW.mono ?_
     rintro e w4 ⟨rfl,hSt,hLkw,hBut⟩
     have R4:=R.but (by omega) hLkw hBut
     clear R hBut hLkw CW q1 q2
     obtain ⟨G1,c1,va1,rb1,rc1,hN1⟩:=R4.n1
     go_wp2_with fail
     refine (hP.whole 0 (Or.inl rfl) X1 G1 c1 va1 rb1 rc1 w4 hSt hN1.nt).mono ?_
     rintro e w6 ⟨X3,rfl,⟨G3,c3,va3,rb3,rc3,hN3⟩,b6⟩
     have hSt6:=hP.bel _ _ hSt b6
     have R6:=R4.below b6
     clear R4 hSt b6 hN1
     have CH:=netHolds_any X3 G3 _ c3 va3 rb3 rc3 _ w6 hdl hN3
     cases hH:M.holdsA (M.netOf (M.deeds ll) x.1 x.2 0) (M.deeds ll).length
     ·rw [hH] at CH
      have HN:Hid (M.heldOf ll kn (xs.take (n+1))=M.heldOf ll kn (xs.take n)):=by
       show _=_
       refine M.held_no hlt ?_
       rw [HX.out,HOX,hH];rfl
      clear hH HOX HX
      go_wp2_with fail
      refine CH.mono ?_
      rintro e w7 ⟨rfl,b7⟩
      have R7:=R6.below b7
      clear R6 CH b7 hP
      go_wp2_with fail
      exact ⟨⟨n+1,g5,cap5,tt,rfl,by go_num,by omega,by omega,htc,by show _=_;rw [HN.out];exact HK.out,HNW,R7⟩,by simp [intOf];omega⟩
     ·rw [hH] at CH
      go_wp2_with fail
      refine CH.mono ?_
      rintro e w7 ⟨rfl,b7⟩
      have R7:=R6.below b7
      have hSt7:=hP.bel _ _ hSt6 b7
      clear R6 CH b7 hSt6 hN3
      obtain ⟨G2,c2,va2,rb2,rc2,hN2⟩:=R7.n2
      go_wp2_with fail
      refine (hP.whole kn (Or.inr rfl) X2 G2 c2 va2 rb2 rc2 w7 hSt7 hN2.nt).mono ?_
      rintro e w9 ⟨X4,rfl,⟨G4,c4,va4,rb4,rc4,hN4⟩,b9⟩
      have hSt9:=hP.bel _ _ hSt7 b9
      have R9:=R7.below b9
      clear R7 hSt7 b9 hN2
      have CT:=hP.waits X4 G4 c4 va4 rb4 rc4 _ w9 hSt9 hN4
      cases hV:M.waitsA (M.deeds ll).length (M.netOf (M.deeds ll) x.1 x.2 kn) (M.choices (M.deeds ll))
      ·rw [hV] at CT
       have HN:Hid (M.heldOf ll kn (xs.take (n+1))=M.heldOf ll kn (xs.take n)):=by
        show _=_
        refine M.held_no hlt ?_
        rw [HX.out,HOX,hH,hV];rfl
       clear hH HOX HX hV
       go_wp2_with fail
       refine CT.mono ?_
       rintro e w10 ⟨rfl,b10⟩
       have R10:=R9.below b10
       clear R9 CT b10 hP
       go_wp2_with fail
       exact ⟨⟨n+1,g5,cap5,tt,rfl,by go_num,by omega,by omega,htc,by show _=_;rw [HN.out];exact HK.out,HNW,R10⟩,by simp [intOf];omega⟩
      ·rw [hV] at CT
       have HN:Hid (M.heldOf ll kn (xs.take (n+1))=M.heldOf ll kn (xs.take n)++[(M.seenR (M.deeds ll) x.1,M.seenL (M.deeds ll) x.1 x.2)]):=by
        show _=_
        have:=M.held_yes (ll:=ll) (kind:=kn) hlt (by rw [HX.out,HOX,hH,hV];rfl)
        rw [HX.out] at this
        exact this
       clear hH HOX HX hV
       go_wp2_with fail
       refine CT.mono ?_
       rintro e w10 ⟨rfl,b10⟩
       have R10:=R9.below b10
       clear R9 CT b10 hP hSt9 hN4
       have R11:=R10.below (Below.refl _ _).drew
       clear R10
       have hbL:=R11.lk.bel
       have hOl:=R11.lk.lt
       obtain ⟨f4,f5,hblk⟩:=R11.lk.blk
       have cO:w10.cell? ⟨O,1,none⟩=some (.slice va (M.deeds ll).length cc):=by
        have:w10.drew.cell? ⟨O,1,none⟩=some (.slice va (M.deeds ll).length cc):=by simp [World.cell?,hblk]
        exact this
       have cP:w10.cell? ⟨w.heap.size,0,none⟩=some (.slice a ll.length c):=R11.pc
       have q1d:=cellC hbL f1
       have q1:w10.cell? ⟨lg,n * 2,none⟩=some (.slice fa x.1.length fc):=q1d
       have q2d:=cellC hbL f2
       have q2:w10.cell? ⟨lg,n * 2+1,none⟩=some (.slice ra x.2.length rc):=q2d
       clear q1d q2d
       have CS:=l12Seen_any a b o c ll va g cc fa fb 0 fc x.1 ra rb 0 rc x.2 w10.drew hl hls (by omega) hY.len hY.inn hY.three hxl'.c hY.mem (hp2.below hbL (Nat.le_refl _)) R11.lk.dv (hF.below hbL (Nat.le_refl _)) (hR.below hbL (Nat.le_refl _))
       have HASC:Hid (M.Asc (kys tt)):=by show M.Asc (kys tt);rw [HK.out];exact M.foldl_asc _ [] List.Pairwise.nil
       clear hblk
       go_wp2_with fail
       go_region_held3 (fun z=>z.cell? ⟨w.heap.size,0,none⟩=some (.slice a ll.length c)∧z.cell? ⟨O,1,none⟩=some (.slice va (M.deeds ll).length cc)∧z.cell? ⟨lg,n * 2,none⟩=some (.slice fa x.1.length fc)∧z.cell? ⟨lg,n * 2+1,none⟩=some (.slice ra x.2.length rc)) (go_keep) (first
        | (go_at_call 113;refine CS.mono ?_;rintro e w12 ⟨s,rfl,hs1,hs2,hsA,hsb1,hsb2,hscc,b12⟩;have HS1:Hid (s.l1=_):=hs1;have HS2:Hid (s.l2=_):=hs2;clear hs1 hs2;have R12:=R11.below b12;have Y1:=R12.pc;have Y2:=cellC b12 cO;have Y3:=cellC b12 q1;have Y4:=cellC b12 q2;have hsl:=M.seen_le (ll:=ll) (x:=x) HS1 HS2 hdl hY.three)
        | (go_at_call 178;refine (l2Put_any g5 cap5 tt s _ (by omega) R12.sl.sl R12.sl.lt hsA hsl HASC.out htc).mono ?_;rintro e w13 ⟨g6,cap6,uu,rfl,hku,hSu,hgu,hul,huc,hin,hgg,b13⟩;have HKU:Hid (kys uu=_):=hku;clear hku;have R13:=R12.below b13;have U1:=R13.pc;have U2:=cellC b13 Y2;have U3:=cellC b13 Y3;have U4:=cellC b13 Y4))
       have s12':=b12.size
       have hOd:O < w10.heap.size:=hOl
       have hsd:w10.heap.size≤s.b1∧w10.heap.size≤s.b2:=⟨hsb1,hsb2⟩
       have hwd:w10.heap.size≤w12.heap.size:=s12'
       have SF:SLO w13 O g6 uu:=⟨hSu,hgu,by have:=R12.sl.ne;have:=R12.sl.lt;omega,fun t ht=>by
        rcases hin t ht with h1 | rfl
        ·exact R12.sl.off t h1
        ·omega⟩
       have hwz:w.heap.size≤w10.heap.size:=R11.bel.size
       have HNF:Hid (w.heap.size≤g6∧∀ t∈uu,w.heap.size≤t.b1∧w.heap.size≤t.b2∧t.l1.length≤t.c1):=⟨by have:=HNW.out.1;omega,fun t ht=>by
        rcases hin t ht with h1 | rfl
        ·exact HNW.out.2 t h1
        ·exact ⟨by omega,by omega,hscc⟩⟩
       have RF:OaR w w1x w13 a c ll kn O va g cc v1 v2 X1 X2 g6 uu:=⟨R13.lk,R13.n1,R13.n2,SF,R13.pc,R13.bel⟩
       have HF:Hid (kys uu=(M.heldOf ll kn (xs.take (n+1))).foldl M.putIn []):=by
        show _=_
        rw [HN.out,List.foldl_append,← HK.out,HKU.out]
        simp only [List.foldl_cons,List.foldl_nil,Sn.ky,HS1.out,HS2.out]
       clear R11 R12 R13 U1 U2 U3 U4 Y1 Y2 Y3 Y4 HKU HN HK CS
       go_wp2_with fail
       exact ⟨⟨n+1,g6,cap6,uu,rfl,by go_num,by omega,by omega,huc,HF,HNF,RF⟩,by simp [intOf];omega⟩
    ·have i1:¬ (n:Int) < xs.length:=by omega
     have e1:xs.take n=xs:=List.take_of_length_le (by omega)
     rw [e1] at HK
     go_wp2_with fail
     go_ret
     exact ⟨g5,cap5,tt,rfl,HK.out.trans HZ.out,R.sl.sl,by omega,htc,HNW.out,R.bel⟩
set_option maxHeartbeats 2000000 in
set_option maxRecDepth 100000 in
theorem sorderAllN_any (a:Option Addr) (b o c:Nat) (ll:List (List M.D)) (kind:Int) (w:World) (hl:ll.length≤1048576) (hls:∀ t∈ll,t.length≤1048576) (h:DoSS w a b o ll) :
  Calls Tryz.prog 67 #[.agg #[.slice a ll.length c],.int .i64 kind] w fun e w'=>∃ g cap,∃ tt:List Sn,e=.returned (.slice (some ⟨g,0,none⟩) tt.length cap)∧kys tt=M.sorderAll ll kind∧SL w' g tt∧tt.length≤117649∧tt.length≤cap∧(w.heap.size≤g∧∀ s∈tt,w.heap.size≤s.b1∧w.heap.size≤s.b2∧s.l1.length≤s.c1)∧Below w.heap.size w w':=by
 have b1:=below1 w (.cells #[.slice a ll.length c] 25)
 have k1:(w.alloc (.cells #[.slice a ll.length c] 25)).cell? ⟨w.heap.size,0,none⟩=some (.slice a ll.length c):=by simp
 have hle:∀ x∈M.specAll ll,WyLe x:=fun x hx=>by
  have ho:=M.mem_execAll.1 hx
  have hW:=M.wok_of ho
  have hb:=M.prog_le hW.prog
  have hdl:=M.deeds_len hb.1 hb.2
  refine ⟨by have:=hW.len.out;omega,by have:=hW.three.out;omega,fun r hr=>?_⟩
  simp only [M.execOk,M.wayOk,Bool.and_eq_true] at ho
  exact M.row_len ho.2.2.1 hdl r hr
 have hok:∀ x∈M.specAll ll,M.execOk ll x.1 x.2=true:=fun x hx=>M.mem_execAll.1 hx
 have hxl:(M.specAll ll).length≤117649:=by
  unfold M.specAll
  cases hp:M.prog ll
  ·simp
  ·rw [if_pos rfl,← M.ways_eq (M.cop_deeds ll)]
   exact M.ways_le2 hp
 have hp1:=h.below b1 (Nat.le_refl _)
 go_enter Tryz.func67,Tryz.ntmps67
 go_wp2_with fail
 generalize w.alloc (.cells #[.slice a ll.length c] 25)=W0 at *
 have hp1d:=hp1.below (Below.refl _ _).drew (Nat.le_refl _)
 have CX:=sexecAllW_any a b o c ll W0.drew hl hls hp1d
 go_region_held3 (fun z=>z.cell? ⟨w.heap.size,0,none⟩=some (.slice a ll.length c)) (go_keep) (first
  | (go_at_call 51;refine CX.mono ?_;rintro e w2 ⟨v,rfl,hA⟩;obtain ⟨la,lg,lc,rfl,hLW⟩:=hA.lw;have hA2:=hA.bel;have Y1:=cellC hA2 k1)
  | (go_at_call 129;refine (l13AllN_any a b o c ll la lg lc _ kind _ hl hls (by omega) hok hle (hp1d.below hA2 (Nat.le_refl _)) hLW).mono ?_;rintro e w3 ⟨g,cap,tt,rfl,hk,hS,h1,h2,hnw,h3⟩;have HK:Hid (kys tt=_):=hk;clear hk;have HNW:Hid (_∧_):=hnw;clear hnw;have U1:=cellC h3 Y1))
 have bF:Below w.heap.size w w3:=(b1.trans ((Below.refl _ _).drew.mono b1.size)).trans ((hA2.trans (h3.mono hA2.size)).mono b1.size)
 go_wp2_with fail
 go_ret
 have hyw:w.heap.size≤w2.heap.size:=Nat.le_trans b1.size hA2.size
 exact ⟨g,cap,tt,rfl,HK.out,hS,by omega,h2,⟨by have:=HNW.out.1;omega,fun s hs=>by have:=HNW.out.2 s hs;exact ⟨by omega,by omega,this.2.2⟩⟩,bF⟩
end
end Go.Proofs.YtmhpgdliaclokaaGreat
