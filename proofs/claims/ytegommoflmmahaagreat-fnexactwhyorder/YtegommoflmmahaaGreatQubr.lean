/- What stands behind a way's setting, of whatever stood in the box before: of at most 1048576 threads and steps. Made by mkHsG.py. -/
import Derived.Deep.OwnRows
import Derived.Test.YtegommoflmmahaaGreatRows
import Derived.Test.YtegommoflmmahaaGreatQubl
import Derived.Test.YtegommoflmmahaaGreatQubn
import Derived.Test.YtegommoflmmahaaGreatQubq
namespace Go.Proofs.YtegommoflmmahaaGreat
section
open Go.RowKit
set_option maxHeartbeats 2000000 in
set_option maxRecDepth 100000 in
theorem wayEG_any {f4 f5:Value} (O cc:Nat) (va:Option Addr) (v0 v1 v2:Value) (fa ra:Option Addr) (fl' fc rl rc:Nat) (n:Nat) (HN:Hid (n=0)) (w:World) (hO:O < w.heap.size) (blk:w.heap[O]?=some (.cells #[v0,.slice va n cc,v1,v2,f4,f5] 177 (0,0))) :
  Calls Tryz.prog 89 #[.pointer (some ⟨O,0,none⟩),.agg #[.slice fa fl' fc,.slice ra rl rc]] w fun e w'=>e=.returned (.tuple #[])∧w'.heap[O]?=some (.cells #[v0,.slice va n cc,v1,v2,.slice fa fl' fc,.slice (some ⟨w.heap.size+1,0,none⟩) n n] 177 (0,0))∧But O w w':=by
 have fl:=Tryz.fld1
 have hmk:=run_make_row' (P:=Tryz.prog) 26 3 (.int .i64 0) 8 Tryz.underlying26 Tryz.infoInt rfl .i64 .i64 n (by have:=HN.out;omega) (by have:=HN.out;omega)
 have b1:w.cell? ⟨O,1,none⟩=some (.slice va n cc):=by simp [World.cell?,blk]
 have b4:w.cell? ⟨O,4,none⟩=some f4:=by simp [World.cell?,blk]
 have b5:w.cell? ⟨O,5,none⟩=some f5:=by simp [World.cell?,blk]
 have bf:∀ i,w.frozen? ⟨O,i,none⟩=false:=fun i=>by simp [World.frozen?,blk]
 go_enter Tryz.func89,Tryz.ntmps89
 go_wp2_with fail
 have e1:=heap_setCell_same w O 4 _ _ (.slice fa fl' fc) blk
 have e2:=heap_setCell_same _ O 5 _ _ (.slice (some ⟨w.heap.size+1,0,none⟩) n n) e1
 have hbut:But O w ((((w.setCell ⟨O,4,none⟩ (.slice fa fl' fc)).setCell ⟨O,5,none⟩ (.slice (some ⟨w.heap.size+1,0,none⟩) n n)).alloc (.cells #[.slice fa fl' fc,.slice ra rl rc] 33)).alloc (.cells (madeCells #[.int .i64 0] n) 3)):=((((But.refl O w).setCell (Or.inr rfl) _).setCell (Or.inr rfl) _).alloc _).alloc _
 have hc1:((((w.setCell ⟨O,4,none⟩ (.slice fa fl' fc)).setCell ⟨O,5,none⟩ (.slice (some ⟨w.heap.size+1,0,none⟩) n n)).alloc (.cells #[.slice fa fl' fc,.slice ra rl rc] 33)).alloc (.cells (madeCells #[.int .i64 0] n) 3)).heap[O]?=some (.cells #[v0,.slice va n cc,v1,v2,.slice fa fl' fc,.slice (some ⟨w.heap.size+1,0,none⟩) n n] 177 (0,0)):=by
  rw [alloc_old _ _ _ (by simp;omega),alloc_old _ _ _ (by simp;omega)]
  exact e2
 generalize ((((w.setCell ⟨O,4,none⟩ (.slice fa fl' fc)).setCell ⟨O,5,none⟩ (.slice (some ⟨w.heap.size+1,0,none⟩) n n)).alloc (.cells #[.slice fa fl' fc,.slice ra rl rc] 33)).alloc (.cells (madeCells #[.int .i64 0] n) 3))=W0 at hbut hc1 ⊢
 clear hmk b1 b4 b5 bf e1 e2 blk
 go_loopw [4] (fun s4 wq=>s4=.int .i64 0∧wq.heap[O]?=some (.cells #[v0,.slice va n cc,v1,v2,.slice fa fl' fc,.slice (some ⟨w.heap.size+1,0,none⟩) n n] 177 (0,0))∧But O w wq) (fun _ _=>0)
 case atStart=>exact ⟨rfl,hc1,hbut⟩
 case round =>
  clear hc1 hbut
  obtain ⟨rfl,q0,hbut⟩:=hrel
  have q1:wr.cell? ⟨O,1,none⟩=some (.slice va n cc):=by simp [World.cell?,q0]
  have hz:¬ (0:Int) < n:=by have:=HN.out;omega
  go_wp2_with fail
  exact bodyPost_end (v:=.tuple #[]) (results_none Tryz.results89 _ _ _) rfl ⟨rfl,q0,hbut⟩
theorem own_but {w w':World} {O B:Nat} {e:TypeId} {size:Nat} {v:Value} {n:Nat} {xs:List Value} (h:w.ownsRow B e size v n xs) (hb:But O w w') (hO:O < B):w'.ownsRow B e size v n xs:=by
 obtain ⟨h1,h2⟩:=h
 refine ⟨h1,?_⟩
 rcases h2 with h2 | ⟨g,cap,cur,hv,hg,hh,r⟩
 ·exact Or.inl h2
 ·refine Or.inr ⟨g,cap,cur,hv,hg,(hb.block g ?_ (by omega)).trans hh,r⟩
  rcases Nat.lt_or_ge g w.heap.size with hlt | hge
  ·exact hlt
  ·rw [Array.getElem?_eq_none hge] at hh;cases hh
structure LookedG (w w':World) (O:Nat) (a:Option Addr) (c:Nat) (ll:List (List M.D)) (va:Option Addr) (g cc:Nat) (v1 v2:Value):Prop where
 bel:Below w.heap.size w w'
 ge:w.heap.size≤O
 blk:∃ f4 f5,w'.heap[O]?=some (.cells #[.slice a ll.length c,.slice va (M.deeds ll).length cc,v1,v2,f4,f5] 177 (0,0))
 dv:DvS w' va g (M.deeds ll)
 own1:w'.ownsRow (O+1) 4 1 v1 (M.deeds ll).length (bools ((M.deeds ll).map fun x=>M.reads x.d.k))
 own2:w'.ownsRow (O+1) 4 1 v2 (M.deeds ll).length (bools ((M.deeds ll).map fun x=>M.writes x.d.k))
theorem Looked.g {w w':World} {O:Nat} {a:Option Addr} {c:Nat} {ll:List (List M.D)} {va:Option Addr} {g cc:Nat} {v1 v2:Value} (h:Looked w w' O a c ll va g cc v1 v2):LookedG w w' O a c ll va g cc v1 v2:=⟨h.bel,h.ge,⟨_,_,h.blk⟩,h.dv,h.own1,h.own2⟩
theorem LookedG.lt {w w':World} {O:Nat} {a:Option Addr} {c:Nat} {ll:List (List M.D)} {va:Option Addr} {g cc:Nat} {v1 v2:Value} (h:LookedG w w' O a c ll va g cc v1 v2):O < w'.heap.size:=by
 obtain ⟨f4,f5,hb⟩:=h.blk
 have c1:w'.cell? ⟨O,1,none⟩=some (.slice va (M.deeds ll).length cc):=by simp [World.cell?,hb]
 exact World.block_lt_of_cell? _ _ c1
theorem LookedG.but {w w3 w':World} {O:Nat} {a:Option Addr} {c:Nat} {ll:List (List M.D)} {va:Option Addr} {g cc:Nat} {v1 v2 f4 f5:Value} (h:LookedG w w3 O a c ll va g cc v1 v2) (hb:But O w3 w') (hk:w'.heap[O]?=some (.cells #[.slice a ll.length c,.slice va (M.deeds ll).length cc,v1,v2,f4,f5] 177 (0,0))):LookedG w w' O a c ll va g cc v1 v2:=by
 refine ⟨But.low h.bel hb h.ge,h.ge,⟨_,_,hk⟩,?_,own_but h.own1 hb (by omega),own_but h.own2 hb (by omega)⟩
 rcases Nat.eq_zero_or_pos (M.deeds ll).length with h0 | hpos
 ·have hnil:M.deeds ll=[]:=List.eq_nil_of_length_eq_zero h0
  rw [hnil]
  exact ⟨fun h=>absurd h (Nat.lt_irrefl _),fun i hi=>absurd hi (Nat.not_lt_zero _)⟩
 ·refine h.dv.but hb fun e=>?_
  obtain ⟨f4,f5,hb0⟩:=h.blk
  have h1:=(h.dv.at hpos).c0
  have b0:w3.cell? ⟨O,0,none⟩=some (.slice a ll.length c):=by simp [World.cell?,hb0]
  rw [e,Nat.zero_mul,b0] at h1
  cases h1
theorem LookedG.below {w w3 w':World} {O:Nat} {a:Option Addr} {c:Nat} {ll:List (List M.D)} {va:Option Addr} {g cc:Nat} {v1 v2:Value} (h:LookedG w w3 O a c ll va g cc v1 v2) (hb:Below w3.heap.size w3 w'):LookedG w w' O a c ll va g cc v1 v2:=by
 obtain ⟨f4,f5,hk⟩:=h.blk
 refine h.but ⟨hb.os,hb.tape,hb.output,hb.size,fun k hk _=>hb.block k hk⟩ ((hb.block O h.lt).trans hk)
structure HoldQ (kn:Nat) (ds:List M.De) (l:List Int) (rows:List (List Int)) (O:Nat) (St:World→Prop):Prop where
 bel:∀ w w',St w→Below w.heap.size w w'→St w'
 whole:∀ k:Nat,k=0∨k=kn→∀ X G c va rb rc w,St w→NtAt w X G ds.length c va rb rc (M.staysAt ds k)→Calls Tryz.prog 90 #[.pointer (some ⟨O,0,none⟩),.pointer (some ⟨X,0,none⟩),.int .i64 k] w fun e w'=>∃ X',e=.returned (.pointer (some ⟨X',0,none⟩))∧(∃ G c va rb rc,NtAt w' X' G ds.length c va rb rc (M.netOf ds l rows k))∧Below w.heap.size w w'
 waits:∀ X G c va rb rc A w,St w→NtAt w X G ds.length c va rb rc A→Calls Tryz.prog 93 #[.pointer (some ⟨O,0,none⟩),.pointer (some ⟨X,0,none⟩),.int .i64 0] w fun e w'=>e=.returned (.bool (M.waitsA ds.length A (M.choices ds)))∧Below w.heap.size w w'
theorem holdsG_parts (kn:Nat) (hk13:1≤kn∧kn≤3) (a:Option Addr) (b o c:Nat) (ll:List (List M.D)) (fa:Option Addr) (fb fo fc:Nat) (l:List Int) (ra:Option Addr) (rb ro rc:Nat) (rows:List (List Int)) (w2 w3:World) (O:Nat) (va:Option Addr) (g cc:Nat) (v1 v2:Value) (hl:ll.length≤1048576) (hls:∀ t∈ll,t.length≤1048576) (hrs:∀ r∈rows,r.length≤1048576) (hW:M.Wok ll l rows) (hdl:(M.deeds ll).length≤28) (hp2:DoSS w2 a b o ll) (hf2:IntS w2 fa fb fo l) (hr2:IntSS w2 ra rb ro rows) (hLk:LookedG w2 w3 O a c ll va g cc v1 v2) :
  ∃ St:World→Prop,Calls Tryz.prog 89 #[.pointer (some ⟨O,0,none⟩),.agg #[.slice fa l.length fc,.slice ra rows.length rc]] w3 (fun e w'=>e=.returned (.tuple #[])∧St w'∧LookedG w2 w' O a c ll va g cc v1 v2∧But O w3 w')∧HoldQ kn (M.deeds ll) l rows O St:=by
 have hOl:=hLk.lt
 obtain ⟨f4,f5,hblk⟩:=hLk.blk
 rcases Nat.eq_zero_or_pos (M.deeds ll).length with h0 | hpos
 ·have hnil:M.deeds ll=[]:=List.eq_nil_of_length_eq_zero h0
  refine ⟨fun w=>w.cell? ⟨O,1,none⟩=some (.slice va 0 cc),?_,fun w w' h hb=>cellC hb h,?_,?_⟩
  ·have C:=wayEG_any O cc va _ v1 v2 fa ra l.length fc rows.length rc _ h0 w3 hOl hblk
   refine C.mono fun e w' ⟨he,hb,hbut⟩=>⟨he,?_,hLk.but hbut hb,hbut⟩
   show w'.cell? ⟨O,1,none⟩=some (.slice va 0 cc)
   rw [← h0];simp [World.cell?,hb]
  ·intro k _ X G c va' rb rc w hSt hN
   rw [hnil] at hN ⊢
   exact wholeE_any O cc va k _ _ X G c va' rb rc w hSt hN
  ·intro X G c va' rb rc A w hSt hN
   rw [hnil] at hN ⊢
   exact waitsE_any O cc va A X G c va' rb rc w hSt hN
 ·obtain ⟨rfl⟩:=hLk.dv.addr hpos
  obtain ⟨rfl⟩:=hf2.addr (by have:=hW.len.out;omega)
  obtain ⟨rfl⟩:=hr2.addr (by have:=hW.three.out;omega)
  obtain ⟨ub,uc,rfl,_,_⟩:=hLk.own1.form hpos
  obtain ⟨wb,wc,rfl,_,_⟩:=hLk.own2.form hpos
  have rd:∀ n x,(M.deeds ll)[n]?=some x→w3.cell? ⟨ub,n,none⟩=some (.bool (M.reads x.d.k)):=fun n x hx=>by
   have hn:n < (M.deeds ll).length:=by
    rcases Nat.lt_or_ge n (M.deeds ll).length with h | h
    ·exact h
    ·rw [List.getElem?_eq_none h] at hx;cases hx
   have o1:=hLk.own1
   have:=own_bools (l:=(M.deeds ll).map fun x=>M.reads x.d.k) (by rw [List.length_map];exact o1) n (by simpa using hn)
   rw [List.getElem?_eq_getElem hn] at hx
   rw [this,List.getElem_map,Option.some.inj hx]
  have wrt:∀ n x,(M.deeds ll)[n]?=some x→w3.cell? ⟨wb,n,none⟩=some (.bool (M.writes x.d.k)):=fun n x hx=>by
   have hn:n < (M.deeds ll).length:=by
    rcases Nat.lt_or_ge n (M.deeds ll).length with h | h
    ·exact h
    ·rw [List.getElem?_eq_none h] at hx;cases hx
   have o1:=hLk.own2
   have:=own_bools (l:=(M.deeds ll).map fun x=>M.writes x.d.k) (by rw [List.length_map];exact o1) n (by simpa using hn)
   rw [List.getElem?_eq_getElem hn] at hx
   rw [this,List.getElem_map,Option.some.inj hx]
  have hkO:(⟨O,a,b,o,c,ll,g,cc⟩:Lp).Ok:=⟨hl,hls,by show (M.deeds ll).length≤42;omega⟩
  have CW:=wayG_any ⟨O,a,b,o,c,ll,g,cc⟩ ⟨ub,uc,wb,wc,fb,fo,fc,l,w3.heap.size+1,(M.deeds ll).length,rows⟩ _ w3 rc hkO hW.pl hpos hW.len hW.three hrs rb ro hLk.bel hLk.ge hOl hp2 hf2 hr2 hblk hLk.dv rd wrt rfl rfl
  refine ⟨_,CW.mono fun e w' ⟨he,hA,hbut,f4',f5',hb⟩=>⟨he,hA,hLk.but hbut hb,hbut⟩,fun w w' h hb=>h.below hb,?_,?_⟩
  ·intro k hk X G c' va' rb' rc' w hSt hN
   have C:=whole_of ⟨O,a,b,o,c,ll,g,cc⟩ _ k X G c' va' rb' rc' _ w hdl hSt hN (by
    intro p q x y w h hx hy
    rcases hk with rfl | rfl
    ·exact told0_any _ _ p q x y w hkO h hx hy
    ·rcases (show k=1∨k=2∨k=3 by omega) with rfl | rfl | rfl
     ·exact told1_any _ _ p q x y w hkO h hx hy
     ·exact told2_any _ _ p q x y w hkO h hx hy
     ·exact told3_any _ _ p q x y w hkO h hx hy)
   refine C.mono (fun e w' ⟨X',he,⟨G',c',va',rb',rc',hO⟩,hb⟩=>⟨X',he,⟨G',c',va',rb',rc',hO.nt.congr (fun p q hp hq=>?_)⟩,hb⟩)
   have hx:=List.getElem?_eq_getElem hp
   have hy:=List.getElem?_eq_getElem hq
   show (M.staysAt (M.deeds ll) k p q||M.toldAt (M.deeds ll) l rows k p q)=M.mustAt (M.deeds ll) l rows k p q
   rw [M.staysAt_of hx hy,M.toldAt_of hx hy,M.mustAt,hx,hy,M.must_eq hW.fro hW.run k hp hq]
  ·intro X G c' va' rb' rc' A w hSt hN
   exact waits_any ⟨O,a,b,o,c,ll,g,cc⟩ hkO hW.prog hdl _ A X G c' va' rb' rc' w 0 (show Hid (_=_) from rfl) (by omega) hSt.p hN
end
end Go.Proofs.YtegommoflmmahaaGreat
