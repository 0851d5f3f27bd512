/- impl.OrderHas: what must be ahead of what by itself. Of at most 1048576 threads, steps, numbers and rows. And what goes with it: OrImp3, HdArr, HdSet, TnB0, SnOrd, HsG, OaNet, LpXe, RgJ, RgS. -/
import Derived.Deep.OwnRows
import Derived.Test.YtmhpgdliaclokaaGreatRows
import Derived.Test.YtmhpgdliaclokaaGreatQzbb
namespace Go.Proofs.YtmhpgdliaclokaaGreat
section
open Go.RowKit
namespace M
end M
theorem cellB {W W':World} {p:Addr} {v:Value} (hb:Below W.heap.size W W') (h:W.cell? p=some v):W'.cell? p=some v:=(hb.cell (p:=p) (World.block_lt_of_cell? _ _ h)).trans h
structure SlotE (w:World) (b:Nat) (x y z:Value):Prop where
 blk:w.heap[b]?=some (.cells #[x,y,z] 78 (0,0))
theorem SlotE.c0 {w:World} {b:Nat} {x y z:Value} (h:SlotE w b x y z):w.cell? ⟨b,0,none⟩=some x:=by simp [World.cell?,h.blk]
theorem SlotE.c1 {w:World} {b:Nat} {x y z:Value} (h:SlotE w b x y z):w.cell? ⟨b,1,none⟩=some y:=by simp [World.cell?,h.blk]
theorem SlotE.c2 {w:World} {b:Nat} {x y z:Value} (h:SlotE w b x y z):w.cell? ⟨b,2,none⟩=some z:=by simp [World.cell?,h.blk]
theorem SlotE.fz {w:World} {b:Nat} {x y z:Value} (h:SlotE w b x y z) (i:Nat):w.frozen? ⟨b,i,none⟩=false:=by simp [World.frozen?,h.blk]
theorem slot3_drew {v2 v3:World} (hb:Below (v2.alloc (.cells #[.slice none 0 0,.slice none 0 0,.slice none 0 0] 78)).drew.heap.size (v2.alloc (.cells #[.slice none 0 0,.slice none 0 0,.slice none 0 0] 78)).drew v3):SlotE v3 v2.heap.size (.slice none 0 0) (.slice none 0 0) (.slice none 0 0) :=
 ⟨(hb.block v2.heap.size (show v2.heap.size < (v2.alloc (.cells #[.slice none 0 0,.slice none 0 0,.slice none 0 0] 78)).heap.size by simp)).trans (alloc_new _ _ _ rfl)⟩
theorem Wb.first {w w1 w2:World} {va:Option Addr} {g c:Nat} {ds:List M.De} {fa:Option Addr} {fb fo fc:Nat} {l:List Int} {ra:Option Addr} {rb ro rc:Nat} {rows:List (List Int)} {u1 u2 u3:Value} (h12:Below w.heap.size w w1) (hb:Below w1.heap.size w1 w2) (hV:SlotE w2 w1.heap.size u1 u2 u3) (hd:DeS w2 va g ds) (hf1:IntS w1 fa fb fo l) (hr1:IntSS w1 ra rb ro rows) (hg:0 < ds.length→w1.heap.size < g) :
  Wb w (((w2.setCell ⟨w1.heap.size,0,none⟩ (.slice va ds.length c)).setCell ⟨w1.heap.size,1,none⟩ (.slice fa l.length fc)).setCell ⟨w1.heap.size,2,none⟩ (.slice ra rows.length rc)) w1.heap.size va g c ds fa fb fo fc l ra rb ro rc rows:=by
 have k1:=heap_setCell_same w2 w1.heap.size 0 _ _ (.slice va ds.length c) hV.blk
 have k2:=heap_setCell_same _ w1.heap.size 1 _ _ (.slice fa l.length fc) k1
 have k3:=heap_setCell_same _ w1.heap.size 2 _ _ (.slice ra rows.length rc) k2
 have hbf:=((hb.setCell (p:=⟨w1.heap.size,0,none⟩) (Nat.le_refl _) (.slice va ds.length c)).setCell (p:=⟨w1.heap.size,1,none⟩) (Nat.le_refl _) (.slice fa l.length fc)).setCell (p:=⟨w1.heap.size,2,none⟩) (Nat.le_refl _) (.slice ra rows.length rc)
 refine ⟨h12.trans (hbf.mono h12.size),by simp [World.cell?,k3],by simp [World.cell?,k3],by simp [World.cell?,k3],⟨hd.addr,fun i hi j hj=>?_⟩,hf1.below hbf (Nat.le_refl _),hr1.below hbf (Nat.le_refl _)⟩
 have hk:g≠w1.heap.size:=by have:=hg (by omega);omega
 rw [← hd.row i hi j hj]
 refine World.cell?_of_block ?_
 rw [Below.heap_setCell _ _ _ _ hk,Below.heap_setCell _ _ _ _ hk,Below.heap_setCell _ _ _ _ hk]
end
section
open Go.RowKit
theorem btA_list (N:Nat→Nat):(btA N).toList.toArray=btA N:=by simp
end
section
open Go.RowKit
theorem ChS.grown {w w':World} {va:Option Addr} {g o:Nat} {cs:List M.Ch} {row:Option Nat} (h:ChS w va g o cs) (hg:w.grownBy w' row) (hne:0 < cs.length→some g≠row):ChS w' va g o cs:=⟨h.addr,fun i hi=>(h.row i hi).grown hg (hne (by omega))⟩
end
section
open Go.RowKit
theorem nums_snoc (l:List Int) (x:Int):nums (l++[x])=nums l++[.int .i64 x]:=by simp [nums]
theorem cells_new1 (w:World) (x:Value) (t:TypeId) (N:Nat) (hN:N=w.heap.size):∀ (j:Nat) (u:Value),[x][j]?=some u→(w.alloc (.cells #[x] t)).cell? ((⟨N,0,none⟩:Addr).add j)=some u:=by
 subst hN
 intro j u hj
 match j,hj with
 | 0,hj=>simp at hj;subst hj;simp [Addr.add]
theorem one1 (x:Int):∀ u∈[Value.int .i64 x],u.oneCell'=true:=by intro u hu;simp at hu;subst hu;rfl
end
section
namespace M
theorem same_len {l m:List Int} (h:l.length≠m.length):same l m=false:=by
 cases e:same l m
 ·rfl
 ·exact absurd (congrArg List.length ((same_eq _ _).1 e)) h
theorem same_bad {l m:List Int} {n:Nat} {x y:Int} (hd:l.drop n=x::l.drop (n+1)) (hm:m.drop n=y::m.drop (n+1)) (hxy:¬ x=y):same l m=false:=by
 cases e:same l m
 ·rfl
 ·have:=(same_eq _ _).1 e
  subst this
  rw [hd] at hm
  simp at hm
  exact absurd hm hxy
theorem same_fin {l m:List Int} (hl:l.length=m.length) (h:∀ q (h1:q < l.length) (h2:q < m.length),l[q]=m[q]):same l m=true :=
 (same_eq _ _).2 (List.ext_getElem hl h)
end M
end
section
open Go.RowKit
set_option maxHeartbeats 2000000 in
set_option maxRecDepth 100000 in
theorem wayEG_any {f4 f5:Value} (O cc:Nat) (va:Option Addr) (v0 v1 v2:Value) (fa ra:Option Addr) (fl' fc rl rc:Nat) (n:Nat) (HN:Hid (n=0)) (w:World) (hO:O < w.heap.size) (blk:w.heap[O]?=some (.cells #[v0,.slice va n cc,v1,v2,f4,f5] 131 (0,0))) :
  Calls Tryz.prog 34 #[.pointer (some ⟨O,0,none⟩),.agg #[.slice fa fl' fc,.slice ra rl rc]] w fun e w'=>e=.returned (.tuple #[])∧w'.heap[O]?=some (.cells #[v0,.slice va n cc,v1,v2,.slice fa fl' fc,.slice (some ⟨w.heap.size+1,0,none⟩) n n] 131 (0,0))∧But O w w':=by
 have fl:=Tryz.fld1
 have hmk:=run_make_row' (P:=Tryz.prog) 26 3 (.int .i64 0) 8 Tryz.underlying26 Tryz.infoInt rfl .i64 .i64 n (by have:=HN.out;omega) (by have:=HN.out;omega)
 have b1:w.cell? ⟨O,1,none⟩=some (.slice va n cc):=by simp [World.cell?,blk]
 have b4:w.cell? ⟨O,4,none⟩=some f4:=by simp [World.cell?,blk]
 have b5:w.cell? ⟨O,5,none⟩=some f5:=by simp [World.cell?,blk]
 have bf:∀ i,w.frozen? ⟨O,i,none⟩=false:=fun i=>by simp [World.frozen?,blk]
 go_enter Tryz.func34,Tryz.ntmps34
 go_wp2_with fail
 have e1:=heap_setCell_same w O 4 _ _ (.slice fa fl' fc) blk
 have e2:=heap_setCell_same _ O 5 _ _ (.slice (some ⟨w.heap.size+1,0,none⟩) n n) e1
 have hbut:But O w ((((w.setCell ⟨O,4,none⟩ (.slice fa fl' fc)).setCell ⟨O,5,none⟩ (.slice (some ⟨w.heap.size+1,0,none⟩) n n)).alloc (.cells #[.slice fa fl' fc,.slice ra rl rc] 29)).alloc (.cells (madeCells #[.int .i64 0] n) 3)):=((((But.refl O w).setCell (Or.inr rfl) _).setCell (Or.inr rfl) _).alloc _).alloc _
 have hc1:((((w.setCell ⟨O,4,none⟩ (.slice fa fl' fc)).setCell ⟨O,5,none⟩ (.slice (some ⟨w.heap.size+1,0,none⟩) n n)).alloc (.cells #[.slice fa fl' fc,.slice ra rl rc] 29)).alloc (.cells (madeCells #[.int .i64 0] n) 3)).heap[O]?=some (.cells #[v0,.slice va n cc,v1,v2,.slice fa fl' fc,.slice (some ⟨w.heap.size+1,0,none⟩) n n] 131 (0,0)):=by
  rw [alloc_old _ _ _ (by simp;omega),alloc_old _ _ _ (by simp;omega)]
  exact e2
 generalize ((((w.setCell ⟨O,4,none⟩ (.slice fa fl' fc)).setCell ⟨O,5,none⟩ (.slice (some ⟨w.heap.size+1,0,none⟩) n n)).alloc (.cells #[.slice fa fl' fc,.slice ra rl rc] 29)).alloc (.cells (madeCells #[.int .i64 0] n) 3))=W0 at hbut hc1 ⊢
 clear hmk b1 b4 b5 bf e1 e2 blk
 go_loopw [4] (fun s4 wq=>s4=.int .i64 0∧wq.heap[O]?=some (.cells #[v0,.slice va n cc,v1,v2,.slice fa fl' fc,.slice (some ⟨w.heap.size+1,0,none⟩) n n] 131 (0,0))∧But O w wq) (fun _ _=>0)
 case atStart=>exact ⟨rfl,hc1,hbut⟩
 case round =>
  clear hc1 hbut
  obtain ⟨rfl,q0,hbut⟩:=hrel
  have q1:wr.cell? ⟨O,1,none⟩=some (.slice va n cc):=by simp [World.cell?,q0]
  have hz:¬ (0:Int) < n:=by have:=HN.out;omega
  go_wp2_with fail
  exact bodyPost_end (v:=.tuple #[]) (results_none Tryz.results34 _ _ _) rfl ⟨rfl,q0,hbut⟩
theorem own_but {w w':World} {O B:Nat} {e:TypeId} {size:Nat} {v:Value} {n:Nat} {xs:List Value} (h:w.ownsRow B e size v n xs) (hb:But O w w') (hO:O < B):w'.ownsRow B e size v n xs:=by
 obtain ⟨h1,h2⟩:=h
 refine ⟨h1,?_⟩
 rcases h2 with h2 | ⟨g,cap,cur,hv,hg,hh,r⟩
 ·exact Or.inl h2
 ·refine Or.inr ⟨g,cap,cur,hv,hg,(hb.block g ?_ (by omega)).trans hh,r⟩
  rcases Nat.lt_or_ge g w.heap.size with hlt | hge
  ·exact hlt
  ·rw [Array.getElem?_eq_none hge] at hh;cases hh
structure LookedG (w w':World) (O:Nat) (a:Option Addr) (c:Nat) (ll:List (List M.D)) (va:Option Addr) (g cc:Nat) (v1 v2:Value):Prop where
 bel:Below w.heap.size w w'
 ge:w.heap.size≤O
 blk:∃ f4 f5,w'.heap[O]?=some (.cells #[.slice a ll.length c,.slice va (M.deeds ll).length cc,v1,v2,f4,f5] 131 (0,0))
 dv:DvS w' va g (M.deeds ll)
 own1:w'.ownsRow (O+1) 4 1 v1 (M.deeds ll).length (bools ((M.deeds ll).map fun x=>M.reads x.d.k))
 own2:w'.ownsRow (O+1) 4 1 v2 (M.deeds ll).length (bools ((M.deeds ll).map fun x=>M.writes x.d.k))
theorem Looked.g {w w':World} {O:Nat} {a:Option Addr} {c:Nat} {ll:List (List M.D)} {va:Option Addr} {g cc:Nat} {v1 v2:Value} (h:Looked w w' O a c ll va g cc v1 v2):LookedG w w' O a c ll va g cc v1 v2:=⟨h.bel,h.ge,⟨_,_,h.blk⟩,h.dv,h.own1,h.own2⟩
theorem LookedG.lt {w w':World} {O:Nat} {a:Option Addr} {c:Nat} {ll:List (List M.D)} {va:Option Addr} {g cc:Nat} {v1 v2:Value} (h:LookedG w w' O a c ll va g cc v1 v2):O < w'.heap.size:=by
 obtain ⟨f4,f5,hb⟩:=h.blk
 have c1:w'.cell? ⟨O,1,none⟩=some (.slice va (M.deeds ll).length cc):=by simp [World.cell?,hb]
 exact World.block_lt_of_cell? _ _ c1
theorem LookedG.but {w w3 w':World} {O:Nat} {a:Option Addr} {c:Nat} {ll:List (List M.D)} {va:Option Addr} {g cc:Nat} {v1 v2 f4 f5:Value} (h:LookedG w w3 O a c ll va g cc v1 v2) (hb:But O w3 w') (hk:w'.heap[O]?=some (.cells #[.slice a ll.length c,.slice va (M.deeds ll).length cc,v1,v2,f4,f5] 131 (0,0))):LookedG w w' O a c ll va g cc v1 v2:=by
 refine ⟨But.low h.bel hb h.ge,h.ge,⟨_,_,hk⟩,?_,own_but h.own1 hb (by omega),own_but h.own2 hb (by omega)⟩
 rcases Nat.eq_zero_or_pos (M.deeds ll).length with h0 | hpos
 ·have hnil:M.deeds ll=[]:=List.eq_nil_of_length_eq_zero h0
  rw [hnil]
  exact ⟨fun h=>absurd h (Nat.lt_irrefl _),fun i hi=>absurd hi (Nat.not_lt_zero _)⟩
 ·refine h.dv.but hb fun e=>?_
  obtain ⟨f4,f5,hb0⟩:=h.blk
  have h1:=(h.dv.at hpos).c0
  have b0:w3.cell? ⟨O,0,none⟩=some (.slice a ll.length c):=by simp [World.cell?,hb0]
  rw [e,Nat.zero_mul,b0] at h1
  cases h1
theorem LookedG.below {w w3 w':World} {O:Nat} {a:Option Addr} {c:Nat} {ll:List (List M.D)} {va:Option Addr} {g cc:Nat} {v1 v2:Value} (h:LookedG w w3 O a c ll va g cc v1 v2) (hb:Below w3.heap.size w3 w'):LookedG w w' O a c ll va g cc v1 v2:=by
 obtain ⟨f4,f5,hk⟩:=h.blk
 refine h.but ⟨hb.os,hb.tape,hb.output,hb.size,fun k hk _=>hb.block k hk⟩ ((hb.block O h.lt).trans hk)
end
section
open Go.RowKit
structure NtB (w:World) (O X G n c:Nat) (va:Option Addr) (rb rc:Nat→Nat) (A:Nat→Nat→Bool):Prop where
 nt:NtAt w X G n c va rb rc A
 nX:X≠O
 nG:0 < n→G≠O
 nR:∀ a,a < n→rb a≠O
set_option maxHeartbeats 1000000 in
set_option maxRecDepth 100000 in
theorem netE2_any (O cc:Nat) (va:Option Addr) (k:Nat) (A:Nat→Nat→Bool) (w:World) (h:w.cell? ⟨O,1,none⟩=some (.slice va 0 cc)) :
  Calls Tryz.prog 37 #[.pointer (some ⟨O,0,none⟩),.int .i64 k] w fun e w'=>∃ X',e=.returned (.pointer (some ⟨X',0,none⟩))∧(∃ G c va rb rc,NtB w' O X' G 0 c va rb rc A)∧Below w.heap.size w w':=by
 have hO:O < w.heap.size:=World.block_lt_of_cell? _ _ h
 go_enter Tryz.func37,Tryz.ntmps37
 go_wp2_with fail
 go_loopw [6] (fun s6 wr=>s6=.int .i64 0∧S1 wr w.heap.size (.slice none 0 0)∧Below w.heap.size w wr) (fun _ _=>0)
 case atStart=>exact ⟨rfl,⟨by simp,by simp⟩,below1 _ _⟩
 case round =>
  obtain ⟨rfl,hS1,hbel⟩:=hrel
  have l0:=cellC hbel h
  have s0:=hS1.c
  go_wp2_with fail
  go_ret
  exact ⟨_,rfl,⟨0,0,none,fun _=>0,fun _=>0,⟨⟨s0,fun h=>absurd h (Nat.lt_irrefl _),fun a ha=>absurd ha (Nat.not_lt_zero _),fun a ha=>absurd ha (Nat.not_lt_zero _)⟩,by omega,fun h=>absurd h (Nat.lt_irrefl _),fun a ha=>absurd ha (Nat.not_lt_zero _)⟩⟩,hbel⟩
theorem netG_any (k:Nat) (hk:k≤3) (a:Option Addr) (b o c:Nat) (ll:List (List M.D)) (w2 w3:World) (O:Nat) (va:Option Addr) (g cc:Nat) (v1 v2:Value) (hl:ll.length≤1048576) (hls:∀ t∈ll,t.length≤1048576) (hdl:(M.deeds ll).length≤28) (hp2:DoSS w2 a b o ll) (hLk:LookedG w2 w3 O a c ll va g cc v1 v2) :
  Calls Tryz.prog 37 #[.pointer (some ⟨O,0,none⟩),.int .i64 k] w3 fun e w'=>∃ X',e=.returned (.pointer (some ⟨X',0,none⟩))∧(∃ G c va rb rc,NtB w' O X' G (M.deeds ll).length c va rb rc (M.staysAt (M.deeds ll) k))∧Below w3.heap.size w3 w':=by
 obtain ⟨f4,f5,hblk⟩:=hLk.blk
 have c0:w3.cell? ⟨O,0,none⟩=some (.slice a ll.length c):=by simp [World.cell?,hblk]
 have c1:w3.cell? ⟨O,1,none⟩=some (.slice va (M.deeds ll).length cc):=by simp [World.cell?,hblk]
 have c2:w3.cell? ⟨O,2,none⟩=some v1:=by simp [World.cell?,hblk]
 have c3:w3.cell? ⟨O,3,none⟩=some v2:=by simp [World.cell?,hblk]
 rcases Nat.eq_zero_or_pos (M.deeds ll).length with h0 | hpos
 ·have hnil:M.deeds ll=[]:=List.eq_nil_of_length_eq_zero h0
  rw [h0] at c1
  rw [hnil]
  exact netE2_any O cc va k _ w3 c1
 ·obtain ⟨rfl⟩:=hLk.dv.addr hpos
  obtain ⟨ub,uc,rfl,_,_⟩:=hLk.own1.form hpos
  obtain ⟨wb,wc,rfl,_,_⟩:=hLk.own2.form hpos
  have rd:∀ n x,(M.deeds ll)[n]?=some x→w3.cell? ⟨ub,n,none⟩=some (.bool (M.reads x.d.k)):=fun n x hx=>by
   have hn:n < (M.deeds ll).length:=by
    rcases Nat.lt_or_ge n (M.deeds ll).length with h | h
    ·exact h
    ·rw [List.getElem?_eq_none h] at hx;cases hx
   have o1:=hLk.own1
   have:=own_bools (l:=(M.deeds ll).map fun x=>M.reads x.d.k) (by rw [List.length_map];exact o1) n (by simpa using hn)
   rw [List.getElem?_eq_getElem hn] at hx
   rw [this,List.getElem_map,Option.some.inj hx]
  have wrt:∀ n x,(M.deeds ll)[n]?=some x→w3.cell? ⟨wb,n,none⟩=some (.bool (M.writes x.d.k)):=fun n x hx=>by
   have hn:n < (M.deeds ll).length:=by
    rcases Nat.lt_or_ge n (M.deeds ll).length with h | h
    ·exact h
    ·rw [List.getElem?_eq_none h] at hx;cases hx
   have o1:=hLk.own2
   have:=own_bools (l:=(M.deeds ll).map fun x=>M.writes x.d.k) (by rw [List.length_map];exact o1) n (by simpa using hn)
   rw [List.getElem?_eq_getElem hn] at hx
   rw [this,List.getElem_map,Option.some.inj hx]
  have hkO:(⟨O,a,b,o,c,ll,g,cc⟩:Lp).Ok:=⟨hl,hls,by show (M.deeds ll).length≤42;omega⟩
  have hA:(⟨ub,uc,wb,wc,0,0,0,[],0,0,[]⟩:Lq).Ar ⟨O,a,b,o,c,ll,g,cc⟩ w3:=⟨⟨c0,c1,hp2.below hLk.bel (Nat.le_refl _),hLk.dv⟩,c2,c3,rd,wrt⟩
  have C:=netR_of ⟨O,a,b,o,c,ll,g,cc⟩ _ k w3 hdl hA (by
   intro p q x y w h hx hy
   rcases (show k=0∨k=1∨k=2∨k=3 by omega) with rfl | rfl | rfl | rfl
   ·exact stays0R_any _ _ p q x y w hkO h hx hy
   ·exact stays1R_any _ _ p q x y w hkO h hx hy
   ·exact stays2R_any _ _ p q x y w hkO h hx hy
   ·exact stays3R_any _ _ p q x y w hkO h hx hy)
  have hOl:=hLk.lt
  refine C.mono (fun e w' ⟨X',he,⟨G',c',va',rb',rc',hO⟩,hb⟩=>⟨X',he,⟨G',c',va',rb',rc',hO.nt,?_,fun _ e1=>?_,fun i hi e1=>?_⟩,hb⟩)
  ·have:=hO.geX;omega
  ·subst e1
   have c0':=(hb.cell (p:=⟨G',0,none⟩) hOl).trans c0
   have h1:=hO.nt.outer 0 hpos
   rw [c0'] at h1
   have e2:a=some ⟨rb' 0,0,none⟩:=by simpa using congrArg (fun v=>match v with | some (Value.slice q _ _)=>q | _=>none) h1
   have hlp:0 < ll.length:=by
    cases ll with
    | nil=>simp [M.deeds,M.deF] at hpos
    | cons _ _=>simp
   have e3:=hp2.addr hlp
   rw [e2] at e3
   have e4:rb' 0=b:=by simpa using congrArg (fun v=>match v with | some (q:Addr)=>q.block | _=>0) e3
   have h5:=hO.ge 0 hpos
   obtain ⟨_,_,_,_,h6,_⟩:=hp2.row 0 hlp
   have h7:b < w2.heap.size:=World.block_lt_of_cell? _ _ h6
   have h8:=hLk.bel.size
   omega
  ·have:=hO.ge i hi;omega
end
section
open Go.RowKit Go.Shelf
set_option maxHeartbeats 400000 in
theorem lpIntsX_any (a:Option Addr) (b o c:Nat) (l:List Int) (a2:Option Addr) (b2 o2 c2:Nat) (m:List Int) (w:World) (hl:l.length≤1048576) (h:IntS w a b o l) (h2:IntS w a2 b2 o2 m) :
  Calls Tryz.prog 12 #[.slice a l.length c,.slice a2 m.length c2] w fun e w'=>e=.returned (.bool (M.same l m))∧Grown w w':=by
 by_cases hlm:l.length=m.length
 ·have hlm':((l.length:Int)==m.length)=true:=by simp;omega
  have hlm2:(l.length:Int)=m.length:=by omega
  go_enter Tryz.func12,Tryz.ntmps12
  go_wp2_with fail
  go_loopw [5] (fun s5 wr=>∃ n:Nat,s5=.int .i64 n∧n≤l.length∧(∀ q (_:q < n) (h1:q < l.length) (h2:q < m.length),l[q]=m[q])∧Grown w wr) (fun s5 _=>l.length - (intOf s5).toNat)
  case atStart=>exact ⟨0,rfl,Nat.zero_le _,fun _ hq _ _=>absurd hq (Nat.not_lt_zero _),Grown.refl _⟩
  case round =>
   obtain ⟨n,rfl,hn,hall,hg⟩:=hrel
   have HA:Hid (∀ q (_:q < n) (h1:q < l.length) (h2:q < m.length),l[q]=m[q]):=hall
   clear hall
   by_cases hlt:n < l.length
   ·have hmt:n < m.length:=by omega
    obtain ⟨rfl⟩:=h.addr (by omega)
    obtain ⟨rfl⟩:=h2.addr (by omega)
    have hc:=(h.below hg.bel (Nat.le_refl _)).row n hlt
    have hc2:=(h2.below hg.bel (Nat.le_refl _)).row n hmt
    have HD:Hid (l.drop n=l[n]::l.drop (n+1)):=M.drop_int l n hlt
    have HD2:Hid (m.drop n=m[n]::m.drop (n+1)):=M.drop_int m n hmt
    have i1:(n:Int) < l.length:=by omega
    have i2:(n:Int) < m.length:=by omega
    by_cases hxy:l[n]=m[n]
    ·have HX:Hid (l[n]=m[n]):=hxy
     rw [← hxy] at hc2
     clear hxy HD HD2
     generalize l[n]=x at hc hc2
     go_wp2_with fail
     go_quiet (fail)
     go_wp2_with fail
     exact ⟨⟨n+1,by go_num,by omega,fun q hq h1 h2=>by
      by_cases e:q=n
      ·subst e;exact HX.out
      ·exact HA.out q (by omega) h1 h2,hg.drewN _⟩,by simp [intOf];omega⟩
    ·generalize l[n]=x at hc hxy HD
     generalize m[n]=y at hc2 hxy HD2
     have hxy':(x==y)=false:=by simpa using hxy
     go_wp2_with fail
     go_quiet (fail)
     go_wp2_with fail
     go_ret
     exact ⟨ret_bool (M.same_bad HD.out HD2.out hxy).symm,hg.drewN _⟩
   ·go_wp2_with fail
    go_ret
    exact ⟨ret_bool (M.same_fin hlm fun q h1 h2=>HA.out q (by omega) h1 h2).symm,hg⟩
 ·have hlm':((l.length:Int)==m.length)=false:=by simp;omega
  have hlm2:¬ (l.length:Int)=m.length:=by omega
  go_enter Tryz.func12,Tryz.ntmps12
  go_wp2_with fail
  go_ret
  exact ⟨ret_bool (M.same_len hlm).symm,Grown.refl _⟩
end
section
open Go.RowKit
theorem own_low {w:World} {B B':Nat} {e:TypeId} {size:Nat} {v:Value} {n:Nat} {xs:List Value} (h:w.ownsRow B e size v n xs) (hB:B'≤B):w.ownsRow B' e size v n xs:=by
 obtain ⟨h1,h2⟩:=h
 refine ⟨h1,?_⟩
 rcases h2 with h2 | ⟨g,cap,cur,hv,hg,r⟩
 ·exact Or.inl h2
 ·exact Or.inr ⟨g,cap,cur,hv,Nat.le_trans hB hg,r⟩
theorem cellJ {W W':World} {p:Addr} {v:Value} {B:Nat} (hb:Below B W W') (h:W.cell? p=some v) (hB:W.heap.size≤B:=by exact Nat.le_refl _):W'.cell? p=some v:=(hb.cell (p:=p) (Nat.lt_of_lt_of_le (World.block_lt_of_cell? _ _ h) hB)).trans h
theorem M.ints_len (r:List Nat):(M.ints r).length=r.length:=by simp [M.ints]
theorem M.ints_snoc (r:List Nat) (x:Nat):M.ints (r++[x])=M.ints r++[(x:Int)]:=by simp [M.ints]
abbrev OwnI (w:World) (B:Nat) (v:Value) (r:List Nat):Prop:=w.ownsRow B 3 1 v r.length (nums (M.ints r))
theorem M.find_step {p:Nat→Bool} {i:Nat} (h:∀ j,j < i→p j=false) (hp:p i=false):∀ j,j < i+1→p j=false:=fun j hj=>by
 by_cases e:j=i
 ·rw [e];exact hp
 ·exact h j (by omega)
theorem M.find_hit {p:Nat→Bool} {i n:Nat} (h:∀ j,j < i→p j=false) (hi:i < n) (hp:p i=true):(List.range n).find? p=some i:=by
 rw [List.find?_eq_some_iff_getElem]
 refine ⟨hp,i,by simpa using hi,by simp,fun j hj=>?_⟩
 simp only [List.getElem_range]
 rw [h j hj];rfl
theorem M.find_miss {p:Nat→Bool} {n:Nat} (h:∀ j,j < n→p j=false):(List.range n).find? p=none:=by
 rw [List.find?_eq_none]
 intro x hx
 rw [h x (List.mem_range.1 hx)];simp
end
section
open Go.RowKit
theorem own_intsR {w:World} {base:Nat} {e:TypeId} {v:Value} {l:List Int} (h:w.ownsRow base e 1 v l.length (nums l)):∃ a g c,v=.slice a l.length c∧IntS w a g 0 l∧(a=none→c=0)∧(0 < l.length→base≤g):=by
 rcases h.2 with ⟨hv,hn⟩ | ⟨g,cap,cur,hv,hg,hh,hc,r⟩
 ·have:l=[]:=List.length_eq_zero_iff.1 hn
  subst this
  exact ⟨none,0,0,hv,IntS.nil _ _ _ _,fun _=>rfl,fun h=>absurd h (Nat.lt_irrefl _)⟩
 ·refine ⟨_,g,cap,hv,⟨fun _=>rfl,fun i hi=>?_⟩,fun e=>(by cases e),fun _=>hg⟩
  have:=h.cells (g:=g) (by rw [hv];rfl) i (.int .i64 l[i]) (by simp [nums,hi])
  rwa [Go.WideShapes.add_plain] at this
end
end Go.Proofs.YtmhpgdliaclokaaGreat
