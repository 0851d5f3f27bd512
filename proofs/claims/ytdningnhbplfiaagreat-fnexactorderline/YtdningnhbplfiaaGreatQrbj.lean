/- The net of an order, of what is looked at, whatever way is set. Of at most 1048576 threads and steps. -/
import Derived.Deep.OwnRows
import Derived.Test.YtdningnhbplfiaaGreatRows
import Derived.Test.YtdningnhbplfiaaGreatQrbi
namespace Go.Proofs.YtdningnhbplfiaaGreat
section
open Go.RowKit
structure NtB (w:World) (O X G n c:Nat) (va:Option Addr) (rb rc:Nat→Nat) (A:Nat→Nat→Bool):Prop where
 nt:NtAt w X G n c va rb rc A
 nX:X≠O
 nG:0 < n→G≠O
 nR:∀ a,a < n→rb a≠O
set_option maxHeartbeats 1000000 in
set_option maxRecDepth 100000 in
theorem netE2_any (O cc:Nat) (va:Option Addr) (k:Nat) (A:Nat→Nat→Bool) (w:World) (h:w.cell? ⟨O,1,none⟩=some (.slice va 0 cc)) :
  Calls Tryz.prog 53 #[.pointer (some ⟨O,0,none⟩),.int .i64 k] w fun e w'=>∃ X',e=.returned (.pointer (some ⟨X',0,none⟩))∧(∃ G c va rb rc,NtB w' O X' G 0 c va rb rc A)∧Below w.heap.size w w':=by
 have hO:O < w.heap.size:=World.block_lt_of_cell? _ _ h
 go_enter Tryz.func53,Tryz.ntmps53
 go_wp2_with fail
 go_loopw [6] (fun s6 wr=>s6=.int .i64 0∧S1 wr w.heap.size (.slice none 0 0)∧Below w.heap.size w wr) (fun _ _=>0)
 case atStart=>exact ⟨rfl,⟨by simp,by simp⟩,below1 _ _⟩
 case round =>
  obtain ⟨rfl,hS1,hbel⟩:=hrel
  have l0:=cellC hbel h
  have s0:=hS1.c
  go_wp2_with fail
  go_ret
  exact ⟨_,rfl,⟨0,0,none,fun _=>0,fun _=>0,⟨⟨s0,fun h=>absurd h (Nat.lt_irrefl _),fun a ha=>absurd ha (Nat.not_lt_zero _),fun a ha=>absurd ha (Nat.not_lt_zero _)⟩,by omega,fun h=>absurd h (Nat.lt_irrefl _),fun a ha=>absurd ha (Nat.not_lt_zero _)⟩⟩,hbel⟩
theorem netG_any (k:Nat) (hk:k≤3) (a:Option Addr) (b o c:Nat) (ll:List (List M.D)) (w2 w3:World) (O:Nat) (va:Option Addr) (g cc:Nat) (v1 v2:Value) (hl:ll.length≤1048576) (hls:∀ t∈ll,t.length≤1048576) (hdl:(M.deeds ll).length≤28) (hp2:DoSS w2 a b o ll) (hLk:LookedG w2 w3 O a c ll va g cc v1 v2) :
  Calls Tryz.prog 53 #[.pointer (some ⟨O,0,none⟩),.int .i64 k] w3 fun e w'=>∃ X',e=.returned (.pointer (some ⟨X',0,none⟩))∧(∃ G c va rb rc,NtB w' O X' G (M.deeds ll).length c va rb rc (M.staysAt (M.deeds ll) k))∧Below w3.heap.size w3 w':=by
 obtain ⟨f4,f5,hblk⟩:=hLk.blk
 have c0:w3.cell? ⟨O,0,none⟩=some (.slice a ll.length c):=by simp [World.cell?,hblk]
 have c1:w3.cell? ⟨O,1,none⟩=some (.slice va (M.deeds ll).length cc):=by simp [World.cell?,hblk]
 have c2:w3.cell? ⟨O,2,none⟩=some v1:=by simp [World.cell?,hblk]
 have c3:w3.cell? ⟨O,3,none⟩=some v2:=by simp [World.cell?,hblk]
 rcases Nat.eq_zero_or_pos (M.deeds ll).length with h0 | hpos
 ·have hnil:M.deeds ll=[]:=List.eq_nil_of_length_eq_zero h0
  rw [h0] at c1
  rw [hnil]
  exact netE2_any O cc va k _ w3 c1
 ·obtain ⟨rfl⟩:=hLk.dv.addr hpos
  obtain ⟨ub,uc,rfl,_,_⟩:=hLk.own1.form hpos
  obtain ⟨wb,wc,rfl,_,_⟩:=hLk.own2.form hpos
  have rd:∀ n x,(M.deeds ll)[n]?=some x→w3.cell? ⟨ub,n,none⟩=some (.bool (M.reads x.d.k)):=fun n x hx=>by
   have hn:n < (M.deeds ll).length:=by
    rcases Nat.lt_or_ge n (M.deeds ll).length with h | h
    ·exact h
    ·rw [List.getElem?_eq_none h] at hx;cases hx
   have o1:=hLk.own1
   have:=own_bools (l:=(M.deeds ll).map fun x=>M.reads x.d.k) (by rw [List.length_map];exact o1) n (by simpa using hn)
   rw [List.getElem?_eq_getElem hn] at hx
   rw [this,List.getElem_map,Option.some.inj hx]
  have wrt:∀ n x,(M.deeds ll)[n]?=some x→w3.cell? ⟨wb,n,none⟩=some (.bool (M.writes x.d.k)):=fun n x hx=>by
   have hn:n < (M.deeds ll).length:=by
    rcases Nat.lt_or_ge n (M.deeds ll).length with h | h
    ·exact h
    ·rw [List.getElem?_eq_none h] at hx;cases hx
   have o1:=hLk.own2
   have:=own_bools (l:=(M.deeds ll).map fun x=>M.writes x.d.k) (by rw [List.length_map];exact o1) n (by simpa using hn)
   rw [List.getElem?_eq_getElem hn] at hx
   rw [this,List.getElem_map,Option.some.inj hx]
  have hkO:(⟨O,a,b,o,c,ll,g,cc⟩:Lp).Ok:=⟨hl,hls,by show (M.deeds ll).length≤42;omega⟩
  have hA:(⟨ub,uc,wb,wc,0,0,0,[],0,0,[]⟩:Lq).Ar ⟨O,a,b,o,c,ll,g,cc⟩ w3:=⟨⟨c0,c1,hp2.below hLk.bel (Nat.le_refl _),hLk.dv⟩,c2,c3,rd,wrt⟩
  have C:=netR_of ⟨O,a,b,o,c,ll,g,cc⟩ _ k w3 hdl hA (by
   intro p q x y w h hx hy
   rcases (show k=0∨k=1∨k=2∨k=3 by omega) with rfl | rfl | rfl | rfl
   ·exact stays0R_any _ _ p q x y w hkO h hx hy
   ·exact stays1R_any _ _ p q x y w hkO h hx hy
   ·exact stays2R_any _ _ p q x y w hkO h hx hy
   ·exact stays3R_any _ _ p q x y w hkO h hx hy)
  have hOl:=hLk.lt
  refine C.mono (fun e w' ⟨X',he,⟨G',c',va',rb',rc',hO⟩,hb⟩=>⟨X',he,⟨G',c',va',rb',rc',hO.nt,?_,fun _ e1=>?_,fun i hi e1=>?_⟩,hb⟩)
  ·have:=hO.geX;omega
  ·subst e1
   have c0':=(hb.cell (p:=⟨G',0,none⟩) hOl).trans c0
   have h1:=hO.nt.outer 0 hpos
   rw [c0'] at h1
   have e2:a=some ⟨rb' 0,0,none⟩:=by simpa using congrArg (fun v=>match v with | some (Value.slice q _ _)=>q | _=>none) h1
   have hlp:0 < ll.length:=by
    cases ll with
    | nil=>simp [M.deeds,M.deF] at hpos
    | cons _ _=>simp
   have e3:=hp2.addr hlp
   rw [e2] at e3
   have e4:rb' 0=b:=by simpa using congrArg (fun v=>match v with | some (q:Addr)=>q.block | _=>0) e3
   have h5:=hO.ge 0 hpos
   obtain ⟨_,_,_,_,h6,_⟩:=hp2.row 0 hlp
   have h7:b < w2.heap.size:=World.block_lt_of_cell? _ _ h6
   have h8:=hLk.bel.size
   omega
  ·have:=hO.ge i hi;omega
end
end Go.Proofs.YtdningnhbplfiaaGreat
