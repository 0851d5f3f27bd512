/- A program in memory whose blocks all lie beyond a bound. No condition. -/
import Derived.Test.YtnddmlgnngdaoaaGreatDoorRows
import Derived.Test.YtnddmlgnngdaoaaGreatDoorQsaj
namespace Go.Proofs.YtnddmlgnngdaoaaGreatDoor
section
open Go.RowKit
theorem DoS.far {w:World} {a:Option Addr} {b o B i:Nat} {l:List M.D} {u:Value} (h:DoS w a b o l) (hb:0 < l.length→b≠B):DoS (w.setCell ⟨B,i,none⟩ u) a b o l:=by
 refine ⟨h.addr,fun j hj=>?_⟩
 have hne:=hb (by omega)
 have hr:=h.row j hj
 exact ⟨(World.cell?_setCell_other _ _ _ _ (fun e=>hne (congrArg Addr.block e).symm)).trans hr.k,(World.cell?_setCell_other _ _ _ _ (fun e=>hne (congrArg Addr.block e).symm)).trans hr.p,(World.cell?_setCell_other _ _ _ _ (fun e=>hne (congrArg Addr.block e).symm)).trans hr.v⟩
theorem DoS.but {w w':World} {a:Option Addr} {rb b o:Nat} {l:List M.D} (h:DoS w a b o l) (hb:But rb w w') (hne:0 < l.length→b≠rb):DoS w' a b o l:=by
 refine ⟨h.addr,fun j hj=>?_⟩
 have hn:=hne (by omega)
 have hr:=h.row j hj
 have hl:=hr.lt
 exact ⟨(hb.cell (p:=⟨b,o+j * 3,none⟩) hl hn).trans hr.k,(hb.cell (p:=⟨b,o+j * 3+1,none⟩) hl hn).trans hr.p,(hb.cell (p:=⟨b,o+j * 3+2,none⟩) hl hn).trans hr.v⟩
theorem own_capS {w:World} {base n cap:Nat} {a:Option Addr} {e:TypeId} {size:Nat} {xs:List Value} (h:w.ownsRow base e size (.slice a n cap) n xs):n≤cap:=by
 rcases h.2 with ⟨hv,_⟩ | ⟨g',cap',cur,hv,_,_,hc,_⟩
 ·simp at hv;omega
 ·simp at hv
  obtain ⟨_,rfl⟩:=hv
  exact hc
theorem own_stepsC {w:World} {base:Nat} {v:Value} {l:List M.D} (h:w.ownsRow base 48 3 v l.length (flat l)):∃ a g c,v=.slice a l.length c∧DoS w a g 0 l∧(0 < l.length→base≤g)∧l.length≤c:=by
 obtain ⟨a,g,c,rfl,hd,hg⟩:=own_steps h
 exact ⟨a,g,c,rfl,hd,hg,own_capS h⟩
structure DoSN (N:Nat) (w:World) (a:Option Addr) (b o:Nat) (ll:List (List M.D)):Prop where
 addr:0 < ll.length→a=some ⟨b,o,none⟩
 ge:0 < ll.length→N≤b
 row:∀ i (h:i < ll.length),∃ a' b' o' c',w.cell? ⟨b,o+i,none⟩=some (.slice a' ll[i].length c')∧DoS w a' b' o' ll[i]∧(0 < ll[i].length→N≤b')∧ll[i].length≤c'
theorem DoSN.ss {N:Nat} {w:World} {a:Option Addr} {b o:Nat} {ll:List (List M.D)} (h:DoSN N w a b o ll):DoSS w a b o ll :=
 ⟨h.addr,fun i hi=>by obtain ⟨a',b',o',c',hc,hd,_,_⟩:=h.row i hi;exact ⟨a',b',o',c',hc,hd⟩⟩
theorem DoSN.far {N:Nat} {w:World} {a:Option Addr} {b o B i:Nat} {ll:List (List M.D)} {u:Value} (h:DoSN N w a b o ll) (hB:B < N):DoSN N (w.setCell ⟨B,i,none⟩ u) a b o ll:=by
 refine ⟨h.addr,h.ge,fun j hj=>?_⟩
 obtain ⟨a',b',o',c',hc,hd,hg,hq⟩:=h.row j hj
 have:=h.ge (by omega)
 exact ⟨a',b',o',c',(World.cell?_setCell_other _ _ _ _ (fun e=>by have:=congrArg Addr.block e;simp at this;omega)).trans hc,hd.far (fun hl=>by have:=hg hl;omega),hg,hq⟩
theorem DoSN.but {N:Nat} {w w':World} {a:Option Addr} {rb b o:Nat} {ll:List (List M.D)} (h:DoSN N w a b o ll) (hb:But rb w w') (hr:rb < N):DoSN N w' a b o ll:=by
 refine ⟨h.addr,h.ge,fun j hj=>?_⟩
 obtain ⟨a',b',o',c',hc,hd,hg,hq⟩:=h.row j hj
 have:=h.ge (by omega)
 exact ⟨a',b',o',c',(hb.cell (p:=⟨b,o+j,none⟩) (World.block_lt_of_cell? _ _ hc) (by show b≠rb;omega)).trans hc,hd.but hb (fun hl=>by have:=hg hl;omega),hg,hq⟩
theorem DoSN.mono {N N':Nat} {w:World} {a:Option Addr} {b o:Nat} {ll:List (List M.D)} (h:DoSN N w a b o ll) (hN:N'≤N):DoSN N' w a b o ll :=
 ⟨h.addr,fun hl=>Nat.le_trans hN (h.ge hl),fun i hi=>by obtain ⟨a',b',o',c',hc,hd,hg,hq⟩:=h.row i hi;exact ⟨a',b',o',c',hc,hd,fun hl=>Nat.le_trans hN (hg hl),hq⟩⟩
theorem Build.sn {w:World} {B:Nat} {v:Value} {ll:List (List M.D)} {vs:List Value} (h:Build w B v ll vs):∃ a g c,v=.slice a ll.length c∧DoSN B w a g 0 ll:=by
 have hl:=h.len
 rcases h.outer.2 with ⟨hv,hn⟩ | ⟨g,cap,cur,hv,hg,hh,r⟩
 ·have:ll=[]:=List.length_eq_zero_iff.1 hn
  subst this
  exact ⟨none,0,0,hv,⟨fun h=>absurd h (Nat.lt_irrefl _),fun h=>absurd h (Nat.lt_irrefl _),fun i hi=>absurd hi (Nat.not_lt_zero _)⟩⟩
 ·refine ⟨_,g,cap,hv,⟨fun _=>rfl,fun _=>hg,fun i hi=>?_⟩⟩
  have hc:=h.outer.cells (g:=g) (by rw [hv];rfl) i vs[i] (List.getElem?_eq_getElem (by omega))
  rw [Go.WideShapes.add_plain] at hc
  obtain ⟨a',g',c',e,hd,hge,hq⟩:=own_stepsC (h.inner i hi (by omega))
  rw [e] at hc
  exact ⟨a',g',0,c',hc,hd,hge,hq⟩
end
end Go.Proofs.YtnddmlgnngdaoaaGreatDoor
