/- What it is that of what was there only one block has turned. No condition. And what goes with it: But, SxSeen, LpXe, WaAns. -/
import Derived.Deep.OwnRows
import Derived.Test.YtegommoflmmahaaGreatRows
import Derived.Test.YtegommoflmmahaaGreatQubc
namespace Go.Proofs.YtegommoflmmahaaGreat
section
open Go.RowKit
theorem But.frozen {rb:Nat} {w w':World} (h:But rb w w') {p:Addr} (hp:p.block < w.heap.size) (hne:p.block≠rb):w'.frozen? p=w.frozen? p:=World.frozen?_of_block (w:=w) (h.block p.block hp hne)
end
section
open Go.RowKit
namespace M
theorem rd_len (ds:List De) (l:List Int) (xs:List De):∀ n,(rdAt ds l n xs).length≤xs.length:=by
 induction xs with
 | nil=>intro n;simp [rdAt]
 | cons x xs ih =>
  intro n
  have:=ih (n+1)
  unfold rdAt
  split<;>simp<;>omega
end M
namespace M
end M
end
section
open Go.RowKit Go.Shelf
structure LW (w:World) (a:Option Addr) (g:Nat) (xs:List M.Wy):Prop where
 addr:0 < xs.length→a=some ⟨g,0,none⟩
 row:∀ i (h:i < xs.length),∃ fa fb fc ra rb rc,w.cell? ⟨g,i * 2,none⟩=some (.slice fa xs[i].1.length fc)∧w.cell? ⟨g,i * 2+1,none⟩=some (.slice ra xs[i].2.length rc)∧IntS w fa fb 0 xs[i].1∧IntSS w ra rb 0 xs[i].2
theorem LW.below {w w':World} {a:Option Addr} {g:Nat} {xs:List M.Wy} (h:LW w a g xs) (hb:Below w.heap.size w w'):LW w' a g xs :=
 ⟨h.addr,fun i hi=>by
  obtain ⟨fa,fb,fc,ra,rb,rc,h1,h2,h3,h4⟩:=h.row i hi
  exact ⟨fa,fb,fc,ra,rb,rc,(hb.cell (p:=⟨g,i * 2,none⟩) (World.block_lt_of_cell? _ _ h1)).trans h1,(hb.cell (p:=⟨g,i * 2+1,none⟩) (World.block_lt_of_cell? _ _ h2)).trans h2,h3.below hb (Nat.le_refl _),h4.below hb (Nat.le_refl _)⟩⟩
end
section
open Go.RowKit
theorem RXL.lw {W:World} {base n:Nat} {v:Value} {cs:List Value} {xs:List M.Wy} (h:RXL W base v cs n xs):∃ a g c,v=.slice a xs.length c∧LW W a g xs:=by
 obtain ⟨a,g,c,e1,e2,e3⟩:=own_two h.own
 have hl:=h.len.out
 rw [← hl] at e1 e2
 refine ⟨a,g,c,e1,e2,fun i hi=>?_⟩
 obtain ⟨fv,ov,rc0,c1,c2,hx,_⟩:=h.row i hi
 obtain ⟨fa,fb,fc,ra,rb,rc,f1,f2,f3,f4⟩:=hx.lw
 exact ⟨fa,fb,fc,ra,rb,rc,by rw [← f1];exact e3 _ _ c1,by rw [← f2];exact e3 _ _ c2,f3,f4⟩
theorem SxaAns.lw {w w':World} {ll:List (List M.D)} {v:Value} (h:SxaAns w w' ll v):∃ a g c,v=.slice a (M.specAll ll).length c∧LW w' a g (M.specAll ll):=by
 obtain ⟨cs,n,hw,_⟩:=h.ex
 exact hw.lw
end
end Go.Proofs.YtegommoflmmahaaGreat
