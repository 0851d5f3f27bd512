/- How a thread, and a program, lie in memory: three cells a step, a slice a thread. No condition. -/
import Derived.Test.YtnddmlgnngdaoaaRows
import Derived.Test.YtnddmlgnngdaoaaQjad
namespace Go.Proofs.Ytnddmlgnngdaoaa
section
open Go.RowKit
structure DoAt (w:World) (b o:Nat) (d:M.D):Prop where
 k:w.cell? ⟨b,o,none⟩=some (.int .i64 d.k)
 p:w.cell? ⟨b,o+1,none⟩=some (.int .i64 d.p)
 v:w.cell? ⟨b,o+2,none⟩=some (.int .i64 d.v)
def Row (w:World) (b o:Nat) (l:List M.D):Prop:=∀ i (h:i < l.length),DoAt w b (o+i * 3) l[i]
structure DoS (w:World) (a:Option Addr) (b o:Nat) (l:List M.D):Prop where
 addr:0 < l.length→a=some ⟨b,o,none⟩
 row:Row w b o l
theorem DoAt.lt {w:World} {b o:Nat} {d:M.D} (h:DoAt w b o d):b < w.heap.size:=World.block_lt_of_cell? _ _ h.k
theorem DoAt.below {w w':World} {B b o:Nat} {d:M.D} (h:DoAt w b o d) (hb:Below B w w') (hB:w.heap.size≤B):DoAt w' b o d:=by
 have hl:=h.lt
 exact ⟨by rw [hb.cell (p:=⟨b,o,none⟩) (by show b < B;omega)];exact h.k,by rw [hb.cell (p:=⟨b,o+1,none⟩) (by show b < B;omega)];exact h.p,by rw [hb.cell (p:=⟨b,o+2,none⟩) (by show b < B;omega)];exact h.v⟩
theorem DoS.below {w w':World} {a:Option Addr} {B b o:Nat} {l:List M.D} (h:DoS w a b o l) (hb:Below B w w') (hB:w.heap.size≤B):DoS w' a b o l :=
 ⟨h.addr,fun i hi=>(h.row i hi).below hb hB⟩
end
end Go.Proofs.Ytnddmlgnngdaoaa
