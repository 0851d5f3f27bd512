/- How a thread, and a program, lie in memory: three cells a step, a slice a thread. No condition. What it is that of what was there only one block has turned. No condition. An array's part, by a variable. No condition. -/
import Derived.Deep.MidRow
import Derived.WalkKit
import Derived.WalkLawsBesides
import Derived.WalkSpells
import Derived.Test.YtihfibjckkmmbaaGreatRows
import Derived.Test.YtihfibjckkmmbaaGreatOeab
import Derived.Test.YtihfibjckkmmbaaGreatOeac
namespace Go.Proofs.YtihfibjckkmmbaaGreat
open Go.RowKit
structure DoAt (w:World) (b o:Nat) (d:M.D):Prop where
 k:w.cell? ⟨b,o,none⟩=some (.int .i64 d.k)
 p:w.cell? ⟨b,o+1,none⟩=some (.int .i64 d.p)
 v:w.cell? ⟨b,o+2,none⟩=some (.int .i64 d.v)
def Row (w:World) (b o:Nat) (l:List M.D):Prop:=∀ i (h:i < l.length),DoAt w b (o+i * 3) l[i]
structure DoS (w:World) (a:Option Addr) (b o:Nat) (l:List M.D):Prop where
 addr:0 < l.length→a=some ⟨b,o,none⟩
 row:Row w b o l
theorem DoAt.lt {w:World} {b o:Nat} {d:M.D} (h:DoAt w b o d):b < w.heap.size:=World.block_lt_of_cell? _ _ h.k
theorem DoAt.below {w w':World} {B b o:Nat} {d:M.D} (h:DoAt w b o d) (hb:Below B w w') (hB:w.heap.size≤B):DoAt w' b o d:=by
 have hl:=h.lt
 exact ⟨by rw [hb.cell (p:=⟨b,o,none⟩) (by show b < B;omega)];exact h.k,by rw [hb.cell (p:=⟨b,o+1,none⟩) (by show b < B;omega)];exact h.p,by rw [hb.cell (p:=⟨b,o+2,none⟩) (by show b < B;omega)];exact h.v⟩
theorem DoS.below {w w':World} {a:Option Addr} {B b o:Nat} {l:List M.D} (h:DoS w a b o l) (hb:Below B w w') (hB:w.heap.size≤B):DoS w' a b o l :=
 ⟨h.addr,fun i hi=>(h.row i hi).below hb hB⟩
end Go.Proofs.YtihfibjckkmmbaaGreat
namespace Go.Proofs.YtihfibjckkmmbaaGreat
open Go.RowKit
structure But (rb:Nat) (w w':World):Prop where
 os:w'.os=w.os
 tape:w'.tape=w.tape
 output:w'.output=w.output
 size:w.heap.size≤w'.heap.size
 block:∀ k,k < w.heap.size→k≠rb→w'.heap[k]?=w.heap[k]?
theorem But.refl (rb:Nat) (w:World):But rb w w:=⟨rfl,rfl,rfl,Nat.le_refl _,fun _ _ _=>rfl⟩
theorem But.trans {rb:Nat} {a b c:World} (h:But rb a b) (k:But rb b c):But rb a c :=
 ⟨k.os.trans h.os,k.tape.trans h.tape,k.output.trans h.output,Nat.le_trans h.size k.size,fun i hi hne=>(k.block i (Nat.lt_of_lt_of_le hi h.size) hne).trans (h.block i hi hne)⟩
theorem But.of {rb:Nat} {w w':World} (h:Below w.heap.size w w'):But rb w w':=⟨h.os,h.tape,h.output,h.size,fun k hk _=>h.block k hk⟩
theorem But.drew {rb:Nat} {a w:World} (h:But rb a w):But rb a w.drew:=⟨h.os,h.tape,h.output,h.size,h.block⟩
theorem But.drewN {rb:Nat} {a w:World} (h:But rb a w):∀ n,But rb a (w.drewN n)
 | 0=>h
 | n+1=>by
  have:=h.drewN n
  exact ⟨this.os,this.tape,this.output,this.size,this.block⟩
theorem But.alloc {rb:Nat} {a w:World} (h:But rb a w) (o:Obj):But rb a (w.alloc o):=h.trans (But.of (below1 w o))
theorem But.setCell {rb:Nat} {a w:World} (h:But rb a w) {p:Addr} (hp:a.heap.size≤p.block∨p.block=rb) (u:Value):But rb a (w.setCell p u) :=
 ⟨h.os,h.tape,h.output,by rw [show (w.setCell p u).heap.size=w.heap.size from by simp [World.setCell]];exact h.size,fun k hk hne=>(Below.heap_setCell _ _ _ _ (by rcases hp with hp | hp<;>omega)).trans (h.block k hk hne)⟩
theorem But.cell {rb:Nat} {w w':World} (h:But rb w w') {p:Addr} (hp:p.block < w.heap.size) (hne:p.block≠rb):w'.cell? p=w.cell? p:=World.cell?_of_block (w:=w) (h.block p.block hp hne)
theorem But.frozen {rb:Nat} {w w':World} (h:But rb w w') {p:Addr} (hp:p.block < w.heap.size) (hne:p.block≠rb):w'.frozen? p=w.frozen? p:=World.frozen?_of_block (w:=w) (h.block p.block hp hne)
theorem But.below {rb:Nat} {w w1 w':World} (h:Below w.heap.size w w1) (k:But rb w1 w') (hr:w.heap.size≤rb):Below w.heap.size w w' :=
 ⟨k.os.trans h.os,k.tape.trans h.tape,k.output.trans h.output,Nat.le_trans h.size k.size,fun i hi=>(k.block i (Nat.lt_of_lt_of_le hi h.size) (by omega)).trans (h.block i hi)⟩
end Go.Proofs.YtihfibjckkmmbaaGreat
namespace Go.Proofs.YtihfibjckkmmbaaGreat
open Go.RowKit
theorem wpList_index_one {P:Program} {w:World} {ops:Array Oper} {rest:List Oper} {op:Oper} {a:Act} {Q:Exit→Act→World→Prop} (hgd:op.guard=none) (ty:TypeId) (x y:Operand) (ho:op.op=.index ty x y)
  (c:Array Value) (i n:Nat) (e:TypeId) (d:TypeDesc) (v:Value) (hx:a.eval x=.agg c) (hy:a.eval y=.int .i64 i) (hu:P.underlying ty=some (.array n e)) (hin:i < n) (hue:P.underlying e=some d) (hd:d.isRow=false) (hi:(P.info? e).map (·.size)=some 1) (hv:c[i]?=some v)
  (h:wpList P ops Q rest (a.put op.dst v) w):wpList P ops Q (op::rest) a w:=by
 refine wpList_plain hgd fun _ hK=>?_
 have hagg:(isAgg e).run P w=.ok false w:=by
  unfold isAgg
  rw [Sem.run_bind,run_underlying hue w]
  cases d<;>simp_all
 cases hq:P.info? e with
 | none=>simp [hq] at hi
 | some j =>
  have hs:j.size=1:=by simpa [hq] using hi
  unfold Oper.wp execOp
  simp [ho,hx,hy,Instr.index,asIntOf,run_underlying hu,part,hagg,sizeOf,typeInfo,hq,hs,hin,hv]
  exact hK _ _ h
end Go.Proofs.YtihfibjckkmmbaaGreat
