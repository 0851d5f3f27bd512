/- What stands through the exact laws of both machines' turns. No condition. -/
import Derived.Deep.OwnRows
import Derived.Test.YtnddmlgnngdaoaaRows
import Derived.Test.YtnddmlgnngdaoaaQjbl
import Derived.Test.YtnddmlgnngdaoaaQjbm
namespace Go.Proofs.Ytnddmlgnngdaoaa
section
open Go.RowKit
structure BxM (w W:World) (a:Option Addr) (c:Nat) (ll:List (List M.D)):Prop where
 bel:Below w.heap.size w W
 p0:W.cell? ⟨w.heap.size,0,none⟩=some (.slice a ll.length c)
theorem BxM.below {w W W':World} {a:Option Addr} {c:Nat} {ll:List (List M.D)} (h:BxM w W a c ll) (hb:Below W.heap.size W W'):BxM w W' a c ll :=
 ⟨h.bel.trans (hb.mono h.bel.size),cb hb h.p0⟩
theorem BxM.mk_ {P:Nat→Prop} {w W W':World} {a:Option Addr} {c:Nat} {ll:List (List M.D)} (h:BxM w W a c ll) (hm:Mk P W W') (hP:∀ j,P j→w.heap.size≤j):BxM w W' a c ll :=
 ⟨hm.below h.bel hP,hm.rest _ _ h.p0 (fun _ e=>by cases e)⟩
theorem Sn.At.mkFarM {P:Nat→Prop} {w w':World} {s:Sn} (h:s.At w) (hm:Mk P w w') (hP:∀ j,P j→¬ s.blk j):s.At w' :=
 ⟨h.reads.mkFar hm (fun hl hp=>hP _ hp (Or.inl ⟨hl,rfl⟩)),h.last.mkFar hm (fun hl hp=>hP _ hp (Or.inr ⟨hl,rfl⟩))⟩
theorem BxT.mk_ {P:Nat→Prop} {W W':World} {X:Nat} {s:Sn} (h:BxT W X s) (hm:Mk P W W') (hP:∀ j,P j→¬ s.blk j):BxT W' X s:=⟨hm.rest _ _ h.c0 (fun _ e=>by cases e),hm.rest _ _ h.c1 (fun _ e=>by cases e),h.at_.mkFarM hm hP⟩
structure AlM (w W:World) (a:Option Addr) (c:Nat) (ll:List (List M.D)) (X P R x1 I B1 N1:Nat) (gs:List Int) (s0 s1:Sn):Prop where
 bx:BxM w W a c ll
 xs:BxT W X s0
 ps:W.cell? ⟨P,0,none⟩=some (.slice (some ⟨x1,0,none⟩) ll.length ll.length)
 rs:BxT W R s1
 own:Own2 W s1
 hx:NewSS W B1 N1 x1 ll
 gi:IntS W (some ⟨I,0,none⟩) I 0 gs
 gf:∀ j,W.frozen? ⟨I,j,none⟩=false
 il:I < W.heap.size
theorem AlM.below {w W W':World} {a:Option Addr} {c:Nat} {ll:List (List M.D)} {X P R x1 I B1 N1:Nat} {gs:List Int} {s0 s1:Sn} (h:AlM w W a c ll X P R x1 I B1 N1 gs s0 s1) (hb:Below W.heap.size W W'):AlM w W' a c ll X P R x1 I B1 N1 gs s0 s1 :=
 ⟨h.bx.below hb,h.xs.below hb,cb hb h.ps,h.rs.below hb,h.own.below h.rs.at_ hb,h.hx.below hb (Nat.le_refl _),h.gi.below hb (Nat.le_refl _),fun j=>(hb.frozen (p:=⟨I,j,none⟩) h.il).trans (h.gf j),Nat.lt_of_lt_of_le h.il hb.size⟩
theorem calls_belM {P:Program} {f:FuncId} {args:Array Value} {W:World} {v:Value} (h:Calls P f args W fun e w'=>e=.returned v∧Grown W w'):Calls P f args W fun e w'=>e=.returned v∧Below W.heap.size W w':=h.mono fun _ _ ⟨he,hg⟩=>⟨he,hg.bel⟩
end
end Go.Proofs.Ytnddmlgnngdaoaa
