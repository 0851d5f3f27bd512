/- Small facts that every text leans on: what lies below a world's end stays. No condition. -/
import Derived.WalkLawsBesides
import Derived.WalkSpells
import Derived.Test.YtnddmlgnngdaoaaRows
namespace Go.Proofs.Ytnddmlgnngdaoaa
section
open Go.RowKit
theorem ret_bool {a b:Bool} (h:a=b):Ending.returned (.bool a)=.returned (.bool b):=by rw [h]
theorem below3 (w:World) (a b c:Obj):Below w.heap.size w (((w.alloc a).alloc b).alloc c) :=
 (((Below.refl _ _).alloc (Nat.le_refl _) _).alloc (by simp) _).alloc (by simp;omega) _
theorem below2 (w:World) (a b:Obj):Below w.heap.size w ((w.alloc a).alloc b) :=
 ((Below.refl _ _).alloc (Nat.le_refl _) _).alloc (by simp) _
theorem below1 (w:World) (a:Obj):Below w.heap.size w (w.alloc a):=(Below.refl _ _).alloc (Nat.le_refl _) _
theorem bcell {W w1:World} (hb:Below W.heap.size W w1):(∀ b o,b < W.heap.size→w1.cell? ⟨b,o,none⟩=W.cell? ⟨b,o,none⟩)∧(∀ b o,b < W.heap.size→w1.frozen? ⟨b,o,none⟩=W.frozen? ⟨b,o,none⟩) :=
 ⟨fun b o h=>hb.cell (p:=⟨b,o,none⟩) h,fun b o h=>hb.frozen (p:=⟨b,o,none⟩) h⟩
theorem bel_box {w wr w1:World} {x:Obj} (hbel:Below w.heap.size w wr) (hb:Below (wr.alloc x).heap.size (wr.alloc x) w1):Below w.heap.size w w1 :=
 hbel.trans (((Below.refl _ _).alloc hbel.size _).trans (hb.mono (by have:=hbel.size;simp;omega)))
theorem bel_box2 {w wr w1:World} {x:Obj} (hbel:Below w.heap.size w wr) (hb:Below (wr.alloc x).heap.size (wr.alloc x) w1) (y:Obj):Below w.heap.size w (w1.alloc y) :=
 (bel_box hbel hb).alloc (bel_box hbel hb).size _
end
end Go.Proofs.Ytnddmlgnngdaoaa
