/- A program and a way in two boxes of a law. No condition. -/
import Derived.Test.YtmhpgdliaclokaaGreatRows
import Derived.Test.YtmhpgdliaclokaaGreatQzbm
namespace Go.Proofs.YtmhpgdliaclokaaGreat
section
open Go.RowKit
structure BxW (w W:World) (P X:Nat) (a:Option Addr) (g c:Nat) (mm:List (List M.D)) (fa:Option Addr) (fb fc:Nat) (l:List Int) (ra:Option Addr) (rb rc:Nat) (rows:List (List Int)):Prop where
 bel:Below w.heap.size w W
 p:Slot1 W P (.slice a mm.length c)
 x:BxX W X (.slice fa l.length fc) (.slice ra rows.length rc)
 ss:DoSS W a g 0 mm
 f:IntS W fa fb 0 l
 o:IntSS W ra rb 0 rows
theorem BxW.below {w W W':World} {P X:Nat} {a:Option Addr} {g c:Nat} {mm:List (List M.D)} {fa:Option Addr} {fb fc:Nat} {l:List Int} {ra:Option Addr} {rb rc:Nat} {rows:List (List Int)} (h:BxW w W P X a g c mm fa fb fc l ra rb rc rows) (hb:Below W.heap.size W W'):BxW w W' P X a g c mm fa fb fc l ra rb rc rows :=
 ⟨h.bel.trans (hb.mono h.bel.size),h.p.ofB (hb.block P h.p.lt),h.x.of (hb.block X h.x.lt),h.ss.below hb (Nat.le_refl _),h.f.below hb (Nat.le_refl _),h.o.below hb (Nat.le_refl _)⟩
theorem BxW.new {w w1:World} {a:Option Addr} {g c:Nat} {mm:List (List M.D)} {fa:Option Addr} {fb fc:Nat} {l:List Int} {ra:Option Addr} {rb rc:Nat} {rows:List (List Int)} (hb:Below w.heap.size w w1) (hs:DoSS w1 a g 0 mm) (hf:IntS w1 fa fb 0 l) (ho:IntSS w1 ra rb 0 rows) :
  BxW w ((w1.alloc (.cells #[.slice a mm.length c] 25)).alloc (.cells #[.slice fa l.length fc,.slice ra rows.length rc] 29)) w1.heap.size (w1.heap.size+1) a g c mm fa fb fc l ra rb rc rows:=by
 have h2:=below2 w1 (.cells #[.slice a mm.length c] 25) (.cells #[.slice fa l.length fc,.slice ra rows.length rc] 29)
 have hx:=BxX.new (w1.alloc (.cells #[.slice a mm.length c] 25)) (.slice fa l.length fc) (.slice ra rows.length rc) 29
 rw [World.size_alloc] at hx
 exact ⟨hb.trans (h2.mono hb.size),(Slot1.new w1 _ _).ofB (alloc_old _ _ _ (by simp)),hx,hs.below h2 (Nat.le_refl _),hf.below h2 (Nat.le_refl _),ho.below h2 (Nat.le_refl _)⟩
end
end Go.Proofs.YtmhpgdliaclokaaGreat
