/- What stands through a law's calls: the box of its argument, the argument itself. No condition. -/
import Derived.Test.YtdbndkakpbjehaaSize
namespace Go.Proofs.Ytdbndkakpbjehaa
open Go.RowKit

/-- What stands through the law's calls: the box of its argument, the argument itself. -/
structure Stays (w wx : World) (a : Option Addr) (b o c : Nat) (ll : List (List M.D)) : Prop where
  bel : Below w.heap.size w wx
  box : wx.cell? ⟨w.heap.size, 0, none⟩ = some (.slice a ll.length c)
  lt : w.heap.size < wx.heap.size
  ss : DoSS wx a b o ll

theorem Stays.below {w wx wy : World} {a : Option Addr} {b o c : Nat} {ll : List (List M.D)} (h : Stays w wx a b o c ll) (hb : Below wx.heap.size wx wy) : Stays w wy a b o c ll :=
  ⟨h.bel.trans (hb.mono h.bel.size), (hb.cell (p := ⟨w.heap.size, 0, none⟩) h.lt).trans h.box, Nat.lt_of_lt_of_le h.lt hb.size, h.ss.below hb (Nat.le_refl _)⟩

end Go.Proofs.Ytdbndkakpbjehaa
