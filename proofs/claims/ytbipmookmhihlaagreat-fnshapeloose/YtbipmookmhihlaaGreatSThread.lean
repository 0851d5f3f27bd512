/- spec's l1Thread: whether a thread is ok. Of threads of at most 1048576 steps. -/
import Derived.Test.YtbipmookmhihlaaGreatMem
namespace Go.Proofs.YtbipmookmhihlaaGreat
open Go.RowKit

theorem M.bad_no {r i : Bool} {d : M.D} (h : M.doOk d = true) (e3 : (d.k == 3) = false) (e7 : (d.k == 7) = false) (e8 : (d.k == 8) = false) (e9 : (d.k == 9) = false) : M.bad r i d = false := by
  simp [M.bad, h, e3, e7, e8, e9]
theorem M.inAfter_no {i : Bool} {k : Int} (e7 : (k == 7) = false) (e8 : (k == 8) = false) : M.inAfter i k = i := by
  simp [M.inAfter, e7, e8]

end Go.Proofs.YtbipmookmhihlaaGreat
