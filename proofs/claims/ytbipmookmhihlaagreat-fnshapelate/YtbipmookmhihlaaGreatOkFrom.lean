/- impl's ways: whether From tells just so. Of at most 1048576 events. -/
import Derived.Test.YtbipmookmhihlaaGreatOkImpl
import Derived.Test.YtbipmookmhihlaaGreatQuietB
import Derived.Shelf.Abstract
import Derived.BigQuiet
namespace Go.Proofs.YtbipmookmhihlaaGreat
open Go.RowKit

namespace M
theorem tell_no {ds : List De} {x : De} {f : Int} (h : x.reads = false) : mayTell ds x f = (f == -2) := by simp [mayTell, h]
theorem tell_nobody {ds : List De} {x : De} (h : x.reads = true) : mayTell ds x (-1) = true := by simp [mayTell, h]
theorem tell_low {ds : List De} {x : De} {f : Int} (h : x.reads = true) (h1 : f ≠ -1) (h0 : ¬ 0 ≤ f) : mayTell ds x f = false := by simp [mayTell, h, h1, h0]
theorem tell_high {ds : List De} {x : De} {f : Int} (h : x.reads = true) (h1 : f ≠ -1) (h0 : ¬ f < ds.length) : mayTell ds x f = false := by simp [mayTell, h, h1, h0]
theorem tell_at {ds : List De} {x : De} {n : Nat} (h : x.reads = true) (hn : n < ds.length) : mayTell ds x (n : Int) = (ds[n]).to x.d.p := by
  have h1 : ((n : Int) == -1) = false := by simp
  have h2 : decide ((0 : Int) ≤ n) = true := by simp
  have h3 : decide ((n : Int) < ds.length) = true := by simpa using hn
  simp only [mayTell, h, h1, h2, h3, Int.toNat_natCast, List.getElem?_eq_getElem hn]
  rfl
theorem from_step {ds : List De} {l : List Int} {n : Nat} (h : fromAt ds ds l = fromAt ds (ds.drop n) (l.drop n)) (hn : n < ds.length) (hl : n < l.length) : fromAt ds ds l = (mayTell ds ds[n] l[n] && fromAt ds (ds.drop (n + 1)) (l.drop (n + 1))) := by
  rw [h, ← List.getElem_cons_drop hn, ← List.getElem_cons_drop hl, fromAt]
end M

theorem writesTo_bel (x : M.De) (p : Int) (w : World) : Calls Tryz.prog 85 #[x.agg, .int .i64 p] w fun e w' => e = .returned (.bool (x.to p)) ∧ Below w.heap.size w w' :=
  (writesTo_any x p w).mono fun e w' ⟨he, hw⟩ => ⟨he, by rw [hw]; exact below1 _ _⟩

end Go.Proofs.YtbipmookmhihlaaGreat
