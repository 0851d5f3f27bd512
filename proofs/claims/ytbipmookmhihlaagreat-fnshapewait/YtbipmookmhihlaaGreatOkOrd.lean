/- impl's ways: whether Order tells just so. Of at most 1048576 events, rows and numbers of a row. -/
import Derived.Test.YtbipmookmhihlaaGreatOkImpl
import Derived.Test.YtbipmookmhihlaaGreatCont
namespace Go.Proofs.YtbipmookmhihlaaGreat
open Go.RowKit

/-- A value is a slice of slices of numbers. -/
structure IntSS (w : World) (a : Option Addr) (b o : Nat) (rows : List (List Int)) : Prop where
  addr : 0 < rows.length → a = some ⟨b, o, none⟩
  row : ∀ i (h : i < rows.length), ∃ a' b' o' c', w.cell? ⟨b, o + i, none⟩ = some (.slice a' rows[i].length c') ∧ IntS w a' b' o' rows[i]
theorem IntSS.below {w w' : World} {a : Option Addr} {B b o : Nat} {rows : List (List Int)} (h : IntSS w a b o rows) (hb : Below B w w') (hB : w.heap.size ≤ B) : IntSS w' a b o rows :=
  ⟨h.addr, fun i hi => by
    obtain ⟨a', b', o', c', hc, hr⟩ := h.row i hi
    exact ⟨a', b', o', c', (hb.cell (p := ⟨b, o + i, none⟩) (Nat.lt_of_lt_of_le (World.block_lt_of_cell? _ _ hc) hB)).trans hc, hr.below hb hB⟩⟩

theorem M.all_step {row evs : List Int} {n : Nat} (h : evs.all (row.contains ·) = (evs.drop n).all (row.contains ·)) (hn : n < evs.length) : evs.all (row.contains ·) = (M.has row evs[n] && (evs.drop (n + 1)).all (row.contains ·)) := by
  rw [h, ← List.getElem_cons_drop hn, List.all_cons]; rfl

theorem M.order_step {ds : List M.De} {rows : List (List Int)} {n : Nat} (h : M.orderAt ds 0 rows = M.orderAt ds n (rows.drop n)) (hn : n < rows.length) : M.orderAt ds 0 rows = (M.isRow rows[n] (M.wrs n 0 ds) && M.orderAt ds (n + 1) (rows.drop (n + 1))) := by
  rw [h, ← List.getElem_cons_drop hn, M.orderAt]

end Go.Proofs.YtbipmookmhihlaaGreat
