/- spec.l6Open: a reader of a code. -/
import Derived.Test.YtdpnnghomfaleaaRd
namespace Go.Proofs.Ytdpnnghomfaleaa
open Go.RowKit

set_option maxHeartbeats 400000 in
theorem l6Open_any (ca : Option Addr) (cb co L C : Nat) (x : Nat → Int) (w : World) (hL : L ≤ C) (had : 0 < L → ca = some ⟨cb, co, none⟩) (hc : ∀ i, i < L → w.cell? ⟨cb, co + i, none⟩ = some (.int .u8 (x i)) ∧ 0 ≤ x i ∧ x i ≤ 255) (hLb : L ≤ 1048576) :
    Calls Try.prog 55 #[.slice ca L C] w fun e w' => e = .returned (.pointer (some ⟨w.heap.size, 0, none⟩)) ∧ Rdr w' w.heap.size w.heap.size 0 ∧ Below w.heap.size w w' := by
  by_cases h2 : L ≤ 2000
  · have h2' : ¬ (2000 : Int) < L := by omega
    go_enter Try.func55, Try.ntmps55
    go_wp2_with fail
    go_ret
    refine ⟨rfl, ⟨ca, cb, co, L, C, x, by simp, by simp, by simp, had, h2, fun i hi => ⟨?_, (hc i hi).2⟩, fun h0 => World.block_lt_of_cell? _ _ (hc 0 h0).1, Nat.le_refl _⟩, below1 _ _⟩
    rw [World.cell?_alloc_past _ _ _ (World.block_lt_of_cell? _ _ (hc i hi).1)]
    exact (hc i hi).1
  · have h2' : (2000 : Int) < L := by omega
    obtain ⟨rfl⟩ := had (by omega)
    go_enter Try.func55, Try.ntmps55
    go_wp2_with fail
    go_ret
    refine ⟨rfl, ⟨_, cb, co, 2000, C, x, by simp, by simp, by simp, fun _ => rfl, by omega, fun i hi => ⟨?_, (hc i (by omega)).2⟩, fun h0 => World.block_lt_of_cell? _ _ (hc 0 (by omega)).1, Nat.le_refl _⟩, below1 _ _⟩
    rw [World.cell?_alloc_past _ _ _ (World.block_lt_of_cell? _ _ (hc i (by omega)).1)]
    exact (hc i (by omega)).1

end Go.Proofs.Ytdpnnghomfaleaa
