/- The law FnOrderHas, walked: it answers true, and leaves all as it was. Of whatever code. Small facts for the rows' proofs. No condition. What an argument of a law reads as: a code, bytes in memory. No condition. -/
import Derived.Test.YtdlpdiioggiehaaBnYt
import Derived.Test.YtdlpdiioggiehaaRows
import Derived.ProofKit
import Derived.Deep.Slices
import Derived.ChangeSlices
import Derived.OpenShut

namespace Go.Proofs.Ytdlpdiioggiehaa
open Go.RowKit

set_option maxHeartbeats 2000000 in
set_option maxRecDepth 100000 in
theorem lawHas_any (ca : Option Addr) (cb co L C : Nat) (x : Nat → Int) (w : World) (hL : L ≤ C) (had : 0 < L → ca = some ⟨cb, co, none⟩) (hc : ∀ i, i < L → w.cell? ⟨cb, co + i, none⟩ = some (.int .u8 (x i)) ∧ 0 ≤ x i ∧ x i ≤ 255) :
    Calls Try.prog 3 #[.slice ca L C] w fun e w' => e = .returned (.bool true) ∧ Below w.heap.size w w' := by
  by_cases hLb : L ≤ 1048576
  · go_enter Try.func3, Try.ntmps3
    go_wp2_with fail
    refine (DrawOrderHas_any ca cb co L C x _ hL had hc hLb).mono ?_
    rintro e w1 ⟨v, rfl, ⟨a, g, c, mm, fv, ov, l, rows, kind, na, nb, rfl, hsn, hsm, hwy, h1, h2, h3, hk, hna, hnb⟩, hb1⟩
    obtain ⟨fa, fb, fc, ra, rb, rc, rfl, rfl, hf1, ho1⟩ := hwy.ss
    have h2' : Hid (rows.length = 3) := h2
    have hl3 : mm.length ≤ 1048576 := by have := hsm.three; omega
    have hls : ∀ t ∈ mm, t.length ≤ 1048576 := fun t ht => by have := hsm.steps t ht; omega
    have hl1 : l.length ≤ 1048576 := by omega
    have hl2 : rows.length ≤ 1048576 := by omega
    have hrs : ∀ r ∈ rows, r.length ≤ 1048576 := fun r hr => by have := h3 r hr; omega
    clear had hc h2 hwy
    have bx0 := BxW.new (c := c) (fc := fc) (rc := rc) hb1 hsn.ss hf1 ho1
    have CI := fun (W : World) (k p q : Int) (hb : BxW w W w1.heap.size (w1.heap.size + 1) a g c mm fa fb fc l ra rb rc rows) => iorderHas_any a g 0 c mm fa fb 0 fc l ra rb 0 rc rows k p q W hl3 hls hl1 hl2 hrs hb.ss hb.f hb.o
    have CS := fun (W : World) (k p q : Int) (hb : BxW w W w1.heap.size (w1.heap.size + 1) a g c mm fa fb fc l ra rb rc rows) => sorderHas_any a g 0 c mm fa fb 0 fc l ra rb 0 rc rows k p q W hl3 hls hl1 hrs hb.ss hb.f hb.o
    have hself := M.has_self mm l rows kind na
    go_wp2_with fail
    generalize (w1.alloc (.cells #[.slice a mm.length c] 25)).alloc (.cells #[.slice fa l.length fc, .slice ra rows.length rc] 29) = W0 at *
    obtain ⟨X, hXe⟩ : ∃ X, w1.heap.size + 1 = X := ⟨_, rfl⟩
    rw [hXe] at bx0 ⊢
    rw [hXe] at CI CS
    generalize w1.heap.size = P at *
    clear hsn hb1 hf1 ho1
    cases hH : M.orderHas mm l rows kind na nb
    · have C1 := CI W0 kind na nb bx0
      rw [hH] at C1
      refine C1.mono ?_
      rintro e W1 ⟨rfl, b1⟩
      have bx1 := bx0.below b1
      have p1 := bx1.p.c
      have x10 := bx1.x.c0
      have x11 := bx1.x.c1
      have C2 := CS W1 kind na nb bx1
      rw [hH] at C2
      go_wp2_with fail
      refine C2.mono ?_
      rintro e W2 ⟨rfl, b2⟩
      have bx2 := bx1.below b2
      have p2 := bx2.p.c
      have x20 := bx2.x.c0
      have x21 := bx2.x.c1
      have C3 := CI W2 kind na na bx2
      rw [hself] at C3
      clear p1 x10 x11 C1 C2
      go_wp2_with fail
      refine C3.mono ?_
      rintro e W3 ⟨rfl, b3⟩
      have bx3 := bx2.below b3
      go_wp2_with fail
      go_ret
      exact ⟨rfl, bx3.bel⟩
    · have C1 := CI W0 kind na nb bx0
      rw [hH] at C1
      refine C1.mono ?_
      rintro e W1 ⟨rfl, b1⟩
      have bx1 := bx0.below b1
      have p1 := bx1.p.c
      have x10 := bx1.x.c0
      have x11 := bx1.x.c1
      have C2 := CS W1 kind na nb bx1
      rw [hH] at C2
      go_wp2_with fail
      refine C2.mono ?_
      rintro e W2 ⟨rfl, b2⟩
      have bx2 := bx1.below b2
      have p2 := bx2.p.c
      have x20 := bx2.x.c0
      have x21 := bx2.x.c1
      have C3 := CI W2 kind na na bx2
      rw [hself] at C3
      clear p1 x10 x11 C1 C2
      go_wp2_with fail
      refine C3.mono ?_
      rintro e W3 ⟨rfl, b3⟩
      have bx3 := bx2.below b3
      go_wp2_with fail
      go_ret
      exact ⟨rfl, bx3.bel⟩
  · have hLb' : (1048576 : Int) < L := by omega
    go_enter Try.func3, Try.ntmps3
    go_wp2_with fail
    go_ret
    exact ⟨rfl, Below.refl _ _⟩
end Go.Proofs.Ytdlpdiioggiehaa

namespace Go.Proofs.Ytdlpdiioggiehaa
open Go.ChangeShapes Go.WideShapes Go.ChangeAt Go.RowKit Go.Deep

theorem Try.own : ownKnob Try.prog.godebug = none := by kernel_rfl
theorem Try.laidOut : laidOutB Try.prog = true := by kernel_rfl

theorem one_of_size {cs : Array Value} (h : cs.size = 1) : ∃ u, cs = #[u] := by
  obtain ⟨l⟩ := cs
  match l, h with
  | [u], _ => exact ⟨u, rfl⟩
end Go.Proofs.Ytdlpdiioggiehaa

namespace Go.Proofs.Ytdlpdiioggiehaa
open Go.ChangeShapes Go.WideShapes Go.ChangeAt Go.RowKit Go.Deep

theorem Try.cellsByte : Try.prog.cellsOf 5 = 1 := by kernel_rfl

/-- A code lies in memory. -/
def Code8 (w : World) (u : Value) : Prop := ∃ ca cb co L C, ∃ x : Nat → Int, u = .slice ca L C ∧ L ≤ C ∧ (0 < L → ca = some ⟨cb, co, none⟩) ∧ ∀ i, i < L → w.cell? ⟨cb, co + i, none⟩ = some (.int .u8 (x i)) ∧ 0 ≤ x i ∧ x i ≤ 255

section
variable {H : Type} {enc : TypeId × Value → H} {w : World} {base : Nat} {spare : Nat → Bool} {held : Bool}

set_option maxRecDepth 100000 in
theorem open_code {fuel : Nat} {u : Value} {x : DataW H × List MemPlace} (h : DataW.trod enc Try.prog w base spare held fuel 22 [u] = some x) : Code8 w u := by
  rcases open_ints Try.underlying22 Try.underlying5 Try.cellsByte h with ⟨hcs, _⟩ | ⟨a, len, cap, zs, hcs, _, hl, hm, hmm, _, hel, hwf⟩
  · simp at hcs
    exact ⟨none, 0, 0, 0, 0, fun _ => 0, hcs, Nat.le_refl _, fun h => absurd h (Nat.lt_irrefl _), fun i hi => absurd hi (Nat.not_lt_zero _)⟩
  · simp at hcs
    obtain ⟨gb, go, gs⟩ := a
    have hlm : len ≤ zs.length := by rw [hmm]; split <;> omega
    rcases Nat.eq_zero_or_pos len with h0 | hpos
    · subst h0
      exact ⟨_, 0, 0, 0, cap, fun _ => 0, hcs, Nat.zero_le _, fun h => absurd h (Nat.lt_irrefl _), fun i hi => absurd hi (Nat.not_lt_zero _)⟩
    · have hgs : gs = none := by simpa [Addr.add] using World.cell?_spot (hel 0 (by omega))
      subst hgs
      refine ⟨_, gb, go, len, cap, fun i => zs.getD i 0, hcs, hl, fun _ => rfl, fun i hi => ?_⟩
      have h1 := hel i (by omega)
      rw [add_plain] at h1
      have hw := hwf (zs.getD i 0) (by rw [List.getD_eq_getElem?_getD, List.getElem?_eq_getElem (by omega)]; exact List.getElem_mem _)
      exact ⟨h1, bounds_u8 hw⟩

end
end Go.Proofs.Ytdlpdiioggiehaa
