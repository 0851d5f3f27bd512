/- The law FnOrderHas, walked: it answers true, and leaves all as it was. Of whatever code. -/
import Derived.Test.YtdlnohfcbphfiaaBnOt
namespace Go.Proofs.Ytdlnohfcbphfiaa
open Go.RowKit

set_option maxHeartbeats 2000000 in
set_option maxRecDepth 100000 in
theorem lawHas_any (ca : Option Addr) (cb co L C : Nat) (x : Nat → Int) (w : World) (hL : L ≤ C) (had : 0 < L → ca = some ⟨cb, co, none⟩) (hc : ∀ i, i < L → w.cell? ⟨cb, co + i, none⟩ = some (.int .u8 (x i)) ∧ 0 ≤ x i ∧ x i ≤ 255) :
    Calls Try.prog 3 #[.slice ca L C] w fun e w' => e = .returned (.bool true) ∧ Below w.heap.size w w' := by
  by_cases hLb : L ≤ 1048576
  · go_enter Try.func3, Try.ntmps3
    go_wp2_with fail
    refine (DrawOrderHas_any ca cb co L C x _ hL had hc hLb).mono ?_
    rintro e w1 ⟨v, rfl, ⟨a, g, c, mm, fv, ov, l, rows, kind, na, nb, rfl, hsn, hsm, hwy, h1, h2, h3, hk, hna, hnb⟩, hb1⟩
    obtain ⟨fa, fb, fc, ra, rb, rc, rfl, rfl, hf1, ho1⟩ := hwy.ss
    have h2' : Hid (rows.length = 3) := h2
    have hl3 : mm.length ≤ 1048576 := by have := hsm.three; omega
    have hls : ∀ t ∈ mm, t.length ≤ 1048576 := fun t ht => by have := hsm.steps t ht; omega
    have hl1 : l.length ≤ 1048576 := by omega
    have hl2 : rows.length ≤ 1048576 := by omega
    have hrs : ∀ r ∈ rows, r.length ≤ 1048576 := fun r hr => by have := h3 r hr; omega
    clear had hc h2 hwy
    have bx0 := BxW.new (c := c) (fc := fc) (rc := rc) hb1 hsn.ss hf1 ho1
    have CI := fun (W : World) (k p q : Int) (hb : BxW w W w1.heap.size (w1.heap.size + 1) a g c mm fa fb fc l ra rb rc rows) => iorderHas_any a g 0 c mm fa fb 0 fc l ra rb 0 rc rows k p q W hl3 hls hl1 hl2 hrs hb.ss hb.f hb.o
    have CS := fun (W : World) (k p q : Int) (hb : BxW w W w1.heap.size (w1.heap.size + 1) a g c mm fa fb fc l ra rb rc rows) => sorderHas_any a g 0 c mm fa fb 0 fc l ra rb 0 rc rows k p q W hl3 hls hl1 hrs hb.ss hb.f hb.o
    have hself := M.has_self mm l rows kind na
    go_wp2_with fail
    generalize (w1.alloc (.cells #[.slice a mm.length c] 25)).alloc (.cells #[.slice fa l.length fc, .slice ra rows.length rc] 29) = W0 at *
    obtain ⟨X, hXe⟩ : ∃ X, w1.heap.size + 1 = X := ⟨_, rfl⟩
    rw [hXe] at bx0 ⊢
    rw [hXe] at CI CS
    generalize w1.heap.size = P at *
    clear hsn hb1 hf1 ho1
    cases hH : M.orderHas mm l rows kind na nb
    · have C1 := CI W0 kind na nb bx0
      rw [hH] at C1
      refine C1.mono ?_
      rintro e W1 ⟨rfl, b1⟩
      have bx1 := bx0.below b1
      have p1 := bx1.p.c
      have x10 := bx1.x.c0
      have x11 := bx1.x.c1
      have C2 := CS W1 kind na nb bx1
      rw [hH] at C2
      go_wp2_with fail
      refine C2.mono ?_
      rintro e W2 ⟨rfl, b2⟩
      have bx2 := bx1.below b2
      have p2 := bx2.p.c
      have x20 := bx2.x.c0
      have x21 := bx2.x.c1
      have C3 := CI W2 kind na na bx2
      rw [hself] at C3
      clear p1 x10 x11 C1 C2
      go_wp2_with fail
      refine C3.mono ?_
      rintro e W3 ⟨rfl, b3⟩
      have bx3 := bx2.below b3
      go_wp2_with fail
      go_ret
      exact ⟨rfl, bx3.bel⟩
    · have C1 := CI W0 kind na nb bx0
      rw [hH] at C1
      refine C1.mono ?_
      rintro e W1 ⟨rfl, b1⟩
      have bx1 := bx0.below b1
      have p1 := bx1.p.c
      have x10 := bx1.x.c0
      have x11 := bx1.x.c1
      have C2 := CS W1 kind na nb bx1
      rw [hH] at C2
      go_wp2_with fail
      refine C2.mono ?_
      rintro e W2 ⟨rfl, b2⟩
      have bx2 := bx1.below b2
      have p2 := bx2.p.c
      have x20 := bx2.x.c0
      have x21 := bx2.x.c1
      have C3 := CI W2 kind na na bx2
      rw [hself] at C3
      clear p1 x10 x11 C1 C2
      go_wp2_with fail
      refine C3.mono ?_
      rintro e W3 ⟨rfl, b3⟩
      have bx3 := bx2.below b3
      go_wp2_with fail
      go_ret
      exact ⟨rfl, bx3.bel⟩
  · have hLb' : (1048576 : Int) < L := by omega
    go_enter Try.func3, Try.ntmps3
    go_wp2_with fail
    go_ret
    exact ⟨rfl, Below.refl _ _⟩
end Go.Proofs.Ytdlnohfcbphfiaa
