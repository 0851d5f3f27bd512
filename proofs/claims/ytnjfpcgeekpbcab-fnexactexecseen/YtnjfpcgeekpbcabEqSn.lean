/- The law's own comparing of what was seen: laws.eqSeen, of the same. Of at most 1048576 numbers each. -/
import Derived.Test.YtnjfpcgeekpbcabIntConv
namespace Go.Proofs.Ytnjfpcgeekpbcab
open Go.RowKit

set_option maxHeartbeats 400000 in
theorem eqSeen_bel (s t : Sn) (w : World) (hl : s.Le 1048576) (h1 : t.l1 = s.l1) (h2 : t.l2 = s.l2) (hs : s.At w) (ht : t.At w) :
    Calls Try.prog 31 #[.agg #[.slice s.a1 s.l1.length s.c1, .slice s.a2 s.l2.length s.c2], .agg #[.slice t.a1 t.l1.length t.c1, .slice t.a2 t.l2.length t.c2]] w fun e w' => e = .returned (.bool true) ∧ Below w.heap.size w w' := by
  obtain ⟨a1, b1, o1, c1, l1, a2, b2, o2, c2, l2⟩ := s
  obtain ⟨d1, e1, f1, g1, m1, d2, e2, f2, g2, m2⟩ := t
  simp only at h1 h2
  subst h1; subst h2
  have hb2 := below2 w (.cells #[.slice a1 m1.length c1, .slice a2 m2.length c2] 59) (.cells #[.slice d1 m1.length g1, .slice d2 m2.length g2] 59)
  obtain ⟨as1, as2⟩ := hs.below hb2 (Nat.le_refl _)
  obtain ⟨at1, at2⟩ := ht.below hb2 (Nat.le_refl _)
  obtain ⟨hl1, hl2⟩ := hl
  simp only at as1 as2 at1 at2 hl1 hl2
  go_enter Try.func31, Try.ntmps31
  go_wp2_with fail
  refine (eqIntS_same a1 b1 o1 c1 d1 e1 f1 g1 m1 _ hl1 as1 at1).mono ?_
  rintro e w1 ⟨rfl, hg1⟩
  obtain ⟨hc1, hf1⟩ := bcell hg1.bel
  go_wp2_with fail
  refine (eqIntS_same a2 b2 o2 c2 d2 e2 f2 g2 m2 _ hl2 (as2.below hg1.bel (Nat.le_refl _)) (at2.below hg1.bel (Nat.le_refl _))).mono ?_
  rintro e w2 ⟨rfl, hg2⟩
  go_wp2_with fail
  go_ret
  have hb3 := hb2.trans (hg1.bel.mono hb2.size)
  exact ⟨rfl, hb3.trans (hg2.bel.mono hb3.size)⟩

end Go.Proofs.Ytnjfpcgeekpbcab
