/- A program and a way in two boxes of a law. No condition. What must be ahead of what: nothing of itself; and what must by a looser order must by a stricter one. Plainly. No condition. -/
import Derived.Test.YtdlpdiioggiehaaBnYd
import Derived.Test.YtdlpdiioggiehaaBnYi

namespace Go.Proofs.Ytdlpdiioggiehaa
open Go.RowKit

structure BxW (w W : World) (P X : Nat) (a : Option Addr) (g c : Nat) (mm : List (List M.D)) (fa : Option Addr) (fb fc : Nat) (l : List Int) (ra : Option Addr) (rb rc : Nat) (rows : List (List Int)) : Prop where
  bel : Below w.heap.size w W
  p : Slot1 W P (.slice a mm.length c)
  x : BxX W X (.slice fa l.length fc) (.slice ra rows.length rc)
  ss : DoSS W a g 0 mm
  f : IntS W fa fb 0 l
  o : IntSS W ra rb 0 rows
theorem BxW.below {w W W' : World} {P X : Nat} {a : Option Addr} {g c : Nat} {mm : List (List M.D)} {fa : Option Addr} {fb fc : Nat} {l : List Int} {ra : Option Addr} {rb rc : Nat} {rows : List (List Int)} (h : BxW w W P X a g c mm fa fb fc l ra rb rc rows) (hb : Below W.heap.size W W') : BxW w W' P X a g c mm fa fb fc l ra rb rc rows :=
  ⟨h.bel.trans (hb.mono h.bel.size), h.p.ofB (hb.block P h.p.lt), h.x.of (hb.block X h.x.lt), h.ss.below hb (Nat.le_refl _), h.f.below hb (Nat.le_refl _), h.o.below hb (Nat.le_refl _)⟩
theorem BxW.new {w w1 : World} {a : Option Addr} {g c : Nat} {mm : List (List M.D)} {fa : Option Addr} {fb fc : Nat} {l : List Int} {ra : Option Addr} {rb rc : Nat} {rows : List (List Int)} (hb : Below w.heap.size w w1) (hs : DoSS w1 a g 0 mm) (hf : IntS w1 fa fb 0 l) (ho : IntSS w1 ra rb 0 rows) :
    BxW w ((w1.alloc (.cells #[.slice a mm.length c] 25)).alloc (.cells #[.slice fa l.length fc, .slice ra rows.length rc] 29)) w1.heap.size (w1.heap.size + 1) a g c mm fa fb fc l ra rb rc rows := by
  have h2 := below2 w1 (.cells #[.slice a mm.length c] 25) (.cells #[.slice fa l.length fc, .slice ra rows.length rc] 29)
  have hx := BxX.new (w1.alloc (.cells #[.slice a mm.length c] 25)) (.slice fa l.length fc) (.slice ra rows.length rc) 29
  rw [World.size_alloc] at hx
  exact ⟨hb.trans (h2.mono hb.size), (Slot1.new w1 _ _).ofB (alloc_old _ _ _ (by simp)), hx, hs.below h2 (Nat.le_refl _), hf.below h2 (Nat.le_refl _), ho.below h2 (Nat.le_refl _)⟩
end Go.Proofs.Ytdlpdiioggiehaa

namespace Go.Proofs.Ytdlpdiioggiehaa
namespace M

theorem must_told {ll : List (List D)} {l : List Int} {rows : List (List Int)} (h : execOk ll l rows = true) (k : Nat) {a b : Nat} (ha : a < (deeds ll).length) (hb : b < (deeds ll).length) : mustAt (deeds ll) l rows k a b = (stays (deeds ll) k a b (deeds ll)[a] (deeds ll)[b] || told l rows k a b (deeds ll)[a] (deeds ll)[b]) := by
  simp only [execOk, wayOk, Bool.and_eq_true] at h
  obtain ⟨hp, hf, _⟩ := h
  have hr : run false (deeds ll) = some false := by
    simp only [prog, Bool.and_eq_true, decide_eq_true_eq] at hp
    exact run_ok (from_thr ll 0 0 hp.2)
  rw [mustAt, List.getElem?_eq_getElem ha, List.getElem?_eq_getElem hb]
  exact (must_eq hf hr k ha hb).symm
theorem rw_no (k : Int) : (writes k && reads k) = false := by
  cases h : reads k
  · simp
  · simp only [reads, Bool.or_eq_true, beq_iff_eq] at h
    rcases h with rfl | rfl <;> decide
theorem keeps_no {ds : List De} {a b : Nat} {x y : De} (h : sKeeps ds a b x y = true) : (writes x.d.k && reads y.d.k) = false := by
  cases hw : writes x.d.k
  · rfl
  · cases hr : reads y.d.k
    · rfl
    · exfalso
      have e1 : x.d.k = 1 ∨ x.d.k = 6 ∨ x.d.k = 3 := by
        simp only [writes, stores, Bool.or_eq_true, beq_iff_eq] at hw
        omega
      have e2 : y.d.k = 2 ∨ y.d.k = 5 := by
        simpa only [reads, Bool.or_eq_true, beq_iff_eq] using hr
      simp only [sKeeps, isWall, inside, copyOf, Bool.or_eq_true, Bool.and_eq_true, beq_iff_eq] at h
      omega
theorem stays_self (ds : List De) (k a : Nat) (x : De) : stays ds k a a x x = false := by
  have : own a a x x = false := by simp [own]
  unfold stays
  split <;> simp [late, this]
theorem told_self (l : List Int) (rows : List (List Int)) (k a : Nat) (x : De) : told l rows k a a x x = false := by
  have h1 : sRead l a a x x = false := by
    unfold sRead
    rw [← Bool.and_assoc, rw_no, Bool.false_and]
  have h2 : sOver l rows a a x x = false := by simp [sOver]
  unfold told
  split <;> simp [h1, h2]
/-- No event must be ahead of itself by itself. -/
theorem has_self (ll : List (List D)) (l : List Int) (rows : List (List Int)) (kind a : Int) : orderHas ll l rows kind a a = false := by
  cases h : orderHas ll l rows kind a a
  · rfl
  · exfalso
    simp only [orderHas, Bool.and_eq_true, inR, decide_eq_true_eq] at h
    obtain ⟨_, he, ⟨a0, a1⟩, _, hm⟩ := h
    obtain ⟨n, rfl⟩ := Int.eq_ofNat_of_zero_le a0
    rw [Int.toNat_natCast, must_told he _ (show n < (deeds ll).length by omega) (show n < (deeds ll).length by omega), stays_self, told_self] at hm
    cases hm
theorem has_less {ll : List (List D)} {l : List Int} {rows : List (List Int)} {k k' : Nat} (h1 : 1 ≤ k') (h3 : k' ≤ 3) (hs : ∀ (a b : Nat) (x y : De), stays (deeds ll) k a b x y = true → stays (deeds ll) k' a b x y = true) (ht : ∀ (a b : Nat) (x y : De), told l rows k a b x y = true → told l rows k' a b x y = true) {a b : Int} (h : orderHas ll l rows k a b = true) : orderHas ll l rows k' a b = true := by
  simp only [orderHas, Bool.and_eq_true, inR, decide_eq_true_eq] at h ⊢
  obtain ⟨_, he, ⟨a0, a1⟩, ⟨b0, b1⟩, hm⟩ := h
  refine ⟨⟨by omega, by omega⟩, he, ⟨a0, a1⟩, ⟨b0, b1⟩, ?_⟩
  obtain ⟨n, rfl⟩ := Int.eq_ofNat_of_zero_le a0
  obtain ⟨m, rfl⟩ := Int.eq_ofNat_of_zero_le b0
  have hn : n < (deeds ll).length := by omega
  have hm' : m < (deeds ll).length := by omega
  rw [Int.toNat_natCast, Int.toNat_natCast, Int.toNat_natCast, must_told he _ hn hm', Bool.or_eq_true] at hm ⊢
  exact hm.imp (hs _ _ _ _) (ht _ _ _ _)
theorem has_late {ll : List (List D)} {l : List Int} {rows : List (List Int)} {a b : Int} (h : orderHas ll l rows 2 a b = true) : orderHas ll l rows 1 a b = true :=
  has_less (k := 2) (k' := 1) (by decide) (by decide) (fun a b x y h => by
    simp only [stays, late, Bool.and_eq_true] at h ⊢; exact h.1) (fun a b x y h => by
    simp only [told, Bool.or_eq_true, Bool.and_eq_true] at h ⊢; exact h.imp (·.2) id) h
theorem has_loose {ll : List (List D)} {l : List Int} {rows : List (List Int)} {a b : Int} (h : orderHas ll l rows 3 a b = true) : orderHas ll l rows 2 a b = true :=
  has_less (k := 3) (k' := 2) (by decide) (by decide) (fun a b x y h => by
    simp only [stays, late, Bool.and_eq_true] at h ⊢
    exact ⟨h.1, by rw [keeps_no h.2]; rfl⟩) (fun a b x y h => by
    simp only [told, Bool.or_eq_true, Bool.and_eq_true] at h ⊢
    rcases h with ⟨h1, h2 | h2⟩
    · exact .inl ⟨h1, h2⟩
    · exact .inr h2) h
/-- By the strict order a thread's events stay in order; by the late one all but reads behind writes. -/
theorem has_own {ll : List (List D)} {l : List Int} {rows : List (List Int)} (he : execOk ll l rows = true) {a b : Nat} (hab : a < b) (hb : b < (deeds ll).length) (ht : (deeds ll)[a].t = (deeds ll)[b].t) : orderHas ll l rows 1 a b = true ∧ ((writes (deeds ll)[a].d.k && reads (deeds ll)[b].d.k) = false → orderHas ll l rows 2 a b = true) := by
  have ha : a < (deeds ll).length := by omega
  have ho : own a b (deeds ll)[a] (deeds ll)[b] = true := by simp [own, hab, ht]
  simp only [orderHas, Bool.and_eq_true, inR, decide_eq_true_eq]
  refine ⟨⟨⟨by decide, by decide⟩, he, ⟨by omega, by omega⟩, ⟨by omega, by omega⟩, ?_⟩, fun hn => ⟨⟨by decide, by decide⟩, he, ⟨by omega, by omega⟩, ⟨by omega, by omega⟩, ?_⟩⟩
  · rw [Int.toNat_natCast, Int.toNat_natCast, must_told he _ ha hb]
    simp [stays, ho]
  · rw [Int.toNat_natCast, Int.toNat_natCast, must_told he _ ha hb]
    simp [stays, late, ho, hn]
end M
end Go.Proofs.Ytdlpdiioggiehaa
