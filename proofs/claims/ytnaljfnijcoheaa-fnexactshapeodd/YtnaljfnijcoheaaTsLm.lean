/- What both TurnSeen answer, as one said thing of what was seen, laid anew; and what stands through the law's calls. Of programs of at most 1048576 threads and steps of a thread, of as many numbers. -/
import Derived.Test.YtnaljfnijcoheaaTsTs
import Derived.Test.YtnaljfnijcoheaaTsSs
import Derived.Test.YtnaljfnijcoheaaTsMk
namespace Go.Proofs.Ytnaljfnijcoheaa
open Go.RowKit

theorem cb {W W' : World} {p : Addr} {v : Value} (hb : Below W.heap.size W W') (h : W.cell? p = some v) : W'.cell? p = some v := (hb.cell (p := p) (World.block_lt_of_cell? _ _ h)).trans h

/-- What is seen, laid anew: all its blocks are new ones, from B on. -/
structure NewT (B : Nat) (w : World) (s : Sn) : Prop where
  at_ : s.At w
  ge1 : B ≤ s.b1
  ge2 : B ≤ s.b2
  own : Own2 w s

theorem own_numsF {w : World} {base : Nat} {v : Value} {l : List Int} (h : w.ownsRow base 3 1 v l.length (nums l)) : ∃ a g c, v = .slice a l.length c ∧ IntS w a g 0 l ∧ base ≤ g ∧ (0 < l.length → v.ownBlock = some g ∧ ∀ j, w.frozen? ⟨g, j, none⟩ = false) := by
  rcases h.2 with ⟨hv, hn⟩ | ⟨g, cap, cur, hv, hg, hh, r⟩
  · have : l = [] := List.length_eq_zero_iff.1 hn
    subst this
    exact ⟨none, base, 0, hv, IntS.nil _ _ _ _, Nat.le_refl _, fun h => absurd h (Nat.lt_irrefl _)⟩
  · refine ⟨_, g, cap, hv, ⟨fun _ => rfl, fun i hi => ?_⟩, hg, fun _ => ⟨by rw [hv]; rfl, fun j => by simp [World.frozen?, hh]⟩⟩
    have hc := h.cells (g := g) (by rw [hv]; rfl) i (.int .i64 l[i]) (by simp [nums, hi])
    rwa [Go.WideShapes.add_plain] at hc

theorem TsAns.sn {w w' : World} {v1 v2 : Value} {r1 r2 : List Int} (h : TsAns w w' v1 v2 r1 r2) : ∃ s : Sn, v1 = .slice s.a1 s.l1.length s.c1 ∧ v2 = .slice s.a2 s.l2.length s.c2 ∧ (s.l1 = r1 ∧ s.l2 = r2) ∧ NewT w.heap.size w' s := by
  obtain ⟨a1, g1, c1, e1, i1, ge1, f1⟩ := own_numsF h.o1
  obtain ⟨a2, g2, c2, e2, i2, ge2, f2⟩ := own_numsF h.o2
  refine ⟨⟨a1, g1, 0, c1, r1, a2, g2, 0, c2, r2⟩, e1, e2, ⟨rfl, rfl⟩, ⟨i1, i2⟩, ge1, ge2, ⟨fun p1 p2 e => ?_, fun b hb j => ?_⟩⟩
  · have e' : g1 = g2 := e
    exact h.ap g1 (f1 p1).1 (by rw [e']; exact (f2 p2).1)
  · rcases hb with ⟨hl, e⟩ | ⟨hl, e⟩
    · have e' : b = g1 := e
      rw [e']; exact (f1 hl).2 j
    · have e' : b = g2 := e
      rw [e']; exact (f2 hl).2 j

theorem its_any (a : Option Addr) (b o c : Nat) (ll : List (List M.D)) (s : Sn) (y1 y2 B : Nat) (ga : Option Addr) (gb go gc : Nat) (gs : List Int) (ok : Bool) (r1 r2 : List Int) (w : World) (hl : ll.length ≤ 1048576) (_hpc : ll.length ≤ c) (hls : ∀ t ∈ ll, t.length ≤ 1048576) (hs : s.Le 1048576) (hgl : gs.length ≤ 1048576) (hok : (M.turnSeen ll s.l1 s.l2 gs).isSome = ok) (hr1 : ((M.turnSeen ll s.l1 s.l2 gs).getD ([], [])).1 = r1) (hr2 : ((M.turnSeen ll s.l1 s.l2 gs).getD ([], [])).2 = r2) (h : DoSS w a b o ll) (hy : NewSn w B y1 y2 s.l1 s.l2) (hG : IntS w ga gb go gs) :
    Calls Try.prog 11 #[.agg #[.slice a ll.length c], .agg #[.slice (some ⟨y1, 0, none⟩) s.l1.length s.l1.length, .slice (some ⟨y2, 0, none⟩) s.l2.length s.l2.length], .slice ga gs.length gc] w fun e w' => ∃ t : Sn, e = .returned (.tuple #[.agg #[.slice t.a1 t.l1.length t.c1, .slice t.a2 t.l2.length t.c2], .bool ok]) ∧ Hid (t.l1 = r1 ∧ t.l2 = r2) ∧ NewT w.heap.size w' t ∧ Below w.heap.size w w' := by
  subst hok
  subst hr1
  subst hr2
  refine (iturnSeen_any a b o c ll hl hls (newSn y1 y2 s.l1 s.l2) ⟨hs.1, hs.2⟩ (Nat.le_refl _) ga gb go gc gs hgl w h hy.at hG).mono fun e w' ⟨v1, v2, he, hA⟩ => ?_
  obtain ⟨t, rfl, rfl, ht, hn⟩ := hA.sn
  exact ⟨t, he, ht, hn, hA.bel⟩

theorem sts_any (a : Option Addr) (b o c : Nat) (ll : List (List M.D)) (s : Sn) (y1 y2 B : Nat) (ga : Option Addr) (gb go gc : Nat) (gs : List Int) (ok : Bool) (r1 r2 : List Int) (w : World) (hl : ll.length ≤ 1048576) (hpc : ll.length ≤ c) (hls : ∀ t ∈ ll, t.length ≤ 1048576) (hs : s.Le 1048576) (hgl : gs.length ≤ 1048576) (hok : (M.turnSeen ll s.l1 s.l2 gs).isSome = ok) (hr1 : ((M.turnSeen ll s.l1 s.l2 gs).getD ([], [])).1 = r1) (hr2 : ((M.turnSeen ll s.l1 s.l2 gs).getD ([], [])).2 = r2) (h : DoSS w a b o ll) (hy : NewSn w B y1 y2 s.l1 s.l2) (hG : IntS w ga gb go gs) :
    Calls Try.prog 10 #[.agg #[.slice a ll.length c], .agg #[.slice (some ⟨y1, 0, none⟩) s.l1.length s.l1.length, .slice (some ⟨y2, 0, none⟩) s.l2.length s.l2.length], .slice ga gs.length gc] w fun e w' => ∃ t : Sn, e = .returned (.tuple #[.agg #[.slice t.a1 t.l1.length t.c1, .slice t.a2 t.l2.length t.c2], .bool ok]) ∧ Hid (t.l1 = r1 ∧ t.l2 = r2) ∧ NewT w.heap.size w' t ∧ Below w.heap.size w w' := by
  subst hok
  subst hr1
  subst hr2
  refine (sturnSeen_any a b o c ll hl hpc hls (newSn y1 y2 s.l1 s.l2) ⟨hs.1, hs.2⟩ (Nat.le_refl _) ga gb go gc gs hgl w h hy.at hG).mono fun e w' ⟨v1, v2, he, hA⟩ => ?_
  obtain ⟨t, rfl, rfl, ht, hn⟩ := hA.sn
  exact ⟨t, he, ht, hn, hA.bel⟩

theorem M.turnSeen_small {ll : List (List M.D)} {l1 l2 gs : List Int} {r1 r2 : List Int} (h1 : ((M.turnSeen ll l1 l2 gs).getD ([], [])).1 = r1) (h2 : ((M.turnSeen ll l1 l2 gs).getD ([], [])).2 = r2) : r1.length ≤ 1048576 ∧ r2.length ≤ 1048576 := by
  cases hp : M.seenOk ll l1 l2
  · rw [M.turnSeen_bad hp] at h1 h2
    subst h1; subst h2; simp
  · cases hr : M.rowN gs ll.length
    · rw [M.turnSeen_row hr] at h1 h2
      subst h1; subst h2; simp
    · rw [M.turnSeen_yes hp hr] at h1 h2
      obtain ⟨hpg, hl1, hl2⟩ := M.seenOk_len hp
      obtain ⟨h3, h7⟩ := M.prog_le hpg
      have e1 : (M.pick [] gs (M.parts ll l1)).flatten = r1 := h1
      have e2 : l2 = r2 := h2
      subst e1; subst e2
      refine ⟨?_, by omega⟩
      rw [M.lens_flat]
      have k1 := M.lens_pick gs l1.length (M.parts ll l1) (M.parts_small ll l1)
      have k2 := M.rowN_len hr
      have k3 := (M.prog_uses hpg).1
      have k4 := M.tot_mono (f := M.reads) (g := M.uses) (fun k hk => by simp [M.uses, hk]) ll
      have k5 : l1.length * gs.length ≤ 6 * 3 := Nat.mul_le_mul (by omega) (by omega)
      omega

/-- What stands through the law's calls: the boxes of its arguments, and the arguments. -/
structure St3 (w W : World) (a : Option Addr) (b o c : Nat) (ll : List (List M.D)) (t : Sn) (ga : Option Addr) (gb go : Nat) (gs : List Int) : Prop where
  bel : Below w.heap.size w W
  p0 : W.cell? ⟨w.heap.size, 0, none⟩ = some (.slice a ll.length c)
  q0 : W.cell? ⟨w.heap.size + 1, 0, none⟩ = some (.slice t.a1 t.l1.length t.c1)
  q1 : W.cell? ⟨w.heap.size + 1, 1, none⟩ = some (.slice t.a2 t.l2.length t.c2)
  sa : DoSS W a b o ll
  ta : t.At W
  gi : IntS W ga gb go gs
theorem St3.lt {w W : World} {a : Option Addr} {b o c : Nat} {ll : List (List M.D)} {t : Sn} {ga : Option Addr} {gb go : Nat} {gs : List Int} (h : St3 w W a b o c ll t ga gb go gs) : w.heap.size + 1 < W.heap.size := World.block_lt_of_cell? _ _ h.q0
theorem St3.below {w W W' : World} {a : Option Addr} {b o c : Nat} {ll : List (List M.D)} {t : Sn} {ga : Option Addr} {gb go : Nat} {gs : List Int} (h : St3 w W a b o c ll t ga gb go gs) (hb : Below W.heap.size W W') : St3 w W' a b o c ll t ga gb go gs :=
  ⟨h.bel.trans (hb.mono h.bel.size), cb hb h.p0, cb hb h.q0, cb hb h.q1, h.sa.below hb (Nat.le_refl _), h.ta.below hb (Nat.le_refl _), h.gi.below hb (Nat.le_refl _)⟩
/-- A variable of what was seen. -/
structure BxT (W : World) (X : Nat) (s : Sn) : Prop where
  c0 : W.cell? ⟨X, 0, none⟩ = some (.slice s.a1 s.l1.length s.c1)
  c1 : W.cell? ⟨X, 1, none⟩ = some (.slice s.a2 s.l2.length s.c2)
  at_ : s.At W
theorem BxT.lt {W : World} {X : Nat} {s : Sn} (h : BxT W X s) : X < W.heap.size := World.block_lt_of_cell? _ _ h.c0
theorem BxT.below {W W' : World} {X : Nat} {s : Sn} (h : BxT W X s) (hb : Below W.heap.size W W') : BxT W' X s := ⟨cb hb h.c0, cb hb h.c1, h.at_.below hb (Nat.le_refl _)⟩
theorem BxT.new {W : World} {s : Sn} (h : s.At W) : BxT (W.alloc (.cells #[.slice s.a1 s.l1.length s.c1, .slice s.a2 s.l2.length s.c2] 28)) W.heap.size s := ⟨by simp, by simp, h.below (below1 _ _) (Nat.le_refl _)⟩

end Go.Proofs.Ytnaljfnijcoheaa
