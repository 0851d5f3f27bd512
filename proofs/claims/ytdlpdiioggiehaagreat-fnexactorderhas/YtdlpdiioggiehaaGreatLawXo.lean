/- The law FnExactExecOk, walked: it answers true, and leaves all as it was. Of programs and ways of at most 9223372036854775807 parts each: more than a machine holds. -/
import Derived.Test.YtdlpdiioggiehaaGreatXoTo
import Derived.Test.YtdlpdiioggiehaaGreatOkWay
import Derived.Test.YtdlpdiioggiehaaGreatOsOk
import Derived.Test.YtdlpdiioggiehaaGreatSize
import Derived.Test.YtdlpdiioggiehaaGreatEq
import Derived.Deep.RegionHeld3
namespace Go.Proofs.YtdlpdiioggiehaaGreat
open Go.RowKit

/-- A way, and where it lies. -/
structure Xo where
  fa : Option Addr
  fb : Nat
  fo : Nat
  fc : Nat
  l : List Int
  ra : Option Addr
  rb : Nat
  ro : Nat
  rc : Nat
  rows : List (List Int)
structure Xo.Le (t : Xo) (n : Nat) : Prop where
  l : t.l.length ≤ n
  rows : t.rows.length ≤ n
  each : ∀ r ∈ t.rows, r.length ≤ n
structure Xo.At (t : Xo) (w : World) : Prop where
  f : IntS w t.fa t.fb t.fo t.l
  r : IntSS w t.ra t.rb t.ro t.rows
theorem Xo.At.below {t : Xo} {w w' : World} {B : Nat} (h : t.At w) (hb : Below B w w') (hB : w.heap.size ≤ B) : t.At w' := ⟨h.f.below hb hB, h.r.below hb hB⟩
/-- A way, laid anew. -/
structure NewXo (w : World) (g1 g2 : Nat) (t : Xo) : Prop where
  f : IntS w (some ⟨g1, 0, none⟩) g1 0 t.l
  r : IntSS w (some ⟨g2, 0, none⟩) g2 0 t.rows
theorem NewXo.below {t : Xo} {g1 g2 : Nat} {w w' : World} {B : Nat} (h : NewXo w g1 g2 t) (hb : Below B w w') (hB : w.heap.size ≤ B) : NewXo w' g1 g2 t := ⟨h.f.below hb hB, h.r.below hb hB⟩
theorem szXo_any (t : Xo) (left : Int) (w : World) (h0 : 0 ≤ left) (h1 : left ≤ 1048576) (hl : t.Le 9223372036854775807) (h : t.At w) :
    Calls Tryz.prog 5 #[.agg #[.slice t.fa t.l.length t.fc, .slice t.ra t.rows.length t.rc], .int .i64 left] w fun e w' => ∃ r : Int, e = .returned (.int .i64 r) ∧ w' = w.alloc (.cells #[.slice t.fa t.l.length t.fc, .slice t.ra t.rows.length t.rc] 28) ∧ r ≤ 1048576 ∧ (r < 0 ∨ (0 ≤ r ∧ t.Le 1048576)) :=
  (szExec_any t.fa t.fc t.l t.ra t.rb t.ro t.rc t.rows left w h0 h1 hl.l hl.rows hl.each h.r).mono fun _ _ ⟨r, he, hw, hr, ho⟩ => ⟨r, he, hw, hr, ho.imp id fun ⟨a, b, c, d⟩ => ⟨a, b, c, d⟩⟩
theorem toXo_any (t : Xo) (w : World) (hl : t.Le 1048576) (h : t.At w) :
    Calls Tryz.prog 8 #[.agg #[.slice t.fa t.l.length t.fc, .slice t.ra t.rows.length t.rc]] w fun e w' => ∃ g1 g2, e = .returned (.agg #[.slice (some ⟨g1, 0, none⟩) t.l.length t.l.length, .slice (some ⟨g2, 0, none⟩) t.rows.length t.rows.length]) ∧ NewXo w' g1 g2 t ∧ Below w.heap.size w w' :=
  (toExec_any t.fa t.fb t.fo t.fc t.l t.ra t.rb t.ro t.rc t.rows w hl.l hl.rows hl.each h.f h.r).mono fun _ _ ⟨g1, g2, he, hx, hb⟩ => ⟨g1, g2, he, ⟨hx.f, hx.r.old⟩, hb⟩
theorem eqXo_any (t : Xo) {w : World} {g1 g2 g3 g4 : Nat} (h : NewXo w g1 g2 t) (h' : NewXo w g3 g4 t) (hl : t.Le 1048576) :
    Calls Tryz.prog 11 #[.agg #[.slice (some ⟨g1, 0, none⟩) t.l.length t.l.length, .slice (some ⟨g2, 0, none⟩) t.rows.length t.rows.length], .agg #[.slice (some ⟨g3, 0, none⟩) t.l.length t.l.length, .slice (some ⟨g4, 0, none⟩) t.rows.length t.rows.length]] w fun e w' => e = .returned (.bool true) ∧ Below w.heap.size w w' :=
  eqExec_same _ g1 0 _ _ g2 0 _ _ g3 0 _ _ g4 0 _ t.l t.rows w hl.l hl.rows hl.each h.f h.r h'.f h'.r
theorem ixo_any (a : Option Addr) (b o c : Nat) (ll : List (List M.D)) (t : Xo) (g1 g2 : Nat) (w : World) (hl : ll.length ≤ 1048576) (hls : ∀ t ∈ ll, t.length ≤ 1048576) (ht : t.Le 1048576) (h : DoSS w a b o ll) (hx : NewXo w g1 g2 t) :
    Calls Tryz.prog 25 #[.agg #[.slice a ll.length c], .agg #[.slice (some ⟨g1, 0, none⟩) t.l.length t.l.length, .slice (some ⟨g2, 0, none⟩) t.rows.length t.rows.length]] w fun e w' => e = .returned (.bool (M.execOk ll t.l t.rows)) ∧ Below w.heap.size w w' :=
  iexecOk_any a b o c ll _ g1 0 _ t.l _ g2 0 _ t.rows w hl hls ht.l ht.rows ht.each h hx.f hx.r
theorem sxo_any (a : Option Addr) (b o c : Nat) (ll : List (List M.D)) (t : Xo) (g1 g2 : Nat) (w : World) (hl : ll.length ≤ 1048576) (hls : ∀ t ∈ ll, t.length ≤ 1048576) (ht : t.Le 1048576) (h : DoSS w a b o ll) (hx : NewXo w g1 g2 t) :
    Calls Tryz.prog 15 #[.agg #[.slice a ll.length c], .agg #[.slice (some ⟨g1, 0, none⟩) t.l.length t.l.length, .slice (some ⟨g2, 0, none⟩) t.rows.length t.rows.length]] w fun e w' => e = .returned (.bool (M.execOk ll t.l t.rows)) ∧ Below w.heap.size w w' :=
  sexecOk_any a b o c ll _ g1 0 _ t.l _ g2 0 _ t.rows w hl hls ht.l ht.each h hx.f hx.r

/-- What stands through the law's calls: the boxes of its two arguments, the arguments themselves. -/
structure StP (w W : World) (a : Option Addr) (b o c : Nat) (ll : List (List M.D)) (t : Xo) : Prop where
  bel : Below w.heap.size w W
  lt : w.heap.size + 1 < W.heap.size
  p0 : W.cell? ⟨w.heap.size, 0, none⟩ = some (.slice a ll.length c)
  q0 : W.cell? ⟨w.heap.size + 1, 0, none⟩ = some (.slice t.fa t.l.length t.fc)
  q1 : W.cell? ⟨w.heap.size + 1, 1, none⟩ = some (.slice t.ra t.rows.length t.rc)
  sa : DoSS W a b o ll
  ta : t.At W

theorem StP.below {w W W' : World} {a : Option Addr} {b o c : Nat} {ll : List (List M.D)} {t : Xo} (h : StP w W a b o c ll t) (hb : Below W.heap.size W W') : StP w W' a b o c ll t := by
  have hl := h.lt
  exact ⟨h.bel.trans (hb.mono h.bel.size), Nat.lt_of_lt_of_le hl hb.size, (hb.cell (p := ⟨w.heap.size, 0, none⟩) (by show w.heap.size < _; omega)).trans h.p0,
    (hb.cell (p := ⟨w.heap.size + 1, 0, none⟩) hl).trans h.q0, (hb.cell (p := ⟨w.heap.size + 1, 1, none⟩) hl).trans h.q1, h.sa.below hb (Nat.le_refl _), h.ta.below hb (Nat.le_refl _)⟩

end Go.Proofs.YtdlpdiioggiehaaGreat
