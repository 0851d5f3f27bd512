/- impl.copySeen, impl.inOrderOnce and impl.SeenSort. Of at most 1048576, each of at most 1048576 numbers. -/
import Derived.Test.YtkbjdhjcbhdpmabSoNl
import Derived.Deep.RegionHeld3
namespace Go.Proofs.Ytkbjdhjcbhdpmab
open Go.RowKit

/-- One that was seen, of new memory alone. -/
structure Fresh (B : Nat) (w : World) (s : Sn) : Prop where
  at_ : s.At w
  g1 : B ≤ s.b1
  g2 : B ≤ s.b2

set_option maxHeartbeats 1000000 in
set_option maxRecDepth 100000 in
theorem copySeen_any (s : Sn) (w : World) (hs : s.Le 1048576) (hsa : s.At w) :
    Calls Try.prog 21 #[.agg #[.slice s.a1 s.l1.length s.c1, .slice s.a2 s.l2.length s.c2]] w fun e w' => ∃ t : Sn, e = .returned (.agg #[.slice t.a1 t.l1.length t.c1, .slice t.a2 t.l2.length t.c2]) ∧ t.l1 = s.l1 ∧ t.l2 = s.l2 ∧ Fresh w.heap.size w' t ∧ Own2 w' t ∧ Below w.heap.size w w' := by
  go_enter Try.func21, Try.ntmps21
  go_wp2_with fail
  have hb2 := below2 w (.cells #[.slice s.a1 s.l1.length s.c1, .slice s.a2 s.l2.length s.c2] 35) (.cells #[.slice none 0 0, .slice none 0 0] 35)
  have k0 : ((w.alloc (.cells #[.slice s.a1 s.l1.length s.c1, .slice s.a2 s.l2.length s.c2] 35)).alloc (.cells #[.slice none 0 0, .slice none 0 0] 35)).cell? ⟨w.heap.size, 0, none⟩ = some (.slice s.a1 s.l1.length s.c1) := by simp
  have k1 : ((w.alloc (.cells #[.slice s.a1 s.l1.length s.c1, .slice s.a2 s.l2.length s.c2] 35)).alloc (.cells #[.slice none 0 0, .slice none 0 0] 35)).cell? ⟨w.heap.size, 1, none⟩ = some (.slice s.a2 s.l2.length s.c2) := by simp
  have hR : Slot2 ((w.alloc (.cells #[.slice s.a1 s.l1.length s.c1, .slice s.a2 s.l2.length s.c2] 35)).alloc (.cells #[.slice none 0 0, .slice none 0 0] 35)) (w.heap.size + 1) (.slice none 0 0) (.slice none 0 0) := ⟨alloc_new _ _ _ (by simp only [World.size_alloc])⟩
  have hsz : ((w.alloc (.cells #[.slice s.a1 s.l1.length s.c1, .slice s.a2 s.l2.length s.c2] 35)).alloc (.cells #[.slice none 0 0, .slice none 0 0] 35)).heap.size = w.heap.size + 1 + 1 := by simp only [World.size_alloc]
  generalize (w.alloc (.cells #[.slice s.a1 s.l1.length s.c1, .slice s.a2 s.l2.length s.c2] 35)).alloc (.cells #[.slice none 0 0, .slice none 0 0] 35) = W at *
  have hsW := (hsa.below hb2 (Nat.le_refl _)).below (Below.refl W.heap.size W).drew (Nat.le_refl _)
  have lt0 : w.heap.size < W.heap.size := by omega
  have lt1 : w.heap.size + 1 < W.heap.size := by omega
  have hbd : Below W.heap.size W W.drew := (Below.refl W.heap.size W).drew
  have C1 := newListI_any s.a1 s.b1 s.o1 s.c1 s.l1 W.drew hs.reads hsW.reads
  go_region_held3 (fun w' => w'.cell? ⟨w.heap.size, 0, none⟩ = some (.slice s.a1 s.l1.length s.c1) ∧ w'.cell? ⟨w.heap.size, 1, none⟩ = some (.slice s.a2 s.l2.length s.c2)) (go_keep) (first
    | (go_at_call_of 36 (Value.slice s.a1 s.l1.length s.c1); refine C1.mono ?_; rintro e w1 ⟨x1, y1, z1, rfl, n1, ge1, cp1, fr1, b1⟩; have B1 := hbd.trans b1; have Y0 := (B1.cell (p := ⟨w.heap.size, 0, none⟩) lt0).trans k0; have Y1 := (B1.cell (p := ⟨w.heap.size, 1, none⟩) lt0).trans k1)
    | (go_at_call_of 36 (Value.slice s.a2 s.l2.length s.c2); refine (newListI_any s.a2 s.b2 s.o2 s.c2 s.l2 _ hs.last (hsW.below b1 (Nat.le_refl _)).last).mono ?_; rintro e w2 ⟨x2, y2, z2, rfl, n2, ge2, cp2, fr2, b2⟩; have B2 := B1.trans (b2.mono B1.size); have Z0 := (B2.cell (p := ⟨w.heap.size, 0, none⟩) lt0).trans k0; have Z1 := (B2.cell (p := ⟨w.heap.size, 1, none⟩) lt0).trans k1; have hR2 := hR.of (B2.block (w.heap.size + 1) lt1); have R0 := hR2.c0; have R1 := hR2.c1; have Rf := hR2.fz))
  have g1 : w.heap.size + 1 + 1 ≤ y1 := by rw [← hsz]; exact ge1
  have g2 : w.heap.size + 1 + 1 ≤ y2 := Nat.le_trans (by rw [← hsz]; exact B1.size) ge2
  have hR3 := (hR2.set0 (.slice x1 s.l1.length z1)).set1 (.slice x2 s.l2.length z2)
  have hF1 : IntS ((w2.setCell ⟨w.heap.size + 1, 0, none⟩ (.slice x1 s.l1.length z1)).setCell ⟨w.heap.size + 1, 1, none⟩ (.slice x2 s.l2.length z2)) x1 y1 0 s.l1 := ((n1.below b2 (Nat.le_refl _)).far (fun _ => by omega)).far (fun _ => by omega)
  have hF2 : IntS ((w2.setCell ⟨w.heap.size + 1, 0, none⟩ (.slice x1 s.l1.length z1)).setCell ⟨w.heap.size + 1, 1, none⟩ (.slice x2 s.l2.length z2)) x2 y2 0 s.l2 := (n2.far (fun _ => by omega)).far (fun _ => by omega)
  have hbF : Below w.heap.size w ((w2.setCell ⟨w.heap.size + 1, 0, none⟩ (.slice x1 s.l1.length z1)).setCell ⟨w.heap.size + 1, 1, none⟩ (.slice x2 s.l2.length z2)) := ((hb2.trans (B2.mono (by omega))).setCell (by show w.heap.size ≤ w.heap.size + 1; omega) _).setCell (by show w.heap.size ≤ w.heap.size + 1; omega) _
  have hO : Own2 ((w2.setCell ⟨w.heap.size + 1, 0, none⟩ (.slice x1 s.l1.length z1)).setCell ⟨w.heap.size + 1, 1, none⟩ (.slice x2 s.l2.length z2)) ⟨x1, y1, 0, z1, s.l1, x2, y2, 0, z2, s.l2⟩ := by
    refine Own2.far (Own2.far ⟨fun h1 _ => ?_, fun b hk j => ?_⟩)
    · have := n1.lt h1
      show y1 ≠ y2
      omega
    · rcases hk with ⟨h0, rfl⟩ | ⟨h0, rfl⟩
      · exact (b2.frozen (p := ⟨_, j, none⟩) (n1.lt h0)).trans (fr1 h0 j)
      · exact fr2 h0 j
  have q0 := hR3.c0
  have q1 := hR3.c1
  clear Z0 Z1 Y0 Y1 R0 R1 Rf C1 k0 k1 hR hR2
  generalize (w2.setCell ⟨w.heap.size + 1, 0, none⟩ (.slice x1 s.l1.length z1)).setCell ⟨w.heap.size + 1, 1, none⟩ (.slice x2 s.l2.length z2) = F at *
  go_wp2_with fail
  refine bodyPost_ret (v := .agg #[.slice x1 s.l1.length z1, .slice x2 s.l2.length z2]) (by simp [results, Try.results21, go_sem, q0, q1]) rfl ⟨⟨x1, y1, 0, z1, s.l1, x2, y2, 0, z2, s.l2⟩, rfl, rfl, rfl, ⟨⟨hF1, hF2⟩, by show w.heap.size ≤ y1; omega, by show w.heap.size ≤ y2; omega⟩, hO, hbF⟩

def flatS : List Sn → List Value
  | [] => []
  | s :: l => .slice s.a1 s.l1.length s.c1 :: .slice s.a2 s.l2.length s.c2 :: flatS l
theorem flatS_append (l m : List Sn) : flatS (l ++ m) = flatS l ++ flatS m := by
  induction l with
  | nil => rfl
  | cons s l ih => simp [flatS, ih]

theorem flatS_length (l : List Sn) : (flatS l).length = l.length * 2 := by
  induction l with
  | nil => rfl
  | cons s l ih => simp [flatS, ih]; omega
theorem flatS_get (l : List Sn) : ∀ i (h : i < l.length), (flatS l)[i * 2]? = some (.slice l[i].a1 l[i].l1.length l[i].c1) ∧ (flatS l)[i * 2 + 1]? = some (.slice l[i].a2 l[i].l2.length l[i].c2) := by
  induction l with
  | nil => intro i h; exact absurd h (Nat.not_lt_zero _)
  | cons s l ih =>
    intro i h
    cases i with
    | zero => exact ⟨rfl, rfl⟩
    | succ i =>
      obtain ⟨h0, h1⟩ := ih i (by simpa using h)
      have e : (i + 1) * 2 = i * 2 + 2 := by omega
      rw [e]
      exact ⟨by simpa [flatS] using h0, by simpa [flatS] using h1⟩
theorem flatS_one (l : List Sn) : ∀ y ∈ flatS l, y.oneCell' = true := by
  induction l with
  | nil => intro y hy; cases hy
  | cons s l ih =>
    intro y hy
    simp only [flatS, List.mem_cons] at hy
    rcases hy with rfl | rfl | hy
    · rfl
    · rfl
    · exact ih y hy

set_option maxHeartbeats 1000000 in
/-- A list of what was seen, copied into a row of its own; none, if it has none. -/
theorem newListS_any (b o c : Nat) (ss : List Sn) (w : World) (hl : ss.length ≤ 1048576) (hpos : 0 < ss.length) (hc : ∀ i (hi : i < ss.length), w.cell? ⟨b, o + i * 2, none⟩ = some (.slice ss[i].a1 ss[i].l1.length ss[i].c1) ∧ w.cell? ⟨b, o + i * 2 + 1, none⟩ = some (.slice ss[i].a2 ss[i].l2.length ss[i].c2)) :
    Calls Try.prog 30 #[.slice (some ⟨b, o, none⟩) ss.length c] w fun e w' => ∃ g cap, e = .returned (.slice (some ⟨g, 0, none⟩) ss.length cap) ∧ SR w' g ss ∧ w.heap.size ≤ g ∧ ss.length ≤ cap ∧ Below w.heap.size w w' := by
  obtain ⟨i0, hi, hz0, hz1, hz2⟩ := info_parts Try.infoSeen
  go_enter Try.func30, Try.ntmps30
  go_wp2_with (at_builtin; refine wpList_append_lies _ rfl (.const (.slice none 0 0)) (.tmp 3) 24 rfl w.heap.size 35 i0 _ 2 48 Try.underlying24 hi hz0 hz1 hz2 rfl (by decide) _ 0 [] rfl (World.ownsRow_nil _ _ _ _) ⟨b, o, none⟩ ss.length c (flatS ss) rfl (flatS_length ss) ?c1 (flatS_one ss) hpos (by unfold maxLen; omega) (by omega) (Nat.le_refl _) w.heap.size rfl ?_)
  case c1 =>
    intro j u hj
    have hjl : j < ss.length * 2 := by
      have := (List.getElem?_eq_some_iff.1 hj).1
      rwa [flatS_length] at this
    obtain ⟨q, hq⟩ : ∃ q, j = q * 2 ∨ j = q * 2 + 1 := ⟨j / 2, by omega⟩
    rcases hq with rfl | rfl
    · obtain ⟨c1, _⟩ := hc q (by omega)
      obtain ⟨f1, _⟩ := flatS_get ss q (by omega)
      rw [Go.WideShapes.add_plain, c1, ← hj, f1]
    · obtain ⟨_, c2⟩ := hc q (by omega)
      obtain ⟨_, f2⟩ := flatS_get ss q (by omega)
      rw [Go.WideShapes.add_plain, ← Nat.add_assoc, c2, ← hj, f2]
  intro g cap w1 hown hg hat hlt
  have hb : Below w.heap.size w w1 := ⟨hg.os, hg.tape, hg.output, hg.size, fun k hk => hg.block k hk (fun e => by simp [Value.ownBlock] at e)⟩
  have hown' : w1.ownsRow w.heap.size 35 2 (.slice (some ⟨g, 0, none⟩) ss.length cap) ss.length (flatS ss) := by simpa using hown
  have hSR : SR w1 g ss := ⟨fun i hi => by
    obtain ⟨f1, f2⟩ := flatS_get ss i hi
    have e1 := hown'.cells (g := g) rfl _ _ f1
    have e2 := hown'.cells (g := g) rfl _ _ f2
    rw [Go.WideShapes.add_plain, Nat.zero_add] at e1 e2
    exact ⟨e1, e2⟩, fun j => own_fzS hown' j⟩
  have hge := own_ge hown' g rfl
  have hcap := own_capP hown'
  go_wp2_with fail
  go_ret
  exact ⟨g, cap, by first | rfl | simp, hSR, hge, hcap, hb⟩

end Go.Proofs.Ytkbjdhjcbhdpmab
