/- The law FnExactTurnSeen, walked: it answers true, and leaves all as it was. Of programs, lists and rows of at most 9223372036854775807 parts each: more than a machine holds. -/
import Derived.Test.YtflmejjhnkpodaaBnTt
import Derived.Test.YtflmejjhnkpodaaMarkP
import Derived.Test.YtflmejjhnkpodaaIntConv
import Derived.Test.YtflmejjhnkpodaaSize
import Derived.Deep.RegionHeld3

namespace Go.Proofs.Ytflmejjhnkpodaa
open Go.RowKit

/-- The boxes of the law's arguments. -/
structure BxQ (w W : World) (a : Option Addr) (c : Nat) (ll : List (List M.D)) (t : Sn) : Prop where
  bel : Below w.heap.size w W
  p0 : W.cell? ⟨w.heap.size, 0, none⟩ = some (.slice a ll.length c)
  q0 : W.cell? ⟨w.heap.size + 1, 0, none⟩ = some (.slice t.a1 t.l1.length t.c1)
  q1 : W.cell? ⟨w.heap.size + 1, 1, none⟩ = some (.slice t.a2 t.l2.length t.c2)
theorem BxQ.lt {w W : World} {a : Option Addr} {c : Nat} {ll : List (List M.D)} {t : Sn} (h : BxQ w W a c ll t) : w.heap.size + 1 < W.heap.size := World.block_lt_of_cell? _ _ h.q0
theorem BxQ.below {w W W' : World} {a : Option Addr} {c : Nat} {ll : List (List M.D)} {t : Sn} (h : BxQ w W a c ll t) (hb : Below W.heap.size W W') : BxQ w W' a c ll t :=
  ⟨h.bel.trans (hb.mono h.bel.size), cb hb h.p0, cb hb h.q0, cb hb h.q1⟩
theorem BxQ.mk_ {P : Nat → Prop} {w W W' : World} {a : Option Addr} {c : Nat} {ll : List (List M.D)} {t : Sn} (h : BxQ w W a c ll t) (hm : Mk P W W') (hP : ∀ j, P j → w.heap.size ≤ j) : BxQ w W' a c ll t :=
  ⟨hm.below h.bel hP, hm.rest _ _ h.p0 (fun _ e => by cases e), hm.rest _ _ h.q0 (fun _ e => by cases e), hm.rest _ _ h.q1 (fun _ e => by cases e)⟩
theorem Sn.At.mkFar {P : Nat → Prop} {w w' : World} {s : Sn} (h : s.At w) (hm : Mk P w w') (hP : ∀ j, P j → ¬ s.blk j) : s.At w' :=
  ⟨h.reads.mkFar hm (fun hl hp => hP _ hp (Or.inl ⟨hl, rfl⟩)), h.last.mkFar hm (fun hl hp => hP _ hp (Or.inr ⟨hl, rfl⟩))⟩
theorem BxT.mk_ {P : Nat → Prop} {W W' : World} {X : Nat} {s : Sn} (h : BxT W X s) (hm : Mk P W W') (hP : ∀ j, P j → ¬ s.blk j) : BxT W' X s := ⟨hm.rest _ _ h.c0 (fun _ e => by cases e), hm.rest _ _ h.c1 (fun _ e => by cases e), h.at_.mkFar hm hP⟩
structure F3 (w W : World) (a : Option Addr) (c : Nat) (ll : List (List M.D)) (t : Sn) (X : Nat) (s : Sn) : Prop where
  bx : BxQ w W a c ll t
  xs : BxT W X s
theorem F3.last {w v3 : World} {a : Option Addr} {c : Nat} {ll : List (List M.D)} {t s : Sn} (h : BxQ w v3 a c ll t) (hat : s.At v3) : F3 w (v3.alloc (.cells #[.slice s.a1 s.l1.length s.c1, .slice s.a2 s.l2.length s.c2] 28)) a c ll t v3.heap.size s :=
  ⟨h.below (below1 _ _), BxT.new hat⟩
theorem F3.first {w v3 : World} {a : Option Addr} {c : Nat} {ll : List (List M.D)} {t s : Sn} {X : Nat} {u1 u2 : Value} (h : BxQ w v3 a c ll t) (hat : s.At v3) (hV : Slot2 v3 X u1 u2) (hX : w.heap.size + 1 < X) (h1 : X < s.b1) (h2 : X < s.b2) : F3 w ((v3.setCell ⟨X, 0, none⟩ (.slice s.a1 s.l1.length s.c1)).setCell ⟨X, 1, none⟩ (.slice s.a2 s.l2.length s.c2)) a c ll t X s := by
  have V2 := (hV.set0 (.slice s.a1 s.l1.length s.c1)).set1 (.slice s.a2 s.l2.length s.c2)
  refine ⟨⟨(h.bel.setCell (by show w.heap.size ≤ X; omega) _).setCell (by show w.heap.size ≤ X; omega) _, ?_, ?_, ?_⟩, ⟨V2.c0, V2.c1, (hat.far (fun _ => by omega) (fun _ => by omega)).far (fun _ => by omega) (fun _ => by omega)⟩⟩
  · rw [World.cell?_setCell_other _ _ _ _ (fun e => by have := congrArg Addr.block e; simp at this; omega), World.cell?_setCell_other _ _ _ _ (fun e => by have := congrArg Addr.block e; simp at this; omega)]; exact h.p0
  · rw [World.cell?_setCell_other _ _ _ _ (fun e => by have := congrArg Addr.block e; simp at this; omega), World.cell?_setCell_other _ _ _ _ (fun e => by have := congrArg Addr.block e; simp at this; omega)]; exact h.q0
  · rw [World.cell?_setCell_other _ _ _ _ (fun e => by have := congrArg Addr.block e; simp at this; omega), World.cell?_setCell_other _ _ _ _ (fun e => by have := congrArg Addr.block e; simp at this; omega)]; exact h.q1
structure F4 (W Wf : World) (X : Nat) (s : Sn) : Prop where
  bel : Below W.heap.size W Wf
  xs : BxT Wf X s
theorem F4.last {W v3 : World} {s : Sn} (h : Below W.heap.size W v3) (hat : s.At v3) : F4 W (v3.alloc (.cells #[.slice s.a1 s.l1.length s.c1, .slice s.a2 s.l2.length s.c2] 28)) v3.heap.size s :=
  ⟨h.alloc h.size _, BxT.new hat⟩
theorem F4.first {W v3 : World} {s : Sn} {X : Nat} {u1 u2 : Value} (h : Below W.heap.size W v3) (hat : s.At v3) (hV : Slot2 v3 X u1 u2) (hX : W.heap.size ≤ X) (h1 : X < s.b1) (h2 : X < s.b2) : F4 W ((v3.setCell ⟨X, 0, none⟩ (.slice s.a1 s.l1.length s.c1)).setCell ⟨X, 1, none⟩ (.slice s.a2 s.l2.length s.c2)) X s := by
  have V2 := (hV.set0 (.slice s.a1 s.l1.length s.c1)).set1 (.slice s.a2 s.l2.length s.c2)
  exact ⟨(h.setCell hX _).setCell hX _, ⟨V2.c0, V2.c1, (hat.far (fun _ => by omega) (fun _ => by omega)).far (fun _ => by omega) (fun _ => by omega)⟩⟩
/-- All that stands ahead of the marking. -/
structure Al3 (w W : World) (a : Option Addr) (c : Nat) (ll : List (List M.D)) (t : Sn) (X P Q R x1 y1 y2 I B1 N1 B2 : Nat) (gs : List Int) (s0 s1 : Sn) : Prop where
  bx : BxQ w W a c ll t
  xs : BxT W X s0
  ps : W.cell? ⟨P, 0, none⟩ = some (.slice (some ⟨x1, 0, none⟩) ll.length ll.length)
  q0 : W.cell? ⟨Q, 0, none⟩ = some (.slice (some ⟨y1, 0, none⟩) t.l1.length t.l1.length)
  q1 : W.cell? ⟨Q, 1, none⟩ = some (.slice (some ⟨y2, 0, none⟩) t.l2.length t.l2.length)
  rs : BxT W R s1
  own : Own2 W s1
  hx : NewSS W B1 N1 x1 ll
  hy : NewSn W B2 y1 y2 t.l1 t.l2
  gi : IntS W (some ⟨I, 0, none⟩) I 0 gs
  gf : ∀ j, W.frozen? ⟨I, j, none⟩ = false
  il : I < W.heap.size
theorem Al3.below {w W W' : World} {a : Option Addr} {c : Nat} {ll : List (List M.D)} {t : Sn} {X P Q R x1 y1 y2 I B1 N1 B2 : Nat} {gs : List Int} {s0 s1 : Sn} (h : Al3 w W a c ll t X P Q R x1 y1 y2 I B1 N1 B2 gs s0 s1) (hb : Below W.heap.size W W') : Al3 w W' a c ll t X P Q R x1 y1 y2 I B1 N1 B2 gs s0 s1 :=
  ⟨h.bx.below hb, h.xs.below hb, cb hb h.ps, cb hb h.q0, cb hb h.q1, h.rs.below hb, h.own.below h.rs.at_ hb, h.hx.below hb (Nat.le_refl _), h.hy.below hb (Nat.le_refl _), h.gi.below hb (Nat.le_refl _), fun j => (hb.frozen (p := ⟨I, j, none⟩) h.il).trans (h.gf j), Nat.lt_of_lt_of_le h.il hb.size⟩
theorem slot_of {v2 v3 : World} (hb : Below (v2.alloc (.cells #[.slice none 0 0, .slice none 0 0] 28)).heap.size (v2.alloc (.cells #[.slice none 0 0, .slice none 0 0] 28)) v3) : Slot2 v3 v2.heap.size (.slice none 0 0) (.slice none 0 0) :=
  ⟨(hb.block v2.heap.size (by simp)).trans (heap_alloc_new _ _)⟩
theorem slot_drew {v2 v3 : World} (hb : Below (v2.alloc (.cells #[.slice none 0 0, .slice none 0 0] 28)).drew.heap.size (v2.alloc (.cells #[.slice none 0 0, .slice none 0 0] 28)).drew v3) : Slot2 v3 v2.heap.size (.slice none 0 0) (.slice none 0 0) :=
  ⟨(hb.block v2.heap.size (show v2.heap.size < (v2.alloc (.cells #[.slice none 0 0, .slice none 0 0] 28)).heap.size by simp)).trans (heap_alloc_new _ _)⟩

theorem calls_belT {P : Program} {f : FuncId} {args : Array Value} {W : World} {v : Value} (h : Calls P f args W fun e w' => e = .returned v ∧ Grown W w') : Calls P f args W fun e w' => e = .returned v ∧ Below W.heap.size W w' := h.mono fun _ _ ⟨he, hg⟩ => ⟨he, hg.bel⟩

set_option maxHeartbeats 8000000 in
set_option maxRecDepth 100000 in
theorem lawTs_any (a : Option Addr) (b o c : Nat) (ll : List (List M.D)) (t : Sn) (ga : Option Addr) (gb go gc : Nat) (gs : List Int) (w : World) (hl0 : ll.length ≤ 9223372036854775807) (hls0 : ∀ t ∈ ll, t.length ≤ 9223372036854775807) (ht0 : t.Le 9223372036854775807) (hsa : DoSS w a b o ll) (hta : t.At w) (hG : IntS w ga gb go gs) :
    Calls Try.prog 4 #[.agg #[.slice a ll.length c], .agg #[.slice t.a1 t.l1.length t.c1, .slice t.a2 t.l2.length t.c2], .slice ga gs.length gc] w fun e w' => e = .returned (.bool true) ∧ Below w.heap.size w w' := by
  by_cases hgl : gs.length ≤ 1048576
  rotate_left
  · have hgl' : (1048576 : Int) < gs.length := by omega
    go_enter Try.func4, Try.ntmps4
    go_wp2_with fail
    go_ret
    exact ⟨rfl, below2 _ _ _⟩
  have hgl' : ¬ (1048576 : Int) < gs.length := by omega
  go_enter Try.func4, Try.ntmps4
  go_wp2_with fail
  refine (szProg_le a b o c ll _ hl0 hls0 (hsa.below (below2 w _ _) (Nat.le_refl _))).mono ?_
  rintro e w1 ⟨k1, rfl, rfl, hor1⟩
  by_cases hn1 : k1 < 0
  · go_wp2_with fail
    go_ret
    exact ⟨rfl, below3 _ _ _ _⟩
  obtain ⟨hk1, _, hl, hls⟩ := hor1.resolve_left hn1
  clear hor1
  go_wp2_with fail
  refine (szSeen_any t k1 _ (by omega) hk1 ht0).mono ?_
  rintro e w1 ⟨k2, rfl, rfl, hk2, hor2⟩
  have hb4 := (below3 w (.cells #[.slice a ll.length c] 41) (.cells #[.slice t.a1 t.l1.length t.c1, .slice t.a2 t.l2.length t.c2] 42) (.cells #[.slice a ll.length c] 41)).alloc (by simp; omega) (.cells #[.slice t.a1 t.l1.length t.c1, .slice t.a2 t.l2.length t.c2] 42)
  by_cases hn2 : k2 < 0
  · go_wp2_with fail
    go_ret
    exact ⟨rfl, hb4⟩
  have ht := (hor2.resolve_left hn2).2
  clear hor2
  have bx0 : BxQ w _ a c ll t := ⟨hb4, by simp [go_sem], by simp [go_sem], by simp [go_sem]⟩
  generalize ((((w.alloc (.cells #[.slice a ll.length c] 41)).alloc (.cells #[.slice t.a1 t.l1.length t.c1, .slice t.a2 t.l2.length t.c2] 42)).alloc (.cells #[.slice a ll.length c] 41)).alloc (.cells #[.slice t.a1 t.l1.length t.c1, .slice t.a2 t.l2.length t.c2] 42)) = W at *
  clear hb4 hl0 hls0 ht0
  go_wp2_with fail
  have Y00 := bx0.p0; have Y02 := bx0.q0; have Y03 := bx0.q1; have lt0 := bx0.lt
  have n0 : W.heap.size ≠ w.heap.size := by omega
  have n0' : W.heap.size ≠ w.heap.size + 1 := by omega
  obtain ⟨ok, hok⟩ : ∃ r, (M.turnSeen ll t.l1 t.l2 gs).isSome = r := ⟨_, rfl⟩
  have HOK : Hid ((M.turnSeen ll t.l1 t.l2 gs).isSome = ok) := hok
  obtain ⟨r1, hr1⟩ : ∃ r, ((M.turnSeen ll t.l1 t.l2 gs).getD ([], [])).1 = r := ⟨_, rfl⟩
  have HR1 : Hid (((M.turnSeen ll t.l1 t.l2 gs).getD ([], [])).1 = r1) := hr1
  obtain ⟨r2, hr2⟩ : ∃ r, ((M.turnSeen ll t.l1 t.l2 gs).getD ([], [])).2 = r := ⟨_, rfl⟩
  have HR2 : Hid (((M.turnSeen ll t.l1 t.l2 gs).getD ([], [])).2 = r2) := hr2
  have HM : Hid (r1.length ≤ 1048576 ∧ r2.length ≤ 1048576) := M.turnSeen_small hr1 hr2
  clear hok hr1 hr2 hn1 hn2
  go_region_held3 (fun w' => w'.cell? ⟨w.heap.size, 0, none⟩ = some (.slice a ll.length c) ∧ w'.cell? ⟨w.heap.size + 1, 0, none⟩ = some (.slice t.a1 t.l1.length t.c1) ∧ w'.cell? ⟨w.heap.size + 1, 1, none⟩ = some (.slice t.a2 t.l2.length t.c2)) (go_keep) (first
      | (go_at_call 14; refine (toProg_any a b o c ll _ hl hls (hsa.below (by first | exact bx0.bel.drew | exact (bx0.bel.alloc bx0.bel.size _).drew) (Nat.le_refl _))).mono ?_; rintro e v1 ⟨g1, rfl, hn1, hb1⟩; have hW1 : Below W.heap.size W v1 := (by first | exact (Below.refl _ _).drew.trans hb1 | exact ((below1 W _).drew).trans (hb1.mono (below1 W _).size)); have bx1 := bx0.below hW1; have Y10 := bx1.p0; have Y12 := bx1.q0; have Y13 := bx1.q1; have lt1 := bx1.lt; have n1 : v1.heap.size ≠ w.heap.size := (by omega); have n1' : v1.heap.size ≠ w.heap.size + 1 := (by omega); (try (have V1 : Slot2 v1 W.heap.size (.slice none 0 0) (.slice none 0 0) := slot_drew hb1)))
      | (go_at_call 15; refine (toSeen_any t _ ht (hta.below (by first | exact bx1.bel | exact bx1.bel.alloc bx1.bel.size _) (Nat.le_refl _))).mono ?_; rintro e v2 ⟨g3, g4, rfl, hn2, hb2⟩; have hW2 : Below v1.heap.size v1 v2 := (by first | exact hb2 | exact bel_box (Below.refl _ _) hb2); have bx2 := bx1.below hW2; have Y20 := bx2.p0; have Y22 := bx2.q0; have Y23 := bx2.q1; have lt2 := bx2.lt; have n2 : v2.heap.size ≠ w.heap.size := (by omega); have n2' : v2.heap.size ≠ w.heap.size + 1 := (by omega); have hno2 := hn1.old.below hW2 (Nat.le_refl _); (try (have V2 := V1.of (hW2.block _ V1.lt))); (try (have R2 : Slot2 v2 v1.heap.size (.slice none 0 0) (.slice none 0 0) := slot_of hb2)))
      | (go_at_call 16; refine (toIntS_any ga gb go gc gs _ hgl (hG.below (by first | exact bx2.bel | exact bx2.bel.alloc bx2.bel.size _) (Nat.le_refl _))).mono ?_; rintro e v3 ⟨rfl, hi3, _, hb3⟩; have hW3 : Below v2.heap.size v2 v3 := (by first | exact hb3 | exact bel_box (Below.refl _ _) hb3); (try simp only [World.size_alloc] at hi3); have bx3 := bx2.below hW3; have Y30 := bx3.p0; have Y32 := bx3.q0; have Y33 := bx3.q1; have lt3 := bx3.lt; have n3 : v3.heap.size ≠ w.heap.size := (by omega); have n3' : v3.heap.size ≠ w.heap.size + 1 := (by omega); have hno3 := hno2.below hW3 (Nat.le_refl _); have hn3 := hn2.below hW3 (Nat.le_refl _); (try (have V3 := V2.of (hW3.block _ V2.lt))); (try (have R3 := R2.of (hW3.block _ R2.lt))); (try (have T3 : Slot2 v3 v2.heap.size (.slice none 0 0) (.slice none 0 0) := slot_of hb3)))
      | (go_at_call 6; refine (sts_any _ g1 0 ll.length ll t g3 g4 _ _ _ 0 gs.length gs ok r1 r2 _ hl (Nat.le_refl _) hls ht hgl HOK.out HR1.out HR2.out (hno3.below (by first | exact Below.refl _ _ | exact below1 _ _) (Nat.le_refl _)) (hn3.below (by first | exact Below.refl _ _ | exact below1 _ _) (Nat.le_refl _)) (hi3.below (by first | exact Below.refl _ _ | exact below1 _ _) (Nat.le_refl _))).mono ?_; rintro e v4 ⟨s0, rfl, HK, hnew, hb4⟩; have hW4 : Below v3.heap.size v3 v4 := (by first | exact hb4 | exact bel_box (Below.refl _ _) hb4); have bx4 := bx3.below hW4; have Y40 := bx4.p0; have Y42 := bx4.q0; have Y43 := bx4.q1; have lt4 := bx4.lt; have n4 : v4.heap.size ≠ w.heap.size := (by omega); have n4' : v4.heap.size ≠ w.heap.size + 1 := (by omega); have hg1 := hnew.ge1; have hg2 := hnew.ge2; (try (have V4 := V3.of (hW4.block _ V3.lt); have v0 := V4.c0; have v1c := V4.c1; have vf := V4.fz)); (try (have R4 := R3.of (hW4.block _ R3.lt); have r0 := R4.c0; have r1c := R4.c1; have rf := R4.fz)); (try (have T4 := T3.of (hW4.block _ T3.lt); have t0 := T4.c0; have t1c := T4.c1; have tf := T4.fz)); (try (have U4 : Slot2 v4 v3.heap.size (.slice none 0 0) (.slice none 0 0) := slot_of hb4; have u0 := U4.c0; have u1c := U4.c1; have uf := U4.fz))))
  all_goals
    have HK0 := HK
    first
    | (have F := F3.first bx4 (X := v3.heap.size) hnew.at_ U4 (by (try simp only [World.size_alloc] at hg1 hg2); have := hW3.size; have := hW2.size; have := hW1.size; (try (have := T3.lt)); (try (have := R2.lt)); (try (have := V1.lt)); omega) (by (try simp only [World.size_alloc] at hg1 hg2); have := hW3.size; have := hW2.size; have := hW1.size; (try (have := T3.lt)); (try (have := R2.lt)); (try (have := V1.lt)); omega) (by (try simp only [World.size_alloc] at hg1 hg2); have := hW3.size; have := hW2.size; have := hW1.size; (try (have := T3.lt)); (try (have := R2.lt)); (try (have := V1.lt)); omega)
       generalize (v4.setCell ⟨v3.heap.size, 0, none⟩ (.slice s0.a1 s0.l1.length s0.c1)).setCell ⟨v3.heap.size, 1, none⟩ (.slice s0.a2 s0.l2.length s0.c2) = W8 at F ⊢
       generalize v3.heap.size = X at F ⊢)
    | (have F := F3.first bx4 (X := v2.heap.size) hnew.at_ T4 (by (try simp only [World.size_alloc] at hg1 hg2); have := hW3.size; have := hW2.size; have := hW1.size; (try (have := T3.lt)); (try (have := R2.lt)); (try (have := V1.lt)); omega) (by (try simp only [World.size_alloc] at hg1 hg2); have := hW3.size; have := hW2.size; have := hW1.size; (try (have := T3.lt)); (try (have := R2.lt)); (try (have := V1.lt)); omega) (by (try simp only [World.size_alloc] at hg1 hg2); have := hW3.size; have := hW2.size; have := hW1.size; (try (have := T3.lt)); (try (have := R2.lt)); (try (have := V1.lt)); omega)
       generalize (v4.setCell ⟨v2.heap.size, 0, none⟩ (.slice s0.a1 s0.l1.length s0.c1)).setCell ⟨v2.heap.size, 1, none⟩ (.slice s0.a2 s0.l2.length s0.c2) = W8 at F ⊢
       generalize v2.heap.size = X at F ⊢)
    | (have F := F3.first bx4 (X := v1.heap.size) hnew.at_ R4 (by (try simp only [World.size_alloc] at hg1 hg2); have := hW3.size; have := hW2.size; have := hW1.size; (try (have := T3.lt)); (try (have := R2.lt)); (try (have := V1.lt)); omega) (by (try simp only [World.size_alloc] at hg1 hg2); have := hW3.size; have := hW2.size; have := hW1.size; (try (have := T3.lt)); (try (have := R2.lt)); (try (have := V1.lt)); omega) (by (try simp only [World.size_alloc] at hg1 hg2); have := hW3.size; have := hW2.size; have := hW1.size; (try (have := T3.lt)); (try (have := R2.lt)); (try (have := V1.lt)); omega)
       generalize (v4.setCell ⟨v1.heap.size, 0, none⟩ (.slice s0.a1 s0.l1.length s0.c1)).setCell ⟨v1.heap.size, 1, none⟩ (.slice s0.a2 s0.l2.length s0.c2) = W8 at F ⊢
       generalize v1.heap.size = X at F ⊢)
    | (have F := F3.first bx4 (X := W.heap.size) hnew.at_ V4 (by (try simp only [World.size_alloc] at hg1 hg2); have := hW3.size; have := hW2.size; have := hW1.size; (try (have := T3.lt)); (try (have := R2.lt)); (try (have := V1.lt)); omega) (by (try simp only [World.size_alloc] at hg1 hg2); have := hW3.size; have := hW2.size; have := hW1.size; (try (have := T3.lt)); (try (have := R2.lt)); (try (have := V1.lt)); omega) (by (try simp only [World.size_alloc] at hg1 hg2); have := hW3.size; have := hW2.size; have := hW1.size; (try (have := T3.lt)); (try (have := R2.lt)); (try (have := V1.lt)); omega)
       generalize (v4.setCell ⟨W.heap.size, 0, none⟩ (.slice s0.a1 s0.l1.length s0.c1)).setCell ⟨W.heap.size, 1, none⟩ (.slice s0.a2 s0.l2.length s0.c2) = W8 at F ⊢
       generalize W.heap.size = X at F ⊢)
    | (have F := F3.last bx4 hnew.at_
       generalize v4.alloc (.cells #[(.slice s0.a1 s0.l1.length s0.c1), (.slice s0.a2 s0.l2.length s0.c2)] 28) = W8 at F ⊢
       generalize v4.heap.size = X at F ⊢)
    clear Y10 Y12 Y13 lt1 n1 n1' Y20 Y22 Y23 lt2 n2 n2' Y30 Y32 Y33 lt3 n3 n3' Y40 Y42 Y43 lt4 n4 n4' Y00 Y02 Y03 lt0 n0 n0' hg1 hg2 hno2 hno3 hn1 hn2 hn3 hi3 hb1 hb2 hb3 hb4 hnew
    (try clear V4 v0 v1c vf)
    (try clear R4 r0 r1c rf)
    (try clear T4 t0 t1c tf)
    (try clear U4 u0 u1c uf)
    (try clear V3)
    (try clear V2)
    (try clear V1)
    (try clear R3)
    (try clear R2)
    (try clear T3)
    obtain ⟨bx8, xs8⟩ := F
    clear hW1 hW2 hW3 hW4 bx0 bx1 bx2 bx3 bx4 HK
    have P0 := bx8.p0
    have lo0 : ∀ b, s0.blk b → b < W8.heap.size := fun b hb => Sn.blk_lt xs8.at_ hb
    have hwB := bx8.bel.size
    go_wp2_with fail
    refine (toProg_any a b o c ll _ hl hls (hsa.below bx8.bel (Nat.le_refl _))).mono ?_
    rintro e w9 ⟨x1, rfl, hx, hb9⟩
    have bx9 := bx8.below hb9
    have xs9 := xs8.below hb9
    have o1 : W8.heap.size ≤ w9.heap.size := hb9.size
    have P9 := bx9.p0; have Q9 := bx9.q0; have Q9' := bx9.q1; have L9 := bx9.lt
    clear bx8 xs8 hb9
    go_wp2_with fail
    refine (toSeen_any t _ ht (hta.below (bx9.below (below1 _ _)).bel (Nat.le_refl _))).mono ?_
    rintro e w10 ⟨y1, y2, rfl, hy, hb10⟩
    have hb910 : Below w9.heap.size w9 w10 := bel_box (Below.refl _ _) hb10
    have bx10 := bx9.below hb910
    have xs10 := xs9.below hb910
    have hx10 := hx.below hb910 (Nat.le_refl _)
    have pc : w10.cell? ⟨w9.heap.size, 0, none⟩ = some (.slice (some ⟨x1, 0, none⟩) ll.length ll.length) := cb hb10 (by simp)
    have lpc : w9.heap.size < w10.heap.size := World.block_lt_of_cell? _ _ pc
    rw [World.size_alloc] at hy
    have hyl : y2 < w10.heap.size := (let ⟨_, q⟩ := hy.own2; q.lt)
    have hyge := hy.ge
    have hylt := hy.lt
    clear P0 P9 Q9 Q9' L9 bx9 xs9 hx hb10 hb910
    go_wp2_with fail
    have hbY := below1 w10 (.cells #[.slice (some ⟨y1, 0, none⟩) t.l1.length t.l1.length, .slice (some ⟨y2, 0, none⟩) t.l2.length t.l2.length] 28)
    refine (toIntS_any ga gb go gc gs _ hgl (hG.below (bx10.below hbY).bel (Nat.le_refl _))).mono ?_
    rintro e w11 ⟨rfl, hi11, ⟨f11, row11⟩, hb11⟩
    have gf11 : ∀ j, w11.frozen? ⟨(w10.alloc (.cells #[.slice (some ⟨y1, 0, none⟩) t.l1.length t.l1.length, .slice (some ⟨y2, 0, none⟩) t.l2.length t.l2.length] 28)).heap.size, j, none⟩ = false := row11.frozen
    have il11 : (w10.alloc (.cells #[.slice (some ⟨y1, 0, none⟩) t.l1.length t.l1.length, .slice (some ⟨y2, 0, none⟩) t.l2.length t.l2.length] 28)).heap.size < w11.heap.size := row11.lt
    have hb1011 : Below w10.heap.size w10 w11 := hbY.trans (hb11.mono hbY.size)
    have qc0 : w11.cell? ⟨w10.heap.size, 0, none⟩ = some (.slice (some ⟨y1, 0, none⟩) t.l1.length t.l1.length) := cb hb11 (by simp)
    have qc1 : w11.cell? ⟨w10.heap.size, 1, none⟩ = some (.slice (some ⟨y2, 0, none⟩) t.l2.length t.l2.length) := cb hb11 (by simp)
    have pc11 := cb hb1011 pc
    rw [World.size_alloc] at hi11 gf11 il11
    clear row11 hb11 hbY
    go_wp2_with fail
    refine (its_any _ x1 0 ll.length ll t y1 y2 _ _ _ 0 gs.length gs ok r1 r2 _ hl (Nat.le_refl _) hls ht hgl HOK.out HR1.out HR2.out (hx10.old.below hb1011 (Nat.le_refl _)) (hy.below hb1011 (Nat.le_refl _)) hi11).mono ?_
    rintro e w12 ⟨s1, rfl, HK1, hnew, hb12⟩
    have hbR := below1 w12 (.cells #[.slice s1.a1 s1.l1.length s1.c1, .slice s1.a2 s1.l2.length s1.c2] 28)
    have hb11R := hb12.trans (hbR.mono hb12.size)
    have hb10R := hb1011.trans (hb11R.mono hb1011.size)
    have al : Al3 w (w12.alloc (.cells #[.slice s1.a1 s1.l1.length s1.c1, .slice s1.a2 s1.l2.length s1.c2] 28)) a c ll t X w9.heap.size w10.heap.size w12.heap.size x1 y1 y2 (w10.heap.size + 1) W8.heap.size w9.heap.size (w9.heap.size + 1) gs s0 s1 :=
      ⟨bx10.below hb10R, xs10.below hb10R, cb hb11R pc11, cb hb11R qc0, cb hb11R qc1, BxT.new hnew.at_, hnew.own.below hnew.at_ hbR, hx10.below hb10R (Nat.le_refl _), hy.below hb10R (Nat.le_refl _), hi11.below hb11R (Nat.le_refl _), fun j => (hb11R.frozen (p := ⟨w10.heap.size + 1, j, none⟩) il11).trans (gf11 j), Nat.lt_of_lt_of_le il11 hb11R.size⟩
    have lo1 : ∀ b, s1.blk b → w10.heap.size + 1 < b := fun b hb => by
      have := hnew.ge1
      have := hnew.ge2
      rcases hb with ⟨_, e⟩ | ⟨_, e⟩ <;> omega
    clear hnew hb12 hbR hb11R hb10R hb1011 pc pc11 qc0 qc1 gf11 il11 hi11 hx10 hy bx10 xs10
    have rx0 := al.xs.c0; have rx1 := al.xs.c1
    go_wp2_with fail
    clear rx0 rx1
    generalize (w12.alloc (.cells #[.slice s1.a1 s1.l1.length s1.c1, .slice s1.a2 s1.l2.length s1.c2] 28)) = W12 at al ⊢
    obtain ⟨R, hR⟩ : ∃ R, w12.heap.size = R := ⟨_, rfl⟩
    obtain ⟨B1, hB1⟩ : ∃ R, W8.heap.size = R := ⟨_, rfl⟩
    obtain ⟨N1, hN1⟩ : ∃ R, w9.heap.size = R := ⟨_, rfl⟩
    obtain ⟨N2, hN2⟩ : ∃ R, w10.heap.size = R := ⟨_, rfl⟩
    rw [hR, hB1, hN1, hN2] at al
    rw [hB1] at lo0 hwB o1
    rw [hN1] at o1 lpc hyge
    rw [hN2] at lo1 lpc hyl
    rw [hR, hN1, hN2]
    clear hR hB1 hN1 hN2
    have hyb : ∀ j, (newSn y1 y2 t.l1 t.l2).blk j → N1 + 1 ≤ j ∧ j < N2 := fun j hj => by
      rcases hj with ⟨_, e⟩ | ⟨_, e⟩
      · have e' : j = y1 := e
        omega
      · have e' : j = y2 := e
        omega
    have hsl : s1.Le 1048576 := ⟨by rw [HK1.out.1]; exact HM.out.1, by rw [HK1.out.2]; exact HM.out.2⟩
    have HE : Hid (s0.l1 = s1.l1 ∧ s0.l2 = s1.l2) := ⟨HK0.out.1.trans HK1.out.1.symm, HK0.out.2.trans HK1.out.2.symm⟩
    refine (eqSeen_bel s1 s0 W12 hsl HE.out.1 HE.out.2 al.rs.at_ al.xs.at_).mono ?_
    rintro e W13 ⟨rfl, hb13⟩
    have al13 := al.below hb13
    clear al hb13
    go_wp2_with fail
    have al14 := al13.below (Below.refl _ _).drew
    have C1 := toProg_any a b o c ll W13.drew hl hls (hsa.below al14.bx.bel (Nat.le_refl _))
    have X0 := al13.bx.p0; have X1 := al13.ps
    go_region_held3 (fun w' => w'.cell? ⟨w.heap.size, 0, none⟩ = some (.slice a ll.length c) ∧ w'.cell? ⟨N1, 0, none⟩ = some (.slice (some ⟨x1, 0, none⟩) ll.length ll.length)) (go_keep) (first
      | (go_at_call 14; refine C1.mono ?_; rintro e W14 ⟨g1, rfl, hn1, hb1⟩; have al15 := al14.below hb1; have Y0 := al15.bx.p0; have Y1 := al15.ps)
      | (go_at_call 18; refine (eqProg_same _ x1 0 ll.length _ g1 0 ll.length ll _ hl hls al15.hx.old hn1.old).mono ?_; rintro e W15 ⟨rfl, hb15⟩; have al16 := al15.below hb15; have Z0 := al16.bx.p0; have Z1 := al16.ps))
    clear X0 X1 Y0 Y1 Z0 Z1 C1 al13 al14 al15 hn1 hb1 hb15
    have X0 := al16.bx.q0; have X1 := al16.bx.q1; have X2 := al16.q0; have X3 := al16.q1
    go_wp2_with fail
    have al17 := al16.below (Below.refl _ _).drew
    have C2 := toSeen_any t W15.drew ht (hta.below al17.bx.bel (Nat.le_refl _))
    go_region_held3 (fun w' => w'.cell? ⟨w.heap.size + 1, 0, none⟩ = some (.slice t.a1 t.l1.length t.c1) ∧ w'.cell? ⟨w.heap.size + 1, 1, none⟩ = some (.slice t.a2 t.l2.length t.c2) ∧ w'.cell? ⟨N2, 0, none⟩ = some (.slice (some ⟨y1, 0, none⟩) t.l1.length t.l1.length) ∧ w'.cell? ⟨N2, 1, none⟩ = some (.slice (some ⟨y2, 0, none⟩) t.l2.length t.l2.length)) (go_keep) (first
      | (go_at_call 15; refine C2.mono ?_; rintro e W16 ⟨g3, g4, rfl, hn2, hb2⟩; have al18 := al17.below hb2; have Y0 := al18.bx.q0; have Y1 := al18.bx.q1; have Y2 := al18.q0; have Y3 := al18.q1)
      | (go_at_call 17; refine (eqSeen_bel (newSn y1 y2 t.l1 t.l2) (newSn g3 g4 t.l1 t.l2) _ ⟨ht.1, ht.2⟩ rfl rfl al18.hy.at hn2.at).mono ?_; rintro e W17 ⟨rfl, hg13⟩; have al19 := al18.below hg13; have Z0 := al19.bx.q0; have Z1 := al19.bx.q1; have Z2 := al19.q0; have Z3 := al19.q1))
    clear X0 X1 X2 X3 Y0 Y1 Y2 Y3 Z0 Z1 Z2 Z3 C2 al16 al17 al18 hn2 hb2 hg13
    go_wp2_with fail
    refine (toIntS_any ga gb go gc gs W17 hgl (hG.below al19.bx.bel (Nat.le_refl _))).mono ?_
    rintro e w18 ⟨rfl, hi18, _, b18⟩
    have al20 := al19.below b18
    go_wp2_with fail
    refine (calls_belT (eqIntS_same (some ⟨N2 + 1, 0, none⟩) (N2 + 1) 0 gs.length (some ⟨W17.heap.size, 0, none⟩) W17.heap.size 0 gs.length gs w18 hgl al20.gi hi18)).mono ?_
    rintro e W19 ⟨rfl, b19⟩
    have al21 := al20.below b19
    clear al19 al20 b18 b19 hi18
    have X0 := al21.ps
    go_wp2_with fail
    refine (markProg_any x1 ll.length B1 N1 ll W19 hl hls al21.hx).mono ?_
    rintro e W20 ⟨k1, wa, rfl, hk1, rfl, mk1⟩
    have al22 := al21.below (below1 W19 (.cells #[.slice (some ⟨x1, 0, none⟩) ll.length ll.length] 25))
    have bxA := al22.bx.mk_ mk1 (fun j hj => by omega)
    have xsA := al22.xs.mk_ mk1 (fun j hj hb => by have := lo0 j hb; omega)
    have rsA := al22.rs.mk_ mk1 (fun j hj hb => by have := lo1 j hb; omega)
    have owA : Own2 W20 s1 := ⟨al22.own.ne, fun b hb j => (mk1.fz _).trans (al22.own.fz b hb j)⟩
    have y0 := mk1.rest _ _ al22.q0 (fun _ e => by cases e)
    have y1' := mk1.rest _ _ al22.q1 (fun _ e => by cases e)
    obtain ⟨fy1, oy1⟩ := al22.hy.own1
    obtain ⟨fy2, oy2⟩ := al22.hy.own2
    have hyC : SnC W20 (newSn y1 y2 t.l1 t.l2) := ⟨(al22.hy.reads.toC (fun _ j => oy1.frozen j)).mk_ mk1, (al22.hy.last.toC (fun _ j => oy2.frozen j)).mk_ mk1⟩
    have giC := (al22.gi.toC (fun _ j => al22.gf j)).mk_ mk1
    clear X0 al21 al22 mk1 oy1 oy2
    have hk1a := hk1.1
    have hk1b := hk1.2
    have hta1 := ht.1
    have hta2 := ht.2
    go_wp2_with fail
    refine (markSeenK_any (newSn y1 y2 t.l1 t.l2) k1 W20 hk1a (by omega) ⟨ht.1, ht.2⟩ hyC).mono ?_
    rintro e W21 ⟨wb, rfl, rfl, mk2⟩
    have bxB := (bxA.below (below1 _ _)).mk_ mk2 (fun j hj => by have := hyb j hj; omega)
    have xsB := (xsA.below (below1 _ _)).mk_ mk2 (fun j hj hb => by have := hyb j hj; have := lo0 j hb; omega)
    have rsB := (rsA.below (below1 _ _)).mk_ mk2 (fun j hj hb => by have := hyb j hj; have := lo1 j hb; omega)
    have owA2 := owA.below rsA.at_ (below1 _ (.cells #[.slice (some ⟨y1, 0, none⟩) t.l1.length t.l1.length, .slice (some ⟨y2, 0, none⟩) t.l2.length t.l2.length] 28))
    have owB : Own2 W21 s1 := ⟨owA2.ne, fun b hb j => (mk2.fz _).trans (owA2.fz b hb j)⟩
    have giB := (giC.below (below1 _ (.cells #[.slice (some ⟨y1, 0, none⟩) t.l1.length t.l1.length, .slice (some ⟨y2, 0, none⟩) t.l2.length t.l2.length] 28))).mk_ mk2
    clear bxA xsA rsA owA owA2 giC hyC mk2 y0 y1'
    have hkk : ¬ (k1 + (t.l1.length : Int) + t.l2.length + gs.length < 0) := by omega
    have hkk' : decide (k1 + (t.l1.length : Int) + t.l2.length + gs.length < 0) = false := by simpa using hkk
    go_wp2_with fail
    refine (markIntS_any (some ⟨N2 + 1, 0, none⟩) (N2 + 1) 0 gs.length gs.length (k1 + t.l1.length + t.l2.length) W21 hgl (by omega) (by omega) giB).mono ?_
    rintro e W22 ⟨rfl, _, mk3⟩
    have bxC := bxB.mk_ mk3 (fun j hj => by have := hj.1; omega)
    have xsC := xsB.mk_ mk3 (fun j hj hb => by have := hj.1; have := lo0 j hb; omega)
    have rsC := rsB.mk_ mk3 (fun j hj hb => by have := hj.1; have := lo1 j hb; omega)
    have owC : Own2 W22 s1 := ⟨owB.ne, fun b hb j => (mk3.fz _).trans (owB.fz b hb j)⟩
    clear bxB xsB rsB owB giB mk3
    have X0 := xsC.c0; have X1 := xsC.c1; have X2 := rsC.c0; have X3 := rsC.c1
    go_wp2_with fail
    refine (eqSeen_bel s1 s0 W22 hsl HE.out.1 HE.out.2 rsC.at_ xsC.at_).mono ?_
    rintro e W23 ⟨rfl, hb23⟩
    have bxD := bxC.below hb23
    have xsD := xsC.below hb23
    have owD := owC.below rsC.at_ hb23
    have rsD := rsC.below hb23
    clear X0 X1 X2 X3 bxC xsC rsC owC hb23
    have X2 := rsD.c0; have X3 := rsD.c1
    go_wp2_with fail
    refine (markSeen_any s1 W23 hsl owD.ne ⟨rsD.at_.reads.toC (fun hl => owD.fz _ (Or.inl ⟨hl, rfl⟩)), rsD.at_.last.toC (fun hl => owD.fz _ (Or.inr ⟨hl, rfl⟩))⟩).mono ?_
    rintro e W24 ⟨wc, rfl, rfl, mk4, hm1⟩
    have bxE := (bxD.below (below1 _ _)).mk_ mk4 (fun j hj => by have := lo1 j hj; omega)
    have xsE := (xsD.below (below1 _ _)).mk_ mk4 (fun j hj hb => by have := lo1 j hj; have := lo0 j hb; omega)
    have rc0 := mk4.rest _ _ (cb (below1 W23 (.cells #[.slice s1.a1 s1.l1.length s1.c1, .slice s1.a2 s1.l2.length s1.c2] 28)) rsD.c0) (fun _ e => by cases e)
    have rc1 := mk4.rest _ _ (cb (below1 W23 (.cells #[.slice s1.a1 s1.l1.length s1.c1, .slice s1.a2 s1.l2.length s1.c2] 28)) rsD.c1) (fun _ e => by cases e)
    clear bxD xsD rsD owD mk4 X2 X3
    go_wp2_with fail
    refine (heldSeen_any s1 W24 hsl hm1).mono ?_
    rintro e W25 ⟨rfl, rfl⟩
    have bx0 := bxE.below (below1 W24 (.cells #[.slice s1.a1 s1.l1.length s1.c1, .slice s1.a2 s1.l2.length s1.c2] 28))
    have xsM := xsE.below (below1 W24 (.cells #[.slice s1.a1 s1.l1.length s1.c1, .slice s1.a2 s1.l2.length s1.c2] 28))
    have hmM := hm1.below (below1 W24 (.cells #[.slice s1.a1 s1.l1.length s1.c1, .slice s1.a2 s1.l2.length s1.c2] 28))
    have mc0 := cb (below1 W24 (.cells #[.slice s1.a1 s1.l1.length s1.c1, .slice s1.a2 s1.l2.length s1.c2] 28)) rc0
    have mc1 := cb (below1 W24 (.cells #[.slice s1.a1 s1.l1.length s1.c1, .slice s1.a2 s1.l2.length s1.c2] 28)) rc1
    generalize W24.alloc (.cells #[.slice s1.a1 s1.l1.length s1.c1, .slice s1.a2 s1.l2.length s1.c2] 28) = WM at *
    clear bxE xsE hm1 rc0 rc1
    have q1 : ¬ ((1 : Int) + s1.l1.length + s1.l2.length < 0) := by omega
    have q1' : decide ((1 : Int) + s1.l1.length + s1.l2.length < 0) = false := by simpa using q1
    go_wp2_with fail
    have Y00 := bx0.p0; have Y02 := bx0.q0; have Y03 := bx0.q1; have lt0 := bx0.lt
    have n0 : WM.heap.size ≠ w.heap.size := by omega
    have n0' : WM.heap.size ≠ w.heap.size + 1 := by omega
    go_region_held3 (fun w' => w'.cell? ⟨w.heap.size, 0, none⟩ = some (.slice a ll.length c) ∧ w'.cell? ⟨w.heap.size + 1, 0, none⟩ = some (.slice t.a1 t.l1.length t.c1) ∧ w'.cell? ⟨w.heap.size + 1, 1, none⟩ = some (.slice t.a2 t.l2.length t.c2)) (go_keep) (first
        | (go_at_call 14; refine (toProg_any a b o c ll _ hl hls (hsa.below (by first | exact bx0.bel.drew | exact (bx0.bel.alloc bx0.bel.size _).drew) (Nat.le_refl _))).mono ?_; rintro e v1 ⟨g1, rfl, hn1, hb1⟩; have hW1 : Below WM.heap.size WM v1 := (by first | exact (Below.refl _ _).drew.trans hb1 | exact ((below1 WM _).drew).trans (hb1.mono (below1 WM _).size)); have bx1 := bx0.below hW1; have Y10 := bx1.p0; have Y12 := bx1.q0; have Y13 := bx1.q1; have lt1 := bx1.lt; have n1 : v1.heap.size ≠ w.heap.size := (by omega); have n1' : v1.heap.size ≠ w.heap.size + 1 := (by omega); (try (have V1 : Slot2 v1 WM.heap.size (.slice none 0 0) (.slice none 0 0) := slot_drew hb1)))
        | (go_at_call 15; refine (toSeen_any t _ ht (hta.below (by first | exact bx1.bel | exact bx1.bel.alloc bx1.bel.size _) (Nat.le_refl _))).mono ?_; rintro e v2 ⟨g3, g4, rfl, hn2, hb2⟩; have hW2 : Below v1.heap.size v1 v2 := (by first | exact hb2 | exact bel_box (Below.refl _ _) hb2); have bx2 := bx1.below hW2; have Y20 := bx2.p0; have Y22 := bx2.q0; have Y23 := bx2.q1; have lt2 := bx2.lt; have n2 : v2.heap.size ≠ w.heap.size := (by omega); have n2' : v2.heap.size ≠ w.heap.size + 1 := (by omega); have hno2 := hn1.old.below hW2 (Nat.le_refl _); (try (have V2 := V1.of (hW2.block _ V1.lt))); (try (have R2 : Slot2 v2 v1.heap.size (.slice none 0 0) (.slice none 0 0) := slot_of hb2)))
        | (go_at_call 16; refine (toIntS_any ga gb go gc gs _ hgl (hG.below (by first | exact bx2.bel | exact bx2.bel.alloc bx2.bel.size _) (Nat.le_refl _))).mono ?_; rintro e v3 ⟨rfl, hi3, _, hb3⟩; have hW3 : Below v2.heap.size v2 v3 := (by first | exact hb3 | exact bel_box (Below.refl _ _) hb3); (try simp only [World.size_alloc] at hi3); have bx3 := bx2.below hW3; have Y30 := bx3.p0; have Y32 := bx3.q0; have Y33 := bx3.q1; have lt3 := bx3.lt; have n3 : v3.heap.size ≠ w.heap.size := (by omega); have n3' : v3.heap.size ≠ w.heap.size + 1 := (by omega); have hno3 := hno2.below hW3 (Nat.le_refl _); have hn3 := hn2.below hW3 (Nat.le_refl _); (try (have V3 := V2.of (hW3.block _ V2.lt))); (try (have R3 := R2.of (hW3.block _ R2.lt))); (try (have T3 : Slot2 v3 v2.heap.size (.slice none 0 0) (.slice none 0 0) := slot_of hb3)))
        | (go_at_call 7; refine (its_any _ g1 0 ll.length ll t g3 g4 _ _ _ 0 gs.length gs ok r1 r2 _ hl (Nat.le_refl _) hls ht hgl HOK.out HR1.out HR2.out (hno3.below (by first | exact Below.refl _ _ | exact below1 _ _) (Nat.le_refl _)) (hn3.below (by first | exact Below.refl _ _ | exact below1 _ _) (Nat.le_refl _)) (hi3.below (by first | exact Below.refl _ _ | exact below1 _ _) (Nat.le_refl _))).mono ?_; rintro e v4 ⟨s2, rfl, HK, hnew, hb4⟩; have hW4 : Below v3.heap.size v3 v4 := (by first | exact hb4 | exact bel_box (Below.refl _ _) hb4); have bx4 := bx3.below hW4; have Y40 := bx4.p0; have Y42 := bx4.q0; have Y43 := bx4.q1; have lt4 := bx4.lt; have n4 : v4.heap.size ≠ w.heap.size := (by omega); have n4' : v4.heap.size ≠ w.heap.size + 1 := (by omega); have hg1 := hnew.ge1; have hg2 := hnew.ge2; (try (have V4 := V3.of (hW4.block _ V3.lt); have v0 := V4.c0; have v1c := V4.c1; have vf := V4.fz)); (try (have R4 := R3.of (hW4.block _ R3.lt); have r0 := R4.c0; have r1c := R4.c1; have rf := R4.fz)); (try (have T4 := T3.of (hW4.block _ T3.lt); have t0 := T4.c0; have t1c := T4.c1; have tf := T4.fz)); (try (have U4 : Slot2 v4 v3.heap.size (.slice none 0 0) (.slice none 0 0) := slot_of hb4; have u0 := U4.c0; have u1c := U4.c1; have uf := U4.fz))))
    all_goals
      have hWf : Below WM.heap.size WM v4 := ((hW1.trans (hW2.mono hW1.size)).trans (hW3.mono (Nat.le_trans hW1.size hW2.size))).trans (hW4.mono (Nat.le_trans (Nat.le_trans hW1.size hW2.size) hW3.size))
      have HE2 : Hid (s0.l1 = s2.l1 ∧ s0.l2 = s2.l2) := ⟨HK0.out.1.trans HK.out.1.symm, HK0.out.2.trans HK.out.2.symm⟩
      have hs2 : s2.Le 1048576 := ⟨by rw [HK.out.1]; exact HM.out.1, by rw [HK.out.2]; exact HM.out.2⟩
      first
      | (have F := F4.first hWf (X := v3.heap.size) hnew.at_ U4 (by (try simp only [World.size_alloc] at hg1 hg2); have := hW3.size; have := hW2.size; have := hW1.size; (try (have := T3.lt)); (try (have := R2.lt)); (try (have := V1.lt)); omega) (by (try simp only [World.size_alloc] at hg1 hg2); have := hW3.size; have := hW2.size; have := hW1.size; (try (have := T3.lt)); (try (have := R2.lt)); (try (have := V1.lt)); omega) (by (try simp only [World.size_alloc] at hg1 hg2); have := hW3.size; have := hW2.size; have := hW1.size; (try (have := T3.lt)); (try (have := R2.lt)); (try (have := V1.lt)); omega)
         generalize (v4.setCell ⟨v3.heap.size, 0, none⟩ (.slice s2.a1 s2.l1.length s2.c1)).setCell ⟨v3.heap.size, 1, none⟩ (.slice s2.a2 s2.l2.length s2.c2) = Wf at F ⊢
         generalize v3.heap.size = Y at F ⊢)
      | (have F := F4.first hWf (X := v2.heap.size) hnew.at_ T4 (by (try simp only [World.size_alloc] at hg1 hg2); have := hW3.size; have := hW2.size; have := hW1.size; (try (have := T3.lt)); (try (have := R2.lt)); (try (have := V1.lt)); omega) (by (try simp only [World.size_alloc] at hg1 hg2); have := hW3.size; have := hW2.size; have := hW1.size; (try (have := T3.lt)); (try (have := R2.lt)); (try (have := V1.lt)); omega) (by (try simp only [World.size_alloc] at hg1 hg2); have := hW3.size; have := hW2.size; have := hW1.size; (try (have := T3.lt)); (try (have := R2.lt)); (try (have := V1.lt)); omega)
         generalize (v4.setCell ⟨v2.heap.size, 0, none⟩ (.slice s2.a1 s2.l1.length s2.c1)).setCell ⟨v2.heap.size, 1, none⟩ (.slice s2.a2 s2.l2.length s2.c2) = Wf at F ⊢
         generalize v2.heap.size = Y at F ⊢)
      | (have F := F4.first hWf (X := v1.heap.size) hnew.at_ R4 (by (try simp only [World.size_alloc] at hg1 hg2); have := hW3.size; have := hW2.size; have := hW1.size; (try (have := T3.lt)); (try (have := R2.lt)); (try (have := V1.lt)); omega) (by (try simp only [World.size_alloc] at hg1 hg2); have := hW3.size; have := hW2.size; have := hW1.size; (try (have := T3.lt)); (try (have := R2.lt)); (try (have := V1.lt)); omega) (by (try simp only [World.size_alloc] at hg1 hg2); have := hW3.size; have := hW2.size; have := hW1.size; (try (have := T3.lt)); (try (have := R2.lt)); (try (have := V1.lt)); omega)
         generalize (v4.setCell ⟨v1.heap.size, 0, none⟩ (.slice s2.a1 s2.l1.length s2.c1)).setCell ⟨v1.heap.size, 1, none⟩ (.slice s2.a2 s2.l2.length s2.c2) = Wf at F ⊢
         generalize v1.heap.size = Y at F ⊢)
      | (have F := F4.first hWf (X := WM.heap.size) hnew.at_ V4 (by (try simp only [World.size_alloc] at hg1 hg2); have := hW3.size; have := hW2.size; have := hW1.size; (try (have := T3.lt)); (try (have := R2.lt)); (try (have := V1.lt)); omega) (by (try simp only [World.size_alloc] at hg1 hg2); have := hW3.size; have := hW2.size; have := hW1.size; (try (have := T3.lt)); (try (have := R2.lt)); (try (have := V1.lt)); omega) (by (try simp only [World.size_alloc] at hg1 hg2); have := hW3.size; have := hW2.size; have := hW1.size; (try (have := T3.lt)); (try (have := R2.lt)); (try (have := V1.lt)); omega)
         generalize (v4.setCell ⟨WM.heap.size, 0, none⟩ (.slice s2.a1 s2.l1.length s2.c1)).setCell ⟨WM.heap.size, 1, none⟩ (.slice s2.a2 s2.l2.length s2.c2) = Wf at F ⊢
         generalize WM.heap.size = Y at F ⊢)
      | (have F := F4.last hWf hnew.at_
         generalize v4.alloc (.cells #[(.slice s2.a1 s2.l1.length s2.c1), (.slice s2.a2 s2.l2.length s2.c2)] 28) = Wf at F ⊢
         generalize v4.heap.size = Y at F ⊢)
      clear Y10 Y12 Y13 lt1 n1 n1' Y20 Y22 Y23 lt2 n2 n2' Y30 Y32 Y33 lt3 n3 n3' Y40 Y42 Y43 lt4 n4 n4' Y00 Y02 Y03 lt0 n0 n0' hg1 hg2 hno2 hno3 hn1 hn2 hn3 hi3 hb1 hb2 hb3 hb4 hnew
      (try clear V4 v0 v1c vf)
      (try clear R4 r0 r1c rf)
      (try clear T4 t0 t1c tf)
      (try clear U4 u0 u1c uf)
      (try clear V3)
      (try clear V2)
      (try clear V1)
      (try clear R3)
      (try clear R2)
      (try clear T3)
      obtain ⟨hbF, xsF⟩ := F
      have bxF := bx0.below hbF
      have xsG := xsM.below hbF
      have hmF := hmM.below hbF
      have fc0 := cb hbF mc0
      have fc1 := cb hbF mc1
      clear hW1 hW2 hW3 hW4 bx0 bx1 bx2 bx3 bx4 HK hWf hbF xsM hmM mc0 mc1
      have X0 := xsG.c0; have X1 := xsG.c1; have X2 := xsF.c0; have X3 := xsF.c1
      go_wp2_with fail
      refine (eqSeen_bel s2 s0 Wf hs2 HE2.out.1 HE2.out.2 xsF.at_ xsG.at_).mono ?_
      rintro e W30 ⟨rfl, hb30⟩
      have bxH := bxF.below hb30
      have hmH := hmF.below hb30
      have hc0 := cb hb30 fc0
      have hc1 := cb hb30 fc1
      clear X0 X1 X2 X3 xsF xsG bxF hmF fc0 fc1 hb30
      go_wp2_with fail
      refine (heldSeen_any s1 W30 hsl hmH).mono ?_
      rintro e W31 ⟨rfl, rfl⟩
      go_wp2_with fail
      go_ret
      exact ⟨rfl, bxH.bel.alloc bxH.bel.size _⟩

end Go.Proofs.Ytflmejjhnkpodaa
