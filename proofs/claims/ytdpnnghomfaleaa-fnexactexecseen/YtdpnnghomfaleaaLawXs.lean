/- The law FnExactExecSeen, walked: it answers true, and leaves all as it was. Of programs and ways of at most 9223372036854775807 parts each: more than a machine holds. -/
import Derived.Test.YtdpnnghomfaleaaLawXo
import Derived.Test.YtdpnnghomfaleaaMarkX
import Derived.Test.YtdpnnghomfaleaaSxL
namespace Go.Proofs.Ytdpnnghomfaleaa
open Go.RowKit

theorem cb {W W' : World} {p : Addr} {v : Value} (hb : Below W.heap.size W W') (h : W.cell? p = some v) : W'.cell? p = some v := (hb.cell (p := p) (World.block_lt_of_cell? _ _ h)).trans h

theorem NewX.xo {w : World} {B N g1 g2 : Nat} {t : Xo} (h : NewX w B N g1 g2 t.l t.rows) : NewXo w g1 g2 t := ⟨h.f, h.r.old⟩
theorem toXn_any (t : Xo) (w : World) (hl : t.Le 1048576) (h : t.At w) :
    Calls Try.prog 13 #[.agg #[.slice t.fa t.l.length t.fc, .slice t.ra t.rows.length t.rc]] w fun e w' => ∃ g1 g2, e = .returned (.agg #[.slice (some ⟨g1, 0, none⟩) t.l.length t.l.length, .slice (some ⟨g2, 0, none⟩) t.rows.length t.rows.length]) ∧ NewX w' w.heap.size w'.heap.size g1 g2 t.l t.rows ∧ Below w.heap.size w w' :=
  toExec_any t.fa t.fb t.fo t.fc t.l t.ra t.rb t.ro t.rc t.rows w hl.l hl.rows hl.each h.f h.r
theorem ixs_any (a : Option Addr) (b o c : Nat) (ll : List (List M.D)) (t : Xo) (g1 g2 : Nat) (ok : Bool) (w : World) (hl : ll.length ≤ 1048576) (hls : ∀ t ∈ ll, t.length ≤ 1048576) (ht : t.Le 1048576) (hok : M.execOk ll t.l t.rows = ok) (h : DoSS w a b o ll) (hx : NewXo w g1 g2 t) :
    Calls Try.prog 18 #[.agg #[.slice a ll.length c], .agg #[.slice (some ⟨g1, 0, none⟩) t.l.length t.l.length, .slice (some ⟨g2, 0, none⟩) t.rows.length t.rows.length]] w fun e w' => ∃ s : Sn, e = .returned (.tuple #[.agg #[.slice s.a1 s.l1.length s.c1, .slice s.a2 s.l2.length s.c2], .bool ok]) ∧ Hid ((s.l1, s.l2) = M.execSeen ll t.l t.rows) ∧ NewS w.heap.size w' s ∧ w.heap.size ≤ s.b1 ∧ w.heap.size ≤ s.b2 ∧ Below w.heap.size w w' := by
  subst hok
  exact (iexecSeen_any a b o c ll _ g1 0 _ t.l _ g2 0 _ t.rows w hl hls ht.l ht.rows ht.each h hx.f hx.r).mono fun _ _ ⟨s, he, h1, h2, hn, hb⟩ => ⟨s, he, (by show _ = _; rw [h1, h2]), hn, hn.ge1, hn.ge2, hb⟩
theorem sxs_any (a : Option Addr) (b o c : Nat) (ll : List (List M.D)) (t : Xo) (g1 g2 : Nat) (ok : Bool) (w : World) (hl : ll.length ≤ 1048576) (hls : ∀ t ∈ ll, t.length ≤ 1048576) (ht : t.Le 1048576) (hok : M.execOk ll t.l t.rows = ok) (h : DoSS w a b o ll) (hx : NewXo w g1 g2 t) :
    Calls Try.prog 17 #[.agg #[.slice a ll.length c], .agg #[.slice (some ⟨g1, 0, none⟩) t.l.length t.l.length, .slice (some ⟨g2, 0, none⟩) t.rows.length t.rows.length]] w fun e w' => ∃ s : Sn, e = .returned (.tuple #[.agg #[.slice s.a1 s.l1.length s.c1, .slice s.a2 s.l2.length s.c2], .bool ok]) ∧ Hid ((s.l1, s.l2) = M.execSeen ll t.l t.rows) ∧ s.At w' ∧ w.heap.size ≤ s.b1 ∧ w.heap.size ≤ s.b2 ∧ Below w.heap.size w w' := by
  subst hok
  exact (sexecSeen_any a b o c ll _ g1 0 _ t.l _ g2 0 _ t.rows w hl hls ht.l ht.each h hx.f hx.r).mono fun _ _ ⟨s, he, h1, h2, hn, hg1, hg2, hb⟩ => ⟨s, he, (by show _ = _; rw [h1, h2]), hn, hg1, hg2, hb⟩

theorem M.execSeen_le {ll : List (List M.D)} {l : List Int} {rows : List (List Int)} {l1 l2 : List Int} (h : (l1, l2) = M.execSeen ll l rows) : l1.length ≤ 1048576 ∧ l2.length ≤ 1048576 := by
  unfold M.execSeen at h
  split at h
  · rename_i hok
    have hW := M.way_of hok
    obtain ⟨h3, h7⟩ := M.prog_bounds hW.prog
    have hdl := M.deeds_len h3 h7
    have := M.rd_len (M.deeds ll) l (M.deeds ll) 0
    have h3' := hW.three.out
    simp only [Prod.mk.injEq] at h
    obtain ⟨rfl, rfl⟩ := h
    simp only [M.seenR, M.seenL, List.length_map]
    omega
  · simp only [Prod.mk.injEq] at h
    obtain ⟨rfl, rfl⟩ := h
    simp

/-- What stands through the law's calls: the boxes of its two arguments. -/
structure BxA (w W : World) (a : Option Addr) (c : Nat) (ll : List (List M.D)) (t : Xo) : Prop where
  bel : Below w.heap.size w W
  p0 : W.cell? ⟨w.heap.size, 0, none⟩ = some (.slice a ll.length c)
  q0 : W.cell? ⟨w.heap.size + 1, 0, none⟩ = some (.slice t.fa t.l.length t.fc)
  q1 : W.cell? ⟨w.heap.size + 1, 1, none⟩ = some (.slice t.ra t.rows.length t.rc)
theorem BxA.lt {w W : World} {a : Option Addr} {c : Nat} {ll : List (List M.D)} {t : Xo} (h : BxA w W a c ll t) : w.heap.size + 1 < W.heap.size := World.block_lt_of_cell? _ _ h.q0
theorem BxA.below {w W W' : World} {a : Option Addr} {c : Nat} {ll : List (List M.D)} {t : Xo} (h : BxA w W a c ll t) (hb : Below W.heap.size W W') : BxA w W' a c ll t :=
  ⟨h.bel.trans (hb.mono h.bel.size), cb hb h.p0, cb hb h.q0, cb hb h.q1⟩
theorem BxA.mk_ {P : Nat → Prop} {w W W' : World} {a : Option Addr} {c : Nat} {ll : List (List M.D)} {t : Xo} (h : BxA w W a c ll t) (hm : Mk P W W') (hP : ∀ j, P j → w.heap.size ≤ j) : BxA w W' a c ll t :=
  ⟨hm.below h.bel hP, hm.rest _ _ h.p0 (fun _ e => by cases e), hm.rest _ _ h.q0 (fun _ e => by cases e), hm.rest _ _ h.q1 (fun _ e => by cases e)⟩
/-- .. and a variable of what was seen. -/
structure BxS (W : World) (X : Nat) (s : Sn) : Prop where
  c0 : W.cell? ⟨X, 0, none⟩ = some (.slice s.a1 s.l1.length s.c1)
  c1 : W.cell? ⟨X, 1, none⟩ = some (.slice s.a2 s.l2.length s.c2)
theorem BxS.lt {W : World} {X : Nat} {s : Sn} (h : BxS W X s) : X < W.heap.size := World.block_lt_of_cell? _ _ h.c0
theorem BxS.below {W W' : World} {X : Nat} {s : Sn} (h : BxS W X s) (hb : Below W.heap.size W W') : BxS W' X s := ⟨cb hb h.c0, cb hb h.c1⟩
theorem BxS.mk_ {P : Nat → Prop} {W W' : World} {X : Nat} {s : Sn} (h : BxS W X s) (hm : Mk P W W') : BxS W' X s := ⟨hm.rest _ _ h.c0 (fun _ e => by cases e), hm.rest _ _ h.c1 (fun _ e => by cases e)⟩
theorem BxS.new (W : World) (s : Sn) : BxS (W.alloc (.cells #[.slice s.a1 s.l1.length s.c1, .slice s.a2 s.l2.length s.c2] 42)) W.heap.size s := ⟨by simp, by simp⟩
/-- Both together, the variable laid last or first. -/
structure F8 (w W : World) (a : Option Addr) (c : Nat) (ll : List (List M.D)) (t : Xo) (X : Nat) (s : Sn) : Prop where
  bx : BxA w W a c ll t
  xs : BxS W X s
  at_ : s.At W
theorem F8.last {w v3 : World} {a : Option Addr} {c : Nat} {ll : List (List M.D)} {t : Xo} {s : Sn} (h : BxA w v3 a c ll t) (hat : s.At v3) : F8 w (v3.alloc (.cells #[.slice s.a1 s.l1.length s.c1, .slice s.a2 s.l2.length s.c2] 42)) a c ll t v3.heap.size s :=
  ⟨h.below (below1 _ _), BxS.new _ _, hat.below (below1 _ _) (Nat.le_refl _)⟩
theorem F8.first {w v3 : World} {a : Option Addr} {c : Nat} {ll : List (List M.D)} {t : Xo} {s : Sn} {X : Nat} {u1 u2 : Value} (h : BxA w v3 a c ll t) (hat : s.At v3) (hV : Slot2 v3 X u1 u2) (hX : w.heap.size + 1 < X) (h1 : X < s.b1) (h2 : X < s.b2) : F8 w ((v3.setCell ⟨X, 0, none⟩ (.slice s.a1 s.l1.length s.c1)).setCell ⟨X, 1, none⟩ (.slice s.a2 s.l2.length s.c2)) a c ll t X s := by
  have V2 := (hV.set0 (.slice s.a1 s.l1.length s.c1)).set1 (.slice s.a2 s.l2.length s.c2)
  refine ⟨⟨(h.bel.setCell (by show w.heap.size ≤ X; omega) _).setCell (by show w.heap.size ≤ X; omega) _, ?_, ?_, ?_⟩, ⟨V2.c0, V2.c1⟩, (hat.far (fun _ => by omega) (fun _ => by omega)).far (fun _ => by omega) (fun _ => by omega)⟩
  · rw [World.cell?_setCell_other _ _ _ _ (fun e => by have := congrArg Addr.block e; simp at this; omega), World.cell?_setCell_other _ _ _ _ (fun e => by have := congrArg Addr.block e; simp at this; omega)]; exact h.p0
  · rw [World.cell?_setCell_other _ _ _ _ (fun e => by have := congrArg Addr.block e; simp at this; omega), World.cell?_setCell_other _ _ _ _ (fun e => by have := congrArg Addr.block e; simp at this; omega)]; exact h.q0
  · rw [World.cell?_setCell_other _ _ _ _ (fun e => by have := congrArg Addr.block e; simp at this; omega), World.cell?_setCell_other _ _ _ _ (fun e => by have := congrArg Addr.block e; simp at this; omega)]; exact h.q1

/-- The variable of what was seen, laid last or first, behind three calls. -/
structure F31 (W Wf : World) (X : Nat) (s : Sn) : Prop where
  bel : Below W.heap.size W Wf
  xs : BxS Wf X s
  at_ : s.At Wf
theorem F31.last {W v3 : World} {s : Sn} (h : Below W.heap.size W v3) (hat : s.At v3) : F31 W (v3.alloc (.cells #[.slice s.a1 s.l1.length s.c1, .slice s.a2 s.l2.length s.c2] 42)) v3.heap.size s :=
  ⟨h.alloc h.size _, BxS.new _ _, hat.below (below1 _ _) (Nat.le_refl _)⟩
theorem F31.first {W v3 : World} {s : Sn} {X : Nat} {u1 u2 : Value} (h : Below W.heap.size W v3) (hat : s.At v3) (hV : Slot2 v3 X u1 u2) (hX : W.heap.size ≤ X) (h1 : X < s.b1) (h2 : X < s.b2) : F31 W ((v3.setCell ⟨X, 0, none⟩ (.slice s.a1 s.l1.length s.c1)).setCell ⟨X, 1, none⟩ (.slice s.a2 s.l2.length s.c2)) X s := by
  have V2 := (hV.set0 (.slice s.a1 s.l1.length s.c1)).set1 (.slice s.a2 s.l2.length s.c2)
  exact ⟨(h.setCell hX _).setCell hX _, ⟨V2.c0, V2.c1⟩, (hat.far (fun _ => by omega) (fun _ => by omega)).far (fun _ => by omega) (fun _ => by omega)⟩

/-- All that stands ahead of the marking. -/
structure Al (w W : World) (a : Option Addr) (c : Nat) (ll : List (List M.D)) (t : Xo) (X P Q R x1 y1 y2 B1 N1 B2 N2 : Nat) (s0 s1 : Sn) : Prop where
  bx : BxA w W a c ll t
  xs : BxS W X s0
  at0 : s0.At W
  ps : W.cell? ⟨P, 0, none⟩ = some (.slice (some ⟨x1, 0, none⟩) ll.length ll.length)
  q0 : W.cell? ⟨Q, 0, none⟩ = some (.slice (some ⟨y1, 0, none⟩) t.l.length t.l.length)
  q1 : W.cell? ⟨Q, 1, none⟩ = some (.slice (some ⟨y2, 0, none⟩) t.rows.length t.rows.length)
  rs : BxS W R s1
  at1 : s1.At W
  own : Own2 W s1
  hx : NewSS W B1 N1 x1 ll
  hy : NewX W B2 N2 y1 y2 t.l t.rows
theorem Al.below {w W W' : World} {a : Option Addr} {c : Nat} {ll : List (List M.D)} {t : Xo} {X P Q R x1 y1 y2 B1 N1 B2 N2 : Nat} {s0 s1 : Sn} (h : Al w W a c ll t X P Q R x1 y1 y2 B1 N1 B2 N2 s0 s1) (hb : Below W.heap.size W W') : Al w W' a c ll t X P Q R x1 y1 y2 B1 N1 B2 N2 s0 s1 :=
  ⟨h.bx.below hb, h.xs.below hb, h.at0.below hb (Nat.le_refl _), cb hb h.ps, cb hb h.q0, cb hb h.q1, h.rs.below hb, h.at1.below hb (Nat.le_refl _), h.own.below h.at1 hb, h.hx.below hb (Nat.le_refl _), h.hy.below hb (Nat.le_refl _)⟩
/-- All that stands behind the marking of the arguments. -/
structure Am (w W : World) (a : Option Addr) (c : Nat) (ll : List (List M.D)) (t : Xo) (X R : Nat) (s0 s1 : Sn) : Prop where
  bx : BxA w W a c ll t
  xs : BxS W X s0
  at0 : s0.At W
  rs : BxS W R s1
  at1 : s1.At W
  own : Own2 W s1
theorem Am.below {w W W' : World} {a : Option Addr} {c : Nat} {ll : List (List M.D)} {t : Xo} {X R : Nat} {s0 s1 : Sn} (h : Am w W a c ll t X R s0 s1) (hb : Below W.heap.size W W') : Am w W' a c ll t X R s0 s1 :=
  ⟨h.bx.below hb, h.xs.below hb, h.at0.below hb (Nat.le_refl _), h.rs.below hb, h.at1.below hb (Nat.le_refl _), h.own.below h.at1 hb⟩
theorem Sn.At.mkFar {P : Nat → Prop} {w w' : World} {s : Sn} (h : s.At w) (hm : Mk P w w') (hP : ∀ j, P j → ¬ s.blk j) : s.At w' :=
  ⟨h.reads.mkFar hm (fun hl hp => hP _ hp (Or.inl ⟨hl, rfl⟩)), h.last.mkFar hm (fun hl hp => hP _ hp (Or.inr ⟨hl, rfl⟩))⟩
theorem Am.mk_ {P : Nat → Prop} {w W W' : World} {a : Option Addr} {c : Nat} {ll : List (List M.D)} {t : Xo} {X R : Nat} {s0 s1 : Sn} (h : Am w W a c ll t X R s0 s1) (hm : Mk P W W') (hw : ∀ j, P j → w.heap.size ≤ j) (h0 : ∀ j, P j → ¬ s0.blk j) (h1 : ∀ j, P j → ¬ s1.blk j) : Am w W' a c ll t X R s0 s1 :=
  ⟨h.bx.mk_ hm hw, h.xs.mk_ hm, h.at0.mkFar hm h0, h.rs.mk_ hm, h.at1.mkFar hm h1, ⟨h.own.ne, fun b hb j => (hm.fz _).trans (h.own.fz b hb j)⟩⟩
/-- All that stands behind the marking of the answer. -/
structure An (w W : World) (a : Option Addr) (c : Nat) (ll : List (List M.D)) (t : Xo) (X R : Nat) (s0 s1 : Sn) : Prop where
  bx : BxA w W a c ll t
  xs : BxS W X s0
  at0 : s0.At W
  rs : BxS W R s1
  mk1 : SnM W s1
theorem An.below {w W W' : World} {a : Option Addr} {c : Nat} {ll : List (List M.D)} {t : Xo} {X R : Nat} {s0 s1 : Sn} (h : An w W a c ll t X R s0 s1) (hb : Below W.heap.size W W') : An w W' a c ll t X R s0 s1 :=
  ⟨h.bx.below hb, h.xs.below hb, h.at0.below hb (Nat.le_refl _), h.rs.below hb, h.mk1.below hb⟩

theorem slot_of {v2 v3 : World} (hb : Below (v2.alloc (.cells #[.slice none 0 0, .slice none 0 0] 42)).heap.size (v2.alloc (.cells #[.slice none 0 0, .slice none 0 0] 42)) v3) : Slot2 v3 v2.heap.size (.slice none 0 0) (.slice none 0 0) :=
  ⟨(hb.block v2.heap.size (by simp)).trans (alloc_new _ _ _ rfl)⟩
theorem slot_drew {v2 v3 : World} (hb : Below (v2.alloc (.cells #[.slice none 0 0, .slice none 0 0] 42)).drew.heap.size (v2.alloc (.cells #[.slice none 0 0, .slice none 0 0] 42)).drew v3) : Slot2 v3 v2.heap.size (.slice none 0 0) (.slice none 0 0) :=
  ⟨(hb.block v2.heap.size (show v2.heap.size < (v2.alloc (.cells #[.slice none 0 0, .slice none 0 0] 42)).heap.size by simp)).trans (alloc_new _ _ _ rfl)⟩

set_option maxHeartbeats 4000000 in
set_option maxRecDepth 100000 in
theorem lawExecSeen_any (a : Option Addr) (b o c : Nat) (ll : List (List M.D)) (t : Xo) (w : World) (hl0 : ll.length ≤ 9223372036854775807) (hls0 : ∀ t ∈ ll, t.length ≤ 9223372036854775807) (ht0 : t.Le 9223372036854775807) (hsa : DoSS w a b o ll) (hta : t.At w) :
    Calls Try.prog 4 #[.agg #[.slice a ll.length c], .agg #[.slice t.fa t.l.length t.fc, .slice t.ra t.rows.length t.rc]] w fun e w' => e = .returned (.bool true) ∧ Below w.heap.size w w' := by
  go_enter Try.func4, Try.ntmps4
  go_wp2_with fail
  refine (szProg_le a b o c ll _ hl0 hls0 (hsa.below (below2 w _ _) (Nat.le_refl _))).mono ?_
  rintro e w1 ⟨r1, rfl, rfl, hor1⟩
  by_cases hn1 : r1 < 0
  · go_wp2_with fail
    go_ret
    exact ⟨rfl, below3 _ _ _ _⟩
  obtain ⟨hr1, _, hl, hls⟩ := hor1.resolve_left hn1
  clear hor1
  go_wp2_with fail
  refine (szXo_any t r1 _ (by omega) hr1 ht0 (hta.below (below3 w _ _ _) (Nat.le_refl _))).mono ?_
  rintro e w1 ⟨r2, rfl, rfl, hr2, hor2⟩
  have hb4 := (below3 w (.cells #[.slice a ll.length c] 24) (.cells #[.slice t.fa t.l.length t.fc, .slice t.ra t.rows.length t.rc] 28) (.cells #[.slice a ll.length c] 24)).alloc (by simp; omega) (.cells #[.slice t.fa t.l.length t.fc, .slice t.ra t.rows.length t.rc] 28)
  by_cases hn2 : r2 < 0
  · go_wp2_with fail
    go_ret
    exact ⟨rfl, hb4⟩
  have ht := (hor2.resolve_left hn2).2
  clear hor2
  have bxW : BxA w _ a c ll t := ⟨hb4, by simp [go_sem], by simp [go_sem], by simp [go_sem]⟩
  generalize ((((w.alloc (.cells #[.slice a ll.length c] 24)).alloc (.cells #[.slice t.fa t.l.length t.fc, .slice t.ra t.rows.length t.rc] 28)).alloc (.cells #[.slice a ll.length c] 24)).alloc (.cells #[.slice t.fa t.l.length t.fc, .slice t.ra t.rows.length t.rc] 28)) = W at *
  clear hb4 hl0 hls0 ht0
  go_wp2_with fail
  have X0 := bxW.p0; have X2 := bxW.q0; have X3 := bxW.q1; have lt0 := bxW.lt
  have n0 : W.heap.size ≠ w.heap.size := by omega
  have n0' : W.heap.size ≠ w.heap.size + 1 := by omega
  obtain ⟨ok, hro⟩ : ∃ r, M.execOk ll t.l t.rows = r := ⟨_, rfl⟩
  have HR : Hid (M.execOk ll t.l t.rows = ok) := hro
  clear hro
  go_region_held3 (fun w' => w'.cell? ⟨w.heap.size, 0, none⟩ = some (.slice a ll.length c) ∧ w'.cell? ⟨w.heap.size + 1, 0, none⟩ = some (.slice t.fa t.l.length t.fc) ∧ w'.cell? ⟨w.heap.size + 1, 1, none⟩ = some (.slice t.ra t.rows.length t.rc)) (go_keep) (first
    | (go_at_call 12; refine (toProg_any a b o c ll _ hl hls (hsa.below (by first | exact bxW.bel.drew | exact (bxW.bel.alloc bxW.bel.size _).drew) (Nat.le_refl _))).mono ?_; rintro e v1 ⟨g1, rfl, hn1, hb1⟩; have hW1 : Below W.heap.size W v1 := (by first | exact (Below.refl _ _).drew.trans hb1 | exact ((below1 W _).drew).trans (hb1.mono (below1 W _).size)); have bx1 := bxW.below hW1; have Y0 := bx1.p0; have Y2 := bx1.q0; have Y3 := bx1.q1; have lt1 := bx1.lt; have n1 : v1.heap.size ≠ w.heap.size := (by omega); have n1' : v1.heap.size ≠ w.heap.size + 1 := (by omega); (try (have V1 : Slot2 v1 W.heap.size (.slice none 0 0) (.slice none 0 0) := slot_drew hb1)))
    | (go_at_call 13; refine (toXn_any t _ ht (hta.below (by first | exact bx1.bel | exact bx1.bel.alloc bx1.bel.size _) (Nat.le_refl _))).mono ?_; rintro e v2 ⟨g3, g4, rfl, hn2, hb2⟩; have hW2 : Below v1.heap.size v1 v2 := (by first | exact hb2 | exact bel_box (Below.refl _ _) hb2); have bx2 := bx1.below hW2; have U0 := bx2.p0; have U2 := bx2.q0; have U3 := bx2.q1; have lt2 := bx2.lt; have n2 : v2.heap.size ≠ w.heap.size := (by omega); have n2' : v2.heap.size ≠ w.heap.size + 1 := (by omega); have hno := hn1.old.below hW2 (Nat.le_refl _); (try (have V2 := V1.of (hW2.block _ V1.lt))); (try (have R2 : Slot2 v2 v1.heap.size (.slice none 0 0) (.slice none 0 0) := slot_of hb2)))
    | (go_at_call 17; refine (sxs_any _ g1 0 ll.length ll t g3 g4 ok _ hl hls ht HR.out (hno.below (by first | exact Below.refl _ _ | exact below1 _ _) (Nat.le_refl _)) (hn2.xo.below (by first | exact Below.refl _ _ | exact below1 _ _) (Nat.le_refl _))).mono ?_; rintro e v3 ⟨s0, rfl, HK, hat, hg1, hg2, hb3⟩; have hW3 : Below v2.heap.size v2 v3 := (by first | exact hb3 | exact bel_box (Below.refl _ _) hb3); have bx3 := bx2.below hW3; have Z0 := bx3.p0; have Z2 := bx3.q0; have Z3 := bx3.q1; have lt3 := bx3.lt; (try (have V3 := V2.of (hW3.block _ V2.lt); have v0 := V3.c0; have v1c := V3.c1; have vf := V3.fz)); (try (have R3 := R2.of (hW3.block _ R2.lt); have r0 := R3.c0; have r1c := R3.c1; have rf := R3.fz)); (try (have T3 : Slot2 v3 v2.heap.size (.slice none 0 0) (.slice none 0 0) := slot_of hb3; have t0 := T3.c0; have t1c := T3.c1; have tf := T3.fz))))
  all_goals
    have hmax : s0.l1.length ≤ 1048576 ∧ s0.l2.length ≤ 1048576 := M.execSeen_le HK.out
    have HK0 := HK
    first
    | (have F : F8 w ((v3.setCell ⟨v2.heap.size, 0, none⟩ (.slice s0.a1 s0.l1.length s0.c1)).setCell ⟨v2.heap.size, 1, none⟩ (.slice s0.a2 s0.l2.length s0.c2)) a c ll t v2.heap.size s0 := F8.first bx3 hat T3 (by omega) (by (try simp only [World.size_alloc] at hg1); have := hW2.size; have := hW1.size; (try (have := R2.lt)); (try (have := V1.lt)); omega) (by (try simp only [World.size_alloc] at hg2); have := hW2.size; have := hW1.size; (try (have := R2.lt)); (try (have := V1.lt)); omega)
       generalize (v3.setCell ⟨v2.heap.size, 0, none⟩ (.slice s0.a1 s0.l1.length s0.c1)).setCell ⟨v2.heap.size, 1, none⟩ (.slice s0.a2 s0.l2.length s0.c2) = W8 at F ⊢
       generalize v2.heap.size = X at F ⊢)
    | (have F : F8 w ((v3.setCell ⟨v1.heap.size, 0, none⟩ (.slice s0.a1 s0.l1.length s0.c1)).setCell ⟨v1.heap.size, 1, none⟩ (.slice s0.a2 s0.l2.length s0.c2)) a c ll t v1.heap.size s0 := F8.first bx3 hat R3 (by omega) (by (try simp only [World.size_alloc] at hg1); have := hW2.size; have := hW1.size; (try (have := R2.lt)); (try (have := V1.lt)); omega) (by (try simp only [World.size_alloc] at hg2); have := hW2.size; have := hW1.size; (try (have := R2.lt)); (try (have := V1.lt)); omega)
       generalize (v3.setCell ⟨v1.heap.size, 0, none⟩ (.slice s0.a1 s0.l1.length s0.c1)).setCell ⟨v1.heap.size, 1, none⟩ (.slice s0.a2 s0.l2.length s0.c2) = W8 at F ⊢
       generalize v1.heap.size = X at F ⊢)
    | (have F : F8 w ((v3.setCell ⟨W.heap.size, 0, none⟩ (.slice s0.a1 s0.l1.length s0.c1)).setCell ⟨W.heap.size, 1, none⟩ (.slice s0.a2 s0.l2.length s0.c2)) a c ll t W.heap.size s0 := F8.first bx3 hat V3 (by omega) (by (try simp only [World.size_alloc] at hg1); have := hW2.size; have := hW1.size; (try (have := R2.lt)); (try (have := V1.lt)); omega) (by (try simp only [World.size_alloc] at hg2); have := hW2.size; have := hW1.size; (try (have := R2.lt)); (try (have := V1.lt)); omega)
       generalize (v3.setCell ⟨W.heap.size, 0, none⟩ (.slice s0.a1 s0.l1.length s0.c1)).setCell ⟨W.heap.size, 1, none⟩ (.slice s0.a2 s0.l2.length s0.c2) = W8 at F ⊢
       generalize W.heap.size = X at F ⊢)
    | (have F : F8 w (v3.alloc (.cells #[.slice s0.a1 s0.l1.length s0.c1, .slice s0.a2 s0.l2.length s0.c2] 42)) a c ll t v3.heap.size s0 := F8.last bx3 hat
       generalize v3.alloc (.cells #[.slice s0.a1 s0.l1.length s0.c1, .slice s0.a2 s0.l2.length s0.c2] 42) = W8 at F ⊢
       generalize v3.heap.size = X at F ⊢)
    clear hg1 hg2 Z0 Z2 Z3 U0 U2 U3 Y0 Y2 Y3 X0 X2 X3 lt0 lt1 lt2 lt3 n0 n0' n1 n1' n2 n2' hno bx1 bx2 bx3 hW1 hW2 hW3 hb1 hb2 hb3 hn1 hn2 hat bxW HK
    (try clear T3 t0 t1c tf)
    (try clear R3 r0 r1c rf)
    (try clear R2)
    (try clear V3 v0 v1c vf)
    (try clear V2)
    (try clear V1)
    obtain ⟨bx8, xs8, at8⟩ := F
    have P0 := bx8.p0
    have lo0 : ∀ b, s0.blk b → b < W8.heap.size := fun b hb => Sn.blk_lt at8 hb
    have hwB := bx8.bel.size
    go_wp2_with fail
    refine (toProg_any a b o c ll _ hl hls (hsa.below bx8.bel (Nat.le_refl _))).mono ?_
    rintro e w9 ⟨x1, rfl, hx, hb9⟩
    have bx9 := bx8.below hb9
    have P9 := bx9.p0; have Q9 := bx9.q0; have Q9' := bx9.q1; have L9 := bx9.lt
    go_wp2_with fail
    refine (toXn_any t _ ht (hta.below (bx9.below (below1 _ _)).bel (Nat.le_refl _))).mono ?_
    rintro e w10 ⟨y1, y2, rfl, hy, hb10⟩
    have hb910 : Below w9.heap.size w9 w10 := bel_box (Below.refl _ _) hb10
    have bx10 := bx9.below hb910
    have pc : w10.cell? ⟨w9.heap.size, 0, none⟩ = some (.slice (some ⟨x1, 0, none⟩) ll.length ll.length) := cb hb10 (by simp)
    have lpc : w9.heap.size < w10.heap.size := World.block_lt_of_cell? _ _ pc
    clear P0 P9 Q9 Q9' L9
    go_wp2_with fail
    refine (ixs_any _ x1 0 ll.length ll t y1 y2 ok _ hl hls ht HR.out ((hx.old.below hb910 (Nat.le_refl _)).below (below1 _ _) (Nat.le_refl _)) (hy.xo.below (below1 _ _) (Nat.le_refl _))).mono ?_
    rintro e w11 ⟨s1, rfl, HK1, hnew, _, _, hb11⟩
    have hb1011 : Below w10.heap.size w10 w11 := bel_box (Below.refl _ _) hb11
    have qc0 : w11.cell? ⟨w10.heap.size, 0, none⟩ = some (.slice (some ⟨y1, 0, none⟩) t.l.length t.l.length) := cb hb11 (by simp)
    have qc1 : w11.cell? ⟨w10.heap.size, 1, none⟩ = some (.slice (some ⟨y2, 0, none⟩) t.rows.length t.rows.length) := cb hb11 (by simp)
    have al : Al w (w11.alloc (.cells #[.slice s1.a1 s1.l1.length s1.c1, .slice s1.a2 s1.l2.length s1.c2] 42)) a c ll t X w9.heap.size w10.heap.size w11.heap.size x1 y1 y2 W8.heap.size w9.heap.size (w9.heap.size + 1) w10.heap.size s0 s1 :=
      ⟨(bx10.below hb1011).below (below1 _ _), (((xs8.below hb9).below hb910).below hb1011).below (below1 _ _), (((at8.below hb9 (Nat.le_refl _)).below hb910 (Nat.le_refl _)).below hb1011 (Nat.le_refl _)).below (below1 _ _) (Nat.le_refl _), cb (below1 _ _) (cb hb1011 pc), cb (below1 _ _) qc0, cb (below1 _ _) qc1, BxS.new _ _, hnew.at_.below (below1 _ _) (Nat.le_refl _), hnew.own.below hnew.at_ (below1 _ _),
        ((hx.below hb910 (Nat.le_refl _)).below hb1011 (Nat.le_refl _)).below (below1 _ _) (Nat.le_refl _), by have hy' := ((hy.below hb1011 (Nat.le_refl _)).below (below1 w11 (.cells #[.slice s1.a1 s1.l1.length s1.c1, .slice s1.a2 s1.l2.length s1.c2] 42)) (Nat.le_refl _)); rw [World.size_alloc] at hy'; exact hy'⟩
    have g1 := hnew.ge1
    have g2 := hnew.ge2
    rw [World.size_alloc] at g1 g2
    have lo1 : ∀ b, s1.blk b → w10.heap.size < b := fun b hb => by
      rcases hb with ⟨_, e⟩ | ⟨_, e⟩ <;> omega
    have o1 := hb9.size
    clear g1 g2 hnew hb11 hb1011 qc0 qc1 pc hb910 hb10 bx10 bx9 hb9 hx hy xs8 at8 bx8
    have rx0 := al.xs.c0; have rx1 := al.xs.c1
    go_wp2_with fail
    clear rx0 rx1
    generalize (w11.alloc (.cells #[.slice s1.a1 s1.l1.length s1.c1, .slice s1.a2 s1.l2.length s1.c2] 42)) = W12 at al ⊢
    obtain ⟨R, hR⟩ : ∃ R, w11.heap.size = R := ⟨_, rfl⟩
    obtain ⟨B1, hB1⟩ : ∃ R, W8.heap.size = R := ⟨_, rfl⟩
    obtain ⟨N1, hN1⟩ : ∃ R, w9.heap.size = R := ⟨_, rfl⟩
    obtain ⟨N2, hN2⟩ : ∃ R, w10.heap.size = R := ⟨_, rfl⟩
    rw [hR, hB1, hN1, hN2] at al
    rw [hB1] at lo0 hwB o1
    rw [hN1] at o1 lpc
    rw [hN2] at lo1 lpc
    rw [hR, hN1, hN2]
    clear hR hB1 hN1 hN2
    have hsl : s1.Le 1048576 := ⟨(M.execSeen_le HK1.out).1, (M.execSeen_le HK1.out).2⟩
    have HE : Hid (s0.l1 = s1.l1 ∧ s0.l2 = s1.l2) := by
      have := HK0.out.trans HK1.out.symm
      simp only [Prod.mk.injEq] at this
      exact this
    refine (eqSeen_bel s1 s0 W12 hsl HE.out.1 HE.out.2 al.at1 al.at0).mono ?_
    rintro e W13 ⟨rfl, hb13⟩
    have al13 := al.below hb13
    clear al hb13
    go_wp2_with fail
    have al14 := al13.below (Below.refl _ _).drew
    have C1 := toProg_any a b o c ll W13.drew hl hls (hsa.below al14.bx.bel (Nat.le_refl _))
    have X0 := al13.bx.p0; have X1 := al13.ps
    go_region_held3 (fun w' => w'.cell? ⟨w.heap.size, 0, none⟩ = some (.slice a ll.length c) ∧ w'.cell? ⟨N1, 0, none⟩ = some (.slice (some ⟨x1, 0, none⟩) ll.length ll.length)) (go_keep) (first
      | (go_at_call 12; refine C1.mono ?_; rintro e W14 ⟨g1, rfl, hn1, hb1⟩; have al15 := al14.below hb1; have Y0 := al15.bx.p0; have Y1 := al15.ps)
      | (go_at_call 15; refine (eqProg_same _ x1 0 ll.length _ g1 0 ll.length ll _ hl hls al15.hx.old hn1.old).mono ?_; rintro e W15 ⟨rfl, hb15⟩; have al16 := al15.below hb15; have Z0 := al16.bx.p0; have Z1 := al16.ps))
    clear X0 X1 Y0 Y1 Z0 Z1 C1 al13 al14 al15 hn1 hb1 hb15
    have X0 := al16.bx.q0; have X1 := al16.bx.q1; have X2 := al16.q0; have X3 := al16.q1
    go_wp2_with fail
    have al17 := al16.below (Below.refl _ _).drew
    have C2 := toXn_any t W15.drew ht (hta.below al17.bx.bel (Nat.le_refl _))
    go_region_held3 (fun w' => w'.cell? ⟨w.heap.size + 1, 0, none⟩ = some (.slice t.fa t.l.length t.fc) ∧ w'.cell? ⟨w.heap.size + 1, 1, none⟩ = some (.slice t.ra t.rows.length t.rc) ∧ w'.cell? ⟨N2, 0, none⟩ = some (.slice (some ⟨y1, 0, none⟩) t.l.length t.l.length) ∧ w'.cell? ⟨N2, 1, none⟩ = some (.slice (some ⟨y2, 0, none⟩) t.rows.length t.rows.length)) (go_keep) (first
      | (go_at_call 13; refine C2.mono ?_; rintro e W16 ⟨g3, g4, rfl, hn2, hb2⟩; have al18 := al17.below hb2; have Y0 := al18.bx.q0; have Y1 := al18.bx.q1; have Y2 := al18.q0; have Y3 := al18.q1)
      | (go_at_call 16; refine (eqXo_any t al18.hy.xo hn2.xo ht).mono ?_; rintro e W17 ⟨rfl, hg13⟩; have al19 := al18.below hg13; have Z0 := al19.bx.q0; have Z1 := al19.bx.q1; have Z2 := al19.q0; have Z3 := al19.q1))
    clear X0 X1 X2 X3 Y0 Y1 Y2 Y3 Z0 Z1 Z2 Z3 C2 al16 al17 al18 hn2 hb2 hg13
    have X0 := al19.ps
    have f1 : ∀ j, N1 ≥ j + 1 ∧ B1 ≤ j → w.heap.size ≤ j := fun j hj => by omega
    go_wp2_with fail
    refine (markProg_any x1 ll.length B1 N1 ll W17 hl hls al19.hx).mono ?_
    rintro e W18 ⟨k1, wa, rfl, hk1, rfl, mk1⟩
    have al20 := al19.below (below1 W17 (.cells #[.slice (some ⟨x1, 0, none⟩) ll.length ll.length] 34))
    have am20 : Am w W18 a c ll t X R s0 s1 := Am.mk_ ⟨al20.bx, al20.xs, al20.at0, al20.rs, al20.at1, al20.own⟩ mk1 (fun j hj => by omega) (fun j hj hb => by have := lo0 j hb; omega) (fun j hj hb => by have := lo1 j hb; omega)
    have y0 := mk1.rest _ _ al20.q0 (fun _ e => by cases e)
    have y1' := mk1.rest _ _ al20.q1 (fun _ e => by cases e)
    have hyC := (al20.hy.f.toC (fun _ j => al20.hy.fz j)).mk_ mk1
    have hyR := al20.hy.r.rowsC.mk_ mk1
    have hge := al20.hy.ge
    have hltN := al20.hy.lt
    clear X0 al19 al20 mk1
    go_wp2_with fail
    refine (markExec_any (N1 + 1) N2 y1 y2 t.l.length t.rows.length t.l t.rows k1 W18 hk1.1 hk1.2 ht.l ht.rows ht.each hyC hge hltN hyR).mono ?_
    rintro e W19 ⟨k2, wb, rfl, hk2, rfl, mk2⟩
    have am21 := am20.below (below1 W18 (.cells #[.slice (some ⟨y1, 0, none⟩) t.l.length t.l.length, .slice (some ⟨y2, 0, none⟩) t.rows.length t.rows.length] 36))
    have am22 := am21.mk_ mk2 (fun j hj => by omega) (fun j hj hb => by have := lo0 j hb; omega) (fun j hj hb => by have := lo1 j hb; omega)
    have X0 := am22.xs.c0; have X1 := am22.xs.c1; have X2 := am22.rs.c0; have X3 := am22.rs.c1
    have k2n : ¬ (k2 < 0) := by omega
    have k2n' : decide (k2 < 0) = false := by simpa using k2n
    clear am20 am21 mk2 y0 y1' hyC hyR hge hltN
    go_wp2_with fail
    refine (eqSeen_bel s1 s0 W19 hsl HE.out.1 HE.out.2 am22.at1 am22.at0).mono ?_
    rintro e W20 ⟨rfl, hb20⟩
    have am23 := am22.below hb20
    clear am22 hb20 X0 X1 X2 X3
    have X2 := am23.rs.c0; have X3 := am23.rs.c1
    go_wp2_with fail
    refine (markSeen_any s1 W20 hsl am23.own.ne ⟨am23.at1.reads.toC (fun hl => am23.own.fz _ (Or.inl ⟨hl, rfl⟩)), am23.at1.last.toC (fun hl => am23.own.fz _ (Or.inr ⟨hl, rfl⟩))⟩).mono ?_
    rintro e W21 ⟨wc, rfl, rfl, mk3, hm1⟩
    have am24 := am23.below (below1 W20 (.cells #[.slice s1.a1 s1.l1.length s1.c1, .slice s1.a2 s1.l2.length s1.c2] 42))
    have an : An w W21 a c ll t X R s0 s1 := ⟨am24.bx.mk_ mk3 (fun j hj => by have := lo1 j hj; omega), am24.xs.mk_ mk3, am24.at0.mkFar mk3 (fun j hj hb => by have := lo0 j hb; have := lo1 j hj; omega), am24.rs.mk_ mk3, hm1⟩
    clear am23 am24 mk3 hm1 X2 X3
    have X2 := an.rs.c0; have X3 := an.rs.c1
    go_wp2_with fail
    refine (heldSeen_any s1 W21 hsl an.mk1).mono ?_
    rintro e W22 ⟨rfl, rfl⟩
    have an2 := an.below (below1 W21 (.cells #[.slice s1.a1 s1.l1.length s1.c1, .slice s1.a2 s1.l2.length s1.c2] 42))
    generalize W21.alloc (.cells #[.slice s1.a1 s1.l1.length s1.c1, .slice s1.a2 s1.l2.length s1.c2] 42) = WM at *
    clear an X2 X3
    have q1 : ¬ ((1 : Int) + s1.l1.length + s1.l2.length < 0) := by omega
    have q1' : decide ((1 : Int) + s1.l1.length + s1.l2.length < 0) = false := by simpa using q1
    go_wp2_with fail
    have bxW := an2.bx
    have X0 := bxW.p0; have X2 := bxW.q0; have X3 := bxW.q1; have lt0 := bxW.lt
    have n0 : WM.heap.size ≠ w.heap.size := by omega
    have n0' : WM.heap.size ≠ w.heap.size + 1 := by omega
    go_region_held3 (fun w' => w'.cell? ⟨w.heap.size, 0, none⟩ = some (.slice a ll.length c) ∧ w'.cell? ⟨w.heap.size + 1, 0, none⟩ = some (.slice t.fa t.l.length t.fc) ∧ w'.cell? ⟨w.heap.size + 1, 1, none⟩ = some (.slice t.ra t.rows.length t.rc)) (go_keep) (first
    | (go_at_call 12; refine (toProg_any a b o c ll _ hl hls (hsa.below (by first | exact bxW.bel.drew | exact (bxW.bel.alloc bxW.bel.size _).drew) (Nat.le_refl _))).mono ?_; rintro e v1 ⟨g1, rfl, hn1, hb1⟩; have hW1 : Below WM.heap.size WM v1 := (by first | exact (Below.refl _ _).drew.trans hb1 | exact ((below1 WM _).drew).trans (hb1.mono (below1 WM _).size)); have bx1 := bxW.below hW1; have Y0 := bx1.p0; have Y2 := bx1.q0; have Y3 := bx1.q1; have lt1 := bx1.lt; have n1 : v1.heap.size ≠ w.heap.size := (by omega); have n1' : v1.heap.size ≠ w.heap.size + 1 := (by omega); (try (have V1 : Slot2 v1 WM.heap.size (.slice none 0 0) (.slice none 0 0) := slot_drew hb1)))
    | (go_at_call 13; refine (toXn_any t _ ht (hta.below (by first | exact bx1.bel | exact bx1.bel.alloc bx1.bel.size _) (Nat.le_refl _))).mono ?_; rintro e v2 ⟨g3, g4, rfl, hn2, hb2⟩; have hW2 : Below v1.heap.size v1 v2 := (by first | exact hb2 | exact bel_box (Below.refl _ _) hb2); have bx2 := bx1.below hW2; have U0 := bx2.p0; have U2 := bx2.q0; have U3 := bx2.q1; have lt2 := bx2.lt; have n2 : v2.heap.size ≠ w.heap.size := (by omega); have n2' : v2.heap.size ≠ w.heap.size + 1 := (by omega); have hno := hn1.old.below hW2 (Nat.le_refl _); (try (have V2 := V1.of (hW2.block _ V1.lt))); (try (have R2 : Slot2 v2 v1.heap.size (.slice none 0 0) (.slice none 0 0) := slot_of hb2)))
    | (go_at_call 18; refine (ixs_any _ g1 0 ll.length ll t g3 g4 ok _ hl hls ht HR.out (hno.below (by first | exact Below.refl _ _ | exact below1 _ _) (Nat.le_refl _)) (hn2.xo.below (by first | exact Below.refl _ _ | exact below1 _ _) (Nat.le_refl _))).mono ?_; rintro e v3 ⟨s2, rfl, HK, hat, hg1, hg2, hb3⟩; have hW3 : Below v2.heap.size v2 v3 := (by first | exact hb3 | exact bel_box (Below.refl _ _) hb3); have bx3 := bx2.below hW3; have Z0 := bx3.p0; have Z2 := bx3.q0; have Z3 := bx3.q1; have lt3 := bx3.lt; (try (have V3 := V2.of (hW3.block _ V2.lt); have v0 := V3.c0; have v1c := V3.c1; have vf := V3.fz)); (try (have R3 := R2.of (hW3.block _ R2.lt); have r0 := R3.c0; have r1c := R3.c1; have rf := R3.fz)); (try (have T3 : Slot2 v3 v2.heap.size (.slice none 0 0) (.slice none 0 0) := slot_of hb3; have t0 := T3.c0; have t1c := T3.c1; have tf := T3.fz))))
    all_goals
      have hWf : Below WM.heap.size WM v3 := (hW1.trans (hW2.mono hW1.size)).trans (hW3.mono (Nat.le_trans hW1.size hW2.size))
      have hat := hat.at_
      have HE2 : Hid (s0.l1 = s2.l1 ∧ s0.l2 = s2.l2) := by
        have := HK0.out.trans HK.out.symm
        simp only [Prod.mk.injEq] at this
        exact this
      have hs2 : s2.Le 1048576 := ⟨(M.execSeen_le HK.out).1, (M.execSeen_le HK.out).2⟩
      first
      | (have F : F31 WM ((v3.setCell ⟨v2.heap.size, 0, none⟩ (.slice s2.a1 s2.l1.length s2.c1)).setCell ⟨v2.heap.size, 1, none⟩ (.slice s2.a2 s2.l2.length s2.c2)) v2.heap.size s2 := F31.first hWf hat T3 (by have := hW2.size; have := hW1.size; omega) (by (try simp only [World.size_alloc] at hg1); have := hW2.size; have := hW1.size; (try (have := R2.lt)); (try (have := V1.lt)); omega) (by (try simp only [World.size_alloc] at hg2); have := hW2.size; have := hW1.size; (try (have := R2.lt)); (try (have := V1.lt)); omega)
         generalize (v3.setCell ⟨v2.heap.size, 0, none⟩ (.slice s2.a1 s2.l1.length s2.c1)).setCell ⟨v2.heap.size, 1, none⟩ (.slice s2.a2 s2.l2.length s2.c2) = Wf at F ⊢
         generalize v2.heap.size = Y at F ⊢)
      | (have F : F31 WM ((v3.setCell ⟨v1.heap.size, 0, none⟩ (.slice s2.a1 s2.l1.length s2.c1)).setCell ⟨v1.heap.size, 1, none⟩ (.slice s2.a2 s2.l2.length s2.c2)) v1.heap.size s2 := F31.first hWf hat R3 (by have := hW2.size; have := hW1.size; omega) (by (try simp only [World.size_alloc] at hg1); have := hW2.size; have := hW1.size; (try (have := R2.lt)); (try (have := V1.lt)); omega) (by (try simp only [World.size_alloc] at hg2); have := hW2.size; have := hW1.size; (try (have := R2.lt)); (try (have := V1.lt)); omega)
         generalize (v3.setCell ⟨v1.heap.size, 0, none⟩ (.slice s2.a1 s2.l1.length s2.c1)).setCell ⟨v1.heap.size, 1, none⟩ (.slice s2.a2 s2.l2.length s2.c2) = Wf at F ⊢
         generalize v1.heap.size = Y at F ⊢)
      | (have F : F31 WM ((v3.setCell ⟨WM.heap.size, 0, none⟩ (.slice s2.a1 s2.l1.length s2.c1)).setCell ⟨WM.heap.size, 1, none⟩ (.slice s2.a2 s2.l2.length s2.c2)) WM.heap.size s2 := F31.first hWf hat V3 (by omega) (by (try simp only [World.size_alloc] at hg1); have := hW2.size; have := hW1.size; (try (have := R2.lt)); (try (have := V1.lt)); omega) (by (try simp only [World.size_alloc] at hg2); have := hW2.size; have := hW1.size; (try (have := R2.lt)); (try (have := V1.lt)); omega)
         generalize (v3.setCell ⟨WM.heap.size, 0, none⟩ (.slice s2.a1 s2.l1.length s2.c1)).setCell ⟨WM.heap.size, 1, none⟩ (.slice s2.a2 s2.l2.length s2.c2) = Wf at F ⊢
         generalize WM.heap.size = Y at F ⊢)
      | (have F : F31 WM (v3.alloc (.cells #[(.slice s2.a1 s2.l1.length s2.c1), (.slice s2.a2 s2.l2.length s2.c2)] 42)) v3.heap.size s2 := F31.last hWf hat
         generalize v3.alloc (.cells #[(.slice s2.a1 s2.l1.length s2.c1), (.slice s2.a2 s2.l2.length s2.c2)] 42) = Wf at F ⊢
         generalize v3.heap.size = Y at F ⊢)
      clear hg1 hg2 Z0 Z2 Z3 U0 U2 U3 Y0 Y2 Y3 X0 X2 X3 lt0 lt1 lt2 lt3 n0 n0' n1 n1' n2 n2' hno bx1 bx2 bx3 hW1 hW2 hW3 hb1 hb2 hb3 hn1 hn2 hat bxW HK hWf
      (try clear T3 t0 t1c tf)
      (try clear R3 r0 r1c rf)
      (try clear R2)
      (try clear V3 v0 v1c vf)
      (try clear V2)
      (try clear V1)
      obtain ⟨hbF, xsF, atF⟩ := F
      have an3 := an2.below hbF
      have X0 := an3.xs.c0; have X1 := an3.xs.c1; have X2 := xsF.c0; have X3 := xsF.c1
      clear an2 hbF
      go_wp2_with fail
      refine (eqSeen_bel s2 s0 Wf hs2 HE2.out.1 HE2.out.2 atF an3.at0).mono ?_
      rintro e W30 ⟨rfl, hb30⟩
      have an4 := an3.below hb30
      clear X0 X1 X2 X3 an3 hb30 xsF atF
      have X2 := an4.rs.c0; have X3 := an4.rs.c1
      go_wp2_with fail
      refine (heldSeen_any s1 W30 hsl an4.mk1).mono ?_
      rintro e W31 ⟨rfl, rfl⟩
      go_wp2_with fail
      go_ret
      exact ⟨rfl, an4.bx.bel.alloc an4.bx.bel.size _⟩

end Go.Proofs.Ytdpnnghomfaleaa

