/- spec.l2Copy: one that was seen, anew. Of at most 1048576 numbers each. -/
import Derived.Test.YtkbjdhjcbhdpmabSoIn
import Derived.Deep.AppendSrc
import Derived.Deep.RegionLaw
namespace Go.Proofs.Ytkbjdhjcbhdpmab
open Go.RowKit

theorem bel_alloc {w X : World} (h : Below w.heap.size w X) (o : Obj) : Below w.heap.size w (X.alloc o) := h.alloc h.size o

theorem run_append_empty0 {P : Program} (w : World) (t ty e : TypeId) (i : TypeInfo) (ht : P.underlying t = some (.slice e)) (hi : P.info? e = some i) (ad : Addr) (a : Option Addr) (c : Nat) :
    (Builtin.append_ #[t, t] ty #[.slice (some ad) 0 0, .slice a 0 c]).run P w = .ok (.slice (some ad) 0 0) w := by
  cases a
  · simp [Builtin.append_, run_underlying ht, sizeOf, typeInfo, hi, Builtin.lenOf, Builtin.firstCells, storeCells]
  · simp [Builtin.append_, run_underlying ht, sizeOf, typeInfo, hi, Builtin.lenOf, Builtin.firstCells, loadCells, loadCellsFrom, storeCells]

/-- Numbers appended onto an empty row, in a region that draws its order: whatever the row, they lie in a block of their own (or there are none). -/
theorem step_append_ints0 {P : Program} {ops : Array Oper} {o : Oper} {a : Act} {w : World} {K : Act → World → Prop} {Q : Exit → Act → World → Prop} {E : Prop} (hgd : o.guard = none) (s x : Operand) (t : TypeId)
    (ho : o.op = .call { callee := .builtin .append, args := #[s, x], argTypes := #[t, t] }) (e : TypeId) (i : TypeInfo) (ht : P.underlying t = some (.slice e)) (hi : P.info? e = some i) (hz0 : i.zero = some (.int .i64 0)) (hz1 : i.size = 1) (hz2 : i.bytes = 8)
    (ad : Addr) (hs : a.eval s = .slice (some ad) 0 0) (sa : Option Addr) (b off c : Nat) (l : List Int) (hx : a.eval x = .slice sa l.length c) (W : World) (BX : Below W.heap.size W w) (hI : IntS W sa b off l) (hl : l.length ≤ 1048576)
    (h : ∀ a' g c' w', IntS w' a' g 0 l → W.heap.size ≤ g → Below W.heap.size W w' → Below w.heap.size w w' → K (a.put o.dst (.slice a' l.length c')) w') :
    if Region.wanted o (yielded ops a.tmps) = true then Oper.wp P o a w K Q else E := by
  have hw : Region.wanted o (yielded ops a.tmps) = true := by simp [Region.wanted, hgd]
  rw [if_pos hw]
  have hIw := hI.below BX (Nat.le_refl _)
  rcases Nat.eq_zero_or_pos l.length with h0 | hpos
  · have hl0 : l = [] := List.length_eq_zero_iff.1 h0
    subst hl0
    have hrun := run_append_empty0 (P := P) w t o.type e i ht hi ad sa c
    rw [List.length_nil] at hx
    have hk := h (some ad) W.heap.size 0 w (IntS.nil _ _ _ _) (Nat.le_refl _) BX (Below.refl _ _)
    unfold Oper.wp
    simp [execOp, ho, resolve, invoke, builtin, hs, hx, hrun, Result.andThen]
    exact hk
  · obtain ⟨rfl⟩ := hIw.addr hpos
    have hsrc : Src P i.size t (.slice (some ⟨b, off, none⟩) l.length c) l.length (nums l) w := Src.ofSlice w ht ⟨b, off, none⟩ l.length c (nums l) (by simp [nums, hz1]) (fun j u hj => by
      have hjl : j < l.length := by
        have := (List.getElem?_eq_some_iff.1 hj).1
        simpa [nums] using this
      rw [Go.WideShapes.add_plain, hIw.row j hjl]
      simpa [nums, hjl] using hj) (fun u hu => by simp [nums] at hu; obtain ⟨_, _, rfl⟩ := hu; rfl)
    have hrun := run_append_grow_src (P := P) w t t o.type e i (.int .i64 0) ht hi hz0 (some ad) 0 0 [] (by simp [Builtin.firstCells, loadCells, loadCellsFrom]) _ l.length (nums l) hsrc (by omega) (by omega) (by rw [hz2, Nat.zero_add]; simp [Builtin.nextslicecap, hpos]; omega)
    rw [Nat.zero_add] at hrun
    obtain ⟨cp, hcp⟩ : ∃ cp, grownCap w l.length 0 e = cp := ⟨_, rfl⟩
    rw [hcp] at hrun
    obtain ⟨F, hF⟩ : ∃ F, ([] ++ nums l).toArray ++ Builtin.zeroCells (Value.int .i64 0).cells (cp - l.length) = F := ⟨_, rfl⟩
    rw [hF] at hrun
    have hbel : Below w.heap.size w (w.drew.alloc (.cells F e)) := ((Below.refl _ _).drew).alloc (Nat.le_refl _) _
    have hk := h (some ⟨w.heap.size, 0, none⟩) w.heap.size cp (w.drew.alloc (.cells F e)) ⟨fun _ => rfl, fun j hj => by
      rw [Nat.zero_add]
      have := World.cell?_alloc_new w.drew F e j
      refine this.trans ?_
      rw [← hF, List.nil_append, Array.getElem?_append_left (by simp [nums]; exact hj)]
      simp [nums, hj]⟩ BX.size (BX.trans (hbel.mono BX.size)) hbel
    unfold Oper.wp
    simp [execOp, ho, resolve, invoke, builtin, hs, hx, hrun, Result.andThen]
    exact hk

set_option maxHeartbeats 2000000 in
set_option maxRecDepth 100000 in
theorem l2Copy_any (s : Sn) (w : World) (hs : s.Le 1048576) (hsa : s.At w) :
    Calls Try.prog 18 #[.agg #[.slice s.a1 s.l1.length s.c1, .slice s.a2 s.l2.length s.c2]] w fun e w' => ∃ t : Sn, e = .returned (.agg #[.slice t.a1 t.l1.length t.c1, .slice t.a2 t.l2.length t.c2]) ∧ t.l1 = s.l1 ∧ t.l2 = s.l2 ∧ Fresh w.heap.size w' t ∧ Below w.heap.size w w' := by
  obtain ⟨i0, hi, hz0, hz1, hz2⟩ := info_parts Try.infoInt
  go_enter Try.func18, Try.ntmps18
  go_wp2_with fail
  have hb2 := below2 w (.cells #[.slice s.a1 s.l1.length s.c1, .slice s.a2 s.l2.length s.c2] 35) (.cells #[.slice none 0 0, .slice none 0 0] 35)
  have k0 : ((w.alloc (.cells #[.slice s.a1 s.l1.length s.c1, .slice s.a2 s.l2.length s.c2] 35)).alloc (.cells #[.slice none 0 0, .slice none 0 0] 35)).cell? ⟨w.heap.size, 0, none⟩ = some (.slice s.a1 s.l1.length s.c1) := by simp
  have k1 : ((w.alloc (.cells #[.slice s.a1 s.l1.length s.c1, .slice s.a2 s.l2.length s.c2] 35)).alloc (.cells #[.slice none 0 0, .slice none 0 0] 35)).cell? ⟨w.heap.size, 1, none⟩ = some (.slice s.a2 s.l2.length s.c2) := by simp
  have hR : Slot2 ((w.alloc (.cells #[.slice s.a1 s.l1.length s.c1, .slice s.a2 s.l2.length s.c2] 35)).alloc (.cells #[.slice none 0 0, .slice none 0 0] 35)) (w.heap.size + 1) (.slice none 0 0) (.slice none 0 0) := ⟨alloc_new _ _ _ (by simp only [World.size_alloc])⟩
  have hsz : ((w.alloc (.cells #[.slice s.a1 s.l1.length s.c1, .slice s.a2 s.l2.length s.c2] 35)).alloc (.cells #[.slice none 0 0, .slice none 0 0] 35)).heap.size = w.heap.size + 1 + 1 := by simp only [World.size_alloc]
  generalize (w.alloc (.cells #[.slice s.a1 s.l1.length s.c1, .slice s.a2 s.l2.length s.c2] 35)).alloc (.cells #[.slice none 0 0, .slice none 0 0] 35) = W at *
  have hsW := hsa.below hb2 (Nat.le_refl _)
  have lt0 : w.heap.size < W.heap.size := by omega
  have lt1 : w.heap.size + 1 < W.heap.size := by omega
  have hbW : Below W.heap.size W W := Below.refl _ _
  have hR0 := hR.c0
  have hR1 := hR.c1
  have hRf := hR.fz
  go_region_held3 (fun w' => w'.cell? ⟨w.heap.size, 0, none⟩ = some (.slice s.a1 s.l1.length s.c1) ∧ w'.cell? ⟨w.heap.size, 1, none⟩ = some (.slice s.a2 s.l2.length s.c2)) (go_keep) (first
    | (refine step_append_ints0 (by rfl) (.tmp 3) (.tmp 5) 30 (by rfl) 3 i0 Try.underlying30 hi hz0 hz1 hz2 _ (by rfl) s.a1 s.b1 s.o1 s.c1 s.l1 (by rfl) W ?_ hsW.reads hs.reads ?_; (repeat (first | assumption | refine Below.drew ?_ | refine bel_alloc ?_ _)); intro x1 y1 z1 w1 n1 ge1 B1 b1; have Y0 := (B1.cell (p := ⟨w.heap.size, 0, none⟩) lt0).trans k0; have Y1 := (B1.cell (p := ⟨w.heap.size, 1, none⟩) lt0).trans k1; have r1 := hR.of (B1.block (w.heap.size + 1) lt1); have r10 := r1.c0; have r11 := r1.c1; have r1f := r1.fz)
    | (refine step_append_ints0 (by rfl) (.tmp 7) (.tmp 9) 30 (by rfl) 3 i0 Try.underlying30 hi hz0 hz1 hz2 _ (by rfl) s.a2 s.b2 s.o2 s.c2 s.l2 (by rfl) W ?_ hsW.last hs.last ?_; (repeat (first | assumption | refine Below.drew ?_ | refine bel_alloc ?_ _)); intro x2 y2 z2 w2 n2 ge2 B2 b2; have Z0 := (B2.cell (p := ⟨w.heap.size, 0, none⟩) lt0).trans k0; have Z1 := (B2.cell (p := ⟨w.heap.size, 1, none⟩) lt0).trans k1; have r2 := hR.of (B2.block (w.heap.size + 1) lt1); have r20 := r2.c0; have r21 := r2.c1; have r2f := r2.fz))
  all_goals
    first
    | (have m1 : IntS w2 x1 y1 0 s.l1 := (by first | exact n1.below b2 (Nat.le_refl _) | exact (n1.below (below1 w1 _) (Nat.le_refl _)).below b2 (Nat.le_refl _))
       have m2 : IntS w2 x2 y2 0 s.l2 := (by exact n2)
       have hR3 := (r2.set0 (.slice x1 s.l1.length z1)).set1 (.slice x2 s.l2.length z2)
       have hF1 : IntS ((w2.setCell ⟨w.heap.size + 1, 0, none⟩ (.slice x1 s.l1.length z1)).setCell ⟨w.heap.size + 1, 1, none⟩ (.slice x2 s.l2.length z2)) x1 y1 0 s.l1 := (m1.far (fun _ => by omega)).far (fun _ => by omega)
       have hF2 : IntS ((w2.setCell ⟨w.heap.size + 1, 0, none⟩ (.slice x1 s.l1.length z1)).setCell ⟨w.heap.size + 1, 1, none⟩ (.slice x2 s.l2.length z2)) x2 y2 0 s.l2 := (m2.far (fun _ => by omega)).far (fun _ => by omega)
       have hbF : Below w.heap.size w ((w2.setCell ⟨w.heap.size + 1, 0, none⟩ (.slice x1 s.l1.length z1)).setCell ⟨w.heap.size + 1, 1, none⟩ (.slice x2 s.l2.length z2)) := ((hb2.trans (B2.mono (by omega))).setCell (by show w.heap.size ≤ w.heap.size + 1; omega) _).setCell (by show w.heap.size ≤ w.heap.size + 1; omega) _
       have p0 := hR3.c0
       have p1 := hR3.c1
       clear Z0 Z1 Y0 Y1 r10 r11 r1f r20 r21 r2f k0 k1 hR0 hR1 hRf hR
       generalize ((w2.setCell ⟨w.heap.size + 1, 0, none⟩ (.slice x1 s.l1.length z1)).setCell ⟨w.heap.size + 1, 1, none⟩ (.slice x2 s.l2.length z2)) = F at *
       go_wp2_with fail
       exact bodyPost_ret (v := .agg #[.slice x1 s.l1.length z1, .slice x2 s.l2.length z2]) (by simp [results, Try.results18, go_sem, p0, p1]) rfl ⟨⟨x1, y1, 0, z1, s.l1, x2, y2, 0, z2, s.l2⟩, rfl, rfl, rfl, ⟨⟨hF1, hF2⟩, by show w.heap.size ≤ y1; omega, by show w.heap.size ≤ y2; omega⟩, hbF⟩)
    | (have m1 : IntS w1 x1 y1 0 s.l1 := (by exact n1)
       have m2 : IntS w1 x2 y2 0 s.l2 := (by first | exact n2.below b1 (Nat.le_refl _) | exact (n2.below (below1 w2 _) (Nat.le_refl _)).below b1 (Nat.le_refl _))
       have hR3 := (r1.set0 (.slice x1 s.l1.length z1)).set1 (.slice x2 s.l2.length z2)
       have hF1 : IntS ((w1.setCell ⟨w.heap.size + 1, 0, none⟩ (.slice x1 s.l1.length z1)).setCell ⟨w.heap.size + 1, 1, none⟩ (.slice x2 s.l2.length z2)) x1 y1 0 s.l1 := (m1.far (fun _ => by omega)).far (fun _ => by omega)
       have hF2 : IntS ((w1.setCell ⟨w.heap.size + 1, 0, none⟩ (.slice x1 s.l1.length z1)).setCell ⟨w.heap.size + 1, 1, none⟩ (.slice x2 s.l2.length z2)) x2 y2 0 s.l2 := (m2.far (fun _ => by omega)).far (fun _ => by omega)
       have hbF : Below w.heap.size w ((w1.setCell ⟨w.heap.size + 1, 0, none⟩ (.slice x1 s.l1.length z1)).setCell ⟨w.heap.size + 1, 1, none⟩ (.slice x2 s.l2.length z2)) := ((hb2.trans (B1.mono (by omega))).setCell (by show w.heap.size ≤ w.heap.size + 1; omega) _).setCell (by show w.heap.size ≤ w.heap.size + 1; omega) _
       have p0 := hR3.c0
       have p1 := hR3.c1
       clear Z0 Z1 Y0 Y1 r10 r11 r1f r20 r21 r2f k0 k1 hR0 hR1 hRf hR
       generalize ((w1.setCell ⟨w.heap.size + 1, 0, none⟩ (.slice x1 s.l1.length z1)).setCell ⟨w.heap.size + 1, 1, none⟩ (.slice x2 s.l2.length z2)) = F at *
       go_wp2_with fail
       exact bodyPost_ret (v := .agg #[.slice x1 s.l1.length z1, .slice x2 s.l2.length z2]) (by simp [results, Try.results18, go_sem, p0, p1]) rfl ⟨⟨x1, y1, 0, z1, s.l1, x2, y2, 0, z2, s.l2⟩, rfl, rfl, rfl, ⟨⟨hF1, hF2⟩, by show w.heap.size ≤ y1; omega, by show w.heap.size ≤ y2; omega⟩, hbF⟩)

end Go.Proofs.Ytkbjdhjcbhdpmab
