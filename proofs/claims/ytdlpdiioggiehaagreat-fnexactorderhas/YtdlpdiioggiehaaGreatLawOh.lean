/- spec.OrderHas: what must be ahead of what by itself. Of at most 1048576 threads, steps, numbers and rows. spec.OrderHas: what must be ahead of what by itself. Of at most 1048576 threads, steps, numbers and rows. The law FnExactOrderHas, walked: it answers true, and leaves all as it was. Of programs and ways of at most 9223372036854775807 parts each: more than a machine holds. -/
import Derived.Test.YtdlpdiioggiehaaGreatOsOr3
import Derived.Test.YtdlpdiioggiehaaGreatOrImp3
import Derived.Test.YtdlpdiioggiehaaGreatLawXo

namespace Go.Proofs.YtdlpdiioggiehaaGreat
open Go.RowKit

namespace M
theorem idx_at {l : List Int} {v : Int} {n : Nat} (hn : n < l.length) (h : l[n] = v) (hb : ∀ i (_ : i < n) (hi : i < l.length), l[i] ≠ v) : idx l v = n := by
  have : l.findIdx? (· == v) = some n := by
    rw [List.findIdx?_eq_some_iff_getElem]
    exact ⟨hn, by simpa using h, fun j hj => by simpa using hb j hj (by omega)⟩
  simp [idx, this]
theorem idx_not {l : List Int} {v : Int} (h : ∀ i (_ : i < l.length), l[i] ≠ v) : idx l v = -1 := by
  have : l.findIdx? (· == v) = none := by
    rw [List.findIdx?_eq_none_iff]
    intro x hx
    obtain ⟨i, hi, rfl⟩ := List.getElem_of_mem hx
    simpa using h i hi
  simp [idx, this]
end M

set_option maxHeartbeats 400000 in
theorem l13Rank_any (a : Option Addr) (b o c : Nat) (l : List Int) (v : Int) (w : World) (hl : l.length ≤ 1048576) (h : IntS w a b o l) :
    Calls Tryz.prog 41 #[.slice a l.length c, .int .i64 v] w fun e w' => e = .returned (.int .i64 (M.idx l v)) ∧ w' = w := by
  go_enter Tryz.func41, Tryz.ntmps41
  go_wp2_with fail
  go_loopw [5] (fun s5 wr => ∃ n : Nat, s5 = .int .i64 n ∧ n ≤ l.length ∧ Hid (∀ i (_ : i < n) (h : i < l.length), l[i] ≠ v) ∧ wr = w) (fun s5 _ => l.length - (intOf s5).toNat)
  case atStart => exact ⟨0, rfl, Nat.zero_le _, fun i hi => absurd hi (Nat.not_lt_zero _), rfl⟩
  case round =>
    obtain ⟨n, rfl, hn, HA, rfl⟩ := hrel
    by_cases hlt : n < l.length
    · obtain ⟨rfl⟩ := h.addr (by omega)
      have hx := h.row n hlt
      obtain ⟨y, hy⟩ : ∃ y, l[n] = y := ⟨_, rfl⟩
      have HY : Hid (l[n] = y) := hy
      rw [hy] at hx
      clear hy
      have i1 : (n : Int) < l.length := by omega
      by_cases e : y = v
      · subst e
        go_wp2_with fail
        go_ret
        exact ⟨by rw [M.idx_at hlt HY.out HA.out]; rfl, rfl⟩
      · have e' : (y == v) = false := by simpa using e
        go_wp2_with fail
        exact ⟨⟨n + 1, by go_num, by omega, fun i hi hl => by
          by_cases ei : i = n
          · subst ei; rw [HY.out]; exact e
          · exact HA.out i (by omega) hl, trivial⟩, by simp [intOf]; omega⟩
    · go_wp2_with fail
      go_ret
      exact ⟨by rw [M.idx_not (fun i hi => HA.out i (by omega) hi)]; rfl, rfl⟩

theorem cellBut {O : Nat} {W W' : World} {p : Addr} {v : Value} (hb : But O W W') (h : W.cell? p = some v) (hne : p.block ≠ O) : W'.cell? p = some v := (hb.cell (p := p) (World.block_lt_of_cell? _ _ h) hne).trans h
theorem But.low {O : Nat} {w0 w w' : World} (h : Below w0.heap.size w0 w) (k : But O w w') (hO : w0.heap.size ≤ O) : Below w0.heap.size w0 w' :=
  ⟨k.os.trans h.os, k.tape.trans h.tape, k.output.trans h.output, Nat.le_trans h.size k.size, fun i hi => (k.block i (Nat.lt_of_lt_of_le hi h.size) (by omega)).trans (h.block i hi)⟩

/-- While the way is set: the box that it is set in, the way's own box, the row of ranks. -/
structure Wk (w wr : World) (O : Nat) (p l v1 v2 fr od : Value) (n : Nat) (f : Nat → Int) : Prop where
  but : But O w wr
  blk : wr.heap[O]? = some (.cells #[p, l, v1, v2, fr, .slice (some ⟨w.heap.size + 1, 0, none⟩) n n] 51 (0, 0))
  x0 : wr.cell? ⟨w.heap.size, 0, none⟩ = some fr
  x1 : wr.cell? ⟨w.heap.size, 1, none⟩ = some od
  row : wr.rowIs (w.heap.size + 1) 3 n (fun i => .int .i64 (f i))
theorem Wk.lt {w wr : World} {O : Nat} {p l v1 v2 fr od : Value} {n : Nat} {f : Nat → Int} (h : Wk w wr O p l v1 v2 fr od n f) : w.heap.size + 1 < wr.heap.size := h.row.lt
theorem Wk.below {w wr w1 : World} {O : Nat} {p l v1 v2 fr od : Value} {n : Nat} {f : Nat → Int} (h : Wk w wr O p l v1 v2 fr od n f) (hO : O < w.heap.size) (hb : Below wr.heap.size wr w1) : Wk w w1 O p l v1 v2 fr od n f := by
  have hl := h.lt
  exact ⟨h.but.trans (But.of hb), (hb.block _ (by omega)).trans h.blk, cellC hb h.x0, cellC hb h.x1, h.row.of_block (hb.block _ hl)⟩
theorem Wk.store {w wr : World} {O : Nat} {p l v1 v2 fr od : Value} {n : Nat} {f : Nat → Int} (h : Wk w wr O p l v1 v2 fr od n f) (hO : O < w.heap.size) (i : Nat) (x : Int) : Wk w (wr.setCell ⟨w.heap.size + 1, i, none⟩ (.int .i64 x)) O p l v1 v2 fr od n (fun j => if j = i then x else f j) := by
  refine ⟨h.but.setCell (Or.inl (by show w.heap.size ≤ w.heap.size + 1; omega)) _, (Below.heap_setCell _ _ _ _ (by show O ≠ w.heap.size + 1; omega)).trans h.blk, ?_, ?_, (h.row.set i (.int .i64 x)).congr (fun j _ => ?_)⟩
  · rw [World.cell?_setCell_other _ _ _ _ (fun e => by have := congrArg Addr.block e; simp at this)]; exact h.x0
  · rw [World.cell?_setCell_other _ _ _ _ (fun e => by have := congrArg Addr.block e; simp at this)]; exact h.x1
  · by_cases e : j = i <;> simp [e]
theorem Wk.c {w wr : World} {O : Nat} {p l v1 v2 fr od : Value} {n : Nat} {f : Nat → Int} (h : Wk w wr O p l v1 v2 fr od n f) : wr.cell? ⟨O, 0, none⟩ = some p ∧ wr.cell? ⟨O, 1, none⟩ = some l ∧ wr.cell? ⟨O, 2, none⟩ = some v1 ∧ wr.cell? ⟨O, 3, none⟩ = some v2 ∧ wr.cell? ⟨O, 4, none⟩ = some fr ∧ wr.cell? ⟨O, 5, none⟩ = some (.slice (some ⟨w.heap.size + 1, 0, none⟩) n n) := by
  refine ⟨?_, ?_, ?_, ?_, ?_, ?_⟩
  all_goals simp [World.cell?, h.blk]

theorem DvS.but {w w' : World} {O : Nat} {va : Option Addr} {g : Nat} {l : List M.De} (h : DvS w va g l) (hb : But O w w') (hne : g ≠ O) : DvS w' va g l :=
  ⟨h.addr, fun i hi j hj => by
    have h1 := h.row i hi j hj
    match j, hj with
    | 0, _ => exact cellBut hb h1 hne
    | 1, _ => exact cellBut hb h1 hne
    | 2, _ => exact cellBut hb h1 hne⟩

set_option maxHeartbeats 2000000 in
set_option maxRecDepth 100000 in
theorem way_any (t : Lp) (u : Lq) (w0 w : World) (od : Nat) (hk : t.Ok) (hpl : ∀ x ∈ M.deeds t.ll, x.uses = true → 0 ≤ x.d.p ∧ x.d.p < 3) (hpos : 0 < (M.deeds t.ll).length) (HL : Hid (u.l.length = (M.deeds t.ll).length)) (H3 : Hid (u.rows.length = 3)) (hrl : ∀ r ∈ u.rows, r.length ≤ 1048576) (rb ro : Nat)
    (h0 : Below w0.heap.size w0 w) (hO : w0.heap.size ≤ t.O) (hOl : t.O < w.heap.size) (ss : DoSS w0 t.a t.b t.o t.ll) (hf : IntS w0 (some ⟨u.fb, u.fo, none⟩) u.fb u.fo u.l) (hr : IntSS w0 (some ⟨rb, ro, none⟩) rb ro u.rows)
    (blk : w.heap[t.O]? = some (.cells #[.slice t.a t.ll.length t.c, .slice (some ⟨t.g, 0, none⟩) (M.deeds t.ll).length t.cc, .slice (some ⟨u.rb, 0, none⟩) (M.deeds t.ll).length u.rc, .slice (some ⟨u.wb, 0, none⟩) (M.deeds t.ll).length u.wc, .slice none 0 0, .slice none 0 0] 51 (0, 0)))
    (dv : DvS w (some ⟨t.g, 0, none⟩) t.g (M.deeds t.ll)) (rd : ∀ n x, (M.deeds t.ll)[n]? = some x → w.cell? ⟨u.rb, n, none⟩ = some (.bool (M.reads x.d.k))) (wrt : ∀ n x, (M.deeds t.ll)[n]? = some x → w.cell? ⟨u.wb, n, none⟩ = some (.bool (M.writes x.d.k))) (hkb : u.kb = w.heap.size + 1) (hkc : u.kc = (M.deeds t.ll).length) :
    Calls Tryz.prog 18 #[.pointer (some ⟨t.O, 0, none⟩), .agg #[.slice (some ⟨u.fb, u.fo, none⟩) u.l.length u.fc, .slice (some ⟨rb, ro, none⟩) u.rows.length od]] w fun e w' => e = .returned (.tuple #[]) ∧ u.At t w' ∧ But t.O w w' := by
  have hdl := hk.dl
  have fl := Tryz.fld1
  have hmk := run_make_row' (P := Tryz.prog) 25 3 (.int .i64 0) 8 Tryz.underlying25 Tryz.infoInt rfl .i64 .i64 (M.deeds t.ll).length (by omega) (by omega)
  have b1 : w.cell? ⟨t.O, 1, none⟩ = some (.slice (some ⟨t.g, 0, none⟩) (M.deeds t.ll).length t.cc) := by simp [World.cell?, blk]
  have b4 : w.cell? ⟨t.O, 4, none⟩ = some (.slice none 0 0) := by simp [World.cell?, blk]
  have b5 : w.cell? ⟨t.O, 5, none⟩ = some (.slice none 0 0) := by simp [World.cell?, blk]
  have bf : ∀ i, w.frozen? ⟨t.O, i, none⟩ = false := fun i => by simp [World.frozen?, blk]
  go_enter Tryz.func18, Tryz.ntmps18
  go_wp2_with fail
  have k0 : Wk w ((((w.setCell ⟨t.O, 4, none⟩ (.slice (some ⟨u.fb, u.fo, none⟩) u.l.length u.fc)).setCell ⟨t.O, 5, none⟩ (.slice (some ⟨w.heap.size + 1, 0, none⟩) (M.deeds t.ll).length (M.deeds t.ll).length)).alloc (.cells #[.slice (some ⟨u.fb, u.fo, none⟩) u.l.length u.fc, .slice (some ⟨rb, ro, none⟩) u.rows.length od] 36)).alloc (.cells (madeCells #[.int .i64 0] (M.deeds t.ll).length) 3)) t.O (.slice t.a t.ll.length t.c) (.slice (some ⟨t.g, 0, none⟩) (M.deeds t.ll).length t.cc) (.slice (some ⟨u.rb, 0, none⟩) (M.deeds t.ll).length u.rc) (.slice (some ⟨u.wb, 0, none⟩) (M.deeds t.ll).length u.wc) (.slice (some ⟨u.fb, u.fo, none⟩) u.l.length u.fc) (.slice (some ⟨rb, ro, none⟩) u.rows.length od) (M.deeds t.ll).length (fun _ => 0) := by
    have e1 := heap_setCell_same w t.O 4 _ _ (.slice (some ⟨u.fb, u.fo, none⟩) u.l.length u.fc) blk
    have e2 := heap_setCell_same _ t.O 5 _ _ (.slice (some ⟨w.heap.size + 1, 0, none⟩) (M.deeds t.ll).length (M.deeds t.ll).length) e1
    refine ⟨(((((But.refl t.O w).setCell (Or.inr rfl) _).setCell (Or.inr rfl) _).alloc _).alloc _), ?_, by simp [go_sem], by simp [go_sem], ?_⟩
    · rw [alloc_old _ _ _ (by simp; omega), alloc_old _ _ _ (by simp; omega)]; exact e2
    · have := World.rowIs_made (((w.setCell ⟨t.O, 4, none⟩ (.slice (some ⟨u.fb, u.fo, none⟩) u.l.length u.fc)).setCell ⟨t.O, 5, none⟩ (.slice (some ⟨w.heap.size + 1, 0, none⟩) (M.deeds t.ll).length (M.deeds t.ll).length)).alloc (.cells #[.slice (some ⟨u.fb, u.fo, none⟩) u.l.length u.fc, .slice (some ⟨rb, ro, none⟩) u.rows.length od] 36)) (.int .i64 0) (M.deeds t.ll).length 3
      simpa using this
  generalize ((((w.setCell ⟨t.O, 4, none⟩ (.slice (some ⟨u.fb, u.fo, none⟩) u.l.length u.fc)).setCell ⟨t.O, 5, none⟩ (.slice (some ⟨w.heap.size + 1, 0, none⟩) (M.deeds t.ll).length (M.deeds t.ll).length)).alloc (.cells #[.slice (some ⟨u.fb, u.fo, none⟩) u.l.length u.fc, .slice (some ⟨rb, ro, none⟩) u.rows.length od] 36)).alloc (.cells (madeCells #[.int .i64 0] (M.deeds t.ll).length) 3)) = W0 at k0 ⊢
  clear hmk b1 b4 b5 bf
  obtain ⟨x0, hx0⟩ : ∃ x, (M.deeds t.ll)[0]? = some x := ⟨_, List.getElem?_eq_getElem hpos⟩
  have b0 : w.cell? ⟨t.O, 0, none⟩ = some (.slice t.a t.ll.length t.c) := by simp [World.cell?, blk]
  have hgO : t.g ≠ t.O := fun e => by
    have h1 := (dv.at hpos).c0
    rw [e, Nat.zero_mul, b0] at h1
    cases h1
  have hwO : u.wb ≠ t.O := fun e => by
    have h1 := wrt 0 x0 hx0
    rw [e, b0] at h1
    cases h1
  have hrO : u.rb ≠ t.O := fun e => by
    have h1 := rd 0 x0 hx0
    rw [e, b0] at h1
    cases h1
  have tAt : ∀ W' f, Wk w W' t.O (.slice t.a t.ll.length t.c) (.slice (some ⟨t.g, 0, none⟩) (M.deeds t.ll).length t.cc) (.slice (some ⟨u.rb, 0, none⟩) (M.deeds t.ll).length u.rc) (.slice (some ⟨u.wb, 0, none⟩) (M.deeds t.ll).length u.wc) (.slice (some ⟨u.fb, u.fo, none⟩) u.l.length u.fc) (.slice (some ⟨rb, ro, none⟩) u.rows.length od) (M.deeds t.ll).length f → t.At W' := fun W' f kk => ⟨kk.c.1, kk.c.2.1, ss.below (But.low h0 kk.but hO) (Nat.le_refl _), dv.but kk.but hgO⟩
  go_loopw [4] (fun s4 wq => ∃ (n : Nat) (f : Nat → Int), s4 = .int .i64 n ∧ n ≤ (M.deeds t.ll).length ∧ Hid (∀ j x, (M.deeds t.ll)[j]? = some x → f j = if j < n then M.rankAt u.l u.rows j x else 0) ∧ Wk w wq t.O (.slice t.a t.ll.length t.c) (.slice (some ⟨t.g, 0, none⟩) (M.deeds t.ll).length t.cc) (.slice (some ⟨u.rb, 0, none⟩) (M.deeds t.ll).length u.rc) (.slice (some ⟨u.wb, 0, none⟩) (M.deeds t.ll).length u.wc) (.slice (some ⟨u.fb, u.fo, none⟩) u.l.length u.fc) (.slice (some ⟨rb, ro, none⟩) u.rows.length od) (M.deeds t.ll).length f) (fun s4 _ => (M.deeds t.ll).length - (intOf s4).toNat)
  case atStart => exact ⟨0, fun _ => 0, rfl, Nat.zero_le _, (fun j x _ => by simp), k0⟩
  case round =>
    clear k0 b0 hx0
    obtain ⟨n, f, rfl, hn, HF, k⟩ := hrel
    have q1 := k.c.2.1
    have q2 := k.c.2.2.1
    have q3 := k.c.2.2.2.1
    by_cases hlt : n < (M.deeds t.ll).length
    · obtain ⟨x, hx⟩ : ∃ x, (M.deeds t.ll)[n]? = some x := ⟨_, List.getElem?_eq_getElem hlt⟩
      have i1 : (n : Int) < (M.deeds t.ll).length := by omega
      have wx := cellBut k.but (wrt n x hx) hwO
      have rx := cellBut k.but (rd n x hx) hrO
      have FSTEP : ∀ v, M.rankAt u.l u.rows n x = v → Hid (∀ j y, (M.deeds t.ll)[j]? = some y → (if j = n then v else f j) = if j < n + 1 then M.rankAt u.l u.rows j y else 0) := fun v hv j y hy => by
        by_cases e : j = n
        · subst e
          rw [hx] at hy
          obtain rfl := Option.some.inj hy
          rw [if_pos rfl, if_pos (by omega), hv]
        · rw [if_neg e, HF.out j y hy]
          by_cases e2 : j < n
          · rw [if_pos e2, if_pos (by omega)]
          · rw [if_neg e2, if_neg (by omega)]
      cases hw : M.writes x.d.k
      case true =>
        rw [hw] at wx
        obtain ⟨hp0, hp3⟩ := hpl x (List.mem_of_getElem? hx) (by simp [M.De.uses, M.uses, hw])
        obtain ⟨p, hp⟩ : ∃ p : Nat, x.d.p = p := ⟨x.d.p.toNat, by omega⟩
        have hpr : p < u.rows.length := by have := H3.out; omega
        obtain ⟨a', b', o', c', hc0, hrow0⟩ := hr.row p hpr
        have hc := cellC h0 hc0
        have hrlp := hrl _ (List.getElem_mem hpr)
        have HRW : Hid (u.rows.getD p [] = u.rows[p]) := by show _ = _; rw [List.getD_eq_getElem?_getD, List.getElem?_eq_getElem hpr]; rfl
        have hrbO : rb ≠ t.O := by
          have : rb < w0.heap.size := World.block_lt_of_cell? _ _ hc0
          omega
        have hrowB : ∀ W', But t.O w W' → IntS W' a' b' o' u.rows[p] := fun W' hb => hrow0.below (But.low h0 hb hO) (Nat.le_refl _)
        clear hrow0 hc0
        generalize u.rows[p] = row at *
        have HRK : Hid (M.rankAt u.l u.rows n x = M.idx row (n : Int)) := by show _ = _; rw [M.rankAt, if_pos hw, hp, Int.toNat_natCast, HRW.out]
        have i4 : (p : Int) < u.rows.length := by omega
        have N1 : w.heap.size + 1 ≠ t.O := by omega
        have N2 : w.heap.size + 1 ≠ w.heap.size := by omega
        have N3 : w.heap.size + 1 ≠ rb := by have : rb < w.heap.size := World.block_lt_of_cell? _ _ hc; omega
        have X1 := k.c.2.2.2.2.2
        have X2 := k.x1
        have X3 := cellBut k.but hc hrbO
        have hOwr := k.lt
        have C := do_any t n x _ hk (tAt _ _ (k.below hOl (Below.refl _ _).drew)) hx
        rw [hp] at C
        go_wp2_with fail
        go_region_held3 (fun w' => w'.cell? ⟨t.O, 5, none⟩ = some (.slice (some ⟨w.heap.size + 1, 0, none⟩) (M.deeds t.ll).length (M.deeds t.ll).length) ∧ w'.cell? ⟨w.heap.size, 1, none⟩ = some (.slice (some ⟨rb, ro, none⟩) u.rows.length od) ∧ w'.cell? ⟨rb, ro + p, none⟩ = some (.slice a' row.length c')) (go_keep) (first
          | (go_at_call 39; refine C.mono ?_; rintro e w1 ⟨rfl, hb1⟩; have k1 := k.below hOl ((Below.refl _ _).drew.trans hb1); have Y1 := k1.c.2.2.2.2.2; have Y2 := k1.x1; have Y3 := cellBut k1.but hc hrbO; have Z0 := k1.row.cell hlt; have Zf := k1.row.frozen; have Zl := k1.lt)
          | (go_at_call 41; refine (l13Rank_any a' b' o' c' row (n : Int) _ hrlp (hrowB _ k1.but)).mono ?_; rintro e w2x ⟨rfl, rfl⟩))
        have k2 := k1.store hOl n (M.idx row (n : Int))
        go_wp2_with fail
        exact ⟨⟨n + 1, _, by go_num, by omega, FSTEP _ HRK.out, k2⟩, by simp [intOf]; omega⟩

      rw [hw] at wx
      cases hrd : M.reads x.d.k
      case true =>
        rw [hrd] at rx
        obtain ⟨hp0, hp3⟩ := hpl x (List.mem_of_getElem? hx) (by simp [M.De.uses, M.uses, hrd])
        obtain ⟨p, hp⟩ : ∃ p : Nat, x.d.p = p := ⟨x.d.p.toNat, by omega⟩
        have hpr : p < u.rows.length := by have := H3.out; omega
        obtain ⟨a', b', o', c', hc0, hrow0⟩ := hr.row p hpr
        have hc := cellC h0 hc0
        have hrlp := hrl _ (List.getElem_mem hpr)
        have HRW : Hid (u.rows.getD p [] = u.rows[p]) := by show _ = _; rw [List.getD_eq_getElem?_getD, List.getElem?_eq_getElem hpr]; rfl
        have hrbO : rb ≠ t.O := by
          have : rb < w0.heap.size := World.block_lt_of_cell? _ _ hc0
          omega
        have hrowB : ∀ W', But t.O w W' → IntS W' a' b' o' u.rows[p] := fun W' hb => hrow0.below (But.low h0 hb hO) (Nat.le_refl _)
        clear hrow0 hc0
        generalize u.rows[p] = row at *
        have hnl : n < u.l.length := by have := HL.out; omega
        have HG : Hid (u.l.getD n 0 = u.l[n]) := by show _ = _; simp [hnl]
        have fn0 := (hf.below h0 (Nat.le_refl _)).row n hnl
        have hfO : u.fb ≠ t.O := by have := hf.lt (by omega); omega
        generalize u.l[n] = fv at *
        have i5 : (n : Int) < u.l.length := by omega
        have X4 := k.x0
        have X5 := cellBut k.but fn0 hfO
        have HRK : Hid (M.rankAt u.l u.rows n x = M.idx row fv) := by show _ = _; rw [M.rankAt, if_neg (by rw [hw]; simp), if_pos hrd, hp, Int.toNat_natCast, HRW.out, HG.out]
        have i4 : (p : Int) < u.rows.length := by omega
        have N1 : w.heap.size + 1 ≠ t.O := by omega
        have N2 : w.heap.size + 1 ≠ w.heap.size := by omega
        have N3 : w.heap.size + 1 ≠ rb := by have : rb < w.heap.size := World.block_lt_of_cell? _ _ hc; omega
        have N4 : w.heap.size + 1 ≠ u.fb := by have := hf.lt (by have := HL.out; omega); have := h0.size; omega
        have X1 := k.c.2.2.2.2.2
        have X2 := k.x1
        have X3 := cellBut k.but hc hrbO
        have hOwr := k.lt
        have C := do_any t n x _ hk (tAt _ _ (k.below hOl (Below.refl _ _).drew)) hx
        rw [hp] at C
        go_wp2_with fail
        go_region_held3 (fun w' => w'.cell? ⟨t.O, 5, none⟩ = some (.slice (some ⟨w.heap.size + 1, 0, none⟩) (M.deeds t.ll).length (M.deeds t.ll).length) ∧ w'.cell? ⟨w.heap.size, 1, none⟩ = some (.slice (some ⟨rb, ro, none⟩) u.rows.length od) ∧ w'.cell? ⟨rb, ro + p, none⟩ = some (.slice a' row.length c') ∧ w'.cell? ⟨w.heap.size, 0, none⟩ = some (.slice (some ⟨u.fb, u.fo, none⟩) u.l.length u.fc) ∧ w'.cell? ⟨u.fb, u.fo + n, none⟩ = some (.int .i64 fv)) (go_keep) (first
          | (go_at_call 39; refine C.mono ?_; rintro e w1 ⟨rfl, hb1⟩; have k1 := k.below hOl ((Below.refl _ _).drew.trans hb1); have Y1 := k1.c.2.2.2.2.2; have Y2 := k1.x1; have Y3 := cellBut k1.but hc hrbO; have Y4 := k1.x0; have Y5 := cellBut k1.but fn0 hfO; have Z0 := k1.row.cell hlt; have Zf := k1.row.frozen; have Zl := k1.lt)
          | (go_at_call 41; refine (l13Rank_any a' b' o' c' row fv _ hrlp (hrowB _ k1.but)).mono ?_; rintro e w2x ⟨rfl, rfl⟩))
        have k2 := k1.store hOl n (M.idx row fv)
        go_wp2_with fail
        exact ⟨⟨n + 1, _, by go_num, by omega, FSTEP _ HRK.out, k2⟩, by simp [intOf]; omega⟩

      rw [hrd] at rx
      go_wp2_with fail
      have hz : M.rankAt u.l u.rows n x = 0 := by rw [M.rankAt, if_neg (by rw [hw]; simp), if_neg (by rw [hrd]; simp)]
      refine ⟨⟨n + 1, f, by go_num, by omega, (fun j y hy => ?_), k⟩, by simp [intOf]; omega⟩
      rw [HF.out j y hy]
      by_cases e : j = n
      · subst e
        rw [hx] at hy
        obtain rfl := Option.some.inj hy
        rw [if_neg (by omega), if_pos (by omega), hz]
      · by_cases e2 : j < n
        · rw [if_pos e2, if_pos (by omega)]
        · rw [if_neg e2, if_neg (by omega)]
    · go_wp2_with fail
      refine bodyPost_end (v := .tuple #[]) (results_none Tryz.results18 _ _ _) rfl ⟨rfl, ⟨tAt _ _ k, k.c.2.2.1, k.c.2.2.2.1, k.c.2.2.2.2.1, ?_, fun j y hy => cellBut k.but (rd j y hy) hrO, fun j y hy => cellBut k.but (wrt j y hy) hwO, hf.below (But.low h0 k.but hO) (Nat.le_refl _), HL, fun j y hy => ?_⟩, k.but⟩
      · rw [hkb, hkc]; exact k.c.2.2.2.2.2
      · have hj := Lp.lt hy
        rw [hkb, k.row.cell hj, HF.out j y hy, if_pos (by omega)]


end Go.Proofs.YtdlpdiioggiehaaGreat

namespace Go.Proofs.YtdlpdiioggiehaaGreat
open Go.RowKit

theorem M.rng_in (n : Int) (m : Nat) : M.rng 0 ((m : Int) - 1) n = M.inR n m := by
  unfold M.rng M.inR
  congr 1
  rw [decide_eq_decide]
  omega
theorem own_bools {w : World} {base g cap : Nat} {l : List Bool} (h : w.ownsRow base 4 1 (.slice (some ⟨g, 0, none⟩) l.length cap) l.length (bools l)) (i : Nat) (hi : i < l.length) : w.cell? ⟨g, i, none⟩ = some (.bool l[i]) := by
  have hc := h.cells (g := g) rfl i (.bool l[i]) (by simp [bools, hi])
  rwa [Go.WideShapes.add_plain, Nat.zero_add] at hc

set_option maxHeartbeats 2000000 in
set_option maxRecDepth 100000 in
theorem sorderHas_any (a : Option Addr) (b o c : Nat) (ll : List (List M.D)) (fa : Option Addr) (fb fo fc : Nat) (l : List Int) (ra : Option Addr) (rb ro rc : Nat) (rows : List (List Int)) (kind na nb : Int) (w : World) (hl : ll.length ≤ 1048576) (hls : ∀ t ∈ ll, t.length ≤ 1048576) (hl1 : l.length ≤ 1048576) (hrs : ∀ r ∈ rows, r.length ≤ 1048576) (h : DoSS w a b o ll) (hf : IntS w fa fb fo l) (hr : IntSS w ra rb ro rows) :
    Calls Tryz.prog 6 #[.agg #[.slice a ll.length c], .agg #[.slice fa l.length fc, .slice ra rows.length rc], .int .i64 kind, .int .i64 na, .int .i64 nb] w fun e w' => e = .returned (.bool (M.orderHas ll l rows kind na nb)) ∧ Below w.heap.size w w' := by
  have hb1 := below2 w (.cells #[.slice a ll.length c] 34) (.cells #[.slice fa l.length fc, .slice ra rows.length rc] 36)
  have kp : ((w.alloc (.cells #[.slice a ll.length c] 34)).alloc (.cells #[.slice fa l.length fc, .slice ra rows.length rc] 36)).cell? ⟨w.heap.size, 0, none⟩ = some (.slice a ll.length c) := by simp
  have k0 : ((w.alloc (.cells #[.slice a ll.length c] 34)).alloc (.cells #[.slice fa l.length fc, .slice ra rows.length rc] 36)).cell? ⟨w.heap.size + 1, 0, none⟩ = some (.slice fa l.length fc) := by simp
  have k1 : ((w.alloc (.cells #[.slice a ll.length c] 34)).alloc (.cells #[.slice fa l.length fc, .slice ra rows.length rc] 36)).cell? ⟨w.heap.size + 1, 1, none⟩ = some (.slice ra rows.length rc) := by simp
  have hp1 := h.below hb1 (Nat.le_refl _)
  have hf1 := hf.below hb1 (Nat.le_refl _)
  have hr1 := hr.below hb1 (Nat.le_refl _)
  clear h hf hr
  have C1 := sexecOk_any a b o c ll fa fb fo fc l ra rb ro rc rows _ hl hls hl1 hrs hp1 hf1 hr1
  cases hok : M.execOk ll l rows
  · rw [hok] at C1
    go_enter Tryz.func6, Tryz.ntmps6
    go_wp2_with fail
    refine C1.mono ?_
    rintro e w1 ⟨rfl, hb2⟩
    go_wp2_with fail
    go_ret
    exact ⟨ret_bool (by simp only [M.orderHas, hok, Bool.false_and, Bool.and_false]), hb1.trans (hb2.mono hb1.size)⟩
  · rw [hok] at C1
    cases hk : (decide (1 ≤ kind) && decide (kind ≤ 3))
    · go_enter Tryz.func6, Tryz.ntmps6
      go_wp2_with fail
      refine C1.mono ?_
      rintro e w1 ⟨rfl, hb2⟩
      have hk' : M.rng 1 3 kind = false := hk
      go_wp2_with (go_at_call 16; refine (l6In_any kind 1 3 _).mono ?_; rw [hk']; rintro e w' ⟨rfl, rfl⟩)
      go_ret
      exact ⟨ret_bool (by simp only [M.orderHas, hk, Bool.false_and]), hb1.trans (hb2.mono hb1.size)⟩
    · have hk' : M.rng 1 3 kind = true := hk
      have hW := M.wok_of hok
      have HO : Hid (M.orderHas ll l rows kind na nb = (M.inR na (M.deeds ll).length && (M.inR nb (M.deeds ll).length && M.mustAt (M.deeds ll) l rows kind.toNat na.toNat nb.toNat))) := by show _ = _; simp only [M.orderHas, hk, hok, Bool.true_and]
      obtain ⟨h3, h7⟩ := M.prog_bounds hW.prog
      have hdl := M.deeds_len h3 h7
      go_enter Tryz.func6, Tryz.ntmps6
      go_wp2_with fail
      refine C1.mono ?_
      rintro e w1 ⟨rfl, hb2⟩
      have hb12 := hb1.trans (hb2.mono hb1.size)
      have kp1 := cellC hb2 kp
      have k01 := cellC hb2 k0
      have k11 := cellC hb2 k1
      have hp2 := hp1.below hb2 (Nat.le_refl _)
      have hf2 := hf1.below hb2 (Nat.le_refl _)
      have hr2 := hr1.below hb2 (Nat.le_refl _)
      clear kp k0 k1 hp1 hf1 hr1 C1 hb1 hb2
      go_wp2_with (go_at_call 16; refine (l6In_any kind 1 3 _).mono ?_; rw [hk']; rintro e w1x ⟨rfl, rfl⟩)
      refine (l13Look_any a b o c ll _ hW.prog hl hls hdl hp2).mono ?_
      rintro e w3 ⟨O, va, g, cc, v1, v2, rfl, hLk⟩
      have hb13 := hb12.trans (hLk.bel.mono hb12.size)
      have k03 := cellC hLk.bel k01
      have k13 := cellC hLk.bel k11
      have c1 : w3.cell? ⟨O, 1, none⟩ = some (.slice va (M.deeds ll).length cc) := by simp [World.cell?, hLk.blk]
      have hra := M.rng_in na (M.deeds ll).length
      have hrb := M.rng_in nb (M.deeds ll).length
      have wr1 : IntKind.i64.wrap (((M.deeds ll).length : Int) - 1) = ((M.deeds ll).length : Int) - 1 := by rw [IntKind.wrap_i64]; omega
      cases ha : M.inR na (M.deeds ll).length
      · rw [ha] at hra
        go_wp2_with (go_at_call_of 16 (Value.int .i64 na); refine (l6In_any na 0 (((M.deeds ll).length : Int) - 1) _).mono ?_; rw [hra]; rintro e w3x ⟨rfl, rfl⟩)
        go_ret
        exact ⟨ret_bool (by rw [HO.out, ha]; rfl), hb13⟩
      · rw [ha] at hra
        cases hb : M.inR nb (M.deeds ll).length
        · rw [hb] at hrb
          go_wp2_with (first | (go_at_call_of 16 (Value.int .i64 na); refine (l6In_any na 0 (((M.deeds ll).length : Int) - 1) _).mono ?_; rw [hra]; rintro e w3x ⟨rfl, rfl⟩) | (go_at_call_of 16 (Value.int .i64 nb); refine (l6In_any nb 0 (((M.deeds ll).length : Int) - 1) _).mono ?_; rw [hrb]; rintro e w3y ⟨rfl, rfl⟩))
          go_ret
          exact ⟨ret_bool (by rw [HO.out, ha, hb]; rfl), hb13⟩
        · rw [hb] at hrb
          have ha' : 0 ≤ na ∧ na < (M.deeds ll).length := by simpa [M.inR] using ha
          have hb' : 0 ≤ nb ∧ nb < (M.deeds ll).length := by simpa [M.inR] using hb
          have hk4 : kind = 1 ∨ kind = 2 ∨ kind = 3 := by simp only [Bool.and_eq_true, decide_eq_true_eq] at hk; omega
          obtain ⟨pa, rfl⟩ : ∃ p : Nat, na = p := ⟨na.toNat, by omega⟩
          obtain ⟨pb, rfl⟩ : ∃ p : Nat, nb = p := ⟨nb.toNat, by omega⟩
          have hpa : pa < (M.deeds ll).length := by omega
          have hpb : pb < (M.deeds ll).length := by omega
          have hpos : 0 < (M.deeds ll).length := by omega
          obtain ⟨rfl⟩ := hLk.dv.addr hpos
          obtain ⟨rfl⟩ := hf2.addr (by have := hW.len.out; omega)
          obtain ⟨rfl⟩ := hr2.addr (by have := hW.three.out; omega)
          obtain ⟨ub, uc, rfl, _, _⟩ := hLk.own1.form hpos
          obtain ⟨wb, wc, rfl, _, _⟩ := hLk.own2.form hpos
          have rd : ∀ n x, (M.deeds ll)[n]? = some x → w3.cell? ⟨ub, n, none⟩ = some (.bool (M.reads x.d.k)) := fun n x hx => by
            have hn : n < (M.deeds ll).length := by
              rcases Nat.lt_or_ge n (M.deeds ll).length with h | h
              · exact h
              · rw [List.getElem?_eq_none h] at hx; cases hx
            have o1 := hLk.own1
            have := own_bools (l := (M.deeds ll).map fun x => M.reads x.d.k) (by rw [List.length_map]; exact o1) n (by simpa using hn)
            rw [List.getElem?_eq_getElem hn] at hx
            rw [this, List.getElem_map, Option.some.inj hx]
          have wrt : ∀ n x, (M.deeds ll)[n]? = some x → w3.cell? ⟨wb, n, none⟩ = some (.bool (M.writes x.d.k)) := fun n x hx => by
            have hn : n < (M.deeds ll).length := by
              rcases Nat.lt_or_ge n (M.deeds ll).length with h | h
              · exact h
              · rw [List.getElem?_eq_none h] at hx; cases hx
            have o1 := hLk.own2
            have := own_bools (l := (M.deeds ll).map fun x => M.writes x.d.k) (by rw [List.length_map]; exact o1) n (by simpa using hn)
            rw [List.getElem?_eq_getElem hn] at hx
            rw [this, List.getElem_map, Option.some.inj hx]
          have hOl : O < w3.heap.size := World.block_lt_of_cell? _ _ c1
          have hx : (M.deeds ll)[pa]? = some (M.deeds ll)[pa] := List.getElem?_eq_getElem hpa
          have hy : (M.deeds ll)[pb]? = some (M.deeds ll)[pb] := List.getElem?_eq_getElem hpb
          have HM : Hid (∀ k, M.mustAt (M.deeds ll) l rows k pa pb = (M.stays (M.deeds ll) k pa pb (M.deeds ll)[pa] (M.deeds ll)[pb] || M.told l rows k pa pb (M.deeds ll)[pa] (M.deeds ll)[pb])) := fun k => by rw [M.mustAt, hx, hy, M.must_eq hW.fro hW.run k hpa hpb]
          have CW := fun (hb0 : True) => way_any ⟨O, a, b, o, c, ll, g, cc⟩ ⟨ub, uc, wb, wc, fb, fo, fc, l, w3.heap.size + 1, (M.deeds ll).length, rows⟩ _ w3 rc ⟨hl, hls, hdl⟩ hW.pl hpos hW.len hW.three hrs rb ro hLk.bel hLk.ge hOl hp2 hf2 hr2 hLk.blk hLk.dv rd wrt rfl rfl
          have hkO : (⟨O, a, b, o, c, ll, g, cc⟩ : Lp).Ok := ⟨hl, hls, hdl⟩
          generalize (M.deeds ll)[pa] = x at *
          generalize (M.deeds ll)[pb] = y at *
          go_wp2_with (first | (go_at_call_of 16 (Value.int .i64 (pa : Int)); refine (l6In_any pa 0 (((M.deeds ll).length : Int) - 1) _).mono ?_; rw [hra]; rintro e w3x ⟨rfl, rfl⟩) | (go_at_call_of 16 (Value.int .i64 (pb : Int)); refine (l6In_any pb 0 (((M.deeds ll).length : Int) - 1) _).mono ?_; rw [hrb]; rintro e w3y ⟨rfl, rfl⟩))
          refine (CW trivial).mono ?_
          rintro e w4 ⟨rfl, hAt, hBut⟩
          have hb14 : Below w.heap.size w w4 := But.low hb13 hBut (by have := hLk.ge; have := hb12.size; omega)
          rcases hk4 with rfl | rfl | rfl
          · go_wp2_with fail
            have CS := stays1_any _ _ pa pb x y w4 hkO hAt hx hy
            cases hs : M.stays (M.deeds ll) 1 pa pb x y
            · rw [show M.stays (M.deeds (Lp.ll ⟨O, a, b, o, c, ll, g, cc⟩)) 1 pa pb x y = false from hs] at CS
              refine CS.mono ?_
              rintro e w5 ⟨rfl, hb5⟩
              go_wp2_with fail
              refine (told1_any _ _ pa pb x y w5 hkO (hAt.below hb5) hx hy).mono ?_
              rintro e w6 ⟨rfl, hb6⟩
              have hb15 := hb14.trans (hb5.mono hb14.size)
              go_wp2_with fail
              go_ret
              exact ⟨ret_bool (by rw [HO.out, ha, hb, Int.toNat_natCast, Int.toNat_natCast, HM.out]; show _ = (M.stays (M.deeds ll) 1 pa pb x y || M.told l rows 1 pa pb x y); rw [hs]; rfl), hb15.trans (hb6.mono hb15.size)⟩
            · rw [show M.stays (M.deeds (Lp.ll ⟨O, a, b, o, c, ll, g, cc⟩)) 1 pa pb x y = true from hs] at CS
              refine CS.mono ?_
              rintro e w5 ⟨rfl, hb5⟩
              go_wp2_with fail
              go_ret
              exact ⟨ret_bool (by rw [HO.out, ha, hb, Int.toNat_natCast, Int.toNat_natCast, HM.out]; show _ = (M.stays (M.deeds ll) 1 pa pb x y || M.told l rows 1 pa pb x y); rw [hs]; rfl), hb14.trans (hb5.mono hb14.size)⟩
          · go_wp2_with fail
            have CS := stays2_any _ _ pa pb x y w4 hkO hAt hx hy
            cases hs : M.stays (M.deeds ll) 2 pa pb x y
            · rw [show M.stays (M.deeds (Lp.ll ⟨O, a, b, o, c, ll, g, cc⟩)) 2 pa pb x y = false from hs] at CS
              refine CS.mono ?_
              rintro e w5 ⟨rfl, hb5⟩
              go_wp2_with fail
              refine (told2_any _ _ pa pb x y w5 hkO (hAt.below hb5) hx hy).mono ?_
              rintro e w6 ⟨rfl, hb6⟩
              have hb15 := hb14.trans (hb5.mono hb14.size)
              go_wp2_with fail
              go_ret
              exact ⟨ret_bool (by rw [HO.out, ha, hb, Int.toNat_natCast, Int.toNat_natCast, HM.out]; show _ = (M.stays (M.deeds ll) 2 pa pb x y || M.told l rows 2 pa pb x y); rw [hs]; rfl), hb15.trans (hb6.mono hb15.size)⟩
            · rw [show M.stays (M.deeds (Lp.ll ⟨O, a, b, o, c, ll, g, cc⟩)) 2 pa pb x y = true from hs] at CS
              refine CS.mono ?_
              rintro e w5 ⟨rfl, hb5⟩
              go_wp2_with fail
              go_ret
              exact ⟨ret_bool (by rw [HO.out, ha, hb, Int.toNat_natCast, Int.toNat_natCast, HM.out]; show _ = (M.stays (M.deeds ll) 2 pa pb x y || M.told l rows 2 pa pb x y); rw [hs]; rfl), hb14.trans (hb5.mono hb14.size)⟩
          · go_wp2_with fail
            have CS := stays3_any _ _ pa pb x y w4 hkO hAt hx hy
            cases hs : M.stays (M.deeds ll) 3 pa pb x y
            · rw [show M.stays (M.deeds (Lp.ll ⟨O, a, b, o, c, ll, g, cc⟩)) 3 pa pb x y = false from hs] at CS
              refine CS.mono ?_
              rintro e w5 ⟨rfl, hb5⟩
              go_wp2_with fail
              refine (told3_any _ _ pa pb x y w5 hkO (hAt.below hb5) hx hy).mono ?_
              rintro e w6 ⟨rfl, hb6⟩
              have hb15 := hb14.trans (hb5.mono hb14.size)
              go_wp2_with fail
              go_ret
              exact ⟨ret_bool (by rw [HO.out, ha, hb, Int.toNat_natCast, Int.toNat_natCast, HM.out]; show _ = (M.stays (M.deeds ll) 3 pa pb x y || M.told l rows 3 pa pb x y); rw [hs]; rfl), hb15.trans (hb6.mono hb15.size)⟩
            · rw [show M.stays (M.deeds (Lp.ll ⟨O, a, b, o, c, ll, g, cc⟩)) 3 pa pb x y = true from hs] at CS
              refine CS.mono ?_
              rintro e w5 ⟨rfl, hb5⟩
              go_wp2_with fail
              go_ret
              exact ⟨ret_bool (by rw [HO.out, ha, hb, Int.toNat_natCast, Int.toNat_natCast, HM.out]; show _ = (M.stays (M.deeds ll) 3 pa pb x y || M.told l rows 3 pa pb x y); rw [hs]; rfl), hb14.trans (hb5.mono hb14.size)⟩

end Go.Proofs.YtdlpdiioggiehaaGreat

namespace Go.Proofs.YtdlpdiioggiehaaGreat
open Go.RowKit

theorem ixh_any (a : Option Addr) (b o c : Nat) (ll : List (List M.D)) (t : Xo) (g1 g2 : Nat) (kd na nb : Int) (w : World) (hl : ll.length ≤ 1048576) (hls : ∀ t ∈ ll, t.length ≤ 1048576) (ht : t.Le 1048576) (h : DoSS w a b o ll) (hx : NewXo w g1 g2 t) :
    Calls Tryz.prog 9 #[.agg #[.slice a ll.length c], .agg #[.slice (some ⟨g1, 0, none⟩) t.l.length t.l.length, .slice (some ⟨g2, 0, none⟩) t.rows.length t.rows.length], .int .i64 kd, .int .i64 na, .int .i64 nb] w fun e w' => e = .returned (.bool (M.orderHas ll t.l t.rows kd na nb)) ∧ Below w.heap.size w w' :=
  iorderHas_any a b o c ll _ g1 0 _ t.l _ g2 0 _ t.rows kd na nb w hl hls ht.l ht.rows ht.each h hx.f hx.r
theorem sxh_any (a : Option Addr) (b o c : Nat) (ll : List (List M.D)) (t : Xo) (g1 g2 : Nat) (kd na nb : Int) (w : World) (hl : ll.length ≤ 1048576) (hls : ∀ t ∈ ll, t.length ≤ 1048576) (ht : t.Le 1048576) (h : DoSS w a b o ll) (hx : NewXo w g1 g2 t) :
    Calls Tryz.prog 6 #[.agg #[.slice a ll.length c], .agg #[.slice (some ⟨g1, 0, none⟩) t.l.length t.l.length, .slice (some ⟨g2, 0, none⟩) t.rows.length t.rows.length], .int .i64 kd, .int .i64 na, .int .i64 nb] w fun e w' => e = .returned (.bool (M.orderHas ll t.l t.rows kd na nb)) ∧ Below w.heap.size w w' :=
  sorderHas_any a b o c ll _ g1 0 _ t.l _ g2 0 _ t.rows kd na nb w hl hls ht.l ht.each h hx.f hx.r

set_option maxHeartbeats 1000000 in
set_option maxRecDepth 100000 in
theorem lawOrderHas_any (a : Option Addr) (b o c : Nat) (ll : List (List M.D)) (t : Xo) (kd na nb : Int) (w : World) (hl0 : ll.length ≤ 9223372036854775807) (hls0 : ∀ t ∈ ll, t.length ≤ 9223372036854775807) (ht0 : t.Le 9223372036854775807) (hsa : DoSS w a b o ll) (hta : t.At w) :
    Calls Tryz.prog 3 #[.agg #[.slice a ll.length c], .agg #[.slice t.fa t.l.length t.fc, .slice t.ra t.rows.length t.rc], .int .i64 kd, .int .i64 na, .int .i64 nb] w fun e w' => e = .returned (.bool true) ∧ Below w.heap.size w w' := by
  go_enter Tryz.func3, Tryz.ntmps3
  go_wp2_with fail
  refine (szProg_le a b o c ll _ hl0 hls0 (hsa.below (below2 w _ _) (Nat.le_refl _))).mono ?_
  rintro e w1 ⟨r1, rfl, rfl, hor1⟩
  by_cases hn1 : r1 < 0
  · go_wp2_with fail
    go_ret
    exact ⟨rfl, below3 _ _ _ _⟩
  obtain ⟨hr1, _, hl, hls⟩ := hor1.resolve_left hn1
  clear hor1
  go_wp2_with fail
  refine (szXo_any t r1 _ (by omega) hr1 ht0 (hta.below (below3 w _ _ _) (Nat.le_refl _))).mono ?_
  rintro e w1 ⟨r2, rfl, rfl, hr2, hor2⟩
  have hb4 := (below3 w (.cells #[.slice a ll.length c] 24) (.cells #[.slice t.fa t.l.length t.fc, .slice t.ra t.rows.length t.rc] 28) (.cells #[.slice a ll.length c] 24)).alloc (by simp; omega) (.cells #[.slice t.fa t.l.length t.fc, .slice t.ra t.rows.length t.rc] 28)
  by_cases hn2 : r2 < 0
  · go_wp2_with fail
    go_ret
    exact ⟨rfl, hb4⟩
  have ht := (hor2.resolve_left hn2).2
  clear hor2
  have st0 : StP w _ a b o c ll t := ⟨hb4, by simp, by simp [go_sem], by simp [go_sem], by simp [go_sem], hsa.below hb4 (Nat.le_refl _), hta.below hb4 (Nat.le_refl _)⟩
  generalize ((((w.alloc (.cells #[.slice a ll.length c] 24)).alloc (.cells #[.slice t.fa t.l.length t.fc, .slice t.ra t.rows.length t.rc] 28)).alloc (.cells #[.slice a ll.length c] 24)).alloc (.cells #[.slice t.fa t.l.length t.fc, .slice t.ra t.rows.length t.rc] 28)) = W at *
  clear hb4 hsa hta hl0 hls0 ht0
  go_wp2_with fail
  have st1 := st0.below (Below.refl _ _).drew
  have C1 := toProg_any a b o c ll W.drew hl hls st1.sa
  have X0 := st0.p0; have X2 := st0.q0; have X3 := st0.q1
  obtain ⟨ro, hro⟩ : ∃ r, M.orderHas ll t.l t.rows kd na nb = r := ⟨_, rfl⟩
  have HR : Hid (M.orderHas ll t.l t.rows kd na nb = ro) := hro
  clear hro
  go_region_held3 (fun w' => w'.cell? ⟨w.heap.size, 0, none⟩ = some (.slice a ll.length c) ∧ w'.cell? ⟨w.heap.size + 1, 0, none⟩ = some (.slice t.fa t.l.length t.fc) ∧ w'.cell? ⟨w.heap.size + 1, 1, none⟩ = some (.slice t.ra t.rows.length t.rc)) (go_keep) (first
    | (go_at_call 7; refine C1.mono ?_; rintro e w1 ⟨g1, rfl, hn1, hb1⟩; have st2 := st1.below hb1; have Y0 := st2.p0; have Y2 := st2.q0; have Y3 := st2.q1)
    | (go_at_call_of 8 (Value.agg #[.slice t.fa t.l.length t.fc, .slice t.ra t.rows.length t.rc]); refine (toXo_any t _ ht st2.ta).mono ?_; rintro e w2 ⟨g3, g4, rfl, hn2, hb2⟩; have st3 := st2.below hb2; have Z0 := st3.p0; have Z2 := st3.q0; have Z3 := st3.q1)
    | (go_at_call 6; refine (sxh_any _ g1 0 ll.length ll t g3 g4 kd na nb _ hl hls ht (hn1.old.below hb2 (Nat.le_refl _)) hn2).mono ?_; (show ∀ e w', e = Ending.returned (.bool (M.orderHas ll t.l t.rows kd na nb)) ∧ _ → _); rw [HR.out]; rintro e w3 ⟨rfl, hg3⟩; have st4 := st3.below hg3; have U0 := st4.p0; have U2 := st4.q0; have U3 := st4.q1))
  clear X0 X2 X3 Y0 Y2 Y3 Z0 Z2 Z3 st0 st1 st2 st3 C1 hn1 hn2 hb1 hb2 hg3
  go_wp2_with fail
  refine (toProg_any a b o c ll _ hl hls st4.sa).mono ?_
  rintro e w5 ⟨x1, rfl, hx, hb5⟩
  have st5 := st4.below hb5
  have V0 := st5.p0; have V2 := st5.q0; have V3 := st5.q1; have V4 := st5.lt
  clear U0 U2 U3 st4 hb5
  go_wp2_with fail
  have st6 := st5.below (below1 w5 (.cells #[.slice (some ⟨x1, 0, none⟩) ll.length ll.length] 34))
  have hx6 := hx.below (below1 w5 (.cells #[.slice (some ⟨x1, 0, none⟩) ll.length ll.length] 34)) (Nat.le_refl _)
  refine (toXo_any t _ ht st6.ta).mono ?_
  rintro e w7 ⟨y1, y2, rfl, hy, hb7⟩
  have st7 := st6.below hb7
  have hx7 := hx6.below hb7 (Nat.le_refl _)
  have A0 : w7.cell? ⟨w5.heap.size, 0, none⟩ = some (.slice (some ⟨x1, 0, none⟩) ll.length ll.length) := by rw [hb7.cell (p := ⟨w5.heap.size, 0, none⟩) (by simp)]; simp
  have A2 : w5.heap.size < w7.heap.size := World.block_lt_of_cell? _ _ A0
  have V0' := st7.p0; have V2' := st7.q0; have V3' := st7.q1; have V4' := st7.lt
  clear V0 V2 V3 V4 st5 st6 hx hx6 hb7
  go_wp2_with fail
  have hb8 := below1 w7 (.cells #[.slice (some ⟨y1, 0, none⟩) t.l.length t.l.length, .slice (some ⟨y2, 0, none⟩) t.rows.length t.rows.length] 36)
  refine (ixh_any _ x1 0 ll.length ll t y1 y2 kd na nb _ hl hls ht (hx7.old.below hb8 (Nat.le_refl _)) (hy.below hb8 (Nat.le_refl _))).mono ?_
  show ∀ e w', e = Ending.returned (.bool (M.orderHas ll t.l t.rows kd na nb)) ∧ _ → _
  rw [HR.out]
  rintro e w8 ⟨rfl, hg8⟩
  have hb8' : Below w7.heap.size w7 w8 := hb8.trans (hg8.mono (by simp))
  have st8 := st7.below hb8'
  have hx8 := hx7.below hb8' (Nat.le_refl _)
  have hy8 := hy.below hb8' (Nat.le_refl _)
  have X0 := st8.p0; have X2 := st8.q0; have X3 := st8.q1; have X4 := st8.lt
  have B0 : w8.cell? ⟨w5.heap.size, 0, none⟩ = some (.slice (some ⟨x1, 0, none⟩) ll.length ll.length) := (hb8'.cell (p := ⟨w5.heap.size, 0, none⟩) A2).trans A0
  have B2 : w8.cell? ⟨w7.heap.size, 0, none⟩ = some (.slice (some ⟨y1, 0, none⟩) t.l.length t.l.length) := by rw [hg8.cell (p := ⟨w7.heap.size, 0, none⟩) (by simp)]; simp
  have B3 : w8.cell? ⟨w7.heap.size, 1, none⟩ = some (.slice (some ⟨y2, 0, none⟩) t.rows.length t.rows.length) := by rw [hg8.cell (p := ⟨w7.heap.size, 1, none⟩) (by simp)]; simp
  have L5 : w5.heap.size < w8.heap.size := World.block_lt_of_cell? _ _ B0
  have L7 : w7.heap.size < w8.heap.size := World.block_lt_of_cell? _ _ B2
  clear A0 A2 V0' V2' V3' V4' st7 hx7 hy hb8 hb8' hg8
  generalize w5.heap.size = G5 at *
  generalize w7.heap.size = G7 at *
  go_wp2_with fail
  have st9 := st8.below (Below.refl _ _).drew
  have hx9 := hx8.below (Below.refl _ _).drew (Nat.le_refl _)
  have C1 := toProg_any a b o c ll w8.drew hl hls st9.sa
  go_region_held3 (fun w' => w'.cell? ⟨w.heap.size, 0, none⟩ = some (.slice a ll.length c) ∧ w'.cell? ⟨G5, 0, none⟩ = some (.slice (some ⟨x1, 0, none⟩) ll.length ll.length)) (go_keep) (first
    | (go_at_call 7; refine C1.mono ?_; rintro e w9 ⟨g1, rfl, hn1, hb1⟩; have st10 := st9.below hb1; have Y0 := st10.p0; have D0 := (hb1.cell (p := ⟨G5, 0, none⟩) L5).trans B0)
    | (go_at_call 10; refine (eqProg_same _ x1 0 ll.length _ g1 0 ll.length ll _ hl hls (hx9.below hb1 (Nat.le_refl _)).old hn1.old).mono ?_; rintro e w10 ⟨rfl, hg10⟩; have st11 := st10.below hg10; have Z0 := st11.p0; have E0 := (hg10.cell (p := ⟨G5, 0, none⟩) (Nat.lt_of_lt_of_le L5 hb1.size)).trans D0))
  have hy11 := ((hy8.below (Below.refl _ _).drew (Nat.le_refl _)).below hb1 (Nat.le_refl _)).below hg10 (Nat.le_refl _)
  have hb11 : Below w8.heap.size w8 w10 := ((Below.refl _ _).drew.trans hb1).trans (hg10.mono hb1.size)
  have F0 := (hb11.cell (p := ⟨G7, 0, none⟩) L7).trans B2
  have F1 := (hb11.cell (p := ⟨G7, 1, none⟩) L7).trans B3
  have L7' : G7 < w10.heap.size := World.block_lt_of_cell? _ _ F0
  have Z2 := st11.q0; have Z3 := st11.q1
  clear B0 B2 B3 L5 L7 D0 E0 Y0 X0 X2 X3 X4 st8 st9 st10 hx8 hy8 hx9 C1 hn1 hb1 hg10 hb11
  go_wp2_with fail
  have st12 := st11.below (Below.refl _ _).drew
  have hy12 := hy11.below (Below.refl _ _).drew (Nat.le_refl _)
  have C2 := toXo_any t w10.drew ht st12.ta
  go_region_held3 (fun w' => w'.cell? ⟨w.heap.size + 1, 0, none⟩ = some (.slice t.fa t.l.length t.fc) ∧ w'.cell? ⟨w.heap.size + 1, 1, none⟩ = some (.slice t.ra t.rows.length t.rc) ∧ w'.cell? ⟨G7, 0, none⟩ = some (.slice (some ⟨y1, 0, none⟩) t.l.length t.l.length) ∧ w'.cell? ⟨G7, 1, none⟩ = some (.slice (some ⟨y2, 0, none⟩) t.rows.length t.rows.length)) (go_keep) (first
    | (go_at_call 8; refine C2.mono ?_; rintro e w12 ⟨g3, g4, rfl, hn2, hb2⟩; have st13 := st12.below hb2; have Y0 := st13.q0; have Y1 := st13.q1; have D0 := (hb2.cell (p := ⟨G7, 0, none⟩) L7').trans F0; have D1 := (hb2.cell (p := ⟨G7, 1, none⟩) L7').trans F1)
    | (go_at_call 11; refine (eqXo_any t (hy12.below hb2 (Nat.le_refl _)) hn2 ht).mono ?_; rintro e w13 ⟨rfl, hg13⟩; have st14 := st13.below hg13; have Z4 := st14.q0; have Z5 := st14.q1; have E0 := (hg13.cell (p := ⟨G7, 0, none⟩) (Nat.lt_of_lt_of_le L7' hb2.size)).trans D0; have E1 := (hg13.cell (p := ⟨G7, 1, none⟩) (Nat.lt_of_lt_of_le L7' hb2.size)).trans D1))
  go_wp2_with fail
  go_ret
  exact ⟨rfl, st14.bel⟩

end Go.Proofs.YtdlpdiioggiehaaGreat
