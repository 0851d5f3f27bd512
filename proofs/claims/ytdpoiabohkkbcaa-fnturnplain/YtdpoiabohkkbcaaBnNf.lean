/- spec.DrawTurnPlain: a drawn program. Of codes of at most 1048576 bytes. append of steps onto an empty row that was made: in plain regions, and in those that draw their order. No condition. spec.TurnPlain. Of at most 1048576 threads, and steps of a thread. The law FnTurnPlain, walked: it answers true, and leaves all as it was. Of whatever code. -/
import Derived.Test.YtdpoiabohkkbcaaDrAn
import Derived.Test.YtdpoiabohkkbcaaDrOp
import Derived.Test.YtdpoiabohkkbcaaBnNd
import Derived.Deep.RegionLaw
import Derived.Maps.AppendAt
import Derived.Test.YtdpoiabohkkbcaaSProg
import Derived.Test.YtdpoiabohkkbcaaBnNe
import Derived.Test.YtdpoiabohkkbcaaLpPg
import Derived.Test.YtdpoiabohkkbcaaReads
import Derived.Test.YtdpoiabohkkbcaaWide

namespace Go.Proofs.Ytdpoiabohkkbcaa
open Go.RowKit

set_option maxHeartbeats 1000000 in
set_option maxRecDepth 100000 in
theorem DrawTurnPlain_any (ca : Option Addr) (cb co L C : Nat) (x : Nat → Int) (w : World) (hL : L ≤ C) (had : 0 < L → ca = some ⟨cb, co, none⟩) (hc : ∀ i, i < L → w.cell? ⟨cb, co + i, none⟩ = some (.int .u8 (x i)) ∧ 0 ≤ x i ∧ x i ≤ 255) (hLb : L ≤ 1048576) :
    Calls Try.prog 9 #[.slice ca L C] w fun e w' => ∃ (a : Option Addr) (g c : Nat) (mm : List (List M.D)), e = .returned (.agg #[.slice a mm.length c]) ∧ DoSN (w.heap.size + 1) w' a g 0 mm ∧ Small mm c ∧ Below w.heap.size w w' := by
  go_enter Try.func9, Try.ntmps9
  go_wp2_with fail
  have hb0 := below1 w (.cells #[.slice none 0 0] 25)
  refine (l6Open_any ca cb co L C x _ hL had (fun i hi => ⟨by rw [hb0.cell (p := ⟨cb, co + i, none⟩) (World.block_lt_of_cell? _ _ (hc i hi).1)]; exact (hc i hi).1, (hc i hi).2⟩) hLb).mono ?_
  rintro e w1 ⟨rfl, hr1, hb1⟩
  simp only [World.size_alloc] at hr1 hb1 ⊢
  have hb1w : Below w.heap.size w w1 := hb0.trans (hb1.mono (by omega))
  have hS1 := (Slot1.new w (.slice none 0 0) 25).but (But.of (rb := w.heap.size + 1) (by simpa only [World.size_alloc] using hb1)) (by omega)
  have hlt1 := hr1.lt
  clear hc had hb0 hb1
  go_wp2_with fail
  refine (l71Any_any _ (w.heap.size + 1) 0 _ (by omega) hr1).mono ?_
  rintro e w2 ⟨a, g, c, mm, rfl, hsn, hsm, p2, hp2, hr2, hb2⟩
  have hS2 := hS1.but hb2 (by omega)
  have s0 := hS2.c
  have sf := hS2.fz
  have hsl := hS2.lt
  have hbw : Below w.heap.size w w2 := But.below hb1w hb2 (by omega)
  go_wp2_with fail
  have s4 := (hS2.set (.slice a mm.length c)).c
  refine bodyPost_ret (v := .agg #[.slice a mm.length c]) (by simp [results, Try.results9, go_sem, s4]) rfl ⟨a, g, c, mm, rfl, (hsn.far (by omega)).mono (by omega), hsm, hbw.setCell (Nat.le_refl _) _⟩

end Go.Proofs.Ytdpoiabohkkbcaa

namespace Go.Proofs.Ytdpoiabohkkbcaa
open Go.RowKit

theorem run_append_emp0 {P : Program} (w : World) (t ty e : TypeId) (i : TypeInfo) (ht : P.underlying t = some (.slice e)) (hi : P.info? e = some i) (ad : Addr) (a : Option Addr) (c : Nat) :
    (Builtin.append_ #[t, t] ty #[.slice (some ad) 0 0, .slice a 0 c]).run P w = .ok (.slice (some ad) 0 0) w := by
  cases a
  · simp [Builtin.append_, run_underlying ht, sizeOf, typeInfo, hi, Builtin.lenOf, Builtin.firstCells, storeCells]
  · simp [Builtin.append_, run_underlying ht, sizeOf, typeInfo, hi, Builtin.lenOf, Builtin.firstCells, loadCells, loadCellsFrom, storeCells]
theorem grow_refl (w : World) (row : Option Nat) : w.grownBy w row := ⟨rfl, rfl, rfl, Nat.le_refl _, fun _ _ _ => rfl⟩
theorem own_emp {X : World} {base g size : Nat} {e : TypeId} (h : X.heap[g]? = some (.cells #[] e (0, 0))) (hb : base ≤ g) : X.ownsRow base e size (.slice (some ⟨g, 0, none⟩) 0 0) 0 [] :=
  ⟨by simp, .inr ⟨g, 0, #[], rfl, hb, h, Nat.le_refl _, Nat.zero_le _, by simp, by simp⟩⟩

theorem wp_append_does {P : Program} {o : Oper} {a : Act} {w : World} {K : Act → World → Prop} {Q : Exit → Act → World → Prop} (s x : Operand) (t : TypeId)
    (ho : o.op = .call { callee := .builtin .append, args := #[s, x], argTypes := #[t, t] }) (d : Option Tmp) (hd : o.dst = d) (base : Nat) (e : TypeId) (i : TypeInfo) (ht : P.underlying t = some (.slice e)) (hi : P.info? e = some i) (hz0 : i.zero = some (.agg #[.int .i64 0, .int .i64 0, .int .i64 0])) (hz1 : i.size = 3) (hz2 : i.bytes = 24)
    (g : Nat) (hs : a.eval s = .slice (some ⟨g, 0, none⟩) 0 0) (hown : w.ownsRow base e 3 (.slice (some ⟨g, 0, none⟩) 0 0) 0 []) (hbase : base ≤ w.heap.size) (sa : Option Addr) (b off c : Nat) (l : List M.D) (hx : a.eval x = .slice sa l.length c) (hI : DoS w sa b off l) (hl : l.length ≤ 1048576)
    (h : ∀ v' w', w'.ownsRow base e 3 v' l.length (flat l) → w.grownBy w' (some g) → (v'.ownBlock = some g ∨ v'.ownBlock = some w.heap.size) → K (a.put d v') w') :
    Oper.wp P o a w K Q := by
  subst hd
  cases sa with
  | none =>
    have hl0 : l = [] := by
      rcases Nat.eq_zero_or_pos l.length with h0 | h0
      · exact List.length_eq_zero_iff.1 h0
      · cases hI.addr h0
    subst hl0
    rw [List.length_nil] at hx
    have hrun := run_append_emp0 (P := P) w t o.type e i ht hi ⟨g, 0, none⟩ none c
    have hk := h (.slice (some ⟨g, 0, none⟩) 0 0) w hown (grow_refl _ _) (.inl rfl)
    unfold Oper.wp
    simp [execOp, ho, resolve, invoke, builtin, hs, hx, hrun, Result.andThen]
    exact hk
  | some ad =>
    have hn : ∀ j u, (flat l)[j]? = some u → w.cell? (ad.add j) = some u := fun j u hj => by
      have hjl := (List.getElem?_eq_some_iff.1 hj).1
      rw [flat_length] at hjl
      obtain ⟨rfl⟩ := hI.addr (by omega)
      exact DoS.flat_cells hI.row j u hj
    obtain ⟨v', w', hrun, h2, h3, _, h5⟩ := run_append_own_at (P := P) w base t o.type e i (.agg #[.int .i64 0, .int .i64 0, .int .i64 0]) 3 24 ht hi hz0 hz1 hz2 rfl (by decide) (.slice (some ⟨g, 0, none⟩) 0 0) 0 [] hown ad l.length c (flat l) (flat_length l) hn (flat_one' l) (by unfold maxLen; omega) (by omega) hbase
    have hk := h v' w' (by simpa using h2) h3 h5
    unfold Oper.wp
    simp [execOp, ho, resolve, invoke, builtin, hs, hx, hrun, Result.andThen]
    exact hk
theorem step_append_does {P : Program} {ops : Array Oper} {o : Oper} {a : Act} {w : World} {K : Act → World → Prop} {Q : Exit → Act → World → Prop} {E : Prop} (hgd : o.guard = none) (s x : Operand) (t : TypeId)
    (ho : o.op = .call { callee := .builtin .append, args := #[s, x], argTypes := #[t, t] }) (d : Option Tmp) (hd : o.dst = d) (base : Nat) (e : TypeId) (i : TypeInfo) (ht : P.underlying t = some (.slice e)) (hi : P.info? e = some i) (hz0 : i.zero = some (.agg #[.int .i64 0, .int .i64 0, .int .i64 0])) (hz1 : i.size = 3) (hz2 : i.bytes = 24)
    (g : Nat) (hs : a.eval s = .slice (some ⟨g, 0, none⟩) 0 0) (hown : w.ownsRow base e 3 (.slice (some ⟨g, 0, none⟩) 0 0) 0 []) (hbase : base ≤ w.heap.size) (sa : Option Addr) (b off c : Nat) (l : List M.D) (hx : a.eval x = .slice sa l.length c) (hI : DoS w sa b off l) (hl : l.length ≤ 1048576)
    (h : ∀ v' w', w'.ownsRow base e 3 v' l.length (flat l) → w.grownBy w' (some g) → (v'.ownBlock = some g ∨ v'.ownBlock = some w.heap.size) → K (a.put d v') w') :
    if Region.wanted o (yielded ops a.tmps) = true then Oper.wp P o a w K Q else E := by
  have hw : Region.wanted o (yielded ops a.tmps) = true := by simp [Region.wanted, hgd]
  rw [if_pos hw]
  exact wp_append_does s x t ho d hd base e i ht hi hz0 hz1 hz2 g hs hown hbase sa b off c l hx hI hl h
theorem wpList_append_does {P : Program} {ops : Array Oper} {rest : List Oper} {o : Oper} {a : Act} {w : World} {Q : Exit → Act → World → Prop} (hgd : o.guard = none) (s x : Operand) (t : TypeId)
    (ho : o.op = .call { callee := .builtin .append, args := #[s, x], argTypes := #[t, t] }) (d : Option Tmp) (hd : o.dst = d) (base : Nat) (e : TypeId) (i : TypeInfo) (ht : P.underlying t = some (.slice e)) (hi : P.info? e = some i) (hz0 : i.zero = some (.agg #[.int .i64 0, .int .i64 0, .int .i64 0])) (hz1 : i.size = 3) (hz2 : i.bytes = 24)
    (g : Nat) (hs : a.eval s = .slice (some ⟨g, 0, none⟩) 0 0) (hown : w.ownsRow base e 3 (.slice (some ⟨g, 0, none⟩) 0 0) 0 []) (hbase : base ≤ w.heap.size) (sa : Option Addr) (b off c : Nat) (l : List M.D) (hx : a.eval x = .slice sa l.length c) (hI : DoS w sa b off l) (hl : l.length ≤ 1048576)
    (h : ∀ v' w', w'.ownsRow base e 3 v' l.length (flat l) → w.grownBy w' (some g) → (v'.ownBlock = some g ∨ v'.ownBlock = some w.heap.size) → wpList P ops Q rest (a.put d v') w') :
    wpList P ops Q (o :: rest) a w :=
  wpList_plain hgd fun _ hK => wp_append_does s x t ho d hd base e i ht hi hz0 hz1 hz2 g hs hown hbase sa b off c l hx hI hl fun v' w' h1 h2 h3 => by
    subst hd
    exact hK _ _ (h v' w' h1 h2 h3)

end Go.Proofs.Ytdpoiabohkkbcaa

namespace Go.Proofs.Ytdpoiabohkkbcaa
open Go.RowKit

set_option maxHeartbeats 4000000 in
set_option maxRecDepth 100000 in
theorem sturnPlain_any (a : Option Addr) (b o c : Nat) (ll : List (List M.D)) (hl : ll.length ≤ 1048576) (hls : ∀ t ∈ ll, t.length ≤ 1048576) (w : World) (h : DoSS w a b o ll) :
    Calls Try.prog 12 #[.agg #[.slice a ll.length c]] w fun e w' => ∃ v, e = .returned (.agg #[v]) ∧ (∃ vs, Rdg w' w.heap.size v (M.turnPlain ll) vs) ∧ Below w.heap.size w w' := by
  obtain ⟨i0, hi, hz0, hz1, hz2⟩ := info_parts Try.info58
  obtain ⟨j0, hj, hy0, hy1, hy2⟩ := info_parts Try.info55
  have bw1 := below2 w (.cells #[.slice a ll.length c] 25) (.cells #[.slice none 0 0] 25)
  have hD := h.below bw1 (Nat.le_refl _)
  have hX1 := (Slot1.new w (.slice a ll.length c) 25).bl' (below1 _ (.cells #[.slice none 0 0] 25))
  have hY1 := Slot1.new (w.alloc (.cells #[.slice a ll.length c] 25)) (.slice none 0 0) 25
  rw [World.size_alloc] at hY1
  have HSZ : Hid (((w.alloc (.cells #[.slice a ll.length c] 25)).alloc (.cells #[.slice none 0 0] 25)).heap.size = w.heap.size + 1 + 1) := by show _ = _; simp
  go_enter Try.func12, Try.ntmps12
  go_wp2_with fail
  generalize (w.alloc (.cells #[.slice a ll.length c] 25)).alloc (.cells #[.slice none 0 0] 25) = W2 at *
  have bA := below1 W2 (.cells #[.slice none 0 0] 25)
  have hYA := hY1.bl' bA
  have hZA := Slot1.new W2 (.slice none 0 0) 25
  rw [HSZ.out] at hZA
  have lX := hX1.lt
  have lY := hY1.lt
  have hX1c := hX1.c
  have CP := fun W hb => sprog_any a b o c ll W hl hls (hD.below (w' := W) hb (Nat.le_refl W2.heap.size))
  generalize W2.alloc (.cells #[.slice none 0 0] 25) = WA at *
  cases hp : M.prog ll
  · rw [hp] at CP
    have hno := M.turnPlain_bad hp
    go_loopw [4] (fun s4 wr => s4 = .int .i64 0 ∧ Slot1 wr (w.heap.size + 1 + 1) (.slice none 0 0) ∧ Slot1 wr (w.heap.size + 1) (.slice none 0 0) ∧ Below W2.heap.size W2 wr) (fun _ _ => 0)
    case atStart => exact ⟨rfl, hZA, hYA, bA⟩
    case round =>
      obtain ⟨rfl, hP, hY, hbel⟩ := hrel
      have xx0 := (hbel.cell (p := ⟨w.heap.size, 0, none⟩) lX).trans hX1c
      have CPr := CP wr hbel
      have hne : w.heap.size + 1 ≠ w.heap.size + 1 + 1 := by omega
      clear hZA hYA bA CP
      by_cases h0 : 0 < ll.length
      · have h0' : (0 : Int) < ll.length := by omega
        go_wp2_with (first | (go_at_call 13; refine CPr.mono ?_; rintro e W3 ⟨rfl, b3⟩; have hP3 := hP.bl' b3; have hY3 := hY.bl' b3; have p0 := hP3.c; have pf := hP3.fz; have q0 := hY3.c; have qf := hY3.fz; have lP := hP3.lt; have lQ := hY3.lt))
        have hbw := bw1.trans ((hbel.trans (b3.mono hbel.size)).mono bw1.size)
        have q1 := (hY3.set (.slice none 0 0)).c
        exact bodyPost_ret (v := .agg #[.slice none 0 0]) (by simp [results, Try.results12, go_sem, q1]) rfl ⟨_, rfl, ⟨[], by first | (rw [hno]; exact Rdg.nil _ _) | exact Rdg.nil _ _⟩, hbw.setCell (by show w.heap.size ≤ w.heap.size + 1; omega) _⟩
      · have h0' : ¬ (0 : Int) < ll.length := by omega
        have h00 : decide ((0 : Int) < ll.length) = false := by simpa using h0'
        have p0 := hP.c
        have pf := hP.fz
        have q0 := hY.c
        have qf := hY.fz
        have lP := hP.lt
        have lQ := hY.lt
        go_wp2_with fail
        have hbw := bw1.trans (hbel.mono bw1.size)
        have q1 := (hY.set (.slice none 0 0)).c
        exact bodyPost_ret (v := .agg #[.slice none 0 0]) (by simp [results, Try.results12, go_sem, q1]) rfl ⟨_, rfl, ⟨[], by first | (rw [hno]; exact Rdg.nil _ _) | exact Rdg.nil _ _⟩, hbw.setCell (by show w.heap.size ≤ w.heap.size + 1; omega) _⟩
  · rw [hp] at CP
    have HY : Hid (M.turnPlain ll = M.mapS M.plainF ll) := M.turnPlain_yes hp
    obtain ⟨h3, h7⟩ := M.prog_le hp
    clear hp
    go_loopw [4] (fun s4 wr => ∃ (n : Nat) (v : Value) (vs : List Value), s4 = .int .i64 n ∧ n ≤ ll.length ∧ Rdg wr (w.heap.size + 3) v (M.mapS M.plainF (ll.take n)) vs ∧ Slot1 wr (w.heap.size + 1 + 1) v ∧ Slot1 wr (w.heap.size + 1) (.slice none 0 0) ∧ Below W2.heap.size W2 wr) (fun s4 _ => ll.length - (intOf s4).toNat)
    case atStart => exact ⟨0, .slice none 0 0, [], rfl, Nat.zero_le _, by simpa [M.mapS] using Rdg.nil _ _, hZA, hYA, bA⟩
    case round =>
      obtain ⟨n, v, vs, rfl, hn, hR0, hP0, hY0, hbel0⟩ := hrel
      clear hZA hYA bA
      have hsz2 := HSZ.out
      have xx00 := (hbel0.cell (p := ⟨w.heap.size, 0, none⟩) lX).trans hX1c
      have CPr := CP wr hbel0
      clear CP
      by_cases hlt : n < ll.length
      · obtain ⟨rfl⟩ := h.addr (by omega)
        obtain ⟨a', b', o', c', hc0, hd0⟩ := hD.row n hlt
        have HW : Hid (M.mapS M.plainF (ll.take (n + 1)) = M.mapS M.plainF (ll.take n) ++ [ll[n].map M.plainF]) := M.mapS_take _ ll n hlt
        have hmm : (M.mapS M.plainF (ll.take n)).length ≤ 3 := by rw [M.mapS_len]; simp; omega
        have ht7 := h7 _ (List.getElem_mem hlt)
        generalize ll[n] = t at *
        generalize M.mapS M.plainF (ll.take n) = mm at *
        have i1 : (n : Int) < ll.length := by omega
        obtain ⟨av, gv, cv, rfl, _⟩ := hR0.b.ss
        have HSZ2 : Hid (W2.heap.size = w.heap.size + 1 + 1) := hsz2
        clear hsz2
        go_wp2_with (first | (go_at_call 13; refine CPr.mono ?_; rintro e W3 ⟨rfl, b3⟩; have hR := hR0.below b3; have hP := hP0.bl' b3; have hY := hY0.bl' b3; have hbel := hbel0.trans (b3.mono hbel0.size); have hc := (hbel.cell (p := ⟨b, o + n, none⟩) (World.block_lt_of_cell? _ _ hc0)).trans hc0; have xx0 := (hbel.cell (p := ⟨w.heap.size, 0, none⟩) lX).trans hX1c; have lX3 : w.heap.size < W3.heap.size := World.block_lt_of_cell? _ _ xx0; have lP := hP.lt; have lcr : b < W3.heap.size := World.block_lt_of_cell? _ _ hc; have bE : Below W3.heap.size W3 (W3.alloc (.cells #[] 55)) := below1 _ _; have OA : (W3.alloc (.cells #[] 55)).ownsRow W3.heap.size 55 3 (.slice (some ⟨W3.heap.size, 0, none⟩) 0 0) 0 [] := own_emp (heap_alloc_new W3 _) (Nat.le_refl _); have DA : DoS (W3.alloc (.cells #[] 55)) a' b' o' t := (hd0.below hbel (Nat.le_refl _)).below bE (Nat.le_refl _)) | (at_builtin; refine wpList_append_does rfl (.tmp 19) (.tmp 24) 58 rfl (some 25) rfl W3.heap.size 55 j0 Try.underlying58 hj hy0 hy1 hy2 W3.heap.size rfl OA (by simp) a' b' o' c' t rfl DA (by omega) ?_))
        intro v4 w4 ho4 hg4 _
        obtain ⟨a4, c4, rfl⟩ := own_slx ho4
        have b4 : Below W3.heap.size W3 w4 := below_grown bE hg4 (fun j hj => by have : W3.heap.size = j := Option.some.inj hj; omega) bE.size
        have hP2 : w.heap.size + 1 + 1 < W3.heap.size := lP
        clear hg4 OA DA bE hR0 hP0 hY0 hbel0 xx00 CPr b3 xx0 hc
        go_wp2_with fail
        go_loopw [6] (fun s6 wi => ∃ k : Nat, s6 = .int .i64 k ∧ k ≤ t.length ∧ wi.ownsRow W3.heap.size 55 3 (.slice a4 t.length c4) t.length (flat (M.curT M.plainF k t)) ∧ Below W3.heap.size W3 wi) (fun s6 _ => t.length - (intOf s6).toNat)
        case atStart => exact ⟨0, rfl, Nat.zero_le _, by rw [M.curT_zero]; exact ho4, b4⟩
        case round =>
          obtain ⟨k, rfl, hk, ho, hbi⟩ := hrel
          have hbs := hbi.size
          by_cases hkt : k < t.length
          · have hkk : k < (M.curT M.plainF k t).length := by rw [M.curT_len]; exact hkt
            have HG : ∃ g, a4 = some ⟨g, 0, none⟩ ∧ W3.heap.size ≤ g := by
              rcases ho.2 with ⟨e, _⟩ | ⟨g, cap, cur, e, hg, _⟩
              · simp only [Value.slice.injEq] at e; omega
              · simp only [Value.slice.injEq] at e; exact ⟨g, e.1, hg⟩
            obtain ⟨g, rfl, hgg⟩ := HG
            have hfz := own_fzS ho
            have hat : DoAt wr g (k * 3) t[k] := by
              have ho' := ho
              rw [← M.curT_len M.plainF k t] at ho'
              obtain ⟨a5, g5, c5, e5, hd5, _⟩ := own_steps ho'
              simp only [Value.slice.injEq] at e5
              have e6 := hd5.addr (by omega)
              rw [← e5.1] at e6
              simp at e6
              have := hd5.row k hkk
              rw [← e6, Nat.zero_add, M.curT_get _ k t hkt] at this
              exact this
            have HCH : Hid (∀ W', Chg wr W' g (k * 3) t[k] (M.plainF t[k]) → W'.ownsRow W3.heap.size 55 3 (.slice (some ⟨g, 0, none⟩) t.length c4) t.length (flat (M.curT M.plainF (k + 1) t)) ∧ wr.grownBy W' (some g)) := by
              intro W' hch
              have e := M.curT_get M.plainF k t hkt hkk
              have r := own_chg ho hkk (by rw [e]; exact hch)
              rw [M.curT_set M.plainF k t hkt] at r
              exact r
            generalize t[k] = d at *
            have j1 : (k : Int) < t.length := by omega
            obtain ⟨kk, pp, vv⟩ := d
            obtain ⟨ck, cp, cv'⟩ := hat
            have f0 := hfz (k * 3)
            by_cases h5 : kk = 5
            · subst h5
              have r := HCH.out (wr.setCell ⟨g, k * 3, none⟩ (.int .i64 2)) ⟨0, Or.inr (Or.inl ⟨rfl, rfl, rfl⟩)⟩
              have r2 : Below W3.heap.size W3 (wr.setCell ⟨g, k * 3, none⟩ (.int .i64 2)) := hbi.setCell hgg _
              clear HCH ho
              go_wp2_with fail
              exact ⟨⟨k + 1, by go_num, by omega, r.1, r2⟩, by simp [intOf]; omega⟩
            · have h5' : (kk == 5) = false := by simpa using h5
              by_cases h6 : kk = 6
              · subst h6
                have r := HCH.out (wr.setCell ⟨g, k * 3, none⟩ (.int .i64 1)) ⟨0, Or.inr (Or.inl ⟨rfl, rfl, rfl⟩)⟩
                have r2 : Below W3.heap.size W3 (wr.setCell ⟨g, k * 3, none⟩ (.int .i64 1)) := hbi.setCell hgg _
                clear HCH ho
                go_wp2_with fail
                exact ⟨⟨k + 1, by go_num, by omega, r.1, r2⟩, by simp [intOf]; omega⟩
              · have h6' : (kk == 6) = false := by simpa using h6
                have r := HCH.out wr ⟨0, Or.inl ⟨rfl, by simp [M.plainF, M.plainK, h5, h6]⟩⟩
                clear HCH ho
                go_wp2_with fail
                exact ⟨⟨k + 1, by go_num, by omega, r.1, hbi⟩, by simp [intOf]; omega⟩
          · rw [M.curT_all _ k t (by omega)] at ho
            have j1 : ¬ (k : Int) < t.length := by omega
            have hRi := hR.below hbi
            have hPi := hP.bl' hbi
            have hYi := hY.bl' hbi
            have hlap : ∀ i (hi : i < vs.length) k, vs[i].ownBlock = some k → (Value.slice a4 t.length c4).ownBlock ≠ some k := fun i hi j hj e => by
              have h1 := (hR.b.inner i (by have := hR.b.len; omega) hi).lt j hj
              have h2 := own_ge ho j e
              omega
            have hol : wr.ownsRow W3.heap.size 55 3 (.slice a4 t.length c4) (t.map M.plainF).length (flat (t.map M.plainF)) := by rw [List.length_map]; exact ho
            have hown' := ownsRow_mono hol (show w.heap.size + 3 ≤ _ from by omega)
            have p0 := hPi.c
            have pf := hPi.fz
            have lPi := hPi.lt
            have hout := hRi.b.outer
            have hRE : Hid (Rdg wr (w.heap.size + 3) (.slice av mm.length cv) mm vs) := hRi
            have hPE : Hid (Slot1 wr (w.heap.size + 1 + 1) (.slice av mm.length cv)) := hPi
            have hYE : Hid (Slot1 wr (w.heap.size + 1) (.slice none 0 0)) := hYi
            have hbW : Below W2.heap.size W2 wr := hbel.trans (hbi.mono hbel.size)
            generalize t.map M.plainF = tt at *
            clear hol ho hR hP hY hPi hYi hRi
            go_wp2_with (at_builtin; refine wpList_append_lies _ rfl (.tmp 50) (.tmp 52) 23 rfl (w.heap.size + 3) 58 i0 _ 1 24 Try.underlying23 hi hz0 hz1 hz2 rfl (by decide) _ _ vs rfl (hout.alloc _) ⟨wr.heap.size, 0, none⟩ 1 1 [.slice a4 t.length c4] rfl rfl (World.news_of_block (cs := #[.slice a4 t.length c4]) (t := 58) (fr := (0, 0)) (heap_alloc_new wr _)) (by simp [Value.oneCell']) (by omega) (by unfold maxLen; omega) (by omega) (by simp; omega) (wr.heap.size + 1) (by simp) ?_)
            intro g2 cap2 w3 hown3 hg3 hat hlt3
            have hge := own_ge hout
            have hs2 := HSZ2.out
            have bA := below1 wr (.cells #[.slice a4 t.length c4] 58)
            have hP3 := (hPE.out.bl' bA).apart hg3 (fun e => by have := hge _ e; omega)
            have hY3 := (hYE.out.bl' bA).apart hg3 (fun e => by have := hge _ e; omega)
            have hR3 := (hRE.out.below bA).snocT (ownsRow_below hown' bA) hlap hown3 hg3
            have hb3 : Below W2.heap.size W2 w3 := below_grown (hbW.trans (bA.mono hbW.size)) hg3 (fun k hk => by have := hge k hk; omega) (by have := hbW.size; simp; omega)
            rw [← HW.out] at hR3
            clear hown3 hg3 hat hout hown' p0 pf hs2
            have p0 := hP3.c
            have pf := hP3.fz
            go_wp2_with fail
            have hP4 := hP3.set (.slice (some ⟨g2, 0, none⟩) (mm.length + 1) cap2)
            exact ⟨⟨n + 1, _, _, by go_num, by omega, hR3.far (by omega) _, hP4, hY3.far (by omega) _, hb3.setCell (by have := HSZ2.out; show W2.heap.size ≤ w.heap.size + 1 + 1; omega) _⟩, by simp [intOf]; omega⟩
      · have htk : ll.take n = ll := List.take_of_length_le (by omega)
        rw [htk] at hR0
        have hkn' : ¬ (n : Int) < ll.length := by omega
        have hkn2 : decide ((n : Int) < ll.length) = false := by simpa using hkn'
        obtain ⟨av, gv, cv, rfl, _⟩ := hR0.b.ss
        rw [M.mapS_len] at hR0 hP0
        have p0 := hP0.c
        have pf := hP0.fz
        have q0 := hY0.c
        have qf := hY0.fz
        have lP := hP0.lt
        have lQ := hY0.lt
        have hne : w.heap.size + 1 ≠ w.heap.size + 1 + 1 := by omega
        have hbw := bw1.trans (hbel0.mono bw1.size)
        clear hsz2
        go_wp2_with fail
        have q1 := (hY0.set (.slice av ll.length cv)).c
        exact bodyPost_ret (v := .agg #[.slice av ll.length cv]) (by simp [results, Try.results12, go_sem, q1]) rfl ⟨_, rfl, ⟨vs, by rw [HY.out]; exact (hR0.far (by omega) _).mono (by omega)⟩, hbw.setCell (by show w.heap.size ≤ w.heap.size + 1; omega) _⟩

end Go.Proofs.Ytdpoiabohkkbcaa

namespace Go.Proofs.Ytdpoiabohkkbcaa
open Go.RowKit

set_option maxHeartbeats 4000000 in
set_option maxRecDepth 100000 in
set_option linter.unusedSimpArgs false in
theorem lawPn_any (ca : Option Addr) (cb co L C : Nat) (x : Nat → Int) (w : World) (hL : L ≤ C) (had : 0 < L → ca = some ⟨cb, co, none⟩) (hc : ∀ i, i < L → w.cell? ⟨cb, co + i, none⟩ = some (.int .u8 (x i)) ∧ 0 ≤ x i ∧ x i ≤ 255) :
    Calls Try.prog 3 #[.slice ca L C] w fun e w' => e = .returned (.bool true) ∧ Below w.heap.size w w' := by
  by_cases hLb : L ≤ 1048576
  · go_enter Try.func3, Try.ntmps3
    go_wp2_with fail
    refine (DrawTurnPlain_any ca cb co L C x _ hL had hc hLb).mono ?_
    rintro e w1 ⟨a, g, c, mm, rfl, hsn, hsm, hbl⟩
    have hle : ∀ t ∈ mm, t.length ≤ 1048576 := fun t ht => by have := hsm.steps t ht; omega
    have hml : mm.length ≤ 1048576 := by have := hsm.three; omega
    have bA := below1 w1 (.cells #[.slice a mm.length c] 25)
    have bwA := hbl.trans (bA.mono hbl.size)
    have sP := Slot1.new w1 (.slice a mm.length c) 25
    have ssP := hsn.ss.below bA (Nat.le_refl _)
    clear had hc hsn hbl bA
    have x0 := sP.c
    go_wp2_with fail
    generalize w1.alloc (.cells #[.slice a mm.length c] 25) = WA at *
    generalize w1.heap.size = PP at *
    have CI := iturnPlain_any a g 0 c mm hml hle
    have CS0 := fun W hW => sturnPlain_any a g 0 c mm hml hle W hW
    obtain ⟨qq, hq⟩ : ∃ qq, M.turnPlain mm = qq := ⟨_, rfl⟩
    have HQ : Hid (M.prog mm = true → M.prog qq = true ∧ M.turnPlain qq = qq ∧ M.nreads qq = M.nreads mm) := M.turnPlain_fact hq
    rw [hq] at CI CS0
    obtain ⟨hq3, hq7⟩ := M.turnPlain_small hq
    clear hq
    have hql : qq.length ≤ 1048576 := by omega
    have hqls : ∀ t ∈ qq, t.length ≤ 1048576 := fun t ht => by have := hq7 t ht; omega
    have LQ := fun A B C D E F W h1 h2 => lpProg_any A B 0 C D E 0 F qq qq W hql hql hqls h1 h2
    rw [M.eqLL_yes rfl] at LQ
    refine (CI WA ssP).mono ?_
    rintro e w3 ⟨v3, rfl, ⟨vs3, hR3⟩, b3⟩
    obtain ⟨ai, gi, ci, rfl, hss3⟩ := hR3.b.ss
    have bQ := below1 w3 (.cells #[.slice ai qq.length ci] 25)
    have bAQ := b3.trans (bQ.mono b3.size)
    have sPQ := sP.bl' bAQ
    have sQ := Slot1.new w3 (.slice ai qq.length ci) 25
    have ssQ := hss3.below bQ (Nat.le_refl _)
    have ssP' := ssP.below bAQ (Nat.le_refl _)
    have bwD := bwA.trans (bAQ.mono bwA.size)
    clear hR3 hss3 b3 bQ x0 bwA bAQ sP ssP CI
    have ssP := ssP'
    clear ssP'
    go_wp2_with fail
    generalize w3.alloc (.cells #[.slice ai qq.length ci] 25) = WD at *
    generalize w3.heap.size = PQ at *
    have x0 := sPQ.c
    have x1 := sQ.c
    have lP := sPQ.lt
    have lQ := sQ.lt
    clear sPQ sQ
    have CS : ∀ W, Below WD.heap.size WD W → _ := fun W hb => CS0 W (ssP.below hb (Nat.le_refl _))
    have CO := fun W (hb : Below WD.heap.size WD W) => sprog_any a g 0 c mm W hml hle (ssP.below hb (Nat.le_refl _))
    cases hp : M.prog mm
    · rw [hp] at CO
      clear HQ
      refine wp_region_held_drew (S := fun w' => Below WD.heap.size WD w') (by kernel_rfl) (Below.refl _ _).drew (fun hH => ?_)
      refine takeD 0 (some 12) (.agg #[.slice ai qq.length ci]) hH rfl rfl (by kernel_rfl) (by kernel_rfl) (by kernel_rfl) (fun _ _ _ h => h) (Or.inl ⟨by rfl, by intro w' hSw; have hc := (hSw.cell (p := ⟨PQ, 0, none⟩) lQ).trans x1; go_simp⟩) ?_
      simp only [Act.put, List.setIfInBounds_toArray, List.set_cons_zero, List.set_cons_succ]
      refine takeD 1 (some 13) (.agg #[.slice a mm.length c]) hH rfl rfl (by kernel_rfl) (by kernel_rfl) (by kernel_rfl) (fun _ _ _ h => h) (Or.inl ⟨by rfl, by intro w' hSw; have hc := (hSw.cell (p := ⟨PP, 0, none⟩) lP).trans x0; go_simp⟩) ?_
      simp only [Act.put, List.setIfInBounds_toArray, List.set_cons_zero, List.set_cons_succ]
      refine wpAnyH_ready (rs := [2]) (by kernel_rfl) (by simp) ?_
      refine AllReadyH.cons rfl (fun K' hK => ?_) AllReadyH.nil
      refine step_goV (by rfl) (some 14) rfl 12 #[.tmp 13] _ rfl #[.agg #[.slice a mm.length c]] (by simp [Act.eval]) (fun _ _ => rfl) (CS _ ((Below.refl WD.heap.size WD).drew)) ?_
      rintro e w1 ⟨v_w1, rfl, ⟨vs_w1, hR_w1⟩, bb_w1⟩
      obtain ⟨a_w1, g_w1, c_w1, rfl, ss_w1⟩ := hR_w1.b.ss
      have b_w1 : Below WD.heap.size WD w1 := Below.trans ((Below.refl WD.heap.size WD).drew) (bb_w1.mono (Below.size ((Below.refl WD.heap.size WD).drew)))
      refine ⟨_, rfl, ?_⟩
      simp only [Act.put, List.setIfInBounds_toArray, List.set_cons_zero, List.set_cons_succ]
      refine hK.out _ _ b_w1 (fun hH_w1 => ?_)
      clear hK K'
      refine wpAnyH_ready (rs := [3]) (by kernel_rfl) (by simp) ?_
      refine AllReadyH.cons rfl (fun K' hK => ?_) AllReadyH.nil
      refine step_goV (by rfl) (some 15) rfl 11 #[.tmp 12, .tmp 14] _ rfl #[.agg #[.slice ai qq.length ci], .agg #[.slice a_w1 qq.length c_w1]] (by simp [Act.eval]) (fun _ _ => rfl) (LQ ai gi ci a_w1 g_w1 c_w1 _ (ssQ.below b_w1 (Nat.le_refl _)) ss_w1) ?_
      rintro e w2 ⟨rfl, bb_w2⟩
      have b_w2 : Below WD.heap.size WD w2 := Below.trans b_w1 (bb_w2.mono (Below.size b_w1))
      refine ⟨_, rfl, ?_⟩
      simp only [Act.put, List.setIfInBounds_toArray, List.set_cons_zero, List.set_cons_succ]
      refine hK.out _ _ b_w2 (fun hH_w2 => ?_)
      clear hK K'
      refine takeD 4 (some 16) (.bool false) hH_w2 rfl rfl (by kernel_rfl) (by kernel_rfl) (by kernel_rfl) (fun _ _ _ h => h) (Or.inl ⟨by rfl, by intro w' hSw; go_simp⟩) ?_
      simp only [Act.put, List.setIfInBounds_toArray, List.set_cons_zero, List.set_cons_succ]
      refine takeD 5 (some 17) (.bool false) hH_w2 rfl rfl (by kernel_rfl) (by kernel_rfl) (by kernel_rfl) (fun _ _ _ h => h) (Or.inl ⟨by rfl, by intro w' hSw; go_simp⟩) ?_
      simp only [Act.put, List.setIfInBounds_toArray, List.set_cons_zero, List.set_cons_succ]
      refine takeD 6 (some 18) (.agg #[.slice a mm.length c]) hH_w2 rfl rfl (by kernel_rfl) (by kernel_rfl) (by kernel_rfl) (fun _ _ _ h => h) (Or.inl ⟨by rfl, by intro w' hSw; have hc := (hSw.cell (p := ⟨PP, 0, none⟩) lP).trans x0; go_simp⟩) ?_
      simp only [Act.put, List.setIfInBounds_toArray, List.set_cons_zero, List.set_cons_succ]
      refine wpAnyH_ready (rs := [7]) (by kernel_rfl) (by simp) ?_
      refine AllReadyH.cons rfl (fun K' hK => ?_) AllReadyH.nil
      refine step_goV (by rfl) (some 19) rfl 13 #[.tmp 18] _ rfl #[.agg #[.slice a mm.length c]] (by simp [Act.eval]) (fun _ _ => rfl) (CO _ b_w2) ?_
      rintro e w3 ⟨rfl, bb_w3⟩
      have b_w3 : Below WD.heap.size WD w3 := Below.trans b_w2 (bb_w3.mono (Below.size b_w2))
      refine ⟨_, rfl, ?_⟩
      simp only [Act.put, List.setIfInBounds_toArray, List.set_cons_zero, List.set_cons_succ]
      refine hK.out _ _ b_w3 (fun hH_w3 => ?_)
      clear hK K'
      refine takeD 8 (some 20) (.bool true) hH_w3 rfl rfl (by kernel_rfl) (by kernel_rfl) (by kernel_rfl) (fun _ _ _ h => h) (Or.inl ⟨by rfl, by intro w' hSw; go_simp⟩) ?_
      simp only [Act.put, List.setIfInBounds_toArray, List.set_cons_zero, List.set_cons_succ]
      refine takeD 9 (some 21) (.bool true) hH_w3 rfl rfl (by kernel_rfl) (by kernel_rfl) (by kernel_rfl) (fun _ _ _ h => h) (Or.inl ⟨by rfl, by intro w' hSw; go_simp⟩) ?_
      simp only [Act.put, List.setIfInBounds_toArray, List.set_cons_zero, List.set_cons_succ]
      refine wpAnyH_done (by kernel_rfl) ?_ _
      have bwE := bwD.trans (b_w3.mono bwD.size)
      have ssPE := ssP.below b_w3 (Nat.le_refl _)
      have ssQE := ssQ.below b_w3 (Nat.le_refl _)
      have x0E := (b_w3.cell (p := ⟨PP, 0, none⟩) lP).trans x0
      have x1E := (b_w3.cell (p := ⟨PQ, 0, none⟩) lQ).trans x1
      have lPE := Nat.lt_of_lt_of_le lP b_w3.size
      have lQE := Nat.lt_of_lt_of_le lQ b_w3.size
      clear x0 x1 lP lQ CS CO hH hH_w1 hH_w2 hH_w3 bb_w1 bb_w2 bb_w3 hR_w1 ss_w1 b_w1 b_w2 b_w3 bwD
      go_wp2_with fail
      obtain ⟨WE, hWE⟩ : ∃ WE, WE = w3 := ⟨_, rfl⟩
      subst hWE
      clear ssP ssQ
      have CS := fun W (hb : Below WE.heap.size WE W) => CS0 W (ssPE.below hb (Nat.le_refl _))
      refine wp_region_held_drew (S := fun w' => Below WE.heap.size WE w') (by kernel_rfl) (Below.refl _ _).drew (fun hH => ?_)
      refine takeD 0 (some 22) (.agg #[.slice ai qq.length ci]) hH rfl rfl (by kernel_rfl) (by kernel_rfl) (by kernel_rfl) (fun _ _ _ h => h) (Or.inl ⟨by rfl, by intro w' hSw; have hc := (hSw.cell (p := ⟨PQ, 0, none⟩) lQE).trans x1E; go_simp⟩) ?_
      simp only [Act.put, List.setIfInBounds_toArray, List.set_cons_zero, List.set_cons_succ]
      refine takeD 1 (some 23) (.agg #[.slice a mm.length c]) hH rfl rfl (by kernel_rfl) (by kernel_rfl) (by kernel_rfl) (fun _ _ _ h => h) (Or.inl ⟨by rfl, by intro w' hSw; have hc := (hSw.cell (p := ⟨PP, 0, none⟩) lPE).trans x0E; go_simp⟩) ?_
      simp only [Act.put, List.setIfInBounds_toArray, List.set_cons_zero, List.set_cons_succ]
      refine wpAnyH_ready (rs := [2]) (by kernel_rfl) (by simp) ?_
      refine AllReadyH.cons rfl (fun K' hK => ?_) AllReadyH.nil
      refine step_goV (by rfl) (some 24) rfl 12 #[.tmp 23] _ rfl #[.agg #[.slice a mm.length c]] (by simp [Act.eval]) (fun _ _ => rfl) (CS _ ((Below.refl WE.heap.size WE).drew)) ?_
      rintro e w1 ⟨v_w1, rfl, ⟨vs_w1, hR_w1⟩, bb_w1⟩
      obtain ⟨a_w1, g_w1, c_w1, rfl, ss_w1⟩ := hR_w1.b.ss
      have b_w1 : Below WE.heap.size WE w1 := Below.trans ((Below.refl WE.heap.size WE).drew) (bb_w1.mono (Below.size ((Below.refl WE.heap.size WE).drew)))
      refine ⟨_, rfl, ?_⟩
      simp only [Act.put, List.setIfInBounds_toArray, List.set_cons_zero, List.set_cons_succ]
      refine hK.out _ _ b_w1 (fun hH_w1 => ?_)
      clear hK K'
      refine wpAnyH_ready (rs := [3]) (by kernel_rfl) (by simp) ?_
      refine AllReadyH.cons rfl (fun K' hK => ?_) AllReadyH.nil
      refine step_goV (by rfl) (some 25) rfl 11 #[.tmp 22, .tmp 24] _ rfl #[.agg #[.slice ai qq.length ci], .agg #[.slice a_w1 qq.length c_w1]] (by simp [Act.eval]) (fun _ _ => rfl) (LQ ai gi ci a_w1 g_w1 c_w1 _ (ssQE.below b_w1 (Nat.le_refl _)) ss_w1) ?_
      rintro e w2 ⟨rfl, bb_w2⟩
      have b_w2 : Below WE.heap.size WE w2 := Below.trans b_w1 (bb_w2.mono (Below.size b_w1))
      refine ⟨_, rfl, ?_⟩
      simp only [Act.put, List.setIfInBounds_toArray, List.set_cons_zero, List.set_cons_succ]
      refine hK.out _ _ b_w2 (fun hH_w2 => ?_)
      clear hK K'
      refine takeD 4 (some 2) (.bool true) hH_w2 rfl rfl (by kernel_rfl) (by kernel_rfl) (by kernel_rfl) (fun _ _ _ h => h) (Or.inl ⟨by rfl, by intro w' hSw; go_simp⟩) ?_
      simp only [Act.put, List.setIfInBounds_toArray, List.set_cons_zero, List.set_cons_succ]
      refine wpAnyH_done (by kernel_rfl) ?_ _
      go_wp2_with fail
      go_ret
      exact ⟨rfl, bwE.trans (b_w2.mono bwE.size)⟩
    · rw [hp] at CO
      obtain ⟨hpq, hqq, hrd⟩ := HQ.out hp
      clear HQ hp
      refine wp_region_held_drew (S := fun w' => Below WD.heap.size WD w') (by kernel_rfl) (Below.refl _ _).drew (fun hH => ?_)
      refine takeD 0 (some 12) (.agg #[.slice ai qq.length ci]) hH rfl rfl (by kernel_rfl) (by kernel_rfl) (by kernel_rfl) (fun _ _ _ h => h) (Or.inl ⟨by rfl, by intro w' hSw; have hc := (hSw.cell (p := ⟨PQ, 0, none⟩) lQ).trans x1; go_simp⟩) ?_
      simp only [Act.put, List.setIfInBounds_toArray, List.set_cons_zero, List.set_cons_succ]
      refine takeD 1 (some 13) (.agg #[.slice a mm.length c]) hH rfl rfl (by kernel_rfl) (by kernel_rfl) (by kernel_rfl) (fun _ _ _ h => h) (Or.inl ⟨by rfl, by intro w' hSw; have hc := (hSw.cell (p := ⟨PP, 0, none⟩) lP).trans x0; go_simp⟩) ?_
      simp only [Act.put, List.setIfInBounds_toArray, List.set_cons_zero, List.set_cons_succ]
      refine wpAnyH_ready (rs := [2]) (by kernel_rfl) (by simp) ?_
      refine AllReadyH.cons rfl (fun K' hK => ?_) AllReadyH.nil
      refine step_goV (by rfl) (some 14) rfl 12 #[.tmp 13] _ rfl #[.agg #[.slice a mm.length c]] (by simp [Act.eval]) (fun _ _ => rfl) (CS _ ((Below.refl WD.heap.size WD).drew)) ?_
      rintro e w1 ⟨v_w1, rfl, ⟨vs_w1, hR_w1⟩, bb_w1⟩
      obtain ⟨a_w1, g_w1, c_w1, rfl, ss_w1⟩ := hR_w1.b.ss
      have b_w1 : Below WD.heap.size WD w1 := Below.trans ((Below.refl WD.heap.size WD).drew) (bb_w1.mono (Below.size ((Below.refl WD.heap.size WD).drew)))
      refine ⟨_, rfl, ?_⟩
      simp only [Act.put, List.setIfInBounds_toArray, List.set_cons_zero, List.set_cons_succ]
      refine hK.out _ _ b_w1 (fun hH_w1 => ?_)
      clear hK K'
      refine wpAnyH_ready (rs := [3]) (by kernel_rfl) (by simp) ?_
      refine AllReadyH.cons rfl (fun K' hK => ?_) AllReadyH.nil
      refine step_goV (by rfl) (some 15) rfl 11 #[.tmp 12, .tmp 14] _ rfl #[.agg #[.slice ai qq.length ci], .agg #[.slice a_w1 qq.length c_w1]] (by simp [Act.eval]) (fun _ _ => rfl) (LQ ai gi ci a_w1 g_w1 c_w1 _ (ssQ.below b_w1 (Nat.le_refl _)) ss_w1) ?_
      rintro e w2 ⟨rfl, bb_w2⟩
      have b_w2 : Below WD.heap.size WD w2 := Below.trans b_w1 (bb_w2.mono (Below.size b_w1))
      refine ⟨_, rfl, ?_⟩
      simp only [Act.put, List.setIfInBounds_toArray, List.set_cons_zero, List.set_cons_succ]
      refine hK.out _ _ b_w2 (fun hH_w2 => ?_)
      clear hK K'
      refine takeD 4 (some 16) (.bool false) hH_w2 rfl rfl (by kernel_rfl) (by kernel_rfl) (by kernel_rfl) (fun _ _ _ h => h) (Or.inl ⟨by rfl, by intro w' hSw; go_simp⟩) ?_
      simp only [Act.put, List.setIfInBounds_toArray, List.set_cons_zero, List.set_cons_succ]
      refine takeD 5 (some 17) (.bool false) hH_w2 rfl rfl (by kernel_rfl) (by kernel_rfl) (by kernel_rfl) (fun _ _ _ h => h) (Or.inl ⟨by rfl, by intro w' hSw; go_simp⟩) ?_
      simp only [Act.put, List.setIfInBounds_toArray, List.set_cons_zero, List.set_cons_succ]
      refine takeD 6 (some 18) (.agg #[.slice a mm.length c]) hH_w2 rfl rfl (by kernel_rfl) (by kernel_rfl) (by kernel_rfl) (fun _ _ _ h => h) (Or.inl ⟨by rfl, by intro w' hSw; have hc := (hSw.cell (p := ⟨PP, 0, none⟩) lP).trans x0; go_simp⟩) ?_
      simp only [Act.put, List.setIfInBounds_toArray, List.set_cons_zero, List.set_cons_succ]
      refine wpAnyH_ready (rs := [7]) (by kernel_rfl) (by simp) ?_
      refine AllReadyH.cons rfl (fun K' hK => ?_) AllReadyH.nil
      refine step_goV (by rfl) (some 19) rfl 13 #[.tmp 18] _ rfl #[.agg #[.slice a mm.length c]] (by simp [Act.eval]) (fun _ _ => rfl) (CO _ b_w2) ?_
      rintro e w3 ⟨rfl, bb_w3⟩
      have b_w3 : Below WD.heap.size WD w3 := Below.trans b_w2 (bb_w3.mono (Below.size b_w2))
      refine ⟨_, rfl, ?_⟩
      simp only [Act.put, List.setIfInBounds_toArray, List.set_cons_zero, List.set_cons_succ]
      refine hK.out _ _ b_w3 (fun hH_w3 => ?_)
      clear hK K'
      refine takeD 8 (some 20) (.bool false) hH_w3 rfl rfl (by kernel_rfl) (by kernel_rfl) (by kernel_rfl) (fun _ _ _ h => h) (Or.inl ⟨by rfl, by intro w' hSw; go_simp⟩) ?_
      simp only [Act.put, List.setIfInBounds_toArray, List.set_cons_zero, List.set_cons_succ]
      refine takeD 9 (some 21) (.bool false) hH_w3 rfl rfl (by kernel_rfl) (by kernel_rfl) (by kernel_rfl) (fun _ _ _ h => h) (Or.inl ⟨by rfl, by intro w' hSw; go_simp⟩) ?_
      simp only [Act.put, List.setIfInBounds_toArray, List.set_cons_zero, List.set_cons_succ]
      refine wpAnyH_done (by kernel_rfl) ?_ _
      have bwE := bwD.trans (b_w3.mono bwD.size)
      have ssPE := ssP.below b_w3 (Nat.le_refl _)
      have ssQE := ssQ.below b_w3 (Nat.le_refl _)
      have x0E := (b_w3.cell (p := ⟨PP, 0, none⟩) lP).trans x0
      have x1E := (b_w3.cell (p := ⟨PQ, 0, none⟩) lQ).trans x1
      have lPE := Nat.lt_of_lt_of_le lP b_w3.size
      have lQE := Nat.lt_of_lt_of_le lQ b_w3.size
      clear x0 x1 lP lQ CS CO hH hH_w1 hH_w2 hH_w3 bb_w1 bb_w2 bb_w3 hR_w1 ss_w1 b_w1 b_w2 b_w3 bwD
      go_wp2_with fail
      obtain ⟨WE, hWE⟩ : ∃ WE, WE = w3 := ⟨_, rfl⟩
      subst hWE
      clear ssP ssQ CS0
      have CI3 := fun W (hb : Below WE.heap.size WE W) => iturnPlain_any ai gi 0 ci qq hql hqls W (ssQE.below hb (Nat.le_refl _))
      rw [hqq] at CI3
      have CI2 := CI3
      have CQ := fun W (hb : Below WE.heap.size WE W) => iprog_any ai gi 0 ci qq W hql hqls (ssQE.below hb (Nat.le_refl _))
      rw [hpq] at CQ
      have C1 := fun W (hb : Below WE.heap.size WE W) => ireads_any ai gi 0 ci qq W hql hqls (ssQE.below hb (Nat.le_refl _))
      have C2 := fun W (hb : Below WE.heap.size WE W) => ireads_any a g 0 c mm W hml hle (ssPE.below hb (Nat.le_refl _))
      rw [hrd] at C1
      generalize M.nreads mm = R at *
      clear hpq hqq hrd CI3
      refine wp_region_held_drew (S := fun w' => Below WE.heap.size WE w') (by kernel_rfl) (Below.refl _ _).drew (fun hH => ?_)
      refine takeD 0 (some 26) (.agg #[.slice ai qq.length ci]) hH rfl rfl (by kernel_rfl) (by kernel_rfl) (by kernel_rfl) (fun _ _ _ h => h) (Or.inl ⟨by rfl, by intro w' hSw; have hc := (hSw.cell (p := ⟨PQ, 0, none⟩) lQE).trans x1E; go_simp⟩) ?_
      simp only [Act.put, List.setIfInBounds_toArray, List.set_cons_zero, List.set_cons_succ]
      refine takeD 2 (some 28) (.agg #[.slice ai qq.length ci]) hH rfl rfl (by kernel_rfl) (by kernel_rfl) (by kernel_rfl) (fun _ _ _ h => h) (Or.inl ⟨by rfl, by intro w' hSw; have hc := (hSw.cell (p := ⟨PQ, 0, none⟩) lQE).trans x1E; go_simp⟩) ?_
      simp only [Act.put, List.setIfInBounds_toArray, List.set_cons_zero, List.set_cons_succ]
      refine wpAnyH_ready (rs := [1]) (by kernel_rfl) (by simp) ?_
      refine AllReadyH.cons rfl (fun K' hK => ?_) AllReadyH.nil
      refine step_goV (by rfl) (some 27) rfl 10 #[.tmp 26] _ rfl #[.agg #[.slice ai qq.length ci]] (by simp [Act.eval]) (fun _ _ => rfl) (CI2 _ ((Below.refl WE.heap.size WE).drew)) ?_
      rintro e w1 ⟨v_w1, rfl, ⟨vs_w1, hR_w1⟩, bb_w1⟩
      obtain ⟨a_w1, g_w1, c_w1, rfl, ss_w1⟩ := hR_w1.b.ss
      have b_w1 : Below WE.heap.size WE w1 := Below.trans ((Below.refl WE.heap.size WE).drew) (bb_w1.mono (Below.size ((Below.refl WE.heap.size WE).drew)))
      refine ⟨_, rfl, ?_⟩
      simp only [Act.put, List.setIfInBounds_toArray, List.set_cons_zero, List.set_cons_succ]
      refine hK.out _ _ b_w1 (fun hH_w1 => ?_)
      clear hK K'
      refine wpAnyH_ready (rs := [3]) (by kernel_rfl) (by simp) ?_
      refine AllReadyH.cons rfl (fun K' hK => ?_) AllReadyH.nil
      refine step_goV (by rfl) (some 29) rfl 11 #[.tmp 27, .tmp 28] _ rfl #[.agg #[.slice a_w1 qq.length c_w1], .agg #[.slice ai qq.length ci]] (by simp [Act.eval]) (fun _ _ => rfl) (LQ a_w1 g_w1 c_w1 ai gi ci _ ss_w1 (ssQE.below b_w1 (Nat.le_refl _))) ?_
      rintro e w2 ⟨rfl, bb_w2⟩
      have b_w2 : Below WE.heap.size WE w2 := Below.trans b_w1 (bb_w2.mono (Below.size b_w1))
      refine ⟨_, rfl, ?_⟩
      simp only [Act.put, List.setIfInBounds_toArray, List.set_cons_zero, List.set_cons_succ]
      refine hK.out _ _ b_w2 (fun hH_w2 => ?_)
      clear hK K'
      refine takeD 4 (some 30) (.bool true) hH_w2 rfl rfl (by kernel_rfl) (by kernel_rfl) (by kernel_rfl) (fun _ _ _ h => h) (Or.inl ⟨by rfl, by intro w' hSw; go_simp⟩) ?_
      simp only [Act.put, List.setIfInBounds_toArray, List.set_cons_zero, List.set_cons_succ]
      refine takeD 5 (some 31) (.agg #[.slice ai qq.length ci]) hH_w2 rfl rfl (by kernel_rfl) (by kernel_rfl) (by kernel_rfl) (fun _ _ _ h => h) (Or.inl ⟨by rfl, by intro w' hSw; have hc := (hSw.cell (p := ⟨PQ, 0, none⟩) lQE).trans x1E; go_simp⟩) ?_
      simp only [Act.put, List.setIfInBounds_toArray, List.set_cons_zero, List.set_cons_succ]
      refine wpAnyH_ready (rs := [6]) (by kernel_rfl) (by simp) ?_
      refine AllReadyH.cons rfl (fun K' hK => ?_) AllReadyH.nil
      refine step_goV (by rfl) (some 32) rfl 14 #[.tmp 31] _ rfl #[.agg #[.slice ai qq.length ci]] (by simp [Act.eval]) (fun _ _ => rfl) (CQ _ b_w2) ?_
      rintro e w3 ⟨rfl, bb_w3⟩
      have b_w3 : Below WE.heap.size WE w3 := Below.trans b_w2 (bb_w3.mono (Below.size b_w2))
      refine ⟨_, rfl, ?_⟩
      simp only [Act.put, List.setIfInBounds_toArray, List.set_cons_zero, List.set_cons_succ]
      refine hK.out _ _ b_w3 (fun hH_w3 => ?_)
      clear hK K'
      refine takeD 7 (some 33) (.bool true) hH_w3 rfl rfl (by kernel_rfl) (by kernel_rfl) (by kernel_rfl) (fun _ _ _ h => h) (Or.inl ⟨by rfl, by intro w' hSw; go_simp⟩) ?_
      simp only [Act.put, List.setIfInBounds_toArray, List.set_cons_zero, List.set_cons_succ]
      refine takeD 8 (some 34) (.bool true) hH_w3 rfl rfl (by kernel_rfl) (by kernel_rfl) (by kernel_rfl) (fun _ _ _ h => h) (Or.inl ⟨by rfl, by intro w' hSw; go_simp⟩) ?_
      simp only [Act.put, List.setIfInBounds_toArray, List.set_cons_zero, List.set_cons_succ]
      refine takeD 9 (some 35) (.agg #[.slice ai qq.length ci]) hH_w3 rfl rfl (by kernel_rfl) (by kernel_rfl) (by kernel_rfl) (fun _ _ _ h => h) (Or.inl ⟨by rfl, by intro w' hSw; have hc := (hSw.cell (p := ⟨PQ, 0, none⟩) lQE).trans x1E; go_simp⟩) ?_
      simp only [Act.put, List.setIfInBounds_toArray, List.set_cons_zero, List.set_cons_succ]
      refine takeD 11 (some 37) (.agg #[.slice a mm.length c]) hH_w3 rfl rfl (by kernel_rfl) (by kernel_rfl) (by kernel_rfl) (fun _ _ _ h => h) (Or.inl ⟨by rfl, by intro w' hSw; have hc := (hSw.cell (p := ⟨PP, 0, none⟩) lPE).trans x0E; go_simp⟩) ?_
      simp only [Act.put, List.setIfInBounds_toArray, List.set_cons_zero, List.set_cons_succ]
      refine wpAnyH_ready (rs := [10]) (by kernel_rfl) (by simp) ?_
      refine AllReadyH.cons rfl (fun K' hK => ?_) AllReadyH.nil
      refine step_goV (by rfl) (some 36) rfl 15 #[.tmp 35] _ rfl #[.agg #[.slice ai qq.length ci]] (by simp [Act.eval]) (fun _ _ => rfl) (C1 _ b_w3) ?_
      rintro e w4 ⟨rfl, bb_w4⟩
      have b_w4 : Below WE.heap.size WE w4 := Below.trans b_w3 (bb_w4.mono (Below.size b_w3))
      refine ⟨_, rfl, ?_⟩
      simp only [Act.put, List.setIfInBounds_toArray, List.set_cons_zero, List.set_cons_succ]
      refine hK.out _ _ b_w4 (fun hH_w4 => ?_)
      clear hK K'
      refine wpAnyH_ready (rs := [12]) (by kernel_rfl) (by simp) ?_
      refine AllReadyH.cons rfl (fun K' hK => ?_) AllReadyH.nil
      refine step_goV (by rfl) (some 38) rfl 15 #[.tmp 37] _ rfl #[.agg #[.slice a mm.length c]] (by simp [Act.eval]) (fun _ _ => rfl) (C2 _ b_w4) ?_
      rintro e w5 ⟨rfl, bb_w5⟩
      have b_w5 : Below WE.heap.size WE w5 := Below.trans b_w4 (bb_w5.mono (Below.size b_w4))
      refine ⟨_, rfl, ?_⟩
      simp only [Act.put, List.setIfInBounds_toArray, List.set_cons_zero, List.set_cons_succ]
      refine hK.out _ _ b_w5 (fun hH_w5 => ?_)
      clear hK K'
      refine takeD 13 (some 39) (.bool true) hH_w5 rfl rfl (by kernel_rfl) (by kernel_rfl) (by kernel_rfl) (fun _ _ _ h => h) (Or.inl ⟨by rfl, by intro w' hSw; go_simp⟩) ?_
      simp only [Act.put, List.setIfInBounds_toArray, List.set_cons_zero, List.set_cons_succ]
      refine takeD 14 (some 40) (.bool true) hH_w5 rfl rfl (by kernel_rfl) (by kernel_rfl) (by kernel_rfl) (fun _ _ _ h => h) (Or.inl ⟨by rfl, by intro w' hSw; go_simp⟩) ?_
      simp only [Act.put, List.setIfInBounds_toArray, List.set_cons_zero, List.set_cons_succ]
      refine takeD 15 (some 2) (.bool true) hH_w5 rfl rfl (by kernel_rfl) (by kernel_rfl) (by kernel_rfl) (fun _ _ _ h => h) (Or.inl ⟨by rfl, by intro w' hSw; go_simp⟩) ?_
      simp only [Act.put, List.setIfInBounds_toArray, List.set_cons_zero, List.set_cons_succ]
      refine wpAnyH_done (by kernel_rfl) ?_ _
      go_wp2_with fail
      go_ret
      exact ⟨rfl, bwE.trans (b_w5.mono bwE.size)⟩
  · go_enter Try.func3, Try.ntmps3
    go_wp2_with fail
    go_ret
    exact ⟨rfl, Below.refl _ _⟩

end Go.Proofs.Ytdpoiabohkkbcaa
