/- append of steps onto an empty row that was made: in plain regions, and in those that draw their order. No condition. spec.TurnPlain. Of at most 1048576 threads, and steps of a thread. The law FnExactTurnPlain, walked: it answers true, and leaves all as it was. Of programs of at most 9223372036854775807 threads and steps each: more than a machine holds. -/
import Derived.Test.YtdpoiabohkkbcaaBnNa
import Derived.Deep.RegionLaw
import Derived.Maps.AppendAt
import Derived.Test.YtdpoiabohkkbcaaSProg
import Derived.Test.YtdpoiabohkkbcaaBnNb
import Derived.Test.YtdpoiabohkkbcaaPgBnd
import Derived.Test.YtdpoiabohkkbcaaSize
import Derived.Deep.RegionHeld3

namespace Go.Proofs.Ytdpoiabohkkbcaa
open Go.RowKit

theorem run_append_emp0 {P : Program} (w : World) (t ty e : TypeId) (i : TypeInfo) (ht : P.underlying t = some (.slice e)) (hi : P.info? e = some i) (ad : Addr) (a : Option Addr) (c : Nat) :
    (Builtin.append_ #[t, t] ty #[.slice (some ad) 0 0, .slice a 0 c]).run P w = .ok (.slice (some ad) 0 0) w := by
  cases a
  · simp [Builtin.append_, run_underlying ht, sizeOf, typeInfo, hi, Builtin.lenOf, Builtin.firstCells, storeCells]
  · simp [Builtin.append_, run_underlying ht, sizeOf, typeInfo, hi, Builtin.lenOf, Builtin.firstCells, loadCells, loadCellsFrom, storeCells]
theorem grow_refl (w : World) (row : Option Nat) : w.grownBy w row := ⟨rfl, rfl, rfl, Nat.le_refl _, fun _ _ _ => rfl⟩
theorem own_emp {X : World} {base g size : Nat} {e : TypeId} (h : X.heap[g]? = some (.cells #[] e (0, 0))) (hb : base ≤ g) : X.ownsRow base e size (.slice (some ⟨g, 0, none⟩) 0 0) 0 [] :=
  ⟨by simp, .inr ⟨g, 0, #[], rfl, hb, h, Nat.le_refl _, Nat.zero_le _, by simp, by simp⟩⟩

theorem wp_append_does {P : Program} {o : Oper} {a : Act} {w : World} {K : Act → World → Prop} {Q : Exit → Act → World → Prop} (s x : Operand) (t : TypeId)
    (ho : o.op = .call { callee := .builtin .append, args := #[s, x], argTypes := #[t, t] }) (d : Option Tmp) (hd : o.dst = d) (base : Nat) (e : TypeId) (i : TypeInfo) (ht : P.underlying t = some (.slice e)) (hi : P.info? e = some i) (hz0 : i.zero = some (.agg #[.int .i64 0, .int .i64 0, .int .i64 0])) (hz1 : i.size = 3) (hz2 : i.bytes = 24)
    (g : Nat) (hs : a.eval s = .slice (some ⟨g, 0, none⟩) 0 0) (hown : w.ownsRow base e 3 (.slice (some ⟨g, 0, none⟩) 0 0) 0 []) (hbase : base ≤ w.heap.size) (sa : Option Addr) (b off c : Nat) (l : List M.D) (hx : a.eval x = .slice sa l.length c) (hI : DoS w sa b off l) (hl : l.length ≤ 1048576)
    (h : ∀ v' w', w'.ownsRow base e 3 v' l.length (flat l) → w.grownBy w' (some g) → (v'.ownBlock = some g ∨ v'.ownBlock = some w.heap.size) → K (a.put d v') w') :
    Oper.wp P o a w K Q := by
  subst hd
  cases sa with
  | none =>
    have hl0 : l = [] := by
      rcases Nat.eq_zero_or_pos l.length with h0 | h0
      · exact List.length_eq_zero_iff.1 h0
      · cases hI.addr h0
    subst hl0
    rw [List.length_nil] at hx
    have hrun := run_append_emp0 (P := P) w t o.type e i ht hi ⟨g, 0, none⟩ none c
    have hk := h (.slice (some ⟨g, 0, none⟩) 0 0) w hown (grow_refl _ _) (.inl rfl)
    unfold Oper.wp
    simp [execOp, ho, resolve, invoke, builtin, hs, hx, hrun, Result.andThen]
    exact hk
  | some ad =>
    have hn : ∀ j u, (flat l)[j]? = some u → w.cell? (ad.add j) = some u := fun j u hj => by
      have hjl := (List.getElem?_eq_some_iff.1 hj).1
      rw [flat_length] at hjl
      obtain ⟨rfl⟩ := hI.addr (by omega)
      exact DoS.flat_cells hI.row j u hj
    obtain ⟨v', w', hrun, h2, h3, _, h5⟩ := run_append_own_at (P := P) w base t o.type e i (.agg #[.int .i64 0, .int .i64 0, .int .i64 0]) 3 24 ht hi hz0 hz1 hz2 rfl (by decide) (.slice (some ⟨g, 0, none⟩) 0 0) 0 [] hown ad l.length c (flat l) (flat_length l) hn (flat_one' l) (by unfold maxLen; omega) (by omega) hbase
    have hk := h v' w' (by simpa using h2) h3 h5
    unfold Oper.wp
    simp [execOp, ho, resolve, invoke, builtin, hs, hx, hrun, Result.andThen]
    exact hk
theorem step_append_does {P : Program} {ops : Array Oper} {o : Oper} {a : Act} {w : World} {K : Act → World → Prop} {Q : Exit → Act → World → Prop} {E : Prop} (hgd : o.guard = none) (s x : Operand) (t : TypeId)
    (ho : o.op = .call { callee := .builtin .append, args := #[s, x], argTypes := #[t, t] }) (d : Option Tmp) (hd : o.dst = d) (base : Nat) (e : TypeId) (i : TypeInfo) (ht : P.underlying t = some (.slice e)) (hi : P.info? e = some i) (hz0 : i.zero = some (.agg #[.int .i64 0, .int .i64 0, .int .i64 0])) (hz1 : i.size = 3) (hz2 : i.bytes = 24)
    (g : Nat) (hs : a.eval s = .slice (some ⟨g, 0, none⟩) 0 0) (hown : w.ownsRow base e 3 (.slice (some ⟨g, 0, none⟩) 0 0) 0 []) (hbase : base ≤ w.heap.size) (sa : Option Addr) (b off c : Nat) (l : List M.D) (hx : a.eval x = .slice sa l.length c) (hI : DoS w sa b off l) (hl : l.length ≤ 1048576)
    (h : ∀ v' w', w'.ownsRow base e 3 v' l.length (flat l) → w.grownBy w' (some g) → (v'.ownBlock = some g ∨ v'.ownBlock = some w.heap.size) → K (a.put d v') w') :
    if Region.wanted o (yielded ops a.tmps) = true then Oper.wp P o a w K Q else E := by
  have hw : Region.wanted o (yielded ops a.tmps) = true := by simp [Region.wanted, hgd]
  rw [if_pos hw]
  exact wp_append_does s x t ho d hd base e i ht hi hz0 hz1 hz2 g hs hown hbase sa b off c l hx hI hl h
theorem wpList_append_does {P : Program} {ops : Array Oper} {rest : List Oper} {o : Oper} {a : Act} {w : World} {Q : Exit → Act → World → Prop} (hgd : o.guard = none) (s x : Operand) (t : TypeId)
    (ho : o.op = .call { callee := .builtin .append, args := #[s, x], argTypes := #[t, t] }) (d : Option Tmp) (hd : o.dst = d) (base : Nat) (e : TypeId) (i : TypeInfo) (ht : P.underlying t = some (.slice e)) (hi : P.info? e = some i) (hz0 : i.zero = some (.agg #[.int .i64 0, .int .i64 0, .int .i64 0])) (hz1 : i.size = 3) (hz2 : i.bytes = 24)
    (g : Nat) (hs : a.eval s = .slice (some ⟨g, 0, none⟩) 0 0) (hown : w.ownsRow base e 3 (.slice (some ⟨g, 0, none⟩) 0 0) 0 []) (hbase : base ≤ w.heap.size) (sa : Option Addr) (b off c : Nat) (l : List M.D) (hx : a.eval x = .slice sa l.length c) (hI : DoS w sa b off l) (hl : l.length ≤ 1048576)
    (h : ∀ v' w', w'.ownsRow base e 3 v' l.length (flat l) → w.grownBy w' (some g) → (v'.ownBlock = some g ∨ v'.ownBlock = some w.heap.size) → wpList P ops Q rest (a.put d v') w') :
    wpList P ops Q (o :: rest) a w :=
  wpList_plain hgd fun _ hK => wp_append_does s x t ho d hd base e i ht hi hz0 hz1 hz2 g hs hown hbase sa b off c l hx hI hl fun v' w' h1 h2 h3 => by
    subst hd
    exact hK _ _ (h v' w' h1 h2 h3)

end Go.Proofs.Ytdpoiabohkkbcaa

namespace Go.Proofs.Ytdpoiabohkkbcaa
open Go.RowKit

set_option maxHeartbeats 4000000 in
set_option maxRecDepth 100000 in
theorem sturnPlain_any (a : Option Addr) (b o c : Nat) (ll : List (List M.D)) (hl : ll.length ≤ 1048576) (hls : ∀ t ∈ ll, t.length ≤ 1048576) (w : World) (h : DoSS w a b o ll) :
    Calls Try.prog 12 #[.agg #[.slice a ll.length c]] w fun e w' => ∃ v, e = .returned (.agg #[v]) ∧ (∃ vs, Rdg w' w.heap.size v (M.turnPlain ll) vs) ∧ Below w.heap.size w w' := by
  obtain ⟨i0, hi, hz0, hz1, hz2⟩ := info_parts Try.info58
  obtain ⟨j0, hj, hy0, hy1, hy2⟩ := info_parts Try.info55
  have bw1 := below2 w (.cells #[.slice a ll.length c] 25) (.cells #[.slice none 0 0] 25)
  have hD := h.below bw1 (Nat.le_refl _)
  have hX1 := (Slot1.new w (.slice a ll.length c) 25).bl' (below1 _ (.cells #[.slice none 0 0] 25))
  have hY1 := Slot1.new (w.alloc (.cells #[.slice a ll.length c] 25)) (.slice none 0 0) 25
  rw [World.size_alloc] at hY1
  have HSZ : Hid (((w.alloc (.cells #[.slice a ll.length c] 25)).alloc (.cells #[.slice none 0 0] 25)).heap.size = w.heap.size + 1 + 1) := by show _ = _; simp
  go_enter Try.func12, Try.ntmps12
  go_wp2_with fail
  generalize (w.alloc (.cells #[.slice a ll.length c] 25)).alloc (.cells #[.slice none 0 0] 25) = W2 at *
  have bA := below1 W2 (.cells #[.slice none 0 0] 25)
  have hYA := hY1.bl' bA
  have hZA := Slot1.new W2 (.slice none 0 0) 25
  rw [HSZ.out] at hZA
  have lX := hX1.lt
  have lY := hY1.lt
  have hX1c := hX1.c
  have CP := fun W hb => sprog_any a b o c ll W hl hls (hD.below (w' := W) hb (Nat.le_refl W2.heap.size))
  generalize W2.alloc (.cells #[.slice none 0 0] 25) = WA at *
  cases hp : M.prog ll
  · rw [hp] at CP
    have hno := M.turnPlain_bad hp
    go_loopw [4] (fun s4 wr => s4 = .int .i64 0 ∧ Slot1 wr (w.heap.size + 1 + 1) (.slice none 0 0) ∧ Slot1 wr (w.heap.size + 1) (.slice none 0 0) ∧ Below W2.heap.size W2 wr) (fun _ _ => 0)
    case atStart => exact ⟨rfl, hZA, hYA, bA⟩
    case round =>
      obtain ⟨rfl, hP, hY, hbel⟩ := hrel
      have xx0 := (hbel.cell (p := ⟨w.heap.size, 0, none⟩) lX).trans hX1c
      have CPr := CP wr hbel
      have hne : w.heap.size + 1 ≠ w.heap.size + 1 + 1 := by omega
      clear hZA hYA bA CP
      by_cases h0 : 0 < ll.length
      · have h0' : (0 : Int) < ll.length := by omega
        go_wp2_with (first | (go_at_call 13; refine CPr.mono ?_; rintro e W3 ⟨rfl, b3⟩; have hP3 := hP.bl' b3; have hY3 := hY.bl' b3; have p0 := hP3.c; have pf := hP3.fz; have q0 := hY3.c; have qf := hY3.fz; have lP := hP3.lt; have lQ := hY3.lt))
        have hbw := bw1.trans ((hbel.trans (b3.mono hbel.size)).mono bw1.size)
        have q1 := (hY3.set (.slice none 0 0)).c
        exact bodyPost_ret (v := .agg #[.slice none 0 0]) (by simp [results, Try.results12, go_sem, q1]) rfl ⟨_, rfl, ⟨[], by first | (rw [hno]; exact Rdg.nil _ _) | exact Rdg.nil _ _⟩, hbw.setCell (by show w.heap.size ≤ w.heap.size + 1; omega) _⟩
      · have h0' : ¬ (0 : Int) < ll.length := by omega
        have h00 : decide ((0 : Int) < ll.length) = false := by simpa using h0'
        have p0 := hP.c
        have pf := hP.fz
        have q0 := hY.c
        have qf := hY.fz
        have lP := hP.lt
        have lQ := hY.lt
        go_wp2_with fail
        have hbw := bw1.trans (hbel.mono bw1.size)
        have q1 := (hY.set (.slice none 0 0)).c
        exact bodyPost_ret (v := .agg #[.slice none 0 0]) (by simp [results, Try.results12, go_sem, q1]) rfl ⟨_, rfl, ⟨[], by first | (rw [hno]; exact Rdg.nil _ _) | exact Rdg.nil _ _⟩, hbw.setCell (by show w.heap.size ≤ w.heap.size + 1; omega) _⟩
  · rw [hp] at CP
    have HY : Hid (M.turnPlain ll = M.mapS M.plainF ll) := M.turnPlain_yes hp
    obtain ⟨h3, h7⟩ := M.prog_le hp
    clear hp
    go_loopw [4] (fun s4 wr => ∃ (n : Nat) (v : Value) (vs : List Value), s4 = .int .i64 n ∧ n ≤ ll.length ∧ Rdg wr (w.heap.size + 3) v (M.mapS M.plainF (ll.take n)) vs ∧ Slot1 wr (w.heap.size + 1 + 1) v ∧ Slot1 wr (w.heap.size + 1) (.slice none 0 0) ∧ Below W2.heap.size W2 wr) (fun s4 _ => ll.length - (intOf s4).toNat)
    case atStart => exact ⟨0, .slice none 0 0, [], rfl, Nat.zero_le _, by simpa [M.mapS] using Rdg.nil _ _, hZA, hYA, bA⟩
    case round =>
      obtain ⟨n, v, vs, rfl, hn, hR0, hP0, hY0, hbel0⟩ := hrel
      clear hZA hYA bA
      have hsz2 := HSZ.out
      have xx00 := (hbel0.cell (p := ⟨w.heap.size, 0, none⟩) lX).trans hX1c
      have CPr := CP wr hbel0
      clear CP
      by_cases hlt : n < ll.length
      · obtain ⟨rfl⟩ := h.addr (by omega)
        obtain ⟨a', b', o', c', hc0, hd0⟩ := hD.row n hlt
        have HW : Hid (M.mapS M.plainF (ll.take (n + 1)) = M.mapS M.plainF (ll.take n) ++ [ll[n].map M.plainF]) := M.mapS_take _ ll n hlt
        have hmm : (M.mapS M.plainF (ll.take n)).length ≤ 3 := by rw [M.mapS_len]; simp; omega
        have ht7 := h7 _ (List.getElem_mem hlt)
        generalize ll[n] = t at *
        generalize M.mapS M.plainF (ll.take n) = mm at *
        have i1 : (n : Int) < ll.length := by omega
        obtain ⟨av, gv, cv, rfl, _⟩ := hR0.b.ss
        have HSZ2 : Hid (W2.heap.size = w.heap.size + 1 + 1) := hsz2
        clear hsz2
        go_wp2_with (first | (go_at_call 13; refine CPr.mono ?_; rintro e W3 ⟨rfl, b3⟩; have hR := hR0.below b3; have hP := hP0.bl' b3; have hY := hY0.bl' b3; have hbel := hbel0.trans (b3.mono hbel0.size); have hc := (hbel.cell (p := ⟨b, o + n, none⟩) (World.block_lt_of_cell? _ _ hc0)).trans hc0; have xx0 := (hbel.cell (p := ⟨w.heap.size, 0, none⟩) lX).trans hX1c; have lX3 : w.heap.size < W3.heap.size := World.block_lt_of_cell? _ _ xx0; have lP := hP.lt; have lcr : b < W3.heap.size := World.block_lt_of_cell? _ _ hc; have bE : Below W3.heap.size W3 (W3.alloc (.cells #[] 55)) := below1 _ _; have OA : (W3.alloc (.cells #[] 55)).ownsRow W3.heap.size 55 3 (.slice (some ⟨W3.heap.size, 0, none⟩) 0 0) 0 [] := own_emp (heap_alloc_new W3 _) (Nat.le_refl _); have DA : DoS (W3.alloc (.cells #[] 55)) a' b' o' t := (hd0.below hbel (Nat.le_refl _)).below bE (Nat.le_refl _)) | (at_builtin; refine wpList_append_does rfl (.tmp 19) (.tmp 24) 58 rfl (some 25) rfl W3.heap.size 55 j0 Try.underlying58 hj hy0 hy1 hy2 W3.heap.size rfl OA (by simp) a' b' o' c' t rfl DA (by omega) ?_))
        intro v4 w4 ho4 hg4 _
        obtain ⟨a4, c4, rfl⟩ := own_slx ho4
        have b4 : Below W3.heap.size W3 w4 := below_grown bE hg4 (fun j hj => by have : W3.heap.size = j := Option.some.inj hj; omega) bE.size
        have hP2 : w.heap.size + 1 + 1 < W3.heap.size := lP
        clear hg4 OA DA bE hR0 hP0 hY0 hbel0 xx00 CPr b3 xx0 hc
        go_wp2_with fail
        go_loopw [6] (fun s6 wi => ∃ k : Nat, s6 = .int .i64 k ∧ k ≤ t.length ∧ wi.ownsRow W3.heap.size 55 3 (.slice a4 t.length c4) t.length (flat (M.curT M.plainF k t)) ∧ Below W3.heap.size W3 wi) (fun s6 _ => t.length - (intOf s6).toNat)
        case atStart => exact ⟨0, rfl, Nat.zero_le _, by rw [M.curT_zero]; exact ho4, b4⟩
        case round =>
          obtain ⟨k, rfl, hk, ho, hbi⟩ := hrel
          have hbs := hbi.size
          by_cases hkt : k < t.length
          · have hkk : k < (M.curT M.plainF k t).length := by rw [M.curT_len]; exact hkt
            have HG : ∃ g, a4 = some ⟨g, 0, none⟩ ∧ W3.heap.size ≤ g := by
              rcases ho.2 with ⟨e, _⟩ | ⟨g, cap, cur, e, hg, _⟩
              · simp only [Value.slice.injEq] at e; omega
              · simp only [Value.slice.injEq] at e; exact ⟨g, e.1, hg⟩
            obtain ⟨g, rfl, hgg⟩ := HG
            have hfz := own_fzS ho
            have hat : DoAt wr g (k * 3) t[k] := by
              have ho' := ho
              rw [← M.curT_len M.plainF k t] at ho'
              obtain ⟨a5, g5, c5, e5, hd5, _⟩ := own_steps ho'
              simp only [Value.slice.injEq] at e5
              have e6 := hd5.addr (by omega)
              rw [← e5.1] at e6
              simp at e6
              have := hd5.row k hkk
              rw [← e6, Nat.zero_add, M.curT_get _ k t hkt] at this
              exact this
            have HCH : Hid (∀ W', Chg wr W' g (k * 3) t[k] (M.plainF t[k]) → W'.ownsRow W3.heap.size 55 3 (.slice (some ⟨g, 0, none⟩) t.length c4) t.length (flat (M.curT M.plainF (k + 1) t)) ∧ wr.grownBy W' (some g)) := by
              intro W' hch
              have e := M.curT_get M.plainF k t hkt hkk
              have r := own_chg ho hkk (by rw [e]; exact hch)
              rw [M.curT_set M.plainF k t hkt] at r
              exact r
            generalize t[k] = d at *
            have j1 : (k : Int) < t.length := by omega
            obtain ⟨kk, pp, vv⟩ := d
            obtain ⟨ck, cp, cv'⟩ := hat
            have f0 := hfz (k * 3)
            by_cases h5 : kk = 5
            · subst h5
              have r := HCH.out (wr.setCell ⟨g, k * 3, none⟩ (.int .i64 2)) ⟨0, Or.inr (Or.inl ⟨rfl, rfl, rfl⟩)⟩
              have r2 : Below W3.heap.size W3 (wr.setCell ⟨g, k * 3, none⟩ (.int .i64 2)) := hbi.setCell hgg _
              clear HCH ho
              go_wp2_with fail
              exact ⟨⟨k + 1, by go_num, by omega, r.1, r2⟩, by simp [intOf]; omega⟩
            · have h5' : (kk == 5) = false := by simpa using h5
              by_cases h6 : kk = 6
              · subst h6
                have r := HCH.out (wr.setCell ⟨g, k * 3, none⟩ (.int .i64 1)) ⟨0, Or.inr (Or.inl ⟨rfl, rfl, rfl⟩)⟩
                have r2 : Below W3.heap.size W3 (wr.setCell ⟨g, k * 3, none⟩ (.int .i64 1)) := hbi.setCell hgg _
                clear HCH ho
                go_wp2_with fail
                exact ⟨⟨k + 1, by go_num, by omega, r.1, r2⟩, by simp [intOf]; omega⟩
              · have h6' : (kk == 6) = false := by simpa using h6
                have r := HCH.out wr ⟨0, Or.inl ⟨rfl, by simp [M.plainF, M.plainK, h5, h6]⟩⟩
                clear HCH ho
                go_wp2_with fail
                exact ⟨⟨k + 1, by go_num, by omega, r.1, hbi⟩, by simp [intOf]; omega⟩
          · rw [M.curT_all _ k t (by omega)] at ho
            have j1 : ¬ (k : Int) < t.length := by omega
            have hRi := hR.below hbi
            have hPi := hP.bl' hbi
            have hYi := hY.bl' hbi
            have hlap : ∀ i (hi : i < vs.length) k, vs[i].ownBlock = some k → (Value.slice a4 t.length c4).ownBlock ≠ some k := fun i hi j hj e => by
              have h1 := (hR.b.inner i (by have := hR.b.len; omega) hi).lt j hj
              have h2 := own_ge ho j e
              omega
            have hol : wr.ownsRow W3.heap.size 55 3 (.slice a4 t.length c4) (t.map M.plainF).length (flat (t.map M.plainF)) := by rw [List.length_map]; exact ho
            have hown' := ownsRow_mono hol (show w.heap.size + 3 ≤ _ from by omega)
            have p0 := hPi.c
            have pf := hPi.fz
            have lPi := hPi.lt
            have hout := hRi.b.outer
            have hRE : Hid (Rdg wr (w.heap.size + 3) (.slice av mm.length cv) mm vs) := hRi
            have hPE : Hid (Slot1 wr (w.heap.size + 1 + 1) (.slice av mm.length cv)) := hPi
            have hYE : Hid (Slot1 wr (w.heap.size + 1) (.slice none 0 0)) := hYi
            have hbW : Below W2.heap.size W2 wr := hbel.trans (hbi.mono hbel.size)
            generalize t.map M.plainF = tt at *
            clear hol ho hR hP hY hPi hYi hRi
            go_wp2_with (at_builtin; refine wpList_append_lies _ rfl (.tmp 50) (.tmp 52) 23 rfl (w.heap.size + 3) 58 i0 _ 1 24 Try.underlying23 hi hz0 hz1 hz2 rfl (by decide) _ _ vs rfl (hout.alloc _) ⟨wr.heap.size, 0, none⟩ 1 1 [.slice a4 t.length c4] rfl rfl (World.news_of_block (cs := #[.slice a4 t.length c4]) (t := 58) (fr := (0, 0)) (heap_alloc_new wr _)) (by simp [Value.oneCell']) (by omega) (by unfold maxLen; omega) (by omega) (by simp; omega) (wr.heap.size + 1) (by simp) ?_)
            intro g2 cap2 w3 hown3 hg3 hat hlt3
            have hge := own_ge hout
            have hs2 := HSZ2.out
            have bA := below1 wr (.cells #[.slice a4 t.length c4] 58)
            have hP3 := (hPE.out.bl' bA).apart hg3 (fun e => by have := hge _ e; omega)
            have hY3 := (hYE.out.bl' bA).apart hg3 (fun e => by have := hge _ e; omega)
            have hR3 := (hRE.out.below bA).snocT (ownsRow_below hown' bA) hlap hown3 hg3
            have hb3 : Below W2.heap.size W2 w3 := below_grown (hbW.trans (bA.mono hbW.size)) hg3 (fun k hk => by have := hge k hk; omega) (by have := hbW.size; simp; omega)
            rw [← HW.out] at hR3
            clear hown3 hg3 hat hout hown' p0 pf hs2
            have p0 := hP3.c
            have pf := hP3.fz
            go_wp2_with fail
            have hP4 := hP3.set (.slice (some ⟨g2, 0, none⟩) (mm.length + 1) cap2)
            exact ⟨⟨n + 1, _, _, by go_num, by omega, hR3.far (by omega) _, hP4, hY3.far (by omega) _, hb3.setCell (by have := HSZ2.out; show W2.heap.size ≤ w.heap.size + 1 + 1; omega) _⟩, by simp [intOf]; omega⟩
      · have htk : ll.take n = ll := List.take_of_length_le (by omega)
        rw [htk] at hR0
        have hkn' : ¬ (n : Int) < ll.length := by omega
        have hkn2 : decide ((n : Int) < ll.length) = false := by simpa using hkn'
        obtain ⟨av, gv, cv, rfl, _⟩ := hR0.b.ss
        rw [M.mapS_len] at hR0 hP0
        have p0 := hP0.c
        have pf := hP0.fz
        have q0 := hY0.c
        have qf := hY0.fz
        have lP := hP0.lt
        have lQ := hY0.lt
        have hne : w.heap.size + 1 ≠ w.heap.size + 1 + 1 := by omega
        have hbw := bw1.trans (hbel0.mono bw1.size)
        clear hsz2
        go_wp2_with fail
        have q1 := (hY0.set (.slice av ll.length cv)).c
        exact bodyPost_ret (v := .agg #[.slice av ll.length cv]) (by simp [results, Try.results12, go_sem, q1]) rfl ⟨_, rfl, ⟨vs, by rw [HY.out]; exact (hR0.far (by omega) _).mono (by omega)⟩, hbw.setCell (by show w.heap.size ≤ w.heap.size + 1; omega) _⟩

end Go.Proofs.Ytdpoiabohkkbcaa

namespace Go.Proofs.Ytdpoiabohkkbcaa
open Go.RowKit

set_option maxHeartbeats 2000000 in
set_option maxRecDepth 100000 in
theorem lawTn_any (a : Option Addr) (b o c : Nat) (ll : List (List M.D)) (w : World) (hl0 : ll.length ≤ 9223372036854775807) (hls0 : ∀ t ∈ ll, t.length ≤ 9223372036854775807) (h : DoSS w a b o ll) :
    Calls Try.prog 8 #[.agg #[.slice a ll.length c]] w fun e w' => e = .returned (.bool true) ∧ Below w.heap.size w w' := by
  go_enter Try.func8, Try.ntmps8
  go_wp2_with (go_at_call 26; refine (szProg_any a b o c ll _ hl0 hls0 (h.below (below1 w _) (Nat.le_refl _))).mono ?_; rintro e w1 ⟨r', rfl, rfl, hor⟩)
  · go_ret
    exact ⟨rfl, below2 _ _ _⟩
  obtain ⟨_, hl, hls⟩ : 0 ≤ r' ∧ ll.length ≤ 1048576 ∧ ∀ t ∈ ll, t.length ≤ 1048576 := hor.resolve_left (by omega)
  clear hor hl0 hls0
  have b0 := below2 w (.cells #[.slice a ll.length c] 42) (.cells #[.slice a ll.length c] 42)
  have s0 := (Slot1.new w (.slice a ll.length c) 42).bl' (below1 _ (.cells #[.slice a ll.length c] 42))
  generalize (w.alloc (.cells #[.slice a ll.length c] 42)).alloc (.cells #[.slice a ll.length c] 42) = W0 at *
  -- the model's answer
  refine (toProg_any a b o c ll W0 hl hls (h.below b0 (Nat.le_refl _))).mono ?_
  rintro e w1 ⟨g1, rfl, hs1, b1⟩
  have bw1 := b0.trans (b1.mono b0.size)
  go_wp2_with fail
  have CS := sturnPlain_any (some ⟨g1, 0, none⟩) g1 0 ll.length ll hl hls w1 hs1.old
  have CI := fun A B C D W h1 => iturnPlain_any A B C D ll hl hls W h1
  generalize hmm : M.turnPlain ll = mm at *
  obtain ⟨hm3, hm7⟩ := M.turnPlain_small hmm
  clear hmm
  have hml : mm.length ≤ 1048576 := by omega
  have hmls : ∀ t ∈ mm, t.length ≤ 1048576 := fun t ht => by have := hm7 t ht; omega
  refine CS.mono ?_
  rintro e w3 ⟨v3, rfl, ⟨vs3, hR3⟩, b3⟩
  obtain ⟨av, gv, cv, rfl, hss3⟩ := hR3.b.ss
  have bA := below1 w3 (.cells #[.slice av mm.length cv] 25)
  have bw3 := bw1.trans (b3.mono bw1.size)
  have bwA := bw3.trans (bA.mono bw3.size)
  have sA := ((s0.bl' b1).bl' b3).bl' bA
  have sW := Slot1.new w3 (.slice av mm.length cv) 25
  have ssW := hss3.below bA (Nat.le_refl _)
  clear hR3 hss3 CS hs1 s0 b0 b1 b3 bA bw1 bw3
  have x0 := sA.c
  go_wp2_with fail
  generalize w3.alloc (.cells #[.slice av mm.length cv] 25) = WA at *
  generalize w3.heap.size = PW at *
  -- the arguments
  refine (toProg_any a b o c ll WA hl hls (h.below bwA (Nat.le_refl _))).mono ?_
  rintro e w4 ⟨g4, rfl, hs4, b4⟩
  have bX := below1 w4 (.cells #[.slice (some ⟨g4, 0, none⟩) ll.length ll.length] 25)
  have bAX := b4.trans (bX.mono b4.size)
  have sX := Slot1.new w4 (.slice (some ⟨g4, 0, none⟩) ll.length ll.length) 25
  have hsX := hs4.below bX (Nat.le_refl _)
  have hX4 : WA.heap.size ≤ w4.heap.size := b4.size
  have hszX : Hid ((w4.alloc (.cells #[.slice (some ⟨g4, 0, none⟩) ll.length ll.length] 25)).heap.size = w4.heap.size + 1) := by show _ = _; simp
  clear hs4 b4 bX x0
  have x1 := sX.c
  go_wp2_with fail
  generalize w4.alloc (.cells #[.slice (some ⟨g4, 0, none⟩) ll.length ll.length] 25) = WY at *
  generalize w4.heap.size = PX at *
  -- the program's answer
  refine (CI _ g4 0 ll.length WY hsX.old).mono ?_
  rintro e w5 ⟨v5, rfl, ⟨vs5, hR5⟩, b5⟩
  obtain ⟨ai, gi, ci, rs, rfl, hrl, hrn, hrw5, hin, _⟩ := hR5.rw_
  have bG := below1 w5 (.cells #[.slice ai mm.length ci] 25)
  have bYG := b5.trans (bG.mono b5.size)
  have sG := Slot1.new w5 (.slice ai mm.length ci) 25
  have hRG := hR5.below bG
  have hrwG := hrw5.below bG
  have hinG : ∀ k, InR rs k → k ≠ w5.heap.size := fun k ⟨i, hi, hn, e⟩ => by
    obtain ⟨x, hx⟩ := hrw5.ints i hi 0 (by omega)
    have : rs[i].b < w5.heap.size := World.block_lt_of_cell? _ _ hx
    omega
  have lG5 : WY.heap.size ≤ w5.heap.size := b5.size
  have bAG := bAX.trans (bYG.mono bAX.size)
  have sXG := sX.bl' bYG
  have hsXG := hsX.below bYG (Nat.le_refl _)
  have hlWY : WY.heap.size ≤ (w5.alloc (.cells #[.slice ai mm.length ci] 25)).heap.size := bYG.size
  have sWG := sW.bl' bAG
  have x2 := sG.c
  have x3 := sWG.c
  clear sX hsX bAX hR5 b5 bG x1 hrw5
  -- the same
  go_wp2_with fail
  generalize w5.alloc (.cells #[.slice ai mm.length ci] 25) = WG at *
  generalize w5.heap.size = PG at *
  obtain ⟨_, g6, _, e6, ssG⟩ := hRG.b.ss
  obtain ⟨rfl, _, rfl⟩ := Value.slice.inj e6
  have ssWG := ssW.below bAG (Nat.le_refl _)
  refine (eqProg_same ai g6 0 ci av gv 0 cv mm WG hml hmls ssG ssWG).mono ?_
  rintro e WH ⟨rfl, bH⟩
  have bAH := bAG.trans (bH.mono bAG.size)
  have bYH := bYG.trans (bH.mono bYG.size)
  have sAH := sA.bl' bAH
  have sXH := sXG.bl' bH
  have sGH := sG.bl' bH
  have hsXH := hsXG.below bH (Nat.le_refl _)
  have hRH := hRG.below bH
  have hrwH := hrwG.below bH
  clear x2 x3 ssG ssWG sXG sG hsXG hRG hrwG sWG bH bAG bYG
  have x0 := sAH.c
  have x1 := sXH.c
  have l0 := sAH.lt
  have l1 := sXH.lt
  go_wp2_with fail
  have bwH := bwA.trans (bAH.mono bwA.size)
  have C7 := toProg_any a b o c ll WH.drew hl hls (h.below bwH.drew (Nat.le_refl _))
  go_region_held3 (fun w' => w'.cell? ⟨w.heap.size, 0, none⟩ = some (.slice a ll.length c) ∧ w'.cell? ⟨PX, 0, none⟩ = some (.slice (some ⟨g4, 0, none⟩) ll.length ll.length)) (go_keep) (first
    | (go_at_call 27; refine C7.mono ?_; rintro e w7 ⟨g7, rfl, hs7, hb7⟩; have Y0 := (hb7.cell (p := ⟨w.heap.size, 0, none⟩) l0).trans x0; have Y1 := (hb7.cell (p := ⟨PX, 0, none⟩) l1).trans x1)
    | (go_at_call 28; refine (eqProg_same _ g4 0 ll.length _ g7 0 ll.length ll _ hl hls ((hsXH.old.below (Below.refl _ _).drew (Nat.le_refl _)).below hb7 (Nat.le_refl _)) hs7.old).mono ?_; rintro e w8 ⟨rfl, hb8⟩; have Z0 := (hb8.cell (p := ⟨w.heap.size, 0, none⟩) (Nat.lt_of_lt_of_le l0 hb7.size)).trans Y0; have Z1 := (hb8.cell (p := ⟨PX, 0, none⟩) (Nat.lt_of_lt_of_le l1 hb7.size)).trans Y1))
  have b68 : Below WH.heap.size WH w8 := ((Below.refl WH.heap.size WH).drew.trans hb7).trans (hb8.mono hb7.size)
  have bA8 := bAH.trans (b68.mono bAH.size)
  have bw8 := bwA.trans (bA8.mono bwA.size)
  have sX8 := sXH.bl' b68
  have sG8 := sGH.bl' b68
  have hsX8 := hsXH.below b68 (Nat.le_refl _)
  have hR8 := hRH.below b68
  have hrw8 := hrwH.below b68
  have lY8 : WY.heap.size ≤ w8.heap.size := Nat.le_trans bYH.size b68.size
  clear Z0 Z1 Y0 Y1 C7 hs7 hb7 hb8 b68 bwH bAH bYH sAH sXH sGH hsXH hRH hrwH x0 x1 l0 l1
  have x1 := sX8.c
  go_wp2_with fail
  refine (markProg_any g4 ll.length WA.heap.size PX ll w8 hl hls hsX8).mono ?_
  rintro e w11 ⟨k, wa, rfl, hk, rfl, mk11⟩
  have bal := below1 w8 (.cells #[.slice (some ⟨g4, 0, none⟩) ll.length ll.length] 25)
  have bA11 : Below WA.heap.size WA w11 := Mk.below (bA8.trans (bal.mono bA8.size)) mk11 (fun j hj => hj.1)
  have hR11 := (hR8.below bal).mkFar mk11 (fun j hj => by have := hszX.out; omega)
  have hPG : WY.heap.size ≤ PG := lG5
  have hrw11 := (hrw8.below bal).mk_ mk11
  have sG11 := (sG8.bl' bal).mkFar mk11 (fun hj => by have := hszX.out; omega)
  clear x1 bal mk11 hR8 hrw8 sG8 sX8 hsX8 bA8
  have sW11 := sW.bl' bA11
  have hk2 : ¬ (k < 0) := by omega
  have hk3 : decide (k < 0) = false := by simpa using hk2
  have x2 := sG11.c
  have x3 := sW11.c
  go_wp2_with fail
  obtain ⟨_, g3, _, e3, hss3⟩ := hR11.b.ss
  obtain ⟨rfl, _, rfl⟩ := Value.slice.inj e3
  refine (eqProg_same ai g3 0 ci av gv 0 cv mm w11 hml hmls hss3 (ssW.below bA11 (Nat.le_refl _))).mono ?_
  rintro e w13 ⟨rfl, b13⟩
  have hq1 : rs.length ≤ 1048576 := by have := hrl.out; omega
  have hq2 : ∀ r ∈ rs, r.n ≤ 1048576 := fun r hr => by obtain ⟨t, ht, e⟩ := hrn r hr; have := hmls t ht; omega
  have hrw13 := hrw11.below b13
  have sG13 := sG11.bl' b13
  have bA13 := bA11.trans (b13.mono bA11.size)
  have hAY : WA.heap.size ≤ WY.heap.size := by have := hszX.out; omega
  have hinA : ∀ k, InR rs k → WA.heap.size ≤ k := fun k hk => by have := hin k hk; omega
  have MK := fun W h => markProgv_any ai gi ci rs W hq1 hq2 h
  have HE := fun W h hd => heldProg_any ai gi ci rs W hq1 hq2 h hd
  rw [hrl.out] at MK HE
  have hT := totq_le hq2
  generalize hTq : totq rs = T at *
  have t0 : ¬ (1 + (T : Int) * 3 < 0) := by omega
  clear hTq hT hR11 sG11 sW11 hrw11 hss3 bA11 b13 x2 x3
  have x2 := sG13.c
  go_wp2_with fail
  refine (MK w13 hrw13).mono ?_
  rintro e w14 ⟨rfl, hd14, mk14⟩
  have bal := below1 w13 (.cells #[.slice ai mm.length ci] 25)
  have bA14 : Below WA.heap.size WA w14 := Mk.below (bA13.trans (bal.mono bA13.size)) mk14 hinA
  have hrw14 := (hrw13.below bal).mk_ mk14
  have sG14 := (sG13.bl' bal).mkFar mk14 (fun h => hinG _ h rfl)
  clear x2 sG13 hrw13 mk14 bal bA13
  have x2 := sG14.c
  go_wp2_with fail
  refine (HE w14 hrw14 hd14).mono ?_
  rintro e w15 ⟨rfl, b15⟩
  have bA15 := bA14.trans (b15.mono bA14.size)
  have sG15 := sG14.bl' b15
  have hrw15 := hrw14.below b15
  have hd15 := hd14.below b15
  have sA15 := sA.bl' bA15
  have bw15 := bwA.trans (bA15.mono bwA.size)
  clear x2 sG14 hrw14 hd14 b15 bA14
  have x0 := sA15.c
  go_wp2_with fail
  -- once more
  refine (toProg_any a b o c ll w15 hl hls (h.below bw15 (Nat.le_refl _))).mono ?_
  rintro e w16 ⟨g16, rfl, hs16, b16⟩
  go_wp2_with fail
  refine (CI _ g16 0 ll.length w16 hs16.old).mono ?_
  rintro e w18 ⟨v18, rfl, ⟨vs18, hR18⟩, b18⟩
  obtain ⟨ah, gh, ch, rfl, hss18⟩ := hR18.b.ss
  have bH := below1 w18 (.cells #[.slice ah mm.length ch] 25)
  have b1518 := b16.trans (b18.mono b16.size)
  have b15H := b1518.trans (bH.mono b1518.size)
  have bAH := bA15.trans (b15H.mono bA15.size)
  have sGH := sG15.bl' b15H
  have hrwH := hrw15.below b15H
  have hdH := hd15.below b15H
  have sWH := sW.bl' bAH
  have ssWH := ssW.below bAH (Nat.le_refl _)
  have sHH := Slot1.new w18 (.slice ah mm.length ch) 25
  have ssHH := hss18.below bH (Nat.le_refl _)
  clear hR18 hss18 b18 b16 b1518 b15H bH hs16 sG15 hrw15 hd15 bA15 sA15 x0 bw15
  have x3 := sWH.c
  have x4 := sHH.c
  go_wp2_with fail
  generalize w18.alloc (.cells #[.slice ah mm.length ch] 25) = WH at *
  generalize w18.heap.size = PH at *
  refine (eqProg_same ah gh 0 ch av gv 0 cv mm WH hml hmls ssHH ssWH).mono ?_
  rintro e w19 ⟨rfl, b19⟩
  have bA19 := bAH.trans (b19.mono bAH.size)
  have sG19 := sGH.bl' b19
  have hrw19 := hrwH.below b19
  have hd19 := hdH.below b19
  clear x3 x4 ssHH ssWH sHH sWH sGH hrwH hdH bAH b19
  have x2 := sG19.c
  go_wp2_with fail
  refine (HE w19 hrw19 hd19).mono ?_
  rintro e w20 ⟨rfl, b20⟩
  have bA20 := bA19.trans (b20.mono bA19.size)
  go_wp2_with fail
  go_ret
  exact ⟨rfl, bwA.trans (bA20.mono bwA.size)⟩

end Go.Proofs.Ytdpoiabohkkbcaa
