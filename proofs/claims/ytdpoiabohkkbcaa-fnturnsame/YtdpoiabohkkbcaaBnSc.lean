/- spec.l22Row: whether numbers are a row. Of at most 1000, rows of at most 1048576 numbers. append of steps onto an empty row that was made: in plain regions, and in those that draw their order. No condition. spec.TurnVals. Of at most 1048576 threads, steps of a thread and numbers. The law FnTurnSame, walked: it answers true, and leaves all as it was. Of whatever code. -/
import Derived.Test.YtdpoiabohkkbcaaBnSa
import Derived.Deep.RegionLaw
import Derived.Maps.AppendAt
import Derived.Test.YtdpoiabohkkbcaaBnSb
import Derived.Test.YtdpoiabohkkbcaaSProg
import Derived.Test.YtdpoiabohkkbcaaLpPg

namespace Go.Proofs.Ytdpoiabohkkbcaa
open Go.RowKit

set_option maxHeartbeats 400000 in
set_option maxRecDepth 100000 in
theorem l22Row_any (a : Option Addr) (b o c : Nat) (row : List Int) (m : Nat) (w : World) (hl : row.length ≤ 1048576) (hm : m ≤ 1000) (h : IntS w a b o row) :
    Calls Try.prog 49 #[.slice a row.length c, .int .i64 m] w fun e w' => e = .returned (.bool (M.rowN row m)) ∧ w' = w := by
  by_cases hln : row.length = m
  · have HF : Hid (M.rowN row m = (M.bel m).all (fun v => M.has row v)) := M.rowOf_same (by rw [M.bel_len]; exact hln)
    have hq : ((row.length : Int) != m) = false := by simp; omega
    have HL : Hid (row.length = m) := hln
    clear hln
    go_enter Try.func49, Try.ntmps49
    go_wp2_with fail
    go_loopw [5] (fun s5 wr => ∃ n : Nat, s5 = .int .i64 n ∧ n ≤ m ∧ Hid ((M.bel m).all (fun v => M.has row v) = ((M.bel m).drop n).all (fun v => M.has row v)) ∧ wr = w) (fun s5 _ => m - (intOf s5).toNat)
    case atStart => exact ⟨0, rfl, Nat.zero_le _, by show _ = _; rfl, rfl⟩
    case round =>
      obtain ⟨n, rfl, hn, HA, rfl⟩ := hrel
      by_cases hlt : n < m
      · have hlt2 : n < (M.bel m).length := by rw [M.bel_len]; exact hlt
        have HS : Hid ((M.bel m).all (fun v => M.has row v) = (M.has row (n : Int) && ((M.bel m).drop (n + 1)).all (fun v => M.has row v))) := by
          have := M.rowAll_step HA.out hlt2
          rw [M.bel_get] at this
          exact this
        clear HA hlt2
        have i1 : (n : Int) < m := by omega
        cases hh : M.has row (n : Int)
        · go_wp2_with (go_at_call 53; refine (l12Has_any a b o c row n _ hl h).mono ?_; rw [hh]; rintro e w' ⟨rfl, rfl⟩)
          go_ret
          exact ⟨ret_bool (by rw [HF.out, HS.out, hh]; rfl), rfl⟩
        · go_wp2_with (go_at_call 53; refine (l12Has_any a b o c row n _ hl h).mono ?_; rw [hh]; rintro e w' ⟨rfl, rfl⟩)
          exact ⟨⟨n + 1, by go_num, by omega, by show _ = _; rw [HS.out, hh]; rfl, trivial⟩, by simp [intOf]; omega⟩
      · have i1 : ¬ (n : Int) < m := by omega
        go_wp2_with fail
        go_ret
        exact ⟨ret_bool (by rw [HF.out, HA.out, List.drop_eq_nil_of_le (by rw [M.bel_len]; omega)]; rfl), rfl⟩
  · have hln' : ((row.length : Int) == m) = false := by simp; omega
    go_enter Try.func49, Try.ntmps49
    go_wp2_with fail
    go_ret
    exact ⟨ret_bool (M.rowOf_short (by rw [M.bel_len]; exact hln)).symm, rfl⟩

end Go.Proofs.Ytdpoiabohkkbcaa

namespace Go.Proofs.Ytdpoiabohkkbcaa
open Go.RowKit

theorem run_append_emp0 {P : Program} (w : World) (t ty e : TypeId) (i : TypeInfo) (ht : P.underlying t = some (.slice e)) (hi : P.info? e = some i) (ad : Addr) (a : Option Addr) (c : Nat) :
    (Builtin.append_ #[t, t] ty #[.slice (some ad) 0 0, .slice a 0 c]).run P w = .ok (.slice (some ad) 0 0) w := by
  cases a
  · simp [Builtin.append_, run_underlying ht, sizeOf, typeInfo, hi, Builtin.lenOf, Builtin.firstCells, storeCells]
  · simp [Builtin.append_, run_underlying ht, sizeOf, typeInfo, hi, Builtin.lenOf, Builtin.firstCells, loadCells, loadCellsFrom, storeCells]
theorem grow_refl (w : World) (row : Option Nat) : w.grownBy w row := ⟨rfl, rfl, rfl, Nat.le_refl _, fun _ _ _ => rfl⟩
theorem own_emp {X : World} {base g size : Nat} {e : TypeId} (h : X.heap[g]? = some (.cells #[] e (0, 0))) (hb : base ≤ g) : X.ownsRow base e size (.slice (some ⟨g, 0, none⟩) 0 0) 0 [] :=
  ⟨by simp, .inr ⟨g, 0, #[], rfl, hb, h, Nat.le_refl _, Nat.zero_le _, by simp, by simp⟩⟩

theorem wp_append_does {P : Program} {o : Oper} {a : Act} {w : World} {K : Act → World → Prop} {Q : Exit → Act → World → Prop} (s x : Operand) (t : TypeId)
    (ho : o.op = .call { callee := .builtin .append, args := #[s, x], argTypes := #[t, t] }) (d : Option Tmp) (hd : o.dst = d) (base : Nat) (e : TypeId) (i : TypeInfo) (ht : P.underlying t = some (.slice e)) (hi : P.info? e = some i) (hz0 : i.zero = some (.agg #[.int .i64 0, .int .i64 0, .int .i64 0])) (hz1 : i.size = 3) (hz2 : i.bytes = 24)
    (g : Nat) (hs : a.eval s = .slice (some ⟨g, 0, none⟩) 0 0) (hown : w.ownsRow base e 3 (.slice (some ⟨g, 0, none⟩) 0 0) 0 []) (hbase : base ≤ w.heap.size) (sa : Option Addr) (b off c : Nat) (l : List M.D) (hx : a.eval x = .slice sa l.length c) (hI : DoS w sa b off l) (hl : l.length ≤ 1048576)
    (h : ∀ v' w', w'.ownsRow base e 3 v' l.length (flat l) → w.grownBy w' (some g) → (v'.ownBlock = some g ∨ v'.ownBlock = some w.heap.size) → K (a.put d v') w') :
    Oper.wp P o a w K Q := by
  subst hd
  cases sa with
  | none =>
    have hl0 : l = [] := by
      rcases Nat.eq_zero_or_pos l.length with h0 | h0
      · exact List.length_eq_zero_iff.1 h0
      · cases hI.addr h0
    subst hl0
    rw [List.length_nil] at hx
    have hrun := run_append_emp0 (P := P) w t o.type e i ht hi ⟨g, 0, none⟩ none c
    have hk := h (.slice (some ⟨g, 0, none⟩) 0 0) w hown (grow_refl _ _) (.inl rfl)
    unfold Oper.wp
    simp [execOp, ho, resolve, invoke, builtin, hs, hx, hrun, Result.andThen]
    exact hk
  | some ad =>
    have hn : ∀ j u, (flat l)[j]? = some u → w.cell? (ad.add j) = some u := fun j u hj => by
      have hjl := (List.getElem?_eq_some_iff.1 hj).1
      rw [flat_length] at hjl
      obtain ⟨rfl⟩ := hI.addr (by omega)
      exact DoS.flat_cells hI.row j u hj
    obtain ⟨v', w', hrun, h2, h3, _, h5⟩ := run_append_own_at (P := P) w base t o.type e i (.agg #[.int .i64 0, .int .i64 0, .int .i64 0]) 3 24 ht hi hz0 hz1 hz2 rfl (by decide) (.slice (some ⟨g, 0, none⟩) 0 0) 0 [] hown ad l.length c (flat l) (flat_length l) hn (flat_one' l) (by unfold maxLen; omega) (by omega) hbase
    have hk := h v' w' (by simpa using h2) h3 h5
    unfold Oper.wp
    simp [execOp, ho, resolve, invoke, builtin, hs, hx, hrun, Result.andThen]
    exact hk
theorem step_append_does {P : Program} {ops : Array Oper} {o : Oper} {a : Act} {w : World} {K : Act → World → Prop} {Q : Exit → Act → World → Prop} {E : Prop} (hgd : o.guard = none) (s x : Operand) (t : TypeId)
    (ho : o.op = .call { callee := .builtin .append, args := #[s, x], argTypes := #[t, t] }) (d : Option Tmp) (hd : o.dst = d) (base : Nat) (e : TypeId) (i : TypeInfo) (ht : P.underlying t = some (.slice e)) (hi : P.info? e = some i) (hz0 : i.zero = some (.agg #[.int .i64 0, .int .i64 0, .int .i64 0])) (hz1 : i.size = 3) (hz2 : i.bytes = 24)
    (g : Nat) (hs : a.eval s = .slice (some ⟨g, 0, none⟩) 0 0) (hown : w.ownsRow base e 3 (.slice (some ⟨g, 0, none⟩) 0 0) 0 []) (hbase : base ≤ w.heap.size) (sa : Option Addr) (b off c : Nat) (l : List M.D) (hx : a.eval x = .slice sa l.length c) (hI : DoS w sa b off l) (hl : l.length ≤ 1048576)
    (h : ∀ v' w', w'.ownsRow base e 3 v' l.length (flat l) → w.grownBy w' (some g) → (v'.ownBlock = some g ∨ v'.ownBlock = some w.heap.size) → K (a.put d v') w') :
    if Region.wanted o (yielded ops a.tmps) = true then Oper.wp P o a w K Q else E := by
  have hw : Region.wanted o (yielded ops a.tmps) = true := by simp [Region.wanted, hgd]
  rw [if_pos hw]
  exact wp_append_does s x t ho d hd base e i ht hi hz0 hz1 hz2 g hs hown hbase sa b off c l hx hI hl h
theorem wpList_append_does {P : Program} {ops : Array Oper} {rest : List Oper} {o : Oper} {a : Act} {w : World} {Q : Exit → Act → World → Prop} (hgd : o.guard = none) (s x : Operand) (t : TypeId)
    (ho : o.op = .call { callee := .builtin .append, args := #[s, x], argTypes := #[t, t] }) (d : Option Tmp) (hd : o.dst = d) (base : Nat) (e : TypeId) (i : TypeInfo) (ht : P.underlying t = some (.slice e)) (hi : P.info? e = some i) (hz0 : i.zero = some (.agg #[.int .i64 0, .int .i64 0, .int .i64 0])) (hz1 : i.size = 3) (hz2 : i.bytes = 24)
    (g : Nat) (hs : a.eval s = .slice (some ⟨g, 0, none⟩) 0 0) (hown : w.ownsRow base e 3 (.slice (some ⟨g, 0, none⟩) 0 0) 0 []) (hbase : base ≤ w.heap.size) (sa : Option Addr) (b off c : Nat) (l : List M.D) (hx : a.eval x = .slice sa l.length c) (hI : DoS w sa b off l) (hl : l.length ≤ 1048576)
    (h : ∀ v' w', w'.ownsRow base e 3 v' l.length (flat l) → w.grownBy w' (some g) → (v'.ownBlock = some g ∨ v'.ownBlock = some w.heap.size) → wpList P ops Q rest (a.put d v') w') :
    wpList P ops Q (o :: rest) a w :=
  wpList_plain hgd fun _ hK => wp_append_does s x t ho d hd base e i ht hi hz0 hz1 hz2 g hs hown hbase sa b off c l hx hI hl fun v' w' h1 h2 h3 => by
    subst hd
    exact hK _ _ (h v' w' h1 h2 h3)

end Go.Proofs.Ytdpoiabohkkbcaa

namespace Go.Proofs.Ytdpoiabohkkbcaa
open Go.RowKit

set_option maxHeartbeats 4000000 in
set_option maxRecDepth 100000 in
set_option linter.unusedSimpArgs false in
theorem sturnVals_any (a : Option Addr) (b o c : Nat) (ll : List (List M.D)) (hl : ll.length ≤ 1048576) (hls : ∀ t ∈ ll, t.length ≤ 1048576) (ga : Option Addr) (gb go gc : Nat) (gs : List Int) (hgl : gs.length ≤ 1048576) (w : World) (h : DoSS w a b o ll) (hG : IntS w ga gb go gs) :
    Calls Try.prog 24 #[.agg #[.slice a ll.length c], .slice ga gs.length gc] w fun e w' => ∃ v, e = .returned (.tuple #[.agg #[v], .bool (M.turnVals ll gs).isSome]) ∧ (∃ vs, Rdg w' w.heap.size v ((M.turnVals ll gs).getD []) vs) ∧ Below w.heap.size w w' := by
  obtain ⟨i0, hi, hz0, hz1, hz2⟩ := info_parts Try.info58
  obtain ⟨j0, hj, hy0, hy1, hy2⟩ := info_parts Try.info55
  have b2 := below2 w (.cells #[.slice a ll.length c] 25) (.cells #[.slice none 0 0] 25)
  have h2 := h.below b2 (Nat.le_refl _)
  have hG2 := hG.below b2 (Nat.le_refl _)
  have hX := (Slot1.new w (.slice a ll.length c) 25).bl' (below1 _ (.cells #[.slice none 0 0] 25))
  have hY := Slot1.new (w.alloc (.cells #[.slice a ll.length c] 25)) (.slice none 0 0) 25
  rw [World.size_alloc] at hY
  go_enter Try.func24, Try.ntmps24
  cases hp : M.prog ll
  · have hno := M.turnVals_bad (row := gs) hp
    have CP := sprog_any a b o c ll _ hl hls h2
    rw [hp] at CP
    go_wp2_with (first | (go_at_call 13; refine CP.mono ?_; rintro e W1 ⟨rfl, b1⟩; have hY1 := hY.bl' b1; have y0 := hY1.c; have yf := hY1.fz; have ly := hY1.lt))
    have bw1 := b2.trans (b1.mono b2.size)
    have q1 := (hY1.set (.slice none 0 0)).c
    exact bodyPost_ret (v := .tuple #[.agg #[.slice none 0 0], .bool false]) (by simp [results, Try.results24, go_sem, q1]) rfl ⟨_, by rw [hno]; rfl, ⟨[], by rw [hno]; exact Rdg.nil _ _⟩, bw1.setCell (by show w.heap.size ≤ w.heap.size + 1; omega) _⟩
  · obtain ⟨h3, h7⟩ := M.prog_le hp
    have CP := sprog_any a b o c ll _ hl hls h2
    rw [hp] at CP
    have CO := fun W hW => l22Row_any ga gb go gc gs 4 W hgl (by omega) hW
    cases hok : M.rowN gs 4
    · have hno := M.turnVals_row (ll := ll) hok
      rw [hok] at CO
      go_wp2_with (first | (go_at_call 13; refine CP.mono ?_; rintro e W1 ⟨rfl, b1⟩; have hX1 := hX.bl' b1; have x0 := hX1.c; have hG1 := hG2.below b1 (Nat.le_refl _); have hY1 := hY.bl' b1; have y0 := hY1.c; have yf := hY1.fz; have ly := hY1.lt) | (go_at_call 49; refine (CO _ hG1).mono ?_; rintro e W2 ⟨rfl, rfl⟩))
      have bw1 := b2.trans (b1.mono b2.size)
      have q1 := (hY1.set (.slice none 0 0)).c
      exact bodyPost_ret (v := .tuple #[.agg #[.slice none 0 0], .bool false]) (by simp [results, Try.results24, go_sem, q1]) rfl ⟨_, by rw [hno]; rfl, ⟨[], by rw [hno]; exact Rdg.nil _ _⟩, bw1.setCell (by show w.heap.size ≤ w.heap.size + 1; omega) _⟩
    · rw [hok] at CO
      have hpos : 0 < gs.length := by rw [M.rowN_len hok]; omega
      obtain ⟨rfl⟩ := hG.addr hpos
      obtain ⟨y0', hyy⟩ : ∃ y, gs[0] = y := ⟨_, rfl⟩
      have HV0 : Hid (gs.getD 0 0 = y0') := (M.getD_get hpos).trans hyy
      have V0 : ∀ W', Below ((w.alloc (.cells #[.slice a ll.length c] 25)).alloc (.cells #[.slice none 0 0] 25)).heap.size ((w.alloc (.cells #[.slice a ll.length c] 25)).alloc (.cells #[.slice none 0 0] 25)) W' → W'.cell? ⟨gb, go, none⟩ = some (.int .i64 y0') := fun W' hb => by
        have := (hG2.below hb (Nat.le_refl _)).row 0 hpos
        rw [hyy] at this
        simpa using this
      have hp0 : (0 : Int) < gs.length := by omega
      clear hyy
      by_cases hyz : y0' = 0
      · subst hyz
        have hyes := M.turnVals_yes hp hok (by rw [HV0.out]; rfl)
        have HY1 : Hid ((M.turnVals ll gs).isSome = true) := by show _ = _; rw [hyes]; rfl
        have HY2 : Hid ((M.turnVals ll gs).getD [] = M.mapS (M.valF gs) ll) := by show _ = _; rw [hyes]; rfl
        have HR : Hid (M.rowN gs 4 = true) := hok
        have HL : Hid (gs.length = 4) := M.rowN_len hok
        have HPq : Hid (M.prog ll = true) := hp
        clear hyes hok hp
        go_wp2_with (first | (go_at_call 13; refine CP.mono ?_; rintro e W1 ⟨rfl, b1⟩; have hX1 := hX.bl' b1; have x0 := hX1.c; have hG1 := hG2.below b1 (Nat.le_refl _); have hY1 := hY.bl' b1; have v1 := V0 _ b1) | (go_at_call 49; refine (CO _ hG1).mono ?_; rintro e W2 ⟨rfl, rfl⟩))
        have bw1 := b2.trans (b1.mono b2.size)
        have bA := below1 W2 (.cells #[.slice none 0 0] 25)
        have hXA := hX1.bl' bA
        have hYA := hY1.bl' bA
        have hZA := Slot1.new W2 (.slice none 0 0) 25
        have lX := hX1.lt
        have lY := hY1.lt
        have hD := h.below bw1 (Nat.le_refl _)
        generalize W2.alloc (.cells #[.slice none 0 0] 25) = WA at *
        have hX1c := hX1.c
        clear v1 V0 CP CO x0 hX hY h2 hG2 b2 b1 hX1
        go_loopw [7] (fun s7 wr => ∃ (n : Nat) (v : Value) (vs : List Value), s7 = .int .i64 n ∧ n ≤ ll.length ∧ Rdg wr (W2.heap.size + 1) v (M.mapS (M.valF gs) (ll.take n)) vs ∧ Slot1 wr W2.heap.size v ∧ Slot1 wr (w.heap.size + 1) (.slice none 0 0) ∧ Below W2.heap.size W2 wr) (fun s7 _ => ll.length - (intOf s7).toNat)
        case atStart => exact ⟨0, .slice none 0 0, [], rfl, Nat.zero_le _, by simpa [M.mapS] using Rdg.nil _ _, hZA, hYA, bA⟩
        case round =>
          obtain ⟨n, v, vs, rfl, hn, hR, hP, hY, hbel⟩ := hrel
          clear hZA hXA hYA bA
          by_cases hlt : n < ll.length
          · obtain ⟨rfl⟩ := h.addr (by omega)
            obtain ⟨a', b', o', c', hc0, hd0⟩ := hD.row n hlt
            have hc := (hbel.cell (p := ⟨b, o + n, none⟩) (World.block_lt_of_cell? _ _ hc0)).trans hc0
            have xx0 := (hbel.cell (p := ⟨w.heap.size, 0, none⟩) lX).trans hX1c
            have HW : Hid (M.mapS (M.valF gs) (ll.take (n + 1)) = M.mapS (M.valF gs) (ll.take n) ++ [ll[n].map (M.valF gs)]) := M.mapS_take _ ll n hlt
            have hmm : (M.mapS (M.valF gs) (ll.take n)).length ≤ 3 := by rw [M.mapS_len]; simp; omega
            have ht7 := h7 _ (List.getElem_mem hlt)
            have HDo : Hid (∀ d ∈ ll[n], ∃ t ∈ ll, d ∈ t) := fun d hd => ⟨_, List.getElem_mem hlt, hd⟩
            generalize ll[n] = t at *
            generalize M.mapS (M.valF gs) (ll.take n) = mm at *
            have i1 : (n : Int) < ll.length := by omega
            obtain ⟨av, gv, cv, rfl, _⟩ := hR.b.ss
            have lP := hP.lt
            have lXr := Nat.lt_trans lX lP
            have lcr : b < wr.heap.size := World.block_lt_of_cell? _ _ hc
            have bE : Below wr.heap.size wr (wr.alloc (.cells #[] 55)) := below1 _ _
            have OA : (wr.alloc (.cells #[] 55)).ownsRow wr.heap.size 55 3 (.slice (some ⟨wr.heap.size, 0, none⟩) 0 0) 0 [] := own_emp (heap_alloc_new wr _) (Nat.le_refl _)
            have DA : DoS (wr.alloc (.cells #[] 55)) a' b' o' t := (hd0.below hbel (Nat.le_refl _)).below bE (Nat.le_refl _)
            go_wp2_with (at_builtin; refine wpList_append_does rfl (.tmp 33) (.tmp 38) 58 rfl (some 39) rfl wr.heap.size 55 j0 Try.underlying58 hj hy0 hy1 hy2 wr.heap.size rfl OA (by simp) a' b' o' c' t rfl DA (by omega) ?_)
            intro v4 w4 ho4 hg4 _
            obtain ⟨a4, c4, rfl⟩ := own_slx ho4
            have b4 : Below wr.heap.size wr w4 := below_grown bE hg4 (fun j hj => by have : wr.heap.size = j := Option.some.inj hj; omega) bE.size
            clear hg4 OA DA bE
            go_wp2_with fail
            obtain ⟨wo, hwo⟩ : ∃ wo, wo = wr := ⟨_, rfl⟩
            subst hwo
            go_loopw [9] (fun s9 wi => ∃ k : Nat, s9 = .int .i64 k ∧ k ≤ t.length ∧ wi.ownsRow wo.heap.size 55 3 (.slice a4 t.length c4) t.length (flat (M.curT (M.valF gs) k t)) ∧ Below wo.heap.size wo wi) (fun s9 _ => t.length - (intOf s9).toNat)
            case atStart => exact ⟨0, rfl, Nat.zero_le _, by rw [M.curT_zero]; exact ho4, b4⟩
            case round =>
              obtain ⟨k, rfl, hk, ho, hbi⟩ := hrel
              have hbs := hbi.size
              have hbw2 : Below W2.heap.size W2 wr := hbel.trans (hbi.mono hbel.size)
              have xx1 := (hbw2.cell (p := ⟨w.heap.size, 0, none⟩) lX).trans hX1c
              by_cases hkt : k < t.length
              · have hkk : k < (M.curT (M.valF gs) k t).length := by rw [M.curT_len]; exact hkt
                have HG : ∃ g, a4 = some ⟨g, 0, none⟩ ∧ wo.heap.size ≤ g := by
                  rcases ho.2 with ⟨e, _⟩ | ⟨g, cap, cur, e, hg, _⟩
                  · simp only [Value.slice.injEq] at e; omega
                  · simp only [Value.slice.injEq] at e; exact ⟨g, e.1, hg⟩
                obtain ⟨g, rfl, hgg⟩ := HG
                have hfz := own_fzS ho
                have hat : DoAt wr g (k * 3) t[k] := by
                  have ho' := ho
                  rw [← M.curT_len (M.valF gs) k t] at ho'
                  obtain ⟨a5, g5, c5, e5, hd5, _⟩ := own_steps ho'
                  simp only [Value.slice.injEq] at e5
                  have e6 := hd5.addr (by omega)
                  rw [← e5.1] at e6
                  simp at e6
                  have := hd5.row k hkk
                  rw [← e6, Nat.zero_add, M.curT_get _ k t hkt] at this
                  exact this
                have HCH : Hid (∀ W', Chg wr W' g (k * 3) t[k] (M.valF gs t[k]) → W'.ownsRow wo.heap.size 55 3 (.slice (some ⟨g, 0, none⟩) t.length c4) t.length (flat (M.curT (M.valF gs) (k + 1) t)) ∧ wr.grownBy W' (some g)) := by
                  intro W' hch
                  have e := M.curT_get (M.valF gs) k t hkt hkk
                  have r := own_chg ho hkk (by rw [e]; exact hch)
                  rw [M.curT_set (M.valF gs) k t hkt] at r
                  exact r
                have hdo := HDo.out _ (List.getElem_mem hkt)
                have hgn := hgg
                generalize t[k] = d at *
                have j1 : (k : Int) < t.length := by omega
                obtain ⟨kk, pp, vv⟩ := d
                obtain ⟨ck, cp, cv'⟩ := hat
                have lg : g < wr.heap.size := World.block_lt_of_cell? _ _ ck
                have hgW : W2.heap.size ≤ g := by omega
                obtain ⟨r0, r1⟩ := M.prog_val HPq.out hdo
                obtain ⟨j, rfl⟩ : ∃ j : Nat, vv = j := ⟨vv.toNat, by simp only at r0; omega⟩
                have hj' : j < gs.length := by have := HL.out; simp only at r1; omega
                have e : M.valF gs ⟨kk, pp, j⟩ = ⟨kk, pp, gs[j]⟩ := by
                  unfold M.valF
                  congr 1
                  exact M.getD_get hj'
                have r := HCH.out (wr.setCell ⟨g, k * 3 + 2, none⟩ (.int .i64 gs[j])) ⟨0, Or.inr (Or.inr (Or.inr ⟨by rw [e]; rfl, by rw [e], by rw [e]⟩))⟩
                have cy := hG1.row j hj'
                obtain ⟨rfl⟩ := hG1.addr (by omega)
                clear e
                generalize gs[j] = y at *
                have jl : (j : Int) < gs.length := by omega
                have cyr := (hbw2.cell (p := ⟨gb, go + j, none⟩) (World.block_lt_of_cell? _ _ cy)).trans cy
                have hfz1 := hfz (k * 3 + 2)
                have r2 : Below wo.heap.size wo (wr.setCell ⟨g, k * 3 + 2, none⟩ (.int .i64 y)) := hbi.setCell hgg _
                have r1' := r.1
                clear HCH ho cy r r0 r1
                go_wp2_with fail
                exact ⟨⟨k + 1, by go_num, by omega, r1', r2⟩, by simp [intOf]; omega⟩
              · have htk : k = t.length := by omega
                rw [M.curT_all _ k t (by omega)] at ho
                have j1 : ¬ (k : Int) < t.length := by omega
                have hRi := hR.below hbi
                have hPi := hP.bl' hbi
                have hYi := hY.bl' hbi
                have hlap : ∀ i (hi : i < vs.length) k, vs[i].ownBlock = some k → (Value.slice a4 t.length c4).ownBlock ≠ some k := fun i hi j hj e => by
                  have h1 := (hR.b.inner i (by have := hR.b.len; omega) hi).lt j hj
                  have h2 := own_ge ho j e
                  omega
                have hol : wr.ownsRow wo.heap.size 55 3 (.slice a4 t.length c4) (t.map (M.valF gs)).length (flat (t.map (M.valF gs))) := by rw [List.length_map]; exact ho
                have hown' := ownsRow_mono hol (show W2.heap.size + 1 ≤ _ from by omega)
                have p0 := hPi.c
                have pf := hPi.fz
                have lPi := hPi.lt
                have hout := hRi.b.outer
                have hRE : Hid (Rdg wr (W2.heap.size + 1) (.slice av mm.length cv) mm vs) := hRi
                have hPE : Hid (Slot1 wr W2.heap.size (.slice av mm.length cv)) := hPi
                have hYE : Hid (Slot1 wr (w.heap.size + 1) (.slice none 0 0)) := hYi
                have hbW : Below W2.heap.size W2 wr := hbel.trans (hbi.mono hbel.size)
                generalize t.map (M.valF gs) = tt at *
                clear hol ho htk hR hP hY hPi hYi hRi xx0 hc
                go_wp2_with (at_builtin; refine wpList_append_lies _ rfl (.tmp 59) (.tmp 61) 23 rfl (W2.heap.size + 1) 58 i0 _ 1 24 Try.underlying23 hi hz0 hz1 hz2 rfl (by decide) _ _ vs rfl (hout.alloc _) ⟨wr.heap.size, 0, none⟩ 1 1 [.slice a4 t.length c4] rfl rfl (World.news_of_block (cs := #[.slice a4 t.length c4]) (t := 58) (fr := (0, 0)) (heap_alloc_new wr _)) (by simp [Value.oneCell']) (by omega) (by unfold maxLen; omega) (by omega) (by simp; omega) (wr.heap.size + 1) (by simp) ?_)
                intro g2 cap2 w3 hown3 hg3 hat hlt3
                have hge := own_ge hout
                have bA := below1 wr (.cells #[.slice a4 t.length c4] 58)
                have hP3 := (hPE.out.bl' bA).apart hg3 (fun e => by have := hge _ e; omega)
                have hY3 := (hYE.out.bl' bA).apart hg3 (fun e => by have := hge _ e; omega)
                have hR3 := (hRE.out.below bA).snocT (ownsRow_below hown' bA) hlap hown3 hg3
                have hb3 : Below W2.heap.size W2 w3 := below_grown (hbW.trans (bA.mono hbW.size)) hg3 (fun k hk => by have := hge k hk; omega) (by have := hbW.size; simp; omega)
                rw [← HW.out] at hR3
                clear hown3 hg3 hat hout hown' p0 pf
                have p0 := hP3.c
                have pf := hP3.fz
                go_wp2_with fail
                have hP4 := hP3.set (.slice (some ⟨g2, 0, none⟩) (mm.length + 1) cap2)
                exact ⟨⟨n + 1, _, _, by go_num, by omega, hR3.far (by omega) _, hP4, hY3.far (by omega) _, hb3.setCell (Nat.le_refl _) _⟩, by simp [intOf]; omega⟩
          · have htk : ll.take n = ll := List.take_of_length_le (by omega)
            rw [htk] at hR
            have hkn' : ¬ (n : Int) < ll.length := by omega
            have xx0 := (hbel.cell (p := ⟨w.heap.size, 0, none⟩) lX).trans hX1c
            obtain ⟨av, gv, cv, rfl, _⟩ := hR.b.ss
            generalize M.mapS (M.valF gs) ll = mm at *
            have p0 := hP.c
            have pf := hP.fz
            have q0 := hY.c
            have qf := hY.fz
            have lP := hP.lt
            have lQ := hY.lt
            have hne : w.heap.size + 1 ≠ W2.heap.size := by omega
            have hbw := bw1.trans (hbel.mono bw1.size)
            have hsz := bw1.size
            go_wp2_with fail
            have q1 := (hY.set (.slice av mm.length cv)).c
            exact bodyPost_ret (v := .tuple #[.agg #[.slice av mm.length cv], .bool true]) (by simp [results, Try.results24, go_sem, q1]) rfl ⟨_, by rw [HY1.out], ⟨vs, by rw [HY2.out]; exact (hR.far (by omega) _).mono (by omega)⟩, hbw.setCell (by show w.heap.size ≤ w.heap.size + 1; omega) _⟩

      · have hyz' : (y0' == 0) = false := by simpa using hyz
        have hno := M.turnVals_first (ll := ll) (row := gs) (by rw [HV0.out]; exact hyz')
        go_wp2_with (first | (go_at_call 13; refine CP.mono ?_; rintro e W1 ⟨rfl, b1⟩; have hX1 := hX.bl' b1; have x0 := hX1.c; have hG1 := hG2.below b1 (Nat.le_refl _); have hY1 := hY.bl' b1; have v1 := V0 _ b1; have y0 := hY1.c; have yf := hY1.fz; have ly := hY1.lt) | (go_at_call 49; refine (CO _ hG1).mono ?_; rintro e W2 ⟨rfl, rfl⟩))
        have bw1 := b2.trans (b1.mono b2.size)
        have q1 := (hY1.set (.slice none 0 0)).c
        exact bodyPost_ret (v := .tuple #[.agg #[.slice none 0 0], .bool false]) (by simp [results, Try.results24, go_sem, q1]) rfl ⟨_, by rw [hno]; rfl, ⟨[], by rw [hno]; exact Rdg.nil _ _⟩, bw1.setCell (by show w.heap.size ≤ w.heap.size + 1; omega) _⟩

end Go.Proofs.Ytdpoiabohkkbcaa

namespace Go.Proofs.Ytdpoiabohkkbcaa
open Go.RowKit

theorem ints3s (w : World) (x y z : Int) (t : TypeId) (N : Nat) (hN : N = w.heap.size) : IntS (w.alloc (.cells #[.int .i64 x, .int .i64 y, .int .i64 z] t)) (some ⟨N, 0, none⟩) N 0 [x, y, z] := by
  subst hN
  exact ⟨fun _ => rfl, fun i hi => by
    match i, hi with
    | 0, _ => simp
    | 1, _ => simp
    | 2, _ => simp⟩
theorem ints4s (w : World) (x y z u : Int) (t : TypeId) (N : Nat) (hN : N = w.heap.size) : IntS (w.alloc (.cells #[.int .i64 x, .int .i64 y, .int .i64 z, .int .i64 u] t)) (some ⟨N, 0, none⟩) N 0 [x, y, z, u] := by
  subst hN
  exact ⟨fun _ => rfl, fun i hi => by
    match i, hi with
    | 0, _ => simp
    | 1, _ => simp
    | 2, _ => simp
    | 3, _ => simp⟩
theorem M.same_threads {mm : List (List M.D)} (h : M.prog mm = true) : M.turnThreads mm (M.bel mm.length) = some mm := by
  rw [M.turnThreads_yes h (M.rowN_bel _), M.pick_bel]
theorem M.mapS_id {f : M.D → M.D} {ll : List (List M.D)} (h : ∀ t ∈ ll, ∀ d ∈ t, f d = d) : M.mapS f ll = ll := by
  unfold M.mapS
  conv => rhs; rw [← List.map_id ll]
  apply List.map_congr_left
  intro t ht
  simp only [id]
  conv => rhs; rw [← List.map_id t]
  apply List.map_congr_left
  intro d hd
  exact h t ht d hd
theorem M.same_places {mm : List (List M.D)} (h : M.prog mm = true) : M.turnPlaces mm [0, 1, 2] = some mm := by
  rw [M.turnPlaces_yes h (by decide), M.mapS_id]
  intro t ht d hd
  have := M.prog_dos h t ht d hd
  obtain ⟨k, p, v⟩ := d
  unfold M.placeF
  cases hu : M.uses k
  · simp
  · simp only [M.doOk, M.placeOk, hu, if_true, Bool.and_eq_true, decide_eq_true_eq] at this
    simp only [if_true]
    rcases M.three_of this.1.2 with rfl | rfl | rfl <;> rfl
theorem M.same_vals {mm : List (List M.D)} (h : M.prog mm = true) : M.turnVals mm [0, 1, 2, 3] = some mm := by
  rw [M.turnVals_yes h (by decide) (by decide), M.mapS_id]
  intro t ht d hd
  have := M.prog_dos h t ht d hd
  obtain ⟨k, p, v⟩ := d
  simp only [M.doOk, Bool.and_eq_true] at this
  have hv : 0 ≤ v ∧ v < 4 := by
    have h2 := this.2
    unfold M.valOk at h2
    split at h2
    · simp only [Bool.and_eq_true, decide_eq_true_eq] at h2; omega
    · simp only [beq_iff_eq] at h2; omega
  unfold M.valF
  rcases M.four_of hv with rfl | rfl | rfl | rfl <;> rfl

set_option maxHeartbeats 4000000 in
set_option maxRecDepth 100000 in
theorem lawSm_any (ca : Option Addr) (cb co L C : Nat) (x : Nat → Int) (w : World) (hL : L ≤ C) (had : 0 < L → ca = some ⟨cb, co, none⟩) (hc : ∀ i, i < L → w.cell? ⟨cb, co + i, none⟩ = some (.int .u8 (x i)) ∧ 0 ≤ x i ∧ x i ≤ 255) :
    Calls Try.prog 6 #[.slice ca L C] w fun e w' => e = .returned (.bool true) ∧ Below w.heap.size w w' := by
  obtain ⟨i0, hi, hz0, hz1, hz2⟩ := info_parts Try.infoInt
  by_cases hLb : L ≤ 1048576
  · go_enter Try.func6, Try.ntmps6
    go_wp2_with fail
    refine (DrawTurnVals_any ca cb co L C x _ hL had hc hLb).mono ?_
    rintro e w1 ⟨a, g, c, mm, ga, gg, gc, gs, rfl, hD⟩
    have hle : ∀ t ∈ mm, t.length ≤ 1048576 := fun t ht => by have := hD.sm.steps t ht; omega
    have hm3 := hD.sm.three
    have hml : mm.length ≤ 1048576 := by omega
    have hgl : gs.length ≤ 1048576 := by have := hD.gl; omega
    have bA := below1 w1 (.cells #[.slice a mm.length c] 25)
    have bwA := hD.bel.trans (bA.mono hD.bel.size)
    have sP := Slot1.new w1 (.slice a mm.length c) 25
    have ssP := hD.sn.ss.below bA (Nat.le_refl _)
    have giP := hD.gi.below bA (Nat.le_refl _)
    clear had hc hD bA
    have x0 := sP.c
    go_wp2_with fail
    generalize w1.alloc (.cells #[.slice a mm.length c] 25) = WA at *
    generalize w1.heap.size = P at *
    have CS := sturnVals_any a g 0 c mm hml hle ga gg 0 gc gs hgl
    have CI := iturnVals_any a g 0 c mm hml hle ga gg 0 gc gs hgl
    obtain ⟨qq, hq⟩ : ∃ qq, (M.turnVals mm gs).getD [] = qq := ⟨_, rfl⟩
    rw [hq] at CS CI
    obtain ⟨hq3, hq7⟩ := M.turnVals_small hq
    have hql : qq.length ≤ 1048576 := by omega
    have hqls : ∀ t ∈ qq, t.length ≤ 1048576 := fun t ht => by have := hq7 t ht; omega
    clear hq
    obtain ⟨ok, hok⟩ : ∃ ok, (M.turnVals mm gs).isSome = ok := ⟨_, rfl⟩
    rw [hok] at CS CI
    clear hok
    have LQ := fun A B C D E F W h1 h2 => lpProg_any A B 0 C D E 0 F qq qq W hql hql hqls h1 h2
    rw [M.eqLL_yes rfl] at LQ
    have CM := fun W h => sprog_any a g 0 c mm W hml hle h
    refine (CS WA ssP giP).mono ?_
    rintro e w2 ⟨v2, rfl, ⟨vs2, hR2⟩, b2⟩
    obtain ⟨av, gv, cv, rfl, hss2⟩ := hR2.b.ss
    have bW := below1 w2 (.cells #[.slice av qq.length cv] 25)
    have bAW := b2.trans (bW.mono b2.size)
    have sPW := sP.bl' bAW
    have sW := Slot1.new w2 (.slice av qq.length cv) 25
    have ssW := hss2.below bW (Nat.le_refl _)
    clear hR2 hss2 b2 bW x0
    have x0 := sPW.c
    go_wp2_with fail
    generalize w2.alloc (.cells #[.slice av qq.length cv] 25) = WB at *
    generalize w2.heap.size = PW at *
    refine (CI WB (ssP.below bAW (Nat.le_refl _)) (giP.below bAW (Nat.le_refl _))).mono ?_
    rintro e w3 ⟨v3, rfl, ⟨vs3, hR3⟩, b3⟩
    obtain ⟨ai, gi, ci, rfl, hss3⟩ := hR3.b.ss
    have bQ := below1 w3 (.cells #[.slice ai qq.length ci] 25)
    have bBQ := b3.trans (bQ.mono b3.size)
    have bAQ := bAW.trans (bBQ.mono bAW.size)
    have sPQ := sP.bl' bAQ
    have sQ := Slot1.new w3 (.slice ai qq.length ci) 25
    have ssQ := hss3.below bQ (Nat.le_refl _)
    have sWQ := sW.bl' bBQ
    have ssWQ := ssW.below bBQ (Nat.le_refl _)
    clear hR3 hss3 b3 bQ x0 sPW sW ssW
    have x1 := sQ.c
    have x2 := sWQ.c
    go_wp2_with fail
    generalize w3.alloc (.cells #[.slice ai qq.length ci] 25) = WC at *
    generalize w3.heap.size = PQ at *
    have LC := LQ ai gi ci av gv cv _ ssQ ssWQ
    have ssPC := ssP.below bAQ (Nat.le_refl _)
    have hnn : (ok != ok) = false := by simp
    cases hp : M.prog mm
    · rw [hp] at CM
      go_wp2_with (first | (go_at_call 11; refine LC.mono ?_; rintro e w4 ⟨rfl, b4⟩; have y0 := (sPQ.bl' b4).c; have s4 := ssPC.below b4 (Nat.le_refl _)))
      refine (CM w4 s4).mono ?_
      rintro e w5 ⟨rfl, b5⟩
      have b45 := b4.trans (b5.mono b4.size)
      have z1 := (sQ.bl' b45).c
      have z2 := (sWQ.bl' b45).c
      have bA5 := bAQ.trans (b45.mono bAQ.size)
      clear x1 x2 y0
      have L5 := LQ ai gi ci av gv cv w5 (ssQ.below b45 (Nat.le_refl _)) (ssWQ.below b45 (Nat.le_refl _))
      go_wp2_with (first | (go_at_call 11; refine L5.mono ?_; rintro e w6 ⟨rfl, b6⟩))
      go_ret
      exact ⟨rfl, bwA.trans ((bA5.trans (b6.mono bA5.size)).mono bwA.size)⟩
    · rw [hp] at CM
      have HT : Hid (M.turnThreads mm (M.bel mm.length) = some mm) := M.same_threads hp
      have HP : Hid (M.turnPlaces mm [0, 1, 2] = some mm) := M.same_places hp
      have HV : Hid (M.turnVals mm [0, 1, 2, 3] = some mm) := M.same_vals hp
      have LM := fun A B C W h1 h2 => lpProg_any A B 0 C a g 0 c mm mm W hml hml hle h1 h2
      rw [M.eqLL_yes rfl] at LM
      clear hp CS CI
      go_wp2_with (first | (go_at_call 11; refine LC.mono ?_; rintro e w4 ⟨rfl, b4⟩; have y0 := (sPQ.bl' b4).c; have s4 := ssPC.below b4 (Nat.le_refl _)))
      refine (CM w4 s4).mono ?_
      rintro e WD ⟨rfl, b5⟩
      have b45 := b4.trans (b5.mono b4.size)
      have bAD := bAQ.trans (b45.mono bAQ.size)
      have sPD := sPQ.bl' b45
      have ssPD := ssPC.below b45 (Nat.le_refl _)
      have bwD := bwA.trans (bAD.mono bwA.size)
      have lPD := sPD.lt
      clear x1 x2 y0 s4 b4 b5 b45 bAD bwA bAQ bBQ bAW sPQ sP ssP ssPC sQ ssQ sWQ ssWQ giP LC LQ CM
      have hE := World.ownsRow_made (base := WD.heap.size) (e := 3) (size := 1) WD #[] 0 (Nat.le_refl _) (Nat.zero_le _) rfl
      go_wp2_with fail
      go_loopw [9, 10] (fun s9 s10 wr => ∃ n : Nat, s10 = .int .i64 n ∧ n ≤ mm.length ∧ wr.ownsRow WD.heap.size 3 1 s9 (M.bel n).length (nums (M.bel n)) ∧ Below WD.heap.size WD wr) (fun _ s10 _ => mm.length - (intOf s10).toNat)
      case atStart => exact ⟨0, rfl, Nat.zero_le _, hE, below1 _ _⟩
      case round =>
        obtain ⟨n, rfl, hn, hown, hbel⟩ := hrel
        clear hE
        have hbs := hbel.size
        have y0 := (sPD.bl' hbel).c
        by_cases hlt : n < mm.length
        · have i1 : (n : Int) < mm.length := by omega
          have HB : Hid (M.bel (n + 1) = M.bel n ++ [(n : Int)]) := M.bel_succ n
          have hbl := M.bel_len n
          generalize M.bel n = l at *
          have hl : l.length ≤ 1000 := by omega
          clear hbl
          go_wp2_with (at_builtin; refine wpList_append_own _ rfl (.tmp 67) (.tmp 69) 32 rfl _ 3 i0 _ 1 8 Try.underlying32 hi hz0 hz1 hz2 rfl (by decide) _ _ _ rfl (hown.alloc _) ⟨wr.heap.size, 0, none⟩ 1 1 [.int .i64 n] rfl rfl (cells_new1 _ _ _ _ (by simp)) (one1 _) (by unfold maxLen; omega) (by omega) (by simp; omega) ?_)
          intro v3 w3 hown3 hg3 _
          have hb3 : Below _ _ w3 := below_grown (hbel.trans ((below1 wr _).mono hbel.size)) hg3 (own_ge hown) (by simp; omega)
          have hown4 : w3.ownsRow WD.heap.size 3 1 v3 (M.bel (n + 1)).length (nums (M.bel (n + 1))) := by rw [HB.out, nums_snoc, List.length_append]; exact hown3
          clear hown3 hg3 hown
          go_wp2_with fail
          exact ⟨⟨n + 1, by go_num, by omega, hown4, hb3⟩, by simp [intOf]; omega⟩
        · have i1 : ¬ (n : Int) < mm.length := by omega
          obtain rfl : n = mm.length := by omega
          obtain ⟨ra, rg, rc, rfl, hIr, _, _⟩ := own_nums hown
          have CT := iturnThreads_any a g 0 c mm hml hle ra rg 0 rc (M.bel mm.length) (by rw [M.bel_len]; omega) wr (ssPD.below hbel (Nat.le_refl _)) hIr
          rw [HT.out] at CT
          have ebl : Hid ((M.bel mm.length).length = mm.length) := M.bel_len _
          generalize (M.bel mm.length).length = bl at *
          have sPr := sPD.bl' hbel
          have ssPr := ssPD.below hbel (Nat.le_refl _)
          have bwr := bwD.trans (hbel.mono bwD.size)
          clear hown hIr HT sPD ssPD bwD hbel
          go_wp2_with fail
          refine CT.mono ?_
          rintro e w4 ⟨v4, rfl, ⟨vs4, hR4⟩, b4⟩
          obtain ⟨a4, g4, c4, rfl, hss4⟩ := Rdg.b (show Rdg w4 wr.heap.size v4 mm vs4 from hR4) |>.ss
          have e4 : (some mm).isSome = true := rfl
          have bX := below1 w4 (.cells #[.slice a4 mm.length c4] 25)
          have brX := b4.trans (bX.mono b4.size)
          have sPX := sPr.bl' brX
          have ssPX := ssPr.below brX (Nat.le_refl _)
          have sX := Slot1.new w4 (.slice a4 mm.length c4) 25
          have ssX := hss4.below bX (Nat.le_refl _)
          have bwX := bwr.trans (brX.mono bwr.size)
          have HWX : Hid ((w4.alloc (.cells #[.slice a4 mm.length c4] 25)).heap.size = w4.heap.size + 1) := by show _ = _; simp
          clear hR4 hss4 b4 bX brX y0 sPr ssPr bwr
          have y0 := sPX.c
          have lPX := sPX.lt
          go_wp2_with fail
          generalize w4.alloc (.cells #[.slice a4 mm.length c4] 25) = WX at *
          generalize w4.heap.size = PX at *
          have bL := below1 WX (.cells #[.int .i64 0, .int .i64 1, .int .i64 2] 3)
          have C2 := iturnPlaces_any a g 0 c mm hml hle (some ⟨PX + 1, 0, none⟩) (PX + 1) 0 3 [0, 1, 2] (by simp) _ (ssPX.below bL (Nat.le_refl _)) (ints3s WX 0 1 2 3 (PX + 1) HWX.out.symm)
          rw [HP.out] at C2
          refine C2.mono ?_
          rintro e w5 ⟨v5, rfl, ⟨vs5, hR5⟩, b5⟩
          obtain ⟨a5, g5, c5, rfl, hss5⟩ := Rdg.b (show Rdg w5 _ v5 mm vs5 from hR5) |>.ss
          have bY := below1 w5 (.cells #[.slice a5 mm.length c5] 25)
          have bXL := bL.trans (b5.mono bL.size)
          have bXY := bXL.trans (bY.mono bXL.size)
          have sPY := sPX.bl' bXY
          have ssPY := ssPX.below bXY (Nat.le_refl _)
          have sXY := sX.bl' bXY
          have ssXY := ssX.below bXY (Nat.le_refl _)
          have sY := Slot1.new w5 (.slice a5 mm.length c5) 25
          have ssY := hss5.below bY (Nat.le_refl _)
          have bwY := bwX.trans (bXY.mono bwX.size)
          have HWY : Hid ((w5.alloc (.cells #[.slice a5 mm.length c5] 25)).heap.size = w5.heap.size + 1) := by show _ = _; simp
          clear hR5 hss5 b5 bY bXL bXY y0 sPX ssPX sX ssX bwX bL C2
          have y0 := sPY.c
          have lPY := sPY.lt
          go_wp2_with fail
          generalize w5.alloc (.cells #[.slice a5 mm.length c5] 25) = WY at *
          generalize w5.heap.size = PY at *
          have bL := below1 WY (.cells #[.int .i64 0, .int .i64 1, .int .i64 2, .int .i64 3] 3)
          have C3 := iturnVals_any a g 0 c mm hml hle (some ⟨PY + 1, 0, none⟩) (PY + 1) 0 4 [0, 1, 2, 3] (by simp) _ (ssPY.below bL (Nat.le_refl _)) (ints4s WY 0 1 2 3 3 (PY + 1) HWY.out.symm)
          rw [HV.out] at C3
          refine C3.mono ?_
          rintro e w6 ⟨v6, rfl, ⟨vs6, hR6⟩, b6⟩
          obtain ⟨a6, g6, c6, rfl, hss6⟩ := Rdg.b (show Rdg w6 _ v6 mm vs6 from hR6) |>.ss
          have bZ := below1 w6 (.cells #[.slice a6 mm.length c6] 25)
          have bYL := bL.trans (b6.mono bL.size)
          have bYZ := bYL.trans (bZ.mono bYL.size)
          have sPZ := sPY.bl' bYZ
          have ssPZ := ssPY.below bYZ (Nat.le_refl _)
          have sXZ := sXY.bl' bYZ
          have ssXZ := ssXY.below bYZ (Nat.le_refl _)
          have sYZ := sY.bl' bYZ
          have ssYZ := ssY.below bYZ (Nat.le_refl _)
          have sZ := Slot1.new w6 (.slice a6 mm.length c6) 25
          have ssZ := hss6.below bZ (Nat.le_refl _)
          have bwZ := bwY.trans (bYZ.mono bwY.size)
          clear hR6 hss6 b6 bZ bYL bYZ y0 sPY ssPY sXY ssXY sY ssY bwY bL C3 HWY HWX
          have y0 := sPZ.c
          have y1 := sXZ.c
          have L1 := LM a4 g4 c4 _ ssXZ ssPZ
          go_wp2_with (first | (go_at_call_of 11 (Value.agg #[.slice a4 mm.length c4]); refine L1.mono ?_; rintro e w7 ⟨rfl, b7⟩; have z0 := (sPZ.bl' b7).c; have z1 := (sYZ.bl' b7).c) | (go_at_call_of 11 (Value.agg #[.slice a5 mm.length c5]); refine (LM a5 g5 c5 w7 (ssYZ.below b7 (Nat.le_refl _)) (ssPZ.below b7 (Nat.le_refl _))).mono ?_; rintro e w8 ⟨rfl, b8⟩; have b78 := b7.trans (b8.mono b7.size); have t0 := (sPZ.bl' b78).c; have t1 := (sZ.bl' b78).c) | (go_at_call_of 11 (Value.agg #[.slice a6 mm.length c6]); refine (LM a6 g6 c6 w8 (ssZ.below b78 (Nat.le_refl _)) (ssPZ.below b78 (Nat.le_refl _))).mono ?_; rintro e w9 ⟨rfl, b9⟩))
          go_ret
          exact ⟨rfl, bwZ.trans ((b78.trans (b9.mono b78.size)).mono bwZ.size)⟩
  · go_enter Try.func6, Try.ntmps6
    go_wp2_with fail
    go_ret
    exact ⟨rfl, Below.refl _ _⟩

end Go.Proofs.Ytdpoiabohkkbcaa
