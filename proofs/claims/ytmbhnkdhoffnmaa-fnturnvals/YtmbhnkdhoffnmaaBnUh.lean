/- spec.l22Row: whether numbers are a row. Of at most 1000, rows of at most 1048576 numbers. append of steps onto an empty row that was made: in plain regions, and in those that draw their order. No condition. spec.TurnVals. Of at most 1048576 threads, steps of a thread and numbers. The law FnTurnVals, walked: it answers true, and leaves all as it was. Of whatever code. -/
import Derived.Test.YtmbhnkdhoffnmaaBnUf
import Derived.Deep.RegionLaw
import Derived.Maps.AppendAt
import Derived.Test.YtmbhnkdhoffnmaaBnUg
import Derived.Test.YtmbhnkdhoffnmaaSProg
import Derived.Test.YtmbhnkdhoffnmaaLpPg
import Derived.Test.YtmbhnkdhoffnmaaReads
import Derived.Test.YtmbhnkdhoffnmaaQuietB
import Derived.BigQuiet

namespace Go.Proofs.Ytmbhnkdhoffnmaa
open Go.RowKit

set_option maxHeartbeats 400000 in
theorem l22Row_any (a : Option Addr) (b o c : Nat) (row : List Int) (m : Nat) (w : World) (hl : row.length ≤ 1048576) (hm : m ≤ 1000) (h : IntS w a b o row) :
    Calls Try.prog 34 #[.slice a row.length c, .int .i64 m] w fun e w' => e = .returned (.bool (M.rowN row m)) ∧ w' = w := by
  by_cases hln : row.length = m
  · have HF : Hid (M.rowN row m = (M.bel m).all (fun v => M.has row v)) := M.rowOf_same (by rw [M.bel_len]; exact hln)
    have hq : ((row.length : Int) != m) = false := by simp; omega
    have HL : Hid (row.length = m) := hln
    clear hln
    go_enter Try.func34, Try.ntmps34
    go_wp2_with fail
    go_loopw [5] (fun s5 wr => ∃ n : Nat, s5 = .int .i64 n ∧ n ≤ m ∧ Hid ((M.bel m).all (fun v => M.has row v) = ((M.bel m).drop n).all (fun v => M.has row v)) ∧ wr = w) (fun s5 _ => m - (intOf s5).toNat)
    case atStart => exact ⟨0, rfl, Nat.zero_le _, by show _ = _; rfl, rfl⟩
    case round =>
      obtain ⟨n, rfl, hn, HA, rfl⟩ := hrel
      by_cases hlt : n < m
      · have hlt2 : n < (M.bel m).length := by rw [M.bel_len]; exact hlt
        have HS : Hid ((M.bel m).all (fun v => M.has row v) = (M.has row (n : Int) && ((M.bel m).drop (n + 1)).all (fun v => M.has row v))) := by
          have := M.rowAll_step HA.out hlt2
          rw [M.bel_get] at this
          exact this
        clear HA hlt2
        have i1 : (n : Int) < m := by omega
        cases hh : M.has row (n : Int)
        · go_wp2_with (go_at_call 47; refine (l12Has_any a b o c row n _ hl h).mono ?_; rw [hh]; rintro e w' ⟨rfl, rfl⟩)
          go_ret
          exact ⟨ret_bool (by rw [HF.out, HS.out, hh]; rfl), rfl⟩
        · go_wp2_with (go_at_call 47; refine (l12Has_any a b o c row n _ hl h).mono ?_; rw [hh]; rintro e w' ⟨rfl, rfl⟩)
          exact ⟨⟨n + 1, by go_num, by omega, by show _ = _; rw [HS.out, hh]; rfl, trivial⟩, by simp [intOf]; omega⟩
      · have i1 : ¬ (n : Int) < m := by omega
        go_wp2_with fail
        go_ret
        exact ⟨ret_bool (by rw [HF.out, HA.out, List.drop_eq_nil_of_le (by rw [M.bel_len]; omega)]; rfl), rfl⟩
  · have hln' : ((row.length : Int) == m) = false := by simp; omega
    go_enter Try.func34, Try.ntmps34
    go_wp2_with fail
    go_ret
    exact ⟨ret_bool (M.rowOf_short (by rw [M.bel_len]; exact hln)).symm, rfl⟩

end Go.Proofs.Ytmbhnkdhoffnmaa

namespace Go.Proofs.Ytmbhnkdhoffnmaa
open Go.RowKit

theorem run_append_emp0 {P : Program} (w : World) (t ty e : TypeId) (i : TypeInfo) (ht : P.underlying t = some (.slice e)) (hi : P.info? e = some i) (ad : Addr) (a : Option Addr) (c : Nat) :
    (Builtin.append_ #[t, t] ty #[.slice (some ad) 0 0, .slice a 0 c]).run P w = .ok (.slice (some ad) 0 0) w := by
  cases a
  · simp [Builtin.append_, run_underlying ht, sizeOf, typeInfo, hi, Builtin.lenOf, Builtin.firstCells, storeCells]
  · simp [Builtin.append_, run_underlying ht, sizeOf, typeInfo, hi, Builtin.lenOf, Builtin.firstCells, loadCells, loadCellsFrom, storeCells]
theorem grow_refl (w : World) (row : Option Nat) : w.grownBy w row := ⟨rfl, rfl, rfl, Nat.le_refl _, fun _ _ _ => rfl⟩
theorem own_emp {X : World} {base g size : Nat} {e : TypeId} (h : X.heap[g]? = some (.cells #[] e (0, 0))) (hb : base ≤ g) : X.ownsRow base e size (.slice (some ⟨g, 0, none⟩) 0 0) 0 [] :=
  ⟨by simp, .inr ⟨g, 0, #[], rfl, hb, h, Nat.le_refl _, Nat.zero_le _, by simp, by simp⟩⟩

theorem wp_append_does {P : Program} {o : Oper} {a : Act} {w : World} {K : Act → World → Prop} {Q : Exit → Act → World → Prop} (s x : Operand) (t : TypeId)
    (ho : o.op = .call { callee := .builtin .append, args := #[s, x], argTypes := #[t, t] }) (d : Option Tmp) (hd : o.dst = d) (base : Nat) (e : TypeId) (i : TypeInfo) (ht : P.underlying t = some (.slice e)) (hi : P.info? e = some i) (hz0 : i.zero = some (.agg #[.int .i64 0, .int .i64 0, .int .i64 0])) (hz1 : i.size = 3) (hz2 : i.bytes = 24)
    (g : Nat) (hs : a.eval s = .slice (some ⟨g, 0, none⟩) 0 0) (hown : w.ownsRow base e 3 (.slice (some ⟨g, 0, none⟩) 0 0) 0 []) (hbase : base ≤ w.heap.size) (sa : Option Addr) (b off c : Nat) (l : List M.D) (hx : a.eval x = .slice sa l.length c) (hI : DoS w sa b off l) (hl : l.length ≤ 1048576)
    (h : ∀ v' w', w'.ownsRow base e 3 v' l.length (flat l) → w.grownBy w' (some g) → (v'.ownBlock = some g ∨ v'.ownBlock = some w.heap.size) → K (a.put d v') w') :
    Oper.wp P o a w K Q := by
  subst hd
  cases sa with
  | none =>
    have hl0 : l = [] := by
      rcases Nat.eq_zero_or_pos l.length with h0 | h0
      · exact List.length_eq_zero_iff.1 h0
      · cases hI.addr h0
    subst hl0
    rw [List.length_nil] at hx
    have hrun := run_append_emp0 (P := P) w t o.type e i ht hi ⟨g, 0, none⟩ none c
    have hk := h (.slice (some ⟨g, 0, none⟩) 0 0) w hown (grow_refl _ _) (.inl rfl)
    unfold Oper.wp
    simp [execOp, ho, resolve, invoke, builtin, hs, hx, hrun, Result.andThen]
    exact hk
  | some ad =>
    have hn : ∀ j u, (flat l)[j]? = some u → w.cell? (ad.add j) = some u := fun j u hj => by
      have hjl := (List.getElem?_eq_some_iff.1 hj).1
      rw [flat_length] at hjl
      obtain ⟨rfl⟩ := hI.addr (by omega)
      exact DoS.flat_cells hI.row j u hj
    obtain ⟨v', w', hrun, h2, h3, _, h5⟩ := run_append_own_at (P := P) w base t o.type e i (.agg #[.int .i64 0, .int .i64 0, .int .i64 0]) 3 24 ht hi hz0 hz1 hz2 rfl (by decide) (.slice (some ⟨g, 0, none⟩) 0 0) 0 [] hown ad l.length c (flat l) (flat_length l) hn (flat_one' l) (by unfold maxLen; omega) (by omega) hbase
    have hk := h v' w' (by simpa using h2) h3 h5
    unfold Oper.wp
    simp [execOp, ho, resolve, invoke, builtin, hs, hx, hrun, Result.andThen]
    exact hk
theorem step_append_does {P : Program} {ops : Array Oper} {o : Oper} {a : Act} {w : World} {K : Act → World → Prop} {Q : Exit → Act → World → Prop} {E : Prop} (hgd : o.guard = none) (s x : Operand) (t : TypeId)
    (ho : o.op = .call { callee := .builtin .append, args := #[s, x], argTypes := #[t, t] }) (d : Option Tmp) (hd : o.dst = d) (base : Nat) (e : TypeId) (i : TypeInfo) (ht : P.underlying t = some (.slice e)) (hi : P.info? e = some i) (hz0 : i.zero = some (.agg #[.int .i64 0, .int .i64 0, .int .i64 0])) (hz1 : i.size = 3) (hz2 : i.bytes = 24)
    (g : Nat) (hs : a.eval s = .slice (some ⟨g, 0, none⟩) 0 0) (hown : w.ownsRow base e 3 (.slice (some ⟨g, 0, none⟩) 0 0) 0 []) (hbase : base ≤ w.heap.size) (sa : Option Addr) (b off c : Nat) (l : List M.D) (hx : a.eval x = .slice sa l.length c) (hI : DoS w sa b off l) (hl : l.length ≤ 1048576)
    (h : ∀ v' w', w'.ownsRow base e 3 v' l.length (flat l) → w.grownBy w' (some g) → (v'.ownBlock = some g ∨ v'.ownBlock = some w.heap.size) → K (a.put d v') w') :
    if Region.wanted o (yielded ops a.tmps) = true then Oper.wp P o a w K Q else E := by
  have hw : Region.wanted o (yielded ops a.tmps) = true := by simp [Region.wanted, hgd]
  rw [if_pos hw]
  exact wp_append_does s x t ho d hd base e i ht hi hz0 hz1 hz2 g hs hown hbase sa b off c l hx hI hl h
theorem wpList_append_does {P : Program} {ops : Array Oper} {rest : List Oper} {o : Oper} {a : Act} {w : World} {Q : Exit → Act → World → Prop} (hgd : o.guard = none) (s x : Operand) (t : TypeId)
    (ho : o.op = .call { callee := .builtin .append, args := #[s, x], argTypes := #[t, t] }) (d : Option Tmp) (hd : o.dst = d) (base : Nat) (e : TypeId) (i : TypeInfo) (ht : P.underlying t = some (.slice e)) (hi : P.info? e = some i) (hz0 : i.zero = some (.agg #[.int .i64 0, .int .i64 0, .int .i64 0])) (hz1 : i.size = 3) (hz2 : i.bytes = 24)
    (g : Nat) (hs : a.eval s = .slice (some ⟨g, 0, none⟩) 0 0) (hown : w.ownsRow base e 3 (.slice (some ⟨g, 0, none⟩) 0 0) 0 []) (hbase : base ≤ w.heap.size) (sa : Option Addr) (b off c : Nat) (l : List M.D) (hx : a.eval x = .slice sa l.length c) (hI : DoS w sa b off l) (hl : l.length ≤ 1048576)
    (h : ∀ v' w', w'.ownsRow base e 3 v' l.length (flat l) → w.grownBy w' (some g) → (v'.ownBlock = some g ∨ v'.ownBlock = some w.heap.size) → wpList P ops Q rest (a.put d v') w') :
    wpList P ops Q (o :: rest) a w :=
  wpList_plain hgd fun _ hK => wp_append_does s x t ho d hd base e i ht hi hz0 hz1 hz2 g hs hown hbase sa b off c l hx hI hl fun v' w' h1 h2 h3 => by
    subst hd
    exact hK _ _ (h v' w' h1 h2 h3)

end Go.Proofs.Ytmbhnkdhoffnmaa

namespace Go.Proofs.Ytmbhnkdhoffnmaa
open Go.RowKit

set_option maxHeartbeats 4000000 in
set_option maxRecDepth 100000 in
set_option linter.unusedSimpArgs false in
theorem sturnVals_any (a : Option Addr) (b o c : Nat) (ll : List (List M.D)) (hl : ll.length ≤ 1048576) (hls : ∀ t ∈ ll, t.length ≤ 1048576) (ga : Option Addr) (gb go gc : Nat) (gs : List Int) (hgl : gs.length ≤ 1048576) (w : World) (h : DoSS w a b o ll) (hG : IntS w ga gb go gs) :
    Calls Try.prog 19 #[.agg #[.slice a ll.length c], .slice ga gs.length gc] w fun e w' => ∃ v, e = .returned (.tuple #[.agg #[v], .bool (M.turnVals ll gs).isSome]) ∧ (∃ vs, Rdg w' w.heap.size v ((M.turnVals ll gs).getD []) vs) ∧ Below w.heap.size w w' := by
  obtain ⟨i0, hi, hz0, hz1, hz2⟩ := info_parts Try.info50
  obtain ⟨j0, hj, hy0, hy1, hy2⟩ := info_parts Try.info56
  have b2 := below2 w (.cells #[.slice a ll.length c] 25) (.cells #[.slice none 0 0] 25)
  have h2 := h.below b2 (Nat.le_refl _)
  have hG2 := hG.below b2 (Nat.le_refl _)
  have hX := (Slot1.new w (.slice a ll.length c) 25).bl' (below1 _ (.cells #[.slice none 0 0] 25))
  have hY := Slot1.new (w.alloc (.cells #[.slice a ll.length c] 25)) (.slice none 0 0) 25
  rw [World.size_alloc] at hY
  go_enter Try.func19, Try.ntmps19
  cases hp : M.prog ll
  · have hno := M.turnVals_bad (row := gs) hp
    have CP := sprog_any a b o c ll _ hl hls h2
    rw [hp] at CP
    go_wp2_with (first | (go_at_call 33; refine CP.mono ?_; rintro e W1 ⟨rfl, b1⟩; have hY1 := hY.bl' b1; have y0 := hY1.c; have yf := hY1.fz; have ly := hY1.lt))
    have bw1 := b2.trans (b1.mono b2.size)
    have q1 := (hY1.set (.slice none 0 0)).c
    exact bodyPost_ret (v := .tuple #[.agg #[.slice none 0 0], .bool false]) (by simp [results, Try.results19, go_sem, q1]) rfl ⟨_, by rw [hno]; rfl, ⟨[], by rw [hno]; exact Rdg.nil _ _⟩, bw1.setCell (by show w.heap.size ≤ w.heap.size + 1; omega) _⟩
  · obtain ⟨h3, h7⟩ := M.prog_le hp
    have CP := sprog_any a b o c ll _ hl hls h2
    rw [hp] at CP
    have CO := fun W hW => l22Row_any ga gb go gc gs 4 W hgl (by omega) hW
    cases hok : M.rowN gs 4
    · have hno := M.turnVals_row (ll := ll) hok
      rw [hok] at CO
      go_wp2_with (first | (go_at_call 33; refine CP.mono ?_; rintro e W1 ⟨rfl, b1⟩; have hX1 := hX.bl' b1; have x0 := hX1.c; have hG1 := hG2.below b1 (Nat.le_refl _); have hY1 := hY.bl' b1; have y0 := hY1.c; have yf := hY1.fz; have ly := hY1.lt) | (go_at_call 34; refine (CO _ hG1).mono ?_; rintro e W2 ⟨rfl, rfl⟩))
      have bw1 := b2.trans (b1.mono b2.size)
      have q1 := (hY1.set (.slice none 0 0)).c
      exact bodyPost_ret (v := .tuple #[.agg #[.slice none 0 0], .bool false]) (by simp [results, Try.results19, go_sem, q1]) rfl ⟨_, by rw [hno]; rfl, ⟨[], by rw [hno]; exact Rdg.nil _ _⟩, bw1.setCell (by show w.heap.size ≤ w.heap.size + 1; omega) _⟩
    · rw [hok] at CO
      have hpos : 0 < gs.length := by rw [M.rowN_len hok]; omega
      obtain ⟨rfl⟩ := hG.addr hpos
      obtain ⟨y0', hyy⟩ : ∃ y, gs[0] = y := ⟨_, rfl⟩
      have HV0 : Hid (gs.getD 0 0 = y0') := (M.getD_get hpos).trans hyy
      have V0 : ∀ W', Below ((w.alloc (.cells #[.slice a ll.length c] 25)).alloc (.cells #[.slice none 0 0] 25)).heap.size ((w.alloc (.cells #[.slice a ll.length c] 25)).alloc (.cells #[.slice none 0 0] 25)) W' → W'.cell? ⟨gb, go, none⟩ = some (.int .i64 y0') := fun W' hb => by
        have := (hG2.below hb (Nat.le_refl _)).row 0 hpos
        rw [hyy] at this
        simpa using this
      have hp0 : (0 : Int) < gs.length := by omega
      clear hyy
      by_cases hyz : y0' = 0
      · subst hyz
        have hyes := M.turnVals_yes hp hok (by rw [HV0.out]; rfl)
        have HY1 : Hid ((M.turnVals ll gs).isSome = true) := by show _ = _; rw [hyes]; rfl
        have HY2 : Hid ((M.turnVals ll gs).getD [] = M.mapS (M.valF gs) ll) := by show _ = _; rw [hyes]; rfl
        have HR : Hid (M.rowN gs 4 = true) := hok
        have HL : Hid (gs.length = 4) := M.rowN_len hok
        have HPq : Hid (M.prog ll = true) := hp
        clear hyes hok hp
        go_wp2_with (first | (go_at_call 33; refine CP.mono ?_; rintro e W1 ⟨rfl, b1⟩; have hX1 := hX.bl' b1; have x0 := hX1.c; have hG1 := hG2.below b1 (Nat.le_refl _); have hY1 := hY.bl' b1; have v1 := V0 _ b1) | (go_at_call 34; refine (CO _ hG1).mono ?_; rintro e W2 ⟨rfl, rfl⟩))
        have bw1 := b2.trans (b1.mono b2.size)
        have bA := below1 W2 (.cells #[.slice none 0 0] 25)
        have hXA := hX1.bl' bA
        have hYA := hY1.bl' bA
        have hZA := Slot1.new W2 (.slice none 0 0) 25
        have lX := hX1.lt
        have lY := hY1.lt
        have hD := h.below bw1 (Nat.le_refl _)
        generalize W2.alloc (.cells #[.slice none 0 0] 25) = WA at *
        have hX1c := hX1.c
        clear v1 V0 CP CO x0 hX hY h2 hG2 b2 b1 hX1
        go_loopw [7] (fun s7 wr => ∃ (n : Nat) (v : Value) (vs : List Value), s7 = .int .i64 n ∧ n ≤ ll.length ∧ Rdg wr (W2.heap.size + 1) v (M.mapS (M.valF gs) (ll.take n)) vs ∧ Slot1 wr W2.heap.size v ∧ Slot1 wr (w.heap.size + 1) (.slice none 0 0) ∧ Below W2.heap.size W2 wr) (fun s7 _ => ll.length - (intOf s7).toNat)
        case atStart => exact ⟨0, .slice none 0 0, [], rfl, Nat.zero_le _, by simpa [M.mapS] using Rdg.nil _ _, hZA, hYA, bA⟩
        case round =>
          obtain ⟨n, v, vs, rfl, hn, hR, hP, hY, hbel⟩ := hrel
          clear hZA hXA hYA bA
          by_cases hlt : n < ll.length
          · obtain ⟨rfl⟩ := h.addr (by omega)
            obtain ⟨a', b', o', c', hc0, hd0⟩ := hD.row n hlt
            have hc := (hbel.cell (p := ⟨b, o + n, none⟩) (World.block_lt_of_cell? _ _ hc0)).trans hc0
            have xx0 := (hbel.cell (p := ⟨w.heap.size, 0, none⟩) lX).trans hX1c
            have HW : Hid (M.mapS (M.valF gs) (ll.take (n + 1)) = M.mapS (M.valF gs) (ll.take n) ++ [ll[n].map (M.valF gs)]) := M.mapS_take _ ll n hlt
            have hmm : (M.mapS (M.valF gs) (ll.take n)).length ≤ 3 := by rw [M.mapS_len]; simp; omega
            have ht7 := h7 _ (List.getElem_mem hlt)
            have HDo : Hid (∀ d ∈ ll[n], ∃ t ∈ ll, d ∈ t) := fun d hd => ⟨_, List.getElem_mem hlt, hd⟩
            generalize ll[n] = t at *
            generalize M.mapS (M.valF gs) (ll.take n) = mm at *
            have i1 : (n : Int) < ll.length := by omega
            obtain ⟨av, gv, cv, rfl, _⟩ := hR.b.ss
            have lP := hP.lt
            have lXr := Nat.lt_trans lX lP
            have lcr : b < wr.heap.size := World.block_lt_of_cell? _ _ hc
            have bE : Below wr.heap.size wr (wr.alloc (.cells #[] 56)) := below1 _ _
            have OA : (wr.alloc (.cells #[] 56)).ownsRow wr.heap.size 56 3 (.slice (some ⟨wr.heap.size, 0, none⟩) 0 0) 0 [] := own_emp (heap_alloc_new wr _) (Nat.le_refl _)
            have DA : DoS (wr.alloc (.cells #[] 56)) a' b' o' t := (hd0.below hbel (Nat.le_refl _)).below bE (Nat.le_refl _)
            go_wp2_with (at_builtin; refine wpList_append_does rfl (.tmp 33) (.tmp 38) 50 rfl (some 39) rfl wr.heap.size 56 j0 Try.underlying50 hj hy0 hy1 hy2 wr.heap.size rfl OA (by simp) a' b' o' c' t rfl DA (by omega) ?_)
            intro v4 w4 ho4 hg4 _
            obtain ⟨a4, c4, rfl⟩ := own_slx ho4
            have b4 : Below wr.heap.size wr w4 := below_grown bE hg4 (fun j hj => by have : wr.heap.size = j := Option.some.inj hj; omega) bE.size
            clear hg4 OA DA bE
            go_wp2_with fail
            obtain ⟨wo, hwo⟩ : ∃ wo, wo = wr := ⟨_, rfl⟩
            subst hwo
            go_loopw [9] (fun s9 wi => ∃ k : Nat, s9 = .int .i64 k ∧ k ≤ t.length ∧ wi.ownsRow wo.heap.size 56 3 (.slice a4 t.length c4) t.length (flat (M.curT (M.valF gs) k t)) ∧ Below wo.heap.size wo wi) (fun s9 _ => t.length - (intOf s9).toNat)
            case atStart => exact ⟨0, rfl, Nat.zero_le _, by rw [M.curT_zero]; exact ho4, b4⟩
            case round =>
              obtain ⟨k, rfl, hk, ho, hbi⟩ := hrel
              have hbs := hbi.size
              have hbw2 : Below W2.heap.size W2 wr := hbel.trans (hbi.mono hbel.size)
              have xx1 := (hbw2.cell (p := ⟨w.heap.size, 0, none⟩) lX).trans hX1c
              by_cases hkt : k < t.length
              · have hkk : k < (M.curT (M.valF gs) k t).length := by rw [M.curT_len]; exact hkt
                have HG : ∃ g, a4 = some ⟨g, 0, none⟩ ∧ wo.heap.size ≤ g := by
                  rcases ho.2 with ⟨e, _⟩ | ⟨g, cap, cur, e, hg, _⟩
                  · simp only [Value.slice.injEq] at e; omega
                  · simp only [Value.slice.injEq] at e; exact ⟨g, e.1, hg⟩
                obtain ⟨g, rfl, hgg⟩ := HG
                have hfz := own_fzS ho
                have hat : DoAt wr g (k * 3) t[k] := by
                  have ho' := ho
                  rw [← M.curT_len (M.valF gs) k t] at ho'
                  obtain ⟨a5, g5, c5, e5, hd5, _⟩ := own_steps ho'
                  simp only [Value.slice.injEq] at e5
                  have e6 := hd5.addr (by omega)
                  rw [← e5.1] at e6
                  simp at e6
                  have := hd5.row k hkk
                  rw [← e6, Nat.zero_add, M.curT_get _ k t hkt] at this
                  exact this
                have HCH : Hid (∀ W', Chg wr W' g (k * 3) t[k] (M.valF gs t[k]) → W'.ownsRow wo.heap.size 56 3 (.slice (some ⟨g, 0, none⟩) t.length c4) t.length (flat (M.curT (M.valF gs) (k + 1) t)) ∧ wr.grownBy W' (some g)) := by
                  intro W' hch
                  have e := M.curT_get (M.valF gs) k t hkt hkk
                  have r := own_chg ho hkk (by rw [e]; exact hch)
                  rw [M.curT_set (M.valF gs) k t hkt] at r
                  exact r
                have hdo := HDo.out _ (List.getElem_mem hkt)
                have hgn := hgg
                generalize t[k] = d at *
                have j1 : (k : Int) < t.length := by omega
                obtain ⟨kk, pp, vv⟩ := d
                obtain ⟨ck, cp, cv'⟩ := hat
                have lg : g < wr.heap.size := World.block_lt_of_cell? _ _ ck
                have hgW : W2.heap.size ≤ g := by omega
                obtain ⟨r0, r1⟩ := M.prog_val HPq.out hdo
                obtain ⟨j, rfl⟩ : ∃ j : Nat, vv = j := ⟨vv.toNat, by simp only at r0; omega⟩
                have hj' : j < gs.length := by have := HL.out; simp only at r1; omega
                have e : M.valF gs ⟨kk, pp, j⟩ = ⟨kk, pp, gs[j]⟩ := by
                  unfold M.valF
                  congr 1
                  exact M.getD_get hj'
                have r := HCH.out (wr.setCell ⟨g, k * 3 + 2, none⟩ (.int .i64 gs[j])) ⟨0, Or.inr (Or.inr (Or.inr ⟨by rw [e]; rfl, by rw [e], by rw [e]⟩))⟩
                have cy := hG1.row j hj'
                obtain ⟨rfl⟩ := hG1.addr (by omega)
                clear e
                generalize gs[j] = y at *
                have jl : (j : Int) < gs.length := by omega
                have cyr := (hbw2.cell (p := ⟨gb, go + j, none⟩) (World.block_lt_of_cell? _ _ cy)).trans cy
                have hfz1 := hfz (k * 3 + 2)
                have r2 : Below wo.heap.size wo (wr.setCell ⟨g, k * 3 + 2, none⟩ (.int .i64 y)) := hbi.setCell hgg _
                have r1' := r.1
                clear HCH ho cy r r0 r1
                go_wp2_with fail
                exact ⟨⟨k + 1, by go_num, by omega, r1', r2⟩, by simp [intOf]; omega⟩
              · have htk : k = t.length := by omega
                rw [M.curT_all _ k t (by omega)] at ho
                have j1 : ¬ (k : Int) < t.length := by omega
                have hRi := hR.below hbi
                have hPi := hP.bl' hbi
                have hYi := hY.bl' hbi
                have hlap : ∀ i (hi : i < vs.length) k, vs[i].ownBlock = some k → (Value.slice a4 t.length c4).ownBlock ≠ some k := fun i hi j hj e => by
                  have h1 := (hR.b.inner i (by have := hR.b.len; omega) hi).lt j hj
                  have h2 := own_ge ho j e
                  omega
                have hol : wr.ownsRow wo.heap.size 56 3 (.slice a4 t.length c4) (t.map (M.valF gs)).length (flat (t.map (M.valF gs))) := by rw [List.length_map]; exact ho
                have hown' := ownsRow_mono hol (show W2.heap.size + 1 ≤ _ from by omega)
                have p0 := hPi.c
                have pf := hPi.fz
                have lPi := hPi.lt
                have hout := hRi.b.outer
                have hRE : Hid (Rdg wr (W2.heap.size + 1) (.slice av mm.length cv) mm vs) := hRi
                have hPE : Hid (Slot1 wr W2.heap.size (.slice av mm.length cv)) := hPi
                have hYE : Hid (Slot1 wr (w.heap.size + 1) (.slice none 0 0)) := hYi
                have hbW : Below W2.heap.size W2 wr := hbel.trans (hbi.mono hbel.size)
                generalize t.map (M.valF gs) = tt at *
                clear hol ho htk hR hP hY hPi hYi hRi xx0 hc
                go_wp2_with (at_builtin; refine wpList_append_lies _ rfl (.tmp 59) (.tmp 61) 23 rfl (W2.heap.size + 1) 50 i0 _ 1 24 Try.underlying23 hi hz0 hz1 hz2 rfl (by decide) _ _ vs rfl (hout.alloc _) ⟨wr.heap.size, 0, none⟩ 1 1 [.slice a4 t.length c4] rfl rfl (World.news_of_block (cs := #[.slice a4 t.length c4]) (t := 50) (fr := (0, 0)) (heap_alloc_new wr _)) (by simp [Value.oneCell']) (by omega) (by unfold maxLen; omega) (by omega) (by simp; omega) (wr.heap.size + 1) (by simp) ?_)
                intro g2 cap2 w3 hown3 hg3 hat hlt3
                have hge := own_ge hout
                have bA := below1 wr (.cells #[.slice a4 t.length c4] 50)
                have hP3 := (hPE.out.bl' bA).apart hg3 (fun e => by have := hge _ e; omega)
                have hY3 := (hYE.out.bl' bA).apart hg3 (fun e => by have := hge _ e; omega)
                have hR3 := (hRE.out.below bA).snocT (ownsRow_below hown' bA) hlap hown3 hg3
                have hb3 : Below W2.heap.size W2 w3 := below_grown (hbW.trans (bA.mono hbW.size)) hg3 (fun k hk => by have := hge k hk; omega) (by have := hbW.size; simp; omega)
                rw [← HW.out] at hR3
                clear hown3 hg3 hat hout hown' p0 pf
                have p0 := hP3.c
                have pf := hP3.fz
                go_wp2_with fail
                have hP4 := hP3.set (.slice (some ⟨g2, 0, none⟩) (mm.length + 1) cap2)
                exact ⟨⟨n + 1, _, _, by go_num, by omega, hR3.far (by omega) _, hP4, hY3.far (by omega) _, hb3.setCell (Nat.le_refl _) _⟩, by simp [intOf]; omega⟩
          · have htk : ll.take n = ll := List.take_of_length_le (by omega)
            rw [htk] at hR
            have hkn' : ¬ (n : Int) < ll.length := by omega
            have xx0 := (hbel.cell (p := ⟨w.heap.size, 0, none⟩) lX).trans hX1c
            obtain ⟨av, gv, cv, rfl, _⟩ := hR.b.ss
            generalize M.mapS (M.valF gs) ll = mm at *
            have p0 := hP.c
            have pf := hP.fz
            have q0 := hY.c
            have qf := hY.fz
            have lP := hP.lt
            have lQ := hY.lt
            have hne : w.heap.size + 1 ≠ W2.heap.size := by omega
            have hbw := bw1.trans (hbel.mono bw1.size)
            have hsz := bw1.size
            go_wp2_with fail
            have q1 := (hY.set (.slice av mm.length cv)).c
            exact bodyPost_ret (v := .tuple #[.agg #[.slice av mm.length cv], .bool true]) (by simp [results, Try.results19, go_sem, q1]) rfl ⟨_, by rw [HY1.out], ⟨vs, by rw [HY2.out]; exact (hR.far (by omega) _).mono (by omega)⟩, hbw.setCell (by show w.heap.size ≤ w.heap.size + 1; omega) _⟩

      · have hyz' : (y0' == 0) = false := by simpa using hyz
        have hno := M.turnVals_first (ll := ll) (row := gs) (by rw [HV0.out]; exact hyz')
        go_wp2_with (first | (go_at_call 33; refine CP.mono ?_; rintro e W1 ⟨rfl, b1⟩; have hX1 := hX.bl' b1; have x0 := hX1.c; have hG1 := hG2.below b1 (Nat.le_refl _); have hY1 := hY.bl' b1; have v1 := V0 _ b1; have y0 := hY1.c; have yf := hY1.fz; have ly := hY1.lt) | (go_at_call 34; refine (CO _ hG1).mono ?_; rintro e W2 ⟨rfl, rfl⟩))
        have bw1 := b2.trans (b1.mono b2.size)
        have q1 := (hY1.set (.slice none 0 0)).c
        exact bodyPost_ret (v := .tuple #[.agg #[.slice none 0 0], .bool false]) (by simp [results, Try.results19, go_sem, q1]) rfl ⟨_, by rw [hno]; rfl, ⟨[], by rw [hno]; exact Rdg.nil _ _⟩, bw1.setCell (by show w.heap.size ≤ w.heap.size + 1; omega) _⟩

end Go.Proofs.Ytmbhnkdhoffnmaa

namespace Go.Proofs.Ytmbhnkdhoffnmaa
open Go.RowKit

theorem M.turnVals_fact {mm qq : List (List M.D)} {gs : List Int} (e : (M.turnVals mm gs).getD [] = qq) (h : (M.turnVals mm gs).isSome = true) : (∀ x ∈ gs, 0 ≤ x ∧ x < gs.length) ∧ (M.turnVals qq (M.back gs)).getD [] = mm ∧ (M.turnVals qq (M.back gs)).isSome = true ∧ M.prog qq = true := by
  obtain ⟨y, hy⟩ := Option.isSome_iff_exists.1 h
  obtain ⟨h1, h2, h0, h3⟩ := M.turnVals_some hy
  rw [hy] at e
  obtain rfl : y = qq := e
  subst h3
  obtain ⟨k1, k3, k0, k4⟩ := M.vals_back h1 h2 h0
  rw [M.turnVals_yes k1 k3 (by simpa using k0), k4]
  exact ⟨fun x hx => by rw [M.rowN_len h2]; exact M.rowN_mem h2 x hx, rfl, rfl, k1⟩

set_option maxHeartbeats 2000000 in
set_option maxRecDepth 100000 in
set_option linter.unusedSimpArgs false in
theorem lawUv_any (ca : Option Addr) (cb co L C : Nat) (x : Nat → Int) (w : World) (hL : L ≤ C) (had : 0 < L → ca = some ⟨cb, co, none⟩) (hc : ∀ i, i < L → w.cell? ⟨cb, co + i, none⟩ = some (.int .u8 (x i)) ∧ 0 ≤ x i ∧ x i ≤ 255) :
    Calls Try.prog 5 #[.slice ca L C] w fun e w' => e = .returned (.bool true) ∧ Below w.heap.size w w' := by
  by_cases hLb : L ≤ 1048576
  · go_enter Try.func5, Try.ntmps5
    go_wp2_with fail
    refine (DrawTurnVals_any ca cb co L C x _ hL had hc hLb).mono ?_
    rintro e w1 ⟨a, g, c, mm, ga, gg, gc, gs, rfl, hD⟩
    have hle : ∀ t ∈ mm, t.length ≤ 1048576 := fun t ht => by have := hD.sm.steps t ht; omega
    have hml : mm.length ≤ 1048576 := by have := hD.sm.three; omega
    have hgl : gs.length ≤ 1048576 := by have := hD.gl; omega
    have hgl20 : gs.length ≤ 1000 := by have := hD.gl; omega
    have bA := below1 w1 (.cells #[.slice a mm.length c] 25)
    have bwA := hD.bel.trans (bA.mono hD.bel.size)
    have sP := Slot1.new w1 (.slice a mm.length c) 25
    have ssP := hD.sn.ss.below bA (Nat.le_refl _)
    have giP := hD.gi.below bA (Nat.le_refl _)
    clear had hc hD bA
    have x0 := sP.c
    go_wp2_with fail
    generalize w1.alloc (.cells #[.slice a mm.length c] 25) = WA at *
    generalize w1.heap.size = P at *
    have CS := sturnVals_any a g 0 c mm hml hle ga gg 0 gc gs hgl
    have CI := iturnVals_any a g 0 c mm hml hle ga gg 0 gc gs hgl
    have HS : Hid (∀ qq, (M.turnVals mm gs).getD [] = qq → (M.turnVals mm gs).isSome = true → (∀ x ∈ gs, 0 ≤ x ∧ x < gs.length) ∧ (M.turnVals qq (M.back gs)).getD [] = mm ∧ (M.turnVals qq (M.back gs)).isSome = true ∧ M.prog qq = true) := fun qq e h => M.turnVals_fact e h
    obtain ⟨qq, hq⟩ : ∃ qq, (M.turnVals mm gs).getD [] = qq := ⟨_, rfl⟩
    rw [hq] at CS CI
    obtain ⟨hq3, hq7⟩ := M.turnVals_small hq
    have hql : qq.length ≤ 1048576 := by omega
    have hqls : ∀ t ∈ qq, t.length ≤ 1048576 := fun t ht => by have := hq7 t ht; omega
    have HS1 : Hid ((M.turnVals mm gs).isSome = true → (∀ x ∈ gs, 0 ≤ x ∧ x < gs.length) ∧ (M.turnVals qq (M.back gs)).getD [] = mm ∧ (M.turnVals qq (M.back gs)).isSome = true ∧ M.prog qq = true) := HS.out qq hq
    clear hq HS
    obtain ⟨ok, hok⟩ : ∃ ok, (M.turnVals mm gs).isSome = ok := ⟨_, rfl⟩
    rw [hok] at CS CI HS1
    clear hok
    have LQ := fun A B C D E F W h1 h2 => lpProg_any A B 0 C D E 0 F qq qq W hql hql hqls h1 h2
    rw [M.eqLL_yes rfl] at LQ
    refine (CS WA ssP giP).mono ?_
    rintro e w2 ⟨v2, rfl, ⟨vs2, hR2⟩, b2⟩
    obtain ⟨av, gv, cv, rfl, hss2⟩ := hR2.b.ss
    have bW := below1 w2 (.cells #[.slice av qq.length cv] 25)
    have bAW := b2.trans (bW.mono b2.size)
    have sPW := sP.bl' bAW
    have sW := Slot1.new w2 (.slice av qq.length cv) 25
    have ssW := hss2.below bW (Nat.le_refl _)
    clear hR2 hss2 b2 bW x0
    have x0 := sPW.c
    go_wp2_with fail
    generalize w2.alloc (.cells #[.slice av qq.length cv] 25) = WB at *
    generalize w2.heap.size = PW at *
    refine (CI WB (ssP.below bAW (Nat.le_refl _)) (giP.below bAW (Nat.le_refl _))).mono ?_
    rintro e w3 ⟨v3, rfl, ⟨vs3, hR3⟩, b3⟩
    obtain ⟨ai, gi, ci, rfl, hss3⟩ := hR3.b.ss
    have bQ := below1 w3 (.cells #[.slice ai qq.length ci] 25)
    have bBQ := b3.trans (bQ.mono b3.size)
    have bAQ := bAW.trans (bBQ.mono bAW.size)
    have sPQ := sP.bl' bAQ
    have sQ := Slot1.new w3 (.slice ai qq.length ci) 25
    have ssQ := hss3.below bQ (Nat.le_refl _)
    have sWQ := sW.bl' bBQ
    have ssWQ := ssW.below bBQ (Nat.le_refl _)
    clear hR3 hss3 b3 bQ x0 sPW sW ssW
    have x1 := sQ.c
    have x2 := sWQ.c
    cases ok
    · go_wp2_with fail
      generalize w3.alloc (.cells #[.slice ai qq.length ci] 25) = WC at *
      generalize w3.heap.size = PQ at *
      refine (LQ ai gi ci av gv cv _ ssQ ssWQ).mono ?_
      rintro e w4 ⟨rfl, b4⟩
      have sQ4 := sQ.bl' b4
      have sW4 := sWQ.bl' b4
      have bA4 := bAQ.trans (b4.mono bAQ.size)
      clear x1 x2
      have x1 := sQ4.c
      have x2 := sW4.c
      go_wp2_with fail
      refine (LQ ai gi ci av gv cv _ (ssQ.below b4 (Nat.le_refl _)) (ssWQ.below b4 (Nat.le_refl _))).mono ?_
      rintro e w5 ⟨rfl, b5⟩
      go_wp2_with fail
      go_ret
      exact ⟨rfl, bwA.trans ((bA4.trans (b5.mono bA4.size)).mono bwA.size)⟩
    · obtain ⟨hin, hbk, hbs, hpq⟩ := HS1.out rfl
      have HBK : Hid ((M.turnVals qq (M.back gs)).getD [] = mm) := hbk
      have HBS : Hid ((M.turnVals qq (M.back gs)).isSome = true) := hbs
      have CB := iturnVals_any ai gi 0 ci qq hql hqls
      clear HS1 hbk hbs
      go_wp2_with fail
      generalize w3.alloc (.cells #[.slice ai qq.length ci] 25) = WC at *
      generalize w3.heap.size = PQ at *
      refine (LQ ai gi ci av gv cv _ ssQ ssWQ).mono ?_
      rintro e WD ⟨rfl, b4⟩
      have sQD := sQ.bl' b4
      have sPD := sPQ.bl' b4
      have bAD := bAQ.trans (b4.mono bAQ.size)
      have ssQD := ssQ.below b4 (Nat.le_refl _)
      have ssPD := ssP.below bAD (Nat.le_refl _)
      have giD := giP.below bAD (Nat.le_refl _)
      have bwD := bwA.trans (bAD.mono bwA.size)
      clear x1 x2 sQ sPQ bAQ ssQ ssP b4 bAD sWQ ssWQ bBQ bAW sP giP bwA CS CI LQ
      have x0 := sPD.c
      have x1 := sQD.c
      have CL : ∀ (W : World) (Z : Nat), Below WD.heap.size WD W → W.heap.size = Z → Calls Try.prog 13 #[.slice ga gs.length gc] W fun e w' => e = .returned (.slice (some ⟨Z, 0, none⟩) gs.length gs.length) ∧ IntS w' (some ⟨Z, 0, none⟩) Z 0 (M.back gs) ∧ Below W.heap.size W w' ∧ Below WD.heap.size WD w' := by
        intro W Z hb hz
        subst hz
        refine (lpBack_any ga gg 0 gc gs W hgl20 hin (giD.below hb (Nat.le_refl _))).mono ?_
        rintro e w' ⟨h1, h2, h3⟩
        exact ⟨h1, h2, h3, hb.trans (h3.mono hb.size)⟩
      have CC : ∀ (W : World) (Z : Nat), Below WD.heap.size WD W → IntS W (some ⟨Z, 0, none⟩) Z 0 (M.back gs) → Calls Try.prog 20 #[.agg #[.slice ai qq.length ci], .slice (some ⟨Z, 0, none⟩) gs.length gs.length] W fun e w' => ∃ v, e = .returned (.tuple #[.agg #[v], .bool true]) ∧ (∃ vs, Rdg w' W.heap.size v mm vs) ∧ Below W.heap.size W w' := by
        intro W Z hb hi
        have C6 := CB (some ⟨Z, 0, none⟩) Z 0 gs.length (M.back gs) (by rw [M.back_len]; omega) W (ssQD.below hb (Nat.le_refl _)) hi
        rw [HBK.out, HBS.out, M.back_len] at C6
        exact C6
      have LX := fun A B C W h1 h2 => lpProg_any A B 0 C a g 0 c mm mm W hml hml hle h1 h2
      rw [M.eqLL_yes rfl] at LX
      go_wp2_with fail
      refine wp_region_held_drew (S := fun w' => Below WD.heap.size WD w') (by kernel_rfl) (Below.refl _ _).drew (fun hH => ?_)
      refine takeD 0 (some 53) (.agg #[.slice ai qq.length ci]) hH rfl rfl (by kernel_rfl) (by kernel_rfl) (by kernel_rfl) (fun _ _ _ h => h) (Or.inl ⟨by rfl, by intro w' hSw; have hc := (hSw.cell (p := ⟨PQ, 0, none⟩) sQD.lt).trans x1; go_simp⟩) ?_
      simp only [Act.put, List.setIfInBounds_toArray, List.set_cons_zero, List.set_cons_succ]
      refine takeD 1 (some 54) (.slice ga gs.length gc) hH rfl rfl (by kernel_rfl) (by kernel_rfl) (by kernel_rfl) (fun _ _ _ h => h) (Or.inl ⟨by rfl, by intro w' hSw; go_simp⟩) ?_
      simp only [Act.put, List.setIfInBounds_toArray, List.set_cons_zero, List.set_cons_succ]
      refine wpAnyH_ready (rs := [2, 7]) (by kernel_rfl) (by simp) ?_
      refine AllReadyH.cons rfl (fun K' hK => ?_) (AllReadyH.cons rfl (fun K' hK => ?_) AllReadyH.nil)
      · refine step_goV (by rfl) (some 55) rfl 13 #[.tmp 54] _ rfl #[.slice ga gs.length gc] (by simp [Act.eval]) (fun _ _ => rfl) (CL (WD.drew) (WD.heap.size) (Below.refl _ _).drew rfl) ?_
        rintro e w5 ⟨rfl, hI5, b5x, b5⟩
        refine ⟨_, rfl, ?_⟩
        simp only [Act.put, List.setIfInBounds_toArray, List.set_cons_zero, List.set_cons_succ]
        refine hK.out _ _ b5 (fun hH5 => ?_)
        clear hK K'
        refine wpAnyH_ready (rs := [3, 7]) (by kernel_rfl) (by simp) ?_
        refine AllReadyH.cons rfl (fun K' hK => ?_) (AllReadyH.cons rfl (fun K' hK => ?_) AllReadyH.nil)
        · refine step_goV (by rfl) (some 56) rfl 20 #[.tmp 53, .tmp 55] _ rfl #[.agg #[.slice ai qq.length ci], .slice (some ⟨WD.heap.size, 0, none⟩) gs.length gs.length] (by simp [Act.eval]) (fun _ _ => rfl) (CC (w5) (WD.heap.size) b5 (by first | exact hI5 | exact hI5.below (below1 _ _) (Nat.le_refl _))) ?_
          rintro e w6 ⟨v6, rfl, ⟨vs6, hR6⟩, b56⟩
          have b6 : Below WD.heap.size WD w6 := Below.trans b5 (b56.mono (Below.size b5))
          obtain ⟨ax, gx, cx, rfl, hssx⟩ := hR6.b.ss
          refine ⟨_, rfl, ?_⟩
          simp only [Act.put, List.setIfInBounds_toArray, List.set_cons_zero, List.set_cons_succ]
          refine hK.out _ _ b6 (fun hH6 => ?_)
          clear hK K'
          refine takeD 4 (some 52) (.tuple #[.agg #[.slice ax mm.length cx], .bool true]) hH6 rfl rfl (by kernel_rfl) (by kernel_rfl) (by kernel_rfl) (fun _ _ _ h => h) (Or.inl ⟨by rfl, by intro w' hSw; go_simp⟩) ?_
          simp only [Act.put, List.setIfInBounds_toArray, List.set_cons_zero, List.set_cons_succ]
          refine takeD 5 (some 57) (.agg #[.slice ax mm.length cx]) hH6 rfl rfl (by kernel_rfl) (by kernel_rfl) (by kernel_rfl) (fun _ _ _ h => h) (Or.inl ⟨by rfl, by intro w' hSw; go_simp⟩) ?_
          simp only [Act.put, List.setIfInBounds_toArray, List.set_cons_zero, List.set_cons_succ]
          refine takeD 6 (some 58) (.bool true) hH6 rfl rfl (by kernel_rfl) (by kernel_rfl) (by kernel_rfl) (fun _ _ _ h => h) (Or.inl ⟨by rfl, by intro w' hSw; go_simp⟩) ?_
          simp only [Act.put, List.setIfInBounds_toArray, List.set_cons_zero, List.set_cons_succ]
          refine wpAnyH_ready (rs := [7]) (by kernel_rfl) (by simp) ?_
          refine AllReadyH.cons rfl (fun K' hK => ?_) AllReadyH.nil
          rw [if_pos (by rfl)]
          go_simp
          refine hK.out _ _ (b6.alloc b6.size _) (fun hHa => ?_)
          clear hK K'
          refine wpAnyH_ready (rs := [8]) (by kernel_rfl) (by simp) ?_
          refine AllReadyH.cons rfl (fun K' hK => ?_) AllReadyH.nil
          rw [if_pos (by rfl)]
          go_simp
          refine hK.out _ _ (b6.alloc b6.size _) (fun hHb => ?_)
          clear hK K'
          refine takeD 9 (some 10) (.bool true) hHb rfl rfl (by kernel_rfl) (by kernel_rfl) (by kernel_rfl) (fun _ _ _ h => h) (Or.inl ⟨by rfl, by intro w' hSw; go_simp⟩) ?_
          simp only [Act.put, List.setIfInBounds_toArray, List.set_cons_zero, List.set_cons_succ]
          refine wpAnyH_done (by kernel_rfl) ?_ _
          have sX := Slot1.new w6 (.slice ax mm.length cx) 25
          have bF := b6.alloc b6.size (.cells #[.slice ax mm.length cx] 25)
          have ssX := hssx.below (below1 w6 (.cells #[.slice ax mm.length cx] 25)) (Nat.le_refl _)
          clear hssx
          generalize w6.alloc (.cells #[.slice ax mm.length cx] 25) = WF at *
          generalize w6.heap.size = NX at *
          have ssPF := ssPD.below bF (Nat.le_refl _)
          have ssQF := ssQD.below bF (Nat.le_refl _)
          have y0 := (sPD.bl' bF).c
          have y2 := sX.c
          have bwF := bwD.trans (bF.mono bwD.size)
          have C0 := LX _ _ cx WF ssX ssPF
          have sQF := sQD.bl' bF
          have CV := fun W hW => iprog_any ai gi 0 ci qq W hql hqls hW
          rw [hpq] at CV
          clear x0 x1 hpq
          go_wp2_with (first | (go_at_call 12; refine C0.mono ?_; rintro e W7 ⟨rfl, b7⟩; have y1 := (sQF.bl' b7).c) | (go_at_call 21; refine (CV W7 (ssQF.below b7 (Nat.le_refl _))).mono ?_; rintro e W8 ⟨rfl, b8⟩))
          go_ret
          exact ⟨rfl, bwF.trans ((b7.trans (b8.mono b7.size)).mono bwF.size)⟩
        · rw [if_pos (by rfl)]
          go_simp
          refine hK.out _ _ (b5.alloc b5.size _) (fun hHa => ?_)
          clear hK K'
          refine wpAnyH_ready (rs := [3]) (by kernel_rfl) (by simp) ?_
          refine AllReadyH.cons rfl (fun K' hK => ?_) AllReadyH.nil
          refine step_goV (by rfl) (some 56) rfl 20 #[.tmp 53, .tmp 55] _ rfl #[.agg #[.slice ai qq.length ci], .slice (some ⟨WD.heap.size, 0, none⟩) gs.length gs.length] (by simp [Act.eval]) (fun _ _ => rfl) (CC (w5.alloc (.cells #[.slice none 0 0] 25)) (WD.heap.size) (b5.alloc b5.size _) (by first | exact hI5 | exact hI5.below (below1 _ _) (Nat.le_refl _))) ?_
          rintro e w6 ⟨v6, rfl, ⟨vs6, hR6⟩, b56⟩
          have b6 : Below WD.heap.size WD w6 := Below.trans (b5.alloc b5.size _) (b56.mono (Below.size (b5.alloc b5.size _)))
          obtain ⟨ax, gx, cx, rfl, hssx⟩ := hR6.b.ss
          refine ⟨_, rfl, ?_⟩
          simp only [Act.put, List.setIfInBounds_toArray, List.set_cons_zero, List.set_cons_succ]
          refine hK.out _ _ b6 (fun hH6 => ?_)
          clear hK K'
          refine takeD 4 (some 52) (.tuple #[.agg #[.slice ax mm.length cx], .bool true]) hH6 rfl rfl (by kernel_rfl) (by kernel_rfl) (by kernel_rfl) (fun _ _ _ h => h) (Or.inl ⟨by rfl, by intro w' hSw; go_simp⟩) ?_
          simp only [Act.put, List.setIfInBounds_toArray, List.set_cons_zero, List.set_cons_succ]
          refine takeD 5 (some 57) (.agg #[.slice ax mm.length cx]) hH6 rfl rfl (by kernel_rfl) (by kernel_rfl) (by kernel_rfl) (fun _ _ _ h => h) (Or.inl ⟨by rfl, by intro w' hSw; go_simp⟩) ?_
          simp only [Act.put, List.setIfInBounds_toArray, List.set_cons_zero, List.set_cons_succ]
          refine takeD 6 (some 58) (.bool true) hH6 rfl rfl (by kernel_rfl) (by kernel_rfl) (by kernel_rfl) (fun _ _ _ h => h) (Or.inl ⟨by rfl, by intro w' hSw; go_simp⟩) ?_
          simp only [Act.put, List.setIfInBounds_toArray, List.set_cons_zero, List.set_cons_succ]
          refine wpAnyH_ready (rs := [8]) (by kernel_rfl) (by simp) ?_
          refine AllReadyH.cons rfl (fun K' hK => ?_) AllReadyH.nil
          have sN : Slot1 w6 w5.heap.size (.slice none 0 0) := (Slot1.new w5 (.slice none 0 0) 25).bl' b56
          have bN : Below WD.heap.size WD w6 := b6
          have xc := sN.c
          have xz := sN.fz
          have hgeN : WD.heap.size ≤ w5.heap.size := b5.size
          rw [if_pos (by rfl)]
          go_simp
          refine hK.out _ _ (bN.setCell (p := ⟨w5.heap.size, 0, none⟩) hgeN _) (fun hHb => ?_)
          clear hK K' xc xz
          have sX := sN.set (.slice ax mm.length cx)
          refine takeD 9 (some 10) (.bool true) hHb rfl rfl (by kernel_rfl) (by kernel_rfl) (by kernel_rfl) (fun _ _ _ h => h) (Or.inl ⟨by rfl, by intro w' hSw; go_simp⟩) ?_
          simp only [Act.put, List.setIfInBounds_toArray, List.set_cons_zero, List.set_cons_succ]
          refine wpAnyH_done (by kernel_rfl) ?_ _
          have bF := bN.setCell (p := ⟨w5.heap.size, 0, none⟩) hgeN (.slice ax mm.length cx)
          obtain ⟨ax', gy, cx', ey, ssX⟩ := (hR6.far (b := w5.heap.size) (i := 0) (by simp) (.slice ax mm.length cx)).b.ss
          obtain ⟨rfl, _, rfl⟩ := Value.slice.inj ey
          generalize w6.setCell ⟨w5.heap.size, 0, none⟩ (.slice ax mm.length cx) = WF at *
          generalize w5.heap.size = NX at *
          clear hssx
          have ssPF := ssPD.below bF (Nat.le_refl _)
          have ssQF := ssQD.below bF (Nat.le_refl _)
          have y0 := (sPD.bl' bF).c
          have y2 := sX.c
          have bwF := bwD.trans (bF.mono bwD.size)
          have C0 := LX _ _ cx WF ssX ssPF
          have sQF := sQD.bl' bF
          have CV := fun W hW => iprog_any ai gi 0 ci qq W hql hqls hW
          rw [hpq] at CV
          clear x0 x1 hpq
          go_wp2_with (first | (go_at_call 12; refine C0.mono ?_; rintro e W7 ⟨rfl, b7⟩; have y1 := (sQF.bl' b7).c) | (go_at_call 21; refine (CV W7 (ssQF.below b7 (Nat.le_refl _))).mono ?_; rintro e W8 ⟨rfl, b8⟩))
          go_ret
          exact ⟨rfl, bwF.trans ((b7.trans (b8.mono b7.size)).mono bwF.size)⟩
      · rw [if_pos (by rfl)]
        go_simp
        refine hK.out _ _ ((Below.refl WD.heap.size WD).drew.alloc (Nat.le_refl _) _) (fun hHa => ?_)
        clear hK K'
        refine wpAnyH_ready (rs := [2]) (by kernel_rfl) (by simp) ?_
        refine AllReadyH.cons rfl (fun K' hK => ?_) AllReadyH.nil
        refine step_goV (by rfl) (some 55) rfl 13 #[.tmp 54] _ rfl #[.slice ga gs.length gc] (by simp [Act.eval]) (fun _ _ => rfl) (CL (WD.drew.alloc (.cells #[.slice none 0 0] 25)) (WD.heap.size + 1) ((Below.refl WD.heap.size WD).drew.alloc (Nat.le_refl _) _) (by simp)) ?_
        rintro e w5 ⟨rfl, hI5, b5x, b5⟩
        refine ⟨_, rfl, ?_⟩
        simp only [Act.put, List.setIfInBounds_toArray, List.set_cons_zero, List.set_cons_succ]
        refine hK.out _ _ b5 (fun hH5 => ?_)
        clear hK K'
        refine wpAnyH_ready (rs := [3]) (by kernel_rfl) (by simp) ?_
        refine AllReadyH.cons rfl (fun K' hK => ?_) AllReadyH.nil
        refine step_goV (by rfl) (some 56) rfl 20 #[.tmp 53, .tmp 55] _ rfl #[.agg #[.slice ai qq.length ci], .slice (some ⟨WD.heap.size + 1, 0, none⟩) gs.length gs.length] (by simp [Act.eval]) (fun _ _ => rfl) (CC (w5) (WD.heap.size + 1) b5 (by first | exact hI5 | exact hI5.below (below1 _ _) (Nat.le_refl _))) ?_
        rintro e w6 ⟨v6, rfl, ⟨vs6, hR6⟩, b56⟩
        have b6 : Below WD.heap.size WD w6 := Below.trans b5 (b56.mono (Below.size b5))
        obtain ⟨ax, gx, cx, rfl, hssx⟩ := hR6.b.ss
        refine ⟨_, rfl, ?_⟩
        simp only [Act.put, List.setIfInBounds_toArray, List.set_cons_zero, List.set_cons_succ]
        refine hK.out _ _ b6 (fun hH6 => ?_)
        clear hK K'
        refine takeD 4 (some 52) (.tuple #[.agg #[.slice ax mm.length cx], .bool true]) hH6 rfl rfl (by kernel_rfl) (by kernel_rfl) (by kernel_rfl) (fun _ _ _ h => h) (Or.inl ⟨by rfl, by intro w' hSw; go_simp⟩) ?_
        simp only [Act.put, List.setIfInBounds_toArray, List.set_cons_zero, List.set_cons_succ]
        refine takeD 5 (some 57) (.agg #[.slice ax mm.length cx]) hH6 rfl rfl (by kernel_rfl) (by kernel_rfl) (by kernel_rfl) (fun _ _ _ h => h) (Or.inl ⟨by rfl, by intro w' hSw; go_simp⟩) ?_
        simp only [Act.put, List.setIfInBounds_toArray, List.set_cons_zero, List.set_cons_succ]
        refine takeD 6 (some 58) (.bool true) hH6 rfl rfl (by kernel_rfl) (by kernel_rfl) (by kernel_rfl) (fun _ _ _ h => h) (Or.inl ⟨by rfl, by intro w' hSw; go_simp⟩) ?_
        simp only [Act.put, List.setIfInBounds_toArray, List.set_cons_zero, List.set_cons_succ]
        refine wpAnyH_ready (rs := [8]) (by kernel_rfl) (by simp) ?_
        refine AllReadyH.cons rfl (fun K' hK => ?_) AllReadyH.nil
        have sN : Slot1 w6 WD.heap.size (.slice none 0 0) := ((Slot1.new WD.drew (.slice none 0 0) 25).bl' b5x).bl' b56
        have bN : Below WD.heap.size WD w6 := b6
        have xc := sN.c
        have xz := sN.fz
        have hgeN : WD.heap.size ≤ WD.heap.size := (Nat.le_refl _)
        rw [if_pos (by rfl)]
        go_simp
        refine hK.out _ _ (bN.setCell (p := ⟨WD.heap.size, 0, none⟩) hgeN _) (fun hHb => ?_)
        clear hK K' xc xz
        have sX := sN.set (.slice ax mm.length cx)
        refine takeD 9 (some 10) (.bool true) hHb rfl rfl (by kernel_rfl) (by kernel_rfl) (by kernel_rfl) (fun _ _ _ h => h) (Or.inl ⟨by rfl, by intro w' hSw; go_simp⟩) ?_
        simp only [Act.put, List.setIfInBounds_toArray, List.set_cons_zero, List.set_cons_succ]
        refine wpAnyH_done (by kernel_rfl) ?_ _
        have bF := bN.setCell (p := ⟨WD.heap.size, 0, none⟩) hgeN (.slice ax mm.length cx)
        obtain ⟨ax', gy, cx', ey, ssX⟩ := (hR6.far (b := WD.heap.size) (i := 0) (by have := b5x.size; simp at this; omega) (.slice ax mm.length cx)).b.ss
        obtain ⟨rfl, _, rfl⟩ := Value.slice.inj ey
        generalize w6.setCell ⟨WD.heap.size, 0, none⟩ (.slice ax mm.length cx) = WF at *
        clear hssx
        have ssPF := ssPD.below bF (Nat.le_refl _)
        have ssQF := ssQD.below bF (Nat.le_refl _)
        have y0 := (sPD.bl' bF).c
        have y2 := sX.c
        have bwF := bwD.trans (bF.mono bwD.size)
        have C0 := LX _ _ cx WF ssX ssPF
        have sQF := sQD.bl' bF
        have CV := fun W hW => iprog_any ai gi 0 ci qq W hql hqls hW
        rw [hpq] at CV
        clear x0 x1 hpq
        go_wp2_with (first | (go_at_call 12; refine C0.mono ?_; rintro e W7 ⟨rfl, b7⟩; have y1 := (sQF.bl' b7).c) | (go_at_call 21; refine (CV W7 (ssQF.below b7 (Nat.le_refl _))).mono ?_; rintro e W8 ⟨rfl, b8⟩))
        go_ret
        exact ⟨rfl, bwF.trans ((b7.trans (b8.mono b7.size)).mono bwF.size)⟩
  · go_enter Try.func5, Try.ntmps5
    go_wp2_with fail
    go_ret
    exact ⟨rfl, Below.refl _ _⟩

end Go.Proofs.Ytmbhnkdhoffnmaa
