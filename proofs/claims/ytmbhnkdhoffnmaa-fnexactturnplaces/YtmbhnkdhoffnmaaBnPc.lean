/- spec.l22Row: whether numbers are a row. Of at most 1000, rows of at most 1048576 numbers. append of steps onto an empty row that was made: in plain regions, and in those that draw their order. No condition. spec.TurnPlaces. Of at most 1048576 threads, steps of a thread and numbers. The law FnExactTurnPlaces, walked: it answers true, and leaves all as it was. Of programs and rows of at most 9223372036854775807 parts each: more than a machine holds. -/
import Derived.Test.YtmbhnkdhoffnmaaBnPa
import Derived.Deep.RegionLaw
import Derived.Maps.AppendAt
import Derived.Test.YtmbhnkdhoffnmaaBnPb
import Derived.Test.YtmbhnkdhoffnmaaSProg
import Derived.Test.YtmbhnkdhoffnmaaPgBnd
import Derived.Test.YtmbhnkdhoffnmaaIntConv
import Derived.Test.YtmbhnkdhoffnmaaSize
import Derived.Deep.RegionHeld3

namespace Go.Proofs.Ytmbhnkdhoffnmaa
open Go.RowKit

set_option maxHeartbeats 400000 in
theorem l22Row_any (a : Option Addr) (b o c : Nat) (row : List Int) (m : Nat) (w : World) (hl : row.length ≤ 1048576) (hm : m ≤ 1000) (h : IntS w a b o row) :
    Calls Try.prog 34 #[.slice a row.length c, .int .i64 m] w fun e w' => e = .returned (.bool (M.rowN row m)) ∧ w' = w := by
  by_cases hln : row.length = m
  · have HF : Hid (M.rowN row m = (M.bel m).all (fun v => M.has row v)) := M.rowOf_same (by rw [M.bel_len]; exact hln)
    have hq : ((row.length : Int) != m) = false := by simp; omega
    have HL : Hid (row.length = m) := hln
    clear hln
    go_enter Try.func34, Try.ntmps34
    go_wp2_with fail
    go_loopw [5] (fun s5 wr => ∃ n : Nat, s5 = .int .i64 n ∧ n ≤ m ∧ Hid ((M.bel m).all (fun v => M.has row v) = ((M.bel m).drop n).all (fun v => M.has row v)) ∧ wr = w) (fun s5 _ => m - (intOf s5).toNat)
    case atStart => exact ⟨0, rfl, Nat.zero_le _, by show _ = _; rfl, rfl⟩
    case round =>
      obtain ⟨n, rfl, hn, HA, rfl⟩ := hrel
      by_cases hlt : n < m
      · have hlt2 : n < (M.bel m).length := by rw [M.bel_len]; exact hlt
        have HS : Hid ((M.bel m).all (fun v => M.has row v) = (M.has row (n : Int) && ((M.bel m).drop (n + 1)).all (fun v => M.has row v))) := by
          have := M.rowAll_step HA.out hlt2
          rw [M.bel_get] at this
          exact this
        clear HA hlt2
        have i1 : (n : Int) < m := by omega
        cases hh : M.has row (n : Int)
        · go_wp2_with (go_at_call 47; refine (l12Has_any a b o c row n _ hl h).mono ?_; rw [hh]; rintro e w' ⟨rfl, rfl⟩)
          go_ret
          exact ⟨ret_bool (by rw [HF.out, HS.out, hh]; rfl), rfl⟩
        · go_wp2_with (go_at_call 47; refine (l12Has_any a b o c row n _ hl h).mono ?_; rw [hh]; rintro e w' ⟨rfl, rfl⟩)
          exact ⟨⟨n + 1, by go_num, by omega, by show _ = _; rw [HS.out, hh]; rfl, trivial⟩, by simp [intOf]; omega⟩
      · have i1 : ¬ (n : Int) < m := by omega
        go_wp2_with fail
        go_ret
        exact ⟨ret_bool (by rw [HF.out, HA.out, List.drop_eq_nil_of_le (by rw [M.bel_len]; omega)]; rfl), rfl⟩
  · have hln' : ((row.length : Int) == m) = false := by simp; omega
    go_enter Try.func34, Try.ntmps34
    go_wp2_with fail
    go_ret
    exact ⟨ret_bool (M.rowOf_short (by rw [M.bel_len]; exact hln)).symm, rfl⟩

end Go.Proofs.Ytmbhnkdhoffnmaa

namespace Go.Proofs.Ytmbhnkdhoffnmaa
open Go.RowKit

theorem run_append_emp0 {P : Program} (w : World) (t ty e : TypeId) (i : TypeInfo) (ht : P.underlying t = some (.slice e)) (hi : P.info? e = some i) (ad : Addr) (a : Option Addr) (c : Nat) :
    (Builtin.append_ #[t, t] ty #[.slice (some ad) 0 0, .slice a 0 c]).run P w = .ok (.slice (some ad) 0 0) w := by
  cases a
  · simp [Builtin.append_, run_underlying ht, sizeOf, typeInfo, hi, Builtin.lenOf, Builtin.firstCells, storeCells]
  · simp [Builtin.append_, run_underlying ht, sizeOf, typeInfo, hi, Builtin.lenOf, Builtin.firstCells, loadCells, loadCellsFrom, storeCells]
theorem grow_refl (w : World) (row : Option Nat) : w.grownBy w row := ⟨rfl, rfl, rfl, Nat.le_refl _, fun _ _ _ => rfl⟩
theorem own_emp {X : World} {base g size : Nat} {e : TypeId} (h : X.heap[g]? = some (.cells #[] e (0, 0))) (hb : base ≤ g) : X.ownsRow base e size (.slice (some ⟨g, 0, none⟩) 0 0) 0 [] :=
  ⟨by simp, .inr ⟨g, 0, #[], rfl, hb, h, Nat.le_refl _, Nat.zero_le _, by simp, by simp⟩⟩

theorem wp_append_does {P : Program} {o : Oper} {a : Act} {w : World} {K : Act → World → Prop} {Q : Exit → Act → World → Prop} (s x : Operand) (t : TypeId)
    (ho : o.op = .call { callee := .builtin .append, args := #[s, x], argTypes := #[t, t] }) (d : Option Tmp) (hd : o.dst = d) (base : Nat) (e : TypeId) (i : TypeInfo) (ht : P.underlying t = some (.slice e)) (hi : P.info? e = some i) (hz0 : i.zero = some (.agg #[.int .i64 0, .int .i64 0, .int .i64 0])) (hz1 : i.size = 3) (hz2 : i.bytes = 24)
    (g : Nat) (hs : a.eval s = .slice (some ⟨g, 0, none⟩) 0 0) (hown : w.ownsRow base e 3 (.slice (some ⟨g, 0, none⟩) 0 0) 0 []) (hbase : base ≤ w.heap.size) (sa : Option Addr) (b off c : Nat) (l : List M.D) (hx : a.eval x = .slice sa l.length c) (hI : DoS w sa b off l) (hl : l.length ≤ 1048576)
    (h : ∀ v' w', w'.ownsRow base e 3 v' l.length (flat l) → w.grownBy w' (some g) → (v'.ownBlock = some g ∨ v'.ownBlock = some w.heap.size) → K (a.put d v') w') :
    Oper.wp P o a w K Q := by
  subst hd
  cases sa with
  | none =>
    have hl0 : l = [] := by
      rcases Nat.eq_zero_or_pos l.length with h0 | h0
      · exact List.length_eq_zero_iff.1 h0
      · cases hI.addr h0
    subst hl0
    rw [List.length_nil] at hx
    have hrun := run_append_emp0 (P := P) w t o.type e i ht hi ⟨g, 0, none⟩ none c
    have hk := h (.slice (some ⟨g, 0, none⟩) 0 0) w hown (grow_refl _ _) (.inl rfl)
    unfold Oper.wp
    simp [execOp, ho, resolve, invoke, builtin, hs, hx, hrun, Result.andThen]
    exact hk
  | some ad =>
    have hn : ∀ j u, (flat l)[j]? = some u → w.cell? (ad.add j) = some u := fun j u hj => by
      have hjl := (List.getElem?_eq_some_iff.1 hj).1
      rw [flat_length] at hjl
      obtain ⟨rfl⟩ := hI.addr (by omega)
      exact DoS.flat_cells hI.row j u hj
    obtain ⟨v', w', hrun, h2, h3, _, h5⟩ := run_append_own_at (P := P) w base t o.type e i (.agg #[.int .i64 0, .int .i64 0, .int .i64 0]) 3 24 ht hi hz0 hz1 hz2 rfl (by decide) (.slice (some ⟨g, 0, none⟩) 0 0) 0 [] hown ad l.length c (flat l) (flat_length l) hn (flat_one' l) (by unfold maxLen; omega) (by omega) hbase
    have hk := h v' w' (by simpa using h2) h3 h5
    unfold Oper.wp
    simp [execOp, ho, resolve, invoke, builtin, hs, hx, hrun, Result.andThen]
    exact hk
theorem step_append_does {P : Program} {ops : Array Oper} {o : Oper} {a : Act} {w : World} {K : Act → World → Prop} {Q : Exit → Act → World → Prop} {E : Prop} (hgd : o.guard = none) (s x : Operand) (t : TypeId)
    (ho : o.op = .call { callee := .builtin .append, args := #[s, x], argTypes := #[t, t] }) (d : Option Tmp) (hd : o.dst = d) (base : Nat) (e : TypeId) (i : TypeInfo) (ht : P.underlying t = some (.slice e)) (hi : P.info? e = some i) (hz0 : i.zero = some (.agg #[.int .i64 0, .int .i64 0, .int .i64 0])) (hz1 : i.size = 3) (hz2 : i.bytes = 24)
    (g : Nat) (hs : a.eval s = .slice (some ⟨g, 0, none⟩) 0 0) (hown : w.ownsRow base e 3 (.slice (some ⟨g, 0, none⟩) 0 0) 0 []) (hbase : base ≤ w.heap.size) (sa : Option Addr) (b off c : Nat) (l : List M.D) (hx : a.eval x = .slice sa l.length c) (hI : DoS w sa b off l) (hl : l.length ≤ 1048576)
    (h : ∀ v' w', w'.ownsRow base e 3 v' l.length (flat l) → w.grownBy w' (some g) → (v'.ownBlock = some g ∨ v'.ownBlock = some w.heap.size) → K (a.put d v') w') :
    if Region.wanted o (yielded ops a.tmps) = true then Oper.wp P o a w K Q else E := by
  have hw : Region.wanted o (yielded ops a.tmps) = true := by simp [Region.wanted, hgd]
  rw [if_pos hw]
  exact wp_append_does s x t ho d hd base e i ht hi hz0 hz1 hz2 g hs hown hbase sa b off c l hx hI hl h
theorem wpList_append_does {P : Program} {ops : Array Oper} {rest : List Oper} {o : Oper} {a : Act} {w : World} {Q : Exit → Act → World → Prop} (hgd : o.guard = none) (s x : Operand) (t : TypeId)
    (ho : o.op = .call { callee := .builtin .append, args := #[s, x], argTypes := #[t, t] }) (d : Option Tmp) (hd : o.dst = d) (base : Nat) (e : TypeId) (i : TypeInfo) (ht : P.underlying t = some (.slice e)) (hi : P.info? e = some i) (hz0 : i.zero = some (.agg #[.int .i64 0, .int .i64 0, .int .i64 0])) (hz1 : i.size = 3) (hz2 : i.bytes = 24)
    (g : Nat) (hs : a.eval s = .slice (some ⟨g, 0, none⟩) 0 0) (hown : w.ownsRow base e 3 (.slice (some ⟨g, 0, none⟩) 0 0) 0 []) (hbase : base ≤ w.heap.size) (sa : Option Addr) (b off c : Nat) (l : List M.D) (hx : a.eval x = .slice sa l.length c) (hI : DoS w sa b off l) (hl : l.length ≤ 1048576)
    (h : ∀ v' w', w'.ownsRow base e 3 v' l.length (flat l) → w.grownBy w' (some g) → (v'.ownBlock = some g ∨ v'.ownBlock = some w.heap.size) → wpList P ops Q rest (a.put d v') w') :
    wpList P ops Q (o :: rest) a w :=
  wpList_plain hgd fun _ hK => wp_append_does s x t ho d hd base e i ht hi hz0 hz1 hz2 g hs hown hbase sa b off c l hx hI hl fun v' w' h1 h2 h3 => by
    subst hd
    exact hK _ _ (h v' w' h1 h2 h3)

end Go.Proofs.Ytmbhnkdhoffnmaa

namespace Go.Proofs.Ytmbhnkdhoffnmaa
open Go.RowKit

set_option maxHeartbeats 4000000 in
set_option maxRecDepth 100000 in
set_option linter.unusedSimpArgs false in
theorem sturnPlaces_any (a : Option Addr) (b o c : Nat) (ll : List (List M.D)) (hl : ll.length ≤ 1048576) (hls : ∀ t ∈ ll, t.length ≤ 1048576) (ga : Option Addr) (gb go gc : Nat) (gs : List Int) (hgl : gs.length ≤ 1048576) (w : World) (h : DoSS w a b o ll) (hG : IntS w ga gb go gs) :
    Calls Try.prog 16 #[.agg #[.slice a ll.length c], .slice ga gs.length gc] w fun e w' => ∃ v, e = .returned (.tuple #[.agg #[v], .bool (M.turnPlaces ll gs).isSome]) ∧ (∃ vs, Rdg w' w.heap.size v ((M.turnPlaces ll gs).getD []) vs) ∧ Below w.heap.size w w' := by
  obtain ⟨i0, hi, hz0, hz1, hz2⟩ := info_parts Try.info50
  obtain ⟨j0, hj, hy0, hy1, hy2⟩ := info_parts Try.info56
  have b2 := below2 w (.cells #[.slice a ll.length c] 25) (.cells #[.slice none 0 0] 25)
  have h2 := h.below b2 (Nat.le_refl _)
  have hG2 := hG.below b2 (Nat.le_refl _)
  have hX := (Slot1.new w (.slice a ll.length c) 25).bl' (below1 _ (.cells #[.slice none 0 0] 25))
  have hY := Slot1.new (w.alloc (.cells #[.slice a ll.length c] 25)) (.slice none 0 0) 25
  rw [World.size_alloc] at hY
  go_enter Try.func16, Try.ntmps16
  cases hp : M.prog ll
  · have hno := M.turnPlaces_bad (row := gs) hp
    have CP := sprog_any a b o c ll _ hl hls h2
    rw [hp] at CP
    go_wp2_with (first | (go_at_call 33; refine CP.mono ?_; rintro e W1 ⟨rfl, b1⟩; have hY1 := hY.bl' b1; have y0 := hY1.c; have yf := hY1.fz; have ly := hY1.lt))
    have bw1 := b2.trans (b1.mono b2.size)
    have q1 := (hY1.set (.slice none 0 0)).c
    exact bodyPost_ret (v := .tuple #[.agg #[.slice none 0 0], .bool false]) (by simp [results, Try.results16, go_sem, q1]) rfl ⟨_, by rw [hno]; rfl, ⟨[], by rw [hno]; exact Rdg.nil _ _⟩, bw1.setCell (by show w.heap.size ≤ w.heap.size + 1; omega) _⟩
  · obtain ⟨h3, h7⟩ := M.prog_le hp
    have CP := sprog_any a b o c ll _ hl hls h2
    rw [hp] at CP
    have CO := fun W hW => l22Row_any ga gb go gc gs 3 W hgl (by omega) hW
    cases hok : M.rowN gs 3
    · have hno := M.turnPlaces_row (ll := ll) hok
      rw [hok] at CO
      go_wp2_with (first | (go_at_call 33; refine CP.mono ?_; rintro e W1 ⟨rfl, b1⟩; have hX1 := hX.bl' b1; have x0 := hX1.c; have hG1 := hG2.below b1 (Nat.le_refl _); have hY1 := hY.bl' b1; have y0 := hY1.c; have yf := hY1.fz; have ly := hY1.lt) | (go_at_call 34; refine (CO _ hG1).mono ?_; rintro e W2 ⟨rfl, rfl⟩))
      have bw1 := b2.trans (b1.mono b2.size)
      have q1 := (hY1.set (.slice none 0 0)).c
      exact bodyPost_ret (v := .tuple #[.agg #[.slice none 0 0], .bool false]) (by simp [results, Try.results16, go_sem, q1]) rfl ⟨_, by rw [hno]; rfl, ⟨[], by rw [hno]; exact Rdg.nil _ _⟩, bw1.setCell (by show w.heap.size ≤ w.heap.size + 1; omega) _⟩
    · rw [hok] at CO
      have hyes := M.turnPlaces_yes hp hok
      have HY1 : Hid ((M.turnPlaces ll gs).isSome = true) := by show _ = _; rw [hyes]; rfl
      have HY2 : Hid ((M.turnPlaces ll gs).getD [] = M.mapS (M.placeF gs) ll) := by show _ = _; rw [hyes]; rfl
      have HR : Hid (M.rowN gs 3 = true) := hok
      have HL : Hid (gs.length = 3) := M.rowN_len hok
      have HPq : Hid (M.prog ll = true) := hp
      clear hyes hok hp
      go_wp2_with (first | (go_at_call 33; refine CP.mono ?_; rintro e W1 ⟨rfl, b1⟩; have hX1 := hX.bl' b1; have x0 := hX1.c; have hG1 := hG2.below b1 (Nat.le_refl _); have hY1 := hY.bl' b1) | (go_at_call 34; refine (CO _ hG1).mono ?_; rintro e W2 ⟨rfl, rfl⟩))
      have bw1 := b2.trans (b1.mono b2.size)
      have bA := below1 W2 (.cells #[.slice none 0 0] 25)
      have hXA := hX1.bl' bA
      have hYA := hY1.bl' bA
      have hZA := Slot1.new W2 (.slice none 0 0) 25
      have lX := hX1.lt
      have lY := hY1.lt
      have hD := h.below bw1 (Nat.le_refl _)
      generalize W2.alloc (.cells #[.slice none 0 0] 25) = WA at *
      have hX1c := hX1.c
      clear CP CO x0 hX hY h2 hG2 b2 b1 hX1
      go_loopw [7] (fun s7 wr => ∃ (n : Nat) (v : Value) (vs : List Value), s7 = .int .i64 n ∧ n ≤ ll.length ∧ Rdg wr (W2.heap.size + 1) v (M.mapS (M.placeF gs) (ll.take n)) vs ∧ Slot1 wr W2.heap.size v ∧ Slot1 wr (w.heap.size + 1) (.slice none 0 0) ∧ Below W2.heap.size W2 wr) (fun s7 _ => ll.length - (intOf s7).toNat)
      case atStart => exact ⟨0, .slice none 0 0, [], rfl, Nat.zero_le _, by simpa [M.mapS] using Rdg.nil _ _, hZA, hYA, bA⟩
      case round =>
        obtain ⟨n, v, vs, rfl, hn, hR, hP, hY, hbel⟩ := hrel
        clear hZA hXA hYA bA
        by_cases hlt : n < ll.length
        · obtain ⟨rfl⟩ := h.addr (by omega)
          obtain ⟨a', b', o', c', hc0, hd0⟩ := hD.row n hlt
          have hc := (hbel.cell (p := ⟨b, o + n, none⟩) (World.block_lt_of_cell? _ _ hc0)).trans hc0
          have xx0 := (hbel.cell (p := ⟨w.heap.size, 0, none⟩) lX).trans hX1c
          have HW : Hid (M.mapS (M.placeF gs) (ll.take (n + 1)) = M.mapS (M.placeF gs) (ll.take n) ++ [ll[n].map (M.placeF gs)]) := M.mapS_take _ ll n hlt
          have hmm : (M.mapS (M.placeF gs) (ll.take n)).length ≤ 3 := by rw [M.mapS_len]; simp; omega
          have ht7 := h7 _ (List.getElem_mem hlt)
          have HDo : Hid (∀ d ∈ ll[n], ∃ t ∈ ll, d ∈ t) := fun d hd => ⟨_, List.getElem_mem hlt, hd⟩
          generalize ll[n] = t at *
          generalize M.mapS (M.placeF gs) (ll.take n) = mm at *
          have i1 : (n : Int) < ll.length := by omega
          obtain ⟨av, gv, cv, rfl, _⟩ := hR.b.ss
          have lP := hP.lt
          have lXr := Nat.lt_trans lX lP
          have lcr : b < wr.heap.size := World.block_lt_of_cell? _ _ hc
          have bE : Below wr.heap.size wr (wr.alloc (.cells #[] 56)) := below1 _ _
          have OA : (wr.alloc (.cells #[] 56)).ownsRow wr.heap.size 56 3 (.slice (some ⟨wr.heap.size, 0, none⟩) 0 0) 0 [] := own_emp (heap_alloc_new wr _) (Nat.le_refl _)
          have DA : DoS (wr.alloc (.cells #[] 56)) a' b' o' t := (hd0.below hbel (Nat.le_refl _)).below bE (Nat.le_refl _)
          go_wp2_with (at_builtin; refine wpList_append_does rfl (.tmp 27) (.tmp 32) 50 rfl (some 33) rfl wr.heap.size 56 j0 Try.underlying50 hj hy0 hy1 hy2 wr.heap.size rfl OA (by simp) a' b' o' c' t rfl DA (by omega) ?_)
          intro v4 w4 ho4 hg4 _
          obtain ⟨a4, c4, rfl⟩ := own_slx ho4
          have b4 : Below wr.heap.size wr w4 := below_grown bE hg4 (fun j hj => by have : wr.heap.size = j := Option.some.inj hj; omega) bE.size
          clear hg4 OA DA bE
          go_wp2_with fail
          obtain ⟨wo, hwo⟩ : ∃ wo, wo = wr := ⟨_, rfl⟩
          subst hwo
          go_loopw [9] (fun s9 wi => ∃ k : Nat, s9 = .int .i64 k ∧ k ≤ t.length ∧ wi.ownsRow wo.heap.size 56 3 (.slice a4 t.length c4) t.length (flat (M.curT (M.placeF gs) k t)) ∧ Below wo.heap.size wo wi) (fun s9 _ => t.length - (intOf s9).toNat)
          case atStart => exact ⟨0, rfl, Nat.zero_le _, by rw [M.curT_zero]; exact ho4, b4⟩
          case round =>
            obtain ⟨k, rfl, hk, ho, hbi⟩ := hrel
            have hbs := hbi.size
            have hbw2 : Below W2.heap.size W2 wr := hbel.trans (hbi.mono hbel.size)
            have xx1 := (hbw2.cell (p := ⟨w.heap.size, 0, none⟩) lX).trans hX1c
            by_cases hkt : k < t.length
            · have hkk : k < (M.curT (M.placeF gs) k t).length := by rw [M.curT_len]; exact hkt
              have HG : ∃ g, a4 = some ⟨g, 0, none⟩ ∧ wo.heap.size ≤ g := by
                rcases ho.2 with ⟨e, _⟩ | ⟨g, cap, cur, e, hg, _⟩
                · simp only [Value.slice.injEq] at e; omega
                · simp only [Value.slice.injEq] at e; exact ⟨g, e.1, hg⟩
              obtain ⟨g, rfl, hgg⟩ := HG
              have hfz := own_fzS ho
              have hat : DoAt wr g (k * 3) t[k] := by
                have ho' := ho
                rw [← M.curT_len (M.placeF gs) k t] at ho'
                obtain ⟨a5, g5, c5, e5, hd5, _⟩ := own_steps ho'
                simp only [Value.slice.injEq] at e5
                have e6 := hd5.addr (by omega)
                rw [← e5.1] at e6
                simp at e6
                have := hd5.row k hkk
                rw [← e6, Nat.zero_add, M.curT_get _ k t hkt] at this
                exact this
              have HCH : Hid (∀ W', Chg wr W' g (k * 3) t[k] (M.placeF gs t[k]) → W'.ownsRow wo.heap.size 56 3 (.slice (some ⟨g, 0, none⟩) t.length c4) t.length (flat (M.curT (M.placeF gs) (k + 1) t)) ∧ wr.grownBy W' (some g)) := by
                intro W' hch
                have e := M.curT_get (M.placeF gs) k t hkt hkk
                have r := own_chg ho hkk (by rw [e]; exact hch)
                rw [M.curT_set (M.placeF gs) k t hkt] at r
                exact r
              have hdo := HDo.out _ (List.getElem_mem hkt)
              have hgn := hgg
              generalize t[k] = d at *
              have j1 : (k : Int) < t.length := by omega
              obtain ⟨kk, pp, vv⟩ := d
              obtain ⟨ck, cp, cv'⟩ := hat
              have lg : g < wr.heap.size := World.block_lt_of_cell? _ _ ck
              have hgW : W2.heap.size ≤ g := by omega
              have hRD : M.uses kk = (M.reads kk || M.writes kk) := rfl
              have HU : Hid (M.uses kk = true → ∃ (j : Nat) (y : Int), pp = j ∧ (j : Int) < gs.length ∧ W2.cell? ⟨gb, go + j, none⟩ = some (.int .i64 y) ∧ ga = some ⟨gb, go, none⟩ ∧ (wr.setCell ⟨g, k * 3 + 1, none⟩ (.int .i64 y)).ownsRow wo.heap.size 56 3 (.slice (some ⟨g, 0, none⟩) t.length c4) t.length (flat (M.curT (M.placeF gs) (k + 1) t)) ∧ Below wo.heap.size wo (wr.setCell ⟨g, k * 3 + 1, none⟩ (.int .i64 y))) := by
                intro hu
                obtain ⟨r0, r1⟩ := M.prog_place HPq.out hdo hu
                obtain ⟨j, rfl⟩ : ∃ j : Nat, pp = j := ⟨pp.toNat, by simp only at r0; omega⟩
                have hj' : j < gs.length := by have := HL.out; simp only at r1; omega
                have e : M.placeF gs ⟨kk, j, vv⟩ = ⟨kk, gs[j], vv⟩ := by
                  unfold M.placeF
                  rw [if_pos (show M.uses (M.D.mk kk j vv).k = true from hu)]
                  congr 1
                  exact M.getD_get hj'
                have r := HCH.out (wr.setCell ⟨g, k * 3 + 1, none⟩ (.int .i64 gs[j])) ⟨0, Or.inr (Or.inr (Or.inl ⟨by rw [e]; rfl, by rw [e], by rw [e]⟩))⟩
                exact ⟨j, gs[j], rfl, by omega, hG1.row j hj', hG1.addr (by omega), r.1, hbi.setCell hgg _⟩
              cases hu1 : M.reads kk
              · cases hu2 : M.writes kk
                · have hu : M.uses kk = false := by rw [hRD, hu1, hu2]; rfl
                  have r := HCH.out wr ⟨0, Or.inl ⟨rfl, by unfold M.placeF; rw [show M.uses (M.D.mk kk pp vv).k = false from hu]; rfl⟩⟩
                  clear HU HCH hRD hu ho
                  go_wp2_with (first | (go_at_call 39; refine (l1Reads_any ⟨_, _, _⟩ _).mono ?_; rw [hu1]; rintro e W5 ⟨rfl, rfl⟩) | (go_at_call 40; refine (l1Writes_any ⟨_, _, _⟩ _).mono ?_; rw [hu2]; rintro e W6 ⟨rfl, rfl⟩))
                  exact ⟨⟨k + 1, by go_num, by omega, (r.1.alloc _).alloc _, (hbi.alloc hbi.size _).alloc (by have := hbi.size; simp; omega) _⟩, by simp [intOf]; omega⟩
                · obtain ⟨j, y, rfl, jl, cy, rfl, r1, r2⟩ := HU.out (by rw [hRD, hu1, hu2]; rfl)
                  have cyr := (hbw2.cell (p := ⟨gb, go + j, none⟩) (World.block_lt_of_cell? _ _ cy)).trans cy
                  have lgb : gb < wr.heap.size := World.block_lt_of_cell? _ _ cyr
                  have hfz1 := hfz (k * 3 + 1)
                  clear HU HCH hRD ho cy
                  go_wp2_with (first | (go_at_call 39; refine (l1Reads_any ⟨_, _, _⟩ _).mono ?_; rw [hu1]; rintro e W5 ⟨rfl, rfl⟩) | (go_at_call 40; refine (l1Writes_any ⟨_, _, _⟩ _).mono ?_; rw [hu2]; rintro e W6 ⟨rfl, rfl⟩))
                  exact ⟨⟨k + 1, by go_num, by omega, (r1.alloc _).alloc _, (r2.alloc r2.size _).alloc (by have := r2.size; simp at this ⊢; omega) _⟩, by simp [intOf]; omega⟩
              · obtain ⟨j, y, rfl, jl, cy, rfl, r1, r2⟩ := HU.out (by rw [hRD, hu1]; rfl)
                have cyr := (hbw2.cell (p := ⟨gb, go + j, none⟩) (World.block_lt_of_cell? _ _ cy)).trans cy
                have lgb : gb < wr.heap.size := World.block_lt_of_cell? _ _ cyr
                have hfz1 := hfz (k * 3 + 1)
                clear HU HCH hRD ho cy
                go_wp2_with (first | (go_at_call 39; refine (l1Reads_any ⟨_, _, _⟩ _).mono ?_; rw [hu1]; rintro e W5 ⟨rfl, rfl⟩))
                exact ⟨⟨k + 1, by go_num, by omega, r1.alloc _, r2.alloc r2.size _⟩, by simp [intOf]; omega⟩
            · have htk : k = t.length := by omega
              rw [M.curT_all _ k t (by omega)] at ho
              have j1 : ¬ (k : Int) < t.length := by omega
              have hRi := hR.below hbi
              have hPi := hP.bl' hbi
              have hYi := hY.bl' hbi
              have hlap : ∀ i (hi : i < vs.length) k, vs[i].ownBlock = some k → (Value.slice a4 t.length c4).ownBlock ≠ some k := fun i hi j hj e => by
                have h1 := (hR.b.inner i (by have := hR.b.len; omega) hi).lt j hj
                have h2 := own_ge ho j e
                omega
              have hol : wr.ownsRow wo.heap.size 56 3 (.slice a4 t.length c4) (t.map (M.placeF gs)).length (flat (t.map (M.placeF gs))) := by rw [List.length_map]; exact ho
              have hown' := ownsRow_mono hol (show W2.heap.size + 1 ≤ _ from by omega)
              have p0 := hPi.c
              have pf := hPi.fz
              have lPi := hPi.lt
              have hout := hRi.b.outer
              have hRE : Hid (Rdg wr (W2.heap.size + 1) (.slice av mm.length cv) mm vs) := hRi
              have hPE : Hid (Slot1 wr W2.heap.size (.slice av mm.length cv)) := hPi
              have hYE : Hid (Slot1 wr (w.heap.size + 1) (.slice none 0 0)) := hYi
              have hbW : Below W2.heap.size W2 wr := hbel.trans (hbi.mono hbel.size)
              generalize t.map (M.placeF gs) = tt at *
              clear hol ho htk hR hP hY hPi hYi hRi xx0 hc
              go_wp2_with (at_builtin; refine wpList_append_lies _ rfl (.tmp 65) (.tmp 67) 23 rfl (W2.heap.size + 1) 50 i0 _ 1 24 Try.underlying23 hi hz0 hz1 hz2 rfl (by decide) _ _ vs rfl (hout.alloc _) ⟨wr.heap.size, 0, none⟩ 1 1 [.slice a4 t.length c4] rfl rfl (World.news_of_block (cs := #[.slice a4 t.length c4]) (t := 50) (fr := (0, 0)) (heap_alloc_new wr _)) (by simp [Value.oneCell']) (by omega) (by unfold maxLen; omega) (by omega) (by simp; omega) (wr.heap.size + 1) (by simp) ?_)
              intro g2 cap2 w3 hown3 hg3 hat hlt3
              have hge := own_ge hout
              have bA := below1 wr (.cells #[.slice a4 t.length c4] 50)
              have hP3 := (hPE.out.bl' bA).apart hg3 (fun e => by have := hge _ e; omega)
              have hY3 := (hYE.out.bl' bA).apart hg3 (fun e => by have := hge _ e; omega)
              have hR3 := (hRE.out.below bA).snocT (ownsRow_below hown' bA) hlap hown3 hg3
              have hb3 : Below W2.heap.size W2 w3 := below_grown (hbW.trans (bA.mono hbW.size)) hg3 (fun k hk => by have := hge k hk; omega) (by have := hbW.size; simp; omega)
              rw [← HW.out] at hR3
              clear hown3 hg3 hat hout hown' p0 pf
              have p0 := hP3.c
              have pf := hP3.fz
              go_wp2_with fail
              have hP4 := hP3.set (.slice (some ⟨g2, 0, none⟩) (mm.length + 1) cap2)
              exact ⟨⟨n + 1, _, _, by go_num, by omega, hR3.far (by omega) _, hP4, hY3.far (by omega) _, hb3.setCell (Nat.le_refl _) _⟩, by simp [intOf]; omega⟩
        · have htk : ll.take n = ll := List.take_of_length_le (by omega)
          rw [htk] at hR
          have hkn' : ¬ (n : Int) < ll.length := by omega
          have xx0 := (hbel.cell (p := ⟨w.heap.size, 0, none⟩) lX).trans hX1c
          obtain ⟨av, gv, cv, rfl, _⟩ := hR.b.ss
          generalize M.mapS (M.placeF gs) ll = mm at *
          have p0 := hP.c
          have pf := hP.fz
          have q0 := hY.c
          have qf := hY.fz
          have lP := hP.lt
          have lQ := hY.lt
          have hne : w.heap.size + 1 ≠ W2.heap.size := by omega
          have hbw := bw1.trans (hbel.mono bw1.size)
          have hsz := bw1.size
          go_wp2_with fail
          have q1 := (hY.set (.slice av mm.length cv)).c
          exact bodyPost_ret (v := .tuple #[.agg #[.slice av mm.length cv], .bool true]) (by simp [results, Try.results16, go_sem, q1]) rfl ⟨_, by rw [HY1.out], ⟨vs, by rw [HY2.out]; exact (hR.far (by omega) _).mono (by omega)⟩, hbw.setCell (by show w.heap.size ≤ w.heap.size + 1; omega) _⟩

end Go.Proofs.Ytmbhnkdhoffnmaa

namespace Go.Proofs.Ytmbhnkdhoffnmaa
open Go.RowKit

set_option maxHeartbeats 2000000 in
set_option maxRecDepth 100000 in
theorem lawTp_any (a : Option Addr) (b o c : Nat) (ll : List (List M.D)) (ga : Option Addr) (gb go gc : Nat) (gs : List Int) (w : World) (hl0 : ll.length ≤ 9223372036854775807) (hls0 : ∀ t ∈ ll, t.length ≤ 9223372036854775807) (h : DoSS w a b o ll) (hG : IntS w ga gb go gs) :
    Calls Try.prog 7 #[.agg #[.slice a ll.length c], .slice ga gs.length gc] w fun e w' => e = .returned (.bool true) ∧ Below w.heap.size w w' := by
  by_cases hgl : gs.length ≤ 1048576
  · have hgl' : ¬ (1048576 : Int) < gs.length := by omega
    go_enter Try.func7, Try.ntmps7
    go_wp2_with (go_at_call 22; refine (szProg_any a b o c ll _ hl0 hls0 (h.below (below1 w _) (Nat.le_refl _))).mono ?_; rintro e w1 ⟨r', rfl, rfl, hor⟩)
    · go_ret
      exact ⟨rfl, below2 _ _ _⟩
    obtain ⟨_, hl, hls⟩ : 0 ≤ r' ∧ ll.length ≤ 1048576 ∧ ∀ t ∈ ll, t.length ≤ 1048576 := hor.resolve_left (by omega)
    clear hor hl0 hls0
    have b0 := below2 w (.cells #[.slice a ll.length c] 38) (.cells #[.slice a ll.length c] 38)
    have s0 := (Slot1.new w (.slice a ll.length c) 38).bl' (below1 _ (.cells #[.slice a ll.length c] 38))
    generalize (w.alloc (.cells #[.slice a ll.length c] 38)).alloc (.cells #[.slice a ll.length c] 38) = W0 at *
    -- the model's answer
    refine (toProg_any a b o c ll W0 hl hls (h.below b0 (Nat.le_refl _))).mono ?_
    rintro e w1 ⟨g1, rfl, hs1, b1⟩
    have bw1 := b0.trans (b1.mono b0.size)
    go_wp2_with fail
    refine (toIntS_any ga gb go gc gs w1 hgl (hG.below bw1 (Nat.le_refl _))).mono ?_
    rintro e w2 ⟨rfl, hi2, _, b2⟩
    have bw2 := bw1.trans (b2.mono bw1.size)
    go_wp2_with fail
    have CS := sturnPlaces_any (some ⟨g1, 0, none⟩) g1 0 ll.length ll hl hls (some ⟨w1.heap.size, 0, none⟩) w1.heap.size 0 gs.length gs hgl w2 (hs1.old.below b2 (Nat.le_refl _)) hi2
    have CI := fun A B C D E F G H W h1 h2 => iturnPlaces_any A B C D ll hl hls E F G H gs hgl W h1 h2
    generalize hmm : (M.turnPlaces ll gs).getD [] = mm at *
    obtain ⟨hm3, hm7⟩ := M.turnPlaces_small hmm
    clear hmm
    have hml : mm.length ≤ 1048576 := by omega
    have hmls : ∀ t ∈ mm, t.length ≤ 1048576 := fun t ht => by have := hm7 t ht; omega
    generalize (M.turnPlaces ll gs).isSome = ok at *
    refine CS.mono ?_
    rintro e w3 ⟨v3, rfl, ⟨vs3, hR3⟩, b3⟩
    obtain ⟨av, gv, cv, rfl, hss3⟩ := hR3.b.ss
    have bA := below1 w3 (.cells #[.slice av mm.length cv] 25)
    have bw3 := bw2.trans (b3.mono bw2.size)
    have bwA := bw3.trans (bA.mono bw3.size)
    have sA := (((s0.bl' b1).bl' b2).bl' b3).bl' bA
    have sW := Slot1.new w3 (.slice av mm.length cv) 25
    have ssW := hss3.below bA (Nat.le_refl _)
    clear hR3 hss3 CS hs1 hi2 s0 b0 b1 b2 b3 bA bw1 bw2 bw3
    have x0 := sA.c
    go_wp2_with fail
    generalize w3.alloc (.cells #[.slice av mm.length cv] 25) = WA at *
    generalize w3.heap.size = PW at *
    -- the arguments
    refine (toProg_any a b o c ll WA hl hls (h.below bwA (Nat.le_refl _))).mono ?_
    rintro e w4 ⟨g4, rfl, hs4, b4⟩
    have bX := below1 w4 (.cells #[.slice (some ⟨g4, 0, none⟩) ll.length ll.length] 25)
    have bAX := b4.trans (bX.mono b4.size)
    have sX := Slot1.new w4 (.slice (some ⟨g4, 0, none⟩) ll.length ll.length) 25
    have hsX := hs4.below bX (Nat.le_refl _)
    have hX4 : WA.heap.size ≤ w4.heap.size := b4.size
    have hszX : Hid ((w4.alloc (.cells #[.slice (some ⟨g4, 0, none⟩) ll.length ll.length] 25)).heap.size = w4.heap.size + 1) := by show _ = _; simp
    clear hs4 b4 bX x0
    go_wp2_with fail
    generalize w4.alloc (.cells #[.slice (some ⟨g4, 0, none⟩) ll.length ll.length] 25) = WX at *
    generalize w4.heap.size = PX at *
    have bwX := bwA.trans (bAX.mono bwA.size)
    refine (toIntS_any ga gb go gc gs WX hgl (hG.below bwX (Nat.le_refl _))).mono ?_
    rintro e WY ⟨rfl, hiY, ⟨fY, rowY⟩, bY⟩
    have hfzY : ∀ j, WY.frozen? ⟨WX.heap.size, j, none⟩ = false := rowY.frozen
    have bAY := bAX.trans (bY.mono bAX.size)
    have sXY := sX.bl' bY
    have hsXY := hsX.below bY (Nat.le_refl _)
    have lY : WX.heap.size < WY.heap.size := rowY.lt
    clear rowY sX hsX bAX bY
    have x1 := sXY.c
    -- the program's answer
    go_wp2_with fail
    refine (CI _ g4 0 ll.length _ WX.heap.size 0 gs.length WY hsXY.old hiY).mono ?_
    rintro e w5 ⟨v5, rfl, ⟨vs5, hR5⟩, b5⟩
    obtain ⟨ai, gi, ci, rs, rfl, hrl, hrn, hrw5, hin, _⟩ := hR5.rw_
    have bG := below1 w5 (.cells #[.slice ai mm.length ci] 25)
    have bYG := b5.trans (bG.mono b5.size)
    have sG := Slot1.new w5 (.slice ai mm.length ci) 25
    have hRG := hR5.below bG
    have hrwG := hrw5.below bG
    have hinG : ∀ k, InR rs k → k ≠ w5.heap.size := fun k ⟨i, hi, hn, e⟩ => by
      obtain ⟨x, hx⟩ := hrw5.ints i hi 0 (by omega)
      have : rs[i].b < w5.heap.size := World.block_lt_of_cell? _ _ hx
      omega
    have lG5 : WY.heap.size ≤ w5.heap.size := b5.size
    have bAG := bAY.trans (bYG.mono bAY.size)
    have sXG := sXY.bl' bYG
    have hsXG := hsXY.below bYG (Nat.le_refl _)
    have hiG := hiY.below bYG (Nat.le_refl _)
    have hfzG : ∀ j, (w5.alloc (.cells #[.slice ai mm.length ci] 25)).frozen? ⟨WX.heap.size, j, none⟩ = false := fun j => (bYG.frozen (p := ⟨WX.heap.size, j, none⟩) lY).trans (hfzY j)
    have hlWY : WY.heap.size ≤ (w5.alloc (.cells #[.slice ai mm.length ci] 25)).heap.size := bYG.size
    have sWG := sW.bl' bAG
    have x2 := sG.c
    have x3 := sWG.c
    clear sXY hsXY hiY hfzY bAY hR5 b5 bG x1 hrw5
    -- the same
    go_wp2_with fail
    generalize w5.alloc (.cells #[.slice ai mm.length ci] 25) = WG at *
    generalize w5.heap.size = PG at *
    obtain ⟨_, g6, _, e6, ssG⟩ := hRG.b.ss
    obtain ⟨rfl, _, rfl⟩ := Value.slice.inj e6
    have ssWG := ssW.below bAG (Nat.le_refl _)
    refine (eqProg_same ai g6 0 ci av gv 0 cv mm WG hml hmls ssG ssWG).mono ?_
    rintro e WH ⟨rfl, bH⟩
    have bAH := bAG.trans (bH.mono bAG.size)
    have bYH := bYG.trans (bH.mono bYG.size)
    have sAH := sA.bl' bAH
    have sXH := sXG.bl' bH
    have sGH := sG.bl' bH
    have hsXH := hsXG.below bH (Nat.le_refl _)
    have hiH := hiG.below bH (Nat.le_refl _)
    have hRH := hRG.below bH
    have hrwH := hrwG.below bH
    have lX : WX.heap.size < WG.heap.size := Nat.lt_of_lt_of_le lY hlWY
    have hfzH : ∀ j, WH.frozen? ⟨WX.heap.size, j, none⟩ = false := fun j => (bH.frozen (p := ⟨WX.heap.size, j, none⟩) lX).trans (hfzG j)
    clear x2 x3 ssG ssWG sXG sG hsXG hiG hRG hrwG hfzG sWG bH bAG bYG
    have x0 := sAH.c
    have x1 := sXH.c
    have l0 := sAH.lt
    have l1 := sXH.lt
    go_wp2_with fail
    have bwH := bwA.trans (bAH.mono bwA.size)
    have C7 := toProg_any a b o c ll WH.drew hl hls (h.below bwH.drew (Nat.le_refl _))
    go_region_held3 (fun w' => w'.cell? ⟨w.heap.size, 0, none⟩ = some (.slice a ll.length c) ∧ w'.cell? ⟨PX, 0, none⟩ = some (.slice (some ⟨g4, 0, none⟩) ll.length ll.length)) (go_keep) (first
      | (go_at_call 23; refine C7.mono ?_; rintro e w7 ⟨g7, rfl, hs7, hb7⟩; have Y0 := (hb7.cell (p := ⟨w.heap.size, 0, none⟩) l0).trans x0; have Y1 := (hb7.cell (p := ⟨PX, 0, none⟩) l1).trans x1)
      | (go_at_call 25; refine (eqProg_same _ g4 0 ll.length _ g7 0 ll.length ll _ hl hls ((hsXH.old.below (Below.refl _ _).drew (Nat.le_refl _)).below hb7 (Nat.le_refl _)) hs7.old).mono ?_; rintro e w8 ⟨rfl, hb8⟩; have Z0 := (hb8.cell (p := ⟨w.heap.size, 0, none⟩) (Nat.lt_of_lt_of_le l0 hb7.size)).trans Y0; have Z1 := (hb8.cell (p := ⟨PX, 0, none⟩) (Nat.lt_of_lt_of_le l1 hb7.size)).trans Y1))
    have b68 : Below WH.heap.size WH w8 := ((Below.refl WH.heap.size WH).drew.trans hb7).trans (hb8.mono hb7.size)
    have bA8 := bAH.trans (b68.mono bAH.size)
    have bw8 := bwA.trans (bA8.mono bwA.size)
    have sX8 := sXH.bl' b68
    have sG8 := sGH.bl' b68
    have hsX8 := hsXH.below b68 (Nat.le_refl _)
    have hi8 := hiH.below b68 (Nat.le_refl _)
    have hR8 := hRH.below b68
    have hrw8 := hrwH.below b68
    have lXH : WX.heap.size < WH.heap.size := Nat.lt_of_lt_of_le lY bYH.size
    have hfz8 : ∀ j, w8.frozen? ⟨WX.heap.size, j, none⟩ = false := fun j => (b68.frozen (p := ⟨WX.heap.size, j, none⟩) lXH).trans (hfzH j)
    have lX8 : WX.heap.size < w8.heap.size := Nat.lt_of_lt_of_le lXH b68.size
    have lY8 : WY.heap.size ≤ w8.heap.size := Nat.le_trans bYH.size b68.size
    clear Z0 Z1 Y0 Y1 C7 hs7 hb7 hb8 b68 bwH bAH bYH sAH sXH sGH hsXH hiH hRH hrwH hfzH x0 x1 l0 l1
    go_wp2_with fail
    refine (toIntS_any ga gb go gc gs w8 hgl (hG.below bw8 (Nat.le_refl _))).mono ?_
    rintro e w9 ⟨rfl, hi9, _, b9⟩
    go_wp2_with fail
    refine (calls_bel' (eqIntS_same (some ⟨WX.heap.size, 0, none⟩) WX.heap.size 0 gs.length (some ⟨w8.heap.size, 0, none⟩) w8.heap.size 0 gs.length gs w9 hgl (hi8.below b9 (Nat.le_refl _)) hi9)).mono ?_
    rintro e w10 ⟨rfl, b10⟩
    have b810 := b9.trans (b10.mono b9.size)
    have bA10 := bA8.trans (b810.mono bA8.size)
    have sX10 := sX8.bl' b810
    have sG10 := sG8.bl' b810
    have hsX10 := hsX8.below b810 (Nat.le_refl _)
    have hi10 := hi8.below b810 (Nat.le_refl _)
    have hR10 := hR8.below b810
    have hrw10 := hrw8.below b810
    have hfz10 : ∀ j, w10.frozen? ⟨WX.heap.size, j, none⟩ = false := fun j => (b810.frozen (p := ⟨WX.heap.size, j, none⟩) lX8).trans (hfz8 j)
    have h810 : w8.heap.size ≤ w10.heap.size := b810.size
    clear hi9 b9 b10 b810 bA8 bw8 sX8 sG8 hsX8 hi8 hR8 hrw8 hfz8
    have x1 := sX10.c
    go_wp2_with fail
    refine (markProg_any g4 ll.length WA.heap.size PX ll w10 hl hls hsX10).mono ?_
    rintro e w11 ⟨k, wa, rfl, hk, rfl, mk11⟩
    have bal := below1 w10 (.cells #[.slice (some ⟨g4, 0, none⟩) ll.length ll.length] 25)
    have bA11 : Below WA.heap.size WA w11 := Mk.below (bA10.trans (bal.mono bA10.size)) mk11 (fun j hj => hj.1)
    have hR11 := (hR10.below bal).mkFar mk11 (fun j hj => by have := hszX.out; omega)
    have hPG : WY.heap.size ≤ PG := lG5
    have hrw11 := (hrw10.below bal).mk_ mk11
    have sG11 := (sG10.bl' bal).mkFar mk11 (fun hj => by have := hszX.out; omega)
    have ic11 := ((hi10.below bal (Nat.le_refl _)).toC (fun _ j => (bal.frozen (p := ⟨WX.heap.size, j, none⟩) (show WX.heap.size < w10.heap.size from Nat.lt_of_lt_of_le lX8 h810)).trans (hfz10 j))).mk_ mk11
    clear x1 bal mk11 hR10 hrw10 sG10 hi10 hfz10 sX10 hsX10 bA10
    go_wp2_with fail
    refine (markIntS_any (some ⟨WX.heap.size, 0, none⟩) WX.heap.size 0 gs.length gs.length k w11 hgl hk.1 (by omega) ic11).mono ?_
    rintro e w12 ⟨rfl, _, mk12⟩
    have bA12 : Below WA.heap.size WA w12 := Mk.below bA11 mk12 (fun j hj => by obtain ⟨rfl, _⟩ := hj; have := hszX.out; omega)
    have hR12 := hR11.mkFar mk12 (fun j hj => by obtain ⟨rfl, _⟩ := hj; exact lY)
    have hrw12 := hrw11.mk_ mk12
    have sG12 := sG11.mkFar mk12 (fun hj => by have := hj.1; omega)
    have sW12 := sW.bl' bA12
    have hk2 : ¬ (k + (gs.length : Int) < 0) := by omega
    have hk3 : decide (k + (gs.length : Int) < 0) = false := by simpa using hk2
    clear mk12 hR11 hrw11 sG11 ic11 bA11
    have x2 := sG12.c
    have x3 := sW12.c
    generalize k + (gs.length : Int) = kk at *
    go_wp2_with fail
    obtain ⟨_, g3, _, e3, hss3⟩ := hR12.b.ss
    obtain ⟨rfl, _, rfl⟩ := Value.slice.inj e3
    refine (eqProg_same ai g3 0 ci av gv 0 cv mm w12 hml hmls hss3 (ssW.below bA12 (Nat.le_refl _))).mono ?_
    rintro e w13 ⟨rfl, b13⟩
    have hq1 : rs.length ≤ 1048576 := by have := hrl.out; omega
    have hq2 : ∀ r ∈ rs, r.n ≤ 1048576 := fun r hr => by obtain ⟨t, ht, e⟩ := hrn r hr; have := hmls t ht; omega
    have hrw13 := hrw12.below b13
    have sG13 := sG12.bl' b13
    have bA13 := bA12.trans (b13.mono bA12.size)
    have hAY : WA.heap.size ≤ WY.heap.size := by have := hszX.out; omega
    have hinA : ∀ k, InR rs k → WA.heap.size ≤ k := fun k hk => by have := hin k hk; omega
    have MK := fun W h => markProgv_any ai gi ci rs W hq1 hq2 h
    have HE := fun W h hd => heldProg_any ai gi ci rs W hq1 hq2 h hd
    rw [hrl.out] at MK HE
    have hT := totq_le hq2
    generalize hTq : totq rs = T at *
    have t0 : ¬ (1 + (T : Int) * 3 < 0) := by omega
    clear hTq hT hR12 sG12 sW12 hrw12 hss3 bA12 b13 x2 x3
    have x2 := sG13.c
    go_wp2_with fail
    refine (MK w13 hrw13).mono ?_
    rintro e w14 ⟨rfl, hd14, mk14⟩
    have bal := below1 w13 (.cells #[.slice ai mm.length ci] 25)
    have bA14 : Below WA.heap.size WA w14 := Mk.below (bA13.trans (bal.mono bA13.size)) mk14 hinA
    have hrw14 := (hrw13.below bal).mk_ mk14
    have sG14 := (sG13.bl' bal).mkFar mk14 (fun h => hinG _ h rfl)
    clear x2 sG13 hrw13 mk14 bal bA13
    have x2 := sG14.c
    go_wp2_with fail
    refine (HE w14 hrw14 hd14).mono ?_
    rintro e w15 ⟨rfl, b15⟩
    have bA15 := bA14.trans (b15.mono bA14.size)
    have sG15 := sG14.bl' b15
    have hrw15 := hrw14.below b15
    have hd15 := hd14.below b15
    have sA15 := sA.bl' bA15
    have bw15 := bwA.trans (bA15.mono bwA.size)
    clear x2 sG14 hrw14 hd14 b15 bA14
    have x0 := sA15.c
    go_wp2_with fail
    -- once more
    refine (toProg_any a b o c ll w15 hl hls (h.below bw15 (Nat.le_refl _))).mono ?_
    rintro e w16 ⟨g16, rfl, hs16, b16⟩
    have bw16 := bw15.trans (b16.mono bw15.size)
    go_wp2_with fail
    refine (toIntS_any ga gb go gc gs w16 hgl (hG.below bw16 (Nat.le_refl _))).mono ?_
    rintro e w17 ⟨rfl, hi17, _, b17⟩
    go_wp2_with fail
    refine (CI _ g16 0 ll.length _ w16.heap.size 0 gs.length w17 (hs16.old.below b17 (Nat.le_refl _)) hi17).mono ?_
    rintro e w18 ⟨v18, rfl, ⟨vs18, hR18⟩, b18⟩
    obtain ⟨ah, gh, ch, rfl, hss18⟩ := hR18.b.ss
    have bH := below1 w18 (.cells #[.slice ah mm.length ch] 25)
    have b1518 := (b16.trans (b17.mono b16.size)).trans (b18.mono (Nat.le_trans b16.size b17.size))
    have b15H := b1518.trans (bH.mono b1518.size)
    have bAH := bA15.trans (b15H.mono bA15.size)
    have sGH := sG15.bl' b15H
    have hrwH := hrw15.below b15H
    have hdH := hd15.below b15H
    have sWH := sW.bl' bAH
    have ssWH := ssW.below bAH (Nat.le_refl _)
    have sHH := Slot1.new w18 (.slice ah mm.length ch) 25
    have ssHH := hss18.below bH (Nat.le_refl _)
    clear hR18 hss18 b18 b17 b16 b1518 b15H bH hs16 hi17 sG15 hrw15 hd15 bA15 sA15 x0 bw15 bw16
    have x3 := sWH.c
    have x4 := sHH.c
    go_wp2_with fail
    generalize w18.alloc (.cells #[.slice ah mm.length ch] 25) = WH at *
    generalize w18.heap.size = PH at *
    refine (eqProg_same ah gh 0 ch av gv 0 cv mm WH hml hmls ssHH ssWH).mono ?_
    rintro e w19 ⟨rfl, b19⟩
    have bA19 := bAH.trans (b19.mono bAH.size)
    have sG19 := sGH.bl' b19
    have hrw19 := hrwH.below b19
    have hd19 := hdH.below b19
    clear x3 x4 ssHH ssWH sHH sWH sGH hrwH hdH bAH b19
    have x2 := sG19.c
    go_wp2_with fail
    refine (HE w19 hrw19 hd19).mono ?_
    rintro e w20 ⟨rfl, b20⟩
    have bA20 := bA19.trans (b20.mono bA19.size)
    go_wp2_with fail
    go_ret
    exact ⟨rfl, bwA.trans (bA20.mono bwA.size)⟩
  · have hgl' : (1048576 : Int) < gs.length := by omega
    go_enter Try.func7, Try.ntmps7
    go_wp2_with fail
    go_ret
    exact ⟨rfl, below1 _ _⟩

end Go.Proofs.Ytmbhnkdhoffnmaa
