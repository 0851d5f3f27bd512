/- spec.l22Row: whether numbers are a row. Of at most 1000, rows of at most 1048576 numbers. append of steps onto an empty row that was made: in plain regions, and in those that draw their order. No condition. spec.TurnThreads. Of at most 1048576 threads, steps of a thread and numbers. The law FnTurnOk, walked: it answers true, and leaves all as it was. Of whatever code. -/
import Derived.Test.YtdpoiabohkkbcaaBnOa
import Derived.Deep.RegionLaw
import Derived.Maps.AppendAt
import Derived.Test.YtdpoiabohkkbcaaSProg
import Derived.Test.YtdpoiabohkkbcaaBnOb

namespace Go.Proofs.Ytdpoiabohkkbcaa
open Go.RowKit

set_option maxHeartbeats 400000 in
set_option maxRecDepth 100000 in
theorem l22Row_any (a : Option Addr) (b o c : Nat) (row : List Int) (m : Nat) (w : World) (hl : row.length ≤ 1048576) (hm : m ≤ 1000) (h : IntS w a b o row) :
    Calls Try.prog 49 #[.slice a row.length c, .int .i64 m] w fun e w' => e = .returned (.bool (M.rowN row m)) ∧ w' = w := by
  by_cases hln : row.length = m
  · have HF : Hid (M.rowN row m = (M.bel m).all (fun v => M.has row v)) := M.rowOf_same (by rw [M.bel_len]; exact hln)
    have hq : ((row.length : Int) != m) = false := by simp; omega
    have HL : Hid (row.length = m) := hln
    clear hln
    go_enter Try.func49, Try.ntmps49
    go_wp2_with fail
    go_loopw [5] (fun s5 wr => ∃ n : Nat, s5 = .int .i64 n ∧ n ≤ m ∧ Hid ((M.bel m).all (fun v => M.has row v) = ((M.bel m).drop n).all (fun v => M.has row v)) ∧ wr = w) (fun s5 _ => m - (intOf s5).toNat)
    case atStart => exact ⟨0, rfl, Nat.zero_le _, by show _ = _; rfl, rfl⟩
    case round =>
      obtain ⟨n, rfl, hn, HA, rfl⟩ := hrel
      by_cases hlt : n < m
      · have hlt2 : n < (M.bel m).length := by rw [M.bel_len]; exact hlt
        have HS : Hid ((M.bel m).all (fun v => M.has row v) = (M.has row (n : Int) && ((M.bel m).drop (n + 1)).all (fun v => M.has row v))) := by
          have := M.rowAll_step HA.out hlt2
          rw [M.bel_get] at this
          exact this
        clear HA hlt2
        have i1 : (n : Int) < m := by omega
        cases hh : M.has row (n : Int)
        · go_wp2_with (go_at_call 53; refine (l12Has_any a b o c row n _ hl h).mono ?_; rw [hh]; rintro e w' ⟨rfl, rfl⟩)
          go_ret
          exact ⟨ret_bool (by rw [HF.out, HS.out, hh]; rfl), rfl⟩
        · go_wp2_with (go_at_call 53; refine (l12Has_any a b o c row n _ hl h).mono ?_; rw [hh]; rintro e w' ⟨rfl, rfl⟩)
          exact ⟨⟨n + 1, by go_num, by omega, by show _ = _; rw [HS.out, hh]; rfl, trivial⟩, by simp [intOf]; omega⟩
      · have i1 : ¬ (n : Int) < m := by omega
        go_wp2_with fail
        go_ret
        exact ⟨ret_bool (by rw [HF.out, HA.out, List.drop_eq_nil_of_le (by rw [M.bel_len]; omega)]; rfl), rfl⟩
  · have hln' : ((row.length : Int) == m) = false := by simp; omega
    go_enter Try.func49, Try.ntmps49
    go_wp2_with fail
    go_ret
    exact ⟨ret_bool (M.rowOf_short (by rw [M.bel_len]; exact hln)).symm, rfl⟩

end Go.Proofs.Ytdpoiabohkkbcaa

namespace Go.Proofs.Ytdpoiabohkkbcaa
open Go.RowKit

theorem run_append_emp0 {P : Program} (w : World) (t ty e : TypeId) (i : TypeInfo) (ht : P.underlying t = some (.slice e)) (hi : P.info? e = some i) (ad : Addr) (a : Option Addr) (c : Nat) :
    (Builtin.append_ #[t, t] ty #[.slice (some ad) 0 0, .slice a 0 c]).run P w = .ok (.slice (some ad) 0 0) w := by
  cases a
  · simp [Builtin.append_, run_underlying ht, sizeOf, typeInfo, hi, Builtin.lenOf, Builtin.firstCells, storeCells]
  · simp [Builtin.append_, run_underlying ht, sizeOf, typeInfo, hi, Builtin.lenOf, Builtin.firstCells, loadCells, loadCellsFrom, storeCells]
theorem grow_refl (w : World) (row : Option Nat) : w.grownBy w row := ⟨rfl, rfl, rfl, Nat.le_refl _, fun _ _ _ => rfl⟩
theorem own_emp {X : World} {base g size : Nat} {e : TypeId} (h : X.heap[g]? = some (.cells #[] e (0, 0))) (hb : base ≤ g) : X.ownsRow base e size (.slice (some ⟨g, 0, none⟩) 0 0) 0 [] :=
  ⟨by simp, .inr ⟨g, 0, #[], rfl, hb, h, Nat.le_refl _, Nat.zero_le _, by simp, by simp⟩⟩

theorem wp_append_does {P : Program} {o : Oper} {a : Act} {w : World} {K : Act → World → Prop} {Q : Exit → Act → World → Prop} (s x : Operand) (t : TypeId)
    (ho : o.op = .call { callee := .builtin .append, args := #[s, x], argTypes := #[t, t] }) (d : Option Tmp) (hd : o.dst = d) (base : Nat) (e : TypeId) (i : TypeInfo) (ht : P.underlying t = some (.slice e)) (hi : P.info? e = some i) (hz0 : i.zero = some (.agg #[.int .i64 0, .int .i64 0, .int .i64 0])) (hz1 : i.size = 3) (hz2 : i.bytes = 24)
    (g : Nat) (hs : a.eval s = .slice (some ⟨g, 0, none⟩) 0 0) (hown : w.ownsRow base e 3 (.slice (some ⟨g, 0, none⟩) 0 0) 0 []) (hbase : base ≤ w.heap.size) (sa : Option Addr) (b off c : Nat) (l : List M.D) (hx : a.eval x = .slice sa l.length c) (hI : DoS w sa b off l) (hl : l.length ≤ 1048576)
    (h : ∀ v' w', w'.ownsRow base e 3 v' l.length (flat l) → w.grownBy w' (some g) → (v'.ownBlock = some g ∨ v'.ownBlock = some w.heap.size) → K (a.put d v') w') :
    Oper.wp P o a w K Q := by
  subst hd
  cases sa with
  | none =>
    have hl0 : l = [] := by
      rcases Nat.eq_zero_or_pos l.length with h0 | h0
      · exact List.length_eq_zero_iff.1 h0
      · cases hI.addr h0
    subst hl0
    rw [List.length_nil] at hx
    have hrun := run_append_emp0 (P := P) w t o.type e i ht hi ⟨g, 0, none⟩ none c
    have hk := h (.slice (some ⟨g, 0, none⟩) 0 0) w hown (grow_refl _ _) (.inl rfl)
    unfold Oper.wp
    simp [execOp, ho, resolve, invoke, builtin, hs, hx, hrun, Result.andThen]
    exact hk
  | some ad =>
    have hn : ∀ j u, (flat l)[j]? = some u → w.cell? (ad.add j) = some u := fun j u hj => by
      have hjl := (List.getElem?_eq_some_iff.1 hj).1
      rw [flat_length] at hjl
      obtain ⟨rfl⟩ := hI.addr (by omega)
      exact DoS.flat_cells hI.row j u hj
    obtain ⟨v', w', hrun, h2, h3, _, h5⟩ := run_append_own_at (P := P) w base t o.type e i (.agg #[.int .i64 0, .int .i64 0, .int .i64 0]) 3 24 ht hi hz0 hz1 hz2 rfl (by decide) (.slice (some ⟨g, 0, none⟩) 0 0) 0 [] hown ad l.length c (flat l) (flat_length l) hn (flat_one' l) (by unfold maxLen; omega) (by omega) hbase
    have hk := h v' w' (by simpa using h2) h3 h5
    unfold Oper.wp
    simp [execOp, ho, resolve, invoke, builtin, hs, hx, hrun, Result.andThen]
    exact hk
theorem step_append_does {P : Program} {ops : Array Oper} {o : Oper} {a : Act} {w : World} {K : Act → World → Prop} {Q : Exit → Act → World → Prop} {E : Prop} (hgd : o.guard = none) (s x : Operand) (t : TypeId)
    (ho : o.op = .call { callee := .builtin .append, args := #[s, x], argTypes := #[t, t] }) (d : Option Tmp) (hd : o.dst = d) (base : Nat) (e : TypeId) (i : TypeInfo) (ht : P.underlying t = some (.slice e)) (hi : P.info? e = some i) (hz0 : i.zero = some (.agg #[.int .i64 0, .int .i64 0, .int .i64 0])) (hz1 : i.size = 3) (hz2 : i.bytes = 24)
    (g : Nat) (hs : a.eval s = .slice (some ⟨g, 0, none⟩) 0 0) (hown : w.ownsRow base e 3 (.slice (some ⟨g, 0, none⟩) 0 0) 0 []) (hbase : base ≤ w.heap.size) (sa : Option Addr) (b off c : Nat) (l : List M.D) (hx : a.eval x = .slice sa l.length c) (hI : DoS w sa b off l) (hl : l.length ≤ 1048576)
    (h : ∀ v' w', w'.ownsRow base e 3 v' l.length (flat l) → w.grownBy w' (some g) → (v'.ownBlock = some g ∨ v'.ownBlock = some w.heap.size) → K (a.put d v') w') :
    if Region.wanted o (yielded ops a.tmps) = true then Oper.wp P o a w K Q else E := by
  have hw : Region.wanted o (yielded ops a.tmps) = true := by simp [Region.wanted, hgd]
  rw [if_pos hw]
  exact wp_append_does s x t ho d hd base e i ht hi hz0 hz1 hz2 g hs hown hbase sa b off c l hx hI hl h
theorem wpList_append_does {P : Program} {ops : Array Oper} {rest : List Oper} {o : Oper} {a : Act} {w : World} {Q : Exit → Act → World → Prop} (hgd : o.guard = none) (s x : Operand) (t : TypeId)
    (ho : o.op = .call { callee := .builtin .append, args := #[s, x], argTypes := #[t, t] }) (d : Option Tmp) (hd : o.dst = d) (base : Nat) (e : TypeId) (i : TypeInfo) (ht : P.underlying t = some (.slice e)) (hi : P.info? e = some i) (hz0 : i.zero = some (.agg #[.int .i64 0, .int .i64 0, .int .i64 0])) (hz1 : i.size = 3) (hz2 : i.bytes = 24)
    (g : Nat) (hs : a.eval s = .slice (some ⟨g, 0, none⟩) 0 0) (hown : w.ownsRow base e 3 (.slice (some ⟨g, 0, none⟩) 0 0) 0 []) (hbase : base ≤ w.heap.size) (sa : Option Addr) (b off c : Nat) (l : List M.D) (hx : a.eval x = .slice sa l.length c) (hI : DoS w sa b off l) (hl : l.length ≤ 1048576)
    (h : ∀ v' w', w'.ownsRow base e 3 v' l.length (flat l) → w.grownBy w' (some g) → (v'.ownBlock = some g ∨ v'.ownBlock = some w.heap.size) → wpList P ops Q rest (a.put d v') w') :
    wpList P ops Q (o :: rest) a w :=
  wpList_plain hgd fun _ hK => wp_append_does s x t ho d hd base e i ht hi hz0 hz1 hz2 g hs hown hbase sa b off c l hx hI hl fun v' w' h1 h2 h3 => by
    subst hd
    exact hK _ _ (h v' w' h1 h2 h3)

end Go.Proofs.Ytdpoiabohkkbcaa

namespace Go.Proofs.Ytdpoiabohkkbcaa
open Go.RowKit

set_option maxHeartbeats 4000000 in
set_option maxRecDepth 100000 in
set_option linter.unusedSimpArgs false in
theorem sturnThreads_any (a : Option Addr) (b o c : Nat) (ll : List (List M.D)) (hl : ll.length ≤ 1048576) (hls : ∀ t ∈ ll, t.length ≤ 1048576) (ga : Option Addr) (gb go gc : Nat) (gs : List Int) (hgl : gs.length ≤ 1048576) (w : World) (h : DoSS w a b o ll) (hG : IntS w ga gb go gs) :
    Calls Try.prog 19 #[.agg #[.slice a ll.length c], .slice ga gs.length gc] w fun e w' => ∃ v, e = .returned (.tuple #[.agg #[v], .bool (M.turnThreads ll gs).isSome]) ∧ (∃ vs, Rdg w' w.heap.size v ((M.turnThreads ll gs).getD []) vs) ∧ Below w.heap.size w w' := by
  obtain ⟨i0, hi, hz0, hz1, hz2⟩ := info_parts Try.info58
  obtain ⟨j0, hj, hy0, hy1, hy2⟩ := info_parts Try.info55
  have b2 := below2 w (.cells #[.slice a ll.length c] 25) (.cells #[.slice none 0 0] 25)
  have h2 := h.below b2 (Nat.le_refl _)
  have hG2 := hG.below b2 (Nat.le_refl _)
  have hX := (Slot1.new w (.slice a ll.length c) 25).bl' (below1 _ (.cells #[.slice none 0 0] 25))
  have hY := Slot1.new (w.alloc (.cells #[.slice a ll.length c] 25)) (.slice none 0 0) 25
  rw [World.size_alloc] at hY
  go_enter Try.func19, Try.ntmps19
  cases hp : M.prog ll
  · have hno := M.turnThreads_bad (row := gs) hp
    have CP := sprog_any a b o c ll _ hl hls h2
    rw [hp] at CP
    go_wp2_with (first | (go_at_call 13; refine CP.mono ?_; rintro e W1 ⟨rfl, b1⟩; have hY1 := hY.bl' b1; have y0 := hY1.c; have yf := hY1.fz; have ly := hY1.lt))
    have bw1 := b2.trans (b1.mono b2.size)
    have q1 := (hY1.set (.slice none 0 0)).c
    exact bodyPost_ret (v := .tuple #[.agg #[.slice none 0 0], .bool false]) (by simp [results, Try.results19, go_sem, q1]) rfl ⟨_, by rw [hno]; rfl, ⟨[], by rw [hno]; exact Rdg.nil _ _⟩, bw1.setCell (by show w.heap.size ≤ w.heap.size + 1; omega) _⟩
  · obtain ⟨h3, h7⟩ := M.prog_le hp
    have CP := sprog_any a b o c ll _ hl hls h2
    rw [hp] at CP
    have CO := fun W hW => l22Row_any ga gb go gc gs ll.length W hgl (by omega) hW
    cases hok : M.rowN gs ll.length
    · have hno := M.turnThreads_row (ll := ll) hok
      rw [hok] at CO
      go_wp2_with (first | (go_at_call 13; refine CP.mono ?_; rintro e W1 ⟨rfl, b1⟩; have hX1 := hX.bl' b1; have x0 := hX1.c; have hG1 := hG2.below b1 (Nat.le_refl _); have hY1 := hY.bl' b1; have y0 := hY1.c; have yf := hY1.fz; have ly := hY1.lt) | (go_at_call 49; refine (CO _ hG1).mono ?_; rintro e W2 ⟨rfl, rfl⟩))
      have bw1 := b2.trans (b1.mono b2.size)
      have q1 := (hY1.set (.slice none 0 0)).c
      exact bodyPost_ret (v := .tuple #[.agg #[.slice none 0 0], .bool false]) (by simp [results, Try.results19, go_sem, q1]) rfl ⟨_, by rw [hno]; rfl, ⟨[], by rw [hno]; exact Rdg.nil _ _⟩, bw1.setCell (by show w.heap.size ≤ w.heap.size + 1; omega) _⟩
    · rw [hok] at CO
      have hyes := M.turnThreads_yes hp hok
      have HY1 : Hid ((M.turnThreads ll gs).isSome = true) := by show _ = _; rw [hyes]; rfl
      have HY2 : Hid ((M.turnThreads ll gs).getD [] = M.pick [] gs ll) := by show _ = _; rw [hyes]; rfl
      have HR : Hid (M.rowN gs ll.length = true) := hok
      have HL : Hid (gs.length = ll.length) := M.rowN_len hok
      clear hyes hok hp
      go_wp2_with (first | (go_at_call 13; refine CP.mono ?_; rintro e W1 ⟨rfl, b1⟩; have hX1 := hX.bl' b1; have x0 := hX1.c; have hG1 := hG2.below b1 (Nat.le_refl _); have hY1 := hY.bl' b1) | (go_at_call 49; refine (CO _ hG1).mono ?_; rintro e W2 ⟨rfl, rfl⟩))
      have bw1 := b2.trans (b1.mono b2.size)
      have bA := below1 W2 (.cells #[.slice none 0 0] 25)
      have hXA := hX1.bl' bA
      have hYA := hY1.bl' bA
      have hZA := Slot1.new W2 (.slice none 0 0) 25
      have lX := hX1.lt
      have lY := hY1.lt
      have hD := h.below bw1 (Nat.le_refl _)
      generalize W2.alloc (.cells #[.slice none 0 0] 25) = WA at *
      have hX1c := hX1.c
      clear CP CO x0 hX hY h2 hG2 b2 b1 hX1
      go_loopw [7] (fun s7 wr => ∃ (n : Nat) (v : Value) (vs : List Value), s7 = .int .i64 n ∧ n ≤ gs.length ∧ Rdg wr (W2.heap.size + 1) v (M.pick [] (gs.take n) ll) vs ∧ Slot1 wr W2.heap.size v ∧ Slot1 wr (w.heap.size + 1) (.slice none 0 0) ∧ Below W2.heap.size W2 wr) (fun s7 _ => gs.length - (intOf s7).toNat)
      case atStart => exact ⟨0, .slice none 0 0, [], rfl, Nat.zero_le _, by simpa [M.pick] using Rdg.nil _ _, hZA, hYA, bA⟩
      case round =>
        obtain ⟨n, v, vs, rfl, hn, hR, hP, hY, hbel⟩ := hrel
        clear hZA hXA hYA bA
        by_cases hlt : n < gs.length
        · obtain ⟨rfl⟩ := hG1.addr (by omega)
          have hg0 := hG1.row n hlt
          have HB : Hid (M.pick [] (gs.take (n + 1)) ll = M.pick [] (gs.take n) ll ++ [ll.getD gs[n].toNat []]) := M.pick_take [] gs ll n hlt
          obtain ⟨r0, r1⟩ := M.rowN_get HR.out n hlt
          generalize gs[n] = y at *
          obtain ⟨j, rfl⟩ : ∃ j : Nat, y = j := ⟨y.toNat, by omega⟩
          have hjl : j < ll.length := by omega
          obtain ⟨rfl⟩ := h.addr (by omega)
          obtain ⟨a', b', o', c', hc, hd0⟩ := hD.row j hjl
          have HW : Hid (M.pick [] (gs.take (n + 1)) ll = M.pick [] (gs.take n) ll ++ [ll[j]]) := by show _ = _; rw [HB.out]; congr 2; exact M.getD_get hjl
          clear HB
          have hmm : (M.pick [] (gs.take n) ll).length ≤ 1048576 := by rw [M.pick_len]; simp; omega
          have ht := hls _ (List.getElem_mem hjl)
          generalize ll[j] = t at *
          generalize M.pick [] (gs.take n) ll = mm at *
          have i1 : (n : Int) < gs.length := by omega
          have i2 : (j : Int) < ll.length := by omega
          obtain ⟨av, gv, cv, rfl, _⟩ := hR.b.ss
          have x0 := hP.c
          have lP := hP.lt
          have CX : ∀ w', Below W2.heap.size W2 w' → w'.cell? ⟨w.heap.size, 0, none⟩ = some (.slice (some ⟨b, o, none⟩) ll.length c) := fun w' hw => (hw.cell (p := ⟨w.heap.size, 0, none⟩) lX).trans hX1c
          have CG : ∀ w', Below W2.heap.size W2 w' → w'.cell? ⟨gb, go + n, none⟩ = some (.int .i64 j) := fun w' hw => (hw.cell (p := ⟨gb, go + n, none⟩) (World.block_lt_of_cell? _ _ hg0)).trans hg0
          have CT : ∀ w', Below W2.heap.size W2 w' → w'.cell? ⟨b, o + j, none⟩ = some (.slice a' t.length c') := fun w' hw => (hw.cell (p := ⟨b, o + j, none⟩) (World.block_lt_of_cell? _ _ hc)).trans hc
          have bE : Below wr.heap.size wr (wr.drew.alloc (.cells #[] 55)) := (Below.refl wr.heap.size wr).drew.alloc (Nat.le_refl _) _
          have SA : Below W2.heap.size W2 (wr.drew.alloc (.cells #[] 55)) := hbel.trans (bE.mono hbel.size)
          have SXA := (hP.bl' bE).c
          have OA : (wr.drew.alloc (.cells #[] 55)).ownsRow wr.heap.size 55 3 (.slice (some ⟨wr.heap.size, 0, none⟩) 0 0) 0 [] := own_emp (heap_alloc_new wr.drew _) (Nat.le_refl _)
          have DA : DoS (wr.drew.alloc (.cells #[] 55)) a' b' o' t := hd0.below SA (Nat.le_refl _)
          have F4 : Hid (∀ (w4 : World) (v4 : Value), w4.ownsRow wr.heap.size 55 3 v4 t.length (flat t) → (wr.drew.alloc (.cells #[] 55)).grownBy w4 (some wr.heap.size) → ∃ a4 c4, v4 = .slice a4 t.length c4 ∧ Below wr.heap.size wr w4 ∧ Slot1 w4 W2.heap.size (.slice av mm.length cv) ∧ Rdg w4 (W2.heap.size + 1) (.slice av mm.length cv) mm vs) := by
            intro w4 v4 ho hg
            obtain ⟨a4, c4, e⟩ := own_slx ho
            have b4 : Below wr.heap.size wr w4 := below_grown bE hg (fun j hj => by have : wr.heap.size = j := Option.some.inj hj; omega) bE.size
            exact ⟨a4, c4, e, b4, hP.bl' b4, hR.below b4⟩
          have F5 : Hid (∀ (w4 : World) (a4 : Option Addr) (c4 : Nat), Below wr.heap.size wr w4 → w4.ownsRow wr.heap.size 55 3 (.slice a4 t.length c4) t.length (flat t) → ∀ (g5 cap5 : Nat) (w5 : World), w5.ownsRow (W2.heap.size + 1) 58 1 (.slice (some ⟨g5, 0, none⟩) (mm.length + 1) cap5) (mm.length + 1) (vs ++ [.slice a4 t.length c4]) → (w4.alloc (.cells #[.slice a4 t.length c4] 58)).grownBy w5 (Value.slice av mm.length cv).ownBlock → Below W2.heap.size W2 w5 ∧ Slot1 w5 W2.heap.size (.slice av mm.length cv) ∧ Slot1 w5 (w.heap.size + 1) (.slice none 0 0) ∧ Rdg w5 (W2.heap.size + 1) (.slice (some ⟨g5, 0, none⟩) (mm.length + 1) cap5) (mm ++ [t]) (vs ++ [.slice a4 t.length c4])) := by
            intro w4 a4 c4 b4 hx4 g5 cap5 w5 ho hg
            have hal := below1 w4 (.cells #[.slice a4 t.length c4] 58)
            have hge := own_ge hR.b.outer
            have b4a := b4.trans (hal.mono b4.size)
            have bwa := hbel.trans (b4a.mono hbel.size)
            refine ⟨below_grown bwa hg (fun j hj => by have := hge j hj; omega) bwa.size, (hP.bl' b4a).apart hg (fun e => by have := hge _ e; omega), (hY.bl' b4a).apart hg (fun e => by have := hge _ e; omega), ((hR.below b4).below hal).snocT (ownsRow_mono (ownsRow_below hx4 hal) (by omega)) (fun i hi j hj e => ?_) ho hg⟩
            have h1 := ((hR.b.inner i (by have := hR.b.len; omega) hi).lt j hj).2
            have h2 := own_ge hx4 j e
            omega
          go_wp2_with fail
          refine wp_region_held_drew (S := fun w' => Below W2.heap.size W2 w') (by kernel_rfl) hbel.drew (fun hH => ?_)
          refine takeD 0 (some 27) (.pointer (some ⟨W2.heap.size, 0, none⟩)) hH rfl rfl (by kernel_rfl) (by kernel_rfl) (by kernel_rfl) (fun _ _ _ h => h) (Or.inl ⟨by rfl, by intro w' hSw; go_simp⟩) ?_
          simp only [Act.put, List.setIfInBounds_toArray, List.set_cons_zero, List.set_cons_succ]
          refine takeD 3 (some 30) (.pointer (some ⟨w.heap.size, 0, none⟩)) hH rfl rfl (by kernel_rfl) (by kernel_rfl) (by kernel_rfl) (fun _ _ _ h => h) (Or.inl ⟨by rfl, by intro w' hSw; go_simp⟩) ?_
          simp only [Act.put, List.setIfInBounds_toArray, List.set_cons_zero, List.set_cons_succ]
          refine takeD 4 (some 31) (.slice (some ⟨b, o, none⟩) ll.length c) hH rfl rfl (by kernel_rfl) (by kernel_rfl) (by kernel_rfl) (fun _ _ _ h => h) (Or.inl ⟨by rfl, by intro w' hSw; have hc := CX w' hSw; go_simp⟩) ?_
          simp only [Act.put, List.setIfInBounds_toArray, List.set_cons_zero, List.set_cons_succ]
          refine takeD 5 (some 32) (.slice (some ⟨gb, go, none⟩) gs.length gc) hH rfl rfl (by kernel_rfl) (by kernel_rfl) (by kernel_rfl) (fun _ _ _ h => h) (Or.inl ⟨by rfl, by intro w' hSw; go_simp⟩) ?_
          simp only [Act.put, List.setIfInBounds_toArray, List.set_cons_zero, List.set_cons_succ]
          refine takeD 6 (some 33) (.int .i64 n) hH rfl rfl (by kernel_rfl) (by kernel_rfl) (by kernel_rfl) (fun _ _ _ h => h) (Or.inl ⟨by rfl, by intro w' hSw; go_simp⟩) ?_
          simp only [Act.put, List.setIfInBounds_toArray, List.set_cons_zero, List.set_cons_succ]
          refine takeD 7 (some 34) (.pointer (some ⟨gb, go + n, none⟩)) hH rfl rfl (by kernel_rfl) (by kernel_rfl) (by kernel_rfl) (fun _ _ _ h => h) (Or.inl ⟨by rfl, by intro w' hSw; go_simp⟩) ?_
          simp only [Act.put, List.setIfInBounds_toArray, List.set_cons_zero, List.set_cons_succ]
          refine takeD 8 (some 35) (.int .i64 j) hH rfl rfl (by kernel_rfl) (by kernel_rfl) (by kernel_rfl) (fun _ _ _ h => h) (Or.inl ⟨by rfl, by intro w' hSw; have hc := CG w' hSw; go_simp⟩) ?_
          simp only [Act.put, List.setIfInBounds_toArray, List.set_cons_zero, List.set_cons_succ]
          refine takeD 9 (some 36) (.pointer (some ⟨b, o + j, none⟩)) hH rfl rfl (by kernel_rfl) (by kernel_rfl) (by kernel_rfl) (fun _ _ _ h => h) (Or.inl ⟨by rfl, by intro w' hSw; go_simp⟩) ?_
          simp only [Act.put, List.setIfInBounds_toArray, List.set_cons_zero, List.set_cons_succ]
          refine takeD 10 (some 37) (.slice a' t.length c') hH rfl rfl (by kernel_rfl) (by kernel_rfl) (by kernel_rfl) (fun _ _ _ h => h) (Or.inl ⟨by rfl, by intro w' hSw; have hc := CT w' hSw; go_simp⟩) ?_
          simp only [Act.put, List.setIfInBounds_toArray, List.set_cons_zero, List.set_cons_succ]
          refine wpAnyH_ready (rs := [1, 2]) (by kernel_rfl) (by simp) ?_
          refine AllReadyH.cons rfl (fun K' hK => ?_) (AllReadyH.cons rfl (fun K' hK => ?_) AllReadyH.nil)
          · have xx := x0
            rw [if_pos (by rfl)]
            go_simp
            refine hK.out _ _ hH (fun _ => ?_)
            clear hK K' xx
            refine wpAnyH_ready (rs := [2]) (by kernel_rfl) (by simp) ?_
            refine AllReadyH.cons rfl (fun K' hK => ?_) AllReadyH.nil
            rw [if_pos (by rfl)]
            go_simp
            refine hK.out _ _ SA (fun _ => ?_)
            clear hK K'
            refine wpAnyH_ready (rs := [11]) (by kernel_rfl) (by simp) ?_
            refine AllReadyH.cons rfl (fun K' hK => ?_) AllReadyH.nil
            refine step_append_does (by rfl) (.tmp 29) (.tmp 37) 58 (by rfl) (some 38) rfl wr.heap.size 55 j0 Try.underlying58 hj hy0 hy1 hy2 wr.heap.size (by rfl) OA (by simp) a' b' o' c' t (by rfl) DA ht ?_
            intro v4 w4 ho4 hg4 hat4
            obtain ⟨a4, c4, rfl, b4, hS4, hR4⟩ := F4.out w4 v4 ho4 hg4
            simp only [Act.put, List.setIfInBounds_toArray, List.set_cons_zero, List.set_cons_succ]
            refine hK.out _ _ (hbel.trans (b4.mono hbel.size)) (fun hH4 => ?_)
            clear hK K'
            have hS4a := hS4.bl' (below1 w4 (.cells #[.slice a4 t.length c4] 58))
            have S4a : Below W2.heap.size W2 (w4.alloc (.cells #[.slice a4 t.length c4] 58)) := hH4.alloc hH4.size _
            refine wpAnyH_ready (rs := [12]) (by kernel_rfl) (by simp) ?_
            refine AllReadyH.cons rfl (fun K' hK => ?_) AllReadyH.nil
            rw [if_pos (by rfl)]
            go_simp
            refine hK.out _ _ S4a (fun _ => ?_)
            clear hK K'
            refine wpAnyH_ready (rs := [13]) (by kernel_rfl) (by simp) ?_
            refine AllReadyH.cons rfl (fun K' hK => ?_) AllReadyH.nil
            refine step_append_lies _ (by rfl) (.tmp 28) (.tmp 39) 23 (by rfl) (W2.heap.size + 1) 58 i0 _ 1 24 Try.underlying23 hi hz0 hz1 hz2 rfl (by decide) (.slice av mm.length cv) mm.length vs (by rfl) ((hR4.b.outer).alloc _) ⟨w4.heap.size, 0, none⟩ 1 1 [.slice a4 t.length c4] (by rfl) (by rfl) (World.news_of_block (cs := #[.slice a4 t.length c4]) (t := 58) (fr := (0, 0)) (heap_alloc_new w4 _)) (by simp [Value.oneCell']) (by omega) (by unfold maxLen; omega) (by omega) (by have := b4.size; simp; omega) (w4.heap.size + 1) (by simp) ?_
            intro g5 cap5 w5 hown5 hg5 hat5 hlt5
            obtain ⟨b5, hS5, hQ5, hR5⟩ := F5.out w4 a4 c4 b4 ho4 g5 cap5 w5 hown5 hg5
            simp only [Act.put, List.setIfInBounds_toArray, List.set_cons_zero, List.set_cons_succ]
            refine hK.out _ _ b5 (fun hH5 => ?_)
            clear hK K'
            refine takeD 14 (some 41) (.pointer (some ⟨W2.heap.size, 0, none⟩)) hH5 rfl rfl (by kernel_rfl) (by kernel_rfl) (by kernel_rfl) (fun _ _ _ h => h) (Or.inl ⟨by rfl, by intro w' hSw; go_simp⟩) ?_
            simp only [Act.put, List.setIfInBounds_toArray, List.set_cons_zero, List.set_cons_succ]
            refine wpAnyH_ready (rs := [15]) (by kernel_rfl) (by simp) ?_
            refine AllReadyH.cons rfl (fun K' hK => ?_) AllReadyH.nil
            have xc := hS5.c
            have xz := hS5.fz
            rw [if_pos (by rfl)]
            go_simp
            refine hK.out _ _ (b5.setCell (Nat.le_refl _) _) (fun _ => ?_)
            clear hK K'
            refine wpAnyH_done (by kernel_rfl) ?_ _
            clear xc xz
            go_wp2_with fail
            exact ⟨⟨n + 1, _, _, by go_num, by omega, by rw [HW.out]; exact hR5.far (by omega) _, hS5.set _, hQ5.far (by omega) _, b5.setCell (Nat.le_refl _) _⟩, by simp [intOf]; omega⟩
          · rw [if_pos (by rfl)]
            go_simp
            refine hK.out _ _ SA (fun _ => ?_)
            clear hK K'
            refine wpAnyH_ready (rs := [1, 11]) (by kernel_rfl) (by simp) ?_
            refine AllReadyH.cons rfl (fun K' hK => ?_) (AllReadyH.cons rfl (fun K' hK => ?_) AllReadyH.nil)
            · have xx := SXA
              rw [if_pos (by rfl)]
              go_simp
              refine hK.out _ _ SA (fun _ => ?_)
              clear hK K' xx
              refine wpAnyH_ready (rs := [11]) (by kernel_rfl) (by simp) ?_
              refine AllReadyH.cons rfl (fun K' hK => ?_) AllReadyH.nil
              refine step_append_does (by rfl) (.tmp 29) (.tmp 37) 58 (by rfl) (some 38) rfl wr.heap.size 55 j0 Try.underlying58 hj hy0 hy1 hy2 wr.heap.size (by rfl) OA (by simp) a' b' o' c' t (by rfl) DA ht ?_
              intro v4 w4 ho4 hg4 hat4
              obtain ⟨a4, c4, rfl, b4, hS4, hR4⟩ := F4.out w4 v4 ho4 hg4
              simp only [Act.put, List.setIfInBounds_toArray, List.set_cons_zero, List.set_cons_succ]
              refine hK.out _ _ (hbel.trans (b4.mono hbel.size)) (fun hH4 => ?_)
              clear hK K'
              have hS4a := hS4.bl' (below1 w4 (.cells #[.slice a4 t.length c4] 58))
              have S4a : Below W2.heap.size W2 (w4.alloc (.cells #[.slice a4 t.length c4] 58)) := hH4.alloc hH4.size _
              refine wpAnyH_ready (rs := [12]) (by kernel_rfl) (by simp) ?_
              refine AllReadyH.cons rfl (fun K' hK => ?_) AllReadyH.nil
              rw [if_pos (by rfl)]
              go_simp
              refine hK.out _ _ S4a (fun _ => ?_)
              clear hK K'
              refine wpAnyH_ready (rs := [13]) (by kernel_rfl) (by simp) ?_
              refine AllReadyH.cons rfl (fun K' hK => ?_) AllReadyH.nil
              refine step_append_lies _ (by rfl) (.tmp 28) (.tmp 39) 23 (by rfl) (W2.heap.size + 1) 58 i0 _ 1 24 Try.underlying23 hi hz0 hz1 hz2 rfl (by decide) (.slice av mm.length cv) mm.length vs (by rfl) ((hR4.b.outer).alloc _) ⟨w4.heap.size, 0, none⟩ 1 1 [.slice a4 t.length c4] (by rfl) (by rfl) (World.news_of_block (cs := #[.slice a4 t.length c4]) (t := 58) (fr := (0, 0)) (heap_alloc_new w4 _)) (by simp [Value.oneCell']) (by omega) (by unfold maxLen; omega) (by omega) (by have := b4.size; simp; omega) (w4.heap.size + 1) (by simp) ?_
              intro g5 cap5 w5 hown5 hg5 hat5 hlt5
              obtain ⟨b5, hS5, hQ5, hR5⟩ := F5.out w4 a4 c4 b4 ho4 g5 cap5 w5 hown5 hg5
              simp only [Act.put, List.setIfInBounds_toArray, List.set_cons_zero, List.set_cons_succ]
              refine hK.out _ _ b5 (fun hH5 => ?_)
              clear hK K'
              refine takeD 14 (some 41) (.pointer (some ⟨W2.heap.size, 0, none⟩)) hH5 rfl rfl (by kernel_rfl) (by kernel_rfl) (by kernel_rfl) (fun _ _ _ h => h) (Or.inl ⟨by rfl, by intro w' hSw; go_simp⟩) ?_
              simp only [Act.put, List.setIfInBounds_toArray, List.set_cons_zero, List.set_cons_succ]
              refine wpAnyH_ready (rs := [15]) (by kernel_rfl) (by simp) ?_
              refine AllReadyH.cons rfl (fun K' hK => ?_) AllReadyH.nil
              have xc := hS5.c
              have xz := hS5.fz
              rw [if_pos (by rfl)]
              go_simp
              refine hK.out _ _ (b5.setCell (Nat.le_refl _) _) (fun _ => ?_)
              clear hK K'
              refine wpAnyH_done (by kernel_rfl) ?_ _
              clear xc xz
              go_wp2_with fail
              exact ⟨⟨n + 1, _, _, by go_num, by omega, by rw [HW.out]; exact hR5.far (by omega) _, hS5.set _, hQ5.far (by omega) _, b5.setCell (Nat.le_refl _) _⟩, by simp [intOf]; omega⟩
            · refine step_append_does (by rfl) (.tmp 29) (.tmp 37) 58 (by rfl) (some 38) rfl wr.heap.size 55 j0 Try.underlying58 hj hy0 hy1 hy2 wr.heap.size (by rfl) OA (by simp) a' b' o' c' t (by rfl) DA ht ?_
              intro v4 w4 ho4 hg4 hat4
              obtain ⟨a4, c4, rfl, b4, hS4, hR4⟩ := F4.out w4 v4 ho4 hg4
              simp only [Act.put, List.setIfInBounds_toArray, List.set_cons_zero, List.set_cons_succ]
              refine hK.out _ _ (hbel.trans (b4.mono hbel.size)) (fun hH4 => ?_)
              clear hK K'
              have hS4a := hS4.bl' (below1 w4 (.cells #[.slice a4 t.length c4] 58))
              have S4a : Below W2.heap.size W2 (w4.alloc (.cells #[.slice a4 t.length c4] 58)) := hH4.alloc hH4.size _
              refine wpAnyH_ready (rs := [1, 12]) (by kernel_rfl) (by simp) ?_
              refine AllReadyH.cons rfl (fun K' hK => ?_) (AllReadyH.cons rfl (fun K' hK => ?_) AllReadyH.nil)
              · have xx := hS4.c
                rw [if_pos (by rfl)]
                go_simp
                refine hK.out _ _ hH4 (fun _ => ?_)
                clear hK K' xx
                refine wpAnyH_ready (rs := [12]) (by kernel_rfl) (by simp) ?_
                refine AllReadyH.cons rfl (fun K' hK => ?_) AllReadyH.nil
                rw [if_pos (by rfl)]
                go_simp
                refine hK.out _ _ S4a (fun _ => ?_)
                clear hK K'
                refine wpAnyH_ready (rs := [13]) (by kernel_rfl) (by simp) ?_
                refine AllReadyH.cons rfl (fun K' hK => ?_) AllReadyH.nil
                refine step_append_lies _ (by rfl) (.tmp 28) (.tmp 39) 23 (by rfl) (W2.heap.size + 1) 58 i0 _ 1 24 Try.underlying23 hi hz0 hz1 hz2 rfl (by decide) (.slice av mm.length cv) mm.length vs (by rfl) ((hR4.b.outer).alloc _) ⟨w4.heap.size, 0, none⟩ 1 1 [.slice a4 t.length c4] (by rfl) (by rfl) (World.news_of_block (cs := #[.slice a4 t.length c4]) (t := 58) (fr := (0, 0)) (heap_alloc_new w4 _)) (by simp [Value.oneCell']) (by omega) (by unfold maxLen; omega) (by omega) (by have := b4.size; simp; omega) (w4.heap.size + 1) (by simp) ?_
                intro g5 cap5 w5 hown5 hg5 hat5 hlt5
                obtain ⟨b5, hS5, hQ5, hR5⟩ := F5.out w4 a4 c4 b4 ho4 g5 cap5 w5 hown5 hg5
                simp only [Act.put, List.setIfInBounds_toArray, List.set_cons_zero, List.set_cons_succ]
                refine hK.out _ _ b5 (fun hH5 => ?_)
                clear hK K'
                refine takeD 14 (some 41) (.pointer (some ⟨W2.heap.size, 0, none⟩)) hH5 rfl rfl (by kernel_rfl) (by kernel_rfl) (by kernel_rfl) (fun _ _ _ h => h) (Or.inl ⟨by rfl, by intro w' hSw; go_simp⟩) ?_
                simp only [Act.put, List.setIfInBounds_toArray, List.set_cons_zero, List.set_cons_succ]
                refine wpAnyH_ready (rs := [15]) (by kernel_rfl) (by simp) ?_
                refine AllReadyH.cons rfl (fun K' hK => ?_) AllReadyH.nil
                have xc := hS5.c
                have xz := hS5.fz
                rw [if_pos (by rfl)]
                go_simp
                refine hK.out _ _ (b5.setCell (Nat.le_refl _) _) (fun _ => ?_)
                clear hK K'
                refine wpAnyH_done (by kernel_rfl) ?_ _
                clear xc xz
                go_wp2_with fail
                exact ⟨⟨n + 1, _, _, by go_num, by omega, by rw [HW.out]; exact hR5.far (by omega) _, hS5.set _, hQ5.far (by omega) _, b5.setCell (Nat.le_refl _) _⟩, by simp [intOf]; omega⟩
              · rw [if_pos (by rfl)]
                go_simp
                refine hK.out _ _ S4a (fun _ => ?_)
                clear hK K'
                refine wpAnyH_ready (rs := [1]) (by kernel_rfl) (by simp) ?_
                refine AllReadyH.cons rfl (fun K' hK => ?_) AllReadyH.nil
                have xx := hS4a.c
                rw [if_pos (by rfl)]
                go_simp
                refine hK.out _ _ S4a (fun _ => ?_)
                clear hK K' xx
                refine wpAnyH_ready (rs := [13]) (by kernel_rfl) (by simp) ?_
                refine AllReadyH.cons rfl (fun K' hK => ?_) AllReadyH.nil
                refine step_append_lies _ (by rfl) (.tmp 28) (.tmp 39) 23 (by rfl) (W2.heap.size + 1) 58 i0 _ 1 24 Try.underlying23 hi hz0 hz1 hz2 rfl (by decide) (.slice av mm.length cv) mm.length vs (by rfl) ((hR4.b.outer).alloc _) ⟨w4.heap.size, 0, none⟩ 1 1 [.slice a4 t.length c4] (by rfl) (by rfl) (World.news_of_block (cs := #[.slice a4 t.length c4]) (t := 58) (fr := (0, 0)) (heap_alloc_new w4 _)) (by simp [Value.oneCell']) (by omega) (by unfold maxLen; omega) (by omega) (by have := b4.size; simp; omega) (w4.heap.size + 1) (by simp) ?_
                intro g5 cap5 w5 hown5 hg5 hat5 hlt5
                obtain ⟨b5, hS5, hQ5, hR5⟩ := F5.out w4 a4 c4 b4 ho4 g5 cap5 w5 hown5 hg5
                simp only [Act.put, List.setIfInBounds_toArray, List.set_cons_zero, List.set_cons_succ]
                refine hK.out _ _ b5 (fun hH5 => ?_)
                clear hK K'
                refine takeD 14 (some 41) (.pointer (some ⟨W2.heap.size, 0, none⟩)) hH5 rfl rfl (by kernel_rfl) (by kernel_rfl) (by kernel_rfl) (fun _ _ _ h => h) (Or.inl ⟨by rfl, by intro w' hSw; go_simp⟩) ?_
                simp only [Act.put, List.setIfInBounds_toArray, List.set_cons_zero, List.set_cons_succ]
                refine wpAnyH_ready (rs := [15]) (by kernel_rfl) (by simp) ?_
                refine AllReadyH.cons rfl (fun K' hK => ?_) AllReadyH.nil
                have xc := hS5.c
                have xz := hS5.fz
                rw [if_pos (by rfl)]
                go_simp
                refine hK.out _ _ (b5.setCell (Nat.le_refl _) _) (fun _ => ?_)
                clear hK K'
                refine wpAnyH_done (by kernel_rfl) ?_ _
                clear xc xz
                go_wp2_with fail
                exact ⟨⟨n + 1, _, _, by go_num, by omega, by rw [HW.out]; exact hR5.far (by omega) _, hS5.set _, hQ5.far (by omega) _, b5.setCell (Nat.le_refl _) _⟩, by simp [intOf]; omega⟩
        · have htk : gs.take n = gs := List.take_of_length_le (by omega)
          rw [htk] at hR
          have hkn' : ¬ (n : Int) < gs.length := by omega
          obtain ⟨av, gv, cv, rfl, _⟩ := hR.b.ss
          generalize M.pick [] gs ll = mm at *
          have p0 := hP.c
          have pf := hP.fz
          have q0 := hY.c
          have qf := hY.fz
          have lP := hP.lt
          have lQ := hY.lt
          have hne : w.heap.size + 1 ≠ W2.heap.size := by omega
          have hbw := bw1.trans (hbel.mono bw1.size)
          have hsz := bw1.size
          go_wp2_with fail
          have q1 := (hY.set (.slice av mm.length cv)).c
          exact bodyPost_ret (v := .tuple #[.agg #[.slice av mm.length cv], .bool true]) (by simp [results, Try.results19, go_sem, q1]) rfl ⟨_, by rw [HY1.out], ⟨vs, by rw [HY2.out]; exact (hR.far (by omega) _).mono (by omega)⟩, hbw.setCell (by show w.heap.size ≤ w.heap.size + 1; omega) _⟩

end Go.Proofs.Ytdpoiabohkkbcaa

namespace Go.Proofs.Ytdpoiabohkkbcaa
open Go.RowKit

theorem ints3 (w : World) (x y z : Int) (t : TypeId) (N : Nat) (hN : N = w.heap.size) : IntS (w.alloc (.cells #[.int .i64 x, .int .i64 y, .int .i64 z] t)) (some ⟨N, 0, none⟩) N 0 [x, y, z] := by
  subst hN
  exact ⟨fun _ => rfl, fun i hi => by
    match i, hi with
    | 0, _ => simp
    | 1, _ => simp
    | 2, _ => simp⟩
theorem M.turnThreads_ok {mm qq : List (List M.D)} {gs : List Int} (e : (M.turnThreads mm gs).getD [] = qq) (h : (M.turnThreads mm gs).isSome = true) : M.prog qq = true := by
  obtain ⟨y, hy⟩ := Option.isSome_iff_exists.1 h
  obtain ⟨h1, h2, h3⟩ := M.turnThreads_some hy
  rw [hy] at e
  obtain rfl : y = qq := e
  subst h3
  exact (M.threads_back h1 h2).1
theorem M.turnPlaces_ok {mm qq : List (List M.D)} {gs : List Int} (hr : M.rowN gs 3 = true) (e : (M.turnPlaces mm gs).getD [] = qq) : (M.turnPlaces mm gs).isSome = M.prog mm ∧ (M.prog mm = true → M.prog qq = true) := by
  cases hp : M.prog mm
  · rw [M.turnPlaces_bad hp]; exact ⟨rfl, fun h => by cases h⟩
  · rw [M.turnPlaces_yes hp hr] at e ⊢
    obtain rfl : M.mapS (M.placeF gs) mm = qq := e
    exact ⟨rfl, fun _ => (M.places_back hp hr).1⟩

set_option maxHeartbeats 2000000 in
set_option maxRecDepth 100000 in
theorem lawTo_any (ca : Option Addr) (cb co L C : Nat) (x : Nat → Int) (w : World) (hL : L ≤ C) (had : 0 < L → ca = some ⟨cb, co, none⟩) (hc : ∀ i, i < L → w.cell? ⟨cb, co + i, none⟩ = some (.int .u8 (x i)) ∧ 0 ≤ x i ∧ x i ≤ 255) :
    Calls Try.prog 4 #[.slice ca L C] w fun e w' => e = .returned (.bool true) ∧ Below w.heap.size w w' := by
  by_cases hLb : L ≤ 1048576
  · go_enter Try.func4, Try.ntmps4
    go_wp2_with fail
    refine (DrawTurnThreads_any ca cb co L C x _ hL had hc hLb).mono ?_
    rintro e w1 ⟨a, g, c, mm, ga, gg, gc, gs, rfl, hD⟩
    have hle : ∀ t ∈ mm, t.length ≤ 1048576 := fun t ht => by have := hD.sm.steps t ht; omega
    have hml : mm.length ≤ 1048576 := by have := hD.sm.three; omega
    have hgl : gs.length ≤ 1048576 := by have := hD.gl; omega
    have bA := below1 w1 (.cells #[.slice a mm.length c] 25)
    have bwA := hD.bel.trans (bA.mono hD.bel.size)
    have sP := Slot1.new w1 (.slice a mm.length c) 25
    have ssP := hD.sn.ss.below bA (Nat.le_refl _)
    have giP := hD.gi.below bA (Nat.le_refl _)
    clear had hc hD bA
    have x0 := sP.c
    go_wp2_with fail
    generalize w1.alloc (.cells #[.slice a mm.length c] 25) = WA at *
    generalize w1.heap.size = P at *
    have CS := sturnThreads_any a g 0 c mm hml hle ga gg 0 gc gs hgl
    have CI := iturnThreads_any a g 0 c mm hml hle ga gg 0 gc gs hgl
    have CPl : ∀ E F H W, DoSS W a g 0 mm → IntS W E F 0 [2, 0, 1] → Calls Try.prog 18 #[.agg #[.slice a mm.length c], .slice E 3 H] W _ := fun E F H W h1 h2 => iturnPlaces_any a g 0 c mm hml hle E F 0 H [2, 0, 1] (by simp) W h1 h2
    obtain ⟨qq, hq⟩ : ∃ qq, (M.turnThreads mm gs).getD [] = qq := ⟨_, rfl⟩
    obtain ⟨xx, hx⟩ : ∃ xx, (M.turnPlaces mm [2, 0, 1]).getD [] = xx := ⟨_, rfl⟩
    have HS : Hid ((M.turnThreads mm gs).isSome = true → M.prog qq = true) := M.turnThreads_ok hq
    obtain ⟨hx1, hx2⟩ := M.turnPlaces_ok (by decide) hx
    rw [hq] at CS CI
    rw [hx, hx1] at CPl
    obtain ⟨hq3, hq7⟩ := M.turnThreads_small hq
    obtain ⟨hx3, hx7⟩ := M.turnPlaces_small hx
    have HX : Hid (M.prog mm = true → M.prog xx = true) := hx2
    clear hq hx hx1 hx2
    have hql : qq.length ≤ 1048576 := by omega
    have hqls : ∀ t ∈ qq, t.length ≤ 1048576 := fun t ht => by have := hq7 t ht; omega
    have hxl : xx.length ≤ 1048576 := by omega
    have hxls : ∀ t ∈ xx, t.length ≤ 1048576 := fun t ht => by have := hx7 t ht; omega
    obtain ⟨ok, hok⟩ : ∃ ok, (M.turnThreads mm gs).isSome = ok := ⟨_, rfl⟩
    rw [hok] at CS CI HS
    clear hok
    have CM := fun W h => sprog_any a g 0 c mm W hml hle h
    obtain ⟨pm, hpm⟩ : ∃ pm, M.prog mm = pm := ⟨_, rfl⟩
    rw [hpm] at CPl HX CM
    clear hpm
    refine (CI WA ssP giP).mono ?_
    rintro e w3 ⟨v3, rfl, ⟨vs3, hR3⟩, b3⟩
    obtain ⟨ai, gi, ci, rfl, hss3⟩ := hR3.b.ss
    have bQ := below1 w3 (.cells #[.slice ai qq.length ci] 25)
    have bAQ := b3.trans (bQ.mono b3.size)
    have sPQ := sP.bl' bAQ
    have sQ := Slot1.new w3 (.slice ai qq.length ci) 25
    have ssQ := hss3.below bQ (Nat.le_refl _)
    clear hR3 hss3 b3 bQ x0
    have x0 := sPQ.c
    have lPQ := sPQ.lt
    have HWB : Hid ((w3.alloc (.cells #[.slice ai qq.length ci] 25)).heap.size = w3.heap.size + 1) := by show _ = _; simp
    go_wp2_with fail
    generalize w3.alloc (.cells #[.slice ai qq.length ci] 25) = WB at *
    generalize w3.heap.size = PQ at *
    have bL := below1 WB (.cells #[.int .i64 2, .int .i64 0, .int .i64 1] 3)
    have bAL := bAQ.trans (bL.mono bAQ.size)
    refine (CPl _ _ 3 _ (ssP.below bAL (Nat.le_refl _)) (ints3 WB 2 0 1 3 (PQ + 1) HWB.out.symm)).mono ?_
    rintro e w4 ⟨v4, rfl, ⟨vs4, hR4⟩, b4⟩
    obtain ⟨ax, gx, cx, rfl, hss4⟩ := hR4.b.ss
    have bX := below1 w4 (.cells #[.slice ax xx.length cx] 25)
    have bBX := (bL.trans (b4.mono bL.size)).trans (bX.mono (Nat.le_trans bL.size b4.size))
    have bAX := bAQ.trans (bBX.mono bAQ.size)
    have sPX := sPQ.bl' bBX
    have sQX := sQ.bl' bBX
    have ssQX := ssQ.below bBX (Nat.le_refl _)
    have sX := Slot1.new w4 (.slice ax xx.length cx) 25
    have ssX := hss4.below bX (Nat.le_refl _)
    clear hR4 hss4 b4 bX x0 bL bAL bBX sQ ssQ sPQ
    have x0 := sPX.c
    go_wp2_with fail
    generalize w4.alloc (.cells #[.slice ax xx.length cx] 25) = WC at *
    generalize w4.heap.size = PX at *
    refine (CS WC (ssP.below bAX (Nat.le_refl _)) (giP.below bAX (Nat.le_refl _))).mono ?_
    rintro e w5 ⟨v5, rfl, ⟨vs5, hR5⟩, b5⟩
    obtain ⟨av, gv, cv, rfl, hss5⟩ := hR5.b.ss
    have bW := below1 w5 (.cells #[.slice av qq.length cv] 25)
    have bCW := b5.trans (bW.mono b5.size)
    have bAW := bAX.trans (bCW.mono bAX.size)
    have sPW := (sPX.bl' b5)
    have sQW := (sQX.bl' b5)
    have sXW := (sX.bl' b5)
    have ssQW := ssQX.below bCW (Nat.le_refl _)
    have ssXW := ssX.below bCW (Nat.le_refl _)
    have ssPW := ssP.below bAW (Nat.le_refl _)
    have bwW := bwA.trans (bAW.mono bwA.size)
    have CPq := iprog_any ai gi 0 ci qq _ hql hqls ssQW
    have y0 := sPW.c
    have y1 := sQW.c
    have y2 := sXW.c
    have l0 := sPW.lt
    have l1 := sQW.lt
    have l2 := sXW.lt
    have sPV := sPW.bl' bW
    have sXV := sXW.bl' bW
    clear hR5 hss5 x0 CS CI CPl sPX sQX sX ssX ssQX
    cases ok
    · cases pm
      · go_wp2_with (first | (go_at_call 13; refine (CM _ ssPW).mono ?_; rintro e W7 ⟨rfl, b7⟩))
        go_ret
        exact ⟨rfl, bwW.trans (b7.mono bwW.size)⟩
      · have hpx := HX.out rfl
        have CX := fun W h => iprog_any ax gx 0 cx xx W hxl hxls h
        rw [hpx] at CX
        go_wp2_with (first | (go_at_call 13; refine (CM _ ssPW).mono ?_; rintro e W7 ⟨rfl, b7⟩; have z2 := (sXV.bl' b7).c; have s7 := ssXW.below b7 (Nat.le_refl _)) | (go_at_call 14; refine (CX W7 s7).mono ?_; rintro e W8 ⟨rfl, b8⟩))
        go_ret
        exact ⟨rfl, bwW.trans ((b7.trans (b8.mono b7.size)).mono bwW.size)⟩
    · have hpq := HS.out rfl
      rw [hpq] at CPq
      cases pm
      · go_wp2_with (first | (go_at_call 14; refine CPq.mono ?_; rintro e W6 ⟨rfl, b6⟩; have z0 := (sPV.bl' b6).c; have s6 := ssPW.below b6 (Nat.le_refl _)) | (go_at_call 13; refine (CM W6 s6).mono ?_; rintro e W7 ⟨rfl, b7⟩))
        go_ret
        exact ⟨rfl, bwW.trans ((b6.trans (b7.mono b6.size)).mono bwW.size)⟩
      · have hpx := HX.out rfl
        have CX := fun W h => iprog_any ax gx 0 cx xx W hxl hxls h
        rw [hpx] at CX
        go_wp2_with (first | (go_at_call_of 14 (Value.agg #[.slice ai qq.length ci]); refine CPq.mono ?_; rintro e W6 ⟨rfl, b6⟩; have z0 := (sPV.bl' b6).c; have s6 := ssPW.below b6 (Nat.le_refl _)) | (go_at_call 13; refine (CM W6 s6).mono ?_; rintro e W7 ⟨rfl, b7⟩; have b67 := b6.trans (b7.mono b6.size); have z2 := (sXV.bl' b67).c; have s7 := ssXW.below b67 (Nat.le_refl _)) | (go_at_call_of 14 (Value.agg #[.slice ax xx.length cx]); refine (CX W7 s7).mono ?_; rintro e W8 ⟨rfl, b8⟩))
        go_ret
        exact ⟨rfl, bwW.trans ((b67.trans (b8.mono b67.size)).mono bwW.size)⟩
  · go_enter Try.func4, Try.ntmps4
    go_wp2_with fail
    go_ret
    exact ⟨rfl, Below.refl _ _⟩

end Go.Proofs.Ytdpoiabohkkbcaa
