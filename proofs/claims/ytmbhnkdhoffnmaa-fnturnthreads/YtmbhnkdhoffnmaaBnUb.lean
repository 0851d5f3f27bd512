/- impl.TurnThreads. Of at most 1048576 threads, steps of a thread and numbers. spec.l22Row: whether numbers are a row. Of at most 1000, rows of at most 1048576 numbers. append of steps onto an empty row that was made: in plain regions, and in those that draw their order. No condition. spec.TurnThreads. Of at most 1048576 threads, steps of a thread and numbers. The law FnTurnThreads, walked: it answers true, and leaves all as it was. Of whatever code. -/
import Derived.Test.YtmbhnkdhoffnmaaBnUa
import Derived.Deep.RegionLaw
import Derived.Maps.AppendAt
import Derived.Test.YtmbhnkdhoffnmaaSProg
import Derived.Test.YtmbhnkdhoffnmaaLpPg
import Derived.Test.YtmbhnkdhoffnmaaReads
import Derived.Test.YtmbhnkdhoffnmaaQuietB
import Derived.BigQuiet

namespace Go.Proofs.Ytmbhnkdhoffnmaa
open Go.RowKit

theorem M.turnThreads_get {ll : List (List M.D)} {row : List Int} (h : M.prog ll = true) : (M.turnThreads ll row).getD [] = M.turned [] row ll ∧ (M.turnThreads ll row).isSome = M.rowN row ll.length := by
  cases hr : M.rowN row ll.length
  · rw [M.turnThreads_row hr, M.turned_no hr]; exact ⟨rfl, rfl⟩
  · rw [M.turnThreads_yes h hr, M.turned_yes hr]; exact ⟨rfl, rfl⟩
theorem M.turned_small {ll mm : List (List M.D)} {row : List Int} (h : M.prog ll = true) (e : M.turned [] row ll = mm) : mm.length ≤ 3 ∧ ∀ t ∈ mm, t.length ≤ 7 :=
  M.turnThreads_small (ll := ll) (row := row) (by rw [(M.turnThreads_get h).1]; exact e)

set_option maxHeartbeats 1000000 in
theorem iturnThreads_any (a : Option Addr) (b o c : Nat) (ll : List (List M.D)) (hl : ll.length ≤ 1048576) (hls : ∀ t ∈ ll, t.length ≤ 1048576) (ga : Option Addr) (gb go gc : Nat) (gs : List Int) (hgl : gs.length ≤ 1048576) (w : World) (h : DoSS w a b o ll) (hG : IntS w ga gb go gs) :
    Calls Try.prog 11 #[.agg #[.slice a ll.length c], .slice ga gs.length gc] w fun e w' => ∃ v, e = .returned (.tuple #[.agg #[v], .bool (M.turnThreads ll gs).isSome]) ∧ (∃ vs, Rdg w' w.heap.size v ((M.turnThreads ll gs).getD []) vs) ∧ Below w.heap.size w w' := by
  have b2 := below2 w (.cells #[.slice a ll.length c] 25) (.cells #[.slice none 0 0] 25)
  have h2 := h.below b2 (Nat.le_refl _)
  have hG2 := hG.below b2 (Nat.le_refl _)
  have hX := (Slot1.new w (.slice a ll.length c) 25).bl' (below1 _ (.cells #[.slice none 0 0] 25))
  have hY := Slot1.new (w.alloc (.cells #[.slice a ll.length c] 25)) (.slice none 0 0) 25
  rw [World.size_alloc] at hY
  go_enter Try.func11, Try.ntmps11
  go_wp2_with fail
  generalize (w.alloc (.cells #[.slice a ll.length c] 25)).alloc (.cells #[.slice none 0 0] 25) = W at *
  have CP := iprog_any a b o c ll W hl hls h2
  cases hp : M.prog ll
  · rw [hp] at CP
    refine CP.mono ?_
    rintro e W1 ⟨rfl, b1⟩
    have hY1 := hY.bl' b1
    have y0 := hY1.c
    have yf := hY1.fz
    have ly := hY1.lt
    have bw1 := b2.trans (b1.mono b2.size)
    have hno := M.turnThreads_bad (row := gs) hp
    go_wp2_with fail
    have q1 := (hY1.set (.slice none 0 0)).c
    exact bodyPost_ret (v := .tuple #[.agg #[.slice none 0 0], .bool false]) (by simp [results, Try.results11, go_sem, q1]) rfl ⟨_, by rw [hno]; rfl, ⟨[], by rw [hno]; exact Rdg.nil _ _⟩, bw1.setCell (by show w.heap.size ≤ w.heap.size + 1; omega) _⟩
  · rw [hp] at CP
    obtain ⟨h3, h7⟩ := M.prog_le hp
    obtain ⟨e1, e2⟩ := M.turnThreads_get (row := gs) hp
    obtain ⟨mm, hmm⟩ : ∃ mm, M.turned [] gs ll = mm := ⟨_, rfl⟩
    obtain ⟨hm3, hm7⟩ := M.turned_small hp hmm
    obtain ⟨ok, hok⟩ : ∃ ok, M.rowN gs ll.length = ok := ⟨_, rfl⟩
    have E1 : Hid ((M.turnThreads ll gs).getD [] = mm) := e1.trans hmm
    have E2 : Hid ((M.turnThreads ll gs).isSome = ok) := e2.trans hok
    have CT := fun A B C D W x y => turnT_any ga gb go gc gs A B C D ll W hgl (by omega) x y
    rw [hmm, hok] at CT
    clear hp hmm hok e1 e2
    refine CP.mono ?_
    rintro e W1 ⟨rfl, b1⟩
    have h1 := h2.below b1 (Nat.le_refl _)
    have hG1 := hG2.below b1 (Nat.le_refl _)
    have hX1 := hX.bl' b1
    have hY1 := hY.bl' b1
    have bw1 := b2.trans (b1.mono b2.size)
    have x0 := hX1.c
    clear CP h2 hG2 hX hY b1 b2
    go_wp2_with fail
    refine (CT a b o c W1 hG1 h1).mono ?_
    rintro e W2 ⟨v2, rfl, ⟨a2, ⟨c2, rfl⟩, g2, hs2⟩, b2⟩
    go_wp2_with fail
    refine (copyProg_any a2 g2 0 c2 mm W2 (by omega) (fun t ht => by have := hm7 t ht; omega) hs2).mono ?_
    rintro e W3 ⟨v3, rfl, ⟨vs, hR⟩, b3⟩
    have hY3 := (hY1.bl' b2).bl' b3
    have y0 := hY3.c
    have yf := hY3.fz
    have ly := hY3.lt
    have ly1 := hY1.lt
    have b13 := b2.trans (b3.mono b2.size)
    have bw3 := bw1.trans (b13.mono bw1.size)
    have hsz := b2.size
    obtain ⟨av, gv, cv, rfl, _⟩ := hR.b.ss
    go_wp2_with fail
    have q1 := (hY3.set (.slice av mm.length cv)).c
    exact bodyPost_ret (v := .tuple #[.agg #[.slice av mm.length cv], .bool ok]) (by simp [results, Try.results11, go_sem, q1]) rfl ⟨_, by rw [E2.out], ⟨vs, by rw [E1.out]; exact (hR.far (by omega) _).mono (by have := bw1.size; omega)⟩, bw3.setCell (by show w.heap.size ≤ w.heap.size + 1; omega) _⟩

end Go.Proofs.Ytmbhnkdhoffnmaa

namespace Go.Proofs.Ytmbhnkdhoffnmaa
open Go.RowKit

set_option maxHeartbeats 400000 in
theorem l22Row_any (a : Option Addr) (b o c : Nat) (row : List Int) (m : Nat) (w : World) (hl : row.length ≤ 1048576) (hm : m ≤ 1000) (h : IntS w a b o row) :
    Calls Try.prog 34 #[.slice a row.length c, .int .i64 m] w fun e w' => e = .returned (.bool (M.rowN row m)) ∧ w' = w := by
  by_cases hln : row.length = m
  · have HF : Hid (M.rowN row m = (M.bel m).all (fun v => M.has row v)) := M.rowOf_same (by rw [M.bel_len]; exact hln)
    have hq : ((row.length : Int) != m) = false := by simp; omega
    have HL : Hid (row.length = m) := hln
    clear hln
    go_enter Try.func34, Try.ntmps34
    go_wp2_with fail
    go_loopw [5] (fun s5 wr => ∃ n : Nat, s5 = .int .i64 n ∧ n ≤ m ∧ Hid ((M.bel m).all (fun v => M.has row v) = ((M.bel m).drop n).all (fun v => M.has row v)) ∧ wr = w) (fun s5 _ => m - (intOf s5).toNat)
    case atStart => exact ⟨0, rfl, Nat.zero_le _, by show _ = _; rfl, rfl⟩
    case round =>
      obtain ⟨n, rfl, hn, HA, rfl⟩ := hrel
      by_cases hlt : n < m
      · have hlt2 : n < (M.bel m).length := by rw [M.bel_len]; exact hlt
        have HS : Hid ((M.bel m).all (fun v => M.has row v) = (M.has row (n : Int) && ((M.bel m).drop (n + 1)).all (fun v => M.has row v))) := by
          have := M.rowAll_step HA.out hlt2
          rw [M.bel_get] at this
          exact this
        clear HA hlt2
        have i1 : (n : Int) < m := by omega
        cases hh : M.has row (n : Int)
        · go_wp2_with (go_at_call 47; refine (l12Has_any a b o c row n _ hl h).mono ?_; rw [hh]; rintro e w' ⟨rfl, rfl⟩)
          go_ret
          exact ⟨ret_bool (by rw [HF.out, HS.out, hh]; rfl), rfl⟩
        · go_wp2_with (go_at_call 47; refine (l12Has_any a b o c row n _ hl h).mono ?_; rw [hh]; rintro e w' ⟨rfl, rfl⟩)
          exact ⟨⟨n + 1, by go_num, by omega, by show _ = _; rw [HS.out, hh]; rfl, trivial⟩, by simp [intOf]; omega⟩
      · have i1 : ¬ (n : Int) < m := by omega
        go_wp2_with fail
        go_ret
        exact ⟨ret_bool (by rw [HF.out, HA.out, List.drop_eq_nil_of_le (by rw [M.bel_len]; omega)]; rfl), rfl⟩
  · have hln' : ((row.length : Int) == m) = false := by simp; omega
    go_enter Try.func34, Try.ntmps34
    go_wp2_with fail
    go_ret
    exact ⟨ret_bool (M.rowOf_short (by rw [M.bel_len]; exact hln)).symm, rfl⟩

end Go.Proofs.Ytmbhnkdhoffnmaa

namespace Go.Proofs.Ytmbhnkdhoffnmaa
open Go.RowKit

theorem run_append_emp0 {P : Program} (w : World) (t ty e : TypeId) (i : TypeInfo) (ht : P.underlying t = some (.slice e)) (hi : P.info? e = some i) (ad : Addr) (a : Option Addr) (c : Nat) :
    (Builtin.append_ #[t, t] ty #[.slice (some ad) 0 0, .slice a 0 c]).run P w = .ok (.slice (some ad) 0 0) w := by
  cases a
  · simp [Builtin.append_, run_underlying ht, sizeOf, typeInfo, hi, Builtin.lenOf, Builtin.firstCells, storeCells]
  · simp [Builtin.append_, run_underlying ht, sizeOf, typeInfo, hi, Builtin.lenOf, Builtin.firstCells, loadCells, loadCellsFrom, storeCells]
theorem grow_refl (w : World) (row : Option Nat) : w.grownBy w row := ⟨rfl, rfl, rfl, Nat.le_refl _, fun _ _ _ => rfl⟩
theorem own_emp {X : World} {base g size : Nat} {e : TypeId} (h : X.heap[g]? = some (.cells #[] e (0, 0))) (hb : base ≤ g) : X.ownsRow base e size (.slice (some ⟨g, 0, none⟩) 0 0) 0 [] :=
  ⟨by simp, .inr ⟨g, 0, #[], rfl, hb, h, Nat.le_refl _, Nat.zero_le _, by simp, by simp⟩⟩

theorem wp_append_does {P : Program} {o : Oper} {a : Act} {w : World} {K : Act → World → Prop} {Q : Exit → Act → World → Prop} (s x : Operand) (t : TypeId)
    (ho : o.op = .call { callee := .builtin .append, args := #[s, x], argTypes := #[t, t] }) (d : Option Tmp) (hd : o.dst = d) (base : Nat) (e : TypeId) (i : TypeInfo) (ht : P.underlying t = some (.slice e)) (hi : P.info? e = some i) (hz0 : i.zero = some (.agg #[.int .i64 0, .int .i64 0, .int .i64 0])) (hz1 : i.size = 3) (hz2 : i.bytes = 24)
    (g : Nat) (hs : a.eval s = .slice (some ⟨g, 0, none⟩) 0 0) (hown : w.ownsRow base e 3 (.slice (some ⟨g, 0, none⟩) 0 0) 0 []) (hbase : base ≤ w.heap.size) (sa : Option Addr) (b off c : Nat) (l : List M.D) (hx : a.eval x = .slice sa l.length c) (hI : DoS w sa b off l) (hl : l.length ≤ 1048576)
    (h : ∀ v' w', w'.ownsRow base e 3 v' l.length (flat l) → w.grownBy w' (some g) → (v'.ownBlock = some g ∨ v'.ownBlock = some w.heap.size) → K (a.put d v') w') :
    Oper.wp P o a w K Q := by
  subst hd
  cases sa with
  | none =>
    have hl0 : l = [] := by
      rcases Nat.eq_zero_or_pos l.length with h0 | h0
      · exact List.length_eq_zero_iff.1 h0
      · cases hI.addr h0
    subst hl0
    rw [List.length_nil] at hx
    have hrun := run_append_emp0 (P := P) w t o.type e i ht hi ⟨g, 0, none⟩ none c
    have hk := h (.slice (some ⟨g, 0, none⟩) 0 0) w hown (grow_refl _ _) (.inl rfl)
    unfold Oper.wp
    simp [execOp, ho, resolve, invoke, builtin, hs, hx, hrun, Result.andThen]
    exact hk
  | some ad =>
    have hn : ∀ j u, (flat l)[j]? = some u → w.cell? (ad.add j) = some u := fun j u hj => by
      have hjl := (List.getElem?_eq_some_iff.1 hj).1
      rw [flat_length] at hjl
      obtain ⟨rfl⟩ := hI.addr (by omega)
      exact DoS.flat_cells hI.row j u hj
    obtain ⟨v', w', hrun, h2, h3, _, h5⟩ := run_append_own_at (P := P) w base t o.type e i (.agg #[.int .i64 0, .int .i64 0, .int .i64 0]) 3 24 ht hi hz0 hz1 hz2 rfl (by decide) (.slice (some ⟨g, 0, none⟩) 0 0) 0 [] hown ad l.length c (flat l) (flat_length l) hn (flat_one' l) (by unfold maxLen; omega) (by omega) hbase
    have hk := h v' w' (by simpa using h2) h3 h5
    unfold Oper.wp
    simp [execOp, ho, resolve, invoke, builtin, hs, hx, hrun, Result.andThen]
    exact hk
theorem step_append_does {P : Program} {ops : Array Oper} {o : Oper} {a : Act} {w : World} {K : Act → World → Prop} {Q : Exit → Act → World → Prop} {E : Prop} (hgd : o.guard = none) (s x : Operand) (t : TypeId)
    (ho : o.op = .call { callee := .builtin .append, args := #[s, x], argTypes := #[t, t] }) (d : Option Tmp) (hd : o.dst = d) (base : Nat) (e : TypeId) (i : TypeInfo) (ht : P.underlying t = some (.slice e)) (hi : P.info? e = some i) (hz0 : i.zero = some (.agg #[.int .i64 0, .int .i64 0, .int .i64 0])) (hz1 : i.size = 3) (hz2 : i.bytes = 24)
    (g : Nat) (hs : a.eval s = .slice (some ⟨g, 0, none⟩) 0 0) (hown : w.ownsRow base e 3 (.slice (some ⟨g, 0, none⟩) 0 0) 0 []) (hbase : base ≤ w.heap.size) (sa : Option Addr) (b off c : Nat) (l : List M.D) (hx : a.eval x = .slice sa l.length c) (hI : DoS w sa b off l) (hl : l.length ≤ 1048576)
    (h : ∀ v' w', w'.ownsRow base e 3 v' l.length (flat l) → w.grownBy w' (some g) → (v'.ownBlock = some g ∨ v'.ownBlock = some w.heap.size) → K (a.put d v') w') :
    if Region.wanted o (yielded ops a.tmps) = true then Oper.wp P o a w K Q else E := by
  have hw : Region.wanted o (yielded ops a.tmps) = true := by simp [Region.wanted, hgd]
  rw [if_pos hw]
  exact wp_append_does s x t ho d hd base e i ht hi hz0 hz1 hz2 g hs hown hbase sa b off c l hx hI hl h
theorem wpList_append_does {P : Program} {ops : Array Oper} {rest : List Oper} {o : Oper} {a : Act} {w : World} {Q : Exit → Act → World → Prop} (hgd : o.guard = none) (s x : Operand) (t : TypeId)
    (ho : o.op = .call { callee := .builtin .append, args := #[s, x], argTypes := #[t, t] }) (d : Option Tmp) (hd : o.dst = d) (base : Nat) (e : TypeId) (i : TypeInfo) (ht : P.underlying t = some (.slice e)) (hi : P.info? e = some i) (hz0 : i.zero = some (.agg #[.int .i64 0, .int .i64 0, .int .i64 0])) (hz1 : i.size = 3) (hz2 : i.bytes = 24)
    (g : Nat) (hs : a.eval s = .slice (some ⟨g, 0, none⟩) 0 0) (hown : w.ownsRow base e 3 (.slice (some ⟨g, 0, none⟩) 0 0) 0 []) (hbase : base ≤ w.heap.size) (sa : Option Addr) (b off c : Nat) (l : List M.D) (hx : a.eval x = .slice sa l.length c) (hI : DoS w sa b off l) (hl : l.length ≤ 1048576)
    (h : ∀ v' w', w'.ownsRow base e 3 v' l.length (flat l) → w.grownBy w' (some g) → (v'.ownBlock = some g ∨ v'.ownBlock = some w.heap.size) → wpList P ops Q rest (a.put d v') w') :
    wpList P ops Q (o :: rest) a w :=
  wpList_plain hgd fun _ hK => wp_append_does s x t ho d hd base e i ht hi hz0 hz1 hz2 g hs hown hbase sa b off c l hx hI hl fun v' w' h1 h2 h3 => by
    subst hd
    exact hK _ _ (h v' w' h1 h2 h3)

end Go.Proofs.Ytmbhnkdhoffnmaa

namespace Go.Proofs.Ytmbhnkdhoffnmaa
open Go.RowKit

set_option maxHeartbeats 4000000 in
set_option maxRecDepth 100000 in
set_option linter.unusedSimpArgs false in
theorem sturnThreads_any (a : Option Addr) (b o c : Nat) (ll : List (List M.D)) (hl : ll.length ≤ 1048576) (hls : ∀ t ∈ ll, t.length ≤ 1048576) (ga : Option Addr) (gb go gc : Nat) (gs : List Int) (hgl : gs.length ≤ 1048576) (w : World) (h : DoSS w a b o ll) (hG : IntS w ga gb go gs) :
    Calls Try.prog 10 #[.agg #[.slice a ll.length c], .slice ga gs.length gc] w fun e w' => ∃ v, e = .returned (.tuple #[.agg #[v], .bool (M.turnThreads ll gs).isSome]) ∧ (∃ vs, Rdg w' w.heap.size v ((M.turnThreads ll gs).getD []) vs) ∧ Below w.heap.size w w' := by
  obtain ⟨i0, hi, hz0, hz1, hz2⟩ := info_parts Try.info50
  obtain ⟨j0, hj, hy0, hy1, hy2⟩ := info_parts Try.info56
  have b2 := below2 w (.cells #[.slice a ll.length c] 25) (.cells #[.slice none 0 0] 25)
  have h2 := h.below b2 (Nat.le_refl _)
  have hG2 := hG.below b2 (Nat.le_refl _)
  have hX := (Slot1.new w (.slice a ll.length c) 25).bl' (below1 _ (.cells #[.slice none 0 0] 25))
  have hY := Slot1.new (w.alloc (.cells #[.slice a ll.length c] 25)) (.slice none 0 0) 25
  rw [World.size_alloc] at hY
  go_enter Try.func10, Try.ntmps10
  cases hp : M.prog ll
  · have hno := M.turnThreads_bad (row := gs) hp
    have CP := sprog_any a b o c ll _ hl hls h2
    rw [hp] at CP
    go_wp2_with (first | (go_at_call 33; refine CP.mono ?_; rintro e W1 ⟨rfl, b1⟩; have hY1 := hY.bl' b1; have y0 := hY1.c; have yf := hY1.fz; have ly := hY1.lt))
    have bw1 := b2.trans (b1.mono b2.size)
    have q1 := (hY1.set (.slice none 0 0)).c
    exact bodyPost_ret (v := .tuple #[.agg #[.slice none 0 0], .bool false]) (by simp [results, Try.results10, go_sem, q1]) rfl ⟨_, by rw [hno]; rfl, ⟨[], by rw [hno]; exact Rdg.nil _ _⟩, bw1.setCell (by show w.heap.size ≤ w.heap.size + 1; omega) _⟩
  · obtain ⟨h3, h7⟩ := M.prog_le hp
    have CP := sprog_any a b o c ll _ hl hls h2
    rw [hp] at CP
    have CO := fun W hW => l22Row_any ga gb go gc gs ll.length W hgl (by omega) hW
    cases hok : M.rowN gs ll.length
    · have hno := M.turnThreads_row (ll := ll) hok
      rw [hok] at CO
      go_wp2_with (first | (go_at_call 33; refine CP.mono ?_; rintro e W1 ⟨rfl, b1⟩; have hX1 := hX.bl' b1; have x0 := hX1.c; have hG1 := hG2.below b1 (Nat.le_refl _); have hY1 := hY.bl' b1; have y0 := hY1.c; have yf := hY1.fz; have ly := hY1.lt) | (go_at_call 34; refine (CO _ hG1).mono ?_; rintro e W2 ⟨rfl, rfl⟩))
      have bw1 := b2.trans (b1.mono b2.size)
      have q1 := (hY1.set (.slice none 0 0)).c
      exact bodyPost_ret (v := .tuple #[.agg #[.slice none 0 0], .bool false]) (by simp [results, Try.results10, go_sem, q1]) rfl ⟨_, by rw [hno]; rfl, ⟨[], by rw [hno]; exact Rdg.nil _ _⟩, bw1.setCell (by show w.heap.size ≤ w.heap.size + 1; omega) _⟩
    · rw [hok] at CO
      have hyes := M.turnThreads_yes hp hok
      have HY1 : Hid ((M.turnThreads ll gs).isSome = true) := by show _ = _; rw [hyes]; rfl
      have HY2 : Hid ((M.turnThreads ll gs).getD [] = M.pick [] gs ll) := by show _ = _; rw [hyes]; rfl
      have HR : Hid (M.rowN gs ll.length = true) := hok
      have HL : Hid (gs.length = ll.length) := M.rowN_len hok
      clear hyes hok hp
      go_wp2_with (first | (go_at_call 33; refine CP.mono ?_; rintro e W1 ⟨rfl, b1⟩; have hX1 := hX.bl' b1; have x0 := hX1.c; have hG1 := hG2.below b1 (Nat.le_refl _); have hY1 := hY.bl' b1) | (go_at_call 34; refine (CO _ hG1).mono ?_; rintro e W2 ⟨rfl, rfl⟩))
      have bw1 := b2.trans (b1.mono b2.size)
      have bA := below1 W2 (.cells #[.slice none 0 0] 25)
      have hXA := hX1.bl' bA
      have hYA := hY1.bl' bA
      have hZA := Slot1.new W2 (.slice none 0 0) 25
      have lX := hX1.lt
      have lY := hY1.lt
      have hD := h.below bw1 (Nat.le_refl _)
      generalize W2.alloc (.cells #[.slice none 0 0] 25) = WA at *
      have hX1c := hX1.c
      clear CP CO x0 hX hY h2 hG2 b2 b1 hX1
      go_loopw [7] (fun s7 wr => ∃ (n : Nat) (v : Value) (vs : List Value), s7 = .int .i64 n ∧ n ≤ gs.length ∧ Rdg wr (W2.heap.size + 1) v (M.pick [] (gs.take n) ll) vs ∧ Slot1 wr W2.heap.size v ∧ Slot1 wr (w.heap.size + 1) (.slice none 0 0) ∧ Below W2.heap.size W2 wr) (fun s7 _ => gs.length - (intOf s7).toNat)
      case atStart => exact ⟨0, .slice none 0 0, [], rfl, Nat.zero_le _, by simpa [M.pick] using Rdg.nil _ _, hZA, hYA, bA⟩
      case round =>
        obtain ⟨n, v, vs, rfl, hn, hR, hP, hY, hbel⟩ := hrel
        clear hZA hXA hYA bA
        by_cases hlt : n < gs.length
        · obtain ⟨rfl⟩ := hG1.addr (by omega)
          have hg0 := hG1.row n hlt
          have HB : Hid (M.pick [] (gs.take (n + 1)) ll = M.pick [] (gs.take n) ll ++ [ll.getD gs[n].toNat []]) := M.pick_take [] gs ll n hlt
          obtain ⟨r0, r1⟩ := M.rowN_get HR.out n hlt
          generalize gs[n] = y at *
          obtain ⟨j, rfl⟩ : ∃ j : Nat, y = j := ⟨y.toNat, by omega⟩
          have hjl : j < ll.length := by omega
          obtain ⟨rfl⟩ := h.addr (by omega)
          obtain ⟨a', b', o', c', hc, hd0⟩ := hD.row j hjl
          have HW : Hid (M.pick [] (gs.take (n + 1)) ll = M.pick [] (gs.take n) ll ++ [ll[j]]) := by show _ = _; rw [HB.out]; congr 2; exact M.getD_get hjl
          clear HB
          have hmm : (M.pick [] (gs.take n) ll).length ≤ 1048576 := by rw [M.pick_len]; simp; omega
          have ht := hls _ (List.getElem_mem hjl)
          generalize ll[j] = t at *
          generalize M.pick [] (gs.take n) ll = mm at *
          have i1 : (n : Int) < gs.length := by omega
          have i2 : (j : Int) < ll.length := by omega
          obtain ⟨av, gv, cv, rfl, _⟩ := hR.b.ss
          have x0 := hP.c
          have lP := hP.lt
          have CX : ∀ w', Below W2.heap.size W2 w' → w'.cell? ⟨w.heap.size, 0, none⟩ = some (.slice (some ⟨b, o, none⟩) ll.length c) := fun w' hw => (hw.cell (p := ⟨w.heap.size, 0, none⟩) lX).trans hX1c
          have CG : ∀ w', Below W2.heap.size W2 w' → w'.cell? ⟨gb, go + n, none⟩ = some (.int .i64 j) := fun w' hw => (hw.cell (p := ⟨gb, go + n, none⟩) (World.block_lt_of_cell? _ _ hg0)).trans hg0
          have CT : ∀ w', Below W2.heap.size W2 w' → w'.cell? ⟨b, o + j, none⟩ = some (.slice a' t.length c') := fun w' hw => (hw.cell (p := ⟨b, o + j, none⟩) (World.block_lt_of_cell? _ _ hc)).trans hc
          have bE : Below wr.heap.size wr (wr.drew.alloc (.cells #[] 56)) := (Below.refl wr.heap.size wr).drew.alloc (Nat.le_refl _) _
          have SA : Below W2.heap.size W2 (wr.drew.alloc (.cells #[] 56)) := hbel.trans (bE.mono hbel.size)
          have SXA := (hP.bl' bE).c
          have OA : (wr.drew.alloc (.cells #[] 56)).ownsRow wr.heap.size 56 3 (.slice (some ⟨wr.heap.size, 0, none⟩) 0 0) 0 [] := own_emp (heap_alloc_new wr.drew _) (Nat.le_refl _)
          have DA : DoS (wr.drew.alloc (.cells #[] 56)) a' b' o' t := hd0.below SA (Nat.le_refl _)
          have F4 : Hid (∀ (w4 : World) (v4 : Value), w4.ownsRow wr.heap.size 56 3 v4 t.length (flat t) → (wr.drew.alloc (.cells #[] 56)).grownBy w4 (some wr.heap.size) → ∃ a4 c4, v4 = .slice a4 t.length c4 ∧ Below wr.heap.size wr w4 ∧ Slot1 w4 W2.heap.size (.slice av mm.length cv) ∧ Rdg w4 (W2.heap.size + 1) (.slice av mm.length cv) mm vs) := by
            intro w4 v4 ho hg
            obtain ⟨a4, c4, e⟩ := own_slx ho
            have b4 : Below wr.heap.size wr w4 := below_grown bE hg (fun j hj => by have : wr.heap.size = j := Option.some.inj hj; omega) bE.size
            exact ⟨a4, c4, e, b4, hP.bl' b4, hR.below b4⟩
          have F5 : Hid (∀ (w4 : World) (a4 : Option Addr) (c4 : Nat), Below wr.heap.size wr w4 → w4.ownsRow wr.heap.size 56 3 (.slice a4 t.length c4) t.length (flat t) → ∀ (g5 cap5 : Nat) (w5 : World), w5.ownsRow (W2.heap.size + 1) 50 1 (.slice (some ⟨g5, 0, none⟩) (mm.length + 1) cap5) (mm.length + 1) (vs ++ [.slice a4 t.length c4]) → (w4.alloc (.cells #[.slice a4 t.length c4] 50)).grownBy w5 (Value.slice av mm.length cv).ownBlock → Below W2.heap.size W2 w5 ∧ Slot1 w5 W2.heap.size (.slice av mm.length cv) ∧ Slot1 w5 (w.heap.size + 1) (.slice none 0 0) ∧ Rdg w5 (W2.heap.size + 1) (.slice (some ⟨g5, 0, none⟩) (mm.length + 1) cap5) (mm ++ [t]) (vs ++ [.slice a4 t.length c4])) := by
            intro w4 a4 c4 b4 hx4 g5 cap5 w5 ho hg
            have hal := below1 w4 (.cells #[.slice a4 t.length c4] 50)
            have hge := own_ge hR.b.outer
            have b4a := b4.trans (hal.mono b4.size)
            have bwa := hbel.trans (b4a.mono hbel.size)
            refine ⟨below_grown bwa hg (fun j hj => by have := hge j hj; omega) bwa.size, (hP.bl' b4a).apart hg (fun e => by have := hge _ e; omega), (hY.bl' b4a).apart hg (fun e => by have := hge _ e; omega), ((hR.below b4).below hal).snocT (ownsRow_mono (ownsRow_below hx4 hal) (by omega)) (fun i hi j hj e => ?_) ho hg⟩
            have h1 := ((hR.b.inner i (by have := hR.b.len; omega) hi).lt j hj).2
            have h2 := own_ge hx4 j e
            omega
          go_wp2_with fail
          refine wp_region_held_drew (S := fun w' => Below W2.heap.size W2 w') (by kernel_rfl) hbel.drew (fun hH => ?_)
          refine takeD 0 (some 27) (.pointer (some ⟨W2.heap.size, 0, none⟩)) hH rfl rfl (by kernel_rfl) (by kernel_rfl) (by kernel_rfl) (fun _ _ _ h => h) (Or.inl ⟨by rfl, by intro w' hSw; go_simp⟩) ?_
          simp only [Act.put, List.setIfInBounds_toArray, List.set_cons_zero, List.set_cons_succ]
          refine takeD 3 (some 30) (.pointer (some ⟨w.heap.size, 0, none⟩)) hH rfl rfl (by kernel_rfl) (by kernel_rfl) (by kernel_rfl) (fun _ _ _ h => h) (Or.inl ⟨by rfl, by intro w' hSw; go_simp⟩) ?_
          simp only [Act.put, List.setIfInBounds_toArray, List.set_cons_zero, List.set_cons_succ]
          refine takeD 4 (some 31) (.slice (some ⟨b, o, none⟩) ll.length c) hH rfl rfl (by kernel_rfl) (by kernel_rfl) (by kernel_rfl) (fun _ _ _ h => h) (Or.inl ⟨by rfl, by intro w' hSw; have hc := CX w' hSw; go_simp⟩) ?_
          simp only [Act.put, List.setIfInBounds_toArray, List.set_cons_zero, List.set_cons_succ]
          refine takeD 5 (some 32) (.slice (some ⟨gb, go, none⟩) gs.length gc) hH rfl rfl (by kernel_rfl) (by kernel_rfl) (by kernel_rfl) (fun _ _ _ h => h) (Or.inl ⟨by rfl, by intro w' hSw; go_simp⟩) ?_
          simp only [Act.put, List.setIfInBounds_toArray, List.set_cons_zero, List.set_cons_succ]
          refine takeD 6 (some 33) (.int .i64 n) hH rfl rfl (by kernel_rfl) (by kernel_rfl) (by kernel_rfl) (fun _ _ _ h => h) (Or.inl ⟨by rfl, by intro w' hSw; go_simp⟩) ?_
          simp only [Act.put, List.setIfInBounds_toArray, List.set_cons_zero, List.set_cons_succ]
          refine takeD 7 (some 34) (.pointer (some ⟨gb, go + n, none⟩)) hH rfl rfl (by kernel_rfl) (by kernel_rfl) (by kernel_rfl) (fun _ _ _ h => h) (Or.inl ⟨by rfl, by intro w' hSw; go_simp⟩) ?_
          simp only [Act.put, List.setIfInBounds_toArray, List.set_cons_zero, List.set_cons_succ]
          refine takeD 8 (some 35) (.int .i64 j) hH rfl rfl (by kernel_rfl) (by kernel_rfl) (by kernel_rfl) (fun _ _ _ h => h) (Or.inl ⟨by rfl, by intro w' hSw; have hc := CG w' hSw; go_simp⟩) ?_
          simp only [Act.put, List.setIfInBounds_toArray, List.set_cons_zero, List.set_cons_succ]
          refine takeD 9 (some 36) (.pointer (some ⟨b, o + j, none⟩)) hH rfl rfl (by kernel_rfl) (by kernel_rfl) (by kernel_rfl) (fun _ _ _ h => h) (Or.inl ⟨by rfl, by intro w' hSw; go_simp⟩) ?_
          simp only [Act.put, List.setIfInBounds_toArray, List.set_cons_zero, List.set_cons_succ]
          refine takeD 10 (some 37) (.slice a' t.length c') hH rfl rfl (by kernel_rfl) (by kernel_rfl) (by kernel_rfl) (fun _ _ _ h => h) (Or.inl ⟨by rfl, by intro w' hSw; have hc := CT w' hSw; go_simp⟩) ?_
          simp only [Act.put, List.setIfInBounds_toArray, List.set_cons_zero, List.set_cons_succ]
          refine wpAnyH_ready (rs := [1, 2]) (by kernel_rfl) (by simp) ?_
          refine AllReadyH.cons rfl (fun K' hK => ?_) (AllReadyH.cons rfl (fun K' hK => ?_) AllReadyH.nil)
          · have xx := x0
            rw [if_pos (by rfl)]
            go_simp
            refine hK.out _ _ hH (fun _ => ?_)
            clear hK K' xx
            refine wpAnyH_ready (rs := [2]) (by kernel_rfl) (by simp) ?_
            refine AllReadyH.cons rfl (fun K' hK => ?_) AllReadyH.nil
            rw [if_pos (by rfl)]
            go_simp
            refine hK.out _ _ SA (fun _ => ?_)
            clear hK K'
            refine wpAnyH_ready (rs := [11]) (by kernel_rfl) (by simp) ?_
            refine AllReadyH.cons rfl (fun K' hK => ?_) AllReadyH.nil
            refine step_append_does (by rfl) (.tmp 29) (.tmp 37) 50 (by rfl) (some 38) rfl wr.heap.size 56 j0 Try.underlying50 hj hy0 hy1 hy2 wr.heap.size (by rfl) OA (by simp) a' b' o' c' t (by rfl) DA ht ?_
            intro v4 w4 ho4 hg4 hat4
            obtain ⟨a4, c4, rfl, b4, hS4, hR4⟩ := F4.out w4 v4 ho4 hg4
            simp only [Act.put, List.setIfInBounds_toArray, List.set_cons_zero, List.set_cons_succ]
            refine hK.out _ _ (hbel.trans (b4.mono hbel.size)) (fun hH4 => ?_)
            clear hK K'
            have hS4a := hS4.bl' (below1 w4 (.cells #[.slice a4 t.length c4] 50))
            have S4a : Below W2.heap.size W2 (w4.alloc (.cells #[.slice a4 t.length c4] 50)) := hH4.alloc hH4.size _
            refine wpAnyH_ready (rs := [12]) (by kernel_rfl) (by simp) ?_
            refine AllReadyH.cons rfl (fun K' hK => ?_) AllReadyH.nil
            rw [if_pos (by rfl)]
            go_simp
            refine hK.out _ _ S4a (fun _ => ?_)
            clear hK K'
            refine wpAnyH_ready (rs := [13]) (by kernel_rfl) (by simp) ?_
            refine AllReadyH.cons rfl (fun K' hK => ?_) AllReadyH.nil
            refine step_append_lies _ (by rfl) (.tmp 28) (.tmp 39) 23 (by rfl) (W2.heap.size + 1) 50 i0 _ 1 24 Try.underlying23 hi hz0 hz1 hz2 rfl (by decide) (.slice av mm.length cv) mm.length vs (by rfl) ((hR4.b.outer).alloc _) ⟨w4.heap.size, 0, none⟩ 1 1 [.slice a4 t.length c4] (by rfl) (by rfl) (World.news_of_block (cs := #[.slice a4 t.length c4]) (t := 50) (fr := (0, 0)) (heap_alloc_new w4 _)) (by simp [Value.oneCell']) (by omega) (by unfold maxLen; omega) (by omega) (by have := b4.size; simp; omega) (w4.heap.size + 1) (by simp) ?_
            intro g5 cap5 w5 hown5 hg5 hat5 hlt5
            obtain ⟨b5, hS5, hQ5, hR5⟩ := F5.out w4 a4 c4 b4 ho4 g5 cap5 w5 hown5 hg5
            simp only [Act.put, List.setIfInBounds_toArray, List.set_cons_zero, List.set_cons_succ]
            refine hK.out _ _ b5 (fun hH5 => ?_)
            clear hK K'
            refine takeD 14 (some 41) (.pointer (some ⟨W2.heap.size, 0, none⟩)) hH5 rfl rfl (by kernel_rfl) (by kernel_rfl) (by kernel_rfl) (fun _ _ _ h => h) (Or.inl ⟨by rfl, by intro w' hSw; go_simp⟩) ?_
            simp only [Act.put, List.setIfInBounds_toArray, List.set_cons_zero, List.set_cons_succ]
            refine wpAnyH_ready (rs := [15]) (by kernel_rfl) (by simp) ?_
            refine AllReadyH.cons rfl (fun K' hK => ?_) AllReadyH.nil
            have xc := hS5.c
            have xz := hS5.fz
            rw [if_pos (by rfl)]
            go_simp
            refine hK.out _ _ (b5.setCell (Nat.le_refl _) _) (fun _ => ?_)
            clear hK K'
            refine wpAnyH_done (by kernel_rfl) ?_ _
            clear xc xz
            go_wp2_with fail
            exact ⟨⟨n + 1, _, _, by go_num, by omega, by rw [HW.out]; exact hR5.far (by omega) _, hS5.set _, hQ5.far (by omega) _, b5.setCell (Nat.le_refl _) _⟩, by simp [intOf]; omega⟩
          · rw [if_pos (by rfl)]
            go_simp
            refine hK.out _ _ SA (fun _ => ?_)
            clear hK K'
            refine wpAnyH_ready (rs := [1, 11]) (by kernel_rfl) (by simp) ?_
            refine AllReadyH.cons rfl (fun K' hK => ?_) (AllReadyH.cons rfl (fun K' hK => ?_) AllReadyH.nil)
            · have xx := SXA
              rw [if_pos (by rfl)]
              go_simp
              refine hK.out _ _ SA (fun _ => ?_)
              clear hK K' xx
              refine wpAnyH_ready (rs := [11]) (by kernel_rfl) (by simp) ?_
              refine AllReadyH.cons rfl (fun K' hK => ?_) AllReadyH.nil
              refine step_append_does (by rfl) (.tmp 29) (.tmp 37) 50 (by rfl) (some 38) rfl wr.heap.size 56 j0 Try.underlying50 hj hy0 hy1 hy2 wr.heap.size (by rfl) OA (by simp) a' b' o' c' t (by rfl) DA ht ?_
              intro v4 w4 ho4 hg4 hat4
              obtain ⟨a4, c4, rfl, b4, hS4, hR4⟩ := F4.out w4 v4 ho4 hg4
              simp only [Act.put, List.setIfInBounds_toArray, List.set_cons_zero, List.set_cons_succ]
              refine hK.out _ _ (hbel.trans (b4.mono hbel.size)) (fun hH4 => ?_)
              clear hK K'
              have hS4a := hS4.bl' (below1 w4 (.cells #[.slice a4 t.length c4] 50))
              have S4a : Below W2.heap.size W2 (w4.alloc (.cells #[.slice a4 t.length c4] 50)) := hH4.alloc hH4.size _
              refine wpAnyH_ready (rs := [12]) (by kernel_rfl) (by simp) ?_
              refine AllReadyH.cons rfl (fun K' hK => ?_) AllReadyH.nil
              rw [if_pos (by rfl)]
              go_simp
              refine hK.out _ _ S4a (fun _ => ?_)
              clear hK K'
              refine wpAnyH_ready (rs := [13]) (by kernel_rfl) (by simp) ?_
              refine AllReadyH.cons rfl (fun K' hK => ?_) AllReadyH.nil
              refine step_append_lies _ (by rfl) (.tmp 28) (.tmp 39) 23 (by rfl) (W2.heap.size + 1) 50 i0 _ 1 24 Try.underlying23 hi hz0 hz1 hz2 rfl (by decide) (.slice av mm.length cv) mm.length vs (by rfl) ((hR4.b.outer).alloc _) ⟨w4.heap.size, 0, none⟩ 1 1 [.slice a4 t.length c4] (by rfl) (by rfl) (World.news_of_block (cs := #[.slice a4 t.length c4]) (t := 50) (fr := (0, 0)) (heap_alloc_new w4 _)) (by simp [Value.oneCell']) (by omega) (by unfold maxLen; omega) (by omega) (by have := b4.size; simp; omega) (w4.heap.size + 1) (by simp) ?_
              intro g5 cap5 w5 hown5 hg5 hat5 hlt5
              obtain ⟨b5, hS5, hQ5, hR5⟩ := F5.out w4 a4 c4 b4 ho4 g5 cap5 w5 hown5 hg5
              simp only [Act.put, List.setIfInBounds_toArray, List.set_cons_zero, List.set_cons_succ]
              refine hK.out _ _ b5 (fun hH5 => ?_)
              clear hK K'
              refine takeD 14 (some 41) (.pointer (some ⟨W2.heap.size, 0, none⟩)) hH5 rfl rfl (by kernel_rfl) (by kernel_rfl) (by kernel_rfl) (fun _ _ _ h => h) (Or.inl ⟨by rfl, by intro w' hSw; go_simp⟩) ?_
              simp only [Act.put, List.setIfInBounds_toArray, List.set_cons_zero, List.set_cons_succ]
              refine wpAnyH_ready (rs := [15]) (by kernel_rfl) (by simp) ?_
              refine AllReadyH.cons rfl (fun K' hK => ?_) AllReadyH.nil
              have xc := hS5.c
              have xz := hS5.fz
              rw [if_pos (by rfl)]
              go_simp
              refine hK.out _ _ (b5.setCell (Nat.le_refl _) _) (fun _ => ?_)
              clear hK K'
              refine wpAnyH_done (by kernel_rfl) ?_ _
              clear xc xz
              go_wp2_with fail
              exact ⟨⟨n + 1, _, _, by go_num, by omega, by rw [HW.out]; exact hR5.far (by omega) _, hS5.set _, hQ5.far (by omega) _, b5.setCell (Nat.le_refl _) _⟩, by simp [intOf]; omega⟩
            · refine step_append_does (by rfl) (.tmp 29) (.tmp 37) 50 (by rfl) (some 38) rfl wr.heap.size 56 j0 Try.underlying50 hj hy0 hy1 hy2 wr.heap.size (by rfl) OA (by simp) a' b' o' c' t (by rfl) DA ht ?_
              intro v4 w4 ho4 hg4 hat4
              obtain ⟨a4, c4, rfl, b4, hS4, hR4⟩ := F4.out w4 v4 ho4 hg4
              simp only [Act.put, List.setIfInBounds_toArray, List.set_cons_zero, List.set_cons_succ]
              refine hK.out _ _ (hbel.trans (b4.mono hbel.size)) (fun hH4 => ?_)
              clear hK K'
              have hS4a := hS4.bl' (below1 w4 (.cells #[.slice a4 t.length c4] 50))
              have S4a : Below W2.heap.size W2 (w4.alloc (.cells #[.slice a4 t.length c4] 50)) := hH4.alloc hH4.size _
              refine wpAnyH_ready (rs := [1, 12]) (by kernel_rfl) (by simp) ?_
              refine AllReadyH.cons rfl (fun K' hK => ?_) (AllReadyH.cons rfl (fun K' hK => ?_) AllReadyH.nil)
              · have xx := hS4.c
                rw [if_pos (by rfl)]
                go_simp
                refine hK.out _ _ hH4 (fun _ => ?_)
                clear hK K' xx
                refine wpAnyH_ready (rs := [12]) (by kernel_rfl) (by simp) ?_
                refine AllReadyH.cons rfl (fun K' hK => ?_) AllReadyH.nil
                rw [if_pos (by rfl)]
                go_simp
                refine hK.out _ _ S4a (fun _ => ?_)
                clear hK K'
                refine wpAnyH_ready (rs := [13]) (by kernel_rfl) (by simp) ?_
                refine AllReadyH.cons rfl (fun K' hK => ?_) AllReadyH.nil
                refine step_append_lies _ (by rfl) (.tmp 28) (.tmp 39) 23 (by rfl) (W2.heap.size + 1) 50 i0 _ 1 24 Try.underlying23 hi hz0 hz1 hz2 rfl (by decide) (.slice av mm.length cv) mm.length vs (by rfl) ((hR4.b.outer).alloc _) ⟨w4.heap.size, 0, none⟩ 1 1 [.slice a4 t.length c4] (by rfl) (by rfl) (World.news_of_block (cs := #[.slice a4 t.length c4]) (t := 50) (fr := (0, 0)) (heap_alloc_new w4 _)) (by simp [Value.oneCell']) (by omega) (by unfold maxLen; omega) (by omega) (by have := b4.size; simp; omega) (w4.heap.size + 1) (by simp) ?_
                intro g5 cap5 w5 hown5 hg5 hat5 hlt5
                obtain ⟨b5, hS5, hQ5, hR5⟩ := F5.out w4 a4 c4 b4 ho4 g5 cap5 w5 hown5 hg5
                simp only [Act.put, List.setIfInBounds_toArray, List.set_cons_zero, List.set_cons_succ]
                refine hK.out _ _ b5 (fun hH5 => ?_)
                clear hK K'
                refine takeD 14 (some 41) (.pointer (some ⟨W2.heap.size, 0, none⟩)) hH5 rfl rfl (by kernel_rfl) (by kernel_rfl) (by kernel_rfl) (fun _ _ _ h => h) (Or.inl ⟨by rfl, by intro w' hSw; go_simp⟩) ?_
                simp only [Act.put, List.setIfInBounds_toArray, List.set_cons_zero, List.set_cons_succ]
                refine wpAnyH_ready (rs := [15]) (by kernel_rfl) (by simp) ?_
                refine AllReadyH.cons rfl (fun K' hK => ?_) AllReadyH.nil
                have xc := hS5.c
                have xz := hS5.fz
                rw [if_pos (by rfl)]
                go_simp
                refine hK.out _ _ (b5.setCell (Nat.le_refl _) _) (fun _ => ?_)
                clear hK K'
                refine wpAnyH_done (by kernel_rfl) ?_ _
                clear xc xz
                go_wp2_with fail
                exact ⟨⟨n + 1, _, _, by go_num, by omega, by rw [HW.out]; exact hR5.far (by omega) _, hS5.set _, hQ5.far (by omega) _, b5.setCell (Nat.le_refl _) _⟩, by simp [intOf]; omega⟩
              · rw [if_pos (by rfl)]
                go_simp
                refine hK.out _ _ S4a (fun _ => ?_)
                clear hK K'
                refine wpAnyH_ready (rs := [1]) (by kernel_rfl) (by simp) ?_
                refine AllReadyH.cons rfl (fun K' hK => ?_) AllReadyH.nil
                have xx := hS4a.c
                rw [if_pos (by rfl)]
                go_simp
                refine hK.out _ _ S4a (fun _ => ?_)
                clear hK K' xx
                refine wpAnyH_ready (rs := [13]) (by kernel_rfl) (by simp) ?_
                refine AllReadyH.cons rfl (fun K' hK => ?_) AllReadyH.nil
                refine step_append_lies _ (by rfl) (.tmp 28) (.tmp 39) 23 (by rfl) (W2.heap.size + 1) 50 i0 _ 1 24 Try.underlying23 hi hz0 hz1 hz2 rfl (by decide) (.slice av mm.length cv) mm.length vs (by rfl) ((hR4.b.outer).alloc _) ⟨w4.heap.size, 0, none⟩ 1 1 [.slice a4 t.length c4] (by rfl) (by rfl) (World.news_of_block (cs := #[.slice a4 t.length c4]) (t := 50) (fr := (0, 0)) (heap_alloc_new w4 _)) (by simp [Value.oneCell']) (by omega) (by unfold maxLen; omega) (by omega) (by have := b4.size; simp; omega) (w4.heap.size + 1) (by simp) ?_
                intro g5 cap5 w5 hown5 hg5 hat5 hlt5
                obtain ⟨b5, hS5, hQ5, hR5⟩ := F5.out w4 a4 c4 b4 ho4 g5 cap5 w5 hown5 hg5
                simp only [Act.put, List.setIfInBounds_toArray, List.set_cons_zero, List.set_cons_succ]
                refine hK.out _ _ b5 (fun hH5 => ?_)
                clear hK K'
                refine takeD 14 (some 41) (.pointer (some ⟨W2.heap.size, 0, none⟩)) hH5 rfl rfl (by kernel_rfl) (by kernel_rfl) (by kernel_rfl) (fun _ _ _ h => h) (Or.inl ⟨by rfl, by intro w' hSw; go_simp⟩) ?_
                simp only [Act.put, List.setIfInBounds_toArray, List.set_cons_zero, List.set_cons_succ]
                refine wpAnyH_ready (rs := [15]) (by kernel_rfl) (by simp) ?_
                refine AllReadyH.cons rfl (fun K' hK => ?_) AllReadyH.nil
                have xc := hS5.c
                have xz := hS5.fz
                rw [if_pos (by rfl)]
                go_simp
                refine hK.out _ _ (b5.setCell (Nat.le_refl _) _) (fun _ => ?_)
                clear hK K'
                refine wpAnyH_done (by kernel_rfl) ?_ _
                clear xc xz
                go_wp2_with fail
                exact ⟨⟨n + 1, _, _, by go_num, by omega, by rw [HW.out]; exact hR5.far (by omega) _, hS5.set _, hQ5.far (by omega) _, b5.setCell (Nat.le_refl _) _⟩, by simp [intOf]; omega⟩
        · have htk : gs.take n = gs := List.take_of_length_le (by omega)
          rw [htk] at hR
          have hkn' : ¬ (n : Int) < gs.length := by omega
          obtain ⟨av, gv, cv, rfl, _⟩ := hR.b.ss
          generalize M.pick [] gs ll = mm at *
          have p0 := hP.c
          have pf := hP.fz
          have q0 := hY.c
          have qf := hY.fz
          have lP := hP.lt
          have lQ := hY.lt
          have hne : w.heap.size + 1 ≠ W2.heap.size := by omega
          have hbw := bw1.trans (hbel.mono bw1.size)
          have hsz := bw1.size
          go_wp2_with fail
          have q1 := (hY.set (.slice av mm.length cv)).c
          exact bodyPost_ret (v := .tuple #[.agg #[.slice av mm.length cv], .bool true]) (by simp [results, Try.results10, go_sem, q1]) rfl ⟨_, by rw [HY1.out], ⟨vs, by rw [HY2.out]; exact (hR.far (by omega) _).mono (by omega)⟩, hbw.setCell (by show w.heap.size ≤ w.heap.size + 1; omega) _⟩

end Go.Proofs.Ytmbhnkdhoffnmaa

namespace Go.Proofs.Ytmbhnkdhoffnmaa
open Go.RowKit

theorem M.turnThreads_fact {mm qq : List (List M.D)} {gs : List Int} (e : (M.turnThreads mm gs).getD [] = qq) (h : (M.turnThreads mm gs).isSome = true) : (∀ x ∈ gs, 0 ≤ x ∧ x < gs.length) ∧ (M.turnThreads qq (M.back gs)).getD [] = mm ∧ (M.turnThreads qq (M.back gs)).isSome = true ∧ M.nreads qq = M.nreads mm := by
  obtain ⟨y, hy⟩ := Option.isSome_iff_exists.1 h
  obtain ⟨h1, h2, h3⟩ := M.turnThreads_some hy
  rw [hy] at e
  obtain rfl : y = qq := e
  subst h3
  obtain ⟨k1, k2, k3, k4⟩ := M.threads_back h1 h2
  rw [M.turnThreads_yes k1 k3, k4]
  exact ⟨fun x hx => by rw [M.rowN_len h2]; exact M.rowN_mem h2 x hx, rfl, rfl, by rw [M.nreads_ok k1, M.nreads_ok h1, k2]⟩

set_option maxHeartbeats 2000000 in
set_option maxRecDepth 100000 in
set_option linter.unusedSimpArgs false in
theorem lawUt_any (ca : Option Addr) (cb co L C : Nat) (x : Nat → Int) (w : World) (hL : L ≤ C) (had : 0 < L → ca = some ⟨cb, co, none⟩) (hc : ∀ i, i < L → w.cell? ⟨cb, co + i, none⟩ = some (.int .u8 (x i)) ∧ 0 ≤ x i ∧ x i ≤ 255) :
    Calls Try.prog 3 #[.slice ca L C] w fun e w' => e = .returned (.bool true) ∧ Below w.heap.size w w' := by
  by_cases hLb : L ≤ 1048576
  · go_enter Try.func3, Try.ntmps3
    go_wp2_with fail
    refine (DrawTurnThreads_any ca cb co L C x _ hL had hc hLb).mono ?_
    rintro e w1 ⟨a, g, c, mm, ga, gg, gc, gs, rfl, hD⟩
    have hle : ∀ t ∈ mm, t.length ≤ 1048576 := fun t ht => by have := hD.sm.steps t ht; omega
    have hml : mm.length ≤ 1048576 := by have := hD.sm.three; omega
    have hgl : gs.length ≤ 1048576 := by have := hD.gl; omega
    have hgl20 : gs.length ≤ 1000 := by have := hD.gl; omega
    have bA := below1 w1 (.cells #[.slice a mm.length c] 25)
    have bwA := hD.bel.trans (bA.mono hD.bel.size)
    have sP := Slot1.new w1 (.slice a mm.length c) 25
    have ssP := hD.sn.ss.below bA (Nat.le_refl _)
    have giP := hD.gi.below bA (Nat.le_refl _)
    clear had hc hD bA
    have x0 := sP.c
    go_wp2_with fail
    generalize w1.alloc (.cells #[.slice a mm.length c] 25) = WA at *
    generalize w1.heap.size = P at *
    have CS := sturnThreads_any a g 0 c mm hml hle ga gg 0 gc gs hgl
    have CI := iturnThreads_any a g 0 c mm hml hle ga gg 0 gc gs hgl
    have HS : Hid (∀ qq, (M.turnThreads mm gs).getD [] = qq → (M.turnThreads mm gs).isSome = true → (∀ x ∈ gs, 0 ≤ x ∧ x < gs.length) ∧ (M.turnThreads qq (M.back gs)).getD [] = mm ∧ (M.turnThreads qq (M.back gs)).isSome = true ∧ M.nreads qq = M.nreads mm) := fun qq e h => M.turnThreads_fact e h
    obtain ⟨qq, hq⟩ : ∃ qq, (M.turnThreads mm gs).getD [] = qq := ⟨_, rfl⟩
    rw [hq] at CS CI
    obtain ⟨hq3, hq7⟩ := M.turnThreads_small hq
    have hql : qq.length ≤ 1048576 := by omega
    have hqls : ∀ t ∈ qq, t.length ≤ 1048576 := fun t ht => by have := hq7 t ht; omega
    have HS1 : Hid ((M.turnThreads mm gs).isSome = true → (∀ x ∈ gs, 0 ≤ x ∧ x < gs.length) ∧ (M.turnThreads qq (M.back gs)).getD [] = mm ∧ (M.turnThreads qq (M.back gs)).isSome = true ∧ M.nreads qq = M.nreads mm) := HS.out qq hq
    clear hq HS
    obtain ⟨ok, hok⟩ : ∃ ok, (M.turnThreads mm gs).isSome = ok := ⟨_, rfl⟩
    rw [hok] at CS CI HS1
    clear hok
    have LQ := fun A B C D E F W h1 h2 => lpProg_any A B 0 C D E 0 F qq qq W hql hql hqls h1 h2
    rw [M.eqLL_yes rfl] at LQ
    refine (CS WA ssP giP).mono ?_
    rintro e w2 ⟨v2, rfl, ⟨vs2, hR2⟩, b2⟩
    obtain ⟨av, gv, cv, rfl, hss2⟩ := hR2.b.ss
    have bW := below1 w2 (.cells #[.slice av qq.length cv] 25)
    have bAW := b2.trans (bW.mono b2.size)
    have sPW := sP.bl' bAW
    have sW := Slot1.new w2 (.slice av qq.length cv) 25
    have ssW := hss2.below bW (Nat.le_refl _)
    clear hR2 hss2 b2 bW x0
    have x0 := sPW.c
    go_wp2_with fail
    generalize w2.alloc (.cells #[.slice av qq.length cv] 25) = WB at *
    generalize w2.heap.size = PW at *
    refine (CI WB (ssP.below bAW (Nat.le_refl _)) (giP.below bAW (Nat.le_refl _))).mono ?_
    rintro e w3 ⟨v3, rfl, ⟨vs3, hR3⟩, b3⟩
    obtain ⟨ai, gi, ci, rfl, hss3⟩ := hR3.b.ss
    have bQ := below1 w3 (.cells #[.slice ai qq.length ci] 25)
    have bBQ := b3.trans (bQ.mono b3.size)
    have bAQ := bAW.trans (bBQ.mono bAW.size)
    have sPQ := sP.bl' bAQ
    have sQ := Slot1.new w3 (.slice ai qq.length ci) 25
    have ssQ := hss3.below bQ (Nat.le_refl _)
    have sWQ := sW.bl' bBQ
    have ssWQ := ssW.below bBQ (Nat.le_refl _)
    clear hR3 hss3 b3 bQ x0 sPW sW ssW
    have x1 := sQ.c
    have x2 := sWQ.c
    cases ok
    · go_wp2_with fail
      generalize w3.alloc (.cells #[.slice ai qq.length ci] 25) = WC at *
      generalize w3.heap.size = PQ at *
      refine (LQ ai gi ci av gv cv _ ssQ ssWQ).mono ?_
      rintro e w4 ⟨rfl, b4⟩
      have sQ4 := sQ.bl' b4
      have sW4 := sWQ.bl' b4
      have bA4 := bAQ.trans (b4.mono bAQ.size)
      clear x1 x2
      have x1 := sQ4.c
      have x2 := sW4.c
      go_wp2_with fail
      refine (LQ ai gi ci av gv cv _ (ssQ.below b4 (Nat.le_refl _)) (ssWQ.below b4 (Nat.le_refl _))).mono ?_
      rintro e w5 ⟨rfl, b5⟩
      go_wp2_with fail
      go_ret
      exact ⟨rfl, bwA.trans ((bA4.trans (b5.mono bA4.size)).mono bwA.size)⟩
    · obtain ⟨hin, hbk, hbs, hrd⟩ := HS1.out rfl
      have HBK : Hid ((M.turnThreads qq (M.back gs)).getD [] = mm) := hbk
      have HBS : Hid ((M.turnThreads qq (M.back gs)).isSome = true) := hbs
      have CB := iturnThreads_any ai gi 0 ci qq hql hqls
      clear HS1 hbk hbs
      go_wp2_with fail
      generalize w3.alloc (.cells #[.slice ai qq.length ci] 25) = WC at *
      generalize w3.heap.size = PQ at *
      refine (LQ ai gi ci av gv cv _ ssQ ssWQ).mono ?_
      rintro e WD ⟨rfl, b4⟩
      have sQD := sQ.bl' b4
      have sPD := sPQ.bl' b4
      have bAD := bAQ.trans (b4.mono bAQ.size)
      have ssQD := ssQ.below b4 (Nat.le_refl _)
      have ssPD := ssP.below bAD (Nat.le_refl _)
      have giD := giP.below bAD (Nat.le_refl _)
      have bwD := bwA.trans (bAD.mono bwA.size)
      clear x1 x2 sQ sPQ bAQ ssQ ssP b4 bAD sWQ ssWQ bBQ bAW sP giP bwA CS CI LQ
      have x0 := sPD.c
      have x1 := sQD.c
      have CL : ∀ (W : World) (Z : Nat), Below WD.heap.size WD W → W.heap.size = Z → Calls Try.prog 13 #[.slice ga gs.length gc] W fun e w' => e = .returned (.slice (some ⟨Z, 0, none⟩) gs.length gs.length) ∧ IntS w' (some ⟨Z, 0, none⟩) Z 0 (M.back gs) ∧ Below W.heap.size W w' ∧ Below WD.heap.size WD w' := by
        intro W Z hb hz
        subst hz
        refine (lpBack_any ga gg 0 gc gs W hgl20 hin (giD.below hb (Nat.le_refl _))).mono ?_
        rintro e w' ⟨h1, h2, h3⟩
        exact ⟨h1, h2, h3, hb.trans (h3.mono hb.size)⟩
      have CC : ∀ (W : World) (Z : Nat), Below WD.heap.size WD W → IntS W (some ⟨Z, 0, none⟩) Z 0 (M.back gs) → Calls Try.prog 11 #[.agg #[.slice ai qq.length ci], .slice (some ⟨Z, 0, none⟩) gs.length gs.length] W fun e w' => ∃ v, e = .returned (.tuple #[.agg #[v], .bool true]) ∧ (∃ vs, Rdg w' W.heap.size v mm vs) ∧ Below W.heap.size W w' := by
        intro W Z hb hi
        have C6 := CB (some ⟨Z, 0, none⟩) Z 0 gs.length (M.back gs) (by rw [M.back_len]; omega) W (ssQD.below hb (Nat.le_refl _)) hi
        rw [HBK.out, HBS.out, M.back_len] at C6
        exact C6
      have LX := fun A B C W h1 h2 => lpProg_any A B 0 C a g 0 c mm mm W hml hml hle h1 h2
      rw [M.eqLL_yes rfl] at LX
      go_wp2_with fail
      refine wp_region_held_drew (S := fun w' => Below WD.heap.size WD w') (by kernel_rfl) (Below.refl _ _).drew (fun hH => ?_)
      refine takeD 0 (some 53) (.agg #[.slice ai qq.length ci]) hH rfl rfl (by kernel_rfl) (by kernel_rfl) (by kernel_rfl) (fun _ _ _ h => h) (Or.inl ⟨by rfl, by intro w' hSw; have hc := (hSw.cell (p := ⟨PQ, 0, none⟩) sQD.lt).trans x1; go_simp⟩) ?_
      simp only [Act.put, List.setIfInBounds_toArray, List.set_cons_zero, List.set_cons_succ]
      refine takeD 1 (some 54) (.slice ga gs.length gc) hH rfl rfl (by kernel_rfl) (by kernel_rfl) (by kernel_rfl) (fun _ _ _ h => h) (Or.inl ⟨by rfl, by intro w' hSw; go_simp⟩) ?_
      simp only [Act.put, List.setIfInBounds_toArray, List.set_cons_zero, List.set_cons_succ]
      refine wpAnyH_ready (rs := [2, 7]) (by kernel_rfl) (by simp) ?_
      refine AllReadyH.cons rfl (fun K' hK => ?_) (AllReadyH.cons rfl (fun K' hK => ?_) AllReadyH.nil)
      · refine step_goV (by rfl) (some 55) rfl 13 #[.tmp 54] _ rfl #[.slice ga gs.length gc] (by simp [Act.eval]) (fun _ _ => rfl) (CL (WD.drew) (WD.heap.size) (Below.refl _ _).drew rfl) ?_
        rintro e w5 ⟨rfl, hI5, b5x, b5⟩
        refine ⟨_, rfl, ?_⟩
        simp only [Act.put, List.setIfInBounds_toArray, List.set_cons_zero, List.set_cons_succ]
        refine hK.out _ _ b5 (fun hH5 => ?_)
        clear hK K'
        refine wpAnyH_ready (rs := [3, 7]) (by kernel_rfl) (by simp) ?_
        refine AllReadyH.cons rfl (fun K' hK => ?_) (AllReadyH.cons rfl (fun K' hK => ?_) AllReadyH.nil)
        · refine step_goV (by rfl) (some 56) rfl 11 #[.tmp 53, .tmp 55] _ rfl #[.agg #[.slice ai qq.length ci], .slice (some ⟨WD.heap.size, 0, none⟩) gs.length gs.length] (by simp [Act.eval]) (fun _ _ => rfl) (CC (w5) (WD.heap.size) b5 (by first | exact hI5 | exact hI5.below (below1 _ _) (Nat.le_refl _))) ?_
          rintro e w6 ⟨v6, rfl, ⟨vs6, hR6⟩, b56⟩
          have b6 : Below WD.heap.size WD w6 := Below.trans b5 (b56.mono (Below.size b5))
          obtain ⟨ax, gx, cx, rfl, hssx⟩ := hR6.b.ss
          refine ⟨_, rfl, ?_⟩
          simp only [Act.put, List.setIfInBounds_toArray, List.set_cons_zero, List.set_cons_succ]
          refine hK.out _ _ b6 (fun hH6 => ?_)
          clear hK K'
          refine takeD 4 (some 52) (.tuple #[.agg #[.slice ax mm.length cx], .bool true]) hH6 rfl rfl (by kernel_rfl) (by kernel_rfl) (by kernel_rfl) (fun _ _ _ h => h) (Or.inl ⟨by rfl, by intro w' hSw; go_simp⟩) ?_
          simp only [Act.put, List.setIfInBounds_toArray, List.set_cons_zero, List.set_cons_succ]
          refine takeD 5 (some 57) (.agg #[.slice ax mm.length cx]) hH6 rfl rfl (by kernel_rfl) (by kernel_rfl) (by kernel_rfl) (fun _ _ _ h => h) (Or.inl ⟨by rfl, by intro w' hSw; go_simp⟩) ?_
          simp only [Act.put, List.setIfInBounds_toArray, List.set_cons_zero, List.set_cons_succ]
          refine takeD 6 (some 58) (.bool true) hH6 rfl rfl (by kernel_rfl) (by kernel_rfl) (by kernel_rfl) (fun _ _ _ h => h) (Or.inl ⟨by rfl, by intro w' hSw; go_simp⟩) ?_
          simp only [Act.put, List.setIfInBounds_toArray, List.set_cons_zero, List.set_cons_succ]
          refine wpAnyH_ready (rs := [7]) (by kernel_rfl) (by simp) ?_
          refine AllReadyH.cons rfl (fun K' hK => ?_) AllReadyH.nil
          rw [if_pos (by rfl)]
          go_simp
          refine hK.out _ _ (b6.alloc b6.size _) (fun hHa => ?_)
          clear hK K'
          refine wpAnyH_ready (rs := [8]) (by kernel_rfl) (by simp) ?_
          refine AllReadyH.cons rfl (fun K' hK => ?_) AllReadyH.nil
          rw [if_pos (by rfl)]
          go_simp
          refine hK.out _ _ (b6.alloc b6.size _) (fun hHb => ?_)
          clear hK K'
          refine takeD 9 (some 10) (.bool true) hHb rfl rfl (by kernel_rfl) (by kernel_rfl) (by kernel_rfl) (fun _ _ _ h => h) (Or.inl ⟨by rfl, by intro w' hSw; go_simp⟩) ?_
          simp only [Act.put, List.setIfInBounds_toArray, List.set_cons_zero, List.set_cons_succ]
          refine wpAnyH_done (by kernel_rfl) ?_ _
          have sX := Slot1.new w6 (.slice ax mm.length cx) 25
          have bF := b6.alloc b6.size (.cells #[.slice ax mm.length cx] 25)
          have ssX := hssx.below (below1 w6 (.cells #[.slice ax mm.length cx] 25)) (Nat.le_refl _)
          clear hssx
          generalize w6.alloc (.cells #[.slice ax mm.length cx] 25) = WF at *
          generalize w6.heap.size = NX at *
          have ssQF := ssQD.below bF (Nat.le_refl _)
          have ssPF := ssPD.below bF (Nat.le_refl _)
          have y0 := (sPD.bl' bF).c
          have y1 := (sQD.bl' bF).c
          have y2 := sX.c
          have bwF := bwD.trans (bF.mono bwD.size)
          have C0 := fun q : BelowOf WF => LX _ _ cx q.x (ssX.below q.h (Nat.le_refl _)) (ssPF.below q.h (Nat.le_refl _))
          have C1 := fun q : BelowOf WF => ireads_any ai gi 0 ci qq q.x hql hqls (ssQF.below q.h (Nat.le_refl _))
          have C2 := fun q : BelowOf WF => ireads_any a g 0 c mm q.x hml hle (ssPF.below q.h (Nat.le_refl _))
          rw [hrd] at C1
          generalize M.nreads mm = R at *
          have X0 := BelowOf.cell y0
          have X1 := BelowOf.cell y1
          have X2 := BelowOf.cell y2
          clear hrd x0 x1 y0 y1 y2
          haveI : Inhabited (BelowOf WF) := ⟨belOf WF⟩
          go_wp2_with fail
          refine wp_region_quiet_bel (by kernel_rfl) (by kernel_rfl) ?_
          iterate 4 (quiet_step (fail))
          iterate 1 (quiet_step (first | (go_at_call 12; exact Calls.bel_of (C0 _))))
          iterate 3 (quiet_step (fail))
          iterate 1 (quiet_step (first | (go_at_call 14; exact Calls.bel_of (C1 _))))
          iterate 1 (quiet_step (fail))
          iterate 1 (quiet_step (first | (go_at_call 14; exact Calls.bel_of (C2 _))))
          iterate 3 (quiet_step (fail))
          refine wpQuiet_nil ?_
          rintro W1 ⟨⟨_, hwq⟩, rfl⟩
          go_wp2_with fail
          go_ret
          exact ⟨rfl, bwF.trans (hwq.mono bwF.size)⟩
        · rw [if_pos (by rfl)]
          go_simp
          refine hK.out _ _ (b5.alloc b5.size _) (fun hHa => ?_)
          clear hK K'
          refine wpAnyH_ready (rs := [3]) (by kernel_rfl) (by simp) ?_
          refine AllReadyH.cons rfl (fun K' hK => ?_) AllReadyH.nil
          refine step_goV (by rfl) (some 56) rfl 11 #[.tmp 53, .tmp 55] _ rfl #[.agg #[.slice ai qq.length ci], .slice (some ⟨WD.heap.size, 0, none⟩) gs.length gs.length] (by simp [Act.eval]) (fun _ _ => rfl) (CC (w5.alloc (.cells #[.slice none 0 0] 25)) (WD.heap.size) (b5.alloc b5.size _) (by first | exact hI5 | exact hI5.below (below1 _ _) (Nat.le_refl _))) ?_
          rintro e w6 ⟨v6, rfl, ⟨vs6, hR6⟩, b56⟩
          have b6 : Below WD.heap.size WD w6 := Below.trans (b5.alloc b5.size _) (b56.mono (Below.size (b5.alloc b5.size _)))
          obtain ⟨ax, gx, cx, rfl, hssx⟩ := hR6.b.ss
          refine ⟨_, rfl, ?_⟩
          simp only [Act.put, List.setIfInBounds_toArray, List.set_cons_zero, List.set_cons_succ]
          refine hK.out _ _ b6 (fun hH6 => ?_)
          clear hK K'
          refine takeD 4 (some 52) (.tuple #[.agg #[.slice ax mm.length cx], .bool true]) hH6 rfl rfl (by kernel_rfl) (by kernel_rfl) (by kernel_rfl) (fun _ _ _ h => h) (Or.inl ⟨by rfl, by intro w' hSw; go_simp⟩) ?_
          simp only [Act.put, List.setIfInBounds_toArray, List.set_cons_zero, List.set_cons_succ]
          refine takeD 5 (some 57) (.agg #[.slice ax mm.length cx]) hH6 rfl rfl (by kernel_rfl) (by kernel_rfl) (by kernel_rfl) (fun _ _ _ h => h) (Or.inl ⟨by rfl, by intro w' hSw; go_simp⟩) ?_
          simp only [Act.put, List.setIfInBounds_toArray, List.set_cons_zero, List.set_cons_succ]
          refine takeD 6 (some 58) (.bool true) hH6 rfl rfl (by kernel_rfl) (by kernel_rfl) (by kernel_rfl) (fun _ _ _ h => h) (Or.inl ⟨by rfl, by intro w' hSw; go_simp⟩) ?_
          simp only [Act.put, List.setIfInBounds_toArray, List.set_cons_zero, List.set_cons_succ]
          refine wpAnyH_ready (rs := [8]) (by kernel_rfl) (by simp) ?_
          refine AllReadyH.cons rfl (fun K' hK => ?_) AllReadyH.nil
          have sN : Slot1 w6 w5.heap.size (.slice none 0 0) := (Slot1.new w5 (.slice none 0 0) 25).bl' b56
          have bN : Below WD.heap.size WD w6 := b6
          have xc := sN.c
          have xz := sN.fz
          have hgeN : WD.heap.size ≤ w5.heap.size := b5.size
          rw [if_pos (by rfl)]
          go_simp
          refine hK.out _ _ (bN.setCell (p := ⟨w5.heap.size, 0, none⟩) hgeN _) (fun hHb => ?_)
          clear hK K' xc xz
          have sX := sN.set (.slice ax mm.length cx)
          refine takeD 9 (some 10) (.bool true) hHb rfl rfl (by kernel_rfl) (by kernel_rfl) (by kernel_rfl) (fun _ _ _ h => h) (Or.inl ⟨by rfl, by intro w' hSw; go_simp⟩) ?_
          simp only [Act.put, List.setIfInBounds_toArray, List.set_cons_zero, List.set_cons_succ]
          refine wpAnyH_done (by kernel_rfl) ?_ _
          have bF := bN.setCell (p := ⟨w5.heap.size, 0, none⟩) hgeN (.slice ax mm.length cx)
          obtain ⟨ax', gy, cx', ey, ssX⟩ := (hR6.far (b := w5.heap.size) (i := 0) (by simp) (.slice ax mm.length cx)).b.ss
          obtain ⟨rfl, _, rfl⟩ := Value.slice.inj ey
          generalize w6.setCell ⟨w5.heap.size, 0, none⟩ (.slice ax mm.length cx) = WF at *
          generalize w5.heap.size = NX at *
          clear hssx
          have ssQF := ssQD.below bF (Nat.le_refl _)
          have ssPF := ssPD.below bF (Nat.le_refl _)
          have y0 := (sPD.bl' bF).c
          have y1 := (sQD.bl' bF).c
          have y2 := sX.c
          have bwF := bwD.trans (bF.mono bwD.size)
          have C0 := fun q : BelowOf WF => LX _ _ cx q.x (ssX.below q.h (Nat.le_refl _)) (ssPF.below q.h (Nat.le_refl _))
          have C1 := fun q : BelowOf WF => ireads_any ai gi 0 ci qq q.x hql hqls (ssQF.below q.h (Nat.le_refl _))
          have C2 := fun q : BelowOf WF => ireads_any a g 0 c mm q.x hml hle (ssPF.below q.h (Nat.le_refl _))
          rw [hrd] at C1
          generalize M.nreads mm = R at *
          have X0 := BelowOf.cell y0
          have X1 := BelowOf.cell y1
          have X2 := BelowOf.cell y2
          clear hrd x0 x1 y0 y1 y2
          haveI : Inhabited (BelowOf WF) := ⟨belOf WF⟩
          go_wp2_with fail
          refine wp_region_quiet_bel (by kernel_rfl) (by kernel_rfl) ?_
          iterate 4 (quiet_step (fail))
          iterate 1 (quiet_step (first | (go_at_call 12; exact Calls.bel_of (C0 _))))
          iterate 3 (quiet_step (fail))
          iterate 1 (quiet_step (first | (go_at_call 14; exact Calls.bel_of (C1 _))))
          iterate 1 (quiet_step (fail))
          iterate 1 (quiet_step (first | (go_at_call 14; exact Calls.bel_of (C2 _))))
          iterate 3 (quiet_step (fail))
          refine wpQuiet_nil ?_
          rintro W1 ⟨⟨_, hwq⟩, rfl⟩
          go_wp2_with fail
          go_ret
          exact ⟨rfl, bwF.trans (hwq.mono bwF.size)⟩
      · rw [if_pos (by rfl)]
        go_simp
        refine hK.out _ _ ((Below.refl WD.heap.size WD).drew.alloc (Nat.le_refl _) _) (fun hHa => ?_)
        clear hK K'
        refine wpAnyH_ready (rs := [2]) (by kernel_rfl) (by simp) ?_
        refine AllReadyH.cons rfl (fun K' hK => ?_) AllReadyH.nil
        refine step_goV (by rfl) (some 55) rfl 13 #[.tmp 54] _ rfl #[.slice ga gs.length gc] (by simp [Act.eval]) (fun _ _ => rfl) (CL (WD.drew.alloc (.cells #[.slice none 0 0] 25)) (WD.heap.size + 1) ((Below.refl WD.heap.size WD).drew.alloc (Nat.le_refl _) _) (by simp)) ?_
        rintro e w5 ⟨rfl, hI5, b5x, b5⟩
        refine ⟨_, rfl, ?_⟩
        simp only [Act.put, List.setIfInBounds_toArray, List.set_cons_zero, List.set_cons_succ]
        refine hK.out _ _ b5 (fun hH5 => ?_)
        clear hK K'
        refine wpAnyH_ready (rs := [3]) (by kernel_rfl) (by simp) ?_
        refine AllReadyH.cons rfl (fun K' hK => ?_) AllReadyH.nil
        refine step_goV (by rfl) (some 56) rfl 11 #[.tmp 53, .tmp 55] _ rfl #[.agg #[.slice ai qq.length ci], .slice (some ⟨WD.heap.size + 1, 0, none⟩) gs.length gs.length] (by simp [Act.eval]) (fun _ _ => rfl) (CC (w5) (WD.heap.size + 1) b5 (by first | exact hI5 | exact hI5.below (below1 _ _) (Nat.le_refl _))) ?_
        rintro e w6 ⟨v6, rfl, ⟨vs6, hR6⟩, b56⟩
        have b6 : Below WD.heap.size WD w6 := Below.trans b5 (b56.mono (Below.size b5))
        obtain ⟨ax, gx, cx, rfl, hssx⟩ := hR6.b.ss
        refine ⟨_, rfl, ?_⟩
        simp only [Act.put, List.setIfInBounds_toArray, List.set_cons_zero, List.set_cons_succ]
        refine hK.out _ _ b6 (fun hH6 => ?_)
        clear hK K'
        refine takeD 4 (some 52) (.tuple #[.agg #[.slice ax mm.length cx], .bool true]) hH6 rfl rfl (by kernel_rfl) (by kernel_rfl) (by kernel_rfl) (fun _ _ _ h => h) (Or.inl ⟨by rfl, by intro w' hSw; go_simp⟩) ?_
        simp only [Act.put, List.setIfInBounds_toArray, List.set_cons_zero, List.set_cons_succ]
        refine takeD 5 (some 57) (.agg #[.slice ax mm.length cx]) hH6 rfl rfl (by kernel_rfl) (by kernel_rfl) (by kernel_rfl) (fun _ _ _ h => h) (Or.inl ⟨by rfl, by intro w' hSw; go_simp⟩) ?_
        simp only [Act.put, List.setIfInBounds_toArray, List.set_cons_zero, List.set_cons_succ]
        refine takeD 6 (some 58) (.bool true) hH6 rfl rfl (by kernel_rfl) (by kernel_rfl) (by kernel_rfl) (fun _ _ _ h => h) (Or.inl ⟨by rfl, by intro w' hSw; go_simp⟩) ?_
        simp only [Act.put, List.setIfInBounds_toArray, List.set_cons_zero, List.set_cons_succ]
        refine wpAnyH_ready (rs := [8]) (by kernel_rfl) (by simp) ?_
        refine AllReadyH.cons rfl (fun K' hK => ?_) AllReadyH.nil
        have sN : Slot1 w6 WD.heap.size (.slice none 0 0) := ((Slot1.new WD.drew (.slice none 0 0) 25).bl' b5x).bl' b56
        have bN : Below WD.heap.size WD w6 := b6
        have xc := sN.c
        have xz := sN.fz
        have hgeN : WD.heap.size ≤ WD.heap.size := (Nat.le_refl _)
        rw [if_pos (by rfl)]
        go_simp
        refine hK.out _ _ (bN.setCell (p := ⟨WD.heap.size, 0, none⟩) hgeN _) (fun hHb => ?_)
        clear hK K' xc xz
        have sX := sN.set (.slice ax mm.length cx)
        refine takeD 9 (some 10) (.bool true) hHb rfl rfl (by kernel_rfl) (by kernel_rfl) (by kernel_rfl) (fun _ _ _ h => h) (Or.inl ⟨by rfl, by intro w' hSw; go_simp⟩) ?_
        simp only [Act.put, List.setIfInBounds_toArray, List.set_cons_zero, List.set_cons_succ]
        refine wpAnyH_done (by kernel_rfl) ?_ _
        have bF := bN.setCell (p := ⟨WD.heap.size, 0, none⟩) hgeN (.slice ax mm.length cx)
        obtain ⟨ax', gy, cx', ey, ssX⟩ := (hR6.far (b := WD.heap.size) (i := 0) (by have := b5x.size; simp at this; omega) (.slice ax mm.length cx)).b.ss
        obtain ⟨rfl, _, rfl⟩ := Value.slice.inj ey
        generalize w6.setCell ⟨WD.heap.size, 0, none⟩ (.slice ax mm.length cx) = WF at *
        clear hssx
        have ssQF := ssQD.below bF (Nat.le_refl _)
        have ssPF := ssPD.below bF (Nat.le_refl _)
        have y0 := (sPD.bl' bF).c
        have y1 := (sQD.bl' bF).c
        have y2 := sX.c
        have bwF := bwD.trans (bF.mono bwD.size)
        have C0 := fun q : BelowOf WF => LX _ _ cx q.x (ssX.below q.h (Nat.le_refl _)) (ssPF.below q.h (Nat.le_refl _))
        have C1 := fun q : BelowOf WF => ireads_any ai gi 0 ci qq q.x hql hqls (ssQF.below q.h (Nat.le_refl _))
        have C2 := fun q : BelowOf WF => ireads_any a g 0 c mm q.x hml hle (ssPF.below q.h (Nat.le_refl _))
        rw [hrd] at C1
        generalize M.nreads mm = R at *
        have X0 := BelowOf.cell y0
        have X1 := BelowOf.cell y1
        have X2 := BelowOf.cell y2
        clear hrd x0 x1 y0 y1 y2
        haveI : Inhabited (BelowOf WF) := ⟨belOf WF⟩
        go_wp2_with fail
        refine wp_region_quiet_bel (by kernel_rfl) (by kernel_rfl) ?_
        iterate 4 (quiet_step (fail))
        iterate 1 (quiet_step (first | (go_at_call 12; exact Calls.bel_of (C0 _))))
        iterate 3 (quiet_step (fail))
        iterate 1 (quiet_step (first | (go_at_call 14; exact Calls.bel_of (C1 _))))
        iterate 1 (quiet_step (fail))
        iterate 1 (quiet_step (first | (go_at_call 14; exact Calls.bel_of (C2 _))))
        iterate 3 (quiet_step (fail))
        refine wpQuiet_nil ?_
        rintro W1 ⟨⟨_, hwq⟩, rfl⟩
        go_wp2_with fail
        go_ret
        exact ⟨rfl, bwF.trans (hwq.mono bwF.size)⟩
  · go_enter Try.func3, Try.ntmps3
    go_wp2_with fail
    go_ret
    exact ⟨rfl, Below.refl _ _⟩

end Go.Proofs.Ytmbhnkdhoffnmaa
