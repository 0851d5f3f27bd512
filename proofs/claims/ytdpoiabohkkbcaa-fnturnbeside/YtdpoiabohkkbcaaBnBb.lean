/- impl.TurnBeside. Of at most 1048576 threads, and steps of a thread, of each. append of steps onto an empty row that was made: in plain regions, and in those that draw their order. No condition. spec.TurnBeside. Of at most 1048576 threads, and steps of a thread, of each. Rows of few numbers, turned back; programs whose threads, places or values are turned are programs. No condition. -/
import Derived.Test.YtdpoiabohkkbcaaBnBa
import Derived.Deep.RegionLaw
import Derived.Maps.AppendAt
import Derived.Test.YtdpoiabohkkbcaaSProg

namespace Go.Proofs.Ytdpoiabohkkbcaa
open Go.RowKit

theorem cells2_0 (w : World) (x y : Value) (t : TypeId) : (w.alloc (.cells #[x, y] t)).cell? ⟨w.heap.size, 0, none⟩ = some x := by simp
theorem cells2_1 (w : World) (x y : Value) (t : TypeId) : (w.alloc (.cells #[x, y] t)).cell? ⟨w.heap.size, 1, none⟩ = some y := by simp

set_option maxHeartbeats 2000000 in
set_option maxRecDepth 100000 in
theorem iturnBeside_any (a : Option Addr) (b o c : Nat) (ll : List (List M.D)) (hl : ll.length ≤ 1048576) (hls : ∀ t ∈ ll, t.length ≤ 1048576) (a2 : Option Addr) (b2 o2 c2 : Nat) (mm : List (List M.D)) (hm : mm.length ≤ 1048576) (hms : ∀ t ∈ mm, t.length ≤ 1048576) (w : World) (h : DoSS w a b o ll) (h2 : DoSS w a2 b2 o2 mm) :
    Calls Try.prog 22 #[.agg #[.slice a ll.length c], .agg #[.slice a2 mm.length c2]] w fun e w' => ∃ v, e = .returned (.tuple #[.agg #[v], .bool (M.turnBeside ll mm).isSome]) ∧ (∃ vs, Rdg w' w.heap.size v ((M.turnBeside ll mm).getD []) vs) ∧ Below w.heap.size w w' := by
  have b2' := below3 w (.cells #[.slice a ll.length c] 25) (.cells #[.slice a2 mm.length c2] 25) (.cells #[.slice none 0 0] 25)
  have h1 := h.below b2' (Nat.le_refl _)
  have k1 := h2.below b2' (Nat.le_refl _)
  have hX := ((Slot1.new w (.slice a ll.length c) 25).bl' (below1 _ (.cells #[.slice a2 mm.length c2] 25))).bl' (below1 _ (.cells #[.slice none 0 0] 25))
  have hZ := (Slot1.new (w.alloc (.cells #[.slice a ll.length c] 25)) (.slice a2 mm.length c2) 25).bl' (below1 _ (.cells #[.slice none 0 0] 25))
  have hY := Slot1.new ((w.alloc (.cells #[.slice a ll.length c] 25)).alloc (.cells #[.slice a2 mm.length c2] 25)) (.slice none 0 0) 25
  rw [World.size_alloc] at hZ
  rw [World.size_alloc, World.size_alloc] at hY
  go_enter Try.func22, Try.ntmps22
  go_wp2_with fail
  generalize ((w.alloc (.cells #[.slice a ll.length c] 25)).alloc (.cells #[.slice a2 mm.length c2] 25)).alloc (.cells #[.slice none 0 0] 25) = W at *
  have CP := iprog_any a b o c ll W hl hls h1
  cases hp : M.prog ll
  · rw [hp] at CP
    have hno := M.turnBeside_bad (mm := mm) hp
    refine CP.mono ?_
    rintro e W1 ⟨rfl, b1⟩
    have hY1 := hY.bl' b1
    have y0 := hY1.c
    have yf := hY1.fz
    have ly := hY1.lt
    have bw1 := b2'.trans (b1.mono b2'.size)
    go_wp2_with fail
    have q1 := (hY1.set (.slice none 0 0)).c
    exact bodyPost_ret (v := .tuple #[.agg #[.slice none 0 0], .bool false]) (by simp [results, Try.results22, go_sem, q1]) rfl ⟨_, by rw [hno]; rfl, ⟨[], by rw [hno]; exact Rdg.nil _ _⟩, bw1.setCell (by show w.heap.size ≤ w.heap.size + 1 + 1; omega) _⟩
  · rw [hp] at CP
    have CP2 := fun W' hb => iprog_any a2 b2 o2 c2 mm W' hm hms (k1.below (B := W.heap.size) hb (Nat.le_refl _))
    cases hp2 : M.prog mm
    · rw [hp2] at CP2
      have hno := M.turnBeside_bad2 (ll := ll) hp2
      refine CP.mono ?_
      rintro e W1 ⟨rfl, b1⟩
      have hZ1 := hZ.bl' b1
      have z0 := hZ1.c
      have CP3 := CP2 W1 b1
      clear CP CP2
      go_wp2_with (first | (go_at_call 14; refine CP3.mono ?_; rintro e W2 ⟨rfl, bb2⟩; have hY2 := (hY.bl' b1).bl' bb2; have y0 := hY2.c; have yf := hY2.fz; have ly := hY2.lt))
      have b12 := b1.trans (bb2.mono b1.size)
      have bw1 := b2'.trans (b12.mono b2'.size)
      have q1 := (hY2.set (.slice none 0 0)).c
      exact bodyPost_ret (v := .tuple #[.agg #[.slice none 0 0], .bool false]) (by simp [results, Try.results22, go_sem, q1]) rfl ⟨_, by rw [hno]; rfl, ⟨[], by rw [hno]; exact Rdg.nil _ _⟩, bw1.setCell (by show w.heap.size ≤ w.heap.size + 1 + 1; omega) _⟩
    · rw [hp2] at CP2
      obtain ⟨h3, h7⟩ := M.prog_le hp
      obtain ⟨m3, m7⟩ := M.prog_le hp2
      have HP : Hid (M.prog ll = true) := hp
      have HP2 : Hid (M.prog mm = true) := hp2
      clear hp hp2
      refine CP.mono ?_
      rintro e W1 ⟨rfl, b1⟩
      have hZ1 := hZ.bl' b1
      have z0 := hZ1.c
      have CP3 := CP2 W1 b1
      clear CP CP2
      go_wp2_with (first | (go_at_call 14; refine CP3.mono ?_; rintro e W2 ⟨rfl, bb2⟩; have b12 := b1.trans (bb2.mono b1.size); have hY2 := hY.bl' b12; have hX2 := hX.bl' b12; have hZ2 := hZ.bl' b12; have x2 := hX2.c; have z2 := hZ2.c))
      have bw2 := b2'.trans (b12.mono b2'.size)
      have bL := below1 W2 (.cells #[.slice a ll.length c, .slice a2 mm.length c2] 23)
      have hY3 := hY2.bl' bL
      have bw3 := bw2.trans (bL.mono bw2.size)
      have hD3 := (h1.below b12 (Nat.le_refl _)).below bL (Nat.le_refl _)
      have hE3 := (k1.below b12 (Nat.le_refl _)).below bL (Nat.le_refl _)
      have CC := concatT_any W2.heap.size a b o c ll a2 b2 o2 c2 mm (W2.alloc (.cells #[.slice a ll.length c, .slice a2 mm.length c2] 23)) (by omega) (by omega) (cells2_0 _ _ _ _) (cells2_1 _ _ _ _) hD3 hE3
      clear x2 z2 z0 hX hZ hX2 hZ2 hZ1 h1 k1 hD3 hE3 CP3
      refine CC.mono ?_
      rintro e W4 ⟨v4, rfl, ⟨a4, ⟨c4, rfl⟩, g4, hs4⟩, b4⟩
      have hY4 := hY3.bl' b4
      have bw4 := bw3.trans (b4.mono bw3.size)
      have bA := below1 W4 (.cells #[.slice a4 (ll ++ mm).length c4] 25)
      have hs5 := hs4.below bA (Nat.le_refl _)
      have hY5 := hY4.bl' bA
      have bw5 := bw4.trans (bA.mono bw4.size)
      have hC5 := Slot1.new W4 (.slice a4 (ll ++ mm).length c4) 25
      have hn3 : (ll ++ mm).length ≤ 1048576 := by simp; omega
      have hn7 : ∀ t ∈ ll ++ mm, t.length ≤ 1048576 := fun t ht => by
        rcases List.mem_append.1 ht with ht | ht
        · exact hls t ht
        · exact hms t ht
      have HQ : ∀ q, M.prog (ll ++ mm) = q → (M.turnBeside ll mm).isSome = q ∧ (M.turnBeside ll mm).getD [] = if q then ll ++ mm else [] := by
        intro q hq
        cases q
        · rw [M.turnBeside_bad3 hq]; exact ⟨rfl, rfl⟩
        · rw [M.turnBeside_yes HP.out HP2.out hq]; exact ⟨rfl, rfl⟩
      obtain ⟨ok, hok⟩ : ∃ q, M.prog (ll ++ mm) = q := ⟨_, rfl⟩
      obtain ⟨e1, e2⟩ := HQ ok hok
      have E1 : Hid ((M.turnBeside ll mm).isSome = ok) := e1
      have E2 : Hid ((M.turnBeside ll mm).getD [] = if ok then ll ++ mm else []) := e2
      have CQ := iprog_any a4 g4 0 c4 (ll ++ mm) _ hn3 hn7 hs5
      rw [hok] at CQ
      clear HQ hok e1 e2 hY hY2 hY3 hY4 CC hs4
      generalize ll ++ mm = nn at *
      go_wp2_with fail
      generalize W4.alloc (.cells #[.slice a4 nn.length c4] 25) = W5 at *
      generalize W4.heap.size = PC at *
      refine CQ.mono ?_
      rintro e W6 ⟨rfl, b6⟩
      have hY6 := hY5.bl' b6
      have hC6 := hC5.bl' b6
      have bw6 := bw5.trans (b6.mono bw5.size)
      have hs6 := hs5.below b6 (Nat.le_refl _)
      have y0 := hY6.c
      have yf := hY6.fz
      have ly := hY6.lt
      have c0 := hC6.c
      cases ok
      · go_wp2_with fail
        have q1 := (hY6.set (.slice none 0 0)).c
        exact bodyPost_ret (v := .tuple #[.agg #[.slice none 0 0], .bool false]) (by simp [results, Try.results22, go_sem, q1]) rfl ⟨_, by rw [E1.out], ⟨[], by rw [E2.out]; exact Rdg.nil _ _⟩, bw6.setCell (by show w.heap.size ≤ w.heap.size + 1 + 1; omega) _⟩
      · clear y0 yf
        go_wp2_with fail
        refine (copyProg_any a4 g4 0 c4 nn W6 hn3 hn7 hs6).mono ?_
        rintro e W7 ⟨v7, rfl, ⟨vs, hR⟩, b7⟩
        have hY7 := hY6.bl' b7
        have bw7 := bw6.trans (b7.mono bw6.size)
        have y0 := hY7.c
        have yf := hY7.fz
        have ly7 := hY7.lt
        obtain ⟨av, gv, cv, rfl, _⟩ := hR.b.ss
        go_wp2_with fail
        have q1 := (hY7.set (.slice av nn.length cv)).c
        exact bodyPost_ret (v := .tuple #[.agg #[.slice av nn.length cv], .bool true]) (by simp [results, Try.results22, go_sem, q1]) rfl ⟨_, by rw [E1.out], ⟨vs, by rw [E2.out]; exact (hR.far (by omega) _).mono (by have := bw6.size; omega)⟩, bw7.setCell (by show w.heap.size ≤ w.heap.size + 1 + 1; omega) _⟩

end Go.Proofs.Ytdpoiabohkkbcaa

namespace Go.Proofs.Ytdpoiabohkkbcaa
open Go.RowKit

theorem run_append_emp0 {P : Program} (w : World) (t ty e : TypeId) (i : TypeInfo) (ht : P.underlying t = some (.slice e)) (hi : P.info? e = some i) (ad : Addr) (a : Option Addr) (c : Nat) :
    (Builtin.append_ #[t, t] ty #[.slice (some ad) 0 0, .slice a 0 c]).run P w = .ok (.slice (some ad) 0 0) w := by
  cases a
  · simp [Builtin.append_, run_underlying ht, sizeOf, typeInfo, hi, Builtin.lenOf, Builtin.firstCells, storeCells]
  · simp [Builtin.append_, run_underlying ht, sizeOf, typeInfo, hi, Builtin.lenOf, Builtin.firstCells, loadCells, loadCellsFrom, storeCells]
theorem grow_refl (w : World) (row : Option Nat) : w.grownBy w row := ⟨rfl, rfl, rfl, Nat.le_refl _, fun _ _ _ => rfl⟩
theorem own_emp {X : World} {base g size : Nat} {e : TypeId} (h : X.heap[g]? = some (.cells #[] e (0, 0))) (hb : base ≤ g) : X.ownsRow base e size (.slice (some ⟨g, 0, none⟩) 0 0) 0 [] :=
  ⟨by simp, .inr ⟨g, 0, #[], rfl, hb, h, Nat.le_refl _, Nat.zero_le _, by simp, by simp⟩⟩

theorem wp_append_does {P : Program} {o : Oper} {a : Act} {w : World} {K : Act → World → Prop} {Q : Exit → Act → World → Prop} (s x : Operand) (t : TypeId)
    (ho : o.op = .call { callee := .builtin .append, args := #[s, x], argTypes := #[t, t] }) (d : Option Tmp) (hd : o.dst = d) (base : Nat) (e : TypeId) (i : TypeInfo) (ht : P.underlying t = some (.slice e)) (hi : P.info? e = some i) (hz0 : i.zero = some (.agg #[.int .i64 0, .int .i64 0, .int .i64 0])) (hz1 : i.size = 3) (hz2 : i.bytes = 24)
    (g : Nat) (hs : a.eval s = .slice (some ⟨g, 0, none⟩) 0 0) (hown : w.ownsRow base e 3 (.slice (some ⟨g, 0, none⟩) 0 0) 0 []) (hbase : base ≤ w.heap.size) (sa : Option Addr) (b off c : Nat) (l : List M.D) (hx : a.eval x = .slice sa l.length c) (hI : DoS w sa b off l) (hl : l.length ≤ 1048576)
    (h : ∀ v' w', w'.ownsRow base e 3 v' l.length (flat l) → w.grownBy w' (some g) → (v'.ownBlock = some g ∨ v'.ownBlock = some w.heap.size) → K (a.put d v') w') :
    Oper.wp P o a w K Q := by
  subst hd
  cases sa with
  | none =>
    have hl0 : l = [] := by
      rcases Nat.eq_zero_or_pos l.length with h0 | h0
      · exact List.length_eq_zero_iff.1 h0
      · cases hI.addr h0
    subst hl0
    rw [List.length_nil] at hx
    have hrun := run_append_emp0 (P := P) w t o.type e i ht hi ⟨g, 0, none⟩ none c
    have hk := h (.slice (some ⟨g, 0, none⟩) 0 0) w hown (grow_refl _ _) (.inl rfl)
    unfold Oper.wp
    simp [execOp, ho, resolve, invoke, builtin, hs, hx, hrun, Result.andThen]
    exact hk
  | some ad =>
    have hn : ∀ j u, (flat l)[j]? = some u → w.cell? (ad.add j) = some u := fun j u hj => by
      have hjl := (List.getElem?_eq_some_iff.1 hj).1
      rw [flat_length] at hjl
      obtain ⟨rfl⟩ := hI.addr (by omega)
      exact DoS.flat_cells hI.row j u hj
    obtain ⟨v', w', hrun, h2, h3, _, h5⟩ := run_append_own_at (P := P) w base t o.type e i (.agg #[.int .i64 0, .int .i64 0, .int .i64 0]) 3 24 ht hi hz0 hz1 hz2 rfl (by decide) (.slice (some ⟨g, 0, none⟩) 0 0) 0 [] hown ad l.length c (flat l) (flat_length l) hn (flat_one' l) (by unfold maxLen; omega) (by omega) hbase
    have hk := h v' w' (by simpa using h2) h3 h5
    unfold Oper.wp
    simp [execOp, ho, resolve, invoke, builtin, hs, hx, hrun, Result.andThen]
    exact hk
theorem step_append_does {P : Program} {ops : Array Oper} {o : Oper} {a : Act} {w : World} {K : Act → World → Prop} {Q : Exit → Act → World → Prop} {E : Prop} (hgd : o.guard = none) (s x : Operand) (t : TypeId)
    (ho : o.op = .call { callee := .builtin .append, args := #[s, x], argTypes := #[t, t] }) (d : Option Tmp) (hd : o.dst = d) (base : Nat) (e : TypeId) (i : TypeInfo) (ht : P.underlying t = some (.slice e)) (hi : P.info? e = some i) (hz0 : i.zero = some (.agg #[.int .i64 0, .int .i64 0, .int .i64 0])) (hz1 : i.size = 3) (hz2 : i.bytes = 24)
    (g : Nat) (hs : a.eval s = .slice (some ⟨g, 0, none⟩) 0 0) (hown : w.ownsRow base e 3 (.slice (some ⟨g, 0, none⟩) 0 0) 0 []) (hbase : base ≤ w.heap.size) (sa : Option Addr) (b off c : Nat) (l : List M.D) (hx : a.eval x = .slice sa l.length c) (hI : DoS w sa b off l) (hl : l.length ≤ 1048576)
    (h : ∀ v' w', w'.ownsRow base e 3 v' l.length (flat l) → w.grownBy w' (some g) → (v'.ownBlock = some g ∨ v'.ownBlock = some w.heap.size) → K (a.put d v') w') :
    if Region.wanted o (yielded ops a.tmps) = true then Oper.wp P o a w K Q else E := by
  have hw : Region.wanted o (yielded ops a.tmps) = true := by simp [Region.wanted, hgd]
  rw [if_pos hw]
  exact wp_append_does s x t ho d hd base e i ht hi hz0 hz1 hz2 g hs hown hbase sa b off c l hx hI hl h
theorem wpList_append_does {P : Program} {ops : Array Oper} {rest : List Oper} {o : Oper} {a : Act} {w : World} {Q : Exit → Act → World → Prop} (hgd : o.guard = none) (s x : Operand) (t : TypeId)
    (ho : o.op = .call { callee := .builtin .append, args := #[s, x], argTypes := #[t, t] }) (d : Option Tmp) (hd : o.dst = d) (base : Nat) (e : TypeId) (i : TypeInfo) (ht : P.underlying t = some (.slice e)) (hi : P.info? e = some i) (hz0 : i.zero = some (.agg #[.int .i64 0, .int .i64 0, .int .i64 0])) (hz1 : i.size = 3) (hz2 : i.bytes = 24)
    (g : Nat) (hs : a.eval s = .slice (some ⟨g, 0, none⟩) 0 0) (hown : w.ownsRow base e 3 (.slice (some ⟨g, 0, none⟩) 0 0) 0 []) (hbase : base ≤ w.heap.size) (sa : Option Addr) (b off c : Nat) (l : List M.D) (hx : a.eval x = .slice sa l.length c) (hI : DoS w sa b off l) (hl : l.length ≤ 1048576)
    (h : ∀ v' w', w'.ownsRow base e 3 v' l.length (flat l) → w.grownBy w' (some g) → (v'.ownBlock = some g ∨ v'.ownBlock = some w.heap.size) → wpList P ops Q rest (a.put d v') w') :
    wpList P ops Q (o :: rest) a w :=
  wpList_plain hgd fun _ hK => wp_append_does s x t ho d hd base e i ht hi hz0 hz1 hz2 g hs hown hbase sa b off c l hx hI hl fun v' w' h1 h2 h3 => by
    subst hd
    exact hK _ _ (h v' w' h1 h2 h3)

end Go.Proofs.Ytdpoiabohkkbcaa

namespace Go.Proofs.Ytdpoiabohkkbcaa
open Go.RowKit

set_option maxHeartbeats 8000000 in
set_option maxRecDepth 100000 in
set_option linter.unusedSimpArgs false in
theorem sturnBeside_any (a : Option Addr) (b o c : Nat) (ll : List (List M.D)) (hl : ll.length ≤ 1048576) (hls : ∀ t ∈ ll, t.length ≤ 1048576) (a2 : Option Addr) (b2 o2 c2 : Nat) (mm : List (List M.D)) (hm : mm.length ≤ 1048576) (hms : ∀ t ∈ mm, t.length ≤ 1048576) (w : World) (h : DoSS w a b o ll) (h2 : DoSS w a2 b2 o2 mm) :
    Calls Try.prog 21 #[.agg #[.slice a ll.length c], .agg #[.slice a2 mm.length c2]] w fun e w' => ∃ v, e = .returned (.tuple #[.agg #[v], .bool (M.turnBeside ll mm).isSome]) ∧ (∃ vs, Rdg w' w.heap.size v ((M.turnBeside ll mm).getD []) vs) ∧ Below w.heap.size w w' := by
  obtain ⟨i0, hi, hz0, hz1, hz2⟩ := info_parts Try.info58
  obtain ⟨j0, hj, hy0, hy1, hy2⟩ := info_parts Try.info55
  have b2' := below3 w (.cells #[.slice a ll.length c] 25) (.cells #[.slice a2 mm.length c2] 25) (.cells #[.slice none 0 0] 25)
  have h1 := h.below b2' (Nat.le_refl _)
  have k1 := h2.below b2' (Nat.le_refl _)
  have hX := ((Slot1.new w (.slice a ll.length c) 25).bl' (below1 _ (.cells #[.slice a2 mm.length c2] 25))).bl' (below1 _ (.cells #[.slice none 0 0] 25))
  have hZ := (Slot1.new (w.alloc (.cells #[.slice a ll.length c] 25)) (.slice a2 mm.length c2) 25).bl' (below1 _ (.cells #[.slice none 0 0] 25))
  have hY := Slot1.new ((w.alloc (.cells #[.slice a ll.length c] 25)).alloc (.cells #[.slice a2 mm.length c2] 25)) (.slice none 0 0) 25
  rw [World.size_alloc] at hZ
  rw [World.size_alloc, World.size_alloc] at hY
  go_enter Try.func21, Try.ntmps21
  go_wp2_with fail
  generalize ((w.alloc (.cells #[.slice a ll.length c] 25)).alloc (.cells #[.slice a2 mm.length c2] 25)).alloc (.cells #[.slice none 0 0] 25) = W at *
  have CP := sprog_any a b o c ll W hl hls h1
  cases hp : M.prog ll
  · rw [hp] at CP
    have hno := M.turnBeside_bad (mm := mm) hp
    refine CP.mono ?_
    rintro e W1 ⟨rfl, b1⟩
    have hY1 := hY.bl' b1
    have y0 := hY1.c
    have yf := hY1.fz
    have ly := hY1.lt
    have bw1 := b2'.trans (b1.mono b2'.size)
    go_wp2_with fail
    have q1 := (hY1.set (.slice none 0 0)).c
    exact bodyPost_ret (v := .tuple #[.agg #[.slice none 0 0], .bool false]) (by simp [results, Try.results21, go_sem, q1]) rfl ⟨_, by rw [hno]; rfl, ⟨[], by rw [hno]; exact Rdg.nil _ _⟩, bw1.setCell (by show w.heap.size ≤ w.heap.size + 1 + 1; omega) _⟩
  · rw [hp] at CP
    have CP2 := fun W' hb => sprog_any a2 b2 o2 c2 mm W' hm hms (k1.below (B := W.heap.size) hb (Nat.le_refl _))
    cases hp2 : M.prog mm
    · rw [hp2] at CP2
      have hno := M.turnBeside_bad2 (ll := ll) hp2
      refine CP.mono ?_
      rintro e W1 ⟨rfl, b1⟩
      have hZ1 := hZ.bl' b1
      have z0 := hZ1.c
      have CP3 := CP2 W1 b1
      clear CP CP2
      go_wp2_with (first | (go_at_call 13; refine CP3.mono ?_; rintro e W2 ⟨rfl, bb2⟩; have hY2 := (hY.bl' b1).bl' bb2; have y0 := hY2.c; have yf := hY2.fz; have ly := hY2.lt))
      have b12 := b1.trans (bb2.mono b1.size)
      have bw1 := b2'.trans (b12.mono b2'.size)
      have q1 := (hY2.set (.slice none 0 0)).c
      exact bodyPost_ret (v := .tuple #[.agg #[.slice none 0 0], .bool false]) (by simp [results, Try.results21, go_sem, q1]) rfl ⟨_, by rw [hno]; rfl, ⟨[], by rw [hno]; exact Rdg.nil _ _⟩, bw1.setCell (by show w.heap.size ≤ w.heap.size + 1 + 1; omega) _⟩
    · rw [hp2] at CP2
      obtain ⟨h3, h7⟩ := M.prog_le hp
      obtain ⟨m3, m7⟩ := M.prog_le hp2
      have hn3 : (ll ++ mm).length ≤ 1048576 := by simp; omega
      have hn7 : ∀ t ∈ ll ++ mm, t.length ≤ 1048576 := fun t ht => by
        rcases List.mem_append.1 ht with ht | ht
        · exact hls t ht
        · exact hms t ht
      have HQ : ∀ q, M.prog (ll ++ mm) = q → (M.turnBeside ll mm).isSome = q ∧ (M.turnBeside ll mm).getD [] = if q then ll ++ mm else [] := by
        intro q hq
        cases q
        · rw [M.turnBeside_bad3 hq]; exact ⟨rfl, rfl⟩
        · rw [M.turnBeside_yes hp hp2 hq]; exact ⟨rfl, rfl⟩
      obtain ⟨ok, hok⟩ : ∃ q, M.prog (ll ++ mm) = q := ⟨_, rfl⟩
      obtain ⟨e1, e2⟩ := HQ ok hok
      have E1 : Hid ((M.turnBeside ll mm).isSome = ok) := e1
      have E2 : Hid ((M.turnBeside ll mm).getD [] = if ok then ll ++ mm else []) := e2
      clear HQ e1 e2 hp hp2
      refine CP.mono ?_
      rintro e W1 ⟨rfl, b1⟩
      have hZ1 := hZ.bl' b1
      have z0 := hZ1.c
      have CP3 := CP2 W1 b1
      clear CP CP2
      go_wp2_with (first | (go_at_call 13; refine CP3.mono ?_; rintro e W2 ⟨rfl, bb2⟩))
      have b12 := b1.trans (bb2.mono b1.size)
      have bw1 := b2'.trans (b12.mono b2'.size)
      have hXx := hX.bl' b12
      have hZx := hZ.bl' b12
      have hYx := hY.bl' b12
      have bA := below1 W2 (.cells #[.slice none 0 0] 25)
      have hYA := hYx.bl' bA
      have hZA := Slot1.new W2 (.slice none 0 0) 25
      have lX := hXx.lt
      have lZ := hZx.lt
      have lY := hYx.lt
      have hX1c := hXx.c
      have hZ1c := hZx.c
      have hD := h1.below b12 (Nat.le_refl _)
      have hE := k1.below b12 (Nat.le_refl _)
      generalize W2.alloc (.cells #[.slice none 0 0] 25) = WA at *
      clear CP3 z0 hX hY hZ h1 k1 b2' b1 bb2 b12 hZ1 hXx hZx hYx
      go_loopw [7] (fun s7 wr => ∃ (n : Nat) (v : Value) (vs : List Value), s7 = .int .i64 n ∧ n ≤ ll.length ∧ Rdg wr (W2.heap.size + 1) v (ll.take n) vs ∧ Slot1 wr W2.heap.size v ∧ Slot1 wr (w.heap.size + 1 + 1) (.slice none 0 0) ∧ Below W2.heap.size W2 wr) (fun s7 _ => ll.length - (intOf s7).toNat)
      case atStart => exact ⟨0, .slice none 0 0, [], rfl, Nat.zero_le _, by simpa using Rdg.nil _ _, hZA, hYA, bA⟩
      case round =>
        obtain ⟨n, v, vs, rfl, hn, hR, hP, hY, hbel⟩ := hrel
        clear hZA hYA bA
        by_cases hlt : n < ll.length
        · obtain ⟨rfl⟩ := h.addr (by omega)
          obtain ⟨a', b', o', c', hc, hd0⟩ := hD.row n hlt
          have HW : Hid (ll.take (n + 1) = ll.take n ++ [ll[n]]) := by show _ = _; rw [List.take_succ_eq_append_getElem hlt]
          have hmm : (ll.take n).length ≤ 1048576 := by simp; omega
          have ht := hls _ (List.getElem_mem hlt)
          generalize ll[n] = t at *
          generalize ll.take n = cur at *
          have i1 : (n : Int) < ll.length := by omega
          obtain ⟨av, gv, cv, rfl, _⟩ := hR.b.ss
          have x0 := hP.c
          have lP := hP.lt
          have CX : ∀ w', Below W2.heap.size W2 w' → w'.cell? ⟨w.heap.size, 0, none⟩ = some (.slice (some ⟨b, o, none⟩) ll.length c) := fun w' hw => (hw.cell (p := ⟨w.heap.size, 0, none⟩) lX).trans hX1c
          have CT : ∀ w', Below W2.heap.size W2 w' → w'.cell? ⟨b, o + n, none⟩ = some (.slice a' t.length c') := fun w' hw => (hw.cell (p := ⟨b, o + n, none⟩) (World.block_lt_of_cell? _ _ hc)).trans hc
          have xx0 := CX wr hbel
          have bE : Below wr.heap.size wr (wr.drew.alloc (.cells #[] 55)) := (Below.refl wr.heap.size wr).drew.alloc (Nat.le_refl _) _
          have SA : Below W2.heap.size W2 (wr.drew.alloc (.cells #[] 55)) := hbel.trans (bE.mono hbel.size)
          have SXA := (hP.bl' bE).c
          have OA : (wr.drew.alloc (.cells #[] 55)).ownsRow wr.heap.size 55 3 (.slice (some ⟨wr.heap.size, 0, none⟩) 0 0) 0 [] := own_emp (heap_alloc_new wr.drew _) (Nat.le_refl _)
          have DA : DoS (wr.drew.alloc (.cells #[] 55)) a' b' o' t := hd0.below SA (Nat.le_refl _)
          have F4 : Hid (∀ (w4 : World) (v4 : Value), w4.ownsRow wr.heap.size 55 3 v4 t.length (flat t) → (wr.drew.alloc (.cells #[] 55)).grownBy w4 (some wr.heap.size) → ∃ a4 c4, v4 = .slice a4 t.length c4 ∧ Below wr.heap.size wr w4 ∧ Slot1 w4 W2.heap.size (.slice av cur.length cv) ∧ Rdg w4 (W2.heap.size + 1) (.slice av cur.length cv) cur vs) := by
            intro w4 v4 ho hg
            obtain ⟨a4, c4, e⟩ := own_slx ho
            have b4 : Below wr.heap.size wr w4 := below_grown bE hg (fun j hj => by have : wr.heap.size = j := Option.some.inj hj; omega) bE.size
            exact ⟨a4, c4, e, b4, hP.bl' b4, hR.below b4⟩
          have F5 : Hid (∀ (w4 : World) (a4 : Option Addr) (c4 : Nat), Below wr.heap.size wr w4 → w4.ownsRow wr.heap.size 55 3 (.slice a4 t.length c4) t.length (flat t) → ∀ (g5 cap5 : Nat) (w5 : World), w5.ownsRow (W2.heap.size + 1) 58 1 (.slice (some ⟨g5, 0, none⟩) (cur.length + 1) cap5) (cur.length + 1) (vs ++ [.slice a4 t.length c4]) → (w4.alloc (.cells #[.slice a4 t.length c4] 58)).grownBy w5 (Value.slice av cur.length cv).ownBlock → Below W2.heap.size W2 w5 ∧ Slot1 w5 W2.heap.size (.slice av cur.length cv) ∧ Slot1 w5 (w.heap.size + 1 + 1) (.slice none 0 0) ∧ Rdg w5 (W2.heap.size + 1) (.slice (some ⟨g5, 0, none⟩) (cur.length + 1) cap5) (cur ++ [t]) (vs ++ [.slice a4 t.length c4])) := by
            intro w4 a4 c4 b4 hx4 g5 cap5 w5 ho hg
            have hal := below1 w4 (.cells #[.slice a4 t.length c4] 58)
            have hge := own_ge hR.b.outer
            have b4a := b4.trans (hal.mono b4.size)
            have bwa := hbel.trans (b4a.mono hbel.size)
            refine ⟨below_grown bwa hg (fun j hj => by have := hge j hj; omega) bwa.size, (hP.bl' b4a).apart hg (fun e => by have := hge _ e; omega), (hY.bl' b4a).apart hg (fun e => by have := hge _ e; omega), ((hR.below b4).below hal).snocT (ownsRow_mono (ownsRow_below hx4 hal) (by omega)) (fun i hi j hj e => ?_) ho hg⟩
            have h1 := ((hR.b.inner i (by have := hR.b.len; omega) hi).lt j hj).2
            have h2 := own_ge hx4 j e
            omega
          go_wp2_with fail
          clear xx0
          refine wp_region_held_drew (S := fun w' => Below W2.heap.size W2 w') (by kernel_rfl) hbel.drew (fun hH => ?_)
          refine takeD 0 (some 26) (.pointer (some ⟨W2.heap.size, 0, none⟩)) hH rfl rfl (by kernel_rfl) (by kernel_rfl) (by kernel_rfl) (fun _ _ _ h => h) (Or.inl ⟨by rfl, by intro w' hSw; go_simp⟩) ?_
          simp only [Act.put, List.setIfInBounds_toArray, List.set_cons_zero, List.set_cons_succ]
          refine takeD 3 (some 29) (.pointer (some ⟨w.heap.size, 0, none⟩)) hH rfl rfl (by kernel_rfl) (by kernel_rfl) (by kernel_rfl) (fun _ _ _ h => h) (Or.inl ⟨by rfl, by intro w' hSw; go_simp⟩) ?_
          simp only [Act.put, List.setIfInBounds_toArray, List.set_cons_zero, List.set_cons_succ]
          refine takeD 4 (some 30) (.slice (some ⟨b, o, none⟩) ll.length c) hH rfl rfl (by kernel_rfl) (by kernel_rfl) (by kernel_rfl) (fun _ _ _ h => h) (Or.inl ⟨by rfl, by intro w' hSw; have hc := CX w' hSw; go_simp⟩) ?_
          simp only [Act.put, List.setIfInBounds_toArray, List.set_cons_zero, List.set_cons_succ]
          refine takeD 5 (some 31) (.int .i64 n) hH rfl rfl (by kernel_rfl) (by kernel_rfl) (by kernel_rfl) (fun _ _ _ h => h) (Or.inl ⟨by rfl, by intro w' hSw; go_simp⟩) ?_
          simp only [Act.put, List.setIfInBounds_toArray, List.set_cons_zero, List.set_cons_succ]
          refine takeD 6 (some 32) (.pointer (some ⟨b, o + n, none⟩)) hH rfl rfl (by kernel_rfl) (by kernel_rfl) (by kernel_rfl) (fun _ _ _ h => h) (Or.inl ⟨by rfl, by intro w' hSw; go_simp⟩) ?_
          simp only [Act.put, List.setIfInBounds_toArray, List.set_cons_zero, List.set_cons_succ]
          refine takeD 7 (some 33) (.slice a' t.length c') hH rfl rfl (by kernel_rfl) (by kernel_rfl) (by kernel_rfl) (fun _ _ _ h => h) (Or.inl ⟨by rfl, by intro w' hSw; have hc := CT w' hSw; go_simp⟩) ?_
          simp only [Act.put, List.setIfInBounds_toArray, List.set_cons_zero, List.set_cons_succ]
          refine wpAnyH_ready (rs := [1, 2]) (by kernel_rfl) (by simp) ?_
          refine AllReadyH.cons rfl (fun K' hK => ?_) (AllReadyH.cons rfl (fun K' hK => ?_) AllReadyH.nil)
          · have xx := x0
            rw [if_pos (by rfl)]
            go_simp
            refine hK.out _ _ hH (fun _ => ?_)
            clear hK K' xx
            refine wpAnyH_ready (rs := [2]) (by kernel_rfl) (by simp) ?_
            refine AllReadyH.cons rfl (fun K' hK => ?_) AllReadyH.nil
            rw [if_pos (by rfl)]
            go_simp
            refine hK.out _ _ SA (fun _ => ?_)
            clear hK K'
            refine wpAnyH_ready (rs := [8]) (by kernel_rfl) (by simp) ?_
            refine AllReadyH.cons rfl (fun K' hK => ?_) AllReadyH.nil
            refine step_append_does (by rfl) (.tmp 28) (.tmp 33) 58 (by rfl) (some 34) rfl wr.heap.size 55 j0 Try.underlying58 hj hy0 hy1 hy2 wr.heap.size (by rfl) OA (by simp) a' b' o' c' t (by rfl) DA ht ?_
            intro v4 w4 ho4 hg4 hat4
            obtain ⟨a4, c4, rfl, b4, hS4, hR4⟩ := F4.out w4 v4 ho4 hg4
            simp only [Act.put, List.setIfInBounds_toArray, List.set_cons_zero, List.set_cons_succ]
            refine hK.out _ _ (hbel.trans (b4.mono hbel.size)) (fun hH4 => ?_)
            clear hK K'
            have hS4a := hS4.bl' (below1 w4 (.cells #[.slice a4 t.length c4] 58))
            have S4a : Below W2.heap.size W2 (w4.alloc (.cells #[.slice a4 t.length c4] 58)) := hH4.alloc hH4.size _
            refine wpAnyH_ready (rs := [9]) (by kernel_rfl) (by simp) ?_
            refine AllReadyH.cons rfl (fun K' hK => ?_) AllReadyH.nil
            rw [if_pos (by rfl)]
            go_simp
            refine hK.out _ _ S4a (fun _ => ?_)
            clear hK K'
            refine wpAnyH_ready (rs := [10]) (by kernel_rfl) (by simp) ?_
            refine AllReadyH.cons rfl (fun K' hK => ?_) AllReadyH.nil
            refine step_append_lies _ (by rfl) (.tmp 27) (.tmp 35) 23 (by rfl) (W2.heap.size + 1) 58 i0 _ 1 24 Try.underlying23 hi hz0 hz1 hz2 rfl (by decide) (.slice av cur.length cv) cur.length vs (by rfl) ((hR4.b.outer).alloc _) ⟨w4.heap.size, 0, none⟩ 1 1 [.slice a4 t.length c4] (by rfl) (by rfl) (World.news_of_block (cs := #[.slice a4 t.length c4]) (t := 58) (fr := (0, 0)) (heap_alloc_new w4 _)) (by simp [Value.oneCell']) (by omega) (by unfold maxLen; omega) (by omega) (by have := b4.size; simp; omega) (w4.heap.size + 1) (by simp) ?_
            intro g5 cap5 w5 hown5 hg5 hat5 hlt5
            obtain ⟨b5, hS5, hQ5, hR5⟩ := F5.out w4 a4 c4 b4 ho4 g5 cap5 w5 hown5 hg5
            simp only [Act.put, List.setIfInBounds_toArray, List.set_cons_zero, List.set_cons_succ]
            refine hK.out _ _ b5 (fun hH5 => ?_)
            clear hK K'
            refine takeD 11 (some 37) (.pointer (some ⟨W2.heap.size, 0, none⟩)) hH5 rfl rfl (by kernel_rfl) (by kernel_rfl) (by kernel_rfl) (fun _ _ _ h => h) (Or.inl ⟨by rfl, by intro w' hSw; go_simp⟩) ?_
            simp only [Act.put, List.setIfInBounds_toArray, List.set_cons_zero, List.set_cons_succ]
            refine wpAnyH_ready (rs := [12]) (by kernel_rfl) (by simp) ?_
            refine AllReadyH.cons rfl (fun K' hK => ?_) AllReadyH.nil
            have xc := hS5.c
            have xz := hS5.fz
            rw [if_pos (by rfl)]
            go_simp
            refine hK.out _ _ (b5.setCell (Nat.le_refl _) _) (fun _ => ?_)
            clear hK K'
            refine wpAnyH_done (by kernel_rfl) ?_ _
            clear xc xz
            go_wp2_with fail
            exact ⟨⟨n + 1, _, _, by go_num, by omega, by rw [HW.out]; exact hR5.far (by omega) _, hS5.set _, hQ5.far (by omega) _, b5.setCell (Nat.le_refl _) _⟩, by simp [intOf]; omega⟩
          · rw [if_pos (by rfl)]
            go_simp
            refine hK.out _ _ SA (fun _ => ?_)
            clear hK K'
            refine wpAnyH_ready (rs := [1, 8]) (by kernel_rfl) (by simp) ?_
            refine AllReadyH.cons rfl (fun K' hK => ?_) (AllReadyH.cons rfl (fun K' hK => ?_) AllReadyH.nil)
            · have xx := SXA
              rw [if_pos (by rfl)]
              go_simp
              refine hK.out _ _ SA (fun _ => ?_)
              clear hK K' xx
              refine wpAnyH_ready (rs := [8]) (by kernel_rfl) (by simp) ?_
              refine AllReadyH.cons rfl (fun K' hK => ?_) AllReadyH.nil
              refine step_append_does (by rfl) (.tmp 28) (.tmp 33) 58 (by rfl) (some 34) rfl wr.heap.size 55 j0 Try.underlying58 hj hy0 hy1 hy2 wr.heap.size (by rfl) OA (by simp) a' b' o' c' t (by rfl) DA ht ?_
              intro v4 w4 ho4 hg4 hat4
              obtain ⟨a4, c4, rfl, b4, hS4, hR4⟩ := F4.out w4 v4 ho4 hg4
              simp only [Act.put, List.setIfInBounds_toArray, List.set_cons_zero, List.set_cons_succ]
              refine hK.out _ _ (hbel.trans (b4.mono hbel.size)) (fun hH4 => ?_)
              clear hK K'
              have hS4a := hS4.bl' (below1 w4 (.cells #[.slice a4 t.length c4] 58))
              have S4a : Below W2.heap.size W2 (w4.alloc (.cells #[.slice a4 t.length c4] 58)) := hH4.alloc hH4.size _
              refine wpAnyH_ready (rs := [9]) (by kernel_rfl) (by simp) ?_
              refine AllReadyH.cons rfl (fun K' hK => ?_) AllReadyH.nil
              rw [if_pos (by rfl)]
              go_simp
              refine hK.out _ _ S4a (fun _ => ?_)
              clear hK K'
              refine wpAnyH_ready (rs := [10]) (by kernel_rfl) (by simp) ?_
              refine AllReadyH.cons rfl (fun K' hK => ?_) AllReadyH.nil
              refine step_append_lies _ (by rfl) (.tmp 27) (.tmp 35) 23 (by rfl) (W2.heap.size + 1) 58 i0 _ 1 24 Try.underlying23 hi hz0 hz1 hz2 rfl (by decide) (.slice av cur.length cv) cur.length vs (by rfl) ((hR4.b.outer).alloc _) ⟨w4.heap.size, 0, none⟩ 1 1 [.slice a4 t.length c4] (by rfl) (by rfl) (World.news_of_block (cs := #[.slice a4 t.length c4]) (t := 58) (fr := (0, 0)) (heap_alloc_new w4 _)) (by simp [Value.oneCell']) (by omega) (by unfold maxLen; omega) (by omega) (by have := b4.size; simp; omega) (w4.heap.size + 1) (by simp) ?_
              intro g5 cap5 w5 hown5 hg5 hat5 hlt5
              obtain ⟨b5, hS5, hQ5, hR5⟩ := F5.out w4 a4 c4 b4 ho4 g5 cap5 w5 hown5 hg5
              simp only [Act.put, List.setIfInBounds_toArray, List.set_cons_zero, List.set_cons_succ]
              refine hK.out _ _ b5 (fun hH5 => ?_)
              clear hK K'
              refine takeD 11 (some 37) (.pointer (some ⟨W2.heap.size, 0, none⟩)) hH5 rfl rfl (by kernel_rfl) (by kernel_rfl) (by kernel_rfl) (fun _ _ _ h => h) (Or.inl ⟨by rfl, by intro w' hSw; go_simp⟩) ?_
              simp only [Act.put, List.setIfInBounds_toArray, List.set_cons_zero, List.set_cons_succ]
              refine wpAnyH_ready (rs := [12]) (by kernel_rfl) (by simp) ?_
              refine AllReadyH.cons rfl (fun K' hK => ?_) AllReadyH.nil
              have xc := hS5.c
              have xz := hS5.fz
              rw [if_pos (by rfl)]
              go_simp
              refine hK.out _ _ (b5.setCell (Nat.le_refl _) _) (fun _ => ?_)
              clear hK K'
              refine wpAnyH_done (by kernel_rfl) ?_ _
              clear xc xz
              go_wp2_with fail
              exact ⟨⟨n + 1, _, _, by go_num, by omega, by rw [HW.out]; exact hR5.far (by omega) _, hS5.set _, hQ5.far (by omega) _, b5.setCell (Nat.le_refl _) _⟩, by simp [intOf]; omega⟩
            · refine step_append_does (by rfl) (.tmp 28) (.tmp 33) 58 (by rfl) (some 34) rfl wr.heap.size 55 j0 Try.underlying58 hj hy0 hy1 hy2 wr.heap.size (by rfl) OA (by simp) a' b' o' c' t (by rfl) DA ht ?_
              intro v4 w4 ho4 hg4 hat4
              obtain ⟨a4, c4, rfl, b4, hS4, hR4⟩ := F4.out w4 v4 ho4 hg4
              simp only [Act.put, List.setIfInBounds_toArray, List.set_cons_zero, List.set_cons_succ]
              refine hK.out _ _ (hbel.trans (b4.mono hbel.size)) (fun hH4 => ?_)
              clear hK K'
              have hS4a := hS4.bl' (below1 w4 (.cells #[.slice a4 t.length c4] 58))
              have S4a : Below W2.heap.size W2 (w4.alloc (.cells #[.slice a4 t.length c4] 58)) := hH4.alloc hH4.size _
              refine wpAnyH_ready (rs := [1, 9]) (by kernel_rfl) (by simp) ?_
              refine AllReadyH.cons rfl (fun K' hK => ?_) (AllReadyH.cons rfl (fun K' hK => ?_) AllReadyH.nil)
              · have xx := hS4.c
                rw [if_pos (by rfl)]
                go_simp
                refine hK.out _ _ hH4 (fun _ => ?_)
                clear hK K' xx
                refine wpAnyH_ready (rs := [9]) (by kernel_rfl) (by simp) ?_
                refine AllReadyH.cons rfl (fun K' hK => ?_) AllReadyH.nil
                rw [if_pos (by rfl)]
                go_simp
                refine hK.out _ _ S4a (fun _ => ?_)
                clear hK K'
                refine wpAnyH_ready (rs := [10]) (by kernel_rfl) (by simp) ?_
                refine AllReadyH.cons rfl (fun K' hK => ?_) AllReadyH.nil
                refine step_append_lies _ (by rfl) (.tmp 27) (.tmp 35) 23 (by rfl) (W2.heap.size + 1) 58 i0 _ 1 24 Try.underlying23 hi hz0 hz1 hz2 rfl (by decide) (.slice av cur.length cv) cur.length vs (by rfl) ((hR4.b.outer).alloc _) ⟨w4.heap.size, 0, none⟩ 1 1 [.slice a4 t.length c4] (by rfl) (by rfl) (World.news_of_block (cs := #[.slice a4 t.length c4]) (t := 58) (fr := (0, 0)) (heap_alloc_new w4 _)) (by simp [Value.oneCell']) (by omega) (by unfold maxLen; omega) (by omega) (by have := b4.size; simp; omega) (w4.heap.size + 1) (by simp) ?_
                intro g5 cap5 w5 hown5 hg5 hat5 hlt5
                obtain ⟨b5, hS5, hQ5, hR5⟩ := F5.out w4 a4 c4 b4 ho4 g5 cap5 w5 hown5 hg5
                simp only [Act.put, List.setIfInBounds_toArray, List.set_cons_zero, List.set_cons_succ]
                refine hK.out _ _ b5 (fun hH5 => ?_)
                clear hK K'
                refine takeD 11 (some 37) (.pointer (some ⟨W2.heap.size, 0, none⟩)) hH5 rfl rfl (by kernel_rfl) (by kernel_rfl) (by kernel_rfl) (fun _ _ _ h => h) (Or.inl ⟨by rfl, by intro w' hSw; go_simp⟩) ?_
                simp only [Act.put, List.setIfInBounds_toArray, List.set_cons_zero, List.set_cons_succ]
                refine wpAnyH_ready (rs := [12]) (by kernel_rfl) (by simp) ?_
                refine AllReadyH.cons rfl (fun K' hK => ?_) AllReadyH.nil
                have xc := hS5.c
                have xz := hS5.fz
                rw [if_pos (by rfl)]
                go_simp
                refine hK.out _ _ (b5.setCell (Nat.le_refl _) _) (fun _ => ?_)
                clear hK K'
                refine wpAnyH_done (by kernel_rfl) ?_ _
                clear xc xz
                go_wp2_with fail
                exact ⟨⟨n + 1, _, _, by go_num, by omega, by rw [HW.out]; exact hR5.far (by omega) _, hS5.set _, hQ5.far (by omega) _, b5.setCell (Nat.le_refl _) _⟩, by simp [intOf]; omega⟩
              · rw [if_pos (by rfl)]
                go_simp
                refine hK.out _ _ S4a (fun _ => ?_)
                clear hK K'
                refine wpAnyH_ready (rs := [1]) (by kernel_rfl) (by simp) ?_
                refine AllReadyH.cons rfl (fun K' hK => ?_) AllReadyH.nil
                have xx := hS4a.c
                rw [if_pos (by rfl)]
                go_simp
                refine hK.out _ _ S4a (fun _ => ?_)
                clear hK K' xx
                refine wpAnyH_ready (rs := [10]) (by kernel_rfl) (by simp) ?_
                refine AllReadyH.cons rfl (fun K' hK => ?_) AllReadyH.nil
                refine step_append_lies _ (by rfl) (.tmp 27) (.tmp 35) 23 (by rfl) (W2.heap.size + 1) 58 i0 _ 1 24 Try.underlying23 hi hz0 hz1 hz2 rfl (by decide) (.slice av cur.length cv) cur.length vs (by rfl) ((hR4.b.outer).alloc _) ⟨w4.heap.size, 0, none⟩ 1 1 [.slice a4 t.length c4] (by rfl) (by rfl) (World.news_of_block (cs := #[.slice a4 t.length c4]) (t := 58) (fr := (0, 0)) (heap_alloc_new w4 _)) (by simp [Value.oneCell']) (by omega) (by unfold maxLen; omega) (by omega) (by have := b4.size; simp; omega) (w4.heap.size + 1) (by simp) ?_
                intro g5 cap5 w5 hown5 hg5 hat5 hlt5
                obtain ⟨b5, hS5, hQ5, hR5⟩ := F5.out w4 a4 c4 b4 ho4 g5 cap5 w5 hown5 hg5
                simp only [Act.put, List.setIfInBounds_toArray, List.set_cons_zero, List.set_cons_succ]
                refine hK.out _ _ b5 (fun hH5 => ?_)
                clear hK K'
                refine takeD 11 (some 37) (.pointer (some ⟨W2.heap.size, 0, none⟩)) hH5 rfl rfl (by kernel_rfl) (by kernel_rfl) (by kernel_rfl) (fun _ _ _ h => h) (Or.inl ⟨by rfl, by intro w' hSw; go_simp⟩) ?_
                simp only [Act.put, List.setIfInBounds_toArray, List.set_cons_zero, List.set_cons_succ]
                refine wpAnyH_ready (rs := [12]) (by kernel_rfl) (by simp) ?_
                refine AllReadyH.cons rfl (fun K' hK => ?_) AllReadyH.nil
                have xc := hS5.c
                have xz := hS5.fz
                rw [if_pos (by rfl)]
                go_simp
                refine hK.out _ _ (b5.setCell (Nat.le_refl _) _) (fun _ => ?_)
                clear hK K'
                refine wpAnyH_done (by kernel_rfl) ?_ _
                clear xc xz
                go_wp2_with fail
                exact ⟨⟨n + 1, _, _, by go_num, by omega, by rw [HW.out]; exact hR5.far (by omega) _, hS5.set _, hQ5.far (by omega) _, b5.setCell (Nat.le_refl _) _⟩, by simp [intOf]; omega⟩
        · have htk : ll.take n = ll := List.take_of_length_le (by omega)
          rw [htk] at hR
          have hkn' : ¬ (n : Int) < ll.length := by omega
          have xx0 := (hbel.cell (p := ⟨w.heap.size, 0, none⟩) lX).trans hX1c
          go_wp2_with fail
          go_loopw [8] (fun s8 wr => ∃ (n : Nat) (v : Value) (vs : List Value), s8 = .int .i64 n ∧ n ≤ mm.length ∧ Rdg wr (W2.heap.size + 1) v (ll ++ mm.take n) vs ∧ Slot1 wr W2.heap.size v ∧ Slot1 wr (w.heap.size + 1 + 1) (.slice none 0 0) ∧ Below W2.heap.size W2 wr) (fun s8 _ => mm.length - (intOf s8).toNat)
          case atStart => exact ⟨0, v, vs, rfl, Nat.zero_le _, by simpa using hR, hP, hY, hbel⟩
          case round =>
            clear hR hP hY hbel xx0
            obtain ⟨n, v, vs, rfl, hn, hR, hP, hY, hbel⟩ := hrel
            by_cases hlt : n < mm.length
            · obtain ⟨rfl⟩ := h2.addr (by omega)
              obtain ⟨a', b', o', c', hc, hd0⟩ := hE.row n hlt
              have HW : Hid (ll ++ mm.take (n + 1) = ll ++ mm.take n ++ [mm[n]]) := by show _ = _; rw [List.take_succ_eq_append_getElem hlt]; simp
              have hmm : (ll ++ mm.take n).length ≤ 1048576 := by simp; omega
              have ht := hms _ (List.getElem_mem hlt)
              generalize mm[n] = t at *
              generalize ll ++ mm.take n = cur at *
              have i1 : (n : Int) < mm.length := by omega
              obtain ⟨av, gv, cv, rfl, _⟩ := hR.b.ss
              have x0 := hP.c
              have lP := hP.lt
              have CX : ∀ w', Below W2.heap.size W2 w' → w'.cell? ⟨w.heap.size + 1, 0, none⟩ = some (.slice (some ⟨b2, o2, none⟩) mm.length c2) := fun w' hw => (hw.cell (p := ⟨w.heap.size + 1, 0, none⟩) lZ).trans hZ1c
              have CT : ∀ w', Below W2.heap.size W2 w' → w'.cell? ⟨b2, o2 + n, none⟩ = some (.slice a' t.length c') := fun w' hw => (hw.cell (p := ⟨b2, o2 + n, none⟩) (World.block_lt_of_cell? _ _ hc)).trans hc
              have xx0 := CX wr hbel
              have bE : Below wr.heap.size wr (wr.drew.alloc (.cells #[] 55)) := (Below.refl wr.heap.size wr).drew.alloc (Nat.le_refl _) _
              have SA : Below W2.heap.size W2 (wr.drew.alloc (.cells #[] 55)) := hbel.trans (bE.mono hbel.size)
              have SXA := (hP.bl' bE).c
              have OA : (wr.drew.alloc (.cells #[] 55)).ownsRow wr.heap.size 55 3 (.slice (some ⟨wr.heap.size, 0, none⟩) 0 0) 0 [] := own_emp (heap_alloc_new wr.drew _) (Nat.le_refl _)
              have DA : DoS (wr.drew.alloc (.cells #[] 55)) a' b' o' t := hd0.below SA (Nat.le_refl _)
              have F4 : Hid (∀ (w4 : World) (v4 : Value), w4.ownsRow wr.heap.size 55 3 v4 t.length (flat t) → (wr.drew.alloc (.cells #[] 55)).grownBy w4 (some wr.heap.size) → ∃ a4 c4, v4 = .slice a4 t.length c4 ∧ Below wr.heap.size wr w4 ∧ Slot1 w4 W2.heap.size (.slice av cur.length cv) ∧ Rdg w4 (W2.heap.size + 1) (.slice av cur.length cv) cur vs) := by
                intro w4 v4 ho hg
                obtain ⟨a4, c4, e⟩ := own_slx ho
                have b4 : Below wr.heap.size wr w4 := below_grown bE hg (fun j hj => by have : wr.heap.size = j := Option.some.inj hj; omega) bE.size
                exact ⟨a4, c4, e, b4, hP.bl' b4, hR.below b4⟩
              have F5 : Hid (∀ (w4 : World) (a4 : Option Addr) (c4 : Nat), Below wr.heap.size wr w4 → w4.ownsRow wr.heap.size 55 3 (.slice a4 t.length c4) t.length (flat t) → ∀ (g5 cap5 : Nat) (w5 : World), w5.ownsRow (W2.heap.size + 1) 58 1 (.slice (some ⟨g5, 0, none⟩) (cur.length + 1) cap5) (cur.length + 1) (vs ++ [.slice a4 t.length c4]) → (w4.alloc (.cells #[.slice a4 t.length c4] 58)).grownBy w5 (Value.slice av cur.length cv).ownBlock → Below W2.heap.size W2 w5 ∧ Slot1 w5 W2.heap.size (.slice av cur.length cv) ∧ Slot1 w5 (w.heap.size + 1 + 1) (.slice none 0 0) ∧ Rdg w5 (W2.heap.size + 1) (.slice (some ⟨g5, 0, none⟩) (cur.length + 1) cap5) (cur ++ [t]) (vs ++ [.slice a4 t.length c4])) := by
                intro w4 a4 c4 b4 hx4 g5 cap5 w5 ho hg
                have hal := below1 w4 (.cells #[.slice a4 t.length c4] 58)
                have hge := own_ge hR.b.outer
                have b4a := b4.trans (hal.mono b4.size)
                have bwa := hbel.trans (b4a.mono hbel.size)
                refine ⟨below_grown bwa hg (fun j hj => by have := hge j hj; omega) bwa.size, (hP.bl' b4a).apart hg (fun e => by have := hge _ e; omega), (hY.bl' b4a).apart hg (fun e => by have := hge _ e; omega), ((hR.below b4).below hal).snocT (ownsRow_mono (ownsRow_below hx4 hal) (by omega)) (fun i hi j hj e => ?_) ho hg⟩
                have h1 := ((hR.b.inner i (by have := hR.b.len; omega) hi).lt j hj).2
                have h2 := own_ge hx4 j e
                omega
              go_wp2_with fail
              clear xx0
              refine wp_region_held_drew (S := fun w' => Below W2.heap.size W2 w') (by kernel_rfl) hbel.drew (fun hH => ?_)
              refine takeD 0 (some 45) (.pointer (some ⟨W2.heap.size, 0, none⟩)) hH rfl rfl (by kernel_rfl) (by kernel_rfl) (by kernel_rfl) (fun _ _ _ h => h) (Or.inl ⟨by rfl, by intro w' hSw; go_simp⟩) ?_
              simp only [Act.put, List.setIfInBounds_toArray, List.set_cons_zero, List.set_cons_succ]
              refine takeD 3 (some 48) (.pointer (some ⟨w.heap.size + 1, 0, none⟩)) hH rfl rfl (by kernel_rfl) (by kernel_rfl) (by kernel_rfl) (fun _ _ _ h => h) (Or.inl ⟨by rfl, by intro w' hSw; go_simp⟩) ?_
              simp only [Act.put, List.setIfInBounds_toArray, List.set_cons_zero, List.set_cons_succ]
              refine takeD 4 (some 49) (.slice (some ⟨b2, o2, none⟩) mm.length c2) hH rfl rfl (by kernel_rfl) (by kernel_rfl) (by kernel_rfl) (fun _ _ _ h => h) (Or.inl ⟨by rfl, by intro w' hSw; have hc := CX w' hSw; go_simp⟩) ?_
              simp only [Act.put, List.setIfInBounds_toArray, List.set_cons_zero, List.set_cons_succ]
              refine takeD 5 (some 50) (.int .i64 n) hH rfl rfl (by kernel_rfl) (by kernel_rfl) (by kernel_rfl) (fun _ _ _ h => h) (Or.inl ⟨by rfl, by intro w' hSw; go_simp⟩) ?_
              simp only [Act.put, List.setIfInBounds_toArray, List.set_cons_zero, List.set_cons_succ]
              refine takeD 6 (some 51) (.pointer (some ⟨b2, o2 + n, none⟩)) hH rfl rfl (by kernel_rfl) (by kernel_rfl) (by kernel_rfl) (fun _ _ _ h => h) (Or.inl ⟨by rfl, by intro w' hSw; go_simp⟩) ?_
              simp only [Act.put, List.setIfInBounds_toArray, List.set_cons_zero, List.set_cons_succ]
              refine takeD 7 (some 52) (.slice a' t.length c') hH rfl rfl (by kernel_rfl) (by kernel_rfl) (by kernel_rfl) (fun _ _ _ h => h) (Or.inl ⟨by rfl, by intro w' hSw; have hc := CT w' hSw; go_simp⟩) ?_
              simp only [Act.put, List.setIfInBounds_toArray, List.set_cons_zero, List.set_cons_succ]
              refine wpAnyH_ready (rs := [1, 2]) (by kernel_rfl) (by simp) ?_
              refine AllReadyH.cons rfl (fun K' hK => ?_) (AllReadyH.cons rfl (fun K' hK => ?_) AllReadyH.nil)
              · have xx := x0
                rw [if_pos (by rfl)]
                go_simp
                refine hK.out _ _ hH (fun _ => ?_)
                clear hK K' xx
                refine wpAnyH_ready (rs := [2]) (by kernel_rfl) (by simp) ?_
                refine AllReadyH.cons rfl (fun K' hK => ?_) AllReadyH.nil
                rw [if_pos (by rfl)]
                go_simp
                refine hK.out _ _ SA (fun _ => ?_)
                clear hK K'
                refine wpAnyH_ready (rs := [8]) (by kernel_rfl) (by simp) ?_
                refine AllReadyH.cons rfl (fun K' hK => ?_) AllReadyH.nil
                refine step_append_does (by rfl) (.tmp 47) (.tmp 52) 58 (by rfl) (some 53) rfl wr.heap.size 55 j0 Try.underlying58 hj hy0 hy1 hy2 wr.heap.size (by rfl) OA (by simp) a' b' o' c' t (by rfl) DA ht ?_
                intro v4 w4 ho4 hg4 hat4
                obtain ⟨a4, c4, rfl, b4, hS4, hR4⟩ := F4.out w4 v4 ho4 hg4
                simp only [Act.put, List.setIfInBounds_toArray, List.set_cons_zero, List.set_cons_succ]
                refine hK.out _ _ (hbel.trans (b4.mono hbel.size)) (fun hH4 => ?_)
                clear hK K'
                have hS4a := hS4.bl' (below1 w4 (.cells #[.slice a4 t.length c4] 58))
                have S4a : Below W2.heap.size W2 (w4.alloc (.cells #[.slice a4 t.length c4] 58)) := hH4.alloc hH4.size _
                refine wpAnyH_ready (rs := [9]) (by kernel_rfl) (by simp) ?_
                refine AllReadyH.cons rfl (fun K' hK => ?_) AllReadyH.nil
                rw [if_pos (by rfl)]
                go_simp
                refine hK.out _ _ S4a (fun _ => ?_)
                clear hK K'
                refine wpAnyH_ready (rs := [10]) (by kernel_rfl) (by simp) ?_
                refine AllReadyH.cons rfl (fun K' hK => ?_) AllReadyH.nil
                refine step_append_lies _ (by rfl) (.tmp 46) (.tmp 54) 23 (by rfl) (W2.heap.size + 1) 58 i0 _ 1 24 Try.underlying23 hi hz0 hz1 hz2 rfl (by decide) (.slice av cur.length cv) cur.length vs (by rfl) ((hR4.b.outer).alloc _) ⟨w4.heap.size, 0, none⟩ 1 1 [.slice a4 t.length c4] (by rfl) (by rfl) (World.news_of_block (cs := #[.slice a4 t.length c4]) (t := 58) (fr := (0, 0)) (heap_alloc_new w4 _)) (by simp [Value.oneCell']) (by omega) (by unfold maxLen; omega) (by omega) (by have := b4.size; simp; omega) (w4.heap.size + 1) (by simp) ?_
                intro g5 cap5 w5 hown5 hg5 hat5 hlt5
                obtain ⟨b5, hS5, hQ5, hR5⟩ := F5.out w4 a4 c4 b4 ho4 g5 cap5 w5 hown5 hg5
                simp only [Act.put, List.setIfInBounds_toArray, List.set_cons_zero, List.set_cons_succ]
                refine hK.out _ _ b5 (fun hH5 => ?_)
                clear hK K'
                refine takeD 11 (some 56) (.pointer (some ⟨W2.heap.size, 0, none⟩)) hH5 rfl rfl (by kernel_rfl) (by kernel_rfl) (by kernel_rfl) (fun _ _ _ h => h) (Or.inl ⟨by rfl, by intro w' hSw; go_simp⟩) ?_
                simp only [Act.put, List.setIfInBounds_toArray, List.set_cons_zero, List.set_cons_succ]
                refine wpAnyH_ready (rs := [12]) (by kernel_rfl) (by simp) ?_
                refine AllReadyH.cons rfl (fun K' hK => ?_) AllReadyH.nil
                have xc := hS5.c
                have xz := hS5.fz
                rw [if_pos (by rfl)]
                go_simp
                refine hK.out _ _ (b5.setCell (Nat.le_refl _) _) (fun _ => ?_)
                clear hK K'
                refine wpAnyH_done (by kernel_rfl) ?_ _
                clear xc xz
                go_wp2_with fail
                exact ⟨⟨n + 1, _, _, by go_num, by omega, by rw [HW.out]; exact hR5.far (by omega) _, hS5.set _, hQ5.far (by omega) _, b5.setCell (Nat.le_refl _) _⟩, by simp [intOf]; omega⟩
              · rw [if_pos (by rfl)]
                go_simp
                refine hK.out _ _ SA (fun _ => ?_)
                clear hK K'
                refine wpAnyH_ready (rs := [1, 8]) (by kernel_rfl) (by simp) ?_
                refine AllReadyH.cons rfl (fun K' hK => ?_) (AllReadyH.cons rfl (fun K' hK => ?_) AllReadyH.nil)
                · have xx := SXA
                  rw [if_pos (by rfl)]
                  go_simp
                  refine hK.out _ _ SA (fun _ => ?_)
                  clear hK K' xx
                  refine wpAnyH_ready (rs := [8]) (by kernel_rfl) (by simp) ?_
                  refine AllReadyH.cons rfl (fun K' hK => ?_) AllReadyH.nil
                  refine step_append_does (by rfl) (.tmp 47) (.tmp 52) 58 (by rfl) (some 53) rfl wr.heap.size 55 j0 Try.underlying58 hj hy0 hy1 hy2 wr.heap.size (by rfl) OA (by simp) a' b' o' c' t (by rfl) DA ht ?_
                  intro v4 w4 ho4 hg4 hat4
                  obtain ⟨a4, c4, rfl, b4, hS4, hR4⟩ := F4.out w4 v4 ho4 hg4
                  simp only [Act.put, List.setIfInBounds_toArray, List.set_cons_zero, List.set_cons_succ]
                  refine hK.out _ _ (hbel.trans (b4.mono hbel.size)) (fun hH4 => ?_)
                  clear hK K'
                  have hS4a := hS4.bl' (below1 w4 (.cells #[.slice a4 t.length c4] 58))
                  have S4a : Below W2.heap.size W2 (w4.alloc (.cells #[.slice a4 t.length c4] 58)) := hH4.alloc hH4.size _
                  refine wpAnyH_ready (rs := [9]) (by kernel_rfl) (by simp) ?_
                  refine AllReadyH.cons rfl (fun K' hK => ?_) AllReadyH.nil
                  rw [if_pos (by rfl)]
                  go_simp
                  refine hK.out _ _ S4a (fun _ => ?_)
                  clear hK K'
                  refine wpAnyH_ready (rs := [10]) (by kernel_rfl) (by simp) ?_
                  refine AllReadyH.cons rfl (fun K' hK => ?_) AllReadyH.nil
                  refine step_append_lies _ (by rfl) (.tmp 46) (.tmp 54) 23 (by rfl) (W2.heap.size + 1) 58 i0 _ 1 24 Try.underlying23 hi hz0 hz1 hz2 rfl (by decide) (.slice av cur.length cv) cur.length vs (by rfl) ((hR4.b.outer).alloc _) ⟨w4.heap.size, 0, none⟩ 1 1 [.slice a4 t.length c4] (by rfl) (by rfl) (World.news_of_block (cs := #[.slice a4 t.length c4]) (t := 58) (fr := (0, 0)) (heap_alloc_new w4 _)) (by simp [Value.oneCell']) (by omega) (by unfold maxLen; omega) (by omega) (by have := b4.size; simp; omega) (w4.heap.size + 1) (by simp) ?_
                  intro g5 cap5 w5 hown5 hg5 hat5 hlt5
                  obtain ⟨b5, hS5, hQ5, hR5⟩ := F5.out w4 a4 c4 b4 ho4 g5 cap5 w5 hown5 hg5
                  simp only [Act.put, List.setIfInBounds_toArray, List.set_cons_zero, List.set_cons_succ]
                  refine hK.out _ _ b5 (fun hH5 => ?_)
                  clear hK K'
                  refine takeD 11 (some 56) (.pointer (some ⟨W2.heap.size, 0, none⟩)) hH5 rfl rfl (by kernel_rfl) (by kernel_rfl) (by kernel_rfl) (fun _ _ _ h => h) (Or.inl ⟨by rfl, by intro w' hSw; go_simp⟩) ?_
                  simp only [Act.put, List.setIfInBounds_toArray, List.set_cons_zero, List.set_cons_succ]
                  refine wpAnyH_ready (rs := [12]) (by kernel_rfl) (by simp) ?_
                  refine AllReadyH.cons rfl (fun K' hK => ?_) AllReadyH.nil
                  have xc := hS5.c
                  have xz := hS5.fz
                  rw [if_pos (by rfl)]
                  go_simp
                  refine hK.out _ _ (b5.setCell (Nat.le_refl _) _) (fun _ => ?_)
                  clear hK K'
                  refine wpAnyH_done (by kernel_rfl) ?_ _
                  clear xc xz
                  go_wp2_with fail
                  exact ⟨⟨n + 1, _, _, by go_num, by omega, by rw [HW.out]; exact hR5.far (by omega) _, hS5.set _, hQ5.far (by omega) _, b5.setCell (Nat.le_refl _) _⟩, by simp [intOf]; omega⟩
                · refine step_append_does (by rfl) (.tmp 47) (.tmp 52) 58 (by rfl) (some 53) rfl wr.heap.size 55 j0 Try.underlying58 hj hy0 hy1 hy2 wr.heap.size (by rfl) OA (by simp) a' b' o' c' t (by rfl) DA ht ?_
                  intro v4 w4 ho4 hg4 hat4
                  obtain ⟨a4, c4, rfl, b4, hS4, hR4⟩ := F4.out w4 v4 ho4 hg4
                  simp only [Act.put, List.setIfInBounds_toArray, List.set_cons_zero, List.set_cons_succ]
                  refine hK.out _ _ (hbel.trans (b4.mono hbel.size)) (fun hH4 => ?_)
                  clear hK K'
                  have hS4a := hS4.bl' (below1 w4 (.cells #[.slice a4 t.length c4] 58))
                  have S4a : Below W2.heap.size W2 (w4.alloc (.cells #[.slice a4 t.length c4] 58)) := hH4.alloc hH4.size _
                  refine wpAnyH_ready (rs := [1, 9]) (by kernel_rfl) (by simp) ?_
                  refine AllReadyH.cons rfl (fun K' hK => ?_) (AllReadyH.cons rfl (fun K' hK => ?_) AllReadyH.nil)
                  · have xx := hS4.c
                    rw [if_pos (by rfl)]
                    go_simp
                    refine hK.out _ _ hH4 (fun _ => ?_)
                    clear hK K' xx
                    refine wpAnyH_ready (rs := [9]) (by kernel_rfl) (by simp) ?_
                    refine AllReadyH.cons rfl (fun K' hK => ?_) AllReadyH.nil
                    rw [if_pos (by rfl)]
                    go_simp
                    refine hK.out _ _ S4a (fun _ => ?_)
                    clear hK K'
                    refine wpAnyH_ready (rs := [10]) (by kernel_rfl) (by simp) ?_
                    refine AllReadyH.cons rfl (fun K' hK => ?_) AllReadyH.nil
                    refine step_append_lies _ (by rfl) (.tmp 46) (.tmp 54) 23 (by rfl) (W2.heap.size + 1) 58 i0 _ 1 24 Try.underlying23 hi hz0 hz1 hz2 rfl (by decide) (.slice av cur.length cv) cur.length vs (by rfl) ((hR4.b.outer).alloc _) ⟨w4.heap.size, 0, none⟩ 1 1 [.slice a4 t.length c4] (by rfl) (by rfl) (World.news_of_block (cs := #[.slice a4 t.length c4]) (t := 58) (fr := (0, 0)) (heap_alloc_new w4 _)) (by simp [Value.oneCell']) (by omega) (by unfold maxLen; omega) (by omega) (by have := b4.size; simp; omega) (w4.heap.size + 1) (by simp) ?_
                    intro g5 cap5 w5 hown5 hg5 hat5 hlt5
                    obtain ⟨b5, hS5, hQ5, hR5⟩ := F5.out w4 a4 c4 b4 ho4 g5 cap5 w5 hown5 hg5
                    simp only [Act.put, List.setIfInBounds_toArray, List.set_cons_zero, List.set_cons_succ]
                    refine hK.out _ _ b5 (fun hH5 => ?_)
                    clear hK K'
                    refine takeD 11 (some 56) (.pointer (some ⟨W2.heap.size, 0, none⟩)) hH5 rfl rfl (by kernel_rfl) (by kernel_rfl) (by kernel_rfl) (fun _ _ _ h => h) (Or.inl ⟨by rfl, by intro w' hSw; go_simp⟩) ?_
                    simp only [Act.put, List.setIfInBounds_toArray, List.set_cons_zero, List.set_cons_succ]
                    refine wpAnyH_ready (rs := [12]) (by kernel_rfl) (by simp) ?_
                    refine AllReadyH.cons rfl (fun K' hK => ?_) AllReadyH.nil
                    have xc := hS5.c
                    have xz := hS5.fz
                    rw [if_pos (by rfl)]
                    go_simp
                    refine hK.out _ _ (b5.setCell (Nat.le_refl _) _) (fun _ => ?_)
                    clear hK K'
                    refine wpAnyH_done (by kernel_rfl) ?_ _
                    clear xc xz
                    go_wp2_with fail
                    exact ⟨⟨n + 1, _, _, by go_num, by omega, by rw [HW.out]; exact hR5.far (by omega) _, hS5.set _, hQ5.far (by omega) _, b5.setCell (Nat.le_refl _) _⟩, by simp [intOf]; omega⟩
                  · rw [if_pos (by rfl)]
                    go_simp
                    refine hK.out _ _ S4a (fun _ => ?_)
                    clear hK K'
                    refine wpAnyH_ready (rs := [1]) (by kernel_rfl) (by simp) ?_
                    refine AllReadyH.cons rfl (fun K' hK => ?_) AllReadyH.nil
                    have xx := hS4a.c
                    rw [if_pos (by rfl)]
                    go_simp
                    refine hK.out _ _ S4a (fun _ => ?_)
                    clear hK K' xx
                    refine wpAnyH_ready (rs := [10]) (by kernel_rfl) (by simp) ?_
                    refine AllReadyH.cons rfl (fun K' hK => ?_) AllReadyH.nil
                    refine step_append_lies _ (by rfl) (.tmp 46) (.tmp 54) 23 (by rfl) (W2.heap.size + 1) 58 i0 _ 1 24 Try.underlying23 hi hz0 hz1 hz2 rfl (by decide) (.slice av cur.length cv) cur.length vs (by rfl) ((hR4.b.outer).alloc _) ⟨w4.heap.size, 0, none⟩ 1 1 [.slice a4 t.length c4] (by rfl) (by rfl) (World.news_of_block (cs := #[.slice a4 t.length c4]) (t := 58) (fr := (0, 0)) (heap_alloc_new w4 _)) (by simp [Value.oneCell']) (by omega) (by unfold maxLen; omega) (by omega) (by have := b4.size; simp; omega) (w4.heap.size + 1) (by simp) ?_
                    intro g5 cap5 w5 hown5 hg5 hat5 hlt5
                    obtain ⟨b5, hS5, hQ5, hR5⟩ := F5.out w4 a4 c4 b4 ho4 g5 cap5 w5 hown5 hg5
                    simp only [Act.put, List.setIfInBounds_toArray, List.set_cons_zero, List.set_cons_succ]
                    refine hK.out _ _ b5 (fun hH5 => ?_)
                    clear hK K'
                    refine takeD 11 (some 56) (.pointer (some ⟨W2.heap.size, 0, none⟩)) hH5 rfl rfl (by kernel_rfl) (by kernel_rfl) (by kernel_rfl) (fun _ _ _ h => h) (Or.inl ⟨by rfl, by intro w' hSw; go_simp⟩) ?_
                    simp only [Act.put, List.setIfInBounds_toArray, List.set_cons_zero, List.set_cons_succ]
                    refine wpAnyH_ready (rs := [12]) (by kernel_rfl) (by simp) ?_
                    refine AllReadyH.cons rfl (fun K' hK => ?_) AllReadyH.nil
                    have xc := hS5.c
                    have xz := hS5.fz
                    rw [if_pos (by rfl)]
                    go_simp
                    refine hK.out _ _ (b5.setCell (Nat.le_refl _) _) (fun _ => ?_)
                    clear hK K'
                    refine wpAnyH_done (by kernel_rfl) ?_ _
                    clear xc xz
                    go_wp2_with fail
                    exact ⟨⟨n + 1, _, _, by go_num, by omega, by rw [HW.out]; exact hR5.far (by omega) _, hS5.set _, hQ5.far (by omega) _, b5.setCell (Nat.le_refl _) _⟩, by simp [intOf]; omega⟩
            · have htk : mm.take n = mm := List.take_of_length_le (by omega)
              rw [htk] at hR
              have hkn' : ¬ (n : Int) < mm.length := by omega
              have xx0 := (hbel.cell (p := ⟨w.heap.size + 1, 0, none⟩) lZ).trans hZ1c
              obtain ⟨av, gv, cv, rfl, hss⟩ := hR.b.ss
              have CQ := sprog_any av gv 0 cv (ll ++ mm) wr hn3 hn7 hss
              rw [hok] at CQ
              generalize ll ++ mm = nn at *
              have p0 := hP.c
              have lP := hP.lt
              have lQ := hY.lt
              have hbw := bw1.trans (hbel.mono bw1.size)
              have hsz := bw1.size
              have hne : w.heap.size + 1 + 1 ≠ W2.heap.size := by omega
              cases ok
              · go_wp2_with (first | (go_at_call 13; refine CQ.mono ?_; rintro e W6 ⟨rfl, b6⟩; have hY6 := hY.bl' b6; have y0 := hY6.c; have yf := hY6.fz; have ly := hY6.lt))
                have bw6 := hbw.trans (b6.mono hbw.size)
                have q1 := (hY6.set (.slice none 0 0)).c
                exact bodyPost_ret (v := .tuple #[.agg #[.slice none 0 0], .bool false]) (by simp [results, Try.results21, go_sem, q1]) rfl ⟨_, by rw [E1.out], ⟨[], by rw [E2.out]; exact Rdg.nil _ _⟩, bw6.setCell (by show w.heap.size ≤ w.heap.size + 1 + 1; omega) _⟩
              · go_wp2_with (first | (go_at_call 13; refine CQ.mono ?_; rintro e W6 ⟨rfl, b6⟩; have hY6 := hY.bl' b6; have hP6 := hP.bl' b6; have y0 := hY6.c; have yf := hY6.fz; have ly := hY6.lt; have p6 := hP6.c))
                have bw6 := hbw.trans (b6.mono hbw.size)
                have hR6 := hR.below b6
                have q1 := (hY6.set (.slice av nn.length cv)).c
                exact bodyPost_ret (v := .tuple #[.agg #[.slice av nn.length cv], .bool true]) (by simp [results, Try.results21, go_sem, q1]) rfl ⟨_, by rw [E1.out], ⟨vs, by rw [E2.out]; exact (hR6.far (by omega) _).mono (by omega)⟩, bw6.setCell (by show w.heap.size ≤ w.heap.size + 1 + 1; omega) _⟩

end Go.Proofs.Ytdpoiabohkkbcaa

namespace Go.Proofs.Ytdpoiabohkkbcaa
namespace M

/-- Where the numbers of a row stand: those of the first so many. -/
def backUpto (row : List Int) : Nat → List Int
  | 0 => List.replicate row.length 0
  | k + 1 => (backUpto row k).set (row.getD k 0).toNat k
def back (row : List Int) : List Int := backUpto row row.length
theorem backUpto_len (row : List Int) (k : Nat) : (backUpto row k).length = row.length := by
  induction k with
  | zero => simp [backUpto]
  | succ k ih => rw [backUpto, List.length_set, ih]
theorem back_len (row : List Int) : (back row).length = row.length := backUpto_len _ _

theorem three_of {x : Int} (h : 0 ≤ x ∧ x < 3) : x = 0 ∨ x = 1 ∨ x = 2 := by omega
theorem four_of {x : Int} (h : 0 ≤ x ∧ x < 4) : x = 0 ∨ x = 1 ∨ x = 2 ∨ x = 3 := by omega
theorem row0 {row : List Int} (h : rowN row 0 = true) : row = [] := List.length_eq_zero_iff.1 (rowN_len h)
theorem row1 {row : List Int} (h : rowN row 1 = true) : row = [0] := by
  match row, rowN_len h, rowN_mem h with
  | [x], _, hm => have := hm x (by simp); congr 1; omega
theorem row2 {row : List Int} (h : rowN row 2 = true) : row = [0, 1] ∨ row = [1, 0] := by
  match row, rowN_len h, rowN_mem h, h with
  | [x, y], _, hm, h =>
    have hx := hm x (by simp)
    have hy := hm y (by simp)
    have hx : x = 0 ∨ x = 1 := by omega
    have hy : y = 0 ∨ y = 1 := by omega
    clear hm
    rcases hx with rfl | rfl <;> rcases hy with rfl | rfl <;> first | (exact absurd h (by decide)) | simp
theorem row3 {row : List Int} (h : rowN row 3 = true) : row = [0, 1, 2] ∨ row = [0, 2, 1] ∨ row = [1, 0, 2] ∨ row = [1, 2, 0] ∨ row = [2, 0, 1] ∨ row = [2, 1, 0] := by
  match row, rowN_len h, rowN_mem h, h with
  | [x, y, z], _, hm, h =>
    have hx := three_of (hm x (by simp))
    have hy := three_of (hm y (by simp))
    have hz := three_of (hm z (by simp))
    clear hm
    rcases hx with rfl | rfl | rfl <;> rcases hy with rfl | rfl | rfl <;> rcases hz with rfl | rfl | rfl <;> first | (exact absurd h (by decide)) | simp
theorem row4 {row : List Int} (h : rowN row 4 = true) (h0 : row.getD 0 0 = 0) : row = [0, 1, 2, 3] ∨ row = [0, 1, 3, 2] ∨ row = [0, 2, 1, 3] ∨ row = [0, 2, 3, 1] ∨ row = [0, 3, 1, 2] ∨ row = [0, 3, 2, 1] := by
  match row, rowN_len h, rowN_mem h, h, h0 with
  | [x, y, z, u], _, hm, h, h0 =>
    have hy := four_of (hm y (by simp))
    have hz := four_of (hm z (by simp))
    have hu := four_of (hm u (by simp))
    obtain rfl : x = 0 := by simpa using h0
    clear hm h0
    rcases hy with rfl | rfl | rfl | rfl <;> rcases hz with rfl | rfl | rfl | rfl <;> rcases hu with rfl | rfl | rfl | rfl <;> first | (exact absurd h (by decide)) | simp

/-- How many steps there are. -/
def stp : List (List D) → Nat
  | [] => 0
  | t :: l => t.length + stp l
theorem from_iff (l : List (List D)) : ∀ a u : Nat, progFrom a u l = true ↔ (∀ t ∈ l, thread t = true) ∧ a + stp l ≤ 14 ∧ u + tot uses l ≤ 6 := by
  induction l with
  | nil => intro a u; simp [progFrom, stp, tot]
  | cons t l ih =>
    intro a u
    by_cases hb : thread t = true
    · simp only [progFrom, hb, if_true, ih, stp, tot, List.mem_cons, forall_eq_or_imp, true_and]
      constructor
      · rintro ⟨h1, h2, h3⟩; exact ⟨h1, by omega, by omega⟩
      · rintro ⟨h1, h2, h3⟩; exact ⟨h1, by omega, by omega⟩
    · simp [progFrom, hb]
theorem prog_iff (l : List (List D)) : prog l = true ↔ l.length ≤ 3 ∧ (∀ t ∈ l, thread t = true) ∧ stp l ≤ 14 ∧ tot uses l ≤ 6 := by
  simp only [prog, Bool.and_eq_true, decide_eq_true_eq, from_iff, Nat.zero_add]

theorem threads_back {ll : List (List D)} {row : List Int} (h : prog ll = true) (hr : rowN row ll.length = true) :
    prog (pick [] row ll) = true ∧ tot reads (pick [] row ll) = tot reads ll ∧ rowN (back row) (pick [] row ll).length = true ∧ pick [] (back row) (pick [] row ll) = ll := by
  have h3 := (prog_le h).1
  rw [prog_iff] at h ⊢
  obtain ⟨_, h1, h2, h4⟩ := h
  match ll, h3, hr with
  | [], _, hr => obtain rfl := row0 hr; exact ⟨by simp [pick, stp, tot], rfl, rfl, rfl⟩
  | [a], _, hr =>
    obtain rfl := row1 hr
    exact ⟨⟨by simp [pick], by simpa [pick] using h1, by simpa [pick] using h2, by simpa [pick] using h4⟩, rfl, by rw [pick_len]; decide, rfl⟩
  | [a, b], _, hr =>
    simp only [List.mem_cons, List.not_mem_nil, or_false, forall_eq_or_imp, forall_eq] at h1
    simp only [stp, tot] at h2 h4
    rcases row2 hr with rfl | rfl <;> refine ⟨⟨by simp [pick], by simp [pick, h1], by simp [pick, stp]; omega, by simp [pick, tot]; omega⟩, by simp [pick, tot]; try omega, by rw [pick_len]; decide, rfl⟩
  | [a, b, c], _, hr =>
    simp only [List.mem_cons, List.not_mem_nil, or_false, forall_eq_or_imp, forall_eq] at h1
    simp only [stp, tot] at h2 h4
    rcases row3 hr with rfl | rfl | rfl | rfl | rfl | rfl <;> refine ⟨⟨by simp [pick], by simp [pick, h1], by simp [pick, stp]; omega, by simp [pick, tot]; omega⟩, by simp [pick, tot]; try omega, by rw [pick_len]; decide, rfl⟩

/-- A change of steps that leaves all that is asked of a program. -/
structure Kept (f : D → D) (P : D → Prop) : Prop where
  ok : ∀ d, P d → doOk d = true → doOk (f d) = true
  r : ∀ d, reads (f d).k = reads d.k
  u : ∀ d, uses (f d).k = uses d.k
  k3 : ∀ d, ((f d).k == 3) = (d.k == 3)
  k7 : ∀ d, ((f d).k == 7) = (d.k == 7)
  k8 : ∀ d, ((f d).k == 8) = (d.k == 8)
  k9 : ∀ d, ((f d).k == 9) = (d.k == 9)
theorem Kept.copies {f : D → D} {P : D → Prop} (h : Kept f P) (l : List D) : ∀ r, copies r (l.map f) = copies r l := by
  induction l with
  | nil => intro r; rfl
  | cons d l ih => intro r; simp only [List.map_cons, M.copies, h.k3, h.r, ih]
theorem Kept.readers {f : D → D} {P : D → Prop} (h : Kept f P) (l : List D) : ∀ i, readers i (l.map f) = readers i l := by
  induction l with
  | nil => intro i; rfl
  | cons d l ih => intro i; simp only [List.map_cons, M.readers, h.k7, h.k8, h.k9, ih]
theorem Kept.cnt {f : D → D} {P : D → Prop} (h : Kept f P) (l : List D) : cnt uses (l.map f) = cnt uses l := by
  induction l with
  | nil => rfl
  | cons d l ih => rw [List.map_cons, cnt_cons, cnt_cons, h.u, ih]
theorem Kept.cntR {f : D → D} {P : D → Prop} (h : Kept f P) (l : List D) : M.cnt M.reads (l.map f) = M.cnt M.reads l := by
  induction l with
  | nil => rfl
  | cons d l ih => rw [List.map_cons, cnt_cons, cnt_cons, h.r, ih]
theorem Kept.tot {f : D → D} {P : D → Prop} (h : Kept f P) (ll : List (List D)) : tot uses (mapS f ll) = tot uses ll ∧ tot M.reads (mapS f ll) = tot M.reads ll ∧ stp (mapS f ll) = stp ll := by
  induction ll with
  | nil => exact ⟨rfl, rfl, rfl⟩
  | cons t ll ih =>
    obtain ⟨i1, i2, i3⟩ := ih
    unfold mapS at i1 i2 i3 ⊢
    simp only [List.map_cons, M.tot, stp, h.cnt, h.cntR, i1, i2, i3, List.length_map]
    simp
theorem Kept.thread {f : D → D} {P : D → Prop} (h : Kept f P) {t : List D} (ht : thread t = true) (hP : ∀ d ∈ t, P d) : M.thread (t.map f) = true := by
  simp only [M.thread, form, Bool.and_eq_true, decide_eq_true_eq, List.all_eq_true, List.length_map, h.copies, h.readers] at ht ⊢
  refine ⟨⟨⟨ht.1.1.1, fun d hd => ?_⟩, ht.1.2⟩, ht.2⟩
  obtain ⟨x, hx, rfl⟩ := List.mem_map.1 hd
  exact h.ok x (hP x hx) (ht.1.1.2 x hx)
theorem Kept.prog {f : D → D} {P : D → Prop} (h : Kept f P) {ll : List (List D)} (hp : prog ll = true) (hP : ∀ t ∈ ll, ∀ d ∈ t, P d) : M.prog (mapS f ll) = true := by
  rw [prog_iff] at hp ⊢
  obtain ⟨h1, h2, h3, h4⟩ := hp
  obtain ⟨k1, _, k3⟩ := h.tot ll
  refine ⟨by rw [mapS_len]; exact h1, fun t ht => ?_, by rw [k3]; exact h3, by rw [k1]; exact h4⟩
  obtain ⟨x, hx, rfl⟩ := List.mem_map.1 ht
  exact h.thread (h2 x hx) (hP x hx)

theorem place_kept {row : List Int} (hr : rowN row 3 = true) : Kept (placeF row) (fun _ => True) := by
  have hk : ∀ d, (placeF row d).k = d.k := fun d => by unfold placeF; split <;> rfl
  refine ⟨fun d _ hd => ?_, fun d => by rw [hk], fun d => by rw [hk], fun d => by rw [hk], fun d => by rw [hk], fun d => by rw [hk], fun d => by rw [hk]⟩
  unfold placeF
  cases hu : uses d.k
  · simpa using hd
  · simp only [if_true]
    simp only [doOk, placeOk, hu, if_true, Bool.and_eq_true, decide_eq_true_eq] at hd ⊢
    refine ⟨⟨hd.1.1, ?_⟩, hd.2⟩
    have hl := rowN_len hr
    rw [getD_get (by omega)]
    exact rowN_get hr _ (by omega)
theorem place_back {row : List Int} (hr : rowN row 3 = true) {d : D} (hd : doOk d = true) : placeF (back row) (placeF row d) = d := by
  obtain ⟨k, p, v⟩ := d
  unfold placeF
  cases hu : uses k
  · simp [hu]
  · simp only [if_true, hu]
    simp only [doOk, placeOk, hu, if_true, Bool.and_eq_true, decide_eq_true_eq] at hd
    have hp := three_of hd.1.2
    clear hd
    rcases row3 hr with rfl | rfl | rfl | rfl | rfl | rfl <;> rcases hp with rfl | rfl | rfl <;> rfl
theorem back_row3 {row : List Int} (hr : rowN row 3 = true) : rowN (back row) 3 = true := by
  rcases row3 hr with rfl | rfl | rfl | rfl | rfl | rfl <;> decide
theorem mapS_back {f g : D → D} {ll : List (List D)} (h : ∀ t ∈ ll, ∀ d ∈ t, g (f d) = d) : mapS g (mapS f ll) = ll := by
  unfold mapS
  rw [List.map_map]
  conv => rhs; rw [← List.map_id ll]
  apply List.map_congr_left
  intro t ht
  simp only [Function.comp, List.map_map, id]
  conv => rhs; rw [← List.map_id t]
  apply List.map_congr_left
  intro d hd
  exact h t ht d hd
theorem prog_dos {ll : List (List D)} (h : prog ll = true) : ∀ t ∈ ll, ∀ d ∈ t, doOk d = true := by
  intro t ht d hd
  have := ((prog_iff ll).1 h).2.1 t ht
  simp only [M.thread, form, Bool.and_eq_true, List.all_eq_true] at this
  exact this.1.1.2 d hd
theorem places_back {ll : List (List D)} {row : List Int} (h : prog ll = true) (hr : rowN row 3 = true) : prog (mapS (placeF row) ll) = true ∧ rowN (back row) 3 = true ∧ mapS (placeF (back row)) (mapS (placeF row) ll) = ll :=
  ⟨(place_kept hr).prog h (fun _ _ _ _ => trivial), back_row3 hr, mapS_back fun t ht d hd => place_back hr (prog_dos h t ht d hd)⟩

theorem val_in {row : List Int} (hr : rowN row 4 = true) (h0 : row.getD 0 0 = 0) {k v : Int} (h : valOk k v = true) : 0 ≤ v ∧ v < 4 ∧ valOk k (row.getD v.toNat 0) = true ∧ (back row).getD (row.getD v.toNat 0).toNat 0 = v := by
  unfold valOk at h ⊢
  cases hs : stores k
  · simp only [hs, Bool.false_eq_true, if_false, beq_iff_eq] at h ⊢
    subst h
    rcases row4 hr h0 with rfl | rfl | rfl | rfl | rfl | rfl <;> decide
  · simp only [hs, if_true, Bool.and_eq_true, decide_eq_true_eq] at h ⊢
    have hv : v = 1 ∨ v = 2 ∨ v = 3 := by omega
    clear h
    rcases row4 hr h0 with rfl | rfl | rfl | rfl | rfl | rfl <;> rcases hv with rfl | rfl | rfl <;> decide
theorem val_kept {row : List Int} (hr : rowN row 4 = true) (h0 : row.getD 0 0 = 0) : Kept (valF row) (fun _ => True) := by
  refine ⟨fun d _ hd => ?_, fun d => rfl, fun d => rfl, fun d => rfl, fun d => rfl, fun d => rfl, fun d => rfl⟩
  simp only [doOk, valF, Bool.and_eq_true] at hd ⊢
  exact ⟨hd.1, (val_in hr h0 hd.2).2.2.1⟩
theorem val_back {row : List Int} (hr : rowN row 4 = true) (h0 : row.getD 0 0 = 0) {d : D} (hd : doOk d = true) : valF (back row) (valF row d) = d := by
  obtain ⟨k, p, v⟩ := d
  simp only [doOk, Bool.and_eq_true] at hd
  have := (val_in hr h0 hd.2).2.2.2
  simp only [valF]
  congr 1
theorem back_row4 {row : List Int} (hr : rowN row 4 = true) (h0 : row.getD 0 0 = 0) : rowN (back row) 4 = true ∧ (back row).getD 0 0 = 0 := by
  rcases row4 hr h0 with rfl | rfl | rfl | rfl | rfl | rfl <;> decide
theorem vals_back {ll : List (List D)} {row : List Int} (h : prog ll = true) (hr : rowN row 4 = true) (h0 : row.getD 0 0 = 0) : prog (mapS (valF row) ll) = true ∧ rowN (back row) 4 = true ∧ (back row).getD 0 0 = 0 ∧ mapS (valF (back row)) (mapS (valF row) ll) = ll :=
  ⟨(val_kept hr h0).prog h (fun _ _ _ _ => trivial), (back_row4 hr h0).1, (back_row4 hr h0).2, mapS_back fun t ht d hd => val_back hr h0 (prog_dos h t ht d hd)⟩
end M
end Go.Proofs.Ytdpoiabohkkbcaa
