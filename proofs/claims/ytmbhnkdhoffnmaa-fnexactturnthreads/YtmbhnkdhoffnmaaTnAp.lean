/- append of steps onto an empty row that was made: in plain regions, and in those that draw their order. No condition. -/
import Derived.Test.YtmbhnkdhoffnmaaTnB0
import Derived.Deep.RegionLaw
import Derived.Maps.AppendAt
namespace Go.Proofs.Ytmbhnkdhoffnmaa
open Go.RowKit

theorem run_append_emp0 {P : Program} (w : World) (t ty e : TypeId) (i : TypeInfo) (ht : P.underlying t = some (.slice e)) (hi : P.info? e = some i) (ad : Addr) (a : Option Addr) (c : Nat) :
    (Builtin.append_ #[t, t] ty #[.slice (some ad) 0 0, .slice a 0 c]).run P w = .ok (.slice (some ad) 0 0) w := by
  cases a
  · simp [Builtin.append_, run_underlying ht, sizeOf, typeInfo, hi, Builtin.lenOf, Builtin.firstCells, storeCells]
  · simp [Builtin.append_, run_underlying ht, sizeOf, typeInfo, hi, Builtin.lenOf, Builtin.firstCells, loadCells, loadCellsFrom, storeCells]
theorem grow_refl (w : World) (row : Option Nat) : w.grownBy w row := ⟨rfl, rfl, rfl, Nat.le_refl _, fun _ _ _ => rfl⟩
theorem own_emp {X : World} {base g size : Nat} {e : TypeId} (h : X.heap[g]? = some (.cells #[] e (0, 0))) (hb : base ≤ g) : X.ownsRow base e size (.slice (some ⟨g, 0, none⟩) 0 0) 0 [] :=
  ⟨by simp, .inr ⟨g, 0, #[], rfl, hb, h, Nat.le_refl _, Nat.zero_le _, by simp, by simp⟩⟩

theorem wp_append_does {P : Program} {o : Oper} {a : Act} {w : World} {K : Act → World → Prop} {Q : Exit → Act → World → Prop} (s x : Operand) (t : TypeId)
    (ho : o.op = .call { callee := .builtin .append, args := #[s, x], argTypes := #[t, t] }) (d : Option Tmp) (hd : o.dst = d) (base : Nat) (e : TypeId) (i : TypeInfo) (ht : P.underlying t = some (.slice e)) (hi : P.info? e = some i) (hz0 : i.zero = some (.agg #[.int .i64 0, .int .i64 0, .int .i64 0])) (hz1 : i.size = 3) (hz2 : i.bytes = 24)
    (g : Nat) (hs : a.eval s = .slice (some ⟨g, 0, none⟩) 0 0) (hown : w.ownsRow base e 3 (.slice (some ⟨g, 0, none⟩) 0 0) 0 []) (hbase : base ≤ w.heap.size) (sa : Option Addr) (b off c : Nat) (l : List M.D) (hx : a.eval x = .slice sa l.length c) (hI : DoS w sa b off l) (hl : l.length ≤ 1048576)
    (h : ∀ v' w', w'.ownsRow base e 3 v' l.length (flat l) → w.grownBy w' (some g) → (v'.ownBlock = some g ∨ v'.ownBlock = some w.heap.size) → K (a.put d v') w') :
    Oper.wp P o a w K Q := by
  subst hd
  cases sa with
  | none =>
    have hl0 : l = [] := by
      rcases Nat.eq_zero_or_pos l.length with h0 | h0
      · exact List.length_eq_zero_iff.1 h0
      · cases hI.addr h0
    subst hl0
    rw [List.length_nil] at hx
    have hrun := run_append_emp0 (P := P) w t o.type e i ht hi ⟨g, 0, none⟩ none c
    have hk := h (.slice (some ⟨g, 0, none⟩) 0 0) w hown (grow_refl _ _) (.inl rfl)
    unfold Oper.wp
    simp [execOp, ho, resolve, invoke, builtin, hs, hx, hrun, Result.andThen]
    exact hk
  | some ad =>
    have hn : ∀ j u, (flat l)[j]? = some u → w.cell? (ad.add j) = some u := fun j u hj => by
      have hjl := (List.getElem?_eq_some_iff.1 hj).1
      rw [flat_length] at hjl
      obtain ⟨rfl⟩ := hI.addr (by omega)
      exact DoS.flat_cells hI.row j u hj
    obtain ⟨v', w', hrun, h2, h3, _, h5⟩ := run_append_own_at (P := P) w base t o.type e i (.agg #[.int .i64 0, .int .i64 0, .int .i64 0]) 3 24 ht hi hz0 hz1 hz2 rfl (by decide) (.slice (some ⟨g, 0, none⟩) 0 0) 0 [] hown ad l.length c (flat l) (flat_length l) hn (flat_one' l) (by unfold maxLen; omega) (by omega) hbase
    have hk := h v' w' (by simpa using h2) h3 h5
    unfold Oper.wp
    simp [execOp, ho, resolve, invoke, builtin, hs, hx, hrun, Result.andThen]
    exact hk
theorem step_append_does {P : Program} {ops : Array Oper} {o : Oper} {a : Act} {w : World} {K : Act → World → Prop} {Q : Exit → Act → World → Prop} {E : Prop} (hgd : o.guard = none) (s x : Operand) (t : TypeId)
    (ho : o.op = .call { callee := .builtin .append, args := #[s, x], argTypes := #[t, t] }) (d : Option Tmp) (hd : o.dst = d) (base : Nat) (e : TypeId) (i : TypeInfo) (ht : P.underlying t = some (.slice e)) (hi : P.info? e = some i) (hz0 : i.zero = some (.agg #[.int .i64 0, .int .i64 0, .int .i64 0])) (hz1 : i.size = 3) (hz2 : i.bytes = 24)
    (g : Nat) (hs : a.eval s = .slice (some ⟨g, 0, none⟩) 0 0) (hown : w.ownsRow base e 3 (.slice (some ⟨g, 0, none⟩) 0 0) 0 []) (hbase : base ≤ w.heap.size) (sa : Option Addr) (b off c : Nat) (l : List M.D) (hx : a.eval x = .slice sa l.length c) (hI : DoS w sa b off l) (hl : l.length ≤ 1048576)
    (h : ∀ v' w', w'.ownsRow base e 3 v' l.length (flat l) → w.grownBy w' (some g) → (v'.ownBlock = some g ∨ v'.ownBlock = some w.heap.size) → K (a.put d v') w') :
    if Region.wanted o (yielded ops a.tmps) = true then Oper.wp P o a w K Q else E := by
  have hw : Region.wanted o (yielded ops a.tmps) = true := by simp [Region.wanted, hgd]
  rw [if_pos hw]
  exact wp_append_does s x t ho d hd base e i ht hi hz0 hz1 hz2 g hs hown hbase sa b off c l hx hI hl h
theorem wpList_append_does {P : Program} {ops : Array Oper} {rest : List Oper} {o : Oper} {a : Act} {w : World} {Q : Exit → Act → World → Prop} (hgd : o.guard = none) (s x : Operand) (t : TypeId)
    (ho : o.op = .call { callee := .builtin .append, args := #[s, x], argTypes := #[t, t] }) (d : Option Tmp) (hd : o.dst = d) (base : Nat) (e : TypeId) (i : TypeInfo) (ht : P.underlying t = some (.slice e)) (hi : P.info? e = some i) (hz0 : i.zero = some (.agg #[.int .i64 0, .int .i64 0, .int .i64 0])) (hz1 : i.size = 3) (hz2 : i.bytes = 24)
    (g : Nat) (hs : a.eval s = .slice (some ⟨g, 0, none⟩) 0 0) (hown : w.ownsRow base e 3 (.slice (some ⟨g, 0, none⟩) 0 0) 0 []) (hbase : base ≤ w.heap.size) (sa : Option Addr) (b off c : Nat) (l : List M.D) (hx : a.eval x = .slice sa l.length c) (hI : DoS w sa b off l) (hl : l.length ≤ 1048576)
    (h : ∀ v' w', w'.ownsRow base e 3 v' l.length (flat l) → w.grownBy w' (some g) → (v'.ownBlock = some g ∨ v'.ownBlock = some w.heap.size) → wpList P ops Q rest (a.put d v') w') :
    wpList P ops Q (o :: rest) a w :=
  wpList_plain hgd fun _ hK => wp_append_does s x t ho d hd base e i ht hi hz0 hz1 hz2 g hs hown hbase sa b off c l hx hI hl fun v' w' h1 h2 h3 => by
    subst hd
    exact hK _ _ (h v' w' h1 h2 h3)

end Go.Proofs.Ytmbhnkdhoffnmaa
