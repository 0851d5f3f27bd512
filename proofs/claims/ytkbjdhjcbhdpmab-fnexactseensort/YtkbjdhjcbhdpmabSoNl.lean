/- impl.newList, at numbers and at what was seen; impl.copySeen. Of at most 1048576. -/
import Derived.Test.YtkbjdhjcbhdpmabSoSt
import Derived.Test.YtkbjdhjcbhdpmabSnIn
import Derived.Test.YtkbjdhjcbhdpmabApRow
import Derived.Deep.Slices
namespace Go.Proofs.Ytkbjdhjcbhdpmab
open Go.RowKit Go.Deep

theorem run_append_nil0 {P : Program} (w : World) (t ty e : TypeId) (i : TypeInfo) (ht : P.underlying t = some (.slice e)) (hi : P.info? e = some i) (a : Option Addr) (c : Nat) :
    (Builtin.append_ #[t, t] ty #[.slice none 0 0, .slice a 0 c]).run P w = .ok (.slice none 0 0) w := by
  cases a
  · simp [Builtin.append_, run_underlying ht, sizeOf, typeInfo, hi, Builtin.lenOf, Builtin.firstCells]
  · simp [Builtin.append_, run_underlying ht, sizeOf, typeInfo, hi, Builtin.lenOf, Builtin.firstCells, loadCells, loadCellsFrom]
theorem wpList_append_nil0 {P : Program} {w : World} {ops : Array Oper} {rest : List Oper} {o : Oper} {a : Act} {Q : Exit → Act → World → Prop} (hgd : o.guard = none) (s x : Operand) (t : TypeId)
    (ho : o.op = .call { callee := .builtin .append, args := #[s, x], argTypes := #[t, t] }) (e : TypeId) (i : TypeInfo) (ht : P.underlying t = some (.slice e)) (hi : P.info? e = some i)
    (hs : a.eval s = .slice none 0 0) (b : Option Addr) (c : Nat) (hx : a.eval x = .slice b 0 c)
    (h : wpList P ops Q rest (a.put o.dst (.slice none 0 0)) w) : wpList P ops Q (o :: rest) a w := by
  refine wpList_plain hgd fun K hK => ?_
  have hrun := run_append_nil0 (P := P) w t o.type e i ht hi b c
  unfold Oper.wp
  simp [execOp, ho, resolve, invoke, builtin, hs, hx, hrun, Result.andThen]
  exact hK _ _ h

set_option maxHeartbeats 1000000 in
theorem newListI_any (a : Option Addr) (b o c : Nat) (l : List Int) (w : World) (hl : l.length ≤ 1048576) (h : IntS w a b o l) :
    Calls Try.prog 36 #[.slice a l.length c] w fun e w' => ∃ a' g c', e = .returned (.slice a' l.length c') ∧ IntS w' a' g 0 l ∧ w.heap.size ≤ g ∧ l.length ≤ c' ∧ (0 < l.length → ∀ j, w'.frozen? ⟨g, j, none⟩ = false) ∧ Below w.heap.size w w' := by
  obtain ⟨i0, hi, hz0, hz1, hz2⟩ := info_parts Try.infoInt
  rcases Nat.eq_zero_or_pos l.length with h0 | hpos
  · have hl0 : l = [] := List.length_eq_zero_iff.1 h0
    subst hl0
    rw [List.length_nil]
    go_enter Try.func36, Try.ntmps36
    go_wp2_with (at_builtin; refine wpList_append_nil0 rfl (.const (.slice none 0 0)) (.tmp 3) 30 rfl 3 i0 Try.underlying30 hi rfl a c rfl ?_)
    go_wp2_with fail
    go_ret
    exact ⟨none, w.heap.size, 0, rfl, IntS.nil _ _ _ _, Nat.le_refl _, Nat.zero_le _, fun h => absurd h (Nat.lt_irrefl _), Below.refl _ _⟩
  · obtain ⟨rfl⟩ := h.addr hpos
    go_enter Try.func36, Try.ntmps36
    go_wp2_with (at_builtin; refine wpList_append_lies _ rfl (.const (.slice none 0 0)) (.tmp 3) 30 rfl w.heap.size 3 i0 _ 1 8 Try.underlying30 hi hz0 hz1 hz2 rfl (by decide) _ 0 [] rfl (World.ownsRow_nil _ _ _ _) ⟨b, o, none⟩ l.length c (nums l) rfl (by simp [nums]) ?c1 ?c2 hpos (by unfold maxLen; omega) (by omega) (Nat.le_refl _) w.heap.size rfl ?_)
    case c1 =>
      intro j u hj
      have hjl : j < l.length := by
        have := (List.getElem?_eq_some_iff.1 hj).1
        simpa [nums] using this
      rw [Go.WideShapes.add_plain, h.row j hjl]
      simpa [nums, hjl] using hj
    case c2 => intro u hu; simp [nums] at hu; obtain ⟨_, _, rfl⟩ := hu; rfl
    intro g cap w1 hown hg hat hlt
    have hb : Below w.heap.size w w1 := ⟨hg.os, hg.tape, hg.output, hg.size, fun k hk => hg.block k hk (fun e => by simp [Value.ownBlock] at e)⟩
    have hown' : w1.ownsRow w.heap.size 3 1 (.slice (some ⟨g, 0, none⟩) l.length cap) l.length (nums l) := by simpa using hown
    have hcap := own_cap hown'
    have hfr := own_fzS hown'
    obtain ⟨a9, g9, c9, e9, i9, ge9, _⟩ := own_nums hown'
    simp only [Value.slice.injEq] at e9
    obtain ⟨rfl, _, rfl⟩ := e9
    have hgg : g = g9 := by have := i9.addr hpos; simp at this; exact this
    subst hgg
    go_wp2_with fail
    go_ret
    exact ⟨_, g, cap, by first | rfl | simp, i9, ge9, hcap, fun _ => hfr, hb⟩

/-- The ones that lie in a list. -/
theorem KS.sns {w : World} {a : Option Addr} {b o : Nat} {ks : List Key} (h : KS w a b o ks) : ∃ ss : List Sn, kys ss = ks ∧ ∀ i (hi : i < ss.length), w.cell? ⟨b, o + i * 2, none⟩ = some (.slice ss[i].a1 ss[i].l1.length ss[i].c1) ∧ w.cell? ⟨b, o + i * 2 + 1, none⟩ = some (.slice ss[i].a2 ss[i].l2.length ss[i].c2) ∧ ss[i].At w := by
  haveI : Inhabited Sn := ⟨⟨none, 0, 0, 0, [], none, 0, 0, 0, []⟩⟩
  have key : ∀ i, i < ks.length → ∃ s : Sn, s.ky = ks.getD i ([], []) ∧ w.cell? ⟨b, o + i * 2, none⟩ = some (.slice s.a1 s.l1.length s.c1) ∧ w.cell? ⟨b, o + i * 2 + 1, none⟩ = some (.slice s.a2 s.l2.length s.c2) ∧ s.At w := fun i hi => by
    obtain ⟨s, h1, h2, c1, c2, ha⟩ := h.row i hi
    refine ⟨s, ?_, c1, c2, ha⟩
    rw [List.getD_eq_getElem?_getD, List.getElem?_eq_getElem hi]
    exact Prod.ext h1 h2
  obtain ⟨f, hf⟩ := choose_lt (α := Sn) key
  refine ⟨(List.range ks.length).map f, ?_, fun i hi => ?_⟩
  · apply List.ext_getElem
    · simp [kys]
    · intro i h1 h2
      simp only [kys, List.getElem_map, List.getElem_range]
      rw [(hf i h2).1, List.getD_eq_getElem?_getD, List.getElem?_eq_getElem h2]; rfl
  · simp only [List.length_map, List.length_range] at hi
    simp only [List.getElem_map, List.getElem_range]
    exact (hf i hi).2

end Go.Proofs.Ytkbjdhjcbhdpmab
