/- spec's ProgRead. Of whatever text. -/
import Derived.Test.YthgmolelipjdaaaRsHe
import Derived.Test.YthgmolelipjdaaaRdT
import Derived.Test.YthgmolelipjdaaaTxS
import Derived.Test.YthgmolelipjdaaaStepGo
namespace Go.Proofs.Ythgmolelipjdaaa
open Go.RowKit

/-- A thread of no steps more, in a row of its own. -/
theorem Rdg.snocX {w w1 w' : World} {B E : Nat} {v v' : Value} {ll : List (List M.D)} {vs : List Value} (h : Rdg w B v ll vs) (hb : Below w.heap.size w w1) (hE : w.heap.size ≤ E) (hx : w1.ownsRow B 56 3 (.slice (some ⟨E, 0, none⟩) 0 0) 0 [])
    (ho : w'.ownsRow B 49 1 v' (ll.length + 1) (vs ++ [.slice (some ⟨E, 0, none⟩) 0 0])) (hg : w1.grownBy w' v.ownBlock) : Rdg w' B v' (ll ++ [[]]) (vs ++ [.slice (some ⟨E, 0, none⟩) 0 0]) := by
  refine ⟨(h.below hb).b.snoc hx ho hg, fun i j hi hj hne k hk => ?_⟩
  have key : ∀ i (hi : i < vs.length) k, vs[i].ownBlock = some k → k < E := fun i hi k hk => by
    have := (h.b.inner i (by have := h.b.len; omega) hi).lt k hk
    omega
  by_cases h1 : i < vs.length
  · rw [List.getElem_append_left h1] at hk
    by_cases h2 : j < vs.length
    · rw [List.getElem_append_left h2]
      exact h.ap i j h1 h2 hne k hk
    · rw [List.getElem_append_right (by omega)]
      have e0 : j - vs.length = 0 := by simp at hj; omega
      simp only [e0, List.getElem_cons_zero, Value.ownBlock]
      exact fun e => by have := key i h1 k hk; have := Option.some.inj e; omega
  · rw [List.getElem_append_right (by omega)] at hk
    have e0 : i - vs.length = 0 := by simp at hi; omega
    simp only [e0, List.getElem_cons_zero, Value.ownBlock] at hk
    have hj' : j < vs.length := by simp at hi hj; omega
    rw [List.getElem_append_left hj']
    exact fun e => by have := key j hj' k e; have := Option.some.inj hk; omega

theorem step_go1 {P : Program} {ops : Array Oper} {o : Oper} {a : Act} {w : World} {K : Act → World → Prop} {Q : Exit → Act → World → Prop} {E : Prop}
    (hg : o.guard = none) (f : FuncId) (x : Operand) (ts : Array TypeId) (hop : o.op = Op.call { callee := Callee.value (Operand.func f), args := #[x], argTypes := ts })
    (vx : Value) (hx : a.eval x = vx) (he : ∀ args w, (callFunc f args).run P w = .ok (.enter f args) w) {R : Ending → World → Prop} (hc : Calls P f #[vx] w R)
    (hK : ∀ e w', R e w' → ∃ v, e = .returned v ∧ K (a.put o.dst v) w') :
    if Region.wanted o (yielded ops a.tmps) = true then Oper.wp P o a w K Q else E :=
  step_go hg f #[x] ts hop #[vx] (by simp [hx]) he hc hK
theorem l1Split_nl (s : List UInt8) (w : World) (hs : s.length ≤ 400) :
    Calls Try.prog 37 #[.string ⟨s.toArray⟩, .int .u8 10] w fun e w' => ∃ v, e = .returned v ∧ w'.ownsRow w.heap.size 9 1 v (M.split 10 s).length (strs (M.split 10 s)) ∧ Below w.heap.size w w' := l1Split_any s 10 w hs
theorem l1Split_ws (s : List UInt8) (ws : List (List UInt8)) (w : World) (hs : s.length ≤ 400) (hws : M.split 32 s = ws) :
    Calls Try.prog 37 #[.string ⟨s.toArray⟩, .int .u8 32] w fun e w' => ∃ v, e = .returned v ∧ w'.ownsRow w.heap.size 9 1 v ws.length (strs ws) ∧ Below w.heap.size w w' := by
  subst hws
  exact l1Split_any s 32 w hs
theorem ownsRow_of_below {w w' : World} {base : Nat} {e : TypeId} {size : Nat} {v : Value} {n : Nat} {xs : List Value} (h : w.ownsRow base e size v n xs) (hb : Below w.heap.size w w') : w'.ownsRow base e size v n xs := ownsRow_below h hb
theorem l1Hear_agg (g cp : Nat) (ws : List (List UInt8)) (d : M.D) (w : World) (hd : M.hear ws = d) (hw0 : ws ≠ []) (hl : ws.length ≤ 1000) (h : StrS w g ws) :
    Calls Try.prog 38 #[.slice (some ⟨g, 0, none⟩) ws.length cp] w fun e w' => e = .returned (.agg #[.int .i64 d.k, .int .i64 d.p, .int .i64 d.v]) ∧ Below w.heap.size w w' := by
  subst hd
  exact l1Hear_any g cp ws w hw0 hl h
/-- Texts in a row of a call's own. -/
theorem own_strs {w : World} {B : Nat} {v : Value} {l : List (List UInt8)} (h : w.ownsRow B 9 1 v l.length (strs l)) (hne : l ≠ []) : ∃ g c, v = .slice (some ⟨g, 0, none⟩) l.length c ∧ B ≤ g ∧ StrS w g l := by
  rcases h.2 with ⟨_, hn⟩ | ⟨g, cap, cur, hv, hg, hh, r⟩
  · exact absurd (List.length_eq_zero_iff.1 hn) hne
  · refine ⟨g, cap, hv, hg, ⟨fun i x hx => ?_⟩⟩
    have := h.cells (g := g) (by rw [hv]; rfl) i (.string ⟨x.toArray⟩) (by simp [strs, hx])
    rw [Go.WideShapes.add_plain] at this
    simpa using this

/-- The lines of a text, in a row of their own. -/
def Lns (w : World) (B lg lc : Nat) (l : List (List UInt8)) : Prop := w.ownsRow B 9 1 (.slice (some ⟨lg, 0, none⟩) l.length lc) l.length (strs l)
theorem Lns.st {w : World} {B lg lc : Nat} {l : List (List UInt8)} (h : Lns w B lg lc l) : StrS w lg l := ⟨fun i x hx => by
  have := World.ownsRow.cells (g := lg) h rfl i (.string ⟨x.toArray⟩) (by simp [strs, hx])
  rw [Go.WideShapes.add_plain] at this
  simpa using this⟩
theorem Lns.bl {w w' : World} {B lg lc : Nat} {l : List (List UInt8)} (h : Lns w B lg lc l) (hb : Below w.heap.size w w') : Lns w' B lg lc l := ownsRow_below h hb
theorem Lns.far {w : World} {B lg lc b i : Nat} {l : List (List UInt8)} (h : Lns w B lg lc l) (hne : b < B) (u : Value) : Lns (w.setCell ⟨b, i, none⟩ u) B lg lc l := ownsRow_far h hne u
theorem Lns.grown {w w' : World} {B B' lg lc n size : Nat} {e : TypeId} {v : Value} {xs : List Value} {l : List (List UInt8)} (h : Lns w B lg lc l) (hv : w.ownsRow B' e size v n xs) (he : e ≠ 9) (hg : w.grownBy w' v.ownBlock) : Lns w' B lg lc l :=
  World.ownsRow.kept h hg (own_apart h hv (fun e' => he e'.symm))
theorem Lns.set {w : World} {B B' lg lc n size g c i : Nat} {e : TypeId} {xs : List Value} {l : List (List UInt8)} (h : Lns w B lg lc l) (hv : w.ownsRow B' e size (.slice (some ⟨g, 0, none⟩) n c) n xs) (he : e ≠ 9) (u : Value) : Lns (w.setCell ⟨g, i, none⟩ u) B lg lc l := by
  refine ownsRow_setCell_other h (a := ⟨g, i, none⟩) ?_ u
  rcases own_apart h hv (fun e' => he e'.symm) with e1 | e1
  · simp [Value.ownBlock] at e1
  · exact e1

set_option maxHeartbeats 4000000 in
set_option maxRecDepth 10000 in
theorem sprogRead_any (s : List UInt8) (w : World) (hs : s.length ≤ 9223372036854775807) :
    Calls Try.prog 15 #[.string ⟨s.toArray⟩] w fun e w' => ∃ v, e = .returned (.tuple #[.agg #[v], .bool (M.back s).isSome]) ∧ ∃ vs, Rdg w' (w.heap.size + 1) v ((M.back s).getD []) vs ∧ Below w.heap.size w w' := by
  obtain ⟨i0, hi, hz0, hz1, hz2⟩ := info_parts Try.info49
  obtain ⟨i1, ji, jz0, jz1, jz2⟩ := info_parts Try.info56
  by_cases h4 : s.length ≤ 400
  · have n4 : ¬ (400 : Int) < s.length := by omega
    go_enter Try.func15, Try.ntmps15
    go_wp2_with fail
    refine (l1Split_nl s _ h4).mono ?_
    rintro e w1 ⟨lv, rfl, hol, hb1⟩
    simp only [World.size_alloc] at hol
    obtain ⟨lg, lc, rfl, hlg, _⟩ := own_strs hol (M.split_ne _ _)
    have hLn : Lns w1 (w.heap.size + 2) lg lc (M.split 10 s) := hol
    have hll : (M.split 10 s).length ≤ 401 := by have := M.splitAt_len 10 s []; unfold M.split; omega
    have hle : ∀ x ∈ M.split 10 s, x.length ≤ 400 := fun x hx => by have := M.splitAt_each 10 s [] x hx; simp at this; omega
    have hne : M.split 10 s ≠ [] := M.split_ne _ _
    have HSR : Hid (M.sread s = M.slines [] (M.split 10 s)) := rfl
    have hQ1 := ((Slot1.new w (.slice none 0 0) 25).bl (below1 _ (.cells #[.slice none 0 0] 25))).bl hb1
    have hP1 := (Slot1.new (w.alloc (.cells #[.slice none 0 0] 25)) (.slice none 0 0) 25).bl hb1
    simp only [World.size_alloc] at hP1
    have hbw : Below w.heap.size w w1 := (below2 w _ _).trans (hb1.mono (by simp; omega))
    clear hol hb1
    generalize M.split 10 s = lines at *
    have hpos : 0 < lines.length := List.length_pos_iff.2 hne
    go_wp2_with fail
    go_loopw [6] (fun s6 wr => ∃ (i : Nat) (ll : List (List M.D)) (vs : List Value) (v : Value), s6 = .int .i64 i ∧ i + 1 ≤ lines.length ∧ M.sread s = M.slines ll (lines.drop i) ∧ M.lines ll ≤ i ∧ Rdg wr (w.heap.size + 2) v ll vs ∧ Slot1 wr (w.heap.size + 1) v ∧ Slot1 wr w.heap.size (.slice none 0 0) ∧ Lns wr (w.heap.size + 2) lg lc lines ∧ Below w.heap.size w wr) (fun s6 _ => lines.length - (intOf s6).toNat)
    case atStart => exact ⟨0, [], [], .slice none 0 0, rfl, by omega, by simpa using HSR.out, Nat.le_refl _, Rdg.nil _ _, hP1, hQ1, hLn, hbw⟩
    case round =>
      obtain ⟨i, ll, vs, v, rfl, hil, hsr, hln, hR, hP, hQ, hO, hbel⟩ := hrel
      have hS := hO.st
      have HR : Hid (M.sread s = M.slines ll (lines.drop i)) := hsr
      clear hsr hP1 hQ1 hLn hbw HSR
      obtain ⟨a, g, c, rfl, hss⟩ := hR.b.ss
      have p0 := hP.c
      have pf := hP.fz
      have q0 := hQ.c
      have qf := hQ.fz
      have lP := hP.lt
      have lQ := hQ.lt
      have hllen := (M.lines_len ll).1
      by_cases hlt : i + 1 < lines.length
      · have hlt' : (i : Int) + 1 < lines.length := by omega
        have hil' : (i : Int) < lines.length := by omega
        have HX : Hid (lines.drop i = lines[i] :: lines.drop (i + 1)) := (List.getElem_cons_drop (by omega)).symm
        have cl := hS.row i lines[i] (List.getElem?_eq_getElem (by omega))
        have hlc := hle _ (List.getElem_mem (show i < lines.length by omega))
        have HR2 : Hid (M.sread s = match M.sline ll lines[i] with | none => none | some acc' => M.slines acc' (lines.drop (i + 1))) := by
          show _ = _
          rw [HR.out, HX.out, M.slines_step _ _ _ (by intro e; have := congrArg List.length e; simp at this; omega)]
          cases M.sline ll lines[i] <;> rfl
        clear HR HX
        generalize lines[i] = line at *
        by_cases hth : line = [116, 104, 114, 101, 97, 100]
        · as_aux_lemma =>
            subst hth
            have HR3 : Hid (M.sread s = M.slines (ll ++ [[]]) (lines.drop (i + 1))) := HR2.out
            have hown := hR.b.outer
            have hba := below2 wr (.cells #[] 56) (.cells #[.slice (some ⟨wr.heap.size, 0, none⟩) 0 0] 49)
            have hge := own_ge hown
            have hxE : ((wr.alloc (.cells #[] 56)).alloc (.cells #[.slice (some ⟨wr.heap.size, 0, none⟩) 0 0] 49)).ownsRow (w.heap.size + 2) 56 3 (.slice (some ⟨wr.heap.size, 0, none⟩) 0 0) 0 [] := (World.ownsRow_made wr _ 0 (by omega) (Nat.zero_le _) rfl : (wr.alloc (.cells #[] 56)).ownsRow (w.heap.size + 2) 56 3 _ 0 []).alloc _
            go_wp2_with (at_builtin; refine wpList_append_lies _ rfl (.tmp 28) (.tmp 30) 23 rfl (w.heap.size + 2) 49 i0 _ 1 24 Try.underlying23 hi hz0 hz1 hz2 rfl (by decide) _ _ vs rfl (World.ownsRow.alloc (hown.alloc _) _) ⟨wr.heap.size + 1, 0, none⟩ 1 1 [.slice (some ⟨wr.heap.size, 0, none⟩) 0 0] rfl rfl (World.news_of_block (cs := #[.slice (some ⟨wr.heap.size, 0, none⟩) 0 0]) (t := 49) (fr := (0, 0)) (by have := heap_alloc_new (wr.alloc (.cells #[] 56)) (.cells #[.slice (some ⟨wr.heap.size, 0, none⟩) 0 0] 49); simpa using this)) (by simp [Value.oneCell']) (by omega) (by unfold maxLen; omega) (by omega) (by simp; omega) (wr.heap.size + 1 + 1) (by simp) ?_)
            intro g2 cap2 w3 hown3 hg3 hat hlt3
            have hP3 := (hP.bl hba).apart hg3 (fun e => by have := hge _ e; omega)
            have hQ3 := (hQ.bl hba).apart hg3 (fun e => by have := hge _ e; omega)
            have hR3 := hR.snocX hba (Nat.le_refl _) hxE hown3 hg3
            have hb3 : Below w.heap.size w w3 := below_grown (hbel.trans (hba.mono hbel.size)) hg3 (fun k hk => by have := hge k hk; omega) (by have := hbel.size; simp; omega)
            have hO3 := (hO.bl hba).grown (ownsRow_below hown hba) (by decide) hg3
            clear hP hQ hR hown hown3 hg3 hat p0 q0 pf qf hss hba hS hO cl hxE
            have p0 := hP3.c
            have pf := hP3.fz
            go_wp2_with fail
            have hP4 := hP3.set (.slice (some ⟨g2, 0, none⟩) (ll.length + 1) cap2)
            exact ⟨⟨i + 1, ll ++ [[]], _, _, by go_num, by omega, HR3.out, by rw [M.lines_app]; simp [M.lines] at hln ⊢; omega, hR3.far (by omega) _, hP4, hQ3.far (by omega) _, hO3.far (by omega) _, hb3.setCell (by show w.heap.size ≤ w.heap.size + 1; omega) _⟩, by simp [intOf]; omega⟩
        · have hth' : (line == [116, 104, 114, 101, 97, 100]) = false := by simpa using hth
          by_cases hll0 : ll = []
          · as_aux_lemma =>
              subst hll0
              have hno : M.back s = none := M.sread_none (by rw [HR2.out]; simp [M.sline, hth])
              clear HR2
              go_wp2_with fail
              have q4 := (hQ.set (.slice none 0 0)).c
              exact bodyPost_ret (v := .tuple #[.agg #[.slice none 0 0], .bool false]) (by simp [results, Try.results15, go_sem, q4]) rfl ⟨_, by rw [hno]; rfl, [], by rw [hno]; exact Rdg.nil _ _, hbel.setCell (Nat.le_refl _) _⟩
          · have hne2 : ll.isEmpty = false := by cases ll with | nil => exact absurd rfl hll0 | cons x l => rfl
            have HR3 : Hid (M.sread s = M.slines (M.addLast ll (M.hear (M.split 32 line))) (lines.drop (i + 1))) := by
              show _ = _
              rw [HR2.out]; simp only [M.sline, hth, if_false, hne2]; rfl
            clear HR2
            have hpos2 : 0 < ll.length := List.length_pos_iff.2 hll0
            obtain ⟨L, t0, rfl⟩ : ∃ L t0, ll = L ++ [t0] := ⟨ll.dropLast, ll.getLast hll0, (List.dropLast_concat_getLast hll0).symm⟩
            obtain ⟨us, x, rfl⟩ : ∃ us x, vs = us ++ [x] := by
              have hvl : vs ≠ [] := fun e => by have := hR.b.len; rw [e] at this; simp at this
              exact ⟨vs.dropLast, vs.getLast hvl, (List.dropLast_concat_getLast hvl).symm⟩
            have hul : us.length = L.length := by have := hR.b.len; simp at this; exact this
            obtain ⟨rfl⟩ := hss.addr hpos2
            have hlen : L.length ≤ 401 := by have := (M.lines_len (L ++ [t0])).1; simp at this; omega
            have hlen0 : t0.length ≤ 401 := by have := (M.lines_len (L ++ [t0])).2 t0 (by simp); omega
            have e1 : (L ++ [t0]).length = L.length + 1 := by simp
            have e1z : ((L.length : Int) + 1 == 0) = false := by rw [beq_eq_false_iff_ne]; omega
            rw [e1] at p0
            have hspl : (M.split 32 line).length ≤ 1000 := by have := M.splitAt_len 32 line []; unfold M.split; omega
            have hspn : M.split 32 line ≠ [] := M.split_ne _ _
            generalize hdd : M.hear (M.split 32 line) = d at *
            obtain ⟨ws, hws⟩ : ∃ ws, M.split 32 line = ws := ⟨_, rfl⟩
            rw [hws] at hdd hspl hspn
            have hxr : wr.ownsRow (w.heap.size + 2) 56 3 x t0.length (flat t0) := by
              have := hR.b.inner L.length (by simp) (by simp; omega)
              have e2 : (L ++ [t0])[L.length]'(by simp) = t0 := by simp
              have e3 : (us ++ [x])[L.length]'(by simp; omega) = x := by rw [List.getElem_append_right (by omega)]; simp [hul]
              rw [e2, e3] at this
              exact this
            obtain ⟨xa, xg, xc, rfl, -, -⟩ := own_steps hxr
            have hout := hR.b.outer
            have xcell : wr.cell? ⟨g, L.length, none⟩ = some (.slice xa t0.length xc) := by
              have := hout.cells (g := g) rfl L.length (.slice xa t0.length xc) (by rw [List.getElem?_append_right (by omega)]; simp [hul])
              rw [Go.WideShapes.add_plain] at this
              simpa using this
            have xfz : wr.frozen? ⟨g, L.length, none⟩ = false := own_fzS hout _
            have glt : g < wr.heap.size := World.block_lt_of_cell? _ _ xcell
            have hgge : w.heap.size + 2 ≤ g := own_ge hout g rfl
            have hxge := own_ge hxr
            have hxg : (Value.slice xa t0.length xc).ownBlock ≠ some g := by
              rcases own_apart hxr hout (by decide) with e | e
              · rw [e]; simp
              · exact e
            have hPx : (Value.slice xa t0.length xc).ownBlock ≠ some (w.heap.size + 1) := fun e => by have := hxge _ e; omega
            have hLi : (L.length : Int) < L.length + 1 := by omega
            have wL : IntKind.i64.wrap (L.length : Int) = L.length := IntWalk.i64_in _ (by omega)
            have wL2 : wrap64 (L.length : Int) = L.length := by unfold wrap64; omega
            have he37 : ∀ args w, (callFunc 37 args).run Try.prog w = .ok (.enter 37 args) w := enters_of Try.func37 (by kernel_rfl) rfl
            have he38 : ∀ args w, (callFunc 38 args).run Try.prog w = .ok (.enter 38 args) w := enters_of Try.func38 (by kernel_rfl) rfl
            have fin : ∀ (w2 : World) (hb2 : Below wr.heap.size wr w2) (g7 cap7 : Nat) (w7 : World), w7.ownsRow (w.heap.size + 2) 56 3 (.slice (some ⟨g7, 0, none⟩) (t0.length + 1) cap7) (t0.length + 1) (flat t0 ++ [.int .i64 d.k, .int .i64 d.p, .int .i64 d.v]) → (w2.alloc (.cells #[.int .i64 d.k, .int .i64 d.p, .int .i64 d.v] 56)).grownBy w7 (Value.slice xa t0.length xc).ownBlock → ((Value.slice xa t0.length xc).ownBlock = some g7 ∨ g7 = w2.heap.size + 1) →
                ∃ (i' : Nat) (ll : List (List M.D)) (vs : List Value) (v : Value), Value.int .i64 ((i : Int) + 1) = .int .i64 i' ∧ i' + 1 ≤ lines.length ∧ M.sread s = M.slines ll (lines.drop i') ∧ M.lines ll ≤ i' ∧ Rdg (w7.setCell ⟨g, L.length, none⟩ (.slice (some ⟨g7, 0, none⟩) (t0.length + 1) cap7)) (w.heap.size + 2) v ll vs ∧ Slot1 (w7.setCell ⟨g, L.length, none⟩ (.slice (some ⟨g7, 0, none⟩) (t0.length + 1) cap7)) (w.heap.size + 1) v ∧ Slot1 (w7.setCell ⟨g, L.length, none⟩ (.slice (some ⟨g7, 0, none⟩) (t0.length + 1) cap7)) w.heap.size (.slice none 0 0) ∧ Lns (w7.setCell ⟨g, L.length, none⟩ (.slice (some ⟨g7, 0, none⟩) (t0.length + 1) cap7)) (w.heap.size + 2) lg lc lines ∧ Below w.heap.size w (w7.setCell ⟨g, L.length, none⟩ (.slice (some ⟨g7, 0, none⟩) (t0.length + 1) cap7)) := by
              intro w2 hb2 g7 cap7 w7 hown7 hg7 hat7
              have hal : Below wr.heap.size wr (w2.alloc (.cells #[.int .i64 d.k, .int .i64 d.p, .int .i64 d.v] 56)) := hb2.alloc hb2.size _
              have hown7' : w7.ownsRow (w.heap.size + 2) 56 3 (.slice (some ⟨g7, 0, none⟩) (t0 ++ [d]).length cap7) (t0 ++ [d]).length (flat (t0 ++ [d])) := by
                rw [flat_append, List.length_append]; exact hown7
              have hRn := hR.add hal hg7 hown7' (by simpa using hat7)
              have e5 : (t0 ++ [d]).length = t0.length + 1 := by simp
              rw [e5] at hRn
              have hout7 := (ownsRow_below hout hal).kept hg7 (own_apart (ownsRow_below hout hal) (ownsRow_below hxr hal) (by decide))
              have hPn := ((hP.bl hal).apart hg7 hPx).far (b' := g) (i := L.length) (by omega) (.slice (some ⟨g7, 0, none⟩) (t0.length + 1) cap7)
              have hQn := ((hQ.bl hal).apart hg7 (fun e => by have := hxge _ e; omega)).far (b' := g) (i := L.length) (by omega) (.slice (some ⟨g7, 0, none⟩) (t0.length + 1) cap7)
              have hOn := ((hO.bl hal).grown (ownsRow_below hxr hal) (by decide) hg7).set (i := L.length) hout7 (by decide) (.slice (some ⟨g7, 0, none⟩) (t0.length + 1) cap7)
              have hbn : Below w.heap.size w (w7.setCell ⟨g, L.length, none⟩ (.slice (some ⟨g7, 0, none⟩) (t0.length + 1) cap7)) := (below_grown (hbel.trans (hal.mono hbel.size)) hg7 (fun k hk => by have := hxge k hk; omega) (by have := hbel.size; have := hal.size; omega)).setCell (by show w.heap.size ≤ g; omega) _
              refine ⟨i + 1, L ++ [t0 ++ [d]], _, _, by go_num, by omega, ?_, ?_, hRn, hPn, hQn, hOn, hbn⟩
              · rw [HR3.out, M.addLast_app]
              · rw [M.lines_app] at hln ⊢
                simp [M.lines] at hln ⊢
                omega
            clear hR hQ hss hO hS hle q0 qf hne hpos hll0 hpos2
            go_wp2_with fail
            go_region_law (first
              | (refine step_go2 (by rfl) 37 (.tmp 52) (.const (.int .u8 32)) _ (by rfl) (.string ⟨line.toArray⟩) (.int .u8 32) (by rfl) (by rfl) he37 (l1Split_ws line ws _ hlc hws) ?_; rintro e w1 ⟨sv, rfl, hos, hb1⟩; obtain ⟨sg, sc, rfl, hsg, hSw⟩ := own_strs hos hspn; (have hb1' : Below wr.heap.size wr w1 := (Below.refl _ wr).drew.trans hb1); have p1 := (hb1'.cell (p := ⟨w.heap.size + 1, 0, none⟩) lP).trans p0; have x1 := (hb1'.cell (p := ⟨g, L.length, none⟩) glt).trans xcell; refine ⟨_, rfl, ?_⟩)
              | (refine step_go1 (by rfl) 38 (.tmp 53) _ (by rfl) (.slice (some ⟨sg, 0, none⟩) ws.length sc) (by rfl) he38 (l1Hear_agg sg sc ws d _ hdd hspn hspl hSw) ?_; rintro e w2 ⟨rfl, hb2⟩; (have hb2' : Below wr.heap.size wr w2 := hb1'.trans (hb2.mono hb1'.size)); have p2 := (hb2'.cell (p := ⟨w.heap.size + 1, 0, none⟩) lP).trans p0; have x2 := (hb2'.cell (p := ⟨g, L.length, none⟩) glt).trans xcell; have hxr2 := ownsRow_of_below hxr hb2'; have hal2 := below1 w2 (.cells #[.int .i64 d.k, .int .i64 d.p, .int .i64 d.v] 56); (have lP2 : w.heap.size + 1 < w2.heap.size := Nat.lt_of_lt_of_le lP hb2'.size); (have gl2 : g < w2.heap.size := Nat.lt_of_lt_of_le glt hb2'.size); (have sz2 : w.heap.size + 2 ≤ w2.heap.size := by omega); refine ⟨_, rfl, ?_⟩)
              | (refine step_append_lies _ (by rfl) (.tmp 48) (.tmp 55) 49 (by rfl) (w.heap.size + 2) 56 i1 _ 3 24 Try.underlying49 ji jz0 jz1 jz2 rfl (by omega) (.slice xa t0.length xc) t0.length (flat t0) (by rfl) (hxr2.alloc _) ⟨w2.heap.size, 0, none⟩ 1 1 [.int .i64 d.k, .int .i64 d.p, .int .i64 d.v] (by rfl) (by rfl) (World.news_of_block (cs := #[.int .i64 d.k, .int .i64 d.p, .int .i64 d.v]) (t := 56) (fr := (0, 0)) (heap_alloc_new w2 _)) (by simp [Value.oneCell']) (by omega) (by unfold maxLen; omega) (by omega) (by (try simp); omega) (w2.heap.size + 1) (by simp) ?_; intro g7 cap7 w7 hown7 hgd hat7 hlt7; (have hg7 : (w2.alloc (.cells #[.int .i64 d.k, .int .i64 d.p, .int .i64 d.v] 56)).grownBy w7 (Value.slice xa t0.length xc).ownBlock := ⟨hgd.os, hgd.tape, hgd.output, hgd.size, hgd.block⟩); have p7 := (hg7.cell_far ⟨w.heap.size + 1, 0, none⟩ (Nat.lt_of_lt_of_le lP2 hal2.size) (fun e => hPx e.symm)).trans ((hal2.cell (p := ⟨w.heap.size + 1, 0, none⟩) lP2).trans p2); have x7 := (hg7.cell_far ⟨g, L.length, none⟩ (Nat.lt_of_lt_of_le gl2 hal2.size) (fun e => hxg e.symm)).trans ((hal2.cell (p := ⟨g, L.length, none⟩) gl2).trans x2); have f7 := (World.frozen?_of_block (a := ⟨g, L.length, none⟩) (hg7.block g (Nat.lt_of_lt_of_le gl2 hal2.size) (fun e => hxg e.symm))).trans ((hal2.frozen (p := ⟨g, L.length, none⟩) gl2).trans ((hb2'.frozen (p := ⟨g, L.length, none⟩) glt).trans xfz))))
            all_goals (as_aux_lemma =>
              go_wp2_with fail
              exact ⟨fin _ hb2' _ _ _ hown7 hg7 hat7, by simp [intOf]; omega⟩)
      · as_aux_lemma =>
          have hlt' : ¬ ((i : Int) + 1 < lines.length) := by omega
          have hsr : M.sread s = some ll := by
            rw [HR.out]
            have e : lines.drop i = [lines[i]] := by
              rw [← List.getElem_cons_drop (show i < lines.length by omega), List.drop_eq_nil_of_le (by omega)]
            rw [e]
            rfl
          have hl1 : ll.length ≤ 1048576 := by omega
          have hl2 : ∀ t ∈ ll, t.length ≤ 1048576 := fun t ht => by have := (M.lines_len ll).2 t ht; omega
          clear HR
          go_wp2_with fail
          refine (sprogText_any a g 0 c ll wr hl1 hl2 hss).mono ?_
          rintro e W4 ⟨rfl, b4⟩
          have hR4 := hR.below b4
          have hQ4 := hQ.bl b4
          have hP4 := hP.bl b4
          have hbw4 := hbel.trans (b4.mono hbel.size)
          clear p0 pf q0 qf lP lQ hss hR hQ hP hbel hS hO b4
          have q4 := hQ4.c
          have qf4 := hQ4.fz
          have x4 := hP4.c
          by_cases ht : M.text ll = s
          · as_aux_lemma =>
              have hyes : M.back s = some ll := M.sread_yes hsr ht
              have hto : (M.text ll == s) = true := by simpa using ht
              clear hsr
              go_wp2_with fail
              have q5 := (hQ4.set (.slice a ll.length c)).c
              exact bodyPost_ret (v := .tuple #[.agg #[.slice a ll.length c], .bool true]) (by simp [results, Try.results15, go_sem, q5]) rfl ⟨_, by rw [hyes]; rfl, vs, by rw [hyes]; exact (hR4.mono (by omega)).far (by omega) _, hbw4.setCell (Nat.le_refl _) _⟩
          · as_aux_lemma =>
              have hno : M.back s = none := M.sread_not hsr ht
              have hto : (M.text ll == s) = false := by simpa using ht
              clear hsr
              go_wp2_with fail
              have q5 := (hQ4.set (.slice none 0 0)).c
              exact bodyPost_ret (v := .tuple #[.agg #[.slice none 0 0], .bool false]) (by simp [results, Try.results15, go_sem, q5]) rfl ⟨_, by rw [hno]; rfl, [], by rw [hno]; exact Rdg.nil _ _, hbw4.setCell (Nat.le_refl _) _⟩
  · have n4 : (400 : Int) < s.length := by omega
    have hno : M.back s = none := by unfold M.back; rw [if_neg h4]
    go_enter Try.func15, Try.ntmps15
    go_wp2_with fail
    exact bodyPost_ret (v := .tuple #[.agg #[.slice none 0 0], .bool false]) (by simp [results, Try.results15, go_sem]) rfl ⟨_, by rw [hno]; rfl, [], by rw [hno]; exact Rdg.nil _ _, below1 w _⟩

end Go.Proofs.Ythgmolelipjdaaa
