/- impl's readThreads. Of texts of at most 400 bytes. -/
import Derived.Test.YthgmolelipjdaaaRdS
import Derived.Test.YthgmolelipjdaaaRdM
import Derived.Test.YthgmolelipjdaaaRowMore
import Derived.Deep.AppendLies
import Derived.Deep.RegionHeld3
namespace Go.Proofs.Ythgmolelipjdaaa
open Go.RowKit

theorem M.cut_lt (s : List UInt8) (c : UInt8) (h : s ≠ []) : (Lib.cut s [c]).2.1.length < s.length := by
  have hl : 0 < s.length := List.length_pos_iff.2 h
  unfold Lib.cut
  split
  · simp only [List.length_drop, List.length_cons, List.length_nil]
    omega
  · simpa using hl
/-- How long a text is. -/
def textLen : Value → Nat
  | .string b => b.size
  | _ => 0
theorem textLen_of (s : List UInt8) : textLen (.string ⟨s.toArray⟩) = s.length := by simp [textLen, ByteArray.size]
theorem M.lines_app (ll mm : List (List M.D)) : M.lines (ll ++ mm) = M.lines ll + M.lines mm := by simp [M.lines]
theorem M.lines_len (ll : List (List M.D)) : ll.length ≤ M.lines ll ∧ ∀ t ∈ ll, t.length ≤ M.lines ll := by
  induction ll with
  | nil => simp
  | cons t ll ih =>
    have e : M.lines (t :: ll) = t.length + 1 + M.lines ll := by simp [M.lines]
    rw [e]
    refine ⟨by simp only [List.length_cons]; omega, fun x hx => ?_⟩
    rcases List.mem_cons.1 hx with rfl | hx
    · omega
    · have := ih.2 x hx; omega

theorem Slot1.bl {w w' : World} {b : Nat} {x : Value} (h : Slot1 w b x) (hb : Below w.heap.size w w') : Slot1 w' b x :=
  ⟨(hb.cell (p := ⟨b, 0, none⟩) h.lt).trans h.c, (hb.frozen (p := ⟨b, 0, none⟩) h.lt).trans h.fz⟩

set_option maxHeartbeats 1000000 in
set_option maxRecDepth 10000 in
theorem readThreads_any (s0 : List UInt8) (w : World) (hs0 : s0.length ≤ 400) (hm : HasMax w) :
    Calls Try.prog 32 #[.string ⟨s0.toArray⟩] w fun e w' => ∃ v, e = .returned (.tuple #[.agg #[v], .bool (M.rdText s0).isSome]) ∧ ∃ vs, Rdg w' (w.heap.size + 1) v ((M.rdText s0).getD []) vs ∧ M.lines ((M.rdText s0).getD []) ≤ 400 ∧ Below w.heap.size w w' := by
  obtain ⟨i0, hi, hz0, hz1, hz2⟩ := info_parts Try.info49
  obtain ⟨i1, ji, jz0, jz1, jz2⟩ := info_parts Try.info56
  go_enter Try.func32, Try.ntmps32
  go_wp2_with fail
  go_loopw [0] (fun s wr => ∃ (t : List UInt8) (f : Nat) (ll : List (List M.D)) (vs : List Value) (v : Value), s = .string ⟨t.toArray⟩ ∧ M.rdText s0 = M.rdAll (f + 1) ll t ∧ t.length ≤ f ∧ M.lines ll + t.length ≤ 400 ∧ Rdg wr (w.heap.size + 2) v ll vs ∧ Slot1 wr (w.heap.size + 1) v ∧ Slot1 wr w.heap.size (.slice none 0 0) ∧ Below w.heap.size w wr) (fun s _ => textLen s)
  case atStart =>
    refine ⟨s0, s0.length, [], [], .slice none 0 0, rfl, rfl, Nat.le_refl _, by simpa [M.lines] using hs0, Rdg.nil _ _, ?_, ?_, below2 _ _ _⟩
    · exact ⟨by simp, by simp⟩
    · exact ⟨by simp, by simp⟩
  case round =>
    obtain ⟨t, f, ll, vs, v, rfl, hrd, hf, hln, hR, hP, hQ, hbel⟩ := hrel
    have HR : Hid (M.rdText s0 = M.rdAll (f + 1) ll t) := hrd
    clear hrd
    obtain ⟨a, g, c, rfl, hss⟩ := hR.b.ss
    have p0 := hP.c
    have pf := hP.fz
    have q0 := hQ.c
    have qf := hQ.fz
    have lP := hP.lt
    have lQ := hQ.lt
    have hne : w.heap.size ≠ w.heap.size + 1 := by omega
    by_cases ht : t = []
    · subst ht
      have hsome : M.rdText s0 = some ll := by rw [HR.out]; simp [M.rdAll]
      go_wp2_with fail
      have q1 := (hQ.set (.slice a ll.length c)).c
      exact bodyPost_ret (v := .tuple #[.agg #[.slice a ll.length c], .bool true]) (by simp [results, Try.results32, go_sem, q1]) rfl ⟨_, by rw [hsome]; rfl, vs, by rw [hsome]; exact (hR.far (by omega) _).mono (by omega), by rw [hsome]; simp at hln ⊢; omega, hbel.setCell (Nat.le_refl _) _⟩
    · have hmr := hm.below hbel (Nat.le_refl _)
      have hcl := M.cut_le t 10
      have hct := M.cut_lt t 10 ht
      have C1 := cut_any t 10 wr (by omega) hmr
      have hte : t.isEmpty = false := by cases t with | nil => exact absurd rfl ht | cons x l => rfl
      have HR2 : Hid (M.rdText s0 = match M.rdLine ll (Lib.cut t [10]).1 with | none => none | some acc' => M.rdAll f acc' (Lib.cut t [10]).2.1) := by
        show _ = _
        rw [HR.out]
        simp only [M.rdAll, hte]
        rfl
      have ht2 : (t == []) = false := by simpa using ht
      clear HR
      generalize Lib.cut t [10] = cc at *
      obtain ⟨line, rest, found⟩ := cc
      simp only at hcl hct HR2 C1
      obtain ⟨f', rfl⟩ : ∃ f', f = f' + 1 := ⟨f - 1, by omega⟩
      by_cases hth : line = [116, 104, 114, 101, 97, 100]
      · subst hth
        have HR3 : Hid (M.rdText s0 = M.rdAll (f' + 1) (ll ++ [[]]) rest) := HR2.out
        have hlen : ll.length ≤ 400 := by have := (M.lines_len ll).1; omega
        have hbd : ∀ q : Nat, Below wr.heap.size wr (wr.drewN q) := fun q => belDrew (Below.refl _ _) q
        have hown := hR.b.outer
        go_wp2_with (first | (go_at_call 55; refine C1.mono ?_; rintro e w1 ⟨rfl, q, rfl⟩) | (at_builtin; refine wpList_append_lies _ rfl (.tmp 23) (.tmp 24) 23 rfl (w.heap.size + 2) 49 i0 _ 1 24 Try.underlying23 hi hz0 hz1 hz2 rfl (by decide) _ _ vs rfl (World.ownsRow.alloc (ownsRow_below hown (hbd q)) _) ⟨wr.heap.size, 0, none⟩ 1 1 [.slice none 0 0] rfl rfl (World.news_of_block (cs := #[.slice none 0 0]) (t := 49) (fr := (0, 0)) (heap_alloc_new (wr.drewN q) _)) (by simp [Value.oneCell']) (by omega) (by unfold maxLen; omega) (by omega) (by simp; omega) (wr.heap.size + 1) (by simp) ?_))
        intro g2 cap2 w3 hown3 hg3 hat hlt3
        have hge := own_ge hown
        have hba : Below wr.heap.size wr ((wr.drewN q).alloc (.cells #[.slice none 0 0] 49)) := (hbd q).alloc (Nat.le_refl _) _
        have hP3 := (hP.bl hba).apart hg3 (fun e => by have := hge _ e; omega)
        have hQ3 := (hQ.bl hba).apart hg3 (fun e => by have := hge _ e; omega)
        have hR3 := (hR.below hba).snoc hown3 hg3
        have hb3 : Below w.heap.size w w3 := below_grown (hbel.trans (hba.mono hbel.size)) hg3 (fun k hk => by have := hge k hk; omega) (by simp; omega)
        clear hP hQ hR hown hown3 hg3 hat p0 q0 pf qf hss hba hbd
        have p0 := hP3.c
        have pf := hP3.fz
        go_wp2_with fail
        have hP4 := hP3.set (.slice (some ⟨g2, 0, none⟩) (ll.length + 1) cap2)
        exact ⟨⟨rest, f', ll ++ [[]], _, _, rfl, HR3.out, by omega, by rw [M.lines_app]; simp [M.lines] at hln ⊢; omega, hR3.far (by omega) _, hP4, hQ3.far (by omega) _, hb3.setCell (by show w.heap.size ≤ w.heap.size + 1; omega) _⟩, by rw [textLen_of, textLen_of]; omega⟩
      · have hth' : (line == [116, 104, 114, 101, 97, 100]) = false := by simpa using hth
        have C2 := fun q => readStep_any line (wr.drewN q) (by omega) (hmr.below (belDrew (Below.refl wr.heap.size wr) q) (Nat.le_refl _))
        have hbd : ∀ q : Nat, Below wr.heap.size wr (wr.drewN q) := fun q => belDrew (Below.refl _ _) q
        cases hst : M.rdStep line with
        | none =>
          have hnone : M.rdText s0 = none := by rw [HR2.out]; simp only [M.rdLine, hth, if_false, hst]
          rw [hst] at C2
          simp only [Option.getD_none, M.D.val, M.d0, Option.isSome_none] at C2
          clear HR2
          go_wp2_with (first | (go_at_call 55; refine C1.mono ?_; rintro e w1 ⟨rfl, q, rfl⟩) | (go_at_call 56; refine (C2 _).mono ?_; rintro e w2 ⟨rfl, hb2⟩; have hP2 := (hP.bl (hbd q)).bl hb2; have hQ2 := (hQ.bl (hbd q)).bl hb2; have p2 := hP2.c; have q2 := hQ2.c; have qf2 := hQ2.fz; have lP2 := hP2.lt; have lQ2 := hQ2.lt))
          have hbw2 : Below w.heap.size w w2 := hbel.trans (((hbd q).trans (hb2.mono (by simp))).mono hbel.size)
          have hQ4 := (hQ2.set (.slice none 0 0)).bl (below1 _ (.cells #[.int .i64 0, .int .i64 0, .int .i64 0] 56))
          have q4 := hQ4.c
          exact bodyPost_ret (v := .tuple #[.agg #[.slice none 0 0], .bool false]) (by simp [results, Try.results32, go_sem, q4]) rfl ⟨_, by rw [hnone]; rfl, [], by rw [hnone]; exact Rdg.nil _ _, by rw [hnone]; simp [M.lines], (hbw2.setCell (Nat.le_refl _) _).alloc (by have := hbw2.size; simp; omega) _⟩
        | some d =>
          rw [hst] at C2
          simp only [Option.getD_some, M.D.val, Option.isSome_some] at C2
          by_cases hll : ll = []
          · subst hll
            have hnone : M.rdText s0 = none := by rw [HR2.out]; simp only [M.rdLine, hth, if_false, hst]; rfl
            clear HR2
            have hw1 : wrap64 (-1) = -1 := by unfold wrap64; omega
            go_wp2_with (first | (go_at_call 55; refine C1.mono ?_; rintro e w1 ⟨rfl, q, rfl⟩) | (go_at_call 56; refine (C2 _).mono ?_; rintro e w2 ⟨rfl, hb2⟩; have hP2 := (hP.bl (hbd q)).bl hb2; have hQ2 := (hQ.bl (hbd q)).bl hb2; have p2 := hP2.c; have q2 := hQ2.c; have qf2 := hQ2.fz; have lP2 := hP2.lt; have lQ2 := hQ2.lt))
            have hbw2 : Below w.heap.size w w2 := hbel.trans (((hbd q).trans (hb2.mono (by simp))).mono hbel.size)
            have hQ4 := (hQ2.set (.slice none 0 0)).bl (below1 _ (.cells #[.int .i64 d.k, .int .i64 d.p, .int .i64 d.v] 56))
            have q4 := hQ4.c
            exact bodyPost_ret (v := .tuple #[.agg #[.slice none 0 0], .bool false]) (by simp [results, Try.results32, go_sem, q4]) rfl ⟨_, by rw [hnone]; rfl, [], by rw [hnone]; exact Rdg.nil _ _, by rw [hnone]; simp [M.lines], (hbw2.setCell (Nat.le_refl _) _).alloc (by have := hbw2.size; simp; omega) _⟩

          · have hne2 : ll.isEmpty = false := by cases ll with | nil => exact absurd rfl hll | cons x l => rfl
            have HR3 : Hid (M.rdText s0 = M.rdAll (f' + 1) (M.addLast ll d) rest) := by
              show _ = _
              rw [HR2.out]; simp only [M.rdLine, hth, if_false, hst, hne2]; rfl
            clear HR2
            have hpos : 0 < ll.length := List.length_pos_iff.2 hll
            obtain ⟨L, t0, rfl⟩ : ∃ L t0, ll = L ++ [t0] := ⟨ll.dropLast, ll.getLast hll, (List.dropLast_concat_getLast hll).symm⟩
            obtain ⟨us, x, rfl⟩ : ∃ us x, vs = us ++ [x] := by
              have hvl : vs ≠ [] := fun e => by have := hR.b.len; rw [e] at this; simp at this
              exact ⟨vs.dropLast, vs.getLast hvl, (List.dropLast_concat_getLast hvl).symm⟩
            have hul : us.length = L.length := by have := hR.b.len; simp at this; exact this
            obtain ⟨rfl⟩ := hss.addr hpos
            have hlen : L.length ≤ 400 := by have := (M.lines_len (L ++ [t0])).1; simp at this; omega
            have hlen0 : t0.length ≤ 400 := by have := (M.lines_len (L ++ [t0])).2 t0 (by simp); omega
            have hwl : wrap64 (((L ++ [t0]).length : Int) - 1) = L.length := by simp only [List.length_append, List.length_cons, List.length_nil]; unfold wrap64; omega
            go_wp2_with (first | (go_at_call 55; refine C1.mono ?_; rintro e w1 ⟨rfl, q, rfl⟩) | (go_at_call 56; refine (C2 _).mono ?_; rintro e w2 ⟨rfl, hb2⟩; have hP2 := (hP.bl (hbd q)).bl hb2; have hQ2 := (hQ.bl (hbd q)).bl hb2; have p2 := hP2.c; have q2 := hQ2.c; have qf2 := hQ2.fz; have lP2 := hP2.lt; have lQ2 := hQ2.lt))
            have hb4 : Below wr.heap.size wr (w2.alloc (.cells #[.int .i64 d.k, .int .i64 d.p, .int .i64 d.v] 56)) := ((hbd q).trans (hb2.mono (by simp))).alloc (by have := hb2.size; simp at this; omega) _
            have hR4 := hR.below hb4
            have hP4 := hP.bl hb4
            have hQ4 := hQ.bl hb4
            have d0 : (w2.alloc (.cells #[.int .i64 d.k, .int .i64 d.p, .int .i64 d.v] 56)).cell? ⟨w2.heap.size, 0, none⟩ = some (.int .i64 d.k) := by simp
            have d1 : (w2.alloc (.cells #[.int .i64 d.k, .int .i64 d.p, .int .i64 d.v] 56)).cell? ⟨w2.heap.size, 1, none⟩ = some (.int .i64 d.p) := by simp
            have d2 : (w2.alloc (.cells #[.int .i64 d.k, .int .i64 d.p, .int .i64 d.v] 56)).cell? ⟨w2.heap.size, 2, none⟩ = some (.int .i64 d.v) := by simp
            have hbw4 : Below w.heap.size w (w2.alloc (.cells #[.int .i64 d.k, .int .i64 d.p, .int .i64 d.v] 56)) := hbel.trans (hb4.mono hbel.size)
            have hw2lt : w.heap.size + 1 < w2.heap.size := lP2
            clear C1 C2 p0 pf q0 qf p2 q2 qf2 hP2 hQ2 hP hQ hR hb2 hbd hb4 hss lP lQ lP2 lQ2 hmr hbel
            generalize w2.alloc (.cells #[.int .i64 d.k, .int .i64 d.p, .int .i64 d.v] 56) = W4 at *
            generalize w2.heap.size = E at *
            have dlt : E < W4.heap.size := World.block_lt_of_cell? _ _ d0
            have hxr : W4.ownsRow (w.heap.size + 2) 56 3 x t0.length (flat t0) := by
              have := hR4.b.inner L.length (by simp) (by simp; omega)
              have e1 : (L ++ [t0])[L.length]'(by simp) = t0 := by simp
              have e2 : (us ++ [x])[L.length]'(by simp; omega) = x := by rw [List.getElem_append_right (by omega)]; simp [hul]
              rw [e1, e2] at this
              exact this
            obtain ⟨xa, xg, xc, rfl, -, -⟩ := own_steps hxr
            have hout := hR4.b.outer
            have e1 : (L ++ [t0]).length = L.length + 1 := by simp
            have xcell : W4.cell? ⟨g, L.length, none⟩ = some (.slice xa t0.length xc) := by
              have := hout.cells (g := g) rfl L.length (.slice xa t0.length xc) (by rw [List.getElem?_append_right (by omega)]; simp [hul])
              rw [Go.WideShapes.add_plain] at this
              simpa using this
            have xfz : W4.frozen? ⟨g, L.length, none⟩ = false := own_fzS hout _
            have glt : g < W4.heap.size := World.block_lt_of_cell? _ _ xcell
            have hgge : w.heap.size + 2 ≤ g := own_ge hout g rfl
            have hxge := own_ge hxr
            have hxg : (Value.slice xa t0.length xc).ownBlock ≠ some g := by
              rcases own_apart hxr hout (by decide) with e | e
              · rw [e]; simp
              · exact e
            have p0 := hP4.c
            rw [e1] at p0
            have lP4 := hP4.lt
            have hal := below1 W4 (.cells #[.int .i64 d.k, .int .i64 d.p, .int .i64 d.v] 56)
            have hPx : (Value.slice xa t0.length xc).ownBlock ≠ some (w.heap.size + 1) := fun e => by have := hxge _ e; omega
            have hLi : (L.length : Int) < L.length + 1 := by omega
            have fin : ∀ (g7 cap7 : Nat) (w7 : World), w7.ownsRow (w.heap.size + 2) 56 3 (.slice (some ⟨g7, 0, none⟩) (t0.length + 1) cap7) (t0.length + 1) (flat t0 ++ [.int .i64 d.k, .int .i64 d.p, .int .i64 d.v]) → (W4.alloc (.cells #[.int .i64 d.k, .int .i64 d.p, .int .i64 d.v] 56)).grownBy w7 (Value.slice xa t0.length xc).ownBlock → ((Value.slice xa t0.length xc).ownBlock = some g7 ∨ g7 = W4.heap.size + 1) →
                ∃ (t' : List UInt8) (f : Nat) (ll : List (List M.D)) (vs : List Value) (v : Value), Value.string ⟨rest.toArray⟩ = .string ⟨t'.toArray⟩ ∧ M.rdText s0 = M.rdAll (f + 1) ll t' ∧ t'.length ≤ f ∧ M.lines ll + t'.length ≤ 400 ∧ Rdg (w7.setCell ⟨g, L.length, none⟩ (.slice (some ⟨g7, 0, none⟩) (t0.length + 1) cap7)) (w.heap.size + 2) v ll vs ∧ Slot1 (w7.setCell ⟨g, L.length, none⟩ (.slice (some ⟨g7, 0, none⟩) (t0.length + 1) cap7)) (w.heap.size + 1) v ∧ Slot1 (w7.setCell ⟨g, L.length, none⟩ (.slice (some ⟨g7, 0, none⟩) (t0.length + 1) cap7)) w.heap.size (.slice none 0 0) ∧ Below w.heap.size w (w7.setCell ⟨g, L.length, none⟩ (.slice (some ⟨g7, 0, none⟩) (t0.length + 1) cap7)) := by
              intro g7 cap7 w7 hown7 hg7 hat7
              have hown7' : w7.ownsRow (w.heap.size + 2) 56 3 (.slice (some ⟨g7, 0, none⟩) (t0 ++ [d]).length cap7) (t0 ++ [d]).length (flat (t0 ++ [d])) := by
                rw [flat_append, List.length_append]; exact hown7
              have hRn := hR4.add hal hg7 hown7' (by simpa using hat7)
              have e5 : (t0 ++ [d]).length = t0.length + 1 := by simp
              rw [e5] at hRn
              have hPn := ((hP4.bl hal).apart hg7 hPx).far (b' := g) (i := L.length) (by omega) (.slice (some ⟨g7, 0, none⟩) (t0.length + 1) cap7)
              have hQn := ((hQ4.bl hal).apart hg7 (fun e => by have := hxge _ e; omega)).far (b' := g) (i := L.length) (by omega) (.slice (some ⟨g7, 0, none⟩) (t0.length + 1) cap7)
              have hbn : Below w.heap.size w (w7.setCell ⟨g, L.length, none⟩ (.slice (some ⟨g7, 0, none⟩) (t0.length + 1) cap7)) := (below_grown (hbw4.trans (hal.mono hbw4.size)) hg7 (fun k hk => by have := hxge k hk; omega) (by simp; omega)).setCell (by show w.heap.size ≤ g; omega) _
              refine ⟨rest, f', L ++ [t0 ++ [d]], _, _, rfl, ?_, by omega, ?_, hRn, hPn, hQn, hbn⟩
              · rw [HR3.out, M.addLast_app]
              · rw [M.lines_app] at hln ⊢
                simp [M.lines] at hln ⊢
                omega
            go_region_law (first
              | (refine step_append_lies _ (by rfl) (.tmp 50) (.tmp 52) 49 (by rfl) (w.heap.size + 2) 56 i1 _ 3 24 Try.underlying49 ji jz0 jz1 jz2 rfl (by omega) (.slice xa t0.length xc) t0.length (flat t0) (by rfl) (hxr.alloc _) ⟨W4.heap.size, 0, none⟩ 1 1 [.int .i64 d.k, .int .i64 d.p, .int .i64 d.v] (by rfl) (by rfl) (World.news_of_block (cs := #[.int .i64 d.k, .int .i64 d.p, .int .i64 d.v]) (t := 56) (fr := (0, 0)) (heap_alloc_new W4 _)) (by simp [Value.oneCell']) (by omega) (by unfold maxLen; omega) (by omega) (by (try simp); omega) (W4.heap.size + 1) (by simp) ?_; intro g7 cap7 w7 hown7 hgd hat7 hlt7; (have hg7 : (W4.alloc (.cells #[.int .i64 d.k, .int .i64 d.p, .int .i64 d.v] 56)).grownBy w7 (Value.slice xa t0.length xc).ownBlock := ⟨hgd.os, hgd.tape, hgd.output, hgd.size, hgd.block⟩); have p7 := (hg7.cell_far ⟨w.heap.size + 1, 0, none⟩ (Nat.lt_of_lt_of_le lP4 hal.size) (fun e => hPx e.symm)).trans ((hal.cell (p := ⟨w.heap.size + 1, 0, none⟩) lP4).trans p0); have x7 := (hg7.cell_far ⟨g, L.length, none⟩ (Nat.lt_of_lt_of_le glt hal.size) (fun e => hxg e.symm)).trans ((hal.cell (p := ⟨g, L.length, none⟩) glt).trans xcell); have f7 := (World.frozen?_of_block (a := ⟨g, L.length, none⟩) (hg7.block g (Nat.lt_of_lt_of_le glt hal.size) (fun e => hxg e.symm))).trans ((hal.frozen (p := ⟨g, L.length, none⟩) glt).trans xfz)))
            all_goals
              go_wp2_with fail
              exact ⟨fin _ _ _ hown7 hg7 hat7, by rw [textLen_of, textLen_of]; omega⟩

end Go.Proofs.Ythgmolelipjdaaa
