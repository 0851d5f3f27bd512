/- spec.ExecAll: all ways are told, in order, each in rows of its own. Of at most 1048576 threads and steps. All ways, plainly: just those that are ok, each once; there is one. No condition. The order of what was seen is one: two are the same, or one stands ahead; what stands ahead of what stands ahead stands ahead. No condition. The laws' own comparing of ways: laws.lpInts, lpExec. Of lists of at most 1048576 numbers and rows. What both tell of all ways, read: they are the same. No condition. -/
import Derived.Test.YtelmclbojpbcbaaBnXa
import Derived.Test.YtelmclbojpbcbaaBnCr
import Derived.Test.YtelmclbojpbcbaaBnCo
import Derived.Test.YtelmclbojpbcbaaSnMath
import Derived.Test.YtelmclbojpbcbaaSnMem
import Derived.Test.YtelmclbojpbcbaaQuietB
import Derived.Test.YtelmclbojpbcbaaOkOrd
import Derived.Test.YtelmclbojpbcbaaTnGo
import Derived.Shelf.Abstract

namespace Go.Proofs.Ytelmclbojpbcbaa
open Go.RowKit

/-- A list of ways, in a row of its own. -/
structure RXL (w : World) (base : Nat) (v : Value) (cs : List Value) (n : Nat) (xs : List M.Wy) : Prop where
  own : w.ownsRow base 43 2 v n cs
  len : Hid (xs.length = n)
  row : ∀ i (h : i < xs.length), ∃ fv ov rc, cs[i * 2]? = some fv ∧ cs[i * 2 + 1]? = some ov ∧ Xw w base fv ov xs[i].1 rc xs[i].2 ∧ Xoff fv ov rc v.ownBlock
theorem RXL.zero {W : World} {base g : Nat} (h : W.heap[g]? = some (.cells #[] 43 (0, 0))) (hb : base ≤ g) : RXL W base (.slice (some ⟨g, 0, none⟩) 0 0) [] 0 [] :=
  ⟨⟨by simp, .inr ⟨g, 0, #[], rfl, hb, h, Nat.le_refl _, Nat.zero_le _, by simp, by simp⟩⟩, by show _ = _; rfl, fun _ hi => absurd hi (Nat.not_lt_zero _)⟩
theorem RXL.below {w w' : World} {base n : Nat} {v : Value} {cs : List Value} {xs : List M.Wy} (h : RXL w base v cs n xs) (hb : Below w.heap.size w w') : RXL w' base v cs n xs :=
  ⟨ownsRow_below h.own hb, h.len, fun i hi => by
    obtain ⟨fv, ov, rc, e1, e2, e3, e4⟩ := h.row i hi
    exact ⟨fv, ov, rc, e1, e2, e3.below hb, e4⟩⟩
theorem RXL.snoc {w W w' : World} {base n : Nat} {v : Value} {cs : List Value} {xs : List M.Wy} (h : RXL w base v cs n xs) (hb : Below w.heap.size w W) {fv ov : Value} {l : List Int} {rc : List Value} {rows : List (List Int)} {g cap : Nat} (hx : Xw W base fv ov l rc rows) (ho : Xoff fv ov rc v.ownBlock)
    (hown : w'.ownsRow base 43 2 (.slice (some ⟨g, 0, none⟩) (n + 1) cap) (n + 1) (cs ++ [fv, ov])) (hg : W.grownBy w' v.ownBlock) (hat : v.ownBlock = some g ∨ g = W.heap.size) : RXL w' base (.slice (some ⟨g, 0, none⟩) (n + 1) cap) (cs ++ [fv, ov]) (n + 1) (xs ++ [(l, rows)]) := by
  have hcl : cs.length = n * 2 := h.own.1
  have hW := h.below hb
  have hl := h.len.out
  refine ⟨hown, by show _ = _; simp [hl], fun i hi => ?_⟩
  rcases Nat.lt_or_ge i xs.length with h1 | h1
  · obtain ⟨fv', ov', rc', e1, e2, e3, e7⟩ := hW.row i h1
    rw [List.getElem_append_left h1]
    exact ⟨fv', ov', rc', by rw [List.getElem?_append_left (by omega)]; exact e1, by rw [List.getElem?_append_left (by omega)]; exact e2, e3.grown hg e7, e7.turn e3 hat⟩
  · have hie : i = n := by simp at hi; omega
    subst hie
    rw [List.getElem_append_right h1]
    refine ⟨fv, ov, rc, ?_, ?_, ?_, ho.turn hx hat⟩
    · rw [List.getElem?_append_right (by omega), hcl]; simp
    · rw [List.getElem?_append_right (by omega), hcl]; simp
    · simpa [hl] using hx.grown hg ho
/-- What is told: nothing of what is no program. -/
def M.specAll (ll : List (List M.D)) : List M.Wy := if M.prog ll then M.allWays (M.deeds ll) else []
structure SxaAns (w w' : World) (ll : List (List M.D)) (v : Value) : Prop where
  ex : ∃ cs n, RXL w' w.heap.size v cs n (M.specAll ll) ∧ n ≤ 5489031744
  bel : Below w.heap.size w w'
theorem M.part_step {os : List (List (List Int))} {k : Nat} {f : List Int} (h : k < os.length) : (os.take (k + 1)).map (fun o => ((f, o) : M.Wy)) = (os.take k).map (fun o => ((f, o) : M.Wy)) ++ [(f, os[k])] := by
  rw [List.take_succ_eq_append_getElem h, List.map_append]; rfl
theorem M.fall_step {F : List Int → List M.Wy} {fs : List (List Int)} {i : Nat} (h : i < fs.length) : (fs.take (i + 1)).flatMap F = (fs.take i).flatMap F ++ F fs[i] := by
  rw [List.take_succ_eq_append_getElem h, List.flatMap_append]; simp

theorem M.flatMap_congr {α β : Type} {F G : α → List β} : ∀ {l : List α}, (∀ x ∈ l, F x = G x) → l.flatMap F = l.flatMap G
  | [], _ => rfl
  | x :: l, h => by rw [List.flatMap_cons, List.flatMap_cons, h x (by simp), M.flatMap_congr (fun y hy => h y (List.mem_cons_of_mem _ hy))]
theorem M.spec_all {ll : List (List M.D)} (hp : M.prog ll = true) : M.specAll ll = (M.fromsOf (M.deeds ll) (M.deeds ll).length []).flatMap (fun f => if M.vEnds (M.deeds ll) f 0 (M.deeds ll) then (M.ordersOf (M.deeds ll)).map (fun o => ((f, o) : M.Wy)) else []) := by
  unfold M.specAll M.allWays
  rw [if_pos hp]
  refine M.flatMap_congr fun f hf => ?_
  have h1 : f.length = (M.deeds ll).length := by have := M.fromsOf_each _ _ _ _ hf; simpa using this
  rw [M.vEnds_eq (M.froms_in hf) (M.deed_v hp) h1]

set_option maxHeartbeats 4000000 in
set_option maxRecDepth 100000 in
theorem sexecAllW_any (a : Option Addr) (b o c : Nat) (ll : List (List M.D)) (w : World) (hl : ll.length ≤ 1048576) (hls : ∀ t ∈ ll, t.length ≤ 1048576) (h : DoSS w a b o ll) :
    Calls Try.prog 8 #[.agg #[.slice a ll.length c]] w fun e w' => ∃ v, e = .returned v ∧ SxaAns w w' ll v := by
  obtain ⟨i0, hi, hz0, hz1, hz2⟩ := info_parts Try.infoInt
  obtain ⟨j0, hj, hy0, hy1, hy2⟩ := info_parts Try.infoRs
  obtain ⟨q0, hq, hq0, hq1, hq2⟩ := info_parts Try.infoExec
  have hb2 := below2 w (.cells #[.slice a ll.length c] 30) (.cells #[] 43)
  have kp : ((w.alloc (.cells #[.slice a ll.length c] 30)).alloc (.cells #[] 43)).cell? ⟨w.heap.size, 0, none⟩ = some (.slice a ll.length c) := by simp
  have kG : ((w.alloc (.cells #[.slice a ll.length c] 30)).alloc (.cells #[] 43)).heap[w.heap.size + 1]? = some (.cells #[] 43 (0, 0)) := alloc_new _ _ _ (by simp)
  replace h := h.below hb2 (Nat.le_refl _)
  go_enter Try.func8, Try.ntmps8
  go_wp2_with fail
  generalize (w.alloc (.cells #[.slice a ll.length c] 30)).alloc (.cells #[] 43) = W at *
  have lw : w.heap.size < W.heap.size := World.block_lt_of_cell? _ _ kp
  have lG : w.heap.size + 1 < W.heap.size := by
    rcases Nat.lt_or_ge (w.heap.size + 1) W.heap.size with h1 | h1
    · exact h1
    · rw [Array.getElem?_eq_none (by omega)] at kG; cases kG
  have C1 := sprog_any a b o c ll W hl hls h
  cases hp : M.prog ll
  · rw [hp] at C1
    refine C1.mono ?_
    rintro e w1 ⟨rfl, hb1⟩
    have kG1 := (hb1.block (w.heap.size + 1) lG).trans kG
    go_wp2_with fail
    go_ret
    have hsp : M.specAll ll = [] := by simp [M.specAll, hp]
    exact ⟨_, rfl, ⟨[], 0, by rw [hsp]; exact RXL.zero kG1 (by omega), by omega⟩, hb2.trans (hb1.mono hb2.size)⟩
  · rw [hp] at C1
    obtain ⟨h3, h7⟩ := M.prog_bounds hp
    have hdl := M.deeds_len h3 h7
    have HE : Hid (M.evAll ll = (M.deeds ll).map M.De.ev) := by show _ = _; simp [M.evAll, hp, M.events]
    refine C1.mono ?_
    rintro e w1 ⟨rfl, hb1⟩
    have kp1 := (hb1.cell (p := ⟨w.heap.size, 0, none⟩) lw).trans kp
    go_wp2_with fail
    refine (sexecEvents_any a b o c ll w1 hl hls (h.below hb1 (Nat.le_refl _))).mono ?_
    rintro e w2 ⟨v2, rfl, hown2, hb3⟩
    obtain ⟨va, g, cap, rfl, hev, _, _⟩ := own_rs M.Ev.len hown2
    rw [HE.out] at hev
    have hd := DvS.of hev
    have hle : (M.evAll ll).length = (M.deeds ll).length := by rw [HE.out, List.length_map]
    rw [hle]
    have hb12 := hb1.trans (hb3.mono hb1.size)
    have kp2 := (hb12.cell (p := ⟨w.heap.size, 0, none⟩) lw).trans kp
    have kG2 := (hb12.block (w.heap.size + 1) lG).trans kG
    have h2 := h.below hb12 (Nat.le_refl _)
    have lw2 := Nat.lt_of_lt_of_le lw hb12.size
    have lG2 := Nat.lt_of_lt_of_le lG hb12.size
    have hF6 := M.froms6 hp
    have hO6 := M.orders6 hp
    have HF : Hid (([] : List (List Int)).length + (M.fromsOf (M.deeds ll) (M.deeds ll).length []).length ≤ 1099511627776) := by show _ ≤ _; simp only [List.length_nil]; omega
    have C2 := l12Froms_any a b o c ll va g cap w2 hl hls hdl h2 hd (M.deeds ll).length none 0 0 0 [] (.slice none 0 0) [] [] w2 (by show _ = _; simp) HF (Below.refl _ _) (IntS.nil _ _ _ _) (fun _ => rfl) (fun h => absurd h (Nat.lt_irrefl _)) (RR.nil _ _)
    clear hown2 hev hle kp kp1 HE C1 HF
    go_wp2_with fail
    refine C2.mono ?_
    rintro e w3 ⟨vf, cf, rfl, hM⟩
    have hRf := hM.rr
    rw [List.nil_append] at hRf
    have hb4 := grown_below (show w2.grownBy w3 none from hM.grown)
    have kp3 := (hb4.cell (p := ⟨w.heap.size, 0, none⟩) lw2).trans kp2
    have C3 := l12Orders_any a b o c ll va g cap w3 hl hls hdl (fun p => M.wr6 (M.use6 hp) p) (M.ordK6 hp) (h2.below hb4 (Nat.le_refl _)) (hd.bel hb4 (Nat.le_refl _))
    clear hM C2
    go_wp2_with fail
    refine C3.mono ?_
    rintro e WB ⟨vo, co, rfl, hRo, hb5⟩
    have kpB := (hb5.cell (p := ⟨w.heap.size, 0, none⟩) (Nat.lt_of_lt_of_le lw2 hb4.size)).trans kp3
    have hb25 := hb4.trans (hb5.mono hb4.size)
    have kGB := (hb25.block (w.heap.size + 1) lG2).trans kG2
    have hDoB := h2.below hb25 (Nat.le_refl _)
    have hDvB := hd.bel hb25 (Nat.le_refl _)
    have hRfB := hRf.below hb5
    have hbWB : Below w.heap.size w WB := (hb2.trans (hb12.mono hb2.size)).trans (hb25.mono (Nat.le_trans (Nat.le_of_lt lw2) (Nat.le_refl _)))
    have lGB : w.heap.size + 1 < WB.heap.size := Nat.lt_of_lt_of_le lG2 hb25.size
    have HIN := fun r => M.froms_in (ll := ll) (r := r)
    have HALL : Hid (M.specAll ll = (M.fromsOf (M.deeds ll) (M.deeds ll).length []).flatMap (fun f => if M.vEnds (M.deeds ll) f 0 (M.deeds ll) then (M.ordersOf (M.deeds ll)).map (fun o => ((f, o) : M.Wy)) else [])) := M.spec_all hp
    have HFL : ∀ r ∈ M.fromsOf (M.deeds ll) (M.deeds ll).length [], r.length = (M.deeds ll).length := fun r hr => by have := M.fromsOf_each _ _ _ _ hr; simpa using this
    have HOL : ∀ os ∈ M.ordersOf (M.deeds ll), os.length = 3 := fun os ho => M.ordK_each (M.deeds ll) 3 os ho
    have HOR : ∀ os ∈ M.ordersOf (M.deeds ll), ∀ r ∈ os, r.length ≤ 6 := M.ordK_len6 (M.wr6 (M.use6 hp)) 3
    have CE := fun (fa : Option Addr) (fb fo fc : Nat) (l : List Int) (ra : Value) (W : World) (hw : Keeps WB W) (hL : Hid (l.length = (M.deeds ll).length)) (hin : M.In (M.deeds ll) l) (hf : IntS W fa fb fo l) => l12Ends_any a b o c ll va g cap fa fb fo fc l ra W hl hls hdl hL hin (hDoB.keeps hw) (hDvB.keeps hw) hf
    clear C3 hb5 hb25 hb4 hb12 hb3 hb1 hRf kp3 kp2 kG2 kG h2 hd h hb2 lw lG lw2 lG2 hDoB hDvB
    have hfl : ∀ r ∈ M.fromsOf (M.deeds ll) (M.deeds ll).length [], Hid (r.length = (M.deeds ll).length) ∧ M.In (M.deeds ll) r := fun r hr => ⟨HFL r hr, HIN r hr⟩
    generalize M.fromsOf (M.deeds ll) (M.deeds ll).length [] = fs at *
    generalize M.ordersOf (M.deeds ll) = os at *
    generalize M.deeds ll = ds at *
    obtain ⟨vaf, gf, ccf, rfl, hfa, hfcell⟩ := own_vals hRfB.own
    obtain ⟨vao, go, cco, rfl, hoa, hocell⟩ := own_vals hRo.own
    clear HIN HFL
    go_wp2_with fail
    go_loopw [3, 7] (fun s3 s7 wr => ∃ (i n : Nat) (cs : List Value) (xs : List M.Wy), s7 = .int .i64 i ∧ i ≤ fs.length ∧ n ≤ i * 46656 ∧ Hid (xs = (fs.take i).flatMap (fun f => if M.vEnds ds f 0 ds then os.map (fun o => ((f, o) : M.Wy)) else [])) ∧ RXL wr w.heap.size s3 cs n xs ∧ WB.grownBy wr (some (w.heap.size + 1)) ∧ (∀ k, s3.ownBlock = some k → k = w.heap.size + 1 ∨ WB.heap.size ≤ k)) (fun _ s7 _ => fs.length - (intOf s7).toNat)
    case atStart => exact ⟨0, 0, [], [], rfl, Nat.zero_le _, by omega, by show _ = _; rfl, RXL.zero kGB (by omega), grown_refl _ _, fun k hk => .inl (Option.some.inj hk).symm⟩
    case round =>
      obtain ⟨i, n, cs, xs, rfl, hi', hn, HXS, hR, hg, hat⟩ := hrel
      by_cases hlt : i < fs.length
      · have i1 : (i : Int) < fs.length := by omega
        obtain ⟨HLi, HIi⟩ := hfl _ (List.getElem_mem hlt)
        obtain ⟨fa, fb, fc, e1, hfI, hfac, _⟩ := hRfB.row i hlt
        have kf0 := hfcell i _ e1
        have HST : Hid ((fs.take (i + 1)).flatMap (fun f => if M.vEnds ds f 0 ds then os.map (fun o => ((f, o) : M.Wy)) else []) = (fs.take i).flatMap (fun f => if M.vEnds ds f 0 ds then os.map (fun o => ((f, o) : M.Wy)) else []) ++ (fun f => if M.vEnds ds f 0 ds then os.map (fun o => ((f, o) : M.Wy)) else []) fs[i]) := M.fall_step hlt
        generalize (fs.take i).flatMap (fun f => if M.vEnds ds f 0 ds then os.map (fun o => ((f, o) : M.Wy)) else []) = pre at *
        generalize fs[i] = f at *
        obtain ⟨rfl⟩ := hfa (by omega)
        go_wp2_with fail
        go_loopw [3, 8] (fun s3 s8 wy => ∃ (k n : Nat) (cs : List Value) (xs : List M.Wy), s8 = .int .i64 k ∧ k ≤ os.length ∧ n ≤ i * 46656 + k ∧ Hid (xs = pre ++ (if M.vEnds ds f 0 ds then (os.take k).map (fun o => ((f, o) : M.Wy)) else [])) ∧ RXL wy w.heap.size s3 cs n xs ∧ WB.grownBy wy (some (w.heap.size + 1)) ∧ (∀ k, s3.ownBlock = some k → k = w.heap.size + 1 ∨ WB.heap.size ≤ k)) (fun _ s8 _ => os.length - (intOf s8).toNat)
        case atStart => exact ⟨0, n, cs, xs, rfl, Nat.zero_le _, by omega, by show _ = _; rw [HXS.out]; simp, hR, hg, hat⟩
        case round =>
          clear hn hR hg hat HXS
          obtain ⟨k, n, cs, xs, rfl, hk, hn, HXS, hR, hg, hat⟩ := hrel
          by_cases hlt2 : k < os.length
          · have i2 : (k : Int) < os.length := by omega
            have h3 : Hid (_ = 3) := HOL _ (List.getElem_mem hlt2)
            have h3l : 0 < os[k].length ∧ os[k].length ≤ 3 := by have := HOL _ (List.getElem_mem hlt2); omega
            have h6 := HOR _ (List.getElem_mem hlt2)
            obtain ⟨oa, ob, oc, od, e2, hoa1, hoac, hof⟩ := hRo.row k hlt2
            have ko0 := hocell k _ e2
            have HPS : Hid ((os.take (k + 1)).map (fun o => ((f, o) : M.Wy)) = (os.take k).map (fun o => ((f, o) : M.Wy)) ++ [(f, os[k])]) := M.part_step hlt2
            generalize os[k] = oi at *
            obtain ⟨rfl⟩ := hoa (by omega)
            have hK := Keeps.grown kGB hg
            have kf := hK _ _ kf0
            have ko := hK _ _ ko0
            generalize wr = wy at *
            have hIy := hfI.keeps hK
            have lf : gf < wy.heap.size := World.block_lt_of_cell? _ _ kf
            have hfll : f.length ≤ 42 := by have := HLi.out; omega
            go_wp2_with (at_builtin; refine wpList_append_ints rfl (.tmp 36) (.tmp 40) 40 rfl wy.heap.size 3 i0 Try.underlying40 hi hz0 hz1 hz2 (.slice (some ⟨wy.heap.size, 0, none⟩) 0 0) 0 [] rfl (own_empty (alloc_new wy _ _ rfl) (Nat.le_refl _)) (by simp) fa fb 0 fc f rfl (hIy.below (below1 _ _) (Nat.le_refl _)) (by omega) hfac ?_)
            intro v1 w1 hown1 hg1 hat1
            have b1 : Below wy.heap.size wy w1 := below_grown (below1 _ _) hg1 (fun j hj => by have : wy.heap.size = j := Option.some.inj hj; omega) (by simp)
            obtain ⟨a1, g1, c1, rfl, hI1, hac1, hge1⟩ := own_ints hown1
            go_wp2_with fail
            have hX0 := Xb.start b1 hown1
            have lX0 : w1.heap.size < (w1.alloc (.cells #[.slice a1 f.length c1, .slice none 0 0] 43)).heap.size := by simp
            have hXl : wy.heap.size ≤ w1.heap.size := b1.size
            clear hown1 hg1 hat1 hI1 hac1 hge1 b1
            generalize w1.alloc (.cells #[.slice a1 f.length c1, .slice none 0 0] 43) = w13 at *
            generalize w1.heap.size = X at *
            obtain ⟨rfl⟩ := hoa1 (by omega)
            go_loopw [10] (fun s10 wz => ∃ (m : Nat) (ov : Value) (cs3 : List Value), s10 = .int .i64 m ∧ m ≤ oi.length ∧ Xb wy.heap.size wy wz X (.slice a1 f.length c1) ov f cs3 (oi.take m)) (fun s10 _ => oi.length - (intOf s10).toNat)
            case atStart => exact ⟨0, _, [], rfl, Nat.zero_le _, hX0⟩
            case round =>
              obtain ⟨m, ov, cs3, rfl, hm, hX⟩ := hrel
              clear hX0 lX0
              have hKr : Keeps WB wr := hK.trans (Keeps.of hX.bel)
              have ko3 := hKr _ _ ko0
              have lo3 : go < wr.heap.size := World.block_lt_of_cell? _ _ ko3
              have lX := hX.lt
              have x0 := hX.c0
              have x1 := hX.c1
              have xf := hX.fz
              have hzs := hX.bel.size
              by_cases hlt3 : m < oi.length
              · have i3 : (m : Int) < oi.length := by omega
                obtain ⟨ra, rb, rc, e3, hrI, hrac, _⟩ := hof.row m hlt3
                have kr3 := hKr _ _ (hof.cell m _ e3)
                have kry := hK _ _ (hof.cell m _ e3)
                have lry : ob < wy.heap.size := World.block_lt_of_cell? _ _ kry
                have loy : go < wy.heap.size := World.block_lt_of_cell? _ _ ko
                have lr3 : ob < wr.heap.size := World.block_lt_of_cell? _ _ kr3
                have hr6 := h6 _ (List.getElem_mem hlt3)
                have hTk : (oi.take m).length = m := by rw [List.length_take]; omega
                have eT : Hid (oi.take (m + 1) = oi.take m ++ [oi[m]]) := by show _ = _; rw [List.take_add_one, List.getElem?_eq_getElem hlt3]; rfl
                have hrI3 := hrI.keeps hKr
                generalize oi[m] = r at *
                generalize oi.take m = rows at *
                subst hTk
                have nX1 : X ≠ go := fun e => by have h1 := World.block_lt_of_cell? _ _ ko0; have h2 := hg.size; have h3 := hXl; simp at h1; omega
                have nX2 : X ≠ ob := fun e => by have h1 := World.block_lt_of_cell? _ _ (hof.cell _ _ e3); have h2 := hg.size; have h3 := hXl; simp at h1; omega
                go_wp2_with fail
                go_region_law (first
                  | (refine step_append_ints (by rfl) (.tmp 54) (.tmp 61) 40 (by rfl) wr.heap.size 3 i0 Try.underlying40 hi hz0 hz1 hz2 (.slice (some ⟨wr.heap.size, 0, none⟩) 0 0) 0 [] (by rfl) (own_empty (alloc_new wr _ _ rfl) (by simp)) (by simp) ra rb 0 rc r (by rfl) (hrI3.below (B := wr.heap.size) (by repeat (first | exact Below.refl _ _ | refine bel_al ?_ _ | refine Below.drew ?_)) (Nat.le_refl _)) (by omega) hrac ?_; intro v4 w4 hown4 hg4 hat4; (rw [Nat.zero_add, List.nil_append] at hown4); (obtain ⟨a4, g4, c4, rfl, hI4, hac4, hge4⟩ := own_ints (l := r) hown4); (have b4 : Below wr.heap.size wr w4 := below_grown (by repeat (first | exact Below.refl _ _ | refine bel_al ?_ _ | refine Below.drew ?_)) hg4 (fun j hj => by have := Option.some.inj hj; (try simp at this); omega) (by (try simp); (try omega))); have Y10 := (b4.cell (p := ⟨X, 1, none⟩) lX).trans x1; have Y11 := (b4.cell (p := ⟨go, k, none⟩) lo3).trans ko3; have Y12 := (b4.cell (p := ⟨ob, rows.length, none⟩) lr3).trans kr3; have lX4 := Nat.lt_of_lt_of_le lX b4.size; have Y13 := ((below1 w4 (.cells #[.slice a4 r.length c4] 40)).cell (p := ⟨X, 1, none⟩) lX4).trans Y10; have F1 := fun j => (b4.frozen (p := ⟨X, j, none⟩) lX).trans (xf j))
                  | (refine step_append_lies _ (by rfl) (.tmp 53) (.tmp 63) 41 (by rfl) wy.heap.size 40 j0 _ 1 24 Try.underlying41 hj hy0 hy1 hy2 rfl (by omega) ov rows.length cs3 (by rfl) ((hX.below b4).xw.ord.alloc _) ⟨w4.heap.size, 0, none⟩ 1 1 [.slice a4 r.length c4] (by rfl) (by rfl) (World.news_of_block (cs := #[.slice a4 r.length c4]) (t := 40) (fr := (0, 0)) (by exact heap_alloc_new w4 _)) (by simp [Value.oneCell']) (by omega) (by unfold maxLen; omega) (by omega) (by have := b4.size; simp; omega) (w4.heap.size + 1) (by simp) ?_; intro g5 cap5 w5 hown5 hg5 hat5 hlt5; have hXn := hX.snoc (b4.alloc b4.size _) (hown4.alloc _) hown5 hg5 (by simpa using hat5); (have b5 : Below wy.heap.size wy w5 := below_grown ((hX.bel.trans (b4.mono hzs)).alloc (Nat.le_trans hzs b4.size) _) hg5 (own_ge hX.xw.ord) (by have := b4.size; simp; omega)); have Y21 := (b5.cell (p := ⟨go, k, none⟩) loy).trans ko; have Y22 := (b5.cell (p := ⟨ob, rows.length, none⟩) lry).trans kry; (have lX5 : X < (w4.alloc (.cells #[.slice a4 r.length c4] 40)).heap.size := by have := b4.size; simp; omega); (have nX5 : some X ≠ ov.ownBlock := fun e => hX.off.ord X e.symm rfl); have Y20 := (hg5.cell_far ⟨X, 1, none⟩ lX5 nX5).trans (((below1 w4 _).cell (p := ⟨X, 1, none⟩) (Nat.lt_of_lt_of_le lX b4.size)).trans Y10); have F2 := fun j => (World.frozen?_of_block (a := ⟨X, j, none⟩) (hg5.block X lX5 nX5)).trans (((below1 w4 (.cells #[.slice a4 r.length c4] 40)).frozen (p := ⟨X, j, none⟩) (Nat.lt_of_lt_of_le lX b4.size)).trans (F1 j))))
                all_goals
                  rw [← eT.out] at hXn
                  clear hX hg5 hg4 hown5 hown4 hI4 hat5 hat4 x0 x1 xf
                  go_wp2_with fail
                  exact ⟨⟨rows.length + 1, _, _, by go_num, by omega, hXn⟩, by simp [intOf]; omega⟩
              · have hm3 : m = oi.length := by omega
                subst hm3
                rw [List.take_length] at hX
                obtain ⟨a6, g6, c6, e6, hI6, -, -⟩ := own_ints hX.xw.from_
                obtain ⟨rfl, rfl⟩ : a1 = a6 ∧ c1 = c6 := by simpa using e6
                obtain ⟨ao, go6, co6, rfl, -, -⟩ := own_vals hX.xw.ord
                have hp3 := hKr _ _ kpB
                have C6 := CE a1 g6 0 c1 f (.slice ao oi.length co6) wr hKr HLi HIi hI6
                have hul : ∀ q, u3.ownBlock = some q → q < wy.heap.size := fun q hq => (hR.own.lt q hq).2
                clear hI6 e6 CE
                clear HOL HOR hfl hRfB hRo hfcell hocell
                cases hE : M.vEnds ds f 0 ds
                · rw [hE] at C6
                  go_wp2_with fail
                  refine C6.mono ?_
                  rintro e w6 ⟨rfl, b6⟩
                  have b16 : Below wy.heap.size wy w6 := hX.bel.trans (b6.mono hzs)
                  have hR6 := hR.below b16
                  have hg6 : WB.grownBy w6 (some (w.heap.size + 1)) := grown_then hg (grown_of b16 none) (fun j hj => by cases hj)
                  go_wp2_with fail
                  exact ⟨⟨k + 1, n, cs, xs, by go_num, by omega, by omega, by show _ = _; rw [HXS.out, hE]; rfl, hR6, hg6, hat⟩, by simp [intOf]; omega⟩
                · rw [hE] at C6
                  go_wp2_with fail
                  refine C6.mono ?_
                  rintro e w6 ⟨rfl, b6⟩
                  have b16 : Below wy.heap.size wy w6 := hX.bel.trans (b6.mono hzs)
                  have hR6 := hR.below b16
                  have hX6 := hX.below b6
                  have x06 := hX6.c0
                  have x16 := hX6.c1
                  have hBn := below1 w6 (.cells #[.slice a1 f.length c1, .slice ao oi.length co6] 43)
                  have hws := hbWB.size
                  have hgs := hg.size
                  have hs6 := b16.size
                  have hn2 : n ≤ 5489031744 := by omega
                  go_wp2_with (at_builtin; refine wpList_append_lies _ rfl (.tmp 70) (.tmp 72) 26 rfl w.heap.size 43 q0 _ 2 48 Try.underlying26 hq hq0 hq1 hq2 rfl (by decide) u3 n cs rfl (hR6.own.alloc _) ⟨w6.heap.size, 0, none⟩ 1 1 [.slice a1 f.length c1, .slice ao oi.length co6] rfl rfl (World.news_of_block (cs := #[.slice a1 f.length c1, .slice ao oi.length co6]) (t := 43) (fr := (0, 0)) (heap_alloc_new w6 _)) (by simp [Value.oneCell']) (by omega) (by unfold maxLen; omega) (by omega) (by simp; omega) (w6.heap.size + 1) (by simp) ?_)
                  intro g7 cap7 w7 hown7 hg7 hat7 hlt7
                  have hR7 := hR.snoc (b16.trans (hBn.mono b16.size)) ((hX6.xw.mono (base' := w.heap.size) (by omega)).below hBn) (hX6.xw.off hul) hown7 hg7 (by simpa using hat7)
                  have hgy : wy.grownBy w7 u3.ownBlock := grown_then (grown_of (b16.trans (hBn.mono b16.size)) _) hg7 (fun j hj => .inr hj)
                  have hg8 : WB.grownBy w7 (some (w.heap.size + 1)) := grown_then hg hgy (fun j hj => by
                    rcases hat j hj with e | e
                    · exact .inr (by rw [e])
                    · exact .inl e)
                  have hat8 : ∀ q, (Value.slice (some ⟨g7, 0, none⟩) (n + 1) cap7).ownBlock = some q → q = w.heap.size + 1 ∨ WB.heap.size ≤ q := fun q hq => by
                    have hq' : g7 = q := Option.some.inj hq
                    rcases hat7 with e | e
                    · exact hat q (by rw [e, hq'])
                    · exact .inr (by omega)
                  clear hown7 hg7 hat7 hX hX6 hR hR6
                  go_wp2_with fail
                  exact ⟨⟨k + 1, n + 1, _, xs ++ [(f, oi)], by go_num, by omega, by omega, by show _ = _; rw [HXS.out, hE, HPS.out]; simp, hR7, hg8, hat8⟩, by simp [intOf]; omega⟩
          · go_wp2_with fail
            exact ⟨⟨i + 1, n, cs, xs, by go_num, by omega, by omega, by show _ = _; rw [HXS.out, HST.out, List.take_of_length_le (by omega)], hR, hg, hat⟩, by simp [intOf]; omega⟩
      · go_wp2_with fail
        go_ret
        have HFN : xs = M.specAll ll := by rw [HXS.out, HALL.out, List.take_of_length_le (by omega)]
        exact ⟨_, rfl, ⟨cs, n, by rw [← HFN]; exact hR, by omega⟩, below_grown hbWB hg (fun q hq => by have : w.heap.size + 1 = q := Option.some.inj hq; omega) hbWB.size⟩
end Go.Proofs.Ytelmclbojpbcbaa

namespace Go.Proofs.Ytelmclbojpbcbaa
namespace M

theorem perm_of : ∀ (a b : List Int), a.Nodup → (∀ v ∈ a, v ∈ b) → b.length ≤ a.length → a.Perm b
  | [], b, _, _, hl => by
    have : b = [] := List.length_eq_zero_iff.1 (by simpa using hl)
    rw [this]
  | x :: a, b, hn, hs, hl => by
    have hx := hs x (by simp)
    have hp := List.perm_cons_erase hx
    have hn' := List.nodup_cons.1 hn
    have ih := perm_of a (b.erase x) hn'.2 (fun v hv => (List.mem_erase_of_ne (fun (e : v = x) => hn'.1 (e ▸ hv))).2 (hs v (List.mem_cons_of_mem _ hv))) (by rw [List.length_erase_of_mem hx]; simp at hl; omega)
    exact (ih.cons x).trans hp.symm
theorem mayTell_iff {ds : List De} {x : De} {f : Int} : mayTell ds x f = true ↔ if x.reads then f = -1 ∨ f ∈ wrs x.d.p 0 ds else f = -2 := by
  unfold mayTell
  cases hr : x.reads
  · simp
  · simp only [if_true, Bool.or_eq_true, beq_iff_eq]
    refine or_congr Iff.rfl ?_
    rw [mem_wrs]
    constructor
    · intro h
      simp only [Bool.and_eq_true, decide_eq_true_eq] at h
      obtain ⟨h0, h1, h2⟩ := h
      have hlt : f.toNat < ds.length := by omega
      rw [List.getElem?_eq_getElem hlt] at h2
      exact ⟨f.toNat, hlt, by omega, h2⟩
    · rintro ⟨i, hi, rfl, ht⟩
      simp only [Bool.and_eq_true, decide_eq_true_eq]
      refine ⟨by omega, by omega, ?_⟩
      have e : (((0 + i : Nat) : Int)).toNat = i := by omega
      rw [e, List.getElem?_eq_getElem hi]
      exact ht
theorem fromsW_succ {ds : List De} {n : Nat} {f r : List Int} (h : f.length < ds.length) : r ∈ fromsOf ds (n + 1) f ↔ ∃ v, mayTell ds ds[f.length] v = true ∧ r ∈ fromsOf ds n (f ++ [v]) := by
  cases hr : De.reads ds[f.length]
  · rw [froms_no h rfl hr]
    constructor
    · exact fun h => ⟨-2, by rw [mayTell_iff, hr]; rfl, h⟩
    · rintro ⟨v, hv, hm⟩
      rw [mayTell_iff, hr] at hv
      have : v = -2 := hv
      rw [← this]; exact hm
  · rw [froms_yes h rfl hr, List.mem_append, List.mem_flatMap]
    constructor
    · rintro (h | ⟨v, hv, hm⟩)
      · exact ⟨-1, by rw [mayTell_iff, hr]; exact Or.inl rfl, h⟩
      · exact ⟨v, by rw [mayTell_iff, hr]; exact Or.inr hv, hm⟩
    · rintro ⟨v, hv, hm⟩
      rw [mayTell_iff, hr] at hv
      rcases hv with rfl | hv
      · exact Or.inl hm
      · exact Or.inr ⟨v, hv, hm⟩
theorem take_succ_snoc {r f : List Int} {v : Int} (h : f.length < r.length) : r.take (f.length + 1) = f ++ [v] ↔ r.take f.length = f ∧ r.getD f.length 0 = v := by
  rw [List.take_succ_eq_append_getElem h]
  have hl : (r.take f.length).length = f.length := by rw [List.length_take]; omega
  constructor
  · intro e
    have e1 := List.append_inj e hl
    refine ⟨e1.1, ?_⟩
    have := e1.2
    simp at this
    rw [List.getD_eq_getElem?_getD, List.getElem?_eq_getElem h]
    exact this
  · rintro ⟨e1, e2⟩
    rw [List.getD_eq_getElem?_getD, List.getElem?_eq_getElem h] at e2
    rw [e1]
    congr 1
    simp at e2
    rw [e2]
theorem mem_froms {ds : List De} : ∀ (n : Nat) (f r : List Int), f.length + n = ds.length → (r ∈ fromsOf ds n f ↔ r.length = ds.length ∧ r.take f.length = f ∧ ∀ i (h : i < ds.length), f.length ≤ i → mayTell ds ds[i] (r.getD i 0) = true)
  | 0, f, r, h => by
    simp only [fromsOf, List.mem_singleton]
    constructor
    · rintro rfl
      exact ⟨by omega, List.take_of_length_le (Nat.le_refl _), fun i hi hf => by omega⟩
    · rintro ⟨h1, h2, _⟩
      rw [List.take_of_length_le (by omega)] at h2
      exact h2
  | n + 1, f, r, h => by
    have hlt : f.length < ds.length := by omega
    rw [fromsW_succ hlt]
    constructor
    · rintro ⟨v, hv, hm⟩
      rw [mem_froms n _ r (by simp; omega)] at hm
      obtain ⟨h1, h2, h3⟩ := hm
      rw [List.length_append, List.length_singleton] at h2 h3
      obtain ⟨e1, e2⟩ := (take_succ_snoc (by omega)).1 h2
      refine ⟨h1, e1, fun i hi hf => ?_⟩
      by_cases e : i = f.length
      · subst e; rw [e2]; exact hv
      · exact h3 i hi (by omega)
    · rintro ⟨h1, h2, h3⟩
      refine ⟨r.getD f.length 0, h3 _ hlt (Nat.le_refl _), ?_⟩
      rw [mem_froms n _ r (by simp; omega)]
      rw [List.length_append, List.length_singleton]
      exact ⟨h1, (take_succ_snoc (by omega)).2 ⟨h2, rfl⟩, fun i hi hf => h3 i hi (by omega)⟩
theorem fromAt_iff {ds : List De} : ∀ (xs : List De) (l : List Int), l.length = xs.length → (fromAt ds xs l = true ↔ ∀ i (h : i < xs.length), mayTell ds xs[i] (l.getD i 0) = true)
  | [], l, h => by simp [fromAt]
  | x :: xs, [], h => by simp at h
  | x :: xs, f :: l, h => by
    simp only [fromAt, Bool.and_eq_true, fromAt_iff xs l (by simpa using h)]
    constructor
    · rintro ⟨h1, h2⟩ i hi
      cases i with
      | zero => exact h1
      | succ i => exact h2 i (by simpa using hi)
    · intro h
      exact ⟨h 0 (by simp), fun i hi => h (i + 1) (by simpa using hi)⟩
theorem mem_from {ds : List De} {l : List Int} : l ∈ fromsOf ds ds.length [] ↔ fromOk ds l = true := by
  rw [mem_froms _ _ _ (by simp), fromOk, Bool.and_eq_true, decide_eq_true_eq]
  constructor
  · rintro ⟨h1, _, h3⟩
    exact ⟨h1, (fromAt_iff ds l h1).2 fun i hi => h3 i hi (Nat.zero_le _)⟩
  · rintro ⟨h1, h2⟩
    exact ⟨h1, by simp, fun i hi _ => (fromAt_iff ds l h1).1 h2 i hi⟩
theorem mem_rows {ws : List Int} : ∀ (n : Nat) (h r : List Int), r ∈ rowsOf ws n h ↔ ∃ t, r = h ++ t ∧ t.length = n ∧ (∀ v ∈ t, v ∈ ws ∧ v ∉ h) ∧ t.Nodup
  | 0, h, r => by
    simp only [rowsOf, List.mem_singleton]
    constructor
    · rintro rfl
      exact ⟨[], by simp, rfl, (fun v hv => by cases hv), List.nodup_nil⟩
    · rintro ⟨t, rfl, ht, _⟩
      rw [List.length_eq_zero_iff.1 ht, List.append_nil]
  | n + 1, h, r => by
    rw [rowsOf, List.mem_flatMap]
    constructor
    · rintro ⟨v, hv, hm⟩
      by_cases hh : has h v = true
      · rw [if_pos hh] at hm; cases hm
      · rw [if_neg hh] at hm
        obtain ⟨t, rfl, h1, h2, h3⟩ := (mem_rows n _ r).1 hm
        have hvh : v ∉ h := fun e => hh (by simpa [has] using e)
        refine ⟨v :: t, by simp, by simp [h1], fun u hu => ?_, List.nodup_cons.2 ⟨fun e => (h2 v e).2 (by simp), h3⟩⟩
        rcases List.mem_cons.1 hu with rfl | hu
        · exact ⟨hv, hvh⟩
        · exact ⟨(h2 u hu).1, fun e => (h2 u hu).2 (List.mem_append_left _ e)⟩
    · rintro ⟨t, rfl, h1, h2, h3⟩
      cases t with
      | nil => simp at h1
      | cons v t =>
        have hv := h2 v (by simp)
        have hn := List.nodup_cons.1 h3
        refine ⟨v, hv.1, ?_⟩
        rw [if_neg (by simpa [has] using hv.2)]
        refine (mem_rows n _ _).2 ⟨t, by simp, by simpa using h1, fun u hu => ⟨(h2 u (List.mem_cons_of_mem _ hu)).1, fun e => ?_⟩, hn.2⟩
        rcases List.mem_append.1 e with e | e
        · exact (h2 u (List.mem_cons_of_mem _ hu)).2 e
        · rw [List.mem_singleton.1 e] at hu; exact hn.1 hu
theorem mem_row {ws r : List Int} (hw : ws.Nodup) : r ∈ rowsOf ws ws.length [] ↔ isRow r ws = true := by
  rw [mem_rows, isRow, Bool.and_eq_true, decide_eq_true_eq, List.all_eq_true]
  constructor
  · rintro ⟨t, e, h1, h2, h3⟩
    rw [List.nil_append] at e
    subst e
    have hp := perm_of r ws h3 (fun v hv => (h2 v hv).1) (by omega)
    exact ⟨h1, fun v hv => by simpa using hp.mem_iff.2 hv⟩
  · rintro ⟨h1, h2⟩
    have hp := perm_of ws r hw (fun v hv => by simpa using h2 v hv) (by omega)
    exact ⟨r, by simp, h1, fun v hv => ⟨hp.mem_iff.2 hv, by simp⟩, hp.nodup_iff.1 hw⟩
theorem mem_order {ds : List De} {o : List (List Int)} : o ∈ ordersOf ds ↔ orderOk ds o = true := by
  have key : o ∈ ordersOf ds ↔ ∃ r0 r1 r2, o = [r0, r1, r2] ∧ isRow r0 (wrs 0 0 ds) = true ∧ isRow r1 (wrs 1 0 ds) = true ∧ isRow r2 (wrs 2 0 ds) = true := by
    unfold ordersOf addPlace
    simp only [List.mem_flatMap, List.mem_map, List.flatMap_cons, List.flatMap_nil, List.append_nil, List.nil_append]
    constructor
    · rintro ⟨o2, ⟨o1, ⟨r0, h0, rfl⟩, r1, h1, rfl⟩, r2, h2, rfl⟩
      exact ⟨r0, r1, r2, rfl, (mem_row (nodup_wrs _ _ _)).1 h0, (mem_row (nodup_wrs _ _ _)).1 h1, (mem_row (nodup_wrs _ _ _)).1 h2⟩
    · rintro ⟨r0, r1, r2, rfl, h0, h1, h2⟩
      exact ⟨[r0, r1], ⟨[r0], ⟨r0, (mem_row (nodup_wrs _ _ _)).2 h0, rfl⟩, r1, (mem_row (nodup_wrs _ _ _)).2 h1, rfl⟩, r2, (mem_row (nodup_wrs _ _ _)).2 h2, rfl⟩
  rw [key, orderOk, Bool.and_eq_true, decide_eq_true_eq]
  constructor
  · rintro ⟨r0, r1, r2, rfl, h0, h1, h2⟩
    refine ⟨rfl, ?_⟩
    simp only [orderAt, Bool.and_eq_true, and_true]
    exact ⟨h0, h1, h2⟩
  · rintro ⟨h1, h2⟩
    match o, h1, h2 with
    | [r0, r1, r2], _, h2 =>
      simp only [orderAt, Bool.and_eq_true, and_true] at h2
      exact ⟨r0, r1, r2, rfl, h2.1, h2.2.1, h2.2.2⟩
theorem mem_all {ds : List De} {f : List Int} {o : List (List Int)} : (f, o) ∈ allWays ds ↔ wayOk ds f o = true := by
  unfold allWays wayOk
  rw [List.mem_flatMap, Bool.and_eq_true, Bool.and_eq_true, ← mem_from, ← mem_order]
  constructor
  · rintro ⟨g, hg, hm⟩
    by_cases he : ends ds g = true
    · rw [if_pos he, List.mem_map] at hm
      obtain ⟨o', ho, e⟩ := hm
      cases e
      exact ⟨hg, ho, he⟩
    · rw [if_neg he] at hm; cases hm
  · rintro ⟨h1, h2, h3⟩
    exact ⟨f, h1, by rw [if_pos h3, List.mem_map]; exact ⟨o, h2, rfl⟩⟩
/-- Each once. -/
theorem nodup_from {ds : List De} : ∀ (n : Nat) (f : List Int), f.length + n = ds.length → (fromsOf ds n f).Nodup
  | 0, f, h => by simp [fromsOf]
  | n + 1, f, h => by
    have hlt : f.length < ds.length := by omega
    have ih : ∀ v : Int, (fromsOf ds n (f ++ [v])).Nodup := fun v => nodup_from n _ (by simp; omega)
    have ne : ∀ (u v : Int), u ≠ v → ∀ x ∈ fromsOf ds n (f ++ [u]), ∀ y ∈ fromsOf ds n (f ++ [v]), x ≠ y := fun u v huv x hx y hy e => by
      subst e
      have h1 := fromsOf_pre ds n _ x hx
      have h2 := fromsOf_pre ds n _ x hy
      rw [List.length_append, List.length_singleton] at h1 h2
      rw [h1] at h2
      have := List.append_cancel_left h2
      simp at this
      exact huv this
    cases hr : De.reads ds[f.length]
    · rw [froms_no hlt rfl hr]; exact ih _
    · rw [froms_yes hlt rfl hr, List.nodup_append]
      refine ⟨ih _, ?_, fun x hx y hy => ?_⟩
      · exact List.pairwise_flatMap.2 ⟨fun v _ => ih v, (nodup_wrs _ _ _).imp fun huv x hx y hy => ne _ _ huv x hx y hy⟩
      · obtain ⟨v, hv, hm⟩ := List.mem_flatMap.1 hy
        refine ne _ _ (fun e => ?_) x hx y hm
        obtain ⟨i, _, e2, _⟩ := mem_wrs.1 hv
        omega
theorem nodup_rows {ws : List Int} (hw : ws.Nodup) : ∀ (n : Nat) (h : List Int), (rowsOf ws n h).Nodup
  | 0, h => by simp [rowsOf]
  | n + 1, h => by
    rw [rowsOf]
    refine List.pairwise_flatMap.2 ⟨fun v _ => ?_, hw.imp fun huv x hx y hy e => ?_⟩
    · split
      · exact List.Pairwise.nil
      · exact nodup_rows hw n _
    · rename_i a b
      subst e
      split at hx
      · cases hx
      · split at hy
        · cases hy
        · obtain ⟨t, e1, _⟩ := (mem_rows n _ x).1 hx
          obtain ⟨t', e2, _⟩ := (mem_rows n _ x).1 hy
          rw [e1, List.append_assoc, List.append_assoc] at e2
          have := List.append_cancel_left e2
          simp at this
          exact huv this.1
theorem nodup_add {rows : List (List Int)} {out : List (List (List Int))} (hr : rows.Nodup) (ho : out.Nodup) : (addPlace rows out).Nodup := by
  refine List.pairwise_flatMap.2 ⟨fun o _ => ?_, ho.imp fun hne x hx y hy e => ?_⟩
  · rw [List.pairwise_map]
    exact hr.imp fun hne e => hne (by have := List.append_cancel_left e; simpa using this)
  · rename_i a b
    obtain ⟨r, _, rfl⟩ := List.mem_map.1 hx
    obtain ⟨r', _, e'⟩ := List.mem_map.1 hy
    have := congrArg List.dropLast (e.trans e'.symm)
    simp at this
    exact hne this
theorem nodup_all (ds : List De) : (allWays ds).Nodup := by
  have ho : (ordersOf ds).Nodup := nodup_add (nodup_rows (nodup_wrs _ _ _) _ _) (nodup_add (nodup_rows (nodup_wrs _ _ _) _ _) (nodup_add (nodup_rows (nodup_wrs _ _ _) _ _) (by simp)))
  refine List.pairwise_flatMap.2 ⟨fun f _ => ?_, (nodup_from ds.length [] (by simp)).imp fun hne x hx y hy e => ?_⟩
  · split
    · rw [List.pairwise_map]
      exact ho.imp fun hne e => hne (by cases e; rfl)
    · exact List.Pairwise.nil
  · rename_i a b
    subst e
    split at hx
    · split at hy
      · obtain ⟨o, _, rfl⟩ := List.mem_map.1 hx
        obtain ⟨o', _, e'⟩ := List.mem_map.1 hy
        cases e'
        exact hne rfl
      · cases hy
    · cases hx
/-- There is one. -/
theorem isRow_self (ws : List Int) : isRow ws ws = true := by
  simp [isRow]
theorem first_ok (ll : List (List D)) : (init (deeds ll), [wrs 0 0 (deeds ll), wrs 1 0 (deeds ll), wrs 2 0 (deeds ll)]) ∈ allWays (deeds ll) := by
  rw [mem_all]
  have he := ends_init (cop_deeds ll)
  have ho : orderOk (deeds ll) [wrs 0 0 (deeds ll), wrs 1 0 (deeds ll), wrs 2 0 (deeds ll)] = true := by
    simp only [orderOk, orderAt, Bool.and_eq_true, decide_eq_true_eq, and_true]
    exact ⟨rfl, isRow_self _, isRow_self _, isRow_self _⟩
  have hf : fromOk (deeds ll) (init (deeds ll)) = true := by
    rw [fromOk, Bool.and_eq_true, decide_eq_true_eq]
    have hl : (init (deeds ll)).length = (deeds ll).length := by simp [init]
    refine ⟨hl, (fromAt_iff _ _ hl).2 fun i hi => ?_⟩
    rw [mayTell_iff, List.getD_eq_getElem?_getD]
    simp only [init, List.getElem?_map, List.getElem?_eq_getElem hi, Option.map_some, Option.getD_some]
    split
    · exact Or.inl rfl
    · rfl
  rw [wayOk, hf, ho, he]; rfl
theorem ways_pos (ll : List (List D)) : 0 < (allWays (deeds ll)).length := List.length_pos_of_mem (first_ok ll)
end M
end Go.Proofs.Ytelmclbojpbcbaa

namespace Go.Proofs.Ytelmclbojpbcbaa
namespace M

theorem comp_self (l : List Int) : comp l l = 0 := by
  induction l with
  | nil => rfl
  | cons x l ih => rw [comp, if_neg (by omega), if_neg (by omega)]; exact ih
theorem comp_zero : ∀ l m : List Int, comp l m = 0 → l = m
  | [], [], _ => rfl
  | [], _ :: _, h => by rw [comp] at h; cases h
  | _ :: _, [], h => by rw [comp] at h; cases h
  | x :: l, y :: m, h => by
    rw [comp] at h
    by_cases h1 : x < y
    · rw [if_pos h1] at h; cases h
    · rw [if_neg h1] at h
      by_cases h2 : y < x
      · rw [if_pos h2] at h; cases h
      · rw [if_neg h2] at h
        rw [comp_zero l m h, show x = y by omega]
theorem comp_neg : ∀ l m : List Int, comp m l = - comp l m
  | [], [] => rfl
  | [], _ :: _ => rfl
  | _ :: _, [] => rfl
  | x :: l, y :: m => by
    rw [comp, comp]
    by_cases h1 : x < y
    · rw [if_pos h1, if_neg (by omega), if_pos h1]; rfl
    · by_cases h2 : y < x
      · rw [if_pos h2, if_neg h1, if_pos h2]
      · rw [if_neg h2, if_neg h1, if_neg h1, if_neg h2]; exact comp_neg l m
theorem comp_trans : ∀ l m n : List Int, comp l m < 0 → comp m n < 0 → comp l n < 0
  | [], [], _, h, _ => by rw [comp] at h; omega
  | [], _ :: _, [], _, h => by rw [comp] at h; omega
  | [], _ :: _, _ :: _, _, _ => by rw [comp]; omega
  | _ :: _, [], _, h, _ => by rw [comp] at h; omega
  | _ :: _, _ :: _, [], _, h => by rw [comp] at h; omega
  | x :: l, y :: m, z :: n, h, k => by
    rw [comp] at h k ⊢
    by_cases h1 : x < y
    · by_cases k1 : y < z
      · rw [if_pos (by omega)]; omega
      · rw [if_neg k1] at k
        by_cases k2 : z < y
        · rw [if_pos k2] at k; omega
        · rw [if_pos (by omega)]; omega
    · rw [if_neg h1] at h
      by_cases h2 : y < x
      · rw [if_pos h2] at h; omega
      · rw [if_neg h2] at h
        by_cases k1 : y < z
        · rw [if_pos (by omega)]; omega
        · rw [if_neg k1] at k
          by_cases k2 : z < y
          · rw [if_pos k2] at k; omega
          · rw [if_neg k2] at k
            rw [if_neg (by omega), if_neg (by omega)]
            exact comp_trans l m n h k

theorem cmpS_self (a b : List Int) : cmpS a b a b = 0 := by rw [cmpS, comp_self, if_pos rfl, comp_self]
theorem cmpS_zero {a1 a2 b1 b2 : List Int} (h : cmpS a1 a2 b1 b2 = 0) : a1 = b1 ∧ a2 = b2 := by
  unfold cmpS at h
  by_cases h0 : comp a1 b1 = 0
  · rw [if_pos h0] at h; exact ⟨comp_zero _ _ h0, comp_zero _ _ h⟩
  · rw [if_neg h0] at h; exact absurd h h0
theorem cmpS_neg (a1 a2 b1 b2 : List Int) : cmpS b1 b2 a1 a2 = - cmpS a1 a2 b1 b2 := by
  unfold cmpS
  rw [comp_neg a1 b1, comp_neg a2 b2]
  by_cases h0 : comp a1 b1 = 0
  · rw [if_pos h0, if_pos (by omega)]
  · rw [if_neg h0, if_neg (by omega)]
theorem cmpS_trans {a1 a2 b1 b2 c1 c2 : List Int} (h : cmpS a1 a2 b1 b2 < 0) (k : cmpS b1 b2 c1 c2 < 0) : cmpS a1 a2 c1 c2 < 0 := by
  unfold cmpS at h k ⊢
  by_cases h0 : comp a1 b1 = 0
  · rw [if_pos h0] at h
    have e := comp_zero _ _ h0
    subst e
    by_cases k0 : comp a1 c1 = 0
    · rw [if_pos k0] at k ⊢; exact comp_trans _ _ _ h k
    · rw [if_neg k0] at k ⊢; exact k
  · rw [if_neg h0] at h
    by_cases k0 : comp b1 c1 = 0
    · have e := comp_zero _ _ k0
      subst e
      rw [if_neg h0]; exact h
    · rw [if_neg k0] at k
      have ht := comp_trans _ _ _ h k
      rw [if_neg (by omega)]; exact ht

/-- The same numbers. -/
def same : List Int → List Int → Bool
  | [], [] => true
  | x :: l, y :: m => x == y && same l m
  | _, _ => false
theorem same_eq : ∀ l m : List Int, same l m = true ↔ l = m
  | [], [] => by simp [same]
  | [], _ :: _ => by simp [same]
  | _ :: _, [] => by simp [same]
  | x :: l, y :: m => by simp [same, same_eq l m]
def sameS (a1 a2 b1 b2 : List Int) : Bool := same a1 b1 && same a2 b2
theorem sameS_eq (a1 a2 b1 b2 : List Int) : sameS a1 a2 b1 b2 = decide (cmpS a1 a2 b1 b2 = 0) := by
  by_cases h : cmpS a1 a2 b1 b2 = 0
  · obtain ⟨rfl, rfl⟩ := cmpS_zero h
    simp [sameS, h, (same_eq _ _).2]
  · rw [decide_eq_false h]
    by_cases h1 : a1 = b1
    · by_cases h2 : a2 = b2
      · subst h1; subst h2; exact absurd (cmpS_self _ _) h
      · have : same a2 b2 = false := by
          cases e : same a2 b2
          · rfl
          · exact absurd ((same_eq _ _).1 e) h2
        rw [sameS, this, Bool.and_false]
    · have : same a1 b1 = false := by
        cases e : same a1 b1
        · rfl
        · exact absurd ((same_eq _ _).1 e) h1
      rw [sameS, this, Bool.false_and]

theorem same_len {l m : List Int} (h : l.length ≠ m.length) : same l m = false := by
  cases e : same l m
  · rfl
  · exact absurd (congrArg List.length ((same_eq _ _).1 e)) h
theorem same_bad {l m : List Int} {n : Nat} {x y : Int} (hd : l.drop n = x :: l.drop (n + 1)) (hm : m.drop n = y :: m.drop (n + 1)) (hxy : ¬ x = y) : same l m = false := by
  cases e : same l m
  · rfl
  · have := (same_eq _ _).1 e
    subst this
    rw [hd] at hm
    simp at hm
    exact absurd hm hxy
theorem same_fin {l m : List Int} (hl : l.length = m.length) (h : ∀ q (h1 : q < l.length) (h2 : q < m.length), l[q] = m[q]) : same l m = true :=
  (same_eq _ _).2 (List.ext_getElem hl h)

end M
end Go.Proofs.Ytelmclbojpbcbaa

namespace Go.Proofs.Ytelmclbojpbcbaa
open Go.RowKit Go.Shelf

set_option maxHeartbeats 400000 in
theorem lpIntsX_any (a : Option Addr) (b o c : Nat) (l : List Int) (a2 : Option Addr) (b2 o2 c2 : Nat) (m : List Int) (w : World) (hl : l.length ≤ 1048576) (h : IntS w a b o l) (h2 : IntS w a2 b2 o2 m) :
    Calls Try.prog 40 #[.slice a l.length c, .slice a2 m.length c2] w fun e w' => e = .returned (.bool (M.same l m)) ∧ Grown w w' := by
  by_cases hlm : l.length = m.length
  · have hlm' : ((l.length : Int) == m.length) = true := by simp; omega
    have hlm2 : (l.length : Int) = m.length := by omega
    go_enter Try.func40, Try.ntmps40
    go_wp2_with fail
    go_loopw [5] (fun s5 wr => ∃ n : Nat, s5 = .int .i64 n ∧ n ≤ l.length ∧ (∀ q (_ : q < n) (h1 : q < l.length) (h2 : q < m.length), l[q] = m[q]) ∧ Grown w wr) (fun s5 _ => l.length - (intOf s5).toNat)
    case atStart => exact ⟨0, rfl, Nat.zero_le _, fun _ hq _ _ => absurd hq (Nat.not_lt_zero _), Grown.refl _⟩
    case round =>
      obtain ⟨n, rfl, hn, hall, hg⟩ := hrel
      have HA : Hid (∀ q (_ : q < n) (h1 : q < l.length) (h2 : q < m.length), l[q] = m[q]) := hall
      clear hall
      by_cases hlt : n < l.length
      · have hmt : n < m.length := by omega
        obtain ⟨rfl⟩ := h.addr (by omega)
        obtain ⟨rfl⟩ := h2.addr (by omega)
        have hc := (h.below hg.bel (Nat.le_refl _)).row n hlt
        have hc2 := (h2.below hg.bel (Nat.le_refl _)).row n hmt
        have HD : Hid (l.drop n = l[n] :: l.drop (n + 1)) := M.drop_int l n hlt
        have HD2 : Hid (m.drop n = m[n] :: m.drop (n + 1)) := M.drop_int m n hmt
        have i1 : (n : Int) < l.length := by omega
        have i2 : (n : Int) < m.length := by omega
        by_cases hxy : l[n] = m[n]
        · have HX : Hid (l[n] = m[n]) := hxy
          rw [← hxy] at hc2
          clear hxy HD HD2
          generalize l[n] = x at hc hc2
          go_wp2_with fail
          go_quiet (fail)
          go_wp2_with fail
          exact ⟨⟨n + 1, by go_num, by omega, fun q hq h1 h2 => by
            by_cases e : q = n
            · subst e; exact HX.out
            · exact HA.out q (by omega) h1 h2, hg.drewN _⟩, by simp [intOf]; omega⟩
        · generalize l[n] = x at hc hxy HD
          generalize m[n] = y at hc2 hxy HD2
          have hxy' : (x == y) = false := by simpa using hxy
          go_wp2_with fail
          go_quiet (fail)
          go_wp2_with fail
          go_ret
          exact ⟨ret_bool (M.same_bad HD.out HD2.out hxy).symm, hg.drewN _⟩
      · go_wp2_with fail
        go_ret
        exact ⟨ret_bool (M.same_fin hlm fun q h1 h2 => HA.out q (by omega) h1 h2).symm, hg⟩
  · have hlm' : ((l.length : Int) == m.length) = false := by simp; omega
    have hlm2 : ¬ (l.length : Int) = m.length := by omega
    go_enter Try.func40, Try.ntmps40
    go_wp2_with fail
    go_ret
    exact ⟨ret_bool (M.same_len hlm).symm, Grown.refl _⟩


/-- A list of ways, read. -/
structure LW (w : World) (a : Option Addr) (g : Nat) (xs : List M.Wy) : Prop where
  addr : 0 < xs.length → a = some ⟨g, 0, none⟩
  row : ∀ i (h : i < xs.length), ∃ fa fb fc ra rb rc, w.cell? ⟨g, i * 2, none⟩ = some (.slice fa xs[i].1.length fc) ∧ w.cell? ⟨g, i * 2 + 1, none⟩ = some (.slice ra xs[i].2.length rc) ∧ IntS w fa fb 0 xs[i].1 ∧ IntSS w ra rb 0 xs[i].2
theorem LW.below {w w' : World} {a : Option Addr} {g : Nat} {xs : List M.Wy} (h : LW w a g xs) (hb : Below w.heap.size w w') : LW w' a g xs :=
  ⟨h.addr, fun i hi => by
    obtain ⟨fa, fb, fc, ra, rb, rc, h1, h2, h3, h4⟩ := h.row i hi
    exact ⟨fa, fb, fc, ra, rb, rc, (hb.cell (p := ⟨g, i * 2, none⟩) (World.block_lt_of_cell? _ _ h1)).trans h1, (hb.cell (p := ⟨g, i * 2 + 1, none⟩) (World.block_lt_of_cell? _ _ h2)).trans h2, h3.below hb (Nat.le_refl _), h4.below hb (Nat.le_refl _)⟩⟩

/-- Two ways are the same. -/
def M.eqWy (x y : M.Wy) : Bool := decide (x = y)
theorem M.eqWy_no1 {x y : M.Wy} (h : M.same x.1 y.1 = false) : M.eqWy x y = false := by
  have : ¬ x = y := fun e => by rw [e, (M.same_eq y.1 y.1).2 rfl] at h; cases h
  simp [M.eqWy, this]
theorem M.eqWy_no2 {x y : M.Wy} (h : x.2.length ≠ y.2.length) : M.eqWy x y = false := by
  have : ¬ x = y := fun e => h (by rw [e])
  simp [M.eqWy, this]
theorem M.eqWy_no3 {x y : M.Wy} {n : Nat} (h1 : n < x.2.length) (h2 : n < y.2.length) (h : M.same x.2[n] y.2[n] = false) : M.eqWy x y = false := by
  have : ¬ x = y := fun e => by
    subst e
    rw [(M.same_eq x.2[n] x.2[n]).2 rfl] at h; cases h
  simp [M.eqWy, this]
theorem M.eqWy_yes {x y : M.Wy} (h1 : M.same x.1 y.1 = true) (h2 : x.2.length = y.2.length) (h : ∀ q (h1 : q < x.2.length) (h2 : q < y.2.length), x.2[q] = y.2[q]) : M.eqWy x y = true := by
  have : x = y := Prod.ext ((M.same_eq _ _).1 h1) (List.ext_getElem h2 h)
  simp [M.eqWy, this]

set_option maxHeartbeats 1000000 in
set_option maxRecDepth 100000 in
theorem lpExec_any (x y : M.Wy) (fa : Option Addr) (fb fc : Nat) (ra : Option Addr) (rb rc : Nat) (fa2 : Option Addr) (fb2 fc2 : Nat) (ra2 : Option Addr) (rb2 rc2 : Nat) (w : World) (hl1 : x.1.length ≤ 1048576) (hl2 : x.2.length ≤ 1048576) (hl3 : ∀ r ∈ x.2, r.length ≤ 1048576) (h1 : IntS w fa fb 0 x.1) (h2 : IntSS w ra rb 0 x.2) (h3 : IntS w fa2 fb2 0 y.1) (h4 : IntSS w ra2 rb2 0 y.2) :
    Calls Try.prog 17 #[.agg #[.slice fa x.1.length fc, .slice ra x.2.length rc], .agg #[.slice fa2 y.1.length fc2, .slice ra2 y.2.length rc2]] w fun e w' => e = .returned (.bool (M.eqWy x y)) ∧ Below w.heap.size w w' := by
  have b2 := below2 w (.cells #[.slice fa x.1.length fc, .slice ra x.2.length rc] 43) (.cells #[.slice fa2 y.1.length fc2, .slice ra2 y.2.length rc2] 43)
  have ka0 : ((w.alloc (.cells #[.slice fa x.1.length fc, .slice ra x.2.length rc] 43)).alloc (.cells #[.slice fa2 y.1.length fc2, .slice ra2 y.2.length rc2] 43)).cell? ⟨w.heap.size, 0, none⟩ = some (.slice fa x.1.length fc) := by simp [go_sem]
  have ka1 : ((w.alloc (.cells #[.slice fa x.1.length fc, .slice ra x.2.length rc] 43)).alloc (.cells #[.slice fa2 y.1.length fc2, .slice ra2 y.2.length rc2] 43)).cell? ⟨w.heap.size, 1, none⟩ = some (.slice ra x.2.length rc) := by simp [go_sem]
  have kb0 : ((w.alloc (.cells #[.slice fa x.1.length fc, .slice ra x.2.length rc] 43)).alloc (.cells #[.slice fa2 y.1.length fc2, .slice ra2 y.2.length rc2] 43)).cell? ⟨w.heap.size + 1, 0, none⟩ = some (.slice fa2 y.1.length fc2) := by simp [go_sem]
  have kb1 : ((w.alloc (.cells #[.slice fa x.1.length fc, .slice ra x.2.length rc] 43)).alloc (.cells #[.slice fa2 y.1.length fc2, .slice ra2 y.2.length rc2] 43)).cell? ⟨w.heap.size + 1, 1, none⟩ = some (.slice ra2 y.2.length rc2) := by simp [go_sem]
  have sz0 : ((w.alloc (.cells #[.slice fa x.1.length fc, .slice ra x.2.length rc] 43)).alloc (.cells #[.slice fa2 y.1.length fc2, .slice ra2 y.2.length rc2] 43)).heap.size = w.heap.size + 2 := by simp
  go_enter Try.func17, Try.ntmps17
  go_wp2_with fail
  generalize (w.alloc (.cells #[.slice fa x.1.length fc, .slice ra x.2.length rc] 43)).alloc (.cells #[.slice fa2 y.1.length fc2, .slice ra2 y.2.length rc2] 43) = W0 at *
  have C1 := lpIntsX_any fa fb 0 fc x.1 fa2 fb2 0 fc2 y.1 W0 hl1 (h1.below b2 (Nat.le_refl _)) (h3.below b2 (Nat.le_refl _))
  have lw : w.heap.size < W0.heap.size := by omega
  have lw1 : w.heap.size + 1 < W0.heap.size := by omega
  cases hs : M.same x.1 y.1
  · rw [hs] at C1
    refine C1.mono ?_
    rintro e W1 ⟨rfl, g1⟩
    have HR : Hid (M.eqWy x y = false) := M.eqWy_no1 hs
    clear hs C1
    go_wp2_with fail
    go_ret
    exact ⟨ret_bool HR.out.symm, b2.trans (g1.bel.mono b2.size)⟩
  · rw [hs] at C1
    refine C1.mono ?_
    rintro e W1 ⟨rfl, g1⟩
    have q0 := (g1.bel.cell (p := ⟨w.heap.size, 1, none⟩) lw).trans ka1
    have q1 := (g1.bel.cell (p := ⟨w.heap.size + 1, 1, none⟩) lw1).trans kb1
    have bw1 := b2.trans (g1.bel.mono b2.size)
    by_cases hln : x.2.length = y.2.length
    · have HL : Hid (x.2.length = y.2.length) := hln
      have hn1 : ((x.2.length : Int) != y.2.length) = false := by simp; omega
      have HS : Hid (M.same x.1 y.1 = true) := hs
      have hly : y.2.length ≤ 1048576 := by omega
      clear hln hs C1
      go_wp2_with fail
      go_loopw [5] (fun s5 wr => ∃ n : Nat, s5 = .int .i64 n ∧ n ≤ x.2.length ∧ Hid (∀ q (_ : q < n) (h1 : q < x.2.length) (h2 : q < y.2.length), x.2[q] = y.2[q]) ∧ Below W1.heap.size W1 wr) (fun s5 _ => x.2.length - (intOf s5).toNat)
      case atStart => exact ⟨0, rfl, Nat.zero_le _, (fun _ hq _ _ => absurd hq (Nat.not_lt_zero _)), Below.refl _ _⟩
      case round =>
        obtain ⟨n, rfl, hn, HA, hb⟩ := hrel
        have s1 := g1.bel.size
        have r0 := (hb.cell (p := ⟨w.heap.size, 1, none⟩) (by show w.heap.size < _; omega)).trans q0
        have r1 := (hb.cell (p := ⟨w.heap.size + 1, 1, none⟩) (by show w.heap.size + 1 < _; omega)).trans q1
        have hbw := bw1.trans (hb.mono bw1.size)
        by_cases hlt : n < x.2.length
        · have hmt : n < y.2.length := by have := HL.out; omega
          obtain rfl := h2.addr (by omega)
          obtain rfl := h4.addr (by omega)
          obtain ⟨a', b', o', c', hc, hd⟩ := (h2.below hbw (Nat.le_refl _)).row n hlt
          obtain ⟨a3, b3, o3, c3, hc3, hd3⟩ := (h4.below hbw (Nat.le_refl _)).row n hmt
          rw [Nat.zero_add] at hc hc3
          have i1 : (n : Int) < x.2.length := by omega
          have i2 : (n : Int) < y.2.length := by omega
          have i0 : ¬ (n : Int) < 0 := by omega
          have hrl := hl3 _ (List.getElem_mem hlt)
          have lb : rb < wr.heap.size := World.block_lt_of_cell? _ _ hc
          have lb3 : rb2 < wr.heap.size := World.block_lt_of_cell? _ _ hc3
          have HSM : Hid (M.same x.2[n] y.2[n] = false → M.eqWy x y = false) := fun h => M.eqWy_no3 hlt hmt h
          have HSY : Hid (M.same x.2[n] y.2[n] = true → x.2[n] = y.2[n]) := fun h => (M.same_eq _ _).1 h
          have HN : Hid (∀ q (_ : q < n + 1) (h1 : q < x.2.length) (h2 : q < y.2.length), x.2[n] = y.2[n] → x.2[q] = y.2[q]) := fun q hq h1 h2 e => by
            by_cases eq : q = n
            · subst eq; exact e
            · exact HA.out q (by omega) h1 h2
          generalize x.2[n] = r at *
          generalize y.2[n] = r2 at *
          have CL := fun (W : World) (hb : Below wr.heap.size wr W) => lpIntsX_any a' b' o' c' r a3 b3 o3 c3 r2 W hrl (hd.below hb (Nat.le_refl _)) (hd3.below hb (Nat.le_refl _))
          have CC : ∀ W : World, Below wr.heap.size wr W → W.cell? ⟨w.heap.size, 1, none⟩ = some (.slice (some ⟨rb, 0, none⟩) x.2.length rc) ∧ W.cell? ⟨w.heap.size + 1, 1, none⟩ = some (.slice (some ⟨rb2, 0, none⟩) y.2.length rc2) ∧ W.cell? ⟨rb, n, none⟩ = some (.slice a' r.length c') ∧ W.cell? ⟨rb2, n, none⟩ = some (.slice a3 r2.length c3) := fun W hbW => ⟨(hbW.cell (p := ⟨w.heap.size, 1, none⟩) (World.block_lt_of_cell? _ _ r0)).trans r0, (hbW.cell (p := ⟨w.heap.size + 1, 1, none⟩) (World.block_lt_of_cell? _ _ r1)).trans r1, (hbW.cell (p := ⟨rb, n, none⟩) lb).trans hc, (hbW.cell (p := ⟨rb2, n, none⟩) lb3).trans hc3⟩
          go_wp2_with fail
          refine wp_region_held_drew (S := fun w' => Below wr.heap.size wr w') (by kernel_rfl) (Below.refl _ _).drew (fun hH => ?_)
          refine takeD 0 (some 28) (.pointer (some ⟨w.heap.size, 1, none⟩)) hH rfl rfl (by kernel_rfl) (by kernel_rfl) (by kernel_rfl) (fun _ _ _ h => h) (Or.inl ⟨by rfl, by intro w' hSw; obtain ⟨q1, q2, q3, q4⟩ := CC w' hSw; go_simp⟩) ?_
          simp only [Act.put, List.setIfInBounds_toArray, List.set_cons_zero, List.set_cons_succ]
          refine takeD 1 (some 29) (.slice (some ⟨rb, 0, none⟩) x.2.length rc) hH rfl rfl (by kernel_rfl) (by kernel_rfl) (by kernel_rfl) (fun _ _ _ h => h) (Or.inl ⟨by rfl, by intro w' hSw; obtain ⟨q1, q2, q3, q4⟩ := CC w' hSw; go_simp⟩) ?_
          simp only [Act.put, List.setIfInBounds_toArray, List.set_cons_zero, List.set_cons_succ]
          refine takeD 2 (some 30) (.int .i64 n) hH rfl rfl (by kernel_rfl) (by kernel_rfl) (by kernel_rfl) (fun _ _ _ h => h) (Or.inl ⟨by rfl, by intro w' hSw; obtain ⟨q1, q2, q3, q4⟩ := CC w' hSw; go_simp⟩) ?_
          simp only [Act.put, List.setIfInBounds_toArray, List.set_cons_zero, List.set_cons_succ]
          refine takeD 3 (some 31) (.pointer (some ⟨rb, n, none⟩)) hH rfl rfl (by kernel_rfl) (by kernel_rfl) (by kernel_rfl) (fun _ _ _ h => h) (Or.inl ⟨by rfl, by intro w' hSw; obtain ⟨q1, q2, q3, q4⟩ := CC w' hSw; go_simp⟩) ?_
          simp only [Act.put, List.setIfInBounds_toArray, List.set_cons_zero, List.set_cons_succ]
          refine takeD 4 (some 32) (.slice a' r.length c') hH rfl rfl (by kernel_rfl) (by kernel_rfl) (by kernel_rfl) (fun _ _ _ h => h) (Or.inl ⟨by rfl, by intro w' hSw; obtain ⟨q1, q2, q3, q4⟩ := CC w' hSw; go_simp⟩) ?_
          simp only [Act.put, List.setIfInBounds_toArray, List.set_cons_zero, List.set_cons_succ]
          refine takeD 5 (some 33) (.pointer (some ⟨w.heap.size + 1, 1, none⟩)) hH rfl rfl (by kernel_rfl) (by kernel_rfl) (by kernel_rfl) (fun _ _ _ h => h) (Or.inl ⟨by rfl, by intro w' hSw; obtain ⟨q1, q2, q3, q4⟩ := CC w' hSw; go_simp⟩) ?_
          simp only [Act.put, List.setIfInBounds_toArray, List.set_cons_zero, List.set_cons_succ]
          refine takeD 6 (some 34) (.slice (some ⟨rb2, 0, none⟩) y.2.length rc2) hH rfl rfl (by kernel_rfl) (by kernel_rfl) (by kernel_rfl) (fun _ _ _ h => h) (Or.inl ⟨by rfl, by intro w' hSw; obtain ⟨q1, q2, q3, q4⟩ := CC w' hSw; go_simp⟩) ?_
          simp only [Act.put, List.setIfInBounds_toArray, List.set_cons_zero, List.set_cons_succ]
          refine takeD 7 (some 35) (.int .i64 n) hH rfl rfl (by kernel_rfl) (by kernel_rfl) (by kernel_rfl) (fun _ _ _ h => h) (Or.inl ⟨by rfl, by intro w' hSw; obtain ⟨q1, q2, q3, q4⟩ := CC w' hSw; go_simp⟩) ?_
          simp only [Act.put, List.setIfInBounds_toArray, List.set_cons_zero, List.set_cons_succ]
          refine takeD 8 (some 36) (.pointer (some ⟨rb2, n, none⟩)) hH rfl rfl (by kernel_rfl) (by kernel_rfl) (by kernel_rfl) (fun _ _ _ h => h) (Or.inl ⟨by rfl, by intro w' hSw; obtain ⟨q1, q2, q3, q4⟩ := CC w' hSw; go_simp⟩) ?_
          simp only [Act.put, List.setIfInBounds_toArray, List.set_cons_zero, List.set_cons_succ]
          refine takeD 9 (some 37) (.slice a3 r2.length c3) hH rfl rfl (by kernel_rfl) (by kernel_rfl) (by kernel_rfl) (fun _ _ _ h => h) (Or.inl ⟨by rfl, by intro w' hSw; obtain ⟨q1, q2, q3, q4⟩ := CC w' hSw; go_simp⟩) ?_
          simp only [Act.put, List.setIfInBounds_toArray, List.set_cons_zero, List.set_cons_succ]
          cases hsm : M.same r r2
          · have CM := CL wr.drew hH
            rw [hsm] at CM
            refine wpAnyH_ready (rs := [10]) (by kernel_rfl) (by simp) ?_
            refine AllReadyH.cons rfl (fun K' hK => ?_) AllReadyH.nil
            refine step_goV (by rfl) (some 38) rfl 40 #[.tmp 32, .tmp 37] _ rfl #[.slice a' r.length c', .slice a3 r2.length c3] (by simp [Act.eval]) (enters_of Try.func40 (by kernel_rfl) rfl) CM ?_
            rintro e W5 ⟨rfl, g5⟩
            refine ⟨_, rfl, ?_⟩
            simp only [Act.put, List.setIfInBounds_toArray, List.set_cons_zero, List.set_cons_succ]
            have bL : Below wr.heap.size wr W5 := (Below.refl _ wr).drew.trans g5.bel
            refine hK.out _ _ bL (fun hH5 => ?_)
            clear hK K' CM
            refine takeD 11 (some 39) (.bool true) hH5 rfl rfl (by kernel_rfl) (by kernel_rfl) (by kernel_rfl) (fun _ _ _ h => h) (Or.inl ⟨by rfl, by intro w' hSw; go_simp⟩) ?_
            simp only [Act.put, List.setIfInBounds_toArray, List.set_cons_zero, List.set_cons_succ]
            refine wpAnyH_done (by kernel_rfl) ?_ _
            clear CC CL hc hc3 r0 r1
            go_wp2_with fail
            go_ret
            exact ⟨ret_bool (HSM.out hsm).symm, hbw.trans (bL.mono hbw.size)⟩
          · have CM := CL wr.drew hH
            rw [hsm] at CM
            refine wpAnyH_ready (rs := [10]) (by kernel_rfl) (by simp) ?_
            refine AllReadyH.cons rfl (fun K' hK => ?_) AllReadyH.nil
            refine step_goV (by rfl) (some 38) rfl 40 #[.tmp 32, .tmp 37] _ rfl #[.slice a' r.length c', .slice a3 r2.length c3] (by simp [Act.eval]) (enters_of Try.func40 (by kernel_rfl) rfl) CM ?_
            rintro e W5 ⟨rfl, g5⟩
            refine ⟨_, rfl, ?_⟩
            simp only [Act.put, List.setIfInBounds_toArray, List.set_cons_zero, List.set_cons_succ]
            have bL : Below wr.heap.size wr W5 := (Below.refl _ wr).drew.trans g5.bel
            refine hK.out _ _ bL (fun hH5 => ?_)
            clear hK K' CM
            refine takeD 11 (some 39) (.bool false) hH5 rfl rfl (by kernel_rfl) (by kernel_rfl) (by kernel_rfl) (fun _ _ _ h => h) (Or.inl ⟨by rfl, by intro w' hSw; go_simp⟩) ?_
            simp only [Act.put, List.setIfInBounds_toArray, List.set_cons_zero, List.set_cons_succ]
            refine wpAnyH_done (by kernel_rfl) ?_ _
            clear CC CL hc hc3 r0 r1
            go_wp2_with fail
            exact ⟨⟨n + 1, by go_num, by omega, (fun q hq h1 h2 => HN.out q hq h1 h2 (HSY.out hsm)), hb.trans (bL.mono hb.size)⟩, by simp [intOf]; omega⟩
        · have hne : ¬ (n : Int) < x.2.length := by omega
          have HR : Hid (M.eqWy x y = true) := M.eqWy_yes HS.out HL.out (fun q h1 h2 => HA.out q (by omega) h1 h2)
          go_wp2_with fail
          go_ret
          exact ⟨ret_bool HR.out.symm, hbw⟩
    · have HR : Hid (M.eqWy x y = false) := M.eqWy_no2 hln
      have hn1 : ((x.2.length : Int) != y.2.length) = true := by simp; omega
      clear hln hs C1
      go_wp2_with fail
      go_ret
      exact ⟨ret_bool HR.out.symm, bw1⟩

end Go.Proofs.Ytelmclbojpbcbaa

namespace Go.Proofs.Ytelmclbojpbcbaa
open Go.RowKit

theorem M.all_same (ll : List (List M.D)) : M.execAll ll = M.specAll ll := by
  unfold M.execAll M.specAll
  rw [M.ways_eq (M.cop_deeds ll)]
theorem M.mem_execAll {ll : List (List M.D)} {x : M.Wy} : x ∈ M.specAll ll ↔ M.execOk ll x.1 x.2 = true := by
  unfold M.specAll M.execOk
  cases hp : M.prog ll
  · simp
  · rw [if_pos rfl, Bool.true_and]
    exact M.mem_all
theorem M.all_pos (ll : List (List M.D)) : decide (0 < (M.specAll ll).length) = M.prog ll := by
  unfold M.specAll
  cases hp : M.prog ll
  · simp
  · rw [if_pos rfl]
    simpa using M.ways_pos ll
/-- What is known of each. -/
structure WyLe (x : M.Wy) : Prop where
  a : x.1.length ≤ 1048576
  b : x.2.length ≤ 1048576
  c : ∀ r ∈ x.2, r.length ≤ 1048576
theorem M.all_le {ll : List (List M.D)} (h : ∀ x ∈ M.execAll ll, WyOk (M.deeds ll) x) : ∀ x ∈ M.execAll ll, WyLe x := fun x hx => by
  have ho := h x hx
  have hp : M.prog ll = true := by
    cases hp : M.prog ll
    · simp [M.execAll, hp] at hx
    · rfl
  have hb := M.prog_le hp
  have hl := M.deeds_len hb.1 hb.2
  exact ⟨by have := ho.len; omega, by have := ho.ord; omega, fun r hr => by have := ho.row_le r hr; omega⟩

theorem cellsY_get (ys : List Y3) : ∀ i (h : i < ys.length), (cellsY ys)[i * 2]? = some ys[i].1 ∧ (cellsY ys)[i * 2 + 1]? = some ys[i].2.1 := by
  induction ys with
  | nil => intro i h; exact absurd h (Nat.not_lt_zero _)
  | cons y ys ih =>
    intro i h
    have e : cellsY (y :: ys) = y.1 :: y.2.1 :: cellsY ys := by simp [cellsY]
    rw [e]
    cases i with
    | zero => exact ⟨rfl, rfl⟩
    | succ i =>
      have := ih i (by simpa using h)
      rw [show (i + 1) * 2 = (i * 2) + 1 + 1 by omega]
      exact this
/-- A row of one's own, of things of two cells. -/
theorem own_two {w : World} {base n : Nat} {e : TypeId} {v : Value} {xs : List Value} (h : w.ownsRow base e 2 v n xs) : ∃ a g c, v = .slice a n c ∧ (0 < n → a = some ⟨g, 0, none⟩) ∧ ∀ j u, xs[j]? = some u → w.cell? ⟨g, j, none⟩ = some u := by
  rcases h.2 with ⟨hv, hn⟩ | ⟨g, cap, cur, hv, hg, hh, hc, r⟩
  · have hx : xs = [] := List.length_eq_zero_iff.1 (by rw [h.1, hn])
    subst hx
    exact ⟨none, 0, 0, by rw [hv, hn], fun h => absurd h (by omega), fun j u hj => (by simp at hj)⟩
  · refine ⟨_, g, cap, hv, fun _ => rfl, fun j u hj => ?_⟩
    have := h.cells (g := g) (by rw [hv]; rfl) j u hj
    rwa [Go.WideShapes.add_plain, Nat.zero_add] at this
theorem Xw.lw {W : World} {B : Nat} {fv ov : Value} {x : M.Wy} {cs : List Value} (h : Xw W B fv ov x.1 cs x.2) : ∃ fa fb fc ra rb rc, fv = .slice fa x.1.length fc ∧ ov = .slice ra x.2.length rc ∧ IntS W fa fb 0 x.1 ∧ IntSS W ra rb 0 x.2 := h.reads
theorem WL.lw {W : World} {base : Nat} {v : Value} {ys : List Y3} {xs : List M.Wy} (h : WL W base v ys xs) : ∃ a g c, v = .slice a xs.length c ∧ LW W a g xs := by
  obtain ⟨a, g, c, e1, e2, e3⟩ := own_two h.own
  refine ⟨a, g, c, e1, e2, fun i hi => ?_⟩
  have hi' : i < ys.length := by have := h.len.out; omega
  obtain ⟨c1, c2⟩ := cellsY_get ys i hi'
  obtain ⟨fa, fb, fc, ra, rb, rc, f1, f2, f3, f4⟩ := (h.row i hi hi').lw
  exact ⟨fa, fb, fc, ra, rb, rc, by rw [← f1]; exact e3 _ _ c1, by rw [← f2]; exact e3 _ _ c2, f3, f4⟩
theorem RXL.lw {W : World} {base n : Nat} {v : Value} {cs : List Value} {xs : List M.Wy} (h : RXL W base v cs n xs) : ∃ a g c, v = .slice a xs.length c ∧ LW W a g xs := by
  obtain ⟨a, g, c, e1, e2, e3⟩ := own_two h.own
  have hl := h.len.out
  rw [← hl] at e1 e2
  refine ⟨a, g, c, e1, e2, fun i hi => ?_⟩
  obtain ⟨fv, ov, rc0, c1, c2, hx, _⟩ := h.row i hi
  obtain ⟨fa, fb, fc, ra, rb, rc, f1, f2, f3, f4⟩ := hx.lw
  exact ⟨fa, fb, fc, ra, rb, rc, by rw [← f1]; exact e3 _ _ c1, by rw [← f2]; exact e3 _ _ c2, f3, f4⟩
theorem XaAns.lw {w w' : World} {ll : List (List M.D)} {v : Value} (h : XaAns w w' ll v) : ∃ a g c, v = .slice a (M.specAll ll).length c ∧ LW w' a g (M.specAll ll) ∧ (∀ x ∈ M.specAll ll, WyLe x) ∧ (M.specAll ll).length ≤ 5489031744 := by
  obtain ⟨ys, hw⟩ := h.ex
  have hle := M.all_le h.ok
  have hlen : (M.execAll ll).length ≤ 5489031744 := by
    unfold M.execAll
    cases hp : M.prog ll
    · simp
    · simpa using M.ways_le hp
  rw [M.all_same] at hw hle hlen
  obtain ⟨a, g, c, e, hl⟩ := hw.lw
  exact ⟨a, g, c, e, hl, hle, hlen⟩
theorem SxaAns.lw {w w' : World} {ll : List (List M.D)} {v : Value} (h : SxaAns w w' ll v) : ∃ a g c, v = .slice a (M.specAll ll).length c ∧ LW w' a g (M.specAll ll) := by
  obtain ⟨cs, n, hw, _⟩ := h.ex
  exact hw.lw

end Go.Proofs.Ytelmclbojpbcbaa
