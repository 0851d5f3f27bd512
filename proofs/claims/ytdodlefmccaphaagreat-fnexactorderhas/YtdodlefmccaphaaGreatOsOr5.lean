/- spec.OrderHas: what must be ahead of what by itself. Of at most 1048576 threads, steps, numbers and rows. -/
import Derived.Test.YtdodlefmccaphaaGreatOsOr4
import Derived.Test.YtdodlefmccaphaaGreatOrImp3
namespace Go.Proofs.YtdodlefmccaphaaGreat
open Go.RowKit

theorem M.rng_in (n : Int) (m : Nat) : M.rng 0 ((m : Int) - 1) n = M.inR n m := by
  unfold M.rng M.inR
  congr 1
  rw [decide_eq_decide]
  omega
theorem own_bools {w : World} {base g cap : Nat} {l : List Bool} (h : w.ownsRow base 4 1 (.slice (some ⟨g, 0, none⟩) l.length cap) l.length (bools l)) (i : Nat) (hi : i < l.length) : w.cell? ⟨g, i, none⟩ = some (.bool l[i]) := by
  have hc := h.cells (g := g) rfl i (.bool l[i]) (by simp [bools, hi])
  rwa [Go.WideShapes.add_plain, Nat.zero_add] at hc

set_option maxHeartbeats 2000000 in
set_option maxRecDepth 100000 in
theorem sorderHas_any (a : Option Addr) (b o c : Nat) (ll : List (List M.D)) (fa : Option Addr) (fb fo fc : Nat) (l : List Int) (ra : Option Addr) (rb ro rc : Nat) (rows : List (List Int)) (kind na nb : Int) (w : World) (hl : ll.length ≤ 1048576) (hls : ∀ t ∈ ll, t.length ≤ 1048576) (hl1 : l.length ≤ 1048576) (hrs : ∀ r ∈ rows, r.length ≤ 1048576) (h : DoSS w a b o ll) (hf : IntS w fa fb fo l) (hr : IntSS w ra rb ro rows) :
    Calls Tryz.prog 6 #[.agg #[.slice a ll.length c], .agg #[.slice fa l.length fc, .slice ra rows.length rc], .int .i64 kind, .int .i64 na, .int .i64 nb] w fun e w' => e = .returned (.bool (M.orderHas ll l rows kind na nb)) ∧ Below w.heap.size w w' := by
  have hb1 := below2 w (.cells #[.slice a ll.length c] 34) (.cells #[.slice fa l.length fc, .slice ra rows.length rc] 36)
  have kp : ((w.alloc (.cells #[.slice a ll.length c] 34)).alloc (.cells #[.slice fa l.length fc, .slice ra rows.length rc] 36)).cell? ⟨w.heap.size, 0, none⟩ = some (.slice a ll.length c) := by simp
  have k0 : ((w.alloc (.cells #[.slice a ll.length c] 34)).alloc (.cells #[.slice fa l.length fc, .slice ra rows.length rc] 36)).cell? ⟨w.heap.size + 1, 0, none⟩ = some (.slice fa l.length fc) := by simp
  have k1 : ((w.alloc (.cells #[.slice a ll.length c] 34)).alloc (.cells #[.slice fa l.length fc, .slice ra rows.length rc] 36)).cell? ⟨w.heap.size + 1, 1, none⟩ = some (.slice ra rows.length rc) := by simp
  have hp1 := h.below hb1 (Nat.le_refl _)
  have hf1 := hf.below hb1 (Nat.le_refl _)
  have hr1 := hr.below hb1 (Nat.le_refl _)
  clear h hf hr
  have C1 := sexecOk_any a b o c ll fa fb fo fc l ra rb ro rc rows _ hl hls hl1 hrs hp1 hf1 hr1
  cases hok : M.execOk ll l rows
  · rw [hok] at C1
    go_enter Tryz.func6, Tryz.ntmps6
    go_wp2_with fail
    refine C1.mono ?_
    rintro e w1 ⟨rfl, hb2⟩
    go_wp2_with fail
    go_ret
    exact ⟨ret_bool (by simp only [M.orderHas, hok, Bool.false_and, Bool.and_false]), hb1.trans (hb2.mono hb1.size)⟩
  · rw [hok] at C1
    cases hk : (decide (1 ≤ kind) && decide (kind ≤ 3))
    · go_enter Tryz.func6, Tryz.ntmps6
      go_wp2_with fail
      refine C1.mono ?_
      rintro e w1 ⟨rfl, hb2⟩
      have hk' : M.rng 1 3 kind = false := hk
      go_wp2_with (go_at_call 16; refine (l6In_any kind 1 3 _).mono ?_; rw [hk']; rintro e w' ⟨rfl, rfl⟩)
      go_ret
      exact ⟨ret_bool (by simp only [M.orderHas, hk, Bool.false_and]), hb1.trans (hb2.mono hb1.size)⟩
    · have hk' : M.rng 1 3 kind = true := hk
      have hW := M.wok_of hok
      have HO : Hid (M.orderHas ll l rows kind na nb = (M.inR na (M.deeds ll).length && (M.inR nb (M.deeds ll).length && M.mustAt (M.deeds ll) l rows kind.toNat na.toNat nb.toNat))) := by show _ = _; simp only [M.orderHas, hk, hok, Bool.true_and]
      obtain ⟨h3, h7⟩ := M.prog_bounds hW.prog
      have hdl := M.deeds_len h3 h7
      go_enter Tryz.func6, Tryz.ntmps6
      go_wp2_with fail
      refine C1.mono ?_
      rintro e w1 ⟨rfl, hb2⟩
      have hb12 := hb1.trans (hb2.mono hb1.size)
      have kp1 := cellC hb2 kp
      have k01 := cellC hb2 k0
      have k11 := cellC hb2 k1
      have hp2 := hp1.below hb2 (Nat.le_refl _)
      have hf2 := hf1.below hb2 (Nat.le_refl _)
      have hr2 := hr1.below hb2 (Nat.le_refl _)
      clear kp k0 k1 hp1 hf1 hr1 C1 hb1 hb2
      go_wp2_with (go_at_call 16; refine (l6In_any kind 1 3 _).mono ?_; rw [hk']; rintro e w1x ⟨rfl, rfl⟩)
      refine (l13Look_any a b o c ll _ hW.prog hl hls hdl hp2).mono ?_
      rintro e w3 ⟨O, va, g, cc, v1, v2, rfl, hLk⟩
      have hb13 := hb12.trans (hLk.bel.mono hb12.size)
      have k03 := cellC hLk.bel k01
      have k13 := cellC hLk.bel k11
      have c1 : w3.cell? ⟨O, 1, none⟩ = some (.slice va (M.deeds ll).length cc) := by simp [World.cell?, hLk.blk]
      have hra := M.rng_in na (M.deeds ll).length
      have hrb := M.rng_in nb (M.deeds ll).length
      have wr1 : IntKind.i64.wrap (((M.deeds ll).length : Int) - 1) = ((M.deeds ll).length : Int) - 1 := by rw [IntKind.wrap_i64]; omega
      cases ha : M.inR na (M.deeds ll).length
      · rw [ha] at hra
        go_wp2_with (go_at_call_of 16 (Value.int .i64 na); refine (l6In_any na 0 (((M.deeds ll).length : Int) - 1) _).mono ?_; rw [hra]; rintro e w3x ⟨rfl, rfl⟩)
        go_ret
        exact ⟨ret_bool (by rw [HO.out, ha]; rfl), hb13⟩
      · rw [ha] at hra
        cases hb : M.inR nb (M.deeds ll).length
        · rw [hb] at hrb
          go_wp2_with (first | (go_at_call_of 16 (Value.int .i64 na); refine (l6In_any na 0 (((M.deeds ll).length : Int) - 1) _).mono ?_; rw [hra]; rintro e w3x ⟨rfl, rfl⟩) | (go_at_call_of 16 (Value.int .i64 nb); refine (l6In_any nb 0 (((M.deeds ll).length : Int) - 1) _).mono ?_; rw [hrb]; rintro e w3y ⟨rfl, rfl⟩))
          go_ret
          exact ⟨ret_bool (by rw [HO.out, ha, hb]; rfl), hb13⟩
        · rw [hb] at hrb
          have ha' : 0 ≤ na ∧ na < (M.deeds ll).length := by simpa [M.inR] using ha
          have hb' : 0 ≤ nb ∧ nb < (M.deeds ll).length := by simpa [M.inR] using hb
          have hk4 : kind = 1 ∨ kind = 2 ∨ kind = 3 := by simp only [Bool.and_eq_true, decide_eq_true_eq] at hk; omega
          obtain ⟨pa, rfl⟩ : ∃ p : Nat, na = p := ⟨na.toNat, by omega⟩
          obtain ⟨pb, rfl⟩ : ∃ p : Nat, nb = p := ⟨nb.toNat, by omega⟩
          have hpa : pa < (M.deeds ll).length := by omega
          have hpb : pb < (M.deeds ll).length := by omega
          have hpos : 0 < (M.deeds ll).length := by omega
          obtain ⟨rfl⟩ := hLk.dv.addr hpos
          obtain ⟨rfl⟩ := hf2.addr (by have := hW.len.out; omega)
          obtain ⟨rfl⟩ := hr2.addr (by have := hW.three.out; omega)
          obtain ⟨ub, uc, rfl, _, _⟩ := hLk.own1.form hpos
          obtain ⟨wb, wc, rfl, _, _⟩ := hLk.own2.form hpos
          have rd : ∀ n x, (M.deeds ll)[n]? = some x → w3.cell? ⟨ub, n, none⟩ = some (.bool (M.reads x.d.k)) := fun n x hx => by
            have hn : n < (M.deeds ll).length := by
              rcases Nat.lt_or_ge n (M.deeds ll).length with h | h
              · exact h
              · rw [List.getElem?_eq_none h] at hx; cases hx
            have o1 := hLk.own1
            have := own_bools (l := (M.deeds ll).map fun x => M.reads x.d.k) (by rw [List.length_map]; exact o1) n (by simpa using hn)
            rw [List.getElem?_eq_getElem hn] at hx
            rw [this, List.getElem_map, Option.some.inj hx]
          have wrt : ∀ n x, (M.deeds ll)[n]? = some x → w3.cell? ⟨wb, n, none⟩ = some (.bool (M.writes x.d.k)) := fun n x hx => by
            have hn : n < (M.deeds ll).length := by
              rcases Nat.lt_or_ge n (M.deeds ll).length with h | h
              · exact h
              · rw [List.getElem?_eq_none h] at hx; cases hx
            have o1 := hLk.own2
            have := own_bools (l := (M.deeds ll).map fun x => M.writes x.d.k) (by rw [List.length_map]; exact o1) n (by simpa using hn)
            rw [List.getElem?_eq_getElem hn] at hx
            rw [this, List.getElem_map, Option.some.inj hx]
          have hOl : O < w3.heap.size := World.block_lt_of_cell? _ _ c1
          have hx : (M.deeds ll)[pa]? = some (M.deeds ll)[pa] := List.getElem?_eq_getElem hpa
          have hy : (M.deeds ll)[pb]? = some (M.deeds ll)[pb] := List.getElem?_eq_getElem hpb
          have HM : Hid (∀ k, M.mustAt (M.deeds ll) l rows k pa pb = (M.stays (M.deeds ll) k pa pb (M.deeds ll)[pa] (M.deeds ll)[pb] || M.told l rows k pa pb (M.deeds ll)[pa] (M.deeds ll)[pb])) := fun k => by rw [M.mustAt, hx, hy, M.must_eq hW.fro hW.run k hpa hpb]
          have CW := fun (hb0 : True) => way_any ⟨O, a, b, o, c, ll, g, cc⟩ ⟨ub, uc, wb, wc, fb, fo, fc, l, w3.heap.size + 1, (M.deeds ll).length, rows⟩ _ w3 rc ⟨hl, hls, hdl⟩ hW.pl hpos hW.len hW.three hrs rb ro hLk.bel hLk.ge hOl hp2 hf2 hr2 hLk.blk hLk.dv rd wrt rfl rfl
          have hkO : (⟨O, a, b, o, c, ll, g, cc⟩ : Lp).Ok := ⟨hl, hls, hdl⟩
          generalize (M.deeds ll)[pa] = x at *
          generalize (M.deeds ll)[pb] = y at *
          go_wp2_with (first | (go_at_call_of 16 (Value.int .i64 (pa : Int)); refine (l6In_any pa 0 (((M.deeds ll).length : Int) - 1) _).mono ?_; rw [hra]; rintro e w3x ⟨rfl, rfl⟩) | (go_at_call_of 16 (Value.int .i64 (pb : Int)); refine (l6In_any pb 0 (((M.deeds ll).length : Int) - 1) _).mono ?_; rw [hrb]; rintro e w3y ⟨rfl, rfl⟩))
          refine (CW trivial).mono ?_
          rintro e w4 ⟨rfl, hAt, hBut⟩
          have hb14 : Below w.heap.size w w4 := But.low hb13 hBut (by have := hLk.ge; have := hb12.size; omega)
          rcases hk4 with rfl | rfl | rfl
          · go_wp2_with fail
            have CS := stays1_any _ _ pa pb x y w4 hkO hAt hx hy
            cases hs : M.stays (M.deeds ll) 1 pa pb x y
            · rw [show M.stays (M.deeds (Lp.ll ⟨O, a, b, o, c, ll, g, cc⟩)) 1 pa pb x y = false from hs] at CS
              refine CS.mono ?_
              rintro e w5 ⟨rfl, hb5⟩
              go_wp2_with fail
              refine (told1_any _ _ pa pb x y w5 hkO (hAt.below hb5) hx hy).mono ?_
              rintro e w6 ⟨rfl, hb6⟩
              have hb15 := hb14.trans (hb5.mono hb14.size)
              go_wp2_with fail
              go_ret
              exact ⟨ret_bool (by rw [HO.out, ha, hb, Int.toNat_natCast, Int.toNat_natCast, HM.out]; show _ = (M.stays (M.deeds ll) 1 pa pb x y || M.told l rows 1 pa pb x y); rw [hs]; rfl), hb15.trans (hb6.mono hb15.size)⟩
            · rw [show M.stays (M.deeds (Lp.ll ⟨O, a, b, o, c, ll, g, cc⟩)) 1 pa pb x y = true from hs] at CS
              refine CS.mono ?_
              rintro e w5 ⟨rfl, hb5⟩
              go_wp2_with fail
              go_ret
              exact ⟨ret_bool (by rw [HO.out, ha, hb, Int.toNat_natCast, Int.toNat_natCast, HM.out]; show _ = (M.stays (M.deeds ll) 1 pa pb x y || M.told l rows 1 pa pb x y); rw [hs]; rfl), hb14.trans (hb5.mono hb14.size)⟩
          · go_wp2_with fail
            have CS := stays2_any _ _ pa pb x y w4 hkO hAt hx hy
            cases hs : M.stays (M.deeds ll) 2 pa pb x y
            · rw [show M.stays (M.deeds (Lp.ll ⟨O, a, b, o, c, ll, g, cc⟩)) 2 pa pb x y = false from hs] at CS
              refine CS.mono ?_
              rintro e w5 ⟨rfl, hb5⟩
              go_wp2_with fail
              refine (told2_any _ _ pa pb x y w5 hkO (hAt.below hb5) hx hy).mono ?_
              rintro e w6 ⟨rfl, hb6⟩
              have hb15 := hb14.trans (hb5.mono hb14.size)
              go_wp2_with fail
              go_ret
              exact ⟨ret_bool (by rw [HO.out, ha, hb, Int.toNat_natCast, Int.toNat_natCast, HM.out]; show _ = (M.stays (M.deeds ll) 2 pa pb x y || M.told l rows 2 pa pb x y); rw [hs]; rfl), hb15.trans (hb6.mono hb15.size)⟩
            · rw [show M.stays (M.deeds (Lp.ll ⟨O, a, b, o, c, ll, g, cc⟩)) 2 pa pb x y = true from hs] at CS
              refine CS.mono ?_
              rintro e w5 ⟨rfl, hb5⟩
              go_wp2_with fail
              go_ret
              exact ⟨ret_bool (by rw [HO.out, ha, hb, Int.toNat_natCast, Int.toNat_natCast, HM.out]; show _ = (M.stays (M.deeds ll) 2 pa pb x y || M.told l rows 2 pa pb x y); rw [hs]; rfl), hb14.trans (hb5.mono hb14.size)⟩
          · go_wp2_with fail
            have CS := stays3_any _ _ pa pb x y w4 hkO hAt hx hy
            cases hs : M.stays (M.deeds ll) 3 pa pb x y
            · rw [show M.stays (M.deeds (Lp.ll ⟨O, a, b, o, c, ll, g, cc⟩)) 3 pa pb x y = false from hs] at CS
              refine CS.mono ?_
              rintro e w5 ⟨rfl, hb5⟩
              go_wp2_with fail
              refine (told3_any _ _ pa pb x y w5 hkO (hAt.below hb5) hx hy).mono ?_
              rintro e w6 ⟨rfl, hb6⟩
              have hb15 := hb14.trans (hb5.mono hb14.size)
              go_wp2_with fail
              go_ret
              exact ⟨ret_bool (by rw [HO.out, ha, hb, Int.toNat_natCast, Int.toNat_natCast, HM.out]; show _ = (M.stays (M.deeds ll) 3 pa pb x y || M.told l rows 3 pa pb x y); rw [hs]; rfl), hb15.trans (hb6.mono hb15.size)⟩
            · rw [show M.stays (M.deeds (Lp.ll ⟨O, a, b, o, c, ll, g, cc⟩)) 3 pa pb x y = true from hs] at CS
              refine CS.mono ?_
              rintro e w5 ⟨rfl, hb5⟩
              go_wp2_with fail
              go_ret
              exact ⟨ret_bool (by rw [HO.out, ha, hb, Int.toNat_natCast, Int.toNat_natCast, HM.out]; show _ = (M.stays (M.deeds ll) 3 pa pb x y || M.told l rows 3 pa pb x y); rw [hs]; rfl), hb14.trans (hb5.mono hb14.size)⟩

end Go.Proofs.YtdodlefmccaphaaGreat
