/- spec.WallPut: a program with walls. Of at most 1048576 gaps, threads, and steps of a thread. -/
import Derived.Test.YtoabfiocjjfjeaaWlPut
namespace Go.Proofs.Ytoabfiocjjfjeaa
open Go.RowKit

set_option maxHeartbeats 4000000 in
set_option maxRecDepth 10000 in
theorem swallPut_any (a : Option Addr) (b o c : Nat) (ll : List (List M.D)) (hl : ll.length ≤ 1048576) (hls : ∀ t ∈ ll, t.length ≤ 1048576) (ga : Option Addr) (gb go gc : Nat) (gs : List Int) (hgl : gs.length ≤ 1048576) (w : World) (h : DoSS w a b o ll) (hG : IntS w ga gb go gs) :
    Calls Try.prog 8 #[.agg #[.slice a ll.length c], .slice ga gs.length gc] w fun e w' => ∃ v, e = .returned (.tuple #[.agg #[v], .bool (M.wallPut ll gs).isSome]) ∧ ∃ vs, Rdg w' w.heap.size v ((M.wallPut ll gs).getD []) vs ∧ Below w.heap.size w w' := by
  obtain ⟨i0, hi, hz0, hz1, hz2⟩ := info_parts Try.info32
  obtain ⟨i1, ji, jz0, jz1, jz2⟩ := info_parts Try.info34
  have b2 := below2 w (.cells #[.slice a ll.length c] 25) (.cells #[.slice none 0 0] 25)
  have h2 := h.below b2 (Nat.le_refl _)
  have hG2 := hG.below b2 (Nat.le_refl _)
  have hX := (Slot1.new w (.slice a ll.length c) 25).bl' (below1 _ (.cells #[.slice none 0 0] 25))
  have hY := Slot1.new (w.alloc (.cells #[.slice a ll.length c] 25)) (.slice none 0 0) 25
  rw [World.size_alloc] at hY
  go_enter Try.func8, Try.ntmps8
  cases hp : M.prog ll
  · have hno := M.wallPut_bad (gs := gs) hp
    have CP := sprog_any a b o c ll _ hl hls h2
    rw [hp] at CP
    go_wp2_with (first | (go_at_call 26; refine CP.mono ?_; rintro e W1 ⟨rfl, b1⟩; have hY1 := hY.bl' b1; have y0 := hY1.c; have yf := hY1.fz; have ly := hY1.lt))
    have bw1 := b2.trans (b1.mono b2.size)
    have q1 := (hY1.set (.slice none 0 0)).c
    exact bodyPost_ret (v := .tuple #[.agg #[.slice none 0 0], .bool false]) (by simp [results, Try.results8, go_sem, q1]) rfl ⟨_, by rw [hno]; rfl, [], by rw [hno]; exact Rdg.nil _ _, bw1.setCell (by show w.heap.size ≤ w.heap.size + 1; omega) _⟩
  · obtain ⟨h3, h7⟩ := M.prog_le hp
    have hgm := M.gapsN_le h7
    have CP := sprog_any a b o c ll _ hl hls h2
    rw [hp] at CP
    have CO := fun W hW => l21Ok_any ga gb go gc gs (M.gaps ll) W hgl (by rw [M.gaps_ok hp]; omega) (by rw [M.gaps_ok hp]; omega) hW
    cases hok : M.gapsOk gs (M.gaps ll)
    · have hno := M.wallPut_gaps hok
      rw [hok] at CO
      clear hgm
      go_wp2_with (first | (go_at_call 26; refine CP.mono ?_; rintro e W1 ⟨rfl, b1⟩; have hX1 := hX.bl' b1; have x0 := hX1.c; have h1 := h2.below b1 (Nat.le_refl _); have hG1 := hG2.below b1 (Nat.le_refl _); have hY1 := hY.bl' b1) | (go_at_call 24; refine (sgaps_any a b o c ll _ hl hls h1).mono ?_; rintro e W2 ⟨rfl, b2'⟩; have hG3 := hG1.below b2' (Nat.le_refl _); have hY2 := hY1.bl' b2') | (go_at_call 27; refine (CO _ hG3).mono ?_; rintro e W3 ⟨rfl, b3⟩; have hY3 := hY2.bl' b3; have y0 := hY3.c; have yf := hY3.fz; have ly := hY3.lt))
      have bw1 := b2.trans (b1.mono b2.size)
      have bw2 := bw1.trans (b2'.mono bw1.size)
      have bw3 := bw2.trans (b3.mono bw2.size)
      have q1 := (hY3.set (.slice none 0 0)).c
      exact bodyPost_ret (v := .tuple #[.agg #[.slice none 0 0], .bool false]) (by simp [results, Try.results8, go_sem, q1]) rfl ⟨_, by rw [hno]; rfl, [], by rw [hno]; exact Rdg.nil _ _, bw3.setCell (by show w.heap.size ≤ w.heap.size + 1; omega) _⟩
    · rw [hok] at CO
      have HQ : Hid (M.gapsOk gs (M.gaps ll) = true) := hok
      have HPq : Hid (M.prog ll = true) := hp
      clear hok hp hgm
      go_wp2_with (first | (go_at_call 26; refine CP.mono ?_; rintro e W1 ⟨rfl, b1⟩; have hX1 := hX.bl' b1; have x0 := hX1.c; have h1 := h2.below b1 (Nat.le_refl _); have hG1 := hG2.below b1 (Nat.le_refl _); have hY1 := hY.bl' b1) | (go_at_call 24; refine (sgaps_any a b o c ll _ hl hls h1).mono ?_; rintro e W2 ⟨rfl, b2'⟩; have hG3 := hG1.below b2' (Nat.le_refl _); have hY2 := hY1.bl' b2') | (go_at_call 27; refine (CO _ hG3).mono ?_; rintro e W3 ⟨rfl, b3⟩; have hY3 := hY2.bl' b3; have y0 := hY3.c; have yf := hY3.fz; have ly := hY3.lt))
      have bw1 := b2.trans (b1.mono b2.size)
      have bw2 := bw1.trans (b2'.mono bw1.size)
      have bw3 := bw2.trans (b3.mono bw2.size)
      have bA := below1 W3 (.cells #[.slice none 0 0] 25)
      have hXA := ((hX1.bl' b2').bl' b3).bl' bA
      have hYA := hY3.bl' bA
      have hZA := Slot1.new W3 (.slice none 0 0) 25
      have bwA := bw3.trans (bA.mono bw3.size)
      have hsA : (W3.alloc (.cells #[.slice none 0 0] 25)).heap.size = W3.heap.size + 1 := by simp
      generalize W3.alloc (.cells #[.slice none 0 0] 25) = WA at *
      have hOlt : w.heap.size + 1 < W3.heap.size := ly
      generalize W3.heap.size = O at *
      clear CP CO x0 y0 yf ly b1 b2' b3 bA hX hY h2 hG2 hX1 hY1 h1 hG1 hG3 hY2 hY3 bw1 bw2 bw3 b2
      go_loopw [7, 8] (fun s7 s8 wr => ∃ (n : Nat) (v : Value) (vs : List Value), s7 = .int .i64 (M.gapsN (ll.take n)) ∧ s8 = .int .i64 n ∧ n ≤ ll.length ∧ Rdg wr (O + 1) v (M.walls gs 0 (ll.take n)) vs ∧ Slot1 wr O v ∧ Slot1 wr w.heap.size (.slice a ll.length c) ∧ Slot1 wr (w.heap.size + 1) (.slice none 0 0) ∧ Below w.heap.size w wr) (fun _ s8 _ => ll.length - (intOf s8).toNat)
      case atStart => exact ⟨0, .slice none 0 0, [], by simp [M.gapsN], rfl, Nat.zero_le _, by simpa [M.walls] using Rdg.nil _ _, hZA, hXA, hYA, bwA⟩
      case round =>
        obtain ⟨n, v, vs, rfl, rfl, hn, hR, hP, hX, hY, hbel⟩ := hrel
        clear hZA hXA hYA bwA
        have x0 := hX.c
        by_cases hlt : n < ll.length
        · obtain ⟨rfl⟩ := h.addr (by omega)
          obtain ⟨a', b', o', c', hc, hd⟩ := (h.below hbel (Nat.le_refl _)).row n hlt
          have hGr := hG.below hbel (Nat.le_refl _)
          have ht7 := h7 _ (List.getElem_mem hlt)
          have HW : Hid (M.walls gs 0 (ll.take (n + 1)) = M.walls gs 0 (ll.take n) ++ [M.wallT gs (M.gapsN (ll.take n)) ll[n]]) := M.walls_take gs ll n hlt
          have HN : Hid (M.gapsN (ll.take (n + 1)) = M.gapsN (ll.take n) + (ll[n].length - 1)) := M.gapsN_take ll n hlt
          have hgn := M.gapsN_le (ll := ll.take n) (fun t ht => h7 t (List.mem_of_mem_take ht))
          have hgl3 : (ll.take n).length ≤ 3 := by simp; omega
          have hwl : (M.walls gs 0 (ll.take n)).length ≤ 3 := by rw [M.walls_len]; exact hgl3
          generalize hT : M.gapsN (ll.take n) = T at *
          clear hT
          generalize ll[n] = t at *
          generalize M.walls gs 0 (ll.take n) = mm at *
          have hTb : T ≤ 18 := by omega
          clear hgn hgl3
          have i1' : (n : Int) < ll.length := by omega
          have hcl : b < wr.heap.size := World.block_lt_of_cell? _ _ hc
          go_wp2_with fail
          go_loopw [7, 9, 10] (fun s7 s9 s10 wi => ∃ k : Nat, s7 = .int .i64 ((T + min k (t.length - 1) : Nat) : Int) ∧ s10 = .int .i64 k ∧ k ≤ t.length ∧ wi.ownsRow wr.heap.size 34 3 s9 (M.wallS gs T t k).length (flat (M.wallS gs T t k)) ∧ Below wr.heap.size wr wi) (fun _ _ s10 _ => t.length - (intOf s10).toNat)
          case atStart => exact ⟨0, by simp, rfl, Nat.zero_le _, by rw [M.wallS_zero]; exact World.ownsRow_made _ _ 0 (Nat.le_refl _) (Nat.zero_le _) rfl, below1 _ _⟩
          case round =>
            obtain ⟨k, rfl, rfl, hk, hown, hbi⟩ := hrel
            have hXi := hX.bl' hbi
            have x0i := hXi.c
            have hci := (hbi.cell (p := ⟨b, o + n, none⟩) hcl).trans hc
            have hbs := hbi.size
            by_cases hkt : k < t.length
            · obtain ⟨rfl⟩ := hd.addr (by omega)
              have x1 := (hd.row k hkt).below hbi (Nat.le_refl _)
              have hGi := hGr.below hbi (Nat.le_refl _)
              have HX : Hid (M.wallS gs T t (k + 1) = M.wallS gs T t k ++ [t[k]] ++ (if k + 1 < t.length then M.pre gs (T + k) else [])) := M.wallS_step gs T t k hkt
              have hlen := M.wallS_len gs T t k
              generalize M.wallS gs T t k = l at *
              have hl15 : l.length ≤ 15 := by omega
              clear hlen
              generalize t[k] = d at *
              obtain ⟨kk, pp, vv⟩ := d
              obtain ⟨ck, cp, cv⟩ := x1
              have j1 : (k : Int) < t.length := by omega
              have hmk : min k (t.length - 1) = k := by omega
              have HM : Hid (min k (t.length - 1) = k) := hmk
              obtain ⟨TT, hTT⟩ : ∃ TT, T + k = TT := ⟨_, rfl⟩
              have HTT : Hid (T + k = TT) := hTT
              have hTk : TT ≤ 100 := by omega
              rw [hTT] at HX
              rw [hmk, hTT]
              clear hmk x0 hTT
              go_wp2_with (at_builtin; refine wpList_append_own _ rfl (.tmp 41) (.tmp 50) 32 rfl _ 34 i1 _ 3 24 Try.underlying32 ji jz0 jz1 jz2 rfl (by decide) _ _ _ rfl (hown.alloc _) ⟨wr.heap.size, 0, none⟩ 1 1 [.int .i64 kk, .int .i64 pp, .int .i64 vv] rfl rfl (cells_new3 _ _ _ _ _ _ (by simp)) (one3 _ _ _) (by unfold maxLen; omega) (by omega) (by simp; omega) ?_)
              intro v3 w3 hown3 hg3 _
              have hown4 := own_more (m := l ++ [⟨kk, pp, vv⟩]) rfl hown3
              have hb3 : Below _ _ w3 := below_grown (hbi.trans ((below1 wr _).mono hbi.size)) hg3 (own_ge hown) (by simp; omega)
              have hXi := hX.bl' hb3
              have hci := (hb3.cell (p := ⟨b, o + n, none⟩) hcl).trans hc
              have hGi := hGr.below hb3 (Nat.le_refl _)
              have hl16 : (l ++ [(⟨kk, pp, vv⟩ : M.D)]).length ≤ 16 := by simp; omega
              have hbs3 := hb3.size
              generalize l ++ [(⟨kk, pp, vv⟩ : M.D)] = l3 at *
              clear hown3 hg3 hown x0i ck cp cv
              have x0i := hXi.c
              by_cases hk1 : k + 1 < t.length
              · have hk1' : (k : Int) + 1 < t.length := by omega
                have HX1 : Hid (M.wallS gs T t (k + 1) = l3 ++ M.pre gs TT) := by show _ = _; have := HX.out; rwa [if_pos hk1] at this
                have CC := fun W hW => l12Has_any ga gb go gc gs (TT : Int) W hgl hW
                have HN1 : Hid ((TT : Int) + 1 = ((T + min (k + 1) (t.length - 1) : Nat) : Int)) := by show _ = _; have := HTT.out; omega
                cases hhas : M.has gs (TT : Int)
                · have HX2 : Hid (M.wallS gs T t (k + 1) = l3) := by show _ = _; rw [HX1.out, M.pre_no hhas]; simp
                  rw [hhas] at CC
                  clear hhas HX1 HX
                  go_wp2_with (first | (go_at_call 28; refine (CC _ hGi).mono ?_; rintro e w1 ⟨rfl, rfl⟩))
                  exact ⟨⟨k + 1, by rw [HN1.out], by go_num, by omega, by rw [HX2.out]; exact hown4, hb3⟩, by simp [intOf]; omega⟩
                · have HX2 : Hid (M.wallS gs T t (k + 1) = l3 ++ [M.wall]) := by show _ = _; rw [HX1.out, M.pre_yes hhas]
                  rw [hhas] at CC
                  clear hhas HX1 HX
                  go_wp2_with (first | (go_at_call 28; refine (CC _ hGi).mono ?_; rintro e w1 ⟨rfl, rfl⟩) | (at_builtin; refine wpList_append_own _ rfl (.tmp 64) (.tmp 66) 32 rfl _ 34 i1 _ 3 24 Try.underlying32 ji jz0 jz1 jz2 rfl (by decide) _ _ _ rfl (hown4.alloc _) ⟨w1.heap.size, 0, none⟩ 1 1 [.int .i64 4, .int .i64 0, .int .i64 0] rfl rfl (cells_new3 _ _ _ _ _ _ (by simp)) (one3 _ _ _) (by unfold maxLen; omega) (by omega) (by simp; omega) ?_))
                  intro v5 w5 hown5 hg5 _
                  have hown6 := own_more HX2.out hown5
                  have hb5 : Below _ _ w5 := below_grown (hb3.trans ((below1 w1 _).mono hb3.size)) hg5 (own_ge hown4) (by simp; omega)
                  clear hown5 hg5 hown4
                  go_wp2_with fail
                  exact ⟨⟨k + 1, by rw [HN1.out], by go_num, by omega, hown6, hb5⟩, by simp [intOf]; omega⟩
              · have hk1' : ¬ (k : Int) + 1 < t.length := by omega
                have HX2 : Hid (M.wallS gs T t (k + 1) = l3) := by show _ = _; have := HX.out; rw [if_neg hk1, List.append_nil] at this; exact this
                have HN1 : Hid (TT = T + min (k + 1) (t.length - 1)) := by show _ = _; have := HTT.out; omega
                clear HX
                go_wp2_with fail
                exact ⟨⟨k + 1, by rw [← HN1.out], by go_num, by omega, by rw [HX2.out]; exact hown4, hb3⟩, by simp [intOf]; omega⟩
            · have hkk : k = t.length := by omega
              have HT : Hid (T + min k (t.length - 1) = M.gapsN (ll.take (n + 1))) := by show _ = _; rw [HN.out, hkk]; congr 1; omega
              obtain ⟨TT, hTT⟩ : ∃ TT, T + min k (t.length - 1) = TT := ⟨_, rfl⟩
              have hTk : TT ≤ 100 := by omega
              rw [hTT] at HT
              rw [hTT]
              clear hTT
              rw [M.wallS_fin gs T t k (by omega)] at hown
              have k1 : ¬ (k : Int) < t.length := by omega
              clear hkk x0
              have hRi := hR.below hbi
              have hPi := hP.bl' hbi
              have hYi := hY.bl' hbi
              have hbw := hbel.trans (hbi.mono hbel.size)
              have hlap : ∀ i (hi : i < vs.length) k, vs[i].ownBlock = some k → u9.ownBlock ≠ some k := fun i hi j hj e => by
                have h1 := (hR.b.inner i (by have := hR.b.len; omega) hi).lt j hj
                have h2 := own_ge hown j e
                omega
              have hown' := ownsRow_mono hown (show O + 1 ≤ _ from by have := hP.lt; omega)
              obtain ⟨at_, gt, ct, rfl, _⟩ := own_steps hown
              have hlen := M.wallT_len gs T t
              generalize M.wallT gs T t = tt at *
              obtain ⟨av, gv, cv, rfl, _⟩ := hRi.b.ss
              have p0 := hPi.c
              have pf := hPi.fz
              have lP := hPi.lt
              have hout := hRi.b.outer
              clear hown hR hP hX hY
              go_wp2_with (at_builtin; refine wpList_append_lies _ rfl (.tmp 71) (.tmp 73) 23 rfl (O + 1) 32 i0 _ 1 24 Try.underlying23 hi hz0 hz1 hz2 rfl (by decide) _ _ vs rfl (hout.alloc _) ⟨wr.heap.size, 0, none⟩ 1 1 [.slice at_ tt.length ct] rfl rfl (World.news_of_block (cs := #[.slice at_ tt.length ct]) (t := 32) (fr := (0, 0)) (heap_alloc_new wr _)) (by simp [Value.oneCell']) (by omega) (by unfold maxLen; omega) (by omega) (by simp; omega) (wr.heap.size + 1) (by simp) ?_)
              intro g2 cap2 w3 hown3 hg3 hat hlt3
              have hge := own_ge hout
              have bA := below1 wr (.cells #[.slice at_ tt.length ct] 32)
              have hP3 := (hPi.bl' bA).apart hg3 (fun e => by have := hge _ e; omega)
              have hX3 := (hXi.bl' bA).apart hg3 (fun e => by have := hge _ e; omega)
              have hY3 := (hYi.bl' bA).apart hg3 (fun e => by have := hge _ e; omega)
              have hR3 := (hRi.below bA).snocT (ownsRow_below hown' bA) hlap hown3 hg3
              have hb3 : Below w.heap.size w w3 := below_grown (hbw.trans (bA.mono hbw.size)) hg3 (fun k hk => by have := hge k hk; omega) (by have := hbw.size; simp; omega)
              rw [← HW.out] at hR3
              clear hown3 hg3 hat hout hown' p0 pf hRi hPi hYi
              have p0 := hP3.c
              have pf := hP3.fz
              go_wp2_with fail
              have hP4 := hP3.set (.slice (some ⟨g2, 0, none⟩) (mm.length + 1) cap2)
              exact ⟨⟨n + 1, _, _, by rw [HT.out], by go_num, by omega, hR3.far (by omega) _, hP4, hX3.far (by omega) _, hY3.far (by omega) _, hb3.setCell (by show w.heap.size ≤ O; omega) _⟩, by simp [intOf]; omega⟩
        · have hW : M.walls gs 0 (ll.take n) = M.walls gs 0 ll := by rw [List.take_of_length_le (by omega)]
          rw [hW] at hR
          obtain ⟨av, gv, cv, rfl, hs3⟩ := hR.b.ss
          have hl3 : (M.walls gs 0 ll).length ≤ 1048576 := by rw [M.walls_len]; omega
          have hls3 : ∀ t ∈ M.walls gs 0 ll, t.length ≤ 1048576 := fun t ht => by have := M.walls_le gs ll h7 0 t ht; omega
          have n1 : ¬ (n : Int) < ll.length := by omega
          have p0 := hP.c
          have CQ := sprog_any av gv 0 cv _ wr hl3 hls3 hs3
          cases hpw : M.prog (M.walls gs 0 ll)
          · have hno := M.wallPut_over hpw
            rw [hpw] at CQ
            go_wp2_with (first | (go_at_call 26; refine CQ.mono ?_; rintro e W5 ⟨rfl, b5⟩; have hY5 := hY.bl' b5; have y0 := hY5.c; have yf := hY5.fz; have ly := hY5.lt))
            have bw5 := hbel.trans (b5.mono hbel.size)
            have q1 := (hY5.set (.slice none 0 0)).c
            exact bodyPost_ret (v := .tuple #[.agg #[.slice none 0 0], .bool false]) (by simp [results, Try.results8, go_sem, q1]) rfl ⟨_, by rw [hno]; rfl, [], by rw [hno]; exact Rdg.nil _ _, bw5.setCell (by show w.heap.size ≤ w.heap.size + 1; omega) _⟩
          · have hyes := M.wallPut_yes HPq.out HQ.out hpw
            rw [hpw] at CQ
            go_wp2_with (first | (go_at_call 26; refine CQ.mono ?_; rintro e W5 ⟨rfl, b5⟩; have hY5 := hY.bl' b5; have y0 := hY5.c; have yf := hY5.fz; have ly := hY5.lt; have hP5 := hP.bl' b5; have p5 := hP5.c))
            have bw5 := hbel.trans (b5.mono hbel.size)
            have hR5 := hR.below b5
            have q1 := (hY5.set (.slice av (M.walls gs 0 ll).length cv)).c
            exact bodyPost_ret (v := .tuple #[.agg #[.slice av (M.walls gs 0 ll).length cv], .bool true]) (by simp [results, Try.results8, go_sem, q1]) rfl ⟨_, by rw [hyes]; rfl, vs, by rw [hyes]; exact (hR5.far (by omega) _).mono (by omega), bw5.setCell (by show w.heap.size ≤ w.heap.size + 1; omega) _⟩

end Go.Proofs.Ytoabfiocjjfjeaa
