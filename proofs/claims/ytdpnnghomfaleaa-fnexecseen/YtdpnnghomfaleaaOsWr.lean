/- spec's ways: who writes to a place. Of at most 1048576 threads, steps and events. -/
import Derived.Test.YtdpnnghomfaleaaOsDo
namespace Go.Proofs.Ytdpnnghomfaleaa
open Go.RowKit

/-- A step lies in a variable of the round's own. -/
structure DoIn (w W : World) (X : Nat) (d : M.D) : Prop where
  bel : Below w.heap.size w W
  ge : w.heap.size ≤ X
  c0 : W.cell? ⟨X, 0, none⟩ = some (.int .i64 d.k)
  c1 : W.cell? ⟨X, 1, none⟩ = some (.int .i64 d.p)
  c2 : W.cell? ⟨X, 2, none⟩ = some (.int .i64 d.v)
theorem DoIn.behind {w w1 : World} {d : M.D} (hb : Below w.heap.size w w1) : DoIn w (w1.alloc (.cells #[.int .i64 d.k, .int .i64 d.p, .int .i64 d.v] 58)) w1.heap.size d :=
  ⟨hb.alloc hb.size _, hb.size, by simp, by simp, by simp⟩
theorem DoIn.ahead {w w1 : World} {d : M.D} (hb : Below w.heap.size w w1) (h0 : w1.cell? ⟨w.heap.size, 0, none⟩ = some (.int .i64 0)) (h1 : w1.cell? ⟨w.heap.size, 1, none⟩ = some (.int .i64 0)) (h2 : w1.cell? ⟨w.heap.size, 2, none⟩ = some (.int .i64 0)) :
    DoIn w (((w1.setCell ⟨w.heap.size, 0, none⟩ (.int .i64 d.k)).setCell ⟨w.heap.size, 1, none⟩ (.int .i64 d.p)).setCell ⟨w.heap.size, 2, none⟩ (.int .i64 d.v)) w.heap.size d :=
  ⟨((hb.setCell (Nat.le_refl _) _).setCell (Nat.le_refl _) _).setCell (Nat.le_refl _) _, Nat.le_refl _, by simp [go_sem, h0], by simp [go_sem, h1], by simp [go_sem, h2]⟩

set_option maxHeartbeats 2000000 in
set_option maxRecDepth 100000 in
theorem l12Writes_any (a : Option Addr) (b o c : Nat) (ll : List (List M.D)) (va : Option Addr) (g cc : Nat) (p : Int) (w : World) (hl : ll.length ≤ 1048576) (hls : ∀ t ∈ ll, t.length ≤ 1048576) (hdl : (M.deeds ll).length ≤ 42) (h : DoSS w a b o ll) (hd : DvS w va g (M.deeds ll)) :
    Calls Try.prog 64 #[.agg #[.slice a ll.length c], .slice va (M.deeds ll).length cc, .int .i64 p] w fun e w' => ∃ v, e = .returned v ∧ w'.ownsRow w.heap.size 3 1 v (M.wrs p 0 (M.deeds ll)).length (nums (M.wrs p 0 (M.deeds ll))) ∧ Below w.heap.size w w' := by
  obtain ⟨i0, hi, hz0, hz1, hz2⟩ := info_parts Try.infoInt
  have hof := M.ofEv (ll := ll)
  generalize M.deeds ll = ds at *
  have hb0 := below1 w (.cells #[.slice a ll.length c] 34)
  have k0 : (w.alloc (.cells #[.slice a ll.length c] 34)).cell? ⟨w.heap.size, 0, none⟩ = some (.slice a ll.length c) := by simp
  have hT0 : Told (w.alloc (.cells #[.slice a ll.length c] 34)) ((w.alloc (.cells #[.slice a ll.length c] 34)).alloc (.cells #[] 3)) 3 1 (.slice (some ⟨w.heap.size + 1, 0, none⟩) 0 0) 0 [] := by
    have := World.ownsRow_made (w.alloc (.cells #[.slice a ll.length c] 34)) #[] 0 (base := (w.alloc (.cells #[.slice a ll.length c] 34)).heap.size) (e := 3) (size := 1) (Nat.le_refl _) (Nat.zero_le _) rfl
    exact ⟨by simpa using this, below1 _ _⟩
  go_enter Try.func64, Try.ntmps64
  go_wp2_with fail
  generalize (w.alloc (.cells #[.slice a ll.length c] 34)).alloc (.cells #[] 3) = W at *
  generalize w.alloc (.cells #[.slice a ll.length c] 34) = WB at *
  have lt0 : w.heap.size < WB.heap.size := World.block_lt_of_cell? _ _ k0
  replace h := h.below hb0 (Nat.le_refl _)
  replace hd := hd.bel hb0 (Nat.le_refl _)
  go_loopw [7, 8] (fun s7 s8 wr => ∃ (n : Nat) (acc : List Int) (va' : Option Addr) (vc : Nat), s7 = .slice va' acc.length vc ∧ s8 = .int .i64 n ∧ n ≤ ds.length ∧ acc.length ≤ n ∧ Hid (M.wrs p 0 ds = acc ++ M.wrs p n (ds.drop n)) ∧ Told WB wr 3 1 (.slice va' acc.length vc) acc.length (nums acc)) (fun _ s8 _ => ds.length - (intOf s8).toNat)
  case atStart => exact ⟨0, [], some ⟨w.heap.size + 1, 0, none⟩, 0, rfl, rfl, Nat.zero_le _, Nat.le_refl _, by show _ = _; rfl, hT0⟩
  case round =>
    obtain ⟨n, acc, va', vc, rfl, rfl, hn, hacc, HW, hT⟩ := hrel
    have kr := (hT.bel.cell (p := ⟨w.heap.size, 0, none⟩) lt0).trans k0
    clear hT0
    by_cases hlt : n < ds.length
    · obtain ⟨rfl⟩ := hd.addr (by omega)
      have hx := DvS.at (hd.bel hT.bel (Nat.le_refl _)) hlt
      have HW2 : Hid (M.wrs p 0 ds = (if (ds[n]).to p then acc ++ [(n : Int)] else acc) ++ M.wrs p (n + 1) (ds.drop (n + 1))) := M.wrs_step HW.out hlt
      have hox := hof _ (List.getElem_mem hlt)
      clear HW
      generalize ds[n] = x at *
      obtain ⟨c0, c1, c2⟩ := hx
      have i1 : (n : Int) < ds.length := by omega
      have lg : g < wr.heap.size := World.block_lt_of_cell? _ _ c0
      have lw : w.heap.size < wr.heap.size := World.block_lt_of_cell? _ _ kr
      have C := fun W (hb : Below wr.heap.size wr W) => l12Do_ev a b o c ll x W hox hl hls ((h.below hT.bel (Nat.le_refl _)).below hb (Nat.le_refl _))
      have hbA := below1 wr (.cells #[.int .i64 0, .int .i64 0, .int .i64 0] 58)
      have A0 : (wr.alloc (.cells #[.int .i64 0, .int .i64 0, .int .i64 0] 58)).cell? ⟨wr.heap.size, 0, none⟩ = some (.int .i64 0) := by simp
      have A1 : (wr.alloc (.cells #[.int .i64 0, .int .i64 0, .int .i64 0] 58)).cell? ⟨wr.heap.size, 1, none⟩ = some (.int .i64 0) := by simp
      have A2 : (wr.alloc (.cells #[.int .i64 0, .int .i64 0, .int .i64 0] 58)).cell? ⟨wr.heap.size, 2, none⟩ = some (.int .i64 0) := by simp
      have Af : ∀ j, (wr.alloc (.cells #[.int .i64 0, .int .i64 0, .int .i64 0] 58)).frozen? ⟨wr.heap.size, j, none⟩ = false := by intro j; simp
      have Asz : wr.heap.size < (wr.alloc (.cells #[.int .i64 0, .int .i64 0, .int .i64 0] 58)).heap.size := by simp
      have N0 : wr.heap.size ≠ w.heap.size := Nat.ne_of_gt lw
      have N1 : wr.heap.size ≠ g := Nat.ne_of_gt lg
      have B0 := (hbA.cell (p := ⟨w.heap.size, 0, none⟩) lw).trans kr
      have B1 := (hbA.cell (p := ⟨g, n * 3, none⟩) lg).trans c0
      have B2 := (hbA.cell (p := ⟨g, n * 3 + 1, none⟩) lg).trans c1
      have B3 := (hbA.cell (p := ⟨g, n * 3 + 2, none⟩) lg).trans c2
      go_wp2_with fail
      go_region_held3 (fun w' => w'.cell? ⟨w.heap.size, 0, none⟩ = some (.slice a ll.length c) ∧ w'.cell? ⟨g, n * 3, none⟩ = some (.int .i64 x.t) ∧ w'.cell? ⟨g, n * 3 + 1, none⟩ = some (.int .i64 x.i) ∧ w'.cell? ⟨g, n * 3 + 2, none⟩ = some (.bool x.last)) (go_keep) (first
        | (go_at_call 66; refine (C _ ((Below.refl _ _).drew)).mono ?_; rintro e w1 ⟨rfl, hb1⟩; have Y0 := (hb1.cell (p := ⟨w.heap.size, 0, none⟩) lw).trans kr; have Y1 := (hb1.cell (p := ⟨g, n * 3, none⟩) lg).trans c0; have Y2 := (hb1.cell (p := ⟨g, n * 3 + 1, none⟩) lg).trans c1; have Y3 := (hb1.cell (p := ⟨g, n * 3 + 2, none⟩) lg).trans c2)
        | (go_at_call 66; refine (C _ ((below1 _ _).drew)).mono ?_; rintro e w1 ⟨rfl, hb1⟩; have Y0 := (hb1.cell (p := ⟨w.heap.size, 0, none⟩) (Nat.lt_trans lw Asz)).trans B0; have Y1 := (hb1.cell (p := ⟨g, n * 3, none⟩) (Nat.lt_trans lg Asz)).trans B1; have Y2 := (hb1.cell (p := ⟨g, n * 3 + 1, none⟩) (Nat.lt_trans lg Asz)).trans B2; have Y3 := (hb1.cell (p := ⟨g, n * 3 + 2, none⟩) (Nat.lt_trans lg Asz)).trans B3; have Z0 := (hb1.cell (p := ⟨wr.heap.size, 0, none⟩) Asz).trans A0; have Z1 := (hb1.cell (p := ⟨wr.heap.size, 1, none⟩) Asz).trans A1; have Z2 := (hb1.cell (p := ⟨wr.heap.size, 2, none⟩) Asz).trans A2; have Zf := fun j => (hb1.frozen (p := ⟨wr.heap.size, j, none⟩) Asz).trans (Af j)))
      · have F : DoIn wr _ _ x.d := DoIn.behind (d := x.d) ((Below.refl wr.heap.size wr).drew.trans hb1)
        generalize w1.alloc (.cells #[.int .i64 x.d.k, .int .i64 x.d.p, .int .i64 x.d.v] 58) = W1 at F ⊢
        generalize w1.heap.size = X at F ⊢
        clear hb1 A0 A1 A2 Af B0 B1 B2 B3 N0 N1 Y0 Y1 Y2 Y3 C hbA
        have hT1 := hT.below F.bel
        obtain ⟨hbF, hgF, d0, d1, d2⟩ := F
        have hTb := hT1.below (below1 W1 (.cells #[.int .i64 x.d.k, .int .i64 x.d.p, .int .i64 x.d.v] 58))
        have lX : X < W1.heap.size := World.block_lt_of_cell? _ _ d0
        cases hw : M.writes x.d.k
        · have HT : Hid (x.to p = false) := by show _ = _; simp [M.De.to, hw]
          go_wp2_with (go_at_call 63; refine (l1Writes_any x.d _).mono ?_; rw [hw]; rintro e w' ⟨rfl, rfl⟩)
          exact ⟨⟨n + 1, acc, va', vc, rfl, by go_num, by omega, by omega, by show _ = _; have := HW2.out; rw [HT.out] at this; exact this, hTb⟩, by simp [intOf]; omega⟩
        · by_cases hp : x.d.p = p
          · have HT : Hid (x.to p = true) := by show _ = _; simp [M.De.to, hw, hp]
            generalize x.d.p = q at *
            subst q
            go_wp2_with (first | (go_at_call 63; refine (l1Writes_any ⟨x.d.k, p, x.d.v⟩ _).mono ?_; rw [hw]; rintro e w' ⟨rfl, rfl⟩) | (at_builtin; refine wpList_append_lies _ rfl (.tmp 31) (.tmp 33) 25 rfl WB.heap.size 3 i0 _ 1 8 Try.underlying25 hi hz0 hz1 hz2 rfl (by decide) _ _ _ rfl (hTb.own.alloc _) ⟨W1.heap.size + 1, 0, none⟩ 1 1 [.int .i64 n] rfl rfl (World.news_of_block (cs := #[.int .i64 (n : Int)]) (t := 3) (fr := (0, 0)) (by have := heap_alloc_new (W1.alloc (.cells #[.int .i64 x.d.k, .int .i64 p, .int .i64 x.d.v] 58)) (.cells #[.int .i64 (n : Int)] 3); simpa using this)) (by simp [Value.oneCell']) (by omega) (by unfold maxLen; omega) (by omega) (by have := hTb.bel.size; simp at this ⊢; omega) (W1.heap.size + 1 + 1) (by simp) ?_))
            intro g6 cap6 w6 hown6 hg6 hat6 hlt6
            have hT6 : Told WB w6 3 1 (.slice (some ⟨g6, 0, none⟩) (acc.length + 1) cap6) (acc.length + 1) (nums (acc ++ [(n : Int)])) := by
              have e : nums (acc ++ [(n : Int)]) = nums acc ++ [.int .i64 n] := by simp [nums]
              rw [e]; exact hTb.snoc hown6 hg6
            clear hown6 hg6 hat6 hlt6
            go_wp2_with fail
            exact ⟨⟨n + 1, acc ++ [(n : Int)], some ⟨g6, 0, none⟩, cap6, by simp, by go_num, by omega, by simp; omega, by show _ = _; have := HW2.out; rw [HT.out] at this; exact this, by rw [List.length_append]; exact hT6⟩, by simp [intOf]; omega⟩
          · have HT : Hid (x.to p = false) := by show _ = _; simp [M.De.to, hp]
            have hp' : (x.d.p == p) = false := by simpa using hp
            go_wp2_with (go_at_call 63; refine (l1Writes_any x.d _).mono ?_; rw [hw]; rintro e w' ⟨rfl, rfl⟩)
            exact ⟨⟨n + 1, acc, va', vc, rfl, by go_num, by omega, by omega, by show _ = _; have := HW2.out; rw [HT.out] at this; exact this, hTb⟩, by simp [intOf]; omega⟩
      · have F : DoIn wr _ _ x.d := DoIn.ahead (d := x.d) (hbA.drew.trans (hb1.mono (Nat.le_of_lt Asz))) Z0 Z1 Z2
        generalize ((w1.setCell ⟨wr.heap.size, 0, none⟩ (.int .i64 x.d.k)).setCell ⟨wr.heap.size, 1, none⟩ (.int .i64 x.d.p)).setCell ⟨wr.heap.size, 2, none⟩ (.int .i64 x.d.v) = W1 at F ⊢
        obtain ⟨X, hX, F⟩ : ∃ X, X = wr.heap.size ∧ DoIn wr W1 X x.d := ⟨_, rfl, F⟩
        rw [← hX]
        clear hX
        clear hb1 A0 A1 A2 Af B0 B1 B2 B3 N0 N1 Y0 Y1 Y2 Y3 C hbA
        have hT1 := hT.below F.bel
        obtain ⟨hbF, hgF, d0, d1, d2⟩ := F
        have hTb := hT1.below (below1 W1 (.cells #[.int .i64 x.d.k, .int .i64 x.d.p, .int .i64 x.d.v] 58))
        have lX : X < W1.heap.size := World.block_lt_of_cell? _ _ d0
        cases hw : M.writes x.d.k
        · have HT : Hid (x.to p = false) := by show _ = _; simp [M.De.to, hw]
          go_wp2_with (go_at_call 63; refine (l1Writes_any x.d _).mono ?_; rw [hw]; rintro e w' ⟨rfl, rfl⟩)
          exact ⟨⟨n + 1, acc, va', vc, rfl, by go_num, by omega, by omega, by show _ = _; have := HW2.out; rw [HT.out] at this; exact this, hTb⟩, by simp [intOf]; omega⟩
        · by_cases hp : x.d.p = p
          · have HT : Hid (x.to p = true) := by show _ = _; simp [M.De.to, hw, hp]
            generalize x.d.p = q at *
            subst q
            go_wp2_with (first | (go_at_call 63; refine (l1Writes_any ⟨x.d.k, p, x.d.v⟩ _).mono ?_; rw [hw]; rintro e w' ⟨rfl, rfl⟩) | (at_builtin; refine wpList_append_lies _ rfl (.tmp 31) (.tmp 33) 25 rfl WB.heap.size 3 i0 _ 1 8 Try.underlying25 hi hz0 hz1 hz2 rfl (by decide) _ _ _ rfl (hTb.own.alloc _) ⟨W1.heap.size + 1, 0, none⟩ 1 1 [.int .i64 n] rfl rfl (World.news_of_block (cs := #[.int .i64 (n : Int)]) (t := 3) (fr := (0, 0)) (by have := heap_alloc_new (W1.alloc (.cells #[.int .i64 x.d.k, .int .i64 p, .int .i64 x.d.v] 58)) (.cells #[.int .i64 (n : Int)] 3); simpa using this)) (by simp [Value.oneCell']) (by omega) (by unfold maxLen; omega) (by omega) (by have := hTb.bel.size; simp at this ⊢; omega) (W1.heap.size + 1 + 1) (by simp) ?_))
            intro g6 cap6 w6 hown6 hg6 hat6 hlt6
            have hT6 : Told WB w6 3 1 (.slice (some ⟨g6, 0, none⟩) (acc.length + 1) cap6) (acc.length + 1) (nums (acc ++ [(n : Int)])) := by
              have e : nums (acc ++ [(n : Int)]) = nums acc ++ [.int .i64 n] := by simp [nums]
              rw [e]; exact hTb.snoc hown6 hg6
            clear hown6 hg6 hat6 hlt6
            go_wp2_with fail
            exact ⟨⟨n + 1, acc ++ [(n : Int)], some ⟨g6, 0, none⟩, cap6, by simp, by go_num, by omega, by simp; omega, by show _ = _; have := HW2.out; rw [HT.out] at this; exact this, by rw [List.length_append]; exact hT6⟩, by simp [intOf]; omega⟩
          · have HT : Hid (x.to p = false) := by show _ = _; simp [M.De.to, hp]
            have hp' : (x.d.p == p) = false := by simpa using hp
            go_wp2_with (go_at_call 63; refine (l1Writes_any x.d _).mono ?_; rw [hw]; rintro e w' ⟨rfl, rfl⟩)
            exact ⟨⟨n + 1, acc, va', vc, rfl, by go_num, by omega, by omega, by show _ = _; have := HW2.out; rw [HT.out] at this; exact this, hTb⟩, by simp [intOf]; omega⟩
    · go_wp2_with fail
      go_ret
      have hf := M.wrs_fin HW.out (by omega)
      exact ⟨_, rfl, by rw [hf]; exact own_mono hT.own hb0.size, hb0.trans (hT.bel.mono hb0.size)⟩
end Go.Proofs.Ytdpnnghomfaleaa
