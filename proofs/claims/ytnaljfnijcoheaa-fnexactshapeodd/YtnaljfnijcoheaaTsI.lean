/- impl's readsByThread, the turn of lists of numbers, slices.Concat of numbers, newList of numbers. Of at most 1000 lists, and numbers. -/
import Derived.Test.YtnaljfnijcoheaaTsMath
import Derived.Test.YtnaljfnijcoheaaTnCc
import Derived.Test.YtnaljfnijcoheaaTnCp
import Derived.Test.YtnaljfnijcoheaaCount
namespace Go.Proofs.Ytnaljfnijcoheaa
open Go.RowKit

/-- Values that are lists of numbers. -/
def Ixs (w : World) (vs : List Value) (rows : List (List Int)) : Prop := vs.length = rows.length ∧ ∀ i (h1 : i < rows.length) (h2 : i < vs.length), ∃ a' b' o' c', vs[i] = .slice a' rows[i].length c' ∧ IntS w a' b' o' rows[i]
/-- A value is a list of lists of numbers. -/
structure ISS (w : World) (a : Option Addr) (b o : Nat) (rows : List (List Int)) : Prop where
  addr : 0 < rows.length → a = some ⟨b, o, none⟩
  row : ∀ i (h : i < rows.length), ∃ a' b' o' c', w.cell? ⟨b, o + i, none⟩ = some (.slice a' rows[i].length c') ∧ IntS w a' b' o' rows[i]
theorem ISS.below {w w' : World} {a : Option Addr} {B b o : Nat} {rows : List (List Int)} (h : ISS w a b o rows) (hb : Below B w w') (hB : w.heap.size ≤ B) : ISS w' a b o rows :=
  ⟨h.addr, fun i hi => by
    obtain ⟨a', b', o', c', hc, hr⟩ := h.row i hi
    exact ⟨a', b', o', c', (hb.cell (p := ⟨b, o + i, none⟩) (Nat.lt_of_lt_of_le (World.block_lt_of_cell? _ _ hc) hB)).trans hc, hr.below hb hB⟩⟩
theorem Ixs.nil (w : World) : Ixs w [] [] := ⟨rfl, fun _ h => absurd h (Nat.not_lt_zero _)⟩
theorem Ixs.below {w w' : World} {vs : List Value} {rows : List (List Int)} {B : Nat} (h : Ixs w vs rows) (hb : Below B w w') (hB : w.heap.size ≤ B) : Ixs w' vs rows :=
  ⟨h.1, fun i h1 h2 => by obtain ⟨a', b', o', c', e, hd⟩ := h.2 i h1 h2; exact ⟨a', b', o', c', e, hd.below hb hB⟩⟩
theorem Ixs.snoc {w : World} {vs : List Value} {rows : List (List Int)} {a : Option Addr} {b o c : Nat} {l : List Int} (h : Ixs w vs rows) (hd : IntS w a b o l) : Ixs w (vs ++ [.slice a l.length c]) (rows ++ [l]) := by
  have hl := h.1
  refine ⟨by simp [hl], fun i h1 h2 => ?_⟩
  by_cases hi : i < rows.length
  · rw [List.getElem_append_left (by omega), List.getElem_append_left hi]
    exact h.2 i hi (by omega)
  · have : i = rows.length := by simp at h1; omega
    subst this
    have e1 : (rows ++ [l])[rows.length] = l := by simp
    have e2 : (vs ++ [Value.slice a l.length c])[rows.length] = .slice a l.length c := by
      rw [List.getElem_append_right (by omega)]
      simp [hl]
    rw [e1, e2]
    exact ⟨a, b, o, c, rfl, hd⟩
theorem Ixs.ss {w : World} {B : Nat} {v : Value} {vs : List Value} {rows : List (List Int)} (h : Ixs w vs rows) (ho : w.ownsRow B 26 1 v rows.length vs) : ∃ a g c, v = .slice a rows.length c ∧ ISS w a g 0 rows := by
  have hl := h.1
  rcases ho.2 with ⟨hv, hn⟩ | ⟨g, cap, cur, hv, hg, hh, r⟩
  · have : rows = [] := List.length_eq_zero_iff.1 hn
    subst this
    exact ⟨none, 0, 0, hv, ⟨fun h => absurd h (Nat.lt_irrefl _), fun i hi => absurd hi (Nat.not_lt_zero _)⟩⟩
  · refine ⟨_, g, cap, hv, ⟨fun _ => rfl, fun i hi => ?_⟩⟩
    have hc := ho.cells (g := g) (by rw [hv]; rfl) i vs[i] (List.getElem?_eq_getElem (by omega))
    rw [Go.WideShapes.add_plain] at hc
    obtain ⟨a', b', o', c', e, hd⟩ := h.2 i hi (by omega)
    rw [e] at hc
    exact ⟨a', b', o', c', hc, hd⟩
theorem Try.infoIs : (Try.prog.info? 26).map (fun i => (i.zero, i.size, i.bytes)) = some (some (.slice none 0 0), 1, 24) := by kernel_rfl

theorem nums_cells {w : World} {b o : Nat} {l : List Int} {sa : Option Addr} (h : IntS w sa b o l) : ∀ (j : Nat) (u : Value), (nums l)[j]? = some u → w.cell? ((⟨b, o, none⟩ : Addr).add j) = some u := by
  intro j u hj
  have hjl : j < l.length := by
    have := (List.getElem?_eq_some_iff.1 hj).1
    simpa [nums] using this
  rw [Go.WideShapes.add_plain, h.row j hjl]
  simpa [nums, hjl] using hj
theorem nums_one (l : List Int) : ∀ u ∈ nums l, u.oneCell' = true := by intro u hu; simp [nums] at hu; obtain ⟨_, _, rfl⟩ := hu; rfl

set_option maxHeartbeats 1000000 in
set_option maxRecDepth 100000 in
theorem newListO_any (a : Option Addr) (b o c : Nat) (l : List Int) (w : World) (hl : l.length ≤ 1048576) (h : IntS w a b o l) :
    Calls Try.prog 47 #[.slice a l.length c] w fun e w' => ∃ v, e = .returned v ∧ w'.ownsRow w.heap.size 3 1 v l.length (nums l) ∧ Below w.heap.size w w' := by
  obtain ⟨i0, hi, hz0, hz1, hz2⟩ := info_parts Try.infoInt
  rcases Nat.eq_zero_or_pos l.length with h0 | hpos
  · have hl0 : l = [] := List.length_eq_zero_iff.1 h0
    subst hl0
    rw [List.length_nil]
    go_enter Try.func47, Try.ntmps47
    go_wp2_with (at_builtin; refine wpList_append_nil0 rfl (.const (.slice none 0 0)) (.tmp 3) 26 rfl 3 i0 Try.underlying26 hi rfl a c rfl ?_)
    go_wp2_with fail
    go_ret
    exact ⟨_, rfl, World.ownsRow_nil _ _ _ _, Below.refl _ _⟩
  · obtain ⟨rfl⟩ := h.addr hpos
    go_enter Try.func47, Try.ntmps47
    go_wp2_with (at_builtin; refine wpList_append_lies _ rfl (.const (.slice none 0 0)) (.tmp 3) 26 rfl w.heap.size 3 i0 _ 1 8 Try.underlying26 hi hz0 hz1 hz2 rfl (by decide) _ 0 [] rfl (World.ownsRow_nil _ _ _ _) ⟨b, o, none⟩ l.length c (nums l) rfl (by simp [nums]) (nums_cells h) (nums_one l) hpos (by unfold maxLen; omega) (by omega) (Nat.le_refl _) w.heap.size rfl ?_)
    intro g cap w1 hown hg hat hlt
    have hb : Below w.heap.size w w1 := ⟨hg.os, hg.tape, hg.output, hg.size, fun k hk => hg.block k hk (fun e => by simp [Value.ownBlock] at e)⟩
    have hown' : w1.ownsRow w.heap.size 3 1 (.slice (some ⟨g, 0, none⟩) l.length cap) l.length (nums l) := by simpa using hown
    go_wp2_with fail
    go_ret
    exact ⟨_, by first | rfl | simp, hown', hb⟩

set_option maxHeartbeats 1000000 in
set_option maxRecDepth 100000 in
theorem growI_any (n : Nat) (w : World) (hn : n ≤ 1000) :
    Calls Try.prog 83 #[.slice none 0 0, .int .i64 n] w fun e w' => ∃ v, e = .returned v ∧ w'.ownsRow w.heap.size 3 1 v 0 [] ∧ Below w.heap.size w w' := by
  obtain ⟨i0, hi, hz0, hz1, hz2⟩ := info_parts Try.infoInt
  have h1 : ¬ ((n : Int) < 0) := by omega
  rcases Nat.eq_zero_or_pos n with h0 | hpos
  · subst h0
    go_enter Try.func83, Try.ntmps83
    go_wp2_with fail
    go_ret
    exact ⟨_, rfl, World.ownsRow_nil _ _ _ _, Below.refl _ _⟩
  · have h4 : (0 : Int) < n := by omega
    have hrz : ∀ ty, (Builtin.append_ #[26, 3] ty #[.slice none 0 0, .int .i64 n]).run Try.prog w = .ok (.slice (some ⟨w.heap.size, 0, none⟩) n (grownCap w n 0 3)) (w.drew.alloc (.cells (#[] ++ Builtin.zeroCells (Value.int .i64 0).cells n ++ Builtin.zeroCells (Value.int .i64 0).cells (grownCap w n 0 3 - n)) 3)) := fun ty => by
      have h := Lib.run_append_grow_zeros (P := Try.prog) w 26 3 ty 3 i0 (.int .i64 0) .i64 .i64 Try.underlying26 Try.underlying3 hi hz0 none 0 0 [] (run_firstCells_none w.drew i0.size 0 0 0) n hpos (by rw [hz1]; decide) (by omega) (by omega) (by rw [hz2]; omega) (by rw [hz2]; simp [Builtin.nextslicecap, hpos]; omega)
      simpa using h
    have hG : n ≤ grownCap w n 0 3 := grownCap_ge w _ _ _
    have hG2 := grownCap_le_maxLen w n 0 3 (by unfold maxLen; omega)
    generalize grownCap w n 0 3 = G at *
    have hsz : (#[] ++ Builtin.zeroCells (Value.int .i64 0).cells n ++ Builtin.zeroCells (Value.int .i64 0).cells (G - n)).size = G * 1 := by
      simp [Builtin.zeroCells, Value.cells]; omega
    generalize #[] ++ Builtin.zeroCells (Value.int .i64 0).cells n ++ Builtin.zeroCells (Value.int .i64 0).cells (G - n) = Z at *
    have hG3 : (G : Int) ≤ 9223372036854775807 := by unfold maxLen at hG2; omega
    go_enter Try.func83, Try.ntmps83
    go_wp2_with (at_builtin; refine Lib.wpList_append_run _ rfl _ _ _ _ rfl _ _ rfl rfl _ _ (hrz _) ?_)
    go_ret
    exact ⟨_, rfl, World.ownsRow_made w.drew Z G (Nat.le_refl _) hG2 hsz, (Below.refl w.heap.size w).drew.alloc (Nat.le_refl _) _⟩

set_option maxHeartbeats 2000000 in
set_option maxRecDepth 100000 in
theorem concatI_any (a : Option Addr) (b o c : Nat) (rows : List (List Int)) (w : World) (hl : rows.length ≤ 1000) (hs : M.lens rows ≤ 1000) (h : ISS w a b o rows) :
    Calls Try.prog 46 #[.slice a rows.length c] w fun e w' => ∃ v, e = .returned v ∧ w'.ownsRow w.heap.size 3 1 v (M.lens rows) (nums rows.flatten) ∧ Below w.heap.size w w' := by
  obtain ⟨i0, hi, hz0, hz1, hz2⟩ := info_parts Try.infoInt
  have hle : ∀ n, M.lens (rows.take n) ≤ M.lens rows := fun n => by
    have app : ∀ a b : List (List Int), M.lens (a ++ b) = M.lens a + M.lens b := fun a b => by
      induction a with
      | nil => simp [M.lens]
      | cons x a ih => simp only [List.cons_append, M.lens, ih]; omega
    have := app (rows.take n) (rows.drop n)
    rw [List.take_append_drop] at this
    omega
  go_enter Try.func46, Try.ntmps46
  go_wp2_with fail
  go_loopw [3, 11] (fun s3 s11 wr => ∃ n : Nat, s11 = .int .i64 n ∧ n ≤ rows.length ∧ s3 = .int .i64 (M.lens (rows.take n) : Nat) ∧ wr = w) (fun _ s11 _ => rows.length - (intOf s11).toNat)
  case atStart => exact ⟨0, rfl, Nat.zero_le _, rfl, rfl⟩
  case round =>
    obtain ⟨n, rfl, hn, rfl, rfl⟩ := hrel
    by_cases hlt : n < rows.length
    · obtain ⟨rfl⟩ := h.addr (by omega)
      obtain ⟨a', b', o', c', hc, hd⟩ := h.row n hlt
      have HT : Hid (M.lens (rows.take (n + 1)) = M.lens (rows.take n) + rows[n].length) := M.lens_take rows n hlt
      have hb1 := hle (n + 1)
      rw [HT.out] at hb1
      generalize rows[n] = r at *
      generalize M.lens (rows.take n) = T at *
      have i1 : (n : Int) < rows.length := by omega
      have hge : ¬ ((T : Int) + r.length < 0) := by omega
      go_wp2_with fail
      exact ⟨⟨n + 1, by go_num, by omega, by rw [HT.out]; go_num, trivial⟩, by simp [intOf]; omega⟩
    · have i1 : ¬ (n : Int) < rows.length := by omega
      have hT := hle n
      generalize M.lens (rows.take n) = T at *
      go_wp2_with fail
      refine (growI_any T wr (by omega)).mono ?_
      rintro e w1 ⟨v1, rfl, hown1, b1⟩
      go_wp2_with fail
      obtain ⟨wo, hwo⟩ : ∃ wo, wo = wr := ⟨_, rfl⟩
      subst hwo
      go_loopw [6, 27] (fun s6 s27 wi => ∃ n : Nat, s27 = .int .i64 n ∧ n ≤ rows.length ∧ wi.ownsRow wo.heap.size 3 1 s6 (rows.take n).flatten.length (nums (rows.take n).flatten) ∧ Below wo.heap.size wo wi) (fun _ s27 _ => rows.length - (intOf s27).toNat)
      case atStart => exact ⟨0, rfl, Nat.zero_le _, hown1, b1⟩
      case round =>
        obtain ⟨k, rfl, hk, hown, hbel⟩ := hrel
        have hbs := hbel.size
        by_cases hkt : k < rows.length
        · obtain ⟨rfl⟩ := h.addr (by omega)
          obtain ⟨a', b', o', c', hc0, hd⟩ := h.row k hkt
          have hc := (hbel.cell (p := ⟨b, o + k, none⟩) (World.block_lt_of_cell? _ _ hc0)).trans hc0
          have HF : Hid ((rows.take (k + 1)).flatten = (rows.take k).flatten ++ rows[k]) := M.flat_take rows k hkt
          have hfl : (rows.take (k + 1)).flatten.length ≤ 1000 := by rw [M.lens_flat]; have := hle (k + 1); omega
          rw [HF.out, List.length_append] at hfl
          generalize rows[k] = r at *
          generalize (rows.take k).flatten = fl at *
          have i2 : (k : Int) < rows.length := by omega
          clear hc0
          rcases Nat.eq_zero_or_pos r.length with hz | hz
          · have hZ : Hid (r.length = 0) := hz
            clear hz
            go_wp2_with (at_builtin; refine wpList_append_zero rfl (.tmp 31) (.tmp 32) 26 rfl (some 33) rfl 3 i0 Try.underlying26 hi rfl hown a' r.length c' hZ.out rfl ?_)
            go_wp2_with fail
            have hr0 : r = [] := List.length_eq_zero_iff.1 hZ.out
            exact ⟨⟨k + 1, by go_num, by omega, by rw [HF.out, hr0, List.append_nil]; exact hown, hbel⟩, by simp [intOf]; omega⟩
          · obtain ⟨rfl⟩ := hd.addr hz
            go_wp2_with (at_builtin; refine wpList_append_own _ rfl (.tmp 31) (.tmp 32) 26 rfl _ 3 i0 _ 1 8 Try.underlying26 hi hz0 hz1 hz2 rfl (by decide) _ _ _ rfl hown ⟨b', o', none⟩ r.length c' (nums r) rfl (by simp [nums]) (nums_cells (hd.below hbel (Nat.le_refl _))) (nums_one r) (by unfold maxLen; omega) (by omega) (by omega) ?_)
            intro v3 w3 hown3 hg3 _
            have hb3 : Below _ _ w3 := below_grown hbel hg3 (own_ge hown) hbel.size
            have hown4 : w3.ownsRow wo.heap.size 3 1 v3 (rows.take (k + 1)).flatten.length (nums (rows.take (k + 1)).flatten) := by rw [HF.out, List.length_append, show nums (fl ++ r) = nums fl ++ nums r from by simp [nums]]; exact hown3
            clear hown3 hg3 hown
            go_wp2_with fail
            exact ⟨⟨k + 1, by go_num, by omega, hown4, hb3⟩, by simp [intOf]; omega⟩
        · have i2 : ¬ (k : Int) < rows.length := by omega
          rw [List.take_of_length_le (show rows.length ≤ k by omega)] at hown
          go_wp2_with fail
          go_ret
          exact ⟨u6, rfl, by rw [← M.lens_flat]; exact hown, hbel⟩

set_option maxHeartbeats 1000000 in
set_option maxRecDepth 100000 in
theorem turnS_any (a : Option Addr) (b o c : Nat) (row : List Int) (a2 : Option Addr) (b2 o2 c2 : Nat) (rows : List (List Int)) (w : World) (hl : row.length ≤ 1048576) (hl2 : rows.length ≤ 1000) (h : IntS w a b o row) (h2 : ISS w a2 b2 o2 rows) :
    Calls Try.prog 44 #[.slice a row.length c, .slice a2 rows.length c2] w fun e w' => ∃ v, e = .returned (.tuple #[v, .bool (M.rowN row rows.length)]) ∧ (∃ a', (∃ c', v = .slice a' (M.turned [] row rows).length c') ∧ ∃ g', ISS w' a' g' 0 (M.turned [] row rows)) ∧ Below w.heap.size w w' := by
  obtain ⟨i0, hi, hz0, hz1, hz2⟩ := info_parts Try.infoIs
  go_enter Try.func44, Try.ntmps44
  go_wp2_with fail
  refine (numbersBelow_any rows.length w hl2).mono ?_
  rintro e w1 ⟨v1, rfl, hown1, b1⟩
  obtain ⟨a1, g1, c1, rfl, hI1, _, _⟩ := own_nums hown1
  have hbl : (M.bel rows.length).length ≤ 1048576 := by rw [M.bel_len]; omega
  have CR := rowOf_any a b o c row a1 g1 0 c1 (M.bel rows.length) w1 hl hbl (h.below b1 (Nat.le_refl _)) hI1
  change Calls _ _ _ _ (fun e w' => e = .returned (.bool (M.rowN row rows.length)) ∧ _) at CR
  clear hown1 hI1 hbl
  generalize (M.bel rows.length).length = bl at *
  cases hr : M.rowN row rows.length
  · rw [hr] at CR
    go_wp2_with (first | (go_at_call 80; refine CR.mono ?_; rintro e w2 ⟨rfl, rfl⟩))
    exact bodyPost_ret (v := .tuple #[.slice none 0 0, .bool false]) (by simp [results, Try.results44, go_sem]) rfl ⟨_, by rw [hr], ⟨none, ⟨0, by rw [M.turned_no hr, List.length_nil]⟩, 0, by rw [M.turned_no hr]; exact ⟨fun h => absurd h (Nat.lt_irrefl _), fun i hi => absurd hi (Nat.not_lt_zero _)⟩⟩, b1⟩
  · rw [hr] at CR
    have HR : Hid (M.rowN row rows.length = true) := hr
    clear hr
    go_wp2_with (first | (go_at_call 80; refine CR.mono ?_; rintro e w2 ⟨rfl, rfl⟩))
    go_loopw [6, 17] (fun s6 s17 wr => ∃ (k : Nat) (vs : List Value), s17 = .int .i64 k ∧ k ≤ row.length ∧ wr.ownsRow w.heap.size 26 1 s6 (M.pick [] (row.take k) rows).length vs ∧ Ixs w vs (M.pick [] (row.take k) rows) ∧ Below w.heap.size w wr) (fun _ s17 _ => row.length - (intOf s17).toNat)
    case atStart => exact ⟨0, [], rfl, Nat.zero_le _, World.ownsRow_nil _ _ _ _, Ixs.nil _, b1⟩
    case round =>
      obtain ⟨k, vs, rfl, hk, hown, hT, hbel⟩ := hrel
      by_cases hkn : k < row.length
      · have hkn' : (k : Int) < row.length := by omega
        obtain ⟨rfl⟩ := h.addr (by omega)
        have x1 := (h.below hbel (Nat.le_refl _)).row k hkn
        have HB : Hid (M.pick [] (row.take (k + 1)) rows = M.pick [] (row.take k) rows ++ [rows.getD row[k].toNat []]) := M.pick_take [] row rows k hkn
        obtain ⟨r0, r1⟩ := M.rowN_get HR.out k hkn
        obtain ⟨rfl⟩ := h2.addr (by omega)
        generalize row[k] = y at *
        obtain ⟨j, rfl⟩ : ∃ j : Nat, y = j := ⟨y.toNat, by omega⟩
        have hj : j < rows.length := by omega
        obtain ⟨a', b', o', c', hc, hd⟩ := h2.row j hj
        have x2 := (hbel.cell (p := ⟨b2, o2 + j, none⟩) (World.block_lt_of_cell? _ _ hc)).trans hc
        have HB2 : Hid (M.pick [] (row.take (k + 1)) rows = M.pick [] (row.take k) rows ++ [rows[j]]) := by show _ = _; rw [HB.out]; congr 2; exact M.getD_get hj
        clear HB hc
        have hpl : (M.pick [] (row.take k) rows).length ≤ 1048576 := by rw [M.pick_len]; simp; omega
        have hbs := hbel.size
        generalize rows[j] = z at *
        generalize M.pick [] (row.take k) rows = m at *
        go_wp2_with (at_builtin; refine wpList_append_own _ rfl (.tmp 21) (.tmp 26) 68 rfl _ 26 i0 _ 1 24 Try.underlying68 hi hz0 hz1 hz2 rfl (by decide) _ _ _ rfl (hown.alloc _) ⟨wr.heap.size, 0, none⟩ 1 1 [.slice a' z.length c'] rfl rfl (cells_new1 _ _ _ _ (by simp)) (by simp [Value.oneCell']) (by unfold maxLen; omega) (by omega) (by simp; omega) ?_)
        intro v3 w3 hown3 hg3 _
        have hb3 : Below _ _ w3 := below_grown (hbel.trans ((below1 wr _).mono hbel.size)) hg3 (own_ge hown) (by simp; omega)
        have hown4 : w3.ownsRow w.heap.size 26 1 v3 (M.pick [] (row.take (k + 1)) rows).length (vs ++ [.slice a' z.length c']) := by rw [HB2.out, List.length_append]; exact hown3
        have hT4 : Ixs w (vs ++ [.slice a' z.length c']) (M.pick [] (row.take (k + 1)) rows) := by rw [HB2.out]; exact hT.snoc hd
        clear hown3 hg3 hown
        go_wp2_with fail
        exact ⟨⟨k + 1, _, by go_num, by omega, hown4, hT4, hb3⟩, by simp [intOf]; omega⟩
      · have htk : row.take k = row := List.take_of_length_le (by omega)
        rw [htk] at hown hT
        have hkn' : ¬ (k : Int) < row.length := by omega
        obtain ⟨a', g', c', rfl, hs⟩ := (hT.below hbel (Nat.le_refl _)).ss hown
        go_wp2_with fail
        exact bodyPost_ret (v := .tuple #[.slice a' (M.pick [] row rows).length c', .bool true]) (by simp [results, Try.results44, go_sem]) rfl ⟨_, by rw [HR.out], ⟨a', ⟨c', by rw [M.turned_yes HR.out]⟩, g', by rw [M.turned_yes HR.out]; exact hs⟩, hbel⟩

set_option maxHeartbeats 2000000 in
set_option maxRecDepth 100000 in
theorem readsBy_any (a : Option Addr) (b o c : Nat) (ll : List (List M.D)) (ra : Option Addr) (rb ro rc : Nat) (l : List Int) (w : World) (h3 : ll.length ≤ 3) (h7 : ∀ t ∈ ll, t.length ≤ 7) (hl : l.length = M.tot M.reads ll) (hlc : l.length ≤ rc) (h : DoSS w a b o ll) (hI : IntS w ra rb ro l) :
    Calls Try.prog 45 #[.agg #[.slice a ll.length c], .slice ra l.length rc] w fun e w' => ∃ v, e = .returned v ∧ (∃ a', (∃ c', v = .slice a' (M.parts ll l).length c') ∧ ∃ g', ISS w' a' g' 0 (M.parts ll l)) ∧ Below w.heap.size w w' := by
  obtain ⟨i0, hi, hz0, hz1, hz2⟩ := info_parts Try.infoIs
  go_enter Try.func45, Try.ntmps45
  go_wp2_with fail
  go_loopw [1, 5, 12] (fun s1 s5 s12 wr => ∃ (n : Nat) (vs : List Value) (a' : Option Addr) (o' c' : Nat), s12 = .int .i64 n ∧ n ≤ ll.length ∧ s1 = .slice a' (l.drop (M.tot M.reads (ll.take n))).length c' ∧ (l.drop (M.tot M.reads (ll.take n))).length ≤ c' ∧ IntS w a' rb o' (l.drop (M.tot M.reads (ll.take n))) ∧ wr.ownsRow w.heap.size 26 1 s5 ((M.parts ll l).take n).length vs ∧ Ixs w vs ((M.parts ll l).take n) ∧ Below w.heap.size w wr) (fun _ _ s12 _ => ll.length - (intOf s12).toNat)
  case atStart => exact ⟨0, [], ra, ro, rc, rfl, Nat.zero_le _, by simp [M.tot], by simpa [M.tot] using hlc, by simpa [M.tot] using hI, World.ownsRow_nil _ _ _ _, Ixs.nil _, below1 _ _⟩
  case round =>
    obtain ⟨n, vs, a', o', c', rfl, hn, rfl, hcap, hI', hown, hT, hbel⟩ := hrel
    have hbs := hbel.size
    by_cases hlt : n < ll.length
    · obtain ⟨rfl⟩ := h.addr (by omega)
      obtain ⟨ta, tb, to_, tc, hc0, hd0⟩ := h.row n hlt
      have hc := (hbel.cell (p := ⟨b, o + n, none⟩) (World.block_lt_of_cell? _ _ hc0)).trans hc0
      have hd := hd0.below hbel (Nat.le_refl _)
      have hpl : n < (M.parts ll l).length := by rw [M.parts_len]; exact hlt
      have HP : Hid ((M.parts ll l).take (n + 1) = (M.parts ll l).take n ++ [(l.drop (M.tot M.reads (ll.take n))).take (M.cnt M.reads ll[n])]) := by show _ = _; rw [List.take_succ_eq_append_getElem hpl, M.parts_get ll l n hlt]
      have HD : Hid (l.drop (M.tot M.reads (ll.take (n + 1))) = (l.drop (M.tot M.reads (ll.take n))).drop (M.cnt M.reads ll[n])) := by show _ = _; rw [M.tot_take M.reads ll n hlt, List.drop_drop]
      have hcn : M.cnt M.reads ll[n] ≤ (l.drop (M.tot M.reads (ll.take n))).length := by
        have h1 := M.tot_take_le M.reads ll (n + 1)
        rw [M.tot_take M.reads ll n hlt] at h1
        rw [List.length_drop]; omega
      have ht7 := h7 _ (List.getElem_mem hlt)
      have hpn : ((M.parts ll l).take n).length ≤ 3 := by simp [M.parts_len]; omega
      generalize l.drop (M.tot M.reads (ll.take n)) = lr at *
      have C := cntReads_any ta tb to_ tc ll[n] wr (by omega) hd
      generalize ll[n] = t at *
      generalize M.cnt M.reads t = m at *
      obtain ⟨pr, hpr⟩ : ∃ pr, lr.take m = pr := ⟨_, rfl⟩
      have hprl : pr.length = m := by rw [← hpr]; simp; omega
      have hIp : IntS w a' rb o' pr := ⟨fun hp => hI'.addr (by omega), fun i hi => by
        have hi' : i < lr.length := by omega
        have := hI'.row i hi'
        have e : pr[i] = lr[i] := by simp only [← hpr, List.getElem_take]
        rw [e]; exact this⟩
      have HPr : Hid ((M.parts ll l).take (n + 1) = (M.parts ll l).take n ++ [pr]) := by show _ = _; rw [HP.out, hpr]
      have hId : IntS w (if c' = m then a' else Option.map (fun x => x.add m) a') rb (o' + m) (lr.drop m) := ⟨fun hp => by
        rw [List.length_drop] at hp
        rw [if_neg (by omega), hI'.addr (by omega)]
        show some ((⟨rb, o', none⟩ : Addr).add m) = _
        rw [Go.WideShapes.add_plain], fun i hi => by
        rw [List.length_drop] at hi
        have := hI'.row (m + i) (by omega)
        rw [List.getElem_drop, Nat.add_assoc]; exact this⟩
      have hdl : (lr.drop m).length = lr.length - m := List.length_drop
      have hI'' : Hid (IntS w (if c' = m then a' else Option.map (fun x => x.add m) a') rb (o' + m) (lr.drop m)) := hId
      clear hId hpr HP hI' hc0 hd0
      have hmc : (m : Int) ≤ c' := by omega
      have hml : (m : Int) ≤ lr.length := by omega
      have i1 : (n : Int) < ll.length := by omega
      go_wp2_with fail
      refine C.mono ?_
      rintro e w1 ⟨rfl, b1⟩
      have hown1 := ownsRow_below hown b1
      have hb1 := hbel.trans (b1.mono hbel.size)
      have hbs1 := hb1.size
      go_wp2_with (at_builtin; refine wpList_append_own _ rfl (.tmp 18) (.tmp 22) 68 rfl _ 26 i0 _ 1 24 Try.underlying68 hi hz0 hz1 hz2 rfl (by decide) _ _ _ rfl (hown1.alloc _) ⟨w1.heap.size, 0, none⟩ 1 1 [.slice a' m c'] rfl rfl (cells_new1 _ _ _ _ (by simp)) (by simp [Value.oneCell']) (by unfold maxLen; omega) (by omega) (by simp; omega) ?_)
      intro v3 w3 hown3 hg3 _
      have hb3 : Below _ _ w3 := below_grown (hb1.trans ((below1 w1 _).mono hb1.size)) hg3 (own_ge hown1) (by simp; omega)
      have hown4 : w3.ownsRow w.heap.size 26 1 v3 ((M.parts ll l).take (n + 1)).length (vs ++ [.slice a' pr.length c']) := by rw [HPr.out, List.length_append, List.length_take, hprl]; exact hown3
      have hT4 : Ixs w (vs ++ [.slice a' pr.length c']) ((M.parts ll l).take (n + 1)) := by rw [HPr.out]; exact hT.snoc hIp
      clear hown3 hg3 hown hown1
      go_wp2_with fail
      exact ⟨⟨n + 1, _, _, o' + m, c' - m, by go_num, by omega, by rw [HD.out, hdl], by rw [HD.out, hdl]; omega, by rw [HD.out]; exact hI''.out, hown4, hT4, hb3⟩, by simp [intOf]; omega⟩
    · have i1 : ¬ (n : Int) < ll.length := by omega
      rw [List.take_of_length_le (show (M.parts ll l).length ≤ n by rw [M.parts_len]; omega)] at hown hT
      obtain ⟨av, gv, cv, rfl, hs⟩ := (hT.below hbel (Nat.le_refl _)).ss hown
      go_wp2_with fail
      go_ret
      exact ⟨_, rfl, ⟨av, ⟨cv, rfl⟩, gv, hs⟩, hbel⟩

end Go.Proofs.Ytnaljfnijcoheaa
