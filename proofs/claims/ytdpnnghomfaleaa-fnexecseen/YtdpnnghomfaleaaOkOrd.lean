/- impl's ways: whether Order tells just so. Of at most 1048576 events, rows and numbers of a row. -/
import Derived.Test.YtdpnnghomfaleaaOkImpl
import Derived.Test.YtdpnnghomfaleaaCont
namespace Go.Proofs.Ytdpnnghomfaleaa
open Go.RowKit

/-- A value is a slice of slices of numbers. -/
structure IntSS (w : World) (a : Option Addr) (b o : Nat) (rows : List (List Int)) : Prop where
  addr : 0 < rows.length → a = some ⟨b, o, none⟩
  row : ∀ i (h : i < rows.length), ∃ a' b' o' c', w.cell? ⟨b, o + i, none⟩ = some (.slice a' rows[i].length c') ∧ IntS w a' b' o' rows[i]
theorem IntSS.below {w w' : World} {a : Option Addr} {B b o : Nat} {rows : List (List Int)} (h : IntSS w a b o rows) (hb : Below B w w') (hB : w.heap.size ≤ B) : IntSS w' a b o rows :=
  ⟨h.addr, fun i hi => by
    obtain ⟨a', b', o', c', hc, hr⟩ := h.row i hi
    exact ⟨a', b', o', c', (hb.cell (p := ⟨b, o + i, none⟩) (Nat.lt_of_lt_of_le (World.block_lt_of_cell? _ _ hc) hB)).trans hc, hr.below hb hB⟩⟩

theorem M.all_step {row evs : List Int} {n : Nat} (h : evs.all (row.contains ·) = (evs.drop n).all (row.contains ·)) (hn : n < evs.length) : evs.all (row.contains ·) = (M.has row evs[n] && (evs.drop (n + 1)).all (row.contains ·)) := by
  rw [h, ← List.getElem_cons_drop hn, List.all_cons]; rfl

set_option maxHeartbeats 400000 in
theorem isRowOf_any (a : Option Addr) (b o c : Nat) (row : List Int) (a2 : Option Addr) (b2 o2 c2 : Nat) (evs : List Int) (w : World) (hl : row.length ≤ 1048576) (hl2 : evs.length ≤ 1048576) (h : IntS w a b o row) (h2 : IntS w a2 b2 o2 evs) :
    Calls Try.prog 91 #[.slice a row.length c, .slice a2 evs.length c2] w fun e w' => e = .returned (.bool (M.isRow row evs)) ∧ w' = w := by
  by_cases hln : row.length = evs.length
  · have HF : Hid (M.isRow row evs = evs.all (row.contains ·)) := by show _ = _; simp [M.isRow, hln]
    have hq : ((row.length : Int) != evs.length) = false := by simp; omega
    have HL : Hid (row.length = evs.length) := hln
    clear hln
    go_enter Try.func91, Try.ntmps91
    go_wp2_with fail
    go_loopw [14] (fun s14 wr => ∃ n : Nat, s14 = .int .i64 n ∧ n ≤ evs.length ∧ Hid (evs.all (row.contains ·) = (evs.drop n).all (row.contains ·)) ∧ wr = w) (fun s14 _ => evs.length - (intOf s14).toNat)
    case atStart => exact ⟨0, rfl, Nat.zero_le _, by show _ = _; rfl, rfl⟩
    case round =>
      obtain ⟨n, rfl, hn, HA, rfl⟩ := hrel
      by_cases hlt : n < evs.length
      · obtain ⟨rfl⟩ := h2.addr (by omega)
        have hx := h2.row n hlt
        have HS : Hid (evs.all (row.contains ·) = (M.has row evs[n] && (evs.drop (n + 1)).all (row.contains ·))) := M.all_step HA.out hlt
        clear HA
        generalize evs[n] = y at *
        have i1 : (n : Int) < evs.length := by omega
        cases hh : M.has row y
        · go_wp2_with (go_at_call 105; refine (containsI_any a b o c row y _ hl h).mono ?_; rw [hh]; rintro e w' ⟨rfl, rfl⟩)
          go_ret
          exact ⟨ret_bool (by rw [HF.out, HS.out, hh]; rfl), rfl⟩
        · go_wp2_with (go_at_call 105; refine (containsI_any a b o c row y _ hl h).mono ?_; rw [hh]; rintro e w' ⟨rfl, rfl⟩)
          exact ⟨⟨n + 1, by go_num, by omega, by show _ = _; rw [HS.out, hh]; rfl, trivial⟩, by simp [intOf]; omega⟩
      · go_wp2_with fail
        go_ret
        exact ⟨ret_bool (by rw [HF.out, HA.out, List.drop_eq_nil_of_le (by omega)]; rfl), rfl⟩
  · have hln' : ((row.length : Int) == evs.length) = false := by simp; omega
    go_enter Try.func91, Try.ntmps91
    go_wp2_with fail
    go_ret
    exact ⟨ret_bool (by simp [M.isRow, hln]), rfl⟩

theorem M.order_step {ds : List M.De} {rows : List (List Int)} {n : Nat} (h : M.orderAt ds 0 rows = M.orderAt ds n (rows.drop n)) (hn : n < rows.length) : M.orderAt ds 0 rows = (M.isRow rows[n] (M.wrs n 0 ds) && M.orderAt ds (n + 1) (rows.drop (n + 1))) := by
  rw [h, ← List.getElem_cons_drop hn, M.orderAt]

set_option maxHeartbeats 400000 in
theorem orderOk_any (va : Option Addr) (g c : Nat) (ds : List M.De) (a : Option Addr) (b o c2 : Nat) (rows : List (List Int)) (w : World) (hl : ds.length ≤ 1048576) (hl2 : rows.length ≤ 1048576) (hls : ∀ r ∈ rows, r.length ≤ 1048576) (h : DeS w va g ds) (h2 : IntSS w a b o rows) :
    Calls Try.prog 74 #[.slice va ds.length c, .slice a rows.length c2] w fun e w' => e = .returned (.bool (M.orderOk ds rows)) ∧ Below w.heap.size w w' := by
  by_cases hln : rows.length = 3
  · have HF : Hid (M.orderOk ds rows = M.orderAt ds 0 rows) := by show _ = _; simp [M.orderOk, hln]
    have hl3 : ((rows.length : Int) != 3) = false := by simp; omega
    clear hln
    go_enter Try.func74, Try.ntmps74
    go_wp2_with fail
    go_loopw [12] (fun s12 wr => ∃ n : Nat, s12 = .int .i64 n ∧ n ≤ rows.length ∧ Hid (M.orderAt ds 0 rows = M.orderAt ds n (rows.drop n)) ∧ Below w.heap.size w wr) (fun s12 _ => rows.length - (intOf s12).toNat)
    case atStart => exact ⟨0, rfl, Nat.zero_le _, by show _ = _; rfl, Below.refl _ _⟩
    case round =>
      obtain ⟨n, rfl, hn, HA, hb⟩ := hrel
      by_cases hlt : n < rows.length
      · have HS : Hid (M.orderAt ds 0 rows = (M.isRow rows[n] (M.wrs n 0 ds) && M.orderAt ds (n + 1) (rows.drop (n + 1)))) := M.order_step HA.out hlt
        clear HA
        obtain ⟨rfl⟩ := h2.addr (by omega)
        obtain ⟨a', b', o', c', hc, hr⟩ := (h2.below hb (Nat.le_refl _)).row n hlt
        have hle := hls _ (List.getElem_mem hlt)
        generalize rows[n] = row at *
        have i1 : (n : Int) < rows.length := by omega
        have hwl : (M.wrs (n : Int) 0 ds).length ≤ 1048576 := Nat.le_trans (M.wrs_len _ _ _) hl
        go_wp2_with fail
        refine (writers_any va g c ds n wr hl (h.bel hb (Nat.le_refl _))).mono ?_
        rintro e w1 ⟨v1, rfl, hown1, hb1⟩
        obtain ⟨va1, g1, c1, rfl, hi1, _⟩ := own_nums hown1
        have hbb := hb.trans (hb1.mono hb.size)
        cases hh : M.isRow row (M.wrs n 0 ds)
        · go_wp2_with (go_at_call 91; refine (isRowOf_any a' b' o' c' row va1 g1 0 c1 _ _ hle hwl (hr.below hb1 (Nat.le_refl _)) hi1).mono ?_; rw [hh]; rintro e w' ⟨rfl, rfl⟩)
          go_ret
          exact ⟨ret_bool (by rw [HF.out, HS.out, hh]; rfl), hbb⟩
        · go_wp2_with (go_at_call 91; refine (isRowOf_any a' b' o' c' row va1 g1 0 c1 _ _ hle hwl (hr.below hb1 (Nat.le_refl _)) hi1).mono ?_; rw [hh]; rintro e w' ⟨rfl, rfl⟩)
          exact ⟨⟨n + 1, by go_num, by omega, by show _ = _; rw [HS.out, hh]; rfl, hbb⟩, by simp [intOf]; omega⟩
      · go_wp2_with fail
        go_ret
        exact ⟨ret_bool (by rw [HF.out, HA.out, List.drop_eq_nil_of_le (by omega)]; rfl), hb⟩
  · have hln' : ((rows.length : Int) == 3) = false := by simp; omega
    go_enter Try.func74, Try.ntmps74
    go_wp2_with fail
    go_ret
    exact ⟨ret_bool (by simp [M.orderOk, hln]), Below.refl _ _⟩

end Go.Proofs.Ytdpnnghomfaleaa
