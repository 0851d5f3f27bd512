/- impl's ways: what From and Order may tell. Of at most 1048576 events. -/
import Derived.Test.YtdpnnghomfaleaaOkMath
import Derived.Test.YtdpnnghomfaleaaExEv
import Derived.Test.YtdpnnghomfaleaaSnMem
namespace Go.Proofs.Ytdpnnghomfaleaa
open Go.RowKit

abbrev DeS (w : World) (va : Option Addr) (g : Nat) (l : List M.De) : Prop := RS M.De.cells 7 w va g l
/-- The value of one. -/
abbrev M.De.agg (x : M.De) : Value := .agg #[.int .i64 (x.t : Int), .int .i64 (x.i : Int), .bool x.last, .int .i64 x.d.k, .int .i64 x.d.p, .int .i64 x.d.v, .int .i64 x.lr]
structure DeAt (w : World) (g o : Nat) (x : M.De) : Prop where
  c0 : w.cell? ⟨g, o, none⟩ = some (.int .i64 x.t)
  c1 : w.cell? ⟨g, o + 1, none⟩ = some (.int .i64 x.i)
  c2 : w.cell? ⟨g, o + 2, none⟩ = some (.bool x.last)
  c3 : w.cell? ⟨g, o + 3, none⟩ = some (.int .i64 x.d.k)
  c4 : w.cell? ⟨g, o + 4, none⟩ = some (.int .i64 x.d.p)
  c5 : w.cell? ⟨g, o + 5, none⟩ = some (.int .i64 x.d.v)
  c6 : w.cell? ⟨g, o + 6, none⟩ = some (.int .i64 x.lr)
theorem DeS.at {w : World} {va : Option Addr} {g : Nat} {l : List M.De} (h : DeS w va g l) {n : Nat} (hn : n < l.length) : DeAt w g (n * 7) l[n] :=
  ⟨h.row n hn 0 (by omega), h.row n hn 1 (by omega), h.row n hn 2 (by omega), h.row n hn 3 (by omega), h.row n hn 4 (by omega), h.row n hn 5 (by omega), h.row n hn 6 (by omega)⟩
theorem DeS.bel {w w' : World} {va : Option Addr} {g B : Nat} {l : List M.De} (h : DeS w va g l) (hb : Below B w w') (hB : w.heap.size ≤ B) : DeS w' va g l := h.below M.De.len hb hB

theorem deReads_any (x : M.De) (w : World) :
    Calls Try.prog 77 #[x.agg] w fun e w' => e = .returned (.bool x.reads) ∧ w' = w.alloc (.cells #[.int .i64 (x.t : Int), .int .i64 (x.i : Int), .bool x.last, .int .i64 x.d.k, .int .i64 x.d.p, .int .i64 x.d.v, .int .i64 x.lr] 89) := by
  go_enter Try.func77, Try.ntmps77
  go_wp2_with (go_at_call 72; refine (reads_any _ _).mono ?_; rintro e w' ⟨rfl, rfl⟩)
  go_ret
  exact ⟨rfl, rfl⟩

theorem writesTo_any (x : M.De) (p : Int) (w : World) :
    Calls Try.prog 104 #[x.agg, .int .i64 p] w fun e w' => e = .returned (.bool (x.to p)) ∧ w' = w.alloc (.cells #[.int .i64 (x.t : Int), .int .i64 (x.i : Int), .bool x.last, .int .i64 x.d.k, .int .i64 x.d.p, .int .i64 x.d.v, .int .i64 x.lr] 89) := by
  cases hw : M.writes x.d.k
  all_goals
    go_enter Try.func104, Try.ntmps104
    go_wp2_with (go_at_call 89; refine (writes_any _ _).mono ?_; rw [hw]; rintro e w' ⟨rfl, rfl⟩)
    go_ret
    exact ⟨ret_bool (by simp [M.De.to, hw]), rfl⟩

set_option maxHeartbeats 1000000 in
theorem writers_any (va : Option Addr) (g c : Nat) (ds : List M.De) (p : Int) (w : World) (hl : ds.length ≤ 1048576) (h : DeS w va g ds) :
    Calls Try.prog 92 #[.slice va ds.length c, .int .i64 p] w fun e w' => ∃ v, e = .returned v ∧ w'.ownsRow w.heap.size 3 1 v (M.wrs p 0 ds).length (nums (M.wrs p 0 ds)) ∧ Below w.heap.size w w' := by
  obtain ⟨i0, hi, hz0, hz1, hz2⟩ := info_parts Try.infoInt
  go_enter Try.func92, Try.ntmps92
  go_wp2_with fail
  go_loopw [5, 10] (fun s5 s10 wr => ∃ (n : Nat) (acc : List Int) (va' : Option Addr) (vc : Nat), s5 = .slice va' acc.length vc ∧ s10 = .int .i64 n ∧ n ≤ ds.length ∧ acc.length ≤ n ∧ Hid (M.wrs p 0 ds = acc ++ M.wrs p n (ds.drop n)) ∧ Told w wr 3 1 (.slice va' acc.length vc) acc.length (nums acc)) (fun _ s10 _ => ds.length - (intOf s10).toNat)
  case atStart => exact ⟨0, [], none, 0, rfl, rfl, Nat.zero_le _, Nat.le_refl _, by show _ = _; rfl, Told.start _ _ _ _ (Below.refl _ _)⟩
  case round =>
    obtain ⟨n, acc, va', vc, rfl, rfl, hn, hacc, HW, hT⟩ := hrel
    by_cases hlt : n < ds.length
    · obtain ⟨rfl⟩ := h.addr (by omega)
      have hx := DeS.at (h.bel hT.bel (Nat.le_refl _)) hlt
      have HW2 := M.wrs_step HW.out hlt
      have HW2 : Hid (M.wrs p 0 ds = (if (ds[n]).to p then acc ++ [(n : Int)] else acc) ++ M.wrs p (n + 1) (ds.drop (n + 1))) := HW2
      clear HW
      generalize ds[n] = x at *
      obtain ⟨c0, c1, c2, c3, c4, c5, c6⟩ := hx
      have i1 : (n : Int) < ds.length := by omega
      have lg : g < wr.heap.size := World.block_lt_of_cell? _ _ c0
      have hT1 := hT.below (below2 wr (.cells #[.int .i64 (x.t : Int), .int .i64 (x.i : Int), .bool x.last, .int .i64 x.d.k, .int .i64 x.d.p, .int .i64 x.d.v, .int .i64 x.lr] 89) (.cells #[.int .i64 (x.t : Int), .int .i64 (x.i : Int), .bool x.last, .int .i64 x.d.k, .int .i64 x.d.p, .int .i64 x.d.v, .int .i64 x.lr] 89))
      cases ht : x.to p
      · go_wp2_with (go_at_call 104; refine (writesTo_any x p _).mono ?_; rw [ht]; rintro e w' ⟨rfl, rfl⟩)
        exact ⟨⟨n + 1, acc, va', vc, rfl, by go_num, by omega, by omega, by show _ = _; have := HW2.out; rw [ht] at this; exact this, hT1⟩, by simp [intOf]; omega⟩
      · go_wp2_with (first | (go_at_call 104; refine (writesTo_any x p _).mono ?_; rw [ht]; rintro e w' ⟨rfl, rfl⟩) | (at_builtin; refine wpList_append_lies _ rfl (.tmp 18) (.tmp 20) 25 rfl w.heap.size 3 i0 _ 1 8 Try.underlying25 hi hz0 hz1 hz2 rfl (by decide) _ _ _ rfl (hT1.own.alloc _) ⟨wr.heap.size + 1 + 1, 0, none⟩ 1 1 [.int .i64 n] rfl rfl (World.news_of_block (cs := #[.int .i64 (n : Int)]) (t := 3) (fr := (0, 0)) (by have := heap_alloc_new ((wr.alloc (.cells #[.int .i64 (x.t : Int), .int .i64 (x.i : Int), .bool x.last, .int .i64 x.d.k, .int .i64 x.d.p, .int .i64 x.d.v, .int .i64 x.lr] 89)).alloc (.cells #[.int .i64 (x.t : Int), .int .i64 (x.i : Int), .bool x.last, .int .i64 x.d.k, .int .i64 x.d.p, .int .i64 x.d.v, .int .i64 x.lr] 89)) (.cells #[.int .i64 (n : Int)] 3); simpa using this)) (by simp [Value.oneCell']) (by omega) (by unfold maxLen; omega) (by omega) (by have := hT1.bel.size; simp at this ⊢; omega) (wr.heap.size + 1 + 1 + 1) (by simp) ?_))
        intro g6 cap6 w6 hown6 hg6 hat6 hlt6
        have hT6 : Told w w6 3 1 (.slice (some ⟨g6, 0, none⟩) (acc.length + 1) cap6) (acc.length + 1) (nums (acc ++ [(n : Int)])) := by
          have e : nums (acc ++ [(n : Int)]) = nums acc ++ [.int .i64 n] := by simp [nums]
          rw [e]; exact hT1.snoc hown6 hg6
        clear hown6 hg6 hat6 hlt6
        go_wp2_with fail
        exact ⟨⟨n + 1, acc ++ [(n : Int)], some ⟨g6, 0, none⟩, cap6, by simp, by go_num, by omega, by simp; omega, by show _ = _; have := HW2.out; rw [ht] at this; exact this, by rw [List.length_append]; exact hT6⟩, by simp [intOf]; omega⟩
    · go_wp2_with fail
      go_ret
      have hf := M.wrs_fin HW.out (by omega)
      exact ⟨_, rfl, by rw [hf]; exact hT.own, hT.bel⟩

end Go.Proofs.Ytdpnnghomfaleaa
