/- impl's SeenText. Of what was seen of at most 1048576 numbers. -/
import Derived.Test.YtefmkenljongpaaDoorTxB
import Derived.Test.YtefmkenljongpaaDoorStMath
import Derived.Test.YtefmkenljongpaaDoorItLay
import Derived.Test.YtefmkenljongpaaDoorSnMem
namespace Go.Proofs.YtefmkenljongpaaDoor
open Go.RowKit

/-- The library's own table lies where it should. -/
def HasTab (w : World) : Prop := Lib.TabIs Tryd.prog w "internal/strconv.uint64pow10" .u64 Lib.pow10Tab
theorem HasTab.below {w w' : World} {B : Nat} (h : HasTab w) (hb : Below B w w') (hB : w.heap.size ≤ B) : HasTab w' := by
  unfold HasTab Lib.TabIs World.var? at *
  cases hg : Tryd.prog.globalNamed "internal/strconv.uint64pow10" with
  | none => rw [hg] at h; cases h
  | some g =>
    rw [hg] at h
    simp only [Option.bind_some] at h ⊢
    have hlt : g < w.heap.size := by
      rcases Nat.lt_or_ge g w.heap.size with h1 | h1
      · exact h1
      · rw [Array.getElem?_eq_none h1] at h; cases h
    rw [hb.block g (by omega)]
    exact h

theorem itoa_any (n : Int) (h0 : -9223372036854775808 ≤ n) (h1 : n ≤ 9223372036854775807) (w : World) (ht : HasTab w) :
    Calls Tryd.prog 18 #[.int .i64 n] w fun e w' => e = .returned (.string ⟨(Lib.itoa n).toArray⟩) ∧ ∃ k os, w' = Sort.grow (w.drewN k) os := Tryd.strconv_Itoa n h0 h1 w ht

theorem grow_by (w : World) (k : Nat) (os : Array Obj) : w.grownBy (Sort.grow (w.drewN k) os) none :=
  ⟨rfl, rfl, rfl, by simp [Sort.grow, World.drewN], fun j hj _ => by
    show (w.heap ++ os)[j]? = w.heap[j]?
    rw [Array.getElem?_append_left hj]⟩
theorem grow_below (w : World) (k : Nat) (os : Array Obj) : Below w.heap.size w (Sort.grow (w.drewN k) os) :=
  ⟨(grow_by w k os).os, (grow_by w k os).tape, (grow_by w k os).output, (grow_by w k os).size, fun j hj => (grow_by w k os).block j hj (by simp)⟩
theorem Bd.kept {B b : Nat} {acc : List UInt8} {w w' : World} (h : Bd B b acc w) (hg : w.grownBy w' none) : Bd B b acc w' := by
  have key : ∀ p, Lib.BuilderAtF 46 5 B b p (Lib.byteCells acc) w → Lib.BuilderAtF 46 5 B b p (Lib.byteCells acc) w' := by
    rintro p ⟨hB, v, hb, hown, hne⟩
    exact ⟨hB, v, (hg.block b (Array.getElem?_eq_some_iff.1 hb).1 (by simp)).trans hb, hown.kept hg (by cases v.ownBlock <;> simp), hne⟩
  exact ⟨h.is.elim (fun x => .inl (key _ x)) (fun x => .inr (key _ x)), Nat.le_trans h.le hg.size⟩
theorem Bd.lt' {B b : Nat} {acc : List UInt8} {w : World} (h : Bd B b acc w) : b < w.heap.size := by
  rcases h.is with ⟨_, v, hb, _⟩ | ⟨_, v, hb, _⟩ <;> exact (Array.getElem?_eq_some_iff.1 hb).1

/-- A box of what was seen, behind a call and one block more. -/
theorem box2 (w : World) (x y : Value) (T : TypeId) (o : Obj) : ((w.alloc (.cells #[x, y] T)).alloc o).cell? ⟨w.heap.size, 0, none⟩ = some x ∧ ((w.alloc (.cells #[x, y] T)).alloc o).cell? ⟨w.heap.size, 1, none⟩ = some y := by
  constructor <;> simp

set_option maxHeartbeats 1000000 in
theorem iseenText_any (s : Sn) (w : World) (hs : s.Le 1048576) (ha : s.At w) (f1 : Fits s.l1) (f2 : Fits s.l2) (ht : HasTab w) :
    Calls Tryd.prog 7 #[.agg #[.slice s.a1 s.l1.length s.c1, .slice s.a2 s.l2.length s.c2]] w fun e w' => e = .returned (.string ⟨(M.seenText s.l1 s.l2).toArray⟩) ∧ Below w.heap.size w w' := by
  obtain ⟨a1, b1, o1, c1, l1, a2, b2, o2, c2, l2⟩ := s
  obtain ⟨hl1, hl2⟩ := hs
  obtain ⟨i1, i2⟩ := ha
  simp only at hl1 hl2 i1 i2 f1 f2 ⊢
  go_enter Tryd.func7, Tryd.ntmps7
  go_wp2_with fail
  have hbx := below1 w (.cells #[.slice a1 l1.length c1, .slice a2 l2.length c2] 25)
  have j1 := i1.below hbx (Nat.le_refl _)
  have j2 := i2.below hbx (Nat.le_refl _)
  have ht1 := ht.below hbx (Nat.le_refl _)
  have hbd := Bd.fresh (w.alloc (.cells #[.slice a1 l1.length c1, .slice a2 l2.length c2] 25))
  have x1 : (w.alloc (.cells #[.slice a1 l1.length c1, .slice a2 l2.length c2] 25)).cell? ⟨w.heap.size, 1, none⟩ = some (.slice a2 l2.length c2) := by simp
  have hbl := below1 (w.alloc (.cells #[.slice a1 l1.length c1, .slice a2 l2.length c2] 25)) (.cells #[.pointer none, .slice none 0 0] 46)
  have eB : w.heap.size + 1 = (w.alloc (.cells #[.slice a1 l1.length c1, .slice a2 l2.length c2] 25)).heap.size := by simp
  generalize (w.alloc (.cells #[.slice a1 l1.length c1, .slice a2 l2.length c2] 25)).alloc (.cells #[.pointer none, .slice none 0 0] 46) = W0 at *
  generalize w.alloc (.cells #[.slice a1 l1.length c1, .slice a2 l2.length c2] 25) = w1 at *
  rw [eB]
  generalize hB : w1.heap.size = B at *
  clear i1 i2 ht eB
  have hxl : w.heap.size < B := by rw [← hB]; exact World.block_lt_of_cell? _ _ x1
  go_loopw [11] (fun s11 wr => ∃ n : Nat, s11 = .int .i64 n ∧ n ≤ l1.length ∧ Bd B B (M.behind (l1.take n)) wr ∧ Below B w1 wr) (fun s11 _ => l1.length - (intOf s11).toNat)
  case atStart => exact ⟨0, rfl, Nat.zero_le _, by simpa [M.behind] using hbd, hbl⟩
  case round =>
    obtain ⟨n, rfl, hn, hD, hbel⟩ := hrel
    have hlen := M.behind_le (f1.take n)
    have hlen2 : (l1.take n).length ≤ 1048576 := by simp only [List.length_take]; omega
    by_cases hlt : n < l1.length
    · obtain ⟨rfl⟩ := j1.addr (by omega)
      have hc := (j1.below hbel (by omega)).row n hlt
      have hfit := f1 _ (List.getElem_mem hlt)
      have HS : Hid (M.behind (l1.take (n + 1)) = M.behind (l1.take n) ++ (Lib.itoa l1[n] ++ [32])) := M.behind_step (List.getElem?_eq_getElem hlt)
      have hil := M.itoa_le _ hfit.1 hfit.2
      have htr := ht1.below hbel (by omega)
      generalize l1[n] = v at hc hfit HS hil
      generalize M.behind (l1.take n) = acc at *
      go_wp2_with (go_at_call 18; refine (itoa_any v hfit.1 hfit.2 _ htr).mono ?_; rintro e w2 ⟨rfl, k, os, rfl⟩)
      have hD2 := hD.kept (grow_by wr k os)
      have hbg := grow_below wr k os
      refine (wString_any B B acc ⟨(Lib.itoa v).toArray⟩ _ hD2 (by simp [ByteArray.size]; omega)).mono ?_
      rintro e w3 ⟨rfl, h3, k3⟩
      go_wp2_with fail
      refine (wRune_any B B _ 32 _ h3 (by omega) (by omega) (by simp; omega)).mono ?_
      rintro e w4 ⟨rfl, h4, k4⟩
      go_wp2_with fail
      exact ⟨⟨n + 1, by go_num, by omega, by rw [HS.out]; simpa [M.b8] using h4, ((hbel.trans (hbg.mono hD.le)).trans k3.bel).trans k4.bel⟩, by simp [intOf]; omega⟩
    · rw [List.take_of_length_le (by omega)] at hD hlen
      generalize hA : M.behind l1 = A at *
      have hAl : A.length ≤ 30000000 := by
        have : l1.length ≤ 1048576 := hl1
        omega
      go_wp2_with fail
      refine (wRune_any B B _ 47 _ hD (by omega) (by omega) (by omega)).mono ?_
      rintro e w4 ⟨rfl, h4, k4⟩
      have hb4 := hbel.trans k4.bel
      have x4 := (hb4.cell (p := ⟨w.heap.size, 1, none⟩) hxl).trans x1
      have h4' : Bd B B (A ++ [47]) w4 := by simpa [M.b8] using h4
      clear h4 hD hbel k4
      go_wp2_with fail
      go_loopw [24] (fun s24 wi => ∃ m : Nat, s24 = .int .i64 m ∧ m ≤ l2.length ∧ Bd B B (A ++ [47] ++ M.ahead (l2.take m)) wi ∧ Below B w1 wi) (fun s24 _ => l2.length - (intOf s24).toNat)
      case atStart => exact ⟨0, rfl, Nat.zero_le _, by simpa [M.ahead] using h4', hb4⟩
      case round =>
        obtain ⟨m, rfl, hm, hD, hbel⟩ := hrel
        have hlenm := M.ahead_le (f2.take m)
        have hlenm2 : (l2.take m).length ≤ 1048576 := by simp only [List.length_take]; omega
        by_cases hlt2 : m < l2.length
        · obtain ⟨rfl⟩ := j2.addr (by omega)
          have hc := (j2.below hbel (by omega)).row m hlt2
          have hfit := f2 _ (List.getElem_mem hlt2)
          have HS : Hid (M.ahead (l2.take (m + 1)) = M.ahead (l2.take m) ++ (32 :: Lib.itoa l2[m])) := M.ahead_step (List.getElem?_eq_getElem hlt2)
          have hil := M.itoa_le _ hfit.1 hfit.2
          generalize l2[m] = v at hc hfit HS hil
          generalize M.ahead (l2.take m) = acc at *
          have hacc : (A ++ [47] ++ acc).length ≤ 60000000 := by simp only [List.length_append, List.length_cons, List.length_nil]; omega
          go_wp2_with fail
          refine (wRune_any B B _ 32 _ hD (by omega) (by omega) (by omega)).mono ?_
          rintro e w5 ⟨rfl, h5, k5⟩
          have ht5 := ht1.below (hbel.trans k5.bel) (by omega)
          go_wp2_with (go_at_call 18; refine (itoa_any v hfit.1 hfit.2 _ ht5).mono ?_; rintro e w6 ⟨rfl, k, os, rfl⟩)
          have hD6 := h5.kept (grow_by w5 k os)
          have hbg := grow_below w5 k os
          refine (wString_any B B _ ⟨(Lib.itoa v).toArray⟩ _ hD6 (by simp only [List.length_append, List.length_cons, List.length_nil] at hacc ⊢; simp only [ByteArray.size, List.size_toArray]; omega)).mono ?_
          rintro e w7 ⟨rfl, h7, k7⟩
          go_wp2_with fail
          exact ⟨⟨m + 1, by go_num, by omega, by rw [HS.out]; simpa [M.b8] using h7, ((hbel.trans k5.bel).trans (hbg.mono h5.le)).trans k7.bel⟩, by simp [intOf]; omega⟩
        · rw [List.take_of_length_le (by omega)] at hD
          go_wp2_with (go_at_call 20; refine (wText_any B B _ _ hD).mono ?_; rintro e w5 ⟨rfl, hb5⟩)
          go_ret
          refine ⟨by rw [← hA]; simp [M.seenText], ?_⟩
          exact (hbx.trans ((hbel.trans hb5).mono (by omega)))

end Go.Proofs.YtefmkenljongpaaDoor
