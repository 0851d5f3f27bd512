/- impl's turn: the things with the numbers of a row; of numbers, of threads. Of at most 1000 things, rows of at most 1048576 numbers. -/
import Derived.Test.YtnaljfnijcoheaaTnI
import Derived.Test.YtnaljfnijcoheaaIProg
namespace Go.Proofs.Ytnaljfnijcoheaa
open Go.RowKit

/-- What a row makes of things: nothing, if it is none. -/
def M.turned {α : Type} (z : α) (row : List Int) (l : List α) : List α := if M.rowN row l.length then M.pick z row l else []
theorem M.turned_no {α : Type} {z : α} {row : List Int} {l : List α} (h : M.rowN row l.length = false) : M.turned z row l = [] := by simp [M.turned, h]
theorem M.turned_yes {α : Type} {z : α} {row : List Int} {l : List α} (h : M.rowN row l.length = true) : M.turned z row l = M.pick z row l := by simp [M.turned, h]

/-- Values that are threads. -/
def Thx (w : World) (vs : List Value) (ll : List (List M.D)) : Prop := vs.length = ll.length ∧ ∀ i (h1 : i < ll.length) (h2 : i < vs.length), ∃ a' b' o' c', vs[i] = .slice a' ll[i].length c' ∧ DoS w a' b' o' ll[i]
theorem Thx.nil (w : World) : Thx w [] [] := ⟨rfl, fun _ h => absurd h (Nat.not_lt_zero _)⟩
theorem Thx.below {w w' : World} {vs : List Value} {ll : List (List M.D)} {B : Nat} (h : Thx w vs ll) (hb : Below B w w') (hB : w.heap.size ≤ B) : Thx w' vs ll :=
  ⟨h.1, fun i h1 h2 => by obtain ⟨a', b', o', c', e, hd⟩ := h.2 i h1 h2; exact ⟨a', b', o', c', e, hd.below hb hB⟩⟩
theorem Thx.snoc {w : World} {vs : List Value} {ll : List (List M.D)} {a : Option Addr} {b o c : Nat} {l : List M.D} (h : Thx w vs ll) (hd : DoS w a b o l) : Thx w (vs ++ [.slice a l.length c]) (ll ++ [l]) := by
  have hl := h.1
  refine ⟨by simp [hl], fun i h1 h2 => ?_⟩
  by_cases hi : i < ll.length
  · rw [List.getElem_append_left (by omega), List.getElem_append_left hi]
    exact h.2 i hi (by omega)
  · have : i = ll.length := by simp at h1; omega
    subst this
    have e1 : (ll ++ [l])[ll.length] = l := by simp
    have e2 : (vs ++ [Value.slice a l.length c])[ll.length] = .slice a l.length c := by
      rw [List.getElem_append_right (by omega)]
      simp [hl]
    rw [e1, e2]
    exact ⟨a, b, o, c, rfl, hd⟩
theorem Thx.ss {w : World} {B : Nat} {v : Value} {vs : List Value} {ll : List (List M.D)} (h : Thx w vs ll) (ho : w.ownsRow B 77 1 v ll.length vs) : ∃ a g c, v = .slice a ll.length c ∧ DoSS w a g 0 ll := by
  have hl := h.1
  rcases ho.2 with ⟨hv, hn⟩ | ⟨g, cap, cur, hv, hg, hh, r⟩
  · have : ll = [] := List.length_eq_zero_iff.1 hn
    subst this
    exact ⟨none, 0, 0, hv, ⟨fun h => absurd h (Nat.lt_irrefl _), fun i hi => absurd hi (Nat.not_lt_zero _)⟩⟩
  · refine ⟨_, g, cap, hv, ⟨fun _ => rfl, fun i hi => ?_⟩⟩
    have hc := ho.cells (g := g) (by rw [hv]; rfl) i vs[i] (List.getElem?_eq_getElem (by omega))
    rw [Go.WideShapes.add_plain] at hc
    obtain ⟨a', b', o', c', e, hd⟩ := h.2 i hi (by omega)
    rw [e] at hc
    exact ⟨a', b', o', c', hc, hd⟩

theorem Try.infoTh : (Try.prog.info? 77).map (fun i => (i.zero, i.size, i.bytes)) = some (some (.slice none 0 0), 1, 24) := by kernel_rfl
theorem own_sl1 {w : World} {B : Nat} {e : TypeId} {size : Nat} {v : Value} {n : Nat} {xs : List Value} (h : w.ownsRow B e size v n xs) : v.oneCell' = true := by
  rcases h.2 with ⟨hv, h0⟩ | ⟨g, cap, cur, hv, _⟩ <;> rw [hv] <;> rfl

set_option maxHeartbeats 1000000 in
set_option maxRecDepth 100000 in
theorem turnT_any (a : Option Addr) (b o c : Nat) (row : List Int) (a2 : Option Addr) (b2 o2 c2 : Nat) (ll : List (List M.D)) (w : World) (hl : row.length ≤ 1048576) (hl2 : ll.length ≤ 1000) (h : IntS w a b o row) (h2 : DoSS w a2 b2 o2 ll) :
    Calls Try.prog 49 #[.slice a row.length c, .slice a2 ll.length c2] w fun e w' => ∃ v, e = .returned (.tuple #[v, .bool (M.rowN row ll.length)]) ∧ (∃ a', (∃ c', v = .slice a' (M.turned [] row ll).length c') ∧ ∃ g', DoSS w' a' g' 0 (M.turned [] row ll)) ∧ Below w.heap.size w w' := by
  obtain ⟨i0, hi, hz0, hz1, hz2⟩ := info_parts Try.infoTh
  go_enter Try.func49, Try.ntmps49
  go_wp2_with fail
  refine (numbersBelow_any ll.length w hl2).mono ?_
  rintro e w1 ⟨v1, rfl, hown1, b1⟩
  obtain ⟨a1, g1, c1, rfl, hI1, _, _⟩ := own_nums hown1
  have hbl : (M.bel ll.length).length ≤ 1048576 := by rw [M.bel_len]; omega
  have CR := rowOf_any a b o c row a1 g1 0 c1 (M.bel ll.length) w1 hl hbl (h.below b1 (Nat.le_refl _)) hI1
  change Calls _ _ _ _ (fun e w' => e = .returned (.bool (M.rowN row ll.length)) ∧ _) at CR
  clear hown1 hI1 hbl
  generalize (M.bel ll.length).length = bl at *
  cases hr : M.rowN row ll.length
  · rw [hr] at CR
    go_wp2_with (first | (go_at_call 80; refine CR.mono ?_; rintro e w2 ⟨rfl, rfl⟩))
    exact bodyPost_ret (v := .tuple #[.slice none 0 0, .bool false]) (by simp [results, Try.results49, go_sem]) rfl ⟨_, by rw [hr], ⟨none, ⟨0, by rw [M.turned_no hr, List.length_nil]⟩, 0, by rw [M.turned_no hr]; exact ⟨fun h => absurd h (Nat.lt_irrefl _), fun i hi => absurd hi (Nat.not_lt_zero _)⟩⟩, b1⟩
  · rw [hr] at CR
    have HR : Hid (M.rowN row ll.length = true) := hr
    clear hr
    go_wp2_with (first | (go_at_call 80; refine CR.mono ?_; rintro e w2 ⟨rfl, rfl⟩))
    go_loopw [6, 17] (fun s6 s17 wr => ∃ (k : Nat) (vs : List Value), s17 = .int .i64 k ∧ k ≤ row.length ∧ wr.ownsRow w.heap.size 77 1 s6 (M.pick [] (row.take k) ll).length vs ∧ Thx w vs (M.pick [] (row.take k) ll) ∧ Below w.heap.size w wr) (fun _ s17 _ => row.length - (intOf s17).toNat)
    case atStart => exact ⟨0, [], rfl, Nat.zero_le _, World.ownsRow_nil _ _ _ _, Thx.nil _, b1⟩
    case round =>
      obtain ⟨k, vs, rfl, hk, hown, hT, hbel⟩ := hrel
      by_cases hkn : k < row.length
      · have hkn' : (k : Int) < row.length := by omega
        obtain ⟨rfl⟩ := h.addr (by omega)
        have x1 := (h.below hbel (Nat.le_refl _)).row k hkn
        have HB : Hid (M.pick [] (row.take (k + 1)) ll = M.pick [] (row.take k) ll ++ [ll.getD row[k].toNat []]) := M.pick_take [] row ll k hkn
        obtain ⟨r0, r1⟩ := M.rowN_get HR.out k hkn
        obtain ⟨rfl⟩ := h2.addr (by omega)
        generalize row[k] = y at *
        obtain ⟨j, rfl⟩ : ∃ j : Nat, y = j := ⟨y.toNat, by omega⟩
        have hj : j < ll.length := by omega
        obtain ⟨a', b', o', c', hc, hd⟩ := h2.row j hj
        have x2 := (hbel.cell (p := ⟨b2, o2 + j, none⟩) (World.block_lt_of_cell? _ _ hc)).trans hc
        have HB2 : Hid (M.pick [] (row.take (k + 1)) ll = M.pick [] (row.take k) ll ++ [ll[j]]) := by show _ = _; rw [HB.out]; congr 2; exact M.getD_get hj
        clear HB hc
        have hpl : (M.pick [] (row.take k) ll).length ≤ 1048576 := by rw [M.pick_len]; simp; omega
        have hbs := hbel.size
        generalize ll[j] = z at *
        generalize M.pick [] (row.take k) ll = m at *
        go_wp2_with (at_builtin; refine wpList_append_own _ rfl (.tmp 21) (.tmp 26) 23 rfl _ 77 i0 _ 1 24 Try.underlying23 hi hz0 hz1 hz2 rfl (by decide) _ _ _ rfl (hown.alloc _) ⟨wr.heap.size, 0, none⟩ 1 1 [.slice a' z.length c'] rfl rfl (cells_new1 _ _ _ _ (by simp)) (by simp [Value.oneCell']) (by unfold maxLen; omega) (by omega) (by simp; omega) ?_)
        intro v3 w3 hown3 hg3 _
        have hb3 : Below _ _ w3 := below_grown (hbel.trans ((below1 wr _).mono hbel.size)) hg3 (own_ge hown) (by simp; omega)
        have hown4 : w3.ownsRow w.heap.size 77 1 v3 (M.pick [] (row.take (k + 1)) ll).length (vs ++ [.slice a' z.length c']) := by rw [HB2.out, List.length_append]; exact hown3
        have hT4 : Thx w (vs ++ [.slice a' z.length c']) (M.pick [] (row.take (k + 1)) ll) := by rw [HB2.out]; exact hT.snoc hd
        clear hown3 hg3 hown
        go_wp2_with fail
        exact ⟨⟨k + 1, _, by go_num, by omega, hown4, hT4, hb3⟩, by simp [intOf]; omega⟩
      · have htk : row.take k = row := List.take_of_length_le (by omega)
        rw [htk] at hown hT
        have hkn' : ¬ (k : Int) < row.length := by omega
        obtain ⟨a', g', c', rfl, hs⟩ := (hT.below hbel (Nat.le_refl _)).ss hown
        go_wp2_with fail
        exact bodyPost_ret (v := .tuple #[.slice a' (M.pick [] row ll).length c', .bool true]) (by simp [results, Try.results49, go_sem]) rfl ⟨_, by rw [HR.out], ⟨a', ⟨c', by rw [M.turned_yes HR.out]⟩, g', by rw [M.turned_yes HR.out]; exact hs⟩, hbel⟩

end Go.Proofs.Ytnaljfnijcoheaa
