/- The law's own lpRead: the number of the read that an event is, among all. Of at most 1048576 threads and steps. -/
import Derived.Test.YtdpnnghomfaleaaBnYc
import Derived.Test.YtdpnnghomfaleaaOsDo
namespace Go.Proofs.Ytdpnnghomfaleaa
open Go.RowKit

namespace M
theorem rdN_step {ds : List De} {k : Nat} (hk : k < ds.length) : rdN (ds.take (k + 1)) = rdN (ds.take k) + if ds[k].reads then 1 else 0 := by
  rw [List.take_add_one, List.getElem?_eq_getElem hk, rdN_append]
  simp only [Option.toList_some, rdN, List.filter_cons, List.filter_nil]
  cases ds[k].reads <;> simp
theorem rdAt_get (ds : List De) (l : List Int) : ∀ (xs : List De) (n i : Nat) (hi : i < xs.length), xs[i].reads = true → (rdAt ds l n xs)[rdN (xs.take i)]? = some (vl ds l ((n + i : Nat) : Int))
  | x :: xs, n, 0, _, hr => by
    simp only [List.getElem_cons_zero] at hr
    simp [rdAt, hr, rdN]
  | x :: xs, n, i + 1, hi, hr => by
    have hi' : i < xs.length := by simpa using hi
    have ih := rdAt_get ds l xs (n + 1) i hi' (by simpa using hr)
    rw [show n + 1 + i = n + (i + 1) from by omega] at ih
    rw [List.take_succ_cons, rdAt]
    cases hx : x.reads
    · simpa [rdN, hx] using ih
    · simp only [rdN, List.filter_cons, hx, if_true, List.length_cons, List.getElem?_cons_succ] at ih ⊢
      exact ih
theorem rdN_le (ds : List De) (i : Nat) : rdN (ds.take i) ≤ ds.length := Nat.le_trans (List.length_filter_le _ _) (by rw [List.length_take]; omega)
theorem reads_k {x : De} : x.reads = (x.d.k == 2 || x.d.k == 5) := rfl
end M

set_option maxHeartbeats 2000000 in
set_option maxRecDepth 100000 in
theorem lpRead_any (a : Option Addr) (b o c : Nat) (ll : List (List M.D)) (va : Option Addr) (g cc i : Nat) (w : World) (hl : ll.length ≤ 1048576) (hdl : (M.deeds ll).length ≤ 42) (hi : i ≤ (M.deeds ll).length) (h : DoSS w a b o ll) (hd : DvS w va g (M.deeds ll)) :
    Calls Try.prog 28 #[.agg #[.slice a ll.length c], .slice va (M.deeds ll).length cc, .int .i64 i] w fun e w' => e = .returned (.int .i64 (M.rdN ((M.deeds ll).take i))) ∧ Below w.heap.size w w' := by
  have hb0 := below1 w (.cells #[.slice a ll.length c] 34)
  have kb : (w.alloc (.cells #[.slice a ll.length c] 34)).cell? ⟨w.heap.size, 0, none⟩ = some (.slice a ll.length c) := by simp
  have h0 := h.below hb0 (Nat.le_refl _)
  have hd0 := hd.bel hb0 (Nat.le_refl _)
  have hof := M.ofEv (ll := ll)
  go_enter Try.func28, Try.ntmps28
  go_wp2_with fail
  generalize w.alloc (.cells #[.slice a ll.length c] 34) = W at *
  have lW : w.heap.size < W.heap.size := World.block_lt_of_cell? _ _ kb
  generalize hP : w.heap.size = P at *
  go_loopw [7, 8] (fun s7 s8 wr => ∃ k : Nat, s8 = .int .i64 k ∧ k ≤ i ∧ s7 = .int .i64 (M.rdN ((M.deeds ll).take k)) ∧ Below W.heap.size W wr) (fun _ s8 _ => i - (intOf s8).toNat)
  case atStart => exact ⟨0, rfl, Nat.zero_le _, rfl, Below.refl _ _⟩
  case round =>
    obtain ⟨k, rfl, hk, rfl, hbr⟩ := hrel
    by_cases hlt : k < i
    · have i1 : (k : Int) < i := by omega
      have hkd : k < (M.deeds ll).length := by omega
      have i2 : (k : Int) < (M.deeds ll).length := by omega
      have hs := M.rdN_step hkd
      have hnb := M.rdN_le (M.deeds ll) k
      obtain ⟨e0, e1, e2⟩ := DvS.at (hd0.bel hbr (Nat.le_refl _)) hkd
      obtain ⟨rfl⟩ := hd0.addr (by omega)
      obtain ⟨ht, hi', ed⟩ := hof _ (List.getElem_mem hkd)
      generalize (M.deeds ll)[k] = x at *
      have pr := (hbr.cell (p := ⟨P, 0, none⟩) lW).trans kb
      obtain ⟨ta, tb, to', tc, kt, hTd⟩ := (h0.below hbr (Nat.le_refl _)).row x.t ht
      obtain ⟨rfl⟩ := h0.addr (by omega)
      obtain ⟨rfl⟩ := hTd.addr (by omega)
      obtain ⟨d0, d1, d2⟩ := hTd.row x.i hi'
      rw [ed] at d0 d1 d2
      have i7 : (x.t : Int) < ll.length := by omega
      have i8 : (x.i : Int) < ll[x.t].length := by omega
      clear ed hTd
      generalize ll[x.t].length = tl at *
      have n0 := World.new_ne wr _ pr
      have n1 := World.new_ne wr _ kt
      have n2 := World.new_ne wr _ d0
      have n3 := World.new_ne wr _ e0
      clear hof h hd h0 hd0
      have HS : Hid (M.rdN ((M.deeds ll).take (k + 1)) = M.rdN ((M.deeds ll).take k) + if x.reads then 1 else 0) := hs
      clear hs
      generalize M.rdN ((M.deeds ll).take k) = rk at *
      go_wp2_with fail
      go_region_held3 (fun z => z.cell? ⟨P, 0, none⟩ = some (.slice (some ⟨b, o, none⟩) ll.length c) ∧ z.cell? ⟨b, o + x.t, none⟩ = some (.slice (some ⟨tb, to', none⟩) tl tc) ∧ z.cell? ⟨tb, to' + x.i * 3, none⟩ = some (.int .i64 x.d.k) ∧ z.cell? ⟨tb, to' + x.i * 3 + 1, none⟩ = some (.int .i64 x.d.p) ∧ z.cell? ⟨tb, to' + x.i * 3 + 2, none⟩ = some (.int .i64 x.d.v) ∧ z.cell? ⟨g, k * 3, none⟩ = some (.int .i64 x.t) ∧ z.cell? ⟨g, k * 3 + 1, none⟩ = some (.int .i64 x.i)) (go_keep) (fail)
      all_goals
        have f0 : (wr.alloc (.cells #[.int .i64 x.d.k, .int .i64 x.d.p, .int .i64 x.d.v] 58)).drew.cell? ⟨wr.heap.size, 0, none⟩ = some (.int .i64 x.d.k) := by simp
        have bD : Below W.heap.size W (wr.alloc (.cells #[.int .i64 x.d.k, .int .i64 x.d.p, .int .i64 x.d.v] 58)).drew := (hbr.alloc hbr.size _).drew
        clear n0 n1 n2 n3 pr kt d0 d1 d2 e0 e1 e2
        generalize (wr.alloc (.cells #[.int .i64 x.d.k, .int .i64 x.d.p, .int .i64 x.d.v] 58)).drew = Wd at *
        generalize wr.heap.size = D at *
        by_cases hk2 : x.d.k = 2
        · have b2 : (x.d.k == 2) = true := by simp [hk2]
          have HR : Hid (M.rdN ((M.deeds ll).take (k + 1)) = rk + 1) := by show _ = _; rw [HS.out, M.reads_k, b2]; rfl
          go_wp2_with fail
          exact ⟨⟨k + 1, by go_num, by omega, by rw [HR.out]; go_num, bD⟩, by simp [intOf]; omega⟩
        · have b2 : (x.d.k == 2) = false := by simp [hk2]
          by_cases hk5 : x.d.k = 5
          · have b5 : (x.d.k == 5) = true := by simp [hk5]
            have HR : Hid (M.rdN ((M.deeds ll).take (k + 1)) = rk + 1) := by show _ = _; rw [HS.out, M.reads_k, b2, b5]; rfl
            go_wp2_with fail
            exact ⟨⟨k + 1, by go_num, by omega, by rw [HR.out]; go_num, bD⟩, by simp [intOf]; omega⟩
          · have b5 : (x.d.k == 5) = false := by simp [hk5]
            have HR : Hid (M.rdN ((M.deeds ll).take (k + 1)) = rk) := by show _ = _; rw [HS.out, M.reads_k, b2, b5]; rfl
            go_wp2_with fail
            exact ⟨⟨k + 1, by go_num, by omega, by rw [HR.out], bD⟩, by simp [intOf]; omega⟩
    · go_wp2_with fail
      go_ret
      have hki : k = i := by omega
      subst hki
      exact ⟨rfl, by rw [hP]; exact hb0.trans (hbr.mono (Nat.le_of_lt lW))⟩
end Go.Proofs.Ytdpnnghomfaleaa
