/- impl.SeenSort: in order, each once, of new memory. Of at most 1048576, each of at most 1048576 numbers. -/
import Derived.Test.YtkbjdhjcbhdpmabSoSo
namespace Go.Proofs.Ytkbjdhjcbhdpmab
open Go.RowKit

/-- A list of what was seen, all of it in memory beyond B. -/
structure NewL (B : Nat) (w : World) (a : Option Addr) (g : Nat) (uu : List Sn) : Prop where
  addr : 0 < uu.length → a = some ⟨g, 0, none⟩
  ge : 0 < uu.length → B ≤ g
  sr : 0 < uu.length → SR w g uu
  off : ∀ s ∈ uu, Off w g s
  fresh : ∀ s ∈ uu, B ≤ s.b1 ∧ B ≤ s.b2
  sep : Sep uu
  own : ∀ s ∈ uu, Own2 w s
theorem NewL.ks {B : Nat} {w : World} {a : Option Addr} {g : Nat} {uu : List Sn} (h : NewL B w a g uu) : KS w a g 0 (kys uu) := by
  refine ⟨fun hl => h.addr (by simpa [kys] using hl), fun i hi => ?_⟩
  have hi' : i < uu.length := by simpa [kys] using hi
  obtain ⟨c1, c2⟩ := (h.sr (by omega)).c i hi'
  refine ⟨uu[i], by simp [kys, Sn.ky], by simp [kys, Sn.ky], by rw [Nat.zero_add]; exact c1, by rw [Nat.zero_add]; exact c2, (h.off _ (List.getElem_mem hi')).at_⟩

set_option maxHeartbeats 1000000 in
set_option maxRecDepth 100000 in
theorem iseenSort_any (a : Option Addr) (b o c : Nat) (ks : List Key) (w : World) (hl : ks.length ≤ 1048576) (hls : KLe ks 1048576) (h : KS w a b o ks) :
    Calls Try.prog 8 #[.slice a ks.length c] w fun e w' => ∃ a' g c', ∃ uu : List Sn, e = .returned (.slice a' uu.length c') ∧ kys uu = M.sortK ks ∧ NewL w.heap.size w' a' g uu ∧ uu.length ≤ ks.length ∧ uu.length ≤ c' ∧ Below w.heap.size w w' := by
  rcases Nat.eq_zero_or_pos ks.length with h0 | hpos
  · have hk0 : ks = [] := List.length_eq_zero_iff.1 h0
    subst hk0
    rw [List.length_nil]
    go_enter Try.func8, Try.ntmps8
    go_wp2_with fail
    refine (inOrder_nil a c _).mono ?_
    rintro e w1 ⟨rfl, hb1⟩
    go_wp2_with fail
    go_loopw [10] (fun s10 wr => s10 = .int .i64 0 ∧ wr = w1) (fun _ _ => 0)
    case atStart => exact ⟨rfl, rfl⟩
    case round =>
      obtain ⟨rfl, rfl⟩ := hrel
      go_wp2_with fail
      go_ret
      exact ⟨none, 0, 0, [], rfl, rfl, ⟨fun h => absurd h (Nat.lt_irrefl _), fun h => absurd h (Nat.lt_irrefl _), fun h => absurd h (Nat.lt_irrefl _), fun s hs => absurd hs (by simp), fun s hs => absurd hs (by simp), ⟨fun i _ hi => absurd hi (Nat.not_lt_zero _), fun s hs => absurd hs (by simp)⟩, fun s hs => absurd hs (by simp)⟩, Nat.le_refl _, Nat.le_refl _, hb1⟩
  · obtain ⟨rfl⟩ := h.addr hpos
    obtain ⟨ss, hks, hcs⟩ := h.sns
    have hsl : ss.length = ks.length := by rw [← hks, kys_len]
    have hle : ∀ s ∈ ss, s.Le 1048576 := fun s hs => by
      have := hls s.ky (by rw [← hks]; exact List.mem_map.2 ⟨s, hs, rfl⟩)
      exact ⟨this.1, this.2⟩
    have C0 := inOrder_any b o c ss w (by omega) (by omega) hle hcs
    rw [hsl, hks] at C0
    go_enter Try.func8, Try.ntmps8
    go_wp2_with fail
    refine C0.mono ?_
    rintro e w1 ⟨g, cap, uu, rfl, hSR, hoff, hku, hul, hcap, hge, hb1⟩
    clear C0 hcs hls h
    obtain ⟨N, hN⟩ : ∃ N, uu.length = N := ⟨_, rfl⟩
    have hNb : N ≤ 1048576 := by omega
    rw [hN]
    rw [hN] at hul hcap
    have hg1 : 0 < N → g < w1.heap.size := fun hp => hSR.lt (by omega)
    go_wp2_with fail
    go_loopw [10] (fun s10 wr => ∃ (n : Nat) (vv : List Sn), s10 = .int .i64 n ∧ n ≤ N ∧ Hid (vv.length = N) ∧ Hid (kys vv = M.sortK ks) ∧ SR wr g vv ∧ Hid (∀ s ∈ vv, Off wr g s) ∧ Hid (∀ i (_ : i < n) (h1 : i < vv.length), w.heap.size ≤ vv[i].b1 ∧ w.heap.size ≤ vv[i].b2) ∧ Hid (∀ i j (_ : i < n) (_ : j < n) (hi : i < vv.length) (hj : j < vv.length), i ≠ j → ∀ b, vv[i].blk b → ¬ vv[j].blk b) ∧ Hid (∀ i (_ : i < n) (hi : i < vv.length), Own2 wr vv[i]) ∧ Below w.heap.size w wr ∧ (0 < N → g < wr.heap.size)) (fun s10 _ => N - (intOf s10).toNat)
    case atStart => exact ⟨0, uu, rfl, Nat.zero_le _, hN, hku, hSR, hoff, fun i h => absurd h (Nat.not_lt_zero _), fun i _ h => absurd h (Nat.not_lt_zero _), fun i h => absurd h (Nat.not_lt_zero _), hb1, hg1⟩
    case round =>
      obtain ⟨n, vv, rfl, hnN, Hlen, Hky, hR, Hoff, Hfr, Hsp, How, hb, hgr⟩ := hrel
      clear hSR hoff hb1 hg1
      by_cases hlt : n < N
      · have hnv : n < vv.length := by rw [Hlen.out]; exact hlt
        obtain ⟨c1, c2⟩ := hR.c n hnv
        have ho := Hoff.out _ (List.getElem_mem hnv)
        obtain ⟨s, hs⟩ : ∃ s, vv[n] = s := ⟨_, rfl⟩
        rw [hs] at c1 c2 ho
        have HS : Hid (vv[n] = s) := hs
        clear hs
        have i1 : (n : Int) < N := by omega
        have hgl := hgr (by omega)
        have fz := hR.fz
        go_wp2_with fail
        have hbx := below1 wr (.cells #[.slice s.a1 s.l1.length s.c1, .slice s.a2 s.l2.length s.c2] 35)
        refine (copySeen_any s _ ho.le (ho.at_.below hbx (Nat.le_refl _))).mono ?_
        rintro e w2 ⟨t, rfl, ht1, ht2, htf, hto, hb2⟩
        have hbr2 : Below wr.heap.size wr w2 := hbx.trans (hb2.mono (by simp))
        have hR2 := hR.below hbr2 hgl
        obtain ⟨d1, d2⟩ := hR2.c n hnv
        have fz2 := hR2.fz
        have htg : wr.heap.size + 1 ≤ t.b1 ∧ wr.heap.size + 1 ≤ t.b2 := ⟨by have := htf.g1; simpa using this, by have := htf.g2; simpa using this⟩
        have hsz := hb.size
        have hot : Off w2 g t := ⟨htf.at_, ⟨by rw [ht1]; exact ho.le.reads, by rw [ht2]; exact ho.le.last⟩, fun _ => by omega, fun _ => by omega⟩
        have HT1 : Hid (t.l1 = s.l1) := ht1
        have HT2 : Hid (t.l2 = s.l2) := ht2
        clear ht1 ht2
        go_wp2_with fail
        refine ⟨⟨n + 1, vv.set n t, by go_num, by omega, (List.length_set ..).trans Hlen.out, ?_, hR2.set hnv t, ?_, ?_, ?_, ?_, ?_, ?_⟩, by simp [intOf]; omega⟩
        · show kys (vv.set n t) = M.sortK ks
          have e : t.ky = vv[n].ky := by rw [HS.out]; exact Prod.ext HT1.out HT2.out
          rw [← Hky.out, kys, List.map_set, e, kys]
          have : vv[n].ky = (vv.map Sn.ky)[n]'(by simpa using hnv) := by simp
          rw [this, List.set_getElem_self]
        · intro s' hs'
          rcases List.mem_or_eq_of_mem_set hs' with h | rfl
          · exact ((Hoff.out s' h).below hbr2).far.far
          · exact hot.far.far
        · intro i hi h1
          by_cases e : i = n
          · subst e
            rw [List.getElem_set_self]
            omega
          · rw [List.getElem_set_ne (fun h => e h.symm)]
            exact Hfr.out i (by omega) (by simpa using h1)
        · have new : ∀ b, t.blk b → wr.heap.size ≤ b := fun b hk => by
            rcases hk with ⟨_, rfl⟩ | ⟨_, rfl⟩ <;> omega
          have old : ∀ i (hi : i < vv.length), ∀ b, vv[i].blk b → b < wr.heap.size := fun i hi b hk => Sn.blk_lt (Hoff.out _ (List.getElem_mem hi)).at_ hk
          intro i j hi hj hi2 hj2 hij b hk hk'
          have hi3 : i < vv.length := by simpa using hi2
          have hj3 : j < vv.length := by simpa using hj2
          by_cases ei : i = n
          · subst ei
            rw [List.getElem_set_self] at hk
            rw [List.getElem_set_ne hij] at hk'
            have := new b hk
            have := old j hj3 b hk'
            omega
          · rw [List.getElem_set_ne (fun h => ei h.symm)] at hk
            by_cases ej : j = n
            · subst ej
              rw [List.getElem_set_self] at hk'
              have := new b hk'
              have := old i hi3 b hk
              omega
            · rw [List.getElem_set_ne (fun h => ej h.symm)] at hk'
              exact Hsp.out i j (by omega) (by omega) hi3 hj3 hij b hk hk'
        · intro i hi hi2
          have hi3 : i < vv.length := by simpa using hi2
          by_cases ei : i = n
          · subst ei
            rw [List.getElem_set_self]
            exact hto.far.far
          · rw [List.getElem_set_ne (fun h => ei h.symm)]
            exact ((How.out i (by omega) hi3).below (Hoff.out _ (List.getElem_mem hi3)).at_ hbr2).far.far
        · exact ((hb.trans (hbr2.mono hb.size)).setCell (by show w.heap.size ≤ g; omega) _).setCell (by show w.heap.size ≤ g; omega) _
        · intro _
          have := hbr2.size
          simp [World.setCell]
          omega
      · obtain rfl : n = N := by omega
        go_wp2_with fail
        go_ret
        refine ⟨some ⟨g, 0, none⟩, g, cap, vv, by rw [Hlen.out]; rfl, Hky.out, ⟨fun _ => rfl, fun _ => hge, fun _ => hR, Hoff.out, fun s hs => ?_, ⟨fun i j hi hj hij => Hsp.out i j (by rw [← Hlen.out]; exact hi) (by rw [← Hlen.out]; exact hj) hi hj hij, fun s hs => ?_⟩, fun s hs => ?_⟩, by rw [Hlen.out]; omega, by rw [Hlen.out]; omega, hb⟩
        all_goals obtain ⟨i, hi, rfl⟩ := List.getElem_of_mem hs
        · exact Hfr.out i (by rw [← Hlen.out]; exact hi) hi
        · exact (How.out i (by rw [← Hlen.out]; exact hi) hi).ne
        · exact How.out i (by rw [← Hlen.out]; exact hi) hi

end Go.Proofs.Ytkbjdhjcbhdpmab
