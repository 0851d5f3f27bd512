/- laws.lpWithin, where all of one list is in the other one. Of at most 1048576. The law FnOrderMore, walked: it answers true, and leaves all as it was. Of whatever code. -/
import Derived.Test.YtphijhpleemjoaaGreatBAae
import Derived.Test.YtphijhpleemjoaaGreatBAax
import Derived.Test.YtphijhpleemjoaaGreatBAaz
import Derived.Test.YtphijhpleemjoaaGreatBAbh
import Derived.Test.YtphijhpleemjoaaGreatBAbu
import Derived.Test.YtphijhpleemjoaaGreatBAbv
namespace Go.Proofs.YtphijhpleemjoaaGreat
open Go.RowKit
theorem M.isIn_mem {ks : List Key} {k : Key} (h : k ∈ ks) : M.isIn ks k.1 k.2 = true := by
 unfold M.isIn
 exact List.any_eq_true.2 ⟨k, h, by simp [M.cmpS_self]⟩
set_option maxHeartbeats 1000000 in
set_option maxRecDepth 100000 in
theorem lpWithin_yes (a : Option Addr) (b o c : Nat) (a2 : Option Addr) (b2 o2 c2 : Nat) (ks ms : List Key) (w : World) (hl : ks.length ≤ 1048576) (hls : KLe ks 1048576) (hl2 : ms.length ≤ 1048576) (hls2 : KLe ms 1048576) (h : KS w a b o ks) (h2 : KS w a2 b2 o2 ms) (hin : ∀ k ∈ ks, k ∈ ms) :
  Calls Tryz.prog 19 #[.slice a ks.length c, .slice a2 ms.length c2] w fun e w' => e = .returned (.bool true) ∧ Below w.heap.size w w' := by
 go_enter Tryz.func19, Tryz.ntmps19
 go_wp2_with fail
 go_loopw [5] (fun s5 wr => ∃ n : Nat, s5 = .int .i64 n ∧ n ≤ ks.length ∧ Below w.heap.size w wr) (fun s5 _ => ks.length - (intOf s5).toNat)
 case atStart => exact ⟨0, rfl, Nat.zero_le _, Below.refl _ _⟩
 case round =>
  obtain ⟨n, rfl, hn, hb⟩ := hrel
  by_cases hlt : n < ks.length
  ·obtain ⟨rfl⟩ := h.addr (by omega)
   obtain ⟨s, h1, h2', c1, c2', hsa⟩ := (h.below hb (Nat.le_refl _)).row n hlt
   obtain ⟨e1, e2⟩ := hls _ (List.getElem_mem hlt)
   have hsl : s.Le 1048576 := ⟨by rw [h1]; exact e1, by rw [h2']; exact e2⟩
   have C := sseenIn_any a2 b2 o2 c2 ms s wr hl2 hls2 hsl (h2.below hb (Nat.le_refl _)) hsa
   have hq : M.isIn ms s.l1 s.l2 = true := by rw [h1, h2']; exact M.isIn_mem (hin _ (List.getElem_mem hlt))
   rw [hq] at C
   clear h1 h2' e1 e2 hq hin
   have i1 : (n : Int) < ks.length := by omega
   go_wp2_with fail
   refine C.mono ?_
   rintro e w1 ⟨rfl, b1⟩
   go_wp2_with fail
   exact ⟨⟨n + 1, by go_num, by omega, hb.trans (b1.mono hb.size)⟩, by simp [intOf]; omega⟩
  ·go_wp2_with fail
   go_ret
   exact ⟨rfl, hb⟩
end Go.Proofs.YtphijhpleemjoaaGreat
namespace Go.Proofs.YtphijhpleemjoaaGreat
open Go.RowKit
theorem M.all_late {ll : List (List M.D)} : ∀ k ∈ M.orderAll ll 1, k ∈ M.orderAll ll 2 := fun k hk => by
 obtain ⟨x, hx, e⟩ := M.mem_orderAll.1 hk
 exact M.mem_orderAll.2 ⟨x, M.holds_late hx, e⟩
theorem M.all_loose {ll : List (List M.D)} : ∀ k ∈ M.orderAll ll 2, k ∈ M.orderAll ll 3 := fun k hk => by
 obtain ⟨x, hx, e⟩ := M.mem_orderAll.1 hk
 exact M.mem_orderAll.2 ⟨x, M.holds_loose hx, e⟩
set_option maxHeartbeats 4000000 in
set_option maxRecDepth 100000 in
theorem lawMore_any (ca : Option Addr) (cb co L C : Nat) (x : Nat → Int) (w : World) (hL : L ≤ C) (had : 0 < L → ca = some ⟨cb, co, none⟩) (hc : ∀ i, i < L → w.cell? ⟨cb, co + i, none⟩ = some (.int .u8 (x i)) ∧ 0 ≤ x i ∧ x i ≤ 255) :
  Calls Tryz.prog 3 #[.slice ca L C] w fun e w' => e = .returned (.bool true) ∧ Below w.heap.size w w' := by
 by_cases hLb : L ≤ 1048576
 ·go_enter Tryz.func3, Tryz.ntmps3
  go_wp2_with fail
  refine (DrawOrderAll_any ca cb co L C x _ hL had hc hLb).mono ?_
  rintro e w1 ⟨a, g, c, mm, kind, rfl, hsn, hsm, hk0, hk1, hb1⟩
  have hls := hsm.le
  have hl3 : mm.length ≤ 1048576 := by have := hsm.three; omega
  clear had hc
  have bx0 := BoxP.new (c := c) hb1 hsn.ss
  go_wp2_with fail
  generalize w1.alloc (.cells #[.slice a mm.length c] 25) = W0 at *
  generalize w1.heap.size = P at *
  clear hsn hb1 hsm
  have hkl := M.orderAll_len mm kind
  have hkk := M.orderAll_le mm kind
  have hl1 := M.orderAll_len mm 1
  have hk1' := M.orderAll_le mm 1
  have hl2 := M.orderAll_len mm 2
  have hk2 := M.orderAll_le mm 2
  have hl3' := M.orderAll_len mm 3
  have hk3 := M.orderAll_le mm 3
  have hin1 := M.all_late (ll := mm)
  have hin2 := M.all_loose (ll := mm)
  have CI := fun (W : World) (h : BoxP w W P a g c mm) (kind : Int) => iorderAllK a g 0 c mm kind W hl3 hls h.ss
  have CS := fun (W : World) (h : BoxP w W P a g c mm) => sorderAllK a g 0 c mm kind W hl3 hls h.ss
  have C1 := fun (W : World) (h : BoxP w W P a g c mm) => CI W h 1
  have C2 := fun (W : World) (h : BoxP w W P a g c mm) => CI W h 2
  have C3 := fun (W : World) (h : BoxP w W P a g c mm) => CI W h 3
  have CK := fun (W : World) (h : BoxP w W P a g c mm) => CI W h kind
  clear CI
  generalize M.orderAll mm kind = ks at *
  generalize M.orderAll mm 1 = k1 at *
  generalize M.orderAll mm 2 = k2 at *
  generalize M.orderAll mm 3 = k3 at *
  refine (CK W0 bx0).mono ?_
  rintro e W1 ⟨v1, rfl, hA⟩
  have bx1 := bx0.below hA.bel
  obtain ⟨av, gv, cv, rfl, hS⟩ := hA.ex
  have p1 := bx1.p.c
  clear hA bx0
  go_wp2_with fail
  refine (CS W1 bx1).mono ?_
  rintro e W2 ⟨v2, rfl, hB⟩
  have bx2 := bx1.below hB.bel
  have hS2 := hS.below hB.bel (Nat.le_refl _)
  obtain ⟨aw, gw, cw, rfl, hT⟩ := hB.ex
  clear hB bx1 p1 hS
  go_wp2_with fail
  refine (lpList_same av gv 0 cv aw gw 0 cw ks W2 (by omega) hkk hS2 hT).mono ?_
  rintro e W3 ⟨rfl, b3⟩
  have bx3 := bx2.below b3
  have p3 := bx3.p.c
  clear hS2 hT b3 bx2
  go_wp2_with fail
  refine (C1 W3 bx3).mono ?_
  rintro e W4 ⟨v1, rfl, hA⟩
  have bx4 := bx3.below hA.bel
  obtain ⟨av, gv, cv, rfl, hS⟩ := hA.ex
  have p4 := bx4.p.c
  clear hA bx3 p3
  go_wp2_with fail
  refine (C2 W4 bx4).mono ?_
  rintro e W5 ⟨v2, rfl, hB⟩
  have bx5 := bx4.below hB.bel
  have hS5 := hS.below hB.bel (Nat.le_refl _)
  obtain ⟨aw, gw, cw, rfl, hT⟩ := hB.ex
  have p5 := bx5.p.c
  clear hB bx4 p4 hS
  go_wp2_with fail
  refine (lpWithin_yes av gv 0 cv aw gw 0 cw k1 k2 W5 (by omega) hk1' (by omega) hk2 hS5 hT hin1).mono ?_
  rintro e W6 ⟨rfl, b6⟩
  have bx6 := bx5.below b6
  have p6 := bx6.p.c
  have hT6 := hT.below b6 (Nat.le_refl _)
  clear hS5 hT b6 bx5 p5
  go_wp2_with fail
  refine (C3 W6 bx6).mono ?_
  rintro e W7 ⟨v3, rfl, hD⟩
  have bx7 := bx6.below hD.bel
  have hT7 := hT6.below hD.bel (Nat.le_refl _)
  obtain ⟨au, gu, cu, rfl, hU⟩ := hD.ex
  clear hD bx6 p6 hT6
  go_wp2_with fail
  refine (lpWithin_yes aw gw 0 cw au gu 0 cu k2 k3 W7 (by omega) hk2 (by omega) hk3 hT7 hU hin2).mono ?_
  rintro e W8 ⟨rfl, b8⟩
  have bx8 := bx7.below b8
  go_wp2_with fail
  go_ret
  exact ⟨rfl, bx8.bel⟩
 ·go_enter Tryz.func3, Tryz.ntmps3
  go_wp2_with fail
  go_ret
  exact ⟨rfl, Below.refl _ _⟩
end Go.Proofs.YtphijhpleemjoaaGreat
