/- What an order allows of small programs: a thread more that does nothing, one place alone, one thread alone, one step of each. Plainly. No condition but what is said. The law FnOrderOne, walked: it answers true, and leaves all as it was. Of whatever code. -/
import Derived.Test.YtphijhpleemjoaaGreatBAai
import Derived.Test.YtphijhpleemjoaaGreatBAax
import Derived.Test.YtphijhpleemjoaaGreatBAaz
import Derived.Test.YtphijhpleemjoaaGreatBAbh
import Derived.Test.YtphijhpleemjoaaGreatBAbu
import Derived.Test.YtphijhpleemjoaaGreatBAbv
import Derived.Test.YtphijhpleemjoaaGreatBAbz
namespace Go.Proofs.YtphijhpleemjoaaGreat
namespace M
theorem holds_iff {ll : List (List D)} {l : List Int} {rows : List (List Int)} {k : Nat} : orderHolds ll l rows k = true ↔ (1 ≤ k ∧ k ≤ 3) ∧ execOk ll l rows = true ∧ ¬ Round (linksOf (netOf (deeds ll) l rows 0) (deeds ll).length) ∧ Sat (linksOf (netOf (deeds ll) l rows k) (deeds ll).length) (choices (deeds ll)) := by
 unfold orderHolds
 simp only [Bool.and_eq_true, decide_eq_true_eq, Int.toNat_natCast]
 constructor
 ·rintro ⟨hk, he, h0, hw⟩
  rw [waits_ok _ _ _ fun c hc => (choices_ok (run_of (exec_prog he)) c hc).1] at hw
  exact ⟨by omega, he, (kahn_ok _ _).1 h0, hw⟩
 ·rintro ⟨hk, he, h0, hw⟩
  rw [waits_ok _ _ _ fun c hc => (choices_ok (run_of (exec_prog he)) c hc).1]
  exact ⟨by omega, he, (kahn_ok _ _).2 h0, hw⟩
theorem exec_wo {ll : List (List D)} {l : List Int} {rows : List (List Int)} : execOk ll l rows = true ↔ prog ll = true ∧ WO (deeds ll) l rows := by
 rw [execOk, Bool.and_eq_true, wo_iff]
theorem mem_net {ll : List (List D)} {l : List Int} {rows : List (List Int)} {k : Nat} {a b : Nat} : (a, b) ∈ linksOf (netOf (deeds ll) l rows k) (deeds ll).length ↔ ∃ x y, (deeds ll)[a]? = some x ∧ (deeds ll)[b]? = some y ∧ must (deeds ll) l rows k a b x y = true := by
 rw [mem_links]
 constructor
 ·rintro ⟨ha, hb, h⟩
  rw [netOf, mustAt, List.getElem?_eq_getElem ha, List.getElem?_eq_getElem hb] at h
  exact ⟨_, _, List.getElem?_eq_getElem ha, List.getElem?_eq_getElem hb, h⟩
 ·rintro ⟨x, y, hx, hy, h⟩
  refine ⟨lt_of_get hx, lt_of_get hy, ?_⟩
  rw [netOf, mustAt, hx, hy]
  exact h
theorem mem_deT (t : Nat) : ∀ (l : List D) (i : Nat) (lr : Int) (n : Nat) (x : De), x ∈ deT t i lr n l → x.d ∈ l ∧ x.t = t
 | [], _, _, _, x, h => by simp [deT] at h
 | d :: l, i, lr, n, x, h => by
  rw [deT] at h
  rcases List.mem_append.1 h with h | h
  ·have h1 := deD_k t i lr n d x h
   refine ⟨by rw [h1]; exact List.mem_cons_self .., ?_⟩
   unfold deD at h
   split at h
   ·rcases List.mem_cons.1 h with rfl | h
    ·rfl
    ·rw [List.mem_singleton.1 h]
   ·rw [List.mem_singleton.1 h]
  ·obtain ⟨h1, h2⟩ := mem_deT t l _ _ _ x h
   exact ⟨List.mem_cons_of_mem _ h1, h2⟩
theorem mem_deF : ∀ (ll : List (List D)) (t n : Nat) (x : De), x ∈ deF t n ll → t ≤ x.t ∧ x.t < t + ll.length ∧ ∃ l, ll[x.t - t]? = some l ∧ x.d ∈ l
 | [], _, _, x, h => by simp [deF] at h
 | l :: ll, t, n, x, h => by
  rw [deF] at h
  rcases List.mem_append.1 h with h | h
  ·obtain ⟨h1, h2⟩ := mem_deT t l _ _ _ x h
   exact ⟨by omega, by simp; omega, l, by rw [h2]; simp, h1⟩
  ·obtain ⟨h1, h2, l', h3, h4⟩ := mem_deF ll _ _ x h
   exact ⟨by omega, by simp; omega, l', by rw [show x.t - t = (x.t - (t + 1)) + 1 by omega]; simpa using h3, h4⟩
theorem mem_deeds {ll : List (List D)} {x : De} (h : x ∈ deeds ll) : ∃ l ∈ ll, x.d ∈ l := by
 obtain ⟨_, _, l, h3, h4⟩ := mem_deF ll 0 0 x h
 exact ⟨l, mem_of_get h3, h4⟩
theorem no_choices {ds : List De} (h : ∀ x ∈ ds, x.d.k ≠ 9) : choices ds = [] := by
 unfold choices
 have : (List.range ds.length).filter (waitsAt ds) = [] := by
  rw [List.filter_eq_nil_iff]
  intro n hn hw
  unfold waitsAt at hw
  rw [List.getElem?_eq_getElem (List.mem_range.1 hn)] at hw
  simp only [Bool.and_eq_true, beq_iff_eq] at hw
  exact h _ (List.getElem_mem _) hw.1
 rw [this]; rfl
theorem own_iff {a b : Nat} {x y : De} : own a b x y = true ↔ a < b ∧ x.t = y.t := by simp [own]
theorem tell_uses {ll : List (List D)} {l : List Int} {rows : List (List Int)} (h : WO (deeds ll) l rows) {a b : Nat} {x y : De} (hx : (deeds ll)[a]? = some x) (hy : (deeds ll)[b]? = some y) (ht : (read l a b || over l rows a b x y) = true) : a ≠ b ∧ x.uses = true ∧ y.uses = true ∧ x.d.p = y.d.p := by
 rw [Bool.or_eq_true] at ht
 rcases ht with ht | ht
 ·simp only [read, beq_iff_eq] at ht
  have hf := h.fro b y hy
  cases hr : y.reads
  ·rw [hr, if_neg (by simp)] at hf; omega
  ·rw [if_pos hr] at hf
   rcases hf with e | ⟨c, z, e, hz, hto⟩
   ·omega
   ·have : c = a := by omega
    subst this
    rw [hx] at hz
    obtain rfl := Option.some.inj hz
    simp only [De.to, Bool.and_eq_true, beq_iff_eq] at hto
    refine ⟨fun e => ?_, by show (M.reads _ || M.writes _) = true; rw [hto.1, Bool.or_true], by show (M.reads _ || M.writes _) = true; rw [show M.reads y.d.k = true from hr, Bool.true_or], hto.2⟩
    subst e
    rw [hx] at hy
    obtain rfl := Option.some.inj hy
    have h9 : M.reads x.d.k = true := hr
    rw [wr_rd hto.1] at h9; cases h9
 ·simp only [over, Bool.and_eq_true, decide_eq_true_eq, onePl, beq_iff_eq] at ht
  obtain ⟨⟨hu, hu2, hp⟩, hw, hlt⟩ := ht
  refine ⟨fun e => ?_, hu, hu2, hp⟩
  subst e
  rw [hx] at hy
  obtain rfl := Option.some.inj hy
  rw [wrote, wr_rd hw] at hlt
  simp at hlt
theorem strict_path {ll : List (List D)} {l : List Int} {rows : List (List Int)} (h : WO (deeds ll) l rows) (hone : ∀ x ∈ deeds ll, ∀ y ∈ deeds ll, x.uses = true → y.uses = true → x.d.p = y.d.p) {a b : Nat} (hl : Leads (linksOf (netOf (deeds ll) l rows 1) (deeds ll).length) a b) :
  (∃ x y, (deeds ll)[a]? = some x ∧ (deeds ll)[b]? = some y ∧ own a b x y = true) ∨ ∃ u v, (u = a ∨ ∃ x y, (deeds ll)[a]? = some x ∧ (deeds ll)[u]? = some y ∧ own a u x y = true) ∧ Leads (linksOf (netOf (deeds ll) l rows 0) (deeds ll).length) u v ∧ (∃ x, (deeds ll)[u]? = some x ∧ x.uses = true) ∧ (∃ x, (deeds ll)[v]? = some x ∧ x.uses = true) ∧ (v = b ∨ ∃ x y, (deeds ll)[v]? = some x ∧ (deeds ll)[b]? = some y ∧ own v b x y = true) := by
 have step : ∀ {a b : Nat}, (a, b) ∈ linksOf (netOf (deeds ll) l rows 1) (deeds ll).length → (∃ x y, (deeds ll)[a]? = some x ∧ (deeds ll)[b]? = some y ∧ own a b x y = true) ∨ ∃ x y, (deeds ll)[a]? = some x ∧ (deeds ll)[b]? = some y ∧ (read l a b || over l rows a b x y) = true := by
  intro a b hm
  obtain ⟨x, y, hx, hy, hk⟩ := mem_net.1 hm
  simp only [must] at hk
  rw [Bool.or_eq_true] at hk
  exact hk.imp (fun h => ⟨x, y, hx, hy, h⟩) (fun h => ⟨x, y, hx, hy, h⟩)
 have tell0 : ∀ {a b : Nat} {x y : De}, (deeds ll)[a]? = some x → (deeds ll)[b]? = some y → (read l a b || over l rows a b x y) = true → (a, b) ∈ linksOf (netOf (deeds ll) l rows 0) (deeds ll).length := fun hx hy ht => mem_net.2 ⟨_, _, hx, hy, by simp only [must]; rw [ht, Bool.or_true]⟩
 have own0 : ∀ {a b : Nat} {x y : De}, (deeds ll)[a]? = some x → (deeds ll)[b]? = some y → own a b x y = true → x.uses = true → y.uses = true → (a, b) ∈ linksOf (netOf (deeds ll) l rows 0) (deeds ll).length := fun hx hy ho hu hv => mem_net.2 ⟨_, _, hx, hy, by simp only [must, onePl]; rw [ho, hu, hv, hone _ (mem_of_get hx) _ (mem_of_get hy) hu hv]; simp⟩
 have own_tr : ∀ {a b c : Nat}, (∃ x y, (deeds ll)[a]? = some x ∧ (deeds ll)[b]? = some y ∧ own a b x y = true) → (∃ x y, (deeds ll)[b]? = some x ∧ (deeds ll)[c]? = some y ∧ own b c x y = true) → ∃ x y, (deeds ll)[a]? = some x ∧ (deeds ll)[c]? = some y ∧ own a c x y = true := by
  rintro a b c ⟨x, y, hx, hy, h1⟩ ⟨y', z, hy', hz, h2⟩
  rw [hy] at hy'
  obtain rfl := Option.some.inj hy'
  rw [own_iff] at h1 h2
  exact ⟨x, z, hx, hz, own_iff.2 ⟨by omega, by omega⟩⟩
 induction hl with
 | one h1 =>
  rcases step h1 with h2 | ⟨x, y, hx, hy, ht⟩
  ·exact .inl h2
  ·have hu := tell_uses h hx hy ht
   exact .inr ⟨_, _, .inl rfl, .one (tell0 hx hy ht), ⟨x, hx, hu.2.1⟩, ⟨y, hy, hu.2.2.1⟩, .inl rfl⟩
 | more _ h2 ih =>
  rcases step h2 with ho | ⟨x, y, hx, hy, ht⟩
  ·rcases ih with ih | ⟨u, v, h3, h4, h5, h6, h7⟩
   ·exact .inl (own_tr ih ho)
   ·refine .inr ⟨u, v, h3, h4, h5, h6, .inr ?_⟩
    rcases h7 with rfl | h7
    ·exact ho
    ·exact own_tr h7 ho
  ·have hu := tell_uses h hx hy ht
   rcases ih with ih | ⟨u, v, h3, h4, h5, ⟨z, hz, hzu⟩, h7⟩
   ·exact .inr ⟨_, _, .inr ih, .one (tell0 hx hy ht), ⟨x, hx, hu.2.1⟩, ⟨y, hy, hu.2.2.1⟩, .inl rfl⟩
   ·refine .inr ⟨u, _, h3, ?_, h5, ⟨y, hy, hu.2.2.1⟩, .inl rfl⟩
    rcases h7 with rfl | ⟨x', y', hx', hy', ho⟩
    ·exact .more h4 (tell0 hx hy ht)
    ·rw [hx] at hy'
     obtain rfl := Option.some.inj hy'
     rw [hz] at hx'
     obtain rfl := Option.some.inj hx'
     exact .more (.more h4 (own0 hz hx ho hzu hu.2.1)) (tell0 hx hy ht)
theorem one_strict {ll : List (List D)} {l : List Int} {rows : List (List Int)} (h : WO (deeds ll) l rows) (hone : ∀ x ∈ deeds ll, ∀ y ∈ deeds ll, x.uses = true → y.uses = true → x.d.p = y.d.p) (h0 : ¬ Round (linksOf (netOf (deeds ll) l rows 0) (deeds ll).length)) : ¬ Round (linksOf (netOf (deeds ll) l rows 1) (deeds ll).length) := by
 rintro ⟨a, ha⟩
 rcases strict_path h hone ha with ⟨x, y, hx, hy, ho⟩ | ⟨u, v, h3, h4, ⟨x, hx, hxu⟩, ⟨y, hy, hyu⟩, h7⟩
 ·have := (own_iff.1 ho).1; omega
 ·have back : v = u ∨ own v u y x = true := by
   rcases h7 with rfl | ⟨y', z, hy', hz, ho⟩
   ·rcases h3 with rfl | ⟨z, x', hz, hx', ho⟩
    ·exact .inl rfl
    ·rw [hx] at hx'
     obtain rfl := Option.some.inj hx'
     rw [hy] at hz
     obtain rfl := Option.some.inj hz
     exact .inr ho
   ·rw [hy] at hy'
    obtain rfl := Option.some.inj hy'
    rcases h3 with rfl | ⟨z', x', hz', hx', ho'⟩
    ·rw [hx] at hz
     obtain rfl := Option.some.inj hz
     exact .inr ho
    ·rw [hx] at hx'
     obtain rfl := Option.some.inj hx'
     rw [hz] at hz'
     obtain rfl := Option.some.inj hz'
     rw [own_iff] at ho ho'
     exact .inr (own_iff.2 ⟨by omega, by omega⟩)
  rcases back with rfl | ho
  ·exact h0 ⟨_, h4⟩
  ·exact h0 ⟨_, h4.trans (.one (mem_net.2 ⟨y, x, hy, hx, by simp only [must, onePl]; rw [ho, hxu, hyu, hone _ (mem_of_get hy) _ (mem_of_get hx) hyu hxu]; simp⟩))⟩
theorem all_one {ll : List (List D)} (hpl : ∀ t ∈ ll, ∀ d ∈ t, d.p = 0 ∧ d.k ≤ 6) : orderAll ll 3 = orderAll ll 1 := by
 have hd : ∀ x ∈ deeds ll, x.d.p = 0 ∧ x.d.k ≤ 6 := fun x hx => by
  obtain ⟨t, ht, hx⟩ := mem_deeds hx
  exact hpl t ht _ hx
 refine orderAll_eq fun k => ?_
 rw [mem_orderAll, mem_orderAll]
 constructor
 ·rintro ⟨x, hx, e⟩
  refine ⟨x, ?_, e⟩
  have h := (holds_iff (k := 3)).1 hx
  refine (holds_iff (k := 1)).2 ⟨by omega, h.2.1, h.2.2.1, ?_⟩
  rw [no_choices fun y hy e => by have := (hd y hy).2; omega, sat_nil]
  exact one_strict (exec_wo.1 h.2.1).2 (fun y hy z hz _ _ => by rw [(hd y hy).1, (hd z hz).1]) h.2.2.1
 ·rintro ⟨x, hx, e⟩
  exact ⟨x, holds_loose (holds_late hx), e⟩
end M
end Go.Proofs.YtphijhpleemjoaaGreat
namespace Go.Proofs.YtphijhpleemjoaaGreat
open Go.RowKit
set_option maxHeartbeats 4000000 in
set_option maxRecDepth 100000 in
set_option linter.unusedSimpArgs false in
theorem lawOne_any (ca : Option Addr) (cb co L C : Nat) (x : Nat → Int) (w : World) (hL : L ≤ C) (had : 0 < L → ca = some ⟨cb, co, none⟩) (hc : ∀ i, i < L → w.cell? ⟨cb, co + i, none⟩ = some (.int .u8 (x i)) ∧ 0 ≤ x i ∧ x i ≤ 255) :
  Calls Tryz.prog 6 #[.slice ca L C] w fun e w' => e = .returned (.bool true) ∧ Below w.heap.size w w' := by
 by_cases hLb : L ≤ 1048576
 ·go_enter Tryz.func6, Tryz.ntmps6
  go_wp2_with fail
  refine (DrawOrderAll_any ca cb co L C x _ hL had hc hLb).mono ?_
  rintro e w1 ⟨a, g, c, mm, kind, rfl, hsn, hsm, hk0, hk1, hb1⟩
  have hls := hsm.le
  have hl3 : mm.length ≤ 1048576 := by have := hsm.three; omega
  clear had hc
  have bx0 := BoxP.new (c := c) hb1 hsn.ss
  go_wp2_with fail
  generalize w1.alloc (.cells #[.slice a mm.length c] 25) = W0 at *
  generalize w1.heap.size = P at *
  clear hb1
  have hkl := M.orderAll_len mm kind
  have hkk := M.orderAll_le mm kind
  have CI := fun (W : World) (h : BoxP w W P a g c mm) => iorderAllK a g 0 c mm kind W hl3 hls h.ss
  have CS := fun (W : World) (h : BoxP w W P a g c mm) => sorderAllK a g 0 c mm kind W hl3 hls h.ss
  obtain ⟨ks, hks⟩ : ∃ ks, M.orderAll mm kind = ks := ⟨_, rfl⟩
  have HKS : Hid (M.orderAll mm kind = ks) := hks
  rw [hks] at hkl hkk CI CS
  clear hks
  refine (CI W0 bx0).mono ?_
  rintro e W1 ⟨v1, rfl, hA⟩
  have bx1 := bx0.below hA.bel
  obtain ⟨av, gv, cv, rfl, hS1⟩ := hA.ex
  have p1 := bx1.p.c
  clear hA bx0
  go_wp2_with fail
  refine (CS W1 bx1).mono ?_
  rintro e W2 ⟨v2, rfl, hB⟩
  have bx2 := bx1.below hB.bel
  have hS2 := hS1.below hB.bel (Nat.le_refl _)
  obtain ⟨aw, gw, cw, rfl, hT⟩ := hB.ex
  clear hB bx1 p1 hS1
  go_wp2_with fail
  refine (lpList_same av gv 0 cv aw gw 0 cw ks W2 (by omega) hkk hS2 hT).mono ?_
  rintro e W3 ⟨rfl, b3⟩
  have bx3 := bx2.below b3
  have p3 := bx3.p.c
  have hS3 := hS2.below b3 (Nat.le_refl _)
  clear hS2 hT b3 bx2
  have CP := sprog_any a g 0 c mm W3 hl3 hls bx3.ss
  cases hp : M.prog mm
  ·rw [hp] at CP
   clear hp HKS hsn hsm CI
   go_wp2_with fail
   refine CP.mono ?_
   rintro e W4 ⟨rfl, b4⟩
   have bx4 := bx3.below b4
   have hS4 := hS3.below b4 (Nat.le_refl _)
   clear CP bx3 hS3 p3
   have p8 := bx4.p.c
   go_wp2_with fail
   refine (CS W4 bx4).mono ?_
   rintro e W8 ⟨v8, rfl, hB⟩
   have bx8 := bx4.below hB.bel
   have hS8 := hS4.below hB.bel (Nat.le_refl _)
   obtain ⟨aw, gw, cw, rfl, hT⟩ := hB.ex
   clear hB p8
   go_wp2_with fail
   refine (lpList_same av gv 0 cv aw gw 0 cw ks W8 (by omega) hkk hS8 hT).mono ?_
   rintro e W9 ⟨rfl, b9⟩
   have bx9 := bx8.below b9
   go_wp2_with fail
   go_ret
   exact ⟨rfl, bx9.bel⟩
  ·rw [hp] at CP
   clear hp HKS hsn hsm CI
   go_wp2_with fail
   refine CP.mono ?_
   rintro e W4 ⟨rfl, b4⟩
   have bx4 := bx3.below b4
   have hS4 := hS3.below b4 (Nat.le_refl _)
   have p4 := bx4.p.c
   clear CP bx3 hS3 p3
   have CQ := lpPlain_any a g 0 c mm W4 hl3 hls bx4.ss
   cases hq : M.plainP mm
   ·rw [hq] at CQ
    clear hq
    go_wp2_with fail
    refine CQ.mono ?_
    rintro e W5 ⟨rfl, b5⟩
    have bx5 := bx4.below b5
    have hS5 := hS4.below b5 (Nat.le_refl _)
    clear CQ bx4 hS4 p4
    have p8 := bx5.p.c
    go_wp2_with fail
    refine (CS W5 bx5).mono ?_
    rintro e W8 ⟨v8, rfl, hB⟩
    have bx8 := bx5.below hB.bel
    have hS8 := hS5.below hB.bel (Nat.le_refl _)
    obtain ⟨aw, gw, cw, rfl, hT⟩ := hB.ex
    clear hB p8
    go_wp2_with fail
    refine (lpList_same av gv 0 cv aw gw 0 cw ks W8 (by omega) hkk hS8 hT).mono ?_
    rintro e W9 ⟨rfl, b9⟩
    have bx9 := bx8.below b9
    go_wp2_with fail
    go_ret
    exact ⟨rfl, bx9.bel⟩
   ·rw [hq] at CQ
    have e31 := M.all_one (M.plainP_yes hq)
    have C3 := fun (W : World) (h : BoxP w W P a g c mm) => iorderAllK a g 0 c mm 3 W hl3 hls h.ss
    have C1 := fun (W : World) (h : BoxP w W P a g c mm) => iorderAllK a g 0 c mm 1 W hl3 hls h.ss
    have hl9 := M.orderAll_len mm 1
    have hk9 := M.orderAll_le mm 1
    rw [e31] at C3
    generalize M.orderAll mm 1 = k1 at *
    clear hq e31 CS
    go_wp2_with fail
    refine CQ.mono ?_
    rintro e W5 ⟨rfl, b5⟩
    have bx5 := bx4.below b5
    clear CQ bx4 hS4 p4 hkk
    have CPC : ∀ W : World, Below W5.heap.size W5 W → W.cell? ⟨P, 0, none⟩ = some (.slice a mm.length c) := fun W hb => (bx5.below hb).p.c
    go_wp2_with fail
    refine wp_region_held_drew (S := fun w' => Below W5.heap.size W5 w') (by kernel_rfl) (Below.refl _ _).drew (fun hH => ?_)
    refine takeD 0 (some 38) (.agg #[.slice a mm.length c]) hH rfl rfl (by kernel_rfl) (by kernel_rfl) (by kernel_rfl) (fun _ _ _ h => h) (Or.inl ⟨by rfl, by intro w' hSw; have hc0 := CPC w' hSw; go_simp⟩) ?_
    simp only [Act.put, List.setIfInBounds_toArray, List.set_cons_zero, List.set_cons_succ]
    refine takeD 2 (some 40) (.agg #[.slice a mm.length c]) hH rfl rfl (by kernel_rfl) (by kernel_rfl) (by kernel_rfl) (fun _ _ _ h => h) (Or.inl ⟨by rfl, by intro w' hSw; have hc0 := CPC w' hSw; go_simp⟩) ?_
    simp only [Act.put, List.setIfInBounds_toArray, List.set_cons_zero, List.set_cons_succ]
    refine wpAnyH_ready (rs := [1]) (by kernel_rfl) (by simp) ?_
    refine AllReadyH.cons rfl (fun K' hK => ?_) AllReadyH.nil
    refine step_goV (by rfl) (some 39) rfl 16 #[.tmp 38, .const (.int .i64 3)] _ rfl #[.agg #[.slice a mm.length c], .int .i64 3] (by simp [Act.eval]) (enters_of Tryz.func16 (by kernel_rfl) rfl) (C3 _ (bx5.below hH)) ?_
    rintro e W6 ⟨v6, rfl, hA⟩
    obtain ⟨a6, g6, c6, rfl, hS6⟩ := hA.ex
    refine ⟨_, rfl, hK.out _ _ (hH.trans (hA.bel.mono hH.size)) (fun hH1 => ?_)⟩
    clear hK K'
    simp only [Act.put, List.setIfInBounds_toArray, List.set_cons_zero, List.set_cons_succ]
    refine wpAnyH_ready (rs := [3]) (by kernel_rfl) (by simp) ?_
    refine AllReadyH.cons rfl (fun K' hK => ?_) AllReadyH.nil
    refine step_goV (by rfl) (some 41) rfl 16 #[.tmp 40, .const (.int .i64 1)] _ rfl #[.agg #[.slice a mm.length c], .int .i64 1] (by simp [Act.eval]) (enters_of Tryz.func16 (by kernel_rfl) rfl) (C1 _ (bx5.below hH1)) ?_
    rintro e W7 ⟨v7, rfl, hB⟩
    obtain ⟨a7, g7, c7, rfl, hS7⟩ := hB.ex
    have hS67 := hS6.below hB.bel (Nat.le_refl _)
    refine ⟨_, rfl, hK.out _ _ (hH1.trans (hB.bel.mono hH1.size)) (fun hH2 => ?_)⟩
    clear hK K'
    simp only [Act.put, List.setIfInBounds_toArray, List.set_cons_zero, List.set_cons_succ]
    refine wpAnyH_ready (rs := [4]) (by kernel_rfl) (by simp) ?_
    refine AllReadyH.cons rfl (fun K' hK => ?_) AllReadyH.nil
    refine step_goV (by rfl) (some 42) rfl 17 #[.tmp 39, .tmp 41] _ rfl #[.slice a6 k1.length c6, .slice a7 k1.length c7] (by simp [Act.eval]) (enters_of Tryz.func17 (by kernel_rfl) rfl) (lpList_same a6 g6 0 c6 a7 g7 0 c7 k1 W7 (by omega) hk9 hS67 hS7) ?_
    rintro e W8 ⟨rfl, b8⟩
    refine ⟨_, rfl, hK.out _ _ (hH2.trans (b8.mono hH2.size)) (fun hH3 => ?_)⟩
    clear hK K'
    simp only [Act.put, List.setIfInBounds_toArray, List.set_cons_zero, List.set_cons_succ]
    refine takeD 5 (some 2) (.bool true) hH3 rfl rfl (by kernel_rfl) (by kernel_rfl) (by kernel_rfl) (fun _ _ _ h => h) (Or.inl ⟨by rfl, by intro w' hSw; go_simp⟩) ?_
    simp only [Act.put, List.setIfInBounds_toArray, List.set_cons_zero, List.set_cons_succ]
    refine wpAnyH_done (by kernel_rfl) ?_ _
    have bx9 := bx5.below hH3
    go_wp2_with fail
    go_ret
    exact ⟨rfl, bx9.bel⟩
 ·go_enter Tryz.func6, Tryz.ntmps6
  go_wp2_with fail
  go_ret
  exact ⟨rfl, Below.refl _ _⟩
end Go.Proofs.YtphijhpleemjoaaGreat
