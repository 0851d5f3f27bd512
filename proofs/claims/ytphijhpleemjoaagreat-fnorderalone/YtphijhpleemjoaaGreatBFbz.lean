/- What an order allows of one thread alone, and of one step of each thread. Plainly. No condition but what is said. -/
import Derived.Test.YtphijhpleemjoaaGreatBFbv
namespace Go.Proofs.YtphijhpleemjoaaGreat
namespace M
theorem intAsc_unique : ∀ {l m : List Int}, l.Pairwise (· < ·) → m.Pairwise (· < ·) → (∀ x, x ∈ l ↔ x ∈ m) → l = m
 | [], [], _, _, _ => rfl
 | [], y :: m, _, _, h => absurd ((h y).2 (by simp)) (by simp)
 | x :: l, [], _, _, h => absurd ((h x).1 (by simp)) (by simp)
 | x :: l, y :: m, hl, hm, h => by
  have hl' := List.pairwise_cons.1 hl
  have hm' := List.pairwise_cons.1 hm
  have hxy : x = y := by
   rcases List.mem_cons.1 ((h x).1 (by simp)) with e | hx
   ·exact e
   ·rcases List.mem_cons.1 ((h y).2 (by simp)) with e | hy
    ·exact e.symm
    ·have h1 := hm'.1 x hx
     have h2 := hl'.1 y hy
     omega
  subst hxy
  have : ∀ z, z ∈ l ↔ z ∈ m := fun z => by
   constructor
   ·intro hz
    rcases List.mem_cons.1 ((h z).1 (by simp [hz])) with e | hm2
    ·subst e; have := hl'.1 z hz; omega
    ·exact hm2
   ·intro hz
    rcases List.mem_cons.1 ((h z).2 (by simp [hz])) with e | hl2
    ·subst e; have := hm'.1 z hz; omega
    ·exact hl2
  rw [intAsc_unique hl'.2 hm'.2 this]
theorem to_uses {x : De} {p : Int} (h : x.to p = true) : x.uses = true ∧ M.writes x.d.k = true ∧ x.d.p = p := by
 simp only [De.to, Bool.and_eq_true, beq_iff_eq] at h
 exact ⟨by show (M.reads _ || M.writes _) = true; rw [h.1, Bool.or_true], h.1, h.2⟩
theorem rd_uses {x : De} (h : x.reads = true) : x.uses = true := by show (M.reads _ || M.writes _) = true; rw [show M.reads x.d.k = true from h, Bool.true_or]
theorem alone_way {ll : List (List D)} {l : List Int} {rows : List (List Int)} (h : WO (deeds ll) l rows) (hp : ∀ x ∈ deeds ll, x.uses = true → 0 ≤ x.d.p ∧ x.d.p < 3) (ht : ∀ x ∈ deeds ll, ∀ y ∈ deeds ll, x.t = y.t) (h0 : ¬ Round (linksOf (netOf (deeds ll) l rows 0) (deeds ll).length)) : l = seqF (deeds ll) ∧ rows = seqO (deeds ll) := by
 have no2 : ∀ {a b : Nat}, (a, b) ∈ linksOf (netOf (deeds ll) l rows 0) (deeds ll).length → (b, a) ∈ linksOf (netOf (deeds ll) l rows 0) (deeds ll).length → False := fun h1 h2 => h0 ⟨_, .more (.one h1) h2⟩
 have ownL : ∀ {a b : Nat} {x y : De}, (deeds ll)[a]? = some x → (deeds ll)[b]? = some y → a < b → x.uses = true → y.uses = true → x.d.p = y.d.p → (a, b) ∈ linksOf (netOf (deeds ll) l rows 0) (deeds ll).length := fun {a b x y} hx hy hab hu hv he => mem_net.2 ⟨x, y, hx, hy, by
  simp only [must, onePl]
  rw [own_iff.2 ⟨hab, ht _ (mem_of_get hx) _ (mem_of_get hy)⟩, hu, hv, he]
  simp⟩
 have overL : ∀ {a b : Nat} {x y : De}, (deeds ll)[a]? = some x → (deeds ll)[b]? = some y → over l rows a b x y = true → (a, b) ∈ linksOf (netOf (deeds ll) l rows 0) (deeds ll).length := fun {a b x y} hx hy ho => mem_net.2 ⟨x, y, hx, hy, by simp only [must]; rw [ho]; simp⟩
 have hasc : ∀ p : Int, 0 ≤ p → p < 3 → rows.getD p.toNat [] = wrs p 0 (deeds ll) := by
  intro p p0 p3
  have hperm := h.row p p0 p3
  have hnd : (rows.getD p.toNat []).Nodup := hperm.nodup_iff.2 (nodup_wrs _ _ _)
  refine intAsc_unique (List.pairwise_iff_getElem.2 fun i j hi hj hij => ?_) (wrs_asc _ _ _) fun z => hperm.mem_iff
  obtain ⟨a, ha, ea, ta⟩ := mem_wrs.1 (hperm.mem_iff.1 (List.getElem_mem hi))
  obtain ⟨b, hb, eb, tb⟩ := mem_wrs.1 (hperm.mem_iff.1 (List.getElem_mem hj))
  rw [Nat.zero_add] at ea eb
  have hne : a ≠ b := fun e => by
   have h1 := idx_get hnd hi
   have h2 := idx_get hnd hj
   rw [ea, e, ← eb, h2] at h1
   omega
  have ua := to_uses ta
  have ub := to_uses tb
  have ho : over l rows a b (deeds ll)[a] (deeds ll)[b] = true := by
   simp only [over, onePl, Bool.and_eq_true, beq_iff_eq, decide_eq_true_eq]
   refine ⟨⟨ua.1, ub.1, by rw [ua.2.2, ub.2.2]⟩, ub.2.1, ?_⟩
   rw [wrote, wr_rd ua.2.1, if_neg (by simp), ub.2.2, ← ea, ← eb, idx_get hnd hi, idx_get hnd hj]
   omega
  rcases Nat.lt_or_ge a b with hlt | hge
  ·rw [ea, eb]; omega
  ·exact (no2 (overL (List.getElem?_eq_getElem ha) (List.getElem?_eq_getElem hb) ho) (ownL (List.getElem?_eq_getElem hb) (List.getElem?_eq_getElem ha) (by omega) ub.1 ua.1 (by rw [ua.2.2, ub.2.2]))).elim
 constructor
 ·refine List.ext_getElem? fun n => ?_
  rcases Nat.lt_or_ge n (deeds ll).length with hn | hn
  ·have e1 : l[n]? = some (l.getD n 0) := by
    have : n < l.length := by rw [h.len]; exact hn
    rw [List.getD_eq_getElem?_getD, List.getElem?_eq_getElem this]; rfl
   have e2 : (seqF (deeds ll))[n]? = some ((seqF (deeds ll)).getD n 0) := by
    have : n < (seqF (deeds ll)).length := by rw [seqF_len]; exact hn
    rw [List.getD_eq_getElem?_getD, List.getElem?_eq_getElem this]; rfl
   rw [e1, e2, seqF_at hn]
   have hx := List.getElem?_eq_getElem hn
   have hf := h.fro n _ hx
   cases hr : (deeds ll)[n].reads
   ·rw [hr, if_neg (by simp)] at hf
    rw [hf]; simp
   ·rw [if_pos hr] at hf
    simp only [if_true]
    congr 1
    have hu := rd_uses hr
    have hpp := hp _ (List.getElem_mem hn) hu
    -- no write between
    have hmax : ∀ (w : Nat) (hw : w < (deeds ll).length), (deeds ll)[w].to (deeds ll)[n].d.p = true → w < n → (w : Int) ≤ l.getD n 0 := by
     intro w hw hto hlt
     apply Classical.byContradiction
     intro hlow
     have uw := to_uses hto
     have ho : over l rows n w (deeds ll)[n] (deeds ll)[w] = true := by
      simp only [over, onePl, Bool.and_eq_true, beq_iff_eq, decide_eq_true_eq]
      refine ⟨⟨hu, uw.1, uw.2.2.symm⟩, uw.2.1, ?_⟩
      rw [wrote, if_pos (show M.reads (deeds ll)[n].d.k = true from hr), uw.2.2, hasc _ hpp.1 hpp.2]
      have hwm : (w : Int) ∈ wrs (deeds ll)[n].d.p 0 (deeds ll) := mem_wrs.2 ⟨w, hw, by simp, hto⟩
      obtain ⟨i, hi, ei⟩ := List.getElem_of_mem hwm
      rw [← ei, idx_get (nodup_wrs _ _ _) hi]
      rcases hf with e | ⟨b, y, e, hy, hty⟩
      ·rw [e, idx_no (fun hm => by obtain ⟨q, _, e, _⟩ := mem_wrs.1 hm; omega)]; omega
      ·obtain ⟨hb, rfl⟩ := List.getElem?_eq_some_iff.1 hy
       have hbm : (b : Int) ∈ wrs (deeds ll)[n].d.p 0 (deeds ll) := mem_wrs.2 ⟨b, hb, by simp, hty⟩
       obtain ⟨j, hj, ej⟩ := List.getElem_of_mem hbm
       rw [e, ← ej, idx_get (nodup_wrs _ _ _) hj]
       apply Classical.byContradiction
       intro hge
       have hji : i ≤ j := by omega
       rcases Nat.lt_or_ge i j with h1 | h1
       ·have := (List.pairwise_iff_getElem.1 (wrs_asc (deeds ll)[n].d.p (deeds ll) 0)) i j hi hj h1
        omega
       ·have : i = j := by omega
        subst this
        omega
     exact no2 (overL hx (List.getElem?_eq_getElem hw) ho) (ownL (List.getElem?_eq_getElem hw) hx hlt uw.1 hu uw.2.2)
    have hlw := lastW_lt (deeds ll) (deeds ll)[n].d.p n
    rcases hf with e | ⟨b, y, e, hy, hty⟩
    ·rw [e]
     apply Classical.byContradiction
     intro hne
     have hm := lastW_to (ds := deeds ll) (p := (deeds ll)[n].d.p) (n := n) (by omega)
     obtain ⟨q, hq, eq, hto⟩ := mem_wrs.1 hm
     have := hmax q hq hto (by omega)
     omega
    ·obtain ⟨hb, rfl⟩ := List.getElem?_eq_some_iff.1 hy
     have uy := to_uses hty
     have hbn : b < n := by
      apply Classical.byContradiction
      intro hge
      have hne : b ≠ n := fun e => by
       subst e
       have h9 : M.reads (deeds ll)[b].d.k = true := hr
       rw [wr_rd uy.2.1] at h9; cases h9
      refine no2 (ownL hx hy (by omega) hu uy.1 uy.2.2.symm) (mem_net.2 ⟨_, _, hy, hx, ?_⟩)
      simp only [must, read]
      rw [e]; simp
     have h1 := lastW_max hb hty hbn
     apply Classical.byContradiction
     intro hne
     have hm := lastW_to (ds := deeds ll) (p := (deeds ll)[n].d.p) (n := n) (by omega)
     obtain ⟨q, hq, eq, hto⟩ := mem_wrs.1 hm
     have := hmax q hq hto (by omega)
     omega
  ·rw [List.getElem?_eq_none (by rw [h.len]; exact hn), List.getElem?_eq_none (by rw [seqF_len]; exact hn)]
 ·have h3 := h.three
  match rows, h3 with
  | [r0, r1, r2], _ =>
   have e0 := hasc 0 (by omega) (by omega)
   have e1 := hasc 1 (by omega) (by omega)
   have e2 := hasc 2 (by omega) (by omega)
   simp only [seqO]
   have f0 : r0 = wrs 0 0 (deeds ll) := e0
   have f1 : r1 = wrs 1 0 (deeds ll) := e1
   have f2 : r2 = wrs 2 0 (deeds ll) := e2
   rw [f0, f1, f2]
theorem all_alone {ll : List (List D)} (hp : prog ll = true) (h1 : ll.length ≤ 1) {k : Nat} (hk : 1 ≤ k ∧ k ≤ 3) : orderAll ll k = [seenOf ll (seqF (deeds ll), seqO (deeds ll))] := by
 have ht : ∀ x ∈ deeds ll, ∀ y ∈ deeds ll, x.t = y.t := fun x hx y hy => by
  obtain ⟨a1, a2, _⟩ := mem_deF ll 0 0 x hx
  obtain ⟨b1, b2, _⟩ := mem_deF ll 0 0 y hy
  omega
 refine Asc.unique (asc_orderAll _ _) (by simp [Asc]) fun z => ?_
 rw [mem_orderAll, List.mem_singleton]
 constructor
 ·rintro ⟨x, hx, rfl⟩
  have h := holds_iff.1 hx
  obtain ⟨e1, e2⟩ := alone_way (exec_wo.1 h.2.1).2 (deed_u hp) ht h.2.2.1
  obtain ⟨x1, x2⟩ := x
  simp only at e1 e2
  rw [e1, e2]
 ·rintro rfl
  exact ⟨_, seq_holds hp hk.1 hk.2, rfl⟩
theorem one_own : ∀ (ll : List (List D)) (t n : Nat), (∀ l ∈ ll, l.length ≤ 1) → ∀ (a b : Nat) (x y : De), (deF t n ll)[a]? = some x → (deF t n ll)[b]? = some y → a < b → x.t = y.t → x.d.k = 9 ∧ y.d.k = 9
 | [], t, n, _, a, b, x, y, hx, _, _, _ => by simp [deF] at hx
 | l :: ll, t, n, hl, a, b, x, y, hx, hy, hab, he => by
  rw [deF] at hx hy
  have hl1 := hl l (List.mem_cons_self ..)
  rcases Nat.lt_or_ge b (deT t 0 (-1) n l).length with hb | hb
  ·rw [List.getElem?_append_left hb] at hy
   rw [List.getElem?_append_left (by omega)] at hx
   match l, hl1 with
   | [], _ => simp [deT] at hx
   | [d], _ =>
    simp only [deT, List.append_nil] at hx hy
    by_cases h9 : d.k = 9
    ·rw [deD_k t 0 (-1) n d x (mem_of_get hx), deD_k t 0 (-1) n d y (mem_of_get hy)]
     exact ⟨h9, h9⟩
    ·have := lt_of_get hy
     rw [deD_one (by simpa using h9)] at this
     simp at this
     omega
  ·rw [List.getElem?_append_right hb] at hy
   rcases Nat.lt_or_ge a (deT t 0 (-1) n l).length with ha | ha
   ·rw [List.getElem?_append_left ha] at hx
    have h1 := (mem_deT t l _ _ _ x (mem_of_get hx)).2
    have h2 := (mem_deF ll _ _ y (mem_of_get hy)).1
    omega
   ·rw [List.getElem?_append_right ha] at hx
    exact one_own ll _ _ (fun l hl' => hl l (List.mem_cons_of_mem _ hl')) _ _ x y hx hy (by omega) he
theorem first_must {ll : List (List D)} (hl : ∀ l ∈ ll, l.length ≤ 1) {l : List Int} {rows : List (List Int)} (h : WO (deeds ll) l rows) {k : Nat} (hk : 1 ≤ k ∧ k ≤ 3) {a b : Nat} {x y : De} (hx : (deeds ll)[a]? = some x) (hy : (deeds ll)[b]? = some y) : must (deeds ll) l rows k a b x y = must (deeds ll) l rows 1 a b x y := by
 have ow : own a b x y = true → x.d.k = 9 ∧ y.d.k = 9 := fun ho => one_own ll 0 0 hl a b x y hx hy (own_iff.1 ho).1 (own_iff.1 ho).2
 have tw : (read l a b || over l rows a b x y) = true → two x y = true := fun ht => by
  have hu := tell_uses h hx hy ht
  cases h2 : two x y
  ·exfalso
   have he : x.t = y.t := by simpa [two] using h2
   have no9 : ∀ z : De, z.uses = true → z.d.k ≠ 9 := fun z hz e => by
    have : (M.reads z.d.k || M.writes z.d.k) = true := hz
    rw [e] at this
    simp [M.reads, M.writes, M.stores] at this
   rcases Nat.lt_or_ge a b with hab | hab
   ·exact no9 x hu.2.1 (one_own ll 0 0 hl a b x y hx hy hab he).1
   ·exact no9 x hu.2.1 (one_own ll 0 0 hl b a y x hy hx (by omega) he.symm).2
  ·rfl
 have hlate : late a b x y = own a b x y := by
  unfold late
  cases ho : own a b x y
  ·rfl
  ·have := ow ho
   rw [this.1]; simp [M.writes, M.stores]
 have hloose : loose (deeds ll) a b x y = own a b x y := by
  unfold loose
  cases ho : own a b x y
  ·rfl
  ·have := ow ho
   simp [keeps, isWall, this.1]
 rcases (show k = 1 ∨ k = 2 ∨ k = 3 by omega) with rfl | rfl | rfl
 ·rfl
 ·simp only [must]
  rw [hlate]
  cases hr : read l a b
  ·simp
  ·rw [tw (by rw [hr, Bool.true_or])]; rfl
 ·simp only [must]
  rw [hloose]
  cases hr : read l a b
  ·cases ho : over l rows a b x y
   ·simp
   ·rw [tw (by rw [ho, Bool.or_true])]; rfl
  ·rw [tw (by rw [hr, Bool.true_or])]; rfl
theorem all_first {ll : List (List D)} (hl : ∀ l ∈ ll, l.length ≤ 1) {k : Nat} (hk : 1 ≤ k ∧ k ≤ 3) : orderAll ll k = orderAll ll 1 := by
 refine orderAll_eq fun z => ?_
 rw [mem_orderAll, mem_orderAll]
 have key : ∀ x : Wy, orderHolds ll x.1 x.2 k = true ↔ orderHolds ll x.1 x.2 1 = true := fun x => by
  rw [holds_iff, show (1 : Int) = ((1 : Nat) : Int) from rfl, holds_iff]
  constructor
  ·rintro ⟨_, he, h0, hs⟩
   refine ⟨by omega, he, h0, (sat_mem (fun l => ?_) _).1 hs⟩
   obtain ⟨a, b⟩ := l
   rw [mem_net, mem_net]
   constructor
   ·rintro ⟨u, v, hu, hv, hm⟩; exact ⟨u, v, hu, hv, by rw [← first_must hl (exec_wo.1 he).2 hk hu hv]; exact hm⟩
   ·rintro ⟨u, v, hu, hv, hm⟩; exact ⟨u, v, hu, hv, by rw [first_must hl (exec_wo.1 he).2 hk hu hv]; exact hm⟩
  ·rintro ⟨_, he, h0, hs⟩
   refine ⟨hk, he, h0, (sat_mem (fun l => ?_) _).1 hs⟩
   obtain ⟨a, b⟩ := l
   rw [mem_net, mem_net]
   constructor
   ·rintro ⟨u, v, hu, hv, hm⟩; exact ⟨u, v, hu, hv, by rw [first_must hl (exec_wo.1 he).2 hk hu hv]; exact hm⟩
   ·rintro ⟨u, v, hu, hv, hm⟩; exact ⟨u, v, hu, hv, by rw [← first_must hl (exec_wo.1 he).2 hk hu hv]; exact hm⟩
 constructor
 ·rintro ⟨x, hx, e⟩; exact ⟨x, (key x).1 hx, e⟩
 ·rintro ⟨x, hx, e⟩; exact ⟨x, (key x).2 hx, e⟩
end M
end Go.Proofs.YtphijhpleemjoaaGreat
