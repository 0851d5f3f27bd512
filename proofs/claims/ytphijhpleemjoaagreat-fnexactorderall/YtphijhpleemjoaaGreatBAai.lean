/- spec's ProgOk. Of programs of at most 1048576 threads, each of at most 1048576 steps. And what goes with it: SProg, Wide, Told, MathN. -/
import Derived.Deep.MidRow
import Derived.Deep.WholeRow
import Derived.Deep.RegionHeld3
import Derived.Test.YtphijhpleemjoaaGreatBAab
import Derived.Test.YtphijhpleemjoaaGreatBAae
import Derived.Test.YtphijhpleemjoaaGreatBAag
import Derived.Test.YtphijhpleemjoaaGreatBAah
namespace Go.Proofs.YtphijhpleemjoaaGreat
open Go.RowKit
set_option maxHeartbeats 1000000 in
theorem sprog_any (a : Option Addr) (b o c : Nat) (ll : List (List M.D)) (w : World) (hl : ll.length ≤ 1048576) (hls : ∀ t ∈ ll, t.length ≤ 1048576) (h : DoSS w a b o ll) :
    Calls Tryz.prog 26 #[.agg #[.slice a ll.length c]] w fun e w' => e = .returned (.bool (M.prog ll)) ∧ Below w.heap.size w w' := by
  by_cases h3 : ll.length ≤ 3
  · have h3' : ¬ (3 : Int) < ll.length := by omega
    go_enter Tryz.func26, Tryz.ntmps26
    go_wp2_with fail
    go_loopw [3, 4, 5] (fun s3 s4 s5 wr => ∃ x u n : Nat, s3 = .int .i64 x ∧ s4 = .int .i64 u ∧ s5 = .int .i64 n ∧ n ≤ ll.length ∧ x ≤ 7 * n ∧ u ≤ 7 * n ∧ M.progFrom 0 0 ll = M.progFrom x u (ll.drop n) ∧ Below (w.heap.size + 1) (w.alloc (.cells #[.slice a ll.length c] 25)) wr) (fun _ _ s5 _ => ll.length - (intOf s5).toNat)
    case atStart => exact ⟨0, 0, 0, rfl, rfl, rfl, Nat.zero_le _, Nat.le_refl _, Nat.le_refl _, rfl, Below.refl _ _⟩
    case round =>
      obtain ⟨x, u, n, rfl, rfl, rfl, hn, hx, hu, hpass, hbel⟩ := hrel
      have HP : Hid (M.progFrom 0 0 ll = M.progFrom x u (ll.drop n)) := hpass
      clear hpass
      have hbox : wr.cell? ⟨w.heap.size, 0, none⟩ = some (.slice a ll.length c) := by rw [hbel.cell (p := ⟨w.heap.size, 0, none⟩) (by show w.heap.size < w.heap.size + 1; omega)]; simp
      have hsz := hbel.size
      simp only [World.size_alloc] at hsz
      by_cases hlt : n < ll.length
      · obtain ⟨rfl⟩ := h.addr (by omega)
        obtain ⟨a', b', o', c', hc, hd⟩ := ((h.below (below1 w _) (Nat.le_refl _)).below hbel (by simp)).row n hlt
        have HD : Hid (ll.drop n = ll[n] :: ll.drop (n + 1)) := M.drop_at' ll n hlt
        have hlt' := hls _ (List.getElem_mem hlt)
        generalize ll[n] = t at hd hc HD hlt'
        cases ht : M.thread t
        · go_wp2_with (go_at_call 67; refine (l1Thread_any a' b' o' c' t _ hlt' hd).mono ?_; rw [M.sthread_eq]; rintro e w1 ⟨rfl, hb1⟩)
          go_ret
          exact ⟨ret_bool (M.from_bad HP.out HD.out ht).symm, (below1 w _).trans ((hbel.mono (by omega)).trans (hb1.mono (by omega)))⟩
        · have ht7 := M.thread_le ht
          have hcn := M.cnt_le M.uses t
          have hbl : b < wr.heap.size := World.block_lt_of_cell? _ _ hc
          go_wp2_with (go_at_call 67; go_must (refine (l1Thread_any a' b' o' c' t _ hlt' hd).mono ?_; rw [M.sthread_eq]; rintro e w1 ⟨rfl, hb1⟩; have hbox1 : w1.cell? ⟨w.heap.size, 0, none⟩ = some (.slice (some ⟨b, o, none⟩) ll.length c) := (hb1.cell (p := ⟨w.heap.size, 0, none⟩) hsz).trans hbox; have hc1 : w1.cell? ⟨b, o + n, none⟩ = some (.slice a' t.length c') := (hb1.cell (p := ⟨b, o + n, none⟩) hbl).trans hc))
          have hd1 := hd.below hb1 (Nat.le_refl _)
          have hw1 : Below (w.heap.size + 1) (w.alloc (.cells #[.slice (some ⟨b, o, none⟩) ll.length c] 25)) w1 := hbel.trans (hb1.mono hsz)
          have hsz1 : w.heap.size + 1 ≤ w1.heap.size := Nat.le_trans hsz hb1.size
          have hbl1 : b < w1.heap.size := Nat.lt_of_lt_of_le hbl hb1.size
          clear hbox hc hd hbel hb1 hsz hbl
          go_loopw [4, 6] (fun s4 s6 wi => ∃ m k : Nat, s4 = .int .i64 (u + m) ∧ s6 = .int .i64 k ∧ k ≤ t.length ∧ m ≤ k ∧ M.cnt M.uses t = m + M.cnt M.uses (t.drop k) ∧ Below w1.heap.size w1 wi) (fun _ s6 _ => t.length - (intOf s6).toNat)
          case atStart => exact ⟨0, 0, by simp, rfl, Nat.zero_le _, Nat.le_refl _, by simp, Below.refl _ _⟩
          case round =>
            obtain ⟨m, k, rfl, rfl, hk, hmk, hpass, hbi⟩ := hrel
            have HP2 : Hid (M.cnt M.uses t = m + M.cnt M.uses (t.drop k)) := hpass
            clear hpass
            have hbox : wr.cell? ⟨w.heap.size, 0, none⟩ = some (.slice (some ⟨b, o, none⟩) ll.length c) := by rw [hbi.cell (p := ⟨w.heap.size, 0, none⟩) hsz1]; exact hbox1
            have hc : wr.cell? ⟨b, o + n, none⟩ = some (.slice a' t.length c') := by rw [hbi.cell (p := ⟨b, o + n, none⟩) hbl1]; exact hc1
            clear hbox1 hc1
            by_cases hkt : k < t.length
            · obtain ⟨rfl⟩ := hd1.addr (by omega)
              have hdk := (hd1.row k hkt).below hbi (Nat.le_refl _)
              have HK : Hid (t.drop k = t[k] :: t.drop (k + 1)) := M.drop_at t k hkt
              generalize t[k] = d at hdk HK
              obtain ⟨kk, p, v⟩ := d
              have hl2 : b' < wr.heap.size := hdk.lt
              have hl3 : w.heap.size < wr.heap.size := Nat.lt_of_lt_of_le hsz1 hbi.size
              have hl4 : b < wr.heap.size := Nat.lt_of_lt_of_le hbl1 hbi.size
              obtain ⟨ck, cp, cv⟩ := hdk
              cases hr : M.reads kk
              · cases hw : M.writes kk
                · go_wp2_with (first | (go_at_call 68; refine (l1Reads_any ⟨_, _, _⟩ _).mono ?_; rintro e w2 ⟨rfl, rfl⟩) | (go_at_call 69; refine (l1Writes_any ⟨_, _, _⟩ _).mono ?_; rintro e w2 ⟨rfl, rfl⟩))
                  exact ⟨⟨m, k + 1, rfl, by go_num, by omega, by omega, M.cnt_step HP2.out HK.out (by simp [M.uses, hr, hw]), (hbi.alloc hbi.size _).alloc (by have := hbi.size; simp; omega) _⟩, by simp [intOf]; omega⟩
                · go_wp2_with (first | (go_at_call 68; refine (l1Reads_any ⟨_, _, _⟩ _).mono ?_; rintro e w2 ⟨rfl, rfl⟩) | (go_at_call 69; refine (l1Writes_any ⟨_, _, _⟩ _).mono ?_; rintro e w2 ⟨rfl, rfl⟩))
                  exact ⟨⟨m + 1, k + 1, by go_num, by go_num, by omega, by omega, M.cnt_step HP2.out HK.out (by simp [M.uses, hr, hw]), (hbi.alloc hbi.size _).alloc (by have := hbi.size; simp; omega) _⟩, by simp [intOf]; omega⟩
              · go_wp2_with (first | (go_at_call 68; refine (l1Reads_any ⟨_, _, _⟩ _).mono ?_; rintro e w2 ⟨rfl, rfl⟩) | (go_at_call 69; refine (l1Writes_any ⟨_, _, _⟩ _).mono ?_; rintro e w2 ⟨rfl, rfl⟩))
                exact ⟨⟨m + 1, k + 1, by go_num, by go_num, by omega, by omega, M.cnt_step HP2.out HK.out (by simp [M.uses, hr]), hbi.alloc hbi.size _⟩, by simp [intOf]; omega⟩
            · go_wp2_with fail
              have hm := M.cnt_fin HP2.out (by omega)
              exact ⟨⟨x + t.length, u + m, n + 1, by go_num, by go_num, by go_num, by omega, by omega, by omega, by rw [hm]; exact M.from_ok HP.out HD.out ht, hw1.trans (hbi.mono hsz1)⟩, by simp [intOf]; omega⟩
      · by_cases hx14 : (x : Int) ≤ 14
        · go_wp2_with fail
          go_ret
          exact ⟨ret_bool (by rw [M.from_fin HP.out (by omega) h3]; have : x ≤ 14 := by omega
                              simp [this]; omega), (below1 w _).trans (hbel.mono (by omega))⟩
        · have hx14' : decide ((x : Int) ≤ 14) = false := by simpa using hx14
          go_wp2_with fail
          go_ret
          exact ⟨ret_bool (by rw [M.from_fin HP.out (by omega) h3]; have : ¬ x ≤ 14 := by omega
                              simp [this]), (below1 w _).trans (hbel.mono (by omega))⟩
  · have h3' : (3 : Int) < ll.length := by omega
    go_enter Tryz.func26, Tryz.ntmps26
    go_wp2_with fail
    go_ret
    exact ⟨ret_bool (by simp [M.prog, h3]), below1 _ _⟩
end Go.Proofs.YtphijhpleemjoaaGreat
namespace Go.Proofs.YtphijhpleemjoaaGreat
open Go.RowKit
theorem takeD {P : Program} {md : Region.Mode} {ops : Array Oper} {Q : Exit → Act → World → Prop} {S : World → Prop} (i : Nat) {oi : Oper} (d : Option Tmp) (v : Value) {fuel : Nat} {listed : Array Bool} {a : Act} {w : World} (hS : S w) (hi : ops[i]? = some oi) (hd : oi.dst = d)
  (hs : Region.noSelect ops = true) (hf : Region.free md ops listed i = true) (hr : (Region.ready md ops listed).contains i = true)
  (hQ : ∀ c a w, Q (.panic c) (a.put d v) w → Q (.panic c) a w) (hy : YieldsIf P ops S oi v a)
  (h : wpAnyH P md ops Q S fuel (listed.setIfInBounds i true) (a.put d v) w) : wpAnyH P md ops Q S (fuel + 1) listed a w := by
 subst hd
 exact wpAnyH_take hi hs hf hr hQ hy hS h
theorem wpList_alloc_row {P : Program} {w : World} {ops : Array Oper} {rest : List Oper} {op : Oper} {a : Act} {Q : Exit → Act → World → Prop} (hgd : op.guard = none) (ty : TypeId) (ho : op.op = .alloc ty)
  (z : Array Value) (hz : ∀ w, (zeroValue ty).run P w = .ok (.agg z) w)
  (h : wpList P ops Q rest (a.put op.dst (.pointer (some ⟨w.heap.size, 0, none⟩))) (w.alloc (.cells z ty))) : wpList P ops Q (op :: rest) a w := by
 refine wpList_plain hgd fun _ hK => ?_
 unfold Oper.wp execOp
 simp [ho, Instr.alloc, hz, newVar, Value.cells]
 exact hK _ _ h
theorem wpList_store_new {P : Program} {w : World} {ops : Array Oper} {rest : List Oper} {op : Oper} {a : Act} {Q : Exit → Act → World → Prop} (hgd : op.guard = none) (ty : TypeId) (x y : Operand) (ho : op.op = .store ty x y)
  (c c' : Array Value) (hx : a.eval x = .pointer (some ⟨w.heap.size, 0, none⟩)) (hy : a.eval y = .agg c') (hi : (P.info? ty).map (·.size) = some c'.size) (hs : c.size = c'.size) (h1 : c'.all (·.oneCell') = true)
  (h : wpList P ops Q rest (a.put op.dst undef) (w.alloc (.cells c' ty))) : wpList P ops Q (op :: rest) a (w.alloc (.cells c ty)) := by
 refine wpList_plain hgd fun _ hK => ?_
 unfold Oper.wp execOp
 simp only [ho, hx, hy, Sem.run_bind, Sem.run_pure, Result.andThen_ok, run_storeAt_new (P := P) w ty c c' hi hs h1]
 exact hK _ _ h
end Go.Proofs.YtphijhpleemjoaaGreat
namespace Go.Proofs.YtphijhpleemjoaaGreat
open Go.RowKit
structure Told (w W : World) (e : TypeId) (size : Nat) (v : Value) (n : Nat) (xs : List Value) : Prop where
 own : W.ownsRow w.heap.size e size v n xs
 bel : Below w.heap.size w W
theorem Told.start (w W : World) (e : TypeId) (size : Nat) (hb : Below w.heap.size w W) : Told w W e size (.slice none 0 0) 0 [] := ⟨World.ownsRow_nil _ _ _ _, hb⟩
theorem Told.snoc {w W W' : World} {e : TypeId} {size : Nat} {v : Value} {n : Nat} {xs : List Value} {o : Obj} (h : Told w W e size v n xs) {g cap m : Nat} {ys : List Value}
  (ho : W'.ownsRow w.heap.size e size (.slice (some ⟨g, 0, none⟩) m cap) m ys) (hg : (W.alloc o).grownBy W' v.ownBlock) : Told w W' e size (.slice (some ⟨g, 0, none⟩) m cap) m ys :=
 ⟨ho, below_grown (h.bel.alloc h.bel.size o) hg (fun k hk => own_ge h.own k hk) (by have := h.bel.size; simp; omega)⟩
theorem Told.below {w W W' : World} {e : TypeId} {size : Nat} {v : Value} {n : Nat} {xs : List Value} (h : Told w W e size v n xs) (hb : Below W.heap.size W W') : Told w W' e size v n xs :=
 ⟨ownsRow_below h.own hb, h.bel.trans (hb.mono h.bel.size)⟩
theorem own_mono {w : World} {base base' : Nat} {e : TypeId} {size : Nat} {v : Value} {n : Nat} {xs : List Value} (h : w.ownsRow base e size v n xs) (hb : base' ≤ base) : w.ownsRow base' e size v n xs := by
 refine ⟨h.1, ?_⟩
 rcases h.2 with h2 | ⟨g, cap, cur, hv, hg, r⟩
 ·exact Or.inl h2
 ·exact Or.inr ⟨g, cap, cur, hv, Nat.le_trans hb hg, r⟩
structure RS {α : Type} (f : α → List Value) (k : Nat) (w : World) (va : Option Addr) (g : Nat) (l : List α) : Prop where
 addr : 0 < l.length → va = some ⟨g, 0, none⟩
 row : ∀ i (h : i < l.length) j, j < k → w.cell? ⟨g, i * k + j, none⟩ = (f l[i])[j]?
theorem RS.below {α : Type} {f : α → List Value} {k : Nat} {w w' : World} {va : Option Addr} {g B : Nat} {l : List α} (h : RS f k w va g l) (hf : ∀ x, (f x).length = k) (hb : Below B w w') (hB : w.heap.size ≤ B) : RS f k w' va g l :=
 ⟨h.addr, fun i hi j hj => by
  have h1 := h.row i hi j hj
  have h2 : (f l[i])[j]? = some ((f l[i])[j]'(by rw [hf]; exact hj)) := List.getElem?_eq_getElem _
  rw [h2] at h1 ⊢
  exact (hb.cell (p := ⟨g, i * k + j, none⟩) (Nat.lt_of_lt_of_le (World.block_lt_of_cell? _ _ h1) hB)).trans h1⟩
theorem flatten_get {α : Type} (f : α → List Value) (k : Nat) (hf : ∀ x, (f x).length = k) (l : List α) : ∀ i (h : i < l.length) j, j < k → ((l.map f).flatten)[i * k + j]? = (f l[i])[j]? := by
 induction l with
 | nil => intro i h; exact absurd h (Nat.not_lt_zero _)
 | cons x l ih =>
  intro i h j hj
  rw [List.map_cons, List.flatten_cons]
  cases i with
  | zero =>
   rw [Nat.zero_mul, Nat.zero_add, List.getElem?_append_left (by rw [hf]; exact hj)]; rfl
  | succ i =>
   have e : (i + 1) * k + j = (f x).length + (i * k + j) := by rw [hf, Nat.succ_mul]; omega
   rw [e, List.getElem?_append_right (by omega), Nat.add_sub_cancel_left]
   exact ih i (by simpa using h) j hj
theorem own_rs {α : Type} {f : α → List Value} {k : Nat} (hf : ∀ x, (f x).length = k) {w : World} {base : Nat} {e : TypeId} {v : Value} {l : List α} (h : w.ownsRow base e k v l.length (l.map f).flatten) : ∃ va g cap, v = .slice va l.length cap ∧ RS f k w va g l ∧ (0 < l.length → base ≤ g) ∧ l.length ≤ cap := by
 rcases h.2 with ⟨hv, hn⟩ | ⟨g, cap, cur, hv, hg, hh, hc, r⟩
 ·have : l = [] := List.length_eq_zero_iff.1 hn
  subst this
  exact ⟨none, 0, 0, hv, ⟨fun h => absurd h (Nat.lt_irrefl _), fun i hi => absurd hi (Nat.not_lt_zero _)⟩, fun h => absurd h (Nat.lt_irrefl _), Nat.le_refl _⟩
 ·refine ⟨_, g, cap, hv, ⟨fun _ => rfl, fun i hi j hj => ?_⟩, fun _ => hg, hc⟩
  have hcs := h.cells (g := g) (by rw [hv]; rfl)
  have h1 := flatten_get f k hf l i hi j hj
  have h2 : (f l[i])[j]? = some ((f l[i])[j]'(by rw [hf]; exact hj)) := List.getElem?_eq_getElem _
  rw [h2] at h1 ⊢
  have := hcs _ _ h1
  rwa [Go.WideShapes.add_plain, Nat.zero_add] at this
end Go.Proofs.YtphijhpleemjoaaGreat
namespace Go.Proofs.YtphijhpleemjoaaGreat
open Go.RowKit
def M.tot (f : Int → Bool) : List (List M.D) → Nat
 | [] => 0
 | t :: l => M.cnt f t + M.tot f l
def M.nreads (ll : List (List M.D)) : Int := if M.prog ll then (M.tot M.reads ll : Int) else -1
theorem M.from_le {ll : List (List M.D)} : ∀ {a u : Nat}, M.progFrom a u ll = true → ∀ t ∈ ll, t.length ≤ 7 := by
 induction ll with
 | nil => intro a u _ t ht; simp at ht
 | cons t l ih =>
  intro a u h t' ht'
  by_cases hb : M.thread t = true
  ·simp only [M.progFrom, hb, if_true] at h
   rcases List.mem_cons.1 ht' with rfl | hm
   ·exact M.thread_le hb
   ·exact ih h t' hm
  ·simp [M.progFrom, hb] at h
theorem M.prog_le {ll : List (List M.D)} (h : M.prog ll = true) : ll.length ≤ 3 ∧ ∀ t ∈ ll, t.length ≤ 7 := by
 simp only [M.prog, Bool.and_eq_true, decide_eq_true_eq] at h
 exact ⟨h.1, M.from_le h.2⟩
theorem M.tot_step {f : Int → Bool} {l : List (List M.D)} {m n : Nat} {t : List M.D} (hp : M.tot f l = m + M.tot f (l.drop n)) (hd : l.drop n = t :: l.drop (n + 1)) : M.tot f l = (m + M.cnt f t) + M.tot f (l.drop (n + 1)) := by
 rw [hp, hd, M.tot]; omega
theorem M.tot_fin {f : Int → Bool} {l : List (List M.D)} {m n : Nat} (hp : M.tot f l = m + M.tot f (l.drop n)) (hn : l.length ≤ n) : m = M.tot f l := by
 rw [hp, List.drop_eq_nil_of_le hn]; rfl
theorem M.nreads_ok {ll : List (List M.D)} (h : M.prog ll = true) : M.nreads ll = M.tot M.reads ll := by simp [M.nreads, h]
theorem M.nreads_no {ll : List (List M.D)} (h : M.prog ll = false) : M.nreads ll = -1 := by simp [M.nreads, h]
end Go.Proofs.YtphijhpleemjoaaGreat
