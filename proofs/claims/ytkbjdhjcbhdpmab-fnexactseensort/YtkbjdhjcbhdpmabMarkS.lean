/- The law's own marking of lists of what was seen, and whether marks still stand: laws.markSeenS, heldSeenS. Of at most 1048576, each of at most 1048576 numbers. -/
import Derived.Test.YtkbjdhjcbhdpmabMark
namespace Go.Proofs.Ytkbjdhjcbhdpmab
open Go.RowKit

/-- How many numbers they have. -/
def tot2 : List Sn → Nat
  | [] => 0
  | s :: l => s.l1.length + s.l2.length + tot2 l
theorem tot2_append (l m : List Sn) : tot2 (l ++ m) = tot2 l + tot2 m := by
  induction l with
  | nil => simp [tot2]
  | cons s l ih => simp only [List.cons_append, tot2, ih]; omega
theorem tot2_take (l : List Sn) (n : Nat) (h : n < l.length) : tot2 (l.take (n + 1)) = tot2 (l.take n) + (l[n].l1.length + l[n].l2.length) := by
  rw [List.take_succ_eq_append_getElem h, tot2_append]; simp [tot2]
theorem tot2_le {l : List Sn} (h : ∀ s ∈ l, s.Le 1048576) : tot2 l ≤ 2097152 * l.length := by
  induction l with
  | nil => simp [tot2]
  | cons s l ih =>
    have h1 := (h s (by simp)).reads
    have h2 := (h s (by simp)).last
    have := ih (fun x hx => h x (List.mem_cons_of_mem _ hx))
    simp only [tot2, List.length_cons]
    omega

/-- The cells of a row hold these; each may be written. -/
structure RowC (w : World) (a : Option Addr) (g o : Nat) (ss : List Sn) : Prop where
  addr : 0 < ss.length → a = some ⟨g, o, none⟩
  c : ∀ i (h : i < ss.length), w.cell? ⟨g, o + i * 2, none⟩ = some (.slice ss[i].a1 ss[i].l1.length ss[i].c1) ∧ w.cell? ⟨g, o + i * 2 + 1, none⟩ = some (.slice ss[i].a2 ss[i].l2.length ss[i].c2)
  one : ∀ s ∈ ss, IntC w s.a1 s.b1 s.o1 s.l1.length
  two : ∀ s ∈ ss, IntC w s.a2 s.b2 s.o2 s.l2.length
theorem RowC.mk_ {P : Nat → Prop} {w w' : World} {a : Option Addr} {g o : Nat} {ss : List Sn} (h : RowC w a g o ss) (hm : Mk P w w') : RowC w' a g o ss :=
  ⟨h.addr, fun i hi => ⟨hm.rest _ _ (h.c i hi).1 (fun _ e => by cases e), hm.rest _ _ (h.c i hi).2 (fun _ e => by cases e)⟩, fun s hs => (h.one s hs).mk_ hm, fun s hs => (h.two s hs).mk_ hm⟩

/-- All are marked, from a number on. -/
def Marked (w : World) (k : Int) (ss : List Sn) (n : Nat) : Prop :=
  ∀ i (_ : i < n) (h : i < ss.length), IntS w ss[i].a1 ss[i].b1 ss[i].o1 (M.seq (k + tot2 (ss.take i)) ss[i].l1.length) ∧ IntS w ss[i].a2 ss[i].b2 ss[i].o2 (M.seq (k + tot2 (ss.take i) + ss[i].l1.length) ss[i].l2.length)
theorem IntS.mkOff {P : Nat → Prop} {w w' : World} {a : Option Addr} {b o : Nat} {l : List Int} (h : IntS w a b o l) (hm : Mk P w w') (hne : 0 < l.length → ¬ P b) : IntS w' a b o l :=
  ⟨h.addr, fun i hi => by rw [hm.cell (p := ⟨b, o + i, none⟩) (hne (by omega))]; exact h.row i hi⟩
theorem Marked.below {w w' : World} {k : Int} {ss : List Sn} {n : Nat} (h : Marked w k ss n) (hb : Below w.heap.size w w') : Marked w' k ss n := fun i hi hl => ⟨(h i hi hl).1.below hb (Nat.le_refl _), (h i hi hl).2.below hb (Nat.le_refl _)⟩

/-- Blocks of some of them. -/
def anyBlk (ss : List Sn) (b : Nat) : Prop := ∃ s ∈ ss, s.blk b

set_option maxHeartbeats 1000000 in
theorem markSeenS_any (a : Option Addr) (g o c : Nat) (ss : List Sn) (w : World) (hl : ss.length ≤ 1048576) (hls : ∀ s ∈ ss, s.Le 1048576) (h : RowC w a g o ss) :
    Calls Try.prog 10 #[.slice a ss.length c, .int .i64 1] w fun e w' => e = .returned (.int .i64 (1 + tot2 ss)) ∧ Mk (anyBlk ss) w w' ∧ (Sep ss → Marked w' 1 ss ss.length) := by
  go_enter Try.func10, Try.ntmps10
  go_wp2_with fail
  go_loopw [1, 5] (fun s1 s5 wr => ∃ m : Nat, s1 = .int .i64 (1 + tot2 (ss.take m)) ∧ s5 = .int .i64 m ∧ m ≤ ss.length ∧ Mk (anyBlk ss) w wr ∧ Hid (Sep ss → Marked wr 1 ss m)) (fun _ s5 _ => ss.length - (intOf s5).toNat)
  case atStart => exact ⟨0, by simp [tot2], rfl, Nat.zero_le _, Mk.refl _ _, fun _ i hi => absurd hi (Nat.not_lt_zero _)⟩
  case round =>
    obtain ⟨m, rfl, rfl, hm, hmk, HS⟩ := hrel
    by_cases hlt : m < ss.length
    · obtain ⟨rfl⟩ := h.addr (by omega)
      have hr := h.mk_ hmk
      obtain ⟨c1, c2⟩ := hr.c m hlt
      have hmem := List.getElem_mem hlt
      have h1 := hr.one _ hmem
      have h2 := hr.two _ hmem
      have hle := hls _ hmem
      have HT : Hid (tot2 (ss.take (m + 1)) = tot2 (ss.take m) + (ss[m].l1.length + ss[m].l2.length)) := tot2_take ss m hlt
      have hb := tot2_le (l := ss.take m) (fun s hs => hls s (List.mem_of_mem_take hs))
      have hbl : (ss.take m).length ≤ 1048576 := by simp; omega
      obtain ⟨s, hs⟩ : ∃ s, ss[m] = s := ⟨_, rfl⟩
      have HE : Hid (ss[m] = s) := hs
      rw [hs] at c1 c2 h1 h2 hle hmem
      obtain ⟨T, hT⟩ : ∃ T, tot2 (ss.take m) = T := ⟨_, rfl⟩
      have HT2 : Hid (tot2 (ss.take m) = T) := hT
      rw [hT] at hb ⊢
      clear hs hT
      have i1 : (m : Int) < ss.length := by omega
      have hle1 := hle.reads
      have hle2 := hle.last
      go_wp2_with fail
      refine (markIntS_any s.a1 s.b1 s.o1 s.l1.length s.c1 (1 + T) wr hle1 (by omega) (by omega) h1).mono ?_
      rintro e w1 ⟨rfl, n1, mk1⟩
      have c2' := mk1.rest _ _ c2 (fun _ e => by cases e)
      go_wp2_with fail
      refine (markIntS_any s.a2 s.b2 s.o2 s.l2.length s.c2 (1 + T + s.l1.length) w1 hle2 (by omega) (by omega) (h2.mk_ mk1)).mono ?_
      rintro e w2 ⟨rfl, n2, mk2⟩
      have in1 : ∀ j, j = s.b1 ∧ 0 < s.l1.length → anyBlk ss j := fun j hj => ⟨s, hmem, Or.inl ⟨hj.2, hj.1⟩⟩
      have in2 : ∀ j, j = s.b2 ∧ 0 < s.l2.length → anyBlk ss j := fun j hj => ⟨s, hmem, Or.inr ⟨hj.2, hj.1⟩⟩
      go_wp2_with fail
      refine ⟨⟨m + 1, ?_, by go_num, by omega, (hmk.trans (mk1.mono in1)).trans (mk2.mono in2), ?_⟩, by simp [intOf]; omega⟩
      · rw [HT.out, HT2.out, HE.out]; congr 1; omega
      · intro hsep i hi hil
        by_cases e : i = m
        · subst e
          rw [HE.out, HT2.out]
          refine ⟨n1.mkOff mk2 (fun hl hp => ?_), n2⟩
          rw [M.seq_len] at hl
          exact hsep.ne s hmem hl hp.2 hp.1
        · obtain ⟨q1, q2⟩ := HS.out hsep i (by omega) hil
          have far := fun b => hsep.far i m hil hlt e b
          rw [HE.out] at far
          refine ⟨(q1.mkOff mk1 (fun hl hp => ?_)).mkOff mk2 (fun hl hp => ?_), (q2.mkOff mk1 (fun hl hp => ?_)).mkOff mk2 (fun hl hp => ?_)⟩
          all_goals rw [M.seq_len] at hl
          · exact far _ (Or.inl ⟨hl, rfl⟩) (Or.inl ⟨hp.2, hp.1⟩)
          · exact far _ (Or.inl ⟨hl, rfl⟩) (Or.inr ⟨hp.2, hp.1⟩)
          · exact far _ (Or.inr ⟨hl, rfl⟩) (Or.inl ⟨hp.2, hp.1⟩)
          · exact far _ (Or.inr ⟨hl, rfl⟩) (Or.inr ⟨hp.2, hp.1⟩)
    · obtain rfl : m = ss.length := by omega
      go_wp2_with fail
      go_ret
      exact ⟨by rw [List.take_length]; rfl, hmk, HS.out⟩

set_option maxHeartbeats 1000000 in
theorem heldSeenS_any (a : Option Addr) (g o c : Nat) (ss : List Sn) (w : World) (hl : ss.length ≤ 1048576) (hls : ∀ s ∈ ss, s.Le 1048576) (h : RowC w a g o ss) (hmk : Marked w 1 ss ss.length) :
    Calls Try.prog 11 #[.slice a ss.length c, .int .i64 1] w fun e w' => e = .returned (.int .i64 (1 + tot2 ss)) ∧ w' = w := by
  go_enter Try.func11, Try.ntmps11
  go_wp2_with fail
  go_loopw [1, 5] (fun s1 s5 wr => ∃ m : Nat, s1 = .int .i64 (1 + tot2 (ss.take m)) ∧ s5 = .int .i64 m ∧ m ≤ ss.length ∧ wr = w) (fun _ s5 _ => ss.length - (intOf s5).toNat)
  case atStart => exact ⟨0, by simp [tot2], rfl, Nat.zero_le _, rfl⟩
  case round =>
    obtain ⟨m, rfl, rfl, hm, rfl⟩ := hrel
    by_cases hlt : m < ss.length
    · obtain ⟨rfl⟩ := h.addr (by omega)
      obtain ⟨c1, c2⟩ := h.c m hlt
      have hmem := List.getElem_mem hlt
      have hle := hls _ hmem
      obtain ⟨q1, q2⟩ := hmk m hlt hlt
      have HT : Hid (tot2 (ss.take (m + 1)) = tot2 (ss.take m) + (ss[m].l1.length + ss[m].l2.length)) := tot2_take ss m hlt
      have hb := tot2_le (l := ss.take m) (fun s hs => hls s (List.mem_of_mem_take hs))
      have hbl : (ss.take m).length ≤ 1048576 := by simp; omega
      obtain ⟨s, hs⟩ : ∃ s, ss[m] = s := ⟨_, rfl⟩
      have HE : Hid (ss[m] = s) := hs
      rw [hs] at c1 c2 hle q1 q2
      obtain ⟨T, hT⟩ : ∃ T, tot2 (ss.take m) = T := ⟨_, rfl⟩
      have HT2 : Hid (tot2 (ss.take m) = T) := hT
      rw [hT] at hb q1 q2 ⊢
      clear hs hT
      have i1 : (m : Int) < ss.length := by omega
      have hle1 := hle.reads
      have hle2 := hle.last
      have p1 : ¬ ((1 : Int) + T + s.l1.length < 0) := by omega
      have p2 : ¬ ((1 : Int) + T + s.l1.length + s.l2.length < 0) := by omega
      go_wp2_with fail
      refine (heldIntS_any s.a1 s.b1 s.o1 s.l1.length s.c1 (1 + T) _ hle1 (by omega) (by omega) q1).mono ?_
      rintro e w1 ⟨rfl, rfl⟩
      go_wp2_with fail
      refine (heldIntS_any s.a2 s.b2 s.o2 s.l2.length s.c2 (1 + T + s.l1.length) _ hle2 (by omega) (by omega) q2).mono ?_
      rintro e w2 ⟨rfl, rfl⟩
      go_wp2_with fail
      refine ⟨⟨m + 1, ?_, by go_num, by omega, trivial⟩, by simp [intOf]; omega⟩
      rw [HT.out, HT2.out, HE.out]; congr 1; omega
    · obtain rfl : m = ss.length := by omega
      go_wp2_with fail
      go_ret
      exact ⟨by rw [List.take_length]; rfl, rfl⟩

end Go.Proofs.Ytkbjdhjcbhdpmab
