/- Whether all may be one behind the other, and of each pair one of both be added: plainly. No condition. impl's way of settling choices, plainly: it finds what can be added just if there is such. No condition. spec's way of telling whether nothing goes round, plainly: events are taken one by one that none left must be ahead of. No condition. Whether a way holds, plainly: both ways to tell it say the same. No condition. Words of bits that say who leads where. No condition. impl's bits of events. Of words of 32 bits. impl's sets of events: what may be added, what is there, and one link more. Of words of 32 bits. impl's sets of events: one link more. Of words of 32 bits. Settling choices by words of bits, plainly: as by bits. No condition. -/
import Derived.Test.YtjpgpjjejbjldaaGreatBase
import Derived.Deep.QuietTactic
import Derived.BigQuiet

namespace Go.Proofs.YtjpgpjjejbjldaaGreat
namespace M

abbrev Lk := Nat × Nat
/-- One must be ahead of another, through others too. -/
inductive Leads (L : List Lk) : Nat → Nat → Prop where
  | one {a b : Nat} : (a, b) ∈ L → Leads L a b
  | more {a b c : Nat} : Leads L a b → (b, c) ∈ L → Leads L a c
theorem Leads.trans {L : List Lk} {a b c : Nat} (h : Leads L a b) (k : Leads L b c) : Leads L a c := by
  induction k with
  | one h1 => exact .more h h1
  | more _ h2 ih => exact .more ih h2
theorem Leads.mono {L L' : List Lk} {a b : Nat} (h : Leads L a b) (hs : ∀ l ∈ L, Leads L' l.1 l.2) : Leads L' a b := by
  induction h with
  | one h1 => exact hs _ h1
  | more _ h2 ih => exact ih.trans (hs _ h2)
theorem Leads.sub {L L' : List Lk} {a b : Nat} (h : Leads L a b) (hs : ∀ l ∈ L, l ∈ L') : Leads L' a b := h.mono fun l hl => .one (hs l hl)
/-- One link more. -/
theorem leads_add {L : List Lk} {l : Lk} {a b : Nat} : Leads (l :: L) a b ↔ Leads L a b ∨ ((a = l.1 ∨ Leads L a l.1) ∧ (b = l.2 ∨ Leads L l.2 b)) := by
  constructor
  · intro h
    induction h with
    | one h1 =>
      rcases List.mem_cons.1 h1 with e | e
      · exact .inr ⟨.inl (by rw [← e]), .inl (by rw [← e])⟩
      · exact .inl (.one e)
    | more _ h2 ih =>
      rcases List.mem_cons.1 h2 with e | e
      · have e1 : _ = l.1 := congrArg Prod.fst e
        have e2 : _ = l.2 := congrArg Prod.snd e
        simp only at e1 e2
        subst e1
        refine .inr ⟨?_, .inl e2⟩
        rcases ih with ih | ⟨ih, _⟩
        · exact .inr ih
        · exact ih
      · rcases ih with ih | ⟨i1, i2⟩
        · exact .inl (.more ih e)
        · refine .inr ⟨i1, .inr ?_⟩
          rcases i2 with rfl | i2
          · exact .one e
          · exact .more i2 e
  · intro h
    have hs : ∀ x ∈ L, x ∈ l :: L := fun x hx => List.mem_cons_of_mem _ hx
    rcases h with h | ⟨h1, h2⟩
    · exact h.sub hs
    · have hl : Leads (l :: L) l.1 l.2 := .one (List.mem_cons_self ..)
      have k1 : Leads (l :: L) a l.2 := by
        rcases h1 with rfl | h1
        · exact hl
        · exact (h1.sub hs).trans hl
      rcases h2 with rfl | h2
      · exact k1
      · exact k1.trans (h2.sub hs)
/-- Bits that say who leads where. -/
def addB (S : Nat → Nat → Bool) (l : Lk) : Nat → Nat → Bool := fun a b => S a b || ((a == l.1 || S a l.1) && (S l.2 b || b == l.2))
def Tells (S : Nat → Nat → Bool) (L : List Lk) : Prop := ∀ a b, S a b = true ↔ Leads L a b
theorem leads_nil {a b : Nat} : ¬ Leads [] a b := fun h => by
  induction h with
  | one h => cases h
  | more _ h _ => cases h
theorem Tells.zero : Tells (fun _ _ => false) [] := fun a b => ⟨fun h => (by cases h), fun h => absurd h leads_nil⟩
theorem Tells.add {S : Nat → Nat → Bool} {L : List Lk} (h : Tells S L) (l : Lk) : Tells (addB S l) (l :: L) := fun a b => by
  rw [leads_add, ← h a b, ← h a l.1, ← h l.2 b]
  simp only [addB, Bool.or_eq_true, Bool.and_eq_true, beq_iff_eq]
  constructor
  · rintro (h | ⟨h1, h2⟩)
    · exact .inl h
    · exact .inr ⟨h1, h2.symm⟩
  · rintro (h | ⟨h1, h2⟩)
    · exact .inl h
    · exact .inr ⟨h1, h2.symm⟩
/-- An event must be ahead of itself. -/
def Round (L : List Lk) : Prop := ∃ a, Leads L a a
theorem Round.sub {L L' : List Lk} (h : Round L) (hs : ∀ l ∈ L, Leads L' l.1 l.2) : Round L' := by
  obtain ⟨a, h⟩ := h
  exact ⟨a, h.mono hs⟩
/-- What may be added so that nothing goes round. -/
theorem round_add {L : List Lk} {l : Lk} (h : ¬ Round L) : Round (l :: L) ↔ l.1 = l.2 ∨ Leads L l.2 l.1 := by
  constructor
  · rintro ⟨a, ha⟩
    rcases leads_add.1 ha with h1 | ⟨h1, h2⟩
    · exact absurd ⟨a, h1⟩ h
    · rcases h1 with rfl | h1
      · exact h2
      · rcases h2 with rfl | h2
        · exact .inr h1
        · exact .inr (h2.trans h1)
  · intro hl
    have k : Leads (l :: L) l.1 l.2 := .one (List.mem_cons_self ..)
    rcases hl with e | hl
    · exact ⟨l.2, by rw [e] at k; exact k⟩
    · exact ⟨l.1, k.trans (hl.sub fun x hx => List.mem_cons_of_mem _ hx)⟩

/-- Of each choice one of both. -/
inductive Picks : List (Lk × Lk) → List Lk → Prop where
  | nil : Picks [] []
  | cons {c : Lk × Lk} {cs : List (Lk × Lk)} {l : Lk} {ls : List Lk} : (l = c.1 ∨ l = c.2) → Picks cs ls → Picks (c :: cs) (l :: ls)
/-- Of each choice one can be added so that nothing goes round. -/
def Sat (L : List Lk) (cs : List (Lk × Lk)) : Prop := ∃ ls, Picks cs ls ∧ ¬ Round (ls ++ L)
theorem sat_nil {L : List Lk} : Sat L [] ↔ ¬ Round L := by
  constructor
  · rintro ⟨ls, hp, h⟩
    cases hp
    exact h
  · intro h
    exact ⟨[], .nil, h⟩
theorem round_mem {L L' : List Lk} (h : ∀ l, l ∈ L ↔ l ∈ L') : Round L ↔ Round L' := ⟨fun hr => hr.sub fun l hl => .one ((h l).1 hl), fun hr => hr.sub fun l hl => .one ((h l).2 hl)⟩
theorem sat_cons {L : List Lk} {c : Lk × Lk} {cs : List (Lk × Lk)} : Sat L (c :: cs) ↔ Sat (c.1 :: L) cs ∨ Sat (c.2 :: L) cs := by
  have mv : ∀ (l : Lk) (ls : List Lk), Round (l :: ls ++ L) ↔ Round (ls ++ l :: L) := fun l ls => round_mem fun x => by simp [or_left_comm]
  constructor
  · rintro ⟨ls, hp, h⟩
    cases hp with
    | cons hl hp =>
      rw [mv] at h
      rcases hl with rfl | rfl
      · exact .inl ⟨_, hp, h⟩
      · exact .inr ⟨_, hp, h⟩
  · rintro (⟨ls, hp, h⟩ | ⟨ls, hp, h⟩)
    · exact ⟨_, .cons (.inl rfl) hp, by rw [mv]; exact h⟩
    · exact ⟨_, .cons (.inr rfl) hp, by rw [mv]; exact h⟩
theorem sat_round {L : List Lk} {cs : List (Lk × Lk)} (h : Sat L cs) : ¬ Round L := fun hr => by
  obtain ⟨ls, _, hn⟩ := h
  exact hn (hr.sub fun l hl => .one (List.mem_append.2 (.inr hl)))
/-- It hangs on who leads where alone. -/
theorem sat_same {L L' : List Lk} (h1 : ∀ l ∈ L, Leads L' l.1 l.2) (h2 : ∀ l ∈ L', Leads L l.1 l.2) (cs : List (Lk × Lk)) : Sat L cs ↔ Sat L' cs := by
  have key : ∀ {L L' : List Lk}, (∀ l ∈ L', Leads L l.1 l.2) → Sat L cs → Sat L' cs := by
    intro L L' h ⟨ls, hp, hn⟩
    refine ⟨ls, hp, fun hr => hn (hr.sub fun l hl => ?_)⟩
    rcases List.mem_append.1 hl with e | e
    · exact .one (List.mem_append.2 (.inl e))
    · exact (h l e).sub fun x hx => List.mem_append.2 (.inr hx)
  exact ⟨key h2, key h1⟩
theorem sat_has {L : List Lk} {l : Lk} (h : Leads L l.1 l.2) (cs : List (Lk × Lk)) : Sat (l :: L) cs ↔ Sat L cs :=
  sat_same (fun x hx => by
    rcases List.mem_cons.1 hx with rfl | e
    · exact h
    · exact .one e) (fun _ hx => .one (List.mem_cons_of_mem _ hx)) cs
/-- A choice may be put ahead of others. -/
theorem sat_mid {L : List Lk} {c : Lk × Lk} : ∀ {cc bs : List (Lk × Lk)}, Sat L (cc ++ c :: bs) ↔ Sat L (c :: (cc ++ bs)) := by
  intro cc
  induction cc generalizing L with
  | nil => intro bs; exact Iff.rfl
  | cons x cc ih =>
    intro bs
    rw [List.cons_append, sat_cons, ih, ih, sat_cons, sat_cons, sat_cons, List.cons_append, sat_cons, sat_cons]
    have sw : ∀ (l m : Lk), Sat (l :: m :: L) (cc ++ bs) ↔ Sat (m :: l :: L) (cc ++ bs) := fun l m => sat_same (fun y hy => .one (by simp at hy ⊢; rcases hy with h | h | h <;> simp [h])) (fun y hy => .one (by simp at hy ⊢; rcases hy with h | h | h <;> simp [h])) _
    rw [sw c.1 x.1, sw c.2 x.1, sw c.1 x.2, sw c.2 x.2]
    constructor
    · rintro ((h | h) | (h | h))
      · exact .inl (.inl h)
      · exact .inr (.inl h)
      · exact .inl (.inr h)
      · exact .inr (.inr h)
    · rintro ((h | h) | (h | h))
      · exact .inl (.inl h)
      · exact .inr (.inl h)
      · exact .inl (.inr h)
      · exact .inr (.inr h)
/-- Where one of both leads back the other one must be. -/
theorem sat_forced {L : List Lk} {c : Lk × Lk} {cs : List (Lk × Lk)} (h : Leads L c.2.2 c.2.1) : Sat L (c :: cs) ↔ Sat (c.1 :: L) cs := by
  rw [sat_cons]
  refine ⟨fun hs => hs.resolve_right fun hn => sat_round hn ?_, .inl⟩
  exact ⟨c.2.1, Leads.trans (.one (List.mem_cons_self ..)) (h.sub fun x hx => List.mem_cons_of_mem _ hx)⟩
theorem sat_forced' {L : List Lk} {c : Lk × Lk} {cs : List (Lk × Lk)} (h : Leads L c.1.2 c.1.1) : Sat L (c :: cs) ↔ Sat (c.2 :: L) cs := by
  rw [sat_cons]
  refine ⟨fun hs => hs.resolve_left fun hn => sat_round hn ?_, .inr⟩
  exact ⟨c.1.1, Leads.trans (.one (List.mem_cons_self ..)) (h.sub fun x hx => List.mem_cons_of_mem _ hx)⟩
theorem sat_no {L : List Lk} {c : Lk × Lk} {cs : List (Lk × Lk)} (h1 : Leads L c.1.2 c.1.1) (h2 : Leads L c.2.2 c.2.1) : ¬ Sat L (c :: cs) := fun h =>
  sat_round ((sat_forced h2).1 h) ⟨c.1.1, Leads.trans (.one (List.mem_cons_self ..)) (h1.sub fun _ hx => List.mem_cons_of_mem _ hx)⟩
/-- Where one of both is there already nothing need be added. -/
theorem sat_there {L : List Lk} {c : Lk × Lk} {cs : List (Lk × Lk)} (h : Leads L c.1.1 c.1.2 ∨ Leads L c.2.1 c.2.2) : Sat L (c :: cs) ↔ Sat L cs := by
  have less : ∀ (l : Lk), Sat (l :: L) cs → Sat L cs := by
    intro l ⟨ls, hp, hn⟩
    refine ⟨ls, hp, fun hr => hn (hr.sub fun x hx => .one ?_)⟩
    rcases List.mem_append.1 hx with e | e
    · exact List.mem_append.2 (.inl e)
    · exact List.mem_append.2 (.inr (List.mem_cons_of_mem _ e))
  rw [sat_cons]
  constructor
  · rintro (hs | hs)
    · exact less _ hs
    · exact less _ hs
  · intro hs
    rcases h with h | h
    · exact .inl ((sat_has h cs).2 hs)
    · exact .inr ((sat_has h cs).2 hs)
end M
end Go.Proofs.YtjpgpjjejbjldaaGreat

namespace Go.Proofs.YtjpgpjjejbjldaaGreat
namespace M

abbrev Ch := Lk × Lk
abbrev Bits := Nat → Nat → Bool
def mayAdd (S : Bits) (l : Lk) : Bool := !S l.2 l.1
def hasL (S : Bits) (l : Lk) : Bool := S l.1 l.2
/-- All choices gone through once. -/
def sweep : Bits → List Ch → List Ch → Option (Bits × List Ch)
  | S, [], left => some (S, left)
  | S, c :: cs, left =>
    if !mayAdd S c.1 && !mayAdd S c.2 then none
    else if hasL S c.1 || hasL S c.2 then sweep S cs left
    else if mayAdd S c.1 && mayAdd S c.2 then sweep S cs (left ++ [c])
    else if mayAdd S c.1 then sweep (addB S c.1) cs left
    else sweep (addB S c.2) cs left
/-- Until all are left. -/
def settle : Nat → Bits → List Ch → Option (Bits × List Ch)
  | 0, S, cs => some (S, cs)
  | n + 1, S, cs => match sweep S cs [] with
    | none => none
    | some (S', left) => if left.length = cs.length then some (S', left) else settle n S' left
/-- Whether of each choice one can be added. -/
def choose : Nat → Bits → List Ch → Bool
  | 0, _, _ => false
  | n + 1, S, cs => match settle (cs.length + 1) S cs with
    | none => false
    | some (_, []) => true
    | some (S', c :: left) => choose n (addB S' c.1) left || choose n (addB S' c.2) left
/-- Both of a choice are of two events. -/
def Two (c : Ch) : Prop := c.1.1 ≠ c.1.2 ∧ c.2.1 ≠ c.2.2
theorem round_keep {S : Bits} {L : List Lk} (hT : Tells S L) (hR : ¬ Round L) {l : Lk} (h : mayAdd S l = true) (hl : l.1 ≠ l.2) : ¬ Round (l :: L) := fun hr => by
  rcases (round_add hR).1 hr with e | e
  · exact hl e
  · rw [← hT] at e
    simp [mayAdd, e] at h
theorem no_leads {S : Bits} {L : List Lk} (hT : Tells S L) {l : Lk} (h : mayAdd S l = false) : Leads L l.2 l.1 := by
  rw [← hT]
  simpa [mayAdd] using h
theorem sweep_ok : ∀ (cs left : List Ch) (S : Bits) (L : List Lk), Tells S L → ¬ Round L → (∀ c ∈ cs, Two c) → match sweep S cs left with
    | none => ¬ Sat L (left ++ cs)
    | some (S', left') => ∃ L', Tells S' L' ∧ ¬ Round L' ∧ (Sat L (left ++ cs) ↔ Sat L' left') ∧ (∀ c ∈ left', c ∈ left ∨ c ∈ cs) ∧ left'.length ≤ left.length + cs.length := by
  intro cs
  induction cs with
  | nil =>
    intro left S L hT hR _
    simp only [sweep, List.append_nil, List.length_nil, Nat.add_zero]
    exact ⟨L, hT, hR, Iff.rfl, fun c hc => .inl hc, Nat.le_refl _⟩
  | cons c cs ih =>
    intro left S L hT hR hd
    have hc : Two c := hd c (List.mem_cons_self ..)
    have hds : ∀ c ∈ cs, Two c := fun x hx => hd x (List.mem_cons_of_mem _ hx)
    have go : ∀ (S2 : Bits) (L2 : List Lk) (left2 : List Ch), Tells S2 L2 → ¬ Round L2 → (Sat L (left ++ c :: cs) ↔ Sat L2 (left2 ++ cs)) → (∀ x ∈ left2, x ∈ left ∨ x ∈ c :: cs) → left2.length ≤ left.length + 1 →
        match sweep S2 cs left2 with
        | none => ¬ Sat L (left ++ c :: cs)
        | some (S', left') => ∃ L', Tells S' L' ∧ ¬ Round L' ∧ (Sat L (left ++ c :: cs) ↔ Sat L' left') ∧ (∀ x ∈ left', x ∈ left ∨ x ∈ c :: cs) ∧ left'.length ≤ left.length + (c :: cs).length := by
      intro S2 L2 left2 h1 h2 h3 h4 h5
      have := ih left2 S2 L2 h1 h2 hds
      cases hp : sweep S2 cs left2 with
      | none =>
        rw [hp] at this
        exact fun h => this (h3.1 h)
      | some r =>
        obtain ⟨S', left'⟩ := r
        rw [hp] at this
        obtain ⟨L', q1, q2, q3, q4, q5⟩ := this
        refine ⟨L', q1, q2, h3.trans q3, fun x hx => ?_, by simp only [List.length_cons]; omega⟩
        rcases q4 x hx with e | e
        · exact h4 x e
        · exact .inr (List.mem_cons_of_mem _ e)
    unfold sweep
    cases m1 : mayAdd S c.1
    · cases m2 : mayAdd S c.2
      · simp only [Bool.not_false, Bool.and_self, if_true]
        rw [sat_mid]
        exact sat_no (no_leads hT m1) (no_leads hT m2)
      · simp only [Bool.not_false, Bool.not_true, Bool.and_false, Bool.false_eq_true, if_false, Bool.and_true]
        cases hh : (hasL S c.1 || hasL S c.2)
        · simp only [Bool.false_eq_true, if_false]
          exact go _ (c.2 :: L) left (hT.add c.2) (round_keep hT hR m2 hc.2) (by rw [sat_mid]; exact sat_forced' (no_leads hT m1)) (fun x hx => .inl hx) (by omega)
        · simp only [if_true]
          rw [Bool.or_eq_true] at hh
          exact go _ L left hT hR (by rw [sat_mid]; exact sat_there (hh.imp (hT _ _).1 (hT _ _).1)) (fun x hx => .inl hx) (by omega)
    · cases m2 : mayAdd S c.2
      · simp only [Bool.not_false, Bool.not_true, Bool.and_false, Bool.false_and, Bool.false_eq_true, if_false, if_true]
        cases hh : (hasL S c.1 || hasL S c.2)
        · simp only [Bool.false_eq_true, if_false]
          exact go _ (c.1 :: L) left (hT.add c.1) (round_keep hT hR m1 hc.1) (by rw [sat_mid]; exact sat_forced (no_leads hT m2)) (fun x hx => .inl hx) (by omega)
        · simp only [if_true]
          rw [Bool.or_eq_true] at hh
          exact go _ L left hT hR (by rw [sat_mid]; exact sat_there (hh.imp (hT _ _).1 (hT _ _).1)) (fun x hx => .inl hx) (by omega)
      · simp only [Bool.not_true, Bool.and_self, Bool.false_eq_true, if_false, if_true]
        cases hh : (hasL S c.1 || hasL S c.2)
        · simp only [Bool.false_eq_true, if_false]
          exact go _ L (left ++ [c]) hT hR (by rw [List.append_assoc]; exact Iff.rfl) (fun x hx => by
            rcases List.mem_append.1 hx with e | e
            · exact .inl e
            · exact .inr (by rw [List.mem_singleton.1 e]; exact List.mem_cons_self ..)) (by simp)
        · simp only [if_true]
          rw [Bool.or_eq_true] at hh
          exact go _ L left hT hR (by rw [sat_mid]; exact sat_there (hh.imp (hT _ _).1 (hT _ _).1)) (fun x hx => .inl hx) (by omega)
theorem settle_ok : ∀ (n : Nat) (S : Bits) (cs : List Ch) (L : List Lk), Tells S L → ¬ Round L → (∀ c ∈ cs, Two c) → match settle n S cs with
    | none => ¬ Sat L cs
    | some (S', left) => ∃ L', Tells S' L' ∧ ¬ Round L' ∧ (Sat L cs ↔ Sat L' left) ∧ (∀ c ∈ left, c ∈ cs) ∧ left.length ≤ cs.length := by
  intro n
  induction n with
  | zero =>
    intro S cs L hT hR _
    simp only [settle]
    exact ⟨L, hT, hR, Iff.rfl, fun c hc => hc, Nat.le_refl _⟩
  | succ n ih =>
    intro S cs L hT hR hd
    have h := sweep_ok cs [] S L hT hR hd
    cases hp : sweep S cs [] with
    | none =>
      rw [hp] at h
      rw [settle, hp]
      exact h
    | some r =>
      obtain ⟨S', left⟩ := r
      rw [hp] at h
      obtain ⟨L', q1, q2, q3, q4, q5⟩ := h
      simp only [List.nil_append] at q3
      have q4' : ∀ c ∈ left, c ∈ cs := fun c hc => (q4 c hc).resolve_left (by simp)
      have q5' : left.length ≤ cs.length := by simpa using q5
      have es : settle (n + 1) S cs = if left.length = cs.length then some (S', left) else settle n S' left := by rw [settle, hp]
      rw [es]
      by_cases he : left.length = cs.length
      · rw [if_pos he]
        exact ⟨L', q1, q2, q3, q4', q5'⟩
      · rw [if_neg he]
        have h2 := ih S' left L' q1 q2 (fun c hc => hd c (q4' c hc))
        cases hs : settle n S' left with
        | none => rw [hs] at h2; exact fun h => h2 (q3.1 h)
        | some r2 =>
          obtain ⟨S2, left2⟩ := r2
          rw [hs] at h2
          obtain ⟨L2, p1, p2, p3, p4, p5⟩ := h2
          exact ⟨L2, p1, p2, q3.trans p3, fun c hc => q4' c (p4 c hc), by omega⟩
/-- Where all are left nothing has turned, and of each either may be added. -/
theorem sweep_all : ∀ (cs left : List Ch) (S S' : Bits) (left' : List Ch), sweep S cs left = some (S', left') → left'.length ≤ left.length + cs.length ∧ (left'.length = left.length + cs.length → S' = S ∧ left' = left ++ cs ∧ ∀ c ∈ cs, mayAdd S c.1 = true ∧ mayAdd S c.2 = true) := by
  intro cs
  induction cs with
  | nil =>
    intro left S S' left' h
    simp only [sweep, Option.some.injEq, Prod.mk.injEq] at h
    obtain ⟨rfl, rfl⟩ := h
    exact ⟨by simp, fun _ => ⟨rfl, by simp, fun c hc => (by cases hc)⟩⟩
  | cons c cs ih =>
    intro left S S' left' h
    have less : ∀ (S2 : Bits), sweep S2 cs left = some (S', left') → left'.length ≤ left.length + (c :: cs).length ∧ (left'.length = left.length + (c :: cs).length → S' = S ∧ left' = left ++ c :: cs ∧ ∀ x ∈ c :: cs, mayAdd S x.1 = true ∧ mayAdd S x.2 = true) := fun S2 h2 => by
      have := (ih left S2 S' left' h2).1
      simp only [List.length_cons]
      exact ⟨by omega, fun e => by omega⟩
    unfold sweep at h
    split at h
    · cases h
    · split at h
      · exact less _ h
      · split at h
        · rename_i hm
          rw [Bool.and_eq_true] at hm
          obtain ⟨h1, h2⟩ := ih (left ++ [c]) S S' left' h
          simp only [List.length_append, List.length_cons, List.length_nil] at h1 h2 ⊢
          refine ⟨by omega, fun e => ?_⟩
          obtain ⟨e1, e2, e3⟩ := h2 (by omega)
          refine ⟨e1, by rw [e2]; simp, fun x hx => ?_⟩
          rcases List.mem_cons.1 hx with rfl | hx
          · exact hm
          · exact e3 x hx
        · split at h
          · exact less _ h
          · exact less _ h
theorem settle_fix : ∀ (n : Nat) (S S' : Bits) (cs left : List Ch), cs.length < n → settle n S cs = some (S', left) → ∀ c ∈ left, mayAdd S' c.1 = true ∧ mayAdd S' c.2 = true := by
  intro n
  induction n with
  | zero => intro S S' cs left h; omega
  | succ n ih =>
    intro S S' cs left hn h
    unfold settle at h
    cases hp : sweep S cs [] with
    | none => rw [hp] at h; cases h
    | some r =>
      obtain ⟨S2, l2⟩ := r
      rw [hp] at h
      simp only at h
      obtain ⟨h1, h2⟩ := sweep_all cs [] S S2 l2 hp
      simp only [List.length_nil, Nat.zero_add, List.nil_append] at h1 h2
      split at h
      · rename_i e
        obtain ⟨e1, e2, e3⟩ := h2 e
        simp only [Option.some.injEq, Prod.mk.injEq] at h
        obtain ⟨rfl, rfl⟩ := h
        intro c hc
        rw [e2] at hc
        rw [e1]
        exact e3 c hc
      · exact ih S2 S' l2 left (by omega) h
/-- It finds what can be added just if there is such. -/
theorem choose_ok : ∀ (n : Nat) (S : Bits) (cs : List Ch) (L : List Lk), cs.length < n → Tells S L → (∀ c ∈ cs, Two c) → ¬ Round L → (choose n S cs = true ↔ Sat L cs) := by
  intro n
  induction n with
  | zero => intro S cs L h; omega
  | succ n ih =>
    intro S cs L hn hT hd hR
    have h := settle_ok (cs.length + 1) S cs L hT hR hd
    unfold choose
    cases hs : settle (cs.length + 1) S cs with
    | none => rw [hs] at h; simpa using h
    | some r =>
      obtain ⟨S', left⟩ := r
      rw [hs] at h
      obtain ⟨L', q1, q2, q3, q4, q5⟩ := h
      cases left with
      | nil => simp only [true_iff]; exact q3.2 (sat_nil.2 q2)
      | cons c left =>
        have hm := settle_fix _ S S' cs (c :: left) (Nat.lt_succ_self _) hs c (List.mem_cons_self ..)
        have hc : Two c := hd c (q4 c (List.mem_cons_self ..))
        have hdl : ∀ x ∈ left, Two x := fun x hx => hd x (q4 x (List.mem_cons_of_mem _ hx))
        have hln : left.length < n := by simp only [List.length_cons] at q5; omega
        simp only [Bool.or_eq_true]
        rw [q3, sat_cons, ih _ left (c.1 :: L') hln (q1.add c.1) hdl (round_keep q1 q2 hm.1 hc.1), ih _ left (c.2 :: L') hln (q1.add c.2) hdl (round_keep q1 q2 hm.2 hc.2)]
end M
end Go.Proofs.YtjpgpjjejbjldaaGreat

namespace Go.Proofs.YtjpgpjjejbjldaaGreat
namespace M

theorem minimal {L : List Lk} (hR : ¬ Round L) : ∀ U : List Nat, U ≠ [] → ∃ m ∈ U, ∀ a ∈ U, ¬ Leads L a m := by
  intro U
  induction U with
  | nil => intro h; exact absurd rfl h
  | cons x U ih =>
    intro _
    have hx : ¬ Leads L x x := fun h => hR ⟨x, h⟩
    cases U with
    | nil =>
      exact ⟨x, List.mem_cons_self .., fun a ha => by
        rw [List.mem_singleton.1 ha]; exact hx⟩
    | cons y U =>
      obtain ⟨m, hm, hmin⟩ := ih (by simp)
      rcases Classical.em (Leads L x m) with hl | hl
      · exact ⟨x, List.mem_cons_self .., fun a ha h => by
          rcases List.mem_cons.1 ha with rfl | ha
          · exact hx h
          · exact hmin a ha (h.trans hl)⟩
      · exact ⟨m, List.mem_cons_of_mem _ hm, fun a ha => by
          rcases List.mem_cons.1 ha with rfl | ha
          · exact hl
          · exact hmin a ha⟩
/-- Nothing that is left must be ahead of it. -/
def free (A : Nat → Nat → Bool) (n : Nat) (gone : Nat → Bool) (b : Nat) : Bool := !gone b && (List.range n).all fun a => gone a || !A a b
def kahn (A : Nat → Nat → Bool) (n : Nat) : Nat → (Nat → Bool) → Bool
  | 0, _ => true
  | k + 1, gone => match (List.range n).find? (free A n gone) with
    | none => false
    | some b => kahn A n k (fun x => gone x || x == b)
/-- All links of a net. -/
def linksOf (A : Nat → Nat → Bool) (n : Nat) : List Lk := (List.range n).flatMap fun a => ((List.range n).filter fun b => A a b).map fun b => (a, b)
theorem mem_links {A : Nat → Nat → Bool} {n a b : Nat} : (a, b) ∈ linksOf A n ↔ a < n ∧ b < n ∧ A a b = true := by
  simp only [linksOf, List.mem_flatMap, List.mem_map, List.mem_filter, List.mem_range, Prod.mk.injEq]
  constructor
  · rintro ⟨x, hx, y, ⟨hy, hA⟩, rfl, rfl⟩
    exact ⟨hx, hy, hA⟩
  · rintro ⟨h1, h2, h3⟩
    exact ⟨a, h1, b, ⟨h2, h3⟩, rfl, rfl⟩
def leftN (n : Nat) (gone : Nat → Bool) : Nat := ((List.range n).filter fun x => !gone x).length
theorem filter_less (gone : Nat → Bool) (b : Nat) (hb : gone b = false) : ∀ (U : List Nat), U.Nodup → b ∈ U → (U.filter fun x => !(gone x || x == b)).length + 1 = (U.filter fun x => !gone x).length
  | [], _, h => by cases h
  | x :: U, hn, h => by
    obtain ⟨hx, hU⟩ := List.nodup_cons.1 hn
    by_cases e : x = b
    · subst e
      have same : (U.filter fun y => !(gone y || y == x)) = U.filter fun y => !gone y := by
        apply List.filter_congr
        intro y hy
        have : (y == x) = false := by
          rw [beq_eq_false_iff_ne]
          intro e; rw [e] at hy; exact hx hy
        simp [this]
      rw [List.filter_cons, List.filter_cons, same]
      simp [hb]
    · have hbU : b ∈ U := by
        rcases List.mem_cons.1 h with e' | h
        · exact absurd e'.symm e
        · exact h
      have ih := filter_less gone b hb U hU hbU
      have hxb : (x == b) = false := by rw [beq_eq_false_iff_ne]; exact e
      cases hg : gone x
      · simp only [List.filter_cons, hg, hxb, Bool.or_self, Bool.not_false, if_true, List.length_cons]
        omega
      · simp only [List.filter_cons, hg, Bool.true_or, Bool.not_true, Bool.false_eq_true, if_false]
        exact ih
theorem free_lt {A : Nat → Nat → Bool} {n : Nat} {gone : Nat → Bool} {b : Nat} (h : (List.range n).find? (free A n gone) = some b) : b < n ∧ gone b = false ∧ ∀ a, a < n → A a b = true → gone a = true := by
  have h1 := List.find?_some h
  have h2 := List.mem_of_find?_eq_some h
  simp only [free, Bool.and_eq_true, List.all_eq_true, List.mem_range, Bool.or_eq_true, Bool.not_eq_true'] at h1 h2
  exact ⟨h2, h1.1, fun a ha hA => (h1.2 a ha).resolve_right (by rw [hA]; simp)⟩
theorem left_less {A : Nat → Nat → Bool} {n k : Nat} {gone : Nat → Bool} {b : Nat} (h : (List.range n).find? (free A n gone) = some b) (hk : leftN n gone = k + 1) : leftN n (fun x => gone x || x == b) = k := by
  obtain ⟨h1, h2, _⟩ := free_lt h
  have := filter_less gone b h2 (List.range n) List.nodup_range (List.mem_range.2 h1)
  unfold leftN at hk ⊢
  simp only at this ⊢
  omega
theorem left_all (n : Nat) : leftN n (fun _ => false) = n := by
  have e : (List.range n).filter (fun x => !(fun _ : Nat => false) x) = List.range n := List.filter_eq_self.2 (fun _ _ => rfl)
  unfold leftN
  rw [e, List.length_range]
theorem kahn_yes {A : Nat → Nat → Bool} {n : Nat} (hR : ¬ Round (linksOf A n)) : ∀ (k : Nat) (gone : Nat → Bool), leftN n gone = k → kahn A n k gone = true := by
  intro k
  induction k with
  | zero => intro gone _; rfl
  | succ k ih =>
    intro gone hk
    have hne : (List.range n).filter (fun x => !gone x) ≠ [] := fun e => by
      unfold leftN at hk; rw [e] at hk; simp at hk
    obtain ⟨m, hm, hmin⟩ := minimal hR _ hne
    simp only [List.mem_filter, List.mem_range, Bool.not_eq_true'] at hm hmin
    have hf : free A n gone m = true := by
      simp only [free, Bool.and_eq_true, List.all_eq_true, List.mem_range, Bool.or_eq_true, Bool.not_eq_true']
      refine ⟨hm.2, fun a ha => ?_⟩
      cases hg : gone a
      · right
        cases hA : A a m
        · rfl
        · exact absurd (.one (mem_links.2 ⟨ha, hm.1, hA⟩)) (hmin a ⟨ha, hg⟩)
      · exact .inl rfl
    rw [kahn]
    cases hs : (List.range n).find? (free A n gone) with
    | none => exact absurd hf (by simpa using List.find?_eq_none.1 hs m (List.mem_range.2 hm.1))
    | some b => exact ih _ (left_less hs hk)
theorem leads_last {L : List Lk} {a b : Nat} (h : Leads L a b) : ∃ c, (c, b) ∈ L ∧ (c = a ∨ Leads L a c) := by
  cases h with
  | one h => exact ⟨a, h, .inl rfl⟩
  | more h1 h2 => exact ⟨_, h2, .inr h1⟩
theorem leads_closed {L : List Lk} {gone : Nat → Bool} (hc : ∀ a b, (a, b) ∈ L → gone b = true → gone a = true) {a b : Nat} (h : Leads L a b) : gone b = true → gone a = true := by
  induction h with
  | one h => exact hc _ _ h
  | more _ h2 ih => exact fun hg => ih (hc _ _ h2 hg)
theorem kahn_no {A : Nat → Nat → Bool} {n : Nat} : ∀ (k : Nat) (gone : Nat → Bool), leftN n gone = k → (∀ a b, (a, b) ∈ linksOf A n → gone b = true → gone a = true) → (∀ a, gone a = true → ¬ Leads (linksOf A n) a a) → kahn A n k gone = true → ¬ Round (linksOf A n) := by
  intro k
  induction k with
  | zero =>
    intro gone hk _ hn _ ⟨a, ha⟩
    obtain ⟨c, hc, _⟩ := leads_last ha
    have hlt := (mem_links.1 hc).2.1
    cases hg : gone a
    · have : a ∈ (List.range n).filter (fun x => !gone x) := by simp [hlt, hg]
      unfold leftN at hk
      rw [List.length_eq_zero_iff.1 hk] at this
      cases this
    · exact hn a hg ha
  | succ k ih =>
    intro gone hk hc hn h
    rw [kahn] at h
    cases hs : (List.range n).find? (free A n gone) with
    | none => rw [hs] at h; cases h
    | some b =>
      rw [hs] at h
      obtain ⟨h1, h2, h3⟩ := free_lt hs
      refine ih _ (left_less hs hk) (fun x y hxy hy => ?_) (fun x hx hl => ?_) h
      · simp only [Bool.or_eq_true, beq_iff_eq] at hy ⊢
        rcases hy with hy | rfl
        · exact .inl (hc x y hxy hy)
        · obtain ⟨q1, _, q3⟩ := mem_links.1 hxy
          exact .inl (h3 x q1 q3)
      · simp only [Bool.or_eq_true, beq_iff_eq] at hx
        rcases hx with hx | rfl
        · exact hn x hx hl
        · obtain ⟨c, q1, q2⟩ := leads_last hl
          obtain ⟨r1, _, r3⟩ := mem_links.1 q1
          have hg := h3 c r1 r3
          rcases q2 with rfl | q2
          · rw [hg] at h2; cases h2
          · rw [leads_closed hc q2 hg] at h2; cases h2
/-- It takes all just if nothing goes round. -/
theorem kahn_ok (A : Nat → Nat → Bool) (n : Nat) : kahn A n n (fun _ => false) = true ↔ ¬ Round (linksOf A n) :=
  ⟨kahn_no n _ (left_all n) (fun _ _ _ h => (by cases h)) (fun _ h => (by cases h)), fun h => kahn_yes h n _ (left_all n)⟩
end M
end Go.Proofs.YtjpgpjjejbjldaaGreat

namespace Go.Proofs.YtjpgpjjejbjldaaGreat
namespace M

/-- A net with one link more. -/
def setA (A : Nat → Nat → Bool) (l : Lk) : Nat → Nat → Bool := fun a b => A a b || (a == l.1 && b == l.2)
def holdsA (A : Nat → Nat → Bool) (n : Nat) : Bool := kahn A n n (fun _ => false)
/-- spec's waits, of the choices that are left. -/
def waitsA (n : Nat) : (Nat → Nat → Bool) → List Ch → Bool
  | A, [] => holdsA A n
  | A, c :: cs => holdsA A n && (waitsA n (setA A c.1) cs || waitsA n (setA A c.2) cs)
theorem links_set {A : Nat → Nat → Bool} {n : Nat} {l : Lk} (h1 : l.1 < n) (h2 : l.2 < n) (x : Lk) : x ∈ linksOf (setA A l) n ↔ x ∈ l :: linksOf A n := by
  obtain ⟨a, b⟩ := x
  obtain ⟨p, q⟩ := l
  simp only at h1 h2
  rw [List.mem_cons, mem_links, mem_links]
  simp only [setA, Bool.or_eq_true, Bool.and_eq_true, beq_iff_eq, Prod.mk.injEq]
  constructor
  · rintro ⟨ha, hb, h | h⟩
    · exact .inr ⟨ha, hb, h⟩
    · exact .inl h
  · rintro (⟨rfl, rfl⟩ | ⟨ha, hb, h⟩)
    · exact ⟨h1, h2, .inr ⟨rfl, rfl⟩⟩
    · exact ⟨ha, hb, .inl h⟩
theorem sat_mem {L L' : List Lk} (h : ∀ l, l ∈ L ↔ l ∈ L') (cs : List Ch) : Sat L cs ↔ Sat L' cs := sat_same (fun l hl => .one ((h l).1 hl)) (fun l hl => .one ((h l).2 hl)) cs
/-- Both events of both of a choice are there. -/
def Inn (n : Nat) (c : Ch) : Prop := (c.1.1 < n ∧ c.1.2 < n) ∧ c.2.1 < n ∧ c.2.2 < n
theorem waits_ok (n : Nat) : ∀ (cs : List Ch) (A : Nat → Nat → Bool), (∀ c ∈ cs, Inn n c) → (waitsA n A cs = true ↔ Sat (linksOf A n) cs) := by
  intro cs
  induction cs with
  | nil => intro A _; rw [waitsA, holdsA, kahn_ok, sat_nil]
  | cons c cs ih =>
    intro A hc
    obtain ⟨⟨a1, a2⟩, b1, b2⟩ := hc c (List.mem_cons_self ..)
    have hcs : ∀ x ∈ cs, Inn n x := fun x hx => hc x (List.mem_cons_of_mem _ hx)
    rw [waitsA, Bool.and_eq_true, Bool.or_eq_true, ih _ hcs, ih _ hcs, holdsA, kahn_ok, sat_cons, sat_mem (links_set a1 a2), sat_mem (links_set b1 b2)]
    refine ⟨fun h => h.2, fun h => ⟨fun hr => ?_, h⟩⟩
    have hr2 : ∀ l : Lk, Round (l :: linksOf A n) := fun l => hr.sub fun x hx => .one (List.mem_cons_of_mem _ hx)
    rcases h with h | h
    · exact sat_round h (hr2 _)
    · exact sat_round h (hr2 _)
/-- impl's bits: link by link. -/
def bitsOf (A : Nat → Nat → Bool) (n : Nat) : Bits := (linksOf A n).foldl addB (fun _ _ => false)
theorem tells_mem {S : Bits} {L L' : List Lk} (h : ∀ l, l ∈ L ↔ l ∈ L') (hT : Tells S L) : Tells S L' := fun a b => (hT a b).trans ⟨fun k => k.sub fun l hl => (h l).1 hl, fun k => k.sub fun l hl => (h l).2 hl⟩
theorem fold_tells : ∀ (ls : List Lk) (S : Bits) (L : List Lk), Tells S L → Tells (ls.foldl addB S) (ls.reverse ++ L)
  | [], _, _, h => h
  | l :: ls, S, L, h => by
    have := fold_tells ls (addB S l) (l :: L) (h.add l)
    simpa using this
theorem bits_tell (A : Nat → Nat → Bool) (n : Nat) : Tells (bitsOf A n) (linksOf A n) :=
  tells_mem (fun l => by simp) (fold_tells (linksOf A n) _ [] Tells.zero)
def goesRound (S : Bits) (m : Nat) : Bool := (List.range m).any fun a => S a a
theorem round_bits {A : Nat → Nat → Bool} {n m : Nat} (hm : n ≤ m) : goesRound (bitsOf A n) m = true ↔ Round (linksOf A n) := by
  simp only [goesRound, List.any_eq_true, List.mem_range]
  constructor
  · rintro ⟨a, _, h⟩
    exact ⟨a, (bits_tell A n a a).1 h⟩
  · rintro ⟨a, h⟩
    obtain ⟨c, hc, _⟩ := leads_last h
    have := (mem_links.1 hc).2.1
    exact ⟨a, by omega, (bits_tell A n a a).2 h⟩
/-- Both ways to tell whether a way holds say the same. -/
theorem holds_eq {A0 A : Nat → Nat → Bool} {n m : Nat} (hm : n ≤ m) {cs : List Ch} (hi : ∀ c ∈ cs, Inn n c) (h2 : ∀ c ∈ cs, Two c) :
    (!goesRound (bitsOf A0 n) m && (!goesRound (bitsOf A n) m && choose (cs.length + 1) (bitsOf A n) cs)) = (holdsA A0 n && waitsA n A cs) := by
  have e0 : (!goesRound (bitsOf A0 n) m) = holdsA A0 n := by
    rw [Bool.eq_iff_iff, holdsA, kahn_ok, ← round_bits (A := A0) hm]
    simp
  rw [e0]
  congr 1
  rw [Bool.eq_iff_iff, waits_ok n cs A hi, Bool.and_eq_true]
  have e1 : (!goesRound (bitsOf A n) m) = true ↔ ¬ Round (linksOf A n) := by
    rw [← round_bits (A := A) hm]; simp
  rw [e1]
  constructor
  · rintro ⟨h, k⟩
    exact (choose_ok _ _ cs _ (Nat.lt_succ_self _) (bits_tell A n) h2 h).1 k
  · intro h
    have hR := sat_round h
    exact ⟨hR, (choose_ok _ _ cs _ (Nat.lt_succ_self _) (bits_tell A n) h2 hR).2 h⟩
end M
end Go.Proofs.YtjpgpjjejbjldaaGreat

namespace Go.Proofs.YtjpgpjjejbjldaaGreat
namespace M

/-- Word a has bit b just where S says so. -/
def Words (m : Nat) (N : Nat → Nat) (S : Bits) : Prop := ∀ a, a < m → ∀ b, (N a).testBit b = S a b
theorem Words.zero (m : Nat) : Words m (fun _ => 0) (fun _ _ => false) := fun _ _ _ => by simp
/-- One link more, word by word. -/
def addW (N : Nat → Nat) (l : Lk) : Nat → Nat := fun a => if a = l.1 ∨ (N a).testBit l.1 = true then N a ||| (N l.2 ||| 1 <<< l.2) else N a
theorem bit_one (s b : Nat) : (1 <<< s).testBit b = (b == s) := by
  rw [Nat.testBit_shiftLeft]
  by_cases h : b = s
  · subst h; simp
  · have hb : (b == s) = false := by rw [beq_eq_false_iff_ne]; exact h
    rw [hb]
    by_cases h2 : s ≤ b
    · obtain ⟨k, hk⟩ : ∃ k, b - s = k + 1 := ⟨b - s - 1, by omega⟩
      rw [hk, Nat.testBit_succ]
      simp
    · simp [h2]
theorem Words.add {m : Nat} {N : Nat → Nat} {S : Bits} (h : Words m N S) {l : Lk} (h2 : l.2 < m) : Words m (addW N l) (addB S l) := fun a ha b => by
  have e1 := h a ha l.1
  have e2 := h l.2 h2 b
  unfold addW addB
  by_cases hc : a = l.1 ∨ (N a).testBit l.1 = true
  · rw [if_pos hc, Nat.testBit_or, Nat.testBit_or, bit_one, h a ha b, e2]
    have : (a == l.1 || S a l.1) = true := by
      rw [Bool.or_eq_true, beq_iff_eq, ← e1]; exact hc
    rw [this, Bool.true_and]
  · rw [if_neg hc, h a ha b]
    have : (a == l.1 || S a l.1) = false := by
      rw [← Bool.not_eq_true, Bool.or_eq_true, beq_iff_eq, ← e1]; exact hc
    rw [this, Bool.false_and, Bool.or_false]
/-- A word stays one of so many bits. -/
theorem addW_lt {N : Nat → Nat} {l : Lk} {k : Nat} (h : ∀ a, N a < 2 ^ k) (h2 : l.2 < k) : ∀ a, addW N l a < 2 ^ k := fun a => by
  unfold addW
  split
  · refine Nat.or_lt_two_pow (h a) (Nat.or_lt_two_pow (h _) ?_)
    rw [Nat.one_shiftLeft]
    exact Nat.pow_lt_pow_right (by decide) h2
  · exact h a
end M
end Go.Proofs.YtjpgpjjejbjldaaGreat

namespace Go.Proofs.YtjpgpjjejbjldaaGreat
open Go.RowKit

theorem bits_and32 (a b : Nat) (ha : a < 4294967296) (hb : b < 4294967296) : bits .and .u32 (a : Int) (b : Int) = ((a &&& b : Nat) : Int) := by
  have hx : a &&& b < 2 ^ 32 := Nat.lt_of_le_of_lt Nat.and_le_left (by omega)
  have h1 : (BitVec.ofInt 32 (a : Int)).toNat = a := by
    rw [BitVec.ofInt_natCast, BitVec.toNat_ofNat]; exact Nat.mod_eq_of_lt (by omega)
  have h2 : (BitVec.ofInt 32 (b : Int)).toNat = b := by
    rw [BitVec.ofInt_natCast, BitVec.toNat_ofNat]; exact Nat.mod_eq_of_lt (by omega)
  show IntKind.u32.wrap ((BitVec.ofInt 32 (a : Int) &&& BitVec.ofInt 32 (b : Int)).toNat : Int) = _
  rw [BitVec.toNat_and, h1, h2, IntKind.wrap_u32]
  omega
theorem bits_or32 (a b : Nat) (ha : a < 4294967296) (hb : b < 4294967296) : bits .or .u32 (a : Int) (b : Int) = ((a ||| b : Nat) : Int) := by
  have hx : a ||| b < 2 ^ 32 := Nat.or_lt_two_pow (by omega) (by omega)
  have h1 : (BitVec.ofInt 32 (a : Int)).toNat = a := by
    rw [BitVec.ofInt_natCast, BitVec.toNat_ofNat]; exact Nat.mod_eq_of_lt (by omega)
  have h2 : (BitVec.ofInt 32 (b : Int)).toNat = b := by
    rw [BitVec.ofInt_natCast, BitVec.toNat_ofNat]; exact Nat.mod_eq_of_lt (by omega)
  show IntKind.u32.wrap ((BitVec.ofInt 32 (a : Int) ||| BitVec.ofInt 32 (b : Int)).toNat : Int) = _
  rw [BitVec.toNat_or, h1, h2, IntKind.wrap_u32]
  omega
theorem bit_of (s i : Nat) : ((s : Int) / 2 ^ i % 2 == 1) = s.testBit i := by
  have e : (s : Int) / 2 ^ i % 2 = ((s / 2 ^ i % 2 : Nat) : Int) := by simp
  rw [e, Nat.testBit, Nat.shiftRight_eq_div_pow, Nat.and_comm, Nat.and_one_is_mod]
  rcases Nat.mod_two_eq_zero_or_one (s / 2 ^ i) with e | e <;> rw [e] <;> rfl
set_option maxHeartbeats 400000 in
theorem has_any (s i : Nat) (w : World) (hs : s < 4294967296) (hi : i < 28) :
    Calls Tryz.prog 77 #[.int .u32 s, .int .i64 i] w fun e w' => e = .returned (.bool (s.testBit i)) ∧ w' = w := by
  have hd : s / 2 ^ i < 4294967296 := Nat.lt_of_le_of_lt (Nat.div_le_self _ _) hs
  have e1 : bits .and .u32 ((s : Int) / 2 ^ i) 1 = (s : Int) / 2 ^ i % 2 := by
    have := bits_and32 (s / 2 ^ i) 1 hd (by decide)
    rw [Nat.and_one_is_mod] at this
    simpa using this
  go_enter Tryz.func77, Tryz.ntmps77
  go_wp2_with fail
  rw [bit_of]
  go_ret
  exact ⟨rfl, rfl⟩
end Go.Proofs.YtjpgpjjejbjldaaGreat

namespace Go.Proofs.YtjpgpjjejbjldaaGreat
open Go.RowKit

/-- Twenty-eight words, in a block. -/
structure Bt (w : World) (b : Nat) (N : Nat → Nat) : Prop where
  c : ∀ i, i < 28 → w.cell? ⟨b, i, none⟩ = some (.int .u32 (N i))
  lt : ∀ i, N i < 4294967296
  fz : ∀ i, w.frozen? ⟨b, i, none⟩ = false
theorem Bt.below {w w' : World} {b : Nat} {N : Nat → Nat} (h : Bt w b N) (hb : Below w.heap.size w w') : Bt w' b N := by
  have hl : b < w.heap.size := World.block_lt_of_cell? _ _ (h.c 0 (by omega))
  exact ⟨fun i hi => (hb.cell (p := ⟨b, i, none⟩) hl).trans (h.c i hi), h.lt, fun i => (hb.frozen (p := ⟨b, i, none⟩) hl).trans (h.fz i)⟩

set_option maxHeartbeats 1000000 in
theorem mayAdd_any (b : Nat) (N : Nat → Nat) (l : M.Lk) (w : World) (h1 : l.1 < 28) (h2 : l.2 < 28) (h : Bt w b N) :
    Calls Tryz.prog 115 #[.pointer (some ⟨b, 0, none⟩), .agg #[.int .i64 l.1, .int .i64 l.2]] w fun e w' => e = .returned (.bool (!(N l.2).testBit l.1)) ∧ Below w.heap.size w w' := by
  have hb0 := below1 w (.cells #[.int .i64 (l.1 : Int), .int .i64 (l.2 : Int)] 132)
  have k0 : (w.alloc (.cells #[.int .i64 (l.1 : Int), .int .i64 (l.2 : Int)] 132)).cell? ⟨w.heap.size, 0, none⟩ = some (.int .i64 l.1) := by simp
  have k1 : (w.alloc (.cells #[.int .i64 (l.1 : Int), .int .i64 (l.2 : Int)] 132)).cell? ⟨w.heap.size, 1, none⟩ = some (.int .i64 l.2) := by simp
  have kc := (h.below hb0).c l.2 h2
  have hlt := h.lt l.2
  have i2 : (l.2 : Int) < 28 := by omega
  go_enter Tryz.func115, Tryz.ntmps115
  go_wp2_with fail
  generalize w.alloc (.cells #[.int .i64 (l.1 : Int), .int .i64 (l.2 : Int)] 132) = W at *
  go_quiet (first | (go_at_call 77; refine Calls.quiet_of_same (has_any (N l.2) l.1 _ hlt h1)))
  go_wp2_with fail
  go_ret
  exact ⟨rfl, hb0.trans ⟨rfl, rfl, rfl, Nat.le_refl _, fun _ _ => rfl⟩⟩
set_option maxHeartbeats 1000000 in
theorem hasLink_any (b : Nat) (N : Nat → Nat) (l : M.Lk) (w : World) (h1 : l.1 < 28) (h2 : l.2 < 28) (h : Bt w b N) :
    Calls Tryz.prog 116 #[.pointer (some ⟨b, 0, none⟩), .agg #[.int .i64 l.1, .int .i64 l.2]] w fun e w' => e = .returned (.bool ((N l.1).testBit l.2)) ∧ Below w.heap.size w w' := by
  have hb0 := below1 w (.cells #[.int .i64 (l.1 : Int), .int .i64 (l.2 : Int)] 132)
  have k0 : (w.alloc (.cells #[.int .i64 (l.1 : Int), .int .i64 (l.2 : Int)] 132)).cell? ⟨w.heap.size, 0, none⟩ = some (.int .i64 l.1) := by simp
  have k1 : (w.alloc (.cells #[.int .i64 (l.1 : Int), .int .i64 (l.2 : Int)] 132)).cell? ⟨w.heap.size, 1, none⟩ = some (.int .i64 l.2) := by simp
  have kc := (h.below hb0).c l.1 h1
  have hlt := h.lt l.1
  have i2 : (l.1 : Int) < 28 := by omega
  go_enter Tryz.func116, Tryz.ntmps116
  go_wp2_with fail
  generalize w.alloc (.cells #[.int .i64 (l.1 : Int), .int .i64 (l.2 : Int)] 132) = W at *
  go_quiet (first | (go_at_call 77; refine Calls.quiet_of_same (has_any (N l.1) l.2 _ hlt h2)))
  go_wp2_with fail
  go_ret
  exact ⟨rfl, hb0.trans ⟨rfl, rfl, rfl, Nat.le_refl _, fun _ _ => rfl⟩⟩

theorem Bt.set {w : World} {b i : Nat} {N : Nat → Nat} {v : Nat} (h : Bt w b N) (hi : i < 28) (hv : v < 4294967296) : Bt (w.setCell ⟨b, i, none⟩ (.int .u32 v)) b (fun k => if k = i then v else N k) :=
  ⟨fun k hk => by
    by_cases e : k = i
    · subst e; rw [if_pos rfl]; exact World.cell?_setCell_same _ _ _ (h.c k hk)
    · rw [if_neg e, World.cell?_setCell_other _ _ _ _ (fun e' => by have := congrArg Addr.off e'; simp at this; omega)]; exact h.c k hk, fun k => by
    by_cases e : k = i
    · rw [if_pos e]; exact hv
    · rw [if_neg e]; exact h.lt k, fun k => by rw [World.frozen?_setCell]; exact h.fz k⟩

end Go.Proofs.YtjpgpjjejbjldaaGreat

namespace Go.Proofs.YtjpgpjjejbjldaaGreat
open Go.RowKit

/-- The words below one are turned. -/
def M.upW (N : Nat → Nat) (l : M.Lk) (k : Nat) : Nat → Nat := fun a => if a < k then M.addW N l a else N a
theorem M.up_no {N : Nat → Nat} {l : M.Lk} {k : Nat} (h : M.addW N l k = N k) : M.upW N l (k + 1) = M.upW N l k := funext fun a => by
  unfold M.upW
  by_cases e : a = k
  · subst e; rw [if_pos (by omega), if_neg (by omega), h]
  · by_cases h2 : a < k
    · rw [if_pos (by omega), if_pos h2]
    · rw [if_neg (by omega), if_neg h2]
theorem M.up_yes {N : Nat → Nat} {l : M.Lk} {k v : Nat} (h : M.addW N l k = v) : M.upW N l (k + 1) = fun a => if a = k then v else M.upW N l k a := funext fun a => by
  unfold M.upW
  by_cases e : a = k
  · subst e; rw [if_pos (by omega), if_pos rfl, h]
  · rw [if_neg e]
    by_cases h2 : a < k
    · rw [if_pos (by omega), if_pos h2]
    · rw [if_neg (by omega), if_neg h2]

set_option maxHeartbeats 2000000 in
theorem add_any (b : Nat) (N : Nat → Nat) (l : M.Lk) (w : World) (h1 : l.1 < 28) (h2 : l.2 < 28) (h : Bt w b N) :
    Calls Tryz.prog 76 #[.pointer (some ⟨b, 0, none⟩), .agg #[.int .i64 l.1, .int .i64 l.2]] w fun e w' => e = .returned (.tuple #[]) ∧ Bt w' b (M.addW N l) ∧ w.grownBy w' (some b) := by
  have hbl : b < w.heap.size := World.block_lt_of_cell? _ _ (h.c 0 (by omega))
  have hb0 := below1 w (.cells #[.int .i64 (l.1 : Int), .int .i64 (l.2 : Int)] 132)
  have k0 : (w.alloc (.cells #[.int .i64 (l.1 : Int), .int .i64 (l.2 : Int)] 132)).cell? ⟨w.heap.size, 0, none⟩ = some (.int .i64 l.1) := by simp
  have k1 : (w.alloc (.cells #[.int .i64 (l.1 : Int), .int .i64 (l.2 : Int)] 132)).cell? ⟨w.heap.size, 1, none⟩ = some (.int .i64 l.2) := by simp
  have hB0 := h.below hb0
  have kc := hB0.c l.2 h2
  have hlt := h.lt l.2
  have i2 : (l.2 : Int) < 28 := by omega
  go_enter Tryz.func76, Tryz.ntmps76
  go_wp2_with fail
  generalize w.alloc (.cells #[.int .i64 (l.1 : Int), .int .i64 (l.2 : Int)] 132) = W at *
  go_quiet (fail)
  go_wp2_with fail
  have hpw : (2 : Int) ^ l.2 % (4294967296 : Int) = ((1 <<< l.2 : Nat) : Int) := by
    rw [Nat.one_shiftLeft]
    have h32 : 2 ^ l.2 < 2 ^ 28 := Nat.pow_lt_pow_right (by decide) h2
    have e : (2 : Int) ^ l.2 = ((2 ^ l.2 : Nat) : Int) := by simp
    rw [e]
    generalize 2 ^ l.2 = z at h32
    omega
  have hsl : 1 <<< l.2 < 4294967296 := by
    rw [Nat.one_shiftLeft]
    have h32 : 2 ^ l.2 < 2 ^ 28 := Nat.pow_lt_pow_right (by decide) h2
    omega
  rw [hpw, bits_or32 _ _ hlt hsl]
  have hbeh : N l.2 ||| 1 <<< l.2 < 4294967296 := Nat.or_lt_two_pow (n := 32) (by omega) (by omega)
  have hadd : ∀ k, M.addW N l k = if k = l.1 ∨ (N k).testBit l.1 = true then N k ||| (N l.2 ||| 1 <<< l.2) else N k := fun k => rfl
  generalize N l.2 ||| 1 <<< l.2 = beh at *
  have hbw : w.grownBy (W.drewN nq) (some b) := ⟨hb0.os, hb0.tape, hb0.output, hb0.size, fun k hk _ => hb0.block k hk⟩
  have hB1 : Bt (W.drewN nq) b (M.upW N l 0) := ⟨fun i hi => hB0.c i hi, hB0.lt, hB0.fz⟩
  have k01 : (W.drewN nq).cell? ⟨w.heap.size, 0, none⟩ = some (.int .i64 l.1) := k0
  have hP : w.heap.size < (W.drewN nq).heap.size := World.block_lt_of_cell? _ _ k01
  have hne : w.heap.size ≠ b := by omega
  clear k0 k1 kc hB0 hb0 hpw hsl
  generalize W.drewN nq = W1 at *
  generalize hPe : w.heap.size = P at *
  go_loopw [16] (fun s16 wr => ∃ k : Nat, s16 = .int .i64 k ∧ k ≤ 28 ∧ Bt wr b (M.upW N l k) ∧ wr.cell? ⟨P, 0, none⟩ = some (.int .i64 l.1) ∧ w.grownBy wr (some b)) (fun s16 _ => 28 - (intOf s16).toNat)
  case atStart => exact ⟨0, rfl, by omega, hB1, k01, hbw⟩
  case round =>
    obtain ⟨k, rfl, hk, hB, kp, hg⟩ := hrel
    clear hB1 k01 hbw
    by_cases hlt2 : k < 28
    · have i1 : (k : Int) < 28 := by omega
      have ck := hB.c k hlt2
      have cf := hB.fz k
      have eN : M.upW N l k k = N k := by unfold M.upW; rw [if_neg (Nat.lt_irrefl _)]
      rw [eN] at ck
      have hNk := h.lt k
      have e6 := bits_or32 (N k) beh hNk hbeh
      have ha := hadd k
      by_cases hc : k = l.1
      · have bc : ((k : Int) == (l.1 : Int)) = true := by simp [hc]
        rw [if_pos (.inl hc)] at ha
        have hB2 := hB.set hlt2 (v := N k ||| beh) (Nat.or_lt_two_pow (n := 32) (by omega) (by omega))
        rw [← M.up_yes ha] at hB2
        have kp2 : (wr.setCell ⟨b, k, none⟩ (.int .u32 ((N k ||| beh : Nat) : Int))).cell? ⟨P, 0, none⟩ = some (.int .i64 l.1) := by
          rw [World.cell?_setCell_other _ _ _ _ (fun e => hne (congrArg Addr.block e).symm)]; exact kp
        have hg2 : w.grownBy (wr.setCell ⟨b, k, none⟩ (.int .u32 ((N k ||| beh : Nat) : Int))) (some b) := ⟨hg.os, hg.tape, hg.output, by rw [show (wr.setCell ⟨b, k, none⟩ (.int .u32 ((N k ||| beh : Nat) : Int))).heap.size = wr.heap.size from by simp [World.setCell]]; exact hg.size, fun q hq hn => (Below.heap_setCell _ _ _ _ (fun e => hn (by rw [e]))).trans (hg.block q hq hn)⟩
        clear hc ha
        go_wp2_with fail
        go_quiet (fail)
        go_wp2_with fail
        go_region
        all_goals
          go_wp2_with fail
          go_roundw
          case rel =>
            first
            | exact ⟨k + 1, by go_num, by omega, ⟨fun i hi => hB2.c i hi, hB2.lt, hB2.fz⟩, kp2, ⟨hg2.os, hg2.tape, hg2.output, hg2.size, hg2.block⟩⟩
            | ((repeat apply Exists.intro); exact ⟨⟨k + 1, by go_num, by omega, ⟨fun i hi => hB2.c i hi, hB2.lt, hB2.fz⟩, kp2, ⟨hg2.os, hg2.tape, hg2.output, hg2.size, hg2.block⟩⟩, rfl⟩)
          case measure => (simp [intOf]; omega)
      · have bc : ((k : Int) == (l.1 : Int)) = false := by rw [beq_eq_false_iff_ne]; omega
        cases ht : (N k).testBit l.1
        · rw [if_neg (by rw [ht]; simp [hc])] at ha
          have hB2 := hB
          rw [← M.up_no ha] at hB2
          have CH := fun W => has_any (N k) l.1 W hNk h1
          rw [ht] at CH
          clear hc ha
          go_wp2_with fail
          go_quiet (first | (go_at_call 77; refine Calls.quiet_of_same (CH _)))
          go_wp2_with fail
          go_roundw
          case rel =>
            first
            | exact ⟨k + 1, by go_num, by omega, ⟨fun i hi => hB2.c i hi, hB2.lt, hB2.fz⟩, kp, ⟨hg.os, hg.tape, hg.output, hg.size, hg.block⟩⟩
            | ((repeat apply Exists.intro); exact ⟨⟨k + 1, by go_num, by omega, ⟨fun i hi => hB2.c i hi, hB2.lt, hB2.fz⟩, kp, ⟨hg.os, hg.tape, hg.output, hg.size, hg.block⟩⟩, rfl⟩)
          case measure => (simp [intOf]; omega)
        · rw [if_pos (.inr ht)] at ha
          have hB2 := hB.set hlt2 (v := N k ||| beh) (Nat.or_lt_two_pow (n := 32) (by omega) (by omega))
          rw [← M.up_yes ha] at hB2
          have CH := fun W => has_any (N k) l.1 W hNk h1
          rw [ht] at CH
          have kp2 : (wr.setCell ⟨b, k, none⟩ (.int .u32 ((N k ||| beh : Nat) : Int))).cell? ⟨P, 0, none⟩ = some (.int .i64 l.1) := by
            rw [World.cell?_setCell_other _ _ _ _ (fun e => hne (congrArg Addr.block e).symm)]; exact kp
          have hg2 : w.grownBy (wr.setCell ⟨b, k, none⟩ (.int .u32 ((N k ||| beh : Nat) : Int))) (some b) := ⟨hg.os, hg.tape, hg.output, by rw [show (wr.setCell ⟨b, k, none⟩ (.int .u32 ((N k ||| beh : Nat) : Int))).heap.size = wr.heap.size from by simp [World.setCell]]; exact hg.size, fun q hq hn => (Below.heap_setCell _ _ _ _ (fun e => hn (by rw [e]))).trans (hg.block q hq hn)⟩
          clear hc ha
          go_wp2_with fail
          go_quiet (first | (go_at_call 77; refine Calls.quiet_of_same (CH _)))
          go_wp2_with fail
          go_region
          all_goals
            go_wp2_with fail
            go_roundw
            case rel =>
              first
              | exact ⟨k + 1, by go_num, by omega, ⟨fun i hi => hB2.c i hi, hB2.lt, hB2.fz⟩, kp2, ⟨hg2.os, hg2.tape, hg2.output, hg2.size, hg2.block⟩⟩
              | ((repeat apply Exists.intro); exact ⟨⟨k + 1, by go_num, by omega, ⟨fun i hi => hB2.c i hi, hB2.lt, hB2.fz⟩, kp2, ⟨hg2.os, hg2.tape, hg2.output, hg2.size, hg2.block⟩⟩, rfl⟩)
            case measure => (simp [intOf]; omega)
    · go_wp2_with fail
      have hk28 : k = 28 := by omega
      subst hk28
      exact bodyPost_end (v := .tuple #[]) (results_none Tryz.results76 _ _ _) rfl ⟨rfl, ⟨fun i hi => by have := hB.c i hi; unfold M.upW at this; rwa [if_pos hi] at this, M.addW_lt (k := 32) h.lt (by omega), hB.fz⟩, hg⟩
end Go.Proofs.YtjpgpjjejbjldaaGreat

namespace Go.Proofs.YtjpgpjjejbjldaaGreat
namespace M

def mayW (N : Nat → Nat) (l : Lk) : Bool := !(N l.2).testBit l.1
def hasW (N : Nat → Nat) (l : Lk) : Bool := (N l.1).testBit l.2
def sweepW : (Nat → Nat) → List Ch → List Ch → Option ((Nat → Nat) × List Ch)
  | N, [], left => some (N, left)
  | N, c :: cs, left =>
    if !mayW N c.1 && !mayW N c.2 then none
    else if hasW N c.1 || hasW N c.2 then sweepW N cs left
    else if mayW N c.1 && mayW N c.2 then sweepW N cs (left ++ [c])
    else if mayW N c.1 then sweepW (addW N c.1) cs left
    else sweepW (addW N c.2) cs left
def settleW : Nat → (Nat → Nat) → List Ch → Option ((Nat → Nat) × List Ch)
  | 0, N, cs => some (N, cs)
  | n + 1, N, cs => match sweepW N cs [] with
    | none => none
    | some (N', left) => if left.length = cs.length then some (N', left) else settleW n N' left
def chooseW : Nat → (Nat → Nat) → List Ch → Bool
  | 0, _, _ => false
  | n + 1, N, cs => match settleW (cs.length + 1) N cs with
    | none => false
    | some (_, []) => true
    | some (N', c :: left) => chooseW n (addW N' c.1) left || chooseW n (addW N' c.2) left

/-- All events of a choice are below a number. -/
def Low (m : Nat) (c : Ch) : Prop := (c.1.1 < m ∧ c.1.2 < m) ∧ c.2.1 < m ∧ c.2.2 < m
theorem may_eq {m : Nat} {N : Nat → Nat} {S : Bits} (h : Words m N S) {l : Lk} (h2 : l.2 < m) : mayW N l = mayAdd S l := by unfold mayW mayAdd; rw [h l.2 h2]
theorem has_eq {m : Nat} {N : Nat → Nat} {S : Bits} (h : Words m N S) {l : Lk} (h1 : l.1 < m) : hasW N l = hasL S l := by unfold hasW hasL; rw [h l.1 h1]
/-- What came of it is the same. -/
def SameW (m : Nat) : Option ((Nat → Nat) × List Ch) → Option (Bits × List Ch) → Prop
  | none, none => True
  | some (N, l), some (S, l') => Words m N S ∧ l = l'
  | _, _ => False
theorem sweep_eq {m : Nat} : ∀ (cs left : List Ch) (N : Nat → Nat) (S : Bits), Words m N S → (∀ c ∈ cs, Low m c) → SameW m (sweepW N cs left) (sweep S cs left) := by
  intro cs
  induction cs with
  | nil => intro left N S h _; exact ⟨h, rfl⟩
  | cons c cs ih =>
    intro left N S h hl
    have hc := hl c (by simp)
    have hr : ∀ c ∈ cs, Low m c := fun x hx => hl x (List.mem_cons_of_mem _ hx)
    rw [sweepW, sweep, may_eq h hc.1.2, may_eq h hc.2.2, has_eq h hc.1.1, has_eq h hc.2.1]
    split
    · trivial
    · split
      · exact ih _ _ _ h hr
      · split
        · exact ih _ _ _ h hr
        · split
          · exact ih _ _ _ (h.add hc.1.2) hr
          · exact ih _ _ _ (h.add hc.2.2) hr
/-- What is left is of what there was. -/
theorem sweepW_mem : ∀ (cs left : List Ch) (N N' : Nat → Nat) (l : List Ch), sweepW N cs left = some (N', l) → ∀ c ∈ l, c ∈ left ∨ c ∈ cs := by
  intro cs
  induction cs with
  | nil => intro left N N' l h c hc; rw [sweepW] at h; cases h; exact .inl hc
  | cons d cs ih =>
    intro left N N' l h c hc
    rw [sweepW] at h
    split at h
    · cases h
    · split at h
      · rcases ih _ _ _ _ h c hc with h1 | h1
        · exact .inl h1
        · exact .inr (List.mem_cons_of_mem _ h1)
      · split at h
        · rcases ih _ _ _ _ h c hc with h1 | h1
          · rcases List.mem_append.1 h1 with h2 | h2
            · exact .inl h2
            · have : c = d := by simpa using h2
              exact .inr (by rw [this]; simp)
          · exact .inr (List.mem_cons_of_mem _ h1)
        · split at h
          · rcases ih _ _ _ _ h c hc with h1 | h1
            · exact .inl h1
            · exact .inr (List.mem_cons_of_mem _ h1)
          · rcases ih _ _ _ _ h c hc with h1 | h1
            · exact .inl h1
            · exact .inr (List.mem_cons_of_mem _ h1)
theorem sweepW_len : ∀ (cs left : List Ch) (N N' : Nat → Nat) (l : List Ch), sweepW N cs left = some (N', l) → l.length ≤ left.length + cs.length := by
  intro cs
  induction cs with
  | nil => intro left N N' l h; rw [sweepW] at h; cases h; simp
  | cons d cs ih =>
    intro left N N' l h
    rw [sweepW] at h
    split at h
    · cases h
    · split at h
      · have := ih _ _ _ _ h; simp; omega
      · split at h
        · have := ih _ _ _ _ h; simp at this ⊢; omega
        · split at h
          · have := ih _ _ _ _ h; simp; omega
          · have := ih _ _ _ _ h; simp; omega
theorem settle_eq {m : Nat} : ∀ (n : Nat) (cs : List Ch) (N : Nat → Nat) (S : Bits), Words m N S → (∀ c ∈ cs, Low m c) → SameW m (settleW n N cs) (settle n S cs) := by
  intro n
  induction n with
  | zero => intro cs N S h _; exact ⟨h, rfl⟩
  | succ n ih =>
    intro cs N S h hl
    have hs := sweep_eq cs [] N S h hl
    rw [settleW, settle]
    cases h1 : sweepW N cs [] with
    | none =>
      rw [h1] at hs
      cases h2 : sweep S cs [] with
      | none => trivial
      | some x => rw [h2] at hs; exact hs.elim
    | some x =>
      obtain ⟨N', l⟩ := x
      rw [h1] at hs
      cases h2 : sweep S cs [] with
      | none => rw [h2] at hs; exact hs.elim
      | some y =>
        obtain ⟨S', l'⟩ := y
        rw [h2] at hs
        obtain ⟨hw, rfl⟩ := hs
        simp only
        split
        · exact ⟨hw, rfl⟩
        · exact ih _ _ _ hw (fun c hc => by
            rcases sweepW_mem cs [] N N' l h1 c hc with h3 | h3
            · cases h3
            · exact hl c h3)
theorem settleW_mem : ∀ (n : Nat) (cs : List Ch) (N N' : Nat → Nat) (l : List Ch), settleW n N cs = some (N', l) → (∀ c ∈ l, c ∈ cs) ∧ l.length ≤ cs.length := by
  intro n
  induction n with
  | zero => intro cs N N' l h; rw [settleW] at h; cases h; exact ⟨fun c hc => hc, Nat.le_refl _⟩
  | succ n ih =>
    intro cs N N' l h
    rw [settleW] at h
    cases h1 : sweepW N cs [] with
    | none => rw [h1] at h; cases h
    | some x =>
      obtain ⟨N1, l1⟩ := x
      rw [h1] at h
      have hm : ∀ c ∈ l1, c ∈ cs := fun c hc => by
        rcases sweepW_mem cs [] N N1 l1 h1 c hc with h3 | h3
        · cases h3
        · exact h3
      have hl := sweepW_len cs [] N N1 l1 h1
      simp only at h
      split at h
      · cases h; exact ⟨hm, by simpa using hl⟩
      · obtain ⟨k1, k2⟩ := ih _ _ _ _ h
        exact ⟨fun c hc => hm c (k1 c hc), by simp at hl; omega⟩
theorem choose_eq {m : Nat} : ∀ (n : Nat) (cs : List Ch) (N : Nat → Nat) (S : Bits), Words m N S → (∀ c ∈ cs, Low m c) → chooseW n N cs = choose n S cs := by
  intro n
  induction n with
  | zero => intro cs N S _ _; rfl
  | succ n ih =>
    intro cs N S h hl
    have hs := settle_eq (cs.length + 1) cs N S h hl
    rw [chooseW, choose]
    cases h1 : settleW (cs.length + 1) N cs with
    | none =>
      rw [h1] at hs
      cases h2 : settle (cs.length + 1) S cs with
      | none => rfl
      | some x => rw [h2] at hs; exact hs.elim
    | some x =>
      obtain ⟨N', l⟩ := x
      rw [h1] at hs
      cases h2 : settle (cs.length + 1) S cs with
      | none => rw [h2] at hs; exact hs.elim
      | some y =>
        obtain ⟨S', l'⟩ := y
        rw [h2] at hs
        obtain ⟨hw, rfl⟩ := hs
        obtain ⟨hm, _⟩ := settleW_mem _ _ _ _ _ h1
        cases l with
        | nil => rfl
        | cons c l =>
          have hc := hl c (hm c (by simp))
          have hr : ∀ x ∈ l, Low m x := fun x hx => hl x (hm x (List.mem_cons_of_mem _ hx))
          simp only
          rw [ih l _ _ (hw.add hc.1.2) hr, ih l _ _ (hw.add hc.2.2) hr]
/-- The words stay small. -/
theorem sweepW_lt : ∀ (cs left : List Ch) (N N' : Nat → Nat) (l : List Ch), (∀ a, N a < 4294967296) → (∀ c ∈ cs, Low 28 c) → sweepW N cs left = some (N', l) → ∀ a, N' a < 4294967296 := by
  intro cs
  induction cs with
  | nil => intro left N N' l hN _ h; rw [sweepW] at h; cases h; exact hN
  | cons d cs ih =>
    intro left N N' l hN hl h
    have hc := hl d (by simp)
    have hr : ∀ c ∈ cs, Low 28 c := fun x hx => hl x (List.mem_cons_of_mem _ hx)
    rw [sweepW] at h
    split at h
    · cases h
    · split at h
      · exact ih _ _ _ _ hN hr h
      · split at h
        · exact ih _ _ _ _ hN hr h
        · split at h
          · exact ih _ _ _ _ (addW_lt (k := 32) hN (by have := hc.1.2; omega)) hr h
          · exact ih _ _ _ _ (addW_lt (k := 32) hN (by have := hc.2.2; omega)) hr h
end M
end Go.Proofs.YtjpgpjjejbjldaaGreat
