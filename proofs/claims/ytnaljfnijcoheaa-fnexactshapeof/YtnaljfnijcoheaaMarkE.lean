/- Rows of threads that are marked, and whether the marks stand: laws.markDoSS, heldDoSS. Of at most 1048576 threads, each of at most 1048576 steps. -/
import Derived.Test.YtnaljfnijcoheaaMarkD
namespace Go.Proofs.Ytnaljfnijcoheaa
open Go.RowKit

/-- Where a thread's steps lie: its address, its block, how many, what it has room for. -/
structure Rq where
  a : Option Addr
  b : Nat
  n : Nat
  c : Nat

/-- Threads in rows of their own, whatever numbers stand there. -/
structure Rw (w : World) (a : Option Addr) (g : Nat) (rs : List Rq) : Prop where
  addr : 0 < rs.length → a = some ⟨g, 0, none⟩
  outer : ∀ i (h : i < rs.length), w.cell? ⟨g, i, none⟩ = some (.slice rs[i].a rs[i].n rs[i].c)
  at_ : ∀ i (h : i < rs.length), 0 < rs[i].n → rs[i].a = some ⟨rs[i].b, 0, none⟩
  fz : ∀ i (h : i < rs.length), 0 < rs[i].n → ∀ j, w.frozen? ⟨rs[i].b, j, none⟩ = false
  ints : ∀ i (h : i < rs.length) j, j < rs[i].n * 3 → ∃ x, w.cell? ⟨rs[i].b, j, none⟩ = some (.int .i64 x)
  ap : ∀ i j (hi : i < rs.length) (hj : j < rs.length), i ≠ j → 0 < rs[i].n → 0 < rs[j].n → rs[i].b ≠ rs[j].b

def totq : List Rq → Nat
  | [] => 0
  | r :: rs => r.n + totq rs
theorem totq_take (rs : List Rq) (n : Nat) (h : n < rs.length) : totq (rs.take (n + 1)) = totq (rs.take n) + rs[n].n := by
  have app : ∀ a b : List Rq, totq (a ++ b) = totq a + totq b := fun a b => by
    induction a with
    | nil => simp [totq]
    | cons x a ih => simp only [List.cons_append, totq, ih]; omega
  rw [List.take_succ_eq_append_getElem h, app]; simp [totq]
theorem totq_le {rs : List Rq} (h : ∀ r ∈ rs, r.n ≤ 1048576) : totq rs ≤ 1048576 * rs.length := by
  induction rs with
  | nil => simp [totq]
  | cons l ll ih =>
    have := h l (by simp)
    have := ih (fun x hx => h x (List.mem_cons_of_mem _ hx))
    simp only [totq, List.length_cons]
    omega

/-- The first m threads bear their marks. -/
def Mkd (w : World) (rs : List Rq) (m : Nat) : Prop := ∀ i (h : i < rs.length), i < m → ∀ j : Nat, j < rs[i].n * 3 → w.cell? ⟨rs[i].b, j, none⟩ = some (.int .i64 (1 + totq (rs.take i) * 3 + j))

def InR (rs : List Rq) (k : Nat) : Prop := ∃ i, ∃ h : i < rs.length, 0 < rs[i].n ∧ rs[i].b = k

theorem Rw.mk_ {P : Nat → Prop} {w w' : World} {a : Option Addr} {g : Nat} {rs : List Rq} (h : Rw w a g rs) (hm : Mk P w w') : Rw w' a g rs :=
  ⟨h.addr, fun i hi => hm.rest _ _ (h.outer i hi) (fun _ e => by cases e), h.at_, fun i hi hn j => (hm.fz _).trans (h.fz i hi hn j), fun i hi j hj => by obtain ⟨x, hx⟩ := h.ints i hi j hj; exact hm.ints _ x hx, h.ap⟩

set_option maxHeartbeats 1000000 in
theorem markDoSSv_any (a : Option Addr) (g c : Nat) (rs : List Rq) (w : World) (hl : rs.length ≤ 1048576) (hls : ∀ r ∈ rs, r.n ≤ 1048576) (h : Rw w a g rs) :
    Calls Try.prog 57 #[.slice a rs.length c, .int .i64 1] w fun e w' => e = .returned (.int .i64 (1 + totq rs * 3)) ∧ Mkd w' rs rs.length ∧ Mk (InR rs) w w' := by
  go_enter Try.func57, Try.ntmps57
  go_wp2_with fail
  go_loopw [1, 5] (fun s1 s5 wr => ∃ m : Nat, s1 = .int .i64 (1 + totq (rs.take m) * 3) ∧ s5 = .int .i64 m ∧ m ≤ rs.length ∧ Mkd wr rs m ∧ Mk (InR rs) w wr) (fun _ s5 _ => rs.length - (intOf s5).toNat)
  case atStart => exact ⟨0, by simp [totq], rfl, Nat.zero_le _, fun _ _ h => absurd h (Nat.not_lt_zero _), Mk.refl _ _⟩
  case round =>
    obtain ⟨m, rfl, rfl, hm, hd, hmk⟩ := hrel
    by_cases hlt : m < rs.length
    · have hr := h.mk_ hmk
      obtain ⟨rfl⟩ := h.addr (by omega)
      have hc := hr.outer m hlt
      have hle := hls _ (List.getElem_mem hlt)
      have HT : Hid (totq (rs.take (m + 1)) = totq (rs.take m) + rs[m].n) := totq_take rs m hlt
      have hb := totq_le (rs := rs.take m) (fun s hs => hls s (List.mem_of_mem_take hs))
      have hbl : (rs.take m).length ≤ 1048576 := by simp; omega
      have C := markDoSv_any rs[m].a rs[m].b 0 rs[m].n rs[m].c (1 + totq (rs.take m) * 3) wr hle (by omega) (by omega) (hr.at_ m hlt) (fun i hi => by rw [Nat.zero_add]; exact hr.ints m hlt i hi) (fun hn j => hr.fz m hlt hn j)
      have HF : Hid (∀ (w1 : World), (∀ i : Nat, i < rs[m].n * 3 → w1.cell? ⟨rs[m].b, 0 + i, none⟩ = some (.int .i64 (1 + totq (rs.take m) * 3 + i))) → Mk (fun j => j = rs[m].b ∧ 0 < rs[m].n) wr w1 → Mkd w1 rs (m + 1) ∧ Mk (InR rs) w w1) := by
        intro w1 hv mk1
        refine ⟨fun i hi him j hj => ?_, hmk.trans (mk1.mono (fun k hk => ⟨m, hlt, hk.2, hk.1.symm⟩))⟩
        by_cases e : i = m
        · subst e
          have := hv j hj
          rwa [Nat.zero_add] at this
        · rw [mk1.cell (p := ⟨rs[i].b, j, none⟩) (fun hk => hr.ap i m hi hlt e (by omega) hk.2 hk.1)]
          exact hd i hi (by omega) j hj
      obtain ⟨T, hT⟩ : ∃ T, totq (rs.take m) = T := ⟨_, rfl⟩
      have HT2 : Hid (totq (rs.take m) = T) := hT
      rw [hT] at hb C ⊢
      clear hT hr hd
      have i1 : (m : Int) < rs.length := by omega
      go_wp2_with fail
      refine C.mono ?_
      rintro e w1 ⟨rfl, hv, mk1⟩
      have hF := HF.out w1 (by rw [HT2.out]; exact hv) mk1
      clear hv
      go_wp2_with fail
      refine ⟨⟨m + 1, ?_, by go_num, by omega, hF.1, hF.2⟩, by simp [intOf]; omega⟩
      rw [HT.out, HT2.out]; congr 1; omega
    · obtain rfl : m = rs.length := by omega
      have hb := totq_le (rs := rs.take rs.length) (fun s hs => hls s (List.mem_of_mem_take hs))
      have hbl : (rs.take rs.length).length ≤ 1048576 := by simp; omega
      rw [List.take_length] at *
      go_wp2_with fail
      go_ret
      exact ⟨rfl, hd, hmk⟩

set_option maxHeartbeats 1000000 in
theorem heldDoSS_any (a : Option Addr) (g c : Nat) (rs : List Rq) (w : World) (hl : rs.length ≤ 1048576) (hls : ∀ r ∈ rs, r.n ≤ 1048576) (h : Rw w a g rs) (hd : Mkd w rs rs.length) :
    Calls Try.prog 65 #[.slice a rs.length c, .int .i64 1] w fun e w' => e = .returned (.int .i64 (1 + totq rs * 3)) ∧ w' = w := by
  go_enter Try.func65, Try.ntmps65
  go_wp2_with fail
  go_loopw [1, 5] (fun s1 s5 wr => ∃ m : Nat, s1 = .int .i64 (1 + totq (rs.take m) * 3) ∧ s5 = .int .i64 m ∧ m ≤ rs.length ∧ wr = w) (fun _ s5 _ => rs.length - (intOf s5).toNat)
  case atStart => exact ⟨0, by simp [totq], rfl, Nat.zero_le _, rfl⟩
  case round =>
    obtain ⟨m, rfl, rfl, hm, rfl⟩ := hrel
    by_cases hlt : m < rs.length
    · obtain ⟨rfl⟩ := h.addr (by omega)
      have hc := h.outer m hlt
      have hle := hls _ (List.getElem_mem hlt)
      have HT : Hid (totq (rs.take (m + 1)) = totq (rs.take m) + rs[m].n) := totq_take rs m hlt
      have hb := totq_le (rs := rs.take m) (fun s hs => hls s (List.mem_of_mem_take hs))
      have hbl : (rs.take m).length ≤ 1048576 := by simp; omega
      have C := heldDoS_any rs[m].a rs[m].b 0 rs[m].n rs[m].c (1 + totq (rs.take m) * 3) wr hle (by omega) (by omega) (h.at_ m hlt) (fun i hi => by rw [Nat.zero_add]; exact hd m hlt hlt i hi)
      obtain ⟨T, hT⟩ : ∃ T, totq (rs.take m) = T := ⟨_, rfl⟩
      have HT2 : Hid (totq (rs.take m) = T) := hT
      rw [hT] at hb C ⊢
      clear hT
      have i1 : (m : Int) < rs.length := by omega
      have i2 : ¬ (1 + (T : Int) * 3 + rs[m].n * 3 < 0) := by omega
      go_wp2_with fail
      refine C.mono ?_
      rintro e w1 ⟨rfl, rfl⟩
      go_wp2_with fail
      refine ⟨⟨m + 1, ?_, by go_num, by omega, trivial⟩, by simp [intOf]; omega⟩
      rw [HT.out, HT2.out]; congr 1; omega
    · obtain rfl : m = rs.length := by omega
      have hb := totq_le (rs := rs.take rs.length) (fun s hs => hls s (List.mem_of_mem_take hs))
      have hbl : (rs.take rs.length).length ≤ 1048576 := by simp; omega
      rw [List.take_length] at *
      go_wp2_with fail
      go_ret
      exact ⟨rfl, rfl⟩
end Go.Proofs.Ytnaljfnijcoheaa
